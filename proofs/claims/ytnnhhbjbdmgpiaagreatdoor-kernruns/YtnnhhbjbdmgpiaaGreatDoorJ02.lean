/- Texts of the proofs: MachW, IntsK, SameJ, MachS, WordR, WordW, InsK, SameC, KRdK, IdxW, SameM, RowG. -/
import Derived.Test.YtnnhhbjbdmgpiaaGreatDoorJ01
set_option linter.unusedSimpArgs false
set_option linter.unusedVariables false
namespace Go.Proofs.YtnnhhbjbdmgpiaaGreatDoor
set_option maxRecDepth 100000
set_option maxHeartbeats 4000000
open Lib (hid)
section
open Go.RowKit
def Wb(w:World)(g:Nat)(t:TypeId)(cs:List Value):Prop:=w.heap[g]?=some (.cells cs.toArray t (0,0))
section
variable {w w':World} {g:Nat} {t:TypeId} {cs:List Value}
theorem Wb.lt(h:Wb w g t cs):g<w.heap.size:=(Array.getElem?_eq_some_iff.1 h).1
theorem Wb.cell(h:Wb w g t cs)(i:Nat):w.cell? ⟨g,i,none⟩=cs[i]?:=by
 unfold Wb at h
 simp[World.cell?,h]
theorem Wb.open_(h:Wb w g t cs)(i:Nat):w.frozen? ⟨g,i,none⟩=false:=by
 unfold Wb at h
 simp[World.frozen?,h]
theorem JM{v0 v1:Value}(h:Wb w g t [v0,v1]):w.cell? ⟨g,0,none⟩=some v0∧w.cell? ⟨g,1,none⟩=some v1∧(∀i,w.frozen? ⟨g,i,none⟩=false)∧g<w.heap.size:=
 ⟨h.cell 0,h.cell 1,h.open_,h.lt⟩
theorem aS{v0 v1 v2:Value}(h:Wb w g t [v0,v1,v2]):w.cell? ⟨g,0,none⟩=some v0∧w.cell? ⟨g,1,none⟩=some v1∧w.cell? ⟨g,2,none⟩=some v2∧(∀i,w.frozen? ⟨g,i,none⟩=false)∧g<w.heap.size:=
 ⟨h.cell 0,h.cell 1,h.cell 2,h.open_,h.lt⟩
theorem yx{v0 v1 v2 v3:Value}(h:Wb w g t [v0,v1,v2,v3]):w.cell? ⟨g,0,none⟩=some v0∧w.cell? ⟨g,1,none⟩=some v1∧w.cell? ⟨g,2,none⟩=some v2∧w.cell? ⟨g,3,none⟩=some v3∧(∀i,w.frozen? ⟨g,i,none⟩=false)∧g<w.heap.size:=
 ⟨h.cell 0,h.cell 1,h.cell 2,h.cell 3,h.open_,h.lt⟩
theorem kY{v0 v1 v2 v3 v4:Value}(h:Wb w g t [v0,v1,v2,v3,v4]):w.cell? ⟨g,0,none⟩=some v0∧w.cell? ⟨g,1,none⟩=some v1∧w.cell? ⟨g,2,none⟩=some v2∧w.cell? ⟨g,3,none⟩=some v3∧w.cell? ⟨g,4,none⟩=some v4∧(∀i,w.frozen? ⟨g,i,none⟩=false)∧g<w.heap.size:=
 ⟨h.cell 0,h.cell 1,h.cell 2,h.cell 3,h.cell 4,h.open_,h.lt⟩
theorem yS{v0 v1 v2 v3 v4 v5:Value}(h:Wb w g t [v0,v1,v2,v3,v4,v5]):w.cell? ⟨g,0,none⟩=some v0∧w.cell? ⟨g,1,none⟩=some v1∧w.cell? ⟨g,2,none⟩=some v2∧w.cell? ⟨g,3,none⟩=some v3∧w.cell? ⟨g,4,none⟩=some v4∧w.cell? ⟨g,5,none⟩=some v5∧(∀i,w.frozen? ⟨g,i,none⟩=false)∧g<w.heap.size:=
 ⟨h.cell 0,h.cell 1,h.cell 2,h.cell 3,h.cell 4,h.cell 5,h.open_,h.lt⟩
theorem NH{v0 v1 v2 v3 v4 v5 v6 v7 v8 v9 v10:Value}(h:Wb w g t [v0,v1,v2,v3,v4,v5,v6,v7,v8,v9,v10]):w.cell? ⟨g,0,none⟩=some v0∧w.cell? ⟨g,1,none⟩=some v1∧w.cell? ⟨g,2,none⟩=some v2∧w.cell? ⟨g,3,none⟩=some v3∧w.cell? ⟨g,4,none⟩=some v4∧w.cell? ⟨g,5,none⟩=some v5∧w.cell? ⟨g,6,none⟩=some v6∧w.cell? ⟨g,7,none⟩=some v7∧w.cell? ⟨g,8,none⟩=some v8∧w.cell? ⟨g,9,none⟩=some v9∧w.cell? ⟨g,10,none⟩=some v10∧(∀i,w.frozen? ⟨g,i,none⟩=false)∧g<w.heap.size:=
 ⟨h.cell 0,h.cell 1,h.cell 2,h.cell 3,h.cell 4,h.cell 5,h.cell 6,h.cell 7,h.cell 8,h.cell 9,h.cell 10,h.open_,h.lt⟩
theorem Wb.new(w:World)(t:TypeId)(cs:List Value):Wb (w.alloc (.cells cs.toArray t)) w.heap.size t cs:=heap_alloc_new w _
theorem Wb.alloc(h:Wb w g t cs)(o:Obj):Wb (w.alloc o) g t cs:=(Below.heap_alloc w o g h.lt).trans h
theorem Wb.put(h:Wb w g t cs)(i:Nat)(u:Value):Wb (w.setCell ⟨g,i,none⟩ u) g t (cs.set i u):=by
 unfold Wb at h ⊢
 simp[World.setCell,Array.getElem?_modify,h]
theorem Wb.off_(h:Wb w g t cs){p:Addr}(hp:g≠p.block)(u:Value):Wb (w.setCell p u) g t cs:=(Below.heap_setCell w p u g hp).trans h
theorem Wb.below{B:Nat}(h:Wb w g t cs)(hb:Below B w w')(hg:g<B):Wb w' g t cs:=(hb.block g hg).trans h
theorem Wb.grown{row:Option Nat}(h:Wb w g t cs)(hb:w.grownBy w' row)(hg:row≠some g):Wb w' g t cs:=(hb.block g h.lt (Ne.symm hg)).trans h
theorem Wb.draw(h:Wb w g t cs)(n:Nat):Wb (w.drewN n) g t cs:=h
theorem Wb.other{g':Nat}{t':TypeId}{cs':List Value}(h:Wb w g t cs)(h':Wb w g' t' cs')(hne:t≠t'):g≠g':=by
 intro he
 subst he
 have h2:=Option.some.inj (Eq.trans (Eq.symm h) h')
 injection h2 with _ ht
 exact hne ht
theorem ax{base:Nat}{e:TypeId}{size n:Nat}{v:Value}{xs:List Value}(h:w.ownsRow base e size v n xs)(hg:Wb w g t cs)(hne:e≠t):v.ownBlock≠some g:=by
 rcases h.2 with ⟨rfl,_⟩|⟨g',cap,cur,rfl,_,hh,_⟩
 ·simp[Value.ownBlock]
 ·intro he
  simp[Value.ownBlock]at he
  subst he
  have h2:=Option.some.inj (Eq.trans (Eq.symm hh) hg)
  injection h2 with _ ht
  exact hne ht
theorem aj{base:Nat}{e:TypeId}{size n:Nat}{v:Value}{xs:List Value}(h:w.ownsRow base e size v n xs){p:Addr}(hp:v.ownBlock≠some p.block)(u:Value):(w.setCell p u).ownsRow base e size v n xs:=by
 refine⟨h.1,?_⟩
 rcases h.2 with h2|⟨g',cap,cur,rfl,hb,hh,r⟩
 ·exact .inl h2
 ·exact .inr ⟨g',cap,cur,rfl,hb,(Below.heap_setCell w p u g' (fun he=>hp (by simp[Value.ownBlock,he]))).trans hh,r⟩
theorem uI{base:Nat}{e:TypeId}{size n:Nat}{v:Value}{xs:List Value}(h:w.ownsRow base e size v n xs)(k:Nat):(w.drewN k).ownsRow base e size v n xs:=h
end
def Apart(a b:Value):Prop:=∀k,a.ownBlock=some k→b.ownBlock≠some k
theorem Apart.symm{a b:Value}(h:Apart a b):Apart b a:=fun k hb ha=>h k ha hb
theorem Apart.nil(b:Value):Apart (.slice none 0 0) b:=fun k h=>by cases h
theorem Apart.grown{w:World}{base:Nat}{e:TypeId}{size n:Nat}{a a' b:Value}{xs:List Value}(h:Apart a b)(hb:w.ownsRow base e size b n xs)(ha:a'.ownBlock=a.ownBlock∨∃k,a'.ownBlock=some k∧w.heap.size≤k):Apart a' b:=by
 intro k hk hbk
 rcases ha with ha|⟨j,hj,hle⟩
 ·exact h k (ha▸hk) hbk
 ·rw[hj]at hk
  cases hk
  have:=(hb.lt _ hbk).2
  omega
abbrev fD:TypeId:=3
def encZ(z:Int):List Value:=[.int .i64 z]
theorem dL(z:Int):(encZ z).length=1:=rfl
def Ints(w:World)(A:Option Addr)(l:List Int):Prop:=RdS 1 encZ w A l
theorem Ints.below{w w':World}{A:Option Addr}{l:List Int}(h:Ints w A l)(hb:Below w.heap.size w w'):Ints w' A l:=RdS.below h hb
theorem Wb.ints{w:World}{g:Nat}{t:TypeId}{l:List Int}(h:Wb w g t (l.map (Value.int .i64))):Ints w (some ⟨g,0,none⟩) l:=
 .inr ⟨g,0,rfl,h.lt,fun k z hz j v hv=>by
  cases j with
  | zero=>
    simp[encZ]at hv
    subst hv
    rw[h.cell,List.getElem?_map]
    simp[hz]
  | succ j=>simp[encZ]at hv⟩
theorem qX(l:List Int):l.map (Value.int .i64)=l.flatMap encZ:=by
 induction l with
 | nil=>rfl
 | cons x l ih=>simp[encZ,ih]
def Row(w:World)(base:Nat)(v:Value)(l:List Int):Prop:=w.ownsRow base fD 1 v l.length (l.map (Value.int .i64))
section
variable {w w':World} {base:Nat} {v:Value} {l:List Int}
theorem Row.form(h:Row w base v l):∃A cap,v = .slice A l.length cap:=aP h
theorem Row.ints{A:Option Addr}{cap:Nat}(h:Row w base (.slice A l.length cap) l):Ints w A l:=by
 unfold Row at h
 rw[qX]at h
 exact jm dL h
theorem Row.cells{A:Option Addr}{n cap:Nat}(h:Row w base (.slice A n cap) l)(hl:l≠[]):∃g,A=some ⟨g,0,none⟩∧base≤g∧g<w.heap.size∧(∀i,w.cell? ⟨g,i,none⟩=none∨w.frozen? ⟨g,i,none⟩=false)∧∀(i:Nat) (z:Int),l[i]?=some z→w.cell? ⟨g,i,none⟩=some (.int .i64 z):=by
 rcases h.2 with ⟨_,h0⟩|⟨g,cap',cur,hv,hb,hh,hn,hm,hs,ht⟩
 ·exact absurd (List.eq_nil_of_length_eq_zero h0) hl
 ·injection hv with hA _ _
  refine⟨g,hA,hb,(Array.getElem?_eq_some_iff.1 hh).1,fun i=>.inr (by simp[World.frozen?,hh]),fun i z hz=>?_⟩
  have h1:(l.map (Value.int .i64))[i]?=some (.int .i64 z):=by simp[hz]
  rw[← ht,List.getElem?_take]at h1
  split at h1
  ·simp only[World.cell?,hh]
   rw[← Array.getElem?_toList]
   exact h1
  ·cases h1
theorem Row.set{g cap i:Nat}{n:Nat}(h:Row w base (.slice (some ⟨g,0,none⟩) n cap) l)(z:Int):Row (w.setCell ⟨g,i,none⟩ (.int .i64 z)) base (.slice (some ⟨g,0,none⟩) n cap) (l.set i z):=by
 refine⟨by simp,?_⟩
 rcases h.2 with ⟨h0,_⟩|⟨g',cap',cur,hv,hb,hh,hn,hm,hs,ht⟩
 ·cases h0
 ·injection hv with hA hn' hc
  injection hA with hA
  injection hA with hA
  subst hA
  subst hn'
  refine .inr ⟨g,cap',cur.setIfInBounds i (.int .i64 z),by rw[hc,List.length_set],hb,?_,by simpa using hn,hm,by simpa using hs,?_⟩
  ·simp[World.setCell,Array.getElem?_modify,hh]
  ·rw[Array.toList_setIfInBounds,List.length_set,List.take_set,ht,List.map_set]
theorem Row.alloc(h:Row w base v l)(o:Obj):Row (w.alloc o) base v l:=World.ownsRow.alloc h o
theorem Row.below(h:Row w base v l)(hb:Below w.heap.size w w'):Row w' base v l:=own_below h hb
theorem Row.setCell(h:Row w base v l){p:Addr}(hp:v.ownBlock≠some p.block)(u:Value):Row (w.setCell p u) base v l:=aj h hp u
theorem Row.kept{row:Option Nat}(h:Row w base v l)(hg:w.grownBy w' row)(hne:∀k,v.ownBlock=some k→row≠some k):Row w' base v l:=by
 refine World.ownsRow.kept h hg ?_
 cases hv:v.ownBlock with
 | none=>exact .inl rfl
 | some k=>exact .inr (Ne.symm (hne k hv))
end
end
section
open Go.RowKit
theorem Ints.at_{w:World}{A:Option Addr}{l:List Int}(h:Ints w A l)(hl:l≠[]):∃b off,A=some ⟨b,off,none⟩∧b<w.heap.size∧∀(k:Nat) (z:Int),l[k]?=some z→w.cell? ⟨b,off+k,none⟩=some (.int .i64 z):=by
 rcases h with h|⟨b,off,hA,hb,hc⟩
 ·exact absurd h hl
 ·exact⟨b,off,hA,hb,fun k z hz=>by simpa using hc k z hz 0 _ rfl⟩
theorem Ci(l:List Int)(k:Nat)(z:Int)(hz:l[k]?=some z)(h:(l.take k).all Cf.aV=true)(hw:Cf.aV z=true):(l.take (k+1)).all Cf.aV=true:=by
 rw[List.take_add_one,hz,List.all_append,h];simp[hw]
theorem y5(l:List Int)(k:Nat)(z:Int)(hz:l[k]?=some z)(hw:Cf.aV z=false):l.all Cf.aV=false:=by
 rw[List.all_eq_false]
 exact⟨z,List.mem_of_getElem? hz,by simp[hw]⟩
end
section
open Go.RowKit
theorem o5(l:List Int)(A B:Option Addr)(ca cb:Nat)(w:World)(hA:Ints w A l)(hB:Ints w B l)(hm:l.length≤maxLen):
  Calls Tryz.prog 45 #[.slice A l.length ca,.slice B l.length cb] w fun e w'=>e = .returned (.bool true)∧Below w.heap.size w w':=by
 unfold maxLen at hm
 by_cases hl:l=[]
 ·subst hl
  go_enter Tryz.func45,Tryz.ntmps45
  go_wp2
  refine wp_loop_rounds 1 ?_
  rw[rounds_succ]
  go_wp2
  go_ret
  exact⟨rfl,Below.refl _ _⟩
 ·obtain⟨b1,o1,rfl,hb1,hc1⟩:=hA.at_ hl
  obtain⟨b2,o2,rfl,hb2,hc2⟩:=hB.at_ hl
  have H1:=hid hc1
  have H2:=hid hc2
  clear hc1 hc2
  go_enter Tryz.func45,Tryz.ntmps45
  go_wp2
  go_loopw [5] (fun i wr=>∃k m:Nat,k≤l.length∧i = .int .i64 k∧wr=w.drewN m) (fun i _=>l.length-(intOf i).toNat)
  case atStart=>exact⟨0,0,by omega,rfl,rfl⟩
  case round=>
   obtain⟨k,m,hk,rfl,rfl⟩:=hrel
   by_cases hlt:k<l.length
   ·obtain⟨z,hx⟩:∃z,l[k]?=some z:=⟨_,List.getElem?_eq_getElem hlt⟩
    have p0:=H1.out k z hx
    have q0:=H2.out k z hx
    clear hx
    go_wp2_with fail
    go_quiet (fail)
    go_wp2
    go_roundw
    case rel=>exact⟨k+1,_,by omega,by go_num,rfl⟩
    case measure=>simp[intOf];omega
   ·go_wp2
    go_ret
    exact⟨rfl,below_drewN (Below.refl _ _) m⟩
end
section
open Go.RowKit
def kK(l:List Nat):List Int:=l.map fun(b:Nat)=>(b:Int)
structure St(w:World)(base g:Nat)(t:TypeId)(cs:List Value)(mem told:List Int)(back:List Nat)(vm vt vr:Value):Prop where
 blk:Wb w g t cs
 lo:base≤g
 mem:Row w base vm mem
 told:Row w base vt told
 back:Row w base vr (kK back)
 mt:Apart vm vt
 mr:Apart vm vr
 tr:Apart vt vr
section
variable {w w':World} {base g:Nat} {t:TypeId} {cs:List Value} {mem told:List Int} {back:List Nat} {vm vt vr:Value}
theorem St.put(h:St w base g t cs mem told back vm vt vr)(ht:fD≠t)(i:Nat)(u:Value):St (w.setCell ⟨g,i,none⟩ u) base g t (cs.set i u) mem told back vm vt vr:=
 ⟨h.blk.put i u,h.lo,h.mem.setCell (p:=⟨g,i,none⟩) (ax h.mem h.blk ht) u,h.told.setCell (p:=⟨g,i,none⟩) (ax h.told h.blk ht) u,h.back.setCell (p:=⟨g,i,none⟩) (ax h.back h.blk ht) u,h.mt,h.mr,h.tr⟩
theorem St.alloc(h:St w base g t cs mem told back vm vt vr)(o:Obj):St (w.alloc o) base g t cs mem told back vm vt vr:=
 ⟨h.blk.alloc o,h.lo,h.mem.alloc o,h.told.alloc o,h.back.alloc o,h.mt,h.mr,h.tr⟩
theorem St.draw(h:St w base g t cs mem told back vm vt vr)(n:Nat):St (w.drewN n) base g t cs mem told back vm vt vr:=
 ⟨h.blk.draw n,h.lo,uI h.mem n,uI h.told n,uI h.back n,h.mt,h.mr,h.tr⟩
theorem St.far(h:St w base g t cs mem told back vm vt vr)(hb:Below w.heap.size w w'):St w' base g t cs mem told back vm vt vr:=
 ⟨h.blk.below hb h.blk.lt,h.lo,h.mem.below hb,h.told.below hb,h.back.below hb,h.mt,h.mr,h.tr⟩
theorem St.memSet{gm n cap i:Nat}(h:St w base g t cs mem told back (.slice (some ⟨gm,0,none⟩) n cap) vt vr)(ht:fD≠t)(z:Int):
  St (w.setCell ⟨gm,i,none⟩ (.int .i64 z)) base g t cs (mem.set i z) told back (.slice (some ⟨gm,0,none⟩) n cap) vt vr:=by
 have hg:g≠gm:=fun he=>ax h.mem h.blk ht (by simp[Value.ownBlock,he])
 exact⟨h.blk.off_ (p:=⟨gm,i,none⟩) hg _,h.lo,h.mem.set z,h.told.setCell (p:=⟨gm,i,none⟩) (h.mt gm rfl) _,h.back.setCell (p:=⟨gm,i,none⟩) (h.mr gm rfl) _,h.mt,h.mr,h.tr⟩
theorem St.tell(h:St w base g t cs mem told back vm vt vr)(ht:fD≠t){vt':Value}{told':List Int}(hr:Row w' base vt' told')(hg:w.grownBy w' vt.ownBlock)(ha:vt'.ownBlock=vt.ownBlock∨∃k,vt'.ownBlock=some k∧w.heap.size≤k):
  St w' base g t cs mem told' back vm vt' vr:=
 ⟨h.blk.grown hg (ax h.told h.blk ht),h.lo,h.mem.kept hg (fun k hk=>h.mt k hk),hr,h.back.kept hg (fun k hk he=>h.tr k he hk),((h.mt.symm).grown h.mem ha).symm,h.mr,h.tr.grown h.back ha⟩
theorem St.call(h:St w base g t cs mem told back vm vt vr)(ht:fD≠t){vr':Value}{back':List Nat}(hr:Row w' base vr' (kK back'))(hg:w.grownBy w' vr.ownBlock)(ha:vr'.ownBlock=vr.ownBlock∨∃k,vr'.ownBlock=some k∧w.heap.size≤k):
  St w' base g t cs mem told back' vm vt vr':=
 ⟨h.blk.grown hg (ax h.back h.blk ht),h.lo,h.mem.kept hg (fun k hk=>h.mr k hk),h.told.kept hg (fun k hk=>h.tr k hk),hr,h.mt,((h.mr.symm).grown h.mem ha).symm,((h.tr.symm).grown h.told ha).symm⟩
theorem jE(l:List Nat):(kK l).length=l.length:=by simp[kK]
theorem Row.pop{A:Option Addr}{n cap:Nat}(h:Row w base (.slice A n cap) (kK back))(hb:back≠[])(hn:back.length=n):Row w base (.slice A (n-1) cap) (kK back.dropLast):=by
 refine⟨by simp,?_⟩
 rcases h.2 with ⟨_,h0⟩|⟨g,cap',cur,hv,hlo,hh,hnc,hm,hs,ht⟩
 ·exact absurd (List.eq_nil_of_length_eq_zero (by simpa [kK] using h0)) hb
 ·injection hv with hA hn' hc
  have hl:(kK back.dropLast).length=n-1:=by simp[kK,hn]
  rw[jE]at hnc ht
  refine .inr ⟨g,cap',cur,by rw[hA,hc,hl],hlo,hh,by rw[hl];omega,hm,hs,?_⟩
  have h2:=congrArg (List.take (n-1)) ht
  rw[List.take_take,Nat.min_eq_left (by omega)]at h2
  rw[hl,Nat.mul_one,h2,← List.map_take]
  congr 1
  unfold kK
  rw[← List.map_take,List.dropLast_eq_take,hn]
theorem St.pop{A:Option Addr}{n cap:Nat}(h:St w base g t cs mem told back vm vt (.slice A n cap))(hb:back≠[])(hn:back.length=n):St w base g t cs mem told back.dropLast vm vt (.slice A (n-1) cap):=by
 have ho:(Value.slice A (n-1) cap).ownBlock=(Value.slice A n cap).ownBlock:=by cases A<;>rfl
 refine⟨h.blk,h.lo,h.mem,h.told,h.back.pop hb hn,h.mt,fun k hk=>?_,fun k hk=>?_⟩
 ·rw[ho];exact h.mr k hk
 ·rw[ho];exact h.tr k hk
end
def nC(A:Option Addr)(n cp:Nat)(regs:List Int)(tl:List Value):List Value:=.slice A n cp :: (regs.map (Value.int .i64)++tl)
abbrev tJ(A:Option Addr)(n cp:Nat)(regs:List Int)(vm vt vr:Value)(pc fuel:Int):List Value:=nC A n cp regs [vm,vt,vr,.int .i64 pc,.int .i64 fuel]
section
variable {A:Option Addr} {n cp:Nat} {regs:List Int} {tl:List Value}
theorem gX(hr:regs.length=8)(i:Nat)(hi:i<8):(nC A n cp regs tl)[1+i]?=some (.int .i64 (regs.getD i 0)):=by
 unfold nC
 rw[Nat.add_comm,List.getElem?_cons_succ,List.getElem?_append_left (by simp;omega),List.getElem?_map,List.getD_eq_getElem?_getD,List.getElem?_eq_getElem (by omega)]
 rfl
theorem dQ(hr:regs.length=8)(i:Nat):(nC A n cp regs tl)[9+i]?=tl[i]?:=by
 unfold nC
 rw[show 9+i=(8+i)+1 by omega,List.getElem?_cons_succ,List.getElem?_append_right (by simp;omega)]
 simp[hr]
theorem Dz(hr:regs.length=8)(i:Nat)(hi:i<8)(z:Int):(nC A n cp regs tl).set (1+i) (.int .i64 z)=nC A n cp (regs.set i z) tl:=by
 unfold nC
 rw[Nat.add_comm,List.set_cons_succ,List.set_append_left _ _ (by simp;omega),List.map_set]
theorem jS(hr:regs.length=8)(i:Nat)(u:Value):(nC A n cp regs tl).set (9+i) u=nC A n cp regs (tl.set i u):=by
 unfold nC
 rw[show 9+i=(8+i)+1 by omega,List.set_cons_succ,List.set_append_right _ _ (by simp;omega)]
 simp[hr]
end
theorem aY:fD≠194:=by decide
def PM(w:World)(base g:Nat)(A:Option Addr)(n cp:Nat)(m:Cf.aZ)(fuel:Int):Prop:=
 ∃vm vt vr,St w base g 194 (tJ A n cp m.regs vm vt vr m.pc fuel) m.mem m.told m.back vm vt vr
def Cf.Step.code:Cf.Step→Int
 | .on _=>0
 | .fin r _=>r
def Cf.Step.mach:Cf.Step→Cf.aZ
 | .on m=>m
 | .fin _ m=>m
def dw(s:Cf.Step)(base g:Nat)(A:Option Addr)(n cp:Nat)(fuel:Int)(w:World)(e:Ending)(w':World):Prop:=
 e = .returned (.int .i64 s.code)∧PM w' base g A n cp s.mach fuel∧Below base w w'
end
section
open Go.RowKit
theorem pF(v:Int)(w:World):
  Calls Tryz.prog 118 #[.int .i64 v] w fun e w'=>e = .returned (.bool (Cf.aV v))∧w=w':=by
 go_enter Tryz.func118,Tryz.ntmps118
 go_wp2_with fail
 refine(dY v 0 65535 _).mono ?_
 rintro e w1 ⟨rfl,rfl⟩
 go_wp2
 go_ret
 exact⟨rfl,rfl⟩
theorem iP(l:List Int)(A:Option Addr)(cap:Nat)(w:World)(hI:Ints w A l)(hm:l.length≤maxLen):
  Calls Tryz.prog 73 #[.slice A l.length cap] w fun e w'=>e = .returned (.bool (l.all Cf.aV))∧w=w':=by
 unfold maxLen at hm
 by_cases hl:l=[]
 ·subst hl
  go_enter Tryz.func73,Tryz.ntmps73
  go_wp2
  refine wp_loop_rounds 1 ?_
  rw[rounds_succ]
  go_wp2
  go_ret
  exact⟨rfl,rfl⟩
 ·obtain⟨b,off,rfl,hb,hc⟩:=hI.at_ hl
  have Hc:=hid hc
  clear hc
  go_enter Tryz.func73,Tryz.ntmps73
  go_wp2
  go_loop [3] (fun i=>∃k:Nat,k≤l.length∧i = .int .i64 k∧(l.take k).all Cf.aV=true) (fun i=>l.length-(intOf i).toNat)
  case atStart=>exact⟨0,by omega,rfl,rfl⟩
  case round=>
   obtain⟨k,hk,rfl,hall⟩:=hrel
   have aX:=hid hall
   clear hall
   by_cases hlt:k<l.length
   ·obtain⟨z,hz⟩:∃z,l[k]?=some z:=⟨_,List.getElem?_eq_getElem hlt⟩
    have c:=Hc.out k z hz
    have Hz:=hid hz
    clear hz
    cases hw:Cf.aV z
    ·have HB:=hid (y5 l k z Hz.out hw)
     go_wp2_with fail
     refine(pF z _).mono ?_
     rintro e w1 ⟨rfl,rfl⟩
     rw[hw]
     go_wp2
     go_ret
     exact⟨by rw[HB.out];rfl,rfl⟩
    ·have HA:=hid (Ci l k z Hz.out aX.out hw)
     go_wp2_with fail
     refine(pF z _).mono ?_
     rintro e w1 ⟨rfl,rfl⟩
     rw[hw]
     go_wp2
     go_round
     case rel=>exact⟨k+1,by omega,by go_num,HA.out⟩
     case measure=>simp[intOf];omega
   ·have HA:=hid (show l.all Cf.aV=true by have:=aX.out;rwa [List.take_of_length_le (by omega)]at this)
    go_wp2
    go_ret
    exact⟨by rw[HA.out];rfl,rfl⟩
end
section
open Go.RowKit
theorem tC(v:Int)(w:World):
  Calls Tryz.prog 120 #[.int .i64 v] w fun e w'=>e = .returned (.bool (!Cf.aV v))∧w=w':=by
 by_cases h1:v<0
 ·go_enter Tryz.func120,Tryz.ntmps120
  go_wp2
  go_ret
  exact⟨by simp[Cf.aV,Cf.inB,h1],rfl⟩
 ·by_cases h2:65535<v
  ·go_enter Tryz.func120,Tryz.ntmps120
   go_wp2
   go_ret
   exact⟨by simp[Cf.aV,Cf.inB,h2],rfl⟩
  ·go_enter Tryz.func120,Tryz.ntmps120
   go_wp2
   go_ret
   exact⟨by simp[Cf.aV,Cf.inB,h1,h2],rfl⟩
def IV(l:List Int)(w:World)(e:Ending)(w':World):Prop:=∃z:Int,e = .returned (.int .i64 z)∧decide (0≤z) = !l.all Cf.aV∧w=w'
theorem uw(l:List Int)(A:Option Addr)(cap:Nat)(w:World)(hI:Ints w A l)(hm:l.length≤maxLen):
  Calls Tryz.prog 86 #[.slice A l.length cap,.func (.func 120) #[] #[]] w (IV l w):=by
 unfold maxLen at hm
 by_cases hl:l=[]
 ·subst hl
  go_enter Tryz.func86,Tryz.ntmps86
  go_wp2
  refine wp_loop_rounds 1 ?_
  rw[rounds_succ]
  go_wp2
  go_ret
  exact⟨-1,rfl,rfl,rfl⟩
 ·obtain⟨b,off,rfl,hb,hc⟩:=hI.at_ hl
  have Hc:=hid hc
  clear hc
  go_enter Tryz.func86,Tryz.ntmps86
  go_wp2
  go_loop [8] (fun i=>∃k:Nat,k≤l.length∧i = .int .i64 k∧(l.take k).all Cf.aV=true) (fun i=>l.length-(intOf i).toNat)
  case atStart=>exact⟨0,by omega,rfl,rfl⟩
  case round=>
   obtain⟨k,hk,rfl,hall⟩:=hrel
   have aX:=hid hall
   clear hall
   by_cases hlt:k<l.length
   ·obtain⟨z,hz⟩:∃z,l[k]?=some z:=⟨_,List.getElem?_eq_getElem hlt⟩
    have c:=Hc.out k z hz
    have Hz:=hid hz
    clear hz
    cases hw:Cf.aV z
    ·have HB:=hid (y5 l k z Hz.out hw)
     go_wp2_with fail
     refine(tC z _).mono ?_
     rintro e w1 ⟨rfl,rfl⟩
     rw[hw]
     go_wp2
     go_ret
     exact⟨k,rfl,by rw[HB.out];simp,rfl⟩
    ·have HA:=hid (Ci l k z Hz.out aX.out hw)
     go_wp2_with fail
     refine(tC z _).mono ?_
     rintro e w1 ⟨rfl,rfl⟩
     rw[hw]
     go_wp2
     go_round
     case rel=>exact⟨k+1,by omega,by go_num,HA.out⟩
     case measure=>simp[intOf];omega
   ·have HA:=hid (show l.all Cf.aV=true by have:=aX.out;rwa [List.take_of_length_le (by omega)]at this)
    go_wp2
    go_ret
    exact⟨-1,rfl,by rw[HA.out];rfl,rfl⟩
theorem qy(l:List Int)(A:Option Addr)(cap:Nat)(w:World)(hI:Ints w A l)(hm:l.length≤maxLen):
  Calls Tryz.prog 53 #[.slice A l.length cap,.func (.func 120) #[] #[]] w fun e w'=>e = .returned (.bool (!l.all Cf.aV))∧w=w':=by
 have H:=hid (uw l A cap w hI hm)
 go_enter Tryz.func53,Tryz.ntmps53
 go_wp2_with fail
 refine H.out.mono ?_
 rintro e w1 ⟨z,rfl,hz,rfl⟩
 have HZ:=hid hz
 clear hz
 go_wp2
 go_ret
 exact⟨by rw[← HZ.out];rfl,rfl⟩
end
section
open Go.RowKit
theorem uk:(Tryz.prog.info? 121).map (fun i=>(i.zero,i.size,i.bytes))=some (some (.agg #[.int .i64 0,.int .i64 0,.int .i64 0,.int .i64 0]),4,32):=by kernel_rfl
theorem bP.at_{w:World}{A:Option Addr}{l:List Cf.Ins}(h:bP w A l)(hl:l≠[]):∃b off,A=some ⟨b,off,none⟩∧b<w.heap.size∧∀(k:Nat) (op a b' c:Int),l[k]?=some ⟨op,a,b',c⟩ →
  w.cell? ⟨b,off+k*4,none⟩=some (.int .i64 op)∧w.cell? ⟨b,off+k*4+1,none⟩=some (.int .i64 a)∧w.cell? ⟨b,off+k*4+2,none⟩=some (.int .i64 b')∧w.cell? ⟨b,off+k*4+3,none⟩=some (.int .i64 c):=by
 rcases h with h|⟨b,off,hA,hb,hc⟩
 ·exact absurd h hl
 ·exact⟨b,off,hA,hb,fun k op a b' c hx=>⟨hc k _ hx 0 _ rfl,hc k _ hx 1 _ rfl,hc k _ hx 2 _ rfl,hc k _ hx 3 _ rfl⟩⟩
end
section
open Go.RowKit
theorem wW(l:List Cf.Ins)(A B:Option Addr)(ca cb:Nat)(w:World)(hA:bP w A l)(hB:bP w B l)(hm:l.length≤maxLen):
  Calls Tryz.prog 83 #[.slice A l.length ca,.slice B l.length cb] w fun e w'=>e = .returned (.bool true)∧Below w.heap.size w w':=by
 unfold maxLen at hm
 by_cases hl:l=[]
 ·subst hl
  go_enter Tryz.func83,Tryz.ntmps83
  go_wp2
  refine wp_loop_rounds 1 ?_
  rw[rounds_succ]
  go_wp2
  go_ret
  exact⟨rfl,Below.refl _ _⟩
 ·obtain⟨b1,o1,rfl,hb1,hc1⟩:=hA.at_ hl
  obtain⟨b2,o2,rfl,hb2,hc2⟩:=hB.at_ hl
  have H1:=hid hc1
  have H2:=hid hc2
  clear hc1 hc2
  go_enter Tryz.func83,Tryz.ntmps83
  go_wp2
  go_loopw [5] (fun i wr=>∃k m:Nat,k≤l.length∧i = .int .i64 k∧wr=w.drewN m) (fun i _=>l.length-(intOf i).toNat)
  case atStart=>exact⟨0,0,by omega,rfl,rfl⟩
  case round=>
   obtain⟨k,m,hk,rfl,rfl⟩:=hrel
   by_cases hlt:k<l.length
   ·obtain⟨op,a,b',c',hx⟩:∃op a b' c',l[k]?=some ⟨op,a,b',c'⟩:=⟨_,_,_,_,List.getElem?_eq_getElem hlt⟩
    obtain⟨p0,p1,p2,p3⟩:=H1.out k op a b' c' hx
    obtain⟨q0,q1,q2,q3⟩:=H2.out k op a b' c' hx
    clear hx
    go_wp2_with fail
    go_quiet (fail)
    go_wp2
    go_roundw
    case rel=>exact⟨k+1,_,by omega,by go_num,rfl⟩
    case measure=>simp[intOf];omega
   ·go_wp2
    go_ret
    exact⟨rfl,below_drewN (Below.refl _ _) m⟩
end
section
open Go.RowKit
structure MV where
 name:List UInt8
 A:Option Addr
 lc:Nat
 ca:Nat
 B:Option Addr
 ld:Nat
 cb:Nat
structure PV where
 live:Bool
 A:Option Addr
 le:Nat
 ce:Nat
def dA(x:Cf.Node):List Value:=[.string ⟨x.name.toArray⟩,.int .i64 x.kind,.string ⟨x.data.toArray⟩,.int .i64 x.unit]
def bH(x:Cf.End):List Value:=[.int .i64 x.kind,.int .i64 x.node,.int .i64 x.pos]
def iC(x:List UInt8):List Value:=[.string ⟨x.toArray⟩]
def eG(x:MV):List Value:=[.string ⟨x.name.toArray⟩,.slice x.A x.lc x.ca,.slice x.B x.ld x.cb]
def bG(x:PV):List Value:=[.bool x.live,.slice x.A x.le x.ce]
theorem oK(x:Cf.Node):(dA x).length=4:=rfl
theorem jU(x:Cf.End):(bH x).length=3:=rfl
theorem oI(x:List UInt8):(iC x).length=1:=rfl
theorem iT(x:MV):(eG x).length=3:=rfl
theorem jw(x:PV):(bG x).length=2:=rfl
abbrev Ed(w:World)(A:Option Addr)(l:List Cf.Node):Prop:=RdS 4 dA w A l
abbrev Ends(w:World)(A:Option Addr)(l:List Cf.End):Prop:=RdS 3 bH w A l
abbrev Strs(w:World)(A:Option Addr)(l:List (List UInt8)):Prop:=RdS 1 iC w A l
def IsM(w:World)(x:MV)(m:Cf.Mod):Prop:=x.name=m.name∧x.lc=m.code.length∧x.ld=m.data.length∧bP w x.A m.code∧Ints w x.B m.data
def IsP(w:World)(x:PV)(p:Cf.dR):Prop:=x.live=p.live∧x.le=p.ends.length∧Ends w x.A p.ends
def Each{α β:Type}(R:α→β→Prop)(xs:List α)(ys:List β):Prop:=xs.length=ys.length∧∀(i:Nat) (x:α) (y:β),xs[i]?=some x→ys[i]?=some y→R x y
theorem Each.mono{α β:Type}{R S:α→β→Prop}{xs:List α}{ys:List β}(h:Each R xs ys)(hRS:∀x y,R x y→S x y):Each S xs ys:=⟨h.1,fun i x y hx hy=>hRS x y (h.2 i x y hx hy)⟩
theorem Each.nil{α β:Type}{R:α→β→Prop}:Each R [] []:=⟨rfl,fun i x y hx=>by simp at hx⟩
theorem Each.snoc{α β:Type}{R:α→β→Prop}{xs:List α}{ys:List β}(h:Each R xs ys){x:α}{y:β}(hr:R x y):Each R (xs++[x]) (ys++[y]):=by
 refine⟨by simp[h.1],fun i a b ha hb=>?_⟩
 rw[List.getElem?_append]at ha hb
 rw[h.1]at ha
 split at ha
 ·rename_i hi
  rw[if_pos hi]at hb
  exact h.2 i a b ha hb
 ·rename_i hi
  rw[if_neg hi]at hb
  have h0:i-ys.length=0:=by
   rcases Nat.eq_zero_or_pos (i-ys.length) with h|h
   ·exact h
   ·rw[List.getElem?_eq_none (by simp;omega)]at ha;cases ha
  rw[h0]at ha hb
  simp at ha hb
  subst ha hb
  exact hr
theorem Each.set{α β:Type}{R:α→β→Prop}{xs:List α}{ys:List β}(h:Each R xs ys)(k:Nat){x:α}{y:β}(hr:R x y):Each R (xs.set k x) (ys.set k y):=by
 refine⟨by simp[h.1],fun i a b ha hb=>?_⟩
 rw[List.getElem?_set]at ha hb
 split at ha
 ·rename_i hi
  rw[if_pos hi]at hb
  split at ha
  ·split at hb
   ·simp at ha hb
    subst ha hb
    exact hr
   ·cases hb
  ·cases ha
 ·rename_i hi
  rw[if_neg hi]at hb
  exact h.2 i a b ha hb
def J5(w:World)(A:Option Addr)(l:List Cf.Mod):Prop:=∃xs,RdS 3 eG w A xs∧Each (IsM w) xs l
def DK(w:World)(A:Option Addr)(l:List Cf.dR):Prop:=∃xs,RdS 2 bG w A xs∧Each (IsP w) xs l
theorem IsM.below{w w':World}{x:MV}{m:Cf.Mod}(h:IsM w x m)(hb:Below w.heap.size w w'):IsM w' x m:=⟨h.1,h.2.1,h.2.2.1,h.2.2.2.1.below hb,h.2.2.2.2.below hb⟩
theorem IsP.below{w w':World}{x:PV}{m:Cf.dR}(h:IsP w x m)(hb:Below w.heap.size w w'):IsP w' x m:=⟨h.1,h.2.1,h.2.2.below hb⟩
theorem J5.below{w w':World}{A:Option Addr}{l:List Cf.Mod}(h:J5 w A l)(hb:Below w.heap.size w w'):J5 w' A l:=by
 obtain⟨xs,h1,h2⟩:=h
 exact⟨xs,h1.below hb,h2.mono fun _ _ h=>h.below hb⟩
theorem DK.below{w w':World}{A:Option Addr}{l:List Cf.dR}(h:DK w A l)(hb:Below w.heap.size w w'):DK w' A l:=by
 obtain⟨xs,h1,h2⟩:=h
 exact⟨xs,h1.below hb,h2.mono fun _ _ h=>h.below hb⟩
structure KA where
 A:Option Addr
 ca:Nat
 M:Option Addr
 cm:Nat
 N:Option Addr
 cn:Nat
 S:Option Addr
 cs:Nat
 Q:Option Addr
 cq:Nat
def af(a:KA)(k:Cf.ag):List Value:=[.slice a.A k.mods.length a.ca,.slice a.M k.mem.length a.cm,.slice a.N k.nodes.length a.cn,.slice a.S k.pipes.length a.cs,.slice a.Q k.procs.length a.cq]
structure KRd(w:World)(a:KA)(k:Cf.ag):Prop where
 mods:J5 w a.A k.mods
 mem:Ints w a.M k.mem
 nodes:Ed w a.N k.nodes
 pipes:Strs w a.S k.pipes
 procs:DK w a.Q k.procs
 capA:k.mods.length≤a.ca
theorem KRd.below{w w':World}{a:KA}{k:Cf.ag}(h:KRd w a k)(hb:Below w.heap.size w w'):KRd w' a k:=
 ⟨h.mods.below hb,RdS.below h.mem hb,RdS.below h.nodes hb,RdS.below h.pipes hb,h.procs.below hb,h.capA⟩
structure kW(B:Nat)(w:World)(a:KA)(k:Cf.ag):Prop where
 mods:∃xs,(RdS 3 eG w a.A xs∧dN B a.A xs)∧Each (fun x m=>IsM w x m∧dN B x.A m.code∧dN B x.B m.data) xs k.mods
 mem:Ints w a.M k.mem∧dN B a.M k.mem
 nodes:Ed w a.N k.nodes∧dN B a.N k.nodes
 pipes:Strs w a.S k.pipes∧dN B a.S k.pipes
 procs:∃xs,(RdS 2 bG w a.Q xs∧dN B a.Q xs)∧Each (fun x p=>IsP w x p∧dN B x.A p.ends) xs k.procs
 capA:k.mods.length≤a.ca
 capM:k.mem.length≤a.cm
theorem kW.rd{B:Nat}{w:World}{a:KA}{k:Cf.ag}(h:kW B w a k):KRd w a k:=by
 obtain⟨xs,h1,h2⟩:=h.mods
 obtain⟨ys,h3,h4⟩:=h.procs
 exact⟨⟨xs,h1.1,h2.mono fun _ _ h=>h.1⟩,h.mem.1,h.nodes.1,h.pipes.1,⟨ys,h3.1,h4.mono fun _ _ h=>h.1⟩,h.capA⟩
theorem kW.below{B:Nat}{w w':World}{a:KA}{k:Cf.ag}(h:kW B w a k)(hb:Below w.heap.size w w'):kW B w' a k:=by
 obtain⟨xs,h1,h2⟩:=h.mods
 obtain⟨ys,h3,h4⟩:=h.procs
 exact⟨⟨xs,⟨h1.1.below hb,h1.2⟩,h2.mono fun _ _ h=>⟨h.1.below hb,h.2⟩⟩,⟨RdS.below h.mem.1 hb,h.mem.2⟩,⟨RdS.below h.nodes.1 hb,h.nodes.2⟩,⟨RdS.below h.pipes.1 hb,h.pipes.2⟩,⟨ys,⟨h3.1.below hb,h3.2⟩,h4.mono fun _ _ h=>⟨h.1.below hb,h.2⟩⟩,h.capA,h.capM⟩
theorem kW.mono{B B':Nat}{w:World}{a:KA}{k:Cf.ag}(h:kW B w a k)(hB:B'≤B):kW B' w a k:=by
 obtain⟨xs,h1,h2⟩:=h.mods
 obtain⟨ys,h3,h4⟩:=h.procs
 exact⟨⟨xs,⟨h1.1,h1.2.mono hB⟩,h2.mono fun _ _ h=>⟨h.1,h.2.1.mono hB,h.2.2.mono hB⟩⟩,⟨h.mem.1,h.mem.2.mono hB⟩,⟨h.nodes.1,h.nodes.2.mono hB⟩,⟨h.pipes.1,h.pipes.2.mono hB⟩,⟨ys,⟨h3.1,h3.2.mono hB⟩,h4.mono fun _ _ h=>⟨h.1,h.2.mono hB⟩⟩,h.capA,h.capM⟩
theorem kW.set{B:Nat}{w:World}{a:KA}{k:Cf.ag}(h:kW B w a k){p:Addr}(hp:p.block<B)(u:Value):kW B (w.setCell p u) a k:=by
 obtain⟨xs,h1,h2⟩:=h.mods
 obtain⟨ys,h3,h4⟩:=h.procs
 exact⟨⟨xs,⟨bF h1.1 h1.2 hp u,h1.2⟩,h2.mono fun _ _ h=>⟨⟨h.1.1,h.1.2.1,h.1.2.2.1,bF h.1.2.2.2.1 h.2.1 hp u,bF h.1.2.2.2.2 h.2.2 hp u⟩,h.2⟩⟩,⟨bF h.mem.1 h.mem.2 hp u,h.mem.2⟩,⟨bF h.nodes.1 h.nodes.2 hp u,h.nodes.2⟩,⟨bF h.pipes.1 h.pipes.2 hp u,h.pipes.2⟩,
  ⟨ys,⟨bF h3.1 h3.2 hp u,h3.2⟩,h4.mono fun _ _ h=>⟨⟨h.1.1,h.1.2.1,bF h.1.2.2 h.2 hp u⟩,h.2⟩⟩,h.capA,h.capM⟩
def MO(k:Cf.ag)(w:World)(e:Ending)(w':World):Prop:=∃a:KA,e = .returned (.agg (af a k).toArray)∧kW w.heap.size w' a k∧Below w.heap.size w w'
def big:Nat:=140737488355328
structure kU(k:Cf.ag):Prop where
 mods:k.mods.length≤big
 each:∀m∈k.mods,m.name.length≤big∧m.code.length≤big∧m.data.length≤big
 mem:k.mem.length≤big
 nodes:k.nodes.length≤big
 node:∀n∈k.nodes,n.name.length≤big∧n.data.length≤big
 pipes:k.pipes.length≤big
 pipe:∀s∈k.pipes,s.length≤big
 procs:k.procs.length≤big
 proc:∀p∈k.procs,p.ends.length≤big
 wt:(k.mods.length*64≤big∧k.mem.length*8≤big∧k.nodes.length*48≤big∧k.pipes.length*16≤big∧k.procs.length*32≤big)∧(∀m∈k.mods,m.code.length*32≤big∧m.data.length*8≤big)∧∀p∈k.procs,p.ends.length*24≤big
abbrev ae:TypeId:=28
def jc(w:World)(g:Nat)(a:KA)(k:Cf.ag):Prop:=Wb w g ae (af a k)∧KRd w a k
theorem jc.below{w w':World}{g:Nat}{a:KA}{k:Cf.ag}(h:jc w g a k)(hb:Below w.heap.size w w'):jc w' g a k:=⟨h.1.below hb h.1.lt,h.2.below hb⟩
theorem jc.c0{w:World}{g:Nat}{a:KA}{k:Cf.ag}(h:jc w g a k):w.cell? ⟨g,0,none⟩=some (.slice a.A k.mods.length a.ca):=h.1.cell 0
theorem jc.c1{w:World}{g:Nat}{a:KA}{k:Cf.ag}(h:jc w g a k):w.cell? ⟨g,1,none⟩=some (.slice a.M k.mem.length a.cm):=h.1.cell 1
theorem jc.c2{w:World}{g:Nat}{a:KA}{k:Cf.ag}(h:jc w g a k):w.cell? ⟨g,2,none⟩=some (.slice a.N k.nodes.length a.cn):=h.1.cell 2
theorem jc.c3{w:World}{g:Nat}{a:KA}{k:Cf.ag}(h:jc w g a k):w.cell? ⟨g,3,none⟩=some (.slice a.S k.pipes.length a.cs):=h.1.cell 3
theorem jc.c4{w:World}{g:Nat}{a:KA}{k:Cf.ag}(h:jc w g a k):w.cell? ⟨g,4,none⟩=some (.slice a.Q k.procs.length a.cq):=h.1.cell 4
end
section
open Go.RowKit
def N9{β:Type}(l:List MV)(ys:List β)(p:β→Bool)(f:Nat)(cs:Array Value)(w:World):Prop:=
 ∀(i:Nat) (x:MV) (y:β) (w':World),l[i]?=some x→ys[i]?=some y→Below w.heap.size w w'→Calls Tryz.prog f (#[.agg (eG x).toArray]++cs) w' fun e w''=>e = .returned (.bool (p y))∧Below w'.heap.size w' w''
theorem ES{β:Type}(l:List MV)(A:Option Addr)(cap:Nat)(w:World)(hR:RdS 3 eG w A l)(hm:l.length≤maxLen)(ys:List β)(hy:l.length=ys.length)(p:β→Bool)(f:Nat)(cs:Array Value)(hf:N9 l ys p f cs w)(eg:∀args w,(callFunc f args).run Tryz.prog w = .ok (.enter f args) w):
  Calls Tryz.prog 122 #[.slice A l.length cap,.func (.func f) #[] cs] w fun e w'=>e = .returned (.int .i64 (Cf.aJ p ys))∧Below w.heap.size w w':=by
 unfold maxLen at hm
 rcases hR with hl|⟨b,off,rfl,hb,hc⟩
 ·subst hl
  obtain rfl:ys=[]:=List.eq_nil_of_length_eq_zero hy.symm
  clear hf eg hm
  go_enter Tryz.func122,Tryz.ntmps122
  go_wp2
  refine wp_loop_rounds 1 ?_
  rw[rounds_succ]
  go_wp2
  go_ret
  exact⟨rfl,Below.refl _ _⟩
 ·have Hc:=hid hc
  have HF:=hid hf
  have Heg:=hid eg
  have HY:=hid hy
  clear hc hf eg hy
  go_enter Tryz.func122,Tryz.ntmps122
  go_wp2
  go_loopw [8] (fun i wr=>∃k:Nat,k≤l.length∧i = .int .i64 k∧(ys.take k).any p=false∧Below w.heap.size w wr) (fun i _=>l.length-(intOf i).toNat)
  case atStart=>exact⟨0,by omega,rfl,rfl,Below.refl _ _⟩
  case round=>
   obtain⟨k,hk,rfl,hall,hbw⟩:=hrel
   have aX:=hid hall
   clear hall
   by_cases hlt:k<l.length
   ·obtain⟨nm,A1,lc,ca,B1,ld,cb,hx⟩:∃nm A1 lc ca B1 ld cb,l[k]?=some ⟨nm,A1,lc,ca,B1,ld,cb⟩:=⟨_,_,_,_,_,_,_,List.getElem?_eq_getElem hlt⟩
    have c0:wr.cell? ⟨b,off+k*3,none⟩=some (.string ⟨nm.toArray⟩):=(hbw.cell hb).trans (Hc.out k _ hx 0 _ rfl)
    have c1:wr.cell? ⟨b,off+k*3+1,none⟩=some (.slice A1 lc ca):=(hbw.cell hb).trans (Hc.out k _ hx 1 _ rfl)
    have c2:wr.cell? ⟨b,off+k*3+2,none⟩=some (.slice B1 ld cb):=(hbw.cell hb).trans (Hc.out k _ hx 2 _ rfl)
    obtain⟨y,hyk⟩:∃y,ys[k]?=some y:=⟨_,List.getElem?_eq_getElem (by rw[← HY.out];exact hlt)⟩
    have HX:=hid hyk
    have HC:=hid (HF.out k _ y wr hx hyk hbw)
    clear hx hyk
    go_wp2_with fail
    first|with_reducible refine HC.out.mono ?_|(rw[Heg.out];refine HC.out.mono ?_)
    rintro e w1 ⟨rfl,hb1⟩
    have aO:=hbw.trans (hb1.mono hbw.size)
    clear hb1 HC
    cases hp:p y
    ·have HA:=hid (Cf.fU HX.out aX.out hp)
     clear hp
     go_wp2
     go_roundw
     case rel=>exact⟨k+1,by omega,by go_num,HA.out,aO⟩
     case measure=>simp[intOf];omega
    ·have HI:=hid (Cf.jI HX.out hp aX.out)
     clear hp
     go_wp2
     go_ret
     exact⟨by rw[HI.out];first|done|rfl,aO⟩
   ·have HI:=hid (Cf.fJ (p:=p) (l:=ys) (by have:=aX.out;rwa [List.take_of_length_le (by rw[← HY.out];omega)]at this))
    go_wp2
    go_ret
    exact⟨by rw[HI.out];rfl,hbw⟩
def Og{β:Type}(l:List Cf.Node)(ys:List β)(p:β→Bool)(f:Nat)(cs:Array Value)(w:World):Prop:=
 ∀(i:Nat) (x:Cf.Node) (y:β) (w':World),l[i]?=some x→ys[i]?=some y→Below w.heap.size w w'→Calls Tryz.prog f (#[.agg (dA x).toArray]++cs) w' fun e w''=>e = .returned (.bool (p y))∧Below w'.heap.size w' w''
theorem xI{β:Type}(l:List Cf.Node)(A:Option Addr)(cap:Nat)(w:World)(hR:RdS 4 dA w A l)(hm:l.length≤maxLen)(ys:List β)(hy:l.length=ys.length)(p:β→Bool)(f:Nat)(cs:Array Value)(hf:Og l ys p f cs w)(eg:∀args w,(callFunc f args).run Tryz.prog w = .ok (.enter f args) w):
  Calls Tryz.prog 135 #[.slice A l.length cap,.func (.func f) #[] cs] w fun e w'=>e = .returned (.int .i64 (Cf.aJ p ys))∧Below w.heap.size w w':=by
 unfold maxLen at hm
 rcases hR with hl|⟨b,off,rfl,hb,hc⟩
 ·subst hl
  obtain rfl:ys=[]:=List.eq_nil_of_length_eq_zero hy.symm
  clear hf eg hm
  go_enter Tryz.func135,Tryz.ntmps135
  go_wp2
  refine wp_loop_rounds 1 ?_
  rw[rounds_succ]
  go_wp2
  go_ret
  exact⟨rfl,Below.refl _ _⟩
 ·have Hc:=hid hc
  have HF:=hid hf
  have Heg:=hid eg
  have HY:=hid hy
  clear hc hf eg hy
  go_enter Tryz.func135,Tryz.ntmps135
  go_wp2
  go_loopw [8] (fun i wr=>∃k:Nat,k≤l.length∧i = .int .i64 k∧(ys.take k).any p=false∧Below w.heap.size w wr) (fun i _=>l.length-(intOf i).toNat)
  case atStart=>exact⟨0,by omega,rfl,rfl,Below.refl _ _⟩
  case round=>
   obtain⟨k,hk,rfl,hall,hbw⟩:=hrel
   have aX:=hid hall
   clear hall
   by_cases hlt:k<l.length
   ·obtain⟨nm,kd,da,un,hx⟩:∃nm kd da un,l[k]?=some ⟨nm,kd,da,un⟩:=⟨_,_,_,_,List.getElem?_eq_getElem hlt⟩
    have c0:wr.cell? ⟨b,off+k*4,none⟩=some (.string ⟨nm.toArray⟩):=(hbw.cell hb).trans (Hc.out k _ hx 0 _ rfl)
    have c1:wr.cell? ⟨b,off+k*4+1,none⟩=some (.int .i64 kd):=(hbw.cell hb).trans (Hc.out k _ hx 1 _ rfl)
    have c2:wr.cell? ⟨b,off+k*4+2,none⟩=some (.string ⟨da.toArray⟩):=(hbw.cell hb).trans (Hc.out k _ hx 2 _ rfl)
    have c3:wr.cell? ⟨b,off+k*4+3,none⟩=some (.int .i64 un):=(hbw.cell hb).trans (Hc.out k _ hx 3 _ rfl)
    obtain⟨y,hyk⟩:∃y,ys[k]?=some y:=⟨_,List.getElem?_eq_getElem (by rw[← HY.out];exact hlt)⟩
    have HX:=hid hyk
    have HC:=hid (HF.out k _ y wr hx hyk hbw)
    clear hx hyk
    go_wp2_with fail
    first|with_reducible refine HC.out.mono ?_|(rw[Heg.out];refine HC.out.mono ?_)
    rintro e w1 ⟨rfl,hb1⟩
    have aO:=hbw.trans (hb1.mono hbw.size)
    clear hb1 HC
    cases hp:p y
    ·have HA:=hid (Cf.fU HX.out aX.out hp)
     clear hp
     go_wp2
     go_roundw
     case rel=>exact⟨k+1,by omega,by go_num,HA.out,aO⟩
     case measure=>simp[intOf];omega
    ·have HI:=hid (Cf.jI HX.out hp aX.out)
     clear hp
     go_wp2
     go_ret
     exact⟨by rw[HI.out];first|done|rfl,aO⟩
   ·have HI:=hid (Cf.fJ (p:=p) (l:=ys) (by have:=aX.out;rwa [List.take_of_length_le (by rw[← HY.out];omega)]at this))
    go_wp2
    go_ret
    exact⟨by rw[HI.out];rfl,hbw⟩
def MG{β:Type}(l:List Cf.End)(ys:List β)(p:β→Bool)(f:Nat)(cs:Array Value)(w:World):Prop:=
 ∀(i:Nat) (x:Cf.End) (y:β) (w':World),l[i]?=some x→ys[i]?=some y→Below w.heap.size w w'→Calls Tryz.prog f (#[.agg (bH x).toArray]++cs) w' fun e w''=>e = .returned (.bool (p y))∧Below w'.heap.size w' w''
theorem yg{β:Type}(l:List Cf.End)(A:Option Addr)(cap:Nat)(w:World)(hR:RdS 3 bH w A l)(hm:l.length≤maxLen)(ys:List β)(hy:l.length=ys.length)(p:β→Bool)(f:Nat)(cs:Array Value)(hf:MG l ys p f cs w)(eg:∀args w,(callFunc f args).run Tryz.prog w = .ok (.enter f args) w):
  Calls Tryz.prog 124 #[.slice A l.length cap,.func (.func f) #[] cs] w fun e w'=>e = .returned (.int .i64 (Cf.aJ p ys))∧Below w.heap.size w w':=by
 unfold maxLen at hm
 rcases hR with hl|⟨b,off,rfl,hb,hc⟩
 ·subst hl
  obtain rfl:ys=[]:=List.eq_nil_of_length_eq_zero hy.symm
  clear hf eg hm
  go_enter Tryz.func124,Tryz.ntmps124
  go_wp2
  refine wp_loop_rounds 1 ?_
  rw[rounds_succ]
  go_wp2
  go_ret
  exact⟨rfl,Below.refl _ _⟩
 ·have Hc:=hid hc
  have HF:=hid hf
  have Heg:=hid eg
  have HY:=hid hy
  clear hc hf eg hy
  go_enter Tryz.func124,Tryz.ntmps124
  go_wp2
  go_loopw [8] (fun i wr=>∃k:Nat,k≤l.length∧i = .int .i64 k∧(ys.take k).any p=false∧Below w.heap.size w wr) (fun i _=>l.length-(intOf i).toNat)
  case atStart=>exact⟨0,by omega,rfl,rfl,Below.refl _ _⟩
  case round=>
   obtain⟨k,hk,rfl,hall,hbw⟩:=hrel
   have aX:=hid hall
   clear hall
   by_cases hlt:k<l.length
   ·obtain⟨kd,nd,ps,hx⟩:∃kd nd ps,l[k]?=some ⟨kd,nd,ps⟩:=⟨_,_,_,List.getElem?_eq_getElem hlt⟩
    have c0:wr.cell? ⟨b,off+k*3,none⟩=some (.int .i64 kd):=(hbw.cell hb).trans (Hc.out k _ hx 0 _ rfl)
    have c1:wr.cell? ⟨b,off+k*3+1,none⟩=some (.int .i64 nd):=(hbw.cell hb).trans (Hc.out k _ hx 1 _ rfl)
    have c2:wr.cell? ⟨b,off+k*3+2,none⟩=some (.int .i64 ps):=(hbw.cell hb).trans (Hc.out k _ hx 2 _ rfl)
    obtain⟨y,hyk⟩:∃y,ys[k]?=some y:=⟨_,List.getElem?_eq_getElem (by rw[← HY.out];exact hlt)⟩
    have HX:=hid hyk
    have HC:=hid (HF.out k _ y wr hx hyk hbw)
    clear hx hyk
    go_wp2_with fail
    first|with_reducible refine HC.out.mono ?_|(rw[Heg.out];refine HC.out.mono ?_)
    rintro e w1 ⟨rfl,hb1⟩
    have aO:=hbw.trans (hb1.mono hbw.size)
    clear hb1 HC
    cases hp:p y
    ·have HA:=hid (Cf.fU HX.out aX.out hp)
     clear hp
     go_wp2
     go_roundw
     case rel=>exact⟨k+1,by omega,by go_num,HA.out,aO⟩
     case measure=>simp[intOf];omega
    ·have HI:=hid (Cf.jI HX.out hp aX.out)
     clear hp
     go_wp2
     go_ret
     exact⟨by rw[HI.out];first|done|rfl,aO⟩
   ·have HI:=hid (Cf.fJ (p:=p) (l:=ys) (by have:=aX.out;rwa [List.take_of_length_le (by rw[← HY.out];omega)]at this))
    go_wp2
    go_ret
    exact⟨by rw[HI.out];rfl,hbw⟩
theorem xJ{β:Type}(l:List Cf.End)(A:Option Addr)(cap:Nat)(w:World)(hR:RdS 3 bH w A l)(hm:l.length≤maxLen)(ys:List β)(hy:l.length=ys.length)(p:β→Bool)(f:Nat)(cs:Array Value)(hf:MG l ys p f cs w)(eg:∀args w,(callFunc f args).run Tryz.prog w = .ok (.enter f args) w):
  Calls Tryz.prog 92 #[.slice A l.length cap,.func (.func f) #[] cs] w fun e w'=>e = .returned (.bool (ys.any p))∧Below w.heap.size w w':=by
 have H:=hid (yg l A cap w hR hm ys hy p f cs hf eg)
 have HZ:=hid (Cf.qQ (p:=p) (l:=ys))
 clear hf hR eg hy
 generalize Cf.aJ p ys=z at *
 go_enter Tryz.func92,Tryz.ntmps92
 go_wp2_with fail
 refine H.out.mono ?_
 rintro e w1 ⟨rfl,hb⟩
 go_wp2
 go_ret
 exact⟨by rw[← HZ.out];rfl,hb⟩
def Nk{β:Type}(l:List PV)(ys:List β)(p:β→Bool)(f:Nat)(cs:Array Value)(w:World):Prop:=
 ∀(i:Nat) (x:PV) (y:β) (w':World),l[i]?=some x→ys[i]?=some y→Below w.heap.size w w'→Calls Tryz.prog f (#[.agg (bG x).toArray]++cs) w' fun e w''=>e = .returned (.bool (p y))∧Below w'.heap.size w' w''
theorem wZ{β:Type}(l:List PV)(A:Option Addr)(cap:Nat)(w:World)(hR:RdS 2 bG w A l)(hm:l.length≤maxLen)(ys:List β)(hy:l.length=ys.length)(p:β→Bool)(f:Nat)(cs:Array Value)(hf:Nk l ys p f cs w)(eg:∀args w,(callFunc f args).run Tryz.prog w = .ok (.enter f args) w):
  Calls Tryz.prog 125 #[.slice A l.length cap,.func (.func f) #[] cs] w fun e w'=>e = .returned (.int .i64 (Cf.aJ p ys))∧Below w.heap.size w w':=by
 unfold maxLen at hm
 rcases hR with hl|⟨b,off,rfl,hb,hc⟩
 ·subst hl
  obtain rfl:ys=[]:=List.eq_nil_of_length_eq_zero hy.symm
  clear hf eg hm
  go_enter Tryz.func125,Tryz.ntmps125
  go_wp2
  refine wp_loop_rounds 1 ?_
  rw[rounds_succ]
  go_wp2
  go_ret
  exact⟨rfl,Below.refl _ _⟩
 ·have Hc:=hid hc
  have HF:=hid hf
  have Heg:=hid eg
  have HY:=hid hy
  clear hc hf eg hy
  go_enter Tryz.func125,Tryz.ntmps125
  go_wp2
  go_loopw [8] (fun i wr=>∃k:Nat,k≤l.length∧i = .int .i64 k∧(ys.take k).any p=false∧Below w.heap.size w wr) (fun i _=>l.length-(intOf i).toNat)
  case atStart=>exact⟨0,by omega,rfl,rfl,Below.refl _ _⟩
  case round=>
   obtain⟨k,hk,rfl,hall,hbw⟩:=hrel
   have aX:=hid hall
   clear hall
   by_cases hlt:k<l.length
   ·obtain⟨lv,A1,le,ce,hx⟩:∃lv A1 le ce,l[k]?=some ⟨lv,A1,le,ce⟩:=⟨_,_,_,_,List.getElem?_eq_getElem hlt⟩
    have c0:wr.cell? ⟨b,off+k*2,none⟩=some (.bool lv):=(hbw.cell hb).trans (Hc.out k _ hx 0 _ rfl)
    have c1:wr.cell? ⟨b,off+k*2+1,none⟩=some (.slice A1 le ce):=(hbw.cell hb).trans (Hc.out k _ hx 1 _ rfl)
    obtain⟨y,hyk⟩:∃y,ys[k]?=some y:=⟨_,List.getElem?_eq_getElem (by rw[← HY.out];exact hlt)⟩
    have HX:=hid hyk
    have HC:=hid (HF.out k _ y wr hx hyk hbw)
    clear hx hyk
    go_wp2_with fail
    first|with_reducible refine HC.out.mono ?_|(rw[Heg.out];refine HC.out.mono ?_)
    rintro e w1 ⟨rfl,hb1⟩
    have aO:=hbw.trans (hb1.mono hbw.size)
    clear hb1 HC
    cases hp:p y
    ·have HA:=hid (Cf.fU HX.out aX.out hp)
     clear hp
     go_wp2
     go_roundw
     case rel=>exact⟨k+1,by omega,by go_num,HA.out,aO⟩
     case measure=>simp[intOf];omega
    ·have HI:=hid (Cf.jI HX.out hp aX.out)
     clear hp
     go_wp2
     go_ret
     exact⟨by rw[HI.out];first|done|rfl,aO⟩
   ·have HI:=hid (Cf.fJ (p:=p) (l:=ys) (by have:=aX.out;rwa [List.take_of_length_le (by rw[← HY.out];omega)]at this))
    go_wp2
    go_ret
    exact⟨by rw[HI.out];rfl,hbw⟩
theorem xO{β:Type}(l:List PV)(A:Option Addr)(cap:Nat)(w:World)(hR:RdS 2 bG w A l)(hm:l.length≤maxLen)(ys:List β)(hy:l.length=ys.length)(p:β→Bool)(f:Nat)(cs:Array Value)(hf:Nk l ys p f cs w)(eg:∀args w,(callFunc f args).run Tryz.prog w = .ok (.enter f args) w):
  Calls Tryz.prog 93 #[.slice A l.length cap,.func (.func f) #[] cs] w fun e w'=>e = .returned (.bool (ys.any p))∧Below w.heap.size w w':=by
 have H:=hid (wZ l A cap w hR hm ys hy p f cs hf eg)
 have HZ:=hid (Cf.qQ (p:=p) (l:=ys))
 clear hf hR eg hy
 generalize Cf.aJ p ys=z at *
 go_enter Tryz.func93,Tryz.ntmps93
 go_wp2_with fail
 refine H.out.mono ?_
 rintro e w1 ⟨rfl,hb⟩
 go_wp2
 go_ret
 exact⟨by rw[← HZ.out];rfl,hb⟩
def zCl{β:Type}(l:List Int)(ys:List β)(p:β→Bool)(f:Nat)(cs:Array Value)(w:World):Prop:=
 ∀(i:Nat) (x:Int) (y:β) (w':World),l[i]?=some x→ys[i]?=some y→Below w.heap.size w w'→Calls Tryz.prog f (#[.int .i64 x]++cs) w' fun e w''=>e = .returned (.bool (p y))∧Below w'.heap.size w' w''
theorem IQ{β:Type}(l:List Int)(A:Option Addr)(cap:Nat)(w:World)(hR:RdS 1 encZ w A l)(hm:l.length≤maxLen)(ys:List β)(hy:l.length=ys.length)(p:β→Bool)(f:Nat)(cs:Array Value)(hf:zCl l ys p f cs w)(eg:∀args w,(callFunc f args).run Tryz.prog w = .ok (.enter f args) w):
  Calls Tryz.prog 86 #[.slice A l.length cap,.func (.func f) #[] cs] w fun e w'=>e = .returned (.int .i64 (Cf.aJ p ys))∧Below w.heap.size w w':=by
 unfold maxLen at hm
 rcases hR with hl|⟨b,off,rfl,hb,hc⟩
 ·subst hl
  obtain rfl:ys=[]:=List.eq_nil_of_length_eq_zero hy.symm
  clear hf eg hm
  go_enter Tryz.func86,Tryz.ntmps86
  go_wp2
  refine wp_loop_rounds 1 ?_
  rw[rounds_succ]
  go_wp2
  go_ret
  exact⟨rfl,Below.refl _ _⟩
 ·have Hc:=hid hc
  have HF:=hid hf
  have Heg:=hid eg
  have HY:=hid hy
  clear hc hf eg hy
  go_enter Tryz.func86,Tryz.ntmps86
  go_wp2
  go_loopw [8] (fun i wr=>∃k:Nat,k≤l.length∧i = .int .i64 k∧(ys.take k).any p=false∧Below w.heap.size w wr) (fun i _=>l.length-(intOf i).toNat)
  case atStart=>exact⟨0,by omega,rfl,rfl,Below.refl _ _⟩
  case round=>
   obtain⟨k,hk,rfl,hall,hbw⟩:=hrel
   have aX:=hid hall
   clear hall
   by_cases hlt:k<l.length
   ·obtain⟨z0,hx⟩:∃z0,l[k]?=some z0:=⟨_,List.getElem?_eq_getElem hlt⟩
    have c0:wr.cell? ⟨b,off+k,none⟩=some (.int .i64 z0):=(hbw.cell hb).trans (by have:=Hc.out k _ hx 0 _ rfl;simpa using this)
    obtain⟨y,hyk⟩:∃y,ys[k]?=some y:=⟨_,List.getElem?_eq_getElem (by rw[← HY.out];exact hlt)⟩
    have HX:=hid hyk
    have HC:=hid (HF.out k _ y wr hx hyk hbw)
    clear hx hyk
    go_wp2_with fail
    first|with_reducible refine HC.out.mono ?_|(rw[Heg.out];refine HC.out.mono ?_)
    rintro e w1 ⟨rfl,hb1⟩
    have aO:=hbw.trans (hb1.mono hbw.size)
    clear hb1 HC
    cases hp:p y
    ·have HA:=hid (Cf.fU HX.out aX.out hp)
     clear hp
     go_wp2
     go_roundw
     case rel=>exact⟨k+1,by omega,by go_num,HA.out,aO⟩
     case measure=>simp[intOf];omega
    ·have HI:=hid (Cf.jI HX.out hp aX.out)
     clear hp
     go_wp2
     go_ret
     exact⟨by rw[HI.out];first|done|rfl,aO⟩
   ·have HI:=hid (Cf.fJ (p:=p) (l:=ys) (by have:=aX.out;rwa [List.take_of_length_le (by rw[← HY.out];omega)]at this))
    go_wp2
    go_ret
    exact⟨by rw[HI.out];rfl,hbw⟩
theorem IA{β:Type}(l:List Int)(A:Option Addr)(cap:Nat)(w:World)(hR:RdS 1 encZ w A l)(hm:l.length≤maxLen)(ys:List β)(hy:l.length=ys.length)(p:β→Bool)(f:Nat)(cs:Array Value)(hf:zCl l ys p f cs w)(eg:∀args w,(callFunc f args).run Tryz.prog w = .ok (.enter f args) w):
  Calls Tryz.prog 53 #[.slice A l.length cap,.func (.func f) #[] cs] w fun e w'=>e = .returned (.bool (ys.any p))∧Below w.heap.size w w':=by
 have H:=hid (IQ l A cap w hR hm ys hy p f cs hf eg)
 have HZ:=hid (Cf.qQ (p:=p) (l:=ys))
 clear hf hR eg hy
 generalize Cf.aJ p ys=z at *
 go_enter Tryz.func53,Tryz.ntmps53
 go_wp2_with fail
 refine H.out.mono ?_
 rintro e w1 ⟨rfl,hb⟩
 go_wp2
 go_ret
 exact⟨by rw[← HZ.out];rfl,hb⟩
end
section
open Go.RowKit
theorem tV(n:List UInt8)(l:List Cf.Ins)(d:List Int)(A B A' B':Option Addr)(ca cb ca' cb':Nat)(w:World)(hA:bP w A l)(hB:Ints w B d)(hA':bP w A' l)(hB':Ints w B' d)(hl:l.length≤maxLen)(hd:d.length≤maxLen):
  Calls Tryz.prog 46 #[.agg #[.string ⟨n.toArray⟩,.slice A l.length ca,.slice B d.length cb],.agg #[.string ⟨n.toArray⟩,.slice A' l.length ca',.slice B' d.length cb']] w fun e w'=>e = .returned (.bool true)∧Below w.heap.size w w':=by
 have hb0:=fun(o1 o2:Obj)=>((Below.refl w.heap.size w).alloc (Nat.le_refl _) o1).alloc (by simp) o2
 go_enter Tryz.func46,Tryz.ntmps46
 go_wp2_with fail
 refine(wW l A A' ca ca' _ (hA.below (hb0 _ _)) (hA'.below (hb0 _ _)) hl).mono ?_
 rintro e w1 ⟨rfl,hb1⟩
 have hbw:=(hb0 _ _).trans (hb1.mono (by simp;omega))
 have r1:=hb1.cell (p:=⟨w.heap.size,2,none⟩) (by simp;omega)
 have r2:=hb1.cell (p:=⟨w.heap.size+1,2,none⟩) (by simp)
 simp at r1 r2
 clear hb1 hb0
 go_wp2_with fail
 refine(o5 d B B' cb cb' _ (hB.below hbw) (hB'.below hbw) hd).mono ?_
 rintro e w2 ⟨rfl,hb2⟩
 have hbx:=hbw.trans (hb2.mono hbw.size)
 clear hb2 hbw r1 r2
 go_wp2
 go_ret
 exact⟨rfl,hbx⟩
end
section
open Go.RowKit
section
variable {α:Type} {sz:Nat} {enc:α→List Value}
theorem zN(hsz:∀x,(enc x).length=sz):∀(l:List α) (i:Nat) (x x':α) (j:Nat) (u:Value),l[i]?=some x→j<sz→enc x'=(enc x).set j u→(l.flatMap enc).set (i*sz+j) u=(l.set i x').flatMap enc
 | [],i,x,_,_,_,h,_,_=>by simp at h
 | y :: l,0,x,x',j,u,h,hj,he=>by
   simp at h
   subst h
   rw[List.flatMap_cons,List.set_cons_zero,List.flatMap_cons,Nat.zero_mul,Nat.zero_add,List.set_append_left _ _ (by rw[hsz];exact hj),he]
 | y :: l,i+1,x,x',j,u,h,hj,he=>by
   rw[List.flatMap_cons,List.set_cons_succ,List.flatMap_cons,List.set_append_right _ _ (by rw[hsz,Nat.add_mul];omega),hsz,show(i+1)*sz+j-sz=i*sz+j by rw[Nat.add_mul];omega,zN hsz l i x x' j u (by simpa using h) hj he]
theorem sQ(hsz:∀x,(enc x).length=sz)(l:List α):(l.flatMap enc).length=l.length*sz:=by
 induction l with
 | nil=>simp
 | cons x l ih=>rw[List.flatMap_cons,List.length_append,ih,hsz,List.length_cons,Nat.add_mul];omega
theorem xB(z:Array Value)(x:α)(hx:enc x=z.toList)(n:Nat):(madeCells z (n*z.size)).toList=(List.replicate n x).flatMap enc:=by
 apply List.ext_getElem?
 intro j
 have hl:((List.replicate n x).flatMap enc).length=n*z.size:=by
  have:∀m:Nat,((List.replicate m x).flatMap enc).length=m*z.size:=by
   intro m
   induction m with
   | zero=>simp
   | succ m ih=>rw[List.replicate_succ,List.flatMap_cons,List.length_append,ih,hx,Array.length_toList,Nat.add_mul];omega
  exact this n
 by_cases hj:j<n*z.size
 ·have hz:0<z.size:=by
   rcases Nat.eq_zero_or_pos z.size with h|h
   ·rw[h]at hj;omega
   ·exact h
  have hmod:j % z.size<z.size:=Nat.mod_lt _ hz
  have h1:(madeCells z (n*z.size)).toList[j]?=some z[j % z.size]:=by
   rw[Array.getElem?_toList]
   simp[madeCells,hj,hmod]
  have hat:∀(m j:Nat),j<m*z.size→((List.replicate m x).flatMap enc)[j]?=z.toList[j % z.size]?:=by
   intro m
   induction m with
   | zero=>intro j hj;omega
   | succ m ih=>
     intro j hj
     rw[List.replicate_succ,List.flatMap_cons,List.getElem?_append,hx,Array.length_toList]
     split
     ·rename_i h
      rw[Nat.mod_eq_of_lt h]
     ·rename_i h
      have e:=Nat.mod_eq_sub_mod (a:=j) (b:=z.size) (by omega)
      rw[ih (j-z.size) (by rw[Nat.add_mul]at hj;omega),← e]
  rw[h1,hat n j hj]
  simp[hmod]
 ·rw[List.getElem?_eq_none (by rw[Array.length_toList,size_madeCells];omega),List.getElem?_eq_none (by omega)]
def Bk(sz:Nat)(enc:α→List Value)(w:World)(g:Nat)(t:TypeId)(l:List α):Prop:=(∀x,(enc x).length=sz)∧∃pad,Wb w g t (l.flatMap enc++pad)
variable {w w':World} {g:Nat} {t:TypeId} {l:List α}
theorem Bk.lt(h:Bk sz enc w g t l):g<w.heap.size:=h.2.elim fun _ h=>h.lt
theorem Bk.cell(h:Bk sz enc w g t l){k j:Nat}{x:α}{v:Value}(hx:l[k]?=some x)(hv:(enc x)[j]?=some v):w.cell? ⟨g,k*sz+j,none⟩=some v:=by
 obtain⟨hsz,pad,h⟩:=h
 rw[h.cell]
 have h1:=ul sz enc hsz l k x j v hx hv
 rw[List.getElem?_append_left (List.getElem?_eq_some_iff.1 h1).1]
 exact h1
theorem Bk.open_(h:Bk sz enc w g t l)(i:Nat):w.frozen? ⟨g,i,none⟩=false:=h.2.elim fun _ h=>h.open_ i
theorem Bk.alloc(h:Bk sz enc w g t l)(o:Obj):Bk sz enc (w.alloc o) g t l:=⟨h.1,h.2.elim fun p h=>⟨p,h.alloc o⟩⟩
theorem Bk.off_(h:Bk sz enc w g t l){p:Addr}(hp:g≠p.block)(u:Value):Bk sz enc (w.setCell p u) g t l:=⟨h.1,h.2.elim fun q h=>⟨q,h.off_ hp u⟩⟩
theorem Bk.below{B:Nat}(h:Bk sz enc w g t l)(hb:Below B w w')(hg:g<B):Bk sz enc w' g t l:=⟨h.1,h.2.elim fun q h=>⟨q,h.below hb hg⟩⟩
theorem Bk.draw(h:Bk sz enc w g t l):Bk sz enc w.drew g t l:=h
theorem Bk.rd(h:Bk sz enc w g t l):RdS sz enc w (some ⟨g,0,none⟩) l:=
 .inr ⟨g,0,rfl,h.lt,fun k x hx j v hv=>by rw[Nat.zero_add];exact h.cell hx hv⟩
theorem Bk.other{β:Type}{sz':Nat}{enc':β→List Value}{g':Nat}{t':TypeId}{l':List β}(h:Bk sz enc w g t l)(h':Bk sz' enc' w g' t' l')(hne:t≠t'):g≠g':=by
 obtain⟨_,p,h⟩:=h
 obtain⟨_,p',h'⟩:=h'
 exact h.other h' hne
theorem Bk.wb{cs:List Value}{g':Nat}{t':TypeId}(h:Bk sz enc w g t l)(h':Wb w g' t' cs)(hne:t≠t'):g≠g':=by
 obtain⟨_,p,h⟩:=h
 exact h.other h' hne
theorem Bk.put(h:Bk sz enc w g t l){i j:Nat}{x x':α}{u:Value}(hx:l[i]?=some x)(hj:j<sz)(he:enc x'=(enc x).set j u):Bk sz enc (w.setCell ⟨g,i*sz+j,none⟩ u) g t (l.set i x'):=by
 obtain⟨hsz,pad,h⟩:=h
 refine⟨hsz,pad,?_⟩
 have h1:=h.put (i*sz+j) u
 have hlt:i*sz+j<(l.flatMap enc).length:=by
  rw[sQ hsz]
  have hi:i<l.length:=(List.getElem?_eq_some_iff.1 hx).1
  calc i*sz+j<i*sz+sz:=by omega
   _=(i+1)*sz:=by rw[Nat.add_mul,Nat.one_mul]
   _≤l.length*sz:=Nat.mul_le_mul_right _ hi
 rw[List.set_append_left _ _ hlt,zN hsz l i x x' j u hx hj he]at h1
 exact h1
theorem Bk.put0(h:Bk sz enc w g t l){i:Nat}{x x':α}{u:Value}(hx:l[i]?=some x)(hj:0<sz)(he:enc x'=(enc x).set 0 u):Bk sz enc (w.setCell ⟨g,i*sz,none⟩ u) g t (l.set i x'):=h.put hx hj he
theorem Bk.made{z:Array Value}{x:α}(hsz:∀x,(enc x).length=sz)(hx:enc x=z.toList)(n:Nat)(w:World)(t:TypeId):Bk sz enc (w.alloc (.cells (madeCells z (n*z.size)) t)) w.heap.size t (List.replicate n x):=by
 refine⟨hsz,[],?_⟩
 rw[List.append_nil,← xB z x hx n]
 have:=Wb.new w t (madeCells z (n*z.size)).toList
 simpa using this
end
theorem dD{P:Program}{o:Oper}{a:Act}{w w':World}{K:Act→World→Prop}{Q:Exit→Act→World→Prop}{v:Value}(h:(execOp a.eval o).run P w = .ok (.value v) w')(hk:K (a.put o.dst v) w'):Oper.wp P o a w K Q:=by
 unfold Oper.wp
 rw[h]
 exact hk
theorem rE{P:Program}{o:Oper}{a:Act}{w w':World}{K:Act→World→Prop}{Q:Exit→Act→World→Prop}(h:(execOp a.eval o).run P w = .ok .skip w')(hk:K (a.put o.dst undef) w'):Oper.wp P o a w K Q:=by
 unfold Oper.wp
 rw[h]
 exact hk
theorem mM{α:Type}{sz:Nat}{enc:α→List Value}{P:Program}{o:Oper}{a:Act}{w:World}{K:Act→World→Prop}{Q:Exit→Act→World→Prop}(t e:TypeId)(n:Nat)(x:α)(z:Value)(bytes:Nat)
  (ho:o.op = .makeSlice t (.const (.int .i64 n)) (.const (.int .i64 n))) (ht:P.underlying t=some (.slice e)) (hi:(P.info? e).map (fun i=>(i.zero,i.size,i.bytes))=some (some z,sz,bytes)) (hz:z.cells.size=sz)
  (hsz:∀x,(enc x).length=sz) (hx:enc x=z.cells.toList) (hb:bytes*n≤281474976710656) (hn:n≤281474976710656)
  (hk:∀w',Bk sz enc w' w.heap.size e (List.replicate n x)→(∀B,B≤w.heap.size→Below B w w')→(∃c,w'=w.alloc (.cells c e))→K (a.put o.dst (.slice (some ⟨w.heap.size,0,none⟩) n n)) w'):Oper.wp P o a w K Q:=by
 rw[Option.map_eq_some_iff]at hi
 obtain⟨i,hi,hie⟩:=hi
 simp only[Prod.mk.injEq]at hie
 obtain⟨h0,h1,h2⟩:=hie
 have hr:=run_make (P:=P) w t e i z ht hi h0 .i64 .i64 (n:Int) (n:Int) (by omega) (by omega) (by rw[h2,← Int.natCast_mul];omega) (by omega)
 rw[Int.toNat_natCast]at hr
 have hB:Bk sz enc (w.alloc (.cells (madeCells z.cells (n*z.cells.size)) e)) w.heap.size e (List.replicate n x):=Bk.made hsz hx n w e
 rw[hz]at hB
 rw[h1]at hr
 refine dD (v:=.slice (some ⟨w.heap.size,0,none⟩) n n) (w':=w.alloc (.cells (madeCells z.cells (n*sz)) e)) ?_ (hk _ hB (fun B hB=>(Below.refl _ _).alloc hB _) ⟨_,rfl⟩)
 simp[execOp,ho,Act.eval,hr,Result.andThen]
end
end Go.Proofs.YtnnhhbjbdmgpiaaGreatDoor
