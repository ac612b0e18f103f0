/- Texts of the proofs: CpsK, StK. -/
import Derived.Test.YtnnhhbjbdmgpiaaGreatDoorJ22
set_option linter.unusedSimpArgs false
set_option linter.unusedVariables false
namespace Go.Proofs.YtnnhhbjbdmgpiaaGreatDoor
set_option maxRecDepth 100000
set_option maxHeartbeats 4000000
open Lib (hid)
section
open Go.RowKit
abbrev jk:TypeId:=79
theorem Nw.five{α:Type}{sz:Nat}{enc:α→List Value}{w:World}{t:TypeId}{B:Nat}{A:Option Addr}{l:List α}(h:Nw sz enc w t B A l){g:Nat}{cs:List Value}(hg:Wb w g ae cs)(hne:t≠ae)(v0 v1 v2 v3 v4:Value):
  Nw sz enc (((((w.setCell ⟨g,0,none⟩ v0).setCell ⟨g,1,none⟩ v1).setCell ⟨g,2,none⟩ v2).setCell ⟨g,3,none⟩ v3).setCell ⟨g,4,none⟩ v4) t B A l:=
 ((((h.offW hg hne 0 v0).offW (hg.put 0 v0) hne 1 v1).offW ((hg.put 0 v0).put 1 v1) hne 2 v2).offW (((hg.put 0 v0).put 1 v1).put 2 v2) hne 3 v3).offW ((((hg.put 0 v0).put 1 v1).put 2 v2).put 3 v3) hne 4 v4
theorem Wb.five{w:World}{g g':Nat}{cs cs':List Value}(h:Wb w g' ae cs')(hl:cs'.length=5)(hg:Wb w g ae cs)(hgl:cs.length=5)(v0 v1 v2 v3 v4:Value):
  ∃ds,ds.length=5∧Wb (((((w.setCell ⟨g,0,none⟩ v0).setCell ⟨g,1,none⟩ v1).setCell ⟨g,2,none⟩ v2).setCell ⟨g,3,none⟩ v3).setCell ⟨g,4,none⟩ v4) g' ae ds:=by
 by_cases he:g'=g
 ·subst he
  exact⟨_,by simp[hgl],((((hg.put 0 v0).put 1 v1).put 2 v2).put 3 v3).put 4 v4⟩
 ·exact⟨cs',hl,((((h.off_ (p:=⟨g,0,none⟩) he v0).off_ (p:=⟨g,1,none⟩) he v1).off_ (p:=⟨g,2,none⟩) he v2).off_ (p:=⟨g,3,none⟩) he v3).off_ (p:=⟨g,4,none⟩) he v4⟩
theorem CpR.kept{B h:Nat}{M N S Q:Option Addr}{cm cn cs cq:Nat}{mem:List Int}{nodes:List Cf.Node}{pipes:List (List UInt8)}{ps:List PV}{i:Nat}{v:Value}{w w':World}(h0:CpR B h M N S Q cm cn cs cq mem nodes pipes ps i v w)(hi:i≠18)(hN:∀ {α:Type} {sz:Nat} {enc:α→List Value} {t:TypeId} {A:Option Addr} {l:List α},Nw sz enc w t B A l→t≠ae→Nw sz enc w' t B A l)
  (hW:∀g cs,cs.length=5→Wb w g ae cs→∃ds,ds.length=5∧Wb w' g ae ds):CpR B h M N S Q cm cn cs cq mem nodes pipes ps i v w':=by
 revert hi
 match i,h0 with
 | 0,h=>intro _;exact h
 | 1,h=>intro _;exact h
 | 2,h=>intro _;exact h
 | 3,⟨A,c,h1,h2,h9⟩=>intro _;exact⟨A,c,h1,hN h2 (by decide),h9⟩
 | 4,h=>intro _;exact h
 | 5,h=>intro _;exact h
 | 6,h=>intro _;exact h
 | 7,⟨A,c,h1,h2,h9⟩=>intro _;exact⟨A,c,h1,hN h2 (by decide),h9⟩
 | 8,h=>intro _;exact h
 | 9,h=>intro _;exact h
 | 10,h=>intro _;exact h
 | 11,⟨A,c,h1,h2,h9⟩=>intro _;exact⟨A,c,h1,hN h2 (by decide),h9⟩
 | 12,h=>intro _;exact h
 | 13,h=>intro _;exact h
 | 14,h=>intro _;exact h
 | 15,⟨A,c,h1,h2,h9⟩=>intro _;exact⟨A,c,h1,hN h2 (by decide),h9⟩
 | 16,⟨A1,c1,A2,c2,A3,c3,A4,c4,h1,h2,h3,h4,h5,h9⟩=>intro _;exact⟨A1,c1,A2,c2,A3,c3,A4,c4,h1,hN h2 (by decide),hN h3 (by decide),hN h4 (by decide),hN h5 (by decide),h9⟩
 | 17,⟨g',h1,⟨cs,h2,h3⟩,h4⟩=>intro _;exact⟨g',h1,hW g' cs h2 h3,h4⟩
 | 18,_=>intro hi;exact absurd rfl hi
 | _+19,_=>intro _;exact trivial
def OwM(B:Nat)(w:World)(x:MV)(m:Cf.Mod):Prop:=x.name=m.name∧x.lc=m.code.length∧x.ld=m.data.length∧Nw 4 encI w ET B x.A m.code∧Nw 1 encZ w fD B x.B m.data
def OwP(B:Nat)(w:World)(x:PV)(p:Cf.dR):Prop:=x.live=p.live∧x.le=p.ends.length∧Nw 3 bH w fP B x.A p.ends∧x.le≤x.ce
theorem OwM.below{B:Nat}{w w':World}{x:MV}{m:Cf.Mod}(h:OwM B w x m)(hb:Below w.heap.size w w'):OwM B w' x m:=⟨h.1,h.2.1,h.2.2.1,h.2.2.2.1.below hb,h.2.2.2.2.below hb⟩
theorem OwP.below{B:Nat}{w w':World}{x:PV}{m:Cf.dR}(h:OwP B w x m)(hb:Below w.heap.size w w'):OwP B w' x m:=⟨h.1,h.2.1,h.2.2.1.below hb,h.2.2.2⟩
structure CpS(B:Nat)(wb:World)(g:Nat)(a:KA)(xs:List MV)(mods:List Cf.Mod)(me:List Int)(nodes:List Cf.Node)(pipes:List (List UInt8))(ps:List PV)(w:World):Prop where
 box:Wb w g ae [.slice a.A xs.length a.ca,.slice a.M me.length a.cm,.slice a.N nodes.length a.cn,.slice a.S pipes.length a.cs,.slice a.Q ps.length a.cq]
 row:w.ownsRow B jk 3 (.slice a.A xs.length a.ca) xs.length (xs.flatMap eG)
 each:Each (OwM B w) xs mods
 mem:Nw 1 encZ w fD B a.M me
 nodes:Nw 4 dA w bu B a.N nodes
 pipes:Nw 1 iC w lX B a.S pipes
 procs:Nw 2 bG w jL B a.Q ps
 lo:B≤g
 room:B≤w.heap.size
 keep:Below B wb w
 dat:∀x∈xs,x.ld=0∨me=[]∨x.B≠a.M
 capM:me.length≤a.cm
section
variable {B:Nat} {wb:World} {g:Nat} {a:KA} {xs:List MV} {mods:List Cf.Mod} {mem:List Int} {nodes:List Cf.Node} {pipes:List (List UInt8)} {ps:List PV} {w w':World}
theorem CpS.below(h:CpS B wb g a xs mods mem nodes pipes ps w)(hb:Below w.heap.size w w'):CpS B wb g a xs mods mem nodes pipes ps w':=
 ⟨h.box.below hb h.box.lt,own_below h.row hb,h.each.mono fun _ _ h=>h.below hb,h.mem.below hb,h.nodes.below hb,h.pipes.below hb,h.procs.below hb,h.lo,Nat.le_trans h.room hb.size,h.keep.trans (hb.mono h.room),h.dat,h.capM⟩
theorem Nw.grownR{α:Type}{sz:Nat}{enc:α→List Value}{t:TypeId}{A:Option Addr}{l:List α}(hN:Nw sz enc w t B A l){v:Value}{n size:Nat}{e:TypeId}{vs:List Value}(hr:w.ownsRow B e size v n vs)(hne:e≠t)(hg:w.grownBy w' v.ownBlock):Nw sz enc w' t B A l:=
 hN.grown_ hg fun _ _ h=>ax hr h hne
theorem CpS.putMod(h:CpS B wb g a xs mods mem nodes pipes ps w){x:MV}{m:Cf.Mod}(hx:OwM B w x m)(hd:x.ld=0∨mem=[]∨x.B≠a.M){A':Option Addr}{c':Nat}(hg:w.grownBy w' (Value.slice a.A xs.length a.ca).ownBlock)
  (hown:w'.ownsRow B jk 3 (.slice A' (xs.length+1) c') (xs.length+1) (xs.flatMap eG++[x].flatMap eG)):CpS B wb g { a with A:=A',ca:=c' } (xs++[x]) (mods++[m]) mem nodes pipes ps (w'.setCell ⟨g,0,none⟩ (.slice A' (xs.length+1) c')):=by
 have hbox:=h.box.grown hg (ax h.row h.box (by decide))
 have key:∀ {α:Type} {sz:Nat} {enc:α→List Value} {t:TypeId} {A:Option Addr} {l:List α},Nw sz enc w t B A l→jk≠t→t≠ae→Nw sz enc (w'.setCell ⟨g,0,none⟩ (.slice A' (xs.length+1) c')) t B A l:=fun hN h1 h2=>(hN.grownR h.row h1 hg).offW hbox h2 0 _
 have hM:∀y n,OwM B w y n→OwM B (w'.setCell ⟨g,0,none⟩ (.slice A' (xs.length+1) c')) y n:=fun y n hy=>⟨hy.1,hy.2.1,hy.2.2.1,key hy.2.2.2.1 (by decide) (by decide),key hy.2.2.2.2 (by decide) (by decide)⟩
 refine⟨?_,?_,(h.each.mono hM).snoc (hM _ _ hx),key h.mem (by decide) (by decide),key h.nodes (by decide) (by decide),key h.pipes (by decide) (by decide),key h.procs (by decide) (by decide),h.lo,?_,(h.keep.grown hg h.room (fun k hk=>bZ h.row k hk)).setCell h.lo _,?_,h.capM⟩
 ·have:=hbox.put 0 (.slice A' (xs.length+1) c')
  rw[List.length_append]
  exact this
 ·rw[List.length_append,List.flatMap_append]
  exact aj hown (ax hown hbox (by decide)) _
 ·have h1:=hg.size
  have h2:=h.room
  simp
  omega
 ·intro y hy
  rcases List.mem_append.1 hy with hy|hy
  ·exact h.dat y hy
  ·rw[List.mem_singleton.1 hy]
   exact hd
theorem OwM.offW{x:MV}{m:Cf.Mod}(h:OwM B w x m){g':Nat}{t:TypeId}{cs:List Value}(hg:Wb w g' t cs)(h1:ET≠t)(h2:fD≠t)(i:Nat)(u:Value):OwM B (w.setCell ⟨g',i,none⟩ u) x m:=
 ⟨h.1,h.2.1,h.2.2.1,h.2.2.2.1.offW hg h1 i u,h.2.2.2.2.offW hg h2 i u⟩
theorem OwP.offW{x:PV}{m:Cf.dR}(h:OwP B w x m){g':Nat}{t:TypeId}{cs:List Value}(hg:Wb w g' t cs)(h1:fP≠t)(i:Nat)(u:Value):OwP B (w.setCell ⟨g',i,none⟩ u) x m:=
 ⟨h.1,h.2.1,h.2.2.1.offW hg h1 i u,h.2.2.2⟩
theorem jD{α:Type}{l:List α}{i:Nat}{x:α}(h:l[i]?=some x):l.set i x=l:=by
 obtain⟨hi,rfl⟩:=List.getElem?_eq_some_iff.1 h
 exact List.set_getElem_self hi
theorem Nw.put{α:Type}{sz:Nat}{enc:α→List Value}{t:TypeId}{l:List α}{gN:Nat}(h:Nw sz enc w t B (some ⟨gN,0,none⟩) l){i j:Nat}{x x':α}{u:Value}(hx:l[i]?=some x)(hj:j<sz)(he:enc x'=(enc x).set j u):Nw sz enc (w.setCell ⟨gN,i*sz+j,none⟩ u) t B (some ⟨gN,0,none⟩) (l.set i x'):=by
 rcases h with rfl|⟨g',h1,h2,h3⟩
 ·simp at hx
 ·cases h1
  exact .inr ⟨gN,rfl,h2,h3.put hx hj he⟩
theorem Nw.box_{α:Type}{sz:Nat}{enc:α→List Value}{t:TypeId}{l:List α}{gN:Nat}(h:Nw sz enc w t B (some ⟨gN,0,none⟩) l){i:Nat}{x:α}(hx:l[i]?=some x):B≤gN∧∃cs,Wb w gN t cs:=by
 rcases h with rfl|⟨g',h1,h2,h3⟩
 ·simp at hx
 ·cases h1
  exact⟨h2,h3.2.elim fun p hp=>⟨_,hp⟩⟩
theorem Nw.at_{α:Type}{sz:Nat}{enc:α→List Value}{t:TypeId}{A:Option Addr}{l:List α}(h:Nw sz enc w t B A l){i:Nat}{x:α}(hx:l[i]?=some x):∃gN,A=some ⟨gN,0,none⟩∧B≤gN∧gN<w.heap.size∧Bk sz enc w gN t l:=by
 rcases h with rfl|⟨g',h1,h2,h3⟩
 ·simp at hx
 ·exact⟨g',h1,h2,h3.lt,h3⟩
theorem CpS.setNode(h:CpS B wb g a xs mods mem nodes pipes ps w){gN:Nat}(ha:a.N=some ⟨gN,0,none⟩){i j:Nat}{x:Cf.Node}{u:Value}(hx:nodes[i]?=some x)(hj:j<4)(he:dA x=(dA x).set j u):CpS B wb g a xs mods mem nodes pipes ps (w.setCell ⟨gN,i*4+j,none⟩ u):=by
 have hn:=h.nodes
 rw[ha]at hn
 obtain⟨hB,cs,hw⟩:=hn.box_ hx
 have hne:g≠gN:=h.box.other hw (by decide)
 refine⟨h.box.off_ hne _,aj h.row (ax h.row hw (by decide)) _,h.each.mono fun _ _ h=>h.offW hw (by decide) (by decide) _ _,h.mem.offW hw (by decide) _ _,?_,h.pipes.offW hw (by decide) _ _,h.procs.offW hw (by decide) _ _,h.lo,by simp[h.room],h.keep.setCell hB _,h.dat,h.capM⟩
 have:=hn.put hx hj he
 rw[jD hx]at this
 rw[ha]
 exact this
theorem CpS.setPipe(h:CpS B wb g a xs mods mem nodes pipes ps w){gN:Nat}(ha:a.S=some ⟨gN,0,none⟩){i:Nat}{x:List UInt8}(hx:pipes[i]?=some x):CpS B wb g a xs mods mem nodes pipes ps (w.setCell ⟨gN,i,none⟩ (.string ⟨x.toArray⟩)):=by
 have hn:=h.pipes
 rw[ha]at hn
 obtain⟨hB,cs,hw⟩:=hn.box_ hx
 have hne:g≠gN:=h.box.other hw (by decide)
 refine⟨h.box.off_ hne _,aj h.row (ax h.row hw (by decide)) _,h.each.mono fun _ _ h=>h.offW hw (by decide) (by decide) _ _,h.mem.offW hw (by decide) _ _,h.nodes.offW hw (by decide) _ _,?_,h.procs.offW hw (by decide) _ _,h.lo,by simp[h.room],h.keep.setCell hB _,h.dat,h.capM⟩
 have:=hn.put hx (Nat.zero_lt_one) (x':=x) (u:=.string ⟨x.toArray⟩) rfl
 rw[jD hx,Nat.mul_one,Nat.add_zero]at this
 rw[ha]
 exact this
theorem CpS.setProc(h:CpS B wb g a xs mods mem nodes pipes ps w){gN:Nat}(ha:a.Q=some ⟨gN,0,none⟩){i:Nat}{x:PV}(hx:ps[i]?=some x)(A':Option Addr)(c':Nat):CpS B wb g a xs mods mem nodes pipes (ps.set i ⟨x.live,A',x.le,c'⟩) (w.setCell ⟨gN,i*2+1,none⟩ (.slice A' x.le c')):=by
 have hn:=h.procs
 rw[ha]at hn
 obtain⟨hB,cs,hw⟩:=hn.box_ hx
 have hne:g≠gN:=h.box.other hw (by decide)
 refine⟨?_,aj h.row (ax h.row hw (by decide)) _,h.each.mono fun _ _ h=>h.offW hw (by decide) (by decide) _ _,h.mem.offW hw (by decide) _ _,h.nodes.offW hw (by decide) _ _,h.pipes.offW hw (by decide) _ _,?_,h.lo,by simp[h.room],h.keep.setCell hB _,h.dat,h.capM⟩
 ·rw[List.length_set]
  exact h.box.off_ hne _
 ·rw[ha]
  exact hn.put hx (by omega) rfl
end
structure CpQ(B:Nat)(wb:World)(g:Nat)(a:KA)(xs:List MV)(k:Cf.ag)(n:Nat)(ps:List PV)(w:World):Prop where
 st:CpS B wb g a xs k.mods k.mem k.nodes k.pipes ps w
 len:ps.length=k.procs.length
 done:∀(i:Nat) (x:PV) (p:Cf.dR),ps[i]?=some x→k.procs[i]?=some p→i<n→OwP B w x p
 todo:∀(i:Nat) (x:PV) (p:Cf.dR),ps[i]?=some x→k.procs[i]?=some p→n≤i→IsP wb x p
 apart:∀(i j:Nat) (x y:PV),ps[i]?=some x→ps[j]?=some y→i<n→j<n→i≠j→x.le=0∨y.le=0∨x.A≠y.A
theorem CpQ.next{B:Nat}{wb:World}{g:Nat}{a:KA}{xs:List MV}{k:Cf.ag}{n:Nat}{ps:List PV}{w w1:World}(h:CpQ B wb g a xs k n ps w)(hb:Below w.heap.size w w1){gN:Nat}(ha:a.Q=some ⟨gN,0,none⟩){x:PV}{p:Cf.dR}(hx:ps[n]?=some x)(hp:k.procs[n]?=some p){A':Option Addr}{c':Nat}(hN:Nw 3 bH w1 fP w.heap.size A' p.ends)(hc:p.ends.length≤c'):
  CpQ B wb g a xs k (n+1) (ps.set n ⟨x.live,A',x.le,c'⟩) (w1.setCell ⟨gN,n*2+1,none⟩ (.slice A' x.le c')):=by
 have h1:=h.st.below hb
 obtain⟨e1,e2,_⟩:=h.todo n x p hx hp (Nat.le_refl _)
 have hn:=h1.procs
 rw[ha]at hn
 obtain⟨hB,cs,hw⟩:=hn.box_ hx
 refine⟨h1.setProc ha hx A' c',by rw[List.length_set];exact h.len,?_,?_,?_⟩
 ·intro i y q hy hq hi
  rw[List.getElem?_set]at hy
  split at hy
  ·rename_i hni
   subst hni
   split at hy
   ·simp at hy
    subst hy
    obtain rfl:=Option.some.inj (hp.symm.trans hq)
    exact⟨e1,e2,(hN.mono h.st.room).offW hw (by decide) _ _,by rw[e2];exact hc⟩
   ·cases hy
  ·rename_i hni
   exact((h.done i y q hy hq (by omega)).below hb).offW hw (by decide) _ _
 ·intro i y q hy hq hi
  rw[List.getElem?_set,if_neg (by omega)]at hy
  exact h.todo i y q hy hq (by omega)
 ·have key:∀(j:Nat) (y:PV),ps[j]?=some y→j<n→y.le=0∨x.le=0∨y.A≠A':=by
   intro j y hy hj
   obtain⟨q,hq⟩:∃q,k.procs[j]?=some q:=⟨_,List.getElem?_eq_getElem (by rw[← h.len];exact(List.getElem?_eq_some_iff.1 hy).1)⟩
   obtain⟨_,f2,f3,_⟩:=h.done j y q hy hq hj
   rcases f3 with f3|⟨b,f3,_,f4⟩
   ·exact .inl (by rw[f2,f3];rfl)
   ·rcases hN with hN|⟨b',hN,hb',_⟩
    ·exact .inr (.inl (by rw[e2,hN];rfl))
    ·refine .inr (.inr ?_)
     rw[f3,hN]
     intro he
     cases he
     have:=f4.lt
     omega
  intro i j y z hy hz hi hj hij
  rw[List.getElem?_set]at hy hz
  split at hy
  ·rename_i hni
   subst hni
   rw[if_neg hij]at hz
   split at hy
   ·simp at hy
    subst hy
    rcases key j z hz (by omega) with h0|h0|h0
    ·exact .inr (.inl h0)
    ·exact .inl h0
    ·exact .inr (.inr (Ne.symm h0))
   ·cases hy
  ·split at hz
   ·split at hz
    ·simp at hz
     subst hz
     exact key i y hy (by omega)
    ·cases hz
   ·exact h.apart i j y z hy hz (by omega) (by omega) hij
structure nU(B:Nat)(a:KA)(xs:List MV)(ps:List PV)(k:Cf.ag)(w:World):Prop where
 row:w.ownsRow B jk 3 (.slice a.A xs.length a.ca) xs.length (xs.flatMap eG)
 each:Each (OwM B w) xs k.mods
 mem:Nw 1 encZ w fD B a.M k.mem
 nodes:Nw 4 dA w bu B a.N k.nodes
 pipes:Nw 1 iC w lX B a.S k.pipes
 procs:Nw 2 bG w jL B a.Q ps
 ends:Each (OwP B w) ps k.procs
 apart:∀(i j:Nat) (x y:PV),ps[i]?=some x→ps[j]?=some y→i≠j→x.le=0∨y.le=0∨x.A≠y.A
 dat:∀x∈xs,x.ld=0∨k.mem=[]∨x.B≠a.M
 capM:k.mem.length≤a.cm
theorem rC{w:World}{B:Nat}{e:TypeId}{size:Nat}{A:Option Addr}{n c:Nat}{xs:List Value}(h:w.ownsRow B e size (.slice A n c) n xs):n≤c:=by
 rcases h.2 with ⟨_,h0⟩|⟨g,cap,cur,hv,_,_,hn,_⟩
 ·omega
 ·cases hv
  exact hn
theorem OwM.is{B:Nat}{w:World}{x:MV}{m:Cf.Mod}(h:OwM B w x m):IsM w x m∧dN B x.A m.code∧dN B x.B m.data:=⟨⟨h.1,h.2.1,h.2.2.1,h.2.2.2.1.rd,h.2.2.2.2.rd⟩,h.2.2.2.1.fresh,h.2.2.2.2.fresh⟩
theorem OwP.is{B:Nat}{w:World}{x:PV}{m:Cf.dR}(h:OwP B w x m):IsP w x m∧dN B x.A m.ends:=⟨⟨h.1,h.2.1,h.2.2.1.rd⟩,h.2.2.1.fresh⟩
theorem OwM.old{B:Nat}{w:World}{x:MV}{m:Cf.Mod}(h:OwM B w x m){p:Addr}(hp:p.block<B)(u:Value):OwM B (w.setCell p u) x m:=⟨h.1,h.2.1,h.2.2.1,h.2.2.2.1.old hp u,h.2.2.2.2.old hp u⟩
theorem OwP.old{B:Nat}{w:World}{x:PV}{m:Cf.dR}(h:OwP B w x m){p:Addr}(hp:p.block<B)(u:Value):OwP B (w.setCell p u) x m:=⟨h.1,h.2.1,h.2.2.1.old hp u,h.2.2.2⟩
theorem OwM.mono{B B':Nat}{w:World}{x:MV}{m:Cf.Mod}(h:OwM B w x m)(hB:B'≤B):OwM B' w x m:=⟨h.1,h.2.1,h.2.2.1,h.2.2.2.1.mono hB,h.2.2.2.2.mono hB⟩
theorem OwP.mono{B B':Nat}{w:World}{x:PV}{m:Cf.dR}(h:OwP B w x m)(hB:B'≤B):OwP B' w x m:=⟨h.1,h.2.1,h.2.2.1.mono hB,h.2.2.2⟩
theorem Gq{w:World}{B B':Nat}{e:TypeId}{size:Nat}{v:Value}{n:Nat}{xs:List Value}(h:w.ownsRow B e size v n xs)(hB:B'≤B):w.ownsRow B' e size v n xs:=by
 refine⟨h.1,?_⟩
 rcases h.2 with h2|⟨g,cap,cur,hv,hg,r⟩
 ·exact .inl h2
 ·exact .inr ⟨g,cap,cur,hv,Nat.le_trans hB hg,r⟩
theorem nU.mono{B B':Nat}{a:KA}{xs:List MV}{ps:List PV}{k:Cf.ag}{w:World}(h:nU B a xs ps k w)(hB:B'≤B):nU B' a xs ps k w:=
 ⟨Gq h.row hB,h.each.mono fun _ _ h=>h.mono hB,h.mem.mono hB,h.nodes.mono hB,h.pipes.mono hB,h.procs.mono hB,h.ends.mono fun _ _ h=>h.mono hB,h.apart,h.dat,h.capM⟩
theorem nU.below{B:Nat}{a:KA}{xs:List MV}{ps:List PV}{k:Cf.ag}{w w':World}(h:nU B a xs ps k w)(hb:Below w.heap.size w w'):nU B a xs ps k w':=
 ⟨own_below h.row hb,h.each.mono fun _ _ h=>h.below hb,h.mem.below hb,h.nodes.below hb,h.pipes.below hb,h.procs.below hb,h.ends.mono fun _ _ h=>h.below hb,h.apart,h.dat,h.capM⟩
theorem nU.old{B:Nat}{a:KA}{xs:List MV}{ps:List PV}{k:Cf.ag}{w:World}(h:nU B a xs ps k w){p:Addr}(hp:p.block<B)(u:Value):nU B a xs ps k (w.setCell p u):=
 ⟨aj h.row (fun he=>by have:=bZ h.row _ he;omega) u,h.each.mono fun _ _ h=>h.old hp u,h.mem.old hp u,h.nodes.old hp u,h.pipes.old hp u,h.procs.old hp u,h.ends.mono fun _ _ h=>h.old hp u,h.apart,h.dat,h.capM⟩
theorem nU.new_{B:Nat}{a:KA}{xs:List MV}{ps:List PV}{k:Cf.ag}{w:World}(h:nU B a xs ps k w):kW B w a k:=
 ⟨⟨xs,⟨jm iT h.row,iQ h.row rfl⟩,h.each.mono fun _ _ h=>h.is⟩,⟨h.mem.rd,h.mem.fresh⟩,⟨h.nodes.rd,h.nodes.fresh⟩,⟨h.pipes.rd,h.pipes.fresh⟩,⟨ps,⟨h.procs.rd,h.procs.fresh⟩,h.ends.mono fun _ _ h=>h.is⟩,by rw[← h.each.1];exact rC h.row,h.capM⟩
def KCp(k:Cf.ag)(w:World)(e:Ending)(w':World):Prop:=∃(a:KA) (xs:List MV) (ps:List PV),e = .returned (.agg (af a k).toArray)∧nU w.heap.size a xs ps k w'∧Below w.heap.size w w'
theorem CpQ.own{B:Nat}{wb:World}{g:Nat}{a:KA}{xs:List MV}{k:Cf.ag}{ps:List PV}{w:World}(h:CpQ B wb g a xs k k.procs.length ps w):nU B a xs ps k w:=
 ⟨h.st.row,h.st.each,h.st.mem,h.st.nodes,h.st.pipes,h.st.procs,⟨h.len,fun i x y hx hy=>h.done i x y hx hy (List.getElem?_eq_some_iff.1 hy).1⟩,fun i j x y hx hy hij=>h.apart i j x y hx hy (by rw[← h.len];exact(List.getElem?_eq_some_iff.1 hx).1) (by rw[← h.len];exact(List.getElem?_eq_some_iff.1 hy).1) hij,h.st.dat,h.st.capM⟩
theorem zh:∀x,∀u∈eG x,u.oneCell'=true:=by
 intro x u hu
 simp[eG]at hu
 rcases hu with rfl|rfl|rfl<;>rfl
theorem yZ(w:World)(t:TypeId)(x:MV):RdS 3 eG (w.alloc (.cells #[.string ⟨x.name.toArray⟩,.slice x.A x.lc x.ca,.slice x.B x.ld x.cb] t)) (some ⟨w.heap.size,0,none⟩) [x]:=
 .inr ⟨w.heap.size,0,rfl,by simp,fun k y hy j u hu=>by
  cases k with
  | succ k=>simp at hy
  | zero=>
    simp at hy
    subst hy
    have h:=(Wb.new w t (eG x)).cell j
    rw[hu]at h
    simpa [eG] using h⟩
theorem D8:(Tryz.prog.info? 79).map (fun i=>(i.zero,i.size,i.bytes))=some (some (.agg #[.string ⟨#[]⟩,.slice none 0 0,.slice none 0 0]),3,64):=by kernel_rfl
end
section
open Go.RowKit
structure KSt(B:Nat)(wb:World)(g:Nat)(a:KA)(xs:List MV)(ps:List PV)(k:Cf.ag)(w:World):Prop where
 box:Wb w g ae (af a k)
 own:nU B a xs ps k w
 lo:B≤g
 keep:Below B wb w
def A8(B:Nat)(wb:World)(g:Nat)(k:Cf.ag)(w:World):Prop:=∃a:KA,Wb w g ae (af a k)∧kW B w a k∧Below B wb w
section
variable {B:Nat} {wb:World} {g:Nat} {a:KA} {xs:List MV} {ps:List PV} {k:Cf.ag} {w w':World}
theorem KSt.room(h:KSt B wb g a xs ps k w):B≤w.heap.size:=Nat.le_trans h.lo (Nat.le_of_lt h.box.lt)
theorem KSt.ptr(h:KSt B wb g a xs ps k w):jc w g a k:=⟨h.box,h.own.new_.rd⟩
theorem KSt.aft(h:KSt B wb g a xs ps k w):A8 B wb g k w:=⟨a,h.box,h.own.new_,h.keep⟩
theorem KSt.below(h:KSt B wb g a xs ps k w)(hb:Below w.heap.size w w'):KSt B wb g a xs ps k w':=⟨h.box.below hb h.box.lt,h.own.below hb,h.lo,h.keep.trans (hb.mono h.room)⟩
theorem A8.below(h:A8 B wb g k w)(hb:Below w.heap.size w w')(hB:B≤w.heap.size):A8 B wb g k w':=by
 obtain⟨a,h1,h2,h3⟩:=h
 exact⟨a,h1.below hb h1.lt,h2.below hb,h3.trans (hb.mono hB)⟩
theorem Each.offE{t:TypeId}{cs:List Value}{g':Nat}(h:Each (OwP B w) ps k.procs)(hg:Wb w g' t cs)(h1:fP≠t)(i:Nat)(u:Value):Each (OwP B (w.setCell ⟨g',i,none⟩ u)) ps k.procs:=h.mono fun _ _ h=>h.offW hg h1 i u
theorem Each.offM{t:TypeId}{cs:List Value}{g':Nat}(h:Each (OwM B w) xs k.mods)(hg:Wb w g' t cs)(h1:ET≠t)(h2:fD≠t)(i:Nat)(u:Value):Each (OwM B (w.setCell ⟨g',i,none⟩ u)) xs k.mods:=h.mono fun _ _ h=>h.offW hg h1 h2 i u
theorem KSt.putN(h:KSt B wb g a xs ps k w){gN:Nat}(ha:a.N=some ⟨gN,0,none⟩){i j:Nat}{x x':Cf.Node}{u:Value}(hx:k.nodes[i]?=some x)(hj:j<4)(he:dA x'=(dA x).set j u):
  KSt B wb g a xs ps ⟨k.mods,k.mem,k.nodes.set i x',k.pipes,k.procs⟩ (w.setCell ⟨gN,i*4+j,none⟩ u):=by
 have hn:=h.own.nodes
 rw[ha]at hn
 obtain⟨hB,cs,hw⟩:=hn.box_ hx
 have hne:g≠gN:=h.box.other hw (by decide)
 refine⟨?_,⟨aj h.own.row (ax h.own.row hw (by decide)) _,h.own.each.offM hw (by decide) (by decide) _ _,h.own.mem.offW hw (by decide) _ _,?_,h.own.pipes.offW hw (by decide) _ _,h.own.procs.offW hw (by decide) _ _,h.own.ends.offE hw (by decide) _ _,h.own.apart,h.own.dat,h.own.capM⟩,h.lo,h.keep.setCell hB _⟩
 ·have:af a ⟨k.mods,k.mem,k.nodes.set i x',k.pipes,k.procs⟩=af a k:=by unfold af;simp
  rw[this]
  exact h.box.off_ hne _
 ·rw[ha]
  exact hn.put hx hj he
theorem KSt.putP(h:KSt B wb g a xs ps k w){gN:Nat}(ha:a.S=some ⟨gN,0,none⟩){i:Nat}{x:List UInt8}(x':List UInt8)(hx:k.pipes[i]?=some x):
  KSt B wb g a xs ps ⟨k.mods,k.mem,k.nodes,k.pipes.set i x',k.procs⟩ (w.setCell ⟨gN,i,none⟩ (.string ⟨x'.toArray⟩)):=by
 have hn:=h.own.pipes
 rw[ha]at hn
 obtain⟨hB,cs,hw⟩:=hn.box_ hx
 have hne:g≠gN:=h.box.other hw (by decide)
 refine⟨?_,⟨aj h.own.row (ax h.own.row hw (by decide)) _,h.own.each.offM hw (by decide) (by decide) _ _,h.own.mem.offW hw (by decide) _ _,h.own.nodes.offW hw (by decide) _ _,?_,h.own.procs.offW hw (by decide) _ _,h.own.ends.offE hw (by decide) _ _,h.own.apart,h.own.dat,h.own.capM⟩,h.lo,h.keep.setCell hB _⟩
 ·have:af a ⟨k.mods,k.mem,k.nodes,k.pipes.set i x',k.procs⟩=af a k:=by unfold af;simp
  rw[this]
  exact h.box.off_ hne _
 ·rw[ha]
  have:=hn.put hx Nat.zero_lt_one (x':=x') (u:=.string ⟨x'.toArray⟩) rfl
  rw[Nat.mul_one,Nat.add_zero]at this
  exact this
theorem KSt.putL(h:KSt B wb g a xs ps k w){gN:Nat}(ha:a.Q=some ⟨gN,0,none⟩){i:Nat}{x:PV}{p:Cf.dR}(b:Bool)(hx:ps[i]?=some x)(hp:k.procs[i]?=some p):
  KSt B wb g a xs (ps.set i ⟨b,x.A,x.le,x.ce⟩) ⟨k.mods,k.mem,k.nodes,k.pipes,k.procs.set i ⟨b,p.ends⟩⟩ (w.setCell ⟨gN,i*2,none⟩ (.bool b)):=by
 have hn:=h.own.procs
 rw[ha]at hn
 obtain⟨hB,cs,hw⟩:=hn.box_ hx
 have hne:g≠gN:=h.box.other hw (by decide)
 refine⟨?_,⟨aj h.own.row (ax h.own.row hw (by decide)) _,h.own.each.offM hw (by decide) (by decide) _ _,h.own.mem.offW hw (by decide) _ _,h.own.nodes.offW hw (by decide) _ _,h.own.pipes.offW hw (by decide) _ _,?_,?_,?_,h.own.dat,h.own.capM⟩,h.lo,h.keep.setCell hB _⟩
 ·have:af a ⟨k.mods,k.mem,k.nodes,k.pipes,k.procs.set i ⟨b,p.ends⟩⟩=af a k:=by unfold af;simp
  rw[this]
  exact h.box.off_ hne _
 ·rw[ha]
  exact hn.put (j:=0) hx (by omega) rfl
 ·have he:=h.own.ends.offE hw (by decide) (i*2) (.bool b)
  obtain⟨_,h2,h3,h4⟩:=he.2 i x p hx hp
  exact he.set i ⟨rfl,h2,h3,h4⟩
 ·intro i1 j1 y z hy hz hij
  have key:∀(q:Nat) (y:PV),(ps.set i ⟨b,x.A,x.le,x.ce⟩)[q]?=some y→∃y0,ps[q]?=some y0∧y.le=y0.le∧y.A=y0.A:=by
   intro q y hy
   rw[List.getElem?_set]at hy
   split at hy
   ·rename_i hq
    subst hq
    split at hy
    ·simp at hy
     subst hy
     exact⟨x,hx,rfl,rfl⟩
    ·cases hy
   ·exact⟨y,hy,rfl,rfl⟩
  obtain⟨y0,hy0,e1,e2⟩:=key i1 y hy
  obtain⟨z0,hz0,e3,e4⟩:=key j1 z hz
  rw[e1,e2,e3,e4]
  exact h.own.apart i1 j1 y0 z0 hy0 hz0 hij
theorem KSt.putE(h:KSt B wb g a xs ps k w){q i j:Nat}{x:PV}{p:Cf.dR}(hx:ps[q]?=some x)(hp:k.procs[q]?=some p){gE:Nat}(ha:x.A=some ⟨gE,0,none⟩){e e':Cf.End}{u:Value}(he:p.ends[i]?=some e)(hj:j<3)(hu:bH e'=(bH e).set j u):
  KSt B wb g a xs ps ⟨k.mods,k.mem,k.nodes,k.pipes,k.procs.set q ⟨p.live,p.ends.set i e'⟩⟩ (w.setCell ⟨gE,i*3+j,none⟩ u):=by
 obtain⟨e1,e2,hn,hcp⟩:=h.own.ends.2 q x p hx hp
 have hn':=hn
 rw[ha]at hn'
 obtain⟨hB,cs,hw⟩:=hn'.box_ he
 have hne:g≠gE:=h.box.other hw (by decide)
 refine⟨?_,⟨aj h.own.row (ax h.own.row hw (by decide)) _,h.own.each.offM hw (by decide) (by decide) _ _,h.own.mem.offW hw (by decide) _ _,h.own.nodes.offW hw (by decide) _ _,h.own.pipes.offW hw (by decide) _ _,h.own.procs.offW hw (by decide) _ _,?_,h.own.apart,h.own.dat,h.own.capM⟩,h.lo,h.keep.setCell hB _⟩
 ·have:af a ⟨k.mods,k.mem,k.nodes,k.pipes,k.procs.set q ⟨p.live,p.ends.set i e'⟩⟩=af a k:=by unfold af;simp
  rw[this]
  exact h.box.off_ hne _
 ·refine⟨by rw[List.length_set];exact h.own.ends.1,fun n y r hy hr=>?_⟩
  rw[List.getElem?_set]at hr
  split at hr
  ·rename_i hq
   subst hq
   split at hr
   ·simp at hr
    subst hr
    obtain rfl:=Option.some.inj (hx.symm.trans hy)
    refine⟨e1,by rw[e2];simp,?_,hcp⟩
    rw[ha]
    exact hn'.put he hj hu
   ·cases hr
  ·rename_i hq
   obtain⟨f1,f2,f3,f9⟩:=h.own.ends.2 n y r hy hr
   refine⟨f1,f2,?_,f9⟩
   by_cases hr0:r.ends=[]
   ·exact .inl hr0
   rcases f3 with f3|⟨gy,f4,f5,f6⟩
   ·exact .inl f3
   ·refine .inr ⟨gy,f4,f5,f6.off_ (p:=⟨gE,i*3+j,none⟩) ?_ u⟩
    intro heq
    have heq':gy=gE:=heq
    rcases h.own.apart q n x y hx hy hq with h0|h0|h0
    ·rw[e2]at h0
     rw[List.eq_nil_of_length_eq_zero h0]at he
     simp at he
    ·rw[f2]at h0
     exact hr0 (List.eq_nil_of_length_eq_zero h0)
    ·rw[ha,f4,heq']at h0
     exact h0 rfl
end
end
end Go.Proofs.YtnnhhbjbdmgpiaaGreatDoor
