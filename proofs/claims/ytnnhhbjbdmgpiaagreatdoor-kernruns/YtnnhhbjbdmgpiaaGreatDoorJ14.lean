/- Texts of the proofs: CpuJ, CpuL2. -/
import Derived.Test.YtnnhhbjbdmgpiaaGreatDoorJ12
import Derived.Test.YtnnhhbjbdmgpiaaGreatDoorJ04
set_option linter.unusedSimpArgs false
set_option linter.unusedVariables false
namespace Go.Proofs.YtnnhhbjbdmgpiaaGreatDoor
set_option maxRecDepth 100000
set_option maxHeartbeats 4000000
open Lib (hid)
section
open Go.RowKit
def nP(o:Cf.Out)(w:World)(e:Ending)(w':World):Prop:=
 ∃(T M:Option Addr) (ct cm:Nat),e = .returned (.tuple #[.agg ((.int .i64 o.fin :: (o.regs.map (Value.int .i64)++[.slice T o.told.length ct,.slice M o.mem.length cm])).toArray),.int .i64 o.err])∧Ints w' T o.told∧Ints w' M o.mem∧Below w.heap.size w w'∧o.mem.length≤cm∧dN w.heap.size M o.mem∧Row w' w.heap.size (.slice M o.mem.length cm) o.mem
theorem Row.cap{w:World}{base n cap:Nat}{A:Option Addr}{l:List Int}(h:Row w base (.slice A n cap) l):l.length≤cap:=by
 rcases h.2 with ⟨_,h0⟩|⟨g,cap',cur,hv,_,_,hn,_⟩
 ·omega
 ·injection hv with _ _ hc
  omega
theorem Row.base{w:World}{b b':Nat}{v:Value}{l:List Int}(h:Row w b v l)(hb:b'≤b):Row w b' v l:=by
 refine⟨h.1,?_⟩
 rcases h.2 with h2|⟨g,cap,cur,hv,hg,r⟩
 ·exact .inl h2
 ·exact .inr ⟨g,cap,cur,hv,Nat.le_trans hb hg,r⟩
theorem rD(l:List Cf.Ins)(regs mem:List Int)(fuel:Int)(h:Cf.jA l regs mem fuel≠0):Cf.runT l regs mem fuel=Cf.sV (Cf.jA l regs mem fuel):=by
 unfold Cf.jA at h ⊢
 unfold Cf.runT
 split
 ·split
  ·split
   ·rename_i h1 h2 h3
    rw[if_pos h1,if_pos h2,if_pos h3]at h
    exact absurd rfl h
   ·rfl
  ·rfl
 ·rfl
theorem oH(l:List Cf.Ins)(regs mem:List Int)(fuel:Int)(h:Cf.jA l regs mem fuel=0):Cf.fault l=0∧mem.length≤1024∧(0≤fuel∧fuel≤20000)∧(∀v∈regs,0≤v∧v≤65535)∧(∀v∈mem,0≤v∧v≤65535) ∧
  Cf.runT l regs mem fuel=⟨(Cf.gY l fuel.toNat ⟨regs,mem,[],[],0⟩).1,(Cf.gY l fuel.toNat ⟨regs,mem,[],[],0⟩).2.regs,(Cf.gY l fuel.toNat ⟨regs,mem,[],[],0⟩).2.told,(Cf.gY l fuel.toNat ⟨regs,mem,[],[],0⟩).2.mem,0⟩:=by
 unfold Cf.jA at h
 unfold Cf.runT
 split at h
 ·rename_i h1
  split at h
  ·rename_i h2
   split at h
   ·rename_i h3
    rw[if_pos h1,if_pos h2,if_pos h3]
    simp only[Bool.and_eq_true,List.all_eq_true,Cf.aV,Cf.inB,decide_eq_true_eq]at h3
    exact⟨h1,h2,h3.1,h3.2.1,h3.2.2,rfl⟩
   ·simp at h
  ·simp at h
 ·rename_i h1
  exact absurd h h1
theorem step_end{l:List Cf.Ins}(hl:l.length≤200){m m':Cf.aZ}{r:Int}(hm:Cf.MOk m)(h:Cf.step l m = .fin r m'):Cf.MOk m'∧r≠0∧0≤r:=by
 unfold Cf.step at h
 cases hi:l[m.pc]? with
 | none=>
   rw[hi]at h
   simp only[Cf.Step.fin.injEq]at h
   obtain⟨rfl,rfl⟩:=h
   exact⟨hm,by omega,by omega⟩
 | some x=>
   rw[hi]at h
   have hpc:m.pc<l.length:=(List.getElem?_eq_some_iff.1 hi).1
   have hm1:Cf.MOk ⟨m.regs,m.mem,m.told,m.back,m.pc+1⟩:=⟨hm.regs,hm.words,hm.mem,hm.told,hm.toldW,hm.back,hm.backs,by show m.pc+1≤200;omega⟩
   simp only at h
   generalize Cf.aZ.mk m.regs m.mem m.told m.back (m.pc+1)=q at hm1 h
   unfold Cf.exec at h
   repeat' split at h
   all_goals first
    | cases h;done
    | (simp only[Cf.Step.fin.injEq]at h;obtain⟨rfl,rfl⟩:=h;exact⟨hm1,by omega,by omega⟩)
def Ce(w:World)(g:Nat):Nat:=match w.cell? ⟨g,13,none⟩ with
 | some (.int _ n)=>n.toNat
 | _=>0
theorem PM.fuel{w:World}{base g:Nat}{A:Option Addr}{n cp:Nat}{m:Cf.aZ}{fuel:Int}(h:PM w base g A n cp m fuel)(hr:m.regs.length=8):Ce w g=fuel.toNat:=by
 obtain⟨vm,vt,vr,hs⟩:=h
 unfold Ce
 rw[(hs.blk.cell 13).trans (dQ hr 4)]
 rfl
theorem Row.low{w:World}{base:Nat}{v:Value}{l:List Int}(h:Row w base v l){p:Addr}(hp:p.block<base)(u:Value):Row (w.setCell p u) base v l:=ownsRow_setCell_below h hp u
def wE(w2:World)(A:Option Addr)(n cl:Nat)(regs mem:List Int)(fuel:Int)(x:Value)(wx:World):Prop:=
 ∃g,x = .pointer (some ⟨g,0,none⟩)∧PM wx w2.heap.size g A n cl ⟨regs,mem,[],[],0⟩ fuel∧Below w2.heap.size w2 wx
theorem St.start{w:World}{base g:Nat}{t:TypeId}{cs:List Value}{v:Value}{mem:List Int}(hb:Wb w g t cs)(hlo:base≤g)(hr:Row w base v mem):St w base g t cs mem [] [] v (.slice none 0 0) (.slice none 0 0):=
 ⟨hb,hlo,hr,World.ownsRow_nil _ _ _ _,World.ownsRow_nil _ _ _ _,(Apart.nil v).symm,(Apart.nil v).symm,Apart.nil _⟩
def uC:List Value:=[.slice none 0 0,.int .i64 0,.int .i64 0,.int .i64 0,.int .i64 0,.int .i64 0,.int .i64 0,.int .i64 0,.int .i64 0,.slice none 0 0,.slice none 0 0,.slice none 0 0,.int .i64 0,.int .i64 0]
abbrev tq:Obj:=.cells #[.slice none 0 0,.int .i64 0,.int .i64 0,.int .i64 0,.int .i64 0,.int .i64 0,.int .i64 0,.int .i64 0,.int .i64 0,.slice none 0 0,.slice none 0 0,.slice none 0 0,.int .i64 0,.int .i64 0] 194
theorem uG:∀x,∀u∈encZ x,u.oneCell'=true:=by
 intro x u hu
 simp[encZ]at hu
 subst hu
 rfl
theorem row_of{w:World}{base:Nat}{v:Value}{l:List Int}(h:w.ownsRow base fD 1 v (0+l.length) ([]++l.flatMap encZ)):Row w base v l:=by
 unfold Row
 rw[qX]
 simpa using h
theorem Jb{w:World}{g:Nat}{t:TypeId}{r0 r1 r2 r3 r4 r5 r6 r7:Int}(h:Wb w g t [.int .i64 r0,.int .i64 r1,.int .i64 r2,.int .i64 r3,.int .i64 r4,.int .i64 r5,.int .i64 r6,.int .i64 r7]):
  w.cell? ⟨g,0,none⟩=some (.int .i64 r0)∧w.cell? ⟨g,1,none⟩=some (.int .i64 r1)∧w.cell? ⟨g,2,none⟩=some (.int .i64 r2)∧w.cell? ⟨g,3,none⟩=some (.int .i64 r3)∧w.cell? ⟨g,4,none⟩=some (.int .i64 r4)∧w.cell? ⟨g,5,none⟩=some (.int .i64 r5)∧w.cell? ⟨g,6,none⟩=some (.int .i64 r6)∧w.cell? ⟨g,7,none⟩=some (.int .i64 r7):=
 ⟨h.cell 0,h.cell 1,h.cell 2,h.cell 3,h.cell 4,h.cell 5,h.cell 6,h.cell 7⟩
theorem NF(w:World)(base:Nat)(hb:base≤w.heap.size):(w.alloc (.cells #[] 3)).drew.ownsRow base 3 1 (.slice (some ⟨w.heap.size,0,none⟩) 0 0) 0 []:=
 (World.ownsRow_made w #[] 0 hb (by unfold maxLen;omega) rfl).drew
theorem Np(w:World)(base:Nat)(o:Obj)(hb:base≤w.heap.size):((w.alloc (.cells #[] 3)).alloc o).drew.ownsRow base 3 1 (.slice (some ⟨w.heap.size,0,none⟩) 0 0) 0 []:=
 (((World.ownsRow_made w #[] 0 hb (by unfold maxLen;omega) rfl).alloc o)).drew
theorem NI(w:World)(base:Nat)(o:Obj)(hb:base≤w.heap.size):((w.alloc o).alloc (.cells #[] 3)).drew.ownsRow base 3 1 (.slice (some ⟨w.heap.size+1,0,none⟩) 0 0) 0 []:=by
 have:=(World.ownsRow_made (base:=base) (e:=3) (size:=1) (w.alloc o) #[] 0 (by simp;omega) (by unfold maxLen;omega) rfl).drew
 simpa using this
theorem JJ{w2 w4:World}{A A':Option Addr}{n cl cap':Nat}{r0 r1 r2 r3 r4 r5 r6 r7 fuel:Int}{mem:List Int}(hb:Below w2.heap.size w2 w4)(hr:Row w4 w2.heap.size (.slice A' (0+mem.length) cap') mem):
  wE w2 A n cl [r0,r1,r2,r3,r4,r5,r6,r7] mem fuel (.pointer (some ⟨w4.heap.size,0,none⟩)) (w4.alloc (.cells #[.slice A n cl,.int .i64 r0,.int .i64 r1,.int .i64 r2,.int .i64 r3,.int .i64 r4,.int .i64 r5,.int .i64 r6,.int .i64 r7,.slice A' mem.length cap',.slice none 0 0,.slice none 0 0,.int .i64 0,.int .i64 fuel] 194)):=by
 rw[Nat.zero_add]at hr
 have hw:=Wb.new w4 194 (tJ A n cl [r0,r1,r2,r3,r4,r5,r6,r7] (.slice A' mem.length cap') (.slice none 0 0) (.slice none 0 0) 0 fuel)
 exact⟨_,rfl,⟨_,_,_,St.start hw hb.size (hr.alloc _)⟩,hb.alloc hb.size _⟩
theorem DX{w2 w4:World}{g:Nat}{A A':Option Addr}{n cl cap':Nat}{r0 r1 r2 r3 r4 r5 r6 r7 fuel:Int}{mem:List Int}(hb:Below w2.heap.size w2 w4)(hr:Row w4 w2.heap.size (.slice A' (0+mem.length) cap') mem)(hw:Wb w4 g 194 uC)(hg:w2.heap.size≤g):
  wE w2 A n cl [r0,r1,r2,r3,r4,r5,r6,r7] mem fuel (.pointer (some ⟨g,0,none⟩)) ((((((((((((((w4.setCell ⟨g,0,none⟩ (.slice A n cl)).setCell ⟨g,1,none⟩ (.int .i64 r0)).setCell ⟨g,2,none⟩ (.int .i64 r1)).setCell ⟨g,3,none⟩ (.int .i64 r2)).setCell ⟨g,4,none⟩ (.int .i64 r3)).setCell ⟨g,5,none⟩ (.int .i64 r4)).setCell ⟨g,6,none⟩ (.int .i64 r5)).setCell ⟨g,7,none⟩ (.int .i64 r6)).setCell ⟨g,8,none⟩ (.int .i64 r7)).setCell ⟨g,9,none⟩ (.slice A' mem.length cap')).setCell ⟨g,10,none⟩ (.slice none 0 0)).setCell ⟨g,11,none⟩ (.slice none 0 0)).setCell ⟨g,12,none⟩ (.int .i64 0)).setCell ⟨g,13,none⟩ (.int .i64 fuel)):=by
 rw[Nat.zero_add]at hr
 have h0:=St.start hw hg hr
 have h1:=((((((((((((((h0.put aY 0 (.slice A n cl)).put aY 1 (.int .i64 r0)).put aY 2 (.int .i64 r1)).put aY 3 (.int .i64 r2)).put aY 4 (.int .i64 r3)).put aY 5 (.int .i64 r4)).put aY 6 (.int .i64 r5)).put aY 7 (.int .i64 r6)).put aY 8 (.int .i64 r7)).put aY 9 (.slice A' mem.length cap')).put aY 10 (.slice none 0 0)).put aY 11 (.slice none 0 0)).put aY 12 (.int .i64 0)).put aY 13 (.int .i64 fuel))
 refine⟨g,rfl,⟨_,_,_,h1⟩,?_⟩
 iterate 14 refine Below.setCell ?_ (by exact hg) _
 exact hb
def LV(l:List Cf.Ins)(m0:Cf.aZ)(f0:Nat)(w2:World)(g:Nat)(A:Option Addr)(cl:Nat)(ev:Value)(wr:World):Prop:=
 ∃(m:Cf.aZ) (k:Nat) (z:Int),ev = .int .i64 z∧0≤z∧k≤20000∧Cf.MOk m∧PM wr w2.heap.size g A l.length cl m k∧Below w2.heap.size w2 wr∧((z=0∧Cf.gY l f0 m0=Cf.gY l k m)∨(z≠0∧Cf.gY l f0 m0=(z,m)))
theorem Ij(l:List Cf.Ins)(A:Option Addr)(cl:Nat)(r0 r1 r2 r3 r4 r5 r6 r7:Int)(mem:List Int)(M:Option Addr)(cm:Nat)(fuel:Int)(w:World)
  (hC:bP w A l) (hL:jW w) (hF:kL w) (hl:l.length≤maxLen) (hI:Ints w M mem) (hm:mem.length≤maxLen):
  Calls Tryz.prog 169 #[.slice A l.length cl,.agg #[.int .i64 r0,.int .i64 r1,.int .i64 r2,.int .i64 r3,.int .i64 r4,.int .i64 r5,.int .i64 r6,.int .i64 r7],.slice M mem.length cm,.int .i64 fuel] w
   (nP (Cf.runT l [r0,r1,r2,r3,r4,r5,r6,r7] mem fuel) w):=by
 obtain⟨w2,hw2⟩:∃w2:World,w2=(w.alloc (.cells #[.int .i64 r0,.int .i64 r1,.int .i64 r2,.int .i64 r3,.int .i64 r4,.int .i64 r5,.int .i64 r6,.int .i64 r7] 171)).alloc
  (.cells #[.int .i64 0,.int .i64 0,.int .i64 0,.int .i64 0,.int .i64 0,.int .i64 0,.int .i64 0,.int .i64 0,.int .i64 0,.slice none 0 0,.slice none 0 0] 175):=⟨_,rfl⟩
 have hz2:w2.heap.size=w.heap.size+2:=by rw[hw2];simp
 have hb2:Below w.heap.size w w2:=by rw[hw2];exact((Below.refl _ _).alloc (Nat.le_refl _) _).alloc (by simp) _
 have k5:Wb w2 w.heap.size 171 [.int .i64 r0,.int .i64 r1,.int .i64 r2,.int .i64 r3,.int .i64 r4,.int .i64 r5,.int .i64 r6,.int .i64 r7]:=by rw[hw2];exact(Wb.new w _ [_,_,_,_,_,_,_,_]).alloc _
 have k8:Wb w2 (w.heap.size+1) 175 [.int .i64 0,.int .i64 0,.int .i64 0,.int .i64 0,.int .i64 0,.int .i64 0,.int .i64 0,.int .i64 0,.int .i64 0,.slice none 0 0,.slice none 0 0]:=by
  rw[hw2]
  have:=Wb.new (w.alloc (.cells #[.int .i64 r0,.int .i64 r1,.int .i64 r2,.int .i64 r3,.int .i64 r4,.int .i64 r5,.int .i64 r6,.int .i64 r7] 171)) 175 [.int .i64 0,.int .i64 0,.int .i64 0,.int .i64 0,.int .i64 0,.int .i64 0,.int .i64 0,.int .i64 0,.int .i64 0,.slice none 0 0,.slice none 0 0]
  simpa using this
 have Hw2:=hid hw2
 have Hz2:=hid hz2
 have HK:=hid (Fp l A cl r0 r1 r2 r3 r4 r5 r6 r7 mem M cm fuel w2 (hC.below hb2) (hL.below hb2) (hF.below hb2) hl (hI.below hb2) hm)
 clear hw2 hz2
 by_cases he:Cf.jA l [r0,r1,r2,r3,r4,r5,r6,r7] mem fuel=0
 ·obtain⟨hf,hml,hfu,hrw,hmw,hrun⟩:=oH l _ mem fuel he
  rw[he]at HK
  have HR:=hid hrun
  obtain⟨f0,hf0⟩:=Int.eq_ofNat_of_zero_le hfu.1
  subst hf0
  have hrl:=Cf.gU l hf
  obtain⟨i0,hi,hz0,hz1,hz2⟩:=info_parts uq
  have Hi:=hid hi
  have Hz0:=hid hz0
  have Hz1:=hid hz1
  have Hzb:=hid hz2
  have Hrw:=hid hrw
  have Hmw:=hid hmw
  have Hf:=hid hf
  clear hi hz0 hz1 hz2 hrun he hrw hmw hf
  go_enter Tryz.func169,Tryz.ntmps169
  go_wp2_with fail
  rw[← Hw2.out]
  refine HK.out.mono ?_
  rintro e w3 ⟨rfl,hb3⟩
  have k5':=k5.below hb3 (by rw[Hz2.out];omega)
  have hb4:=hb2.trans (hb3.mono hb2.size)
  have hz3:w.heap.size+2≤w3.heap.size:=by have:=hb3.size;rw[Hz2.out]at this;exact this
  have q0:=k5'.cell 0
  have q1:=k5'.cell 1
  have q2:=k5'.cell 2
  have q3:=k5'.cell 3
  have q4:=k5'.cell 4
  have q5:=k5'.cell 5
  have q6:=k5'.cell 6
  have q7:=k5'.cell 7
  simp only[gq]at q0 q1 q2 q3 q4 q5 q6 q7
  have HI:=hid (hI.below hb4)
  have HK5:=hid k5'
  clear k5' k5 HK
  go_upto_region 4 with fail
  go_cut [11] from 22 to 28 (fun x wx=>wE w2 A l.length cl [r0,r1,r2,r3,r4,r5,r6,r7] mem f0 x wx)
  case first=>
   have HB3:=hid hb3.size
   have hn3:w3.heap.size≠w.heap.size:=by omega
   have NQ:w3.heap.size+1≠w.heap.size:=by omega
   have HBa:=hid (show Below w3.heap.size w3 (w3.alloc (.cells #[] 3)).drew from((Below.refl _ _).alloc (Nat.le_refl _) _).drew)
   have HBb:=hid (show Below w3.heap.size w3 ((w3.alloc (.cells #[] 3)).alloc tq).drew from(((Below.refl _ _).alloc (Nat.le_refl _) _).alloc (by simp) _).drew)
   have HBc:=hid (show Below w3.heap.size w3 ((w3.alloc tq).alloc (.cells #[] 3)).drew from(((Below.refl _ _).alloc (Nat.le_refl _) _).alloc (by simp) _).drew)
   have HMb:=hid (show Wb ((w3.alloc (.cells #[] 3)).alloc tq).drew (w3.heap.size+1) 194 uC by have:=Wb.new (w3.alloc (.cells #[] 3)) 194 uC;rw[show(w3.alloc (.cells #[] 3)).heap.size=w3.heap.size+1 by simp]at this;exact this)
   have HMc:=hid (show Wb ((w3.alloc tq).alloc (.cells #[] 3)).drew w3.heap.size 194 uC from(Wb.new w3 194 uC).alloc _)
   have HWa:=hid (show Wb (w3.alloc (.cells #[] 3)).drew w.heap.size 171 [.int .i64 r0,.int .i64 r1,.int .i64 r2,.int .i64 r3,.int .i64 r4,.int .i64 r5,.int .i64 r6,.int .i64 r7] from HK5.out.alloc _)
   have HWb:=hid (show Wb ((w3.alloc (.cells #[] 3)).alloc tq).drew w.heap.size 171 [.int .i64 r0,.int .i64 r1,.int .i64 r2,.int .i64 r3,.int .i64 r4,.int .i64 r5,.int .i64 r6,.int .i64 r7] from(HK5.out.alloc _).alloc _)
   have HWc:=hid (show Wb ((w3.alloc tq).alloc (.cells #[] 3)).drew w.heap.size 171 [.int .i64 r0,.int .i64 r1,.int .i64 r2,.int .i64 r3,.int .i64 r4,.int .i64 r5,.int .i64 r6,.int .i64 r7] from(HK5.out.alloc _).alloc _)
   go_region_held3 (fun W=>W.cell? ⟨w.heap.size,0,none⟩=some (.int .i64 r0)∧W.cell? ⟨w.heap.size,1,none⟩=some (.int .i64 r1)∧W.cell? ⟨w.heap.size,2,none⟩=some (.int .i64 r2)∧W.cell? ⟨w.heap.size,3,none⟩=some (.int .i64 r3)∧W.cell? ⟨w.heap.size,4,none⟩=some (.int .i64 r4)∧W.cell? ⟨w.heap.size,5,none⟩=some (.int .i64 r5)∧W.cell? ⟨w.heap.size,6,none⟩=some (.int .i64 r6)∧W.cell? ⟨w.heap.size,7,none⟩=some (.int .i64 r7))
    (first|go_keep|(go_split_ands;refine⟨?_,?_,?_,?_,?_,?_,?_,?_⟩<;>(rw[Hgr.out.cell_far _ (by simp;omega) (by simp[Value.ownBlock];omega)];assumption))|(refine⟨?_,?_,?_,?_,?_,?_,?_,?_⟩<;>go_keep)|exact Jb (HW5.out.alloc _))
    (first
      | (refine aU (by rfl) _ _ _ (by rfl) w2.heap.size 3 i0 (.int .i64 0) 1 8 Tryz.underlying23 Hi.out Hz0.out Hz1.out Hzb.out rfl (by omega) dL uG _ 0 [] (by rfl) (NF w3 w2.heap.size HB3.out) M cm mem (by rfl) (RdS.below HI.out HBa.out) (by omega) (by omega) (by simp;exact Nat.le_succ_of_le HB3.out) ?_;intro v' w4 hown hgr hat;have mi:=hid (row_of hown);obtain⟨A',cap',rfl⟩:=aP hown;have HW5:=hid (HWa.out.grown hgr (by simp[Value.ownBlock];omega));have hn4:w4.heap.size≠w.heap.size:=(by have:=hgr.size;simp at this;omega);have Hgr:=hid hgr;have Hat:=hid hat;clear hown hgr hat)
      | (refine aU (by rfl) _ _ _ (by rfl) w2.heap.size 3 i0 (.int .i64 0) 1 8 Tryz.underlying23 Hi.out Hz0.out Hz1.out Hzb.out rfl (by omega) dL uG _ 0 [] (by rfl) (Np w3 w2.heap.size tq HB3.out) M cm mem (by rfl) (RdS.below HI.out HBb.out) (by omega) (by omega) (by simp;exact Nat.le_succ_of_le (Nat.le_succ_of_le HB3.out)) ?_;intro v' w4 hown hgr hat;have mi:=hid (row_of hown);obtain⟨A',cap',rfl⟩:=aP hown;have HW5:=hid (HWb.out.grown hgr (by simp[Value.ownBlock];omega));have HB:=HMb.out.grown hgr (by simp[Value.ownBlock]);have m0:=HB.cell 0;have m1:=HB.cell 1;have m2:=HB.cell 2;have m3:=HB.cell 3;have m4:=HB.cell 4;have m5:=HB.cell 5;have m6:=HB.cell 6;have m7:=HB.cell 7;have m8:=HB.cell 8;have m9:=HB.cell 9;have m10:=HB.cell 10;have m11:=HB.cell 11;have m12:=HB.cell 12;have m13:=HB.cell 13;simp only[uC,gq]at m0 m1 m2 m3 m4 m5 m6 m7 m8 m9 m10 m11 m12 m13;have mf:=HB.open_;have HBm:=hid HB;have Hgr:=hid hgr;have Hat:=hid hat;clear hown hgr hat HB)
      | (refine aU (by rfl) _ _ _ (by rfl) w2.heap.size 3 i0 (.int .i64 0) 1 8 Tryz.underlying23 Hi.out Hz0.out Hz1.out Hzb.out rfl (by omega) dL uG _ 0 [] (by rfl) (NI w3 w2.heap.size tq HB3.out) M cm mem (by rfl) (RdS.below HI.out HBc.out) (by omega) (by omega) (by simp;exact Nat.le_succ_of_le (Nat.le_succ_of_le HB3.out)) ?_;intro v' w4 hown hgr hat;have mi:=hid (row_of hown);obtain⟨A',cap',rfl⟩:=aP hown;have HW5:=hid (HWc.out.grown hgr (by simp[Value.ownBlock];omega));have HB:=HMc.out.grown hgr (by simp[Value.ownBlock]);have m0:=HB.cell 0;have m1:=HB.cell 1;have m2:=HB.cell 2;have m3:=HB.cell 3;have m4:=HB.cell 4;have m5:=HB.cell 5;have m6:=HB.cell 6;have m7:=HB.cell 7;have m8:=HB.cell 8;have m9:=HB.cell 9;have m10:=HB.cell 10;have m11:=HB.cell 11;have m12:=HB.cell 12;have m13:=HB.cell 13;simp only[uC,gq]at m0 m1 m2 m3 m4 m5 m6 m7 m8 m9 m10 m11 m12 m13;have mf:=HB.open_;have HBm:=hid HB;have Hgr:=hid hgr;have Hat:=hid hat;clear hown hgr hat HB))
   ·go_wp2_with fail
    go_meet
    exact JJ ((hb3.trans ((HBa.out).mono HB3.out)).grown Hgr.out (by simp;exact Nat.le_succ_of_le HB3.out) (fun k hk=>by simp[Value.ownBlock]at hk;subst hk;exact HB3.out)) mi.out
   ·go_wp2_with fail
    go_meet
    exact DX ((hb3.trans ((HBb.out).mono HB3.out)).grown Hgr.out (by simp;exact Nat.le_succ_of_le (Nat.le_succ_of_le HB3.out)) (fun k hk=>by simp[Value.ownBlock]at hk;subst hk;exact HB3.out)) mi.out HBm.out (Nat.le_succ_of_le HB3.out)
   ·go_wp2_with fail
    go_meet
    exact DX ((hb3.trans ((HBc.out).mono HB3.out)).grown Hgr.out (by simp;exact Nat.le_succ_of_le (Nat.le_succ_of_le HB3.out)) (fun k hk=>by simp[Value.ownBlock]at hk;subst hk;exact Nat.le_succ_of_le HB3.out)) mi.out HBm.out HB3.out
  case rest=>
   obtain⟨g,rfl,hPM,hbc⟩:=hcut
   have HC2:=hid (hC.below hb2)
   have HPM:=hid hPM
   have Hbc:=hid hbc
   have hm0:Cf.MOk ⟨[r0,r1,r2,r3,r4,r5,r6,r7],mem,[],[],0⟩:=⟨rfl,Hrw.out,Hmw.out,by simp,by simp,by simp,by simp,by simp⟩
   have Hm0:=hid hm0
   have Hk8:=hid k8
   clear hPM hbc hm0 q0 q1 q2 q3 q4 q5 q6 q7 HK5 k8 hb3 hb4 HI
   go_wp2
   go_loopw [12] (fun ev wr=>LV l ⟨[r0,r1,r2,r3,r4,r5,r6,r7],mem,[],[],0⟩ f0 w2 g A cl ev wr) (fun ev wr=>2*Ce wr g+(1-(intOf ev).toNat))
   case atStart=>exact⟨_,f0,0,rfl,by omega,by omega,Hm0.out,HPM.out,Hbc.out,.inl ⟨rfl,rfl⟩⟩
   case round=>
    obtain⟨m,k,z,rfl,hz0,hk,hok,hP,hbr,hor⟩:=hrel
    rcases hor with ⟨rfl,hrun⟩|⟨hzne,hrun⟩
    ·have iD:=hid hrun
     have Hok:=hid hok
     clear hrun hok
     cases k with
     | zero=>
       go_wp2_with fail
       refine(FI m Hok.out wr w2.heap.size g A l.length cl hP).mono ?_
       rintro e w5 ⟨rfl,h2,h3⟩
       go_wp2
       go_roundw
       case rel=>exact⟨m,0,2,rfl,by omega,by omega,Hok.out,h2,hbr.trans h3,.inr ⟨by omega,by rw[iD.out];rfl⟩⟩
       case measure=>
        rw[h2.fuel Hok.out.regs,hP.fuel Hok.out.regs]
        simp[intOf,Cf.Step.code]
     | succ k=>
       rw[show((k+1:Nat):Int)=(k:Int)+1 by omega]at hP
       have hlow:=hP.fuel Hok.out.regs
       have ML:=hid hlow
       clear hlow
       go_wp2_with fail
       refine(FX l (by have:=Hf.out;unfold Cf.fault at this;rwa [if_neg (by omega)]at this) hrl m Hok.out k (by omega) w2 wr g A cl HC2.out hbr hP).mono ?_
       rintro e w5 ⟨rfl,h2,h3⟩
       cases hst:Cf.step l m with
       | on m'=>
         rw[hst]at h2
         have hok':=Cf.step_ok (by have:=Hf.out;unfold Cf.fault at this;rwa [if_neg (by omega)]at this) hrl Hok.out hst
         have Hst:=hid hst
         clear hst
         go_wp2
         go_roundw
         case rel=>exact⟨m',k,0,rfl,by omega,by omega,hok',h2,hbr.trans h3,.inl ⟨rfl,by rw[iD.out,Cf.eY l k m m' Hst.out]⟩⟩
         case measure=>
          rw[h2.fuel hok'.regs,ML.out]
          simp[intOf,Cf.Step.code]
       | fin r m'=>
         rw[hst]at h2
         obtain⟨hok',hrne,hr0⟩:=step_end hrl Hok.out hst
         have Hst:=hid hst
         clear hst
         go_wp2
         go_roundw
         case rel=>exact⟨m',k,r,rfl,hr0,by omega,hok',h2,hbr.trans h3,.inr ⟨hrne,by rw[iD.out,Cf.kZ l k m m' r Hst.out]⟩⟩
         case measure=>
          rw[h2.fuel hok'.regs,ML.out]
          simp[intOf,Cf.Step.code]
          omega
    ·have hzb:(z == 0)=false:=by rw[beq_eq_false_iff_ne];exact hzne
     have iD:=hid hrun
     obtain⟨vm,vt,vr,hs⟩:=hP
     obtain⟨T,ct,rfl⟩:=hs.told.form
     obtain⟨M',cm',rfl⟩:=hs.mem.form
     obtain⟨regs,mem',told,back,pc⟩:=m
     obtain⟨Md,hwords,hmemw,htold,htoldw,hback,hbacks,hpc⟩:=hok
     dsimp only at Md hs htold
     match regs,Md with
     | [s0,s1,s2,s3,s4,s5,s6,s7],_=>
       have p1:wr.cell? ⟨g,1,none⟩=some (.int .i64 s0):=hs.blk.cell 1
       have p2:wr.cell? ⟨g,2,none⟩=some (.int .i64 s1):=hs.blk.cell 2
       have p3:wr.cell? ⟨g,3,none⟩=some (.int .i64 s2):=hs.blk.cell 3
       have p4:wr.cell? ⟨g,4,none⟩=some (.int .i64 s3):=hs.blk.cell 4
       have p5:wr.cell? ⟨g,5,none⟩=some (.int .i64 s4):=hs.blk.cell 5
       have p6:wr.cell? ⟨g,6,none⟩=some (.int .i64 s5):=hs.blk.cell 6
       have p7:wr.cell? ⟨g,7,none⟩=some (.int .i64 s6):=hs.blk.cell 7
       have p8:wr.cell? ⟨g,8,none⟩=some (.int .i64 s7):=hs.blk.cell 8
       have p9:wr.cell? ⟨g,9,none⟩=some (.slice M' mem'.length cm'):=hs.blk.cell 9
       have p10:wr.cell? ⟨g,10,none⟩=some (.slice T told.length ct):=hs.blk.cell 10
       have k8r:=Hk8.out.below hbr (by rw[Hz2.out];omega)
       obtain⟨q0,q1,q2,q3,q4,q5,q6,q7,q8,q9,q10,qf, -⟩:=NH k8r
       have Hs:=hid hs
       have hbf:=hb2.trans (hbr.mono hb2.size)
       have Hbf:=hid hbf
       clear hs k8r hbf hbr hrun hzne
       go_wp2
       refine bodyPost_ret (v:=.tuple #[.agg #[.int .i64 z,.int .i64 s0,.int .i64 s1,.int .i64 s2,.int .i64 s3,.int .i64 s4,.int .i64 s5,.int .i64 s6,.int .i64 s7,.slice T told.length ct,.slice M' mem'.length cm'],.int .i64 0]) (by simp[results,Tryz.results169,go_sem,q0,q1,q2,q3,q4,q5,q6,q7,q8,q9,q10]) rfl ?_
       rw[HR.out,Int.toNat_natCast,iD.out]
       refine⟨T,M',ct,cm',rfl,?_,?_,?_,Row.cap Hs.out.mem,(iQ Hs.out.mem rfl).mono (by rw[Hz2.out];omega),?_⟩
       ·refine Row.ints (base:=w2.heap.size) (cap:=ct) ?_
        iterate 11 refine Row.low ?_ (by show w.heap.size+1<w2.heap.size;rw[Hz2.out];omega) _
        exact Hs.out.told
       ·refine Row.ints (base:=w2.heap.size) (cap:=cm') ?_
        iterate 11 refine Row.low ?_ (by show w.heap.size+1<w2.heap.size;rw[Hz2.out];omega) _
        exact Hs.out.mem
       ·iterate 11 refine Below.setCell ?_ (by simp) _
        exact Hbf.out
       ·refine Row.base (b:=w2.heap.size) ?_ (by rw[Hz2.out];omega)
        iterate 11 refine Row.low ?_ (by show w.heap.size+1<w2.heap.size;rw[Hz2.out];omega) _
        exact Hs.out.mem
 ·have HR:=hid (rD l _ mem fuel he)
  generalize Cf.jA l [r0,r1,r2,r3,r4,r5,r6,r7] mem fuel=er at *
  have hq:(er != 0)=true:=by rw[bne_iff_ne];exact he
  clear he
  go_enter Tryz.func169,Tryz.ntmps169
  go_wp2_with fail
  rw[← Hw2.out]
  refine HK.out.mono ?_
  rintro e w3 ⟨rfl,hb3⟩
  have k8':=k8.below hb3 (by rw[Hz2.out];omega)
  have hb4:=hb2.trans (hb3.mono hb2.size)
  have hz3:w.heap.size+2≤w3.heap.size:=by have:=hb3.size;rw[Hz2.out]at this;exact this
  have q0:=k8'.cell 0
  have q1:=k8'.cell 1
  have q2:=k8'.cell 2
  have q3:=k8'.cell 3
  have q4:=k8'.cell 4
  have q5:=k8'.cell 5
  have q6:=k8'.cell 6
  have q7:=k8'.cell 7
  have q8:=k8'.cell 8
  have q9:=k8'.cell 9
  have q10:=k8'.cell 10
  simp only[gq]at q0 q1 q2 q3 q4 q5 q6 q7 q8 q9 q10
  have qf:=k8'.open_
  clear k5 k8 hb3 hb2 k8'
  go_wp2
  refine bodyPost_ret (v:=.tuple #[.agg #[.int .i64 0,.int .i64 0,.int .i64 0,.int .i64 0,.int .i64 0,.int .i64 0,.int .i64 0,.int .i64 0,.int .i64 0,.slice none 0 0,.slice none 0 0],.int .i64 er]) (by simp[results,Tryz.results169,go_sem,q0,q1,q2,q3,q4,q5,q6,q7,q8,q9,q10]) rfl ?_
  rw[HR.out]
  refine⟨none,none,0,0,rfl,.inl rfl,.inl rfl,?_,Nat.le_refl _,.inl rfl,⟨rfl,.inl ⟨rfl,rfl⟩⟩⟩
  iterate 11 refine Below.setCell ?_ (by simp) _
  exact hb4
end
section
open Go.RowKit
def kF(e:Value)(regs:List Int)(tl:List Value):List Value:=e :: (regs.map (Value.int .i64)++tl)
section
variable {e:Value} {regs:List Int} {tl:List Value}
theorem H9(hr:regs.length=8)(i:Nat)(hi:i<8):(kF e regs tl)[1+i]?=some (.int .i64 (regs.getD i 0)):=by
 unfold kF
 rw[Nat.add_comm,List.getElem?_cons_succ,List.getElem?_append_left (by simp;omega),List.getElem?_map,List.getD_eq_getElem?_getD,List.getElem?_eq_getElem (by omega)]
 rfl
theorem uh(hr:regs.length=8)(i:Nat):(kF e regs tl)[9+i]?=tl[i]?:=by
 unfold kF
 rw[show 9+i=(8+i)+1 by omega,List.getElem?_cons_succ,List.getElem?_append_right (by simp;omega)]
 simp[hr]
theorem EO(hr:regs.length=8)(i:Nat)(hi:i<8)(z:Int):(kF e regs tl).set (1+i) (.int .i64 z)=kF e (regs.set i z) tl:=by
 unfold kF
 rw[Nat.add_comm,List.set_cons_succ,List.set_append_left _ _ (by simp;omega),List.map_set]
theorem Ji(hr:regs.length=8)(i:Nat)(u:Value):(kF e regs tl).set (9+i) u=kF e regs (tl.set i u):=by
 unfold kF
 rw[show 9+i=(8+i)+1 by omega,List.set_cons_succ,List.set_append_right _ _ (by simp;omega)]
 simp[hr]
end
theorem dH:fD≠175:=by decide
def RM(w:World)(base g:Nat)(m:Cf.aZ)(vr:Value):Prop:=
 ∃vm vt,St w base g 175 (kF (.int .i64 0) m.regs [vt,vm]) m.mem m.told m.back vm vt vr
section
variable {w w':World} {base g:Nat} {m:Cf.aZ} {vr:Value}
theorem RM.alloc(h:RM w base g m vr)(o:Obj):RM (w.alloc o) base g m vr:=by
 obtain⟨vm,vt,h⟩:=h
 exact⟨vm,vt,h.alloc o⟩
theorem RM.draw(h:RM w base g m vr)(k:Nat):RM (w.drewN k) base g m vr:=by
 obtain⟨vm,vt,h⟩:=h
 exact⟨vm,vt,h.draw k⟩
theorem RM.setR(h:RM w base g m vr)(hr:m.regs.length=8)(i:Nat)(hi:i<8)(z:Int)(pc:Nat):RM (w.setCell ⟨g,1+i,none⟩ (.int .i64 z)) base g ⟨m.regs.set i z,m.mem,m.told,m.back,pc⟩ vr:=by
 obtain⟨vm,vt,h⟩:=h
 have h:=h.put dH (1+i) (.int .i64 z)
 rw[EO hr i hi]at h
 exact⟨vm,vt,h⟩
theorem RM.at_(h:RM w base g m vr)(pc:Nat):RM w base g ⟨m.regs,m.mem,m.told,m.back,pc⟩ vr:=h
theorem RM.pop{A:Option Addr}{n cap:Nat}(h:RM w base g m (.slice A n cap))(hb:m.back≠[])(hn:m.back.length=n)(pc:Nat):RM w base g ⟨m.regs,m.mem,m.told,m.back.dropLast,pc⟩ (.slice A (n-1) cap):=by
 obtain⟨vm,vt,h⟩:=h
 exact⟨vm,vt,h.pop hb hn⟩
theorem RM.call(h:RM w base g m vr){vr':Value}{b:Nat}(hr:w'.ownsRow base fD 1 vr' (m.back.length+1) ((kK m.back).map (Value.int .i64)++[.int .i64 (b:Int)]))(hg:w.grownBy w' vr.ownBlock)(ha:vr'.ownBlock=vr.ownBlock∨∃k,vr'.ownBlock=some k∧w.heap.size≤k)(pc:Nat):
  RM w' base g ⟨m.regs,m.mem,m.told,m.back++[b],pc⟩ vr':=by
 obtain⟨vm,vt,h⟩:=h
 have hrow:Row w' base vr' (kK (m.back++[b])):=by
  unfold Row
  rw[xx,List.length_append,jE,List.map_append]
  exact hr
 exact⟨vm,vt,h.call dH hrow hg ha⟩
theorem RM.lo(h:RM w base g m vr):base≤g:=by
 obtain⟨vm,vt,h⟩:=h
 exact h.lo
theorem RM.lt(h:RM w base g m vr):g<w.heap.size:=by
 obtain⟨vm,vt,h⟩:=h
 exact h.blk.lt
theorem RM.reg(h:RM w base g m vr)(hr:m.regs.length=8)(i:Nat)(hi:i<8):w.cell? ⟨g,1+i,none⟩=some (.int .i64 (m.rg (i:Int))):=by
 obtain⟨vm,vt,h⟩:=h
 rw[oq]
 exact(h.blk.cell (1+i)).trans (H9 hr i hi)
theorem RM.open_(h:RM w base g m vr)(i:Nat):w.frozen? ⟨g,i,none⟩=false:=by
 obtain⟨vm,vt,h⟩:=h
 exact h.blk.open_ i
theorem RM.back_(h:RM w base g m vr):Row w base vr (kK m.back):=by
 obtain⟨vm,vt,h⟩:=h
 exact h.back
end
def KT(l:List Cf.Ins)(m0:Cf.aZ)(f0:Nat)(w2:World)(g:Nat)(fv bv av:Value)(wr:World):Prop:=
 ∃(m:Cf.aZ) (k:Nat) (R:Option Addr) (cr:Nat),fv = .int .i64 (k:Int)∧bv = .slice R m.back.length cr∧av = .int .i64 (m.pc:Int)∧k≤20000∧Cf.MOk m∧RM wr w2.heap.size g m (.slice R m.back.length cr)∧Below w2.heap.size w2 wr∧Cf.gY l f0 m0=Cf.gY l k m
def CS(w2:World)(regs mem:List Int)(x:Value)(wx:World):Prop:=
 ∃g,x = .pointer (some ⟨g,0,none⟩)∧RM wx w2.heap.size g ⟨regs,mem,[],[],0⟩ (.slice none 0 0)∧Below w2.heap.size w2 wx
def EF:List Value:=[.int .i64 0,.int .i64 0,.int .i64 0,.int .i64 0,.int .i64 0,.int .i64 0,.int .i64 0,.int .i64 0,.int .i64 0,.slice none 0 0,.slice none 0 0]
abbrev Lp:Obj:=.cells #[.int .i64 0,.int .i64 0,.int .i64 0,.int .i64 0,.int .i64 0,.int .i64 0,.int .i64 0,.int .i64 0,.int .i64 0,.slice none 0 0,.slice none 0 0] 175
theorem Jg{w2 w4:World}{A':Option Addr}{cap':Nat}{r0 r1 r2 r3 r4 r5 r6 r7:Int}{mem:List Int}(hb:Below w2.heap.size w2 w4)(hr:Row w4 w2.heap.size (.slice A' (0+mem.length) cap') mem):
  CS w2 [r0,r1,r2,r3,r4,r5,r6,r7] mem (.pointer (some ⟨w4.heap.size,0,none⟩)) (w4.alloc (.cells #[.int .i64 0,.int .i64 r0,.int .i64 r1,.int .i64 r2,.int .i64 r3,.int .i64 r4,.int .i64 r5,.int .i64 r6,.int .i64 r7,.slice none 0 0,.slice A' mem.length cap'] 175)):=by
 rw[Nat.zero_add]at hr
 have hw:=Wb.new w4 175 (kF (.int .i64 0) [r0,r1,r2,r3,r4,r5,r6,r7] [.slice none 0 0,.slice A' mem.length cap'])
 exact⟨_,rfl,⟨_,_,St.start hw hb.size (hr.alloc _)⟩,hb.alloc hb.size _⟩
theorem IR{w2 w4:World}{g:Nat}{A':Option Addr}{cap':Nat}{r0 r1 r2 r3 r4 r5 r6 r7:Int}{mem:List Int}(hb:Below w2.heap.size w2 w4)(hr:Row w4 w2.heap.size (.slice A' (0+mem.length) cap') mem)(hw:Wb w4 g 175 EF)(hg:w2.heap.size≤g):
  CS w2 [r0,r1,r2,r3,r4,r5,r6,r7] mem (.pointer (some ⟨g,0,none⟩)) (((((((((((w4.setCell ⟨g,0,none⟩ (.int .i64 0)).setCell ⟨g,1,none⟩ (.int .i64 r0)).setCell ⟨g,2,none⟩ (.int .i64 r1)).setCell ⟨g,3,none⟩ (.int .i64 r2)).setCell ⟨g,4,none⟩ (.int .i64 r3)).setCell ⟨g,5,none⟩ (.int .i64 r4)).setCell ⟨g,6,none⟩ (.int .i64 r5)).setCell ⟨g,7,none⟩ (.int .i64 r6)).setCell ⟨g,8,none⟩ (.int .i64 r7)).setCell ⟨g,9,none⟩ (.slice none 0 0)).setCell ⟨g,10,none⟩ (.slice A' mem.length cap')):=by
 rw[Nat.zero_add]at hr
 have h0:=St.start hw hg hr
 have h1:=(((((((((((h0.put dH 0 (.int .i64 0)).put dH 1 (.int .i64 r0)).put dH 2 (.int .i64 r1)).put dH 3 (.int .i64 r2)).put dH 4 (.int .i64 r3)).put dH 5 (.int .i64 r4)).put dH 6 (.int .i64 r5)).put dH 7 (.int .i64 r6)).put dH 8 (.int .i64 r7)).put dH 9 (.slice none 0 0)).put dH 10 (.slice A' mem.length cap'))
 refine⟨g,rfl,⟨_,_,h1⟩,?_⟩
 iterate 11 refine Below.setCell ?_ (by exact hg) _
 exact hb
theorem jF{w:World}{g:Nat}{t:TypeId}{v0 v1 v2 v3 v4 v5 v6 v7 v8 v9 v10:Value}(h:Wb w g t [v0,v1,v2,v3,v4,v5,v6,v7,v8,v9,v10]):
  w.cell? ⟨g,0,none⟩=some v0∧w.cell? ⟨g,1,none⟩=some v1∧w.cell? ⟨g,2,none⟩=some v2∧w.cell? ⟨g,3,none⟩=some v3∧w.cell? ⟨g,4,none⟩=some v4∧w.cell? ⟨g,5,none⟩=some v5∧w.cell? ⟨g,6,none⟩=some v6∧w.cell? ⟨g,7,none⟩=some v7∧w.cell? ⟨g,8,none⟩=some v8∧w.cell? ⟨g,9,none⟩=some v9∧w.cell? ⟨g,10,none⟩=some v10∧∀i,w.frozen? ⟨g,i,none⟩=false:=⟨h.cell 0,h.cell 1,h.cell 2,h.cell 3,h.cell 4,h.cell 5,h.cell 6,h.cell 7,h.cell 8,h.cell 9,h.cell 10,h.open_⟩
structure dW(w w2:World)(g:Nat)(T:Option Addr)(ct:Nat)(told:List Int)(M:Option Addr)(cm:Nat)(mem:List Int)(W:World):Prop where
 t:Row W w2.heap.size (.slice T told.length ct) told
 m:Row W w2.heap.size (.slice M mem.length cm) mem
 b:Below w.heap.size w W
 z:w2.heap.size=w.heap.size+2
 ft:(Value.slice T told.length ct).ownBlock≠some g
 fm:(Value.slice M mem.length cm).ownBlock≠some g
 gw:w.heap.size≤g
section
variable {w w2 W:World} {g:Nat} {T:Option Addr} {ct:Nat} {told:List Int} {M:Option Addr} {cm:Nat} {mem:List Int}
theorem dW.alloc(h:dW w w2 g T ct told M cm mem W)(o:Obj):dW w w2 g T ct told M cm mem (W.alloc o):=⟨h.t.alloc o,h.m.alloc o,h.b.alloc h.b.size o,h.z,h.ft,h.fm,h.gw⟩
theorem dW.low(h:dW w w2 g T ct told M cm mem W)(i:Nat)(u:Value):dW w w2 g T ct told M cm mem (W.setCell ⟨w.heap.size+1,i,none⟩ u):=
 ⟨h.t.low (by show w.heap.size+1<w2.heap.size;rw[h.z];omega) u,h.m.low (by show w.heap.size+1<w2.heap.size;rw[h.z];omega) u,h.b.setCell (p:=⟨w.heap.size+1,i,none⟩) (Nat.le_succ _) u,h.z,h.ft,h.fm,h.gw⟩
theorem dW.put0(h:dW w w2 g T ct told M cm mem W)(u:Value):dW w w2 g T ct told M cm mem (W.setCell ⟨g,0,none⟩ u):=
 ⟨h.t.setCell (p:=⟨g,0,none⟩) h.ft u,h.m.setCell (p:=⟨g,0,none⟩) h.fm u,h.b.setCell (p:=⟨g,0,none⟩) h.gw u,h.z,h.ft,h.fm,h.gw⟩
theorem dW.post{fin:Int}{regs:List Int}(h:dW w w2 g T ct told M cm mem W):nP ⟨fin,regs,told,mem,0⟩ w (.returned (.tuple #[.agg ((.int .i64 fin :: (regs.map (Value.int .i64)++[.slice T told.length ct,.slice M mem.length cm])).toArray),.int .i64 0])) W:=
 ⟨T,M,ct,cm,rfl,Row.ints h.t,Row.ints h.m,h.b,Row.cap h.m,(iQ h.m rfl).mono (by rw[h.z];omega),Row.base h.m (by rw[h.z];omega)⟩
end
theorem kH(m:Cf.aZ)(op a b c:Int)(p:Nat)(h:op≤7):Cf.exec ⟨op,a,b,c⟩ ⟨m.regs,m.mem,m.told,m.back,p⟩ = .on ⟨m.regs.set a.toNat (Cf.alu op (m.rg b) (m.rg c) c),m.mem,m.told,m.back,p⟩:=by
 simp[Cf.exec,Cf.aZ.setR,Cf.aZ.rg,h]
theorem KF{m:Cf.aZ}(hr:m.regs.length=8){w w1:World}{base g:Nat}{vm vr:Value}{T:Option Addr}{ct gg cap:Nat}{z:Int}{o1 o2:Obj}
  (hs:St w base g 175 (kF (.int .i64 0) m.regs [.slice T m.told.length ct,vm]) m.mem m.told m.back vm (.slice T m.told.length ct) vr)
  (hown:w1.ownsRow base 3 1 (.slice (some ⟨gg,0,none⟩) (m.told.length+1) cap) (m.told.length+1) (m.told.map (Value.int .i64)++[.int .i64 z]))
  (hgr:((w.alloc o1).alloc o2).drew.grownBy w1 (Value.slice T m.told.length ct).ownBlock) (hat:(Value.slice T m.told.length ct).ownBlock=some gg∨gg=w.heap.size+1+1) (pc:Nat):
  RM (w1.setCell ⟨g,9,none⟩ (.slice (some ⟨gg,0,none⟩) (m.told.length+1) cap)) base g ⟨m.regs,m.mem,m.told++[z],m.back,pc⟩ vr ∧
  Below base w (w1.setCell ⟨g,9,none⟩ (.slice (some ⟨gg,0,none⟩) (m.told.length+1) cap)):=by
 have hlo:=hs.lo
 have hwz:=hs.blk.lt
 have hrow:Row w1 base (.slice (some ⟨gg,0,none⟩) (m.told.length+1) cap) (m.told++[z]):=by
  unfold Row
  rw[List.length_append,List.map_append]
  exact hown
 have h0:St ((w.alloc o1).alloc o2).drew base g 175 (kF (.int .i64 0) m.regs [.slice T m.told.length ct,vm]) m.mem m.told m.back vm (.slice T m.told.length ct) vr:=((hs.alloc o1).alloc o2).draw 1
 have h1:=h0.tell dH hrow hgr (hat.imp (fun h=>h.symm) fun h=>⟨gg,rfl,by simp;omega⟩)
 have h2:=h1.put dH 9 (.slice (some ⟨gg,0,none⟩) (m.told.length+1) cap)
 rw[show(9:Nat)=9+0 from rfl,Ji hr 0]at h2
 refine⟨⟨_,_,h2⟩,?_⟩
 have hb0:Below base w ((w.alloc o1).alloc o2).drew:=(((Below.refl base w).alloc (by omega) o1).alloc (by simp;omega) o2).drew
 exact(hb0.grown hgr (by simp;omega) (fun k hk=>(hs.told.lt k hk).1)).setCell (p:=⟨g,9,none⟩) hlo _
section
variable (m:Cf.aZ) (a b:Nat) (c:Int) (p ad:Nat)
theorem Ju(h:m.rg (b:Int)=(ad:Int))(hl:ad<m.mem.length):Cf.exec ⟨8,a,b,c⟩ ⟨m.regs,m.mem,m.told,m.back,p⟩ = .on ⟨m.regs.set a (m.mem.getD ad 0),m.mem,m.told,m.back,p⟩:=by
 simp only[Cf.aZ.rg]at h
 simp only[Cf.exec,Cf.aZ.setR,Cf.aZ.rg,h]
 simp[hl]
theorem Dp(h:m.rg (b:Int)=(ad:Int))(hl:¬ad<m.mem.length):Cf.exec ⟨8,a,b,c⟩ ⟨m.regs,m.mem,m.told,m.back,p⟩ = .fin 3 ⟨m.regs,m.mem,m.told,m.back,p⟩:=by
 simp only[Cf.aZ.rg]at h
 simp only[Cf.exec,Cf.aZ.setR,Cf.aZ.rg,h]
 simp[hl]
theorem Kq(h:m.rg (b:Int)=(ad:Int))(hl:ad<m.mem.length):Cf.exec ⟨9,a,b,c⟩ ⟨m.regs,m.mem,m.told,m.back,p⟩ = .on ⟨m.regs,m.mem.set ad (m.rg a),m.told,m.back,p⟩:=by
 simp only[Cf.aZ.rg]at h
 simp only[Cf.exec,Cf.aZ.setR,Cf.aZ.rg,h]
 simp[hl]
theorem Du(h:m.rg (b:Int)=(ad:Int))(hl:¬ad<m.mem.length):Cf.exec ⟨9,a,b,c⟩ ⟨m.regs,m.mem,m.told,m.back,p⟩ = .fin 3 ⟨m.regs,m.mem,m.told,m.back,p⟩:=by
 simp only[Cf.aZ.rg]at h
 simp only[Cf.exec,Cf.aZ.setR,Cf.aZ.rg,h]
 simp[hl]
end
theorem Bl(m:Cf.aZ)(a:Int)(b:Int)(c p:Nat)(h:m.rg a=0):Cf.exec ⟨11,a,b,c⟩ ⟨m.regs,m.mem,m.told,m.back,p⟩ = .on ⟨m.regs,m.mem,m.told,m.back,c⟩:=by
 have h':(Cf.aZ.mk m.regs m.mem m.told m.back p).rg a=0:=h
 simp[Cf.exec,h']
theorem CW(m:Cf.aZ)(a:Int)(b:Int)(c p:Nat)(h:m.rg a≠0):Cf.exec ⟨11,a,b,c⟩ ⟨m.regs,m.mem,m.told,m.back,p⟩ = .on ⟨m.regs,m.mem,m.told,m.back,p⟩:=by
 have h':(Cf.aZ.mk m.regs m.mem m.told m.back p).rg a≠0:=h
 simp[Cf.exec,h']
theorem eight{l:List Int}(h:l.length=8):∃s0 s1 s2 s3 s4 s5 s6 s7,l=[s0,s1,s2,s3,s4,s5,s6,s7]:=by
 match l,h with
 | [s0,s1,s2,s3,s4,s5,s6,s7],_=>exact⟨s0,s1,s2,s3,s4,s5,s6,s7,rfl⟩
theorem mX{w w2 wr:World}{g:Nat}{m:Cf.aZ}{vr:Value}(hr:m.regs.length=8)(hz:w2.heap.size=w.heap.size+2)(hb:Below w.heap.size w w2)(hbr:Below w2.heap.size w2 wr)(hk:Wb w2 (w.heap.size+1) 175 EF)(h:RM wr w2.heap.size g m vr):
  ∃s0 s1 s2 s3 s4 s5 s6 s7 T ct M cm,m.regs=[s0,s1,s2,s3,s4,s5,s6,s7]∧Wb wr g 175 [.int .i64 0,.int .i64 s0,.int .i64 s1,.int .i64 s2,.int .i64 s3,.int .i64 s4,.int .i64 s5,.int .i64 s6,.int .i64 s7,.slice T m.told.length ct,.slice M m.mem.length cm]∧Wb wr (w.heap.size+1) 175 EF∧g≠w.heap.size+1∧w.heap.size+1<wr.heap.size∧dW w w2 g T ct m.told M cm m.mem wr:=by
 obtain⟨vm,vt,hs⟩:=h
 obtain⟨T,ct,rfl⟩:=hs.told.form
 obtain⟨M,cm,rfl⟩:=hs.mem.form
 obtain⟨regs,mem,told,back,pc⟩:=m
 dsimp only at *
 obtain⟨s0,s1,s2,s3,s4,s5,s6,s7,rfl⟩:=eight hr
 have hlo:=hs.lo
 have hbz:=hbr.size
 exact⟨s0,s1,s2,s3,s4,s5,s6,s7,T,ct,M,cm,rfl,hs.blk,hk.below hbr (by rw[hz];omega),by omega,by omega,hs.told,hs.mem,hb.trans (hbr.mono hb.size),hz,ax hs.told hs.blk dH,ax hs.mem hs.blk dH,by omega⟩
theorem IK(x:Cf.Ins)(h:Cf.chk x=0)(h13:13≤x.op):x.c=0:=by
 obtain⟨op,a,b,c⟩:=x
 have ho:=(Cf.oO _ h).1
 dsimp only at ho h13 ⊢
 have h15:op=13∨op=14∨op=15:=by omega
 rcases h15 with h' | h' | h'<;>subst h' <;>
  simp[Cf.chk,Cf.opB,Cf.yA,Cf.uZ,Cf.fmt,Cf.lH,Cf.fld,Cf.lar,Cf.sS]at h<;>omega
end
end Go.Proofs.YtnnhhbjbdmgpiaaGreatDoor
