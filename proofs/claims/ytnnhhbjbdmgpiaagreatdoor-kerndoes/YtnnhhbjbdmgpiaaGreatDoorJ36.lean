/- Texts of the proofs: ActR, ActQ, ActP, ActO. -/
import Derived.Test.YtnnhhbjbdmgpiaaGreatDoorJ34
import Derived.Test.YtnnhhbjbdmgpiaaGreatDoorJ32
set_option linter.unusedSimpArgs false
set_option linter.unusedVariables false
namespace Go.Proofs.YtnnhhbjbdmgpiaaGreatDoor
set_option maxRecDepth 100000
set_option maxHeartbeats 4000000
open Lib (hid)
section
open Go.RowKit
theorem G8{w:World}{base:Nat}{A:Option Addr}{c:Nat}{l:List Int}(h:Row w base (.slice A l.length c) l):Nw 1 encZ w fD base A l:=by
 rcases h.2 with ⟨_,h0⟩|⟨g,cap,cur,hv,hb,hh,hn,_,hs,ht⟩
 ·exact .inl (List.eq_nil_of_length_eq_zero h0)
 ·cases hv
  refine .inr ⟨g,rfl,hb,fun _=>rfl,cur.toList.drop (l.length*1),?_⟩
  unfold Wb
  have e:l.flatMap encZ=l.map (Value.int .i64):=by
   clear ht hs hn hh h
   induction l with
   | nil=>rfl
   | cons x l ih=>rw[List.flatMap_cons,ih];rfl
  rw[e,← ht,List.take_append_drop]
  exact hh
def Tabs(B:Nat)(wb:World):Prop:=∀W,Below B wb W→jW W∧kL W
section
variable {B:Nat} {wb:World} {g:Nat} {a:KA} {xs:List MV} {ps:List PV} {k:Cf.ag} {w:World}
structure MAt(a:KA)(xs:List MV)(k:Cf.ag)(u gA:Nat)(nm:List UInt8)(A1:Option Addr)(code:List Cf.Ins)(c1:Nat)(B1:Option Addr)(data:List Int)(e1:Nat):Prop where
 A:a.A=some ⟨gA,0,none⟩
 mv:xs[u]?=some ⟨nm,A1,code.length,c1,B1,data.length,e1⟩
 md:k.mods[u]?=some ⟨nm,code,data⟩
theorem KSt.mat(h:KSt B wb g a xs ps k w){u:Nat}(hu:u<k.mods.length):∃gA nm A1 code c1 B1 data e1,MAt a xs k u gA nm A1 code c1 B1 data e1:=by
 have hl:u<xs.length:=by rw[h.own.each.1];exact hu
 obtain⟨h1,h2,h3,_,_⟩:=h.own.each.2 u _ _ (List.getElem?_eq_getElem hl) (List.getElem?_eq_getElem hu)
 rcases h.own.row.2 with ⟨_,h0⟩|⟨gA,cap,cur,hv,_⟩
 ·omega
 ·injection hv with hA _ _
  refine⟨gA,xs[u].name,xs[u].A,k.mods[u].code,xs[u].ca,xs[u].B,k.mods[u].data,xs[u].cb,hA,?_,?_⟩
  ·rw[List.getElem?_eq_getElem hl,← h2,← h3]
  ·rw[List.getElem?_eq_getElem hu,h1]
theorem KSt.m1(h:KSt B wb g a xs ps k w){u gA:Nat}{nm:List UInt8}{A1:Option Addr}{code:List Cf.Ins}{c1:Nat}{B1:Option Addr}{data:List Int}{e1:Nat}(hM:MAt a xs k u gA nm A1 code c1 B1 data e1):
  w.cell? ⟨gA,u*3+1,none⟩=some (.slice A1 code.length c1)∧gA<w.heap.size∧bP w A1 code:=by
 have hr:=jm iT h.own.row
 rw[hM.A]at hr
 obtain⟨_,_,_,h4,_⟩:=h.own.each.2 u _ _ hM.mv hM.md
 rcases hr with h0|⟨b,off,hb,hlt,hc⟩
 ·have:=hM.mv
  rw[h0]at this
  simp at this
 ·cases hb
  have:=hc u _ hM.mv 1 (.slice A1 code.length c1) rfl
  rw[Nat.zero_add]at this
  exact⟨this,hlt,h4.rd⟩
theorem KSt.putMem{w1:World}(h:KSt B wb g a xs ps k w)(hb:Below w.heap.size w w1){M':Option Addr}{c':Nat}{m:List Int}(hN:Nw 1 encZ w1 fD w.heap.size M' m)(hl:m.length=k.mem.length)(hc:m.length≤c'):
  KSt B wb g { a with M:=M',cm:=c' } xs ps ⟨k.mods,m,k.nodes,k.pipes,k.procs⟩ (w1.setCell ⟨g,1,none⟩ (.slice M' m.length c')):=by
 have h1:=h.below hb
 have hx:=h1.box
 refine⟨?_,⟨aj h1.own.row (ax h1.own.row hx (by decide)) _,h1.own.each.offM hx (by decide) (by decide) _ _,(hN.mono h.room).offW hx (by decide) _ _,h1.own.nodes.offW hx (by decide) _ _,h1.own.pipes.offW hx (by decide) _ _,h1.own.procs.offW hx (by decide) _ _,h1.own.ends.offE hx (by decide) _ _,h1.own.apart,?_,hc⟩,h.lo,h1.keep.setCell h.lo _⟩
 ·have:=hx.put 1 (.slice M' m.length c')
  exact this
 ·intro x hxm
  obtain⟨i,hi⟩:=List.mem_iff_getElem?.1 hxm
  have hil:i<k.mods.length:=by rw[← h.own.each.1];exact(List.getElem?_eq_some_iff.1 hi).1
  obtain⟨_,_,h3,_,h5⟩:=h.own.each.2 i _ _ hi (List.getElem?_eq_getElem hil)
  rcases h5 with h5|⟨b,h5,_,h6⟩
  ·exact .inl (by rw[h3,h5];rfl)
  ·rcases hN with hN|⟨b',hN,hb',_⟩
   ·exact .inr (.inl hN)
   ·refine .inr (.inr ?_)
    rw[h5,hN]
    intro he
    cases he
    have:=h6.lt
    omega
end
def KpG(g:Nat)(w w':World):Prop:=w.heap.size≤w'.heap.size∧∀b,b<w.heap.size→b≠g→w'.heap[b]?=w.heap[b]?
theorem KpG.of{g:Nat}{w w':World}(h:Below w.heap.size w w'):KpG g w w':=⟨h.size,fun b hb _=>h.block b hb⟩
theorem KpG.put{g:Nat}{w w':World}(h:KpG g w w')(i:Nat)(u:Value):KpG g w (w'.setCell ⟨g,i,none⟩ u):=
 ⟨by rw[show(w'.setCell ⟨g,i,none⟩ u).heap.size=w'.heap.size by simp[World.setCell]];exact h.1,fun b hb hne=>by rw[Below.heap_setCell w' ⟨g,i,none⟩ u b (fun he=>hne he)];exact h.2 b hb hne⟩
theorem KpG.trans{g:Nat}{w w1 w2:World}(h:KpG g w w1)(h':KpG g w1 w2):KpG g w w2:=⟨Nat.le_trans h.1 h'.1,fun b hb hne=>(h'.2 b (Nat.lt_of_lt_of_le hb h.1) hne).trans (h.2 b hb hne)⟩
theorem KpG.draw{g:Nat}{w w1:World}(h:KpG g w w1)(n:Nat):KpG g w (w1.drewN n):=h
theorem KpG.wb{g:Nat}{w w':World}(h:KpG g w w'){b:Nat}{t:TypeId}{cs:List Value}(hb:Wb w b t cs)(hne:b≠g):Wb w' b t cs:=by
 unfold Wb
 rw[h.2 b hb.lt hne]
 exact hb
theorem KpG.kpA{g:Nat}{w w':World}(h:KpG g w w'){ds:List Value}(hg:Wb w g ae ds):KpA w w':=fun _ _ hb=>h.wb hb (hb.other hg (by decide))
def Ea(B:Nat)(wb:World)(g:Nat)(w:World)(k:Cf.ag)(q:Cf.Asked)(e:Ending)(w':World):Prop:=
 e = .returned (.tuple #[.int .i64 q.word,.bool q.ok])∧(∃a xs ps,KSt B wb g a xs ps (Cf.setMem k q.mem) w')∧KpG g w w'
theorem DY(z s0 s1 s2 s3 s4 s5 s6 s7:Int)(T M:Option Addr)(a b c d:Nat):(#[.int .i64 z,.int .i64 s0,.int .i64 s1,.int .i64 s2,.int .i64 s3,.int .i64 s4,.int .i64 s5,.int .i64 s6,.int .i64 s7,.slice T a b,.slice M c d]:Array Value).all (·.oneCell')=true:=all_oneCell_toArray (by intro v hv;simp at hv;rcases hv with rfl|rfl|rfl|rfl|rfl|rfl|rfl|rfl|rfl|rfl|rfl<;>rfl)
theorem rV{base gO:Nat}{t:TypeId}{v:Value}{l:List Int}(hne:fD≠t):∀(vs:List Value) (o:Nat) (w:World) (cs:List Value),Row w base v l→Wb w gO t cs→Row (w.setCells gO o vs) base v l
 | [],_,_,_,h,_=>h
 | u :: vs,o,w,cs,h,hg=>rV hne vs (o+1) (w.setCell ⟨gO,o,none⟩ u) _ (h.setCell (p:=⟨gO,o,none⟩) (ax h hg hne) u) (hg.put o u)
abbrev IM:TypeId:=175
def Gi(w:World)(o:Cf.Out)(e9 p10:Value)(wx:World):Prop:=
 ∃(gO:Nat) (T M:Option Addr) (ct cm:Nat),p10 = .pointer (some ⟨gO,0,none⟩)∧e9 = .int .i64 o.err∧Wb wx gO IM (.int .i64 o.fin :: (o.regs.map (Value.int .i64)++[.slice T o.told.length ct,.slice M o.mem.length cm]))∧Row wx w.heap.size (.slice M o.mem.length cm) o.mem∧o.mem.length≤cm∧Below w.heap.size w wx
theorem DI{B:Nat}{wb:World}{g:Nat}{a:KA}{xs:List MV}{ps:List PV}(k:Cf.ag)(u:Nat)(x:Int)(w:World)(h:KSt B wb g a xs ps k w)(hG:Cf.Good k)(hu:u<k.mods.length)(hx:0≤x∧x≤65535)(hT:Tabs B wb):
  Calls Tryz.prog 162 #[.pointer (some ⟨g,0,none⟩),.int .i64 u,.int .i64 x] w (Ea B wb g w k (Cf.fK k u x)):=by
 obtain⟨A,ca,M0,cm,N,cn,S,cs,Q,cq⟩:=a
 obtain⟨gA,nm,A1,code,c1,B1,data,e1,hM⟩:=h.mat hu
 have hA:=hM.A
 simp only at hA
 subst hA
 have hu8:u<8:=by have:=hG.modsL;omega
 have hml:k.mods.length≤8:=hG.modsL
 have huI:(u:Int)<(k.mods.length:Int):=by omega
 have hcode:(k.mods.getD u Cf.bz).code=code:=by rw[List.getD_eq_getElem?_getD,hM.md];rfl
 obtain⟨z,s0,s1,s2,s3,s4,s5,s6,s7,told,mm,er,e8,_,_⟩:=IP code x 0 0 0 (64*(u:Int)) (64*(u:Int)) 63 0 k.mem 2000
 have HO:=hid (show Cf.A7 k u x=⟨z,[s0,s1,s2,s3,s4,s5,s6,s7],told,mm,er⟩ by unfold Cf.A7 Cf.Ko;rw[hcode];exact e8)
 have hmm:er=0→mm.length=k.mem.length:=fun he=>by
  have:=(Cf.pV (l:=code) (regs:=[x,0,0,0,64*(u:Int),64*(u:Int),63,0]) (mem:=k.mem) (fuel:=2000) rfl (by rw[e8];exact he)).2.1
  rw[e8]at this
  exact this
 have hcl:code.length≤200:=Cf.gU code (Cf.pG (Cf.lg (hG.mod _ (List.mem_of_getElem? hM.md))).2.2.2)
 have H:=hid h
 have HM:=hid hM
 have GM:=hid (fun W (hW:Below w.heap.size w W)=>by
  have h1:=h.below hW
  have:=Ij code A1 c1 x 0 0 0 (64*(u:Int)) (64*(u:Int)) 63 0 k.mem M0 cm 2000 W (h1.m1 hM).2.2 (hT W h1.keep).1 (hT W h1.keep).2 (by unfold maxLen;omega) h1.own.mem.rd (by rw[hG.memL];unfold maxLen;omega)
  rw[e8]at this
  exact this)
 have HEn:=hid (fun W=>Cb u x W (by omega) (by omega) hx.1 hx.2)
 have Heg:=hid (fun args w=>show(callFunc 169 args).run Tryz.prog w = .ok (.enter 169 args) w by simp[go_sem])
 have HmL:=hid hG.memL
 have Hmm:=hid hmm
 have HAt:=hid (show Cf.fK k u x=if er=0∧z=1 then⟨mm,s0,true⟩ else⟨k.mem,0,false⟩ by
  unfold Cf.fK
  rw[HO.out]
  rfl)
 generalize Cf.fK k u x=q at *
 clear h hG hM hcode e8 hT hmm hcl HO
 go_enter Tryz.func162,Tryz.ntmps162
 go_wp2_with fail
 refine(HEn.out _).mono ?_
 rintro e w1 ⟨rfl,hb1⟩
 have HW1:=hid hb1
 clear hb1 HEn
 go_upto_region 4 with fail
 have HB2:=hid (Wb.new w1 171 [.int .i64 x,.int .i64 0,.int .i64 0,.int .i64 0,.int .i64 (64*(u:Int)),.int .i64 (64*(u:Int)),.int .i64 63,.int .i64 0])
 have hb2:Below w.heap.size w (w1.alloc (.cells #[.int .i64 x,.int .i64 0,.int .i64 0,.int .i64 0,.int .i64 (64*(u:Int)),.int .i64 (64*(u:Int)),.int .i64 63,.int .i64 0] 171)):=HW1.out.alloc HW1.out.size _
 generalize hgR:w1.heap.size=gR at *
 clear hgR
 generalize w1.alloc (.cells #[.int .i64 x,.int .i64 0,.int .i64 0,.int .i64 0,.int .i64 (64*(u:Int)),.int .i64 (64*(u:Int)),.int .i64 63,.int .i64 0] 171)=w2 at *
 have HW2:=hid hb2
 clear HW1 hb2
 go_cut [9,10] from 19 to 36 (fun e9 p10 wx=>Gi w ⟨z,[s0,s1,s2,s3,s4,s5,s6,s7],told,mm,er⟩ e9 p10 wx)
 case first=>
  have hK2:=H.out.below HW2.out
  have k0:=hK2.ptr.c0
  have k1:=hK2.ptr.c1
  have kl:=hK2.box.lt
  obtain⟨m1,ml,_⟩:=hK2.m1 HM.out
  have hB2:=HB2.out
  have q0:=hB2.cell 0
  have q1:=hB2.cell 1
  have q2:=hB2.cell 2
  have q3:=hB2.cell 3
  have q4:=hB2.cell 4
  have q5:=hB2.cell 5
  have q6:=hB2.cell 6
  have q7:=hB2.cell 7
  simp only[gq]at q0 q1 q2 q3 q4 q5 q6 q7
  have ql:=hB2.lt
  have hbw:=HW2.out
  clear hK2 hB2 HB2 HW2
  refine wp_region_noPanic ?_
  refine wp_region_held_drew (S:=fun W=>Below w2.heap.size w2 W) (by kernel_rfl) ((Below.refl _ _).drew) (fun hHeld=>?_)
  refine wpAnyH_take (i:=0) (oi:=⟨some 20,.move (Operand.tmp 0),82, "transfer.go:135",#[],none⟩) (v:=.pointer (some ⟨g,0,none⟩)) rfl (by kernel_rfl) (by kernel_rfl) (by kernel_rfl) (fun _ _ _ h=>h) (Or.inl ⟨by kernel_rfl,fun wq hSw=>by((try dsimp only at hSw);go_simp)⟩) hHeld ?_
  (try simp only[Act.put,sq])
  refine wpAnyH_take (i:=1) (oi:=⟨some 21,.nilCheck (Operand.tmp 20),0, "transfer.go:135",#[⟨0,.data⟩],none⟩) (v:=.pointer (some ⟨g,0,none⟩)) rfl (by kernel_rfl) (by kernel_rfl) (by kernel_rfl) (fun _ _ _ h=>h) (Or.inl ⟨by kernel_rfl,fun wq hSw=>by((try dsimp only at hSw);go_simp)⟩) hHeld ?_
  (try simp only[Act.put,sq])
  refine wpAnyH_take (i:=2) (oi:=⟨some 22,.fieldAddr 28 (Operand.tmp 21) 0,0, "transfer.go:135",#[⟨1,.data⟩],none⟩) (v:=.pointer (some ⟨g,0,none⟩)) rfl (by kernel_rfl) (by kernel_rfl) (by kernel_rfl) (fun _ _ _ h=>h) (Or.inl ⟨by kernel_rfl,fun wq hSw=>by((try dsimp only at hSw);go_simp)⟩) hHeld ?_
  (try simp only[Act.put,sq])
  refine wpAnyH_take (i:=3) (oi:=⟨some 23,.load 22 (Operand.tmp 22),22, "transfer.go:135",#[⟨2,.data⟩],none⟩) (v:=.slice (some ⟨gA,0,none⟩) k.mods.length ca) rfl (by kernel_rfl) (by kernel_rfl) (by kernel_rfl) (fun _ _ _ h=>h) (Or.inl ⟨by kernel_rfl,fun wq hSw=>by(have kk:=(hSw.cell (p:=⟨g,0,none⟩) kl).trans k0;clear hSw;go_simp)⟩) hHeld ?_
  (try simp only[Act.put,sq])
  refine wpAnyH_take (i:=4) (oi:=⟨some 24,.move (Operand.tmp 1),3, "transfer.go:135",#[],none⟩) (v:=.int .i64 u) rfl (by kernel_rfl) (by kernel_rfl) (by kernel_rfl) (fun _ _ _ h=>h) (Or.inl ⟨by kernel_rfl,fun wq hSw=>by((try dsimp only at hSw);go_simp)⟩) hHeld ?_
  (try simp only[Act.put,sq])
  refine wpAnyH_take (i:=5) (oi:=⟨some 25,.indexAddr 22 (Operand.tmp 23) (Operand.tmp 24),0, "transfer.go:135",#[⟨3,.data⟩,⟨4,.data⟩],none⟩) (v:=.pointer (some ⟨gA,u*3,none⟩)) rfl (by kernel_rfl) (by kernel_rfl) (by kernel_rfl) (fun _ _ _ h=>h) (Or.inl ⟨by kernel_rfl,fun wq hSw=>by((try dsimp only at hSw);go_simp)⟩) hHeld ?_
  (try simp only[Act.put,sq])
  refine wpAnyH_take (i:=6) (oi:=⟨some 26,.fieldAddr 79 (Operand.tmp 25) 1,0, "transfer.go:135",#[⟨5,.data⟩],none⟩) (v:=.pointer (some ⟨gA,u*3+1,none⟩)) rfl (by kernel_rfl) (by kernel_rfl) (by kernel_rfl) (fun _ _ _ h=>h) (Or.inl ⟨by kernel_rfl,fun wq hSw=>by((try dsimp only at hSw);go_simp)⟩) hHeld ?_
  (try simp only[Act.put,sq])
  refine wpAnyH_take (i:=7) (oi:=⟨some 27,.load 77 (Operand.tmp 26),77, "transfer.go:135",#[⟨6,.data⟩],none⟩) (v:=.slice A1 code.length c1) rfl (by kernel_rfl) (by kernel_rfl) (by kernel_rfl) (fun _ _ _ h=>h) (Or.inl ⟨by kernel_rfl,fun wq hSw=>by(have kk:=(hSw.cell (p:=⟨gA,u*3+1,none⟩) ml).trans m1;clear hSw;go_simp)⟩) hHeld ?_
  (try simp only[Act.put,sq])
  refine wpAnyH_take (i:=8) (oi:=⟨some 28,.load 171 (Operand.tmp 8),171, "transfer.go:135",#[],none⟩) (v:=.agg #[.int .i64 x,.int .i64 0,.int .i64 0,.int .i64 0,.int .i64 (64*(u:Int)),.int .i64 (64*(u:Int)),.int .i64 63,.int .i64 0]) rfl (by kernel_rfl) (by kernel_rfl) (by kernel_rfl) (fun _ _ _ h=>h) (Or.inl ⟨by kernel_rfl,fun wq hSw=>by(have qq0:=(hSw.cell (p:=⟨gR,0,none⟩) ql).trans q0;have qq1:=(hSw.cell (p:=⟨gR,1,none⟩) ql).trans q1;have qq2:=(hSw.cell (p:=⟨gR,2,none⟩) ql).trans q2;have qq3:=(hSw.cell (p:=⟨gR,3,none⟩) ql).trans q3;have qq4:=(hSw.cell (p:=⟨gR,4,none⟩) ql).trans q4;have qq5:=(hSw.cell (p:=⟨gR,5,none⟩) ql).trans q5;have qq6:=(hSw.cell (p:=⟨gR,6,none⟩) ql).trans q6;have qq7:=(hSw.cell (p:=⟨gR,7,none⟩) ql).trans q7;clear hSw;go_simp)⟩) hHeld ?_
  (try simp only[Act.put,sq])
  refine wpAnyH_take (i:=9) (oi:=⟨some 29,.move (Operand.tmp 0),82, "transfer.go:135",#[],none⟩) (v:=.pointer (some ⟨g,0,none⟩)) rfl (by kernel_rfl) (by kernel_rfl) (by kernel_rfl) (fun _ _ _ h=>h) (Or.inl ⟨by kernel_rfl,fun wq hSw=>by((try dsimp only at hSw);go_simp)⟩) hHeld ?_
  (try simp only[Act.put,sq])
  refine wpAnyH_take (i:=10) (oi:=⟨some 30,.nilCheck (Operand.tmp 29),0, "transfer.go:135",#[⟨9,.data⟩],none⟩) (v:=.pointer (some ⟨g,0,none⟩)) rfl (by kernel_rfl) (by kernel_rfl) (by kernel_rfl) (fun _ _ _ h=>h) (Or.inl ⟨by kernel_rfl,fun wq hSw=>by((try dsimp only at hSw);go_simp)⟩) hHeld ?_
  (try simp only[Act.put,sq])
  refine wpAnyH_take (i:=11) (oi:=⟨some 31,.fieldAddr 28 (Operand.tmp 30) 1,0, "transfer.go:135",#[⟨10,.data⟩],none⟩) (v:=.pointer (some ⟨g,1,none⟩)) rfl (by kernel_rfl) (by kernel_rfl) (by kernel_rfl) (fun _ _ _ h=>h) (Or.inl ⟨by kernel_rfl,fun wq hSw=>by((try dsimp only at hSw);go_simp)⟩) hHeld ?_
  (try simp only[Act.put,sq])
  refine wpAnyH_take (i:=12) (oi:=⟨some 32,.load 23 (Operand.tmp 31),23, "transfer.go:135",#[⟨11,.data⟩],none⟩) (v:=.slice M0 k.mem.length cm) rfl (by kernel_rfl) (by kernel_rfl) (by kernel_rfl) (fun _ _ _ h=>h) (Or.inl ⟨by kernel_rfl,fun wq hSw=>by(have kk:=(hSw.cell (p:=⟨g,1,none⟩) kl).trans k1;clear hSw;go_simp)⟩) hHeld ?_
  (try simp only[Act.put,sq])
  refine wpAnyH_ready (rs:=[13,17]) (by kernel_rfl) (by simp) ?_
  refine AllReadyH.cons (o:=⟨some 33,.call { callee:=Callee.value (Operand.func 169),args:=#[Operand.tmp 27,Operand.tmp 28,Operand.tmp 32,Operand.const (Value.int IntKind.i64 2000)],argTypes:=#[77,171,23,3] },176, "transfer.go:135",#[⟨7,.data⟩,⟨8,.data⟩,⟨12,.data⟩],none⟩) rfl (fun K hK=>?_) (AllReadyH.cons (o:=⟨some 10,.alloc 175,0, "transfer.go:135",#[],none⟩) rfl (fun K hK=>?_) AllReadyH.nil)
  ·have HRn:=hid (GM.out _ (hbw.trans (hHeld.mono hbw.size)))
   go_simp
   go_at_call 169;refine HRn.out.mono ?_;rintro e w5 ⟨T,M,ct,cm2,rfl,hT5,hM5,hb5,hcm5,hfr5,hrw5⟩
   dsimp only at hcm5 hrw5 ⊢
   simp only[List.map_cons,List.map_nil,List.cons_append,List.nil_append]
   go_wp2_with fail
   have BV:=hid hcm5
   have Dv:=hid (Row.base hrw5 (Nat.le_trans hbw.size hHeld.size))
   refine hK.out _ _ (hHeld.trans (hb5.mono hHeld.size)) (fun hHeld=>?_)
   clear hK K HRn hT5 hM5 hcm5 hfr5 hrw5
   (try simp only[Act.put,sq])
   refine wpAnyH_take (i:=14) (oi:=⟨some 19,.move (Operand.tmp 33),176, "transfer.go:135",#[⟨13,.data⟩],none⟩) (v:=.tuple #[.agg #[.int .i64 z,.int .i64 s0,.int .i64 s1,.int .i64 s2,.int .i64 s3,.int .i64 s4,.int .i64 s5,.int .i64 s6,.int .i64 s7,.slice T told.length ct,.slice M mm.length cm2],.int .i64 er]) rfl (by kernel_rfl) (by kernel_rfl) (by kernel_rfl) (fun _ _ _ h=>h) (Or.inl ⟨by kernel_rfl,fun wq hSw=>by((try dsimp only at hSw);go_simp)⟩) hHeld ?_
   (try simp only[Act.put,sq])
   refine wpAnyH_take (i:=15) (oi:=⟨some 34,.extract (Operand.tmp 19) 0,175, "transfer.go:135",#[⟨14,.data⟩],none⟩) (v:=.agg #[.int .i64 z,.int .i64 s0,.int .i64 s1,.int .i64 s2,.int .i64 s3,.int .i64 s4,.int .i64 s5,.int .i64 s6,.int .i64 s7,.slice T told.length ct,.slice M mm.length cm2]) rfl (by kernel_rfl) (by kernel_rfl) (by kernel_rfl) (fun _ _ _ h=>h) (Or.inl ⟨by kernel_rfl,fun wq hSw=>by((try dsimp only at hSw);go_simp)⟩) hHeld ?_
   (try simp only[Act.put,sq])
   refine wpAnyH_take (i:=16) (oi:=⟨some 35,.extract (Operand.tmp 19) 1,32, "transfer.go:135",#[⟨14,.data⟩,⟨18,.gcOnly .lateStores⟩],none⟩) (v:=.int .i64 er) rfl (by kernel_rfl) (by kernel_rfl) (by kernel_rfl) (fun _ _ _ h=>h) (Or.inl ⟨by kernel_rfl,fun wq hSw=>by((try dsimp only at hSw);go_simp)⟩) hHeld ?_
   (try simp only[Act.put,sq])
   have uV:=hHeld
   refine wpAnyH_ready (rs:=[17]) (by kernel_rfl) (by simp) ?_
   refine AllReadyH.cons (o:=⟨some 10,.alloc 175,0, "transfer.go:135",#[],none⟩) rfl (fun K hK=>?_) AllReadyH.nil
   go_simp
   have hsz:=hHeld.size
   refine hK.out _ _ (hHeld.alloc hHeld.size _) (fun hHeld=>?_)
   clear hK K
   (try simp only[Act.put,sq])
   refine wpAnyH_ready (rs:=[18]) (by kernel_rfl) (by simp) ?_
   refine AllReadyH.cons (o:=⟨none,.store 175 (Operand.tmp 10) (Operand.tmp 34),0, "transfer.go:135",#[⟨17,.data⟩,⟨15,.data⟩,⟨13,.chain⟩,⟨0,.phase⟩,⟨1,.phase⟩,⟨2,.phase⟩,⟨3,.phase⟩,⟨4,.phase⟩,⟨5,.phase⟩,⟨6,.phase⟩,⟨7,.phase⟩,⟨8,.phase⟩,⟨9,.phase⟩,⟨10,.phase⟩,⟨11,.phase⟩,⟨12,.phase⟩,⟨13,.phase⟩,⟨14,.phase⟩,⟨15,.phase⟩,⟨16,.textOnly .lateStores⟩,⟨17,.phase⟩],none⟩) rfl (fun K hK=>?_) AllReadyH.nil
   go_simp
   refine hK.out _ _ (uV.alloc uV.size _) (fun hHeld=>?_)
   clear hK K
   (try simp only[Act.put,sq])
   refine wpAnyH_take (i:=19) (oi:=⟨some 9,.assign (Operand.tmp 35),32, "transfer.go:135",#[⟨16,.data⟩,⟨18,.chain⟩,⟨0,.phase⟩,⟨1,.phase⟩,⟨2,.phase⟩,⟨3,.phase⟩,⟨4,.phase⟩,⟨5,.phase⟩,⟨6,.phase⟩,⟨7,.phase⟩,⟨8,.phase⟩,⟨9,.phase⟩,⟨10,.phase⟩,⟨11,.phase⟩,⟨12,.phase⟩,⟨13,.phase⟩,⟨14,.phase⟩,⟨15,.phase⟩,⟨16,.phase⟩,⟨17,.phase⟩,⟨18,.phase⟩],none⟩) (v:=.int .i64 er) rfl (by kernel_rfl) (by kernel_rfl) (by kernel_rfl) (fun _ _ _ h=>h) (Or.inl ⟨by kernel_rfl,fun wq hSw=>by((try dsimp only at hSw);go_simp)⟩) hHeld ?_
   (try simp only[Act.put,sq])
   refine wpAnyH_done (by kernel_rfl) ?_ _
   refine NoPanic.normal ?_
   go_wp2_with fail
   go_meet
   exact⟨_,T,M,ct,cm2,rfl,rfl,Wb.new w5 IM [.int .i64 z,.int .i64 s0,.int .i64 s1,.int .i64 s2,.int .i64 s3,.int .i64 s4,.int .i64 s5,.int .i64 s6,.int .i64 s7,.slice T told.length ct,.slice M mm.length cm2],(Dv.out.alloc _),BV.out,hbw.trans (hHeld.mono hbw.size)⟩
  ·go_simp
   have hsz:=hHeld.size
   refine hK.out _ _ (hHeld.alloc hHeld.size _) (fun hHeld=>?_)
   clear hK K
   (try simp only[Act.put,sq])
   have Hg4:=hid ((Wb.new w2 175 [.int .i64 0,.int .i64 0,.int .i64 0,.int .i64 0,.int .i64 0,.int .i64 0,.int .i64 0,.int .i64 0,.int .i64 0,.slice none 0 0,.slice none 0 0]).draw 1)
   refine wpAnyH_ready (rs:=[13]) (by kernel_rfl) (by simp) ?_
   refine AllReadyH.cons (o:=⟨some 33,.call { callee:=Callee.value (Operand.func 169),args:=#[Operand.tmp 27,Operand.tmp 28,Operand.tmp 32,Operand.const (Value.int IntKind.i64 2000)],argTypes:=#[77,171,23,3] },176, "transfer.go:135",#[⟨7,.data⟩,⟨8,.data⟩,⟨12,.data⟩],none⟩) rfl (fun K hK=>?_) AllReadyH.nil
   have HRn:=hid (GM.out _ (hbw.trans (hHeld.mono hbw.size)))
   go_simp
   go_at_call 169;refine HRn.out.mono ?_;rintro e w5 ⟨T,M,ct,cm2,rfl,hT5,hM5,hb5,hcm5,hfr5,hrw5⟩
   dsimp only at hcm5 hrw5 ⊢
   simp only[List.map_cons,List.map_nil,List.cons_append,List.nil_append]
   go_wp2_with fail
   have BV:=hid hcm5
   have Dv:=hid (Row.base hrw5 (Nat.le_trans hbw.size hHeld.size))
   refine hK.out _ _ (hHeld.trans (hb5.mono hHeld.size)) (fun hHeld=>?_)
   have Hg5:=hid (Hg4.out.below hb5 Hg4.out.lt)
   clear hK K HRn hT5 hM5 hcm5 hfr5 hrw5
   (try simp only[Act.put,sq])
   refine wpAnyH_take (i:=14) (oi:=⟨some 19,.move (Operand.tmp 33),176, "transfer.go:135",#[⟨13,.data⟩],none⟩) (v:=.tuple #[.agg #[.int .i64 z,.int .i64 s0,.int .i64 s1,.int .i64 s2,.int .i64 s3,.int .i64 s4,.int .i64 s5,.int .i64 s6,.int .i64 s7,.slice T told.length ct,.slice M mm.length cm2],.int .i64 er]) rfl (by kernel_rfl) (by kernel_rfl) (by kernel_rfl) (fun _ _ _ h=>h) (Or.inl ⟨by kernel_rfl,fun wq hSw=>by((try dsimp only at hSw);go_simp)⟩) hHeld ?_
   (try simp only[Act.put,sq])
   refine wpAnyH_take (i:=15) (oi:=⟨some 34,.extract (Operand.tmp 19) 0,175, "transfer.go:135",#[⟨14,.data⟩],none⟩) (v:=.agg #[.int .i64 z,.int .i64 s0,.int .i64 s1,.int .i64 s2,.int .i64 s3,.int .i64 s4,.int .i64 s5,.int .i64 s6,.int .i64 s7,.slice T told.length ct,.slice M mm.length cm2]) rfl (by kernel_rfl) (by kernel_rfl) (by kernel_rfl) (fun _ _ _ h=>h) (Or.inl ⟨by kernel_rfl,fun wq hSw=>by((try dsimp only at hSw);go_simp)⟩) hHeld ?_
   (try simp only[Act.put,sq])
   refine wpAnyH_take (i:=16) (oi:=⟨some 35,.extract (Operand.tmp 19) 1,32, "transfer.go:135",#[⟨14,.data⟩,⟨18,.gcOnly .lateStores⟩],none⟩) (v:=.int .i64 er) rfl (by kernel_rfl) (by kernel_rfl) (by kernel_rfl) (fun _ _ _ h=>h) (Or.inl ⟨by kernel_rfl,fun wq hSw=>by((try dsimp only at hSw);go_simp)⟩) hHeld ?_
   (try simp only[Act.put,sq])
   refine wpAnyH_ready (rs:=[18]) (by kernel_rfl) (by simp) ?_
   refine AllReadyH.cons (o:=⟨none,.store 175 (Operand.tmp 10) (Operand.tmp 34),0, "transfer.go:135",#[⟨17,.data⟩,⟨15,.data⟩,⟨13,.chain⟩,⟨0,.phase⟩,⟨1,.phase⟩,⟨2,.phase⟩,⟨3,.phase⟩,⟨4,.phase⟩,⟨5,.phase⟩,⟨6,.phase⟩,⟨7,.phase⟩,⟨8,.phase⟩,⟨9,.phase⟩,⟨10,.phase⟩,⟨11,.phase⟩,⟨12,.phase⟩,⟨13,.phase⟩,⟨14,.phase⟩,⟨15,.phase⟩,⟨16,.textOnly .lateStores⟩,⟨17,.phase⟩],none⟩) rfl (fun K hK=>?_) AllReadyH.nil
   have hth:=Hg5.out.there
   refine Eq.mpr (if_pos (by kernel_rfl)) ?_
   refine wp_store_mid 175 _ _ rfl (w2.heap.size) 0 #[.int .i64 z,.int .i64 s0,.int .i64 s1,.int .i64 s2,.int .i64 s3,.int .i64 s4,.int .i64 s5,.int .i64 s6,.int .i64 s7,.slice T told.length ct,.slice M mm.length cm2] rfl rfl hth (by kernel_rfl) (DY z s0 s1 s2 s3 s4 s5 s6 s7 T M told.length ct mm.length cm2) ?_
   have hbS:=below_setCells (B:=w2.heap.size) (Nat.le_refl _) [.int .i64 z,.int .i64 s0,.int .i64 s1,.int .i64 s2,.int .i64 s3,.int .i64 s4,.int .i64 s5,.int .i64 s6,.int .i64 s7,.slice T told.length ct,.slice M mm.length cm2] 0 w5 hHeld
   have HB6:=hid (Wb.lay [.int .i64 z,.int .i64 s0,.int .i64 s1,.int .i64 s2,.int .i64 s3,.int .i64 s4,.int .i64 s5,.int .i64 s6,.int .i64 s7,.slice T told.length ct,.slice M mm.length cm2] 0 w5 _ Hg5.out (by simp))
   have HRS:=hid (rV (base:=w.heap.size) (t:=IM) (by decide) [.int .i64 z,.int .i64 s0,.int .i64 s1,.int .i64 s2,.int .i64 s3,.int .i64 s4,.int .i64 s5,.int .i64 s6,.int .i64 s7,.slice T told.length ct,.slice M mm.length cm2] 0 w5 _ Dv.out Hg5.out)
   change K _ (w5.setCells (w2.heap.size) 0 [.int .i64 z,.int .i64 s0,.int .i64 s1,.int .i64 s2,.int .i64 s3,.int .i64 s4,.int .i64 s5,.int .i64 s6,.int .i64 s7,.slice T told.length ct,.slice M mm.length cm2])
   generalize w5.setCells (w2.heap.size) 0 [.int .i64 z,.int .i64 s0,.int .i64 s1,.int .i64 s2,.int .i64 s3,.int .i64 s4,.int .i64 s5,.int .i64 s6,.int .i64 s7,.slice T told.length ct,.slice M mm.length cm2]=w6 at hbS HB6 HRS ⊢
   refine hK.out _ _ hbS (fun hHeld=>?_)
   clear hK K hth hbS
   (try simp only[Act.put])
   refine wpAnyH_take (i:=19) (oi:=⟨some 9,.assign (Operand.tmp 35),32, "transfer.go:135",#[⟨16,.data⟩,⟨18,.chain⟩,⟨0,.phase⟩,⟨1,.phase⟩,⟨2,.phase⟩,⟨3,.phase⟩,⟨4,.phase⟩,⟨5,.phase⟩,⟨6,.phase⟩,⟨7,.phase⟩,⟨8,.phase⟩,⟨9,.phase⟩,⟨10,.phase⟩,⟨11,.phase⟩,⟨12,.phase⟩,⟨13,.phase⟩,⟨14,.phase⟩,⟨15,.phase⟩,⟨16,.phase⟩,⟨17,.phase⟩,⟨18,.phase⟩],none⟩) (v:=.int .i64 er) rfl (by kernel_rfl) (by kernel_rfl) (by kernel_rfl) (fun _ _ _ h=>h) (Or.inl ⟨by kernel_rfl,fun wq hSw=>by((try dsimp only at hSw);go_simp)⟩) hHeld ?_
   (try simp only[Act.put,sq])
   refine wpAnyH_done (by kernel_rfl) ?_ _
   refine NoPanic.normal ?_
   go_wp2_with fail
   go_meet
   exact⟨_,T,M,ct,cm2,rfl,rfl,(by have:=HB6.out;simpa using this),HRS.out,BV.out,hbw.trans (hHeld.mono hbw.size)⟩
 case rest=>
  obtain⟨gO,T,M,ct,cm2,h10,h9,hO,hR,hcm,hbw⟩:=hcut
  dsimp only at h9
  subst h9 h10
  simp only[List.map_cons,List.map_nil,List.cons_append,List.nil_append]at hO hR hcm
  have y0:=hO.cell 0
  have y1:=hO.cell 1
  have y10:=hO.cell 10
  simp only[gq]at y0 y1 y10
  have yl:=hO.lt
  have Hbw:=hid hbw
  have HR:=hid hR
  have Hcm:=hid hcm
  have hKc:=H.out.below hbw
  have k1:=hKc.ptr.c1
  have kl:=hKc.box.lt
  have kf:=hKc.box.open_
  have hne:gO≠g:=hO.other hKc.box (by decide)
  clear hbw hR hcm hO HB2 HW2 hKc
  by_cases he:er=0
  ·subst he
   by_cases hz:z=1
   ·subst hz
    rw[if_pos ⟨rfl,rfl⟩]at HAt
    have HML:=hid (Hmm.out rfl)
    have HN:=hid (G8 HR.out)
    have HK:=hid (H.out.putMem Hbw.out HN.out HML.out Hcm.out)
    go_wp2
    go_ret2
    exact⟨by rw[HAt.out];rfl,⟨_,_,_,by rw[HAt.out];exact HK.out⟩,(KpG.of Hbw.out).put 1 _⟩
   ·have hq:(z != 1)=true:=by rw[bne_iff_ne];exact hz
    rw[if_neg (fun h=>hz h.2)]at HAt
    clear hz
    go_wp2
    go_ret2
    exact⟨by rw[HAt.out];rfl,⟨_,_,_,by rw[HAt.out];exact H.out.below Hbw.out⟩,KpG.of Hbw.out⟩
  ·have hq:(er != 0)=true:=by rw[bne_iff_ne];exact he
   rw[if_neg (fun h=>he h.1)]at HAt
   clear he
   go_wp2
   go_ret2
   exact⟨by rw[HAt.out];rfl,⟨_,_,_,by rw[HAt.out];exact H.out.below Hbw.out⟩,KpG.of Hbw.out⟩
end
section
open Go.RowKit
theorem one_byte(w:World)(b:UInt8):(convert 92 9 (.slice (some ⟨w.heap.size,0,none⟩) 1 1)).run Tryz.prog (w.alloc (.cells #[.int .u8 (b.toNat:Int)] tU8)) = .ok (.string ⟨#[b]⟩) (w.alloc (.cells #[.int .u8 (b.toNat:Int)] tU8)):=
 mO (l:=[b]) (uT w tU8 #[.int .u8 (b.toNat:Int)] [b] rfl) (by simp) 1
theorem uH{B:Nat}{wb:World}{g:Nat}{a:KA}{xs:List MV}{ps:List PV}(k:Cf.ag)(u:Nat)(w:World)(h:KSt B wb g a xs ps k w)(hG:Cf.Good k)(hu:u<k.mods.length)(hT:Tabs B wb):
  Calls Tryz.prog 141 #[.pointer (some ⟨g,0,none⟩),.int .i64 u] w (dF B wb g w (Cf.gz k u)):=by
 have HXB:=hid (Wb.new w au [.int .i64 0,.int .i64 0,.string ⟨#[]⟩])
 have HXw:=hid (KpA.alloc w (.cells #[.int .i64 0,.int .i64 0,.string ⟨#[]⟩] au))
 have HX0:=hid (KpA.refl (w.alloc (.cells #[.int .i64 0,.int .i64 0,.string ⟨#[]⟩] au)))
 have HK0:=hid (h.below ((Below.refl _ _).alloc (Nat.le_refl _) (.cells #[.int .i64 0,.int .i64 0,.string ⟨#[]⟩] au)))
 have hroom:=h.room
 have hlow:w.heap.size≤w.heap.size:=Nat.le_refl _
 have hwd:=(Cf.qI hG.memL hG.memW u 256).2.2
 obtain⟨n,hn⟩:=Int.eq_ofNat_of_zero_le hwd.1
 have hb:n≤65535:=by omega
 have HT:=hid (show Cf.gz k u=if (Cf.fK k u 256).ok then⟨Cf.setMem k (Cf.fK k u 256).mem,⟨0,1,[UInt8.ofNat n]⟩⟩ else Cf.ai k 14 by
  unfold Cf.gz
  rw[hn,Int.toNat_natCast]
  rfl)
 have HA:=hid (fun W (hW:KSt B wb g a xs ps k W)=>DI k u 256 W hW hG hu (by omega) hT)
 have Hn:=hid hn
 have HF:=hid (fun h:(Cf.fK k u 256).ok=false=>(show(Cf.fK k u 256).mem=k.mem by
  unfold Cf.fK at h ⊢
  split at h
  ·cases h
  ·rw[if_neg (by assumption)]))
 rw[HT.out]
 clear h hG hwd hn HT hT
 generalize Cf.fK k u 256=q at *
 obtain⟨qm,qw,qo⟩:=q
 cases qo
 ·have hmm:=HF.out rfl
  simp only at hmm Hn
  subst hmm
  go_enter Tryz.func141,Tryz.ntmps141
  go_upto_region 1 with fail
  generalize w.alloc (.cells #[.int .i64 0,.int .i64 0,.string ⟨#[]⟩] au)=w0 at *
  go_wp2_with fail
  refine(HA.out _ HK0.out).mono ?_
  rintro e w1 ⟨rfl,⟨a1,xs1,ps1,hK1⟩,hg1⟩
  have HX1:=hid (HX0.out.trans (hg1.kpA HK0.out.box))
  have HK1:=hid (show KSt B wb g a1 xs1 ps1 k w1 from hK1)
  clear hK1 hg1 HX0 HK0 HA HF
  go_wp2_with fail
  refine(az 14 _).mono ?_
  rintro e w2 ⟨rfl,hb2⟩
  have HK2:=hid (HK1.out.below hb2)
  have HX2:=hid (HX1.out.below hb2)
  simp only[aF]
  clear hb2 HK1 HX1
  have hX9:=HX2.out _ _ HXB.out
  have HFin:=hid (ay HK2.out HX2.out HXw.out HXB.out hlow hroom)
  obtain⟨p0,p1,p2,f0,hl9⟩:=aS hX9
  clear hX9 HK2 HX2 HXw HXB
  go_wp2
  refine bodyPost_ret (v:=.agg #[.int .i64 14,.int .i64 0,.string ⟨#[]⟩]) (by simp[results,Tryz.results141,go_sem,p0,p1,p2]) rfl ?_
  exact⟨rfl,by(show ah _ _ _ _ k _);with_reducible exact HFin.out _ _ _⟩
 ·simp only at Hn
  have hqw:qw=(n:Int):=Hn.out
  subst hqw
  have hby:((UInt8.ofNat n).toNat:Int)=(n:Int) % 256:=by rw[UInt8.toNat_ofNat'];omega
  have HAw:=hid (fun W=>lI [UInt8.ofNat n] W (by simp))
  clear HF Hn
  go_enter Tryz.func141,Tryz.ntmps141
  go_upto_region 1 with fail
  generalize w.alloc (.cells #[.int .i64 0,.int .i64 0,.string ⟨#[]⟩] au)=w0 at *
  go_wp2_with fail
  refine(HA.out _ HK0.out).mono ?_
  rintro e w1 ⟨rfl,⟨a1,xs1,ps1,hK1⟩,hg1⟩
  have HX1:=hid (HX0.out.trans (hg1.kpA HK0.out.box))
  have HK1:=hid hK1
  have hcv:=one_byte w1 (UInt8.ofNat n)
  rw[hby]at hcv
  clear hK1 hg1 HX0 HK0 HA
  go_wp2_with fail
  refine(HAw.out _).mono ?_
  rintro e w2 ⟨rfl,hb2⟩
  simp only[aF]
  have HK2:=hid ((HK1.out.below ((Below.refl _ _).alloc (Nat.le_refl _) _)).below hb2)
  have HX2:=hid ((HX1.out.trans (KpA.alloc _ _)).below hb2)
  clear hb2 HK1 HX1 HAw hcv hby
  have hX9:=HX2.out _ _ HXB.out
  have HFin:=hid (ay HK2.out HX2.out HXw.out HXB.out hlow hroom)
  obtain⟨p0,p1,p2,f0,hl9⟩:=aS hX9
  clear hX9 HK2 HX2 HXw HXB
  go_wp2
  refine bodyPost_ret (v:=.agg #[.int .i64 0,.int .i64 1,.string ⟨#[UInt8.ofNat n]⟩]) (by simp[results,Tryz.results141,go_sem,p0,p1,p2]) rfl ?_
  exact⟨rfl,by(show ah _ _ _ _ (Cf.setMem k qm) _);with_reducible exact HFin.out _ _ _⟩
def Fed(k:Cf.ag)(u:Nat)(s:List UInt8)(n:Nat)(m:List Int):Prop:=
 Cf.Good (Cf.setMem k m)∧(Cf.jK k u s).mem=(Cf.jK (Cf.setMem k m) u (s.drop n)).mem∧(Cf.jK k u s).many=n+(Cf.jK (Cf.setMem k m) u (s.drop n)).many∧(n=0→m=k.mem)
theorem Fed.start{k:Cf.ag}(hG:Cf.Good k)(u:Nat)(s:List UInt8):Fed k u s 0 k.mem:=⟨hG,rfl,by rw[List.drop_zero];show _=0+(Cf.jK k u s).many;omega,fun _=>rfl⟩
theorem Fed.next{k:Cf.ag}{u:Nat}{s:List UInt8}{n:Nat}{m:List Int}{b:UInt8}(h:Fed k u s n m)(hb:s[n]?=some b)(ho:(Cf.fK (Cf.setMem k m) u b.toNat).ok=true):Fed k u s (n+1) (Cf.fK (Cf.setMem k m) u b.toNat).mem:=by
 obtain⟨h1,h2,h3,_⟩:=h
 obtain⟨e1,e2,_⟩:=Cf.qI h1.memL h1.memW u b.toNat
 have hd:s.drop n=b :: s.drop (n+1):=by
  obtain⟨hl,rfl⟩:=List.getElem?_eq_some_iff.1 hb
  exact List.drop_eq_getElem_cons hl
 rw[hd,Cf.jK,if_pos ho]at h2 h3
 exact⟨h1.setMem e1 e2,h2,h3.trans (by show n+((Cf.jK (Cf.setMem k _) u _).many+1)=n+1+(Cf.jK (Cf.setMem k _) u _).many;omega),fun h=>by omega⟩
theorem Fed.stop{k:Cf.ag}{u:Nat}{s:List UInt8}{n:Nat}{m:List Int}{b:UInt8}(h:Fed k u s n m)(hb:s[n]?=some b)(ho:(Cf.fK (Cf.setMem k m) u b.toNat).ok=false):Cf.dE k u s=if n=0 then Cf.ai k 14 else⟨Cf.setMem k m,⟨0,n,[]⟩⟩:=by
 obtain⟨h1,h2,h3,_⟩:=h
 have hd:s.drop n=b :: s.drop (n+1):=by
  obtain⟨hl,rfl⟩:=List.getElem?_eq_some_iff.1 hb
  exact List.drop_eq_getElem_cons hl
 rw[hd,Cf.jK,if_neg (by rw[ho];decide)]at h2 h3
 unfold Cf.dE
 rw[h2,h3]
 rfl
theorem Fed.done{k:Cf.ag}{u:Nat}{s:List UInt8}{m:List Int}(h:Fed k u s s.length m):Cf.dE k u s=if s.length=0 then Cf.ai k 14 else⟨Cf.setMem k m,⟨0,s.length,[]⟩⟩:=by
 obtain⟨h1,h2,h3,_⟩:=h
 rw[List.drop_length,Cf.jK]at h2 h3
 unfold Cf.dE
 rw[h2,h3]
 rfl
theorem zY{k:Cf.ag}{u:Nat}{x:Int}(h:(Cf.fK k u x).ok=false):Cf.setMem k (Cf.fK k u x).mem=k:=by
 have:(Cf.fK k u x).mem=k.mem:=by
  unfold Cf.fK at h ⊢
  split at h
  ·cases h
  ·rw[if_neg (by assumption)]
 rw[this]
 rfl
theorem tX{B:Nat}{wb:World}{g:Nat}{a:KA}{xs:List MV}{ps:List PV}(k:Cf.ag)(u:Nat)(s:List UInt8)(w:World)(h:KSt B wb g a xs ps k w)(hG:Cf.Good k)(hu:u<k.mods.length)(hs:1≤s.length)(hs2:s.length≤100)(hT:Tabs B wb):
  Calls Tryz.prog 144 #[.pointer (some ⟨g,0,none⟩),.int .i64 u,.string ⟨s.toArray⟩] w (dF B wb g w (Cf.dE k u s)):=by
 have HXB:=hid (Wb.new w au [.int .i64 0,.int .i64 0,.string ⟨#[]⟩])
 have HXw:=hid (KpA.alloc w (.cells #[.int .i64 0,.int .i64 0,.string ⟨#[]⟩] au))
 have HX0:=hid (KpA.refl (w.alloc (.cells #[.int .i64 0,.int .i64 0,.string ⟨#[]⟩] au)))
 have HK0:=hid (h.below ((Below.refl _ _).alloc (Nat.le_refl _) (.cells #[.int .i64 0,.int .i64 0,.string ⟨#[]⟩] au)))
 have hroom:=h.room
 have hlow:w.heap.size≤w.heap.size:=Nat.le_refl _
 have HA:=hid (fun(m:List Int) (hg:Cf.Good (Cf.setMem k m)) (a:KA) (xs:List MV) (ps:List PV) W (hW:KSt B wb g a xs ps (Cf.setMem k m) W) (b:UInt8)=>DI (Cf.setMem k m) u b.toNat W hW hg hu (by have:=b.toNat_lt;omega) hT)
 have HF0:=hid (Fed.start hG u s)
 obtain⟨dd,hdd⟩:∃dd,dd=Cf.dE k u s:=⟨_,rfl⟩
 have HD:=hid hdd
 rw[← hdd]
 clear h hG hT hu hdd
 go_enter Tryz.func144,Tryz.ntmps144
 go_upto_region 1 with fail
 generalize w.alloc (.cells #[.int .i64 0,.int .i64 0,.string ⟨#[]⟩] au)=w0 at *
 obtain⟨cap,w1,hcv,hby,hb1⟩:=AX s w0
 have HB1:=hid hby
 have HK1:=hid (HK0.out.below hb1)
 have HX1:=hid (HX0.out.below hb1)
 have hbl:w0.heap.size<w1.heap.size:=by
  rcases hby with h0|⟨b,off,he,hl,_⟩
  ·rw[h0]at hs
   simp at hs
  ·cases he
   exact hl
 generalize hgb:w0.heap.size=gb at *
 have hgg:gb≠g:=by have:=HK0.out.box.lt;omega
 clear HK0 HX0 hb1 hby
 go_wp2
 clear hcv
 go_loopw [7,15] (fun v i wr=>∃(n:Nat) (m:List Int),n≤s.length∧v = .int .i64 n∧i = .int .i64 n∧Fed k u s n m∧(∃a xs ps,KSt B wb g a xs ps (Cf.setMem k m) wr)∧KpG g w1 wr) (fun v i _=>s.length-(intOf i).toNat)
 case atStart=>exact⟨0,k.mem,by omega,rfl,rfl,HF0.out,⟨_,_,_,HK1.out⟩,KpG.of (Below.refl _ _)⟩
 case round=>
  obtain⟨n,m,hn,rfl,rfl,hF,⟨a1,xs1,ps1,hK⟩,hg⟩:=hrel
  have HF:=hid hF
  have HK:=hid hK
  have HG:=hid hg
  clear hF hK hg HF0
  by_cases hlt:n<s.length
  ·obtain⟨b,hb⟩:∃b,s[n]?=some b:=⟨_,List.getElem?_eq_getElem hlt⟩
   have r0:wr.cell? ⟨gb,n,none⟩=some (.int .u8 (b.toNat:Int)):=by
    rcases HB1.out with h0|⟨b1,off,he,hl,hc⟩
    ·rw[h0]at hlt
     simp at hlt
    ·cases he
     have:=hc n b hb 0 _ rfl
     rw[show 0+n*1+0=n by omega]at this
     rw[← this]
     exact World.cell?_of_block (HG.out.2 _ hl hgg)
   have rl:gb<wr.heap.size:=Nat.lt_of_lt_of_le hbl HG.out.1
   have Hb:=hid hb
   have hbt:=b.toNat_lt
   have HA1:=hid (HA.out m HF.out.1 a1 xs1 ps1 wr HK.out b)
   clear hb
   have HN:=hid (fun h=>HF.out.next Hb.out h)
   have HS:=hid (fun h=>HF.out.stop Hb.out h)
   have HSm:=hid (fun h=>zY (k:=Cf.setMem k m) (u:=u) (x:=b.toNat) h)
   generalize Cf.fK (Cf.setMem k m) u b.toNat=q at *
   obtain⟨qm,qw,qo⟩:=q
   go_wp2_with fail
   refine HA1.out.mono ?_
   rintro e w2 ⟨rfl,⟨a2,xs2,ps2,hK2⟩,hg2⟩
   have HK2:=hid hK2
   have HG2:=hid (HG.out.trans hg2)
   clear hK2 hg2 HA1 HG r0 rl
   cases qo
   ·have HW:=hid (HS.out rfl)
    have HK3:=hid (show KSt B wb g a2 xs2 ps2 (Cf.setMem k m) w2 from by have:=HSm.out rfl;have h2:=HK2.out;rw[this]at h2;exact h2)
    have HX2:=hid (HX1.out.trans (HG2.out.kpA HK1.out.box))
    have HM:=hid HF.out.2.2.2
    clear HN HS HSm HK2 HK HF HA HG2
    by_cases h0:n=0
    ·subst h0
     rw[if_pos rfl]at HW
     have HK9:=hid (show KSt B wb g a2 xs2 ps2 k w2 from by have:=HM.out rfl;have h2:=HK3.out;rw[this]at h2;exact h2)
     have hw:=HD.out.trans HW.out
     subst hw
     clear HW HK3 HM HK1 HX1 HD
     go_wp2_with fail
     refine(az 14 _).mono ?_
     rintro e w3 ⟨rfl,hb3⟩
     have HK3:=hid (HK9.out.below hb3)
     have HX3:=hid (HX2.out.below hb3)
     simp only[aF]
     clear hb3 HK9 HX2
     have hX9:=HX3.out _ _ HXB.out
     have HFin:=hid (ay HK3.out HX3.out HXw.out HXB.out hlow hroom)
     obtain⟨p0,p1,p2,f0,hl9⟩:=aS hX9
     clear hX9 HK3 HX3 HXw HXB
     go_wp2
     refine bodyPost_ret (v:=.agg #[.int .i64 14,.int .i64 0,.string ⟨#[]⟩]) (by simp[results,Tryz.results144,go_sem,p0,p1,p2]) rfl ?_
     exact⟨rfl,by(show ah _ _ _ _ k _);with_reducible exact HFin.out _ _ _⟩
    ·rw[if_neg h0]at HW
     have hw:=HD.out.trans HW.out
     subst hw
     clear HW HM HK1 HX1 HD
     have hX9:=HX2.out _ _ HXB.out
     have HFin:=hid (ay HK3.out HX2.out HXw.out HXB.out hlow hroom)
     obtain⟨p0,p1,p2,f0,hl9⟩:=aS hX9
     clear hX9 HK3 HX2 HXw HXB
     go_wp2
     refine bodyPost_ret (v:=.agg #[.int .i64 0,.int .i64 n,.string ⟨#[]⟩]) (by simp[results,Tryz.results144,go_sem,p0,p1,p2]) rfl ?_
     exact⟨rfl,by(show ah _ _ _ _ (Cf.setMem k m) _);with_reducible exact HFin.out _ _ _⟩
   ·have HN2:=hid (HN.out rfl)
    clear HN HS HSm HK HF HA
    go_wp2
    go_roundw
    case rel=>exact⟨n+1,qm,by omega,by go_num,by go_num,HN2.out,⟨_,_,_,HK2.out⟩,HG2.out⟩
    case measure=>simp[intOf];omega
  ·obtain rfl:n=s.length:=by omega
   have HW:=hid HF.out.done
   rw[if_neg (by omega)]at HW
   have hw:=HD.out.trans HW.out
   subst hw
   have HX2:=hid (HX1.out.trans (HG.out.kpA HK1.out.box))
   have HK3:=HK
   clear HW HF HA HK1 HX1 HG HK HD
   have h0:¬s.length=0:=by omega
   have hX9:=HX2.out _ _ HXB.out
   have HFin:=hid (ay HK3.out HX2.out HXw.out HXB.out hlow hroom)
   obtain⟨p0,p1,p2,f0,hl9⟩:=aS hX9
   clear hX9 HK3 HX2 HXw HXB
   go_wp2
   refine bodyPost_ret (v:=.agg #[.int .i64 0,.int .i64 s.length,.string ⟨#[]⟩]) (by simp[results,Tryz.results144,go_sem,p0,p1,p2]) rfl ?_
   exact⟨rfl,by(show ah _ _ _ _ (Cf.setMem k m) _);with_reducible exact HFin.out _ _ _⟩
end
section
open Go.RowKit
theorem oD{k:Cf.ag}(hG:Cf.Good k){q i:Nat}(hq:q<4)(hi:i<6)(h0:(Cf.aH k q i).kind≠0):
  (∃(n po:Nat) (f:Cf.Node),n<8∧po≤100∧Cf.aH k q i=⟨1,n,po⟩∧Cf.nodeAt k n=f∧k.nodes[n]?=some f∧f.data.length≤100∧(f.kind=1∨f.kind=2∧∃u:Nat,f.unit=u∧u<k.mods.length)) ∨
  (∃n:Nat,n<6∧Cf.aH k q i=⟨2,n,0⟩)∨(∃n:Nat,n<6∧Cf.aH k q i=⟨3,n,0⟩):=by
 have hk:=hG.kinds hq hi h0
 generalize he:Cf.aH k q i=e at *
 obtain⟨ek,en,ep⟩:=e
 simp only at hk
 rcases hk with ⟨h1,h2,h3,h4,h5,h6⟩|⟨h1,h2,h3,h4⟩
 ·obtain⟨n,rfl⟩:=Int.eq_ofNat_of_zero_le h2
  obtain⟨po,rfl⟩:=Int.eq_ofNat_of_zero_le h5
  have hN:=hG.nodeK h2 h3 h4
  rw[Int.toNat_natCast]at hN
  refine .inl ⟨n,po,Cf.nodeAt k n,by omega,by omega,by rw[h1],rfl,hG.toPre.nodeM (by omega),?_,?_⟩
  ·rcases hN with hN|hN
   ·exact hN.2.2
   ·rw[hN.2.1];simp
  ·rcases hN with hN|hN
   ·exact .inl hN.1
   ·obtain⟨u,hu⟩:=Int.eq_ofNat_of_zero_le hN.2.2.1
    exact .inr ⟨hN.1,u,hu,by have:=hN.2.2.2;omega⟩
 ·obtain⟨n,rfl⟩:=Int.eq_ofNat_of_zero_le h2
  subst h4
  rcases h1 with rfl|rfl
  ·exact .inr (.inl ⟨n,by omega,rfl⟩)
  ·exact .inr (.inr ⟨n,by omega,rfl⟩)
theorem Jm{B:Nat}{wb:World}{g:Nat}{a:KA}{xs:List MV}{ps:List PV}(k:Cf.ag)(q gQ gE ce:Nat)(lv:Bool)(es:List Cf.End)(i:Nat)(z:Int)(w:World)(h:KSt B wb g a xs ps k w)(hG:Cf.Good k)(hP:PAt a ps k q gQ gE ce lv es)(hq:q<4)(hi:i<6)(h0:(Cf.aH k q i).kind≠0)(hT:Tabs B wb):
  Calls Tryz.prog 115 #[.pointer (some ⟨g,0,none⟩),.pointer (some ⟨gE,i*3,none⟩),.int .i64 z] w (dF B wb g w (Cf.gI k q i z)):=by
 obtain⟨A,ca,M,cm,N,cn,S,cs,Q,cq⟩:=a
 have HXB:=hid (Wb.new w au [.int .i64 0,.int .i64 0,.string ⟨#[]⟩])
 have HXw:=hid (KpA.alloc w (.cells #[.int .i64 0,.int .i64 0,.string ⟨#[]⟩] au))
 have HX0:=hid (KpA.refl (w.alloc (.cells #[.int .i64 0,.int .i64 0,.string ⟨#[]⟩] au)))
 have HK0:=hid (h.below ((Below.refl _ _).alloc (Nat.le_refl _) (.cells #[.int .i64 0,.int .i64 0,.string ⟨#[]⟩] au)))
 have hroom:=h.room
 have hlow:w.heap.size≤w.heap.size:=Nat.le_refl _
 have HP:=hid hP
 have hes:es[i]?=some (Cf.aH k q i):=by
  have:=hG.toPre.end_ hq hi
  rwa [hP.is_]at this
 rcases oD hG hq hi h0 with ⟨n,po,f,hn,hpo,he,hfa,hfn,hfd,hfk⟩|⟨n,hn,he⟩|⟨n,hn,he⟩
 ·skip
  rw[he]at hes
  have HE:=hid hes
  have HF:=hid hfn
  have hn8:(n:Int)<8:=by omega
  obtain⟨gN,hgN,_⟩:=h.own.nodes.at_ hfn
  simp only at hgN
  subst hgN
  have HNl:=hid hG.nodesL
  by_cases hz1:z<1
  ·skip
   have HT:=hid (show Cf.gI k q i z=Cf.ai k 2 by unfold Cf.gI;rw[he,if_neg (by simp),if_pos (by simp[Cf.inB];omega)])
   rw[HT.out]
   clear h hP hes he HT hG hT hfa hfn hfd hfk HF HNl
   go_enter Tryz.func115,Tryz.ntmps115
   go_upto_region 1 with fail
   generalize w.alloc (.cells #[.int .i64 0,.int .i64 0,.string ⟨#[]⟩] au)=w0 at *
   have hBe:=HK0.out.Be HP.out
   have r0:w0.cell? ⟨gE,i*3,none⟩=_:=hBe.cell HE.out (j:=0) rfl
   have r1:w0.cell? ⟨gE,i*3+1,none⟩=_:=hBe.cell HE.out (j:=1) rfl
   have rl:=hBe.lt
   clear hBe
   go_wp2_with fail
   refine(az 2 _).mono ?_
   rintro e w1 ⟨rfl,hb1⟩
   have HK1:=hid (HK0.out.below hb1)
   have HX1:=hid (HX0.out.below hb1)
   simp only[aF]
   clear hb1 HK0 HX0
   have hX9:=HX1.out _ _ HXB.out
   have HFin:=hid (ay HK1.out HX1.out HXw.out HXB.out hlow hroom)
   obtain⟨p0,p1,p2,f0,hl9⟩:=aS hX9
   clear hX9 HK1 HX1 HXw HXB
   go_wp2
   refine bodyPost_ret (v:=.agg #[.int .i64 2,.int .i64 0,.string ⟨#[]⟩]) (by simp[results,Tryz.results115,go_sem,p0,p1,p2]) rfl ?_
   exact⟨rfl,by(show ah _ _ _ _ k _);with_reducible exact HFin.out _ _ _⟩
  by_cases hz2:100<z
  ·skip
   have HT:=hid (show Cf.gI k q i z=Cf.ai k 2 by unfold Cf.gI;rw[he,if_neg (by simp),if_pos (by simp[Cf.inB];omega)])
   rw[HT.out]
   clear h hP hes he HT hG hT hfa hfn hfd hfk HF HNl
   go_enter Tryz.func115,Tryz.ntmps115
   go_upto_region 1 with fail
   generalize w.alloc (.cells #[.int .i64 0,.int .i64 0,.string ⟨#[]⟩] au)=w0 at *
   have hBe:=HK0.out.Be HP.out
   have r0:w0.cell? ⟨gE,i*3,none⟩=_:=hBe.cell HE.out (j:=0) rfl
   have r1:w0.cell? ⟨gE,i*3+1,none⟩=_:=hBe.cell HE.out (j:=1) rfl
   have rl:=hBe.lt
   clear hBe
   go_wp2_with fail
   refine(az 2 _).mono ?_
   rintro e w1 ⟨rfl,hb1⟩
   have HK1:=hid (HK0.out.below hb1)
   have HX1:=hid (HX0.out.below hb1)
   simp only[aF]
   clear hb1 HK0 HX0
   have hX9:=HX1.out _ _ HXB.out
   have HFin:=hid (ay HK1.out HX1.out HXw.out HXB.out hlow hroom)
   obtain⟨p0,p1,p2,f0,hl9⟩:=aS hX9
   clear hX9 HK1 HX1 HXw HXB
   go_wp2
   refine bodyPost_ret (v:=.agg #[.int .i64 2,.int .i64 0,.string ⟨#[]⟩]) (by simp[results,Tryz.results115,go_sem,p0,p1,p2]) rfl ?_
   exact⟨rfl,by(show ah _ _ _ _ k _);with_reducible exact HFin.out _ _ _⟩
  obtain⟨zn,hzn⟩:=Int.eq_ofNat_of_zero_le (show 0≤z by omega)
  subst hzn
  have hin:Cf.inB (zn:Int) 1 100=true:=by simp[Cf.inB];omega
  obtain⟨fnm,fkd,fda,fun_⟩:=f
  simp only at hfd hfk
  rcases hfk with rfl|⟨rfl,u,rfl,hu⟩
  ·skip
   have HT:=hid (show Cf.gI k q i zn=Cf.fG k q i zn fda ⟨1,n,po⟩ by
    unfold Cf.gI
    rw[he,if_neg (by simp),if_neg (by rw[hin];decide),if_neg (by simp)]
    show(if (Cf.nodeAt k (n:Int).toNat).kind=2 then _ else _)=_
    rw[Int.toNat_natCast,hfa,if_neg (by simp)]
    rw[Int.toNat_natCast])
   have HC:=hid (fun W (hW:KSt B wb g ⟨A,ca,M,cm,some ⟨gN,0,none⟩,cn,S,cs,Q,cq⟩ xs ps k W)=>yP k q gQ gE ce lv es i zn ⟨1,n,po⟩ fda W hW hP hes hfd (by omega) ⟨by show(0:Int)≤(po:Int);omega,by show(po:Int)≤100;omega⟩)
   rw[HT.out]
   clear h hes he HT hG hT hfn hfa hfd hP
   go_enter Tryz.func115,Tryz.ntmps115
   go_upto_region 1 with fail
   generalize w.alloc (.cells #[.int .i64 0,.int .i64 0,.string ⟨#[]⟩] au)=w0 at *
   have hBe:=HK0.out.Be HP.out
   have r0:w0.cell? ⟨gE,i*3,none⟩=_:=hBe.cell HE.out (j:=0) rfl
   have r1:w0.cell? ⟨gE,i*3+1,none⟩=_:=hBe.cell HE.out (j:=1) rfl
   have rl:=hBe.lt
   clear hBe
   have hBn:=HK0.out.Bn rfl HF.out
   have n0:w0.cell? ⟨gN,n*4,none⟩=_:=hBn.cell HF.out (j:=0) rfl
   have n1:w0.cell? ⟨gN,n*4+1,none⟩=_:=hBn.cell HF.out (j:=1) rfl
   have n2:w0.cell? ⟨gN,n*4+2,none⟩=_:=hBn.cell HF.out (j:=2) rfl
   have n3:w0.cell? ⟨gN,n*4+3,none⟩=_:=hBn.cell HF.out (j:=3) rfl
   have nl:=hBn.lt
   clear hBn
   have c2:=HK0.out.ptr.c2
   simp only[HNl.out]at c2
   have kl:=HK0.out.box.lt
   go_upto_region 7 with fail
   go_region
   all_goals
    have HK1:=hid (HK0.out.below (((Below.refl w0.heap.size w0).alloc (Nat.le_refl _) (.cells #[.string ⟨fnm.toArray⟩,.int .i64 1,.string ⟨fda.toArray⟩,.int .i64 fun_] bu)).drew))
    have HX1:=hid ((HX0.out.trans (KpA.alloc w0 (.cells #[.string ⟨fnm.toArray⟩,.int .i64 1,.string ⟨fda.toArray⟩,.int .i64 fun_] bu))).draw 1)
    clear HK0 HX0
    go_wp2_with fail
    clear r0 r1 rl n0 n1 n2 n3 nl c2 kl
    refine(HC.out _ HK1.out).mono ?_
    rintro e w2 ⟨rfl,⟨a9,xs9,ps9,hK9⟩,hx9⟩
    have HK2:=hid hK9
    have HX2:=hid (HX1.out.trans hx9)
    clear hK9 hx9 HK1 HX1
    simp only[aF]
    generalize Cf.fG k q i zn fda ⟨1,n,po⟩=dd at *
    obtain⟨dk,dc,dn,ds⟩:=dd
    have hX9:=HX2.out _ _ HXB.out
    have HFin:=hid (ay HK2.out HX2.out HXw.out HXB.out hlow hroom)
    obtain⟨p0,p1,p2,f0,hl9⟩:=aS hX9
    clear hX9 HK2 HX2 HXw HXB
    go_wp2
    refine bodyPost_ret (v:=.agg #[.int .i64 dc,.int .i64 dn,.string ⟨ds.toArray⟩]) (by simp[results,Tryz.results115,go_sem,p0,p1,p2]) rfl ?_
    exact⟨rfl,by(show ah _ _ _ _ dk _);with_reducible exact HFin.out _ _ _⟩
  ·skip
   have HT:=hid (show Cf.gI k q i zn=Cf.gz k u by
    unfold Cf.gI
    rw[he,if_neg (by simp),if_neg (by rw[hin];decide),if_neg (by simp)]
    show(if (Cf.nodeAt k (n:Int).toNat).kind=2 then _ else _)=_
    rw[Int.toNat_natCast,hfa,if_pos rfl]
    show Cf.gz k (u:Int).toNat=_
    rw[Int.toNat_natCast])
   have HC:=hid (fun W (hW:KSt B wb g ⟨A,ca,M,cm,some ⟨gN,0,none⟩,cn,S,cs,Q,cq⟩ xs ps k W)=>uH k u W hW hG hu hT)
   rw[HT.out]
   clear h hes he HT hG hT hfn hfa hfd hP
   go_enter Tryz.func115,Tryz.ntmps115
   go_upto_region 1 with fail
   generalize w.alloc (.cells #[.int .i64 0,.int .i64 0,.string ⟨#[]⟩] au)=w0 at *
   have hBe:=HK0.out.Be HP.out
   have r0:w0.cell? ⟨gE,i*3,none⟩=_:=hBe.cell HE.out (j:=0) rfl
   have r1:w0.cell? ⟨gE,i*3+1,none⟩=_:=hBe.cell HE.out (j:=1) rfl
   have rl:=hBe.lt
   clear hBe
   have hBn:=HK0.out.Bn rfl HF.out
   have n0:w0.cell? ⟨gN,n*4,none⟩=_:=hBn.cell HF.out (j:=0) rfl
   have n1:w0.cell? ⟨gN,n*4+1,none⟩=_:=hBn.cell HF.out (j:=1) rfl
   have n2:w0.cell? ⟨gN,n*4+2,none⟩=_:=hBn.cell HF.out (j:=2) rfl
   have n3:w0.cell? ⟨gN,n*4+3,none⟩=_:=hBn.cell HF.out (j:=3) rfl
   have nl:=hBn.lt
   clear hBn
   have c2:=HK0.out.ptr.c2
   simp only[HNl.out]at c2
   have kl:=HK0.out.box.lt
   go_upto_region 7 with fail
   go_region
   all_goals
    have HK1:=hid (HK0.out.below (((Below.refl w0.heap.size w0).alloc (Nat.le_refl _) (.cells #[.string ⟨fnm.toArray⟩,.int .i64 2,.string ⟨fda.toArray⟩,.int .i64 u] bu)).drew))
    have HX1:=hid ((HX0.out.trans (KpA.alloc w0 (.cells #[.string ⟨fnm.toArray⟩,.int .i64 2,.string ⟨fda.toArray⟩,.int .i64 u] bu))).draw 1)
    clear HK0 HX0
    go_wp2_with fail
    clear r0 r1 rl n0 n1 n2 n3 nl c2 kl
    refine(HC.out _ HK1.out).mono ?_
    rintro e w2 ⟨rfl,⟨a9,xs9,ps9,hK9⟩,hx9⟩
    have HK2:=hid hK9
    have HX2:=hid (HX1.out.trans hx9)
    clear hK9 hx9 HK1 HX1
    simp only[aF]
    generalize Cf.gz k u=dd at *
    obtain⟨dk,dc,dn,ds⟩:=dd
    have hX9:=HX2.out _ _ HXB.out
    have HFin:=hid (ay HK2.out HX2.out HXw.out HXB.out hlow hroom)
    obtain⟨p0,p1,p2,f0,hl9⟩:=aS hX9
    clear hX9 HK2 HX2 HXw HXB
    go_wp2
    refine bodyPost_ret (v:=.agg #[.int .i64 dc,.int .i64 dn,.string ⟨ds.toArray⟩]) (by simp[results,Tryz.results115,go_sem,p0,p1,p2]) rfl ?_
    exact⟨rfl,by(show ah _ _ _ _ dk _);with_reducible exact HFin.out _ _ _⟩
 ·skip
  rw[he]at hes
  have HE:=hid hes
  by_cases hz1:z<1
  ·skip
   have HT:=hid (show Cf.gI k q i z=Cf.ai k 2 by unfold Cf.gI;rw[he,if_neg (by simp),if_pos (by simp[Cf.inB];omega)])
   rw[HT.out]
   clear h hP hes he HT hG hT
   go_enter Tryz.func115,Tryz.ntmps115
   go_upto_region 1 with fail
   generalize w.alloc (.cells #[.int .i64 0,.int .i64 0,.string ⟨#[]⟩] au)=w0 at *
   have hBe:=HK0.out.Be HP.out
   have r0:w0.cell? ⟨gE,i*3,none⟩=_:=hBe.cell HE.out (j:=0) rfl
   have r1:w0.cell? ⟨gE,i*3+1,none⟩=_:=hBe.cell HE.out (j:=1) rfl
   have rl:=hBe.lt
   clear hBe
   go_wp2_with fail
   refine(az 2 _).mono ?_
   rintro e w1 ⟨rfl,hb1⟩
   have HK1:=hid (HK0.out.below hb1)
   have HX1:=hid (HX0.out.below hb1)
   simp only[aF]
   clear hb1 HK0 HX0
   have hX9:=HX1.out _ _ HXB.out
   have HFin:=hid (ay HK1.out HX1.out HXw.out HXB.out hlow hroom)
   obtain⟨p0,p1,p2,f0,hl9⟩:=aS hX9
   clear hX9 HK1 HX1 HXw HXB
   go_wp2
   refine bodyPost_ret (v:=.agg #[.int .i64 2,.int .i64 0,.string ⟨#[]⟩]) (by simp[results,Tryz.results115,go_sem,p0,p1,p2]) rfl ?_
   exact⟨rfl,by(show ah _ _ _ _ k _);with_reducible exact HFin.out _ _ _⟩
  by_cases hz2:100<z
  ·skip
   have HT:=hid (show Cf.gI k q i z=Cf.ai k 2 by unfold Cf.gI;rw[he,if_neg (by simp),if_pos (by simp[Cf.inB];omega)])
   rw[HT.out]
   clear h hP hes he HT hG hT
   go_enter Tryz.func115,Tryz.ntmps115
   go_upto_region 1 with fail
   generalize w.alloc (.cells #[.int .i64 0,.int .i64 0,.string ⟨#[]⟩] au)=w0 at *
   have hBe:=HK0.out.Be HP.out
   have r0:w0.cell? ⟨gE,i*3,none⟩=_:=hBe.cell HE.out (j:=0) rfl
   have r1:w0.cell? ⟨gE,i*3+1,none⟩=_:=hBe.cell HE.out (j:=1) rfl
   have rl:=hBe.lt
   clear hBe
   go_wp2_with fail
   refine(az 2 _).mono ?_
   rintro e w1 ⟨rfl,hb1⟩
   have HK1:=hid (HK0.out.below hb1)
   have HX1:=hid (HX0.out.below hb1)
   simp only[aF]
   clear hb1 HK0 HX0
   have hX9:=HX1.out _ _ HXB.out
   have HFin:=hid (ay HK1.out HX1.out HXw.out HXB.out hlow hroom)
   obtain⟨p0,p1,p2,f0,hl9⟩:=aS hX9
   clear hX9 HK1 HX1 HXw HXB
   go_wp2
   refine bodyPost_ret (v:=.agg #[.int .i64 2,.int .i64 0,.string ⟨#[]⟩]) (by simp[results,Tryz.results115,go_sem,p0,p1,p2]) rfl ?_
   exact⟨rfl,by(show ah _ _ _ _ k _);with_reducible exact HFin.out _ _ _⟩
  obtain⟨zn,hzn⟩:=Int.eq_ofNat_of_zero_le (show 0≤z by omega)
  subst hzn
  have hin:Cf.inB (zn:Int) 1 100=true:=by simp[Cf.inB];omega
  have HT:=hid (show Cf.gI k q i zn=Cf.dB k n zn by
   unfold Cf.gI
   rw[he,if_neg (by simp),if_neg (by rw[hin];decide),if_pos (by rfl)]
   show Cf.dB k (n:Int).toNat (zn:Int).toNat=_
   rw[Int.toNat_natCast]
   rw[Int.toNat_natCast])
  have HC:=hid (fun W (hW:KSt B wb g ⟨A,ca,M,cm,N,cn,S,cs,Q,cq⟩ xs ps k W)=>yE k n zn W hW hG hn)
  rw[HT.out]
  clear h hP hes he HT hG hT
  go_enter Tryz.func115,Tryz.ntmps115
  go_upto_region 1 with fail
  generalize w.alloc (.cells #[.int .i64 0,.int .i64 0,.string ⟨#[]⟩] au)=w0 at *
  have hBe:=HK0.out.Be HP.out
  have r0:w0.cell? ⟨gE,i*3,none⟩=_:=hBe.cell HE.out (j:=0) rfl
  have r1:w0.cell? ⟨gE,i*3+1,none⟩=_:=hBe.cell HE.out (j:=1) rfl
  have rl:=hBe.lt
  clear hBe
  go_wp2_with fail
  clear r0 r1 rl
  refine(HC.out _ HK0.out).mono ?_
  rintro e w1 ⟨rfl,⟨a9,xs9,ps9,hK9⟩,hx9⟩
  have HK1:=hid hK9
  have HX1:=hid (HX0.out.trans hx9)
  clear hK9 hx9 HK0 HX0
  simp only[aF]
  generalize Cf.dB k n zn=dd at *
  obtain⟨dk,dc,dn,ds⟩:=dd
  have hX9:=HX1.out _ _ HXB.out
  have HFin:=hid (ay HK1.out HX1.out HXw.out HXB.out hlow hroom)
  obtain⟨p0,p1,p2,f0,hl9⟩:=aS hX9
  clear hX9 HK1 HX1 HXw HXB
  go_wp2
  refine bodyPost_ret (v:=.agg #[.int .i64 dc,.int .i64 dn,.string ⟨ds.toArray⟩]) (by simp[results,Tryz.results115,go_sem,p0,p1,p2]) rfl ?_
  exact⟨rfl,by(show ah _ _ _ _ dk _);with_reducible exact HFin.out _ _ _⟩
 ·skip
  rw[he]at hes
  have HE:=hid hes
  have HT:=hid (show Cf.gI k q i z=Cf.ai k 3 by unfold Cf.gI;rw[he,if_pos rfl])
  rw[HT.out]
  clear h hP hes he HT hG hT
  go_enter Tryz.func115,Tryz.ntmps115
  go_upto_region 1 with fail
  generalize w.alloc (.cells #[.int .i64 0,.int .i64 0,.string ⟨#[]⟩] au)=w0 at *
  have hBe:=HK0.out.Be HP.out
  have r0:w0.cell? ⟨gE,i*3,none⟩=_:=hBe.cell HE.out (j:=0) rfl
  have r1:w0.cell? ⟨gE,i*3+1,none⟩=_:=hBe.cell HE.out (j:=1) rfl
  have rl:=hBe.lt
  clear hBe
  go_wp2_with fail
  refine(az 3 _).mono ?_
  rintro e w1 ⟨rfl,hb1⟩
  have HK1:=hid (HK0.out.below hb1)
  have HX1:=hid (HX0.out.below hb1)
  simp only[aF]
  clear hb1 HK0 HX0
  have hX9:=HX1.out _ _ HXB.out
  have HFin:=hid (ay HK1.out HX1.out HXw.out HXB.out hlow hroom)
  obtain⟨p0,p1,p2,f0,hl9⟩:=aS hX9
  clear hX9 HK1 HX1 HXw HXB
  go_wp2
  refine bodyPost_ret (v:=.agg #[.int .i64 3,.int .i64 0,.string ⟨#[]⟩]) (by simp[results,Tryz.results115,go_sem,p0,p1,p2]) rfl ?_
  exact⟨rfl,by(show ah _ _ _ _ k _);with_reducible exact HFin.out _ _ _⟩
theorem write_any{B:Nat}{wb:World}{g:Nat}{a:KA}{xs:List MV}{ps:List PV}(k:Cf.ag)(q gQ gE ce:Nat)(lv:Bool)(es:List Cf.End)(i:Nat)(z:List UInt8)(w:World)(h:KSt B wb g a xs ps k w)(hG:Cf.Good k)(hP:PAt a ps k q gQ gE ce lv es)(hq:q<4)(hi:i<6)(h0:(Cf.aH k q i).kind≠0)(hT:Tabs B wb):
  Calls Tryz.prog 116 #[.pointer (some ⟨g,0,none⟩),.pointer (some ⟨gE,i*3,none⟩),.string ⟨z.toArray⟩] w (dF B wb g w (Cf.writeT k q i z)):=by
 obtain⟨A,ca,M,cm,N,cn,S,cs,Q,cq⟩:=a
 have HXB:=hid (Wb.new w au [.int .i64 0,.int .i64 0,.string ⟨#[]⟩])
 have HXw:=hid (KpA.alloc w (.cells #[.int .i64 0,.int .i64 0,.string ⟨#[]⟩] au))
 have HX0:=hid (KpA.refl (w.alloc (.cells #[.int .i64 0,.int .i64 0,.string ⟨#[]⟩] au)))
 have HK0:=hid (h.below ((Below.refl _ _).alloc (Nat.le_refl _) (.cells #[.int .i64 0,.int .i64 0,.string ⟨#[]⟩] au)))
 have hroom:=h.room
 have hlow:w.heap.size≤w.heap.size:=Nat.le_refl _
 have HP:=hid hP
 have hes:es[i]?=some (Cf.aH k q i):=by
  have:=hG.toPre.end_ hq hi
  rwa [hP.is_]at this
 rcases oD hG hq hi h0 with ⟨n,po,f,hn,hpo,he,hfa,hfn,hfd,hfk⟩|⟨n,hn,he⟩|⟨n,hn,he⟩
 ·skip
  rw[he]at hes
  have HE:=hid hes
  have HF:=hid hfn
  have hn8:(n:Int)<8:=by omega
  obtain⟨gN,hgN,_⟩:=h.own.nodes.at_ hfn
  simp only at hgN
  subst hgN
  have HNl:=hid hG.nodesL
  by_cases hz1:z=[]
  ·skip
   subst hz1
   have HT:=hid (show Cf.writeT k q i []=Cf.ai k 2 by unfold Cf.writeT;rw[he,if_neg (by simp),if_pos (by simp[Cf.inB])])
   rw[HT.out]
   clear h hP hes he HT hG hT hfa hfn hfd hfk HF HNl
   go_enter Tryz.func116,Tryz.ntmps116
   go_upto_region 1 with fail
   generalize w.alloc (.cells #[.int .i64 0,.int .i64 0,.string ⟨#[]⟩] au)=w0 at *
   have hBe:=HK0.out.Be HP.out
   have r0:w0.cell? ⟨gE,i*3,none⟩=_:=hBe.cell HE.out (j:=0) rfl
   have r1:w0.cell? ⟨gE,i*3+1,none⟩=_:=hBe.cell HE.out (j:=1) rfl
   have rl:=hBe.lt
   clear hBe
   go_wp2_with fail
   refine(az 2 _).mono ?_
   rintro e w1 ⟨rfl,hb1⟩
   have HK1:=hid (HK0.out.below hb1)
   have HX1:=hid (HX0.out.below hb1)
   simp only[aF]
   clear hb1 HK0 HX0
   have hX9:=HX1.out _ _ HXB.out
   have HFin:=hid (ay HK1.out HX1.out HXw.out HXB.out hlow hroom)
   obtain⟨p0,p1,p2,f0,hl9⟩:=aS hX9
   clear hX9 HK1 HX1 HXw HXB
   go_wp2
   refine bodyPost_ret (v:=.agg #[.int .i64 2,.int .i64 0,.string ⟨#[]⟩]) (by simp[results,Tryz.results116,go_sem,p0,p1,p2]) rfl ?_
   exact⟨rfl,by(show ah _ _ _ _ k _);with_reducible exact HFin.out _ _ _⟩
  by_cases hz2:100<z.length
  ·skip
   have HT:=hid (show Cf.writeT k q i z=Cf.ai k 2 by unfold Cf.writeT;rw[he,if_neg (by simp),if_pos (by simp[Cf.inB];omega)])
   have hzz:(⟨z.toArray⟩:ByteArray).size=z.length:=by simp[ByteArray.size]
   have hze:¬z.isEmpty=true:=by simpa using hz1
   rw[HT.out]
   clear h hP hes he HT hG hT hfa hfn hfd hfk HF HNl
   go_enter Tryz.func116,Tryz.ntmps116
   go_upto_region 1 with fail
   generalize w.alloc (.cells #[.int .i64 0,.int .i64 0,.string ⟨#[]⟩] au)=w0 at *
   have hBe:=HK0.out.Be HP.out
   have r0:w0.cell? ⟨gE,i*3,none⟩=_:=hBe.cell HE.out (j:=0) rfl
   have r1:w0.cell? ⟨gE,i*3+1,none⟩=_:=hBe.cell HE.out (j:=1) rfl
   have rl:=hBe.lt
   clear hBe
   go_wp2_with fail
   refine(az 2 _).mono ?_
   rintro e w1 ⟨rfl,hb1⟩
   have HK1:=hid (HK0.out.below hb1)
   have HX1:=hid (HX0.out.below hb1)
   simp only[aF]
   clear hb1 HK0 HX0
   have hX9:=HX1.out _ _ HXB.out
   have HFin:=hid (ay HK1.out HX1.out HXw.out HXB.out hlow hroom)
   obtain⟨p0,p1,p2,f0,hl9⟩:=aS hX9
   clear hX9 HK1 HX1 HXw HXB
   go_wp2
   refine bodyPost_ret (v:=.agg #[.int .i64 2,.int .i64 0,.string ⟨#[]⟩]) (by simp[results,Tryz.results116,go_sem,p0,p1,p2]) rfl ?_
   exact⟨rfl,by(show ah _ _ _ _ k _);with_reducible exact HFin.out _ _ _⟩
  have hze:¬z.isEmpty=true:=by simpa using hz1
  have hzl:1≤z.length:=List.length_pos_iff.2 hz1
  have hzz:(⟨z.toArray⟩:ByteArray).size=z.length:=by simp[ByteArray.size]
  have hin:Cf.inB (z.length:Int) 1 100=true:=by simp[Cf.inB];omega
  clear hz1
  obtain⟨fnm,fkd,fda,fun_⟩:=f
  simp only at hfd hfk
  rcases hfk with rfl|⟨rfl,u,rfl,hu⟩
  ·skip
   have HT:=hid (show Cf.writeT k q i z=Cf.dO k q i z ⟨1,n,po⟩ ⟨fnm,1,fda,fun_⟩ by
    unfold Cf.writeT
    rw[he,if_neg (by simp),if_neg (by rw[hin];decide),if_neg (by simp)]
    show(if (Cf.nodeAt k (n:Int).toNat).kind=2 then _ else _)=_
    rw[Int.toNat_natCast,hfa,if_neg (by simp)])
   have HC:=hid (fun W (hW:KSt B wb g ⟨A,ca,M,cm,some ⟨gN,0,none⟩,cn,S,cs,Q,cq⟩ xs ps k W)=>wX k q gQ gE ce gN n lv es i ⟨1,n,po⟩ ⟨fnm,1,fda,fun_⟩ z W hW hP hes rfl hfn rfl hfd (by omega) ⟨by show(0:Int)≤(po:Int);omega,by show(po:Int)≤100;omega⟩)
   rw[HT.out]
   clear h hes he HT hG hT hfn hfa hfd hP
   go_enter Tryz.func116,Tryz.ntmps116
   go_upto_region 1 with fail
   generalize w.alloc (.cells #[.int .i64 0,.int .i64 0,.string ⟨#[]⟩] au)=w0 at *
   have hBe:=HK0.out.Be HP.out
   have r0:w0.cell? ⟨gE,i*3,none⟩=_:=hBe.cell HE.out (j:=0) rfl
   have r1:w0.cell? ⟨gE,i*3+1,none⟩=_:=hBe.cell HE.out (j:=1) rfl
   have rl:=hBe.lt
   clear hBe
   have hBn:=HK0.out.Bn rfl HF.out
   have n0:w0.cell? ⟨gN,n*4,none⟩=_:=hBn.cell HF.out (j:=0) rfl
   have n1:w0.cell? ⟨gN,n*4+1,none⟩=_:=hBn.cell HF.out (j:=1) rfl
   have n2:w0.cell? ⟨gN,n*4+2,none⟩=_:=hBn.cell HF.out (j:=2) rfl
   have n3:w0.cell? ⟨gN,n*4+3,none⟩=_:=hBn.cell HF.out (j:=3) rfl
   have nl:=hBn.lt
   clear hBn
   have c2:=HK0.out.ptr.c2
   simp only[HNl.out]at c2
   have kl:=HK0.out.box.lt
   go_upto_region 7 with fail
   go_region
   all_goals
    have HK1:=hid HK0.out.draw
    have HX1:=hid (HX0.out.draw 1)
    clear HK0 HX0
    go_wp2_with fail
    clear r0 r1 rl n0 n1 n2 n3 nl c2 kl
    refine(HC.out _ HK1.out).mono ?_
    rintro e w2 ⟨rfl,⟨a9,xs9,ps9,hK9⟩,hx9⟩
    have HK2:=hid hK9
    have HX2:=hid (HX1.out.trans hx9)
    clear hK9 hx9 HK1 HX1
    simp only[aF]
    generalize Cf.dO k q i z ⟨1,n,po⟩ ⟨fnm,1,fda,fun_⟩=dd at *
    obtain⟨dk,dc,dn,ds⟩:=dd
    have hX9:=HX2.out _ _ HXB.out
    have HFin:=hid (ay HK2.out HX2.out HXw.out HXB.out hlow hroom)
    obtain⟨p0,p1,p2,f0,hl9⟩:=aS hX9
    clear hX9 HK2 HX2 HXw HXB
    go_wp2
    refine bodyPost_ret (v:=.agg #[.int .i64 dc,.int .i64 dn,.string ⟨ds.toArray⟩]) (by simp[results,Tryz.results116,go_sem,p0,p1,p2]) rfl ?_
    exact⟨rfl,by(show ah _ _ _ _ dk _);with_reducible exact HFin.out _ _ _⟩
  ·skip
   have HT:=hid (show Cf.writeT k q i z=Cf.dE k u z by
    unfold Cf.writeT
    rw[he,if_neg (by simp),if_neg (by rw[hin];decide),if_neg (by simp)]
    show(if (Cf.nodeAt k (n:Int).toNat).kind=2 then _ else _)=_
    rw[Int.toNat_natCast,hfa,if_pos rfl]
    show Cf.dE k (u:Int).toNat z=_
    rw[Int.toNat_natCast])
   have HC:=hid (fun W (hW:KSt B wb g ⟨A,ca,M,cm,some ⟨gN,0,none⟩,cn,S,cs,Q,cq⟩ xs ps k W)=>tX k u z W hW hG hu hzl (by omega) hT)
   rw[HT.out]
   clear h hes he HT hG hT hfn hfa hfd hP
   go_enter Tryz.func116,Tryz.ntmps116
   go_upto_region 1 with fail
   generalize w.alloc (.cells #[.int .i64 0,.int .i64 0,.string ⟨#[]⟩] au)=w0 at *
   have hBe:=HK0.out.Be HP.out
   have r0:w0.cell? ⟨gE,i*3,none⟩=_:=hBe.cell HE.out (j:=0) rfl
   have r1:w0.cell? ⟨gE,i*3+1,none⟩=_:=hBe.cell HE.out (j:=1) rfl
   have rl:=hBe.lt
   clear hBe
   have hBn:=HK0.out.Bn rfl HF.out
   have n0:w0.cell? ⟨gN,n*4,none⟩=_:=hBn.cell HF.out (j:=0) rfl
   have n1:w0.cell? ⟨gN,n*4+1,none⟩=_:=hBn.cell HF.out (j:=1) rfl
   have n2:w0.cell? ⟨gN,n*4+2,none⟩=_:=hBn.cell HF.out (j:=2) rfl
   have n3:w0.cell? ⟨gN,n*4+3,none⟩=_:=hBn.cell HF.out (j:=3) rfl
   have nl:=hBn.lt
   clear hBn
   have c2:=HK0.out.ptr.c2
   simp only[HNl.out]at c2
   have kl:=HK0.out.box.lt
   go_upto_region 7 with fail
   go_region
   all_goals
    have HK1:=hid HK0.out.draw
    have HX1:=hid (HX0.out.draw 1)
    clear HK0 HX0
    go_wp2_with fail
    clear r0 r1 rl n0 n1 n2 n3 nl c2 kl
    refine(HC.out _ HK1.out).mono ?_
    rintro e w2 ⟨rfl,⟨a9,xs9,ps9,hK9⟩,hx9⟩
    have HK2:=hid hK9
    have HX2:=hid (HX1.out.trans hx9)
    clear hK9 hx9 HK1 HX1
    simp only[aF]
    generalize Cf.dE k u z=dd at *
    obtain⟨dk,dc,dn,ds⟩:=dd
    have hX9:=HX2.out _ _ HXB.out
    have HFin:=hid (ay HK2.out HX2.out HXw.out HXB.out hlow hroom)
    obtain⟨p0,p1,p2,f0,hl9⟩:=aS hX9
    clear hX9 HK2 HX2 HXw HXB
    go_wp2
    refine bodyPost_ret (v:=.agg #[.int .i64 dc,.int .i64 dn,.string ⟨ds.toArray⟩]) (by simp[results,Tryz.results116,go_sem,p0,p1,p2]) rfl ?_
    exact⟨rfl,by(show ah _ _ _ _ dk _);with_reducible exact HFin.out _ _ _⟩
 ·skip
  rw[he]at hes
  have HE:=hid hes
  have HT:=hid (show Cf.writeT k q i z=Cf.ai k 3 by unfold Cf.writeT;rw[he,if_pos rfl])
  rw[HT.out]
  clear h hP hes he HT hG hT
  go_enter Tryz.func116,Tryz.ntmps116
  go_upto_region 1 with fail
  generalize w.alloc (.cells #[.int .i64 0,.int .i64 0,.string ⟨#[]⟩] au)=w0 at *
  have hBe:=HK0.out.Be HP.out
  have r0:w0.cell? ⟨gE,i*3,none⟩=_:=hBe.cell HE.out (j:=0) rfl
  have r1:w0.cell? ⟨gE,i*3+1,none⟩=_:=hBe.cell HE.out (j:=1) rfl
  have rl:=hBe.lt
  clear hBe
  go_wp2_with fail
  refine(az 3 _).mono ?_
  rintro e w1 ⟨rfl,hb1⟩
  have HK1:=hid (HK0.out.below hb1)
  have HX1:=hid (HX0.out.below hb1)
  simp only[aF]
  clear hb1 HK0 HX0
  have hX9:=HX1.out _ _ HXB.out
  have HFin:=hid (ay HK1.out HX1.out HXw.out HXB.out hlow hroom)
  obtain⟨p0,p1,p2,f0,hl9⟩:=aS hX9
  clear hX9 HK1 HX1 HXw HXB
  go_wp2
  refine bodyPost_ret (v:=.agg #[.int .i64 3,.int .i64 0,.string ⟨#[]⟩]) (by simp[results,Tryz.results116,go_sem,p0,p1,p2]) rfl ?_
  exact⟨rfl,by(show ah _ _ _ _ k _);with_reducible exact HFin.out _ _ _⟩
 ·skip
  rw[he]at hes
  have HE:=hid hes
  by_cases hz1:z=[]
  ·skip
   subst hz1
   have HT:=hid (show Cf.writeT k q i []=Cf.ai k 2 by unfold Cf.writeT;rw[he,if_neg (by simp),if_pos (by simp[Cf.inB])])
   rw[HT.out]
   clear h hP hes he HT hG hT
   go_enter Tryz.func116,Tryz.ntmps116
   go_upto_region 1 with fail
   generalize w.alloc (.cells #[.int .i64 0,.int .i64 0,.string ⟨#[]⟩] au)=w0 at *
   have hBe:=HK0.out.Be HP.out
   have r0:w0.cell? ⟨gE,i*3,none⟩=_:=hBe.cell HE.out (j:=0) rfl
   have r1:w0.cell? ⟨gE,i*3+1,none⟩=_:=hBe.cell HE.out (j:=1) rfl
   have rl:=hBe.lt
   clear hBe
   go_wp2_with fail
   refine(az 2 _).mono ?_
   rintro e w1 ⟨rfl,hb1⟩
   have HK1:=hid (HK0.out.below hb1)
   have HX1:=hid (HX0.out.below hb1)
   simp only[aF]
   clear hb1 HK0 HX0
   have hX9:=HX1.out _ _ HXB.out
   have HFin:=hid (ay HK1.out HX1.out HXw.out HXB.out hlow hroom)
   obtain⟨p0,p1,p2,f0,hl9⟩:=aS hX9
   clear hX9 HK1 HX1 HXw HXB
   go_wp2
   refine bodyPost_ret (v:=.agg #[.int .i64 2,.int .i64 0,.string ⟨#[]⟩]) (by simp[results,Tryz.results116,go_sem,p0,p1,p2]) rfl ?_
   exact⟨rfl,by(show ah _ _ _ _ k _);with_reducible exact HFin.out _ _ _⟩
  by_cases hz2:100<z.length
  ·skip
   have HT:=hid (show Cf.writeT k q i z=Cf.ai k 2 by unfold Cf.writeT;rw[he,if_neg (by simp),if_pos (by simp[Cf.inB];omega)])
   have hzz:(⟨z.toArray⟩:ByteArray).size=z.length:=by simp[ByteArray.size]
   have hze:¬z.isEmpty=true:=by simpa using hz1
   rw[HT.out]
   clear h hP hes he HT hG hT
   go_enter Tryz.func116,Tryz.ntmps116
   go_upto_region 1 with fail
   generalize w.alloc (.cells #[.int .i64 0,.int .i64 0,.string ⟨#[]⟩] au)=w0 at *
   have hBe:=HK0.out.Be HP.out
   have r0:w0.cell? ⟨gE,i*3,none⟩=_:=hBe.cell HE.out (j:=0) rfl
   have r1:w0.cell? ⟨gE,i*3+1,none⟩=_:=hBe.cell HE.out (j:=1) rfl
   have rl:=hBe.lt
   clear hBe
   go_wp2_with fail
   refine(az 2 _).mono ?_
   rintro e w1 ⟨rfl,hb1⟩
   have HK1:=hid (HK0.out.below hb1)
   have HX1:=hid (HX0.out.below hb1)
   simp only[aF]
   clear hb1 HK0 HX0
   have hX9:=HX1.out _ _ HXB.out
   have HFin:=hid (ay HK1.out HX1.out HXw.out HXB.out hlow hroom)
   obtain⟨p0,p1,p2,f0,hl9⟩:=aS hX9
   clear hX9 HK1 HX1 HXw HXB
   go_wp2
   refine bodyPost_ret (v:=.agg #[.int .i64 2,.int .i64 0,.string ⟨#[]⟩]) (by simp[results,Tryz.results116,go_sem,p0,p1,p2]) rfl ?_
   exact⟨rfl,by(show ah _ _ _ _ k _);with_reducible exact HFin.out _ _ _⟩
  have hze:¬z.isEmpty=true:=by simpa using hz1
  have hzl:1≤z.length:=List.length_pos_iff.2 hz1
  have hzz:(⟨z.toArray⟩:ByteArray).size=z.length:=by simp[ByteArray.size]
  have hin:Cf.inB (z.length:Int) 1 100=true:=by simp[Cf.inB];omega
  clear hz1
  have HT:=hid (show Cf.writeT k q i z=Cf.dP k n z by
   unfold Cf.writeT
   rw[he,if_neg (by simp),if_neg (by rw[hin];decide),if_pos (by rfl)]
   show Cf.dP k (n:Int).toNat z=_
   rw[Int.toNat_natCast])
  have HC:=hid (fun W (hW:KSt B wb g ⟨A,ca,M,cm,N,cn,S,cs,Q,cq⟩ xs ps k W)=>wY k n z W hW hG hn (by omega))
  rw[HT.out]
  clear h hP hes he HT hG hT
  go_enter Tryz.func116,Tryz.ntmps116
  go_upto_region 1 with fail
  generalize w.alloc (.cells #[.int .i64 0,.int .i64 0,.string ⟨#[]⟩] au)=w0 at *
  have hBe:=HK0.out.Be HP.out
  have r0:w0.cell? ⟨gE,i*3,none⟩=_:=hBe.cell HE.out (j:=0) rfl
  have r1:w0.cell? ⟨gE,i*3+1,none⟩=_:=hBe.cell HE.out (j:=1) rfl
  have rl:=hBe.lt
  clear hBe
  go_wp2_with fail
  clear r0 r1 rl
  refine(HC.out _ HK0.out).mono ?_
  rintro e w1 ⟨rfl,⟨a9,xs9,ps9,hK9⟩,hx9⟩
  have HK1:=hid hK9
  have HX1:=hid (HX0.out.trans hx9)
  clear hK9 hx9 HK0 HX0
  simp only[aF]
  generalize Cf.dP k n z=dd at *
  obtain⟨dk,dc,dn,ds⟩:=dd
  have hX9:=HX1.out _ _ HXB.out
  have HFin:=hid (ay HK1.out HX1.out HXw.out HXB.out hlow hroom)
  obtain⟨p0,p1,p2,f0,hl9⟩:=aS hX9
  clear hX9 HK1 HX1 HXw HXB
  go_wp2
  refine bodyPost_ret (v:=.agg #[.int .i64 dc,.int .i64 dn,.string ⟨ds.toArray⟩]) (by simp[results,Tryz.results116,go_sem,p0,p1,p2]) rfl ?_
  exact⟨rfl,by(show ah _ _ _ _ dk _);with_reducible exact HFin.out _ _ _⟩
end
section
open Go.RowKit
abbrev gJ:TypeId:=30
theorem KSt.drawN{B:Nat}{wb:World}{g:Nat}{a:KA}{xs:List MV}{ps:List PV}{k:Cf.ag}{w:World}(h:KSt B wb g a xs ps k w)(n:Nat):KSt B wb g a xs ps k (w.drewN n):=h.below (below_drewN (Below.refl _ _) n)
theorem KpA.draw1{w w1:World}(h:KpA w w1):KpA w w1.drew:=h.draw 1
theorem EX{w0:World}{P R:World→Prop}(n:Nat)(h:R (w0.drewN n))(hk:∀w1,R w1→P w1):P (w0.drewN n):=hk _ h
def qA(x:Cf.jo):List Value:=[.int .i64 x.kind,.int .i64 x.p,.int .i64 x.n,.int .i64 x.m,.string ⟨x.name.toArray⟩,.string ⟨x.data.toArray⟩]
theorem wS{B:Nat}{wb:World}{g:Nat}{a:KA}{xs:List MV}{ps:List PV}(k:Cf.ag)(q gQ:Nat)(kd pp nn mm:Int)(nm da:List UInt8)(w:World)(h:KSt B wb g a xs ps k w)(hG:Cf.Good k)(hq:q<4)(hQ:a.Q=some ⟨gQ,0,none⟩)(hnl:nm.length≤maxLen)(hT:Tabs B wb)(hk:5≤kd∧kd≤11):
  Calls Tryz.prog 71 #[.pointer (some ⟨g,0,none⟩),.pointer (some ⟨gQ,q*2,none⟩),.agg #[.int .i64 kd,.int .i64 pp,.int .i64 nn,.int .i64 mm,.string ⟨nm.toArray⟩,.string ⟨da.toArray⟩]] w (dF B wb g w (Cf.dI k q ⟨kd,pp,nn,mm,nm,da⟩)):=by
 obtain⟨A,ca,M,cm,N,cn,S,cs,Q,cq⟩:=a
 simp only at hQ
 subst hQ
 obtain⟨gE,ce,lv,es,hP⟩:=h.pat hG.toPre hq rfl
 obtain⟨w0,hw0⟩:∃w0:World,w0=(w.alloc (.cells #[.int .i64 kd,.int .i64 pp,.int .i64 nn,.int .i64 mm,.string ⟨nm.toArray⟩,.string ⟨da.toArray⟩] gJ)).alloc (.cells #[.int .i64 0,.int .i64 0,.string ⟨#[]⟩] au):=⟨_,rfl⟩
 have HAc:=hid (show Wb w0 w.heap.size gJ [.int .i64 kd,.int .i64 pp,.int .i64 nn,.int .i64 mm,.string ⟨nm.toArray⟩,.string ⟨da.toArray⟩] by rw[hw0];exact(Wb.new w gJ [.int .i64 kd,.int .i64 pp,.int .i64 nn,.int .i64 mm,.string ⟨nm.toArray⟩,.string ⟨da.toArray⟩]).alloc _)
 have HXB:=hid (show Wb w0 (w.heap.size+1) au [.int .i64 0,.int .i64 0,.string ⟨#[]⟩] by
  rw[hw0]
  have:=Wb.new (w.alloc (.cells #[.int .i64 kd,.int .i64 pp,.int .i64 nn,.int .i64 mm,.string ⟨nm.toArray⟩,.string ⟨da.toArray⟩] gJ)) au [.int .i64 0,.int .i64 0,.string ⟨#[]⟩]
  rwa [show(w.alloc (.cells #[.int .i64 kd,.int .i64 pp,.int .i64 nn,.int .i64 mm,.string ⟨nm.toArray⟩,.string ⟨da.toArray⟩] gJ)).heap.size=w.heap.size+1 by simp]at this)
 have HXw:=hid (show KpA w w0 by rw[hw0];exact(KpA.alloc w _).trans (KpA.alloc _ _))
 have HX0:=hid (KpA.refl w0)
 have HK0:=hid (show KSt B wb g ⟨A,ca,M,cm,N,cn,S,cs,some ⟨gQ,0,none⟩,cq⟩ xs ps k w0 by rw[hw0];exact h.below (((Below.refl _ _).alloc (Nat.le_refl _) (.cells #[.int .i64 kd,.int .i64 pp,.int .i64 nn,.int .i64 mm,.string ⟨nm.toArray⟩,.string ⟨da.toArray⟩] gJ)).alloc (by simp) (.cells #[.int .i64 0,.int .i64 0,.string ⟨#[]⟩] au)))
 have Hw0:=hid hw0
 clear hw0
 have hroom:B≤w.heap.size+1:=Nat.le_succ_of_le h.room
 have hlow:w.heap.size≤w.heap.size+1:=Nat.le_succ _
 have HP:=hid hP
 have hpre:=HP.out
 by_cases h5:kd=5
 ·skip
  subst h5
  have HT:=hid (show Cf.dI k q ⟨5,pp,nn,mm,nm,da⟩=Cf.qj k q nm from rfl)
  have HC:=hid (fun W (hW:KSt B wb g ⟨A,ca,M,cm,N,cn,S,cs,some ⟨gQ,0,none⟩,cq⟩ xs ps k W)=>yJ k q gQ W nm hW hG hq rfl hnl)
  rw[HT.out]
  clear h hG hP HT hT hnl hk hpre
  go_enter Tryz.func71,Tryz.ntmps71
  go_upto_region 1 with fail
  rw[← Hw0.out]
  clear Hw0
  have hA0:=HAc.out
  have a0:=hA0.cell 0
  have a2:=hA0.cell 2
  have a3:=hA0.cell 3
  have a4:=hA0.cell 4
  have a5:=hA0.cell 5
  simp only[gq]at a0 a2 a3 a4 a5
  have al:=hA0.lt
  clear hA0
  go_wp2_with fail
  refine(HC.out _ HK0.out).mono ?_
  rintro e w1 ⟨rfl,⟨a9,xs9,ps9,hK9⟩,hx9⟩
  have HK1:=hid hK9
  have HX1:=hid (KpA.trans (w1:=_) (by repeat (first|exact HX0.out|apply KpA.draw1|apply KpA.draw)) hx9)
  clear hK9 hx9 HK0 HX0 a0 a2 a3 a4 a5 al HAc
  simp only[aF]
  generalize Cf.qj k q nm=dd at *
  obtain⟨dk,dc,dn,ds⟩:=dd
  have hX9:=HX1.out _ _ HXB.out
  have HFin:=hid (ay HK1.out HX1.out HXw.out HXB.out hlow hroom)
  obtain⟨p0,p1,p2,f0,hl9⟩:=aS hX9
  clear hX9 HK1 HX1 HXw HXB
  go_wp2
  refine bodyPost_ret (v:=.agg #[.int .i64 dc,.int .i64 dn,.string ⟨ds.toArray⟩]) (by simp[results,Tryz.results71,go_sem,p0,p1,p2]) rfl ?_
  exact⟨rfl,by(show ah _ _ _ _ dk _);with_reducible exact HFin.out _ _ _⟩
 by_cases h9:kd=9
 ·skip
  subst h9
  have HT:=hid (show Cf.dI k q ⟨9,pp,nn,mm,nm,da⟩=Cf.sU k q from rfl)
  have HC:=hid (fun W (hW:KSt B wb g ⟨A,ca,M,cm,N,cn,S,cs,some ⟨gQ,0,none⟩,cq⟩ xs ps k W)=>yY k q gQ W hW hG hq rfl)
  rw[HT.out]
  clear h hG hP HT hT hnl hk hpre
  go_enter Tryz.func71,Tryz.ntmps71
  go_upto_region 1 with fail
  rw[← Hw0.out]
  clear Hw0
  have hA0:=HAc.out
  have a0:=hA0.cell 0
  have a2:=hA0.cell 2
  have a3:=hA0.cell 3
  have a4:=hA0.cell 4
  have a5:=hA0.cell 5
  simp only[gq]at a0 a2 a3 a4 a5
  have al:=hA0.lt
  clear hA0
  go_wp2_with fail
  refine(HC.out _ HK0.out).mono ?_
  rintro e w1 ⟨rfl,⟨a9,xs9,ps9,hK9⟩,hx9⟩
  have HK1:=hid hK9
  have HX1:=hid (KpA.trans (w1:=_) (by repeat (first|exact HX0.out|apply KpA.draw1|apply KpA.draw)) hx9)
  clear hK9 hx9 HK0 HX0 a0 a2 a3 a4 a5 al HAc
  simp only[aF]
  generalize Cf.sU k q=dd at *
  obtain⟨dk,dc,dn,ds⟩:=dd
  have hX9:=HX1.out _ _ HXB.out
  have HFin:=hid (ay HK1.out HX1.out HXw.out HXB.out hlow hroom)
  obtain⟨p0,p1,p2,f0,hl9⟩:=aS hX9
  clear hX9 HK1 HX1 HXw HXB
  go_wp2
  refine bodyPost_ret (v:=.agg #[.int .i64 dc,.int .i64 dn,.string ⟨ds.toArray⟩]) (by simp[results,Tryz.results71,go_sem,p0,p1,p2]) rfl ?_
  exact⟨rfl,by(show ah _ _ _ _ dk _);with_reducible exact HFin.out _ _ _⟩
 by_cases h10:kd=10
 ·skip
  subst h10
  have HT:=hid (show Cf.dI k q ⟨10,pp,nn,mm,nm,da⟩=Cf.qB k q from rfl)
  have HC:=hid (fun W (hW:KSt B wb g ⟨A,ca,M,cm,N,cn,S,cs,some ⟨gQ,0,none⟩,cq⟩ xs ps k W)=>G7 k q gQ W hW hG hq rfl)
  rw[HT.out]
  clear h hG hP HT hT hnl hk hpre
  go_enter Tryz.func71,Tryz.ntmps71
  go_upto_region 1 with fail
  rw[← Hw0.out]
  clear Hw0
  have hA0:=HAc.out
  have a0:=hA0.cell 0
  have a2:=hA0.cell 2
  have a3:=hA0.cell 3
  have a4:=hA0.cell 4
  have a5:=hA0.cell 5
  simp only[gq]at a0 a2 a3 a4 a5
  have al:=hA0.lt
  clear hA0
  go_wp2_with fail
  refine(HC.out _ HK0.out).mono ?_
  rintro e w1 ⟨rfl,⟨a9,xs9,ps9,hK9⟩,hx9⟩
  have HK1:=hid hK9
  have HX1:=hid (KpA.trans (w1:=_) (by repeat (first|exact HX0.out|apply KpA.draw1|apply KpA.draw)) hx9)
  clear hK9 hx9 HK0 HX0 a0 a2 a3 a4 a5 al HAc
  simp only[aF]
  generalize Cf.qB k q=dd at *
  obtain⟨dk,dc,dn,ds⟩:=dd
  have hX9:=HX1.out _ _ HXB.out
  have HFin:=hid (ay HK1.out HX1.out HXw.out HXB.out hlow hroom)
  obtain⟨p0,p1,p2,f0,hl9⟩:=aS hX9
  clear hX9 HK1 HX1 HXw HXB
  go_wp2
  refine bodyPost_ret (v:=.agg #[.int .i64 dc,.int .i64 dn,.string ⟨ds.toArray⟩]) (by simp[results,Tryz.results71,go_sem,p0,p1,p2]) rfl ?_
  exact⟨rfl,by(show ah _ _ _ _ dk _);with_reducible exact HFin.out _ _ _⟩
 by_cases h11:kd=11
 ·skip
  subst h11
  have HT:=hid (show Cf.dI k q ⟨11,pp,nn,mm,nm,da⟩=Cf.sW k q from rfl)
  have HC:=hid (fun W (hW:KSt B wb g ⟨A,ca,M,cm,N,cn,S,cs,some ⟨gQ,0,none⟩,cq⟩ xs ps k W)=>Gt k q gQ W hW hG hq rfl)
  rw[HT.out]
  clear h hG hP HT hT hnl hk hpre
  go_enter Tryz.func71,Tryz.ntmps71
  go_upto_region 1 with fail
  rw[← Hw0.out]
  clear Hw0
  have hA0:=HAc.out
  have a0:=hA0.cell 0
  have a2:=hA0.cell 2
  have a3:=hA0.cell 3
  have a4:=hA0.cell 4
  have a5:=hA0.cell 5
  simp only[gq]at a0 a2 a3 a4 a5
  have al:=hA0.lt
  clear hA0
  go_wp2_with fail
  refine(HC.out _ HK0.out).mono ?_
  rintro e w1 ⟨rfl,⟨a9,xs9,ps9,hK9⟩,hx9⟩
  have HK1:=hid hK9
  have HX1:=hid (KpA.trans (w1:=_) (by repeat (first|exact HX0.out|apply KpA.draw1|apply KpA.draw)) hx9)
  clear hK9 hx9 HK0 HX0 a0 a2 a3 a4 a5 al HAc
  simp only[aF]
  generalize Cf.sW k q=dd at *
  obtain⟨dk,dc,dn,ds⟩:=dd
  have hX9:=HX1.out _ _ HXB.out
  have HFin:=hid (ay HK1.out HX1.out HXw.out HXB.out hlow hroom)
  obtain⟨p0,p1,p2,f0,hl9⟩:=aS hX9
  clear hX9 HK1 HX1 HXw HXB
  go_wp2
  refine bodyPost_ret (v:=.agg #[.int .i64 dc,.int .i64 dn,.string ⟨ds.toArray⟩]) (by simp[results,Tryz.results71,go_sem,p0,p1,p2]) rfl ?_
  exact⟨rfl,by(show ah _ _ _ _ dk _);with_reducible exact HFin.out _ _ _⟩
 have HT0:=hid (show Cf.dI k q ⟨kd,pp,nn,mm,nm,da⟩=if Cf.aI nn 6=true∧(Cf.aH k q nn.toNat).kind≠0 then Cf.lV k q nn.toNat ⟨kd,pp,nn,mm,nm,da⟩ else Cf.ai k 6 by
  unfold Cf.dI
  rw[if_neg (by exact h5),if_neg (by exact h9),if_neg (by exact h10),if_neg (by exact h11),hP.is_]
  show(if Cf.aI nn es.length=true∧_ then _ else _)=_
  rw[hP.len])
 have HWi:=hid (fun W=>iJ nn 6 W)
 by_cases hw:Cf.aI nn 6=false
 ·skip
  rw[HT0.out,if_neg (fun hh=>by rw[hw]at hh;exact absurd hh.1 (by decide))]
  rw[hw]at HWi
  clear h hG hP HT0 hT hnl hk hpre
  go_enter Tryz.func71,Tryz.ntmps71
  go_upto_region 1 with fail
  rw[← Hw0.out]
  clear Hw0
  have hA0:=HAc.out
  have a0:=hA0.cell 0
  have a2:=hA0.cell 2
  have a3:=hA0.cell 3
  have a4:=hA0.cell 4
  have a5:=hA0.cell 5
  simp only[gq]at a0 a2 a3 a4 a5
  have al:=hA0.lt
  clear hA0
  have p1:=HK0.out.p1 HP.out
  have pl:=(HK0.out.Bp HP.out).lt
  go_wp2_with fail
  go_quiet ((go_at_call 70;exact dJ (HWi.out _)))
  clear p1 pl
  go_wp2_with fail
  refine(az 6 _).mono ?_
  rintro e w1 ⟨rfl,hb1⟩
  have HK1:=hid (KSt.below (w:=_) (by repeat (first|exact HK0.out|apply KSt.draw|apply KSt.drawN)) hb1)
  have HX1:=hid (KpA.below (w1:=_) (by repeat (first|exact HX0.out|apply KpA.draw1|apply KpA.draw)) hb1)
  simp only[aF]
  clear hb1 HK0 HX0 a0 a2 a3 a4 a5 al HAc
  have hX9:=HX1.out _ _ HXB.out
  have HFin:=hid (ay HK1.out HX1.out HXw.out HXB.out hlow hroom)
  obtain⟨p0,p1,p2,f0,hl9⟩:=aS hX9
  clear hX9 HK1 HX1 HXw HXB
  go_wp2
  refine bodyPost_ret (v:=.agg #[.int .i64 6,.int .i64 0,.string ⟨#[]⟩]) (by simp[results,Tryz.results71,go_sem,p0,p1,p2]) rfl ?_
  exact⟨rfl,by(show ah _ _ _ _ k _);with_reducible exact HFin.out _ _ _⟩
 rw[Bool.not_eq_false]at hw
 rw[hw]at HWi
 obtain⟨hn0,hn6⟩:=Cf.within_iff.1 hw
 obtain⟨i,hi⟩:=Int.eq_ofNat_of_zero_le hn0
 subst hi
 have hi6:i<6:=by omega
 have hiI:(i:Int)<6:=by omega
 have hes:es[i]?=some (Cf.aH k q i):=by
  have:=hG.toPre.end_ hq hi6
  rwa [hP.is_]at this
 rw[Int.toNat_natCast,hw]at HT0
 have HE:=hid hes
 clear hes hw
 by_cases h0:(Cf.aH k q i).kind=0
 ·skip
  rw[HT0.out,if_neg (fun hh=>hh.2 h0)]
  clear h hG hP HT0 hT hnl hk hpre
  go_enter Tryz.func71,Tryz.ntmps71
  go_upto_region 1 with fail
  rw[← Hw0.out]
  clear Hw0
  have hA0:=HAc.out
  have a0:=hA0.cell 0
  have a2:=hA0.cell 2
  have a3:=hA0.cell 3
  have a4:=hA0.cell 4
  have a5:=hA0.cell 5
  simp only[gq]at a0 a2 a3 a4 a5
  have al:=hA0.lt
  clear hA0
  have p1:=HK0.out.p1 HP.out
  have pl:=(HK0.out.Bp HP.out).lt
  have hBe:=HK0.out.Be HP.out
  have r0:w0.cell? ⟨gE,i*3,none⟩=_:=hBe.cell HE.out (j:=0) rfl
  have rl:=hBe.lt
  clear hBe
  rw[h0]at r0
  go_wp2_with fail
  go_quiet ((go_at_call 70;exact dJ (HWi.out _)))
  clear p1 pl r0 rl
  go_wp2_with fail
  refine(az 6 _).mono ?_
  rintro e w1 ⟨rfl,hb1⟩
  have HK1:=hid (KSt.below (w:=_) (by repeat (first|exact HK0.out|apply KSt.draw|apply KSt.drawN)) hb1)
  have HX1:=hid (KpA.below (w1:=_) (by repeat (first|exact HX0.out|apply KpA.draw1|apply KpA.draw)) hb1)
  simp only[aF]
  clear hb1 HK0 HX0 a0 a2 a3 a4 a5 al HAc
  have hX9:=HX1.out _ _ HXB.out
  have HFin:=hid (ay HK1.out HX1.out HXw.out HXB.out hlow hroom)
  obtain⟨p0,p1,p2,f0,hl9⟩:=aS hX9
  clear hX9 HK1 HX1 HXw HXB
  go_wp2
  refine bodyPost_ret (v:=.agg #[.int .i64 6,.int .i64 0,.string ⟨#[]⟩]) (by simp[results,Tryz.results71,go_sem,p0,p1,p2]) rfl ?_
  exact⟨rfl,by(show ah _ _ _ _ k _);with_reducible exact HFin.out _ _ _⟩
 have HT1:=hid (HT0.out.trans (if_pos ⟨rfl,h0⟩))
 by_cases h7:kd=7
 ·skip
  subst h7
  have HT:=hid (show Cf.lV k q i ⟨7,pp,i,mm,nm,da⟩=Cf.gI k q i mm from rfl)
  have HC:=hid (fun W (hW:KSt B wb g ⟨A,ca,M,cm,N,cn,S,cs,some ⟨gQ,0,none⟩,cq⟩ xs ps k W)=>Jm k q gQ gE ce lv es i mm W hW hG hP hq hi6 h0 hT)
  rw[HT1.out,HT.out]
  clear h hG hP HT HT0 HT1 hT hnl hk hpre
  go_enter Tryz.func71,Tryz.ntmps71
  go_upto_region 1 with fail
  rw[← Hw0.out]
  clear Hw0
  have hA0:=HAc.out
  have a0:=hA0.cell 0
  have a2:=hA0.cell 2
  have a3:=hA0.cell 3
  have a4:=hA0.cell 4
  have a5:=hA0.cell 5
  simp only[gq]at a0 a2 a3 a4 a5
  have al:=hA0.lt
  clear hA0
  have p1:=HK0.out.p1 HP.out
  have pl:=(HK0.out.Bp HP.out).lt
  have hBe:=HK0.out.Be HP.out
  have r0:w0.cell? ⟨gE,i*3,none⟩=_:=hBe.cell HE.out (j:=0) rfl
  have rl:=hBe.lt
  clear hBe
  go_wp2_with fail
  go_quiet ((go_at_call 70;exact dJ (HWi.out _)))
  go_wp2_with fail
  go_quiet (fail)
  go_wp2_with fail
  clear p1 pl r0 rl
  refine(HC.out _ (by repeat (first|exact HK0.out|apply KSt.draw|apply KSt.drawN))).mono ?_
  rintro e w1 ⟨rfl,⟨a9,xs9,ps9,hK9⟩,hx9⟩
  have HK1:=hid hK9
  have HX1:=hid (KpA.trans (w1:=_) (by repeat (first|exact HX0.out|apply KpA.draw1|apply KpA.draw)) hx9)
  clear hK9 hx9 HK0 HX0 a0 a2 a3 a4 a5 al HAc
  simp only[aF]
  generalize Cf.gI k q i mm=dd at *
  obtain⟨dk,dc,dn,ds⟩:=dd
  have hX9:=HX1.out _ _ HXB.out
  have HFin:=hid (ay HK1.out HX1.out HXw.out HXB.out hlow hroom)
  obtain⟨p0,p1,p2,f0,hl9⟩:=aS hX9
  clear hX9 HK1 HX1 HXw HXB
  go_wp2
  refine bodyPost_ret (v:=.agg #[.int .i64 dc,.int .i64 dn,.string ⟨ds.toArray⟩]) (by simp[results,Tryz.results71,go_sem,p0,p1,p2]) rfl ?_
  exact⟨rfl,by(show ah _ _ _ _ dk _);with_reducible exact HFin.out _ _ _⟩
 by_cases h8:kd=8
 ·skip
  subst h8
  have HT:=hid (show Cf.lV k q i ⟨8,pp,i,mm,nm,da⟩=Cf.writeT k q i da from rfl)
  have HC:=hid (fun W (hW:KSt B wb g ⟨A,ca,M,cm,N,cn,S,cs,some ⟨gQ,0,none⟩,cq⟩ xs ps k W)=>write_any k q gQ gE ce lv es i da W hW hG hP hq hi6 h0 hT)
  rw[HT1.out,HT.out]
  clear h hG hP HT HT0 HT1 hT hnl hk hpre
  go_enter Tryz.func71,Tryz.ntmps71
  go_upto_region 1 with fail
  rw[← Hw0.out]
  clear Hw0
  have hA0:=HAc.out
  have a0:=hA0.cell 0
  have a2:=hA0.cell 2
  have a3:=hA0.cell 3
  have a4:=hA0.cell 4
  have a5:=hA0.cell 5
  simp only[gq]at a0 a2 a3 a4 a5
  have al:=hA0.lt
  clear hA0
  have p1:=HK0.out.p1 HP.out
  have pl:=(HK0.out.Bp HP.out).lt
  have hBe:=HK0.out.Be HP.out
  have r0:w0.cell? ⟨gE,i*3,none⟩=_:=hBe.cell HE.out (j:=0) rfl
  have rl:=hBe.lt
  clear hBe
  go_wp2_with fail
  go_quiet ((go_at_call 70;exact dJ (HWi.out _)))
  go_wp2_with fail
  go_quiet (fail)
  go_wp2_with fail
  clear p1 pl r0 rl
  refine(HC.out _ (by repeat (first|exact HK0.out|apply KSt.draw|apply KSt.drawN))).mono ?_
  rintro e w1 ⟨rfl,⟨a9,xs9,ps9,hK9⟩,hx9⟩
  have HK1:=hid hK9
  have HX1:=hid (KpA.trans (w1:=_) (by repeat (first|exact HX0.out|apply KpA.draw1|apply KpA.draw)) hx9)
  clear hK9 hx9 HK0 HX0 a0 a2 a3 a4 a5 al HAc
  simp only[aF]
  generalize Cf.writeT k q i da=dd at *
  obtain⟨dk,dc,dn,ds⟩:=dd
  have hX9:=HX1.out _ _ HXB.out
  have HFin:=hid (ay HK1.out HX1.out HXw.out HXB.out hlow hroom)
  obtain⟨p0,p1,p2,f0,hl9⟩:=aS hX9
  clear hX9 HK1 HX1 HXw HXB
  go_wp2
  refine bodyPost_ret (v:=.agg #[.int .i64 dc,.int .i64 dn,.string ⟨ds.toArray⟩]) (by simp[results,Tryz.results71,go_sem,p0,p1,p2]) rfl ?_
  exact⟨rfl,by(show ah _ _ _ _ dk _);with_reducible exact HFin.out _ _ _⟩
 obtain⟨k2,hk2⟩:∃k2:Cf.ag,k2=⟨k.mods,k.mem,k.nodes,k.pipes,k.procs.set q ⟨lv,es.set i Cf.noEnd⟩⟩:=⟨_,rfl⟩
 have HT:=hid (show Cf.lV k q i ⟨kd,pp,i,mm,nm,da⟩=⟨Cf.iY k2,Cf.kS⟩ by
  rw[hk2]
  unfold Cf.lV
  rw[if_neg (by exact h7),if_neg (by exact h8)]
  unfold Cf.yQ Cf.setEnd Cf.setProc
  rw[hP.is_])
 have HE2:=hid hk2
 have HG:=hid hG
 rw[HT1.out,HT.out]
 clear h hG hP HT HT0 HT1 hT hnl hpre hk2
 go_enter Tryz.func71,Tryz.ntmps71
 go_upto_region 1 with fail
 rw[← Hw0.out]
 clear Hw0
 have hA0:=HAc.out
 have a0:=hA0.cell 0
 have a2:=hA0.cell 2
 have a3:=hA0.cell 3
 have a4:=hA0.cell 4
 have a5:=hA0.cell 5
 simp only[gq]at a0 a2 a3 a4 a5
 have al:=hA0.lt
 clear hA0
 have p1:=HK0.out.p1 HP.out
 have pl:=(HK0.out.Bp HP.out).lt
 have hBe:=HK0.out.Be HP.out
 have r0:w0.cell? ⟨gE,i*3,none⟩=_:=hBe.cell HE.out (j:=0) rfl
 have rl:=hBe.lt
 clear hBe
 go_wp2_with fail
 go_quiet ((go_at_call 70;exact dJ (HWi.out _)))
 go_wp2_with fail
 go_quiet (fail)
 go_upto_region 18 with fail
 refine EX (R:=fun W=>KSt B wb g ⟨A,ca,M,cm,N,cn,S,cs,some ⟨gQ,0,none⟩,cq⟩ xs ps k W∧KpA w0 W) _ ⟨HK0.out.drawN _,HX0.out.draw _⟩ ?_
 rintro w1 ⟨hK1,hX1⟩
 have hBe:=hK1.Be HP.out
 have r0:w1.cell? ⟨gE,i*3,none⟩=_:=hBe.cell HE.out (j:=0) rfl
 have r1:w1.cell? ⟨gE,i*3+1,none⟩=_:=hBe.cell HE.out (j:=1) rfl
 have r2:w1.cell? ⟨gE,i*3+2,none⟩=_:=hBe.cell HE.out (j:=2) rfl
 have rl:=hBe.lt
 have rf:=hBe.open_
 have hK2:=hK1.putEnd HP.out.pv HP.out.proc rfl Cf.noEnd HE.out
 have hX2:=hX1.offX3 hBe.box (by decide) (i*3) (i*3+1) (i*3+2) (.int .i64 0) (.int .i64 0) (.int .i64 0)
 rw[← HE2.out]at hK2
 have HK2:=hid hK2
 have HX2:=hid hX2
 clear hK1 hX1 hBe hK2 hX2 HK0 HX0 p1 pl a0 a2 a3 a4 a5 al HAc
 simp only[Cf.noEnd]at HK2
 go_upto_region 19 with fail
 generalize ((w1.setCell ⟨gE,i*3,none⟩ (.int .i64 0)).setCell ⟨gE,i*3+1,none⟩ (.int .i64 0)).setCell ⟨gE,i*3+2,none⟩ (.int .i64 0)=w2 at *
 clear r0 r1 r2 rl rf
 have HR:=hid (nI _ _ HK2.out (by rw[HE2.out];exact HG.out.nodesL) (by rw[HE2.out];exact HG.out.pipesL) (eu (by rw[HE2.out];simp[HG.out.procsL])) (by
  rw[HE2.out]
  intro p hp
  rcases List.mem_or_eq_of_mem_set hp with hp|rfl
  ·exact eu (by rw[HG.out.ends p hp];omega)
  ·exact eu (by show(es.set i Cf.noEnd).length≤1024;rw[List.length_set,HP.out.len];omega)))
 clear HE2 HK2
 go_wp2_with fail
 refine HR.out.mono ?_
 rintro e w3 ⟨rfl,hK3,hkp⟩
 have HK3:=hid hK3
 have HX3:=hid (HX2.out.trans fun b cs hb=>hkp b au cs (by decide) (by decide) hb)
 clear hK3 hkp HX2 HR
 have hX9:=HX3.out _ _ HXB.out
 have HFin:=hid (ay HK3.out HX3.out HXw.out HXB.out hlow hroom)
 obtain⟨p0,p1,p2,f0,hl9⟩:=aS hX9
 clear hX9 HK3 HX3 HXw HXB
 go_wp2
 refine bodyPost_ret (v:=.agg #[.int .i64 0,.int .i64 0,.string ⟨#[]⟩]) (by simp[results,Tryz.results71,go_sem,p0,p1,p2]) rfl ?_
 exact⟨rfl,by(show ah _ _ _ _ (Cf.iY k2) _);with_reducible exact HFin.out _ _ _⟩
end
end Go.Proofs.YtnnhhbjbdmgpiaaGreatDoor
