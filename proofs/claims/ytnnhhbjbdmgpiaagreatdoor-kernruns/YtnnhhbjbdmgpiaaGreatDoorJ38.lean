/- Texts of the proofs: RefB, RefW, RefC, RefD. -/
import Derived.Test.YtnnhhbjbdmgpiaaGreatDoorJ36
import Derived.Test.YtnnhhbjbdmgpiaaGreatDoorJ28
import Derived.Test.YtnnhhbjbdmgpiaaGreatDoorJ16
import Derived.Test.YtnnhhbjbdmgpiaaGreatDoorJ26
set_option linter.unusedSimpArgs false
set_option linter.unusedVariables false
namespace Go.Proofs.YtnnhhbjbdmgpiaaGreatDoor
set_option maxRecDepth 100000
set_option maxHeartbeats 4000000
open Lib (hid)
section
open Go.RowKit
structure RS(B:Nat)(wb:World)(g:Nat)(w:World)(b:Nat)(a:KA)(xs:List MV)(ps:List PV)(k:Cf.ag)(W:World):Prop where
 st:KSt B wb g a xs ps k W
 ka:KpA w W
 bx:Wb W b au [.int .i64 0,.int .i64 0,.string ⟨#[]⟩]
 lo:w.heap.size≤b
 rm:B≤b
section
variable {B:Nat} {wb:World} {g:Nat} {w:World} {b:Nat} {a:KA} {xs:List MV} {ps:List PV} {k k':Cf.ag} {W W':World}
theorem RS.fin(h:RS B wb g w b a xs ps k W)(v0 v1 v2:Value):ah B wb g w k (((W.setCell ⟨b,0,none⟩ v0).setCell ⟨b,1,none⟩ v1).setCell ⟨b,2,none⟩ v2):=by
 refine⟨⟨a,xs,ps,h.st.ans h.bx h.rm v0 v1 v2⟩,fun b' cs' hb'=>?_⟩
 have hne:b'≠b:=by have:=hb'.lt;have:=h.lo;omega
 exact(((h.ka b' cs' hb').off_ (p:=⟨b,0,none⟩) hne v0).off_ (p:=⟨b,1,none⟩) hne v1).off_ (p:=⟨b,2,none⟩) hne v2
theorem RS.box(h:RS B wb g w b a xs ps k W):W.cell? ⟨b,0,none⟩=some (.int .i64 0)∧W.cell? ⟨b,1,none⟩=some (.int .i64 0)∧W.cell? ⟨b,2,none⟩=some (.string ⟨#[]⟩)∧(∀i,W.frozen? ⟨b,i,none⟩=false)∧b<W.heap.size:=
 ⟨h.bx.cell 0,h.bx.cell 1,h.bx.cell 2,h.bx.open_,h.bx.lt⟩
theorem RS.below(h:RS B wb g w b a xs ps k W)(hb:Below W.heap.size W W'):RS B wb g w b a xs ps k W':=⟨h.st.below hb,h.ka.below hb,h.bx.below hb h.bx.lt,h.lo,h.rm⟩
theorem RS.draw(h:RS B wb g w b a xs ps k W)(n:Nat):RS B wb g w b a xs ps k (W.drewN n):=h.below (below_drewN (Below.refl _ _) n)
theorem RS.put{a':KA}{xs':List MV}{ps':List PV}{b' i:Nat}{u:Value}{t:TypeId}(h:RS B wb g w b a xs ps k W)(hk:KSt B wb g a' xs' ps' k' (W.setCell ⟨b',i,none⟩ u))(hg:∃ds,Wb W b' t ds)(hne:au≠t):RS B wb g w b a' xs' ps' k' (W.setCell ⟨b',i,none⟩ u):=by
 obtain⟨ds,hg⟩:=hg
 exact⟨hk,h.ka.offX ⟨ds,hg⟩ hne i u,h.bx.off_ (p:=⟨b',i,none⟩) (h.bx.other hg hne) u,h.lo,h.rm⟩
theorem RS.asked{a':KA}{xs':List MV}{ps':List PV}(h:RS B wb g w b a xs ps k W)(hk:KSt B wb g a' xs' ps' k' W')(hg:KpG g W W'):RS B wb g w b a' xs' ps' k' W':=
 ⟨hk,h.ka.trans (hg.kpA h.st.box),hg.wb h.bx (h.bx.other h.st.box (by decide)),h.lo,h.rm⟩
theorem RS.new(h:KSt B wb g a xs ps k w)(hb:Below w.heap.size w W)(hlo:w.heap.size≤b)(hx:Wb W b au [.int .i64 0,.int .i64 0,.string ⟨#[]⟩]):RS B wb g w b a xs ps k W:=
 ⟨h.below hb,fun b cs h=>h.below hb h.lt,hx,hlo,Nat.le_trans h.room hlo⟩
end
theorem Cm(r x:Int)(w:World)(h0:0≤r)(h1:r≤15)(h2:0≤x)(h3:x≤65535):
  Calls Tryz.prog 150 #[.int .i64 r,.int .i64 x] w fun e w'=>e = .returned (.tuple #[.agg #[.int .i64 x,.int .i64 0,.int .i64 0,.int .i64 0,.int .i64 (64*r),.int .i64 (64*r),.int .i64 63,.int .i64 0],.int .i64 0])∧Below w.heap.size w w':=by
 have e1:(decide (0≤r) && decide (r≤15))=true:=by simp[h0,h1]
 have e2:(decide (0≤x) && decide (x≤65535))=true:=by simp[h2,h3]
 have I1:=hid (fun w=>dY r 0 15 w)
 have I2:=hid (fun w=>pF x w)
 rw[show Cf.inB r 0 15=true from e1]at I1
 rw[show Cf.aV x=true from e2]at I2
 clear e1 e2
 go_enter Tryz.func150,Tryz.ntmps150
 go_wp2_with fail
 refine(I1.out _).mono ?_
 rintro e w' ⟨rfl,rfl⟩
 go_wp2_with fail
 refine(I2.out _).mono ?_
 rintro e w' ⟨rfl,rfl⟩
 go_wp2
 exact bodyPost_ret (v:=.tuple #[.agg #[.int .i64 x,.int .i64 0,.int .i64 0,.int .i64 0,.int .i64 (64*r),.int .i64 (64*r),.int .i64 63,.int .i64 0],.int .i64 0]) (by simp[results,Tryz.results150,go_sem]) rfl ⟨rfl,((Below.refl _ _).alloc (Nat.le_refl _) _).alloc (by simp) _⟩
end
section
open Go.RowKit
def awo(i:Nat):Oper:=match i with
 | 0=>⟨some 19,.move (Operand.tmp 0),82, "kern.go:151",#[],none⟩
 | 1=>⟨some 20,.nilCheck (Operand.tmp 19),0, "kern.go:151",#[⟨0,.data⟩],none⟩
 | 2=>⟨some 21,.fieldAddr 28 (Operand.tmp 20) 0,0, "kern.go:151",#[⟨1,.data⟩],none⟩
 | 3=>⟨some 22,.load 22 (Operand.tmp 21),22, "kern.go:151",#[⟨2,.data⟩],none⟩
 | 4=>⟨some 23,.move (Operand.tmp 1),3, "kern.go:151",#[],none⟩
 | 5=>⟨some 24,.indexAddr 22 (Operand.tmp 22) (Operand.tmp 23),0, "kern.go:151",#[⟨3,.data⟩,⟨4,.data⟩],none⟩
 | 6=>⟨some 25,.fieldAddr 79 (Operand.tmp 24) 1,0, "kern.go:151",#[⟨5,.data⟩],none⟩
 | 7=>⟨some 26,.load 77 (Operand.tmp 25),77, "kern.go:151",#[⟨6,.data⟩],none⟩
 | 8=>⟨some 27,.load 171 (Operand.tmp 8),171, "kern.go:151",#[],none⟩
 | 9=>⟨some 28,.move (Operand.tmp 0),82, "kern.go:151",#[],none⟩
 | 10=>⟨some 29,.nilCheck (Operand.tmp 28),0, "kern.go:151",#[⟨9,.data⟩],none⟩
 | 11=>⟨some 30,.fieldAddr 28 (Operand.tmp 29) 1,0, "kern.go:151",#[⟨10,.data⟩],none⟩
 | 12=>⟨some 31,.load 23 (Operand.tmp 30),23, "kern.go:151",#[⟨11,.data⟩],none⟩
 | 13=>⟨some 32,.call { callee:=Callee.value (Operand.func 151),args:=#[Operand.tmp 26,Operand.tmp 27,Operand.tmp 31,Operand.const (Value.int IntKind.i64 2000)],argTypes:=#[77,171,23,3] },176, "kern.go:151",#[⟨7,.data⟩,⟨8,.data⟩,⟨12,.data⟩],none⟩
 | 14=>⟨some 18,.move (Operand.tmp 32),176, "kern.go:151",#[⟨13,.data⟩],none⟩
 | 15=>⟨some 33,.extract (Operand.tmp 18) 0,175, "kern.go:151",#[⟨14,.data⟩],none⟩
 | 16=>⟨some 34,.extract (Operand.tmp 18) 1,32, "kern.go:151",#[⟨14,.data⟩,⟨18,.gcOnly .lateStores⟩],none⟩
 | 17=>⟨some 10,.alloc 175,0, "kern.go:151",#[],none⟩
 | 18=>⟨none,.store 175 (Operand.tmp 10) (Operand.tmp 33),0, "kern.go:151",#[⟨17,.data⟩,⟨15,.data⟩,⟨13,.chain⟩,⟨0,.phase⟩,⟨1,.phase⟩,⟨2,.phase⟩,⟨3,.phase⟩,⟨4,.phase⟩,⟨5,.phase⟩,⟨6,.phase⟩,⟨7,.phase⟩,⟨8,.phase⟩,⟨9,.phase⟩,⟨10,.phase⟩,⟨11,.phase⟩,⟨12,.phase⟩,⟨13,.phase⟩,⟨14,.phase⟩,⟨15,.phase⟩,⟨16,.textOnly .lateStores⟩,⟨17,.phase⟩],none⟩
 | _=>⟨some 11,.assign (Operand.tmp 34),32, "kern.go:151",#[⟨16,.data⟩,⟨18,.chain⟩,⟨0,.phase⟩,⟨1,.phase⟩,⟨2,.phase⟩,⟨3,.phase⟩,⟨4,.phase⟩,⟨5,.phase⟩,⟨6,.phase⟩,⟨7,.phase⟩,⟨8,.phase⟩,⟨9,.phase⟩,⟨10,.phase⟩,⟨11,.phase⟩,⟨12,.phase⟩,⟨13,.phase⟩,⟨14,.phase⟩,⟨15,.phase⟩,⟨16,.phase⟩,⟨17,.phase⟩,⟨18,.phase⟩],none⟩
theorem qW{B:Nat}{wb:World}{g:Nat}{a:KA}{xs:List MV}{ps:List PV}(k:Cf.ag)(u:Nat)(x:Int)(w:World)(h:KSt B wb g a xs ps k w)(hG:Cf.Good k)(hu:u<k.mods.length)(hx:0≤x∧x≤65535):
  Calls Tryz.prog 119 #[.pointer (some ⟨g,0,none⟩),.int .i64 u,.int .i64 x] w (Ea B wb g w k (Cf.fK k u x)):=by
 obtain⟨A,ca,M0,cm,N,cn,S,cs,Q,cq⟩:=a
 obtain⟨gA,nm,A1,code,c1,B1,data,e1,hM⟩:=h.mat hu
 have hA:=hM.A
 simp only at hA
 subst hA
 have hu8:u<8:=by have:=hG.modsL;omega
 have hml:k.mods.length≤8:=hG.modsL
 have huI:(u:Int)<(k.mods.length:Int):=by omega
 have hcode:(k.mods.getD u Cf.bz).code=code:=by rw[List.getD_eq_getElem?_getD,hM.md];rfl
 obtain⟨z,s0,s1,s2,s3,s4,s5,s6,s7,told,mm,er,e8,_,_⟩:=IP code x 0 0 0 (64*(u:Int)) (64*(u:Int)) 63 0 k.mem 2000
 have HO:=hid (show Cf.A7 k u x=⟨z,[s0,s1,s2,s3,s4,s5,s6,s7],told,mm,er⟩ by unfold Cf.A7 Cf.Ko;rw[hcode];exact e8)
 have hmm:er=0→mm.length=k.mem.length:=fun he=>by
  have:=(Cf.pV (l:=code) (regs:=[x,0,0,0,64*(u:Int),64*(u:Int),63,0]) (mem:=k.mem) (fuel:=2000) rfl (by rw[e8];exact he)).2.1
  rw[e8]at this
  exact this
 have hcl:code.length≤200:=Cf.gU code (Cf.pG (Cf.lg (hG.mod _ (List.mem_of_getElem? hM.md))).2.2.2)
 have Hez:=hid (fun hz:z=1=>show er=0 by
  by_cases he:Cf.jA code [x,0,0,0,64*(u:Int),64*(u:Int),63,0] k.mem 2000=0
  ·obtain⟨_,_,_,_,_,hT⟩:=oH code _ k.mem 2000 he
   rw[e8]at hT
   exact(Cf.Out.mk.inj hT).2.2.2.2
  ·have hT:=rD code _ k.mem 2000 he
   rw[e8]at hT
   have:=(Cf.Out.mk.inj hT).1
   omega)
 have H:=hid h
 have HM:=hid hM
 have GM:=hid (fun W (hW:Below w.heap.size w W)=>by
  have h1:=h.below hW
  have:=FD code A1 c1 x 0 0 0 (64*(u:Int)) (64*(u:Int)) 63 0 k.mem M0 cm 2000 W (h1.m1 hM).2.2 (by unfold maxLen;omega) h1.own.mem.rd (by rw[hG.memL];unfold maxLen;omega)
  rw[e8]at this
  exact this)
 have HEn:=hid (fun W=>Cm u x W (by omega) (by omega) hx.1 hx.2)
 have HmL:=hid hG.memL
 have Hmm:=hid hmm
 have HAt:=hid (show Cf.fK k u x=if er=0∧z=1 then⟨mm,s0,true⟩ else⟨k.mem,0,false⟩ by
  unfold Cf.fK
  rw[HO.out]
  rfl)
 generalize Cf.fK k u x=q at *
 clear h hG hM hcode e8 hmm hcl HO
 go_enter Tryz.func119,Tryz.ntmps119
 go_wp2_with fail
 refine(HEn.out _).mono ?_
 rintro e w1 ⟨rfl,hb1⟩
 have HW1:=hid hb1
 clear hb1 HEn
 go_upto_region 2 with fail
 have HB2:=hid (Wb.new w1 171 [.int .i64 x,.int .i64 0,.int .i64 0,.int .i64 0,.int .i64 (64*(u:Int)),.int .i64 (64*(u:Int)),.int .i64 63,.int .i64 0])
 have hb2:Below w.heap.size w (w1.alloc (.cells #[.int .i64 x,.int .i64 0,.int .i64 0,.int .i64 0,.int .i64 (64*(u:Int)),.int .i64 (64*(u:Int)),.int .i64 63,.int .i64 0] 171)):=HW1.out.alloc HW1.out.size _
 generalize hgR:w1.heap.size=gR at *
 clear hgR
 generalize w1.alloc (.cells #[.int .i64 x,.int .i64 0,.int .i64 0,.int .i64 0,.int .i64 (64*(u:Int)),.int .i64 (64*(u:Int)),.int .i64 63,.int .i64 0] 171)=w2 at *
 have HW2:=hid hb2
 clear HW1 hb2
 go_cut [10,11] from 18 to 35 (fun p10 e9 wx=>Gi w ⟨z,[s0,s1,s2,s3,s4,s5,s6,s7],told,mm,er⟩ e9 p10 wx)
 case first=>
  have hK2:=H.out.below HW2.out
  have k0:=hK2.ptr.c0
  have k1:=hK2.ptr.c1
  have kl:=hK2.box.lt
  obtain⟨m1,ml,_⟩:=hK2.m1 HM.out
  have hbw:=HW2.out
  clear hK2 HW2
  refine wp_region_noPanic ?_
  refine wp_region_held_drew (S:=fun W=>Below w2.heap.size w2 W) (by kernel_rfl) ((Below.refl _ _).drew) (fun hHeld=>?_)
  refine ffy (i:=0) (oi:=awo 0) (v:=.pointer (some ⟨g,0,none⟩)) rfl (by kernel_rfl) (fun _ _ _ h=>h) hHeld (fun wq hSw=>by simp only[awo];go_simp) ?_
  (try simp only[awo,Act.put,sq])
  refine ffy (i:=1) (oi:=awo 1) (v:=.pointer (some ⟨g,0,none⟩)) rfl (by kernel_rfl) (fun _ _ _ h=>h) hHeld (fun wq hSw=>by simp only[awo];go_simp) ?_
  (try simp only[awo,Act.put,sq])
  refine ffy (i:=2) (oi:=awo 2) (v:=.pointer (some ⟨g,0,none⟩)) rfl (by kernel_rfl) (fun _ _ _ h=>h) hHeld (fun wq hSw=>by simp only[awo];go_simp) ?_
  (try simp only[awo,Act.put,sq])
  refine ffy (i:=3) (oi:=awo 3) (v:=.slice (some ⟨gA,0,none⟩) k.mods.length ca) rfl (by kernel_rfl) (fun _ _ _ h=>h) hHeld (fun wq hSw=>by simp only[awo];have kk:=(hSw.cell (p:=⟨g,0,none⟩) kl).trans k0;clear hSw;go_simp) ?_
  (try simp only[awo,Act.put,sq])
  refine ffy (i:=4) (oi:=awo 4) (v:=.int .i64 u) rfl (by kernel_rfl) (fun _ _ _ h=>h) hHeld (fun wq hSw=>by simp only[awo];go_simp) ?_
  (try simp only[awo,Act.put,sq])
  refine ffy (i:=5) (oi:=awo 5) (v:=.pointer (some ⟨gA,u*3,none⟩)) rfl (by kernel_rfl) (fun _ _ _ h=>h) hHeld (fun wq hSw=>by simp only[awo];go_simp) ?_
  (try simp only[awo,Act.put,sq])
  refine ffy (i:=6) (oi:=awo 6) (v:=.pointer (some ⟨gA,u*3+1,none⟩)) rfl (by kernel_rfl) (fun _ _ _ h=>h) hHeld (fun wq hSw=>by simp only[awo];go_simp) ?_
  (try simp only[awo,Act.put,sq])
  refine ffy (i:=7) (oi:=awo 7) (v:=.slice A1 code.length c1) rfl (by kernel_rfl) (fun _ _ _ h=>h) hHeld (fun wq hSw=>by simp only[awo];have kk:=(hSw.cell (p:=⟨gA,u*3+1,none⟩) ml).trans m1;clear hSw;go_simp) ?_
  (try simp only[awo,Act.put,sq])
  refine ffy (i:=8) (oi:=awo 8) (v:=.agg #[.int .i64 x,.int .i64 0,.int .i64 0,.int .i64 0,.int .i64 (64*(u:Int)),.int .i64 (64*(u:Int)),.int .i64 63,.int .i64 0]) rfl (by kernel_rfl) (fun _ _ _ h=>h) hHeld (fun wq hSw=>by simp only[awo];obtain⟨qq0,qq1,qq2,qq3,qq4,qq5,qq6,qq7⟩:=Jb (HB2.out.below hSw HB2.out.lt);clear hSw;go_simp) ?_
  (try simp only[awo,Act.put,sq])
  refine ffy (i:=9) (oi:=awo 9) (v:=.pointer (some ⟨g,0,none⟩)) rfl (by kernel_rfl) (fun _ _ _ h=>h) hHeld (fun wq hSw=>by simp only[awo];go_simp) ?_
  (try simp only[awo,Act.put,sq])
  refine ffy (i:=10) (oi:=awo 10) (v:=.pointer (some ⟨g,0,none⟩)) rfl (by kernel_rfl) (fun _ _ _ h=>h) hHeld (fun wq hSw=>by simp only[awo];go_simp) ?_
  (try simp only[awo,Act.put,sq])
  refine ffy (i:=11) (oi:=awo 11) (v:=.pointer (some ⟨g,1,none⟩)) rfl (by kernel_rfl) (fun _ _ _ h=>h) hHeld (fun wq hSw=>by simp only[awo];go_simp) ?_
  (try simp only[awo,Act.put,sq])
  refine ffy (i:=12) (oi:=awo 12) (v:=.slice M0 k.mem.length cm) rfl (by kernel_rfl) (fun _ _ _ h=>h) hHeld (fun wq hSw=>by simp only[awo];have kk:=(hSw.cell (p:=⟨g,1,none⟩) kl).trans k1;clear hSw;go_simp) ?_
  (try simp only[awo,Act.put,sq])
  refine wpAnyH_ready (rs:=[13,17]) (by kernel_rfl) (by simp) ?_
  refine AllReadyH.cons (o:=awo 13) rfl (fun K hK=>?_) (AllReadyH.cons (o:=awo 17) rfl (fun K hK=>?_) AllReadyH.nil)
  ·simp only[awo]
   have HRn:=hid (GM.out _ (hbw.trans (hHeld.mono hbw.size)))
   go_simp
   go_at_call 151;refine HRn.out.mono ?_;rintro e w5 ⟨T,M,ct,cm2,rfl,hT5,hM5,hb5,hcm5,hfr5,hrw5⟩
   dsimp only at hcm5 hrw5 ⊢
   simp only[List.map_cons,List.map_nil,List.cons_append,List.nil_append]
   go_wp2_with fail
   have BV:=hid hcm5
   have Dv:=hid (Row.base hrw5 (Nat.le_trans hbw.size hHeld.size))
   refine hK.out _ _ (hHeld.trans (hb5.mono hHeld.size)) (fun hHeld=>?_)
   clear hK K HRn hT5 hM5 hcm5 hfr5 hrw5
   (try simp only[awo,Act.put,sq])
   refine ffy (i:=14) (oi:=awo 14) (v:=.tuple #[.agg #[.int .i64 z,.int .i64 s0,.int .i64 s1,.int .i64 s2,.int .i64 s3,.int .i64 s4,.int .i64 s5,.int .i64 s6,.int .i64 s7,.slice T told.length ct,.slice M mm.length cm2],.int .i64 er]) rfl (by kernel_rfl) (fun _ _ _ h=>h) hHeld (fun wq hSw=>by simp only[awo];go_simp) ?_
   (try simp only[awo,Act.put,sq])
   refine ffy (i:=15) (oi:=awo 15) (v:=.agg #[.int .i64 z,.int .i64 s0,.int .i64 s1,.int .i64 s2,.int .i64 s3,.int .i64 s4,.int .i64 s5,.int .i64 s6,.int .i64 s7,.slice T told.length ct,.slice M mm.length cm2]) rfl (by kernel_rfl) (fun _ _ _ h=>h) hHeld (fun wq hSw=>by simp only[awo];go_simp) ?_
   (try simp only[awo,Act.put,sq])
   refine ffy (i:=16) (oi:=awo 16) (v:=.int .i64 er) rfl (by kernel_rfl) (fun _ _ _ h=>h) hHeld (fun wq hSw=>by simp only[awo];go_simp) ?_
   (try simp only[awo,Act.put,sq])
   have uV:=hHeld
   refine wpAnyH_ready (rs:=[17]) (by kernel_rfl) (by simp) ?_
   refine AllReadyH.cons (o:=awo 17) rfl (fun K hK=>?_) AllReadyH.nil
   simp only[awo]
   go_simp
   have hsz:=hHeld.size
   refine hK.out _ _ (hHeld.alloc hHeld.size _) (fun hHeld=>?_)
   clear hK K
   (try simp only[awo,Act.put,sq])
   refine wpAnyH_ready (rs:=[18]) (by kernel_rfl) (by simp) ?_
   refine AllReadyH.cons (o:=awo 18) rfl (fun K hK=>?_) AllReadyH.nil
   simp only[awo]
   go_simp
   refine hK.out _ _ (uV.alloc uV.size _) (fun hHeld=>?_)
   clear hK K
   (try simp only[awo,Act.put,sq])
   refine ffy (i:=19) (oi:=awo 19) (v:=.int .i64 er) rfl (by kernel_rfl) (fun _ _ _ h=>h) hHeld (fun wq hSw=>by simp only[awo];go_simp) ?_
   (try simp only[awo,Act.put,sq])
   refine wpAnyH_done (by kernel_rfl) ?_ _
   refine NoPanic.normal ?_
   go_wp2_with fail
   go_meet
   exact⟨_,T,M,ct,cm2,rfl,rfl,Wb.new w5 IM [.int .i64 z,.int .i64 s0,.int .i64 s1,.int .i64 s2,.int .i64 s3,.int .i64 s4,.int .i64 s5,.int .i64 s6,.int .i64 s7,.slice T told.length ct,.slice M mm.length cm2],(Dv.out.alloc _),BV.out,hbw.trans (hHeld.mono hbw.size)⟩
  ·simp only[awo]
   go_simp
   have hsz:=hHeld.size
   refine hK.out _ _ (hHeld.alloc hHeld.size _) (fun hHeld=>?_)
   clear hK K
   (try simp only[awo,Act.put,sq])
   have Hg4:=hid ((Wb.new w2 175 [.int .i64 0,.int .i64 0,.int .i64 0,.int .i64 0,.int .i64 0,.int .i64 0,.int .i64 0,.int .i64 0,.int .i64 0,.slice none 0 0,.slice none 0 0]).draw 1)
   refine wpAnyH_ready (rs:=[13]) (by kernel_rfl) (by simp) ?_
   refine AllReadyH.cons (o:=awo 13) rfl (fun K hK=>?_) AllReadyH.nil
   simp only[awo]
   have HRn:=hid (GM.out _ (hbw.trans (hHeld.mono hbw.size)))
   go_simp
   go_at_call 151;refine HRn.out.mono ?_;rintro e w5 ⟨T,M,ct,cm2,rfl,hT5,hM5,hb5,hcm5,hfr5,hrw5⟩
   dsimp only at hcm5 hrw5 ⊢
   simp only[List.map_cons,List.map_nil,List.cons_append,List.nil_append]
   go_wp2_with fail
   have BV:=hid hcm5
   have Dv:=hid (Row.base hrw5 (Nat.le_trans hbw.size hHeld.size))
   refine hK.out _ _ (hHeld.trans (hb5.mono hHeld.size)) (fun hHeld=>?_)
   have Hg5:=hid (Hg4.out.below hb5 Hg4.out.lt)
   clear hK K HRn hT5 hM5 hcm5 hfr5 hrw5
   (try simp only[awo,Act.put,sq])
   refine ffy (i:=14) (oi:=awo 14) (v:=.tuple #[.agg #[.int .i64 z,.int .i64 s0,.int .i64 s1,.int .i64 s2,.int .i64 s3,.int .i64 s4,.int .i64 s5,.int .i64 s6,.int .i64 s7,.slice T told.length ct,.slice M mm.length cm2],.int .i64 er]) rfl (by kernel_rfl) (fun _ _ _ h=>h) hHeld (fun wq hSw=>by simp only[awo];go_simp) ?_
   (try simp only[awo,Act.put,sq])
   refine ffy (i:=15) (oi:=awo 15) (v:=.agg #[.int .i64 z,.int .i64 s0,.int .i64 s1,.int .i64 s2,.int .i64 s3,.int .i64 s4,.int .i64 s5,.int .i64 s6,.int .i64 s7,.slice T told.length ct,.slice M mm.length cm2]) rfl (by kernel_rfl) (fun _ _ _ h=>h) hHeld (fun wq hSw=>by simp only[awo];go_simp) ?_
   (try simp only[awo,Act.put,sq])
   refine ffy (i:=16) (oi:=awo 16) (v:=.int .i64 er) rfl (by kernel_rfl) (fun _ _ _ h=>h) hHeld (fun wq hSw=>by simp only[awo];go_simp) ?_
   (try simp only[awo,Act.put,sq])
   refine wpAnyH_ready (rs:=[18]) (by kernel_rfl) (by simp) ?_
   refine AllReadyH.cons (o:=awo 18) rfl (fun K hK=>?_) AllReadyH.nil
   simp only[awo]
   refine Eq.mpr (if_pos (by kernel_rfl)) ?_
   refine wp_store_mid 175 _ _ rfl (w2.heap.size) 0 #[.int .i64 z,.int .i64 s0,.int .i64 s1,.int .i64 s2,.int .i64 s3,.int .i64 s4,.int .i64 s5,.int .i64 s6,.int .i64 s7,.slice T told.length ct,.slice M mm.length cm2] rfl rfl Hg5.out.there (by kernel_rfl) (DY z s0 s1 s2 s3 s4 s5 s6 s7 T M told.length ct mm.length cm2) ?_
   have hbS:=below_setCells (B:=w2.heap.size) (Nat.le_refl _) [.int .i64 z,.int .i64 s0,.int .i64 s1,.int .i64 s2,.int .i64 s3,.int .i64 s4,.int .i64 s5,.int .i64 s6,.int .i64 s7,.slice T told.length ct,.slice M mm.length cm2] 0 w5 hHeld
   have HB6:=hid (Wb.lay [.int .i64 z,.int .i64 s0,.int .i64 s1,.int .i64 s2,.int .i64 s3,.int .i64 s4,.int .i64 s5,.int .i64 s6,.int .i64 s7,.slice T told.length ct,.slice M mm.length cm2] 0 w5 _ Hg5.out (by simp))
   have HRS:=hid (rV (base:=w.heap.size) (t:=IM) (by decide) [.int .i64 z,.int .i64 s0,.int .i64 s1,.int .i64 s2,.int .i64 s3,.int .i64 s4,.int .i64 s5,.int .i64 s6,.int .i64 s7,.slice T told.length ct,.slice M mm.length cm2] 0 w5 _ Dv.out Hg5.out)
   change K _ (w5.setCells (w2.heap.size) 0 [.int .i64 z,.int .i64 s0,.int .i64 s1,.int .i64 s2,.int .i64 s3,.int .i64 s4,.int .i64 s5,.int .i64 s6,.int .i64 s7,.slice T told.length ct,.slice M mm.length cm2])
   generalize w5.setCells (w2.heap.size) 0 [.int .i64 z,.int .i64 s0,.int .i64 s1,.int .i64 s2,.int .i64 s3,.int .i64 s4,.int .i64 s5,.int .i64 s6,.int .i64 s7,.slice T told.length ct,.slice M mm.length cm2]=w6 at hbS HB6 HRS ⊢
   refine hK.out _ _ hbS (fun hHeld=>?_)
   clear hK K hbS
   (try simp only[awo,Act.put])
   refine ffy (i:=19) (oi:=awo 19) (v:=.int .i64 er) rfl (by kernel_rfl) (fun _ _ _ h=>h) hHeld (fun wq hSw=>by simp only[awo];go_simp) ?_
   (try simp only[awo,Act.put,sq])
   refine wpAnyH_done (by kernel_rfl) ?_ _
   refine NoPanic.normal ?_
   go_wp2_with fail
   go_meet
   exact⟨_,T,M,ct,cm2,rfl,rfl,(by have:=HB6.out;simpa using this),HRS.out,BV.out,hbw.trans (hHeld.mono hbw.size)⟩
 case rest=>
  obtain⟨gO,T,M,ct,cm2,h10,h9,hO,hR,hcm,hbw⟩:=hcut
  dsimp only at h9
  subst h9 h10
  simp only[List.map_cons,List.map_nil,List.cons_append,List.nil_append]at hO hR hcm
  have y0:=hO.cell 0
  have y1:=hO.cell 1
  have y10:=hO.cell 10
  simp only[gq]at y0 y1 y10
  have yl:=hO.lt
  have Hbw:=hid hbw
  have HR:=hid hR
  have Hcm:=hid hcm
  have hKc:=H.out.below hbw
  have k1:=hKc.ptr.c1
  have kl:=hKc.box.lt
  have kf:=hKc.box.open_
  have hne:gO≠g:=hO.other hKc.box (by decide)
  clear hbw hR hcm hO HB2 HW2 hKc
  by_cases hz:z=1
  ·have he:=Hez.out hz
   subst hz he
   rw[if_pos ⟨rfl,rfl⟩]at HAt
   have HML:=hid (Hmm.out rfl)
   have HN:=hid (G8 HR.out)
   have HK:=hid (H.out.putMem Hbw.out HN.out HML.out Hcm.out)
   go_wp2
   go_ret2
   exact⟨by rw[HAt.out];rfl,⟨_,_,_,by rw[HAt.out];exact HK.out⟩,(KpG.of Hbw.out).put 1 _⟩
  ·have hq:(z != 1)=true:=by rw[bne_iff_ne];exact hz
   rw[if_neg (fun h=>hz h.2)]at HAt
   clear hz
   go_wp2
   go_ret2
   exact⟨by rw[HAt.out];rfl,⟨_,_,_,by rw[HAt.out];exact H.out.below Hbw.out⟩,KpG.of Hbw.out⟩
end
section
open Go.RowKit
theorem AO{z:Int}(h:Cf.inB z 1 100=true):∃n:Nat,z=n∧1≤n∧n≤100:=by
 simp[Cf.inB]at h
 exact⟨z.toNat,by omega,by omega,by omega⟩
theorem LU{k:Cf.ag}{u:Nat}{x:Int}(h:(Cf.fK k u x).ok=false):(Cf.fK k u x).mem=k.mem:=by
 unfold Cf.fK at h ⊢
 split at h
 ·cases h
 ·rw[if_neg (by assumption)]
theorem BJ{B:Nat}{wb:World}{g:Nat}{a:KA}{xs:List MV}{ps:List PV}(k:Cf.ag)(q i:Nat)(z:Int)(w:World)(h:KSt B wb g a xs ps k w)(hG:Cf.Good k)(hq:q<4)(hi:i<6)(h0:(Cf.aH k q i).kind≠0):
  Calls Tryz.prog 81 #[.pointer (some ⟨g,0,none⟩),.int .i64 q,.int .i64 i,.int .i64 z] w (dF B wb g w (Cf.gI k q i z)):=by
 obtain⟨A,ca,M,cm,N,cn,S,cs,Q,cq⟩:=a
 obtain⟨gQ,hgQ,_⟩:=h.own.procs.at_ (i:=0) (List.getElem?_eq_getElem (by rw[h.own.ends.1,hG.procsL];omega))
 obtain⟨gN,hgN,_⟩:=h.own.nodes.at_ (i:=0) (List.getElem?_eq_getElem (by rw[hG.nodesL];omega))
 obtain⟨gS,hgS,_⟩:=h.own.pipes.at_ (i:=0) (List.getElem?_eq_getElem (by rw[hG.pipesL];omega))
 simp only at hgQ hgN hgS
 subst hgQ hgN hgS
 obtain⟨gE,ce,lv,es,hP⟩:=h.pat hG.toPre hq rfl
 have hes:es[i]?=some (Cf.aH k q i):=by have:=hG.toPre.end_ hq hi;rwa [hP.is_]at this
 have HEC:=hid (oD hG hq hi h0)
 obtain⟨⟨ek,en,ep⟩,he⟩:∃e,e=Cf.aH k q i:=⟨_,rfl⟩
 rw[← he]at hes HEC
 have c4:=h.ptr.c4
 simp only[hG.procsL]at c4
 have kl:=h.box.lt
 have r1:=h.p1 hP
 have rl:=(h.Bp hP).lt
 have e0:w.cell? ⟨gE,i*3,none⟩=_:=(h.Be hP).cell hes (j:=0) rfl
 have e1:w.cell? ⟨gE,i*3+1,none⟩=_:=(h.Be hP).cell hes (j:=1) rfl
 have e2:w.cell? ⟨gE,i*3+2,none⟩=_:=(h.Be hP).cell hes (j:=2) rfl
 have el:=(h.Be hP).lt
 obtain⟨w0,hw0⟩:∃w0:World,w0=(w.alloc (.cells #[.int .i64 0,.int .i64 0,.string ⟨#[]⟩] au)).alloc (.cells #[.int .i64 ek,.int .i64 en,.int .i64 ep] fP):=⟨_,rfl⟩
 have HR0:=hid (RS.new (W:=w0) h (by rw[hw0];exact((Below.refl _ _).alloc (Nat.le_refl _) _).alloc (by simp) _) (Nat.le_refl _) (by rw[hw0];exact(Wb.new w au [.int .i64 0,.int .i64 0,.string ⟨#[]⟩]).alloc _))
 have HE0:=hid (show Wb w0 (w.heap.size+1) fP [.int .i64 ek,.int .i64 en,.int .i64 ep] by
  rw[hw0]
  have:=Wb.new (w.alloc (.cells #[.int .i64 0,.int .i64 0,.string ⟨#[]⟩] au)) fP [.int .i64 ek,.int .i64 en,.int .i64 ep]
  rwa [show(w.alloc (.cells #[.int .i64 0,.int .i64 0,.string ⟨#[]⟩] au)).heap.size=w.heap.size+1 by simp]at this)
 have Hw0:=hid hw0
 obtain⟨D,hD⟩:∃D,D=Cf.gI k q i z:=⟨_,rfl⟩
 rw[← hD]
 have HT:=hid (show D=if ek=3 then Cf.ai k 3 else if Cf.inB z 1 100=false then Cf.ai k 2 else if ek=2 then Cf.dB k en.toNat z.toNat else if (Cf.nodeAt k en.toNat).kind=2 then Cf.gz k (Cf.nodeAt k en.toNat).unit.toNat else Cf.fG k q i z.toNat (Cf.nodeAt k en.toNat).data ⟨ek,en,ep⟩ by
  rw[hD];unfold Cf.gI;rw[← he])
 have HH:=hid (fun W (hW:KSt B wb g ⟨A,ca,M,cm,some ⟨gN,0,none⟩,cn,some ⟨gS,0,none⟩,cs,some ⟨gQ,0,none⟩,cq⟩ xs ps k W) kd nd=>nV k _ kd nd W hW.ptr.2 (eu (by rw[hG.procsL];omega)) (fun p hp=>eu (by rw[hG.ends p hp];omega)))
 simp only[af,hG.nodesL,hG.pipesL,hG.procsL,hG.memL]at HH
 have HG:=hid hG
 have HP:=hid hP
 have HS:=hid hes
 clear h hG hP hes hw0 hD he h0
 go_enter Tryz.func81,Tryz.ntmps81
 go_upto_region 2 with fail
 rw[← Hw0.out]
 clear c4 kl r1 rl e0 e1 e2 el Hw0
 obtain⟨x0,x1,x2⟩:=(⟨HE0.out.cell 0,HE0.out.cell 1,HE0.out.cell 2⟩:w0.cell? ⟨w.heap.size+1,0,none⟩=some (.int .i64 ek)∧w0.cell? ⟨w.heap.size+1,1,none⟩=some (.int .i64 en)∧w0.cell? ⟨w.heap.size+1,2,none⟩=some (.int .i64 ep))
 have xl:=HE0.out.lt
 rcases HEC.out with ⟨n,po,f,hn,hpo,he,hfa,hfn,hfd,hfk⟩|⟨n,hn,he⟩|⟨n,hn,he⟩
 ·obtain⟨rfl,rfl,rfl⟩:=Cf.End.mk.inj he
  replace HT:=hid (show D=if Cf.inB z 1 100=false then Cf.ai k 2 else if f.kind=2 then Cf.gz k f.unit.toNat else Cf.fG k q i z.toNat f.data ⟨1,n,po⟩ from HT.out.trans (by simp[hfa]))
  go_wp2_with fail
  refine(dY z 1 100 _).mono ?_
  rintro e w' ⟨rfl,rfl⟩
  cases hb:Cf.inB z 1 100
  ·obtain rfl:=HT.out.trans (if_pos hb)
   obtain⟨p0,p1,p2,f0,hl9⟩:=HR0.out.box
   have HFin:=hid HR0.out.fin
   clear HR0 HT HE0 HH HG HP HS HEC hb
   go_wp2
   refine bodyPost_ret (v:=.agg #[.int .i64 2,.int .i64 0,.string ⟨#[]⟩]) (by simp[results,Tryz.results81,go_sem,p0,p1,p2]) rfl ?_
   exact⟨rfl,by(show ah _ _ _ _ k _);with_reducible exact HFin.out _ _ _⟩
  obtain⟨m,rfl,hm1,hm2⟩:=AO hb
  replace HT:=hid (HT.out.trans (if_neg (by rw[hb];decide)))
  obtain⟨nm,fk,fd,fu⟩:=f
  dsimp only at hfd hfk HT
  have hn8:(n:Int)<8:=by omega
  clear hb he HEC hfa HH
  have c2:=HR0.out.st.ptr.c2
  simp only[HG.out.nodesL]at c2
  have kl:=HR0.out.st.box.lt
  have hBn:=HR0.out.st.Bn rfl hfn
  have n0:w0.cell? ⟨gN,n*4,none⟩=_:=hBn.cell hfn (j:=0) rfl
  have n1:w0.cell? ⟨gN,n*4+1,none⟩=_:=hBn.cell hfn (j:=1) rfl
  have n2:w0.cell? ⟨gN,n*4+2,none⟩=_:=hBn.cell hfn (j:=2) rfl
  have n3:w0.cell? ⟨gN,n*4+3,none⟩=_:=hBn.cell hfn (j:=3) rfl
  have nl:=hBn.lt
  clear hBn hfn
  go_upto_region 17 with fail
  go_cut [11] from 83 to 91 (fun v wx=>∃bn,v = .pointer (some ⟨bn,0,none⟩)∧Wb wx bn bu [.string ⟨nm.toArray⟩,.int .i64 fk,.string ⟨fd.toArray⟩,.int .i64 fu]∧Below w0.heap.size w0 wx)
  case first=>
   go_region
   go_wp2_with fail
   go_meet
   exact⟨_,rfl,(Wb.new w0 bu [.string ⟨nm.toArray⟩,.int .i64 fk,.string ⟨fd.toArray⟩,.int .i64 fu]).draw 1,((Below.refl _ _).alloc (Nat.le_refl _) _).drew⟩
  case rest=>
   obtain⟨bn,rfl,hN,hb1⟩:=hcut
   have HR1:=hid (HR0.out.below hb1)
   have HE1:=hid (HE0.out.below hb1 HE0.out.lt)
   clear HR0 HE0 c2 kl n0 n1 n2 n3 nl x0 x1 x2 xl hb1
   have y1:=hN.cell 1
   have y2:=hN.cell 2
   have y3:=hN.cell 3
   simp only[gq]at y1 y2 y3
   have yl:=hN.lt
   clear hN
   rcases hfk with rfl|⟨rfl,u,rfl,hu⟩
   ·replace HT:=hid (show D=if fd.drop po=[] then Cf.ai k 12 else⟨⟨k.mods,k.mem,k.nodes,k.pipes,k.procs.set q ⟨lv,es.set i ⟨1,n,(po:Int)+((fd.drop po).take m).length⟩⟩⟩,⟨0,((fd.drop po).take m).length,(fd.drop po).take m⟩⟩ from HT.out.trans (by
     rw[if_neg (by decide),Int.toNat_natCast];unfold Cf.fG Cf.xE Cf.setEnd Cf.setProc;simp only[Int.toNat_natCast,HP.out.is_]))
    have hsz:(⟨fd.toArray⟩:ByteArray).size=fd.length:=by simp[ByteArray.size]
    have x2:=HE1.out.cell 2
    simp only[gq]at x2
    have xl:=HE1.out.lt
    by_cases h0:fd.length≤po
    ·obtain rfl:=HT.out.trans (if_pos (List.drop_eq_nil_of_le h0))
     have h0':(fd.length:Int)≤(po:Int):=by omega
     obtain⟨p0,p1,p2,f0,hl9⟩:=HR1.out.box
     have HFin:=hid HR1.out.fin
     clear HR1 HT HE1 HG HP HS h0
     go_wp2
     refine bodyPost_ret (v:=.agg #[.int .i64 12,.int .i64 0,.string ⟨#[]⟩]) (by simp[results,Tryz.results81,go_sem,p0,p1,p2]) rfl ?_
     exact⟨rfl,by(show ah _ _ _ _ k _);with_reducible exact HFin.out _ _ _⟩
    ·have h0':¬(fd.length:Int)≤(po:Int):=by omega
     have s1:=ku fd po (by omega)
     replace HT:=hid (HT.out.trans (if_neg (fun h=>h0 (by have:=congrArg List.length h;simp at this;omega))))
     clear h0
     generalize fd.drop po=s at *
     have hsz3:(⟨s.toArray⟩:ByteArray).size=s.length:=by simp[ByteArray.size]
     obtain⟨t,ht⟩:∃t,t=s.take m:=⟨_,rfl⟩
     rw[← ht]at HT
     have hsz2:(⟨t.toArray⟩:ByteArray).size=t.length:=by simp[ByteArray.size]
     have htl:t.length≤100:=by rw[ht,List.length_take];omega
     have hK1:=HR1.out.st
     have c4:=hK1.ptr.c4
     simp only[HG.out.procsL]at c4
     have kl:=hK1.box.lt
     have r1:=hK1.p1 HP.out
     have rl:=(hK1.Bp HP.out).lt
     have e2:wc.cell? ⟨gE,i*3+2,none⟩=_:=(hK1.Be HP.out).cell HS.out (j:=2) rfl
     have el:=(hK1.Be HP.out).lt
     have ef:=(hK1.Be HP.out).open_
     have HR2:=hid (HR1.out.put (hK1.putE HP.out.pv HP.out.proc rfl (i:=i) (j:=2) (e':=⟨1,n,(po:Int)+t.length⟩) (u:=.int .i64 ((po:Int)+t.length)) HS.out (by omega) rfl) (hK1.box2 HP.out) (by decide))
     obtain rfl:=HT.out
     clear HR1 HE1 HT HG HP HS hK1
     by_cases hl:m<s.length
     all_goals
      first
       | (have s2:=gu s m (Nat.le_of_lt hl);rw[← ht]at s2;have hl':(m:Int)<(s.length:Int):=by omega)
       | (obtain rfl:t=s:=by rw[ht,List.take_of_length_le (by omega)]
          have hl':¬(m:Int)<(t.length:Int):=by omega)
      clear ht hl
      go_wp2_with fail
      go_region
      obtain⟨p0,p1,p2,f0,hl9⟩:=HR2.out.box
      have HFin:=hid HR2.out.fin
      clear HR2 c4 kl x2 xl r1 rl e2 el ef s1
      go_wp2
      refine bodyPost_ret (v:=.agg #[.int .i64 0,.int .i64 t.length,.string ⟨t.toArray⟩]) (by simp[results,Tryz.results81,go_sem,p0,p1,p2]) rfl ?_
      exact⟨rfl,by(show ah _ _ _ _ ⟨_,_,_,_,_⟩ _);with_reducible exact(HFin.out _ _ _).draw⟩
   ·have hwd:=(Cf.qI HG.out.memL HG.out.memW u 256).2.2
    obtain⟨v,hv⟩:=Int.eq_ofNat_of_zero_le hwd.1
    replace HT:=hid (show D=if (Cf.fK k u 256).ok then⟨Cf.setMem k (Cf.fK k u 256).mem,⟨0,1,[UInt8.ofNat v]⟩⟩ else Cf.ai k 14 from HT.out.trans (by
     rw[if_pos rfl,Int.toNat_natCast];unfold Cf.gz;rw[hv,Int.toNat_natCast];rfl))
    have HA:=hid (qW k u 256 wc HR1.out.st HG.out hu (by omega))
    have HF:=hid (LU (k:=k) (u:=u) (x:=256))
    have hv2:v≤65535:=by omega
    have Hv:=hid hv
    clear hwd hv
    generalize Cf.fK k u 256=qa at *
    obtain⟨qm,qw,qo⟩:=qa
    go_wp2_with fail
    refine HA.out.mono ?_
    rintro e w2 ⟨rfl,⟨a1,xs1,ps1,hK2⟩,hg2⟩
    have HR2:=hid (HR1.out.asked hK2 hg2)
    have hv:=Hv.out
    (try dsimp only at hv)
    subst hv
    clear HR1 HE1 HA y1 y2 y3 yl hK2 hg2 HG HP HS Hv
    cases qo
    ·have HR2:=hid (show RS B wb g w w.heap.size a1 xs1 ps1 k w2 by have h1:=HR2.out;rw[show qm=k.mem from HF.out rfl]at h1;exact h1)
     obtain rfl:=HT.out.trans (if_neg (by decide))
     obtain⟨p0,p1,p2,f0,hl9⟩:=HR2.out.box
     have HFin:=hid HR2.out.fin
     clear HR2 HT HF
     go_wp2
     refine bodyPost_ret (v:=.agg #[.int .i64 14,.int .i64 0,.string ⟨#[]⟩]) (by simp[results,Tryz.results81,go_sem,p0,p1,p2]) rfl ?_
     exact⟨rfl,by(show ah _ _ _ _ k _);with_reducible exact HFin.out _ _ _⟩
    ·obtain rfl:=HT.out.trans (if_pos rfl)
     have hby:((UInt8.ofNat v).toNat:Int)=(v:Int) % 256:=by rw[UInt8.toNat_ofNat'];omega
     have hcv:=one_byte w2 (UInt8.ofNat v)
     rw[hby]at hcv
     have HR3:=hid (HR2.out.below ((Below.refl _ _).alloc (Nat.le_refl _) (.cells #[.int .u8 ((v:Int) % 256)] tU8)))
     obtain⟨p0,p1,p2,f0,hl9⟩:=HR3.out.box
     have HFin:=hid HR3.out.fin
     clear HR3 HT HF HR2 hby
     go_wp2
     refine bodyPost_ret (v:=.agg #[.int .i64 0,.int .i64 1,.string ⟨#[UInt8.ofNat v]⟩]) (by simp[results,Tryz.results81,go_sem,p0,p1,p2]) rfl ?_
     exact⟨rfl,by(show ah _ _ _ _ (Cf.setMem k qm) _);with_reducible exact HFin.out _ _ _⟩
 ·obtain⟨rfl,rfl,rfl⟩:=Cf.End.mk.inj he
  replace HT:=hid (show D=if Cf.inB z 1 100=false then Cf.ai k 2 else Cf.dB k n z.toNat from HT.out.trans (by simp))
  go_wp2_with fail
  refine(dY z 1 100 _).mono ?_
  rintro e w' ⟨rfl,rfl⟩
  cases hb:Cf.inB z 1 100
  ·obtain rfl:=HT.out.trans (if_pos hb)
   obtain⟨p0,p1,p2,f0,hl9⟩:=HR0.out.box
   have HFin:=hid HR0.out.fin
   clear HR0 HT HE0 HH HG HP HS HEC hb
   go_wp2
   refine bodyPost_ret (v:=.agg #[.int .i64 2,.int .i64 0,.string ⟨#[]⟩]) (by simp[results,Tryz.results81,go_sem,p0,p1,p2]) rfl ?_
   exact⟨rfl,by(show ah _ _ _ _ k _);with_reducible exact HFin.out _ _ _⟩
  obtain⟨m,rfl,hm1,hm2⟩:=AO hb
  replace HT:=hid (HT.out.trans (if_neg (by rw[hb];decide)))
  obtain⟨s,hs,hsp,hs20⟩:=oP HG.out.toPre hn
  have hn6:(n:Int)<6:=by omega
  clear hb he HEC
  have c3:=HR0.out.st.ptr.c3
  simp only[HG.out.pipesL]at c3
  have kl:=HR0.out.st.box.lt
  have s0:=HR0.out.st.s0 rfl hs
  have sl:=(HR0.out.st.Bs rfl hs).lt
  have HSs:=hid hs
  clear hs
  go_upto_region 8 with fail
  go_quiet (fail)
  have HR1:=hid (HR0.out.draw nq)
  have HE1:=hid (HE0.out.draw nq)
  clear HR0 HE0 c3 kl s0 sl x0 x1 x2 xl
  generalize w0.drewN nq=w1 at *
  have x1:w1.cell? ⟨w.heap.size+1,1,none⟩=some (.int .i64 n):=HE1.out.cell 1
  have xl:=HE1.out.lt
  have hK1:=HR1.out.st
  have c3:=hK1.ptr.c3
  simp only[HG.out.pipesL]at c3
  have kl:=hK1.box.lt
  by_cases h0:s=[]
  ·subst h0
   replace HT:=hid (show D=Cf.ai k (if Cf.hasB k.procs 3 n then 13 else 12) from HT.out.trans (by rw[Int.toNat_natCast];unfold Cf.dB;rw[hsp,if_pos rfl]))
   have c0:=hK1.ptr.c0
   have c1:=hK1.ptr.c1
   have c2:=hK1.ptr.c2
   have c4:=hK1.ptr.c4
   simp only[HG.out.nodesL,HG.out.memL,HG.out.procsL]at c1 c2 c4
   have HV:=hid (HH.out w1.drew (HR1.out.st.below (Below.refl _ _).drew) 3 n)
   clear hK1 HH hsp HSs
   generalize Cf.hasB k.procs 3 n=b at *
   go_upto_region 10 with fail
   go_cut [51] from 46 to 52 (fun v wx=>v = .bool b∧Below w1.heap.size w1 wx)
   case first=>
    go_region_with (go_at_call 76;(with_reducible refine HV.out.mono ?_);rintro e w2 ⟨rfl,hb2⟩)
    all_goals
     go_wp2_with fail
     go_meet
     exact⟨rfl,(Below.refl _ _).drew.trans hb2⟩
   case rest=>
    obtain⟨rfl,hb2⟩:=hcut
    have HR2:=hid (HR1.out.below hb2)
    clear HR1 HE1 HV c0 c1 c2 c3 c4 kl x1 xl hb2
    cases b
    ·obtain rfl:=HT.out.trans (by rw[if_neg (by decide)])
     obtain⟨p0,p1,p2,f0,hl9⟩:=HR2.out.box
     have HFin:=hid HR2.out.fin
     clear HR2 HT HG HP HS
     go_wp2
     refine bodyPost_ret (v:=.agg #[.int .i64 12,.int .i64 0,.string ⟨#[]⟩]) (by simp[results,Tryz.results81,go_sem,p0,p1,p2]) rfl ?_
     exact⟨rfl,by(show ah _ _ _ _ k _);with_reducible exact HFin.out _ _ _⟩
    ·obtain rfl:=HT.out.trans (by rw[if_pos rfl])
     obtain⟨p0,p1,p2,f0,hl9⟩:=HR2.out.box
     have HFin:=hid HR2.out.fin
     clear HR2 HT HG HP HS
     go_wp2
     refine bodyPost_ret (v:=.agg #[.int .i64 13,.int .i64 0,.string ⟨#[]⟩]) (by simp[results,Tryz.results81,go_sem,p0,p1,p2]) rfl ?_
     exact⟨rfl,by(show ah _ _ _ _ k _);with_reducible exact HFin.out _ _ _⟩
  have hsz:(⟨s.toArray⟩:ByteArray).size=s.length:=by simp[ByteArray.size]
  have hne:¬s.isEmpty=true:=by simpa using h0
  obtain⟨t,ht⟩:∃t,t=s.take m:=⟨_,rfl⟩
  have htl:t.length≤s.length:=by rw[ht,List.length_take];omega
  replace HT:=hid (show D=⟨⟨k.mods,k.mem,k.nodes,k.pipes.set n (s.drop t.length),k.procs⟩,⟨0,t.length,t⟩⟩ from HT.out.trans (by
   rw[Int.toNat_natCast,ht,List.length_take,vK];unfold Cf.dB;rw[hsp,if_neg h0];unfold Cf.xE;rw[List.length_take];rfl))
  have s1:=ku s t.length htl
  have hsz2:(⟨t.toArray⟩:ByteArray).size=t.length:=by simp[ByteArray.size]
  generalize s.drop t.length=d at *
  have s0:=hK1.s0 rfl HSs.out
  have sl:=(hK1.Bs rfl HSs.out).lt
  have sf:=(hK1.Bs rfl HSs.out).open_
  have HR2:=hid (HR1.out.put (hK1.putP rfl d HSs.out) (hK1.Bs rfl HSs.out).box (by decide))
  obtain rfl:=HT.out
  clear HR1 HE1 HT HH HG HP HS hsp h0 hK1 HSs htl
  by_cases hl:m<s.length
  all_goals
   first
    | (have s2:=gu s m (Nat.le_of_lt hl);rw[← ht]at s2;have hl':(m:Int)<(s.length:Int):=by omega)
    | (obtain rfl:t=s:=by rw[ht,List.take_of_length_le (by omega)]
       have hl':¬(m:Int)<(t.length:Int):=by omega)
   clear ht hl
   go_wp2_with fail
   go_region
   obtain⟨p0,p1,p2,f0,hl9⟩:=HR2.out.box
   have HFin:=hid HR2.out.fin
   clear HR2 c3 kl x1 xl s0 sl sf s1
   go_wp2
   refine bodyPost_ret (v:=.agg #[.int .i64 0,.int .i64 t.length,.string ⟨t.toArray⟩]) (by simp[results,Tryz.results81,go_sem,p0,p1,p2]) rfl ?_
   exact⟨rfl,by(show ah _ _ _ _ ⟨_,_,_,_,_⟩ _);with_reducible exact(HFin.out _ _ _).draw⟩
 ·obtain⟨rfl,rfl,rfl⟩:=Cf.End.mk.inj he
  obtain rfl:=HT.out.trans (if_pos rfl)
  obtain⟨p0,p1,p2,f0,hl9⟩:=HR0.out.box
  have HFin:=hid HR0.out.fin
  clear HR0 HT HE0 HH HG HP HS HEC
  go_wp2
  refine bodyPost_ret (v:=.agg #[.int .i64 3,.int .i64 0,.string ⟨#[]⟩]) (by simp[results,Tryz.results81,go_sem,p0,p1,p2]) rfl ?_
  exact⟨rfl,by(show ah _ _ _ _ k _);with_reducible exact HFin.out _ _ _⟩
end
section
open Go.RowKit
def Nj:Value→Nat
 | .string b=>b.size
 | _=>0
theorem wG{B:Nat}{wb:World}{g:Nat}{a:KA}{xs:List MV}{ps:List PV}(k:Cf.ag)(q i:Nat)(s:List UInt8)(w:World)(h:KSt B wb g a xs ps k w)(hG:Cf.Good k)(hq:q<4)(hi:i<6)(h0:(Cf.aH k q i).kind≠0)(hsl:s.length≤maxLen):
  Calls Tryz.prog 82 #[.pointer (some ⟨g,0,none⟩),.int .i64 q,.int .i64 i,.string ⟨s.toArray⟩] w (dF B wb g w (Cf.writeT k q i s)):=by
 obtain⟨A,ca,M,cm,N,cn,S,cs,Q,cq⟩:=a
 obtain⟨gQ,hgQ,_⟩:=h.own.procs.at_ (i:=0) (List.getElem?_eq_getElem (by rw[h.own.ends.1,hG.procsL];omega))
 obtain⟨gN,hgN,_⟩:=h.own.nodes.at_ (i:=0) (List.getElem?_eq_getElem (by rw[hG.nodesL];omega))
 obtain⟨gS,hgS,_⟩:=h.own.pipes.at_ (i:=0) (List.getElem?_eq_getElem (by rw[hG.pipesL];omega))
 simp only at hgQ hgN hgS
 subst hgQ hgN hgS
 obtain⟨gE,ce,lv,es,hP⟩:=h.pat hG.toPre hq rfl
 have hes:es[i]?=some (Cf.aH k q i):=by have:=hG.toPre.end_ hq hi;rwa [hP.is_]at this
 have HEC:=hid (oD hG hq hi h0)
 obtain⟨⟨ek,en,ep⟩,he⟩:∃e,e=Cf.aH k q i:=⟨_,rfl⟩
 rw[← he]at hes HEC
 have c4:=h.ptr.c4
 simp only[hG.procsL]at c4
 have kl:=h.box.lt
 have r1:=h.p1 hP
 have rl:=(h.Bp hP).lt
 have e0:w.cell? ⟨gE,i*3,none⟩=_:=(h.Be hP).cell hes (j:=0) rfl
 have e1:w.cell? ⟨gE,i*3+1,none⟩=_:=(h.Be hP).cell hes (j:=1) rfl
 have e2:w.cell? ⟨gE,i*3+2,none⟩=_:=(h.Be hP).cell hes (j:=2) rfl
 have el:=(h.Be hP).lt
 obtain⟨w0,hw0⟩:∃w0:World,w0=(w.alloc (.cells #[.int .i64 0,.int .i64 0,.string ⟨#[]⟩] au)).alloc (.cells #[.int .i64 ek,.int .i64 en,.int .i64 ep] fP):=⟨_,rfl⟩
 have HR0:=hid (RS.new (W:=w0) h (by rw[hw0];exact((Below.refl _ _).alloc (Nat.le_refl _) _).alloc (by simp) _) (Nat.le_refl _) (by rw[hw0];exact(Wb.new w au [.int .i64 0,.int .i64 0,.string ⟨#[]⟩]).alloc _))
 have HE0:=hid (show Wb w0 (w.heap.size+1) fP [.int .i64 ek,.int .i64 en,.int .i64 ep] by
  rw[hw0]
  have:=Wb.new (w.alloc (.cells #[.int .i64 0,.int .i64 0,.string ⟨#[]⟩] au)) fP [.int .i64 ek,.int .i64 en,.int .i64 ep]
  rwa [show(w.alloc (.cells #[.int .i64 0,.int .i64 0,.string ⟨#[]⟩] au)).heap.size=w.heap.size+1 by simp]at this)
 have Hw0:=hid hw0
 obtain⟨D,hD⟩:∃D,D=Cf.writeT k q i s:=⟨_,rfl⟩
 rw[← hD]
 have HT:=hid (show D=if ek=2 then Cf.ai k 3 else if Cf.inB s.length 1 100=false then Cf.ai k 2 else if ek=3 then Cf.dP k en.toNat s else if (Cf.nodeAt k en.toNat).kind=2 then Cf.dE k (Cf.nodeAt k en.toNat).unit.toNat s else Cf.dO k q i s ⟨ek,en,ep⟩ (Cf.nodeAt k en.toNat) by
  rw[hD];unfold Cf.writeT;rw[← he])
 have HH:=hid (fun W (hW:KSt B wb g ⟨A,ca,M,cm,some ⟨gN,0,none⟩,cn,some ⟨gS,0,none⟩,cs,some ⟨gQ,0,none⟩,cq⟩ xs ps k W) kd nd=>nV k _ kd nd W hW.ptr.2 (eu (by rw[hG.procsL];omega)) (fun p hp=>eu (by rw[hG.ends p hp];omega)))
 simp only[af,hG.nodesL,hG.pipesL,hG.procsL,hG.memL]at HH
 have HG:=hid hG
 have HP:=hid hP
 have HS:=hid hes
 clear h hG hP hes hw0 hD he h0
 go_enter Tryz.func82,Tryz.ntmps82
 go_upto_region 2 with fail
 rw[← Hw0.out]
 clear c4 kl r1 rl e0 e1 e2 el Hw0
 obtain⟨x0,x1,x2⟩:=(⟨HE0.out.cell 0,HE0.out.cell 1,HE0.out.cell 2⟩:w0.cell? ⟨w.heap.size+1,0,none⟩=some (.int .i64 ek)∧w0.cell? ⟨w.heap.size+1,1,none⟩=some (.int .i64 en)∧w0.cell? ⟨w.heap.size+1,2,none⟩=some (.int .i64 ep))
 have xl:=HE0.out.lt
 rcases HEC.out with ⟨n,po,f,hn,hpo,he,hfa,hfn,hfd,hfk⟩|⟨n,hn,he⟩|⟨n,hn,he⟩
 ·obtain⟨rfl,rfl,rfl⟩:=Cf.End.mk.inj he
  replace HT:=hid (show D=if Cf.inB s.length 1 100=false then Cf.ai k 2 else if f.kind=2 then Cf.dE k f.unit.toNat s else Cf.dO k q i s ⟨1,n,po⟩ f from HT.out.trans (by simp[hfa]))
  have hsz:(⟨s.toArray⟩:ByteArray).size=s.length:=by simp[ByteArray.size]
  unfold maxLen at hsl
  go_wp2_with fail
  refine(dY s.length 1 100 _).mono ?_
  rintro e w' ⟨rfl,rfl⟩
  cases hb:Cf.inB s.length 1 100
  ·obtain rfl:=HT.out.trans (if_pos hb)
   obtain⟨p0,p1,p2,f0,hl9⟩:=HR0.out.box
   have HFin:=hid HR0.out.fin
   clear HR0 HT HE0 HH HG HP HS HEC hb
   go_wp2
   refine bodyPost_ret (v:=.agg #[.int .i64 2,.int .i64 0,.string ⟨#[]⟩]) (by simp[results,Tryz.results82,go_sem,p0,p1,p2]) rfl ?_
   exact⟨rfl,by(show ah _ _ _ _ k _);with_reducible exact HFin.out _ _ _⟩
  replace HT:=hid (HT.out.trans (if_neg (by rw[hb];decide)))
  have hs1:1≤s.length∧s.length≤100:=by simp[Cf.inB]at hb;omega
  obtain⟨hs1,hs2⟩:=hs1
  clear hb he HEC hsl
  obtain⟨nm,fk,fd,fu⟩:=f
  dsimp only at hfd hfk HT
  have hn8:(n:Int)<8:=by omega
  clear hfa HH
  have c2:=HR0.out.st.ptr.c2
  simp only[HG.out.nodesL]at c2
  have kl:=HR0.out.st.box.lt
  have hBn:=HR0.out.st.Bn rfl hfn
  have n0:w0.cell? ⟨gN,n*4,none⟩=_:=hBn.cell hfn (j:=0) rfl
  have n1:w0.cell? ⟨gN,n*4+1,none⟩=_:=hBn.cell hfn (j:=1) rfl
  have n2:w0.cell? ⟨gN,n*4+2,none⟩=_:=hBn.cell hfn (j:=2) rfl
  have n3:w0.cell? ⟨gN,n*4+3,none⟩=_:=hBn.cell hfn (j:=3) rfl
  have nl:=hBn.lt
  have HNn:=hid hfn
  clear hBn hfn
  go_upto_region 16 with fail
  go_cut [11] from 88 to 96 (fun v wx=>∃bn,v = .pointer (some ⟨bn,0,none⟩)∧Wb wx bn bu [.string ⟨nm.toArray⟩,.int .i64 fk,.string ⟨fd.toArray⟩,.int .i64 fu]∧w0.heap.size≤bn∧Below w0.heap.size w0 wx)
  case first=>
   go_region
   go_wp2_with fail
   go_meet
   exact⟨_,rfl,(Wb.new w0 bu [.string ⟨nm.toArray⟩,.int .i64 fk,.string ⟨fd.toArray⟩,.int .i64 fu]).draw 1,Nat.le_refl _,((Below.refl _ _).alloc (Nat.le_refl _) _).drew⟩
  case rest=>
   obtain⟨bn,rfl,hN,hbn,hb1⟩:=hcut
   have HR1:=hid (HR0.out.below hb1)
   have HE1:=hid (HE0.out.below hb1 HE0.out.lt)
   have hbg:bn≠g:=by have:=HR0.out.st.box.lt;omega
   clear HR0 HE0 c2 kl n0 n1 n2 n3 nl x0 x1 x2 xl hb1 hbn
   have y1:=hN.cell 1
   have y2:=hN.cell 2
   have y3:=hN.cell 3
   simp only[gq]at y1 y2 y3
   have yl:=hN.lt
   have HN:=hid hN
   clear hN
   rcases hfk with rfl|⟨rfl,u,rfl,hu⟩
   ·replace HT:=hid (show D=Cf.dO k q i s ⟨1,n,po⟩ ⟨nm,1,fd,fu⟩ from HT.out.trans (by rw[if_neg (by decide)]))
    have x2:=HE1.out.cell 2
    simp only[gq]at x2
    have xl:=HE1.out.lt
    obtain⟨r,hr⟩:∃r:Nat,po+r=100:=⟨100-po,by omega⟩
    by_cases hr0:r=0
    ·obtain rfl:=HT.out.trans (if_pos (by rw[Int.toNat_natCast,show 100-po=0 by omega];rfl))
     have h0':(100:Int)≤(po:Int):=by omega
     clear HN hr hr0
     obtain⟨p0,p1,p2,f0,hl9⟩:=HR1.out.box
     have HFin:=hid HR1.out.fin
     clear HR1 HT HE1 HG HP HS HNn
     go_wp2
     refine bodyPost_ret (v:=.agg #[.int .i64 8,.int .i64 0,.string ⟨#[]⟩]) (by simp[results,Tryz.results82,go_sem,p0,p1,p2]) rfl ?_
     exact⟨rfl,by(show ah _ _ _ _ k _);with_reducible exact HFin.out _ _ _⟩
    have h0':¬(100:Int)≤(po:Int):=by omega
    obtain⟨t,ht⟩:∃t,t=s.take r:=⟨_,rfl⟩
    have htl:t.length≤100:=by rw[ht,List.length_take];omega
    replace HT:=hid (show D=⟨⟨k.mods,k.mem,k.nodes.set n ⟨nm,1,Cf.kT fd t po,fu⟩,k.pipes,k.procs.set q ⟨lv,es.set i ⟨1,n,(po:Int)+t.length⟩⟩⟩,⟨0,t.length,[]⟩⟩ from HT.out.trans (by
     rw[ht];unfold Cf.dO Cf.setEnd Cf.setNode Cf.setProc;simp only[Int.toNat_natCast,show 100-po=r by omega]
     rw[if_neg (fun h=>hr0 (by have:=congrArg List.length h;rw[List.length_take,List.length_nil]at this;omega))]
     have:=HP.out.is_
     unfold Cf.aN at this ⊢
     simp only[this]))
    have htz:(⟨t.toArray⟩:ByteArray).size=t.length:=by simp[ByteArray.size]
    by_cases hl:r<s.length
    all_goals
     first
      | (have s2:=gu s r (Nat.le_of_lt hl);rw[← ht,show(r:Int)=100-(po:Int) by omega]at s2;have hl':(100:Int)-(po:Int)<(s.length:Int):=by omega)
      | (obtain rfl:t=s:=by rw[ht,List.take_of_length_le (by omega)]
         have hl':¬(100:Int)-(po:Int)<(t.length:Int):=by omega)
     clear ht hl hr hr0
     go_wp2_with fail
     clear y1 y2 y3 yl HN hl' h0'
     go_loopw [15] (fun v wr=>∃j:Nat,v = .string ⟨(fd++List.replicate j 0).toArray⟩∧j≤po-fd.length∧wc=wr) (fun v _=>po-Nj v)
     case atStart=>exact⟨0,by simp,by omega,rfl⟩
     case round=>
      obtain⟨j,rfl,hj,rfl⟩:=hrel
      obtain⟨dd,hdd⟩:∃dd,dd=fd++List.replicate j 0:=⟨_,rfl⟩
      rw[← hdd]
      have hdl:dd.length=fd.length+j:=by rw[hdd];simp
      have hdz:(⟨dd.toArray⟩:ByteArray).size=dd.length:=by simp[ByteArray.size]
      by_cases hlt:dd.length<po
      ·have hlt':(dd.length:Int)<(po:Int):=by omega
       have hadd:=ry dd [0] (by simp;omega)
       have Hdd:=hid hdd
       clear hdd HT
       go_wp2
       go_roundw
       case rel=>exact⟨j+1,by rw[Hdd.out,List.replicate_succ',List.append_assoc],by omega,by trivial⟩
       case measure=>simp[Nj,ByteArray.size];omega
      ·have hlt':¬(dd.length:Int)<(po:Int):=by omega
       have hov:=Cf.GU fd t po
       rw[show List.replicate (po-fd.length) (0:UInt8)=List.replicate j 0 by rw[show po-fd.length=j by omega],← hdd]at hov
       have hd2:dd.length≤200:=by omega
       obtain⟨rs,hrs⟩:∃rs,rs=if po+t.length<dd.length then dd.drop (po+t.length) else[]:=⟨_,rfl⟩
       rw[← hrs]at hov
       rw[hov]at HT
       have s3:=gu dd po (by omega)
       have hrl:rs.length≤200:=by rw[hrs];split<;>simp<;>omega
       have hpl:(dd.take po).length≤200:=by rw[List.length_take];omega
       have add1:=ry (dd.take po) t (by omega)
       have NM:=ry (dd.take po++t) rs (by rw[List.length_append];omega)
       generalize dd.take po++t++rs=X at *
       clear hdd hj hlt hov
       have hK1:=HR1.out.st
       have c2:=hK1.ptr.c2
       simp only[HG.out.nodesL]at c2
       have kl:=hK1.box.lt
       have n2:wc.cell? ⟨gN,n*4+2,none⟩=_:=(hK1.Bn rfl HNn.out).cell HNn.out (j:=2) rfl
       have nl:=(hK1.Bn rfl HNn.out).lt
       have nf:=(hK1.Bn rfl HNn.out).open_
       have x1:=HE1.out.cell 1
       simp only[gq]at x1
       obtain⟨w2,hw2⟩:∃w2,w2=(wc.setCell ⟨gN,n*4+2,none⟩ (.string ⟨X.toArray⟩)).drew:=⟨_,rfl⟩
       have HR2:=hid (show RS B wb g w w.heap.size _ xs ps ⟨k.mods,k.mem,k.nodes.set n ⟨nm,1,X,fu⟩,k.pipes,k.procs⟩ w2 by rw[hw2];exact(HR1.out.put (hK1.putN rfl (j:=2) (x':=⟨nm,1,X,fu⟩) (u:=.string ⟨X.toArray⟩) HNn.out (by omega) rfl) (hK1.Bn rfl HNn.out).box (by decide)).draw 1)
       have HE2:=hid (show Wb w2 (w.heap.size+1) fP [.int .i64 1,.int .i64 n,.int .i64 po] by
        rw[hw2];obtain⟨_,hq⟩:=(hK1.Bn rfl HNn.out).box;exact(HE1.out.off_ (p:=⟨gN,n*4+2,none⟩) (HE1.out.other hq (by decide)) _).draw 1)
       have Hw2:=hid hw2
       clear hK1 hw2 HE1 HR1
       by_cases h3:po+t.length<dd.length
       all_goals
        first
         | (rw[if_pos h3]at hrs;have s4:=ku dd (po+t.length) (by omega);rw[← hrs,Int.natCast_add]at s4;clear hrs;have h3':(po:Int)+(t.length:Int)<(dd.length:Int):=by omega)
         | (rw[if_neg h3]at hrs;subst hrs;have h3':¬(po:Int)+(t.length:Int)<(dd.length:Int):=by omega)
        clear h3
        go_wp2_with fail
        go_region
        rw[← Hw2.out]
        clear Hw2 s3 c2 kl n2 nl nf x1 x2 xl add1 NM h3'
        have hK2:=HR2.out.st
        have hP2:=HP.out.node (k.nodes.set n ⟨nm,1,X,fu⟩)
        have c4:=hK2.ptr.c4
        simp only[HG.out.procsL]at c4
        have kl:=hK2.box.lt
        have r1:=hK2.p1 hP2
        have rl:=(hK2.Bp hP2).lt
        have e2:w2.cell? ⟨gE,i*3+2,none⟩=_:=(hK2.Be hP2).cell HS.out (j:=2) rfl
        have el:=(hK2.Be hP2).lt
        have ef:=(hK2.Be hP2).open_
        have x2:=HE2.out.cell 2
        simp only[gq]at x2
        have xl:=HE2.out.lt
        have HR3:=hid (HR2.out.put (hK2.putE hP2.pv hP2.proc rfl (i:=i) (j:=2) (e':=⟨1,n,(po:Int)+t.length⟩) (u:=.int .i64 ((po:Int)+t.length)) HS.out (by omega) rfl) (hK2.box2 hP2) (by decide))
        obtain rfl:=HT.out
        clear HR2 HE2 HT HG HP HS HNn hK2 hP2
        go_wp2_with fail
        go_region
        obtain⟨p0,p1,p2,f0,hl9⟩:=HR3.out.box
        have HFin:=hid HR3.out.fin
        clear HR3 c4 kl x2 xl r1 rl e2 el ef
        go_wp2
        refine bodyPost_ret (v:=.agg #[.int .i64 0,.int .i64 t.length,.string ⟨#[]⟩]) (by simp[results,Tryz.results82,go_sem,p0,p1,p2]) rfl ?_
        exact⟨rfl,by(show ah _ _ _ _ ⟨_,_,_,_,_⟩ _);with_reducible exact(HFin.out _ _ _).draw⟩
   ·replace HT:=hid (show D=Cf.dE k u s from HT.out.trans (by rw[if_pos rfl,Int.toNat_natCast]))
    have HA:=hid (fun(m:List Int) (hg:Cf.Good (Cf.setMem k m)) (a:KA) (xs:List MV) (ps:List PV) W (hW:KSt B wb g a xs ps (Cf.setMem k m) W) (b:UInt8)=>qW (Cf.setMem k m) u b.toNat W hW hg hu (by have:=b.toNat_lt;omega))
    have HF0:=hid (Fed.start HG.out u s)
    clear HE1 HG HP HS HNn y2 y3
    go_wp2
    clear y1 yl
    go_loopw [12] (fun v wr=>∃(j:Nat) (m:List Int) (a1:KA) (xs1:List MV) (ps1:List PV),j≤s.length∧v = .int .i64 j∧Fed k u s j m∧RS B wb g w w.heap.size a1 xs1 ps1 (Cf.setMem k m) wr∧Wb wr bn bu [.string ⟨nm.toArray⟩,.int .i64 2,.string ⟨fd.toArray⟩,.int .i64 u]) (fun v _=>s.length-(intOf v).toNat)
    case atStart=>exact⟨0,k.mem,_,_,_,by omega,rfl,HF0.out,HR1.out,HN.out⟩
    case round=>
     obtain⟨j,m,a1,xs1,ps1,hj,rfl,hF,hR,hN⟩:=hrel
     clear HF0 HR1 HN
     have HF:=hid hF
     have HR:=hid hR
     have HN:=hid hN
     have y3:=hN.cell 3
     simp only[gq]at y3
     have yl:=hN.lt
     clear hF hR hN
     by_cases hlt:j<s.length
     ·obtain⟨b,hb⟩:∃b,s[j]?=some b:=⟨_,List.getElem?_eq_getElem hlt⟩
      have hix:=lY s j b hb
      have hbt:=b.toNat_lt
      have HA1:=hid (HA.out m HF.out.1 a1 xs1 ps1 wr.drew (HR.out.st.below (Below.refl _ _).drew) b)
      have HN2:=hid (fun h=>HF.out.next hb h)
      have HS:=hid (fun h=>HF.out.stop hb h)
      have HSm:=hid (fun h=>zY (k:=Cf.setMem k m) (u:=u) (x:=b.toNat) h)
      clear hb
      generalize Cf.fK (Cf.setMem k m) u b.toNat=qa at *
      rw[← wrap_small (b.toNat:Int) (by omega) (by omega)]at HA1
      obtain⟨qm,qw,qo⟩:=qa
      go_upto_region 21 with fail
      go_cut [13,14] from 105 to 116 (fun _ v wx=>v = .bool qo∧(∃a2 xs2 ps2,RS B wb g w w.heap.size a2 xs2 ps2 (Cf.setMem (Cf.setMem k m) qm) wx)∧Wb wx bn bu [.string ⟨nm.toArray⟩,.int .i64 2,.string ⟨fd.toArray⟩,.int .i64 u])
      case first=>
       go_region_with (go_at_call 119;(with_reducible refine HA1.out.mono ?_);rintro e w2 ⟨rfl,⟨a2,xs2,ps2,hK2⟩,hg2⟩)
       all_goals
        go_wp2_with fail
        go_meet
        exact⟨rfl,⟨_,_,_,(HR.out.draw 1).asked hK2 hg2⟩,hg2.wb (HN.out.draw 1) hbg⟩
      case rest=>
       obtain⟨rfl,⟨a2,xs2,ps2,hR2⟩,hN⟩:=hcut
       have HR2:=hid hR2
       have HN3:=hid hN
       clear hR2 hN HA1 HR HN y3 yl hix hbt
       cases qo
       ·replace HT:=hid (HT.out.trans (HS.out rfl))
        have HR3:=hid (show RS B wb g w w.heap.size a2 xs2 ps2 (Cf.setMem k m) wc by have h2:=HR2.out;rw[HSm.out rfl]at h2;exact h2)
        have HM:=hid HF.out.2.2.2
        clear HN2 HS HSm HR2 HF HA HN3
        by_cases h0:j=0
        ·subst h0
         obtain rfl:=HT.out.trans (if_pos rfl)
         have HR4:=hid (show RS B wb g w w.heap.size a2 xs2 ps2 k wc by have h2:=HR3.out;rw[HM.out rfl]at h2;exact h2)
         rw[show((0:Nat):Int)=0 from rfl]
         obtain⟨p0,p1,p2,f0,hl9⟩:=HR4.out.box
         have HFin:=hid HR4.out.fin
         clear HR4 HT HM HR3
         go_wp2
         refine bodyPost_ret (v:=.agg #[.int .i64 14,.int .i64 0,.string ⟨#[]⟩]) (by simp[results,Tryz.results82,go_sem,p0,p1,p2]) rfl ?_
         exact⟨rfl,by(show ah _ _ _ _ k _);with_reducible exact HFin.out _ _ _⟩
        ·obtain rfl:=HT.out.trans (if_neg h0)
         have hjb:((j:Int) == 0)=false:=by rw[beq_eq_false_iff_ne];omega
         obtain⟨p0,p1,p2,f0,hl9⟩:=HR3.out.box
         have HFin:=hid HR3.out.fin
         clear HR3 HT HM
         go_wp2
         refine bodyPost_ret (v:=.agg #[.int .i64 0,.int .i64 j,.string ⟨#[]⟩]) (by simp[results,Tryz.results82,go_sem,p0,p1,p2]) rfl ?_
         exact⟨rfl,by(show ah _ _ _ _ (Cf.setMem k m) _);with_reducible exact HFin.out _ _ _⟩
       ·have HF2:=hid (HN2.out rfl)
        clear HN2 HS HSm HF HA HT
        go_wp2
        go_roundw
        case rel=>exact⟨j+1,qm,_,_,_,by omega,by go_num,HF2.out,HR2.out,HN3.out⟩
        case measure=>simp[intOf];omega
     ·obtain rfl:j=s.length:=by omega
      obtain rfl:=HT.out.trans (HF.out.done.trans (if_neg (by omega)))
      clear HN y3 yl hlt
      obtain⟨p0,p1,p2,f0,hl9⟩:=HR.out.box
      have HFin:=hid HR.out.fin
      clear HR HT HF HA
      go_wp2
      refine bodyPost_ret (v:=.agg #[.int .i64 0,.int .i64 s.length,.string ⟨#[]⟩]) (by simp[results,Tryz.results82,go_sem,p0,p1,p2]) rfl ?_
      exact⟨rfl,by(show ah _ _ _ _ (Cf.setMem k m) _);with_reducible exact HFin.out _ _ _⟩
 ·obtain⟨rfl,rfl,rfl⟩:=Cf.End.mk.inj he
  obtain rfl:=HT.out.trans (if_pos rfl)
  obtain⟨p0,p1,p2,f0,hl9⟩:=HR0.out.box
  have HFin:=hid HR0.out.fin
  clear HR0 HT HE0 HH HG HP HS HEC
  go_wp2
  refine bodyPost_ret (v:=.agg #[.int .i64 3,.int .i64 0,.string ⟨#[]⟩]) (by simp[results,Tryz.results82,go_sem,p0,p1,p2]) rfl ?_
  exact⟨rfl,by(show ah _ _ _ _ k _);with_reducible exact HFin.out _ _ _⟩
 ·obtain⟨rfl,rfl,rfl⟩:=Cf.End.mk.inj he
  replace HT:=hid (show D=if Cf.inB s.length 1 100=false then Cf.ai k 2 else Cf.dP k n s from HT.out.trans (by simp))
  have hsz:(⟨s.toArray⟩:ByteArray).size=s.length:=by simp[ByteArray.size]
  unfold maxLen at hsl
  go_wp2_with fail
  refine(dY s.length 1 100 _).mono ?_
  rintro e w' ⟨rfl,rfl⟩
  cases hb:Cf.inB s.length 1 100
  ·obtain rfl:=HT.out.trans (if_pos hb)
   obtain⟨p0,p1,p2,f0,hl9⟩:=HR0.out.box
   have HFin:=hid HR0.out.fin
   clear HR0 HT HE0 HH HG HP HS HEC hb
   go_wp2
   refine bodyPost_ret (v:=.agg #[.int .i64 2,.int .i64 0,.string ⟨#[]⟩]) (by simp[results,Tryz.results82,go_sem,p0,p1,p2]) rfl ?_
   exact⟨rfl,by(show ah _ _ _ _ k _);with_reducible exact HFin.out _ _ _⟩
  replace HT:=hid (HT.out.trans (if_neg (by rw[hb];decide)))
  have hs1:1≤s.length∧s.length≤100:=by simp[Cf.inB]at hb;omega
  obtain⟨hs1,hs2⟩:=hs1
  clear hb he HEC hsl
  obtain⟨p,hp,hpp,hp20⟩:=oP HG.out.toPre hn
  have hn6:(n:Int)<6:=by omega
  have c3:=HR0.out.st.ptr.c3
  simp only[HG.out.pipesL]at c3
  have kl:=HR0.out.st.box.lt
  have s0:=HR0.out.st.s0 rfl hp
  have sl:=(HR0.out.st.Bs rfl hp).lt
  have hpz:(⟨p.toArray⟩:ByteArray).size=p.length:=by simp[ByteArray.size]
  have HSs:=hid hp
  clear hp
  go_upto_region 7 with fail
  go_quiet (fail)
  obtain⟨r,hr⟩:∃r:Nat,p.length+r=20:=⟨20-p.length,by omega⟩
  have HR1:=hid (HR0.out.draw nq)
  have HE1:=hid (HE0.out.draw nq)
  clear HR0 HE0 c3 kl s0 sl x0 x1 x2 xl
  generalize w0.drewN nq=w1 at *
  rw[show(20:Int)-(p.length:Int)=(r:Int) by omega]
  replace HT:=hid (show D=if Cf.hasB k.procs 2 n=false then Cf.ai k 12 else if s.take r=[] then Cf.ai k 13 else⟨⟨k.mods,k.mem,k.nodes,k.pipes.set n (p++s.take r),k.procs⟩,⟨0,(s.take r).length,[]⟩⟩ from HT.out.trans (by
   unfold Cf.dP;rw[hpp,show 20-p.length=r by omega];rfl))
  have x1:w1.cell? ⟨w.heap.size+1,1,none⟩=some (.int .i64 n):=HE1.out.cell 1
  have xl:=HE1.out.lt
  have hK1:=HR1.out.st
  have c0:=hK1.ptr.c0
  have c1:=hK1.ptr.c1
  have c2:=hK1.ptr.c2
  have c3:=hK1.ptr.c3
  have c4:=hK1.ptr.c4
  simp only[HG.out.nodesL,HG.out.memL,HG.out.pipesL,HG.out.procsL]at c1 c2 c3 c4
  have kl:=hK1.box.lt
  have HV:=hid (HH.out w1.drew (HR1.out.st.below (Below.refl _ _).drew) 2 n)
  clear hK1 HH hpp
  generalize Cf.hasB k.procs 2 n=b at *
  go_upto_region 8 with fail
  go_cut [56] from 50 to 57 (fun v wx=>v = .bool (!b)∧Below w1.heap.size w1 wx)
  case first=>
   go_region_with (go_at_call 76;(with_reducible refine HV.out.mono ?_);rintro e w2 ⟨rfl,hb2⟩)
   all_goals
    go_wp2_with fail
    go_meet
    exact⟨rfl,(Below.refl _ _).drew.trans hb2⟩
  case rest=>
   obtain⟨rfl,hb2⟩:=hcut
   have HR2:=hid (HR1.out.below hb2)
   have HE2:=hid (HE1.out.below hb2 HE1.out.lt)
   clear HR1 HE1 HV c0 c1 c2 c3 c4 kl x1 xl hb2
   cases b
   ·obtain rfl:=HT.out.trans (if_pos rfl)
    obtain⟨p0,p1,p2,f0,hl9⟩:=HR2.out.box
    have HFin:=hid HR2.out.fin
    clear HR2 HT HE2 HG HP HS
    go_wp2
    refine bodyPost_ret (v:=.agg #[.int .i64 12,.int .i64 0,.string ⟨#[]⟩]) (by simp[results,Tryz.results82,go_sem,p0,p1,p2]) rfl ?_
    exact⟨rfl,by(show ah _ _ _ _ k _);with_reducible exact HFin.out _ _ _⟩
   replace HT:=hid (HT.out.trans (if_neg (by decide)))
   by_cases hr0:r=0
   ·obtain rfl:=HT.out.trans (if_pos (by rw[hr0];rfl))
    subst hr0
    rw[show((0:Nat):Int)=0 from rfl]
    obtain⟨p0,p1,p2,f0,hl9⟩:=HR2.out.box
    have HFin:=hid HR2.out.fin
    clear HR2 HT HE2 HG HP HS
    go_wp2
    refine bodyPost_ret (v:=.agg #[.int .i64 13,.int .i64 0,.string ⟨#[]⟩]) (by simp[results,Tryz.results82,go_sem,p0,p1,p2]) rfl ?_
    exact⟨rfl,by(show ah _ _ _ _ k _);with_reducible exact HFin.out _ _ _⟩
   replace HT:=hid (HT.out.trans (if_neg (fun h=>hr0 (by have:=congrArg List.length h;rw[List.length_take,List.length_nil]at this;omega))))
   have hrb:((r:Int) == 0)=false:=by rw[beq_eq_false_iff_ne];omega
   obtain⟨t,ht⟩:∃t,t=s.take r:=⟨_,rfl⟩
   rw[← ht]at HT
   have htz:(⟨t.toArray⟩:ByteArray).size=t.length:=by simp[ByteArray.size]
   have htl:t.length≤100:=by rw[ht,List.length_take];omega
   have hadd:=ry p t (by omega)
   generalize p++t=d at *
   have hK2:=HR2.out.st
   have x1:=HE2.out.cell 1
   simp only[gq]at x1
   have xl:=HE2.out.lt
   have c3:=hK2.ptr.c3
   simp only[HG.out.pipesL]at c3
   have kl:=hK2.box.lt
   have s0:=hK2.s0 rfl HSs.out
   have sl:=(hK2.Bs rfl HSs.out).lt
   have sf:=(hK2.Bs rfl HSs.out).open_
   have HR3:=hid (HR2.out.put (hK2.putP rfl d HSs.out) (hK2.Bs rfl HSs.out).box (by decide))
   obtain rfl:=HT.out
   clear HR2 HE2 HT HG HP HS hK2 HSs
   by_cases hl:r<s.length
   all_goals
    first
     | (have s2:=gu s r (Nat.le_of_lt hl);rw[← ht]at s2;have hl':(r:Int)<(s.length:Int):=by omega)
     | (obtain rfl:t=s:=by rw[ht,List.take_of_length_le (by omega)]
        have hl':¬(r:Int)<(t.length:Int):=by omega)
    clear ht hl
    go_wp2_with fail
    go_region
    obtain⟨p0,p1,p2,f0,hl9⟩:=HR3.out.box
    have HFin:=hid HR3.out.fin
    clear HR3 c3 kl x1 xl s0 sl sf hadd
    go_wp2
    refine bodyPost_ret (v:=.agg #[.int .i64 0,.int .i64 t.length,.string ⟨#[]⟩]) (by simp[results,Tryz.results82,go_sem,p0,p1,p2]) rfl ?_
    exact⟨rfl,by(show ah _ _ _ _ ⟨_,_,_,_,_⟩ _);with_reducible exact(HFin.out _ _ _).draw⟩
end
end Go.Proofs.YtnnhhbjbdmgpiaaGreatDoor
