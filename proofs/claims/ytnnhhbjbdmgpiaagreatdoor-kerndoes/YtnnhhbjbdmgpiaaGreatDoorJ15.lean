/- Texts of the proofs: CpuN. -/
import Derived.Test.YtnnhhbjbdmgpiaaGreatDoorJ14
set_option linter.unusedSimpArgs false
set_option linter.unusedVariables false
namespace Go.Proofs.YtnnhhbjbdmgpiaaGreatDoor
set_option maxRecDepth 100000
set_option maxHeartbeats 4000000
open Lib (hid)
section
open Go.RowKit
set_option maxHeartbeats 40000000 in
theorem Dy(l:List Cf.Ins)(A:Option Addr)(cl:Nat)(r0 r1 r2 r3 r4 r5 r6 r7:Int)(mem:List Int)(M:Option Addr)(cm:Nat)(fuel:Int)(w:World)
  (hC:bP w A l) (hl:l.length≤maxLen) (hI:Ints w M mem) (hm:mem.length≤maxLen) (hf:Cf.fault l=0) (hml:¬1024<mem.length) (hIn:Cf.inB fuel 0 20000=true) (hr:[r0,r1,r2,r3,r4,r5,r6,r7].all Cf.aV=true) (hma:mem.all Cf.aV=true):
  Calls Tryz.prog 151 #[.slice A l.length cl,.agg #[.int .i64 r0,.int .i64 r1,.int .i64 r2,.int .i64 r3,.int .i64 r4,.int .i64 r5,.int .i64 r6,.int .i64 r7],.slice M mem.length cm,.int .i64 fuel] w
   (nP (Cf.runT l [r0,r1,r2,r3,r4,r5,r6,r7] mem fuel) w):=by
 have hm':=hm
 unfold maxLen at hm'
 obtain⟨w2,hw2⟩:∃w2:World,w2=(w.alloc (.cells #[.int .i64 r0,.int .i64 r1,.int .i64 r2,.int .i64 r3,.int .i64 r4,.int .i64 r5,.int .i64 r6,.int .i64 r7] 171)).alloc (.cells #[.int .i64 0,.int .i64 0,.int .i64 0,.int .i64 0,.int .i64 0,.int .i64 0,.int .i64 0,.int .i64 0,.int .i64 0,.slice none 0 0,.slice none 0 0] 175):=⟨_,rfl⟩
 have hz2:w2.heap.size=w.heap.size+2:=by rw[hw2];simp
 have hb2:Below w.heap.size w w2:=by rw[hw2];exact((Below.refl _ _).alloc (Nat.le_refl _) _).alloc (by simp) _
 have k5:Wb w2 w.heap.size 171 [.int .i64 r0,.int .i64 r1,.int .i64 r2,.int .i64 r3,.int .i64 r4,.int .i64 r5,.int .i64 r6,.int .i64 r7]:=by rw[hw2];exact(Wb.new w _ [_,_,_,_,_,_,_,_]).alloc _
 have k8:Wb w2 (w.heap.size+1) 175 [.int .i64 0,.int .i64 0,.int .i64 0,.int .i64 0,.int .i64 0,.int .i64 0,.int .i64 0,.int .i64 0,.int .i64 0,.slice none 0 0,.slice none 0 0]:=by
  rw[hw2]
  have:=Wb.new (w.alloc (.cells #[.int .i64 r0,.int .i64 r1,.int .i64 r2,.int .i64 r3,.int .i64 r4,.int .i64 r5,.int .i64 r6,.int .i64 r7] 171)) 175 [.int .i64 0,.int .i64 0,.int .i64 0,.int .i64 0,.int .i64 0,.int .i64 0,.int .i64 0,.int .i64 0,.int .i64 0,.slice none 0 0,.slice none 0 0]
  simpa using this
 have Hw2:=hid hw2
 have Hz2:=hid hz2
 have HCk:=hid (lS l A cl w2 (hC.below hb2) hl)
 have he:Cf.jA l [r0,r1,r2,r3,r4,r5,r6,r7] mem fuel=0:=by unfold Cf.jA;rw[if_pos hf,if_pos (by omega),hIn,hr,hma];rfl
 obtain⟨_,_,hfu,hrw,hmw,hrun⟩:=oH l _ mem fuel he
 have HR:=hid hrun
 obtain⟨f0,hf0⟩:=Int.eq_ofNat_of_zero_le hfu.1
 subst hf0
 have hrl:=Cf.gU l hf
 rw[hf]at HCk
 obtain⟨i0,hi,hz0,hz1,hzb⟩:=info_parts uq
 have Hi:=hid hi
 have Hz0:=hid hz0
 have Hz1:=hid hz1
 have Hzb:=hid hzb
 have Hrw:=hid hrw
 have Hmw:=hid hmw
 have Hf:=hid hf
 have Hr:=hid hr
 have Hma:=hid hma
 clear hw2 hz2 hi hz0 hz1 hzb hrw hmw hf hr hma hrun he
 go_enter Tryz.func151,Tryz.ntmps151
 go_wp2_with fail
 rw[← Hw2.out]
 refine HCk.out.mono ?_
 rintro e w3 ⟨rfl,hb3⟩
 have hb4:=hb2.trans (hb3.mono hb2.size)
 have hz3:w.heap.size+2≤w3.heap.size:=by have:=hb3.size;rw[Hz2.out]at this;exact this
 have k5':=k5.below hb3 (by rw[Hz2.out];omega)
 have HA8:=hid (iP [r0,r1,r2,r3,r4,r5,r6,r7] (some ⟨w.heap.size,0,none⟩) 8 w3 (Wb.ints (l:=[r0,r1,r2,r3,r4,r5,r6,r7]) k5') (by unfold maxLen;simp))
 have HAm:=hid (iP mem M cm w3 (hI.below hb4) hm)
 rw[Hr.out]at HA8
 rw[Hma.out]at HAm
 have HI:=hid (hI.below hb4)
 have HK5:=hid k5'
 clear HCk
 go_wp2_with fail
 refine(dY _ 0 20000 _).mono ?_
 rintro e w' ⟨rfl,rfl⟩
 rw[hIn]
 go_wp2_with fail
 refine HA8.out.mono ?_
 rintro e w' ⟨rfl,rfl⟩
 go_wp2_with fail
 refine HAm.out.mono ?_
 rintro e w' ⟨rfl,rfl⟩
 clear HA8 HAm
 have q0:=k5'.cell 0
 have q1:=k5'.cell 1
 have q2:=k5'.cell 2
 have q3:=k5'.cell 3
 have q4:=k5'.cell 4
 have q5:=k5'.cell 5
 have q6:=k5'.cell 6
 have q7:=k5'.cell 7
 simp only[gq]at q0 q1 q2 q3 q4 q5 q6 q7
 clear k5' k5
 go_upto_region 8 with fail
 go_cut [11] from 47 to 50 (fun x wx=>CS w2 [r0,r1,r2,r3,r4,r5,r6,r7] mem x wx)
 case first=>
  have HB3:=hid hb3.size
  have hn3:w3.heap.size≠w.heap.size:=by omega
  have HBa:=hid (show Below w3.heap.size w3 w3.drew from(Below.refl _ _).drew)
  have HBb:=hid (show Below w3.heap.size w3 (w3.alloc Lp).drew from((Below.refl _ _).alloc (Nat.le_refl _) _).drew)
  have HMb:=hid (show Wb (w3.alloc Lp).drew w3.heap.size 175 EF from Wb.new w3 175 EF)
  have HWa:=hid (show Wb w3.drew w.heap.size 171 [.int .i64 r0,.int .i64 r1,.int .i64 r2,.int .i64 r3,.int .i64 r4,.int .i64 r5,.int .i64 r6,.int .i64 r7] from HK5.out)
  have HWb:=hid (show Wb (w3.alloc Lp).drew w.heap.size 171 [.int .i64 r0,.int .i64 r1,.int .i64 r2,.int .i64 r3,.int .i64 r4,.int .i64 r5,.int .i64 r6,.int .i64 r7] from HK5.out.alloc _)
  go_region_held3 (fun W=>W.cell? ⟨w.heap.size,0,none⟩=some (.int .i64 r0)∧W.cell? ⟨w.heap.size,1,none⟩=some (.int .i64 r1)∧W.cell? ⟨w.heap.size,2,none⟩=some (.int .i64 r2)∧W.cell? ⟨w.heap.size,3,none⟩=some (.int .i64 r3)∧W.cell? ⟨w.heap.size,4,none⟩=some (.int .i64 r4)∧W.cell? ⟨w.heap.size,5,none⟩=some (.int .i64 r5)∧W.cell? ⟨w.heap.size,6,none⟩=some (.int .i64 r6)∧W.cell? ⟨w.heap.size,7,none⟩=some (.int .i64 r7))
   (first|go_keep|(go_split_ands;refine⟨?_,?_,?_,?_,?_,?_,?_,?_⟩<;>(rw[Hgr.out.cell_far _ (by simp;omega) (by simp[Value.ownBlock])];assumption))|exact Jb (HW5.out.alloc _))
   (first
     | (refine aU (by rfl) _ _ _ (by rfl) w2.heap.size 3 i0 (.int .i64 0) 1 8 Tryz.underlying23 Hi.out Hz0.out Hz1.out Hzb.out rfl (by omega) dL uG _ 0 [] (by rfl) (World.ownsRow_nil _ _ _ _) M cm mem (by rfl) (RdS.below HI.out HBa.out) (by unfold maxLen;omega) (by omega) HB3.out ?_;intro v' w4 hown hgr hat;have mi:=hid (row_of hown);obtain⟨A',cap',rfl⟩:=aP hown;have HW5:=hid (HWa.out.grown hgr (by simp[Value.ownBlock]));have hn4:w4.heap.size≠w.heap.size:=(by have:=hgr.size;simp at this;omega);have Hgr:=hid hgr;clear hown hgr hat)
     | (refine aU (by rfl) _ _ _ (by rfl) w2.heap.size 3 i0 (.int .i64 0) 1 8 Tryz.underlying23 Hi.out Hz0.out Hz1.out Hzb.out rfl (by omega) dL uG _ 0 [] (by rfl) (World.ownsRow_nil _ _ _ _) M cm mem (by rfl) (RdS.below HI.out HBb.out) (by unfold maxLen;omega) (by omega) (by simp;exact Nat.le_succ_of_le HB3.out) ?_;intro v' w4 hown hgr hat;have mi:=hid (row_of hown);obtain⟨A',cap',rfl⟩:=aP hown;have HW5:=hid (HWb.out.grown hgr (by simp[Value.ownBlock]));have HB:=HMb.out.grown hgr (by simp[Value.ownBlock]);have m0:=HB.cell 0;have m1:=HB.cell 1;have m2:=HB.cell 2;have m3:=HB.cell 3;have m4:=HB.cell 4;have m5:=HB.cell 5;have m6:=HB.cell 6;have m7:=HB.cell 7;have m8:=HB.cell 8;have m9:=HB.cell 9;have m10:=HB.cell 10;simp only[EF,gq]at m0 m1 m2 m3 m4 m5 m6 m7 m8 m9 m10;have mf:=HB.open_;have HBm:=hid HB;have Hgr:=hid hgr;clear hown hgr hat HB))
  ·go_wp2_with fail
   go_meet
   exact Jg ((hb3.trans ((HBa.out).mono HB3.out)).grown Hgr.out HB3.out (fun k hk=>by simp[Value.ownBlock]at hk)) mi.out
  ·go_wp2_with fail
   go_meet
   exact IR ((hb3.trans ((HBb.out).mono HB3.out)).grown Hgr.out (by simp;exact Nat.le_succ_of_le HB3.out) (fun k hk=>by simp[Value.ownBlock]at hk)) mi.out HBm.out HB3.out
 case rest=>
  obtain⟨g,rfl,hRM,hbc⟩:=hcut
  have HC2:=hid (hC.below hb2)
  have HRM:=hid hRM
  have Hbc:=hid hbc
  have Hm0:=hid (show Cf.MOk ⟨[r0,r1,r2,r3,r4,r5,r6,r7],mem,[],[],0⟩ from⟨rfl,Hrw.out,Hmw.out,by simp,by simp,by simp,by simp,by simp⟩)
  have Hk8:=hid k8
  have Hz:=hid (show Cf.bD l=0 by have:=Hf.out;unfold Cf.fault at this;rwa [if_neg (by omega)]at this)
  clear hRM hbc q0 q1 q2 q3 q4 q5 q6 q7 HK5 k8 hb3 hb4 HI
  go_wp2
  go_loopw [3,12,13] (fun fv bv av wr=>KT l ⟨[r0,r1,r2,r3,r4,r5,r6,r7],mem,[],[],0⟩ f0 w2 g fv bv av wr) (fun fv _ _ _=>(intOf fv).toNat)
  case atStart=>exact⟨_,f0,none,0,rfl,rfl,rfl,by omega,Hm0.out,HRM.out,Hbc.out,rfl⟩
  case round=>
   obtain⟨m,k,R,cr,rfl,rfl,rfl,hk,hok,hRM,hbr,hrun⟩:=hrel
   have iD:=hid hrun
   have hlo:=hRM.lo
   have hwz:=hRM.lt
   have hbz:=hbr.size
   have Hbr:=hid hbr
   have hpc:=hok.pc
   have hbl:=hok.back
   have Hok:=hid hok
   clear hrun hok HRM Hbc
   by_cases hk0:k=0
   ·have hk1:(k:Int)=0:=by omega
    rw[hk1]
    subst hk0
    clear hk1
    have oh:=hid (show ∃pc',Cf.gY l f0 ⟨[r0,r1,r2,r3,r4,r5,r6,r7],mem,[],[],0⟩=(2,⟨m.regs,m.mem,m.told,m.back,pc'⟩) from⟨_,iD.out.trans rfl⟩)
    obtain⟨s0,s1,s2,s3,s4,s5,s6,s7,T,ct,M',cm',hrs,hp,hq,hgB,hlB,hE⟩:=mX Hok.out.regs Hz2.out hb2 Hbr.out Hk8.out hRM
    obtain⟨regs,mem',told,back,pc⟩:=m
    dsimp only at *
    subst hrs
    obtain⟨p0,p1,p2,p3,p4,p5,p6,p7,p8,p9,p10,pf⟩:=jF hp
    obtain⟨q0,q1,q2,q3,q4,q5,q6,q7,q8,q9,q10,qf⟩:=jF hq
    have pf:=pf 0
    have HE:=hid hE
    clear hE hp hq hRM
    go_wp2
    refine bodyPost_ret (v:=.tuple #[.agg #[.int .i64 2,.int .i64 s0,.int .i64 s1,.int .i64 s2,.int .i64 s3,.int .i64 s4,.int .i64 s5,.int .i64 s6,.int .i64 s7,.slice T told.length ct,.slice M' mem'.length cm'],.int .i64 0]) (by simp[results,Tryz.results151,go_sem,q0,q1,q2,q3,q4,q5,q6,q7,q8,q9,q10]) rfl ?_
    obtain⟨pc',hend⟩:=oh.out
    rw[HR.out,Int.toNat_natCast,hend]
    refine dW.post (w2:=w2) (g:=g) (told:=told) (mem:=mem') ?_
    repeat (first|(with_reducible exact HE.out)|(with_reducible refine dW.alloc ?_ _)|(with_reducible refine dW.low ?_ _ _)|(with_reducible refine dW.put0 ?_ _))
   ·obtain⟨j,hj⟩:∃j,k=j+1:=⟨k-1,by omega⟩
    have hk1:(k:Int)=(j:Int)+1:=by omega
    rw[hk1]
    subst hj
    clear hk1 hk0
    by_cases hlt:m.pc<l.length
    ·obtain⟨op,xa,xb,xc,hx⟩:∃op a b' c',l[m.pc]?=some ⟨op,a,b',c'⟩:=⟨_,_,_,_,List.getElem?_eq_getElem hlt⟩
     have hck:=Cf.lQ l Hz.out m.pc _ hx
     obtain⟨ho,hA,hB,hCc,hj,h7⟩:=Cf.oO _ hck
     dsimp only at ho hA hB hCc hj h7
     have h13:13≤op→xc=0:=fun h=>IK _ hck h
     obtain⟨a,rfl⟩:=Int.eq_ofNat_of_zero_le hA.1
     obtain⟨b,rfl⟩:=Int.eq_ofNat_of_zero_le hB.1
     obtain⟨c,rfl⟩:=Int.eq_ofNat_of_zero_le hCc.1
     have ha:a<8:=by omega
     have hb:b<8:=by omega
     have HS:=hid (show Cf.step l m=Cf.exec ⟨op,a,b,c⟩ ⟨m.regs,m.mem,m.told,m.back,m.pc+1⟩ by unfold Cf.step;rw[hx])
     have hC2:=HC2.out
     rcases hC2 with rfl|⟨bb,off,rfl,hbw,hc⟩
     ·simp at hlt
     have NV:bb<wr.heap.size:=Nat.lt_of_lt_of_le hbw Hbr.out.size
     have hbg:bb≠g:=by omega
     have d0:wr.cell? ⟨bb,off+m.pc*4,none⟩=some (.int .i64 op):=(Hbr.out.cell hbw).trans (hc m.pc _ hx 0 _ rfl)
     have d1:wr.cell? ⟨bb,off+m.pc*4+1,none⟩=some (.int .i64 (a:Int)):=(Hbr.out.cell hbw).trans (hc m.pc _ hx 1 _ rfl)
     have d2:wr.cell? ⟨bb,off+m.pc*4+2,none⟩=some (.int .i64 (b:Int)):=(Hbr.out.cell hbw).trans (hc m.pc _ hx 2 _ rfl)
     have d3:wr.cell? ⟨bb,off+m.pc*4+3,none⟩=some (.int .i64 (c:Int)):=(Hbr.out.cell hbw).trans (hc m.pc _ hx 3 _ rfl)
     have hok1:Cf.MOk ⟨m.regs,m.mem,m.told,m.back,m.pc+1⟩:=⟨Hok.out.regs,Hok.out.words,Hok.out.mem,Hok.out.told,Hok.out.toldW,Hok.out.back,Hok.out.backs,by show m.pc+1≤200;omega⟩
     have OD:=hid hok1
     obtain⟨x,hx1⟩:∃z,z=m.rg (b:Int):=⟨_,rfl⟩
     have cb:wr.cell? ⟨g,1+b,none⟩=some (.int .i64 x):=by rw[hx1];exact hRM.reg Hok.out.regs b hb
     have hxr:0≤x∧x≤65535:=by rw[hx1];exact Hok.out.rg _
     obtain⟨Jc,hxr2⟩:=hxr
     have ca:wr.cell? ⟨g,1+a,none⟩=some (.int .i64 (m.rg (a:Int))):=hRM.reg Hok.out.regs a ha
     have fa:=hRM.open_ (1+a)
     have Hx1:=hid hx1
     clear hx hck hc hok1 hx1
     have h15:op=1∨op=2∨op=3∨op=4∨op=5∨op=6∨op=7∨op=8∨op=9∨op=10∨op=11∨op=12∨op=13∨op=14∨op=15:=by omega
     rcases h15 with rfl|rfl|rfl|rfl|rfl|rfl|rfl|rfl|rfl|rfl|rfl|rfl|rfl|rfl|rfl
     ·as_aux_lemma=>
       have hst:Cf.step l m = .on ⟨m.regs.set a (c:Int),m.mem,m.told,m.back,m.pc+1⟩:=by
        rw[HS.out,kH _ _ _ _ _ _ (by omega)]
        rfl
       have Hst:=hid hst
       clear hst
       have HRM:=hid hRM
       clear hRM h7 hj
       go_wp2
       go_roundw
       case rel=>exact⟨⟨m.regs.set a ((c:Int)),m.mem,m.told,m.back,m.pc+1⟩,j,R,cr,by go_num,rfl,by go_num,by omega,Cf.step_ok Hz.out hrl Hok.out Hst.out,(HRM.out.setR Hok.out.regs a ha ((c:Int)) (m.pc+1)).alloc _,(Hbr.out.setCell (p:=⟨g,1+a,none⟩) hlo _).alloc (by simp;omega) _,iD.out.trans (Cf.eY l j m _ Hst.out)⟩
       case measure=>simp[intOf]
     ·as_aux_lemma=>
       have hc8:c<8:=by have:=h7 (by omega);omega
       obtain⟨y,hy1⟩:∃z,z=m.rg (c:Int):=⟨_,rfl⟩
       have cc:wr.cell? ⟨g,1+c,none⟩=some (.int .i64 y):=by rw[hy1];exact hRM.reg Hok.out.regs c hc8
       have hyr:0≤y∧y≤65535:=by rw[hy1];exact Hok.out.rg _
       obtain⟨nz,hyr2⟩:=hyr
       have Hy1:=hid hy1
       clear hy1
       have HRM:=hid hRM
       clear hRM h7 hj
       have hst:Cf.step l m = .on ⟨m.regs.set a ((x+y) % 65536),m.mem,m.told,m.back,m.pc+1⟩:=by
        rw[HS.out,kH _ _ _ _ _ _ (by omega),← Hx1.out,← Hy1.out]
        rfl
       have Hst:=hid hst
       clear hst
       go_wp2
       go_roundw
       case rel=>exact⟨⟨m.regs.set a ((x+y) % 65536),m.mem,m.told,m.back,m.pc+1⟩,j,R,cr,by go_num,rfl,by go_num,by omega,Cf.step_ok Hz.out hrl Hok.out Hst.out,(HRM.out.setR Hok.out.regs a ha ((x+y) % 65536) (m.pc+1)).alloc _,(Hbr.out.setCell (p:=⟨g,1+a,none⟩) hlo _).alloc (by simp;omega) _,iD.out.trans (Cf.eY l j m _ Hst.out)⟩
       case measure=>simp[intOf]
     ·as_aux_lemma=>
       have hc8:c<8:=by have:=h7 (by omega);omega
       obtain⟨y,hy1⟩:∃z,z=m.rg (c:Int):=⟨_,rfl⟩
       have cc:wr.cell? ⟨g,1+c,none⟩=some (.int .i64 y):=by rw[hy1];exact hRM.reg Hok.out.regs c hc8
       have hyr:0≤y∧y≤65535:=by rw[hy1];exact Hok.out.rg _
       obtain⟨nz,hyr2⟩:=hyr
       have Hy1:=hid hy1
       clear hy1
       have HRM:=hid hRM
       clear hRM h7 hj
       have hst:Cf.step l m = .on ⟨m.regs.set a ((x+65536-y) % 65536),m.mem,m.told,m.back,m.pc+1⟩:=by
        rw[HS.out,kH _ _ _ _ _ _ (by omega),← Hx1.out,← Hy1.out]
        rfl
       have Hst:=hid hst
       clear hst
       go_wp2
       go_roundw
       case rel=>exact⟨⟨m.regs.set a ((x+65536-y) % 65536),m.mem,m.told,m.back,m.pc+1⟩,j,R,cr,by go_num,rfl,by go_num,by omega,Cf.step_ok Hz.out hrl Hok.out Hst.out,(HRM.out.setR Hok.out.regs a ha ((x+65536-y) % 65536) (m.pc+1)).alloc _,(Hbr.out.setCell (p:=⟨g,1+a,none⟩) hlo _).alloc (by simp;omega) _,iD.out.trans (Cf.eY l j m _ Hst.out)⟩
       case measure=>simp[intOf]
     ·as_aux_lemma=>
       have hc8:c<8:=by have:=h7 (by omega);omega
       obtain⟨y,hy1⟩:∃z,z=m.rg (c:Int):=⟨_,rfl⟩
       have cc:wr.cell? ⟨g,1+c,none⟩=some (.int .i64 y):=by rw[hy1];exact hRM.reg Hok.out.regs c hc8
       have hyr:0≤y∧y≤65535:=by rw[hy1];exact Hok.out.rg _
       obtain⟨nz,hyr2⟩:=hyr
       have Hy1:=hid hy1
       clear hy1
       have HRM:=hid hRM
       clear hRM h7 hj
       have hst:Cf.step l m = .on ⟨m.regs.set a (bits .and .i64 x y),m.mem,m.told,m.back,m.pc+1⟩:=by
        rw[HS.out,kH _ _ _ _ _ _ (by omega),← Hx1.out,← Hy1.out]
        rw[Ah x y ⟨Jc,hxr2⟩ ⟨nz,hyr2⟩];rfl
       have Hst:=hid hst
       clear hst
       go_wp2
       go_roundw
       case rel=>exact⟨⟨m.regs.set a (bits .and .i64 x y),m.mem,m.told,m.back,m.pc+1⟩,j,R,cr,by go_num,rfl,by go_num,by omega,Cf.step_ok Hz.out hrl Hok.out Hst.out,(HRM.out.setR Hok.out.regs a ha (bits .and .i64 x y) (m.pc+1)).alloc _,(Hbr.out.setCell (p:=⟨g,1+a,none⟩) hlo _).alloc (by simp;omega) _,iD.out.trans (Cf.eY l j m _ Hst.out)⟩
       case measure=>simp[intOf]
     ·as_aux_lemma=>
       have hc8:c<8:=by have:=h7 (by omega);omega
       obtain⟨y,hy1⟩:∃z,z=m.rg (c:Int):=⟨_,rfl⟩
       have cc:wr.cell? ⟨g,1+c,none⟩=some (.int .i64 y):=by rw[hy1];exact hRM.reg Hok.out.regs c hc8
       have hyr:0≤y∧y≤65535:=by rw[hy1];exact Hok.out.rg _
       obtain⟨nz,hyr2⟩:=hyr
       have Hy1:=hid hy1
       clear hy1
       have HRM:=hid hRM
       clear hRM h7 hj
       have hst:Cf.step l m = .on ⟨m.regs.set a (bits .or .i64 x y),m.mem,m.told,m.back,m.pc+1⟩:=by
        rw[HS.out,kH _ _ _ _ _ _ (by omega),← Hx1.out,← Hy1.out]
        rw[Ee x y ⟨Jc,hxr2⟩ ⟨nz,hyr2⟩];rfl
       have Hst:=hid hst
       clear hst
       go_wp2
       go_roundw
       case rel=>exact⟨⟨m.regs.set a (bits .or .i64 x y),m.mem,m.told,m.back,m.pc+1⟩,j,R,cr,by go_num,rfl,by go_num,by omega,Cf.step_ok Hz.out hrl Hok.out Hst.out,(HRM.out.setR Hok.out.regs a ha (bits .or .i64 x y) (m.pc+1)).alloc _,(Hbr.out.setCell (p:=⟨g,1+a,none⟩) hlo _).alloc (by simp;omega) _,iD.out.trans (Cf.eY l j m _ Hst.out)⟩
       case measure=>simp[intOf]
     ·as_aux_lemma=>
       have hc8:c<8:=by have:=h7 (by omega);omega
       obtain⟨y,hy1⟩:∃z,z=m.rg (c:Int):=⟨_,rfl⟩
       have cc:wr.cell? ⟨g,1+c,none⟩=some (.int .i64 y):=by rw[hy1];exact hRM.reg Hok.out.regs c hc8
       have hyr:0≤y∧y≤65535:=by rw[hy1];exact Hok.out.rg _
       obtain⟨nz,hyr2⟩:=hyr
       have Hy1:=hid hy1
       clear hy1
       have HRM:=hid hRM
       clear hRM h7 hj
       have hst:Cf.step l m = .on ⟨m.regs.set a (bits .xor .i64 x y),m.mem,m.told,m.back,m.pc+1⟩:=by
        rw[HS.out,kH _ _ _ _ _ _ (by omega),← Hx1.out,← Hy1.out]
        rw[zD x y ⟨Jc,hxr2⟩ ⟨nz,hyr2⟩];rfl
       have Hst:=hid hst
       clear hst
       go_wp2
       go_roundw
       case rel=>exact⟨⟨m.regs.set a (bits .xor .i64 x y),m.mem,m.told,m.back,m.pc+1⟩,j,R,cr,by go_num,rfl,by go_num,by omega,Cf.step_ok Hz.out hrl Hok.out Hst.out,(HRM.out.setR Hok.out.regs a ha (bits .xor .i64 x y) (m.pc+1)).alloc _,(Hbr.out.setCell (p:=⟨g,1+a,none⟩) hlo _).alloc (by simp;omega) _,iD.out.trans (Cf.eY l j m _ Hst.out)⟩
       case measure=>simp[intOf]
     ·as_aux_lemma=>
       have hc8:c<8:=by have:=h7 (by omega);omega
       obtain⟨y,hy1⟩:∃z,z=m.rg (c:Int):=⟨_,rfl⟩
       have cc:wr.cell? ⟨g,1+c,none⟩=some (.int .i64 y):=by rw[hy1];exact hRM.reg Hok.out.regs c hc8
       have hyr:0≤y∧y≤65535:=by rw[hy1];exact Hok.out.rg _
       obtain⟨nz,hyr2⟩:=hyr
       have Hy1:=hid hy1
       clear hy1
       have HRM:=hid hRM
       clear hRM h7 hj
       by_cases hxy:x<y
       ·have hst:Cf.step l m = .on ⟨(m.regs.set a 0).set a 1,m.mem,m.told,m.back,m.pc+1⟩:=by
         rw[List.set_set,HS.out,kH _ _ _ _ _ _ (by omega),← Hx1.out,← Hy1.out]
         rw[show Cf.alu 7 x y c=1 by simp[Cf.alu,hxy]];rfl
        have Hst:=hid hst
        clear hst
        go_wp2
        go_roundw
        case rel=>exact⟨⟨(m.regs.set a 0).set a 1,m.mem,m.told,m.back,m.pc+1⟩,j,R,cr,by go_num,rfl,by go_num,by omega,Cf.step_ok Hz.out hrl Hok.out Hst.out,((HRM.out.setR Hok.out.regs a ha 0 (m.pc+1)).setR (by simp[Hok.out.regs]) a ha 1 (m.pc+1)).alloc _,((Hbr.out.setCell (p:=⟨g,1+a,none⟩) hlo _).setCell (p:=⟨g,1+a,none⟩) hlo _).alloc (by simp;omega) _,iD.out.trans (Cf.eY l j m _ Hst.out)⟩
        case measure=>simp[intOf]
       ·have hst:Cf.step l m = .on ⟨m.regs.set a (0),m.mem,m.told,m.back,m.pc+1⟩:=by
         rw[HS.out,kH _ _ _ _ _ _ (by omega),← Hx1.out,← Hy1.out]
         rw[show Cf.alu 7 x y c=0 by simp[Cf.alu,hxy]];rfl
        have Hst:=hid hst
        clear hst
        go_wp2
        go_roundw
        case rel=>exact⟨⟨m.regs.set a (0),m.mem,m.told,m.back,m.pc+1⟩,j,R,cr,by go_num,rfl,by go_num,by omega,Cf.step_ok Hz.out hrl Hok.out Hst.out,(HRM.out.setR Hok.out.regs a ha (0) (m.pc+1)).alloc _,(Hbr.out.setCell (p:=⟨g,1+a,none⟩) hlo _).alloc (by simp;omega) _,iD.out.trans (Cf.eY l j m _ Hst.out)⟩
        case measure=>simp[intOf]
     ·have hc8:c<8:=by have:=h7 (by omega);omega
      obtain⟨y,hy1⟩:∃z,z=m.rg (c:Int):=⟨_,rfl⟩
      have cc:wr.cell? ⟨g,1+c,none⟩=some (.int .i64 y):=by rw[hy1];exact hRM.reg Hok.out.regs c hc8
      have hyr:0≤y∧y≤65535:=by rw[hy1];exact Hok.out.rg _
      obtain⟨nz,hyr2⟩:=hyr
      have Hy1:=hid hy1
      clear hy1
      obtain⟨ad,had⟩:=Int.eq_ofNat_of_zero_le Jc
      have Hx2:=hid (Hx1.out.symm.trans had)
      subst had
      clear Hx1
      have Oj:ad≤65535:=by omega
      obtain⟨vm,vt,hs⟩:=hRM
      obtain⟨M',cm',rfl⟩:=hs.mem.form
      have c10:wr.cell? ⟨g,10,none⟩=some (.slice M' m.mem.length cm'):=(hs.blk.cell 10).trans (uh Hok.out.regs 1)
      clear h7 hj
      by_cases hlm:ad<m.mem.length
      ·as_aux_lemma=>
        obtain⟨gm,rfl,hgm,hgm2,hfm,hcm⟩:=hs.mem.cells (by intro h;rw[h]at hlm;simp at hlm)
        have cx:wr.cell? ⟨gm,ad,none⟩=some (.int .i64 (m.mem.getD ad 0)):=hcm ad _ (by rw[List.getD_eq_getElem?_getD,List.getElem?_eq_getElem hlm];rfl)
        have fx:wr.frozen? ⟨gm,ad,none⟩=false:=(hfm ad).resolve_left (by rw[cx];simp)
        have hne:gm≠g:=fun h=>ax hs.mem hs.blk dH (by simp[Value.ownBlock,h])
        obtain⟨z,hz⟩:∃z,z=m.mem.getD ad 0:=⟨_,rfl⟩
        rw[← hz]at cx
        have hst:Cf.step l m = .on ⟨m.regs.set a z,m.mem,m.told,m.back,m.pc+1⟩:=by rw[HS.out,Ju _ _ _ _ _ ad Hx2.out hlm,hz]
        have Hst:=hid hst
        have Hs:=hid hs
        clear hst hs hcm hfm hz
        go_wp2_with fail
        go_region
        all_goals go_wp2
        all_goals go_roundw
        case rel=>exact⟨⟨m.regs.set a z,m.mem,m.told,m.back,m.pc+1⟩,j,R,cr,by go_num,rfl,by go_num,by omega,Cf.step_ok Hz.out hrl Hok.out Hst.out,(RM.setR (m:=m) ⟨_,_,Hs.out⟩ Hok.out.regs a ha z (m.pc+1)).alloc _ |>.draw 1,((Hbr.out.setCell (p:=⟨g,1+a,none⟩) hlo _).alloc (by simp;omega) _).drew,iD.out.trans (Cf.eY l j m _ Hst.out)⟩
        case measure=>simp[intOf]
      ·have hst:Cf.step l m = .fin 3 ⟨m.regs,m.mem,m.told,m.back,m.pc+1⟩:=by rw[HS.out,Dp _ _ _ _ _ ad Hx2.out hlm]
       have Hst:=hid hst
       clear hst
       have hRM:RM wr w2.heap.size g m (.slice R m.back.length cr):=⟨_,_,hs⟩
       clear hs c10
       have oh:=hid (show ∃pc',Cf.gY l f0 ⟨[r0,r1,r2,r3,r4,r5,r6,r7],mem,[],[],0⟩=(3,⟨m.regs,m.mem,m.told,m.back,pc'⟩) from⟨_,iD.out.trans (Cf.kZ l j m _ 3 Hst.out)⟩)
       obtain⟨s0,s1,s2,s3,s4,s5,s6,s7,T,ct,M',cm',hrs,hp,hq,hgB,hlB,hE⟩:=mX Hok.out.regs Hz2.out hb2 Hbr.out Hk8.out hRM
       obtain⟨regs,mem',told,back,pc⟩:=m
       dsimp only at *
       subst hrs
       obtain⟨p0,p1,p2,p3,p4,p5,p6,p7,p8,p9,p10,pf⟩:=jF hp
       obtain⟨q0,q1,q2,q3,q4,q5,q6,q7,q8,q9,q10,qf⟩:=jF hq
       have pf:=pf 0
       have HE:=hid hE
       clear hE hp hq hRM
       go_wp2
       refine bodyPost_ret (v:=.tuple #[.agg #[.int .i64 3,.int .i64 s0,.int .i64 s1,.int .i64 s2,.int .i64 s3,.int .i64 s4,.int .i64 s5,.int .i64 s6,.int .i64 s7,.slice T told.length ct,.slice M' mem'.length cm'],.int .i64 0]) (by simp[results,Tryz.results151,go_sem,World.cell?_alloc_lt,hlB,q0,q1,q2,q3,q4,q5,q6,q7,q8,q9,q10]) rfl ?_
       obtain⟨pc',hend⟩:=oh.out
       rw[HR.out,Int.toNat_natCast,hend]
       refine dW.post (w2:=w2) (g:=g) (told:=told) (mem:=mem') ?_
       repeat (first|(with_reducible exact HE.out)|(with_reducible refine dW.alloc ?_ _)|(with_reducible refine dW.low ?_ _ _)|(with_reducible refine dW.put0 ?_ _))
     ·have hc8:c<8:=by have:=h7 (by omega);omega
      obtain⟨y,hy1⟩:∃z,z=m.rg (c:Int):=⟨_,rfl⟩
      have cc:wr.cell? ⟨g,1+c,none⟩=some (.int .i64 y):=by rw[hy1];exact hRM.reg Hok.out.regs c hc8
      have hyr:0≤y∧y≤65535:=by rw[hy1];exact Hok.out.rg _
      obtain⟨nz,hyr2⟩:=hyr
      have Hy1:=hid hy1
      clear hy1
      obtain⟨ad,had⟩:=Int.eq_ofNat_of_zero_le Jc
      have Hx2:=hid (Hx1.out.symm.trans had)
      subst had
      clear Hx1
      have Oj:ad≤65535:=by omega
      obtain⟨vm,vt,hs⟩:=hRM
      obtain⟨M',cm',rfl⟩:=hs.mem.form
      have c10:wr.cell? ⟨g,10,none⟩=some (.slice M' m.mem.length cm'):=(hs.blk.cell 10).trans (uh Hok.out.regs 1)
      clear h7 hj
      by_cases hlm:ad<m.mem.length
      ·as_aux_lemma=>
        obtain⟨gm,rfl,hgm,hgm2,hfm,hcm⟩:=hs.mem.cells (by intro h;rw[h]at hlm;simp at hlm)
        have cx:wr.cell? ⟨gm,ad,none⟩=some (.int .i64 (m.mem.getD ad 0)):=hcm ad _ (by rw[List.getD_eq_getElem?_getD,List.getElem?_eq_getElem hlm];rfl)
        have fx:wr.frozen? ⟨gm,ad,none⟩=false:=(hfm ad).resolve_left (by rw[cx];simp)
        have hne:gm≠g:=fun h=>ax hs.mem hs.blk dH (by simp[Value.ownBlock,h])
        obtain⟨z,hz⟩:∃z,z=m.rg (a:Int):=⟨_,rfl⟩
        rw[← hz]at ca
        have hst:Cf.step l m = .on ⟨m.regs,m.mem.set ad z,m.told,m.back,m.pc+1⟩:=by rw[HS.out,Kq _ _ _ _ _ ad Hx2.out hlm,hz]
        have Hst:=hid hst
        have Hs:=hid hs
        clear hst hs hcm hfm hz
        go_wp2_with fail
        go_region
        all_goals go_wp2
        all_goals go_roundw
        case rel=>exact⟨⟨m.regs,m.mem.set ad z,m.told,m.back,m.pc+1⟩,j,R,cr,by go_num,rfl,by go_num,by omega,Cf.step_ok Hz.out hrl Hok.out Hst.out,(RM.alloc (m:=⟨m.regs,m.mem.set ad z,m.told,m.back,m.pc+1⟩) ⟨_,_,Hs.out.memSet dH z⟩ _).draw 1,((Hbr.out.setCell (p:=⟨gm,ad,none⟩) hgm _).alloc (by simp;omega) _).drew,iD.out.trans (Cf.eY l j m _ Hst.out)⟩
        case measure=>simp[intOf]
      ·have hst:Cf.step l m = .fin 3 ⟨m.regs,m.mem,m.told,m.back,m.pc+1⟩:=by rw[HS.out,Du _ _ _ _ _ ad Hx2.out hlm]
       have Hst:=hid hst
       clear hst
       have hRM:RM wr w2.heap.size g m (.slice R m.back.length cr):=⟨_,_,hs⟩
       clear hs c10
       have oh:=hid (show ∃pc',Cf.gY l f0 ⟨[r0,r1,r2,r3,r4,r5,r6,r7],mem,[],[],0⟩=(3,⟨m.regs,m.mem,m.told,m.back,pc'⟩) from⟨_,iD.out.trans (Cf.kZ l j m _ 3 Hst.out)⟩)
       obtain⟨s0,s1,s2,s3,s4,s5,s6,s7,T,ct,M',cm',hrs,hp,hq,hgB,hlB,hE⟩:=mX Hok.out.regs Hz2.out hb2 Hbr.out Hk8.out hRM
       obtain⟨regs,mem',told,back,pc⟩:=m
       dsimp only at *
       subst hrs
       obtain⟨p0,p1,p2,p3,p4,p5,p6,p7,p8,p9,p10,pf⟩:=jF hp
       obtain⟨q0,q1,q2,q3,q4,q5,q6,q7,q8,q9,q10,qf⟩:=jF hq
       have pf:=pf 0
       have HE:=hid hE
       clear hE hp hq hRM
       go_wp2
       refine bodyPost_ret (v:=.tuple #[.agg #[.int .i64 3,.int .i64 s0,.int .i64 s1,.int .i64 s2,.int .i64 s3,.int .i64 s4,.int .i64 s5,.int .i64 s6,.int .i64 s7,.slice T told.length ct,.slice M' mem'.length cm'],.int .i64 0]) (by simp[results,Tryz.results151,go_sem,World.cell?_alloc_lt,hlB,q0,q1,q2,q3,q4,q5,q6,q7,q8,q9,q10]) rfl ?_
       obtain⟨pc',hend⟩:=oh.out
       rw[HR.out,Int.toNat_natCast,hend]
       refine dW.post (w2:=w2) (g:=g) (told:=told) (mem:=mem') ?_
       repeat (first|(with_reducible exact HE.out)|(with_reducible refine dW.alloc ?_ _)|(with_reducible refine dW.low ?_ _ _)|(with_reducible refine dW.put0 ?_ _))
     ·as_aux_lemma=>
       have hst:Cf.step l m = .on ⟨m.regs,m.mem,m.told,m.back,c⟩:=by rw[HS.out];simp[Cf.exec]
       have Hst:=hid hst
       clear hst
       by_cases hc8:c<8
       ·obtain⟨y,hy1⟩:∃z,z=m.rg (c:Int):=⟨_,rfl⟩
        have cc:wr.cell? ⟨g,1+c,none⟩=some (.int .i64 y):=by rw[hy1];exact hRM.reg Hok.out.regs c hc8
        have hyr:0≤y∧y≤65535:=by rw[hy1];exact Hok.out.rg _
        obtain⟨nz,hyr2⟩:=hyr
        have Hy1:=hid hy1
        clear hy1
        have HRM:=hid hRM
        clear hRM h7 hj
        go_wp2
        go_roundw
        case rel=>exact⟨⟨m.regs,m.mem,m.told,m.back,c⟩,j,R,cr,by go_num,rfl,by go_num,by omega,Cf.step_ok Hz.out hrl Hok.out Hst.out,(HRM.out.at_ c).alloc _,Hbr.out.alloc (by omega) _,iD.out.trans (Cf.eY l j m _ Hst.out)⟩
        case measure=>simp[intOf]
       ·have HRM:=hid hRM
        clear hRM h7 hj
        go_wp2
        go_roundw
        case rel=>exact⟨⟨m.regs,m.mem,m.told,m.back,c⟩,j,R,cr,by go_num,rfl,by go_num,by omega,Cf.step_ok Hz.out hrl Hok.out Hst.out,(HRM.out.at_ c).alloc _,Hbr.out.alloc (by omega) _,iD.out.trans (Cf.eY l j m _ Hst.out)⟩
        case measure=>simp[intOf]
     ·as_aux_lemma=>
       obtain⟨z,hz⟩:∃z,z=m.rg (a:Int):=⟨_,rfl⟩
       rw[← hz]at ca
       by_cases h0:z=0
       ·have hst:Cf.step l m = .on ⟨m.regs,m.mem,m.told,m.back,c⟩:=by rw[HS.out,Bl _ _ _ _ _ (by rw[← hz,h0])]
        have Hst:=hid hst
        have hzb:(z == 0)=true:=by rw[beq_iff_eq];exact h0
        clear hst h0 hz
        by_cases hc8:c<8
        ·obtain⟨y,hy1⟩:∃z,z=m.rg (c:Int):=⟨_,rfl⟩
         have cc:wr.cell? ⟨g,1+c,none⟩=some (.int .i64 y):=by rw[hy1];exact hRM.reg Hok.out.regs c hc8
         have hyr:0≤y∧y≤65535:=by rw[hy1];exact Hok.out.rg _
         obtain⟨nz,hyr2⟩:=hyr
         have Hy1:=hid hy1
         clear hy1
         have HRM:=hid hRM
         clear hRM h7 hj
         go_wp2
         go_roundw
         case rel=>exact⟨⟨m.regs,m.mem,m.told,m.back,c⟩,j,R,cr,by go_num,rfl,by go_num,by omega,Cf.step_ok Hz.out hrl Hok.out Hst.out,(HRM.out.at_ c).alloc _,Hbr.out.alloc (by omega) _,iD.out.trans (Cf.eY l j m _ Hst.out)⟩
         case measure=>simp[intOf]
        ·have HRM:=hid hRM
         clear hRM h7 hj
         go_wp2
         go_roundw
         case rel=>exact⟨⟨m.regs,m.mem,m.told,m.back,c⟩,j,R,cr,by go_num,rfl,by go_num,by omega,Cf.step_ok Hz.out hrl Hok.out Hst.out,(HRM.out.at_ c).alloc _,Hbr.out.alloc (by omega) _,iD.out.trans (Cf.eY l j m _ Hst.out)⟩
         case measure=>simp[intOf]
       ·have hst:Cf.step l m = .on ⟨m.regs,m.mem,m.told,m.back,m.pc+1⟩:=by rw[HS.out,CW _ _ _ _ _ (by rw[← hz];exact h0)]
        have Hst:=hid hst
        have hzb:(z == 0)=false:=by rw[beq_eq_false_iff_ne];exact h0
        clear hst h0 hz
        by_cases hc8:c<8
        ·obtain⟨y,hy1⟩:∃z,z=m.rg (c:Int):=⟨_,rfl⟩
         have cc:wr.cell? ⟨g,1+c,none⟩=some (.int .i64 y):=by rw[hy1];exact hRM.reg Hok.out.regs c hc8
         have hyr:0≤y∧y≤65535:=by rw[hy1];exact Hok.out.rg _
         obtain⟨nz,hyr2⟩:=hyr
         have Hy1:=hid hy1
         clear hy1
         have HRM:=hid hRM
         clear hRM h7 hj
         go_wp2
         go_roundw
         case rel=>exact⟨⟨m.regs,m.mem,m.told,m.back,(m.pc+1)⟩,j,R,cr,by go_num,rfl,by go_num,by omega,Cf.step_ok Hz.out hrl Hok.out Hst.out,(HRM.out.at_ (m.pc+1)).alloc _,Hbr.out.alloc (by omega) _,iD.out.trans (Cf.eY l j m _ Hst.out)⟩
         case measure=>simp[intOf]
        ·have HRM:=hid hRM
         clear hRM h7 hj
         go_wp2
         go_roundw
         case rel=>exact⟨⟨m.regs,m.mem,m.told,m.back,(m.pc+1)⟩,j,R,cr,by go_num,rfl,by go_num,by omega,Cf.step_ok Hz.out hrl Hok.out Hst.out,(HRM.out.at_ (m.pc+1)).alloc _,Hbr.out.alloc (by omega) _,iD.out.trans (Cf.eY l j m _ Hst.out)⟩
         case measure=>simp[intOf]
     ·by_cases hdeep:16≤m.back.length
      ·have hst:Cf.step l m = .fin 4 ⟨m.regs,m.mem,m.told,m.back,m.pc+1⟩:=by rw[HS.out];simp[Cf.exec,hdeep]
       have Hst:=hid hst
       clear hst
       by_cases hc8:c<8
       ·obtain⟨y,hy1⟩:∃z,z=m.rg (c:Int):=⟨_,rfl⟩
        have cc:wr.cell? ⟨g,1+c,none⟩=some (.int .i64 y):=by rw[hy1];exact hRM.reg Hok.out.regs c hc8
        have hyr:0≤y∧y≤65535:=by rw[hy1];exact Hok.out.rg _
        obtain⟨nz,hyr2⟩:=hyr
        have Hy1:=hid hy1
        clear hy1
        clear h7 hj
        have oh:=hid (show ∃pc',Cf.gY l f0 ⟨[r0,r1,r2,r3,r4,r5,r6,r7],mem,[],[],0⟩=(4,⟨m.regs,m.mem,m.told,m.back,pc'⟩) from⟨_,iD.out.trans (Cf.kZ l j m _ 4 Hst.out)⟩)
        obtain⟨s0,s1,s2,s3,s4,s5,s6,s7,T,ct,M',cm',hrs,hp,hq,hgB,hlB,hE⟩:=mX Hok.out.regs Hz2.out hb2 Hbr.out Hk8.out hRM
        obtain⟨regs,mem',told,back,pc⟩:=m
        dsimp only at *
        subst hrs
        obtain⟨p0,p1,p2,p3,p4,p5,p6,p7,p8,p9,p10,pf⟩:=jF hp
        obtain⟨q0,q1,q2,q3,q4,q5,q6,q7,q8,q9,q10,qf⟩:=jF hq
        have pf:=pf 0
        have HE:=hid hE
        clear hE hp hq hRM
        go_wp2
        refine bodyPost_ret (v:=.tuple #[.agg #[.int .i64 4,.int .i64 s0,.int .i64 s1,.int .i64 s2,.int .i64 s3,.int .i64 s4,.int .i64 s5,.int .i64 s6,.int .i64 s7,.slice T told.length ct,.slice M' mem'.length cm'],.int .i64 0]) (by simp[results,Tryz.results151,go_sem,World.cell?_alloc_lt,hlB,q0,q1,q2,q3,q4,q5,q6,q7,q8,q9,q10]) rfl ?_
        obtain⟨pc',hend⟩:=oh.out
        rw[HR.out,Int.toNat_natCast,hend]
        refine dW.post (w2:=w2) (g:=g) (told:=told) (mem:=mem') ?_
        repeat (first|(with_reducible exact HE.out)|(with_reducible refine dW.alloc ?_ _)|(with_reducible refine dW.low ?_ _ _)|(with_reducible refine dW.put0 ?_ _))
       ·clear h7 hj
        have oh:=hid (show ∃pc',Cf.gY l f0 ⟨[r0,r1,r2,r3,r4,r5,r6,r7],mem,[],[],0⟩=(4,⟨m.regs,m.mem,m.told,m.back,pc'⟩) from⟨_,iD.out.trans (Cf.kZ l j m _ 4 Hst.out)⟩)
        obtain⟨s0,s1,s2,s3,s4,s5,s6,s7,T,ct,M',cm',hrs,hp,hq,hgB,hlB,hE⟩:=mX Hok.out.regs Hz2.out hb2 Hbr.out Hk8.out hRM
        obtain⟨regs,mem',told,back,pc⟩:=m
        dsimp only at *
        subst hrs
        obtain⟨p0,p1,p2,p3,p4,p5,p6,p7,p8,p9,p10,pf⟩:=jF hp
        obtain⟨q0,q1,q2,q3,q4,q5,q6,q7,q8,q9,q10,qf⟩:=jF hq
        have pf:=pf 0
        have HE:=hid hE
        clear hE hp hq hRM
        go_wp2
        refine bodyPost_ret (v:=.tuple #[.agg #[.int .i64 4,.int .i64 s0,.int .i64 s1,.int .i64 s2,.int .i64 s3,.int .i64 s4,.int .i64 s5,.int .i64 s6,.int .i64 s7,.slice T told.length ct,.slice M' mem'.length cm'],.int .i64 0]) (by simp[results,Tryz.results151,go_sem,World.cell?_alloc_lt,hlB,q0,q1,q2,q3,q4,q5,q6,q7,q8,q9,q10]) rfl ?_
        obtain⟨pc',hend⟩:=oh.out
        rw[HR.out,Int.toNat_natCast,hend]
        refine dW.post (w2:=w2) (g:=g) (told:=told) (mem:=mem') ?_
        repeat (first|(with_reducible exact HE.out)|(with_reducible refine dW.alloc ?_ _)|(with_reducible refine dW.low ?_ _ _)|(with_reducible refine dW.put0 ?_ _))
      ·as_aux_lemma=>
        have hst:Cf.step l m = .on ⟨m.regs,m.mem,m.told,m.back++[m.pc+1],c⟩:=by rw[HS.out];simp[Cf.exec,hdeep]
        have Hst:=hid hst
        clear hst
        have hnb:=hid (show(Value.slice R m.back.length cr).ownBlock≠some wr.heap.size from fun h=>by have:=(hRM.back_.lt _ h).2;omega)
        have OWN:=hid (show((wr.alloc (.cells #[.int .i64 12,.int .i64 (a:Int),.int .i64 (b:Int),.int .i64 (c:Int)] 121)).alloc (.cells #[.int .i64 ((m.pc:Int)+1)] 3)).ownsRow w2.heap.size 3 1 (.slice R m.back.length cr) m.back.length ((kK m.back).map (Value.int .i64)) by have:=World.ownsRow.alloc (World.ownsRow.alloc hRM.back_ (.cells #[.int .i64 12,.int .i64 (a:Int),.int .i64 (b:Int),.int .i64 (c:Int)] 121)) (.cells #[.int .i64 ((m.pc:Int)+1)] 3);rw[jE]at this;exact this)
        by_cases hc8:c<8
        ·obtain⟨y,hy1⟩:∃z,z=m.rg (c:Int):=⟨_,rfl⟩
         have cc:wr.cell? ⟨g,1+c,none⟩=some (.int .i64 y):=by rw[hy1];exact hRM.reg Hok.out.regs c hc8
         have hyr:0≤y∧y≤65535:=by rw[hy1];exact Hok.out.rg _
         obtain⟨nz,hyr2⟩:=hyr
         have Hy1:=hid hy1
         clear hy1
         have HRM:=hid hRM
         clear hRM h7 hj
         go_wp2_with (at_builtin;refine wpList_append_own_at _ rfl _ _ 23 rfl w2.heap.size 3 i0 (.int .i64 0) 1 8 Tryz.underlying23 Hi.out Hz0.out Hz1.out Hzb.out rfl (by decide) _ m.back.length _ rfl (OWN.out) ⟨wr.heap.size+1,0,none⟩ 1 1 [.int .i64 ((m.pc:Int)+1)] rfl rfl ?c1_1 ?c1_2 ?c1_3 ?c1_4 ?c1_5 ?_)
         case c1_1=>intro jj u hjj;match jj,hjj with|0,hjj=>simp at hjj;subst hjj;simp[Addr.add]
         case c1_2=>intro u hu;simp at hu;subst hu;rfl
         case c1_3=>unfold maxLen;omega
         case c1_4=>omega
         case c1_5=>simp;omega
         intro v' w5 hown hgr _ hat
         obtain⟨A',cap',rfl⟩:=aP hown
         have qh:=((Hbr.out.alloc (by omega) _).alloc (by simp;omega) _).grown hgr (by simp;omega) (fun k hk=>(HRM.out.back_.lt k hk).1)
         have d3':=(hgr.cell_far ⟨wr.heap.size,3,none⟩ (by simp;omega) (Ne.symm hnb.out)).trans (show _=some (.int .i64 (c:Int)) by simp)
         have GL:=RM.call ((HRM.out.alloc _).alloc _) (b:=m.pc+1) (vr':=.slice A' (m.back.length+1) cap') (by rw[show((m.pc+1:Nat):Int)=(m.pc:Int)+1 by omega];exact hown) hgr (hat.imp id fun h=>⟨_,h,by simp⟩) c
         have LH:=hid GL
         have Ll:=hid qh
         clear hown hgr hat GL qh
         go_wp2
         go_roundw
         case rel=>exact⟨⟨m.regs,m.mem,m.told,m.back++[m.pc+1],c⟩,j,A',cap',by go_num,by simp,by go_num,by omega,Cf.step_ok Hz.out hrl Hok.out Hst.out,by simpa using LH.out,Ll.out,iD.out.trans (Cf.eY l j m _ Hst.out)⟩
         case measure=>simp[intOf]
        ·have HRM:=hid hRM
         clear hRM h7 hj
         go_wp2_with (at_builtin;refine wpList_append_own_at _ rfl _ _ 23 rfl w2.heap.size 3 i0 (.int .i64 0) 1 8 Tryz.underlying23 Hi.out Hz0.out Hz1.out Hzb.out rfl (by decide) _ m.back.length _ rfl (OWN.out) ⟨wr.heap.size+1,0,none⟩ 1 1 [.int .i64 ((m.pc:Int)+1)] rfl rfl ?c2_1 ?c2_2 ?c2_3 ?c2_4 ?c2_5 ?_)
         case c2_1=>intro jj u hjj;match jj,hjj with|0,hjj=>simp at hjj;subst hjj;simp[Addr.add]
         case c2_2=>intro u hu;simp at hu;subst hu;rfl
         case c2_3=>unfold maxLen;omega
         case c2_4=>omega
         case c2_5=>simp;omega
         intro v' w5 hown hgr _ hat
         obtain⟨A',cap',rfl⟩:=aP hown
         have qh:=((Hbr.out.alloc (by omega) _).alloc (by simp;omega) _).grown hgr (by simp;omega) (fun k hk=>(HRM.out.back_.lt k hk).1)
         have d3':=(hgr.cell_far ⟨wr.heap.size,3,none⟩ (by simp;omega) (Ne.symm hnb.out)).trans (show _=some (.int .i64 (c:Int)) by simp)
         have GL:=RM.call ((HRM.out.alloc _).alloc _) (b:=m.pc+1) (vr':=.slice A' (m.back.length+1) cap') (by rw[show((m.pc+1:Nat):Int)=(m.pc:Int)+1 by omega];exact hown) hgr (hat.imp id fun h=>⟨_,h,by simp⟩) c
         have LH:=hid GL
         have Ll:=hid qh
         clear hown hgr hat GL qh
         go_wp2
         go_roundw
         case rel=>exact⟨⟨m.regs,m.mem,m.told,m.back++[m.pc+1],c⟩,j,A',cap',by go_num,by simp,by go_num,by omega,Cf.step_ok Hz.out hrl Hok.out Hst.out,by simpa using LH.out,Ll.out,iD.out.trans (Cf.eY l j m _ Hst.out)⟩
         case measure=>simp[intOf]
     ·have hc8:c<8:=by have:=h13 (by omega);omega
      clear h13
      obtain⟨y,hy1⟩:∃z,z=m.rg (c:Int):=⟨_,rfl⟩
      have cc:wr.cell? ⟨g,1+c,none⟩=some (.int .i64 y):=by rw[hy1];exact hRM.reg Hok.out.regs c hc8
      have hyr:0≤y∧y≤65535:=by rw[hy1];exact Hok.out.rg _
      obtain⟨nz,hyr2⟩:=hyr
      have Hy1:=hid hy1
      clear hy1
      by_cases hbe:m.back=[]
      ·have hst:Cf.step l m = .fin 1 ⟨m.regs,m.mem,m.told,m.back,m.pc+1⟩:=by rw[HS.out];simp[Cf.exec,hbe]
       have Hst:=hid hst
       have hb0:m.back.length=0:=by rw[hbe];rfl
       rw[hb0]
       rw[hb0]at hRM
       have Hbe:=hid hbe
       clear hst h7 hj hb0 hbe
       have oh:=hid (show ∃pc',Cf.gY l f0 ⟨[r0,r1,r2,r3,r4,r5,r6,r7],mem,[],[],0⟩=(1,⟨m.regs,m.mem,m.told,m.back,pc'⟩) from⟨_,iD.out.trans (Cf.kZ l j m _ 1 Hst.out)⟩)
       obtain⟨s0,s1,s2,s3,s4,s5,s6,s7,T,ct,M',cm',hrs,hp,hq,hgB,hlB,hE⟩:=mX Hok.out.regs Hz2.out hb2 Hbr.out Hk8.out hRM
       obtain⟨regs,mem',told,back,pc⟩:=m
       dsimp only at *
       subst hrs
       obtain⟨p0,p1,p2,p3,p4,p5,p6,p7,p8,p9,p10,pf⟩:=jF hp
       obtain⟨q0,q1,q2,q3,q4,q5,q6,q7,q8,q9,q10,qf⟩:=jF hq
       have pf:=pf 0
       have HE:=hid hE
       clear hE hp hq hRM
       go_wp2
       refine bodyPost_ret (v:=.tuple #[.agg #[.int .i64 1,.int .i64 s0,.int .i64 s1,.int .i64 s2,.int .i64 s3,.int .i64 s4,.int .i64 s5,.int .i64 s6,.int .i64 s7,.slice T told.length ct,.slice M' mem'.length cm'],.int .i64 0]) (by simp[results,Tryz.results151,go_sem,World.cell?_alloc_lt,hlB,q0,q1,q2,q3,q4,q5,q6,q7,q8,q9,q10]) rfl ?_
       obtain⟨pc',hend⟩:=oh.out
       rw[HR.out,Int.toNat_natCast,hend]
       refine dW.post (w2:=w2) (g:=g) (told:=told) (mem:=mem') ?_
       repeat (first|(with_reducible exact HE.out)|(with_reducible refine dW.alloc ?_ _)|(with_reducible refine dW.low ?_ _ _)|(with_reducible refine dW.put0 ?_ _))
      ·as_aux_lemma=>
        obtain⟨kb,hkb⟩:∃kb,m.back.length=kb+1:=⟨m.back.length-1,by have:=List.length_pos_iff.2 hbe;omega⟩
        obtain⟨q,hq⟩:∃q,m.back[kb]?=some q:=⟨_,List.getElem?_eq_getElem (by omega)⟩
        have hql:m.back.getLastD 0=q:=by rw[List.getLastD_eq_getLast?,List.getLast?_eq_getElem?,hkb];simp[hq]
        have hst:Cf.step l m = .on ⟨m.regs,m.mem,m.told,m.back.dropLast,q⟩:=by rw[HS.out,← hql];simp[Cf.exec,hbe]
        obtain⟨gr,rfl,hgr,hgr2,_,hcr⟩:=hRM.back_.cells (by intro h;exact hbe (by simpa [kK] using h))
        have cq:wr.cell? ⟨gr,kb,none⟩=some (.int .i64 (q:Int)):=hcr kb q (by simp[kK,hq])
        have hcap:=hRM.back_.cap_
        rw[jE]at hcap
        have hrm:=(hRM.pop hbe rfl q).alloc (.cells #[.int .i64 13,.int .i64 (a:Int),.int .i64 (b:Int),.int .i64 (c:Int)] 121)
        rw[hkb]at hcap hrm hbl
        rw[hkb]
        have Hrm:=hid hrm
        have Hst:=hid hst
        have Hkb:=hid hkb
        clear hst hrm hkb hcr hq hql hbe hRM h7 hj
        go_wp2
        go_roundw
        case rel=>exact⟨⟨m.regs,m.mem,m.told,m.back.dropLast,q⟩,j,some ⟨gr,0,none⟩,cr,by go_num,by simp[Hkb.out],rfl,by omega,Cf.step_ok Hz.out hrl Hok.out Hst.out,by simpa [Hkb.out] using Hrm.out,Hbr.out.alloc (by omega) _,iD.out.trans (Cf.eY l j m _ Hst.out)⟩
        case measure=>simp[intOf]
     ·have hc8:c<8:=by have:=h13 (by omega);omega
      clear h13
      obtain⟨y,hy1⟩:∃z,z=m.rg (c:Int):=⟨_,rfl⟩
      have cc:wr.cell? ⟨g,1+c,none⟩=some (.int .i64 y):=by rw[hy1];exact hRM.reg Hok.out.regs c hc8
      have hyr:0≤y∧y≤65535:=by rw[hy1];exact Hok.out.rg _
      obtain⟨nz,hyr2⟩:=hyr
      have Hy1:=hid hy1
      clear hy1
      obtain⟨z,hz⟩:∃z,z=m.rg (a:Int):=⟨_,rfl⟩
      rw[← hz]at ca
      have htl:=Hok.out.told
      by_cases hlong:100≤m.told.length
      ·have hst:Cf.step l m = .fin 5 ⟨m.regs,m.mem,m.told,m.back,m.pc+1⟩:=by rw[HS.out];simp[Cf.exec,hlong]
       have Hst:=hid hst
       clear hst h7 hj hz
       have oh:=hid (show ∃pc',Cf.gY l f0 ⟨[r0,r1,r2,r3,r4,r5,r6,r7],mem,[],[],0⟩=(5,⟨m.regs,m.mem,m.told,m.back,pc'⟩) from⟨_,iD.out.trans (Cf.kZ l j m _ 5 Hst.out)⟩)
       obtain⟨s0,s1,s2,s3,s4,s5,s6,s7,T,ct,M',cm',hrs,hp,hq,hgB,hlB,hE⟩:=mX Hok.out.regs Hz2.out hb2 Hbr.out Hk8.out hRM
       obtain⟨regs,mem',told,back,pc⟩:=m
       dsimp only at *
       subst hrs
       obtain⟨p0,p1,p2,p3,p4,p5,p6,p7,p8,p9,p10,pf⟩:=jF hp
       obtain⟨q0,q1,q2,q3,q4,q5,q6,q7,q8,q9,q10,qf⟩:=jF hq
       have pf:=pf 0
       have HE:=hid hE
       clear hE hp hq hRM
       go_wp2
       refine bodyPost_ret (v:=.tuple #[.agg #[.int .i64 5,.int .i64 s0,.int .i64 s1,.int .i64 s2,.int .i64 s3,.int .i64 s4,.int .i64 s5,.int .i64 s6,.int .i64 s7,.slice T told.length ct,.slice M' mem'.length cm'],.int .i64 0]) (by simp[results,Tryz.results151,go_sem,World.cell?_alloc_lt,hlB,q0,q1,q2,q3,q4,q5,q6,q7,q8,q9,q10]) rfl ?_
       obtain⟨pc',hend⟩:=oh.out
       rw[HR.out,Int.toNat_natCast,hend]
       refine dW.post (w2:=w2) (g:=g) (told:=told) (mem:=mem') ?_
       repeat (first|(with_reducible exact HE.out)|(with_reducible refine dW.alloc ?_ _)|(with_reducible refine dW.low ?_ _ _)|(with_reducible refine dW.put0 ?_ _))
      ·as_aux_lemma=>
        have hst:Cf.step l m = .on ⟨m.regs,m.mem,m.told++[z],m.back,m.pc+1⟩:=by rw[HS.out,hz];simp[Cf.exec,hlong,Cf.aZ.rg]
        have Hst:=hid hst
        obtain⟨vm,vt,hs⟩:=hRM
        obtain⟨T,ct,rfl⟩:=hs.told.form
        have c9:wr.cell? ⟨g,9,none⟩=some (.slice T m.told.length ct):=(hs.blk.cell 9).trans (uh Hok.out.regs 0)
        have hs2:=((hs.alloc (.cells #[.int .i64 14,.int .i64 (a:Int),.int .i64 (b:Int),.int .i64 (c:Int)] 121)).alloc (.cells #[.int .i64 z] 3)).draw 1
        have Lh:=hid (show((wr.alloc (.cells #[.int .i64 14,.int .i64 (a:Int),.int .i64 (b:Int),.int .i64 (c:Int)] 121)).alloc (.cells #[.int .i64 z] 3)).drew.ownsRow w2.heap.size 3 1 (.slice T m.told.length ct) m.told.length (m.told.map (Value.int .i64)) from hs2.told)
        have MH:=hid (ax hs.told hs.blk dH)
        have HF:=hid (show((wr.alloc (.cells #[.int .i64 14,.int .i64 (a:Int),.int .i64 (b:Int),.int .i64 (c:Int)] 121)).alloc (.cells #[.int .i64 z] 3)).drew.frozen? ⟨g,9,none⟩=false from hs2.blk.open_ 9)
        have HCe:=hid (show((wr.alloc (.cells #[.int .i64 14,.int .i64 (a:Int),.int .i64 (b:Int),.int .i64 (c:Int)] 121)).alloc (.cells #[.int .i64 z] 3)).drew.cell? ⟨g,9,none⟩=some (.slice T m.told.length ct) from(hs2.blk.cell 9).trans (uh Hok.out.regs 0))
        have HW:=hid (show g<((wr.alloc (.cells #[.int .i64 14,.int .i64 (a:Int),.int .i64 (b:Int),.int .i64 (c:Int)] 121)).alloc (.cells #[.int .i64 z] 3)).drew.heap.size by simp;omega)
        have HN:=hid (show((wr.alloc (.cells #[.int .i64 14,.int .i64 (a:Int),.int .i64 (b:Int),.int .i64 (c:Int)] 121)).alloc (.cells #[.int .i64 z] 3)).drew.heap[wr.heap.size+1]?=some (.cells #[.int .i64 z] 3 (0,0)) by have:=heap_alloc_new (wr.alloc (.cells #[.int .i64 14,.int .i64 (a:Int),.int .i64 (b:Int),.int .i64 (c:Int)] 121)) (.cells #[.int .i64 z] 3);rw[show(wr.alloc (.cells #[.int .i64 14,.int .i64 (a:Int),.int .i64 (b:Int),.int .i64 (c:Int)] 121)).heap.size=wr.heap.size+1 by simp]at this;exact this)
        have Hs:=hid hs
        clear hst hs hs2 hz h7 hj
        have ia:(a:Int)<8:=by omega
        have ia0:(0:Int)≤(a:Int):=by omega
        go_wp2_with fail
        go_region_law ((refine step_append_lies _ (by rfl) _ _ _ (by rfl) w2.heap.size 3 i0 (.int .i64 0) 1 8 Tryz.underlying23 Hi.out Hz0.out Hz1.out Hzb.out rfl (by omega) (.slice T m.told.length ct) m.told.length (m.told.map (Value.int .i64)) (by rfl) Lh.out ⟨wr.heap.size+1,0,none⟩ 1 1 [.int .i64 z] (by rfl) (by rfl) (World.news_of_block (cs:=#[.int .i64 z]) (t:=3) (fr:=(0,0)) (HN.out)) (by simp[Value.oneCell']) (by omega) (by unfold maxLen;omega) (by omega) (by simp;omega) (wr.heap.size+1+1) (by simp) ?_;intro gg cap w5 hown hgr hat Oq;have kf:=(hgr.frozen_far ⟨g,9,none⟩ HW.out (Ne.symm MH.out)).trans HF.out;have k9:=(hgr.cell_far ⟨g,9,none⟩ HW.out (Ne.symm MH.out)).trans HCe.out;have HX1:=hid hown;have HX2:=hid hgr;have HX3:=hid hat;clear hown hgr hat))
        all_goals go_wp2
        all_goals go_roundw
        all_goals first
         | (case rel=>exact⟨⟨m.regs,m.mem,m.told++[z],m.back,m.pc+1⟩,j,R,cr,by go_num,rfl,by go_num,by omega,Cf.step_ok Hz.out hrl Hok.out Hst.out,(KF Hok.out.regs Hs.out HX1.out HX2.out HX3.out (m.pc+1)).1,Hbr.out.trans (KF Hok.out.regs Hs.out HX1.out HX2.out HX3.out (m.pc+1)).2,iD.out.trans (Cf.eY l j m _ Hst.out)⟩)
         | (case measure=>simp[intOf])
     ·have hc8:c<8:=by have:=h13 (by omega);omega
      clear h13
      obtain⟨y,hy1⟩:∃z,z=m.rg (c:Int):=⟨_,rfl⟩
      have cc:wr.cell? ⟨g,1+c,none⟩=some (.int .i64 y):=by rw[hy1];exact hRM.reg Hok.out.regs c hc8
      have hyr:0≤y∧y≤65535:=by rw[hy1];exact Hok.out.rg _
      obtain⟨nz,hyr2⟩:=hyr
      have Hy1:=hid hy1
      clear hy1
      have hst:Cf.step l m = .fin 1 ⟨m.regs,m.mem,m.told,m.back,m.pc+1⟩:=by rw[HS.out];simp[Cf.exec]
      have Hst:=hid hst
      clear hst h7 hj
      have oh:=hid (show ∃pc',Cf.gY l f0 ⟨[r0,r1,r2,r3,r4,r5,r6,r7],mem,[],[],0⟩=(1,⟨m.regs,m.mem,m.told,m.back,pc'⟩) from⟨_,iD.out.trans (Cf.kZ l j m _ 1 Hst.out)⟩)
      obtain⟨s0,s1,s2,s3,s4,s5,s6,s7,T,ct,M',cm',hrs,hp,hq,hgB,hlB,hE⟩:=mX Hok.out.regs Hz2.out hb2 Hbr.out Hk8.out hRM
      obtain⟨regs,mem',told,back,pc⟩:=m
      dsimp only at *
      subst hrs
      obtain⟨p0,p1,p2,p3,p4,p5,p6,p7,p8,p9,p10,pf⟩:=jF hp
      obtain⟨q0,q1,q2,q3,q4,q5,q6,q7,q8,q9,q10,qf⟩:=jF hq
      have pf:=pf 0
      have HE:=hid hE
      clear hE hp hq hRM
      go_wp2
      refine bodyPost_ret (v:=.tuple #[.agg #[.int .i64 1,.int .i64 s0,.int .i64 s1,.int .i64 s2,.int .i64 s3,.int .i64 s4,.int .i64 s5,.int .i64 s6,.int .i64 s7,.slice T told.length ct,.slice M' mem'.length cm'],.int .i64 0]) (by simp[results,Tryz.results151,go_sem,World.cell?_alloc_lt,hlB,q0,q1,q2,q3,q4,q5,q6,q7,q8,q9,q10]) rfl ?_
      obtain⟨pc',hend⟩:=oh.out
      rw[HR.out,Int.toNat_natCast,hend]
      refine dW.post (w2:=w2) (g:=g) (told:=told) (mem:=mem') ?_
      repeat (first|(with_reducible exact HE.out)|(with_reducible refine dW.alloc ?_ _)|(with_reducible refine dW.low ?_ _ _)|(with_reducible refine dW.put0 ?_ _))
    ·have hst:Cf.step l m = .fin 3 m:=by unfold Cf.step;rw[List.getElem?_eq_none (by omega)]
     have Hst:=hid hst
     clear hst
     have oh:=hid (show ∃pc',Cf.gY l f0 ⟨[r0,r1,r2,r3,r4,r5,r6,r7],mem,[],[],0⟩=(3,⟨m.regs,m.mem,m.told,m.back,pc'⟩) from⟨_,iD.out.trans (Cf.kZ l j m m 3 Hst.out)⟩)
     obtain⟨s0,s1,s2,s3,s4,s5,s6,s7,T,ct,M',cm',hrs,hp,hq,hgB,hlB,hE⟩:=mX Hok.out.regs Hz2.out hb2 Hbr.out Hk8.out hRM
     obtain⟨regs,mem',told,back,pc⟩:=m
     dsimp only at *
     subst hrs
     obtain⟨p0,p1,p2,p3,p4,p5,p6,p7,p8,p9,p10,pf⟩:=jF hp
     obtain⟨q0,q1,q2,q3,q4,q5,q6,q7,q8,q9,q10,qf⟩:=jF hq
     have pf:=pf 0
     have HE:=hid hE
     clear hE hp hq hRM
     go_wp2
     refine bodyPost_ret (v:=.tuple #[.agg #[.int .i64 3,.int .i64 s0,.int .i64 s1,.int .i64 s2,.int .i64 s3,.int .i64 s4,.int .i64 s5,.int .i64 s6,.int .i64 s7,.slice T told.length ct,.slice M' mem'.length cm'],.int .i64 0]) (by simp[results,Tryz.results151,go_sem,q0,q1,q2,q3,q4,q5,q6,q7,q8,q9,q10]) rfl ?_
     obtain⟨pc',hend⟩:=oh.out
     rw[HR.out,Int.toNat_natCast,hend]
     refine dW.post (w2:=w2) (g:=g) (told:=told) (mem:=mem') ?_
     repeat (first|(with_reducible exact HE.out)|(with_reducible refine dW.alloc ?_ _)|(with_reducible refine dW.low ?_ _ _)|(with_reducible refine dW.put0 ?_ _))
end
end Go.Proofs.YtnnhhbjbdmgpiaaGreatDoor
