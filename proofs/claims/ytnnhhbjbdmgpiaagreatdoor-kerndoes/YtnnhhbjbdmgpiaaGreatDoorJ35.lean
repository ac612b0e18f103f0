/- Texts of the proofs: RefM. -/
import Derived.Test.YtnnhhbjbdmgpiaaGreatDoorJ34
import Derived.Test.YtnnhhbjbdmgpiaaGreatDoorJ28
set_option linter.unusedSimpArgs false
set_option linter.unusedVariables false
namespace Go.Proofs.YtnnhhbjbdmgpiaaGreatDoor
set_option maxRecDepth 100000
set_option maxHeartbeats 4000000
open Lib (hid)
section
open Go.RowKit
theorem F9(n:Int)(l:Nat):Cf.inB n 0 ((l:Int)-1)=Cf.aI n l:=by
 unfold Cf.inB Cf.aI
 rw[Bool.eq_iff_iff]
 simp
 omega
def MJ(w2:World)(c:Bool)(x:Value)(w:World):Prop:=x = .bool c∧∃n,w=w2.drewN n
theorem Aj{B:Nat}{wb:World}{g:Nat}{a:KA}{xs:List MV}{ps:List PV}(k:Cf.ag)(w:World)(nm b0 da:List UInt8)(kd un:Int)(h:KSt B wb g a xs ps k w)(h8:k.nodes.length=8)(hml:k.mods.length≤8)(hnl:nm.length≤maxLen):
  Calls Tryz.prog 41 #[.pointer (some ⟨g,0,none⟩),.string ⟨nm.toArray⟩,.agg #[.string ⟨b0.toArray⟩,.int .i64 kd,.string ⟨da.toArray⟩,.int .i64 un]] w (dF B wb g w (Cf.nG k ⟨nm,kd,da,un⟩)):=by
 obtain⟨A,ca,M,cm,N,cn,S,cs,Q,cq⟩:=a
 obtain⟨gN,hgN,hNB,hNlt,_⟩:=h.own.nodes.at_ (i:=0) (List.getElem?_eq_getElem (by rw[h8];omega))
 simp only at hgN
 subst hgN
 have H:=hid h
 obtain⟨w0,hw0⟩:∃w0:World,w0=(w.alloc (.cells #[.string ⟨b0.toArray⟩,.int .i64 kd,.string ⟨da.toArray⟩,.int .i64 un] bu)).alloc (.cells #[.int .i64 0,.int .i64 0,.string ⟨#[]⟩] au):=⟨_,rfl⟩
 have HW0:=hid (show Below w.heap.size w w0 by rw[hw0];exact((Below.refl _ _).alloc (Nat.le_refl _) _).alloc (by simp) _)
 have HF0:=hid (show Wb w0 w.heap.size bu [.string ⟨b0.toArray⟩,.int .i64 kd,.string ⟨da.toArray⟩,.int .i64 un] by rw[hw0];exact(Wb.new w bu [.string ⟨b0.toArray⟩,.int .i64 kd,.string ⟨da.toArray⟩,.int .i64 un]).alloc _)
 have HXw:=hid (show KpA w w0 by rw[hw0];exact(KpA.alloc w _).trans (KpA.alloc _ _))
 have HX0:=hid (KpA.refl w0)
 have HXB:=hid (show Wb w0 (w.heap.size+1) au [.int .i64 0,.int .i64 0,.string ⟨#[]⟩] by
  rw[hw0]
  have:=Wb.new (w.alloc (.cells #[.string ⟨b0.toArray⟩,.int .i64 kd,.string ⟨da.toArray⟩,.int .i64 un] bu)) au [.int .i64 0,.int .i64 0,.string ⟨#[]⟩]
  rwa [show(w.alloc (.cells #[.string ⟨b0.toArray⟩,.int .i64 kd,.string ⟨da.toArray⟩,.int .i64 un] bu)).heap.size=w.heap.size+1 by simp]at this)
 have hroom:B≤w.heap.size+1:=Nat.le_succ_of_le h.room
 have hlow:w.heap.size≤w.heap.size+1:=Nat.le_succ _
 have H8:=hid h8
 have Hw0:=hid hw0
 have HNm:=hid (fun W=>kD nm hnl W)
 have HFf:=hid (fun W (hW:Below w.heap.size w W)=>by
  have:=rW k ⟨A,ca,M,cm,some ⟨gN,0,none⟩,cn,S,cs,Q,cq⟩ nm W (h.below hW).ptr.2 h8
  simpa only[af,h8] using this)
 have HWi:=hid (fun W=>by
  have:=dY un 0 ((k.mods.length:Int)-1) W
  rwa [F9]at this)
 have HT:=hid (show Cf.nG k ⟨nm,kd,da,un⟩=if Cf.nameB nm=false then Cf.ai k 4 else if 0≤Cf.aJ (Cf.aQ nm) k.nodes then Cf.ai k 7 else if kd=2∧Cf.aI un k.mods.length=false then Cf.ai k 6
  else if Cf.aJ Cf.aW k.nodes<0 then Cf.ai k 8 else⟨⟨k.mods,k.mem,k.nodes.set (Cf.aJ Cf.aW k.nodes).toNat ⟨nm,kd,da,un⟩,k.pipes,k.procs⟩,⟨0,Cf.aJ Cf.aW k.nodes,[]⟩⟩ from rfl)
 have HFin:=hid (fun(W:World) (hW:KSt B wb g ⟨A,ca,M,cm,some ⟨gN,0,none⟩,cn,S,cs,Q,cq⟩ xs ps k W) (hX:KpA w0 W)=>ay hW hX HXw.out HXB.out hlow hroom)
 have HXA:=hid (fun W (hX:KpA w0 W)=>hX _ _ HXB.out)
 obtain⟨D,hD⟩:∃D,D=Cf.nG k ⟨nm,kd,da,un⟩:=⟨_,rfl⟩
 rw[← hD]
 have HT:=hid (hD.trans HT.out)
 clear h hnl hw0 h8 hD
 generalize Cf.nameB nm=b at *
 generalize hz1':Cf.aJ (Cf.aQ nm) k.nodes=z1 at *
 clear hz1'
 go_enter Tryz.func41,Tryz.ntmps41
 go_upto_region 1 with fail
 rw[← Hw0.out]
 go_wp2_with fail
 refine(HNm.out _).mono ?_
 rintro e w1 ⟨rfl,rfl⟩
 clear HNm
 have hX0:=HXA.out _ HX0.out
 obtain⟨p0,p1,p2,f0,hl9⟩:=aS hX0
 have o8:=hid (HFin.out _ (H.out.below HW0.out) HX0.out)
 clear hX0
 cases b
 ·obtain rfl:=HT.out.trans (if_pos rfl)
  clear HFf HT HWi H8 HF0 HW0 HXB HX0 HXw HXA HFin H Hw0
  go_wp2
  refine bodyPost_ret (v:=.agg #[.int .i64 4,.int .i64 0,.string ⟨#[]⟩]) (by simp[results,Tryz.results41,go_sem,p0,p1,p2]) rfl ?_
  exact⟨rfl,by(show ah _ _ _ _ k _);with_reducible exact o8.out _ _ _⟩
 have HT:=hid (HT.out.trans (if_neg (by decide)))
 clear p0 p1 p2 f0 hl9 o8
 have hK0:=H.out.below HW0.out
 have c0:=hK0.ptr.c0
 have c1:=hK0.ptr.c1
 have c2:=hK0.ptr.c2
 have c3:=hK0.ptr.c3
 have c4:=hK0.ptr.c4
 simp only[H8.out]at c2
 have hl:=hK0.box.lt
 clear hK0
 go_wp2_with fail
 refine(HFf.out _ HW0.out).mono ?_
 rintro e w2 ⟨rfl,hb2⟩
 have HW2:=hid (HW0.out.trans (hb2.mono HW0.out.size))
 have HX2:=hid (HX0.out.below hb2)
 have HF2:=hid (HF0.out.below hb2 HF0.out.lt)
 clear hb2 HW0 HX0 HF0 HFf c0 c1 c2 c3 c4 hl
 have hX2:=HXA.out _ HX2.out
 obtain⟨p0,p1,p2,f0,hl9⟩:=aS hX2
 have o8:=hid (HFin.out _ (H.out.below HW2.out) HX2.out)
 clear hX2
 by_cases hz1:0≤z1
 ·obtain rfl:=HT.out.trans (if_pos hz1)
  clear HT HWi H8 HF2 HW2 HXB HX2 HXw HXA HFin H Hw0
  go_wp2
  refine bodyPost_ret (v:=.agg #[.int .i64 7,.int .i64 0,.string ⟨#[]⟩]) (by simp[results,Tryz.results41,go_sem,p0,p1,p2]) rfl ?_
  exact⟨rfl,by(show ah _ _ _ _ k _);with_reducible exact o8.out _ _ _⟩
 have HT:=hid (HT.out.trans (if_neg hz1))
 clear p0 p1 p2 f0 hl9 o8
 have hK2:=H.out.below HW2.out
 have c0:=hK2.ptr.c0
 have hl2:=hK2.box.lt
 clear hK2
 have hF2:=HF2.out
 have t1:=hF2.cell 1
 have t3:=hF2.cell 3
 simp only[gq]at t1 t3
 have tl:=hF2.lt
 clear hF2
 obtain⟨c,hc⟩:∃c,c=decide (kd=2∧Cf.aI un k.mods.length=false):=⟨_,rfl⟩
 go_upto_region 5 with fail
 go_cut [33] from 19 to 60 (fun x wx=>MJ w2 c x wx)
 case first=>
  by_cases hk:kd=2
  ·subst hk
   go_quiet ((go_at_call 39;exact dJ (HWi.out _)))
   go_wp2
   go_meet
   case rel=>exact⟨by rw[hc];cases Cf.aI un k.mods.length<;>simp,_,rfl⟩
  ·have hkb:(kd == 2)=false:=by rw[beq_eq_false_iff_ne];exact hk
   go_quiet (fail)
   go_wp2
   go_meet
   case rel=>exact⟨by rw[hc];simp[hk],_,rfl⟩
 case rest=>
  obtain⟨rfl,n,rfl⟩:=hcut
  clear c0 hl2 t1 t3 tl HWi
  have HW3:=hid (below_drewN HW2.out n)
  have HX3:=hid (HX2.out.draw n)
  have HF3:=hid (HF2.out.draw n)
  clear HW2 HX2 HF2
  generalize w2.drewN n=w3 at *
  have hX3:=HXA.out _ HX3.out
  obtain⟨p0,p1,p2,f0,hl9⟩:=aS hX3
  have o8:=hid (HFin.out _ (H.out.below HW3.out) HX3.out)
  clear hX3
  cases c
  ·have HT:=hid (HT.out.trans (if_neg (of_decide_eq_false hc.symm)))
   clear hc p0 p1 p2 f0 hl9 o8
   go_wp2
   go_loopw [7] (fun iv wr=>∃n:Nat,n≤8∧iv = .int .i64 n∧(k.nodes.take n).any Cf.aW=false∧w3=wr) (fun iv _=>8-(intOf iv).toNat)
   case atStart=>exact⟨0,by omega,rfl,rfl,rfl⟩
   case round=>
    obtain⟨i,hi,rfl,hall,rfl⟩:=hrel
    have aX:=hid hall
    have hK3:=H.out.below HW3.out
    have c2:=hK3.ptr.c2
    simp only[H8.out]at c2
    have hl3:=hK3.box.lt
    clear hall hK3
    by_cases hlt:i<8
    ·obtain⟨n0,k0,d0,e0,hxi⟩:∃n0 k0 d0 e0,k.nodes[i]?=some ⟨n0,k0,d0,e0⟩:=⟨_,_,_,_,List.getElem?_eq_getElem (by rw[H8.out];exact hlt)⟩
     have HXi:=hid hxi
     have hK3:=H.out.below HW3.out
     have hBn:=hK3.Bn rfl hxi
     have r0:w3.cell? ⟨gN,i*4,none⟩=_:=hBn.cell hxi (j:=0) rfl
     have r1:w3.cell? ⟨gN,i*4+1,none⟩=_:=hBn.cell hxi (j:=1) rfl
     have r2:w3.cell? ⟨gN,i*4+2,none⟩=_:=hBn.cell hxi (j:=2) rfl
     have r3:w3.cell? ⟨gN,i*4+3,none⟩=_:=hBn.cell hxi (j:=3) rfl
     have rf:=hBn.open_
     have rl:=hBn.lt
     clear hxi hBn hK3
     by_cases hk0:k0=0
     ·have HI:=hid (Cf.jI HXi.out (show Cf.aW ⟨n0,k0,d0,e0⟩=true by simp[Cf.aW,hk0]) aX.out)
      subst hk0
      have hF3:=HF3.out
      obtain⟨t0,t1,t2,t3,tf,tl⟩:=yx hF3
      have hne1:gN≠w.heap.size:=Nat.ne_of_lt hNlt
      have HW5:=hid (HW3.out.setCell (p:=⟨w.heap.size,0,none⟩) (Nat.le_refl _) (.string ⟨nm.toArray⟩))
      have HK5:=hid (H.out.below HW5.out)
      have HX5:=hid (HX3.out.offX ⟨_,hF3⟩ (by decide) 0 (.string ⟨nm.toArray⟩))
      have HK6:=hid (HK5.out.putNode rfl ⟨nm,kd,da,un⟩ HXi.out)
      have HX6:=hid (HX5.out.offX4 (HK5.out.Bn rfl HXi.out).box (by decide) (i*4) (i*4+1) (i*4+2) (i*4+3) (.string ⟨nm.toArray⟩) (.int .i64 kd) (.string ⟨da.toArray⟩) (.int .i64 un))
      obtain rfl:=HT.out.trans (if_neg (by rw[HI.out];omega))
      clear hF3 HF3 HX3 HW3 HX5 HW5 HK5 HT aX H HFin
      go_wp2
      go_region
      have hX9:=HXA.out _ HX6.out
      have HFin:=hid (ay HK6.out HX6.out HXw.out HXB.out hlow hroom)
      obtain⟨p0,p1,p2,f0,hl9⟩:=aS hX9
      clear hX9 HK6 HX6 HXw HXB HXA
      go_wp2
      refine bodyPost_ret (v:=.agg #[.int .i64 0,.int .i64 i,.string ⟨#[]⟩]) (by simp[results,Tryz.results41,go_sem,p0,p1,p2]) rfl ?_
      refine⟨by rw[HI.out];rfl,?_⟩
      rw[HI.out,Int.toNat_natCast]
      (show ah _ _ _ _ ⟨_,_,_,_,_⟩ _);with_reducible exact(HFin.out _ _ _).draw
     ·have HA:=hid (Cf.fU HXi.out aX.out (show Cf.aW ⟨n0,k0,d0,e0⟩=false by simp[Cf.aW,hk0]))
      have hkb:(k0 == 0)=false:=by rw[beq_eq_false_iff_ne];exact hk0
      clear HT HFin HXA HX3 HF3
      go_wp2
      go_roundw
      case rel=>exact⟨i+1,by omega,by go_num,HA.out,by trivial⟩
      case measure=>simp[intOf];omega
    ·have HI:=hid (Cf.fJ (p:=Cf.aW) (l:=k.nodes) (Cf.any_take aX.out (by rw[H8.out];omega)))
     have hX3:=HXA.out _ HX3.out
     obtain⟨p0,p1,p2,f0,hl9⟩:=aS hX3
     have o8:=hid (HFin.out _ (H.out.below HW3.out) HX3.out)
     obtain rfl:=HT.out.trans (if_pos (by rw[HI.out];omega))
     have hi8:¬(i:Int)<8:=by omega
     clear hX3 HT HFin HXA HX3 HF3 H8 HW3 HXB HXw H c2 hl3 Hw0
     go_wp2
     refine bodyPost_ret (v:=.agg #[.int .i64 8,.int .i64 0,.string ⟨#[]⟩]) (by simp[results,Tryz.results41,go_sem,p0,p1,p2]) rfl ?_
     exact⟨rfl,by(show ah _ _ _ _ k _);with_reducible exact o8.out _ _ _⟩
  ·obtain rfl:=HT.out.trans (if_pos (of_decide_eq_true hc.symm))
   clear HT H8 HF3 HW3 HXB HX3 HXw HXA HFin H Hw0
   clear hc
   go_wp2
   refine bodyPost_ret (v:=.agg #[.int .i64 6,.int .i64 0,.string ⟨#[]⟩]) (by simp[results,Tryz.results41,go_sem,p0,p1,p2]) rfl ?_
   exact⟨rfl,by(show ah _ _ _ _ k _);with_reducible exact o8.out _ _ _⟩
end
end Go.Proofs.YtnnhhbjbdmgpiaaGreatDoor
