/- Texts of the proofs: ActY, ActZ, ActV, ActU, ActT, ActS. -/
import Derived.Test.YtnnhhbjbdmgpiaaGreatDoorJ33
import Derived.Test.YtnnhhbjbdmgpiaaGreatDoorJ27
import Derived.Lib.LazyBuf
set_option linter.unusedSimpArgs false
set_option linter.unusedVariables false
namespace Go.Proofs.YtnnhhbjbdmgpiaaGreatDoor
set_option maxRecDepth 100000
set_option maxHeartbeats 4000000
open Lib (hid)
section
open Go.RowKit
theorem KSt.draw{B:Nat}{wb:World}{g:Nat}{a:KA}{xs:List MV}{ps:List PV}{k:Cf.ag}{w:World}(h:KSt B wb g a xs ps k w):KSt B wb g a xs ps k w.drew:=h.below (Below.refl _ _).drew
theorem tH{B:Nat}{wb:World}{g:Nat}{a:KA}{xs:List MV}{ps:List PV}(k:Cf.ag)(w:World)(nm:List UInt8)(kd un:Int)(h:KSt B wb g a xs ps k w)(hG:Cf.Good k)(hnl:nm.length≤maxLen)(hkd:kd=1∨kd=2):
  Calls Tryz.prog 68 #[.pointer (some ⟨g,0,none⟩),.agg #[.string ⟨nm.toArray⟩,.int .i64 kd,.string ⟨#[]⟩,.int .i64 un]] w (dF B wb g w (Cf.nG k ⟨nm,kd,[],un⟩)):=by
 obtain⟨A,ca,M,cm,N,cn,S,cs,Q,cq⟩:=a
 obtain⟨gN,hgN,hNB,hNlt,_⟩:=h.own.nodes.at_ (i:=0) (List.getElem?_eq_getElem (by rw[hG.nodesL];omega))
 simp only at hgN
 subst hgN
 have H:=hid h
 have HW0:=hid (show Below w.heap.size w ((w.alloc (.cells #[.string ⟨nm.toArray⟩,.int .i64 kd,.string ⟨#[]⟩,.int .i64 un] bu)).alloc (.cells #[.int .i64 0,.int .i64 0,.string ⟨#[]⟩] au)) from((Below.refl _ _).alloc (Nat.le_refl _) _).alloc (by simp) _)
 have HF0:=hid (show Wb ((w.alloc (.cells #[.string ⟨nm.toArray⟩,.int .i64 kd,.string ⟨#[]⟩,.int .i64 un] bu)).alloc (.cells #[.int .i64 0,.int .i64 0,.string ⟨#[]⟩] au)) w.heap.size bu [.string ⟨nm.toArray⟩,.int .i64 kd,.string ⟨#[]⟩,.int .i64 un] from(Wb.new w bu [.string ⟨nm.toArray⟩,.int .i64 kd,.string ⟨#[]⟩,.int .i64 un]).alloc _)
 have HXw:=hid (show KpA w ((w.alloc (.cells #[.string ⟨nm.toArray⟩,.int .i64 kd,.string ⟨#[]⟩,.int .i64 un] bu)).alloc (.cells #[.int .i64 0,.int .i64 0,.string ⟨#[]⟩] au)) from(KpA.alloc w _).trans (KpA.alloc _ _))
 have HX0:=hid (KpA.refl ((w.alloc (.cells #[.string ⟨nm.toArray⟩,.int .i64 kd,.string ⟨#[]⟩,.int .i64 un] bu)).alloc (.cells #[.int .i64 0,.int .i64 0,.string ⟨#[]⟩] au)))
 have HXB:=hid (show Wb ((w.alloc (.cells #[.string ⟨nm.toArray⟩,.int .i64 kd,.string ⟨#[]⟩,.int .i64 un] bu)).alloc (.cells #[.int .i64 0,.int .i64 0,.string ⟨#[]⟩] au)) (w.heap.size+1) au [.int .i64 0,.int .i64 0,.string ⟨#[]⟩] by
  have:=Wb.new (w.alloc (.cells #[.string ⟨nm.toArray⟩,.int .i64 kd,.string ⟨#[]⟩,.int .i64 un] bu)) au [.int .i64 0,.int .i64 0,.string ⟨#[]⟩]
  rwa [show(w.alloc (.cells #[.string ⟨nm.toArray⟩,.int .i64 kd,.string ⟨#[]⟩,.int .i64 un] bu)).heap.size=w.heap.size+1 by simp]at this)
 have hroom:B≤w.heap.size+1:=Nat.le_succ_of_le h.room
 have hlow:w.heap.size≤w.heap.size+1:=Nat.le_succ _
 have HG:=hid hG
 have HNm:=hid (fun W=>oG nm hnl W)
 have HCl:=hid (fun(hb:Cf.nameB nm=true) W=>iy nm W (by rw[vS]at hb;simp only[Bool.and_eq_true,decide_eq_true_eq]at hb;omega))
 have HFf:=hid (fun W (hW:Below w.heap.size w W)=>kX k _ g nm W (h.below hW).ptr (iO (by rw[hG.nodesL];omega)))
 have HFs:=hid (fun W (hW:Below w.heap.size w W)=>yB k _ g W (h.below hW).ptr (iO (by rw[hG.nodesL];omega)))
 have HT:=hid (show Cf.nG k ⟨nm,kd,[],un⟩=if Cf.nameB nm=false then Cf.ai k 4 else if 0≤Cf.aJ (Cf.aQ nm) k.nodes then Cf.ai k 7 else if kd=2∧Cf.aI un k.mods.length=false then Cf.ai k 6
  else if Cf.aJ Cf.aW k.nodes<0 then Cf.ai k 8 else⟨⟨k.mods,k.mem,k.nodes.set (Cf.aJ Cf.aW k.nodes).toNat ⟨nm,kd,[],un⟩,k.pipes,k.procs⟩,⟨0,Cf.aJ Cf.aW k.nodes,[]⟩⟩ from rfl)
 have HI:=hid (Cf.bQ Cf.aW k.nodes)
 have hml:k.mods.length≤8:=hG.modsL
 clear h hG hnl
 generalize Cf.nameB nm=b at *
 generalize Cf.aJ (Cf.aQ nm) k.nodes=z1 at *
 generalize Cf.aJ Cf.aW k.nodes=z2 at *
 cases b
 ·rw[HT.out,if_pos rfl]
  clear HT HFf HFs HI HG HCl
  go_enter Tryz.func68,Tryz.ntmps68
  go_wp2_with fail
  refine(HNm.out _).mono ?_
  rintro e w1 ⟨rfl,hb1⟩
  have HW1:=hid (HW0.out.trans (hb1.mono (HW0.out).size))
  have HX1:=hid (HX0.out.below hb1)
  have HF1:=hid (HF0.out.below hb1 HF0.out.lt)
  clear hb1 HW0 HX0 HF0 HNm
  go_wp2_with fail
  refine(az 4 _).mono ?_
  rintro e w2 ⟨rfl,hb2⟩
  have HW2:=hid (HW1.out.trans (hb2.mono (HW1.out).size))
  have HX2:=hid (HX1.out.below hb2)
  have HF2:=hid (HF1.out.below hb2 HF1.out.lt)
  simp only[aF]
  clear hb2 HW1 HX1 HF1
  have HK2:=hid (H.out.below HW2.out)
  have hX9:=HX2.out _ _ HXB.out
  have HFin:=hid (ay HK2.out HX2.out HXw.out HXB.out hlow hroom)
  obtain⟨p0,p1,p2,f0,hl9⟩:=aS hX9
  clear hX9 HK2 HX2 HXw HXB  HF2 HW2
  go_wp2
  refine bodyPost_ret (v:=.agg #[.int .i64 4,.int .i64 0,.string ⟨#[]⟩]) (by simp[results,Tryz.results68,go_sem,p0,p1,p2]) rfl ?_
  exact⟨rfl,by(show ah _ _ _ _ k _);with_reducible exact HFin.out _ _ _⟩
 ·rw[HT.out,if_neg (by decide)]
  by_cases hz1:0≤z1
  ·rw[if_pos hz1]
   clear HT HFs HI HG HCl
   go_enter Tryz.func68,Tryz.ntmps68
   go_wp2_with fail
   refine(HNm.out _).mono ?_
   rintro e w1 ⟨rfl,hb1⟩
   have HW1:=hid (HW0.out.trans (hb1.mono (HW0.out).size))
   have HX1:=hid (HX0.out.below hb1)
   have HF1:=hid (HF0.out.below hb1 HF0.out.lt)
   clear hb1 HW0 HX0 HF0 HNm
   have hF1:=HF1.out
   have t0:=hF1.cell 0
   simp only[gq]at t0
   have tl:=hF1.lt
   clear hF1
   go_wp2_with fail
   refine(HFf.out _ HW1.out).mono ?_
   rintro e w2 ⟨rfl,hb2⟩
   have HW2:=hid (HW1.out.trans (hb2.mono (HW1.out).size))
   have HX2:=hid (HX1.out.below hb2)
   have HF2:=hid (HF1.out.below hb2 HF1.out.lt)
   clear hb2 HW1 HX1 HF1 HFf t0 tl
   go_wp2_with fail
   refine(az 7 _).mono ?_
   rintro e w3 ⟨rfl,hb3⟩
   have HW3:=hid (HW2.out.trans (hb3.mono (HW2.out).size))
   have HX3:=hid (HX2.out.below hb3)
   have HF3:=hid (HF2.out.below hb3 HF2.out.lt)
   simp only[aF]
   clear hb3 HW2 HX2 HF2
   have HK3:=hid (H.out.below HW3.out)
   have hX9:=HX3.out _ _ HXB.out
   have HFin:=hid (ay HK3.out HX3.out HXw.out HXB.out hlow hroom)
   obtain⟨p0,p1,p2,f0,hl9⟩:=aS hX9
   clear hX9 HK3 HX3 HXw HXB  HF3 HW3
   go_wp2
   refine bodyPost_ret (v:=.agg #[.int .i64 7,.int .i64 0,.string ⟨#[]⟩]) (by simp[results,Tryz.results68,go_sem,p0,p1,p2]) rfl ?_
   exact⟨rfl,by(show ah _ _ _ _ k _);with_reducible exact HFin.out _ _ _⟩
  ·rw[if_neg hz1]
   have HWi:=hid (fun W=>iJ un k.mods.length W)
   rcases hkd with rfl|rfl
   ·rw[if_neg (by omega)]
    by_cases hz2:z2<0
    ·rw[if_pos hz2]
     clear HT HI HG HCl
     go_enter Tryz.func68,Tryz.ntmps68
     go_wp2_with fail
     refine(HNm.out _).mono ?_
     rintro e w1 ⟨rfl,hb1⟩
     have HW1:=hid (HW0.out.trans (hb1.mono (HW0.out).size))
     have HX1:=hid (HX0.out.below hb1)
     have HF1:=hid (HF0.out.below hb1 HF0.out.lt)
     clear hb1 HW0 HX0 HF0 HNm
     have hF1:=HF1.out
     have t0:=hF1.cell 0
     simp only[gq]at t0
     have tl:=hF1.lt
     clear hF1
     go_wp2_with fail
     refine(HFf.out _ HW1.out).mono ?_
     rintro e w2 ⟨rfl,hb2⟩
     have HW2:=hid (HW1.out.trans (hb2.mono (HW1.out).size))
     have HX2:=hid (HX1.out.below hb2)
     have HF2:=hid (HF1.out.below hb2 HF1.out.lt)
     clear hb2 HW1 HX1 HF1 HFf t0 tl
     have HK2:=hid (H.out.below HW2.out)
     have hK2:=HK2.out
     have c0:=hK2.ptr.c0
     have hl2:=hK2.box.lt
     clear hK2
     have hF2:=HF2.out
     obtain⟨t0,t1, -, -, -,tl⟩:=yx hF2
     have t3:=hF2.cell 3
     simp only[gq]at t3
     clear hF2
     go_wp2_with fail
     go_quiet ((go_at_call 70;exact dJ (HWi.out _)))
     clear c0 hl2 t0 t1 t3 tl HK2 HWi
     go_wp2_with fail
     refine(HFs.out _ (below_drewN HW2.out _)).mono ?_
     rintro e w3 ⟨rfl,hb3⟩
     have HW3:=hid ((below_drewN HW2.out _).trans (hb3.mono ((below_drewN HW2.out _)).size))
     have HX3:=hid ((HX2.out.draw _).below hb3)
     have HF3:=hid ((HF2.out.draw _).below hb3 HF2.out.lt)
     clear hb3 HW2 HX2 HF2 HFs
     go_wp2_with fail
     refine(az 8 _).mono ?_
     rintro e w4 ⟨rfl,hb4⟩
     have HW4:=hid (HW3.out.trans (hb4.mono (HW3.out).size))
     have HX4:=hid (HX3.out.below hb4)
     have HF4:=hid (HF3.out.below hb4 HF3.out.lt)
     simp only[aF]
     clear hb4 HW3 HX3 HF3
     have HK4:=hid (H.out.below HW4.out)
     have hX9:=HX4.out _ _ HXB.out
     have HFin:=hid (ay HK4.out HX4.out HXw.out HXB.out hlow hroom)
     obtain⟨p0,p1,p2,f0,hl9⟩:=aS hX9
     clear hX9 HK4 HX4 HXw HXB  HF4 HW4
     go_wp2
     refine bodyPost_ret (v:=.agg #[.int .i64 8,.int .i64 0,.string ⟨#[]⟩]) (by simp[results,Tryz.results68,go_sem,p0,p1,p2]) rfl ?_
     exact⟨rfl,by(show ah _ _ _ _ k _);with_reducible exact HFin.out _ _ _⟩
    ·rw[if_neg hz2]
     obtain⟨_,hzz⟩|⟨i,x,hzi,hxi,hfr,_⟩:=HI.out
     ·omega
     have hi8:i<8:=by rw[← HG.out.nodesL];exact(List.getElem?_eq_some_iff.1 hxi).1
     have HXi:=hid hxi
     subst hzi
     rw[Int.toNat_natCast]
     clear HT HI hxi hfr hz2
     go_enter Tryz.func68,Tryz.ntmps68
     go_wp2_with fail
     refine(HNm.out _).mono ?_
     rintro e w1 ⟨rfl,hb1⟩
     have HW1:=hid (HW0.out.trans (hb1.mono (HW0.out).size))
     have HX1:=hid (HX0.out.below hb1)
     have HF1:=hid (HF0.out.below hb1 HF0.out.lt)
     clear hb1 HW0 HX0 HF0 HNm
     have hF1:=HF1.out
     have t0:=hF1.cell 0
     simp only[gq]at t0
     have tl:=hF1.lt
     clear hF1
     go_wp2_with fail
     refine(HFf.out _ HW1.out).mono ?_
     rintro e w2 ⟨rfl,hb2⟩
     have HW2:=hid (HW1.out.trans (hb2.mono (HW1.out).size))
     have HX2:=hid (HX1.out.below hb2)
     have HF2:=hid (HF1.out.below hb2 HF1.out.lt)
     clear hb2 HW1 HX1 HF1 HFf t0 tl
     have HK2:=hid (H.out.below HW2.out)
     have hK2:=HK2.out
     have c0:=hK2.ptr.c0
     have hl2:=hK2.box.lt
     clear hK2
     have hF2:=HF2.out
     obtain⟨t0,t1, -, -, -,tl⟩:=yx hF2
     have t3:=hF2.cell 3
     simp only[gq]at t3
     clear hF2
     go_wp2_with fail
     go_quiet ((go_at_call 70;exact dJ (HWi.out _)))
     clear c0 hl2 t0 t1 t3 tl HK2 HWi
     go_wp2_with fail
     refine(HFs.out _ (below_drewN HW2.out _)).mono ?_
     rintro e w3 ⟨rfl,hb3⟩
     have HW3:=hid ((below_drewN HW2.out _).trans (hb3.mono ((below_drewN HW2.out _)).size))
     have HX3:=hid ((HX2.out.draw _).below hb3)
     have HF3:=hid ((HF2.out.draw _).below hb3 HF2.out.lt)
     clear hb3 HW2 HX2 HF2 HFs
     have hF3:=HF3.out
     have t0:=hF3.cell 0
     simp only[gq]at t0
     have tl:=hF3.lt
     clear hF3
     go_wp2_with fail
     refine(HCl.out trivial _).mono ?_
     rintro e w4 ⟨rfl,hb4⟩
     have HW4:=hid (HW3.out.trans (hb4.mono (HW3.out).size))
     have HX4:=hid (HX3.out.below hb4)
     have HF4:=hid (HF3.out.below hb4 HF3.out.lt)
     clear hb4 HW3 HX3 HF3 HCl t0 tl
     have HK4:=hid (H.out.below HW4.out)
     have hF4:=HF4.out
     obtain⟨t0,t1,t2,t3,tf,tl⟩:=yx hF4
     have hne1:gN≠w.heap.size:=Nat.ne_of_lt hNlt
     have HW5:=hid (HW4.out.setCell (p:=⟨w.heap.size,0,none⟩) (Nat.le_refl _) (.string ⟨nm.toArray⟩))
     have HK5:=hid (H.out.below HW5.out)
     have hX4:=HX4.out _ _ HXB.out
     have hne2:w.heap.size≠w.heap.size+1:=by omega
     have NZ:gN≠w.heap.size+1:=by omega
     have HX5:=hid (HX4.out.offX ⟨_,hF4⟩ (by decide) 0 (.string ⟨nm.toArray⟩))
     clear hX4 HX4 hF4 HF4
     have hK5:=HK4.out
     have c2:=hK5.ptr.c2
     simp only[HG.out.nodesL]at c2
     have hl5:=hK5.box.lt
     have hBn:=hK5.Bn rfl HXi.out
     have r0:w4.cell? ⟨gN,i*4,none⟩=_:=hBn.cell HXi.out (j:=0) rfl
     have r1:=hBn.cell HXi.out (j:=1) rfl
     have r2:=hBn.cell HXi.out (j:=2) rfl
     have r3:=hBn.cell HXi.out (j:=3) rfl
     have rf:=hBn.open_
     have rl:=hBn.lt
     have HK6:=hid (HK5.out.putNode rfl ⟨nm,1,[],un⟩ HXi.out)
     have HX6:=hid (HX5.out.offX4 (HK5.out.Bn rfl HXi.out).box (by decide) (i*4) (i*4+1) (i*4+2) (i*4+3) (.string ⟨nm.toArray⟩) (.int .i64 1) (.string ⟨#[]⟩) (.int .i64 un))
     clear hK5 HK5 hBn HX5 HW4 HW5 H HK4
     go_wp2
     go_region
     have hX9:=HX6.out _ _ HXB.out
     have HFin:=hid (ay HK6.out HX6.out HXw.out HXB.out hlow hroom)
     obtain⟨p0,p1,p2,f0,hl9⟩:=aS hX9
     clear hX9 HK6 HX6 HXw HXB
     go_wp2
     refine bodyPost_ret (v:=.agg #[.int .i64 0,.int .i64 i,.string ⟨#[]⟩]) (by simp[results,Tryz.results68,go_sem,p0,p1,p2]) rfl ?_
     exact⟨rfl,by(show ah _ _ _ _ ⟨_,_,_,_,_⟩ _);with_reducible exact(HFin.out _ _ _).draw⟩
   ·by_cases hq:Cf.aI un k.mods.length=false
    ·rw[if_pos ⟨rfl,hq⟩]
     rw[hq]at HWi
     clear HT HFs HI HG HCl
     go_enter Tryz.func68,Tryz.ntmps68
     go_wp2_with fail
     refine(HNm.out _).mono ?_
     rintro e w1 ⟨rfl,hb1⟩
     have HW1:=hid (HW0.out.trans (hb1.mono (HW0.out).size))
     have HX1:=hid (HX0.out.below hb1)
     have HF1:=hid (HF0.out.below hb1 HF0.out.lt)
     clear hb1 HW0 HX0 HF0 HNm
     have hF1:=HF1.out
     have t0:=hF1.cell 0
     simp only[gq]at t0
     have tl:=hF1.lt
     clear hF1
     go_wp2_with fail
     refine(HFf.out _ HW1.out).mono ?_
     rintro e w2 ⟨rfl,hb2⟩
     have HW2:=hid (HW1.out.trans (hb2.mono (HW1.out).size))
     have HX2:=hid (HX1.out.below hb2)
     have HF2:=hid (HF1.out.below hb2 HF1.out.lt)
     clear hb2 HW1 HX1 HF1 HFf t0 tl
     have HK2:=hid (H.out.below HW2.out)
     have hK2:=HK2.out
     have c0:=hK2.ptr.c0
     have hl2:=hK2.box.lt
     clear hK2
     have hF2:=HF2.out
     obtain⟨t0,t1, -, -, -,tl⟩:=yx hF2
     have t3:=hF2.cell 3
     simp only[gq]at t3
     clear hF2
     go_wp2_with fail
     go_quiet ((go_at_call 70;exact dJ (HWi.out _)))
     clear c0 hl2 t0 t1 t3 tl HK2 HWi
     go_wp2_with fail
     refine(az 6 _).mono ?_
     rintro e w3 ⟨rfl,hb3⟩
     have HW3:=hid ((below_drewN HW2.out _).trans (hb3.mono ((below_drewN HW2.out _)).size))
     have HX3:=hid ((HX2.out.draw _).below hb3)
     have HF3:=hid ((HF2.out.draw _).below hb3 HF2.out.lt)
     simp only[aF]
     clear hb3 HW2 HX2 HF2
     have HK3:=hid (H.out.below HW3.out)
     have hX9:=HX3.out _ _ HXB.out
     have HFin:=hid (ay HK3.out HX3.out HXw.out HXB.out hlow hroom)
     obtain⟨p0,p1,p2,f0,hl9⟩:=aS hX9
     clear hX9 HK3 HX3 HXw HXB  HF3 HW3
     go_wp2
     refine bodyPost_ret (v:=.agg #[.int .i64 6,.int .i64 0,.string ⟨#[]⟩]) (by simp[results,Tryz.results68,go_sem,p0,p1,p2]) rfl ?_
     exact⟨rfl,by(show ah _ _ _ _ k _);with_reducible exact HFin.out _ _ _⟩
    ·rw[if_neg (fun hh=>hq hh.2)]
     rw[Bool.not_eq_false]at hq
     rw[hq]at HWi
     by_cases hz2:z2<0
     ·rw[if_pos hz2]
      clear HT HI HG HCl
      go_enter Tryz.func68,Tryz.ntmps68
      go_wp2_with fail
      refine(HNm.out _).mono ?_
      rintro e w1 ⟨rfl,hb1⟩
      have HW1:=hid (HW0.out.trans (hb1.mono (HW0.out).size))
      have HX1:=hid (HX0.out.below hb1)
      have HF1:=hid (HF0.out.below hb1 HF0.out.lt)
      clear hb1 HW0 HX0 HF0 HNm
      have hF1:=HF1.out
      have t0:=hF1.cell 0
      simp only[gq]at t0
      have tl:=hF1.lt
      clear hF1
      go_wp2_with fail
      refine(HFf.out _ HW1.out).mono ?_
      rintro e w2 ⟨rfl,hb2⟩
      have HW2:=hid (HW1.out.trans (hb2.mono (HW1.out).size))
      have HX2:=hid (HX1.out.below hb2)
      have HF2:=hid (HF1.out.below hb2 HF1.out.lt)
      clear hb2 HW1 HX1 HF1 HFf t0 tl
      have HK2:=hid (H.out.below HW2.out)
      have hK2:=HK2.out
      have c0:=hK2.ptr.c0
      have hl2:=hK2.box.lt
      clear hK2
      have hF2:=HF2.out
      obtain⟨t0,t1, -, -, -,tl⟩:=yx hF2
      have t3:=hF2.cell 3
      simp only[gq]at t3
      clear hF2
      go_wp2_with fail
      go_quiet ((go_at_call 70;exact dJ (HWi.out _)))
      clear c0 hl2 t0 t1 t3 tl HK2 HWi
      go_wp2_with fail
      refine(HFs.out _ (below_drewN HW2.out _)).mono ?_
      rintro e w3 ⟨rfl,hb3⟩
      have HW3:=hid ((below_drewN HW2.out _).trans (hb3.mono ((below_drewN HW2.out _)).size))
      have HX3:=hid ((HX2.out.draw _).below hb3)
      have HF3:=hid ((HF2.out.draw _).below hb3 HF2.out.lt)
      clear hb3 HW2 HX2 HF2 HFs
      go_wp2_with fail
      refine(az 8 _).mono ?_
      rintro e w4 ⟨rfl,hb4⟩
      have HW4:=hid (HW3.out.trans (hb4.mono (HW3.out).size))
      have HX4:=hid (HX3.out.below hb4)
      have HF4:=hid (HF3.out.below hb4 HF3.out.lt)
      simp only[aF]
      clear hb4 HW3 HX3 HF3
      have HK4:=hid (H.out.below HW4.out)
      have hX9:=HX4.out _ _ HXB.out
      have HFin:=hid (ay HK4.out HX4.out HXw.out HXB.out hlow hroom)
      obtain⟨p0,p1,p2,f0,hl9⟩:=aS hX9
      clear hX9 HK4 HX4 HXw HXB  HF4 HW4
      go_wp2
      refine bodyPost_ret (v:=.agg #[.int .i64 8,.int .i64 0,.string ⟨#[]⟩]) (by simp[results,Tryz.results68,go_sem,p0,p1,p2]) rfl ?_
      exact⟨rfl,by(show ah _ _ _ _ k _);with_reducible exact HFin.out _ _ _⟩
     ·rw[if_neg hz2]
      obtain⟨_,hzz⟩|⟨i,x,hzi,hxi,hfr,_⟩:=HI.out
      ·omega
      have hi8:i<8:=by rw[← HG.out.nodesL];exact(List.getElem?_eq_some_iff.1 hxi).1
      have HXi:=hid hxi
      subst hzi
      rw[Int.toNat_natCast]
      clear HT HI hxi hfr hz2
      go_enter Tryz.func68,Tryz.ntmps68
      go_wp2_with fail
      refine(HNm.out _).mono ?_
      rintro e w1 ⟨rfl,hb1⟩
      have HW1:=hid (HW0.out.trans (hb1.mono (HW0.out).size))
      have HX1:=hid (HX0.out.below hb1)
      have HF1:=hid (HF0.out.below hb1 HF0.out.lt)
      clear hb1 HW0 HX0 HF0 HNm
      have hF1:=HF1.out
      have t0:=hF1.cell 0
      simp only[gq]at t0
      have tl:=hF1.lt
      clear hF1
      go_wp2_with fail
      refine(HFf.out _ HW1.out).mono ?_
      rintro e w2 ⟨rfl,hb2⟩
      have HW2:=hid (HW1.out.trans (hb2.mono (HW1.out).size))
      have HX2:=hid (HX1.out.below hb2)
      have HF2:=hid (HF1.out.below hb2 HF1.out.lt)
      clear hb2 HW1 HX1 HF1 HFf t0 tl
      have HK2:=hid (H.out.below HW2.out)
      have hK2:=HK2.out
      have c0:=hK2.ptr.c0
      have hl2:=hK2.box.lt
      clear hK2
      have hF2:=HF2.out
      obtain⟨t0,t1, -, -, -,tl⟩:=yx hF2
      have t3:=hF2.cell 3
      simp only[gq]at t3
      clear hF2
      go_wp2_with fail
      go_quiet ((go_at_call 70;exact dJ (HWi.out _)))
      clear c0 hl2 t0 t1 t3 tl HK2 HWi
      go_wp2_with fail
      refine(HFs.out _ (below_drewN HW2.out _)).mono ?_
      rintro e w3 ⟨rfl,hb3⟩
      have HW3:=hid ((below_drewN HW2.out _).trans (hb3.mono ((below_drewN HW2.out _)).size))
      have HX3:=hid ((HX2.out.draw _).below hb3)
      have HF3:=hid ((HF2.out.draw _).below hb3 HF2.out.lt)
      clear hb3 HW2 HX2 HF2 HFs
      have hF3:=HF3.out
      have t0:=hF3.cell 0
      simp only[gq]at t0
      have tl:=hF3.lt
      clear hF3
      go_wp2_with fail
      refine(HCl.out trivial _).mono ?_
      rintro e w4 ⟨rfl,hb4⟩
      have HW4:=hid (HW3.out.trans (hb4.mono (HW3.out).size))
      have HX4:=hid (HX3.out.below hb4)
      have HF4:=hid (HF3.out.below hb4 HF3.out.lt)
      clear hb4 HW3 HX3 HF3 HCl t0 tl
      have HK4:=hid (H.out.below HW4.out)
      have hF4:=HF4.out
      obtain⟨t0,t1,t2,t3,tf,tl⟩:=yx hF4
      have hne1:gN≠w.heap.size:=Nat.ne_of_lt hNlt
      have HW5:=hid (HW4.out.setCell (p:=⟨w.heap.size,0,none⟩) (Nat.le_refl _) (.string ⟨nm.toArray⟩))
      have HK5:=hid (H.out.below HW5.out)
      have hX4:=HX4.out _ _ HXB.out
      have hne2:w.heap.size≠w.heap.size+1:=by omega
      have NZ:gN≠w.heap.size+1:=by omega
      have HX5:=hid (HX4.out.offX ⟨_,hF4⟩ (by decide) 0 (.string ⟨nm.toArray⟩))
      clear hX4 HX4 hF4 HF4
      have hK5:=HK4.out
      have c2:=hK5.ptr.c2
      simp only[HG.out.nodesL]at c2
      have hl5:=hK5.box.lt
      have hBn:=hK5.Bn rfl HXi.out
      have r0:w4.cell? ⟨gN,i*4,none⟩=_:=hBn.cell HXi.out (j:=0) rfl
      have r1:=hBn.cell HXi.out (j:=1) rfl
      have r2:=hBn.cell HXi.out (j:=2) rfl
      have r3:=hBn.cell HXi.out (j:=3) rfl
      have rf:=hBn.open_
      have rl:=hBn.lt
      have HK6:=hid (HK5.out.putNode rfl ⟨nm,2,[],un⟩ HXi.out)
      have HX6:=hid (HX5.out.offX4 (HK5.out.Bn rfl HXi.out).box (by decide) (i*4) (i*4+1) (i*4+2) (i*4+3) (.string ⟨nm.toArray⟩) (.int .i64 2) (.string ⟨#[]⟩) (.int .i64 un))
      clear hK5 HK5 hBn HX5 HW4 HW5 H HK4
      go_wp2
      go_region
      have hX9:=HX6.out _ _ HXB.out
      have HFin:=hid (ay HK6.out HX6.out HXw.out HXB.out hlow hroom)
      obtain⟨p0,p1,p2,f0,hl9⟩:=aS hX9
      clear hX9 HK6 HX6 HXw HXB
      go_wp2
      refine bodyPost_ret (v:=.agg #[.int .i64 0,.int .i64 i,.string ⟨#[]⟩]) (by simp[results,Tryz.results68,go_sem,p0,p1,p2]) rfl ?_
      exact⟨rfl,by(show ah _ _ _ _ ⟨_,_,_,_,_⟩ _);with_reducible exact(HFin.out _ _ _).draw⟩
end
section
open Go.RowKit
theorem Bk.from{α:Type}{sz:Nat}{enc:α→List Value}{w:World}{g:Nat}{t:TypeId}{l:List α}(h:Bk sz enc w g t l)(n:Nat):RdS sz enc w (some ⟨g,n*sz,none⟩) (l.drop n):=
 .inr ⟨g,n*sz,rfl,h.lt,fun k x hx j v hv=>by
  rw[List.getElem?_drop]at hx
  have:=h.cell hx hv
  rw[Nat.add_mul]at this
  exact this⟩
theorem DW{k:Cf.ag}{q:Nat}{lv:Bool}{es:List Cf.End}(hq:k.procs[q]?=some ⟨lv,es⟩):Cf.sU k q=if Cf.eX k<0∨Cf.aJ Cf.aK es<0 then Cf.ai k 8 else if Cf.aJ Cf.aK (es.drop ((Cf.aJ Cf.aK es).toNat+1))<0 then Cf.ai k 8
 else⟨⟨k.mods,k.mem,k.nodes,k.pipes,k.procs.set q ⟨lv,(es.set (Cf.aJ Cf.aK es).toNat ⟨2,Cf.eX k,0⟩).set ((Cf.aJ Cf.aK es).toNat+1+(Cf.aJ Cf.aK (es.drop ((Cf.aJ Cf.aK es).toNat+1))).toNat) ⟨3,Cf.eX k,0⟩⟩⟩,⟨0,Cf.aJ Cf.aK es,[]⟩⟩:=by
 have hP:Cf.aN k q=⟨lv,es⟩:=by rw[Cf.aN,List.getD_eq_getElem?_getD,hq];rfl
 have hS:∀i e,Cf.aN (Cf.setEnd k q i e) q=⟨lv,es.set i e⟩:=by
  intro i e
  unfold Cf.setEnd
  rw[hP]
  show(k.procs.set q ⟨lv,es.set i e⟩).getD q Cf.lD=_
  rw[List.getD_eq_getElem?_getD,List.getElem?_set,if_pos rfl,if_pos (List.getElem?_eq_some_iff.1 hq).1]
  rfl
 have hD:∀i e j e',Cf.setEnd (Cf.setEnd k q i e) q j e'=⟨k.mods,k.mem,k.nodes,k.pipes,k.procs.set q ⟨lv,(es.set i e).set j e'⟩⟩:=by
  intro i e j e'
  rw[Cf.setEnd,hS]
  unfold Cf.setEnd
  rw[hP]
  unfold Cf.setProc
  simp only[List.set_set]
 unfold Cf.sU
 rw[hP]
 simp only[hD]
theorem PAt.set{a:KA}{ps:List PV}{k:Cf.ag}{q gQ gE ce:Nat}{lv:Bool}{es:List Cf.End}(h:PAt a ps k q gQ gE ce lv es)(i:Nat)(e:Cf.End):PAt a ps ⟨k.mods,k.mem,k.nodes,k.pipes,k.procs.set q ⟨lv,es.set i e⟩⟩ q gQ gE ce lv (es.set i e):=by
 have hq:(k.procs.set q ⟨lv,es.set i e⟩)[q]?=some ⟨lv,es.set i e⟩:=by rw[List.getElem?_set,if_pos rfl,if_pos (List.getElem?_eq_some_iff.1 h.proc).1]
 exact⟨h.Q,h.pv,hq,by rw[List.length_set];exact h.len,by show(k.procs.set q ⟨lv,es.set i e⟩).getD q Cf.lD=_;rw[List.getD_eq_getElem?_getD,hq];rfl,h.cap⟩
theorem yY{B:Nat}{wb:World}{g:Nat}{a:KA}{xs:List MV}{ps:List PV}(k:Cf.ag)(q gQ:Nat)(w:World)(h:KSt B wb g a xs ps k w)(hG:Cf.Good k)(hq:q<4)(hQ:a.Q=some ⟨gQ,0,none⟩):
  Calls Tryz.prog 112 #[.pointer (some ⟨g,0,none⟩),.pointer (some ⟨gQ,q*2,none⟩)] w (dF B wb g w (Cf.sU k q)):=by
 obtain⟨A,ca,M,cm,N,cn,S,cs,Q,cq⟩:=a
 simp only at hQ
 subst hQ
 obtain⟨gE,ce,lv,es,hP⟩:=h.pat hG.toPre hq rfl
 have H:=hid h
 have HXB:=hid (Wb.new w au [.int .i64 0,.int .i64 0,.string ⟨#[]⟩])
 have HXw:=hid (KpA.alloc w (.cells #[.int .i64 0,.int .i64 0,.string ⟨#[]⟩] au))
 have HX0:=hid (KpA.refl (w.alloc (.cells #[.int .i64 0,.int .i64 0,.string ⟨#[]⟩] au)))
 have hd0:Below w.heap.size w (w.alloc (.cells #[.int .i64 0,.int .i64 0,.string ⟨#[]⟩] au)).drew:=((Below.refl _ _).alloc (Nat.le_refl _) _).drew
 have hroom:=h.room
 have hlow:w.heap.size≤w.heap.size:=Nat.le_refl _
 have HG:=hid hG
 have HP:=hid hP
 have q1:=h.p1 hP
 have ql:=(h.Bp hP).lt
 have HFp:=hid (fun W (hW:Below w.heap.size w W)=>y8 k _ g W (h.below hW).ptr (iO (by rw[hG.pipesL];omega)) (iO (by rw[hG.procsL];omega)) (fun p hp=>iO (by rw[hG.ends p hp];omega)))
 have HFr:=hid (fun W (hW:Below w.heap.size w W)=>show Calls Tryz.prog 137 #[.slice (some ⟨gE,0,none⟩) 6 ce] W (fun e w'=>e = .returned (.int .i64 (Cf.aJ Cf.aK es))∧Below W.heap.size W w') by
  have:=kV es (some ⟨gE,0,none⟩) ce W ((h.below hW).Be hP).rd (by rw[hP.len];unfold maxLen;omega)
  rw[hP.len]at this
  exact this)
 have HFd:=hid (fun(n:Nat) W (hW:Below w.heap.size w W)=>show Calls Tryz.prog 137 #[.slice (some ⟨gE,n*3,none⟩) (6-n) (ce-n)] W (fun e w'=>e = .returned (.int .i64 (Cf.aJ Cf.aK (es.drop n)))∧Below W.heap.size W w') by
  have:=kV (es.drop n) (some ⟨gE,n*3,none⟩) (ce-n) W (((h.below hW).Be hP).from n) (by rw[List.length_drop,hP.len];unfold maxLen;omega)
  rw[List.length_drop,hP.len]at this
  exact this)
 have ug:=hid (fun args w=>show(callFunc 138 args).run Tryz.prog w = .ok (.enter 138 args) w by simp[go_sem])
 have tK:=hid (fun args w=>show(callFunc 137 args).run Tryz.prog w = .ok (.enter 137 args) w by simp[go_sem])
 have HT:=hid (DW hP.proc)
 have HI:=hid (Cf.bQ Cf.aK es)
 clear h hG hP
 generalize Cf.eX k=z1 at *
 generalize Cf.aJ Cf.aK es=z2 at *
 by_cases hz1:z1<0
 ·rw[HT.out,if_pos (.inl hz1)]
  clear HT HI HFd
  go_enter Tryz.func112,Tryz.ntmps112
  go_wp2_with fail
  go_region_law (first
   | (refine aG (by rfl) 138 (.tmp 8) #[82] (by rfl) (.pointer (some ⟨g,0,none⟩)) (by rfl) ug.out (HFp.out _ hwb) ?_
      rintro e w1 ⟨rfl,hb1⟩
      refine⟨_,rfl,?_⟩
      have HW1:=hid (hwb.trans (hb1.mono hwb.size))
      have HX1:=hid (HXb.out.below hb1)
      clear hb1 hwb HXb)
   | (refine aG (by rfl) 137 (.tmp 13) #[67] (by rfl) (.slice (some ⟨gE,0,none⟩) 6 _) (by rfl) tK.out (HFr.out _ hwa) ?_
      rintro e w1 ⟨rfl,hb1⟩
      refine⟨_,rfl,?_⟩
      have HW1:=hid (hwa.trans (hb1.mono hwa.size))
      have HX1:=hid (HXa.out.below hb1)
      clear hb1 hwa HXa)
   | (refine aG (by rfl) 138 (.tmp 8) #[82] (by rfl) (.pointer (some ⟨g,0,none⟩)) (by rfl) ug.out (HFp.out _ hd0) ?_
      rintro e wa ⟨rfl,hb1⟩
      refine⟨_,rfl,?_⟩
      have hwa:=hd0.trans (hb1.mono hd0.size)
      have HXa:=hid ((HX0.out.draw 1).below hb1)
      have q3:=(H.out.below hwa).p1 HP.out
      have ql3:=((H.out.below hwa).Bp HP.out).lt
      clear hb1)
   | (refine aG (by rfl) 137 (.tmp 13) #[67] (by rfl) (.slice (some ⟨gE,0,none⟩) 6 _) (by rfl) tK.out (HFr.out _ hd0) ?_
      rintro e wb ⟨rfl,hb1⟩
      refine⟨_,rfl,?_⟩
      have hwb:=hd0.trans (hb1.mono hd0.size)
      have HXb:=hid ((HX0.out.draw 1).below hb1)
      clear hb1)
   | fail)
  all_goals
   go_wp2_with fail
   refine(az 8 _).mono ?_
   rintro e w2 ⟨rfl,hb2⟩
   have HW2:=hid (HW1.out.trans (hb2.mono (HW1.out).size))
   have HX2:=hid (HX1.out.below hb2)
   simp only[aF]
   clear hb2 HW1 HX1
   have HK2:=hid (H.out.below HW2.out)
   have hX9:=HX2.out _ _ HXB.out
   have HFin:=hid (ay HK2.out HX2.out HXw.out HXB.out hlow hroom)
   obtain⟨p0,p1,p2,f0,hl9⟩:=aS hX9
   clear hX9 HK2 HX2 HXw HXB   HW2
   go_wp2
   refine bodyPost_ret (v:=.agg #[.int .i64 8,.int .i64 0,.string ⟨#[]⟩]) (by simp[results,Tryz.results112,go_sem,p0,p1,p2]) rfl ?_
   exact⟨rfl,by(show ah _ _ _ _ k _);with_reducible exact HFin.out _ _ _⟩
 ·by_cases hz2:z2<0
  ·rw[HT.out,if_pos (.inr hz2)]
   clear HT HI HFd
   go_enter Tryz.func112,Tryz.ntmps112
   go_wp2_with fail
   go_region_law (first
    | (refine aG (by rfl) 138 (.tmp 8) #[82] (by rfl) (.pointer (some ⟨g,0,none⟩)) (by rfl) ug.out (HFp.out _ hwb) ?_
       rintro e w1 ⟨rfl,hb1⟩
       refine⟨_,rfl,?_⟩
       have HW1:=hid (hwb.trans (hb1.mono hwb.size))
       have HX1:=hid (HXb.out.below hb1)
       clear hb1 hwb HXb)
    | (refine aG (by rfl) 137 (.tmp 13) #[67] (by rfl) (.slice (some ⟨gE,0,none⟩) 6 _) (by rfl) tK.out (HFr.out _ hwa) ?_
       rintro e w1 ⟨rfl,hb1⟩
       refine⟨_,rfl,?_⟩
       have HW1:=hid (hwa.trans (hb1.mono hwa.size))
       have HX1:=hid (HXa.out.below hb1)
       clear hb1 hwa HXa)
    | (refine aG (by rfl) 138 (.tmp 8) #[82] (by rfl) (.pointer (some ⟨g,0,none⟩)) (by rfl) ug.out (HFp.out _ hd0) ?_
       rintro e wa ⟨rfl,hb1⟩
       refine⟨_,rfl,?_⟩
       have hwa:=hd0.trans (hb1.mono hd0.size)
       have HXa:=hid ((HX0.out.draw 1).below hb1)
       have q3:=(H.out.below hwa).p1 HP.out
       have ql3:=((H.out.below hwa).Bp HP.out).lt
       clear hb1)
    | (refine aG (by rfl) 137 (.tmp 13) #[67] (by rfl) (.slice (some ⟨gE,0,none⟩) 6 _) (by rfl) tK.out (HFr.out _ hd0) ?_
       rintro e wb ⟨rfl,hb1⟩
       refine⟨_,rfl,?_⟩
       have hwb:=hd0.trans (hb1.mono hd0.size)
       have HXb:=hid ((HX0.out.draw 1).below hb1)
       clear hb1)
    | fail)
   all_goals
    go_wp2_with fail
    refine(az 8 _).mono ?_
    rintro e w2 ⟨rfl,hb2⟩
    have HW2:=hid (HW1.out.trans (hb2.mono (HW1.out).size))
    have HX2:=hid (HX1.out.below hb2)
    simp only[aF]
    clear hb2 HW1 HX1
    have HK2:=hid (H.out.below HW2.out)
    have hX9:=HX2.out _ _ HXB.out
    have HFin:=hid (ay HK2.out HX2.out HXw.out HXB.out hlow hroom)
    obtain⟨p0,p1,p2,f0,hl9⟩:=aS hX9
    clear hX9 HK2 HX2 HXw HXB   HW2
    go_wp2
    refine bodyPost_ret (v:=.agg #[.int .i64 8,.int .i64 0,.string ⟨#[]⟩]) (by simp[results,Tryz.results112,go_sem,p0,p1,p2]) rfl ?_
    exact⟨rfl,by(show ah _ _ _ _ k _);with_reducible exact HFin.out _ _ _⟩
  ·rw[HT.out,if_neg (by omega)]
   obtain⟨_,hzz⟩|⟨i,x,hzi,hxi,hfr,_⟩:=HI.out
   ·omega
   have hi6:i<6:=by rw[← HP.out.len];exact(List.getElem?_eq_some_iff.1 hxi).1
   have HXi:=hid hxi
   subst hzi
   rw[Int.toNat_natCast]
   have Hm:=hid (fun W (hW:Below w.heap.size w W)=>show Calls Tryz.prog 137 #[.slice (some ⟨gE,(i+1)*3,none⟩) (5-i) (ce-(i+1))] W (fun e w'=>e = .returned (.int .i64 (Cf.aJ Cf.aK (es.drop (i+1))))∧Below W.heap.size W w') by
    have:=HFd.out (i+1) W hW
    rw[show 6-(i+1)=5-i by omega]at this
    exact this)
   have HJ:=hid (Cf.bQ Cf.aK (es.drop (i+1)))
   have hc6:=HP.out.cap
   clear HT HI hxi hfr hz2 HFd
   by_cases h5:i=5
   ·have HF0:=hid (fun A c W (n:Nat) (hn:n=0)=>show Calls Tryz.prog 137 #[.slice A n c] W (fun e w'=>e = .returned (.int .i64 (-1))∧Below W.heap.size W w') by
     subst hn
     exact kV [] A c W (.inl rfl) (by decide))
    have hd:es.drop (i+1)=[]:=List.drop_eq_nil_of_le (by rw[HP.out.len];omega)
    rw[if_pos (by rw[hd];decide)]
    have H5:=hid h5
    clear HJ Hm hd h5
    by_cases hnc:ce=i+1
    ·subst hnc
     go_enter Tryz.func112,Tryz.ntmps112
     go_wp2_with fail
     go_region_law (first
      | (refine aG (by rfl) 138 (.tmp 8) #[82] (by rfl) (.pointer (some ⟨g,0,none⟩)) (by rfl) ug.out (HFp.out _ hwb) ?_
         rintro e w1 ⟨rfl,hb1⟩
         refine⟨_,rfl,?_⟩
         have HW1:=hid (hwb.trans (hb1.mono hwb.size))
         have HX1:=hid (HXb.out.below hb1)
         clear hb1 hwb HXb)
      | (refine aG (by rfl) 137 (.tmp 13) #[67] (by rfl) (.slice (some ⟨gE,0,none⟩) 6 _) (by rfl) tK.out (HFr.out _ hwa) ?_
         rintro e w1 ⟨rfl,hb1⟩
         refine⟨_,rfl,?_⟩
         have HW1:=hid (hwa.trans (hb1.mono hwa.size))
         have HX1:=hid (HXa.out.below hb1)
         clear hb1 hwa HXa)
      | (refine aG (by rfl) 138 (.tmp 8) #[82] (by rfl) (.pointer (some ⟨g,0,none⟩)) (by rfl) ug.out (HFp.out _ hd0) ?_
         rintro e wa ⟨rfl,hb1⟩
         refine⟨_,rfl,?_⟩
         have hwa:=hd0.trans (hb1.mono hd0.size)
         have HXa:=hid ((HX0.out.draw 1).below hb1)
         have q3:=(H.out.below hwa).p1 HP.out
         have ql3:=((H.out.below hwa).Bp HP.out).lt
         clear hb1)
      | (refine aG (by rfl) 137 (.tmp 13) #[67] (by rfl) (.slice (some ⟨gE,0,none⟩) 6 _) (by rfl) tK.out (HFr.out _ hd0) ?_
         rintro e wb ⟨rfl,hb1⟩
         refine⟨_,rfl,?_⟩
         have hwb:=hd0.trans (hb1.mono hd0.size)
         have HXb:=hid ((HX0.out.draw 1).below hb1)
         clear hb1)
      | fail)
     all_goals
      have hK1:=H.out.below HW1.out
      have qa1:=hK1.p1 HP.out
      have qb1:=(hK1.Bp HP.out).lt
      clear hK1
      go_wp2_with fail
      refine(HF0.out _ _ _ _ (by have:=H5.out;omega)).mono ?_
      rintro e w2 ⟨rfl,hb2⟩
      have HW2:=hid (HW1.out.trans (hb2.mono (HW1.out).size))
      have HX2:=hid (HX1.out.below hb2)
      clear hb2 HW1 HX1 qa1 qb1 HF0
      go_wp2_with fail
      refine(az 8 _).mono ?_
      rintro e w3 ⟨rfl,hb3⟩
      have HW3:=hid (HW2.out.trans (hb3.mono (HW2.out).size))
      have HX3:=hid (HX2.out.below hb3)
      simp only[aF]
      clear hb3 HW2 HX2
      have HK3:=hid (H.out.below HW3.out)
      have hX9:=HX3.out _ _ HXB.out
      have HFin:=hid (ay HK3.out HX3.out HXw.out HXB.out hlow hroom)
      obtain⟨p0,p1,p2,f0,hl9⟩:=aS hX9
      clear hX9 HK3 HX3 HXw HXB   HW3
      go_wp2
      refine bodyPost_ret (v:=.agg #[.int .i64 8,.int .i64 0,.string ⟨#[]⟩]) (by simp[results,Tryz.results112,go_sem,p0,p1,p2]) rfl ?_
      exact⟨rfl,by(show ah _ _ _ _ k _);with_reducible exact HFin.out _ _ _⟩
    ·skip
     go_enter Tryz.func112,Tryz.ntmps112
     go_wp2_with fail
     go_region_law (first
      | (refine aG (by rfl) 138 (.tmp 8) #[82] (by rfl) (.pointer (some ⟨g,0,none⟩)) (by rfl) ug.out (HFp.out _ hwb) ?_
         rintro e w1 ⟨rfl,hb1⟩
         refine⟨_,rfl,?_⟩
         have HW1:=hid (hwb.trans (hb1.mono hwb.size))
         have HX1:=hid (HXb.out.below hb1)
         clear hb1 hwb HXb)
      | (refine aG (by rfl) 137 (.tmp 13) #[67] (by rfl) (.slice (some ⟨gE,0,none⟩) 6 _) (by rfl) tK.out (HFr.out _ hwa) ?_
         rintro e w1 ⟨rfl,hb1⟩
         refine⟨_,rfl,?_⟩
         have HW1:=hid (hwa.trans (hb1.mono hwa.size))
         have HX1:=hid (HXa.out.below hb1)
         clear hb1 hwa HXa)
      | (refine aG (by rfl) 138 (.tmp 8) #[82] (by rfl) (.pointer (some ⟨g,0,none⟩)) (by rfl) ug.out (HFp.out _ hd0) ?_
         rintro e wa ⟨rfl,hb1⟩
         refine⟨_,rfl,?_⟩
         have hwa:=hd0.trans (hb1.mono hd0.size)
         have HXa:=hid ((HX0.out.draw 1).below hb1)
         have q3:=(H.out.below hwa).p1 HP.out
         have ql3:=((H.out.below hwa).Bp HP.out).lt
         clear hb1)
      | (refine aG (by rfl) 137 (.tmp 13) #[67] (by rfl) (.slice (some ⟨gE,0,none⟩) 6 _) (by rfl) tK.out (HFr.out _ hd0) ?_
         rintro e wb ⟨rfl,hb1⟩
         refine⟨_,rfl,?_⟩
         have hwb:=hd0.trans (hb1.mono hd0.size)
         have HXb:=hid ((HX0.out.draw 1).below hb1)
         clear hb1)
      | fail)
     all_goals
      have hK1:=H.out.below HW1.out
      have qa1:=hK1.p1 HP.out
      have qb1:=(hK1.Bp HP.out).lt
      clear hK1
      go_wp2_with fail
      refine(HF0.out _ _ _ _ (by have:=H5.out;omega)).mono ?_
      rintro e w2 ⟨rfl,hb2⟩
      have HW2:=hid (HW1.out.trans (hb2.mono (HW1.out).size))
      have HX2:=hid (HX1.out.below hb2)
      clear hb2 HW1 HX1 qa1 qb1 HF0
      go_wp2_with fail
      refine(az 8 _).mono ?_
      rintro e w3 ⟨rfl,hb3⟩
      have HW3:=hid (HW2.out.trans (hb3.mono (HW2.out).size))
      have HX3:=hid (HX2.out.below hb3)
      simp only[aF]
      clear hb3 HW2 HX2
      have HK3:=hid (H.out.below HW3.out)
      have hX9:=HX3.out _ _ HXB.out
      have HFin:=hid (ay HK3.out HX3.out HXw.out HXB.out hlow hroom)
      obtain⟨p0,p1,p2,f0,hl9⟩:=aS hX9
      clear hX9 HK3 HX3 HXw HXB   HW3
      go_wp2
      refine bodyPost_ret (v:=.agg #[.int .i64 8,.int .i64 0,.string ⟨#[]⟩]) (by simp[results,Tryz.results112,go_sem,p0,p1,p2]) rfl ?_
      exact⟨rfl,by(show ah _ _ _ _ k _);with_reducible exact HFin.out _ _ _⟩
   ·have hnc:¬ce=i+1:=by omega
    generalize Cf.aJ Cf.aK (es.drop (i+1))=z3 at *
    by_cases hz3:z3<0
    ·rw[if_pos hz3]
     clear HJ
     go_enter Tryz.func112,Tryz.ntmps112
     go_wp2_with fail
     go_region_law (first
      | (refine aG (by rfl) 138 (.tmp 8) #[82] (by rfl) (.pointer (some ⟨g,0,none⟩)) (by rfl) ug.out (HFp.out _ hwb) ?_
         rintro e w1 ⟨rfl,hb1⟩
         refine⟨_,rfl,?_⟩
         have HW1:=hid (hwb.trans (hb1.mono hwb.size))
         have HX1:=hid (HXb.out.below hb1)
         clear hb1 hwb HXb)
      | (refine aG (by rfl) 137 (.tmp 13) #[67] (by rfl) (.slice (some ⟨gE,0,none⟩) 6 _) (by rfl) tK.out (HFr.out _ hwa) ?_
         rintro e w1 ⟨rfl,hb1⟩
         refine⟨_,rfl,?_⟩
         have HW1:=hid (hwa.trans (hb1.mono hwa.size))
         have HX1:=hid (HXa.out.below hb1)
         clear hb1 hwa HXa)
      | (refine aG (by rfl) 138 (.tmp 8) #[82] (by rfl) (.pointer (some ⟨g,0,none⟩)) (by rfl) ug.out (HFp.out _ hd0) ?_
         rintro e wa ⟨rfl,hb1⟩
         refine⟨_,rfl,?_⟩
         have hwa:=hd0.trans (hb1.mono hd0.size)
         have HXa:=hid ((HX0.out.draw 1).below hb1)
         have q3:=(H.out.below hwa).p1 HP.out
         have ql3:=((H.out.below hwa).Bp HP.out).lt
         clear hb1)
      | (refine aG (by rfl) 137 (.tmp 13) #[67] (by rfl) (.slice (some ⟨gE,0,none⟩) 6 _) (by rfl) tK.out (HFr.out _ hd0) ?_
         rintro e wb ⟨rfl,hb1⟩
         refine⟨_,rfl,?_⟩
         have hwb:=hd0.trans (hb1.mono hd0.size)
         have HXb:=hid ((HX0.out.draw 1).below hb1)
         clear hb1)
      | fail)
     all_goals
      have hK1:=H.out.below HW1.out
      have qa1:=hK1.p1 HP.out
      have qb1:=(hK1.Bp HP.out).lt
      clear hK1
      go_wp2_with fail
      refine(Hm.out _ HW1.out).mono ?_
      rintro e w2 ⟨rfl,hb2⟩
      have HW2:=hid (HW1.out.trans (hb2.mono (HW1.out).size))
      have HX2:=hid (HX1.out.below hb2)
      clear hb2 HW1 HX1 qa1 qb1 Hm
      go_wp2_with fail
      refine(az 8 _).mono ?_
      rintro e w3 ⟨rfl,hb3⟩
      have HW3:=hid (HW2.out.trans (hb3.mono (HW2.out).size))
      have HX3:=hid (HX2.out.below hb3)
      simp only[aF]
      clear hb3 HW2 HX2
      have HK3:=hid (H.out.below HW3.out)
      have hX9:=HX3.out _ _ HXB.out
      have HFin:=hid (ay HK3.out HX3.out HXw.out HXB.out hlow hroom)
      obtain⟨p0,p1,p2,f0,hl9⟩:=aS hX9
      clear hX9 HK3 HX3 HXw HXB   HW3
      go_wp2
      refine bodyPost_ret (v:=.agg #[.int .i64 8,.int .i64 0,.string ⟨#[]⟩]) (by simp[results,Tryz.results112,go_sem,p0,p1,p2]) rfl ?_
      exact⟨rfl,by(show ah _ _ _ _ k _);with_reducible exact HFin.out _ _ _⟩
    ·rw[if_neg hz3]
     obtain⟨_,hzz⟩|⟨j,y,hzj,hyj,_,_⟩:=HJ.out
     ·omega
     rw[List.getElem?_drop]at hyj
     have hj6:i+1+j<6:=by rw[← HP.out.len];exact(List.getElem?_eq_some_iff.1 hyj).1
     have HYj:=hid hyj
     subst hzj
     rw[Int.toNat_natCast]
     clear HJ hyj hz3
     go_enter Tryz.func112,Tryz.ntmps112
     go_wp2_with fail
     go_region_law (first
      | (refine aG (by rfl) 138 (.tmp 8) #[82] (by rfl) (.pointer (some ⟨g,0,none⟩)) (by rfl) ug.out (HFp.out _ hwb) ?_
         rintro e w1 ⟨rfl,hb1⟩
         refine⟨_,rfl,?_⟩
         have HW1:=hid (hwb.trans (hb1.mono hwb.size))
         have HX1:=hid (HXb.out.below hb1)
         clear hb1 hwb HXb)
      | (refine aG (by rfl) 137 (.tmp 13) #[67] (by rfl) (.slice (some ⟨gE,0,none⟩) 6 _) (by rfl) tK.out (HFr.out _ hwa) ?_
         rintro e w1 ⟨rfl,hb1⟩
         refine⟨_,rfl,?_⟩
         have HW1:=hid (hwa.trans (hb1.mono hwa.size))
         have HX1:=hid (HXa.out.below hb1)
         clear hb1 hwa HXa)
      | (refine aG (by rfl) 138 (.tmp 8) #[82] (by rfl) (.pointer (some ⟨g,0,none⟩)) (by rfl) ug.out (HFp.out _ hd0) ?_
         rintro e wa ⟨rfl,hb1⟩
         refine⟨_,rfl,?_⟩
         have hwa:=hd0.trans (hb1.mono hd0.size)
         have HXa:=hid ((HX0.out.draw 1).below hb1)
         have q3:=(H.out.below hwa).p1 HP.out
         have ql3:=((H.out.below hwa).Bp HP.out).lt
         clear hb1)
      | (refine aG (by rfl) 137 (.tmp 13) #[67] (by rfl) (.slice (some ⟨gE,0,none⟩) 6 _) (by rfl) tK.out (HFr.out _ hd0) ?_
         rintro e wb ⟨rfl,hb1⟩
         refine⟨_,rfl,?_⟩
         have hwb:=hd0.trans (hb1.mono hd0.size)
         have HXb:=hid ((HX0.out.draw 1).below hb1)
         clear hb1)
      | fail)
     all_goals
      have hK1:=H.out.below HW1.out
      have qa1:=hK1.p1 HP.out
      have qb1:=(hK1.Bp HP.out).lt
      clear hK1
      go_wp2_with fail
      refine(Hm.out _ HW1.out).mono ?_
      rintro e w2 ⟨rfl,hb2⟩
      have HW2:=hid (HW1.out.trans (hb2.mono (HW1.out).size))
      have HX2:=hid (HX1.out.below hb2)
      clear hb2 HW1 HX1 qa1 qb1 Hm
      have HK2:=hid (H.out.below HW2.out)
      have qa2:=HK2.out.p1 HP.out
      have qb2:=(HK2.out.Bp HP.out).lt
      have hBe:=HK2.out.Be HP.out
      have r0:w2.cell? ⟨gE,i*3,none⟩=_:=hBe.cell HXi.out (j:=0) rfl
      have r1:w2.cell? ⟨gE,i*3+1,none⟩=_:=hBe.cell HXi.out (j:=1) rfl
      have r2:w2.cell? ⟨gE,i*3+2,none⟩=_:=hBe.cell HXi.out (j:=2) rfl
      have rf:=hBe.open_
      have rl:=hBe.lt
      have HK3:=hid (HK2.out.putEnd HP.out.pv HP.out.proc rfl ⟨2,z1,0⟩ HXi.out)
      have HX3:=hid (HX2.out.offX3 hBe.box (by decide) (i*3) (i*3+1) (i*3+2) (.int .i64 2) (.int .i64 z1) (.int .i64 0))
      have HP3:=hid (HP.out.set i ⟨2,z1,0⟩)
      clear hBe HK2 HX2 HW2
      go_upto_region 8 with fail
      generalize hw3:(((w2.setCell ⟨gE,i*3,none⟩ (.int .i64 2)).setCell ⟨gE,i*3+1,none⟩ (.int .i64 z1)).setCell ⟨gE,i*3+2,none⟩ (.int .i64 0))=w3 at *
      clear hw3 r0 r1 r2 rf rl qa2 qb2
      have J8:=hid (show(es.set i ⟨2,z1,0⟩)[i+1+j]?=some y by rw[List.getElem?_set,if_neg (by omega)];exact HYj.out)
      have qa3:=HK3.out.p1 HP3.out
      have qb3:=(HK3.out.Bp HP3.out).lt
      have hBe:=HK3.out.Be HP3.out
      have r0:w3.cell? ⟨gE,(i+1+j)*3,none⟩=_:=hBe.cell J8.out (j:=0) rfl
      have r1:w3.cell? ⟨gE,(i+1+j)*3+1,none⟩=_:=hBe.cell J8.out (j:=1) rfl
      have r2:w3.cell? ⟨gE,(i+1+j)*3+2,none⟩=_:=hBe.cell J8.out (j:=2) rfl
      have rf:=hBe.open_
      have rl:=hBe.lt
      have HK4:=hid (HK3.out.putEnd HP3.out.pv HP3.out.proc rfl ⟨3,z1,0⟩ J8.out)
      have HX4:=hid (HX3.out.offX3 hBe.box (by decide) ((i+1+j)*3) ((i+1+j)*3+1) ((i+1+j)*3+2) (.int .i64 3) (.int .i64 z1) (.int .i64 0))
      simp only[List.set_set]at HK4
      have pW:=HX3.out _ _ HXB.out
      have s0:=pW.cell 0
      have s1:=pW.cell 1
      have s2:=pW.cell 2
      simp only[gq]at s0 s1 s2
      have sf:=pW.open_
      have sl:=pW.lt
      have hne:gE≠w.heap.size:=Ne.symm (hBe.box.elim fun ds hd=>pW.other hd (by decide))
      clear hBe pW HK3 HX3
      have hX9:=HX4.out _ _ HXB.out
      have HFin:=hid (ay HK4.out HX4.out HXw.out HXB.out hlow hroom)
      obtain⟨p0,p1,p2,f0,hl9⟩:=aS hX9
      clear hX9 HK4 HX4 HXw HXB
      go_wp2
      refine bodyPost_ret (v:=.agg #[.int .i64 0,.int .i64 i,.string ⟨#[]⟩]) (by simp[results,Tryz.results112,go_sem,p0,p1,p2]) rfl ?_
      exact⟨rfl,by(show ah _ _ _ _ ⟨_,_,_,_,_⟩ _);with_reducible exact HFin.out _ _ _⟩
end
section
open Go.RowKit
theorem PAt.live{a:KA}{ps:List PV}{k:Cf.ag}{q gQ gE ce:Nat}{lv:Bool}{es:List Cf.End}(h:PAt a ps k q gQ gE ce lv es)(b:Bool):PAt a (ps.set q ⟨b,some ⟨gE,0,none⟩,6,ce⟩) ⟨k.mods,k.mem,k.nodes,k.pipes,k.procs.set q ⟨b,es⟩⟩ q gQ gE ce b es:=by
 have hq:(k.procs.set q ⟨b,es⟩)[q]?=some ⟨b,es⟩:=by rw[List.getElem?_set,if_pos rfl,if_pos (List.getElem?_eq_some_iff.1 h.proc).1]
 have hv:(ps.set q ⟨b,some ⟨gE,0,none⟩,6,ce⟩)[q]?=some ⟨b,some ⟨gE,0,none⟩,6,ce⟩:=by rw[List.getElem?_set,if_pos rfl,if_pos (List.getElem?_eq_some_iff.1 h.pv).1]
 exact⟨h.Q,hv,hq,h.len,by show(k.procs.set q ⟨b,es⟩).getD q Cf.lD=_;rw[List.getD_eq_getElem?_getD,hq];rfl,h.cap⟩
def z18:List Value:=(List.replicate 6 Cf.noEnd).flatMap bH
section
variable {B:Nat} {wb:World} {g:Nat} {a:KA} {xs:List MV} {ps:List PV} {k:Cf.ag} {w:World}
theorem KSt.clearE(h:KSt B wb g a xs ps k w){q gQ gE ce:Nat}{lv:Bool}{es:List Cf.End}(hP:PAt a ps k q gQ gE ce lv es):
  KSt B wb g a xs ps ⟨k.mods,k.mem,k.nodes,k.pipes,k.procs.set q ⟨lv,List.replicate 6 Cf.noEnd⟩⟩ (w.setCells gE 0 z18):=by
 obtain⟨hQ,hv,hp,h6,hi,hc⟩:=hP
 match es,h6 with
 | [e0,e1,e2,e3,e4,e5],_=>
   have P0:PAt a ps k q gQ gE ce lv [e0,e1,e2,e3,e4,e5]:=⟨hQ,hv,hp,rfl,hi,hc⟩
   have h0:=h.putEnd P0.pv P0.proc rfl Cf.noEnd (i:=0) (e:=e0) rfl
   have P1:=P0.set 0 Cf.noEnd
   have h1:=h0.putEnd P1.pv P1.proc rfl Cf.noEnd (i:=1) (e:=e1) rfl
   have P2:=P1.set 1 Cf.noEnd
   have h2:=h1.putEnd P2.pv P2.proc rfl Cf.noEnd (i:=2) (e:=e2) rfl
   have P3:=P2.set 2 Cf.noEnd
   have h3:=h2.putEnd P3.pv P3.proc rfl Cf.noEnd (i:=3) (e:=e3) rfl
   have P4:=P3.set 3 Cf.noEnd
   have h4:=h3.putEnd P4.pv P4.proc rfl Cf.noEnd (i:=4) (e:=e4) rfl
   have P5:=P4.set 4 Cf.noEnd
   have h5:=h4.putEnd P5.pv P5.proc rfl Cf.noEnd (i:=5) (e:=e5) rfl
   simp only[List.set_set]at h5
   exact h5
theorem KpA.clearE{w0:World}{gE:Nat}(h:KpA w0 w)(hg:∃ds,Wb w gE fP ds)(vs:List Value):KpA w0 (w.setCells gE 0 vs):=by
 have key:∀(vs:List Value) (o:Nat) (w:World),KpA w0 w→(∃ds,Wb w gE fP ds)→KpA w0 (w.setCells gE o vs):=by
  intro vs
  induction vs with
  | nil=>intro o w h _;exact h
  | cons v vs ih=>
    intro o w h hg
    obtain⟨ds,hg⟩:=hg
    exact ih (o+1) (w.setCell ⟨gE,o,none⟩ v) (h.offX ⟨ds,hg⟩ (by decide) o v) ⟨_,hg.put o v⟩
 exact key vs 0 w h hg
theorem KSt.putProc{w1:World}(h:KSt B wb g a xs ps k w)(hb:Below w.heap.size w w1){gQ:Nat}(ha:a.Q=some ⟨gQ,0,none⟩){i:Nat}{x:PV}{p:Cf.dR}(hx:ps[i]?=some x)(hp:k.procs[i]?=some p){A':Option Addr}{c':Nat}{es:List Cf.End}(b:Bool)(hN:Nw 3 bH w1 fP w.heap.size A' es)(hc:es.length≤c'):
  KSt B wb g a xs (ps.set i ⟨b,A',es.length,c'⟩) ⟨k.mods,k.mem,k.nodes,k.pipes,k.procs.set i ⟨b,es⟩⟩ ((w1.setCell ⟨gQ,i*2,none⟩ (.bool b)).setCell ⟨gQ,i*2+1,none⟩ (.slice A' es.length c')):=by
 have h1:=(h.below hb).putL ha b hx hp
 have hx1:(ps.set i ⟨b,x.A,x.le,x.ce⟩)[i]?=some ⟨b,x.A,x.le,x.ce⟩:=by rw[List.getElem?_set,if_pos rfl,if_pos (List.getElem?_eq_some_iff.1 hx).1]
 have hn:=h1.own.procs
 rw[ha]at hn
 obtain⟨hB,cs,hw⟩:=hn.box_ hx1
 have hne:g≠gQ:=h1.box.other hw (by decide)
 have hN1:Nw 3 bH (w1.setCell ⟨gQ,i*2,none⟩ (.bool b)) fP w.heap.size A' es:=by
  have hn0:=(h.below hb).own.procs
  rw[ha]at hn0
  obtain⟨_,cs0,hw0⟩:=hn0.box_ hx
  exact hN.offW hw0 (by decide) _ _
 have hset:∀(y:PV),(ps.set i ⟨b,x.A,x.le,x.ce⟩).set i y=ps.set i y:=fun y=>by rw[List.set_set]
 have MQ:∀(y:Cf.dR),(k.procs.set i ⟨b,p.ends⟩).set i y=k.procs.set i y:=fun y=>by rw[List.set_set]
 refine⟨?_,⟨aj h1.own.row (ax h1.own.row hw (by decide)) _,h1.own.each.offM hw (by decide) (by decide) _ _,h1.own.mem.offW hw (by decide) _ _,h1.own.nodes.offW hw (by decide) _ _,h1.own.pipes.offW hw (by decide) _ _,?_,?_,?_,h1.own.dat,h1.own.capM⟩,h.lo,h1.keep.setCell hB _⟩
 ·have e:af a ⟨k.mods,k.mem,k.nodes,k.pipes,k.procs.set i ⟨b,es⟩⟩=af a ⟨k.mods,k.mem,k.nodes,k.pipes,k.procs.set i ⟨b,p.ends⟩⟩:=by unfold af;simp
  rw[e]
  exact h1.box.off_ hne _
 ·rw[ha,← hset]
  exact hn.put (j:=1) (x':=⟨b,A',es.length,c'⟩) hx1 (by omega) rfl
 ·have he:=h1.own.ends.offE hw (by decide) (i*2+1) (.slice A' es.length c')
  have:=he.set i (x:=⟨b,A',es.length,c'⟩) (y:=⟨b,es⟩) ⟨rfl,rfl,(hN1.mono h.room).offW hw (by decide) _ _,hc⟩
  rw[hset,MQ]at this
  exact this
 ·have key:∀(j:Nat) (y:PV),ps[j]?=some y→y.le=0∨es.length=0∨y.A≠A':=by
   intro j y hy
   obtain⟨r,hr⟩:∃r,k.procs[j]?=some r:=⟨_,List.getElem?_eq_getElem (by rw[← h.own.ends.1];exact(List.getElem?_eq_some_iff.1 hy).1)⟩
   obtain⟨_,f2,f3,_⟩:=h.own.ends.2 j y r hy hr
   rcases f3 with f3|⟨b1,f3,_,f4⟩
   ·exact .inl (by rw[f2,f3];rfl)
   ·rcases hN with hN|⟨b',hN,hb',_⟩
    ·exact .inr (.inl (by rw[hN];rfl))
    ·refine .inr (.inr ?_)
     rw[f3,hN]
     intro he
     cases he
     have:=f4.lt
     omega
  intro i1 j1 y z hy hz hij
  rw[List.getElem?_set]at hy hz
  split at hy
  ·rename_i hni
   subst hni
   rw[if_neg hij]at hz
   split at hy
   ·simp at hy
    subst hy
    rcases key j1 z hz with h0|h0|h0
    ·exact .inr (.inl h0)
    ·exact .inl h0
    ·exact .inr (.inr (Ne.symm h0))
   ·cases hy
  ·split at hz
   ·split at hz
    ·simp at hz
     subst hz
     exact key i1 y hy
    ·cases hz
   ·exact h.own.apart i1 j1 y z hy hz hij
theorem KSt.p0(h:KSt B wb g a xs ps k w){q gQ gE ce:Nat}{lv:Bool}{es:List Cf.End}(hP:PAt a ps k q gQ gE ce lv es):w.cell? ⟨gQ,q*2,none⟩=some (.bool lv):=(h.Bp hP).cell (j:=0) hP.pv rfl
theorem Hw{P:Program}(t:TypeId)(i:TypeInfo)(hi:P.info? t=some i)(hz:i.zero=some (.agg #[.int .i64 0,.int .i64 0,.int .i64 0])):∀w,(zeroValue t).run P w = .ok (.agg #[.int .i64 0,.int .i64 0,.int .i64 0]) w:=by
 intro w
 simp[zeroValue,run_typeInfo,hi,hz,Result.andThen]
end
theorem Bk.there{α:Type}{sz:Nat}{enc:α→List Value}{w:World}{g:Nat}{t:TypeId}{l:List α}(h:Bk sz enc w g t l)(j:Nat)(hj:j<l.length*sz):(w.cell? ⟨g,0+j,none⟩).isSome=true:=by
 obtain⟨hsz,pad,h⟩:=h
 rw[Nat.zero_add,h.cell,List.getElem?_append_left (by rw[sQ hsz];exact hj),List.getElem?_eq_getElem (by rw[sQ hsz];exact hj)]
 rfl
theorem JD:z18.length=18:=by rfl
theorem Jr:∀v∈z18,v.oneCell'=true:=by
 intro v hv
 simp[z18,bH,Cf.noEnd,List.replicate]at hv
 subst hv
 rfl
theorem BU(w:World)(ty:TypeId)(b c:Nat)(hc:∀j,j<z18.length→(w.cell? ⟨b,0+j,none⟩).isSome=true)(hf:∀j,j<z18.length→w.frozen? ⟨b,0+j,none⟩=false):
  (Builtin.clear_ #[67] ty #[.slice (some ⟨b,0,none⟩) 6 c]).run Tryz.prog w = .ok (.tuple #[]) (w.setCells b 0 z18):=by
 obtain⟨i0,hi0,hy0,hy1,hy2⟩:=info_parts vP
 have hv:=Hw (P:=Tryz.prog) 72 i0 hi0 hy0
 have hst:=run_storeCells_cells (P:=Tryz.prog) b 0 z18 0 w hc hf Jr
 simp only[Nat.add_zero]at hst
 have hzc:(Builtin.zeroCells (Value.agg #[.int .i64 0,.int .i64 0,.int .i64 0]).cells 6).toList=z18:=by simp[Builtin.zeroCells,z18,Value.cells,Array.range,bH,Cf.noEnd,List.replicate]
 simp only[Builtin.clear_,Sem.run_bind,run_underlying Tryz.underlying67,hv,hzc,Result.andThen]
 simp[hst,hv,hzc,Result.andThen]
theorem G7{B:Nat}{wb:World}{g:Nat}{a:KA}{xs:List MV}{ps:List PV}(k:Cf.ag)(q gQ:Nat)(w:World)(h:KSt B wb g a xs ps k w)(hG:Cf.Good k)(hq:q<4)(hQ:a.Q=some ⟨gQ,0,none⟩):
  Calls Tryz.prog 113 #[.pointer (some ⟨g,0,none⟩),.pointer (some ⟨gQ,q*2,none⟩)] w (dF B wb g w (Cf.qB k q)):=by
 obtain⟨A,ca,M,cm,N,cn,S,cs,Q,cq⟩:=a
 simp only at hQ
 subst hQ
 obtain⟨gE,ce,lv,es,hP⟩:=h.pat hG.toPre hq rfl
 have H:=hid h
 have hb0:Below w.heap.size w (w.alloc (.cells #[.int .i64 0,.int .i64 0,.string ⟨#[]⟩] au)):=(Below.refl _ _).alloc (Nat.le_refl _) _
 have HW0:=hid hb0
 have HXB:=hid (Wb.new w au [.int .i64 0,.int .i64 0,.string ⟨#[]⟩])
 have HXw:=hid (KpA.alloc w (.cells #[.int .i64 0,.int .i64 0,.string ⟨#[]⟩] au))
 have HX0:=hid (KpA.refl (w.alloc (.cells #[.int .i64 0,.int .i64 0,.string ⟨#[]⟩] au)))
 have hroom:=h.room
 have hlow:w.heap.size≤w.heap.size:=Nat.le_refl _
 have HG:=hid hG
 have HP:=hid hP
 have HFp:=hid (fun W (hW:Below w.heap.size w W)=>yX k _ g W (h.below hW).ptr (iO (by rw[hG.procsL];omega)))
 have HCp:=hid (fun W (hW:Below w.heap.size w W)=>show Calls Tryz.prog 59 #[.slice (some ⟨gE,0,none⟩) 6 ce] W (fun e w'=>∃A' c',e = .returned (.slice A' 6 c')∧Nw 3 bH w' fP W.heap.size A' es∧Below W.heap.size W w'∧6≤c') by
  have:=ru es (some ⟨gE,0,none⟩) ce W ((h.below hW).Be hP).rd (by rw[hP.len];unfold big;omega) (by rw[hP.len];unfold big;omega)
  unfold CE at this
  rw[hP.len]at this
  exact this)
 have Heg:=hid (fun args w=>show(callFunc 59 args).run Tryz.prog w = .ok (.enter 59 args) w by simp[go_sem])
 have HT:=hid (show Cf.qB k q=if Cf.aJ Cf.jr k.procs<0 then Cf.ai k 8 else⟨⟨k.mods,k.mem,k.nodes,k.pipes,k.procs.set (Cf.aJ Cf.jr k.procs).toNat ⟨true,es⟩⟩,⟨0,Cf.aJ Cf.jr k.procs,[]⟩⟩ by
  unfold Cf.qB Cf.setProc
  rw[hP.is_])
 have HI:=hid (Cf.bQ Cf.jr k.procs)
 clear h hG hP hb0
 generalize Cf.aJ Cf.jr k.procs=z1 at *
 rw[HT.out]
 by_cases hz1:z1<0
 ·rw[if_pos hz1]
  clear HT HI HCp HP HG
  go_enter Tryz.func113,Tryz.ntmps113
  go_wp2_with fail
  refine(HFp.out _ HW0.out).mono ?_
  rintro e w1 ⟨rfl,hb1⟩
  have HW1:=hid (HW0.out.trans (hb1.mono (HW0.out).size))
  have HX1:=hid (HX0.out.below hb1)
  clear hb1 HW0 HX0 HFp
  go_wp2_with fail
  refine(az 8 _).mono ?_
  rintro e w2 ⟨rfl,hb2⟩
  have HW2:=hid (HW1.out.trans (hb2.mono (HW1.out).size))
  have HX2:=hid (HX1.out.below hb2)
  simp only[aF]
  clear hb2 HW1 HX1
  have HK2:=hid (H.out.below HW2.out)
  have hX9:=HX2.out _ _ HXB.out
  have HFin:=hid (ay HK2.out HX2.out HXw.out HXB.out hlow hroom)
  obtain⟨p0,p1,p2,f0,hl9⟩:=aS hX9
  clear hX9 HK2 HX2 HXw HXB   HW2
  go_wp2
  refine bodyPost_ret (v:=.agg #[.int .i64 8,.int .i64 0,.string ⟨#[]⟩]) (by simp[results,Tryz.results113,go_sem,p0,p1,p2]) rfl ?_
  exact⟨rfl,by(show ah _ _ _ _ k _);with_reducible exact HFin.out _ _ _⟩
 ·rw[if_neg hz1]
  obtain⟨_,hzz⟩|⟨i,x,hzi,hxi,_,_⟩:=HI.out
  ·omega
  have hi4:i<4:=by rw[← HG.out.procsL];exact(List.getElem?_eq_some_iff.1 hxi).1
  have OC:(i:Int)<4:=by omega
  obtain⟨v,hvi⟩:∃v,ps[i]?=some v:=⟨_,List.getElem?_eq_getElem (by rw[H.out.own.ends.1,HG.out.procsL];exact hi4)⟩
  have HXi:=hid hxi
  have HVi:=hid hvi
  subst hzi
  rw[Int.toNat_natCast]
  clear HT HI hxi hvi hz1
  go_enter Tryz.func113,Tryz.ntmps113
  go_wp2_with fail
  refine(HFp.out _ HW0.out).mono ?_
  rintro e w1 ⟨rfl,hb1⟩
  have HW1:=hid (HW0.out.trans (hb1.mono (HW0.out).size))
  have HX1:=hid (HX0.out.below hb1)
  clear hb1 HW0 HX0 HFp
  have hK1:=H.out.below HW1.out
  have c4:=hK1.ptr.c4
  simp only[HG.out.procsL]at c4
  have kl:=hK1.box.lt
  have q1:=hK1.p1 HP.out
  have ql:=(hK1.Bp HP.out).lt
  have hd1:Below w.heap.size w w1.drew:=HW1.out.drew
  clear hK1
  go_wp2_with fail
  go_region_law (first
   | (refine aG (by rfl) 59 (.tmp 19) #[67] (by rfl) (.slice (some ⟨gE,0,none⟩) 6 ce) (by rfl) Heg.out (HCp.out _ hd1) ?_
      rintro e w2 ⟨A',c',rfl,hN,hb2,hcp⟩
      refine⟨_,rfl,?_⟩
      have HK1:=hid (H.out.below hd1)
      have HX2:=hid ((HX1.out.draw 1).below hb2)
      have hK2:=HK1.out.below hb2
      have d4:=hK2.ptr.c4
      simp only[HG.out.procsL]at d4
      have dl:=hK2.box.lt
      have d1:=hK2.p1 HP.out
      have hBp:=hK2.Bp HP.out
      have dq:=hBp.lt
      have s0:w2.cell? ⟨gQ,i*2,none⟩=_:=hBp.cell HVi.out (j:=0) rfl
      have s1:w2.cell? ⟨gQ,i*2+1,none⟩=_:=hBp.cell HVi.out (j:=1) rfl
      have sf:=hBp.open_
      have HK3:=hid (HK1.out.putProc hb2 rfl HVi.out HXi.out true hN (by rw[HP.out.len];exact hcp))
      rw[HP.out.len]at HK3
      have HX3:=hid (((HX2.out.offX hBp.box (by decide) (i*2) (.bool true)).offX (hBp.box.elim fun ds hd=>⟨_,hd.put (i*2) (.bool true)⟩) (by decide) (i*2+1) (.slice A' 6 c')))
      have hX2:=HX2.out _ _ HXB.out
      obtain⟨t0,t1,t2,tf,tl⟩:=aS hX2
      have hne:gQ≠w.heap.size:=Ne.symm (hBp.box.elim fun ds hd=>hX2.other hd (by decide))
      clear hX2 HX2 hBp hK2 HK1 hb2 hN)
   | fail)
  all_goals
   have hX9:=HX3.out _ _ HXB.out
   have HFin:=hid (ay HK3.out HX3.out HXw.out HXB.out hlow hroom)
   obtain⟨p0,p1,p2,f0,hl9⟩:=aS hX9
   clear hX9 HK3 HX3 HXw HXB
   go_wp2
   refine bodyPost_ret (v:=.agg #[.int .i64 0,.int .i64 i,.string ⟨#[]⟩]) (by simp[results,Tryz.results113,go_sem,p0,p1,p2]) rfl ?_
   exact⟨rfl,by(show ah _ _ _ _ ⟨_,_,_,_,_⟩ _);with_reducible exact HFin.out _ _ _⟩
end
section
open Go.RowKit
theorem Gt{B:Nat}{wb:World}{g:Nat}{a:KA}{xs:List MV}{ps:List PV}(k:Cf.ag)(q gQ:Nat)(w:World)(h:KSt B wb g a xs ps k w)(hG:Cf.Good k)(hq:q<4)(hQ:a.Q=some ⟨gQ,0,none⟩):
  Calls Tryz.prog 114 #[.pointer (some ⟨g,0,none⟩),.pointer (some ⟨gQ,q*2,none⟩)] w (dF B wb g w (Cf.sW k q)):=by
 obtain⟨A,ca,M,cm,N,cn,S,cs,Q,cq⟩:=a
 simp only at hQ
 subst hQ
 obtain⟨gE,ce,lv,es,hP⟩:=h.pat hG.toPre hq rfl
 have H:=hid h
 have hb0:Below w.heap.size w (w.alloc (.cells #[.int .i64 0,.int .i64 0,.string ⟨#[]⟩] au)):=(Below.refl _ _).alloc (Nat.le_refl _) _
 have HW0:=hid hb0
 have HXB:=hid (Wb.new w au [.int .i64 0,.int .i64 0,.string ⟨#[]⟩])
 have HXw:=hid (KpA.alloc w (.cells #[.int .i64 0,.int .i64 0,.string ⟨#[]⟩] au))
 have HX0:=hid (KpA.refl (w.alloc (.cells #[.int .i64 0,.int .i64 0,.string ⟨#[]⟩] au)))
 have hroom:=h.room
 have hlow:w.heap.size≤w.heap.size:=Nat.le_refl _
 have HG:=hid hG
 have HP:=hid hP
 obtain⟨k2,hk2⟩:∃k2:Cf.ag,k2=⟨k.mods,k.mem,k.nodes,k.pipes,k.procs.set q ⟨false,List.replicate 6 Cf.noEnd⟩⟩:=⟨_,rfl⟩
 have HT:=hid (show Cf.sW k q=⟨Cf.iY k2,Cf.kS⟩ by
  rw[hk2]
  unfold Cf.sW Cf.setProc
  rw[hP.is_]
  have:es.map (fun _=>Cf.noEnd)=List.replicate 6 Cf.noEnd:=by rw[List.map_const',hP.len]
  rw[this])
 have HK0:=hid (h.below hb0)
 have HE2:=hid hk2
 clear h hG hb0 hk2
 rw[HT.out]
 go_enter Tryz.func114,Tryz.ntmps114
 go_upto_region 1 with fail
 generalize hw0:w.alloc (.cells #[.int .i64 0,.int .i64 0,.string ⟨#[]⟩] au)=w0 at *
 have Oe:=hid hw0
 clear hw0 HW0 HT hP H
 have q0:=HK0.out.p0 HP.out
 have hBp:=HK0.out.Bp HP.out
 have ql:=hBp.lt
 have qf:=hBp.open_
 have HK1:=hid (HK0.out.putL rfl false HP.out.pv HP.out.proc)
 have HX1:=hid (HX0.out.offX (HK0.out.Bp HP.out).box (by decide) (q*2) (.bool false))
 have HP1:=hid (HP.out.live false)
 clear hBp HX0 HK0
 go_upto_region 2 with fail
 generalize hw1:w0.setCell ⟨gQ,q*2,none⟩ (.bool false)=w1 at *
 clear hw1 q0 ql qf Oe
 have q1:=HK1.out.p1 HP1.out
 have ql:=(HK1.out.Bp HP1.out).lt
 have hBe:=HK1.out.Be HP1.out
 have hcl:=fun ty=>BU w1 ty gE ce (fun j hj=>hBe.there j (by rw[HP1.out.len];rw[JD]at hj;omega)) (fun j _=>hBe.open_ _)
 have hK2:=HK1.out.clearE HP1.out
 simp only[List.set_set]at hK2
 rw[← HE2.out]at hK2
 have HK2:=hid hK2
 clear hK2
 have HX2:=hid (HX1.out.clearE hBe.box z18)
 clear hBe
 have HR:=hid (nI _ _ HK2.out (by rw[HE2.out];exact HG.out.nodesL) (by rw[HE2.out];exact HG.out.pipesL) (eu (by rw[HE2.out];simp[HG.out.procsL])) (by
  rw[HE2.out]
  intro p hp
  rcases List.mem_or_eq_of_mem_set hp with hp|rfl
  ·exact eu (by rw[HG.out.ends p hp];omega)
  ·exact eu (by show(List.replicate 6 Cf.noEnd).length≤1024;simp)))
 clear HE2
 go_upto_region 3 with fail
 generalize hw2:w1.setCells gE 0 z18=w2 at *
 clear hw2 q1 ql hcl HK2
 go_wp2_with fail
 refine HR.out.mono ?_
 rintro e w3 ⟨rfl,hK3,hkp⟩
 have HX3:=hid (HX2.out.trans fun b cs hb=>hkp b au cs (by decide) (by decide) hb)
 have HK3:=hid hK3
 clear hK3 hkp HR HX2
 have hX9:=HX3.out _ _ HXB.out
 have HFin:=hid (ay HK3.out HX3.out HXw.out HXB.out hlow hroom)
 obtain⟨p0,p1,p2,f0,hl9⟩:=aS hX9
 clear hX9 HK3 HX3 HXw HXB
 go_wp2
 refine bodyPost_ret (v:=.agg #[.int .i64 0,.int .i64 0,.string ⟨#[]⟩]) (by simp[results,Tryz.results114,go_sem,p0,p1,p2]) rfl ?_
 exact⟨rfl,by(show ah _ _ _ _ (Cf.iY k2) _);with_reducible exact HFin.out _ _ _⟩
end
section
open Go.RowKit
theorem rJ(x y:Nat)(ats:Array TypeId)(ty:TypeId)(w:World):(Builtin.min_ ats ty #[.int .i64 (x:Int),.int .i64 (y:Int)]).run Tryz.prog w = .ok (.int .i64 ((min x y:Nat):Int)) w:=by
 simp only[Builtin.min_]
 simp[Builtin.min2]
 split<;>omega
theorem qU{α:Type}(s:List α)(n:Nat):s.take (min n s.length)=s.take n:=by
 rcases Nat.le_total n s.length with h|h
 ·rw[Nat.min_eq_left h]
 ·rw[Nat.min_eq_right h,List.take_length,List.take_of_length_le h]
theorem vK{α:Type}(s:List α)(n:Nat):s.drop (min n s.length)=s.drop n:=by
 rcases Nat.le_total n s.length with h|h
 ·rw[Nat.min_eq_left h]
 ·rw[Nat.min_eq_right h,List.drop_length,List.drop_eq_nil_of_le h]
section
variable {B:Nat} {wb:World} {g:Nat} {a:KA} {xs:List MV} {ps:List PV} {k:Cf.ag} {w:World}
theorem KSt.s0(h:KSt B wb g a xs ps k w){gS i:Nat}{x:List UInt8}(hS:a.S=some ⟨gS,0,none⟩)(hx:k.pipes[i]?=some x):w.cell? ⟨gS,i,none⟩=some (.string ⟨x.toArray⟩):=by
 have:=(h.Bs hS hx).cell hx (j:=0) rfl
 simpa using this
end
theorem oP{k:Cf.ag}(hG:Cf.Pre k){i:Nat}(hi:i<6):∃s,k.pipes[i]?=some s∧Cf.kP k i=s∧s.length≤20:=by
 have hl:i<k.pipes.length:=by rw[hG.pipesL];exact hi
 refine⟨k.pipes[i],List.getElem?_eq_getElem hl,?_,hG.pipe _ (List.getElem_mem ..)⟩
 rw[Cf.kP,List.getD_eq_getElem?_getD,List.getElem?_eq_getElem hl]
 rfl
theorem yE{B:Nat}{wb:World}{g:Nat}{a:KA}{xs:List MV}{ps:List PV}(k:Cf.ag)(i n:Nat)(w:World)(h:KSt B wb g a xs ps k w)(hG:Cf.Good k)(hi:i<6):
  Calls Tryz.prog 140 #[.pointer (some ⟨g,0,none⟩),.int .i64 i,.int .i64 n] w (dF B wb g w (Cf.dB k i n)):=by
 obtain⟨A,ca,M,cm,N,cn,S,cs,Q,cq⟩:=a
 obtain⟨s,hs,hsp,hs20⟩:=oP hG.toPre hi
 obtain⟨gS,hgS,_⟩:=h.own.pipes.at_ hs
 simp only at hgS
 subst hgS
 have HXB:=hid (Wb.new w au [.int .i64 0,.int .i64 0,.string ⟨#[]⟩])
 have HXw:=hid (KpA.alloc w (.cells #[.int .i64 0,.int .i64 0,.string ⟨#[]⟩] au))
 have HX0:=hid (KpA.refl (w.alloc (.cells #[.int .i64 0,.int .i64 0,.string ⟨#[]⟩] au)))
 have HK0:=hid (h.below ((Below.refl _ _).alloc (Nat.le_refl _) (.cells #[.int .i64 0,.int .i64 0,.string ⟨#[]⟩] au)))
 have hroom:=h.room
 have hlow:w.heap.size≤w.heap.size:=Nat.le_refl _
 have HG:=hid hG
 have HS:=hid hs
 have hi6:(i:Int)<6:=by omega
 have HH:=hid (fun W (hW:KSt B wb g ⟨A,ca,M,cm,N,cn,some ⟨gS,0,none⟩,cs,Q,cq⟩ xs ps k W) kd=>jQ k _ g kd i W hW.ptr (iO (by rw[hG.procsL];omega)) (fun p hp=>iO (by rw[hG.ends p hp];omega)))
 clear h
 by_cases h0:s=[]
 ·have HT:=hid (show Cf.dB k i n=Cf.ai k (if Cf.hasB k.procs 3 i then 13 else 12) by unfold Cf.dB;rw[hsp,if_pos h0])
  rw[HT.out]
  subst h0
  have HH3:=hid (fun W hW=>HH.out W hW 3)
  clear hs hsp hs20 HH HT hG
  generalize Cf.hasB k.procs 3 i=b at *
  cases b
  ·skip
   go_enter Tryz.func140,Tryz.ntmps140
   go_upto_region 1 with fail
   generalize w.alloc (.cells #[.int .i64 0,.int .i64 0,.string ⟨#[]⟩] au)=w0 at *
   have hK0:=HK0.out
   have c3:=hK0.ptr.c3
   simp only[HG.out.pipesL]at c3
   have kl:=hK0.box.lt
   have s0:=hK0.s0 rfl HS.out
   have sl:=(hK0.Bs rfl HS.out).lt
   have sf:=(hK0.Bs rfl HS.out).open_
   clear hK0
   go_wp2_with fail
   refine(HH3.out _ HK0.out).mono ?_
   rintro e w1 ⟨rfl,hb1⟩
   have HK1:=hid (HK0.out.below hb1)
   have HX1:=hid (HX0.out.below hb1)
   clear hb1 HK0 HX0 HH3 c3 kl s0 sl sf HS
   go_wp2_with fail
   refine(az 12 _).mono ?_
   rintro e w2 ⟨rfl,hb2⟩
   have HK2:=hid (HK1.out.below hb2)
   have HX2:=hid (HX1.out.below hb2)
   simp only[aF]
   clear hb2 HK1 HX1
   have hX9:=HX2.out _ _ HXB.out
   have HFin:=hid (ay HK2.out HX2.out HXw.out HXB.out hlow hroom)
   obtain⟨p0,p1,p2,f0,hl9⟩:=aS hX9
   clear hX9 HK2 HX2 HXw HXB
   go_wp2
   refine bodyPost_ret (v:=.agg #[.int .i64 12,.int .i64 0,.string ⟨#[]⟩]) (by simp[results,Tryz.results140,go_sem,p0,p1,p2]) rfl ?_
   exact⟨rfl,by(show ah _ _ _ _ k _);with_reducible exact HFin.out _ _ _⟩
  ·skip
   go_enter Tryz.func140,Tryz.ntmps140
   go_upto_region 1 with fail
   generalize w.alloc (.cells #[.int .i64 0,.int .i64 0,.string ⟨#[]⟩] au)=w0 at *
   have hK0:=HK0.out
   have c3:=hK0.ptr.c3
   simp only[HG.out.pipesL]at c3
   have kl:=hK0.box.lt
   have s0:=hK0.s0 rfl HS.out
   have sl:=(hK0.Bs rfl HS.out).lt
   have sf:=(hK0.Bs rfl HS.out).open_
   clear hK0
   go_wp2_with fail
   refine(HH3.out _ HK0.out).mono ?_
   rintro e w1 ⟨rfl,hb1⟩
   have HK1:=hid (HK0.out.below hb1)
   have HX1:=hid (HX0.out.below hb1)
   clear hb1 HK0 HX0 HH3 c3 kl s0 sl sf HS
   go_wp2_with fail
   refine(az 13 _).mono ?_
   rintro e w2 ⟨rfl,hb2⟩
   have HK2:=hid (HK1.out.below hb2)
   have HX2:=hid (HX1.out.below hb2)
   simp only[aF]
   clear hb2 HK1 HX1
   have hX9:=HX2.out _ _ HXB.out
   have HFin:=hid (ay HK2.out HX2.out HXw.out HXB.out hlow hroom)
   obtain⟨p0,p1,p2,f0,hl9⟩:=aS hX9
   clear hX9 HK2 HX2 HXw HXB
   go_wp2
   refine bodyPost_ret (v:=.agg #[.int .i64 13,.int .i64 0,.string ⟨#[]⟩]) (by simp[results,Tryz.results140,go_sem,p0,p1,p2]) rfl ?_
   exact⟨rfl,by(show ah _ _ _ _ k _);with_reducible exact HFin.out _ _ _⟩
 ·have HT:=hid (show Cf.dB k i n=⟨⟨k.mods,k.mem,k.nodes,k.pipes.set i (s.drop (min n s.length)),k.procs⟩,⟨0,(s.take (min n s.length)).length,s.take (min n s.length)⟩⟩ by unfold Cf.dB;rw[hsp,if_neg h0,vK,qU];rfl)
  rw[HT.out]
  have hmin:=rJ n s.length
  have s1:=ku s (min n s.length) (Nat.min_le_right _ _)
  have s2:=gu s (min n s.length) (Nat.min_le_right _ _)
  have HAw:=hid (fun W=>lI (s.take (min n s.length)) W (by rw[List.length_take];omega))
  have hne:¬s.isEmpty=true:=by simpa using h0
  have hsz:(⟨s.toArray⟩:ByteArray).size=s.length:=by simp[ByteArray.size]
  clear hs hsp hs20 HH HT hG h0
  generalize s.take (min n s.length)=t at *
  generalize s.drop (min n s.length)=d at *
  generalize min n s.length=m at *
  go_enter Tryz.func140,Tryz.ntmps140
  go_upto_region 1 with fail
  generalize w.alloc (.cells #[.int .i64 0,.int .i64 0,.string ⟨#[]⟩] au)=w0 at *
  have hK0:=HK0.out
  have c3:=hK0.ptr.c3
  simp only[HG.out.pipesL]at c3
  have kl:=hK0.box.lt
  have s0:=hK0.s0 rfl HS.out
  have sl:=(hK0.Bs rfl HS.out).lt
  have sf:=(hK0.Bs rfl HS.out).open_
  clear hK0
  have HK1:=hid (HK0.out.putP rfl d HS.out)
  have HX1:=hid (HX0.out.offX (HK0.out.Bs rfl HS.out).box (by decide) i (.string ⟨d.toArray⟩))
  clear HK0 HX0
  go_wp2_with fail
  go_region
  go_wp2_with fail
  refine(HAw.out _).mono ?_
  rintro e w2 ⟨rfl,hb2⟩
  simp only[aF]
  have HK2:=hid (HK1.out.draw.below hb2)
  have HX2:=hid ((HX1.out.draw 1).below hb2)
  clear hb2 HK1 HX1 HAw c3 kl s0 sl sf
  have hX9:=HX2.out _ _ HXB.out
  have HFin:=hid (ay HK2.out HX2.out HXw.out HXB.out hlow hroom)
  obtain⟨p0,p1,p2,f0,hl9⟩:=aS hX9
  clear hX9 HK2 HX2 HXw HXB
  go_wp2
  refine bodyPost_ret (v:=.agg #[.int .i64 0,.int .i64 t.length,.string ⟨t.toArray⟩]) (by simp[results,Tryz.results140,go_sem,p0,p1,p2]) rfl ?_
  exact⟨rfl,by(show ah _ _ _ _ ⟨_,_,_,_,_⟩ _);with_reducible exact HFin.out _ _ _⟩
theorem yP{B:Nat}{wb:World}{g:Nat}{a:KA}{xs:List MV}{ps:List PV}(k:Cf.ag)(q gQ gE ce:Nat)(lv:Bool)(es:List Cf.End)(i n:Nat)(e:Cf.End)(data:List UInt8)(w:World)(h:KSt B wb g a xs ps k w)(hP:PAt a ps k q gQ gE ce lv es)(he:es[i]?=some e)(hd:data.length≤100)(hn:n≤100)(hp:0≤e.pos∧e.pos≤100):
  Calls Tryz.prog 142 #[.string ⟨data.toArray⟩,.pointer (some ⟨gE,i*3,none⟩),.int .i64 n] w (dF B wb g w (Cf.fG k q i n data e)):=by
 have HXB:=hid (Wb.new w au [.int .i64 0,.int .i64 0,.string ⟨#[]⟩])
 have HXw:=hid (KpA.alloc w (.cells #[.int .i64 0,.int .i64 0,.string ⟨#[]⟩] au))
 have HX0:=hid (KpA.refl (w.alloc (.cells #[.int .i64 0,.int .i64 0,.string ⟨#[]⟩] au)))
 have HK0:=hid (h.below ((Below.refl _ _).alloc (Nat.le_refl _) (.cells #[.int .i64 0,.int .i64 0,.string ⟨#[]⟩] au)))
 have hroom:=h.room
 have hlow:w.heap.size≤w.heap.size:=Nat.le_refl _
 have HP:=hid hP
 have HE:=hid he
 obtain⟨po,hpo⟩:=Int.eq_ofNat_of_zero_le hp.1
 obtain⟨ek,en,ep⟩:=e
 simp only at hpo hp
 subst hpo
 have hm1:=rJ po data.length
 have s1:=ku data (min po data.length) (Nat.min_le_right _ _)
 have hT1:data.drop (min po data.length)=data.drop po:=vK _ _
 have hrl:(data.drop po).length≤100:=by rw[List.length_drop];omega
 rw[hT1]at s1
 have hsz:(⟨data.toArray⟩:ByteArray).size=data.length:=by simp[ByteArray.size]
 have HT:=hid (show Cf.fG k q i n data ⟨ek,en,po⟩=if data.drop po=[] then Cf.ai k 12 else⟨⟨k.mods,k.mem,k.nodes,k.pipes,k.procs.set q ⟨lv,es.set i ⟨ek,en,(po:Int)+((data.drop po).take n).length⟩⟩⟩,⟨0,((data.drop po).take n).length,(data.drop po).take n⟩⟩ by
  unfold Cf.fG Cf.xE Cf.setEnd Cf.setProc
  simp only[Int.toNat_natCast,hP.is_])
 rw[HT.out]
 clear h hP he hT1 HT
 generalize min po data.length=m1 at *
 generalize data.drop po=r at *
 by_cases h0:r=[]
 ·rw[if_pos h0]
  subst h0
  go_enter Tryz.func142,Tryz.ntmps142
  go_upto_region 1 with fail
  generalize w.alloc (.cells #[.int .i64 0,.int .i64 0,.string ⟨#[]⟩] au)=w0 at *
  have hBe:=HK0.out.Be HP.out
  have r2:w0.cell? ⟨gE,i*3+2,none⟩=_:=hBe.cell HE.out (j:=2) rfl
  have rf:=hBe.open_
  have rl:=hBe.lt
  clear hBe
  go_wp2_with fail
  refine(az 12 _).mono ?_
  rintro e w1 ⟨rfl,hb1⟩
  have HK1:=hid (HK0.out.below hb1)
  have HX1:=hid (HX0.out.below hb1)
  simp only[aF]
  clear hb1 HK0 HX0
  have hX9:=HX1.out _ _ HXB.out
  have HFin:=hid (ay HK1.out HX1.out HXw.out HXB.out hlow hroom)
  obtain⟨p0,p1,p2,f0,hl9⟩:=aS hX9
  clear hX9 HK1 HX1 HXw HXB
  go_wp2
  refine bodyPost_ret (v:=.agg #[.int .i64 12,.int .i64 0,.string ⟨#[]⟩]) (by simp[results,Tryz.results142,go_sem,p0,p1,p2]) rfl ?_
  exact⟨rfl,by(show ah _ _ _ _ k _);with_reducible exact HFin.out _ _ _⟩
 ·rw[if_neg h0]
  have hm2:=rJ n r.length
  have s2:=gu r (min n r.length) (Nat.min_le_right _ _)
  have hne:¬r.isEmpty=true:=by simpa using h0
  have hsz2:(⟨r.toArray⟩:ByteArray).size=r.length:=by simp[ByteArray.size]
  rw[qU]at s2
  have hml:min n r.length=(r.take n).length:=by rw[List.length_take]
  rw[hml]at hm2 s2
  have htl:(r.take n).length≤100:=by rw[List.length_take];omega
  have HAw:=hid (fun W=>lI (r.take n) W (by omega))
  clear hml h0
  generalize r.take n=t at *
  go_enter Tryz.func142,Tryz.ntmps142
  go_upto_region 1 with fail
  generalize w.alloc (.cells #[.int .i64 0,.int .i64 0,.string ⟨#[]⟩] au)=w0 at *
  have hBe:=HK0.out.Be HP.out
  have r2:w0.cell? ⟨gE,i*3+2,none⟩=_:=hBe.cell HE.out (j:=2) rfl
  have rf:=hBe.open_
  have rl:=hBe.lt
  clear hBe
  have HK1:=hid (HK0.out.putE HP.out.pv HP.out.proc rfl (i:=i) (j:=2) (e':=⟨ek,en,(po:Int)+t.length⟩) (u:=.int .i64 ((po:Int)+t.length)) HE.out (by omega) rfl)
  have HX1:=hid (HX0.out.offX (HK0.out.Be HP.out).box (by decide) (i*3+2) (.int .i64 ((po:Int)+t.length)))
  clear HK0 HX0
  go_wp2_with fail
  refine(HAw.out _).mono ?_
  rintro e w2 ⟨rfl,hb2⟩
  simp only[aF]
  have HK2:=hid (HK1.out.below hb2)
  have HX2:=hid (HX1.out.below hb2)
  clear hb2 HK1 HX1 HAw r2 rf rl
  have hX9:=HX2.out _ _ HXB.out
  have HFin:=hid (ay HK2.out HX2.out HXw.out HXB.out hlow hroom)
  obtain⟨p0,p1,p2,f0,hl9⟩:=aS hX9
  clear hX9 HK2 HX2 HXw HXB
  go_wp2
  refine bodyPost_ret (v:=.agg #[.int .i64 0,.int .i64 t.length,.string ⟨t.toArray⟩]) (by simp[results,Tryz.results142,go_sem,p0,p1,p2]) rfl ?_
  exact⟨rfl,by(show ah _ _ _ _ ⟨_,_,_,_,_⟩ _);with_reducible exact HFin.out _ _ _⟩
theorem FH(a b:List UInt8):(⟨a.toArray⟩:ByteArray) ++ ⟨b.toArray⟩=⟨(a++b).toArray⟩:=by
 apply yI
 simp
theorem ry(a b:List UInt8)(h:a.length+b.length≤1000):∀W:World,(Op.stringOp .add ⟨a.toArray⟩ ⟨b.toArray⟩).run Tryz.prog W = .ok (.string ⟨(a++b).toArray⟩) W:=fun W=>by
 rw[run_string_add_sum _ _ _ (by simp[ByteArray.size];omega),FH]
theorem wY{B:Nat}{wb:World}{g:Nat}{a:KA}{xs:List MV}{ps:List PV}(k:Cf.ag)(i:Nat)(c:List UInt8)(w:World)(h:KSt B wb g a xs ps k w)(hG:Cf.Good k)(hi:i<6)(hc:c.length≤100):
  Calls Tryz.prog 143 #[.pointer (some ⟨g,0,none⟩),.int .i64 i,.string ⟨c.toArray⟩] w (dF B wb g w (Cf.dP k i c)):=by
 obtain⟨A,ca,M,cm,N,cn,S,cs,Q,cq⟩:=a
 obtain⟨s,hs,hsp,hs20⟩:=oP hG.toPre hi
 obtain⟨gS,hgS,_⟩:=h.own.pipes.at_ hs
 simp only at hgS
 subst hgS
 have HXB:=hid (Wb.new w au [.int .i64 0,.int .i64 0,.string ⟨#[]⟩])
 have HXw:=hid (KpA.alloc w (.cells #[.int .i64 0,.int .i64 0,.string ⟨#[]⟩] au))
 have HX0:=hid (KpA.refl (w.alloc (.cells #[.int .i64 0,.int .i64 0,.string ⟨#[]⟩] au)))
 have HK0:=hid (h.below ((Below.refl _ _).alloc (Nat.le_refl _) (.cells #[.int .i64 0,.int .i64 0,.string ⟨#[]⟩] au)))
 have hroom:=h.room
 have hlow:w.heap.size≤w.heap.size:=Nat.le_refl _
 have HG:=hid hG
 have HS:=hid hs
 have hi6:(i:Int)<6:=by omega
 have HH:=hid (fun W (hW:KSt B wb g ⟨A,ca,M,cm,N,cn,some ⟨gS,0,none⟩,cs,Q,cq⟩ xs ps k W) kd=>jQ k _ g kd i W hW.ptr (iO (by rw[hG.procsL];omega)) (fun p hp=>iO (by rw[hG.ends p hp];omega)))
 have HT:=hid (show Cf.dP k i c=if Cf.hasB k.procs 2 i=false then Cf.ai k 12 else if c.take (min c.length (20-s.length))=[] then Cf.ai k 13 else⟨⟨k.mods,k.mem,k.nodes,k.pipes.set i (s++c.take (min c.length (20-s.length))),k.procs⟩,⟨0,(c.take (min c.length (20-s.length))).length,[]⟩⟩ by
  have e:c.take (min c.length (20-s.length))=c.take (20-s.length):=by rw[Nat.min_comm,qU]
  unfold Cf.dP Cf.setPipe
  rw[hsp,e])
 have HH3:=hid (fun W hW=>HH.out W hW 2)
 rw[HT.out]
 have hmin:∀ats ty w,(Builtin.min_ ats ty #[.int .i64 c.length,.int .i64 (20-(s.length:Int))]).run Tryz.prog w = .ok (.int .i64 ((min c.length (20-s.length):Nat):Int)) w:=by
  intro ats ty w
  have:=rJ c.length (20-s.length) ats ty w
  rwa [show((20-s.length:Nat):Int)=20-(s.length:Int) by omega]at this
 have s2:=gu c (min c.length (20-s.length)) (Nat.min_le_left _ _)
 have hsz:(⟨s.toArray⟩:ByteArray).size=s.length:=by simp[ByteArray.size]
 have hcz:(⟨c.toArray⟩:ByteArray).size=c.length:=by simp[ByteArray.size]
 have htl:(c.take (min c.length (20-s.length))).length≤100:=by rw[List.length_take];omega
 clear h hs hsp HH HT hG
 generalize Cf.hasB k.procs 2 i=b at *
 generalize c.take (min c.length (20-s.length))=t at *
 generalize min c.length (20-s.length)=m at *
 cases b
 ·rw[if_pos rfl]
  go_enter Tryz.func143,Tryz.ntmps143
  go_upto_region 1 with fail
  generalize w.alloc (.cells #[.int .i64 0,.int .i64 0,.string ⟨#[]⟩] au)=w0 at *
  go_wp2_with fail
  refine(HH3.out _ HK0.out).mono ?_
  rintro e w1 ⟨rfl,hb1⟩
  have HK1:=hid (HK0.out.below hb1)
  have HX1:=hid (HX0.out.below hb1)
  clear hb1 HK0 HX0 HH3 HS
  go_wp2_with fail
  refine(az 12 _).mono ?_
  rintro e w2 ⟨rfl,hb2⟩
  have HK2:=hid (HK1.out.below hb2)
  have HX2:=hid (HX1.out.below hb2)
  simp only[aF]
  clear hb2 HK1 HX1
  have hX9:=HX2.out _ _ HXB.out
  have HFin:=hid (ay HK2.out HX2.out HXw.out HXB.out hlow hroom)
  obtain⟨p0,p1,p2,f0,hl9⟩:=aS hX9
  clear hX9 HK2 HX2 HXw HXB
  go_wp2
  refine bodyPost_ret (v:=.agg #[.int .i64 12,.int .i64 0,.string ⟨#[]⟩]) (by simp[results,Tryz.results143,go_sem,p0,p1,p2]) rfl ?_
  exact⟨rfl,by(show ah _ _ _ _ k _);with_reducible exact HFin.out _ _ _⟩
 ·rw[if_neg (by decide)]
  by_cases h0:t=[]
  ·rw[if_pos h0]
   subst h0
   go_enter Tryz.func143,Tryz.ntmps143
   go_upto_region 1 with fail
   generalize w.alloc (.cells #[.int .i64 0,.int .i64 0,.string ⟨#[]⟩] au)=w0 at *
   go_wp2_with fail
   refine(HH3.out _ HK0.out).mono ?_
   rintro e w1 ⟨rfl,hb1⟩
   have HK1:=hid (HK0.out.below hb1)
   have HX1:=hid (HX0.out.below hb1)
   clear hb1 HK0 HX0 HH3
   have hK1:=HK1.out
   have c3:=hK1.ptr.c3
   simp only[HG.out.pipesL]at c3
   have kl:=hK1.box.lt
   have s0:=hK1.s0 rfl HS.out
   have sl:=(hK1.Bs rfl HS.out).lt
   have sf:=(hK1.Bs rfl HS.out).open_
   clear hK1
   go_wp2_with fail
   refine(az 13 _).mono ?_
   rintro e w2 ⟨rfl,hb2⟩
   have HK2:=hid (HK1.out.below hb2)
   have HX2:=hid (HX1.out.below hb2)
   simp only[aF]
   clear hb2 HK1 HX1
   have hX9:=HX2.out _ _ HXB.out
   have HFin:=hid (ay HK2.out HX2.out HXw.out HXB.out hlow hroom)
   obtain⟨p0,p1,p2,f0,hl9⟩:=aS hX9
   clear hX9 HK2 HX2 HXw HXB
   go_wp2
   refine bodyPost_ret (v:=.agg #[.int .i64 13,.int .i64 0,.string ⟨#[]⟩]) (by simp[results,Tryz.results143,go_sem,p0,p1,p2]) rfl ?_
   exact⟨rfl,by(show ah _ _ _ _ k _);with_reducible exact HFin.out _ _ _⟩
  ·rw[if_neg h0]
   have hadd:=ry s t (by omega)
   have hns:¬(9223372036854775807<s.length+t.length):=by omega
   have hne:¬t.isEmpty=true:=by simpa using h0
   have htz:(⟨t.toArray⟩:ByteArray).size=t.length:=by simp[ByteArray.size]
   have HCl:=hid (fun W=>iy t W (by omega))
   have Heg:=hid (fun args w=>show(callFunc 58 args).run Tryz.prog w = .ok (.enter 58 args) w by simp[go_sem])
   clear h0
   go_enter Tryz.func143,Tryz.ntmps143
   go_upto_region 1 with fail
   generalize w.alloc (.cells #[.int .i64 0,.int .i64 0,.string ⟨#[]⟩] au)=w0 at *
   go_wp2_with fail
   refine(HH3.out _ HK0.out).mono ?_
   rintro e w1 ⟨rfl,hb1⟩
   have HK1:=hid (HK0.out.below hb1)
   have HX1:=hid (HX0.out.below hb1)
   clear hb1 HK0 HX0 HH3
   have hK1:=HK1.out
   have c3:=hK1.ptr.c3
   simp only[HG.out.pipesL]at c3
   have kl:=hK1.box.lt
   have s0:=hK1.s0 rfl HS.out
   have sl:=(hK1.Bs rfl HS.out).lt
   have sf:=(hK1.Bs rfl HS.out).open_
   clear hK1
   go_wp2_with fail
   go_region_law (first
    | (refine aG (by rfl) 58 (.tmp 36) #[9] (by rfl) (.string ⟨t.toArray⟩) (by rfl) Heg.out (HCl.out _) ?_
       rintro e w2 ⟨rfl,hb2⟩
       refine⟨_,rfl,?_⟩
       have HK2:=hid (HK1.out.draw.below hb2)
       have HX2:=hid ((HX1.out.draw 1).below hb2)
       have hK2:=HK2.out
       have d3:=hK2.ptr.c3
       simp only[HG.out.pipesL]at d3
       have dl:=hK2.box.lt
       have e0:=hK2.s0 rfl HS.out
       have el:=(hK2.Bs rfl HS.out).lt
       have ef:=(hK2.Bs rfl HS.out).open_
       have HK3:=hid (hK2.putP rfl (s++t) HS.out)
       have HX3:=hid (HX2.out.offX (hK2.Bs rfl HS.out).box (by decide) i (.string ⟨(s++t).toArray⟩))
       have hX2:=HX2.out _ _ HXB.out
       obtain⟨t0,t1,t2,tf,tl⟩:=aS hX2
       have hng:gS≠w.heap.size:=Ne.symm ((hK2.Bs rfl HS.out).box.elim fun ds hd=>hX2.other hd (by decide))
       clear hX2 HX2 hK2 HK2 hb2)
    | fail)
   all_goals
    clear HK1 HX1
    have hX9:=HX3.out _ _ HXB.out
    have HFin:=hid (ay HK3.out HX3.out HXw.out HXB.out hlow hroom)
    obtain⟨p0,p1,p2,f0,hl9⟩:=aS hX9
    clear hX9 HK3 HX3 HXw HXB
    go_wp2
    refine bodyPost_ret (v:=.agg #[.int .i64 0,.int .i64 t.length,.string ⟨#[]⟩]) (by simp[results,Tryz.results143,go_sem,p0,p1,p2]) rfl ?_
    exact⟨rfl,by(show ah _ _ _ _ ⟨_,_,_,_,_⟩ _);with_reducible exact HFin.out _ _ _⟩
end
section
open Go.RowKit
theorem JK(x y:Nat)(ats:Array TypeId)(ty:TypeId)(w:World):(Builtin.max_ ats ty #[.int .i64 (x:Int),.int .i64 (y:Int)]).run Tryz.prog w = .ok (.int .i64 ((max x y:Nat):Int)) w:=by
 simp only[Builtin.max_]
 simp[Builtin.max2]
 split<;>omega
abbrev tU8:TypeId:=5
def bc(l:List UInt8):List Value:=l.map fun x=>.int .u8 (x.toNat:Int)
theorem pg(l:List UInt8):(bc l).length=l.length:=by simp[bc]
theorem yO(a b:List UInt8):bc (a++b)=bc a++bc b:=by simp[bc]
theorem DV(l:List UInt8)(n:Nat):(bc l).take n=bc (l.take n):=by simp[bc,List.map_take]
theorem DF(l:List UInt8)(n:Nat):(bc l).drop n=bc (l.drop n):=by simp[bc,List.map_drop]
theorem Wb.lay{g:Nat}{t:TypeId}:∀(vs:List Value) (o:Nat) (w:World) (cs:List Value),Wb w g t cs→o+vs.length≤cs.length→Wb (w.setCells g o vs) g t (cs.take o++vs++cs.drop (o+vs.length))
 | [],o,w,cs,h,_=>by simpa [World.setCells] using h
 | v :: vs,o,w,cs,h,hl=>by
   simp only[List.length_cons]at hl
   have h1:=Wb.lay vs (o+1) (w.setCell ⟨g,o,none⟩ v) (cs.set o v) (h.put o v) (by simp;omega)
   have e:(cs.set o v).take (o+1)++vs++(cs.set o v).drop (o+1+vs.length)=cs.take o++(v :: vs)++cs.drop (o+(v :: vs).length):=by
    have ho:o<cs.length:=by omega
    rw[List.take_add_one,List.getElem?_set_self ho,List.take_set_of_le (Nat.le_refl o),List.drop_set_of_lt (by omega),List.length_cons,show o+1+vs.length=o+(vs.length+1) by omega]
    simp
   rw[e]at h1
   exact h1
theorem Wb.is_there{w:World}{g:Nat}{t:TypeId}{cs:List Value}(h:Wb w g t cs){j:Nat}(hj:j<cs.length):(w.cell? ⟨g,j,none⟩).isSome=true:=by
 rw[h.cell,List.getElem?_eq_getElem hj]
 rfl
theorem JQ{w:World}{g:Nat}{l:List UInt8}(h:Wb w g tU8 (bc l)):IB w (some ⟨g,0,none⟩) l:=
 .inr ⟨g,0,rfl,h.lt,fun k x hx j v hv=>by
  have h0:j=0:=by
   cases j with
   | zero=>rfl
   | succ j=>simp[nH]at hv
  subst h0
  simp[nH]at hv
  subst hv
  rw[show 0+k*1+0=k by omega,h.cell]
  simp[bc,hx]⟩
theorem MZ:∀w,(Go.sizeOf tU8).run Tryz.prog w = .ok 1 w:=by
 obtain⟨i1,hi1,hy0,hy1,hy2⟩:=info_parts infoByte
 intro w
 simp[sizeOf,typeInfo,hi1,hy1]
theorem vZ{w:World}{g n c o:Nat}{l s:List UInt8}(h:Wb w g tU8 (bc l))(hl:o+s.length≤l.length)(hn:s.length≤n)(ty:TypeId):
  (Builtin.copy_ #[92,9] ty #[.slice (some ⟨g,o,none⟩) n c,.string ⟨s.toArray⟩]).run Tryz.prog w = .ok (goInt s.length) (w.setCells g o (bc s)):=by
 have hs:(⟨s.toArray⟩:ByteArray).size=s.length:=by simp[ByteArray.size]
 have:=run_copy_string (P:=Tryz.prog) w 92 9 ty tU8 g o n c ⟨s.toArray⟩ Tryz.underlying92 MZ (by rw[hs];exact hn) (fun j hj=>h.is_there (by rw[hs]at hj;rw[pg];omega)) (fun j _=>h.open_ _)
 rw[hs]at this
 exact this
theorem BX(w:World)(n:Nat)(hn:n≤100):∃c,(Instr.makeSlice 92 (.int .i64 (n:Int)) (.int .i64 (n:Int))).run Tryz.prog w = .ok (.slice (some ⟨w.heap.size,0,none⟩) n n) (w.alloc (.cells c tU8))∧c.toList=bc (List.replicate n 0):=by
 obtain⟨i1,hi1,hy0,hy1,hy2⟩:=info_parts infoByte
 have:=run_make (P:=Tryz.prog) w 92 tU8 i1 _ Tryz.underlying92 hi1 hy0 .i64 .i64 (n:Int) (n:Int) (by omega) (by omega) (by rw[hy2];omega) (by omega)
 rw[Int.toNat_natCast]at this
 refine⟨_,this,?_⟩
 have h1:=xB (Value.int .u8 0).cells (0:UInt8) (enc:=nH) rfl n
 have hsz:(Value.int .u8 0).cells.size=1:=rfl
 rw[hsz]at h1
 rw[hy1,h1]
 simp[bc,nH,List.flatMap_replicate]
theorem J3(d t:List UInt8)(po:Nat):(d++List.replicate (max d.length (po+t.length)-d.length) 0).take po++t++(d++List.replicate (max d.length (po+t.length)-d.length) 0).drop (po+t.length)=Cf.kT d t po:=by
 unfold Cf.kT
 have h1:(d++List.replicate (max d.length (po+t.length)-d.length) (0:UInt8)).take po=(d++List.replicate (po-d.length) 0).take po:=by
  rw[List.take_append,List.take_append,List.take_replicate,List.take_replicate]
  congr 2
  omega
 have h2:(d++List.replicate (max d.length (po+t.length)-d.length) (0:UInt8)).drop (po+t.length)=d.drop (po+t.length):=by
  rw[List.drop_append,List.drop_replicate]
  rw[show max d.length (po+t.length)-d.length-(po+t.length-d.length)=0 by omega]
  simp
 rw[h1,h2]
theorem PAt.node{a:KA}{ps:List PV}{k:Cf.ag}{q gQ gE ce:Nat}{lv:Bool}{es:List Cf.End}(h:PAt a ps k q gQ gE ce lv es)(ns:List Cf.Node):PAt a ps ⟨k.mods,k.mem,ns,k.pipes,k.procs⟩ q gQ gE ce lv es:=⟨h.Q,h.pv,h.proc,h.len,h.is_,h.cap⟩
theorem wX{B:Nat}{wb:World}{g:Nat}{a:KA}{xs:List MV}{ps:List PV}(k:Cf.ag)(q gQ gE ce gN j:Nat)(lv:Bool)(es:List Cf.End)(i:Nat)(e:Cf.End)(f:Cf.Node)(c:List UInt8)(w:World)(h:KSt B wb g a xs ps k w)(hP:PAt a ps k q gQ gE ce lv es)(he:es[i]?=some e)(hN:a.N=some ⟨gN,0,none⟩)(hf:k.nodes[j]?=some f)(hj:e.node.toNat=j)(hd:f.data.length≤100)(hc:c.length≤100)(hp:0≤e.pos∧e.pos≤100):
  Calls Tryz.prog 145 #[.pointer (some ⟨gN,j*4,none⟩),.pointer (some ⟨gE,i*3,none⟩),.string ⟨c.toArray⟩] w (dF B wb g w (Cf.dO k q i c e f)):=by
 have HXB:=hid (Wb.new w au [.int .i64 0,.int .i64 0,.string ⟨#[]⟩])
 have HXw:=hid (KpA.alloc w (.cells #[.int .i64 0,.int .i64 0,.string ⟨#[]⟩] au))
 have HX0:=hid (KpA.refl (w.alloc (.cells #[.int .i64 0,.int .i64 0,.string ⟨#[]⟩] au)))
 have HK0:=hid (h.below ((Below.refl _ _).alloc (Nat.le_refl _) (.cells #[.int .i64 0,.int .i64 0,.string ⟨#[]⟩] au)))
 have hroom:=h.room
 have hlow:w.heap.size≤w.heap.size:=Nat.le_refl _
 have HP:=hid hP
 have HE:=hid he
 have HN:=hid hN
 have HF:=hid hf
 obtain⟨po,hpo⟩:=Int.eq_ofNat_of_zero_le hp.1
 obtain⟨ek,en,ep⟩:=e
 obtain⟨fn,fk,d,fu⟩:=f
 simp only at hpo hp hd hj
 subst hpo
 have hmin:∀ats ty w,(Builtin.min_ ats ty #[.int .i64 c.length,.int .i64 (100-(po:Int))]).run Tryz.prog w = .ok (.int .i64 ((min c.length (100-po):Nat):Int)) w:=by
  intro ats ty w
  have:=rJ c.length (100-po) ats ty w
  rwa [show((100-po:Nat):Int)=100-(po:Int) by omega]at this
 have s2:=gu c (min c.length (100-po)) (Nat.min_le_left _ _)
 have hcz:(⟨c.toArray⟩:ByteArray).size=c.length:=by simp[ByteArray.size]
 have hdz:(⟨d.toArray⟩:ByteArray).size=d.length:=by simp[ByteArray.size]
 have htl:po+(c.take (min c.length (100-po))).length≤100:=by rw[List.length_take];omega
 have HT:=hid (show Cf.dO k q i c ⟨ek,en,po⟩ ⟨fn,fk,d,fu⟩=if c.take (min c.length (100-po))=[] then Cf.ai k 8 else⟨⟨k.mods,k.mem,k.nodes.set j ⟨fn,fk,Cf.kT d (c.take (min c.length (100-po))) po,fu⟩,k.pipes,k.procs.set q ⟨lv,es.set i ⟨ek,en,(po:Int)+(c.take (min c.length (100-po))).length⟩⟩⟩,⟨0,(c.take (min c.length (100-po))).length,[]⟩⟩ by
  have e:c.take (min c.length (100-po))=c.take (100-po):=by rw[Nat.min_comm,qU]
  have e2:∀n:Cf.Node,Cf.aN (Cf.setNode k j n) q=⟨lv,es⟩:=fun n=>hP.is_
  unfold Cf.dO Cf.setEnd
  simp only[Int.toNat_natCast,hj,e2,e]
  rfl)
 rw[HT.out]
 clear h hP he hN hf hj HT
 generalize c.take (min c.length (100-po))=t at *
 generalize min c.length (100-po)=m at *
 by_cases h0:t=[]
 ·rw[if_pos h0]
  subst h0
  go_enter Tryz.func145,Tryz.ntmps145
  go_upto_region 1 with fail
  generalize w.alloc (.cells #[.int .i64 0,.int .i64 0,.string ⟨#[]⟩] au)=w0 at *
  have hBe:=HK0.out.Be HP.out
  have r2:w0.cell? ⟨gE,i*3+2,none⟩=_:=hBe.cell HE.out (j:=2) rfl
  have rf:=hBe.open_
  have rl:=hBe.lt
  have hBn:=HK0.out.Bn HN.out HF.out
  have n2:w0.cell? ⟨gN,j*4+2,none⟩=_:=hBn.cell HF.out (j:=2) rfl
  have nf:=hBn.open_
  have nl:=hBn.lt
  have hne2:gN≠gE:=hBn.other hBe (by decide)
  clear hBe hBn
  go_wp2_with fail
  refine(az 8 _).mono ?_
  rintro e w1 ⟨rfl,hb1⟩
  have HK1:=hid (HK0.out.below hb1)
  have HX1:=hid (HX0.out.below hb1)
  simp only[aF]
  clear hb1 HK0 HX0
  have hX9:=HX1.out _ _ HXB.out
  have HFin:=hid (ay HK1.out HX1.out HXw.out HXB.out hlow hroom)
  obtain⟨p0,p1,p2,f0,hl9⟩:=aS hX9
  clear hX9 HK1 HX1 HXw HXB
  go_wp2
  refine bodyPost_ret (v:=.agg #[.int .i64 8,.int .i64 0,.string ⟨#[]⟩]) (by simp[results,Tryz.results145,go_sem,p0,p1,p2]) rfl ?_
  exact⟨rfl,by(show ah _ _ _ _ k _);with_reducible exact HFin.out _ _ _⟩
 ·rw[if_neg h0]
  have hne:¬t.isEmpty=true:=by simpa using h0
  have htz:(⟨t.toArray⟩:ByteArray).size=t.length:=by simp[ByteArray.size]
  have htp:0<t.length:=List.length_pos_iff.2 h0
  have hmax:∀ats ty w,(Builtin.max_ ats ty #[.int .i64 d.length,.int .i64 ((po:Int)+(t.length:Int))]).run Tryz.prog w = .ok (.int .i64 ((max d.length (po+t.length):Nat):Int)) w:=by
   intro ats ty w
   have:=JK d.length (po+t.length) ats ty w
   rwa [show((po+t.length:Nat):Int)=(po:Int)+(t.length:Int) by omega]at this
  have hnp:¬max d.length (po+t.length)=po:=by omega
  have hpm:po≤max d.length (po+t.length):=by omega
  have hR:=J3 d t po
  have hRl:(Cf.kT d t po).length=max d.length (po+t.length):=by rw[← hR];simp;omega
  have hRn:Cf.kT d t po≠[]:=by intro h;rw[h]at hRl;simp at hRl;omega
  have hmx:max d.length (po+t.length)≤100:=by omega
  have hL1:d.length≤max d.length (po+t.length):=by omega
  have hL2:po+t.length≤max d.length (po+t.length):=by omega
  generalize max d.length (po+t.length)=mx at *
  have HR:=hid hR
  have HRl:=hid hRl
  have HRn:=hid hRn
  generalize Cf.kT d t po=R at *
  clear h0 hR hRl hRn
  go_enter Tryz.func145,Tryz.ntmps145
  go_upto_region 1 with fail
  generalize w.alloc (.cells #[.int .i64 0,.int .i64 0,.string ⟨#[]⟩] au)=w0 at *
  have hBe:=HK0.out.Be HP.out
  have r2:w0.cell? ⟨gE,i*3+2,none⟩=_:=hBe.cell HE.out (j:=2) rfl
  have rf:=hBe.open_
  have rl:=hBe.lt
  have hBn:=HK0.out.Bn HN.out HF.out
  have n2:w0.cell? ⟨gN,j*4+2,none⟩=_:=hBn.cell HF.out (j:=2) rfl
  have nf:=hBn.open_
  have nl:=hBn.lt
  have hne2:gN≠gE:=hBn.other hBe (by decide)
  clear hBe hBn
  obtain⟨cz,hmk,hcz2⟩:=BX w0 mx hmx
  go_upto_region 6 with fail
  have HM1:=hid (show Wb (w0.alloc (.cells cz tU8)) w0.heap.size tU8 (bc (List.replicate mx 0)) by
   have:=Wb.new w0 tU8 cz.toList
   rw[hcz2]at this
   have e:(bc (List.replicate mx 0)).toArray=cz:=by rw[← hcz2]
   rwa [e]at this)
  have hb1:Below w0.heap.size w0 (w0.alloc (.cells cz tU8)):=(Below.refl _ _).alloc (Nat.le_refl _) _
  clear hmk hcz2 r2 rf rl n2 nf nl hne2
  generalize w0.alloc (.cells cz tU8)=w1 at *
  have HK1:=hid (HK0.out.below hb1)
  have HX1:=hid (HX0.out.below hb1)
  have Hb1:=hid hb1
  clear hb1
  have hBe:=HK1.out.Be HP.out
  have r2:w1.cell? ⟨gE,i*3+2,none⟩=_:=hBe.cell HE.out (j:=2) rfl
  have rf:=hBe.open_
  have rl:=hBe.lt
  have hBn:=HK1.out.Bn HN.out HF.out
  have n2:w1.cell? ⟨gN,j*4+2,none⟩=_:=hBn.cell HF.out (j:=2) rfl
  have nf:=hBn.open_
  have nl:=hBn.lt
  have hne2:gN≠gE:=hBn.other hBe (by decide)
  clear hBe hBn
  have hcp:=fun ty=>vZ (o:=0) (n:=mx) (c:=mx) (s:=d) HM1.out (by rw[List.length_replicate];omega) (by omega) ty
  go_upto_region 7 with fail
  have HM2:=hid (show Wb (w1.setCells w0.heap.size 0 (bc d)) w0.heap.size tU8 (bc (d++List.replicate (mx-d.length) 0)) by
   have:=Wb.lay (bc d) 0 w1 _ HM1.out (by rw[pg,pg,List.length_replicate];omega)
   rw[DV,DF,pg,← yO,← yO]at this
   simpa using this)
  have Hb2:=hid (Go.below_setCells (B:=w0.heap.size) (Nat.le_refl _) (bc d) 0 w1 Hb1.out)
  clear HK1 HX1 hcp HM1 Hb1 r2 rf rl n2 nf nl hne2
  generalize w1.setCells w0.heap.size 0 (bc d)=w2 at *
  have HK2:=hid (HK0.out.below Hb2.out)
  have hBe:=HK2.out.Be HP.out
  have r2:w2.cell? ⟨gE,i*3+2,none⟩=_:=hBe.cell HE.out (j:=2) rfl
  have rf:=hBe.open_
  have rl:=hBe.lt
  have hBn:=HK2.out.Bn HN.out HF.out
  have n2:w2.cell? ⟨gN,j*4+2,none⟩=_:=hBn.cell HF.out (j:=2) rfl
  have nf:=hBn.open_
  have nl:=hBn.lt
  have hne2:gN≠gE:=hBn.other hBe (by decide)
  clear hBe hBn
  have hcp:=fun ty=>vZ (o:=po) (n:=mx-po) (c:=mx-po) (s:=t) HM2.out (by rw[List.length_append,List.length_replicate];omega) (by omega) ty
  go_upto_region 8 with fail
  have HM3:=hid (show Wb (w2.setCells w0.heap.size po (bc t)) w0.heap.size tU8 (bc R) by
   have:=Wb.lay (bc t) po w2 _ HM2.out (by rw[pg,pg,List.length_append,List.length_replicate];omega)
   rw[DV,DF,pg,← yO,← yO,HR.out]at this
   exact this)
  have Hb3:=hid (Go.below_setCells (B:=w0.heap.size) (Nat.le_refl _) (bc t) po w2 Hb2.out)
  clear HK2 hcp HM2 Hb2 r2 rf rl n2 nf nl hne2
  generalize w2.setCells w0.heap.size po (bc t)=w3 at *
  have HK3:=hid (HK0.out.below Hb3.out)
  have HX3:=hid (HX0.out.below Hb3.out)
  have hBe:=HK3.out.Be HP.out
  have r2:w3.cell? ⟨gE,i*3+2,none⟩=_:=hBe.cell HE.out (j:=2) rfl
  have rf:=hBe.open_
  have rl:=hBe.lt
  have hBn:=HK3.out.Bn HN.out HF.out
  have n2:w3.cell? ⟨gN,j*4+2,none⟩=_:=hBn.cell HF.out (j:=2) rfl
  have nf:=hBn.open_
  have nl:=hBn.lt
  have hne2:gN≠gE:=hBn.other hBe (by decide)
  clear hBe hBn
  have hcv:=mO (JQ HM3.out) HRn.out mx
  rw[HRl.out]at hcv
  have HK4:=hid (HK3.out.putN HN.out (i:=j) (j:=2) (x':=⟨fn,fk,R,fu⟩) (u:=.string ⟨R.toArray⟩) HF.out (by omega) rfl)
  have HX4:=hid (HX3.out.offX (HK3.out.Bn HN.out HF.out).box (by decide) (j*4+2) (.string ⟨R.toArray⟩))
  have HP4:=hid (HP.out.node (k.nodes.set j ⟨fn,fk,R,fu⟩))
  clear HK0 HX0 HK3 HX3 Hb3 HM3
  go_upto_region 9 with fail
  clear hcv r2 rf rl n2 nf nl hne2
  generalize w3.setCell ⟨gN,j*4+2,none⟩ (.string ⟨R.toArray⟩)=w4 at *
  have hBe:=HK4.out.Be HP4.out
  have r2:w4.cell? ⟨gE,i*3+2,none⟩=_:=hBe.cell HE.out (j:=2) rfl
  have rf:=hBe.open_
  have rl:=hBe.lt
  clear hBe
  have HK5:=hid (HK4.out.putE HP4.out.pv HP4.out.proc rfl (i:=i) (j:=2) (e':=⟨ek,en,(po:Int)+t.length⟩) (u:=.int .i64 ((po:Int)+t.length)) HE.out (by omega) rfl)
  have HX5:=hid (HX4.out.offX (HK4.out.Be HP4.out).box (by decide) (i*3+2) (.int .i64 ((po:Int)+t.length)))
  clear HK4 HX4
  go_upto_region 10 with fail
  clear r2 rf rl
  generalize w4.setCell ⟨gE,i*3+2,none⟩ (.int .i64 ((po:Int)+t.length))=w5 at *
  have hX9:=HX5.out _ _ HXB.out
  have HFin:=hid (ay HK5.out HX5.out HXw.out HXB.out hlow hroom)
  obtain⟨p0,p1,p2,f0,hl9⟩:=aS hX9
  clear hX9 HK5 HX5 HXw HXB
  go_wp2
  refine bodyPost_ret (v:=.agg #[.int .i64 0,.int .i64 t.length,.string ⟨#[]⟩]) (by simp[results,Tryz.results145,go_sem,p0,p1,p2]) rfl ?_
  exact⟨rfl,by(show ah _ _ _ _ ⟨_,_,_,_,_⟩ _);with_reducible exact HFin.out _ _ _⟩
end
end Go.Proofs.YtnnhhbjbdmgpiaaGreatDoor
