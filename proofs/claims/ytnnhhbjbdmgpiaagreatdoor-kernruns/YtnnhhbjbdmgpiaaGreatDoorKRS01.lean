/- Texts of the proof of KernRuns: RunW. -/
import Derived.Test.YtnnhhbjbdmgpiaaGreatDoorJ37
set_option linter.unusedSimpArgs false
set_option linter.unusedVariables false
namespace Go.Proofs.YtnnhhbjbdmgpiaaGreatDoor
set_option maxRecDepth 100000
set_option maxHeartbeats 4000000
open Lib (hid)
section
open Go.RowKit
theorem yK(w:World)(t:TypeId)(x:Cf.Ans):RdS 3 aF (w.alloc (.cells #[.int .i64 x.code,.int .i64 x.n,.string ⟨x.data.toArray⟩] t)) (some ⟨w.heap.size,0,none⟩) [x]:=
 .inr ⟨w.heap.size,0,rfl,by simp,fun k y hy j u hu=>by
  cases k with
  | succ k=>simp at hy
  | zero=>
    simp at hy
    subst hy
    rw[show 0+0*3+j=j by omega]
    exact((Wb.new w t (aF x)).cell j).trans hu⟩
theorem DT(l:List Cf.jo)(k:Cf.ag)(n:Nat):(Cf.dS k (l.take n)).answers.length≤n:=by rw[Cf.yN,List.length_take];omega
theorem Io{w:World}{B sz:Nat}{t:TypeId}{A:Option Addr}{c:Nat}{l:List Cf.Ans}{xs:List Value}(h:w.ownsRow B t sz (.slice A l.length c) l.length xs):AtP (fun b=>B≤b) A l:=by
 rcases h.2 with ⟨_,h0⟩|⟨g,cap,cur,hv,hb,_⟩
 ·exact .inl (List.eq_nil_of_length_eq_zero h0)
 ·injection hv with h1
  exact .inr ⟨g,0,h1,hb⟩
theorem CP(l:List Cf.jo)(Al:Option Addr)(cap:Nat)(w:World)(hA:He w Al l)(hl:l.length≤maxLen)(hz:∀x∈l,x.name.length≤maxLen∧x.data.length≤maxLen)(hL:jW w)(hF:kL w):
  Calls Tryz.prog 15 #[.slice Al l.length cap] w (Ns (Cf.ik l) w):=by
 obtain⟨i0,hi0,hy0,hy1,hy2⟩:=info_parts Kw
 have Hi:=hid hi0
 have H0:=hid hy0
 have H1:=hid hy1
 have H2:=hid hy2
 unfold maxLen at hl
 obtain⟨w0,hw0⟩:∃w0:World,w0=w.alloc (.cells #[.slice none 0 0,.slice none 0 0,.slice none 0 0,.slice none 0 0,.slice none 0 0] ae):=⟨_,rfl⟩
 have hb0:Below w.heap.size w w0:=by rw[hw0];exact(Below.refl _ _).alloc (Nat.le_refl _) _
 have HR0:=hid (show Wb w0 w.heap.size ae [.slice none 0 0,.slice none 0 0,.slice none 0 0,.slice none 0 0,.slice none 0 0] by rw[hw0];exact Wb.new w ae [.slice none 0 0,.slice none 0 0,.slice none 0 0,.slice none 0 0,.slice none 0 0])
 have Hw0:=hid hw0
 have Hb0:=hid hb0
 have HA:=hid hA
 have HZ:=hid hz
 have HTb:=hid (show ∀W,Below w.heap.size w W→jW W∧kL W from fun W h=>⟨hL.below h,hF.below h⟩)
 have Hs0:=hid (show w0.heap.size=w.heap.size+1 by rw[hw0];simp)
 clear hi0 hy0 hy1 hy2 hw0 hb0 hA hz hL hF
 by_cases h2:200<l.length
 ·have HSc:=hid (show Cf.ik l=⟨[],Cf.jR,1⟩ by unfold Cf.ik;rw[if_pos h2])
  rw[HSc.out]
  go_enter Tryz.func15,Tryz.ntmps15
  go_upto_region 1 with fail
  rw[← Hw0.out]
  clear Hw0
  have hR:=HR0.out
  obtain⟨r0,r1,r2,r3,r4,rf,rl⟩:=kY hR
  clear hR
  go_wp2
  refine bodyPost_ret (v:=.tuple #[.slice none 0 0,.agg #[.slice none 0 0,.slice none 0 0,.slice none 0 0,.slice none 0 0,.slice none 0 0],.int .i64 1]) (by simp[results,Tryz.results15,go_sem,r0,r1,r2,r3,r4]) rfl ?_
  exact⟨none,0,_,rfl,.inl rfl,Nat.le_refl _,⟨.inl rfl,((pz w.heap.size _).pr).mono fun b hb=>hb.1⟩,(((((Hb0.out.setCell (p:=⟨w.heap.size,0,none⟩) (Nat.le_refl _) _).setCell (p:=⟨w.heap.size,1,none⟩) (Nat.le_refl _) _).setCell (p:=⟨w.heap.size,2,none⟩) (Nat.le_refl _) _).setCell (p:=⟨w.heap.size,3,none⟩) (Nat.le_refl _) _).setCell (p:=⟨w.heap.size,4,none⟩) (Nat.le_refl _) _)⟩
 have HSc:=hid (show Cf.ik l=⟨(Cf.dS Cf.ak (l.take l.length)).answers,(Cf.dS Cf.ak (l.take l.length)).kern,0⟩ by unfold Cf.ik;rw[if_neg h2,List.take_length])
 have HNw:=hid (new_any w0)
 rw[HSc.out]
 clear HSc
 go_enter Tryz.func15,Tryz.ntmps15
 go_upto_region 1 with fail
 rw[← Hw0.out]
 clear Hw0
 go_wp2_with fail
 refine HNw.out.mono ?_
 rintro e w1 ⟨⟨A1,ca1,M1,cm1,N1,cn1,S1,cs1,Q1,cq1⟩,rfl,hnew,hb1⟩
 simp only[af]
 go_upto_region 4 with fail
 have HT0:=hid (show RunT w w1.heap.size Cf.ak [] (.slice none 0 0) ⟨A1,ca1,M1,cm1,N1,cn1,S1,cs1,Q1,cq1⟩ (w1.alloc (.cells #[.slice A1 Cf.ak.mods.length ca1,.slice M1 Cf.ak.mem.length cm1,.slice N1 Cf.ak.nodes.length cn1,.slice S1 Cf.ak.pipes.length cs1,.slice Q1 Cf.ak.procs.length cq1] ae)) from⟨Wb.new w1 ae _,World.ownsRow_nil _ _ _ _,((hnew.pr).mono fun b hb=>⟨by omega,by simp[Value.ownBlock],by have:=Hs0.out;omega⟩).kept (fO.below ((Below.refl _ _).alloc (Nat.le_refl _) _)),(Hb0.out.trans (hb1.mono Hb0.out.size)).alloc (Nat.le_trans Hb0.out.size hb1.size) _,Nat.le_trans Hb0.out.size hb1.size⟩)
 have HR1:=hid ((HR0.out.below hb1 HR0.out.lt).alloc (.cells #[.slice A1 Cf.ak.mods.length ca1,.slice M1 Cf.ak.mem.length cm1,.slice N1 Cf.ak.nodes.length cn1,.slice S1 Cf.ak.pipes.length cs1,.slice Q1 Cf.ak.procs.length cq1] ae))
 have Hgl:=hid (show w.heap.size<w1.heap.size by have:=hb1.size;have:=Hs0.out;omega)
 clear hnew hb1 HNw HR0 Hb0
 generalize hgg:w1.heap.size=g at *
 clear hgg
 generalize w1.alloc (.cells #[.slice A1 Cf.ak.mods.length ca1,.slice M1 Cf.ak.mem.length cm1,.slice N1 Cf.ak.nodes.length cn1,.slice S1 Cf.ak.pipes.length cs1,.slice Q1 Cf.ak.procs.length cq1] ae)=w2 at *
 go_wp2
 go_loopw [6,19] (fun v i wr=>∃(n:Nat) (a:KA),n≤l.length∧i = .int .i64 n∧RunT w g (Cf.dS Cf.ak (l.take n)).kern (Cf.dS Cf.ak (l.take n)).answers v a wr∧Wb wr w.heap.size ae [.slice none 0 0,.slice none 0 0,.slice none 0 0,.slice none 0 0,.slice none 0 0]∧Cf.Good (Cf.dS Cf.ak (l.take n)).kern) (fun v i _=>l.length-(intOf i).toNat)
 case atStart=>exact⟨0,_,by omega,rfl,HT0.out,HR1.out,Cf.uN⟩
 case round=>
  obtain⟨n,⟨A,ca,M,cm,N,cn,S,cs,Q,cq⟩,hn,rfl,hT,hR,hG⟩:=hrel
  have HT:=hid hT
  have HR:=hid hR
  have HG:=hid hG
  clear hT hR hG HT0 HR1
  by_cases hlt:n<l.length
  ·obtain⟨kd,pp,nn,mm,nm,da,hx⟩:∃kd pp nn mm nm da,l[n]?=some ⟨kd,pp,nn,mm,nm,da⟩:=⟨_,_,_,_,_,_,List.getElem?_eq_getElem hlt⟩
   rcases HA.out with h0|⟨b,off,rfl,hbl,hc⟩
   ·rw[h0]at hlt
    simp at hlt
   have hkp:=HT.out.keep
   have q0:wr.cell? ⟨b,off+n*6,none⟩=_:=(hkp.cell hbl).trans (hc n _ hx 0 _ rfl)
   have q1:wr.cell? ⟨b,off+n*6+1,none⟩=_:=(hkp.cell hbl).trans (hc n _ hx 1 _ rfl)
   have q2:wr.cell? ⟨b,off+n*6+2,none⟩=_:=(hkp.cell hbl).trans (hc n _ hx 2 _ rfl)
   have q3:wr.cell? ⟨b,off+n*6+3,none⟩=_:=(hkp.cell hbl).trans (hc n _ hx 3 _ rfl)
   have q4:wr.cell? ⟨b,off+n*6+4,none⟩=_:=(hkp.cell hbl).trans (hc n _ hx 4 _ rfl)
   have q5:wr.cell? ⟨b,off+n*6+5,none⟩=_:=(hkp.cell hbl).trans (hc n _ hx 5 _ rfl)
   have JB:b<wr.heap.size:=Nat.lt_of_lt_of_le hbl hkp.size
   obtain⟨hnm,hda⟩:=HZ.out _ (List.mem_of_getElem? hx)
   simp only at hnm hda
   have HNx:=hid (vN hx Cf.ak)
   have hal:=DT l Cf.ak n
   clear hkp hc hx
   generalize (Cf.dS Cf.ak (l.take n)).kern=kk at *
   generalize (Cf.dS Cf.ak (l.take n)).answers=an at *
   have HGn:=hid (HG.out.next ⟨kd,pp,nn,mm,nm,da⟩)
   have HNt:=hid (show Cf.mD kk ⟨kd,pp,nn,mm,nm,da⟩=if (Cf.doT kk ⟨kd,pp,nn,mm,nm,da⟩).err=0 then⟨(Cf.doT kk ⟨kd,pp,nn,mm,nm,da⟩).kern,(Cf.doT kk ⟨kd,pp,nn,mm,nm,da⟩).ans⟩ else⟨kk,⟨(Cf.doT kk ⟨kd,pp,nn,mm,nm,da⟩).err,0,[]⟩⟩ from rfl)
   go_upto_region 8 with fail
   have hb3:Below wr.heap.size wr (wr.alloc (.cells #[.int .i64 kd,.int .i64 pp,.int .i64 nn,.int .i64 mm,.string ⟨nm.toArray⟩,.string ⟨da.toArray⟩] gJ)):=(Below.refl _ _).alloc (Nat.le_refl _) _
   have HB3:=hid (Wb.new wr gJ [.int .i64 kd,.int .i64 pp,.int .i64 nn,.int .i64 mm,.string ⟨nm.toArray⟩,.string ⟨da.toArray⟩])
   have HT3:=hid (HT.out.below hb3)
   have HR3:=hid (HR.out.below hb3 HR.out.lt)
   clear hb3 HT HR q0 q1 q2 q3 q4 q5 JB
   generalize hgA:wr.heap.size=gA at *
   clear hgA
   generalize wr.alloc (.cells #[.int .i64 kd,.int .i64 pp,.int .i64 nn,.int .i64 mm,.string ⟨nm.toArray⟩,.string ⟨da.toArray⟩] gJ)=w3 at *
   have HDo:=hid (GY kk ⟨A,ca,M,cm,N,cn,S,cs,Q,cq⟩ kd pp nn mm nm da w3 HT3.out.rows.rd (rG HG.out) (HTb.out w3 HT3.out.keep).1 (HTb.out w3 HT3.out.keep).2 hnm hda)
   generalize Cf.doT kk ⟨kd,pp,nn,mm,nm,da⟩=d at *
   obtain⟨dk,⟨dc,dn,ds⟩,de⟩:=d
   have hK:=HT3.out.box
   have z0:=hK.cell 0
   have z1:=hK.cell 1
   have z2:=hK.cell 2
   have z3:=hK.cell 3
   have z4:=hK.cell 4
   simp only[af,gq]at z0 z1 z2 z3 z4
   have zl:=hK.lt
   have hB:=HB3.out
   obtain⟨a0,a1,a2,a3,a4,a5, -,al⟩:=yS hB
   clear hK hB HB3
   go_wp2_with fail
   refine HDo.out.mono ?_
   rintro e w4 ⟨⟨A2,ca2,M2,cm2,N2,cn2,S2,cs2,Q2,cq2⟩,rfl,hnew,hb4⟩
   simp only[af,aF]
   go_upto_region 9 with fail
   have hb5:Below w4.heap.size w4 ((w4.alloc (.cells #[.slice A2 dk.mods.length ca2,.slice M2 dk.mem.length cm2,.slice N2 dk.nodes.length cn2,.slice S2 dk.pipes.length cs2,.slice Q2 dk.procs.length cq2] ae)).alloc (.cells #[.int .i64 dc,.int .i64 dn,.string ⟨ds.toArray⟩] au)):=((Below.refl _ _).alloc (Nat.le_refl _) _).alloc (by simp) _
   have HN5:=hid (show Wb ((w4.alloc (.cells #[.slice A2 dk.mods.length ca2,.slice M2 dk.mem.length cm2,.slice N2 dk.nodes.length cn2,.slice S2 dk.pipes.length cs2,.slice Q2 dk.procs.length cq2] ae)).alloc (.cells #[.int .i64 dc,.int .i64 dn,.string ⟨ds.toArray⟩] au)) w4.heap.size ae [.slice A2 dk.mods.length ca2,.slice M2 dk.mem.length cm2,.slice N2 dk.nodes.length cn2,.slice S2 dk.pipes.length cs2,.slice Q2 dk.procs.length cq2] from(Wb.new w4 ae [.slice A2 dk.mods.length ca2,.slice M2 dk.mem.length cm2,.slice N2 dk.nodes.length cn2,.slice S2 dk.pipes.length cs2,.slice Q2 dk.procs.length cq2]).alloc _)
   have HA5:=hid (show Wb ((w4.alloc (.cells #[.slice A2 dk.mods.length ca2,.slice M2 dk.mem.length cm2,.slice N2 dk.nodes.length cn2,.slice S2 dk.pipes.length cs2,.slice Q2 dk.procs.length cq2] ae)).alloc (.cells #[.int .i64 dc,.int .i64 dn,.string ⟨ds.toArray⟩] au)) (w4.heap.size+1) au [.int .i64 dc,.int .i64 dn,.string ⟨ds.toArray⟩] by
    have:=Wb.new (w4.alloc (.cells #[.slice A2 dk.mods.length ca2,.slice M2 dk.mem.length cm2,.slice N2 dk.nodes.length cn2,.slice S2 dk.pipes.length cs2,.slice Q2 dk.procs.length cq2] ae)) au [.int .i64 dc,.int .i64 dn,.string ⟨ds.toArray⟩]
    rwa [show(w4.alloc (.cells #[.slice A2 dk.mods.length ca2,.slice M2 dk.mem.length cm2,.slice N2 dk.nodes.length cn2,.slice S2 dk.pipes.length cs2,.slice Q2 dk.procs.length cq2] ae)).heap.size=w4.heap.size+1 by simp]at this)
   have Js:=hid (hb4.trans (hb5.mono hb4.size))
   have HT5:=hid (HT3.out.below Js.out)
   have HR5:=hid (HR3.out.below Js.out HR3.out.lt)
   have HK5:=hid (show KPr (fun b=>b≠g∧u6.ownBlock≠some b∧w.heap.size<b) ((w4.alloc (.cells #[.slice A2 dk.mods.length ca2,.slice M2 dk.mem.length cm2,.slice N2 dk.nodes.length cn2,.slice S2 dk.pipes.length cs2,.slice Q2 dk.procs.length cq2] ae)).alloc (.cells #[.int .i64 dc,.int .i64 dn,.string ⟨ds.toArray⟩] au)) ⟨A2,ca2,M2,cm2,N2,cn2,S2,cs2,Q2,cq2⟩ dk from
    ((hnew.pr).mono fun b hb=>⟨by have:=HT3.out.box.lt;omega,fun he=>by have:=HT3.out.own_lt he;omega,by have:=HT3.out.keep.size;have:=HR3.out.lt;omega⟩).kept (fO.below hb5))
   have Hs4:=hid (show w3.heap.size≤w4.heap.size from hb4.size)
   clear hnew hb4 hb5 HDo HR3 z0 z1 z2 z3 z4 zl a0 a1 a2 a3 a4 a5 al
   generalize hg4:w4.heap.size=g4 at *
   clear hg4
   generalize (w4.alloc (.cells #[.slice A2 dk.mods.length ca2,.slice M2 dk.mem.length cm2,.slice N2 dk.nodes.length cn2,.slice S2 dk.pipes.length cs2,.slice Q2 dk.procs.length cq2] ae)).alloc (.cells #[.int .i64 dc,.int .i64 dn,.string ⟨ds.toArray⟩] au)=w5 at *
   have hN5:=HN5.out
   have y0:=hN5.cell 0
   have y1:=hN5.cell 1
   have y2:=hN5.cell 2
   have y3:=hN5.cell 3
   have y4:=hN5.cell 4
   have hA5:=HA5.out
   have t0:=hA5.cell 0
   have t1:=hA5.cell 1
   have t2:=hA5.cell 2
   have hK5:=HT5.out.box
   have z0:=hK5.cell 0
   have z1:=hK5.cell 1
   have z2:=hK5.cell 2
   have z3:=hK5.cell 3
   have z4:=hK5.cell 4
   simp only[af,gq]at y0 y1 y2 y3 y4 t0 t1 t2 z0 z1 z2 z3 z4
   have yl:=hN5.lt
   have tl:=hA5.lt
   have tf:=hA5.open_
   have zl:=hK5.lt
   have zf:=hK5.open_
   have n1:g4≠g:=by have:=HT3.out.box.lt;have:=Hs4.out;omega
   clear hN5 hA5 hK5 HN5
   by_cases he:de=0
   ·subst he
    rw[if_pos rfl]at HNt
    have n2:g4+1≠g:=by have:=HT3.out.box.lt;have:=Hs4.out;omega
    have n3:w.heap.size≠g:=Nat.ne_of_lt Hgl.out
    have HT6:=hid (show RunT w g dk an u6 ⟨A2,ca2,M2,cm2,N2,cn2,S2,cs2,Q2,cq2⟩ (((((w5.setCell ⟨g,0,none⟩ (.slice A2 dk.mods.length ca2)).setCell ⟨g,1,none⟩ (.slice M2 dk.mem.length cm2)).setCell ⟨g,2,none⟩ (.slice N2 dk.nodes.length cn2)).setCell ⟨g,3,none⟩ (.slice S2 dk.pipes.length cs2)).setCell ⟨g,4,none⟩ (.slice Q2 dk.procs.length cq2)) from HT5.out.put HK5.out)
    have HA6:=hid (show Wb (((((w5.setCell ⟨g,0,none⟩ (.slice A2 dk.mods.length ca2)).setCell ⟨g,1,none⟩ (.slice M2 dk.mem.length cm2)).setCell ⟨g,2,none⟩ (.slice N2 dk.nodes.length cn2)).setCell ⟨g,3,none⟩ (.slice S2 dk.pipes.length cs2)).setCell ⟨g,4,none⟩ (.slice Q2 dk.procs.length cq2)) (g4+1) au [.int .i64 dc,.int .i64 dn,.string ⟨ds.toArray⟩] from(((((HA5.out.off_ (p:=⟨g,0,none⟩) n2 _).off_ (p:=⟨g,1,none⟩) n2 _).off_ (p:=⟨g,2,none⟩) n2 _).off_ (p:=⟨g,3,none⟩) n2 _).off_ (p:=⟨g,4,none⟩) n2 _))
    have HR6:=hid (show Wb (((((w5.setCell ⟨g,0,none⟩ (.slice A2 dk.mods.length ca2)).setCell ⟨g,1,none⟩ (.slice M2 dk.mem.length cm2)).setCell ⟨g,2,none⟩ (.slice N2 dk.nodes.length cn2)).setCell ⟨g,3,none⟩ (.slice S2 dk.pipes.length cs2)).setCell ⟨g,4,none⟩ (.slice Q2 dk.procs.length cq2)) w.heap.size ae [.slice none 0 0,.slice none 0 0,.slice none 0 0,.slice none 0 0,.slice none 0 0] from(((((HR5.out.off_ (p:=⟨g,0,none⟩) n3 _).off_ (p:=⟨g,1,none⟩) n3 _).off_ (p:=⟨g,2,none⟩) n3 _).off_ (p:=⟨g,3,none⟩) n3 _).off_ (p:=⟨g,4,none⟩) n3 _))
    clear HT5 HK5 HA5 HR5
    go_upto_region 12 with fail
    clear y0 y1 y2 y3 y4 t0 t1 t2 z0 z1 z2 z3 z4 yl tl tf zl zf n1 n2 n3
    generalize (((((w5.setCell ⟨g,0,none⟩ (.slice A2 dk.mods.length ca2)).setCell ⟨g,1,none⟩ (.slice M2 dk.mem.length cm2)).setCell ⟨g,2,none⟩ (.slice N2 dk.nodes.length cn2)).setCell ⟨g,3,none⟩ (.slice S2 dk.pipes.length cs2)).setCell ⟨g,4,none⟩ (.slice Q2 dk.procs.length cq2))=w6 at *
    have hA9:=HA6.out
    obtain⟨t0,t1,t2, -,tl⟩:=aS hA9
    have hb9:Below w6.heap.size w6 (w6.alloc (.cells #[.int .i64 dc,.int .i64 dn,.string ⟨ds.toArray⟩] 34)):=(Below.refl _ _).alloc (Nat.le_refl _) _
    have HT7:=hid (HT6.out.below hb9)
    have HR7:=hid (HR6.out.below hb9 HR6.out.lt)
    have Hsz:=hid HT6.out.keep.size
    clear hA9 HA6 HT6 HR6 hb9
    go_wp2_with (at_builtin;refine bg rfl _ _ 40 rfl w.heap.size 34 i0 (.agg #[.int .i64 0,.int .i64 0,.string ⟨#[]⟩]) 3 32 Tryz.underlying40 Hi.out H0.out H1.out H2.out rfl (by decide) lh zy _ an.length (an.flatMap aF) rfl HT7.out.row (some ⟨w6.heap.size,0,none⟩) 1 [⟨dc,dn,ds⟩] rfl (yK w6 _ ⟨dc,dn,ds⟩) (by unfold maxLen;simp;omega) (by simp;omega) (Nat.le_trans Hsz.out (by simp)) ?_)
    intro v' w8 hown hgr hat
    have HT8:=hid (HT7.out.grow (x:=⟨dc,dn,ds⟩) hown hgr (by simpa using hat))
    have HR8:=hid (HR7.out.grown hgr (ax HT7.out.row HR7.out (by decide)))
    have HT9:=hid (show RunT w g (Cf.dS Cf.ak (l.take (n+1))).kern (Cf.dS Cf.ak (l.take (n+1))).answers v' _ w8 from by rw[HNx.out,HNt.out];exact HT8.out)
    have HG9:=hid (show Cf.Good (Cf.dS Cf.ak (l.take (n+1))).kern from by rw[HNx.out];exact HGn.out)
    clear HT7 HR7 hown hgr hat HT8 t0 t1 t2 tl HNx HNt HGn
    go_wp2
    go_roundw
    case rel=>exact⟨n+1,_,by omega,by go_num,HT9.out,HR8.out,HG9.out⟩
    case measure=>simp[intOf];omega
   ·have hq:(de == 0)=false:=by rw[beq_eq_false_iff_ne];exact he
    rw[if_neg he]at HNt
    clear he y0 y1 y2 y3 y4 z0 z1 z2 z3 z4 yl zl zf t0 t1 t2 tl tf
    go_wp2_with fail
    refine(az de _).mono ?_
    rintro e w6 ⟨rfl,hb6⟩
    simp only[aF]
    have hA6:=HA5.out.below hb6 HA5.out.lt
    obtain⟨t0,t1,t2,tf,tl⟩:=aS hA6
    have n3:w.heap.size≠g4+1:=by have:=HT3.out.keep.size;have:=Hs4.out;omega
    have MS:=Js.out.trans (hb6.mono Js.out.size)
    have LK:w3.heap.size≤g4+1:=by have:=Hs4.out;omega
    have KO:=hid (show RunT w g kk an u6 ⟨A,ca,M,cm,N,cn,S,cs,Q,cq⟩ (((w6.setCell ⟨g4+1,0,none⟩ (.int .i64 de)).setCell ⟨g4+1,1,none⟩ (.int .i64 0)).setCell ⟨g4+1,2,none⟩ (.string ⟨#[]⟩)) from HT3.out.below (((MS.setCell (p:=⟨g4+1,0,none⟩) LK _).setCell (p:=⟨g4+1,1,none⟩) LK _).setCell (p:=⟨g4+1,2,none⟩) LK _))
    have HA7:=hid (show Wb (((w6.setCell ⟨g4+1,0,none⟩ (.int .i64 de)).setCell ⟨g4+1,1,none⟩ (.int .i64 0)).setCell ⟨g4+1,2,none⟩ (.string ⟨#[]⟩)) (g4+1) au [.int .i64 de,.int .i64 0,.string ⟨#[]⟩] from((hA6.put 0 (.int .i64 de)).put 1 (.int .i64 0)).put 2 (.string ⟨#[]⟩))
    have Lt:=hid (show Wb (((w6.setCell ⟨g4+1,0,none⟩ (.int .i64 de)).setCell ⟨g4+1,1,none⟩ (.int .i64 0)).setCell ⟨g4+1,2,none⟩ (.string ⟨#[]⟩)) w.heap.size ae [.slice none 0 0,.slice none 0 0,.slice none 0 0,.slice none 0 0,.slice none 0 0] from(((HR5.out.below hb6 HR5.out.lt).off_ (p:=⟨g4+1,0,none⟩) n3 _).off_ (p:=⟨g4+1,1,none⟩) n3 _).off_ (p:=⟨g4+1,2,none⟩) n3 _)
    clear hA6 hb6 MS HT5 HK5 HA5 HR5
    go_upto_region 12 with fail
    clear t0 t1 t2 tl tf
    generalize (((w6.setCell ⟨g4+1,0,none⟩ (.int .i64 de)).setCell ⟨g4+1,1,none⟩ (.int .i64 0)).setCell ⟨g4+1,2,none⟩ (.string ⟨#[]⟩))=w7 at *
    have hA9:=HA7.out
    obtain⟨t0,t1,t2, -,tl⟩:=aS hA9
    have hb9:Below w7.heap.size w7 (w7.alloc (.cells #[.int .i64 de,.int .i64 0,.string ⟨#[]⟩] 34)):=(Below.refl _ _).alloc (Nat.le_refl _) _
    have HT7:=hid (KO.out.below hb9)
    have HR7:=hid (Lt.out.below hb9 Lt.out.lt)
    have Hsz:=hid KO.out.keep.size
    clear hA9 HA7 KO Lt hb9
    go_wp2_with (at_builtin;refine bg rfl _ _ 40 rfl w.heap.size 34 i0 (.agg #[.int .i64 0,.int .i64 0,.string ⟨#[]⟩]) 3 32 Tryz.underlying40 Hi.out H0.out H1.out H2.out rfl (by decide) lh zy _ an.length (an.flatMap aF) rfl HT7.out.row (some ⟨w7.heap.size,0,none⟩) 1 [⟨de,0,[]⟩] rfl (yK w7 _ ⟨de,0,[]⟩) (by unfold maxLen;simp;omega) (by simp;omega) (Nat.le_trans Hsz.out (by simp)) ?_)
    intro v' w8 hown hgr hat
    have HT8:=hid (HT7.out.grow (x:=⟨de,0,[]⟩) hown hgr (by simpa using hat))
    have HR8:=hid (HR7.out.grown hgr (ax HT7.out.row HR7.out (by decide)))
    have HT9:=hid (show RunT w g (Cf.dS Cf.ak (l.take (n+1))).kern (Cf.dS Cf.ak (l.take (n+1))).answers v' _ w8 from by rw[HNx.out,HNt.out];exact HT8.out)
    have HG9:=hid (show Cf.Good (Cf.dS Cf.ak (l.take (n+1))).kern from by rw[HNx.out];exact HGn.out)
    clear HT7 HR7 hown hgr hat HT8 t0 t1 t2 tl HNx HNt HGn
    go_wp2
    go_roundw
    case rel=>exact⟨n+1,_,by omega,by go_num,HT9.out,HR8.out,HG9.out⟩
    case measure=>simp[intOf];omega
  ·obtain rfl:n=l.length:=by omega
   generalize (Cf.dS Cf.ak (l.take l.length)).kern=kk at *
   generalize (Cf.dS Cf.ak (l.take l.length)).answers=an at *
   obtain⟨A5,c5,rfl⟩:=aP HT.out.row
   have hK:=HT.out.box
   have z0:=hK.cell 0
   have z1:=hK.cell 1
   have z2:=hK.cell 2
   have z3:=hK.cell 3
   have z4:=hK.cell 4
   have hR9:=HR.out
   have r0:=hR9.cell 0
   have r1:=hR9.cell 1
   have r2:=hR9.cell 2
   have r3:=hR9.cell 3
   have r4:=hR9.cell 4
   simp only[af,gq]at z0 z1 z2 z3 z4 r0 r1 r2 r3 r4
   have zl:=hK.lt
   have rl:=hR9.lt
   have rf:=hR9.open_
   have n3:g≠w.heap.size:=Ne.symm (Nat.ne_of_lt Hgl.out)
   have ho:=ax HT.out.row hR9 (by decide)
   have Ho:=hid ho
   clear hK hR9 ho hlt hn
   go_wp2_with fail
   go_region
   all_goals
    go_wp2
    refine bodyPost_ret (v:=.tuple #[.slice A5 an.length c5,.agg #[.slice A kk.mods.length ca,.slice M kk.mem.length cm,.slice N kk.nodes.length cn,.slice S kk.pipes.length cs,.slice Q kk.procs.length cq],.int .i64 0]) (by simp[results,Tryz.results15,go_sem,r0,r1,r2,r3,r4]) rfl ?_
    refine⟨A5,c5,⟨A,ca,M,cm,N,cn,S,cs,Q,cq⟩,rfl,?_,rC HT.out.row,?_,?_⟩
    ·refine jm (base:=w.heap.size) (e:=au) (cap:=c5) lh (own_below ?_ (Below.refl _ _).drew)
     iterate 5 refine aj ?_ Ho.out _
     exact HT.out.row
    ·refine⟨Io HT.out.row,?_⟩
     refine KPr.mono (P:=fun b=>b≠g∧(Value.slice A5 an.length c5).ownBlock≠some b∧w.heap.size<b) ?_ (fun b hb=>Nat.le_of_lt hb.2.2)
     refine KPr.kept (P:=fun b=>b≠g∧(Value.slice A5 an.length c5).ownBlock≠some b∧w.heap.size<b) ?_ (fO.below (Below.refl _ _).drew)
     iterate 5 refine KPr.kept ?_ (fO.set (fun b hb=>by omega) _ _)
     exact HT.out.rows
    ·refine Below.drew ?_
     refine Below.setCell (p:=⟨w.heap.size,4,none⟩) ?_ (Nat.le_refl _) _
     refine Below.setCell (p:=⟨w.heap.size,3,none⟩) ?_ (Nat.le_refl _) _
     refine Below.setCell (p:=⟨w.heap.size,2,none⟩) ?_ (Nat.le_refl _) _
     refine Below.setCell (p:=⟨w.heap.size,1,none⟩) ?_ (Nat.le_refl _) _
     refine Below.setCell (p:=⟨w.heap.size,0,none⟩) ?_ (Nat.le_refl _) _
     exact HT.out.keep
end
end Go.Proofs.YtnnhhbjbdmgpiaaGreatDoor
