/- Texts of the proofs: RefH. -/
import Derived.Test.YtnnhhbjbdmgpiaaGreatDoorJ40
import Derived.Test.YtnnhhbjbdmgpiaaGreatDoorJ35
import Derived.Test.YtnnhhbjbdmgpiaaGreatDoorJ30
import Derived.Test.YtnnhhbjbdmgpiaaGreatDoorJ37
set_option linter.unusedSimpArgs false
set_option linter.unusedVariables false
namespace Go.Proofs.YtnnhhbjbdmgpiaaGreatDoor
set_option maxRecDepth 100000
set_option maxHeartbeats 4000000
open Lib (hid)
section
open Go.RowKit
section
variable {w:World} {g:Nat} {t:TypeId} {v0 v1 v2 v3 v4 v5:Value}
theorem jd(h:Wb w g t [v0,v1,v2,v3,v4]):w.cell? ⟨g,0,none⟩=some v0∧w.cell? ⟨g,1,none⟩=some v1∧w.cell? ⟨g,2,none⟩=some v2∧w.cell? ⟨g,3,none⟩=some v3∧w.cell? ⟨g,4,none⟩=some v4∧(∀i,w.frozen? ⟨g,i,none⟩=false)∧g<w.heap.size:=⟨h.cell 0,h.cell 1,h.cell 2,h.cell 3,h.cell 4,h.open_,h.lt⟩
theorem Jv(h:Wb w g t [v0,v1,v2,v3,v4,v5]):w.cell? ⟨g,0,none⟩=some v0∧w.cell? ⟨g,1,none⟩=some v1∧w.cell? ⟨g,2,none⟩=some v2∧w.cell? ⟨g,3,none⟩=some v3∧w.cell? ⟨g,4,none⟩=some v4∧w.cell? ⟨g,5,none⟩=some v5∧g<w.heap.size:=⟨h.cell 0,h.cell 1,h.cell 2,h.cell 3,h.cell 4,h.cell 5,h.lt⟩
theorem gZ(h:Wb w g t [v0,v1,v2]):w.cell? ⟨g,0,none⟩=some v0∧w.cell? ⟨g,1,none⟩=some v1∧w.cell? ⟨g,2,none⟩=some v2∧(∀i,w.frozen? ⟨g,i,none⟩=false)∧g<w.heap.size:=⟨h.cell 0,h.cell 1,h.cell 2,h.open_,h.lt⟩
end
theorem lq{w W:World}{a:KA}{k:Cf.ag}{x:Cf.Ans}{er:Int}{B1:Nat}(hK:kW B1 W a k)(hB:w.heap.size≤B1)(hb:Below w.heap.size w W)(hs:w.heap.size+4≤B1)(v0 v1 v2 v3 v4 u0 u1 u2:Value):
  sJ ⟨k,x,er⟩ w (.returned (.tuple #[.agg (af a k).toArray,.agg (aF x).toArray,.int .i64 er])) ((((((((W.setCell ⟨w.heap.size+2,0,none⟩ v0).setCell ⟨w.heap.size+2,1,none⟩ v1).setCell ⟨w.heap.size+2,2,none⟩ v2).setCell ⟨w.heap.size+2,3,none⟩ v3).setCell ⟨w.heap.size+2,4,none⟩ v4).setCell ⟨w.heap.size+3,0,none⟩ u0).setCell ⟨w.heap.size+3,1,none⟩ u1).setCell ⟨w.heap.size+3,2,none⟩ u2):=by
 have l2:w.heap.size≤w.heap.size+2:=by omega
 have l3:w.heap.size≤w.heap.size+3:=by omega
 refine⟨a,rfl,?_,(((((((hb.setCell (p:=⟨w.heap.size+2,0,none⟩) l2 _).setCell (p:=⟨w.heap.size+2,1,none⟩) l2 _).setCell (p:=⟨w.heap.size+2,2,none⟩) l2 _).setCell (p:=⟨w.heap.size+2,3,none⟩) l2 _).setCell (p:=⟨w.heap.size+2,4,none⟩) l2 _).setCell (p:=⟨w.heap.size+3,0,none⟩) l3 _).setCell (p:=⟨w.heap.size+3,1,none⟩) l3 _).setCell (p:=⟨w.heap.size+3,2,none⟩) l3 _⟩
 have m2:w.heap.size+2<B1:=by omega
 have m3:w.heap.size+3<B1:=by omega
 exact((((((((hK.set (p:=⟨w.heap.size+2,0,none⟩) m2 _).set (p:=⟨w.heap.size+2,1,none⟩) m2 _).set (p:=⟨w.heap.size+2,2,none⟩) m2 _).set (p:=⟨w.heap.size+2,3,none⟩) m2 _).set (p:=⟨w.heap.size+2,4,none⟩) m2 _).set (p:=⟨w.heap.size+3,0,none⟩) m3 _).set (p:=⟨w.heap.size+3,1,none⟩) m3 _).set (p:=⟨w.heap.size+3,2,none⟩) m3 _).mono hB
theorem sJ.drew_{d:Cf.BQ}{w W:World}{e:Ending}(h:sJ d w e W):sJ d w e W.drew:=by
 obtain⟨a,h1,h2,h3⟩:=h
 exact⟨a,h1,h2.below (Below.refl _ _).drew,h3.drew⟩
structure II(B:Nat)(wb:World)(g:Nat)(a:KA)(xs:List MV)(ps:List PV)(k:Cf.ag)(gx gm H:Nat)(m:Cf.Mod)(A Bd:Option Addr)(ca cb:Nat)(c z:Int)(w:World):Prop where
 st:KSt B wb g a xs ps k w
 xb:Wb w gx au [.int .i64 c,.int .i64 z,.string ⟨#[]⟩]
 mb:Wb w gm jk [.string ⟨m.name.toArray⟩,.slice A m.code.length ca,.slice Bd m.data.length cb]
 ism:IsM w ⟨m.name,A,m.code.length,ca,Bd,m.data.length,cb⟩ m
 fA:dN H A m.code
 fB:dN H Bd m.data
 lx:B≤gx
 xH:gx<H
section
variable {B:Nat} {wb:World} {g:Nat} {a:KA} {xs:List MV} {ps:List PV} {k:Cf.ag} {gx gm H:Nat} {m:Cf.Mod} {A Bd:Option Addr} {ca cb:Nat} {c z:Int} {w w':World}
theorem II.draw(h:II B wb g a xs ps k gx gm H m A Bd ca cb c z w)(n:Nat):II B wb g a xs ps k gx gm H m A Bd ca cb c z (w.drewN n):=by
 have hb:=below_drewN (Below.refl w.heap.size w) n
 exact⟨h.st.below hb,h.xb.draw n,h.mb.draw n,h.ism.below hb,h.fA,h.fB,h.lx,h.xH⟩
theorem II.put0(h:II B wb g a xs ps k gx gm H m A Bd ca cb c z w)(c':Int):II B wb g a xs ps k gx gm H m A Bd ca cb c' z (w.setCell ⟨gx,0,none⟩ (.int .i64 c')):=
 ⟨h.st.offT h.xb h.lx (by decide) (by decide) (by decide) (by decide) (by decide) (by decide) (by decide) (by decide) 0 _,h.xb.put 0 _,h.mb.off_ (p:=⟨gx,0,none⟩) (h.mb.other h.xb (by decide)) _,⟨h.ism.1,h.ism.2.1,h.ism.2.2.1,bF h.ism.2.2.2.1 h.fA (p:=⟨gx,0,none⟩) h.xH _,bF h.ism.2.2.2.2 h.fB (p:=⟨gx,0,none⟩) h.xH _⟩,h.fA,h.fB,h.lx,h.xH⟩
theorem II.put1(h:II B wb g a xs ps k gx gm H m A Bd ca cb c z w)(z':Int):II B wb g a xs ps k gx gm H m A Bd ca cb c z' (w.setCell ⟨gx,1,none⟩ (.int .i64 z')):=
 ⟨h.st.offT h.xb h.lx (by decide) (by decide) (by decide) (by decide) (by decide) (by decide) (by decide) (by decide) 1 _,h.xb.put 1 _,h.mb.off_ (p:=⟨gx,1,none⟩) (h.mb.other h.xb (by decide)) _,⟨h.ism.1,h.ism.2.1,h.ism.2.2.1,bF h.ism.2.2.2.1 h.fA (p:=⟨gx,1,none⟩) h.xH _,bF h.ism.2.2.2.2 h.fB (p:=⟨gx,1,none⟩) h.xH _⟩,h.fA,h.fB,h.lx,h.xH⟩
theorem KSt.nm(h:KSt B wb g a xs ps k w){gA:Nat}(hA:a.A=some ⟨gA,0,none⟩){n:Nat}{x:Cf.Mod}(hx:k.mods[n]?=some x):w.cell? ⟨gA,n*3,none⟩=some (.string ⟨x.name.toArray⟩)∧gA<w.heap.size:=by
 have hl:n<xs.length:=by rw[h.own.each.1];exact(List.getElem?_eq_some_iff.1 hx).1
 obtain⟨h1,_⟩:=h.own.each.2 n _ _ (List.getElem?_eq_getElem hl) hx
 have hr:=jm iT h.own.row
 rw[hA]at hr
 rcases hr with h0|⟨b,off,hb,hlt,hc⟩
 ·rw[h0]at hl;simp at hl
 ·cases hb
  have:=hc n _ (List.getElem?_eq_getElem hl) 0 (.string ⟨(xs[n]).name.toArray⟩) rfl
  rw[Nat.zero_add,Nat.add_zero,h1]at this
  exact⟨this,hlt⟩
end
theorem KI.drew_{B H:Nat}{wb:World}{g:Nat}{a:KA}{xs:List MV}{x:MV}{m:Cf.Mod}{ps:List PV}{k:Cf.ag}{mem:List Int}{w:World}(h:KI B H wb g a xs x m ps k mem w):KI B H wb g a xs x m ps k mem w.drew:=by
 have hb:=(Below.refl w.heap.size w).drew
 exact⟨h.box.draw 1,own_below h.row hb,h.each.mono fun _ _ h=>h.below hb,h.new_.below hb,h.frA,h.frB,h.mem_.below hb,h.memH,h.nodes.below hb,h.pipes.below hb,h.procs.below hb,h.ends.mono fun _ _ h=>h.below hb,h.dat,h.lo,h.hH,h.keep.drew,h.capM⟩
def mZ(mem data:List Int)(o n:Nat):List Int:=mem.take o++(data++List.replicate (64-data.length) 0).take n++mem.drop (o+n)
theorem CX(mem data:List Int)(o:Nat):mZ mem data o 0=mem:=by simp[mZ]
theorem Fa{mem data:List Int}{o:Nat}(hd:data.length≤64):mZ mem data o 64=Cf.qV mem data o:=by
 have h:(data++List.replicate (64-data.length) 0).take 64=data++List.replicate (64-data.length) 0:=List.take_of_length_le (by simp;omega)
 unfold mZ Cf.qV
 rw[h]
theorem F7{mem data:List Int}{o n:Nat}(hd:data.length≤64)(hn:n≤64)(ho:o+64≤mem.length):(mZ mem data o n).length=mem.length:=by
 unfold mZ
 simp
 omega
theorem uA{mem data:List Int}{o n:Nat}(hd:data.length≤64)(hn:n<64)(ho:o+64≤mem.length)(v:Int)(hv:(data++List.replicate (64-data.length) 0)[n]?=some v):(mZ mem data o n).set (o+n) v=mZ mem data o (n+1):=by
 have hl:(mem.take o++(data++List.replicate (64-data.length) 0).take n).length=o+n:=by simp;omega
 unfold mZ
 rw[List.set_append,if_neg (by omega),hl,Nat.sub_self,List.take_add_one,hv]
 have hdr:mem.drop (o+n)=mem[o+n]'(by omega) :: mem.drop (o+n+1):=List.drop_eq_getElem_cons (by omega)
 rw[hdr]
 simp[Nat.add_assoc]
theorem A8.ans{B:Nat}{wb:World}{g:Nat}{k:Cf.ag}{w:World}{b:Nat}{cs:List Value}(h:A8 B wb g k w)(hb:Wb w b au cs):True:=trivial
theorem xA(k:Cf.ag)(a:KA)(kd pp nn mm:Int)(nm da:List UInt8)(w:World)(hR:KRd w a k)(hf:kU k)(hnl:nm.length≤maxLen)(hdl:da.length≤maxLen):
  Calls Tryz.prog 13 #[.agg (af a k).toArray,.agg #[.int .i64 kd,.int .i64 pp,.int .i64 nn,.int .i64 mm,.string ⟨nm.toArray⟩,.string ⟨da.toArray⟩]] w (sJ (Cf.doT k ⟨kd,pp,nn,mm,nm,da⟩) w):=by
 obtain⟨A,ca,M,cm,N,cn,S,cs,Q,cq⟩:=a
 show Calls Tryz.prog 13 #[.agg #[.slice A k.mods.length ca,.slice M k.mem.length cm,.slice N k.nodes.length cn,.slice S k.pipes.length cs,.slice Q k.procs.length cq],_] w _
 obtain⟨w0,hw0⟩:∃w0:World,w0=(((w.alloc (.cells #[.slice A k.mods.length ca,.slice M k.mem.length cm,.slice N k.nodes.length cn,.slice S k.pipes.length cs,.slice Q k.procs.length cq] ae)).alloc (.cells #[.int .i64 kd,.int .i64 pp,.int .i64 nn,.int .i64 mm,.string ⟨nm.toArray⟩,.string ⟨da.toArray⟩] gJ)).alloc (.cells #[.slice none 0 0,.slice none 0 0,.slice none 0 0,.slice none 0 0,.slice none 0 0] ae)).alloc (.cells #[.int .i64 0,.int .i64 0,.string ⟨#[]⟩] au):=⟨_,rfl⟩
 have hz0:w0.heap.size=w.heap.size+4:=by rw[hw0];simp
 have hb0:Below w.heap.size w w0:=by rw[hw0];exact((((Below.refl _ _).alloc (Nat.le_refl _) _).alloc (by simp) _).alloc (by simp;omega) _).alloc (by simp;omega) _
 have lT:=hid (show Wb w0 w.heap.size ae [.slice A k.mods.length ca,.slice M k.mem.length cm,.slice N k.nodes.length cn,.slice S k.pipes.length cs,.slice Q k.procs.length cq] by rw[hw0];exact(((Wb.new w ae [.slice A k.mods.length ca,.slice M k.mem.length cm,.slice N k.nodes.length cn,.slice S k.pipes.length cs,.slice Q k.procs.length cq]).alloc _).alloc _).alloc _)
 have oV:=hid (show Wb w0 (w.heap.size+1) gJ [.int .i64 kd,.int .i64 pp,.int .i64 nn,.int .i64 mm,.string ⟨nm.toArray⟩,.string ⟨da.toArray⟩] by
  rw[hw0]
  have:=Wb.new (w.alloc (.cells #[.slice A k.mods.length ca,.slice M k.mem.length cm,.slice N k.nodes.length cn,.slice S k.pipes.length cs,.slice Q k.procs.length cq] ae)) gJ [.int .i64 kd,.int .i64 pp,.int .i64 nn,.int .i64 mm,.string ⟨nm.toArray⟩,.string ⟨da.toArray⟩]
  rw[show(w.alloc (.cells #[.slice A k.mods.length ca,.slice M k.mem.length cm,.slice N k.nodes.length cn,.slice S k.pipes.length cs,.slice Q k.procs.length cq] ae)).heap.size=w.heap.size+1 by simp]at this
  exact(this.alloc _).alloc _)
 have oZ:=hid (show Wb w0 (w.heap.size+2) ae [.slice none 0 0,.slice none 0 0,.slice none 0 0,.slice none 0 0,.slice none 0 0] by
  rw[hw0]
  have:=Wb.new ((w.alloc (.cells #[.slice A k.mods.length ca,.slice M k.mem.length cm,.slice N k.nodes.length cn,.slice S k.pipes.length cs,.slice Q k.procs.length cq] ae)).alloc (.cells #[.int .i64 kd,.int .i64 pp,.int .i64 nn,.int .i64 mm,.string ⟨nm.toArray⟩,.string ⟨da.toArray⟩] gJ)) ae [.slice none 0 0,.slice none 0 0,.slice none 0 0,.slice none 0 0,.slice none 0 0]
  rw[show((w.alloc (.cells #[.slice A k.mods.length ca,.slice M k.mem.length cm,.slice N k.nodes.length cn,.slice S k.pipes.length cs,.slice Q k.procs.length cq] ae)).alloc (.cells #[.int .i64 kd,.int .i64 pp,.int .i64 nn,.int .i64 mm,.string ⟨nm.toArray⟩,.string ⟨da.toArray⟩] gJ)).heap.size=w.heap.size+2 by simp]at this
  exact this.alloc _)
 have oW:=hid (show Wb w0 (w.heap.size+3) au [.int .i64 0,.int .i64 0,.string ⟨#[]⟩] by
  rw[hw0]
  have:=Wb.new (((w.alloc (.cells #[.slice A k.mods.length ca,.slice M k.mem.length cm,.slice N k.nodes.length cn,.slice S k.pipes.length cs,.slice Q k.procs.length cq] ae)).alloc (.cells #[.int .i64 kd,.int .i64 pp,.int .i64 nn,.int .i64 mm,.string ⟨nm.toArray⟩,.string ⟨da.toArray⟩] gJ)).alloc (.cells #[.slice none 0 0,.slice none 0 0,.slice none 0 0,.slice none 0 0,.slice none 0 0] ae)) au [.int .i64 0,.int .i64 0,.string ⟨#[]⟩]
  rw[show(((w.alloc (.cells #[.slice A k.mods.length ca,.slice M k.mem.length cm,.slice N k.nodes.length cn,.slice S k.pipes.length cs,.slice Q k.procs.length cq] ae)).alloc (.cells #[.int .i64 kd,.int .i64 pp,.int .i64 nn,.int .i64 mm,.string ⟨nm.toArray⟩,.string ⟨da.toArray⟩] gJ)).alloc (.cells #[.slice none 0 0,.slice none 0 0,.slice none 0 0,.slice none 0 0,.slice none 0 0] ae)).heap.size=w.heap.size+3 by simp]at this
  exact this)
 have Hw0:=hid hw0
 have Hz0:=hid hz0
 have HCk:=hid (tZ k ⟨A,ca,M,cm,N,cn,S,cs,Q,cq⟩ w0 (hR.below hb0) hf)
 simp only[af]at HCk
 have Hb0:=hid hb0
 have HR:=hid hR
 have Hf:=hid hf
 obtain⟨D,hD⟩:∃D,D=Cf.doT k ⟨kd,pp,nn,mm,nm,da⟩:=⟨_,rfl⟩
 rw[← hD]
 have HT:=hid (show D=if Cf.iq k≠0 then⟨Cf.jR,Cf.kS,Cf.iq k⟩ else if Cf.inB kd 1 11=false then⟨Cf.jR,Cf.kS,3⟩ else⟨(Cf.lJ k ⟨kd,pp,nn,mm,nm,da⟩).kern,(Cf.lJ k ⟨kd,pp,nn,mm,nm,da⟩).ans,0⟩ from hD)
 have HGd:=hid (fun h=>(Cf.nS (k:=k)).1 h)
 clear hw0 hz0 hR hf hb0 hD
 generalize Cf.iq k=er at *
 go_enter Tryz.func13,Tryz.ntmps13
 go_upto_region 1 with fail
 rw[← Hw0.out]
 clear Hw0
 obtain⟨c0,c1,c2,c3,c4,cf,cl⟩:=jd lT.out
 go_wp2_with fail
 refine HCk.out.mono ?_
 rintro e w1 ⟨rfl,hb1⟩
 have Hb1:=hid (Hb0.out.trans (hb1.mono Hb0.out.size))
 have Hs1:=hid (show w.heap.size+4≤w1.heap.size by have:=hb1.size;rw[Hz0.out]at this;exact this)
 have HKB1:=hid (lT.out.below hb1 lT.out.lt)
 have jB:=hid (oV.out.below hb1 oV.out.lt)
 have eU:=hid (oZ.out.below hb1 oZ.out.lt)
 have eQ:=hid (oW.out.below hb1 oW.out.lt)
 clear lT oV oZ oW hb1 c0 c1 c2 c3 c4 cf cl HCk Hb0
 by_cases he:er=0
 ·subst he
  have HG:=hid (HGd.out rfl)
  replace HT:=hid (HT.out.trans (if_neg (by decide)))
  obtain⟨a0,a1,a2,a3,a4,a5,al⟩:=Jv jB.out
  go_wp2_with fail
  refine(dY kd 1 11 _).mono ?_
  rintro e w' ⟨rfl,rfl⟩
  cases hin:Cf.inB kd 1 11
  ·obtain rfl:=HT.out.trans (if_pos hin)
   clear a0 a1 a2 a3 a4 a5 al
   obtain⟨r0,r1,r2,r3,r4,rf,rl⟩:=jd eU.out
   obtain⟨t0,t1,t2,tf,tl⟩:=gZ eQ.out
   clear HKB1 jB eU eQ
   go_wp2
   refine bodyPost_ret (v:=.tuple #[.agg #[.slice none 0 0,.slice none 0 0,.slice none 0 0,.slice none 0 0,.slice none 0 0],.agg #[.int .i64 0,.int .i64 0,.string ⟨#[]⟩],.int .i64 3]) (by simp[results,Tryz.results13,go_sem,r0,r1,r2,r3,r4,t0,t1,t2]) rfl ?_
   exact lq (B1:=w.heap.size+4) (pz _ _) (by omega) Hb1.out (Nat.le_refl _) _ _ _ _ _ _ _ _
  replace HT:=hid (HT.out.trans (if_neg (by rw[hin];decide)))
  have hkd:1≤kd∧kd≤11:=by simp[Cf.inB]at hin;exact hin
  obtain⟨hk1,hk2⟩:=hkd
  have HCp:=hid (nK k ⟨A,ca,M,cm,N,cn,S,cs,Q,cq⟩ w1 (HR.out.below Hb1.out) Hf.out)
  simp only[af]at HCp
  obtain⟨c0,c1,c2,c3,c4,cf,cl⟩:=jd HKB1.out
  clear hin
  go_wp2_with fail
  refine HCp.out.mono ?_
  rintro e w2 ⟨⟨A2,ca2,M2,cm2,N2,cn2,S2,cs2,Q2,cq2⟩,xs,ps,rfl,hown,hb2⟩
  simp only[af]
  go_upto_region 7 with fail
  have HK3:=hid (show KSt w1.heap.size w1 w2.heap.size ⟨A2,ca2,M2,cm2,N2,cn2,S2,cs2,Q2,cq2⟩ xs ps k (w2.alloc (.cells #[.slice A2 k.mods.length ca2,.slice M2 k.mem.length cm2,.slice N2 k.nodes.length cn2,.slice S2 k.pipes.length cs2,.slice Q2 k.procs.length cq2] ae)) from⟨Wb.new w2 ae _,hown.below ((Below.refl _ _).alloc (Nat.le_refl _) _),hb2.size,hb2.alloc hb2.size _⟩)
  clear hown hb2 c0 c1 c2 c3 c4 cf cl a0 a1 a2 a3 a4 a5 al HCp HR Hf
  generalize hg2:w2.heap.size=g2 at *
  clear hg2
  generalize w2.alloc (.cells #[.slice A2 k.mods.length ca2,.slice M2 k.mem.length cm2,.slice N2 k.nodes.length cn2,.slice S2 k.pipes.length cs2,.slice Q2 k.procs.length cq2] ae)=w3 at *
  go_upto_region 8 with fail
  have HX4:=hid (Wb.new w3 au [.int .i64 0,.int .i64 0,.string ⟨#[]⟩])
  have HK4:=hid (HK3.out.below ((Below.refl _ _).alloc (Nat.le_refl _) (.cells #[.int .i64 0,.int .i64 0,.string ⟨#[]⟩] au)))
  have Hlg:=hid (show w1.heap.size≤g2 from HK4.out.lo)
  have Hlx:=hid (show w1.heap.size≤w3.heap.size from HK3.out.keep.size)
  clear HK3
  generalize hgx:w3.heap.size=gx at *
  clear hgx
  generalize w3.alloc (.cells #[.int .i64 0,.int .i64 0,.string ⟨#[]⟩] au)=w4 at *
  obtain⟨a0,a1,a2,a3,a4,a5,al⟩:=Jv (jB.out.below HK4.out.keep jB.out.lt)
  obtain⟨dd,hdd⟩:∃dd,dd=Cf.lJ k ⟨kd,pp,nn,mm,nm,da⟩:=⟨_,rfl⟩
  rw[← hdd]at HT
  have Hdd:=hid hdd
  clear hdd HGd
  by_cases h1:kd=1
  ·subst h1
   replace HT:=hid (show D=⟨(Cf.iL k da).kern,(Cf.iL k da).ans,0⟩ by rw[HT.out,Hdd.out];rfl)
   have HMo:=hid (zB da w4 hdl)
   have HMd:=hid (Cf.yC da)
   have HTi:=hid (show Cf.iL k da=if (Cf.fC da).err≠0 then Cf.ai k (Cf.fC da).err else if k.mods.any (Cf.eF (Cf.fC da).mod.name) then Cf.ai k 7 else if k.mods.length=8 then Cf.ai k 8
    else⟨⟨k.mods++[(Cf.fC da).mod],Cf.qV k.mem (Cf.fC da).mod.data (64*k.mods.length),k.nodes,k.pipes,k.procs⟩,⟨0,k.mods.length,[]⟩⟩ from rfl)
   generalize (Cf.fC da).err=er at *
   generalize (Cf.fC da).mod=m at *
   clear Hdd hk1 hk2
   go_wp2_with fail
   refine HMo.out.mono ?_
   rintro e w5 ⟨Ac,Bd,cc,cd,rfl,hC,hD,hb5,fA,fB⟩
   go_upto_region 12 with fail
   have hb6:=hb5.alloc hb5.size (.cells #[.string ⟨m.name.toArray⟩,.slice Ac m.code.length cc,.slice Bd m.data.length cd] jk)
   have KZ:Below w5.heap.size w5 (w5.alloc (.cells #[.string ⟨m.name.toArray⟩,.slice Ac m.code.length cc,.slice Bd m.data.length cd] jk)):=(Below.refl _ _).alloc (Nat.le_refl _) _
   have HI6:=hid (show II w1.heap.size w1 g2 _ xs ps k gx w5.heap.size w4.heap.size m Ac Bd cc cd 0 0 (w5.alloc (.cells #[.string ⟨m.name.toArray⟩,.slice Ac m.code.length cc,.slice Bd m.data.length cd] jk)) from⟨HK4.out.below hb6,HX4.out.below hb6 HX4.out.lt,Wb.new w5 jk [.string ⟨m.name.toArray⟩,.slice Ac m.code.length cc,.slice Bd m.data.length cd],⟨rfl,rfl,rfl,RdS.below hC KZ,RdS.below hD KZ⟩,fA,fB,Hlx.out,HX4.out.lt⟩)
   have HBk:=hid (show ∀r,(Value.slice A2 xs.length ca2).ownBlock=some r→r<w4.heap.size from fun r hr=>by
    have:=HK4.out.own.row
    rcases this.2 with ⟨h0,_⟩|⟨b,_,_,hv,_,hh,_⟩
    ·rw[h0]at hr;simp[Value.ownBlock]at hr
    ·rw[hv]at hr
     simp[Value.ownBlock]at hr
     subst hr
     exact(Array.getElem?_eq_some_iff.1 hh).1)
   have HMk:=hid (show ∀gM,M2=some ⟨gM,0,none⟩→gM<w4.heap.size from fun gM he=>by
    rcases HK4.out.own.mem with h|⟨g',h1,_,h3⟩
    ·have:=HG.out.memL;rw[h]at this;simp at this
    ·rw[he]at h1
     cases h1
     exact h3.lt)
   have Hgl:=hid HK4.out.box.lt
   have Hgm:=hid (show w4.heap.size≤w5.heap.size from hb5.size)
   generalize hgm:w5.heap.size=gm at *
   clear hgm
   generalize w5.alloc (.cells #[.string ⟨m.name.toArray⟩,.slice Ac m.code.length cc,.slice Bd m.data.length cd] jk)=w6 at *
   clear hb5 hb6 KZ hC hD fA fB HMo HK4 HX4 a0 a1 a2 a3 a4 a5 al
   obtain⟨x0,x1,x2,xf,xl⟩:=gZ HI6.out.xb
   have HI7:=hid (HI6.out.put0 er)
   clear HI6
   go_upto_region 13 with fail
   generalize w6.setCell ⟨gx,0,none⟩ (.int .i64 er)=w7 at *
   clear x0 x1 x2 xf xl
   have Ou:gx≠g2:=HI7.out.xb.other HI7.out.st.box (by decide)
   by_cases hre:er=0
   ·subst hre
    obtain⟨_,hdl2,_,_⟩:=Cf.lg (HMd.out rfl)
    replace HT:=hid (show D=if k.mods.any (Cf.eF m.name) then(⟨k,⟨7,0,[]⟩,0⟩:Cf.BQ) else if k.mods.length=8 then⟨k,⟨8,0,[]⟩,0⟩ else⟨⟨k.mods++[m],Cf.qV k.mem m.data (64*k.mods.length),k.nodes,k.pipes,k.procs⟩,⟨0,k.mods.length,[]⟩,0⟩ from HT.out.trans (by
     rw[HTi.out,if_neg (by simp)]
     by_cases q1:k.mods.any (Cf.eF m.name)=true
     ·rw[if_pos q1,if_pos q1];rfl
     ·rw[if_neg q1,if_neg q1]
      by_cases q2:k.mods.length=8
      ·rw[if_pos q2,if_pos q2];rfl
      ·rw[if_neg q2,if_neg q2]))
    clear HTi HMd
    have hml:=HG.out.modsL
    go_wp2
    go_loopw [12] (fun v wr=>∃n:Nat,n≤k.mods.length∧v = .int .i64 n∧II w1.heap.size w1 g2 ⟨A2,ca2,M2,cm2,N2,cn2,S2,cs2,Q2,cq2⟩ xs ps k gx gm w4.heap.size m Ac Bd cc cd (if (k.mods.take n).any (Cf.eF m.name) then 7 else 0) 0 wr) (fun v _=>k.mods.length-(intOf v).toNat)
    case atStart=>exact⟨0,by omega,rfl,HI7.out⟩
    case round=>
     obtain⟨n,hn,rfl,hI⟩:=hrel
     clear HI7
     have HI:=hid hI
     have hbx:=hI.st.box
     simp only[af]at hbx
     have c0:=hbx.cell 0
     simp only[List.getElem?_cons_zero]at c0
     have cf:=hbx.open_
     have cl:=hbx.lt
     have hm1:=hI.mb.cell 0
     simp only[List.getElem?_cons_zero]at hm1
     have LY:=hI.mb.lt
     obtain⟨x0,x1,x2,xf,xl⟩:=gZ hI.xb
     clear hI hbx
     by_cases hlt:n<k.mods.length
     ·obtain⟨nm1,GZ,Ih,hmx⟩:∃nm1 GZ Ih,k.mods[n]?=some ⟨nm1,GZ,Ih⟩:=⟨_,_,_,List.getElem?_eq_getElem hlt⟩
      obtain⟨gA,_,_,_,_,_,_,_,hM⟩:=HI.out.st.mat hlt
      have hA:=hM.A
      simp only at hA
      obtain⟨r0,rl⟩:=HI.out.st.nm hA hmx
      have HTk:=hid (show k.mods.take (n+1)=k.mods.take n++[⟨nm1,GZ,Ih⟩] by rw[List.take_add_one,hmx];rfl)
      subst hA
      clear hM hmx HT
      by_cases he:nm1=m.name
      ·have KW:=hid (show(k.mods.take (n+1)).any (Cf.eF m.name)=true by rw[HTk.out,List.any_append];simp[Cf.eF,he])
       subst he
       go_upto_region 16 with fail
       go_quiet (fail)
       have HI2:=hid (HI.out.draw nq)
       clear HI c0 cf cl hm1 LY x0 x1 x2 xf xl r0 rl
       generalize wr.drewN nq=w8 at *
       obtain⟨x0,x1,x2,xf,xl⟩:=gZ HI2.out.xb
       go_wp2
       go_roundw
       case rel=>exact⟨n+1,by omega,by go_num,by rw[if_pos KW.out];exact HI2.out.put0 7⟩
       case measure=>simp[intOf];omega
      ·have KW:=hid (show(k.mods.take (n+1)).any (Cf.eF m.name)=(k.mods.take n).any (Cf.eF m.name) by rw[HTk.out,List.any_append];simp[Cf.eF,he])
       have hb2:(nm1 == m.name)=false:=by rw[beq_eq_false_iff_ne];exact he
       go_upto_region 16 with fail
       go_quiet (fail)
       have HI2:=hid (HI.out.draw nq)
       clear HI c0 cf cl hm1 LY x0 x1 x2 xf xl r0 rl he
       generalize wr.drewN nq=w8 at *
       go_wp2
       go_roundw
       case rel=>exact⟨n+1,by omega,by go_num,by rw[KW.out];exact HI2.out⟩
       case measure=>simp[intOf];omega
     ·obtain rfl:n=k.mods.length:=by omega
      have HIf:=hid (show II w1.heap.size w1 g2 ⟨A2,ca2,M2,cm2,N2,cn2,S2,cs2,Q2,cq2⟩ xs ps k gx gm w4.heap.size m Ac Bd cc cd (if k.mods.any (Cf.eF m.name) then 7 else 0) 0 wr by have:=HI.out;rw[List.take_length]at this;exact this)
      rw[List.take_length]at x0
      clear HI hm1 LY hlt hn
      cases hany:k.mods.any (Cf.eF m.name)
      ·rw[hany]at x0 HIf
       replace HT:=hid (HT.out.trans (if_neg (by rw[hany];decide)))
       simp only[Bool.false_eq_true,if_false]at x0 HIf
       clear hany
       by_cases h8:k.mods.length=8
       ·obtain rfl:=HT.out.trans (if_pos h8)
        have h8':(8:Int)≤(k.mods.length:Int):=by omega
        have HI9:=hid (HIf.out.put0 8)
        clear HT HIf h8 HBk HMk Hgl
        go_upto_region 20 with fail
        all_goals
         generalize wr.setCell ⟨gx,0,none⟩ (.int .i64 8)=w8 at *
         clear x0 x1 x2 xf xl c0 cf cl
         obtain⟨x0,x1,x2,xf,xl⟩:=gZ HI9.out.xb
         go_upto_region 39 with fail
         all_goals
          have haf:=HI9.out.st.aft
          have hx:=HI9.out.xb
          clear HI9
          (try clear c0 cf cl)
          (try clear x0 x1 x2 xf xl)
          obtain⟨⟨A4,ca4,M4,cm4,N4,cn4,S4,cs4,Q4,cq4⟩,hbx4,hnew4,hkp4⟩:=haf
          have Hb5:=hid (Hb1.out.trans (hkp4.mono Hb1.out.size))
          have kw:=hid hnew4
          obtain⟨r0,r1,r2,r3,r4,rf,rl⟩:=jd (eU.out.below hkp4 eU.out.lt)
          obtain⟨t0,t1,t2,tf,tl⟩:=gZ (eQ.out.below hkp4 eQ.out.lt)
          obtain⟨b0,b1,b2,b3,b4,bf,bl⟩:=jd hbx4
          obtain⟨x0,x1,x2,xf,xl⟩:=gZ hx
          have ge1:w.heap.size+4≤gx:=Nat.le_trans Hs1.out Hlx.out
          have ge2:w.heap.size+4≤g2:=Nat.le_trans Hs1.out Hlg.out
          have n1:gx≠w.heap.size+1+1:=by omega
          have n2:gx≠w.heap.size+1+1+1:=by omega
          have n3:g2≠w.heap.size+1+1:=by omega
          have n4:g2≠w.heap.size+1+1+1:=by omega
          clear hbx4 hnew4 hkp4 hx HKB1 jB eU eQ ge1 ge2
          go_wp2_with fail
          go_region
          go_wp2
          refine bodyPost_ret (v:=.tuple #[.agg #[.slice A4 k.mods.length ca4,.slice M4 k.mem.length cm4,.slice N4 k.nodes.length cn4,.slice S4 k.pipes.length cs4,.slice Q4 k.procs.length cq4],.agg #[.int .i64 8,.int .i64 0,.string ⟨#[]⟩],.int .i64 0]) (by simp[results,Tryz.results13,go_sem,r0,r1,r2,r3,r4,t0,t1,t2]) rfl ?_
          exact(lq kw.out (Nat.le_trans (by omega) Hs1.out) Hb5.out (by have:=Hb5.out.size;have:=Hs1.out;omega) _ _ _ _ _ _ _ _).drew_
       replace HT:=hid (HT.out.trans (if_neg h8))
       have h8':¬(8:Int)≤(k.mods.length:Int):=by omega
       have HI9:=hid (HIf.out.put1 k.mods.length)
       obtain⟨dk,hdk⟩:∃dk:Cf.ag,dk=⟨k.mods++[m],Cf.qV k.mem m.data (64*k.mods.length),k.nodes,k.pipes,k.procs⟩:=⟨_,rfl⟩
       rw[← hdk]at HT
       have Hdk:=hid hdk
       obtain rfl:=HT.out
       clear HT HIf hdk
       go_upto_region 22 with fail
       generalize wr.setCell ⟨gx,1,none⟩ (.int .i64 k.mods.length)=w8 at *
       clear x0 x1 x2 xf xl c0 cf cl
       obtain⟨i5,hi5,hz5,hs5,hy5⟩:=info_parts D8
       have Hi5:=hid hi5
       have Hz5:=hid hz5
       have Hs5:=hid hs5
       have Hy5:=hid hy5
       clear hi5 hz5 hs5 hy5
       have hxl:xs.length=k.mods.length:=HI9.out.st.own.each.1
       have Hxl:=hid hxl
       have hbx:=HI9.out.st.box
       simp only[af]at hbx
       have c0:=hbx.cell 0
       simp only[List.getElem?_cons_zero]at c0
       have cf:=hbx.open_
       have cl:=hbx.lt
       obtain⟨y0,y1,y2,yf,yl⟩:=gZ HI9.out.mb
       have HRw:=hid (show ∀o,(w8.alloc o).ownsRow w1.heap.size jk 3 (.slice A2 k.mods.length ca2) k.mods.length (xs.flatMap eG) from fun o=>by rw[← Hxl.out];exact HI9.out.st.own.row.alloc o)
       have Me:=hid (yZ w8 jk ⟨m.name,Ac,m.code.length,cc,Bd,m.data.length,cd⟩)
       have Hbl:=hid (show w1.heap.size≤(w8.alloc (.cells #[.string ⟨m.name.toArray⟩,.slice Ac m.code.length cc,.slice Bd m.data.length cd] jk)).heap.size from by have:=HI9.out.st.keep.size;simp;omega)
       clear hbx hxl
       go_wp2_with (at_builtin;refine bg rfl _ _ 22 rfl w1.heap.size jk i5 (.agg #[.string ⟨#[]⟩,.slice none 0 0,.slice none 0 0]) 3 64 Tryz.underlying22 Hi5.out Hz5.out Hs5.out Hy5.out rfl (by decide) iT zh (.slice A2 k.mods.length ca2) k.mods.length (xs.flatMap eG) rfl (HRw.out _) (some ⟨w8.heap.size,0,none⟩) 1 [⟨m.name,Ac,m.code.length,cc,Bd,m.data.length,cd⟩] rfl Me.out (by unfold maxLen;simp;omega) (by simp;omega) Hbl.out ?_)
       intro v9 w9 hown hgr hat
       obtain⟨A5,c5,rfl⟩:=aP hown
       have hal:Below w8.heap.size w8 (w8.alloc (.cells #[.string ⟨m.name.toArray⟩,.slice Ac m.code.length cc,.slice Bd m.data.length cd] jk)):=(Below.refl _ _).alloc (Nat.le_refl _) _
       have hro:=HI9.out.st.own.row.alloc (.cells #[.string ⟨m.name.toArray⟩,.slice Ac m.code.length cc,.slice Bd m.data.length cd] jk)
       rw[Hxl.out]at hro
       have Gf:=(HI9.out.st.box.below hal HI9.out.st.box.lt).grown hgr (ax hro (HI9.out.st.box.below hal HI9.out.st.box.lt) (by decide))
       have Ls:=(HI9.out.xb.below hal HI9.out.xb.lt).grown hgr (ax hro (HI9.out.xb.below hal HI9.out.xb.lt) (by decide))
       have KR:=(HI9.out.mb.below hal HI9.out.mb.lt).grown hgr (fun he=>by
        have h1:=HBk.out gm (by rw[Hxl.out];exact he)
        have h2:=Hgm.out
        omega)
       have HKI:=hid (HI9.out.st.grow hal HBk.out HMk.out (Nat.le_trans Hlx.out (Nat.le_of_lt HI9.out.xH)) Hgl.out (HI9.out.ism.below hal) HI9.out.fA HI9.out.fB (by rw[Hxl.out];exact hgr) (A':=A5) (c':=c5) (by rw[Hxl.out];exact hown))
       rw[Hxl.out]at HKI
       have HXb:=hid (Ls.off_ (p:=⟨g2,0,none⟩) (Ls.other Gf (by decide)) (.slice A5 (k.mods.length+1) c5))
       have HMb:=hid (KR.off_ (p:=⟨g2,0,none⟩) (KR.other Gf (by decide)) (.slice A5 (k.mods.length+1) c5))
       obtain⟨gM,hgM,_⟩:=HI9.out.st.own.mem.at_ (i:=0) (List.getElem?_eq_getElem (by rw[HG.out.memL];omega))
       simp only at hgM
       subst hgM
       have k5:=Gf.cell 0
       simp only[af,List.getElem?_cons_zero]at k5
       have kf5:=Gf.open_ 0
       have kl5:=Gf.lt
       clear hal hro Gf Ls KR hown hgr hat HRw Me Hbl HI9 Hi5 Hz5 Hs5 Hy5 y0 y1 y2 yf yl c0 cf cl HBk HMk Hgl Hgm
       obtain⟨N,hN⟩:∃N,N=k.mods.length:=⟨_,rfl⟩
       have HML:=hid HG.out.memL
       have hN8:N<8:=by omega
       have HN:=hid hN
       rw[← hN]at HKI HXb HMb Hdk ⊢
       clear hN h8 h8' hml
       go_wp2
       generalize w9.setCell ⟨g2,0,none⟩ (.slice A5 (N+1) c5)=w10 at *
       clear k5 kf5 kl5
       go_loopw [13] (fun v wr=>∃n:Nat,n≤64∧v = .int .i64 n∧KI w1.heap.size w4.heap.size w1 g2 ⟨A5,c5,some ⟨gM,0,none⟩,cm2,N2,cn2,S2,cs2,Q2,cq2⟩ xs ⟨m.name,Ac,m.code.length,cc,Bd,m.data.length,cd⟩ m ps k (mZ k.mem m.data (64*N) n) wr∧Wb wr gx au [.int .i64 0,.int .i64 N,.string ⟨#[]⟩]∧Wb wr gm jk [.string ⟨m.name.toArray⟩,.slice Ac m.code.length cc,.slice Bd m.data.length cd]) (fun v _=>64-(intOf v).toNat)
       case atStart=>exact⟨0,by omega,rfl,by rw[CX];exact HKI.out,HXb.out,HMb.out⟩
       case round=>
        obtain⟨n,hn,rfl,hK,hX,hM⟩:=hrel
        clear HKI HXb HMb
        have HK:=hid hK
        have HX:=hid hX
        have HM:=hid hM
        have ho:64*N+64≤k.mem.length:=by rw[HML.out];omega
        have hlen:=F7 (mem:=k.mem) hdl2 hn ho
        rw[HML.out]at hlen
        have hbx:=hK.box
        simp only[af,hlen]at hbx
        have c1:=hbx.cell 1
        simp only[gq]at c1
        have cl:=hbx.lt
        obtain⟨x0,x1,x2,xf,xl⟩:=gZ hX
        obtain⟨y0,y1,y2,yf,yl⟩:=gZ hM
        by_cases hlt:n<64
        ·obtain⟨old,hold⟩:∃old,(mZ k.mem m.data (64*N) n)[64*N+n]?=some old:=⟨_,List.getElem?_eq_getElem (by rw[hlen];omega)⟩
         have hbk:=hK.bk rfl (by rw[hlen];omega)
         have s0:wr.cell? ⟨gM,64*N+n,none⟩=some (.int .i64 old):=by have:=hbk.cell hold (j:=0) rfl;simpa using this
         have sf:=hbk.open_
         have sl:=hbk.lt
         obtain⟨_,hgb⟩:=Bk.box hbk
         have HK2:=hid (hK.putM rfl (i:=64*N+n) (by rw[hlen];omega) 0)
         have HX2:=hid (hX.off_ (p:=⟨gM,64*N+n,none⟩) (hX.other hgb (by decide)) (.int .i64 0))
         have HM2:=hid (hM.off_ (p:=⟨gM,64*N+n,none⟩) (hM.other hgb (by decide)) (.int .i64 0))
         have Ho:=hid ho
         clear hbk hold hbx hK hX hM ho hgb HK HX HM
         go_upto_region 27 with fail
         generalize wr.setCell ⟨gM,64*N+n,none⟩ (.int .i64 0)=w11 at *
         clear c1 cl x0 x1 x2 xf xl y0 y1 y2 yf yl s0 sf sl
         have hbx:=HK2.out.box
         simp only[af,List.length_set,hlen]at hbx
         have c1:=hbx.cell 1
         simp only[gq]at c1
         have cl:=hbx.lt
         obtain⟨x0,x1,x2,xf,xl⟩:=gZ HX2.out
         obtain⟨y0,y1,y2,yf,yl⟩:=gZ HM2.out
         clear hbx
         by_cases hd:n<m.data.length
         ·obtain⟨d,hdd⟩:∃d,m.data[n]?=some d:=⟨_,List.getElem?_eq_getElem hd⟩
          have hin:=HK2.out.new_.2.2.2.2
          rcases hin with h0|⟨b6,o6,hB6,hl6,hc6⟩
          ·rw[h0]at hd;simp at hd
          simp only at hB6
          subst hB6
          have q0:w11.cell? ⟨b6,o6+n,none⟩=some (.int .i64 d):=by have:=hc6 n d hdd 0 _ rfl;simpa using this
          have hbk:=HK2.out.bk rfl (by rw[List.length_set,hlen];omega)
          have hxx:((mZ k.mem m.data (64*N) n).set (64*N+n) 0)[64*N+n]?=some 0:=by rw[List.getElem?_set,if_pos rfl,if_pos (by rw[hlen];omega)]
          have s0:w11.cell? ⟨gM,64*N+n,none⟩=some (.int .i64 0):=by have:=hbk.cell hxx (j:=0) rfl;simpa using this
          have sf:=hbk.open_
          have sl:=hbk.lt
          obtain⟨_,hgb⟩:=Bk.box hbk
          have hN3:=HK2.out.putM rfl (i:=64*N+n) (by rw[List.length_set,hlen];omega) d
          rw[List.set_set,uA hdl2 hlt Ho.out d (by rw[List.getElem?_append_left hd];exact hdd)]at hN3
          have HK3:=hid hN3
          have HX3:=hid (HX2.out.off_ (p:=⟨gM,64*N+n,none⟩) (HX2.out.other hgb (by decide)) (.int .i64 d))
          have HM3:=hid (HM2.out.off_ (p:=⟨gM,64*N+n,none⟩) (HM2.out.other hgb (by decide)) (.int .i64 d))
          clear hc6 hdd hbk hgb hN3 HK2 HX2 HM2 hxx
          go_wp2_with fail
          go_region
          all_goals
           go_wp2
           go_roundw
           case rel=>exact⟨n+1,by omega,by go_num,HK3.out.drew_,HX3.out.draw 1,HM3.out.draw 1⟩
           case measure=>simp[intOf];omega
         ·have hN3:=HK2.out
          rw[uA hdl2 hlt Ho.out 0 (by rw[List.getElem?_append_right (by omega),List.getElem?_replicate,if_pos (by omega)])]at hN3
          have HK3:=hid hN3
          clear hN3
          go_wp2
          go_roundw
          case rel=>exact⟨n+1,by omega,by go_num,HK3.out,HX2.out,HM2.out⟩
          case measure=>simp[intOf];omega
        ·obtain rfl:n=64:=by omega
         have haf:=HK.out.aft
         rw[Fa hdl2,← Hdk.out]at haf
         have hx:=HX.out
         clear hK hX hM hbx c1 cl y0 y1 y2 yf yl HK HX HM hlt hn ho hlen
         rw[show((64:Nat):Int)=64 from rfl]
         go_upto_region 39 with fail
         clear x0 x1 x2 xf xl
         obtain⟨⟨A4,ca4,M4,cm4,N4,cn4,S4,cs4,Q4,cq4⟩,hbx4,hnew4,hkp4⟩:=haf
         have Hb5:=hid (Hb1.out.trans (hkp4.mono Hb1.out.size))
         have kw:=hid hnew4
         obtain⟨r0,r1,r2,r3,r4,rf,rl⟩:=jd (eU.out.below hkp4 eU.out.lt)
         obtain⟨t0,t1,t2,tf,tl⟩:=gZ (eQ.out.below hkp4 eQ.out.lt)
         obtain⟨b0,b1,b2,b3,b4,bf,bl⟩:=jd hbx4
         obtain⟨x0,x1,x2,xf,xl⟩:=gZ hx
         have ge1:w.heap.size+4≤gx:=Nat.le_trans Hs1.out Hlx.out
         have ge2:w.heap.size+4≤g2:=Nat.le_trans Hs1.out Hlg.out
         have n1:gx≠w.heap.size+1+1:=by omega
         have n2:gx≠w.heap.size+1+1+1:=by omega
         have n3:g2≠w.heap.size+1+1:=by omega
         have n4:g2≠w.heap.size+1+1+1:=by omega
         clear hbx4 hnew4 hkp4 hx HKB1 jB eU eQ ge1 ge2
         go_wp2_with fail
         go_region
         go_wp2
         refine bodyPost_ret (v:=.tuple #[.agg #[.slice A4 dk.mods.length ca4,.slice M4 dk.mem.length cm4,.slice N4 dk.nodes.length cn4,.slice S4 dk.pipes.length cs4,.slice Q4 dk.procs.length cq4],.agg #[.int .i64 0,.int .i64 N,.string ⟨#[]⟩],.int .i64 0]) (by simp[results,Tryz.results13,go_sem,r0,r1,r2,r3,r4,t0,t1,t2]) rfl ?_
         rw[← HN.out]
         exact(lq kw.out (Nat.le_trans (by omega) Hs1.out) Hb5.out (by have:=Hb5.out.size;have:=Hs1.out;omega) _ _ _ _ _ _ _ _).drew_
      ·rw[hany]at x0 HIf
       obtain rfl:=HT.out.trans (if_pos hany)
       simp only[if_true]at x0 HIf
       have HI9:=HIf
       clear HT HIf hany HBk HMk Hgl
       go_upto_region 39 with fail
       all_goals
        have haf:=HI9.out.st.aft
        have hx:=HI9.out.xb
        clear HI9
        (try clear c0 cf cl)
        (try clear x0 x1 x2 xf xl)
        obtain⟨⟨A4,ca4,M4,cm4,N4,cn4,S4,cs4,Q4,cq4⟩,hbx4,hnew4,hkp4⟩:=haf
        have Hb5:=hid (Hb1.out.trans (hkp4.mono Hb1.out.size))
        have kw:=hid hnew4
        obtain⟨r0,r1,r2,r3,r4,rf,rl⟩:=jd (eU.out.below hkp4 eU.out.lt)
        obtain⟨t0,t1,t2,tf,tl⟩:=gZ (eQ.out.below hkp4 eQ.out.lt)
        obtain⟨b0,b1,b2,b3,b4,bf,bl⟩:=jd hbx4
        obtain⟨x0,x1,x2,xf,xl⟩:=gZ hx
        have ge1:w.heap.size+4≤gx:=Nat.le_trans Hs1.out Hlx.out
        have ge2:w.heap.size+4≤g2:=Nat.le_trans Hs1.out Hlg.out
        have n1:gx≠w.heap.size+1+1:=by omega
        have n2:gx≠w.heap.size+1+1+1:=by omega
        have n3:g2≠w.heap.size+1+1:=by omega
        have n4:g2≠w.heap.size+1+1+1:=by omega
        clear hbx4 hnew4 hkp4 hx HKB1 jB eU eQ ge1 ge2
        go_wp2_with fail
        go_region
        go_wp2
        refine bodyPost_ret (v:=.tuple #[.agg #[.slice A4 k.mods.length ca4,.slice M4 k.mem.length cm4,.slice N4 k.nodes.length cn4,.slice S4 k.pipes.length cs4,.slice Q4 k.procs.length cq4],.agg #[.int .i64 7,.int .i64 0,.string ⟨#[]⟩],.int .i64 0]) (by simp[results,Tryz.results13,go_sem,r0,r1,r2,r3,r4,t0,t1,t2]) rfl ?_
        exact(lq kw.out (Nat.le_trans (by omega) Hs1.out) Hb5.out (by have:=Hb5.out.size;have:=Hs1.out;omega) _ _ _ _ _ _ _ _).drew_
   obtain rfl:=HT.out.trans (show _=(⟨k,⟨er,0,[]⟩,0⟩:Cf.BQ) by rw[HTi.out,if_pos hre];rfl)
   have heb:(er == 0)=false:=by rw[beq_eq_false_iff_ne];exact hre
   have hbx:=HI7.out.st.box
   simp only[af]at hbx
   obtain⟨c0,c1,c2,c3,c4,cf,cl⟩:=jd hbx
   obtain⟨x0,x1,x2,xf,xl⟩:=gZ HI7.out.xb
   have hml:=HG.out.modsL
   clear hbx hre HTi HMd HBk HMk Hgl HT
   go_wp2
   go_loopw [12] (fun v wr=>v = .int .i64 0∧w7=wr) (fun _ _=>0)
   case atStart=>exact⟨rfl,rfl⟩
   case round=>
    obtain⟨rfl,rfl⟩:=hrel
    go_upto_region 39 with fail
    all_goals
     have haf:=HI7.out.st.aft
     have hx:=HI7.out.xb
     clear HI7 c0 c1 c2 c3 c4 cf cl x0 x1 x2 xf xl
     obtain⟨⟨A4,ca4,M4,cm4,N4,cn4,S4,cs4,Q4,cq4⟩,hbx4,hnew4,hkp4⟩:=haf
     have Hb5:=hid (Hb1.out.trans (hkp4.mono Hb1.out.size))
     have kw:=hid hnew4
     obtain⟨r0,r1,r2,r3,r4,rf,rl⟩:=jd (eU.out.below hkp4 eU.out.lt)
     obtain⟨t0,t1,t2,tf,tl⟩:=gZ (eQ.out.below hkp4 eQ.out.lt)
     obtain⟨b0,b1,b2,b3,b4,bf,bl⟩:=jd hbx4
     obtain⟨x0,x1,x2,xf,xl⟩:=gZ hx
     have ge1:w.heap.size+4≤gx:=Nat.le_trans Hs1.out Hlx.out
     have ge2:w.heap.size+4≤g2:=Nat.le_trans Hs1.out Hlg.out
     have n1:gx≠w.heap.size+1+1:=by omega
     have n2:gx≠w.heap.size+1+1+1:=by omega
     have n3:g2≠w.heap.size+1+1:=by omega
     have n4:g2≠w.heap.size+1+1+1:=by omega
     clear hbx4 hnew4 hkp4 hx HKB1 jB eU eQ ge1 ge2
     go_wp2_with fail
     go_region
     go_wp2
     refine bodyPost_ret (v:=.tuple #[.agg #[.slice A4 k.mods.length ca4,.slice M4 k.mem.length cm4,.slice N4 k.nodes.length cn4,.slice S4 k.pipes.length cs4,.slice Q4 k.procs.length cq4],.agg #[.int .i64 er,.int .i64 0,.string ⟨#[]⟩],.int .i64 0]) (by simp[results,Tryz.results13,go_sem,r0,r1,r2,r3,r4,t0,t1,t2]) rfl ?_
     exact(lq kw.out (Nat.le_trans (by omega) Hs1.out) Hb5.out (by have:=Hb5.out.size;have:=Hs1.out;omega) _ _ _ _ _ _ _ _).drew_
  by_cases h4:kd=4
  ·subst h4
   replace HT:=hid (show D=⟨(Cf.fV k nm).kern,(Cf.fV k nm).ans,0⟩ by rw[HT.out,Hdd.out];rfl)
   obtain⟨gN,hgN,_⟩:=HK4.out.own.nodes.at_ (i:=0) (List.getElem?_eq_getElem (by rw[HG.out.nodesL];omega))
   simp only at hgN
   subst hgN
   have HV:=hid (rW k _ nm w4 HK4.out.ptr.2 HG.out.nodesL)
   have hbx:=HK4.out.box
   simp only[af]at HV hbx
   obtain⟨c0,c1,c2,c3,c4,cf,cl⟩:=jd hbx
   clear hbx Hdd hk1 hk2 h1
   go_wp2_with fail
   refine HV.out.mono ?_
   rintro e w5 ⟨rfl,hb5⟩
   have HK5:=hid (HK4.out.below hb5)
   have HX5:=hid (HX4.out.below hb5 HX4.out.lt)
   clear HV HK4 HX4 hb5 c0 c1 c2 c3 c4 cf cl a0 a1 a2 a3 a4 a5 al
   rcases Cf.bQ (Cf.aQ nm) k.nodes with ⟨_,hz⟩|⟨i,x,hz,hx,hn,_⟩
   ·obtain rfl:=HT.out.trans (show _=(⟨k,⟨6,0,[]⟩,0⟩:Cf.BQ) by unfold Cf.fV;rw[hz,if_pos (by omega)];rfl)
    rw[hz]
    obtain⟨x0,x1,x2,xf,xl⟩:=gZ HX5.out
    have haf:=(HK5.out.offT HX5.out Hlx.out (by decide) (by decide) (by decide) (by decide) (by decide) (by decide) (by decide) (by decide) 0 (.int .i64 6)).aft
    have hx:=HX5.out.put 0 (.int .i64 6)
    have Haf:=hid haf
    have Hx:=hid hx
    clear hz HK5 HX5 HT HG haf hx
    go_upto_region 39 with fail
    generalize w5.setCell ⟨gx,0,none⟩ (.int .i64 6)=w6 at *
    clear x0 x1 x2 xf xl
    have haf:=Haf.out
    have hx:=Hx.out
    clear Haf Hx
    obtain⟨⟨A4,ca4,M4,cm4,N4,cn4,S4,cs4,Q4,cq4⟩,hbx4,hnew4,hkp4⟩:=haf
    have Hb5:=hid (Hb1.out.trans (hkp4.mono Hb1.out.size))
    have kw:=hid hnew4
    obtain⟨r0,r1,r2,r3,r4,rf,rl⟩:=jd (eU.out.below hkp4 eU.out.lt)
    obtain⟨t0,t1,t2,tf,tl⟩:=gZ (eQ.out.below hkp4 eQ.out.lt)
    obtain⟨b0,b1,b2,b3,b4,bf,bl⟩:=jd hbx4
    obtain⟨x0,x1,x2,xf,xl⟩:=gZ hx
    have ge1:w.heap.size+4≤gx:=Nat.le_trans Hs1.out Hlx.out
    have ge2:w.heap.size+4≤g2:=Nat.le_trans Hs1.out Hlg.out
    have n1:gx≠w.heap.size+1+1:=by omega
    have n2:gx≠w.heap.size+1+1+1:=by omega
    have n3:g2≠w.heap.size+1+1:=by omega
    have n4:g2≠w.heap.size+1+1+1:=by omega
    clear hbx4 hnew4 hkp4 hx HKB1 jB eU eQ ge1 ge2
    go_wp2_with fail
    go_region
    go_wp2
    refine bodyPost_ret (v:=.tuple #[.agg #[.slice A4 k.mods.length ca4,.slice M4 k.mem.length cm4,.slice N4 k.nodes.length cn4,.slice S4 k.pipes.length cs4,.slice Q4 k.procs.length cq4],.agg #[.int .i64 6,.int .i64 0,.string ⟨#[]⟩],.int .i64 0]) (by simp[results,Tryz.results13,go_sem,r0,r1,r2,r3,r4,t0,t1,t2]) rfl ?_
    exact(lq kw.out (Nat.le_trans (by omega) Hs1.out) Hb5.out (by have:=Hb5.out.size;have:=Hs1.out;omega) _ _ _ _ _ _ _ _).drew_
   ·have hi8:i<8:=by rw[← HG.out.nodesL];exact(List.getElem?_eq_some_iff.1 hx).1
    obtain⟨k2,hk2⟩:∃k2:Cf.ag,k2=⟨k.mods,k.mem,k.nodes.set i ⟨[],x.kind,x.data,x.unit⟩,k.pipes,k.procs⟩:=⟨_,rfl⟩
    have hnd:Cf.nodeAt k i=x:=by rw[Cf.nodeAt,List.getD_eq_getElem?_getD,hx];rfl
    obtain⟨dk,hdk⟩:∃dk,dk=Cf.iY k2:=⟨_,rfl⟩
    obtain rfl:=HT.out.trans (show _=(⟨dk,Cf.kS,0⟩:Cf.BQ) by unfold Cf.fV;rw[hz,if_neg (by omega),Int.toNat_natCast,hnd,hdk,hk2];rfl)
    rw[hz]
    have hzk:∀n∈k2.nodes,n.kind=0→n=Cf.bM:=by
     rw[hk2]
     intro n hn' h0
     rcases Cf.jV hn' with h|rfl
     ·exact HG.out.toPre.empty n h h0
     ·exact absurd (show x.kind=0 from h0) (HG.out.toPre.named (n:=x) (List.mem_of_getElem? hx) (by have h9:=hn;simp[Cf.aQ]at h9;rw[h9.1];exact h9.2))
    have hK6:=HK5.out.putN rfl (j:=0) (x':=⟨[],x.kind,x.data,x.unit⟩) (u:=.string ⟨#[]⟩) hx (by omega) rfl
    have hR:=vI k2 (w5.setCell ⟨gN,i*4,none⟩ (.string ⟨#[]⟩)) (by rw[hk2];exact hK6) (by rw[hk2];simp[HG.out.nodesL]) (by rw[hk2];exact HG.out.pipesL) hzk (eu (by rw[hk2];show k.procs.length≤1024;rw[HG.out.procsL];omega)) (by rw[hk2];exact fun p hp=>eu (by rw[HG.out.ends p hp];omega))
    rw[← hdk]at hR
    have HTd:=hid hR
    have hX6:=HX5.out.off_ (p:=⟨gN,i*4,none⟩) (HX5.out.other (HK5.out.Bn rfl hx).box.choose_spec (by decide)) (.string ⟨#[]⟩)
    have HX6:=hid hX6
    have hbx:=HK5.out.box
    simp only[af]at hbx
    obtain⟨c0,c1,c2,c3,c4,cf,cl⟩:=jd hbx
    simp only[HG.out.nodesL]at c2
    have n0:w5.cell? ⟨gN,i*4,none⟩=_:=(HK5.out.Bn rfl hx).cell hx (j:=0) rfl
    have nl:=(HK5.out.Bn rfl hx).lt
    have nf:=(HK5.out.Bn rfl hx).open_
    clear hR hK6 hX6 hbx HK5 HX5 HT HG hx hn hz hzk hnd hk2 hdk
    go_wp2_with fail
    refine HTd.out.mono ?_
    rintro e w6 ⟨rfl,hK7,hp7⟩
    have haf:=hK7.aft
    have hx:=hp7 _ _ _ (by decide) (by decide) HX6.out
    clear HTd HX6 c0 c1 c2 c3 c4 cf cl n0 nl nf hK7 hp7
    obtain⟨⟨A4,ca4,M4,cm4,N4,cn4,S4,cs4,Q4,cq4⟩,hbx4,hnew4,hkp4⟩:=haf
    have Hb5:=hid (Hb1.out.trans (hkp4.mono Hb1.out.size))
    have kw:=hid hnew4
    obtain⟨r0,r1,r2,r3,r4,rf,rl⟩:=jd (eU.out.below hkp4 eU.out.lt)
    obtain⟨t0,t1,t2,tf,tl⟩:=gZ (eQ.out.below hkp4 eQ.out.lt)
    obtain⟨b0,b1,b2,b3,b4,bf,bl⟩:=jd hbx4
    obtain⟨x0,x1,x2,xf,xl⟩:=gZ hx
    have ge1:w.heap.size+4≤gx:=Nat.le_trans Hs1.out Hlx.out
    have ge2:w.heap.size+4≤g2:=Nat.le_trans Hs1.out Hlg.out
    have n1:gx≠w.heap.size+1+1:=by omega
    have n2:gx≠w.heap.size+1+1+1:=by omega
    have n3:g2≠w.heap.size+1+1:=by omega
    have n4:g2≠w.heap.size+1+1+1:=by omega
    clear hbx4 hnew4 hkp4 hx HKB1 jB eU eQ ge1 ge2
    go_wp2_with fail
    go_region
    go_wp2
    refine bodyPost_ret (v:=.tuple #[.agg #[.slice A4 dk.mods.length ca4,.slice M4 dk.mem.length cm4,.slice N4 dk.nodes.length cn4,.slice S4 dk.pipes.length cs4,.slice Q4 dk.procs.length cq4],.agg #[.int .i64 0,.int .i64 0,.string ⟨#[]⟩],.int .i64 0]) (by simp[results,Tryz.results13,go_sem,r0,r1,r2,r3,r4,t0,t1,t2]) rfl ?_
    exact(lq kw.out (Nat.le_trans (by omega) Hs1.out) Hb5.out (by have:=Hb5.out.size;have:=Hs1.out;omega) _ _ _ _ _ _ _ _).drew_
  obtain⟨dk,dc,dn,ds⟩:=dd
  obtain rfl:=HT.out
  clear HT
  have hor:kd=2∨kd=3∨5≤kd:=by omega
  obtain⟨x0,x1,x2,xf,xl⟩:=gZ HX4.out
  clear h1 h4
  rcases hor with rfl|rfl|h5
  ·have HV:=hid (Aj k w4 nm [] [] 1 0 HK4.out HG.out.nodesL HG.out.modsL hnl)
   rw[show Cf.nG k ⟨nm,1,[],0⟩=⟨dk,⟨dc,dn,ds⟩⟩ by rw[Hdd.out];rfl]at HV
   clear Hdd HG
   go_wp2_with fail
   refine HV.out.mono ?_
   rintro e w5 ⟨rfl,hf5⟩
   simp only[aF]
   obtain⟨⟨a9,xs9,ps9,hK5⟩,hA5⟩:=hf5
   have hX5:=hA5 _ _ HX4.out
   have HF5:=hid (hK5.ans hX5 Hlx.out (.int .i64 dc) (.int .i64 dn) (.string ⟨ds.toArray⟩)).aft
   have HX5:=hid (((hX5.put 0 (.int .i64 dc)).put 1 (.int .i64 dn)).put 2 (.string ⟨ds.toArray⟩))
   clear hK5 hA5 HV HX4 HK4 x0 x1 x2 xf xl a0 a1 a2 a3 a4 a5 al
   obtain⟨x0,x1,x2,xf,xl⟩:=gZ hX5
   clear hX5
   go_upto_region 39 with fail
   generalize ((w5.setCell ⟨gx,0,none⟩ (.int .i64 dc)).setCell ⟨gx,1,none⟩ (.int .i64 dn)).setCell ⟨gx,2,none⟩ (.string ⟨ds.toArray⟩)=w6 at *
   clear x0 x1 x2 xf xl
   have haf:=HF5.out
   have hx:=HX5.out
   clear HF5 HX5
   obtain⟨⟨A4,ca4,M4,cm4,N4,cn4,S4,cs4,Q4,cq4⟩,hbx4,hnew4,hkp4⟩:=haf
   have Hb5:=hid (Hb1.out.trans (hkp4.mono Hb1.out.size))
   have kw:=hid hnew4
   obtain⟨r0,r1,r2,r3,r4,rf,rl⟩:=jd (eU.out.below hkp4 eU.out.lt)
   obtain⟨t0,t1,t2,tf,tl⟩:=gZ (eQ.out.below hkp4 eQ.out.lt)
   obtain⟨b0,b1,b2,b3,b4,bf,bl⟩:=jd hbx4
   obtain⟨x0,x1,x2,xf,xl⟩:=gZ hx
   have ge1:w.heap.size+4≤gx:=Nat.le_trans Hs1.out Hlx.out
   have ge2:w.heap.size+4≤g2:=Nat.le_trans Hs1.out Hlg.out
   have n1:gx≠w.heap.size+1+1:=by omega
   have n2:gx≠w.heap.size+1+1+1:=by omega
   have n3:g2≠w.heap.size+1+1:=by omega
   have n4:g2≠w.heap.size+1+1+1:=by omega
   clear hbx4 hnew4 hkp4 hx HKB1 jB eU eQ ge1 ge2
   go_wp2_with fail
   go_region
   go_wp2
   refine bodyPost_ret (v:=.tuple #[.agg #[.slice A4 dk.mods.length ca4,.slice M4 dk.mem.length cm4,.slice N4 dk.nodes.length cn4,.slice S4 dk.pipes.length cs4,.slice Q4 dk.procs.length cq4],.agg #[.int .i64 dc,.int .i64 dn,.string ⟨ds.toArray⟩],.int .i64 0]) (by simp[results,Tryz.results13,go_sem,r0,r1,r2,r3,r4,t0,t1,t2]) rfl ?_
   exact(lq kw.out (Nat.le_trans (by omega) Hs1.out) Hb5.out Hs1.out _ _ _ _ _ _ _ _).drew_
  ·have HV:=hid (Aj k w4 nm [] [] 2 nn HK4.out HG.out.nodesL HG.out.modsL hnl)
   rw[show Cf.nG k ⟨nm,2,[],nn⟩=⟨dk,⟨dc,dn,ds⟩⟩ by rw[Hdd.out];rfl]at HV
   clear Hdd HG
   go_wp2_with fail
   refine HV.out.mono ?_
   rintro e w5 ⟨rfl,hf5⟩
   simp only[aF]
   obtain⟨⟨a9,xs9,ps9,hK5⟩,hA5⟩:=hf5
   have hX5:=hA5 _ _ HX4.out
   have HF5:=hid (hK5.ans hX5 Hlx.out (.int .i64 dc) (.int .i64 dn) (.string ⟨ds.toArray⟩)).aft
   have HX5:=hid (((hX5.put 0 (.int .i64 dc)).put 1 (.int .i64 dn)).put 2 (.string ⟨ds.toArray⟩))
   clear hK5 hA5 HV HX4 HK4 x0 x1 x2 xf xl a0 a1 a2 a3 a4 a5 al
   obtain⟨x0,x1,x2,xf,xl⟩:=gZ hX5
   clear hX5
   go_upto_region 39 with fail
   generalize ((w5.setCell ⟨gx,0,none⟩ (.int .i64 dc)).setCell ⟨gx,1,none⟩ (.int .i64 dn)).setCell ⟨gx,2,none⟩ (.string ⟨ds.toArray⟩)=w6 at *
   clear x0 x1 x2 xf xl
   have haf:=HF5.out
   have hx:=HX5.out
   clear HF5 HX5
   obtain⟨⟨A4,ca4,M4,cm4,N4,cn4,S4,cs4,Q4,cq4⟩,hbx4,hnew4,hkp4⟩:=haf
   have Hb5:=hid (Hb1.out.trans (hkp4.mono Hb1.out.size))
   have kw:=hid hnew4
   obtain⟨r0,r1,r2,r3,r4,rf,rl⟩:=jd (eU.out.below hkp4 eU.out.lt)
   obtain⟨t0,t1,t2,tf,tl⟩:=gZ (eQ.out.below hkp4 eQ.out.lt)
   obtain⟨b0,b1,b2,b3,b4,bf,bl⟩:=jd hbx4
   obtain⟨x0,x1,x2,xf,xl⟩:=gZ hx
   have ge1:w.heap.size+4≤gx:=Nat.le_trans Hs1.out Hlx.out
   have ge2:w.heap.size+4≤g2:=Nat.le_trans Hs1.out Hlg.out
   have n1:gx≠w.heap.size+1+1:=by omega
   have n2:gx≠w.heap.size+1+1+1:=by omega
   have n3:g2≠w.heap.size+1+1:=by omega
   have n4:g2≠w.heap.size+1+1+1:=by omega
   clear hbx4 hnew4 hkp4 hx HKB1 jB eU eQ ge1 ge2
   go_wp2_with fail
   go_region
   go_wp2
   refine bodyPost_ret (v:=.tuple #[.agg #[.slice A4 dk.mods.length ca4,.slice M4 dk.mem.length cm4,.slice N4 dk.nodes.length cn4,.slice S4 dk.pipes.length cs4,.slice Q4 dk.procs.length cq4],.agg #[.int .i64 dc,.int .i64 dn,.string ⟨ds.toArray⟩],.int .i64 0]) (by simp[results,Tryz.results13,go_sem,r0,r1,r2,r3,r4,t0,t1,t2]) rfl ?_
   exact(lq kw.out (Nat.le_trans (by omega) Hs1.out) Hb5.out Hs1.out _ _ _ _ _ _ _ _).drew_
  ·have HV:=hid (wM k kd pp nn mm nm da w4 HK4.out HG.out ⟨h5,hk2⟩ hnl hdl)
   rw[← Hdd.out]at HV
   have hb1:(kd == 1)=false:=by rw[beq_eq_false_iff_ne];omega
   have hb2:(kd == 2)=false:=by rw[beq_eq_false_iff_ne];omega
   have hb3:(kd == 3)=false:=by rw[beq_eq_false_iff_ne];omega
   have hb4:(kd == 4)=false:=by rw[beq_eq_false_iff_ne];omega
   clear Hdd HG
   go_wp2_with fail
   refine HV.out.mono ?_
   rintro e w5 ⟨rfl,hf5⟩
   simp only[aF]
   obtain⟨⟨a9,xs9,ps9,hK5⟩,hA5⟩:=hf5
   have hX5:=hA5 _ _ HX4.out
   have HF5:=hid (hK5.ans hX5 Hlx.out (.int .i64 dc) (.int .i64 dn) (.string ⟨ds.toArray⟩)).aft
   have HX5:=hid (((hX5.put 0 (.int .i64 dc)).put 1 (.int .i64 dn)).put 2 (.string ⟨ds.toArray⟩))
   clear hK5 hA5 HV HX4 HK4 x0 x1 x2 xf xl a0 a1 a2 a3 a4 a5 al
   obtain⟨x0,x1,x2,xf,xl⟩:=gZ hX5
   clear hX5
   go_upto_region 39 with fail
   generalize ((w5.setCell ⟨gx,0,none⟩ (.int .i64 dc)).setCell ⟨gx,1,none⟩ (.int .i64 dn)).setCell ⟨gx,2,none⟩ (.string ⟨ds.toArray⟩)=w6 at *
   clear x0 x1 x2 xf xl
   have haf:=HF5.out
   have hx:=HX5.out
   clear HF5 HX5
   obtain⟨⟨A4,ca4,M4,cm4,N4,cn4,S4,cs4,Q4,cq4⟩,hbx4,hnew4,hkp4⟩:=haf
   have Hb5:=hid (Hb1.out.trans (hkp4.mono Hb1.out.size))
   have kw:=hid hnew4
   obtain⟨r0,r1,r2,r3,r4,rf,rl⟩:=jd (eU.out.below hkp4 eU.out.lt)
   obtain⟨t0,t1,t2,tf,tl⟩:=gZ (eQ.out.below hkp4 eQ.out.lt)
   obtain⟨b0,b1,b2,b3,b4,bf,bl⟩:=jd hbx4
   obtain⟨x0,x1,x2,xf,xl⟩:=gZ hx
   have ge1:w.heap.size+4≤gx:=Nat.le_trans Hs1.out Hlx.out
   have ge2:w.heap.size+4≤g2:=Nat.le_trans Hs1.out Hlg.out
   have n1:gx≠w.heap.size+1+1:=by omega
   have n2:gx≠w.heap.size+1+1+1:=by omega
   have n3:g2≠w.heap.size+1+1:=by omega
   have n4:g2≠w.heap.size+1+1+1:=by omega
   clear hbx4 hnew4 hkp4 hx HKB1 jB eU eQ ge1 ge2
   go_wp2_with fail
   go_region
   go_wp2
   refine bodyPost_ret (v:=.tuple #[.agg #[.slice A4 dk.mods.length ca4,.slice M4 dk.mem.length cm4,.slice N4 dk.nodes.length cn4,.slice S4 dk.pipes.length cs4,.slice Q4 dk.procs.length cq4],.agg #[.int .i64 dc,.int .i64 dn,.string ⟨ds.toArray⟩],.int .i64 0]) (by simp[results,Tryz.results13,go_sem,r0,r1,r2,r3,r4,t0,t1,t2]) rfl ?_
   exact(lq kw.out (Nat.le_trans (by omega) Hs1.out) Hb5.out Hs1.out _ _ _ _ _ _ _ _).drew_
 ·have hq:(er == 0)=false:=by rw[beq_eq_false_iff_ne];exact he
  have hq':(er != 0)=true:=by rw[bne_iff_ne];exact he
  obtain rfl:=HT.out.trans (if_pos he)
  clear he HGd HT
  obtain⟨r0,r1,r2,r3,r4,rf,rl⟩:=jd eU.out
  obtain⟨t0,t1,t2,tf,tl⟩:=gZ eQ.out
  clear HKB1 jB eU eQ
  go_wp2
  refine bodyPost_ret (v:=.tuple #[.agg #[.slice none 0 0,.slice none 0 0,.slice none 0 0,.slice none 0 0,.slice none 0 0],.agg #[.int .i64 0,.int .i64 0,.string ⟨#[]⟩],.int .i64 er]) (by simp[results,Tryz.results13,go_sem,r0,r1,r2,r3,r4,t0,t1,t2]) rfl ?_
  exact lq (B1:=w.heap.size+4) (pz _ _) (by omega) Hb1.out (Nat.le_refl _) _ _ _ _ _ _ _ _
end
end Go.Proofs.YtnnhhbjbdmgpiaaGreatDoor
