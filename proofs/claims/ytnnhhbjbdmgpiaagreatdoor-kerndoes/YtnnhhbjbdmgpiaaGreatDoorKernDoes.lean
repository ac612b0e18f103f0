/- KernDoes: for every kernel and action, kern.Do answers as the reference does (the kernel, the answer, the error) and leaves the kernel handed in as it was. Conditions: the package-level tables that the road reads hold what the program's text lays (the card ties them). -/
import Derived.Test.YtnnhhbjbdmgpiaaGreatDoorCards
import Derived.Test.YtnnhhbjbdmgpiaaGreatDoorTie
import Derived.Test.YtnnhhbjbdmgpiaaGreatDoorJ41
import Derived.Test.YtnnhhbjbdmgpiaaGreatDoorJ21
set_option linter.unusedSimpArgs false
set_option linter.unusedVariables false
/- KernDoes: for every kernel and action,kern.Do answers as the reference does (the kernel,the answer,the error) and leaves the kernel handed in as it was. Conditions: the package-level tables that the road reads hold what the program's text lays (the card ties them). -/
namespace Go.Proofs.YtnnhhbjbdmgpiaaGreatDoor.KernDoesLaw
set_option maxRecDepth 100000
set_option maxHeartbeats 4000000
open Lib (hid)
open Go.ChangeShapes Go.WideShapes Go.ChangeAt Go.RowKit
theorem own:ownKnob Tryz.prog.godebug=none:=by kernel_rfl
theorem laidOut:laidOutB Tryz.prog=true:=by kernel_rfl
theorem fit_no:kU Cf.jR:=by
 refine⟨Nat.zero_le _,fun m h=>(by cases h),Nat.zero_le _,Nat.zero_le _,fun n h=>(by cases h),Nat.zero_le _,fun s h=>(by cases h),Nat.zero_le _,fun p h=>(by cases h),⟨?_,?_,?_,?_,?_⟩,fun m h=>(by cases h),fun p h=>(by cases h)⟩<;>exact Nat.zero_le _
theorem fit_do(k:Cf.ag)(x:Cf.jo):kU (Cf.doT k x).kern:=by
 unfold Cf.doT
 split
 ·exact fit_no
 ·rename_i h
  split
  ·exact fit_no
  ·exact rG ((Cf.nS.1 (by simpa using h)).act x)
section
open Go.Proofs.YtnnhhbjbdmgpiaaGreatDoor.Cf in
theorem qN:Tryz.prog.cellsOf 30=6:=by kernel_rfl
theorem rP{cs:List Value}(h:cs.length=6):∃a b c d e f,cs=[a,b,c,d,e,f]:=by
 match cs,h with
 | [a,b,c,d,e,f],_=>exact⟨a,b,c,d,e,f,rfl⟩
variable {H:Type} {enc:TypeId × Value→H} {w:World} {N:Nat}
theorem uz{fuel:Nat}{cs:List Value}{x:DataW H × List MemPlace}(h:DataW.trod enc Tryz.prog w 0 (fun _=>true) true fuel 30 cs=some x)(hN:Light Tryz.prog 30 N x.1):
  ∃n:Cf.jo,cs=qA n∧n.name.length≤N∧n.data.length≤N:=by
 obtain⟨c0,c1,c2,c3,c4,c5,rfl⟩:=rP ((kC Tryz.underlying30 h).trans qN)
 obtain⟨_,_,h0,_⟩:=open_cell Tryz.underlying30 h hN 0 (ft:=3) (off:=0) rfl intCells rfl
 obtain⟨_,_,h1,_⟩:=open_cell Tryz.underlying30 h hN 1 (ft:=3) (off:=1) rfl intCells rfl
 obtain⟨_,_,h2,_⟩:=open_cell Tryz.underlying30 h hN 2 (ft:=3) (off:=2) rfl intCells rfl
 obtain⟨_,_,h3,_⟩:=open_cell Tryz.underlying30 h hN 3 (ft:=3) (off:=3) rfl intCells rfl
 obtain⟨_,_,h4,l4⟩:=open_cell Tryz.underlying30 h hN 4 (ft:=9) (off:=4) rfl nY rfl
 obtain⟨_,_,h5,l5⟩:=open_cell Tryz.underlying30 h hN 5 (ft:=9) (off:=5) rfl nY rfl
 obtain⟨a,e0,_⟩:=dZ Tryz.underlying3 h0
 obtain⟨b,e1,_⟩:=dZ Tryz.underlying3 h1
 obtain⟨c,e2,_⟩:=dZ Tryz.underlying3 h2
 obtain⟨d,e3,_⟩:=dZ Tryz.underlying3 h3
 obtain⟨s,e4,_,hs⟩:=jy Tryz.underlying9 h4 l4
 obtain⟨u,e5,_,hu⟩:=jy Tryz.underlying9 h5 l5
 simp at e0 e1 e2 e3 e4 e5
 exact⟨⟨a,b,c,d,s,u⟩,by rw[e0,e1,e2,e3,e4,e5];rfl,hs,hu⟩
theorem open_act_arg{r:Reach}{b0:Nat}{v:Value}{d:DataW H}{ps:List MemPlace}
  (hv:Value.okWide Tryz.prog w r b0 30 v) (h:DataW.Trod enc Tryz.prog w 0 (fun _=>true) true 30 v d ps) (hN:Light Tryz.prog 30 N d):∃x:Cf.jo,v = .agg (qA x).toArray∧x.name.length≤N∧x.data.length≤N:=by
 simp only[Value.okWide,Tryz.underlying30]at hv
 obtain⟨cs,rfl,_,_⟩:=hv
 obtain⟨fuel,h⟩:=h
 obtain⟨x,he,h1,h2⟩:=uz h hN
 refine⟨x,?_,h1,h2⟩
 obtain⟨cl⟩:=cs
 have he':cl=qA x:=he
 rw[he']
end
theorem walk(k:Cf.ag)(a:KA)(kd pp nn mm:Int)(nm da:List UInt8)(w:World)(hA:KRd w a k)(hf:kU k)(hL:jW w)(hF:kL w)(hnl:nm.length≤maxLen)(hdl:da.length≤maxLen):
  Calls Tryz.prog 3 #[.agg (af a k).toArray,.agg #[.int .i64 kd,.int .i64 pp,.int .i64 nn,.int .i64 mm,.string ⟨nm.toArray⟩,.string ⟨da.toArray⟩]] w fun e w'=>e = .returned (.bool true)∧Below w.heap.size w w':=by
 obtain⟨w0,hw0⟩:∃w0:World,w0=(w.alloc (.cells (af a k).toArray ae)).alloc (.cells #[.int .i64 kd,.int .i64 pp,.int .i64 nn,.int .i64 mm,.string ⟨nm.toArray⟩,.string ⟨da.toArray⟩] gJ):=⟨_,rfl⟩
 have hb0:Below w.heap.size w w0:=by rw[hw0];exact((Below.refl _ _).alloc (Nat.le_refl _) _).alloc (by simp) _
 have hz0:w0.heap.size=w.heap.size+2:=by rw[hw0];simp
 have HK0:=hid (show Wb w0 w.heap.size ae (af a k) by rw[hw0];exact(Wb.new w ae (af a k)).alloc _)
 have HA0:=hid (show Wb w0 (w.heap.size+1) gJ [.int .i64 kd,.int .i64 pp,.int .i64 nn,.int .i64 mm,.string ⟨nm.toArray⟩,.string ⟨da.toArray⟩] by
  rw[hw0]
  have:=Wb.new (w.alloc (.cells (af a k).toArray ae)) gJ [.int .i64 kd,.int .i64 pp,.int .i64 nn,.int .i64 mm,.string ⟨nm.toArray⟩,.string ⟨da.toArray⟩]
  rwa [show(w.alloc (.cells (af a k).toArray ae)).heap.size=w.heap.size+1 by simp]at this)
 have HCp:=hid (nK k a w0 (hA.below hb0) hf)
 have HR:=hid hA
 have Hf:=hid hf
 have Hfd:=hid (fit_do k ⟨kd,pp,nn,mm,nm,da⟩)
 have HTb:=hid (show ∀W,Below w.heap.size w W→jW W∧kL W from fun W h=>⟨hL.below h,hF.below h⟩)
 have HDo:=hid (fun(W:World) (b:KA) (hb:KRd W b k) (h1:jW W) (h2:kL W)=>GY k b kd pp nn mm nm da W hb hf h1 h2 hnl hdl)
 have HDi:=hid (fun(W:World) (hb:KRd W a k)=>xA k a kd pp nn mm nm da W hb hf hnl hdl)
 have Hb0:=hid hb0
 have Hw0:=hid hw0
 clear hA hf hL hF hw0 hb0 hz0 hnl hdl
 generalize Cf.doT k ⟨kd,pp,nn,mm,nm,da⟩=dd at *
 obtain⟨dk,⟨dc,dn,ds⟩,er⟩:=dd
 obtain⟨A,ca,M,cm,N,cn,S,cs,Q,cq⟩:=a
 simp only[af]at HK0 HA0 HCp Hw0 HDi ⊢
 go_enter Tryz.func3,Tryz.ntmps3
 go_upto_region 1 with fail
 rw[← Hw0.out]
 clear Hw0
 obtain⟨c0,c1,c2,c3,c4,cf,cl⟩:=jd HK0.out
 go_wp2_with fail
 refine HCp.out.mono ?_
 rintro e w1 ⟨⟨A1,ca1,M1,cm1,N1,cn1,S1,cs1,Q1,cq1⟩,xs,ps,rfl,hown,hb1⟩
 simp only[af]
 go_upto_region 2 with fail
 have hbs:=hb1.alloc hb1.size (.cells #[.slice A1 k.mods.length ca1,.slice M1 k.mem.length cm1,.slice N1 k.nodes.length cn1,.slice S1 k.pipes.length cs1,.slice Q1 k.procs.length cq1] ae)
 have Hb2:=hid (Hb0.out.trans (hbs.mono Hb0.out.size))
 have HKa:=hid (HK0.out.below hbs HK0.out.lt)
 have HAa:=hid (HA0.out.below hbs HA0.out.lt)
 have HSa:=hid (Wb.new w1 ae [.slice A1 k.mods.length ca1,.slice M1 k.mem.length cm1,.slice N1 k.nodes.length cn1,.slice S1 k.pipes.length cs1,.slice Q1 k.procs.length cq1])
 have HRs:=hid (hown.new_.rd.below ((Below.refl _ _).alloc (Nat.le_refl _) (.cells #[.slice A1 k.mods.length ca1,.slice M1 k.mem.length cm1,.slice N1 k.nodes.length cn1,.slice S1 k.pipes.length cs1,.slice Q1 k.procs.length cq1] ae)))
 clear hown hb1 hbs HCp HK0 HA0 c0 c1 c2 c3 c4 cf cl Hb0
 generalize hgs:w1.heap.size=gs at *
 clear hgs
 generalize w1.alloc (.cells #[.slice A1 k.mods.length ca1,.slice M1 k.mem.length cm1,.slice N1 k.nodes.length cn1,.slice S1 k.pipes.length cs1,.slice Q1 k.procs.length cq1] ae)=w2 at *
 have HV:=hid (HDo.out w2 _ HRs.out (HTb.out w2 Hb2.out).1 (HTb.out w2 Hb2.out).2)
 simp only[af]at HV
 obtain⟨s0,s1,s2,s3,s4,sf,sl⟩:=jd HSa.out
 obtain⟨a0,a1,a2,a3,a4,a5,al⟩:=Jv HAa.out
 go_wp2_with fail
 refine HV.out.mono ?_
 rintro e w3 ⟨⟨A3,ca3,M3,cm3,N3,cn3,S3,cs3,Q3,cq3⟩,rfl,hnew,hb3⟩
 simp only[af,aF]
 go_upto_region 3 with fail
 have hal:=((Below.refl w3.heap.size w3).alloc (Nat.le_refl _) (.cells #[.slice A3 dk.mods.length ca3,.slice M3 dk.mem.length cm3,.slice N3 dk.nodes.length cn3,.slice S3 dk.pipes.length cs3,.slice Q3 dk.procs.length cq3] ae)).alloc (by simp) (.cells #[.int .i64 dc,.int .i64 dn,.string ⟨ds.toArray⟩] au)
 have hb4:=hb3.trans (hal.mono hb3.size)
 have Hb4:=hid (Hb2.out.trans (hb4.mono Hb2.out.size))
 have HKb:=hid (HKa.out.below hb4 HKa.out.lt)
 have HAb:=hid (HAa.out.below hb4 HAa.out.lt)
 have HSb:=hid (HSa.out.below hb4 HSa.out.lt)
 have NG:=hid (HRs.out.below hb4)
 have HRx:=hid (hnew.rd.below hal)
 have HXb:=hid ((Wb.new w3 ae [.slice A3 dk.mods.length ca3,.slice M3 dk.mem.length cm3,.slice N3 dk.nodes.length cn3,.slice S3 dk.pipes.length cs3,.slice Q3 dk.procs.length cq3]).alloc (.cells #[.int .i64 dc,.int .i64 dn,.string ⟨ds.toArray⟩] au))
 have HPb:=hid (show Wb ((w3.alloc (.cells #[.slice A3 dk.mods.length ca3,.slice M3 dk.mem.length cm3,.slice N3 dk.nodes.length cn3,.slice S3 dk.pipes.length cs3,.slice Q3 dk.procs.length cq3] ae)).alloc (.cells #[.int .i64 dc,.int .i64 dn,.string ⟨ds.toArray⟩] au)) (w3.heap.size+1) au [.int .i64 dc,.int .i64 dn,.string ⟨ds.toArray⟩] by
  have:=Wb.new (w3.alloc (.cells #[.slice A3 dk.mods.length ca3,.slice M3 dk.mem.length cm3,.slice N3 dk.nodes.length cn3,.slice S3 dk.pipes.length cs3,.slice Q3 dk.procs.length cq3] ae)) au [.int .i64 dc,.int .i64 dn,.string ⟨ds.toArray⟩]
  simpa using this)
 clear hal hb4 hb3 hnew HV HKa HAa HSa HRs s0 s1 s2 s3 s4 sf sl a0 a1 a2 a3 a4 a5 al HDo HTb
 generalize (w3.alloc (.cells #[.slice A3 dk.mods.length ca3,.slice M3 dk.mem.length cm3,.slice N3 dk.nodes.length cn3,.slice S3 dk.pipes.length cs3,.slice Q3 dk.procs.length cq3] ae)).alloc (.cells #[.int .i64 dc,.int .i64 dn,.string ⟨ds.toArray⟩] au)=w4 at *
 generalize hgx:w3.heap.size=gx at *
 clear hgx
 have HV:=hid (HDi.out w4 (HR.out.below Hb4.out))
 obtain⟨c0,c1,c2,c3,c4,cf,cl⟩:=jd HKb.out
 obtain⟨a0,a1,a2,a3,a4,a5,al⟩:=Jv HAb.out
 go_wp2_with fail
 refine HV.out.mono ?_
 rintro e w5 ⟨⟨A5,ca5,M5,cm5,N5,cn5,S5,cs5,Q5,cq5⟩,rfl,hnew,hb5⟩
 simp only[af,aF]
 go_upto_region 4 with fail
 have hal:=((Below.refl w5.heap.size w5).alloc (Nat.le_refl _) (.cells #[.slice A5 dk.mods.length ca5,.slice M5 dk.mem.length cm5,.slice N5 dk.nodes.length cn5,.slice S5 dk.pipes.length cs5,.slice Q5 dk.procs.length cq5] ae)).alloc (by simp) (.cells #[.int .i64 dc,.int .i64 dn,.string ⟨ds.toArray⟩] au)
 have hb6:=hb5.trans (hal.mono hb5.size)
 have Hb6:=hid (Hb4.out.trans (hb6.mono Hb4.out.size))
 have HKc:=hid (HKb.out.below hb6 HKb.out.lt)
 have HSc:=hid (HSb.out.below hb6 HSb.out.lt)
 have HXc:=hid (HXb.out.below hb6 HXb.out.lt)
 have HPc:=hid (HPb.out.below hb6 HPb.out.lt)
 have NK:=hid (NG.out.below hb6)
 have NR:=hid (HRx.out.below hb6)
 have HRy:=hid (hnew.rd.below hal)
 have HYc:=hid ((Wb.new w5 ae [.slice A5 dk.mods.length ca5,.slice M5 dk.mem.length cm5,.slice N5 dk.nodes.length cn5,.slice S5 dk.pipes.length cs5,.slice Q5 dk.procs.length cq5]).alloc (.cells #[.int .i64 dc,.int .i64 dn,.string ⟨ds.toArray⟩] au))
 have HQc:=hid (show Wb ((w5.alloc (.cells #[.slice A5 dk.mods.length ca5,.slice M5 dk.mem.length cm5,.slice N5 dk.nodes.length cn5,.slice S5 dk.pipes.length cs5,.slice Q5 dk.procs.length cq5] ae)).alloc (.cells #[.int .i64 dc,.int .i64 dn,.string ⟨ds.toArray⟩] au)) (w5.heap.size+1) au [.int .i64 dc,.int .i64 dn,.string ⟨ds.toArray⟩] by
  have:=Wb.new (w5.alloc (.cells #[.slice A5 dk.mods.length ca5,.slice M5 dk.mem.length cm5,.slice N5 dk.nodes.length cn5,.slice S5 dk.pipes.length cs5,.slice Q5 dk.procs.length cq5] ae)) au [.int .i64 dc,.int .i64 dn,.string ⟨ds.toArray⟩]
  simpa using this)
 clear hal hb6 hb5 hnew HV HKb HAb HSb HXb HPb NG HRx c0 c1 c2 c3 c4 cf cl a0 a1 a2 a3 a4 a5 al HDi Hb4 Hb2
 generalize (w5.alloc (.cells #[.slice A5 dk.mods.length ca5,.slice M5 dk.mem.length cm5,.slice N5 dk.nodes.length cn5,.slice S5 dk.pipes.length cs5,.slice Q5 dk.procs.length cq5] ae)).alloc (.cells #[.int .i64 dc,.int .i64 dn,.string ⟨ds.toArray⟩] au)=w6 at *
 generalize hgy:w5.heap.size=gy at *
 clear hgy
 have HV:=hid (kN dk ⟨A3,ca3,M3,cm3,N3,cn3,S3,cs3,Q3,cq3⟩ ⟨A5,ca5,M5,cm5,N5,cn5,S5,cs5,Q5,cq5⟩ w6 NR.out HRy.out Hfd.out)
 simp only[af]at HV
 obtain⟨x0,x1,x2,x3,x4,xf,xl⟩:=jd HXc.out
 obtain⟨y0,y1,y2,y3,y4,yf,yl⟩:=jd HYc.out
 obtain⟨p0,p1,p2,pf,pl⟩:=gZ HPc.out
 obtain⟨q0,q1,q2,qf,ql⟩:=gZ HQc.out
 go_wp2_with fail
 refine HV.out.mono ?_
 rintro e w7 ⟨rfl,hb7⟩
 have HV2:=hid (kN k ⟨A1,ca1,M1,cm1,N1,cn1,S1,cs1,Q1,cq1⟩ ⟨A,ca,M,cm,N,cn,S,cs,Q,cq⟩ w7 (NK.out.below hb7) (HR.out.below (Hb6.out.trans (hb7.mono Hb6.out.size))) Hf.out)
 simp only[af]at HV2
 have HSd:=hid (HSc.out.below hb7 HSc.out.lt)
 have HKd:=hid (HKc.out.below hb7 HKc.out.lt)
 have Hb7:=hid (Hb6.out.trans (hb7.mono Hb6.out.size))
 clear hb7 HV x0 x1 x2 x3 x4 xf xl y0 y1 y2 y3 y4 yf yl p0 p1 p2 pf pl q0 q1 q2 qf ql HXc HYc HPc HQc
 obtain⟨s0,s1,s2,s3,s4,sf,sl⟩:=jd HSd.out
 obtain⟨c0,c1,c2,c3,c4,cf,cl⟩:=jd HKd.out
 go_wp2_with fail
 refine HV2.out.mono ?_
 rintro e w8 ⟨rfl,hb8⟩
 have hb9:=Hb7.out.trans (hb8.mono Hb7.out.size)
 clear hb8 HV2 s0 s1 s2 s3 s4 sf sl c0 c1 c2 c3 c4 cf cl HSd HKd
 go_wp2
 go_ret
 exact⟨rfl,hb9⟩
theorem contract(H:Type)(enc:TypeId × Value→H)(W:World)(base:Nat)(args:Array Value)(ds gs:List (DataW H))(before:List MemPlace)
  (hval:∀(j:Nat) t v,Tryz.f3.params[j]?=some t→args[j]?=some v→Value.okWide Tryz.prog W .any base t v)
  (hW:DataW.Whole enc Tryz.prog Tryz.f3.params.toList Rows.kernDoesSpec.vars false W args.toList ds gs before)
  (hsz0:(DataW.weightsEach Tryz.prog (Tryz.f3.params.toList++(OpenSpec.ofChange Rows.kernDoesSpec).bare.plain.varTypes Tryz.prog) (ds++gs)).all (· ≤ reachBytes)=true)
  (hL:laidMetH Tryz.prog Rows.kernDoesRow.laid W) (NP:W.ShapedOpen Tryz.prog):
  Calls Tryz.prog 3 args W fun e W'=>∃v,e = .returned v∧Rows.kernDoesSpec.post enc Tryz.prog Tryz.f3 false true false false W args v W':=by
 have hW':=hW
 obtain⟨p,q,hA0,hV,rfl,hfz,hnd⟩:=hW
 have hA:DataW.TrodAll enc Tryz.prog W 0 (fun _=>true) true Tryz.f3.params.toList args.toList ds p:=hA0
 rw[Tryz.params3]at hA hval
 obtain⟨v0,vs0,d0,ds0,p0,q0,hargs0,rfl,rfl,h0,r0⟩:=trodAll_cons hA
 obtain⟨v1,vs1,d1,ds1,p1,q1,hargs1,rfl,rfl,h1,r1⟩:=trodAll_cons r0
 obtain⟨hnil,rfl,rfl⟩:=trodAll_nil r1
 obtain rfl:args=#[v0,v1]:=by cases args;simp_all
 obtain⟨rfl,rfl⟩:gs=[]∧q=[]:=by cases gs with|nil=>exact⟨rfl,hV⟩|cons g gs=>exact hV.elim
 rw[Tryz.params3]at hsz0
 obtain⟨a,k,rfl,hR,hF⟩:=wP (by simp[reachBytes,big]) (hval 0 28 v0 rfl rfl) h0 (rX hsz0 (j:=0) rfl rfl)
 obtain⟨⟨kd,pp,nn,mm,nm,da⟩,rfl,hn,hd⟩:=open_act_arg (hval 1 30 v1 rfl rfl) h1 (rX hsz0 (j:=1) rfl rfl)
 refine(walk k a kd pp nn mm nm da W hR hF (KE hL (List.Mem.head _)) (KD hL (List.Mem.tail _ (List.Mem.head _))) (Nat.le_trans hn (by simp[reachBytes,maxLen])) (Nat.le_trans hd (by simp[reachBytes,maxLen]))).mono fun e W' ⟨he,hb⟩=>?_
 exact⟨_,he,Bo laidOut (by kernel_rfl) Tryz.underlying4 rfl (by kernel_rfl) (fun ds hd=>by
  match ds,hd with
  | [d0,d1],_=>rfl) hW' hb⟩
noncomputable def laidWorld(os:Os):World:={ World.holding Tryz.prog os ⟨#[],#[],[]⟩ with heap:=(((World.holding Tryz.prog os ⟨#[],#[],[]⟩).heap).modify 1 (oU (Cf.sS.map (Value.int .i64)))).modify 0 (oU (Cf.lH.flatten.map (Value.int .i64))) }
theorem laid_met(os:Os):laidMet Tryz.prog Rows.kernDoesRow.laid ((laidWorld os).forCall (fun _ _=>0) ⟨#[],#[.agg #[.slice none 0 0,.slice none 0 0,.slice none 0 0,.slice none 0 0,.slice none 0 0],.agg #[.int .i64 0,.int .i64 0,.int .i64 0,.int .i64 0,.string ⟨#[]⟩,.string ⟨#[]⟩]],[]⟩).memory:=
 laidMet_of_run' 8 (by kernel_rfl) (by kernel_rfl)
theorem reads(os:Os){H:Type}(enc:TypeId × Value→H):∃places,DataW.whole enc Tryz.prog ((laidWorld os).forCall (fun _ _=>0) ⟨#[],#[.agg #[.slice none 0 0,.slice none 0 0,.slice none 0 0,.slice none 0 0,.slice none 0 0],.agg #[.int .i64 0,.int .i64 0,.int .i64 0,.int .i64 0,.string ⟨#[]⟩,.string ⟨#[]⟩]],[]⟩).memory Tryz.f3.params.toList Rows.kernDoesSpec.vars false (#[Value.agg #[.slice none 0 0,.slice none 0 0,.slice none 0 0,.slice none 0 0,.slice none 0 0],.agg #[.int .i64 0,.int .i64 0,.int .i64 0,.int .i64 0,.string ⟨#[]⟩,.string ⟨#[]⟩]]:Array Value).toList 8=some ([.agg [.nil,.nil,.nil,.nil,.nil],.agg [.lit (.int .i64 0),.lit (.int .i64 0),.lit (.int .i64 0),.lit (.int .i64 0),.lit (.string []),.lit (.string [])]],[],places):=
 ⟨[],by kernel_rfl⟩
theorem lifted(os:Os)(started:os.Started)(H:Type)(enc:TypeId × Value→H)(F:Stop.Interp):
  ReturnsInHanded {} Tryz.checked os 3 .any ((OpenSpec.ofChange Rows.kernDoesSpec).preRow enc Tryz.prog Tryz.f3 Rows.kernDoesRow.domain false Rows.kernDoesRow.laid) (((OpenSpec.ofChange Rows.kernDoesSpec).at F).post enc Tryz.prog Tryz.f3 false true false false):=by
 obtain⟨places,hx⟩:=reads os enc
 refine returnsInHanded_of_row (C:=Tryz.checked) (s:=(OpenSpec.ofChange Rows.kernDoesSpec)) own started (by kernel_rfl) Tryz.func3
  (witness_row_at (enc:=enc) (C:=Tryz.checked) false (laidWorld os) #[.agg #[.slice none 0 0,.slice none 0 0,.slice none 0 0,.slice none 0 0,.slice none 0 0],.agg #[.int .i64 0,.int .i64 0,.int .i64 0,.int .i64 0,.string ⟨#[]⟩,.string ⟨#[]⟩]] rfl (by kernel_rfl) (by kernel_rfl) (by kernel_rfl)
    (OpenSpec.preRow_of_cond 8 hx (by kernel_rfl) (fun k hk=>by cases hk) (by kernel_rfl) (laid_met os))) ?_
 intro W base args ds gs before hval hW _ hcond hsz hL hsh _
 exact contract H enc W base args ds gs before hval hW hsz hL hsh
theorem said:Rows.KernDoesSaid:=
 OpenClaim.holds_of_cond 3 Tryz.f3 rfl rfl rfl rfl rfl rfl rfl ⟨rfl,rfl,rfl,rfl,rfl⟩ rfl rfl rfl rfl rfl (by kernel_rfl) Tryz.func3 (by kernel_rfl)
  (of_decide_eq_true (by kernel_rfl)) (by unfold Func.isWrapper;first|(rw[if_pos (by decide +kernel)];kernel_rfl)|(rw[if_neg (by decide +kernel)];exact⟨rfl,rfl⟩))
  (fun os started H enc _ F=>by rw[OpenClaim.pre_eq_preRow];exact lifted os started H enc F)
theorem plain(f:FuncId)(fn:Func)(hf:Tryz.pinned.checked.prog.funcNamed "curfew/curfewlaw.KernDoes" = some f)(hfn:Tryz.pinned.checked.prog.funcs[f]?=some fn):
  false=Tryz.pinned.checked.prog.looks []∧∀(j:Nat) t,fn.params[j]?=some t→Tryz.pinned.checked.prog.wantsStandIn t=false:=by
 obtain rfl:f=3:=Option.some.inj ((show Tryz.prog.funcNamed "curfew/curfewlaw.KernDoes" = some 3 by kernel_rfl).symm.trans hf) |>.symm
 obtain rfl:fn=Tryz.f3:=(Option.some.inj (Tryz.func3.symm.trans hfn)).symm
 refine⟨by kernel_rfl,fun j t ht=>?_⟩
 rw[Tryz.params3]at ht
 have hm:t=28∨t=30:=by simpa using Array.mem_of_getElem? ht
 rcases hm with rfl|rfl
 ·exact(show Tryz.prog.wantsStandIn 28=false by kernel_rfl)
 ·exact(show Tryz.prog.wantsStandIn 30=false by kernel_rfl)
theorem card:Rows.KernDoesCardSaid:=
 Claim7.holds_tied_plain_at .later [] _ _ _ _ said (fun _ h=>by cases h) (by kernel_rfl) (fun _ h=>by cases h) kernDoes_row_tie rfl ⟨rfl,rfl⟩ (by kernel_rfl) rfl plain (by kernel_rfl)
end Go.Proofs.YtnnhhbjbdmgpiaaGreatDoor.KernDoesLaw
namespace Go.Proofs.YtnnhhbjbdmgpiaaGreatDoor
theorem kernDoes_holds:Rows.KernDoesCardSaid:=KernDoesLaw.card
#print axioms kernDoes_holds
end Go.Proofs.YtnnhhbjbdmgpiaaGreatDoor
