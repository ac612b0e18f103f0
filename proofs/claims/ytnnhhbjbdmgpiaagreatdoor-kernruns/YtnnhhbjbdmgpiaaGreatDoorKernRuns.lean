/- KernRuns: for every list of actions, kern.Run answers as the reference does (the answers, the kernel, the error). Conditions: the package-level tables that the road reads hold what the program's text lays (the card ties them). -/
import Derived.Test.YtnnhhbjbdmgpiaaGreatDoorCards
import Derived.Test.YtnnhhbjbdmgpiaaGreatDoorTie
import Derived.Test.YtnnhhbjbdmgpiaaGreatDoorKRS03
import Derived.Test.YtnnhhbjbdmgpiaaGreatDoorKRS02
set_option linter.unusedSimpArgs false
set_option linter.unusedVariables false
/- KernRuns: for every list of actions,kern.Run answers as the reference does (the answers,the kernel,the error). Conditions: the package-level tables that the road reads hold what the program's text lays (the card ties them). -/
namespace Go.Proofs.YtnnhhbjbdmgpiaaGreatDoor.KernRunsLaw
set_option maxRecDepth 100000
set_option maxHeartbeats 4000000
open Lib (hid)
open Go.ChangeShapes Go.WideShapes Go.ChangeAt Go.RowKit
theorem own:ownKnob Tryz.prog.godebug=none:=by kernel_rfl
theorem laidOut:laidOutB Tryz.prog=true:=by kernel_rfl
theorem fit_no:kU Cf.jR:=by
 refine⟨Nat.zero_le _,fun m h=>(by cases h),Nat.zero_le _,Nat.zero_le _,fun n h=>(by cases h),Nat.zero_le _,fun s h=>(by cases h),Nat.zero_le _,fun p h=>(by cases h),⟨?_,?_,?_,?_,?_⟩,fun m h=>(by cases h),fun p h=>(by cases h)⟩<;>exact Nat.zero_le _
theorem good_ran:∀(l:List Cf.jo) {k:Cf.ag},Cf.Good k→Cf.Good (Cf.dS k l).kern
 | [],_,h=>h
 | a :: r,_,h=>good_ran r (h.next a)
theorem fit_run(l:List Cf.jo):kU (Cf.ik l).kern∧(Cf.ik l).answers.length≤l.length:=by
 unfold Cf.ik
 split
 ·exact⟨fit_no,Nat.zero_le _⟩
 ·exact⟨rG (good_ran l Cf.uN),Nat.le_of_eq (Cf.yN l _)⟩
theorem walk(l:List Cf.jo)(A:Option Addr)(cap:Nat)(w:World)(hA:He w A l)(hl:l.length*64≤big)(hz:∀x∈l,x.name.length≤maxLen∧x.data.length≤maxLen)(hL:jW w)(hF:kL w):
  Calls Tryz.prog 4 #[.slice A l.length cap] w fun e w'=>e = .returned (.bool true)∧Below w.heap.size w w':=by
 obtain⟨i0,hi0,hy0,hy1,hy2⟩:=info_parts LP
 have Hi:=hid hi0
 have H0:=hid hy0
 have H1:=hid hy1
 have H2:=hid hy2
 unfold big at hl
 have hlm:l.length≤maxLen:=by unfold maxLen;omega
 obtain⟨hf,han⟩:=fit_run l
 have HF:=hid hf
 have HA:=hid hA
 have HR:=hid (fun(W:World) (B:Option Addr) (c:Nat) (h:He W B l) (hb:Below w.heap.size w W)=>CP l B c W h hlm hz (hL.below hb) (hF.below hb))
 have HS:=hid (fun(W:World) (hb:Below w.heap.size w W)=>zo l A cap W (RdS.below hA hb) hlm hz)
 clear hi0 hy0 hy1 hy2 hA hz hL hF hf
 generalize Cf.ik l=r at *
 obtain⟨an,kn,er⟩:=r
 simp only at han HF
 have hm:an.length≤maxLen:=Nat.le_trans han hlm
 unfold maxLen at hm hlm
 go_enter Tryz.func4,Tryz.ntmps4
 go_upto_region 1 with fail
 go_wp2_with (at_builtin;refine bg rfl _ _ 39 rfl w.heap.size 30 i0 (.agg #[.int .i64 0,.int .i64 0,.int .i64 0,.int .i64 0,.string ⟨#[]⟩,.string ⟨#[]⟩]) 6 64 Tryz.underlying39 Hi.out H0.out H1.out H2.out rfl (by decide) xq JU _ 0 [] rfl (World.ownsRow_nil _ _ _ _) A cap l rfl HA.out (by unfold maxLen;omega) (by omega) (Nat.le_refl _) ?_)
 intro v' w1 hown hgr hat
 obtain⟨A1,c1,rfl⟩:=aP hown
 have hb1:Below w.heap.size w w1:=(Below.refl _ _).grown hgr (Nat.le_refl _) (fun r hr=>by cases hr)
 have HV:=hid (HR.out w1 A1 c1 (jm xq hown) hb1)
 have Hb1:=hid hb1
 clear hown hgr hat hb1 HR HA
 go_wp2_with fail
 refine HV.out.mono ?_
 rintro e w2 ⟨A2,c2,⟨A3,ca3,M3,cm3,N3,cn3,S3,cs3,Q3,cq3⟩,rfl,hR2, -,⟨-,hk2⟩,hb2⟩
 simp only[af]
 simp only at hR2 hk2
 go_upto_region 2 with fail
 have hal:=(Below.refl w2.heap.size w2).alloc (Nat.le_refl _) (.cells #[.slice A3 kn.mods.length ca3,.slice M3 kn.mem.length cm3,.slice N3 kn.nodes.length cn3,.slice S3 kn.pipes.length cs3,.slice Q3 kn.procs.length cq3] ae)
 have hb3:=hb2.trans (hal.mono hb2.size)
 have Hb3:=hid (Hb1.out.trans (hb3.mono Hb1.out.size))
 have HR3:=hid (RdS.below hR2 hal)
 have HK3:=hid (hk2.rd.below hal)
 have HB3:=hid (Wb.new w2 ae [.slice A3 kn.mods.length ca3,.slice M3 kn.mem.length cm3,.slice N3 kn.nodes.length cn3,.slice S3 kn.pipes.length cs3,.slice Q3 kn.procs.length cq3])
 clear hal hb3 hb2 hR2 hk2 HV Hb1
 generalize hgx:w2.heap.size=gx at *
 clear hgx
 generalize w2.alloc (.cells #[.slice A3 kn.mods.length ca3,.slice M3 kn.mem.length cm3,.slice N3 kn.nodes.length cn3,.slice S3 kn.pipes.length cs3,.slice Q3 kn.procs.length cq3] ae)=w3 at *
 have HV:=hid (HS.out w3 Hb3.out)
 clear HS
 go_wp2_with fail
 refine HV.out.mono ?_
 rintro e w4 ⟨A4,c4,⟨A5,ca5,M5,cm5,N5,cn5,S5,cs5,Q5,cq5⟩,rfl,hR4, -,⟨-,hk4⟩,hb4⟩
 simp only[af]
 simp only at hR4 hk4
 go_upto_region 3 with fail
 have hal:=(Below.refl w4.heap.size w4).alloc (Nat.le_refl _) (.cells #[.slice A5 kn.mods.length ca5,.slice M5 kn.mem.length cm5,.slice N5 kn.nodes.length cn5,.slice S5 kn.pipes.length cs5,.slice Q5 kn.procs.length cq5] ae)
 have hb5:=hb4.trans (hal.mono hb4.size)
 have Hb5:=hid (Hb3.out.trans (hb5.mono Hb3.out.size))
 have NE:=hid (RdS.below HR3.out hb5)
 have Nq:=hid (HK3.out.below hb5)
 have L6:=hid (HB3.out.below hb5 HB3.out.lt)
 have HR5:=hid (RdS.below hR4 hal)
 have HK5:=hid (hk4.rd.below hal)
 have HB5:=hid (Wb.new w4 ae [.slice A5 kn.mods.length ca5,.slice M5 kn.mem.length cm5,.slice N5 kn.nodes.length cn5,.slice S5 kn.pipes.length cs5,.slice Q5 kn.procs.length cq5])
 clear hal hb5 hb4 hR4 hk4 HV Hb3 HR3 HK3 HB3
 generalize hgy:w4.heap.size=gy at *
 clear hgy
 generalize w4.alloc (.cells #[.slice A5 kn.mods.length ca5,.slice M5 kn.mem.length cm5,.slice N5 kn.nodes.length cn5,.slice S5 kn.pipes.length cs5,.slice Q5 kn.procs.length cq5] ae)=w5 at *
 have HV:=hid (kN kn ⟨A3,ca3,M3,cm3,N3,cn3,S3,cs3,Q3,cq3⟩ ⟨A5,ca5,M5,cm5,N5,cn5,S5,cs5,Q5,cq5⟩ w5 Nq.out HK5.out HF.out)
 simp only[af]at HV
 obtain⟨x0,x1,x2,x3,x4,xf,xl⟩:=kY L6.out
 obtain⟨y0,y1,y2,y3,y4,yf,yl⟩:=kY HB5.out
 go_wp2_with fail
 refine HV.out.mono ?_
 rintro e w6 ⟨rfl,hb6⟩
 have HR6:=hid (RdS.below NE.out hb6)
 have HR7:=hid (RdS.below HR5.out hb6)
 have Hb6:=hid (Hb5.out.trans (hb6.mono Hb5.out.size))
 clear hb6 HV x0 x1 x2 x3 x4 xf xl y0 y1 y2 y3 y4 yf yl L6 HB5 NE HR5 Nq HK5 Hb5 HF
 go_wp2_with fail
 go_loopw [9] (fun i wr=>∃n:Nat,n≤an.length∧i = .int .i64 n∧Below w6.heap.size w6 wr) (fun i _=>an.length-(intOf i).toNat)
 case atStart=>exact⟨0,by omega,rfl,Below.refl _ _⟩
 case round=>
  obtain⟨n,hn,rfl,hbw⟩:=hrel
  have Hbw:=hid hbw
  by_cases hlt:n<an.length
  ·obtain⟨z0,z1,z2,hx⟩:∃z0 z1 z2,an[n]?=some ⟨z0,z1,z2⟩:=⟨_,_,_,List.getElem?_eq_getElem hlt⟩
   rcases HR6.out with h|⟨b1,o1,rfl,hb1,hc1⟩
   ·rw[h]at hx;cases hx
   rcases HR7.out with h|⟨b2,o2,rfl,hb2,hc2⟩
   ·rw[h]at hx;cases hx
   have p0:wr.cell? ⟨b1,o1+n*3,none⟩=_:=(hbw.cell hb1).trans (hc1 n _ hx 0 _ rfl)
   have q0:wr.cell? ⟨b2,o2+n*3,none⟩=_:=(hbw.cell hb2).trans (hc2 n _ hx 0 _ rfl)
   have p1:wr.cell? ⟨b1,o1+n*3+1,none⟩=_:=(hbw.cell hb1).trans (hc1 n _ hx 1 _ rfl)
   have q1:wr.cell? ⟨b2,o2+n*3+1,none⟩=_:=(hbw.cell hb2).trans (hc2 n _ hx 1 _ rfl)
   have p2:wr.cell? ⟨b1,o1+n*3+2,none⟩=_:=(hbw.cell hb1).trans (hc1 n _ hx 2 _ rfl)
   have q2:wr.cell? ⟨b2,o2+n*3+2,none⟩=_:=(hbw.cell hb2).trans (hc2 n _ hx 2 _ rfl)
   clear hc1 hc2 hx hbw
   go_wp2_with fail
   go_quiet (fail)
   go_wp2
   go_roundw
   case rel=>exact⟨n+1,by omega,by go_num,below_drewN Hbw.out _⟩
   case measure=>simp[intOf];omega
  ·clear hbw
   go_wp2
   go_ret
   exact⟨rfl,Hb6.out.trans (Hbw.out.mono Hb6.out.size)⟩
theorem contract(H:Type)(enc:TypeId × Value→H)(W:World)(base:Nat)(args:Array Value)(ds gs:List (DataW H))(before:List MemPlace)
  (hval:∀(j:Nat) t v,Tryz.f4.params[j]?=some t→args[j]?=some v→Value.okWide Tryz.prog W .any base t v)
  (hW:DataW.Whole enc Tryz.prog Tryz.f4.params.toList Rows.kernRunsSpec.vars false W args.toList ds gs before)
  (hsz0:(DataW.weightsEach Tryz.prog (Tryz.f4.params.toList++(OpenSpec.ofChange Rows.kernRunsSpec).bare.plain.varTypes Tryz.prog) (ds++gs)).all (· ≤ reachBytes)=true)
  (hL:laidMetH Tryz.prog Rows.kernRunsRow.laid W) (NP:W.ShapedOpen Tryz.prog):
  Calls Tryz.prog 4 args W fun e W'=>∃v,e = .returned v∧Rows.kernRunsSpec.post enc Tryz.prog Tryz.f4 false true false false W args v W':=by
 have hW':=hW
 obtain⟨p,q,hA0,hV,rfl,hfz,hnd⟩:=hW
 have hA:DataW.TrodAll enc Tryz.prog W 0 (fun _=>true) true Tryz.f4.params.toList args.toList ds p:=hA0
 rw[Tryz.params4]at hA hval
 obtain⟨v0,vs0,d0,ds0,p0,q0,hargs0,rfl,rfl,h0,r0⟩:=trodAll_cons hA
 obtain⟨hnil,rfl,rfl⟩:=trodAll_nil r0
 obtain rfl:args=#[v0]:=by cases args;simp_all
 obtain⟨rfl,rfl⟩:gs=[]∧q=[]:=by cases gs with|nil=>exact⟨rfl,hV⟩|cons g gs=>exact hV.elim
 rw[Tryz.params4]at hsz0
 obtain⟨A,cap,l,rfl,hl,hR,hz⟩:=wH (hval 0 39 v0 rfl rfl) h0 (rX hsz0 (j:=0) rfl rfl)
 refine(walk l A cap W hR (Nat.le_trans hl (by simp[reachBytes,big])) (fun x hx=>⟨Nat.le_trans (hz x hx).1 (by simp[reachBytes,maxLen]),Nat.le_trans (hz x hx).2 (by simp[reachBytes,maxLen])⟩) (KE hL (List.Mem.head _)) (KD hL (List.Mem.tail _ (List.Mem.head _)))).mono fun e W' ⟨he,hb⟩=>?_
 exact⟨_,he,Bo laidOut (by kernel_rfl) Tryz.underlying4 rfl (by kernel_rfl) (fun ds hd=>by
  match ds,hd with
  | [d0],_=>rfl) hW' hb⟩
noncomputable def laidWorld(os:Os):World:={ World.holding Tryz.prog os ⟨#[],#[],[]⟩ with heap:=(((World.holding Tryz.prog os ⟨#[],#[],[]⟩).heap).modify 1 (oU (Cf.sS.map (Value.int .i64)))).modify 0 (oU (Cf.lH.flatten.map (Value.int .i64))) }
theorem laid_met(os:Os):laidMet Tryz.prog Rows.kernRunsRow.laid ((laidWorld os).forCall (fun _ _=>0) ⟨#[],#[.slice none 0 0],[]⟩).memory:=
 laidMet_of_run' 8 (by kernel_rfl) (by kernel_rfl)
theorem reads(os:Os){H:Type}(enc:TypeId × Value→H):∃places,DataW.whole enc Tryz.prog ((laidWorld os).forCall (fun _ _=>0) ⟨#[],#[.slice none 0 0],[]⟩).memory Tryz.f4.params.toList Rows.kernRunsSpec.vars false (#[Value.slice none 0 0]:Array Value).toList 8=some ([.nil],[],places):=
 ⟨[],by kernel_rfl⟩
theorem lifted(os:Os)(started:os.Started)(H:Type)(enc:TypeId × Value→H)(F:Stop.Interp):
  ReturnsInHanded {} Tryz.checked os 4 .any ((OpenSpec.ofChange Rows.kernRunsSpec).preRow enc Tryz.prog Tryz.f4 Rows.kernRunsRow.domain false Rows.kernRunsRow.laid) (((OpenSpec.ofChange Rows.kernRunsSpec).at F).post enc Tryz.prog Tryz.f4 false true false false):=by
 obtain⟨places,hx⟩:=reads os enc
 refine returnsInHanded_of_row (C:=Tryz.checked) (s:=(OpenSpec.ofChange Rows.kernRunsSpec)) own started (by kernel_rfl) Tryz.func4
  (witness_row_at (enc:=enc) (C:=Tryz.checked) false (laidWorld os) #[.slice none 0 0] rfl (by kernel_rfl) (by kernel_rfl) (by kernel_rfl)
    (OpenSpec.preRow_of_cond 8 hx (by kernel_rfl) (fun k hk=>by cases hk) (by kernel_rfl) (laid_met os))) ?_
 intro W base args ds gs before hval hW _ hcond hsz hL hsh _
 exact contract H enc W base args ds gs before hval hW hsz hL hsh
theorem said:Rows.KernRunsSaid:=
 OpenClaim.holds_of_cond 4 Tryz.f4 rfl rfl rfl rfl rfl rfl rfl ⟨rfl,rfl,rfl,rfl,rfl⟩ rfl rfl rfl rfl rfl (by kernel_rfl) Tryz.func4 (by kernel_rfl)
  (of_decide_eq_true (by kernel_rfl)) (by unfold Func.isWrapper;first|(rw[if_pos (by decide +kernel)];kernel_rfl)|(rw[if_neg (by decide +kernel)];exact⟨rfl,rfl⟩))
  (fun os started H enc _ F=>by rw[OpenClaim.pre_eq_preRow];exact lifted os started H enc F)
theorem plain(f:FuncId)(fn:Func)(hf:Tryz.pinned.checked.prog.funcNamed "curfew/curfewlaw.KernRuns" = some f)(hfn:Tryz.pinned.checked.prog.funcs[f]?=some fn):
  false=Tryz.pinned.checked.prog.looks []∧∀(j:Nat) t,fn.params[j]?=some t→Tryz.pinned.checked.prog.wantsStandIn t=false:=by
 obtain rfl:f=4:=Option.some.inj ((show Tryz.prog.funcNamed "curfew/curfewlaw.KernRuns" = some 4 by kernel_rfl).symm.trans hf) |>.symm
 obtain rfl:fn=Tryz.f4:=(Option.some.inj (Tryz.func4.symm.trans hfn)).symm
 refine⟨by kernel_rfl,fun j t ht=>?_⟩
 rw[Tryz.params4]at ht
 obtain rfl:t=39:=by simpa using Array.mem_of_getElem? ht
 exact(show Tryz.prog.wantsStandIn 39=false by kernel_rfl)
theorem card:Rows.KernRunsCardSaid:=
 Claim7.holds_tied_plain_at .later [] _ _ _ _ said (fun _ h=>by cases h) (by kernel_rfl) (fun _ h=>by cases h) kernRuns_row_tie rfl ⟨rfl,rfl⟩ (by kernel_rfl) rfl plain (by kernel_rfl)
end Go.Proofs.YtnnhhbjbdmgpiaaGreatDoor.KernRunsLaw
namespace Go.Proofs.YtnnhhbjbdmgpiaaGreatDoor
theorem kernRuns_holds:Rows.KernRunsCardSaid:=KernRunsLaw.card
#print axioms kernRuns_holds
end Go.Proofs.YtnnhhbjbdmgpiaaGreatDoor
