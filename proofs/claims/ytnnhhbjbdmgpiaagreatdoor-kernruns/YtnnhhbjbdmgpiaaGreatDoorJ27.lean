/- Texts of the proofs: CpyW. -/
import Derived.Test.YtnnhhbjbdmgpiaaGreatDoorJ24
import Derived.Test.YtnnhhbjbdmgpiaaGreatDoorJ05
set_option linter.unusedSimpArgs false
set_option linter.unusedVariables false
namespace Go.Proofs.YtnnhhbjbdmgpiaaGreatDoor
set_option maxRecDepth 100000
set_option maxHeartbeats 4000000
open Lib (hid)
section
open Go.RowKit
theorem sF{α:Type}{enc:α→List Value}{P:Program}{w:World}{ops:Array Oper}{rest:List Oper}{o:Oper}{a:Act}{Q:Exit→Act→World→Prop}(hgd:o.guard=none)(s x:Operand)(t:TypeId)(ho:o.op = .call { callee:=.builtin .append,args:=#[s,x],argTypes:=#[t,t] })
  (e:TypeId) (i:TypeInfo) (z:Value) (size bytes:Nat) (ht:P.underlying t=some (.slice e)) (hi:P.info? e=some i) (hz:i.zero=some z)
  (hsize:i.size=size) (hby:i.bytes=bytes) (henc:∀x,(enc x).length=size)
  (b:Addr) (hs:a.eval s = .slice (some b) 0 0) (A:Option Addr) (c:Nat) (l:List α) (hx:a.eval x = .slice A l.length c) (hr:RdS size enc w A l)
  (h63:l.length≤maxLen) (hbytes:l.length*bytes≤140737488355328)
  (h:∀A' c' w',Nw size enc w' e w.heap.size A' l→Below w.heap.size w w'→l.length≤c'→wpList P ops Q rest (a.put o.dst (.slice A' l.length c')) w'):wpList P ops Q (o :: rest) a w:=
 wpList_plain hgd fun K hK=>by
  obtain⟨A',c',w',hrun,h2,h3,h4⟩:=gW (P:=P) w t o.type e i z size bytes ht hi hz hsize hby henc b A c l hr h63 hbytes
  unfold Oper.wp
  simp[execOp,ho,resolve,invoke,builtin,hs,hx,hrun,Result.andThen]
  exact hK _ _ (h A' c' w' h2 h3 h4)
theorem Au{P:Program}{w w':World}{ops:Array Oper}{rest:List Oper}{o:Oper}{a:Act}{Q:Exit→Act→World→Prop}{v:Value}(hg:o.guard=none)(h:(execOp a.eval o).run P w = .ok (.value v) w')(hk:wpList P ops Q rest (a.put o.dst v) w'):wpList P ops Q (o :: rest) a w:=
 wpList_plain hg fun _ hK=>dD h (hK _ _ hk)
def CE(l:List Cf.End)(w:World)(e:Ending)(w':World):Prop:=∃A' c',e = .returned (.slice A' l.length c')∧Nw 3 bH w' fP w.heap.size A' l∧Below w.heap.size w w'∧l.length≤c'
theorem ru(l:List Cf.End)(A:Option Addr)(c:Nat)(w:World)(hR:Ends w A l)(hm:l.length≤big)(hg:l.length*24≤big):
  Calls Tryz.prog 59 #[.slice A l.length c] w (CE l w):=by
 obtain⟨i0,hi0,hy0,hy1,hy2⟩:=info_parts vP
 have Hi:=hid hi0
 have H0:=hid hy0
 have H1:=hid hy1
 have H2:=hid hy2
 have HR:=hid hR
 clear hi0 hy0 hy1 hy2 hR
 go_enter Tryz.func59,Tryz.ntmps59
 go_upto_region 1 with fail
 have hb0:∀o:Obj,Below w.heap.size w (w.alloc o):=fun o=>(Below.refl _ _).alloc (Nat.le_refl _) _
 refine wp_region_list ?_
 refine Au (v:=.slice (some ⟨w.heap.size,0,none⟩) 0 0) (w':=w.alloc (.cells #[] 72)) (by rfl) (by simp[execOp];go_simp) ?_
 refine Au (v:=.slice A l.length c) (w':=w.alloc (.cells #[] 72)) (by rfl) (by simp[execOp,Act.eval,Act.put]) ?_
 refine sF (by rfl) (.tmp 3) (.tmp 4) 67 (by rfl) 72 i0 _ 3 24 Tryz.underlying67 Hi.out H0.out H1.out H2.out jU _ (by rfl) A c l (by rfl) (RdS.below HR.out (hb0 _)) (iI hm) hg ?_
 intro A' c' w1 hN hb1 hcp
 have Hp:=hid (show CE l w (.returned (.slice A' l.length c')) w1 from⟨A',c',rfl,hN.mono (by simp),(hb0 _).trans (hb1.mono (by simp)),hcp⟩)
 clear hN hb1 hb0 hcp
 go_wp2
 go_ret
 exact Hp.out
def CpF(wb:World)(ps:List PV)(mem:List Int)(nodes:List Cf.Node)(pipes:List (List UInt8))(v:Value)(w:World):Prop:=∃g a,v = .pointer (some ⟨g,0,none⟩)∧CpS wb.heap.size wb g a [] [] mem nodes pipes ps w∧a.A=none∧a.ca=0
def CpX(wb:World)(g:Nat)(a:KA)(ys:List MV)(mods:List Cf.Mod)(mem:List Int)(nodes:List Cf.Node)(pipes:List (List UInt8))(ps:List PV)(b:Nat)(t:TypeId)(cs:List Value)(w:World):Prop:=CpS wb.heap.size wb g a ys mods mem nodes pipes ps w∧Wb w b t cs
def kl(a:KA)(n1 n2 n3 n4 n5:Nat):List Value:=[.slice a.A n1 a.ca,.slice a.M n2 a.cm,.slice a.N n3 a.cn,.slice a.S n4 a.cs,.slice a.Q n5 a.cq]
theorem FP(k:Cf.ag)(a:KA)(w:World)(hA:KRd w a k)(hf:kU k):
  Calls Tryz.prog 22 #[.agg (af a k).toArray] w (KCp k w):=by
 obtain⟨i1,hi1,hz1,hs1,hy1⟩:=info_parts DZ
 obtain⟨i2,hi2,hz2,hs2,hy2⟩:=info_parts DR
 obtain⟨i3,hi3,hz3,hs3,hy3⟩:=info_parts Eg
 obtain⟨i4,hi4,hz4,hs4,hy4⟩:=info_parts Ec
 obtain⟨i5,hi5,hz5,hs5,hy5⟩:=info_parts D8
 have Hi1:=hid hi1
 have Hz1:=hid hz1
 have Hs1:=hid hs1
 have Hy1:=hid hy1
 have Hi2:=hid hi2
 have Hz2:=hid hz2
 have Hs2:=hid hs2
 have Hy2:=hid hy2
 have Hi3:=hid hi3
 have Hz3:=hid hz3
 have Hs3:=hid hs3
 have Hy3:=hid hy3
 have Hi4:=hid hi4
 have Hz4:=hid hz4
 have Hs4:=hid hs4
 have Hy4:=hid hy4
 have Hi5:=hid hi5
 have Hz5:=hid hz5
 have Hs5:=hid hs5
 have Hy5:=hid hy5
 clear hi1 hz1 hs1 hy1 hi2 hz2 hs2 hy2 hi3 hz3 hs3 hy3 hi4 hz4 hs4 hy4 hi5 hz5 hs5 hy5
 have HF:=hid hf
 obtain⟨A,ca,M,cm,N,cn,S,cs,Q,cq⟩:=a
 obtain⟨mods,mem,nodes,pipes,procs⟩:=k
 obtain⟨⟨xs,hxs,hxm⟩,hmem,hnodes,hpipes,⟨ps,hps,hpp⟩,_⟩:=hA
 simp only at hxs hxm hmem hnodes hpipes hps hpp
 have f0:mods.length≤big:=hf.mods
 have f1:mem.length≤big:=hf.mem
 have f2:nodes.length≤big:=hf.nodes
 have f3:pipes.length≤big:=hf.pipes
 have f4:ps.length≤big:=by rw[hpp.1];exact hf.procs
 have g0:mods.length*64≤140737488355328:=hf.wt.1.1
 have g1:mem.length*8≤140737488355328:=hf.wt.1.2.1
 have g2:nodes.length*48≤140737488355328:=hf.wt.1.2.2.1
 have g3:pipes.length*16≤140737488355328:=hf.wt.1.2.2.2.1
 have g4:ps.length*32≤140737488355328:=by rw[hpp.1];exact hf.wt.1.2.2.2.2
 clear hf
 have hk0:af ⟨A,ca,M,cm,N,cn,S,cs,Q,cq⟩ ⟨mods,mem,nodes,pipes,procs⟩=[.slice A mods.length ca,.slice M mem.length cm,.slice N nodes.length cn,.slice S pipes.length cs,.slice Q ps.length cq]:=by
  unfold af
  rw[hpp.1]
 rw[hk0]
 clear hk0
 have hx0:=(Wb.new w ae [.slice A mods.length ca,.slice M mem.length cm,.slice N nodes.length cn,.slice S pipes.length cs,.slice Q ps.length cq]).alloc (.cells #[.slice none 0 0,.slice none 0 0,.slice none 0 0,.slice none 0 0,.slice none 0 0] ae)
 have hx1:Wb ((w.alloc (.cells #[.slice A mods.length ca,.slice M mem.length cm,.slice N nodes.length cn,.slice S pipes.length cs,.slice Q ps.length cq] ae)).alloc (.cells #[.slice none 0 0,.slice none 0 0,.slice none 0 0,.slice none 0 0,.slice none 0 0] ae)) (w.heap.size+1) ae kz:=by
  have:=Wb.new (w.alloc (.cells #[.slice A mods.length ca,.slice M mem.length cm,.slice N nodes.length cn,.slice S pipes.length cs,.slice Q ps.length cq] ae)) ae kz
  simpa [kz] using this
 have hb0:Below w.heap.size w ((w.alloc (.cells #[.slice A mods.length ca,.slice M mem.length cm,.slice N nodes.length cn,.slice S pipes.length cs,.slice Q ps.length cq] ae)).alloc (.cells #[.slice none 0 0,.slice none 0 0,.slice none 0 0,.slice none 0 0,.slice none 0 0] ae)):=((Below.refl _ _).alloc (Nat.le_refl _) _).alloc (by simp) _
 have HX:=hid hx0
 have HX1:=hid hx1
 have HB0:=hid hb0
 have HXS:=hid (hxs.below hb0)
 have HXM:=hid (hxm.mono fun _ _ h=>h.below hb0)
 have HR1:=hid (RdS.below hmem hb0)
 have HR2:=hid (RdS.below hnodes hb0)
 have HR3:=hid (RdS.below hpipes hb0)
 have HR4:=hid (RdS.below hps hb0)
 have HPM:=hid (hpp.mono fun _ _ h=>h.below hb0)
 clear hxs hxm hmem hnodes hpipes hps hpp hb0 hx0 hx1
 go_enter Tryz.func22,Tryz.ntmps22
 go_upto_region 1 with fail
 generalize (w.alloc (.cells #[.slice A mods.length ca,.slice M mem.length cm,.slice N nodes.length cn,.slice S pipes.length cs,.slice Q ps.length cq] ae)).alloc (.cells #[.slice none 0 0,.slice none 0 0,.slice none 0 0,.slice none 0 0,.slice none 0 0] ae)=wb at *
 go_cut [3] from 12 to 28 (fun x wx=>CpF wb ps mem nodes pipes x wx)
 case first=>
  refine CV (ds:=[3,12,13,14,15,16,17,18,19,20,21,22,23,24,25,26,27,28]) Lm (fun W=>Below wb.heap.size wb W) (CpR wb.heap.size w.heap.size M N S Q cm cn cs cq mem nodes pipes ps) (by kernel_rfl) (by kernel_rfl) (by kernel_rfl) (Below.refl _ _).drew ?_ ?_
  ·intro i hi
   match i,hi with
   | 0,_=>
     intro o u w1 ho hJ aT K hK
     obtain rfl:=Option.some.inj ho
     exact dD (E5 _ _ _ rfl) (hK _ _ (fun h=>by cases h) (fun _=>⟨_,rfl⟩) (hJ.alloc hJ.size _) (fun j v _ h=>h.keep ((Below.refl _ _).alloc (Nat.le_refl _) _)))
   | 1,_=>
     intro o u w1 ho hJ aT K hK
     obtain rfl:=Option.some.inj ho
     exact dD (Dc _ _ _ w.heap.size _ rfl (lC rfl rfl) (by rw[show w1.heap[w.heap.size]?=_ from HX.out.below hJ HX.out.lt];rfl)) (hK _ _ (fun h=>by cases h) (fun _=>rfl) hJ (fun j v _ h=>h))
   | 2,_=>
     intro o u w1 ho hJ aT K hK
     obtain rfl:=Option.some.inj ho
     have e1:u 13 = .pointer (some ⟨w.heap.size,1,none⟩):=aT 1 (by decide +kernel)
     exact dD (EZ _ _ _ ⟨w.heap.size,1,none⟩ _ (.slice M mem.length cm) rfl ((bi rfl rfl).trans e1) ((HX.out.below hJ HX.out.lt).cell 1)) (hK _ _ (fun h=>by cases h) (fun _=>rfl) hJ (fun j v _ h=>h))
   | 3,_=>
     intro o u w1 ho hJ aT K hK
     obtain rfl:=Option.some.inj ho
     obtain⟨b,e1⟩:∃b,u 12 = .slice (some b) 0 0:=aT 0 (by decide +kernel)
     have e2:u 14 = .slice M mem.length cm:=aT 2 (by decide +kernel)
     obtain⟨A',c',w',hrun,hN,hbw,hcp⟩:=gW (P:=Tryz.prog) w1 23 23 3 i1 (.int .i64 0) 1 8 Tryz.underlying23 Hi1.out Hz1.out Hs1.out Hy1.out dL b M cm mem (RdS.below HR1.out hJ) (iI f1) g1
     exact dD (um _ _ _ _ _ _ _ _ _ _ rfl ((bi rfl rfl).trans e1) ((bi rfl rfl).trans e2) hrun) (hK _ _ (fun h=>by cases h) (fun _=>⟨A',c',rfl,hN.mono hJ.size,hcp⟩) (hJ.trans (hbw.mono hJ.size)) (fun j v _ h=>h.keep hbw))
   | 4,_=>
     intro o u w1 ho hJ aT K hK
     obtain rfl:=Option.some.inj ho
     exact dD (Fg _ _ _ rfl) (hK _ _ (fun h=>by cases h) (fun _=>⟨_,rfl⟩) (hJ.alloc hJ.size _) (fun j v _ h=>h.keep ((Below.refl _ _).alloc (Nat.le_refl _) _)))
   | 5,_=>
     intro o u w1 ho hJ aT K hK
     obtain rfl:=Option.some.inj ho
     exact dD (CB _ _ _ w.heap.size _ rfl (lC rfl rfl) (by rw[show w1.heap[w.heap.size]?=_ from HX.out.below hJ HX.out.lt];rfl)) (hK _ _ (fun h=>by cases h) (fun _=>rfl) hJ (fun j v _ h=>h))
   | 6,_=>
     intro o u w1 ho hJ aT K hK
     obtain rfl:=Option.some.inj ho
     have e1:u 17 = .pointer (some ⟨w.heap.size,2,none⟩):=aT 5 (by decide +kernel)
     exact dD (Fb _ _ _ ⟨w.heap.size,2,none⟩ _ (.slice N nodes.length cn) rfl ((bi rfl rfl).trans e1) ((HX.out.below hJ HX.out.lt).cell 2)) (hK _ _ (fun h=>by cases h) (fun _=>rfl) hJ (fun j v _ h=>h))
   | 7,_=>
     intro o u w1 ho hJ aT K hK
     obtain rfl:=Option.some.inj ho
     obtain⟨b,e1⟩:∃b,u 16 = .slice (some b) 0 0:=aT 4 (by decide +kernel)
     have e2:u 18 = .slice N nodes.length cn:=aT 6 (by decide +kernel)
     obtain⟨A',c',w',hrun,hN,hbw,hcp⟩:=gW (P:=Tryz.prog) w1 24 24 57 i2 (.agg #[.string ⟨#[]⟩,.int .i64 0,.string ⟨#[]⟩,.int .i64 0]) 4 48 Tryz.underlying24 Hi2.out Hz2.out Hs2.out Hy2.out oK b N cn nodes (RdS.below HR2.out hJ) (iI f2) g2
     exact dD (um _ _ _ _ _ _ _ _ _ _ rfl ((bi rfl rfl).trans e1) ((bi rfl rfl).trans e2) hrun) (hK _ _ (fun h=>by cases h) (fun _=>⟨A',c',rfl,hN.mono hJ.size,hcp⟩) (hJ.trans (hbw.mono hJ.size)) (fun j v _ h=>h.keep hbw))
   | 8,_=>
     intro o u w1 ho hJ aT K hK
     obtain rfl:=Option.some.inj ho
     exact dD (ER _ _ _ rfl) (hK _ _ (fun h=>by cases h) (fun _=>⟨_,rfl⟩) (hJ.alloc hJ.size _) (fun j v _ h=>h.keep ((Below.refl _ _).alloc (Nat.le_refl _) _)))
   | 9,_=>
     intro o u w1 ho hJ aT K hK
     obtain rfl:=Option.some.inj ho
     exact dD (BZ _ _ _ w.heap.size _ rfl (lC rfl rfl) (by rw[show w1.heap[w.heap.size]?=_ from HX.out.below hJ HX.out.lt];rfl)) (hK _ _ (fun h=>by cases h) (fun _=>rfl) hJ (fun j v _ h=>h))
   | 10,_=>
     intro o u w1 ho hJ aT K hK
     obtain rfl:=Option.some.inj ho
     have e1:u 21 = .pointer (some ⟨w.heap.size,3,none⟩):=aT 9 (by decide +kernel)
     exact dD (E8 _ _ _ ⟨w.heap.size,3,none⟩ _ (.slice S pipes.length cs) rfl ((bi rfl rfl).trans e1) ((HX.out.below hJ HX.out.lt).cell 3)) (hK _ _ (fun h=>by cases h) (fun _=>rfl) hJ (fun j v _ h=>h))
   | 11,_=>
     intro o u w1 ho hJ aT K hK
     obtain rfl:=Option.some.inj ho
     obtain⟨b,e1⟩:∃b,u 20 = .slice (some b) 0 0:=aT 8 (by decide +kernel)
     have e2:u 22 = .slice S pipes.length cs:=aT 10 (by decide +kernel)
     obtain⟨A',c',w',hrun,hN,hbw,hcp⟩:=gW (P:=Tryz.prog) w1 25 25 9 i3 (.string ⟨#[]⟩) 1 16 Tryz.underlying25 Hi3.out Hz3.out Hs3.out Hy3.out oI b S cs pipes (RdS.below HR3.out hJ) (iI f3) g3
     exact dD (um _ _ _ _ _ _ _ _ _ _ rfl ((bi rfl rfl).trans e1) ((bi rfl rfl).trans e2) hrun) (hK _ _ (fun h=>by cases h) (fun _=>⟨A',c',rfl,hN.mono hJ.size,hcp⟩) (hJ.trans (hbw.mono hJ.size)) (fun j v _ h=>h.keep hbw))
   | 12,_=>
     intro o u w1 ho hJ aT K hK
     obtain rfl:=Option.some.inj ho
     exact dD (F6 _ _ _ rfl) (hK _ _ (fun h=>by cases h) (fun _=>⟨_,rfl⟩) (hJ.alloc hJ.size _) (fun j v _ h=>h.keep ((Below.refl _ _).alloc (Nat.le_refl _) _)))
   | 13,_=>
     intro o u w1 ho hJ aT K hK
     obtain rfl:=Option.some.inj ho
     exact dD (CJ _ _ _ w.heap.size _ rfl (lC rfl rfl) (by rw[show w1.heap[w.heap.size]?=_ from HX.out.below hJ HX.out.lt];rfl)) (hK _ _ (fun h=>by cases h) (fun _=>rfl) hJ (fun j v _ h=>h))
   | 14,_=>
     intro o u w1 ho hJ aT K hK
     obtain rfl:=Option.some.inj ho
     have e1:u 25 = .pointer (some ⟨w.heap.size,4,none⟩):=aT 13 (by decide +kernel)
     exact dD (Eo _ _ _ ⟨w.heap.size,4,none⟩ _ (.slice Q ps.length cq) rfl ((bi rfl rfl).trans e1) ((HX.out.below hJ HX.out.lt).cell 4)) (hK _ _ (fun h=>by cases h) (fun _=>rfl) hJ (fun j v _ h=>h))
   | 15,_=>
     intro o u w1 ho hJ aT K hK
     obtain rfl:=Option.some.inj ho
     obtain⟨b,e1⟩:∃b,u 24 = .slice (some b) 0 0:=aT 12 (by decide +kernel)
     have e2:u 26 = .slice Q ps.length cq:=aT 14 (by decide +kernel)
     obtain⟨A',c',w',hrun,hN,hbw,hcp⟩:=gW (P:=Tryz.prog) w1 26 26 69 i4 (.agg #[.bool false,.slice none 0 0]) 2 32 Tryz.underlying26 Hi4.out Hz4.out Hs4.out Hy4.out jw b Q cq ps (RdS.below HR4.out hJ) (iI f4) g4
     exact dD (um _ _ _ _ _ _ _ _ _ _ rfl ((bi rfl rfl).trans e1) ((bi rfl rfl).trans e2) hrun) (hK _ _ (fun h=>by cases h) (fun _=>⟨A',c',rfl,hN.mono hJ.size,hcp⟩) (hJ.trans (hbw.mono hJ.size)) (fun j v _ h=>h.keep hbw))
   | 16,_=>
     intro o u w1 ho hJ aT K hK
     obtain rfl:=Option.some.inj ho
     obtain⟨A1,c1,e1,h1,hcp⟩:∃A c,u 15 = .slice A mem.length c∧Nw 1 encZ w1 fD wb.heap.size A mem∧mem.length≤c:=aT 3 (by decide +kernel)
     obtain⟨A2,c2,e2,h2,_⟩:∃A c,u 19 = .slice A nodes.length c∧Nw 4 dA w1 bu wb.heap.size A nodes∧nodes.length≤c:=aT 7 (by decide +kernel)
     obtain⟨A3,c3,e3,h3,_⟩:∃A c,u 23 = .slice A pipes.length c∧Nw 1 iC w1 lX wb.heap.size A pipes∧pipes.length≤c:=aT 11 (by decide +kernel)
     obtain⟨A4,c4,e4,h4,_⟩:∃A c,u 27 = .slice A ps.length c∧Nw 2 bG w1 jL wb.heap.size A ps∧ps.length≤c:=aT 15 (by decide +kernel)
     exact dD (GV _ _ _ _ _ _ _ _ _ _ _ rfl (bi rfl rfl) (bi rfl rfl) (bi rfl rfl) (bi rfl rfl) _ _ _ _ _ _ _ _ _ _ _ _ e1 e2 e3 e4) (hK _ _ (fun h=>by cases h) (fun _=>⟨A1,c1,A2,c2,A3,c3,A4,c4,rfl,h1,h2,h3,h4,hcp⟩) hJ (fun j v _ h=>h))
   | 17,_=>
     intro o u w1 ho hJ aT K hK
     obtain rfl:=Option.some.inj ho
     exact dD (JO _ _ _ rfl) (hK _ _ (fun h=>by cases h) (fun _=>⟨_,rfl,⟨_,rfl,Wb.new w1 ae kz⟩,hJ.size⟩) (hJ.alloc hJ.size _) (fun j v _ h=>h.keep ((Below.refl _ _).alloc (Nat.le_refl _) _)))
   | 18,_=>
     intro o u w1 ho hJ aT K hK
     obtain rfl:=Option.some.inj ho
     obtain⟨g,e1,⟨cs',hcl,hg⟩,hB⟩:∃g,u 3 = .pointer (some ⟨g,0,none⟩)∧(∃cs:List Value,cs.length=5∧Wb w1 g ae cs)∧wb.heap.size≤g:=aT 17 (by decide +kernel)
     obtain⟨A1,c1,A2,c2,A3,c3,A4,c4,e2,h1,h2,h3,h4,hcp⟩:CpR wb.heap.size w.heap.size M N S Q cm cn cs cq mem nodes pipes ps 16 (u 28) w1:=aT 16 (by decide +kernel)
     obtain⟨d0,d1,d2,d3,d4,rfl⟩:=uo hcl
     have p0:=hg.put 0 (.slice none 0 0)
     have p1:=p0.put 1 (.slice A1 mem.length c1)
     have p2:=p1.put 2 (.slice A2 nodes.length c2)
     have p3:=p2.put 3 (.slice A3 pipes.length c3)
     have p4:=p3.put 4 (.slice A4 ps.length c4)
     have hN5:∀ {α:Type} {sz:Nat} {enc:α→List Value} {t:TypeId} {A:Option Addr} {l:List α},Nw sz enc w1 t wb.heap.size A l→t≠ae→Nw sz enc (((((w1.setCell ⟨g,0,none⟩ (.slice none 0 0)).setCell ⟨g,1,none⟩ (.slice A1 mem.length c1)).setCell ⟨g,2,none⟩ (.slice A2 nodes.length c2)).setCell ⟨g,3,none⟩ (.slice A3 pipes.length c3)).setCell ⟨g,4,none⟩ (.slice A4 ps.length c4)) t wb.heap.size A l:=fun h hne=>h.five hg hne _ _ _ _ _
     have hW5:=fun g' cs' (hl:cs'.length=5) (h:Wb w1 g' ae cs')=>h.five hl hg rfl (.slice none 0 0) (.slice A1 mem.length c1) (.slice A2 nodes.length c2) (.slice A3 pipes.length c3) (.slice A4 ps.length c4)
     have hb5:=((((hJ.setCell (p:=⟨g,0,none⟩) hB (.slice none 0 0)).setCell (p:=⟨g,1,none⟩) hB (.slice A1 mem.length c1)).setCell (p:=⟨g,2,none⟩) hB (.slice A2 nodes.length c2)).setCell (p:=⟨g,3,none⟩) hB (.slice A3 pipes.length c3)).setCell (p:=⟨g,4,none⟩) hB (.slice A4 ps.length c4)
     simp only[List.set_cons_zero,List.set_cons_succ]at p4
     refine rE (IJ _ _ _ g _ _ _ _ _ _ _ _ _ _ _ _ _ _ _ _ _ _ rfl rfl rfl rfl d0 d1 d2 d3 d4 rfl ((bi rfl rfl).trans e1) ((bi rfl rfl).trans e2) hg) ?_
     generalize ((((w1.setCell ⟨g,0,none⟩ (.slice none 0 0)).setCell ⟨g,1,none⟩ (.slice A1 mem.length c1)).setCell ⟨g,2,none⟩ (.slice A2 nodes.length c2)).setCell ⟨g,3,none⟩ (.slice A3 pipes.length c3)).setCell ⟨g,4,none⟩ (.slice A4 ps.length c4)=W5 at *
     exact hK undef W5 (fun _=>⟨g,A1,c1,A2,c2,A3,c3,A4,c4,e1,hB,p4,hN5 h1 (by decide),hN5 h2 (by decide),hN5 h3 (by decide),hN5 h4 (by decide),hcp⟩) (fun h=>absurd rfl h) hb5 (fun j v hj h=>CpR.kept h hj hN5 hW5)
   | n+19,hi=>exact absurd hi (by show ¬(n+19<19);omega)
  ·intro u w1 hJ hV
   obtain⟨g,A1,c1,A2,c2,A3,c3,A4,c4,e1,hB,hW,h1,h2,h3,h4,hcp⟩:CpR wb.heap.size w.heap.size M N S Q cm cn cs cq mem nodes pipes ps 18 (u 3) w1:=hV 18 (by decide)
   have hR:CpF wb ps mem nodes pipes (u 3) w1:=⟨g,⟨none,0,A1,c1,A2,c2,A3,c3,A4,c4⟩,e1,⟨hW,⟨by simp,.inl ⟨rfl,rfl⟩⟩,Each.nil,h1,h2,h3,h4,hB,hJ.size,hJ,(fun x hx=>by cases hx),hcp⟩,rfl,rfl⟩
   simp only[bJ,List.contains_cons,List.contains_nil,Nat.reduceAdd,Nat.reduceBEq,Bool.or_false,Bool.or_true,cond_true,cond_false,Nat.zero_add]
   clear e1
   go_wp2_with fail
   go_meet
   exact hR
 case rest=>
  obtain⟨g,a0,rfl,hS0,hA0,hc0⟩:=hcut
  have hx:=HX.out.below hS0.keep HX.out.lt
  have z0:=hx.cell 0
  simp only[List.getElem?_cons_zero]at z0
  have hgl:=hx.lt
  clear hx
  have HS0:=hid hS0
  clear hS0 hA0 hc0
  have Heg:=hid (fun args w=>show(callFunc 57 args).run Tryz.prog w = .ok (.enter 57 args) w by simp[go_sem])
  have LD:=hid (fun args w=>show(callFunc 58 args).run Tryz.prog w = .ok (.enter 58 args) w by simp[go_sem])
  have Oh:=hid (fun args w=>show(callFunc 59 args).run Tryz.prog w = .ok (.enter 59 args) w by simp[go_sem])
  unfold big at f0 f1 f2 f3 f4
  go_wp2
  go_loopw [32] (fun i wr=>∃(n:Nat) (a:KA) (ys:List MV),n≤mods.length∧i = .int .i64 n∧ys.length=n∧CpS wb.heap.size wb g a ys (mods.take n) mem nodes pipes ps wr) (fun i _=>mods.length-(intOf i).toNat)
  case atStart=>exact⟨0,a0,[],by omega,rfl,rfl,HS0.out⟩
  case round=>
   obtain⟨n,⟨Aa,cA,Am,cM,An,cN,As,cS,Aq,cQ⟩,ys,hn,rfl,hlen,hS⟩:=hrel
   clear HS0 z0
   have Hlen:=hid hlen
   have HS:=hid hS
   have yU:=hS.box.lt
   have hsz:=hS.keep.size
   by_cases hlt:n<mods.length
   ·obtain⟨nm,code,data,hm⟩:∃nm code data,mods[n]?=some ⟨nm,code,data⟩:=⟨_,_,_,List.getElem?_eq_getElem hlt⟩
    obtain⟨nm1,A1,l1,c1,B1,d1,e1,hx⟩:∃nm1 A1 l1 c1 B1 d1 e1,xs[n]?=some ⟨nm1,A1,l1,c1,B1,d1,e1⟩:=⟨_,_,_,_,_,_,_,List.getElem?_eq_getElem (by rw[HXM.out.1];exact hlt)⟩
    obtain⟨h1,h2,h3,hC1,hD1⟩:=HXM.out.2 n _ _ hx hm
    obtain⟨hnl,hcl,hdl⟩:=HF.out.each _ (List.mem_of_getElem? hm)
    obtain⟨hcg,hdg⟩:=HF.out.wt.2.1 _ (List.mem_of_getElem? hm)
    simp only at h1 h2 h3 hC1 hD1 hnl hcl hdl hcg hdg
    subst h1 h2 h3
    rcases HXS.out with h|⟨b1,o1,rfl,hb1,hc1⟩
    ·rw[h]at hx;cases hx
    have r0:wr.cell? ⟨b1,o1+n*3,none⟩=_:=(hS.keep.cell hb1).trans (hc1 n _ hx 0 _ rfl)
    have r1:wr.cell? ⟨b1,o1+n*3+1,none⟩=_:=(hS.keep.cell hb1).trans (hc1 n _ hx 1 _ rfl)
    have r2:wr.cell? ⟨b1,o1+n*3+2,none⟩=_:=(hS.keep.cell hb1).trans (hc1 n _ hx 2 _ rfl)
    have q0:=hS.box.cell 0
    simp only[List.getElem?_cons_zero,hlen]at q0
    have HTk:=hid (show mods.take (n+1)=mods.take n++[⟨nm1,code,data⟩] by rw[List.take_add_one,hm];rfl)
    have hbb:Below wr.heap.size wr ((wr.alloc (.cells #[.string ⟨nm1.toArray⟩,.slice A1 code.length c1,.slice B1 data.length e1] 79)).drew):=((Below.refl _ _).alloc (Nat.le_refl _) _).drew
    have HI:=hid (JY nm1 code data A1 B1 c1 e1 ((wr.alloc (.cells #[.string ⟨nm1.toArray⟩,.slice A1 code.length c1,.slice B1 data.length e1] 79)).drew) ((RdS.below hC1 (hS.keep.trans (hbb.mono hsz)))) ((RdS.below hD1 (hS.keep.trans (hbb.mono hsz)))) (by unfold big at hnl;omega) (iI hcl) (iI hdl) hcg hdg)
    have HS2:=hid (hS.below hbb)
    have HMl:=hid (show ∀b o,Am=some ⟨b,o,none⟩→mem≠[]→b<wr.heap.size from fun b o he hne=>by
     rcases hS.mem with h|⟨g',h1,_,h3⟩
     ·exact absurd h hne
     ·rw[he]at h1
      cases h1
      exact h3.lt)
    clear hc1 hx hm hC1 hD1 hbb hnl hcl hdl hcg hdg hlen hS
    go_wp2_with fail
    go_region_law (first
     | (refine aG (by rfl) 57 (.tmp 38) #[79] (by rfl) (.agg #[.string ⟨nm1.toArray⟩,.slice A1 code.length c1,.slice B1 data.length e1]) (by rfl) Heg.out HI.out ?_
        rintro e w1 ⟨A2,B2,c2,d2,rfl,hNc,hNd,aO⟩
        refine⟨_,rfl,?_⟩
        have HS3:=hid (fun o=>(HS2.out.below aO).below ((Below.refl _ w1).alloc (Nat.le_refl _) o))
        have HOw:=hid (show ∀o,OwM wb.heap.size (w1.alloc o) ⟨nm1,A2,code.length,c2,B2,data.length,d2⟩ ⟨nm1,code,data⟩ from fun o=>(show OwM wb.heap.size w1 ⟨nm1,A2,code.length,c2,B2,data.length,d2⟩ ⟨nm1,code,data⟩ from⟨rfl,rfl,rfl,hNc.mono (Nat.le_trans hsz (by simp)),hNd.mono (Nat.le_trans hsz (by simp))⟩).below ((Below.refl _ w1).alloc (Nat.le_refl _) o))
        have HDt:=hid (show data.length=0∨mem=[]∨B2≠Am from by
         rcases hNd with h|⟨b',h1,h2,_⟩
         ·exact .inl (by rw[h];rfl)
         ·by_cases hmm:mem=[]
          ·exact .inr (.inl hmm)
          ·refine .inr (.inr fun he=>?_)
           have:=HMl.out b' 0 (he▸h1) hmm
           simp at h2
           omega)
        have kb:=(HS2.out.below aO).box
        have k1:=kb.cell 0
        have kf1:=kb.open_ 0
        have kl1:=kb.lt
        simp only[List.getElem?_cons_zero,Hlen.out]at k1
        clear kb hNc hNd aO)
     | (refine aU (by rfl) (.tmp 37) (.tmp 40) 22 (by rfl) wb.heap.size 79 i5 (.agg #[.string ⟨#[]⟩,.slice none 0 0,.slice none 0 0]) 3 64 Tryz.underlying22 Hi5.out Hz5.out Hs5.out Hy5.out rfl (by decide) iT zh (.slice Aa n cA) n (ys.flatMap eG) (by rfl) (by have:=(HS3.out (.cells #[.string ⟨nm1.toArray⟩,.slice A2 code.length c2,.slice B2 data.length d2] 79)).row;rw[Hlen.out]at this;exact this) (some ⟨w1.heap.size,0,none⟩) 1 [⟨nm1,A2,code.length,c2,B2,data.length,d2⟩] (by rfl) (yZ w1 79 ⟨nm1,A2,code.length,c2,B2,data.length,d2⟩) (by unfold maxLen;simp;omega) (by simp;omega) (HS3.out _).room ?_
        intro v2 w2 hown hgr hat
        obtain⟨A5,c5,rfl⟩:=aP hown
        have hbx:=(HS3.out _).box.grown hgr (by have:=ax (HS3.out (.cells #[.string ⟨nm1.toArray⟩,.slice A2 code.length c2,.slice B2 data.length d2] 79)).row (HS3.out _).box (by decide);rw[Hlen.out]at this;exact this)
        have k2:=hbx.cell 0
        have kf2:=hbx.open_ 0
        simp only[List.getElem?_cons_zero]at k2
        have HX2:=hid ((HS3.out _).putMod (HOw.out _) HDt.out (by rw[Hlen.out];exact hgr) (A':=A5) (c':=c5) (by rw[Hlen.out];exact hown))
        rw[Hlen.out]at HX2
        clear hbx hown hgr hat)
     | fail)
    all_goals
     go_wp2
     go_roundw
     case rel=>exact⟨n+1,_,ys++[⟨nm1,A2,code.length,c2,B2,data.length,d2⟩],by omega,by go_num,by rw[List.length_append,Hlen.out];rfl,by rw[HTk.out];exact HX2.out⟩
     case measure=>simp[intOf];omega
   ·obtain rfl:n=mods.length:=by omega
    have hS':CpS wb.heap.size wb g ⟨Aa,cA,Am,cM,An,cN,As,cS,Aq,cQ⟩ ys mods mem nodes pipes ps wr:=by
     have:=HS.out
     rwa [List.take_length]at this
    have q2:=hS'.box.cell 2
    simp only[gq]at q2
    have HS0:=hid hS'
    clear HS hS hS' hlt hn hlen
    go_wp2_with fail
    clear q2 yU hsz
    go_loopw [47] (fun i wr=>∃(n:Nat),n≤nodes.length∧i = .int .i64 n∧CpS wb.heap.size wb g ⟨Aa,cA,Am,cM,An,cN,As,cS,Aq,cQ⟩ ys mods mem nodes pipes ps wr) (fun i _=>nodes.length-(intOf i).toNat)
    case atStart=>exact⟨0,by omega,rfl,HS0.out⟩
    case round=>
     obtain⟨n,hn,rfl,hS⟩:=hrel
     clear HS0
     have HS:=hid hS
     have yU:=hS.box.lt
     have hsz:=hS.keep.size
     by_cases hlt:n<nodes.length
     ·obtain⟨nm,kd,da,un,hx⟩:∃nm kd da un,nodes[n]?=some ⟨nm,kd,da,un⟩:=⟨_,_,_,_,List.getElem?_eq_getElem hlt⟩
      obtain⟨gN,hgN,hBN,hNlt,hBk⟩:=hS.nodes.at_ hx
      simp only at hgN
      subst hgN
      obtain⟨hnl,hdl⟩:=HF.out.node _ (List.mem_of_getElem? hx)
      simp only at hnl hdl
      have r0:wr.cell? ⟨gN,n*4,none⟩=_:=hBk.cell hx (j:=0) rfl
      have r1:wr.cell? ⟨gN,n*4+1,none⟩=_:=hBk.cell hx (j:=1) rfl
      have r2:wr.cell? ⟨gN,n*4+2,none⟩=_:=hBk.cell hx (j:=2) rfl
      have r3:wr.cell? ⟨gN,n*4+3,none⟩=_:=hBk.cell hx (j:=3) rfl
      have q2:=hS.box.cell 2
      simp only[gq]at q2
      have HI1:=hid (fun W=>iy nm W (by unfold big at hnl;omega))
      have HI2:=hid (fun W=>iy da W (by unfold big at hdl;omega))
      have HX9:=hid hx
      have hbb:Below wr.heap.size wr ((wr.alloc (.cells #[.string ⟨nm.toArray⟩,.int .i64 kd,.string ⟨da.toArray⟩,.int .i64 un] 57)).drew):=((Below.refl _ _).alloc (Nat.le_refl _) _).drew
      have HB9:=hid hbb
      clear hBk hx hS hnl hdl hbb
      have HX0:=hid (show CpX wb g ⟨Aa,cA,Am,cM,some ⟨gN,0,none⟩,cN,As,cS,Aq,cQ⟩ ys mods mem nodes pipes ps wr.heap.size bu [.string ⟨nm.toArray⟩,.int .i64 kd,.string ⟨da.toArray⟩,.int .i64 un] (wr.alloc (.cells #[.string ⟨nm.toArray⟩,.int .i64 kd,.string ⟨da.toArray⟩,.int .i64 un] 57)) from⟨HS.out.below ((Below.refl _ _).alloc (Nat.le_refl _) _),Wb.new wr bu [.string ⟨nm.toArray⟩,.int .i64 kd,.string ⟨da.toArray⟩,.int .i64 un]⟩)
      go_wp2_with fail
      go_cut [] from 52 to 59 (fun wx=>CpX wb g ⟨Aa,cA,Am,cM,some ⟨gN,0,none⟩,cN,As,cS,Aq,cQ⟩ ys mods mem nodes pipes ps wr.heap.size bu [.string ⟨nm.toArray⟩,.int .i64 kd,.string ⟨da.toArray⟩,.int .i64 un] wx)
      case first=>
       go_region_law (first
        | (refine aG (by rfl) 58 (.tmp 56) #[9] (by rfl) (.string ⟨nm.toArray⟩) (by rfl) LD.out (HI1.out _) ?_
           rintro e w1 ⟨rfl,hb1⟩
           refine⟨_,rfl,?_⟩
           have HS3:=hid (HX0.out.1.below (jP hb1))
           have HW3:=hid (HX0.out.2.below (jP hb1) HX0.out.2.lt)
           have k2:=HS3.out.box.cell 2
           have kg:=HS3.out.box.lt
           simp only[gq]at k2
           obtain⟨gN',hgN',_,hNlt1,hBk1⟩:=HS3.out.nodes.at_ HX9.out
           cases hgN'
           have s0:w1.cell? ⟨gN,n*4,none⟩=_:=hBk1.cell HX9.out (j:=0) rfl
           have sf:=hBk1.open_
           clear hBk1 hb1)
        | fail)
       all_goals
        have HFin:=hid (show CpX wb g ⟨Aa,cA,Am,cM,some ⟨gN,0,none⟩,cN,As,cS,Aq,cQ⟩ ys mods mem nodes pipes ps wr.heap.size bu [.string ⟨nm.toArray⟩,.int .i64 kd,.string ⟨da.toArray⟩,.int .i64 un] (w1.setCell ⟨gN,n*4,none⟩ (.string ⟨nm.toArray⟩)) from⟨HS3.out.setNode rfl (j:=0) HX9.out (by omega) rfl,HW3.out.off_ (p:=⟨gN,n*4,none⟩) (Nat.ne_of_gt hNlt) _⟩)
        go_wp2_with fail
        go_meet
        exact HFin.out
      case rest=>
      have Lj:=hid hcut
      have Ot:=hcut.1.box.lt
      have hsz3:=hcut.1.keep.size
      have hwl:=hcut.2.lt
      have p2:=hcut.2.cell 2
      have q3:=hcut.1.box.cell 2
      simp only[gq]at p2 q3
      obtain⟨gN',hgN',_,hNlt3,hBk3⟩:=hcut.1.nodes.at_ HX9.out
      cases hgN'
      clear hcut q2 r0 r1 r2 r3 HX0 hBk3
      go_wp2_with fail
      go_region_law (first
       | (refine aG (by rfl) 58 (.tmp 64) #[9] (by rfl) (.string ⟨da.toArray⟩) (by rfl) LD.out (HI2.out _) ?_
          rintro e w1 ⟨rfl,hb1⟩
          refine⟨_,rfl,?_⟩
          have HS3:=hid (Lj.out.1.below (jP hb1))
          have HW3:=hid (Lj.out.2.below (jP hb1) Lj.out.2.lt)
          have k2:=HS3.out.box.cell 2
          have kg:=HS3.out.box.lt
          simp only[gq]at k2
          obtain⟨gN',hgN',_,hNlt1,hBk1⟩:=HS3.out.nodes.at_ HX9.out
          cases hgN'
          have s0:w1.cell? ⟨gN,n*4+2,none⟩=_:=hBk1.cell HX9.out (j:=2) rfl
          have sf:=hBk1.open_
          clear hBk1 hb1)
       | fail)
      all_goals
       have HFin:=hid (show CpX wb g ⟨Aa,cA,Am,cM,some ⟨gN,0,none⟩,cN,As,cS,Aq,cQ⟩ ys mods mem nodes pipes ps wr.heap.size bu [.string ⟨nm.toArray⟩,.int .i64 kd,.string ⟨da.toArray⟩,.int .i64 un] (w1.setCell ⟨gN,n*4+2,none⟩ (.string ⟨da.toArray⟩)) from⟨HS3.out.setNode rfl (j:=2) HX9.out (by omega) rfl,HW3.out.off_ (p:=⟨gN,n*4+2,none⟩) (Nat.ne_of_gt hNlt) _⟩)
       have NT:=hid HFin.out.1
       go_wp2
       go_roundw
       case rel=>exact⟨n+1,by omega,by go_num,NT.out⟩
       case measure=>simp[intOf];omega
     ·obtain rfl:n=nodes.length:=by omega
      have q2:=hS.box.cell 3
      simp only[gq]at q2
      have HS0:=hid hS
      clear HS hS hlt hn
      go_wp2_with fail
      clear q2 yU hsz
      go_loopw [72] (fun i wr=>∃(n:Nat),n≤pipes.length∧i = .int .i64 n∧CpS wb.heap.size wb g ⟨Aa,cA,Am,cM,An,cN,As,cS,Aq,cQ⟩ ys mods mem nodes pipes ps wr) (fun i _=>pipes.length-(intOf i).toNat)
      case atStart=>exact⟨0,by omega,rfl,HS0.out⟩
      case round=>
       obtain⟨n,hn,rfl,hS⟩:=hrel
       clear HS0
       have HS:=hid hS
       have yU:=hS.box.lt
       have hsz:=hS.keep.size
       by_cases hlt:n<pipes.length
       ·obtain⟨str,hx⟩:∃str,pipes[n]?=some str:=⟨_,List.getElem?_eq_getElem hlt⟩
        obtain⟨gN,hgN,hBN,hNlt,hBk⟩:=hS.pipes.at_ hx
        simp only at hgN
        subst hgN
        have hnl:=HF.out.pipe _ (List.mem_of_getElem? hx)
        have r0:wr.cell? ⟨gN,n,none⟩=some (.string ⟨str.toArray⟩):=by have:=hBk.cell hx (j:=0) rfl;simpa using this
        have q2:=hS.box.cell 3
        simp only[gq]at q2
        have HI1:=hid (fun W=>iy str W (by unfold big at hnl;omega))
        have HX9:=hid hx
        clear hBk hx hS hnl
        go_wp2_with fail
        go_region_law (first
         | (refine aG (by rfl) 58 (.tmp 80) #[9] (by rfl) (.string ⟨str.toArray⟩) (by rfl) LD.out (HI1.out _) ?_
            rintro e w1 ⟨rfl,hb1⟩
            refine⟨_,rfl,?_⟩
            have HS3:=hid (HS.out.below (jP hb1))
            have k2:=HS3.out.box.cell 3
            have kg:=HS3.out.box.lt
            simp only[gq]at k2
            obtain⟨gN',hgN',_,hNlt1,hBk1⟩:=HS3.out.pipes.at_ HX9.out
            cases hgN'
            have s0:w1.cell? ⟨gN,n,none⟩=some (.string ⟨str.toArray⟩):=by have:=hBk1.cell HX9.out (j:=0) rfl;simpa using this
            have sf:=hBk1.open_
            clear hBk1 hb1)
         | fail)
        all_goals
         have HFin:=hid (show CpS wb.heap.size wb g ⟨Aa,cA,Am,cM,An,cN,some ⟨gN,0,none⟩,cS,Aq,cQ⟩ ys mods mem nodes pipes ps (w1.setCell ⟨gN,n,none⟩ (.string ⟨str.toArray⟩)) from HS3.out.setPipe rfl HX9.out)
         go_wp2
         go_roundw
         case rel=>exact⟨n+1,by omega,by go_num,HFin.out⟩
         case measure=>simp[intOf];omega
       ·obtain rfl:n=pipes.length:=by omega
        have q2:=hS.box.cell 4
        simp only[gq]at q2
        have HQ0:=hid (show CpQ wb.heap.size wb g ⟨Aa,cA,Am,cM,An,cN,As,cS,Aq,cQ⟩ ys ⟨mods,mem,nodes,pipes,procs⟩ 0 ps wr from⟨hS,HPM.out.1,fun i x p hx hp hi=>by omega,fun i x p hx hp _=>HPM.out.2 i x p hx hp,fun i j x y hx hy hi=>by omega⟩)
        have Hpl:=hid HPM.out.1
        clear HS hS hlt hn
        go_wp2_with fail
        clear q2 yU hsz
        go_loopw [87] (fun i wr=>∃(n:Nat) (qs:List PV),n≤ps.length∧i = .int .i64 n∧CpQ wb.heap.size wb g ⟨Aa,cA,Am,cM,An,cN,As,cS,Aq,cQ⟩ ys ⟨mods,mem,nodes,pipes,procs⟩ n qs wr) (fun i _=>ps.length-(intOf i).toNat)
        case atStart=>exact⟨0,ps,by omega,rfl,HQ0.out⟩
        case round=>
         obtain⟨n,qs,hn,rfl,hQ⟩:=hrel
         clear HQ0
         have HQ:=hid hQ
         have yU:=hQ.st.box.lt
         have hsz:=hQ.st.keep.size
         have Hql:=hid (show qs.length=ps.length from hQ.len.trans Hpl.out.symm)
         by_cases hlt:n<ps.length
         ·obtain⟨lv,A1,le,c1,hx⟩:∃lv A1 le c1,qs[n]?=some ⟨lv,A1,le,c1⟩:=⟨_,_,_,_,List.getElem?_eq_getElem (by rw[Hql.out];exact hlt)⟩
          obtain⟨lv',es,hp⟩:∃lv' es,procs[n]?=some ⟨lv',es⟩:=⟨_,_,List.getElem?_eq_getElem (by rw[← Hpl.out];exact hlt)⟩
          obtain⟨h1,h2,h3⟩:=hQ.todo n _ _ hx hp (Nat.le_refl _)
          simp only at h1 h2 h3
          subst h1 h2
          obtain⟨gN,hgN,hBN,hNlt,hBk⟩:=hQ.st.procs.at_ hx
          simp only at hgN
          subst hgN
          have hel:=HF.out.proc _ (List.mem_of_getElem? hp)
          have heg:=HF.out.wt.2.2 _ (List.mem_of_getElem? hp)
          simp only at hel heg
          have r0:wr.cell? ⟨gN,n*2,none⟩=_:=hBk.cell hx (j:=0) rfl
          have r1:wr.cell? ⟨gN,n*2+1,none⟩=_:=hBk.cell hx (j:=1) rfl
          have q2:=hQ.st.box.cell 4
          simp only[gq,Hql.out]at q2
          have hbb:Below wr.heap.size wr ((wr.alloc (.cells #[.bool lv,.slice A1 es.length c1] 69)).drew):=((Below.refl _ _).alloc (Nat.le_refl _) _).drew
          have HI1:=hid (ru es A1 c1 ((wr.alloc (.cells #[.bool lv,.slice A1 es.length c1] 69)).drew) (RdS.below h3 (hQ.st.keep.trans (hbb.mono hsz))) hel heg)
          have HX9:=hid hx
          have HP9:=hid hp
          have HB9:=hid hbb
          clear hBk hx hp hQ hel heg h3 hbb
          go_wp2_with fail
          go_region_law (first
           | (refine aG (by rfl) 59 (.tmp 96) #[67] (by rfl) (.slice A1 es.length c1) (by rfl) Oh.out HI1.out ?_
              rintro e w1 ⟨A2,c2,rfl,hN2,hb1,hcp2⟩
              refine⟨_,rfl,?_⟩
              have hb2:Below wr.heap.size wr w1:=HB9.out.trans (hb1.mono HB9.out.size)
              have HN2:=hid (hN2.mono HB9.out.size)
              have HB2:=hid hb2
              have hS3:=HQ.out.st.below hb2
              have k2:=hS3.box.cell 4
              have kg:=hS3.box.lt
              simp only[gq,Hql.out]at k2
              obtain⟨gN',hgN',_,hNlt1,hBk1⟩:=hS3.procs.at_ HX9.out
              cases hgN'
              have s0:w1.cell? ⟨gN,n*2+1,none⟩=_:=hBk1.cell HX9.out (j:=1) rfl
              have sf:=hBk1.open_
              clear hBk1 hb1 hb2 hN2 hS3)
           | fail)
          all_goals
           have HFin:=hid (HQ.out.next HB2.out rfl HX9.out HP9.out (c':=c2) HN2.out hcp2)
           go_wp2
           go_roundw
           case rel=>exact⟨n+1,_,by omega,by go_num,HFin.out⟩
           case measure=>simp[intOf];omega
         ·obtain rfl:n=ps.length:=by omega
          have hx:=HX1.out.below hQ.st.keep HX1.out.lt
          have HOw:=hid (show nU wb.heap.size ⟨Aa,cA,Am,cM,An,cN,As,cS,Aq,cQ⟩ ys qs ⟨mods,mem,nodes,pipes,procs⟩ wr from(show CpQ _ _ _ _ _ _ procs.length _ _ by rw[← Hpl.out];exact hQ).own)
          have b0:=hQ.st.box.cell 0
          have b1:=hQ.st.box.cell 1
          have b2:=hQ.st.box.cell 2
          have b3:=hQ.st.box.cell 3
          have b4:=hQ.st.box.cell 4
          have z0:=hx.cell 0
          have z1:=hx.cell 1
          have z2:=hx.cell 2
          have z3:=hx.cell 3
          have z4:=hx.cell 4
          simp only[kz,gq]at b0 b1 b2 b3 b4 z0 z1 z2 z3 z4
          have zf:=hx.open_
          have zl:=hx.lt
          have Hkp:=hid hQ.st.keep
          have HyL:=hid (show ys.length=mods.length from HOw.out.each.1)
          have HqL:=hid (show qs.length=procs.length from HOw.out.ends.1)
          have hne:g≠w.heap.size+1:=by
           have:=hQ.st.lo
           have:=HX1.out.lt
           omega
          have HlB:=hid HX1.out.lt
          clear hQ HQ hx
          go_wp2
          refine bodyPost_ret (v:=.agg #[.slice Aa ys.length cA,.slice Am mem.length cM,.slice An nodes.length cN,.slice As pipes.length cS,.slice Aq qs.length cQ]) (by simp[results,Tryz.results22,go_sem,z0,z1,z2,z3,z4]) rfl ?_
          refine⟨⟨Aa,cA,Am,cM,An,cN,As,cS,Aq,cQ⟩,ys,qs,by unfold af;rw[HyL.out,HqL.out],((((((HOw.out.old (p:=⟨w.heap.size+1,0,none⟩) HlB.out _).old (p:=⟨w.heap.size+1,1,none⟩) HlB.out _).old (p:=⟨w.heap.size+1,2,none⟩) HlB.out _).old (p:=⟨w.heap.size+1,3,none⟩) HlB.out _).old (p:=⟨w.heap.size+1,4,none⟩) HlB.out _).mono HB0.out.size),?_⟩
          exact(((((HB0.out.trans (Hkp.out.mono HB0.out.size)).setCell (p:=⟨w.heap.size+1,0,none⟩) (Nat.le_succ _) _).setCell (p:=⟨w.heap.size+1,1,none⟩) (Nat.le_succ _) _).setCell (p:=⟨w.heap.size+1,2,none⟩) (Nat.le_succ _) _).setCell (p:=⟨w.heap.size+1,3,none⟩) (Nat.le_succ _) _).setCell (p:=⟨w.heap.size+1,4,none⟩) (Nat.le_succ _) _
end
end Go.Proofs.YtnnhhbjbdmgpiaaGreatDoor
