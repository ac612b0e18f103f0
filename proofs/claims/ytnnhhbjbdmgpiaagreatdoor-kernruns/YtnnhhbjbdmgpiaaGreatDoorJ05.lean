/- Texts of the proofs: SameK. -/
import Derived.Test.YtnnhhbjbdmgpiaaGreatDoorJ02
set_option linter.unusedSimpArgs false
set_option linter.unusedVariables false
namespace Go.Proofs.YtnnhhbjbdmgpiaaGreatDoor
set_option maxRecDepth 100000
set_option maxHeartbeats 4000000
open Lib (hid)
section
open Go.RowKit
theorem iI{n:Nat}(h:n≤big):n≤maxLen:=Nat.le_trans h (by unfold big maxLen;omega)
def SKs(w:World)(g:Nat)(l1 l2:List Value)(wr:World):Prop:=Wb wr g ae l1∧Wb wr (g+1) ae l2∧Below w.heap.size w wr
theorem SKs.next{w:World}{g:Nat}{l1 l2:List Value}{wr w':World}(h:SKs w g l1 l2 wr)(hb:Below wr.heap.size wr w'):SKs w g l1 l2 w':=
 ⟨h.1.below hb h.1.lt,h.2.1.below hb h.2.1.lt,h.2.2.trans (hb.mono h.2.2.size)⟩
theorem jP{w w':World}(h:Below w.drew.heap.size w.drew w'):Below w.heap.size w w':=(Below.refl _ _).drew.trans h
theorem kN(k:Cf.ag)(a b:KA)(w:World)(hA:KRd w a k)(hB:KRd w b k)(hf:kU k):
  Calls Tryz.prog 14 #[.agg (af a k).toArray,.agg (af b k).toArray] w fun e w'=>e = .returned (.bool true)∧Below w.heap.size w w':=by
 have HF:=hid hf
 obtain⟨A,ca,M,cm,N,cn,S,cs,Q,cq⟩:=a
 obtain⟨A',ca',M',cm',N',cn',S',cs',Q',cq'⟩:=b
 obtain⟨mods,mem,nodes,pipes,procs⟩:=k
 obtain⟨⟨xs,hxs,hxm⟩,hmem,hnodes,hpipes,⟨ps,hps,hpp⟩,_⟩:=hA
 obtain⟨⟨ys,hys,hym⟩,hmem',hnodes',hpipes',⟨qs,hqs,hqq⟩,_⟩:=hB
 obtain⟨f1,f2,f3,f4,f5,f6,f7,f8,f9,_⟩:=hf
 simp only at hxs hxm hmem hnodes hpipes hps hpp hys hym hmem' hnodes' hpipes' hqs hqq f1 f2 f3 f4 f5 f6 f7 f8 f9
 clear f2 f5 f7 f9
 have hb0:=fun(o1 o2:Obj)=>((Below.refl w.heap.size w).alloc (Nat.le_refl _) o1).alloc (by simp) o2
 have HMm:=hid (fun o1 o2=>o5 mem M M' cm cm' ((w.alloc o1).alloc o2) (RdS.below hmem (hb0 o1 o2)) (RdS.below hmem' (hb0 o1 o2)) (iI f3))
 have K0:=hid (show SKs w w.heap.size (af ⟨A,ca,M,cm,N,cn,S,cs,Q,cq⟩ ⟨mods,mem,nodes,pipes,procs⟩) (af ⟨A',ca',M',cm',N',cn',S',cs',Q',cq'⟩ ⟨mods,mem,nodes,pipes,procs⟩) ((w.alloc (.cells (af ⟨A,ca,M,cm,N,cn,S,cs,Q,cq⟩ ⟨mods,mem,nodes,pipes,procs⟩).toArray ae)).alloc (.cells (af ⟨A',ca',M',cm',N',cn',S',cs',Q',cq'⟩ ⟨mods,mem,nodes,pipes,procs⟩).toArray ae)) from
  ⟨(Wb.new w ae _).alloc _,by have:=Wb.new (w.alloc (.cells (af ⟨A,ca,M,cm,N,cn,S,cs,Q,cq⟩ ⟨mods,mem,nodes,pipes,procs⟩).toArray ae)) ae (af ⟨A',ca',M',cm',N',cn',S',cs',Q',cq'⟩ ⟨mods,mem,nodes,pipes,procs⟩);simpa using this,hb0 _ _⟩)
 have HXS:=hid hxs
 have HXM:=hid hxm
 have HYS:=hid hys
 have HYM:=hid hym
 have HN:=hid hnodes
 have HN2:=hid hnodes'
 have HT:=hid hpipes
 have HT2:=hid hpipes'
 have HPS:=hid hps
 have HPM:=hid hpp
 have HQS:=hid hqs
 have HQM:=hid hqq
 clear hxs hxm hys hym hnodes hnodes' hpipes hpipes' hps hpp hqs hqq hmem hmem' hb0 f3
 unfold big at f1 f4 f6 f8
 obtain⟨K1,K1e⟩:∃K1,K1=af ⟨A,ca,M,cm,N,cn,S,cs,Q,cq⟩ ⟨mods,mem,nodes,pipes,procs⟩:=⟨_,rfl⟩
 obtain⟨K2,K2e⟩:∃K2,K2=af ⟨A',ca',M',cm',N',cn',S',cs',Q',cq'⟩ ⟨mods,mem,nodes,pipes,procs⟩:=⟨_,rfl⟩
 have K1d:=hid K1e
 have K2d:=hid K2e
 clear K1e K2e
 simp only[af]
 go_enter Tryz.func14,Tryz.ntmps14
 go_wp2_with fail
 refine(HMm.out _ _).mono ?_
 rintro e w1 ⟨rfl,hb1⟩
 have HS:=hid (show SKs w w.heap.size K1 K2 w1 by rw[K1d.out,K2d.out];exact K0.out.next hb1)
 clear HMm K0 hb1
 obtain⟨hW1,hW2,hbw⟩:=HS.out
 have hz:=hbw.size
 have p0:=hW1.cell 0
 have q0:=hW2.cell 0
 have p1:=hW1.cell 1
 have q1:=hW2.cell 1
 have p2:=hW1.cell 2
 have q2:=hW2.cell 2
 have p3:=hW1.cell 3
 have q3:=hW2.cell 3
 have p4:=hW1.cell 4
 have q4:=hW2.cell 4
 simp only[K1d.out,K2d.out,af,gq]at p0 q0 p1 q1 p2 q2 p3 q3 p4 q4
 clear hW1 hW2
 go_wp2_with fail
 clear p0 p1 p2 p3 p4 q0 q1 q2 q3 q4
 go_loopw [5] (fun i wr=>∃n:Nat,n≤mods.length∧i = .int .i64 n∧SKs w (w.heap.size) K1 K2 wr) (fun i _=>mods.length-(intOf i).toNat)
 case atStart=>exact⟨0,by omega,rfl,HS.out⟩
 case round=>
  obtain⟨n,hn,rfl,hS⟩:=hrel
  clear HS
  have HS:=hid hS
  obtain⟨hW1,hW2,hbw⟩:=hS
  have hz:=hbw.size
  have p0:=hW1.cell 0
  have q0:=hW2.cell 0
  have p1:=hW1.cell 1
  have q1:=hW2.cell 1
  have p2:=hW1.cell 2
  have q2:=hW2.cell 2
  have p3:=hW1.cell 3
  have q3:=hW2.cell 3
  have p4:=hW1.cell 4
  have q4:=hW2.cell 4
  simp only[K1d.out,K2d.out,af,gq]at p0 q0 p1 q1 p2 q2 p3 q3 p4 q4
  clear hW1 hW2
  by_cases hlt:n<mods.length
  ·obtain⟨nm,code,data,hm⟩:∃nm code data,mods[n]?=some ⟨nm,code,data⟩:=⟨_,_,_,List.getElem?_eq_getElem hlt⟩
   obtain⟨nm1,A1,l1,c1,B1,d1,e1,hx⟩:∃nm1 A1 l1 c1 B1 d1 e1,xs[n]?=some ⟨nm1,A1,l1,c1,B1,d1,e1⟩:=⟨_,_,_,_,_,_,_,List.getElem?_eq_getElem (by rw[HXM.out.1];exact hlt)⟩
   obtain⟨nm2,A2,l2,c2,B2,d2,e2,hy⟩:∃nm2 A2 l2 c2 B2 d2 e2,ys[n]?=some ⟨nm2,A2,l2,c2,B2,d2,e2⟩:=⟨_,_,_,_,_,_,_,List.getElem?_eq_getElem (by rw[HYM.out.1];exact hlt)⟩
   obtain⟨h1,h2,h3,hC1,hD1⟩:=HXM.out.2 n _ _ hx hm
   obtain⟨h1',h2',h3',hC2,hD2⟩:=HYM.out.2 n _ _ hy hm
   obtain⟨_,hcl,hdl⟩:=HF.out.each _ (List.mem_of_getElem? hm)
   simp only at h1 h2 h3 h1' h2' h3' hC1 hD1 hC2 hD2 hcl hdl
   subst h1 h2 h3 h1' h2' h3'
   rcases HXS.out with h|⟨b1,o1,rfl,hb1,hc1⟩
   ·rw[h]at hx;cases hx
   rcases HYS.out with h|⟨b2,o2,rfl,hb2,hc2⟩
   ·rw[h]at hy;cases hy
   have r0:wr.cell? ⟨b1,o1+n*3,none⟩=_:=(hbw.cell hb1).trans (hc1 n _ hx 0 _ rfl)
   have r1:wr.cell? ⟨b1,o1+n*3+1,none⟩=_:=(hbw.cell hb1).trans (hc1 n _ hx 1 _ rfl)
   have r2:wr.cell? ⟨b1,o1+n*3+2,none⟩=_:=(hbw.cell hb1).trans (hc1 n _ hx 2 _ rfl)
   have s0:wr.cell? ⟨b2,o2+n*3,none⟩=_:=(hbw.cell hb2).trans (hc2 n _ hy 0 _ rfl)
   have s1:wr.cell? ⟨b2,o2+n*3+1,none⟩=_:=(hbw.cell hb2).trans (hc2 n _ hy 1 _ rfl)
   have s2:wr.cell? ⟨b2,o2+n*3+2,none⟩=_:=(hbw.cell hb2).trans (hc2 n _ hy 2 _ rfl)
   clear hc1 hc2 hx hy hm
   have hbd:=hbw.drew
   have HI:=hid (tV nm2 code data A1 B1 A2 B2 c1 e1 c2 e2 wr.drew (RdS.below hC1 hbd) (RdS.below hD1 hbd) (RdS.below hC2 hbd) (RdS.below hD2 hbd) (iI hcl) (iI hdl))
   clear hC1 hD1 hC2 hD2 hcl hdl hbd
   have Heg:=hid (fun args w=>show(callFunc 46 args).run Tryz.prog w = .ok (.enter 46 args) w by simp[go_sem])
   go_wp2_with fail
   go_region_law (first
    | (refine jh (by rfl) 46 (.tmp 63) (.tmp 68) #[79,79] (by rfl) (.agg #[.string ⟨nm2.toArray⟩,.slice A1 code.length c1,.slice B1 data.length e1]) (.agg #[.string ⟨nm2.toArray⟩,.slice A2 code.length c2,.slice B2 data.length e2]) (by rfl) (by rfl) Heg.out HI.out ?_
       rintro e w5 ⟨rfl,hb5⟩
       refine⟨_,rfl,?_⟩
       have HS5:=hid (HS.out.next (jP hb5))
       clear hb5)
    | fail)
   all_goals
    go_wp2
    go_roundw
    case rel=>exact⟨n+1,by omega,by go_num,HS5.out⟩
    case measure=>simp[intOf];omega
  ·go_wp2_with fail
   clear hlt hn p0 p1 p2 p3 p4 q0 q1 q2 q3 q4
   go_loopw [6] (fun i wr=>∃n:Nat,n≤nodes.length∧i = .int .i64 n∧SKs w (w.heap.size) K1 K2 wr) (fun i _=>nodes.length-(intOf i).toNat)
   case atStart=>exact⟨0,by omega,rfl,HS.out⟩
   case round=>
    obtain⟨n,hn,rfl,hS⟩:=hrel
    clear HS
    have HS:=hid hS
    obtain⟨hW1,hW2,hbw⟩:=hS
    have hz:=hbw.size
    have p0:=hW1.cell 0
    have q0:=hW2.cell 0
    have p1:=hW1.cell 1
    have q1:=hW2.cell 1
    have p2:=hW1.cell 2
    have q2:=hW2.cell 2
    have p3:=hW1.cell 3
    have q3:=hW2.cell 3
    have p4:=hW1.cell 4
    have q4:=hW2.cell 4
    simp only[K1d.out,K2d.out,af,gq]at p0 q0 p1 q1 p2 q2 p3 q3 p4 q4
    clear hW1 hW2
    by_cases hlt:n<nodes.length
    ·obtain⟨nm,kd,dt,un,hx⟩:∃nm kd dt un,nodes[n]?=some ⟨nm,kd,dt,un⟩:=⟨_,_,_,_,List.getElem?_eq_getElem hlt⟩
     rcases HN.out with h|⟨b1,o1,rfl,hb1,hc1⟩
     ·rw[h]at hx;cases hx
     rcases HN2.out with h|⟨b2,o2,rfl,hb2,hc2⟩
     ·rw[h]at hx;cases hx
     have r0:wr.cell? ⟨b1,o1+n*4,none⟩=_:=(hbw.cell hb1).trans (hc1 n _ hx 0 _ rfl)
     have s0:wr.cell? ⟨b2,o2+n*4,none⟩=_:=(hbw.cell hb2).trans (hc2 n _ hx 0 _ rfl)
     have r1:wr.cell? ⟨b1,o1+n*4+1,none⟩=_:=(hbw.cell hb1).trans (hc1 n _ hx 1 _ rfl)
     have s1:wr.cell? ⟨b2,o2+n*4+1,none⟩=_:=(hbw.cell hb2).trans (hc2 n _ hx 1 _ rfl)
     have r2:wr.cell? ⟨b1,o1+n*4+2,none⟩=_:=(hbw.cell hb1).trans (hc1 n _ hx 2 _ rfl)
     have s2:wr.cell? ⟨b2,o2+n*4+2,none⟩=_:=(hbw.cell hb2).trans (hc2 n _ hx 2 _ rfl)
     have r3:wr.cell? ⟨b1,o1+n*4+3,none⟩=_:=(hbw.cell hb1).trans (hc1 n _ hx 3 _ rfl)
     have s3:wr.cell? ⟨b2,o2+n*4+3,none⟩=_:=(hbw.cell hb2).trans (hc2 n _ hx 3 _ rfl)
     clear hc1 hc2 hx
     go_wp2_with fail
     go_quiet (fail)
     go_wp2
     go_roundw
     case rel=>exact⟨n+1,by omega,by go_num,HS.out.next (below_drewN (Below.refl _ _) _)⟩
     case measure=>simp[intOf];omega
    ·go_wp2_with fail
     clear hlt hn p0 p1 p2 p3 p4 q0 q1 q2 q3 q4
     go_loopw [7] (fun i wr=>∃n:Nat,n≤pipes.length∧i = .int .i64 n∧SKs w (w.heap.size) K1 K2 wr) (fun i _=>pipes.length-(intOf i).toNat)
     case atStart=>exact⟨0,by omega,rfl,HS.out⟩
     case round=>
      obtain⟨n,hn,rfl,hS⟩:=hrel
      clear HS
      have HS:=hid hS
      obtain⟨hW1,hW2,hbw⟩:=hS
      have hz:=hbw.size
      have p0:=hW1.cell 0
      have q0:=hW2.cell 0
      have p1:=hW1.cell 1
      have q1:=hW2.cell 1
      have p2:=hW1.cell 2
      have q2:=hW2.cell 2
      have p3:=hW1.cell 3
      have q3:=hW2.cell 3
      have p4:=hW1.cell 4
      have q4:=hW2.cell 4
      simp only[K1d.out,K2d.out,af,gq]at p0 q0 p1 q1 p2 q2 p3 q3 p4 q4
      clear hW1 hW2
      by_cases hlt:n<pipes.length
      ·obtain⟨st,hx⟩:∃st,pipes[n]?=some st:=⟨_,List.getElem?_eq_getElem hlt⟩
       rcases HT.out with h|⟨b1,o1,rfl,hb1,hc1⟩
       ·rw[h]at hx;cases hx
       rcases HT2.out with h|⟨b2,o2,rfl,hb2,hc2⟩
       ·rw[h]at hx;cases hx
       have r0:wr.cell? ⟨b1,o1+n,none⟩=some (.string ⟨st.toArray⟩):=by have:=(hbw.cell hb1).trans (hc1 n _ hx 0 _ rfl);rwa [Nat.mul_one]at this
       have s0:wr.cell? ⟨b2,o2+n,none⟩=some (.string ⟨st.toArray⟩):=by have:=(hbw.cell hb2).trans (hc2 n _ hx 0 _ rfl);rwa [Nat.mul_one]at this
       clear hc1 hc2 hx
       go_wp2_with fail
       go_quiet (fail)
       go_wp2
       go_roundw
       case rel=>exact⟨n+1,by omega,by go_num,HS.out.next (below_drewN (Below.refl _ _) _)⟩
       case measure=>simp[intOf];omega
      ·go_wp2_with fail
       clear hlt hn p0 p1 p2 p3 p4 q0 q1 q2 q3 q4
       go_loopw [8] (fun i wr=>∃n:Nat,n≤procs.length∧i = .int .i64 n∧SKs w (w.heap.size) K1 K2 wr) (fun i _=>procs.length-(intOf i).toNat)
       case atStart=>exact⟨0,by omega,rfl,HS.out⟩
       case round=>
        obtain⟨n,hn,rfl,hS⟩:=hrel
        clear HS
        have HS:=hid hS
        obtain⟨hW1,hW2,hbw⟩:=hS
        have hz:=hbw.size
        have p0:=hW1.cell 0
        have q0:=hW2.cell 0
        have p1:=hW1.cell 1
        have q1:=hW2.cell 1
        have p2:=hW1.cell 2
        have q2:=hW2.cell 2
        have p3:=hW1.cell 3
        have q3:=hW2.cell 3
        have p4:=hW1.cell 4
        have q4:=hW2.cell 4
        simp only[K1d.out,K2d.out,af,gq]at p0 q0 p1 q1 p2 q2 p3 q3 p4 q4
        clear hW1 hW2
        by_cases hlt:n<procs.length
        ·obtain⟨lv,es,hm⟩:∃lv es,procs[n]?=some ⟨lv,es⟩:=⟨_,_,List.getElem?_eq_getElem hlt⟩
         obtain⟨lv1,A1,l1,c1,hx⟩:∃lv1 A1 l1 c1,ps[n]?=some ⟨lv1,A1,l1,c1⟩:=⟨_,_,_,_,List.getElem?_eq_getElem (by rw[HPM.out.1];exact hlt)⟩
         obtain⟨lv2,A2,l2,c2,hy⟩:∃lv2 A2 l2 c2,qs[n]?=some ⟨lv2,A2,l2,c2⟩:=⟨_,_,_,_,List.getElem?_eq_getElem (by rw[HQM.out.1];exact hlt)⟩
         obtain⟨h1,h2,hE1⟩:=HPM.out.2 n _ _ hx hm
         obtain⟨h1',h2',hE2⟩:=HQM.out.2 n _ _ hy hm
         have hel:=HF.out.proc _ (List.mem_of_getElem? hm)
         simp only at h1 h2 h1' h2' hE1 hE2 hel
         unfold big at hel
         subst h1 h2 h1' h2'
         rcases HPS.out with h|⟨b1,o1,rfl,hb1,hc1⟩
         ·rw[h]at hx;cases hx
         rcases HQS.out with h|⟨b2,o2,rfl,hb2,hc2⟩
         ·rw[h]at hy;cases hy
         have G0:=hid (hc1 n _ hx 0 _ rfl)
         have G1:=hid (hc1 n _ hx 1 _ rfl)
         have G2:=hid (hc2 n _ hy 0 _ rfl)
         have G3:=hid (hc2 n _ hy 1 _ rfl)
         have HE1:=hid hE1
         have HE2:=hid hE2
         clear hc1 hc2 hx hy hm hE1 hE2
         have r0:wr.cell? ⟨b1,o1+n*2,none⟩=_:=(hbw.cell hb1).trans G0.out
         have r1:wr.cell? ⟨b1,o1+n*2+1,none⟩=_:=(hbw.cell hb1).trans G1.out
         have s0:wr.cell? ⟨b2,o2+n*2,none⟩=_:=(hbw.cell hb2).trans G2.out
         have s1:wr.cell? ⟨b2,o2+n*2+1,none⟩=_:=(hbw.cell hb2).trans G3.out
         go_wp2_with fail
         go_quiet (fail)
         clear r0 r1 s0 s1 p0 p1 p2 p3 p4 q0 q1 q2 q3 q4
         go_wp2_with fail
         go_loopw [9] (fun i wr=>∃j:Nat,j≤es.length∧i = .int .i64 j∧SKs w (w.heap.size) K1 K2 wr) (fun i _=>es.length-(intOf i).toNat)
         case atStart=>exact⟨0,by omega,rfl,HS.out.next (below_drewN (Below.refl _ _) _)⟩
         case round=>
          obtain⟨j,hj,rfl,hS⟩:=hrel
          clear HS
          have HS:=hid hS
          obtain⟨hW1,hW2,hbq⟩:=hS
          have hz:=hbq.size
          have p0:=hW1.cell 0
          have q0:=hW2.cell 0
          have p1:=hW1.cell 1
          have q1:=hW2.cell 1
          have p2:=hW1.cell 2
          have q2:=hW2.cell 2
          have p3:=hW1.cell 3
          have q3:=hW2.cell 3
          have p4:=hW1.cell 4
          have q4:=hW2.cell 4
          simp only[K1d.out,K2d.out,af,gq]at p0 q0 p1 q1 p2 q2 p3 q3 p4 q4
          clear hW1 hW2
          have r0:wr.cell? ⟨b1,o1+n*2,none⟩=_:=(hbq.cell hb1).trans G0.out
          have r1:wr.cell? ⟨b1,o1+n*2+1,none⟩=_:=(hbq.cell hb1).trans G1.out
          have s0:wr.cell? ⟨b2,o2+n*2,none⟩=_:=(hbq.cell hb2).trans G2.out
          have s1:wr.cell? ⟨b2,o2+n*2+1,none⟩=_:=(hbq.cell hb2).trans G3.out
          by_cases hlj:j<es.length
          ·obtain⟨kd,nd,ps1,hx⟩:∃kd nd ps1,es[j]?=some ⟨kd,nd,ps1⟩:=⟨_,_,_,List.getElem?_eq_getElem hlj⟩
           rcases HE1.out with h|⟨b3,o3,rfl,hb3,hc3⟩
           ·rw[h]at hx;cases hx
           rcases HE2.out with h|⟨b4,o4,rfl,hb4,hc4⟩
           ·rw[h]at hx;cases hx
           have t0:wr.cell? ⟨b3,o3+j*3,none⟩=_:=(hbq.cell hb3).trans (hc3 j _ hx 0 _ rfl)
           have t1:wr.cell? ⟨b3,o3+j*3+1,none⟩=_:=(hbq.cell hb3).trans (hc3 j _ hx 1 _ rfl)
           have t2:wr.cell? ⟨b3,o3+j*3+2,none⟩=_:=(hbq.cell hb3).trans (hc3 j _ hx 2 _ rfl)
           have u0:wr.cell? ⟨b4,o4+j*3,none⟩=_:=(hbq.cell hb4).trans (hc4 j _ hx 0 _ rfl)
           have u1:wr.cell? ⟨b4,o4+j*3+1,none⟩=_:=(hbq.cell hb4).trans (hc4 j _ hx 1 _ rfl)
           have u2:wr.cell? ⟨b4,o4+j*3+2,none⟩=_:=(hbq.cell hb4).trans (hc4 j _ hx 2 _ rfl)
           clear hc3 hc4 hx
           go_wp2_with fail
           go_quiet (fail)
           go_wp2
           go_roundw
           case rel=>exact⟨j+1,by omega,by go_num,HS.out.next (below_drewN (Below.refl _ _) _)⟩
           case measure=>simp[intOf];omega
          ·go_wp2
           go_roundw
           case rel=>exact⟨n+1,by omega,by go_num,HS.out⟩
           case measure=>simp[intOf];omega
        ·go_wp2
         go_ret
         exact⟨rfl,HS.out.2.2⟩
end
end Go.Proofs.YtnnhhbjbdmgpiaaGreatDoor
