/- Texts of the proofs: RefE. -/
import Derived.Test.YtnnhhbjbdmgpiaaGreatDoorJ38
set_option linter.unusedSimpArgs false
set_option linter.unusedVariables false
namespace Go.Proofs.YtnnhhbjbdmgpiaaGreatDoor
set_option maxRecDepth 100000
set_option maxHeartbeats 4000000
open Lib (hid)
section
open Go.RowKit
section
variable {B:Nat} {wb:World} {g:Nat} {w:World} {b:Nat} {a a':KA} {xs xs':List MV} {ps ps':List PV} {k k':Cf.ag} {W W':World}
theorem RS.put2{b' i j:Nat}{u v:Value}{t:TypeId}(h:RS B wb g w b a xs ps k W)(hk:KSt B wb g a' xs' ps' k' ((W.setCell ⟨b',i,none⟩ u).setCell ⟨b',j,none⟩ v))(hg:∃ds,Wb W b' t ds)(hne:au≠t):RS B wb g w b a' xs' ps' k' ((W.setCell ⟨b',i,none⟩ u).setCell ⟨b',j,none⟩ v):=by
 obtain⟨ds,hg⟩:=hg
 have ho:=h.bx.other hg hne
 exact⟨hk,(h.ka.offX ⟨ds,hg⟩ hne i u).offX ⟨_,hg.put i u⟩ hne j v,(h.bx.off_ (p:=⟨b',i,none⟩) ho u).off_ (p:=⟨b',j,none⟩) ho v,h.lo,h.rm⟩
theorem RS.put3{b' i j l:Nat}{u v x:Value}{t:TypeId}(h:RS B wb g w b a xs ps k W)(hk:KSt B wb g a' xs' ps' k' (((W.setCell ⟨b',i,none⟩ u).setCell ⟨b',j,none⟩ v).setCell ⟨b',l,none⟩ x))(hg:∃ds,Wb W b' t ds)(hne:au≠t):RS B wb g w b a' xs' ps' k' (((W.setCell ⟨b',i,none⟩ u).setCell ⟨b',j,none⟩ v).setCell ⟨b',l,none⟩ x):=by
 obtain⟨ds,hg⟩:=hg
 have ho:=h.bx.other hg hne
 exact⟨hk,h.ka.offX3 ⟨ds,hg⟩ hne i j l u v x,((h.bx.off_ (p:=⟨b',i,none⟩) ho u).off_ (p:=⟨b',j,none⟩) ho v).off_ (p:=⟨b',l,none⟩) ho x,h.lo,h.rm⟩
theorem RS.tidy(h:RS B wb g w b a xs ps k W)(hk:KSt B wb g a xs ps k' W')(hp:Kp W W'):RS B wb g w b a xs ps k' W':=
 ⟨hk,fun c cs hc=>hp c au cs (by decide) (by decide) (h.ka c cs hc),hp b au _ (by decide) (by decide) h.bx,h.lo,h.rm⟩
theorem RS.done(h:RS B wb g w b a xs ps k W)(hf:ah B wb g W k' W'):∃a xs ps,RS B wb g w b a xs ps k' W':=by
 obtain⟨⟨a,xs,ps,hk⟩,ha⟩:=hf
 exact⟨a,xs,ps,hk,h.ka.trans ha,ha _ _ h.bx,h.lo,h.rm⟩
theorem IG{α:Type}{sz:Nat}{enc:α→List Value}(henc:∀x,(enc x).length=sz){w:World}{base:Nat}{e:TypeId}{A:Option Addr}{c:Nat}{l:List α}(h:w.ownsRow base e sz (.slice A l.length c) l.length (l.flatMap enc)):Nw sz enc w e base A l:=by
 rcases h.2 with ⟨_,h0⟩|⟨g,cap,cur,hv,hb,hh,hn,_,hs,ht⟩
 ·exact .inl (List.eq_nil_of_length_eq_zero h0)
 ·cases hv
  refine .inr ⟨g,rfl,hb,henc,cur.toList.drop (l.length*sz),?_⟩
  unfold Wb
  rw[← ht,List.take_append_drop]
  exact hh
theorem uU{α:Type}{enc:α→List Value}{P:Program}(w:World)(t ty e:TypeId)(i:TypeInfo)(z:Value)(size bytes:Nat)(ht:P.underlying t=some (.slice e))(hi:P.info? e=some i)(hz:i.zero=some z)
  (hsize:i.size=size) (hby:i.bytes=bytes) (hzs:z.cells.size=size) (hsz:0<size) (henc:∀x,(enc x).length=size) (hone:∀x,∀u∈enc x,u.oneCell'=true) (A:Option Addr) (c:Nat) (l:List α) (hr:RdS size enc w A l) (h63:l.length≤maxLen) (hbytes:l.length*bytes≤140737488355328):
  ∃A' c' w',(Builtin.append_ #[t,t] ty #[.slice none 0 0,.slice A l.length c]).run P w = .ok (.slice A' l.length c') w'∧Nw size enc w' e w.heap.size A' l∧Below w.heap.size w w'∧l.length≤c':=by
 obtain⟨v',w',h1,h2,h3,_⟩:=nN (P:=P) w w.heap.size t ty e i z size bytes ht hi hz hsize hby hzs hsz henc hone (.slice none 0 0) 0 [] (World.ownsRow_nil _ _ _ _) A c l hr (by omega) (by rw[Nat.zero_add];exact hbytes) (Nat.le_refl _)
 rw[Nat.zero_add,List.nil_append]at h2
 obtain⟨A',c',rfl⟩:=aP h2
 exact⟨A',c',w',h1,IG henc h2,(Below.refl _ _).grown h3 (Nat.le_refl _) (fun k hk=>by simp[Value.ownBlock]at hk),rC h2⟩
theorem EL:∃M:Array Value,(∀W:World,(Instr.makeSlice 67 (.int .i64 6) (.int .i64 6)).run Tryz.prog W = .ok (.slice (some ⟨W.heap.size,0,none⟩) 6 6) (W.alloc (.cells M fP)))∧∀W:World,Bk 3 bH (W.alloc (.cells M fP)) W.heap.size fP (List.replicate 6 Cf.noEnd):=by
 obtain⟨i0,hi0,hy0,hy1,hy2⟩:=info_parts vP
 refine⟨madeCells #[.int .i64 0,.int .i64 0,.int .i64 0] 18,fun W=>?_,fun W=>Bk.made (z:=#[.int .i64 0,.int .i64 0,.int .i64 0]) jU rfl 6 W fP⟩
 have h:=run_make (P:=Tryz.prog) W 67 72 i0 _ Tryz.underlying67 hi0 hy0 .i64 .i64 6 6 (by omega) (by omega) (by rw[hy2];omega) (by omega)
 rw[hy1]at h
 exact h
theorem ng{P:Program}{w:World}{ops:Array Oper}{o:Oper}{a:Act}{K:Act→World→Prop}{Q:Exit→Act→World→Prop}{E:Prop}(hgd:o.guard=none)(s x:Operand)(t:TypeId)(ho:o.op = .call { callee:=.builtin .append,args:=#[s,x],argTypes:=#[t,t] })
  (vs vx:Value) (hs:a.eval s=vs) (hx:a.eval x=vx) (v':Value) (w':World) (hrun:(Builtin.append_ #[t,t] o.type #[vs,vx]).run P w = .ok v' w') (h:K (a.put o.dst v') w'):if Region.wanted o (yielded ops a.tmps)=true then Oper.wp P o a w K Q else E:=by
 rw[if_pos (by simp[Region.wanted,hgd])]
 unfold Oper.wp
 simp[execOp,ho,resolve,invoke,builtin,hs,hx,hrun,Result.andThen]
 exact h
theorem CZ(x:Cf.End):∀u∈bH x,u.oneCell'=true:=by
 intro u hu
 simp[bH]at hu
 rcases hu with rfl|rfl|rfl<;>rfl
theorem yw(hG:Cf.Good k)(q:Nat)(p:Cf.dR)(h6:p.ends.length=6)(h:KSt B wb g a xs ps ⟨k.mods,k.mem,k.nodes,k.pipes,k.procs.set q p⟩ W):
  Calls Tryz.prog 43 #[.pointer (some ⟨g,0,none⟩)] W fun e w'=>e = .returned (.tuple #[])∧KSt B wb g a xs ps (Cf.iY ⟨k.mods,k.mem,k.nodes,k.pipes,k.procs.set q p⟩) w'∧Kp W w':=
 vI _ W h hG.nodesL hG.pipesL hG.toPre.empty (eu (by show(k.procs.set q p).length≤1024;rw[List.length_set,hG.procsL];omega)) (fun r hr=>eu (by
  rcases Cf.jV hr with hr|rfl
  ·rw[hG.ends r hr];omega
  ·omega))
end
set_option maxHeartbeats 8000000 in
theorem wM{B:Nat}{wb:World}{g:Nat}{a:KA}{xs:List MV}{ps:List PV}(k:Cf.ag)(kd pp nn mm:Int)(nm da:List UInt8)(w:World)(h:KSt B wb g a xs ps k w)(hG:Cf.Good k)(hkd:5≤kd∧kd≤11)(hnl:nm.length≤maxLen)(hdl:da.length≤maxLen):
  Calls Tryz.prog 44 #[.pointer (some ⟨g,0,none⟩),.agg #[.int .i64 kd,.int .i64 pp,.int .i64 nn,.int .i64 mm,.string ⟨nm.toArray⟩,.string ⟨da.toArray⟩]] w (dF B wb g w (Cf.lJ k ⟨kd,pp,nn,mm,nm,da⟩)):=by
 obtain⟨A,ca,M,cm,N,cn,S,cs,Q,cq⟩:=a
 obtain⟨gQ,hgQ,_⟩:=h.own.procs.at_ (i:=0) (List.getElem?_eq_getElem (by rw[h.own.ends.1,hG.procsL];omega))
 obtain⟨gN,hgN,_⟩:=h.own.nodes.at_ (i:=0) (List.getElem?_eq_getElem (by rw[hG.nodesL];omega))
 obtain⟨gS,hgS,_⟩:=h.own.pipes.at_ (i:=0) (List.getElem?_eq_getElem (by rw[hG.pipesL];omega))
 simp only at hgQ hgN hgS
 subst hgQ hgN hgS
 obtain⟨w0,hw0⟩:∃w0:World,w0=(w.alloc (.cells #[.int .i64 kd,.int .i64 pp,.int .i64 nn,.int .i64 mm,.string ⟨nm.toArray⟩,.string ⟨da.toArray⟩] gJ)).alloc (.cells #[.int .i64 0,.int .i64 0,.string ⟨#[]⟩] au):=⟨_,rfl⟩
 have HA0:=hid (show Wb w0 w.heap.size gJ [.int .i64 kd,.int .i64 pp,.int .i64 nn,.int .i64 mm,.string ⟨nm.toArray⟩,.string ⟨da.toArray⟩] by rw[hw0];exact(Wb.new w gJ [.int .i64 kd,.int .i64 pp,.int .i64 nn,.int .i64 mm,.string ⟨nm.toArray⟩,.string ⟨da.toArray⟩]).alloc _)
 have HR0:=hid (RS.new (W:=w0) (b:=w.heap.size+1) h (by rw[hw0];exact((Below.refl _ _).alloc (Nat.le_refl _) _).alloc (by simp) _) (Nat.le_succ _) (by
  rw[hw0]
  have:=Wb.new (w.alloc (.cells #[.int .i64 kd,.int .i64 pp,.int .i64 nn,.int .i64 mm,.string ⟨nm.toArray⟩,.string ⟨da.toArray⟩] gJ)) au [.int .i64 0,.int .i64 0,.string ⟨#[]⟩]
  rwa [show(w.alloc (.cells #[.int .i64 kd,.int .i64 pp,.int .i64 nn,.int .i64 mm,.string ⟨nm.toArray⟩,.string ⟨da.toArray⟩] gJ)).heap.size=w.heap.size+1 by simp]at this))
 have Hw0:=hid hw0
 obtain⟨D,hD⟩:∃D,D=Cf.lJ k ⟨kd,pp,nn,mm,nm,da⟩:=⟨_,rfl⟩
 rw[← hD]
 have HT:=hid (show D=if Cf.aI pp 4=true∧(Cf.aN k pp.toNat).live=true then Cf.dI k pp.toNat ⟨kd,pp,nn,mm,nm,da⟩ else Cf.ai k 6 by
  rw[hD];unfold Cf.lJ;rw[if_neg (by show ¬kd=1;omega),if_neg (by show ¬kd=2;omega),if_neg (by show ¬kd=3;omega),if_neg (by show ¬kd=4;omega),hG.procsL])
 have HG:=hid hG
 have HI:=hid (fun W=>dY pp 0 3 W)
 obtain⟨c,hc⟩:∃c,c=decide (¬(Cf.aI pp 4=true∧(Cf.aN k pp.toNat).live=true)):=⟨_,rfl⟩
 have HC:=hid hc
 clear h hw0 hD hc
 go_enter Tryz.func44,Tryz.ntmps44
 go_upto_region 1 with fail
 rw[← Hw0.out]
 clear Hw0
 have a1:=HA0.out.cell 1
 simp only[gq]at a1
 have al:=HA0.out.lt
 go_cut [27] from 12 to 28 (fun v wx=>v = .bool c∧∃n,wx=w0.drewN n)
 case first=>
  cases hin:Cf.inB pp 0 3
  ·rw[hin]at HI
   have hcv:c=true:=by rw[HC.out,decide_eq_true_eq];intro h1;have:=h1.1;simp[Cf.inB,Cf.aI]at hin this;omega
   clear hin HC
   go_quiet ((go_at_call 39;exact dJ (HI.out _)))
   go_wp2
   go_meet
   case rel=>exact⟨by rw[hcv],_,rfl⟩
  ·rw[hin]at HI
   obtain⟨q,rfl,hq⟩:∃q:Nat,pp=q∧q<4:=⟨pp.toNat,by simp[Cf.inB]at hin;omega,by simp[Cf.inB]at hin;omega⟩
   obtain⟨gE,ce,lv,es,hP⟩:=HR0.out.st.pat HG.out.toPre hq rfl
   have hcv:c = !lv:=by rw[HC.out,Int.toNat_natCast,hP.is_];cases lv<;>simp[Cf.aI];omega
   have c4:=HR0.out.st.ptr.c4
   simp only[HG.out.procsL]at c4
   have kl:=HR0.out.st.box.lt
   have r0:=HR0.out.st.p0 hP
   have rl:=(HR0.out.st.Bp hP).lt
   clear hin HC hP
   go_quiet ((go_at_call 39;exact dJ (HI.out _)))
   go_wp2
   go_meet
   case rel=>exact⟨by rw[hcv],_,rfl⟩
 case rest=>
  obtain⟨rfl,n,rfl⟩:=hcut
  have HR1:=hid (HR0.out.draw n)
  have HA1:=hid (HA0.out.draw n)
  clear HR0 HA0 HI a1 al
  generalize w0.drewN n=w1 at *
  cases c
  ·have hcc:Cf.aI pp 4=true∧(Cf.aN k pp.toNat).live=true:=by have:=of_decide_eq_false HC.out.symm;exact Classical.not_not.1 this
   replace HT:=hid (HT.out.trans (if_pos hcc))
   obtain⟨q,rfl,hq⟩:∃q:Nat,pp=q∧q<4:=by
    have h1:=hcc.1
    simp[Cf.aI]at h1
    exact⟨pp.toNat,by omega,by omega⟩
   have hlv:=hcc.2
   rw[Int.toNat_natCast]at HT hlv
   obtain⟨gE,ce,lv,es,hP⟩:=HR1.out.st.pat HG.out.toPre hq rfl
   obtain rfl:lv=true:=by rw[hP.is_]at hlv;exact hlv
   clear hcc hlv HC
   have HF:=hid (fun W (hE:Ends W (some ⟨gE,0,none⟩) es)=>xe true es _ ce W hE hP.len)
   have HI:=hid (Cf.bQ Cf.aK es)
   have HP:=hid hP
   have c4:=HR1.out.st.ptr.c4
   simp only[HG.out.procsL]at c4
   have kl:=HR1.out.st.box.lt
   have r0:=HR1.out.st.p0 hP
   have r1:=HR1.out.st.p1 hP
   have rl:=(HR1.out.st.Bp hP).lt
   have a1:=HA1.out.cell 1
   simp only[gq]at a1
   have al:=HA1.out.lt
   have HX:=hid hP.is_
   clear hP
   go_wp2_with fail
   refine(HF.out _ (HR1.out.st.Be HP.out).rd).mono ?_
   rintro e w2 ⟨rfl,hb2⟩
   have HR2:=hid (HR1.out.below hb2)
   have HA2:=hid (HA1.out.below hb2 HA1.out.lt)
   clear HR1 HA1 c4 kl r0 r1 rl a1 al hb2
   generalize hz2:Cf.aJ Cf.aK es=z2 at *
   have HZ2:=hid hz2
   clear hz2
   have a0:=HA2.out.cell 0
   simp only[gq]at a0
   have al:=HA2.out.lt
   by_cases h5:kd=5
   ·subst h5
    clear HF
    replace HT:=hid (show D=if Cf.nameB nm=false then Cf.ai k 4 else if Cf.aJ (Cf.aQ nm) k.nodes<0 then Cf.ai k 6 else if z2<0 then Cf.ai k 8 else⟨⟨k.mods,k.mem,k.nodes,k.pipes,k.procs.set q ⟨true,es.set z2.toNat ⟨1,Cf.aJ (Cf.aQ nm) k.nodes,0⟩⟩⟩,⟨0,z2,[]⟩⟩ from HT.out.trans (by
     unfold Cf.dI;rw[if_pos rfl];unfold Cf.qj Cf.setEnd Cf.setProc;rw[HX.out,HZ2.out]))
    have hK2:=HR2.out.st
    have HV:=hid (rW k _ nm w2.drew (hK2.below (Below.refl _ _).drew).ptr.2 HG.out.nodesL)
    simp only[af,HG.out.nodesL,HG.out.pipesL,HG.out.procsL,HG.out.memL]at HV
    have HNm:=hid (fun W=>kD nm hnl W)
    generalize Cf.aJ (Cf.aQ nm) k.nodes=z1 at *
    generalize Cf.nameB nm=b at *
    have c0:=hK2.ptr.c0
    have c1:=hK2.ptr.c1
    have c2:=hK2.ptr.c2
    have c3:=hK2.ptr.c3
    have c4:=hK2.ptr.c4
    simp only[HG.out.nodesL,HG.out.memL,HG.out.pipesL,HG.out.procsL]at c1 c2 c3 c4
    have kl:=hK2.box.lt
    have a4:=HA2.out.cell 4
    simp only[gq]at a4
    clear hK2
    go_upto_region 7 with fail
    go_cut [7] from 43 to 49 (fun v wx=>v = .int .i64 z1∧Below w2.heap.size w2 wx)
    case first=>
     go_region_with (go_at_call 42;(with_reducible refine HV.out.mono ?_);rintro e w3 ⟨rfl,hb3⟩)
     all_goals
      go_wp2_with fail
      go_meet
      exact⟨rfl,(Below.refl _ _).drew.trans hb3⟩
    case rest=>
     obtain⟨rfl,hb3⟩:=hcut
     have HR3:=hid (HR2.out.below hb3)
     have HA3:=hid (HA2.out.below hb3 HA2.out.lt)
     clear HR2 HA2 HV c0 c1 c2 c3 c4 kl a0 al a4 hb3
     have a4:=HA3.out.cell 4
     simp only[gq]at a4
     have al:=HA3.out.lt
     go_wp2_with fail
     refine(HNm.out _).mono ?_
     rintro e w' ⟨rfl,rfl⟩
     clear HNm HA3
     cases b
     ·obtain rfl:=HT.out.trans (if_pos rfl)
      obtain⟨p0,p1,p2,f0,hl9⟩:=HR3.out.box
      have HFin:=hid HR3.out.fin
      clear HR3 HT HG HP HX HI HZ2 a4 al
      go_wp2
      refine bodyPost_ret (v:=.agg #[.int .i64 4,.int .i64 0,.string ⟨#[]⟩]) (by simp[results,Tryz.results44,go_sem,p0,p1,p2]) rfl ?_
      exact⟨rfl,by(show ah _ _ _ _ k _);with_reducible exact HFin.out _ _ _⟩
     replace HT:=hid (HT.out.trans (if_neg (by decide)))
     by_cases hz1:z1<0
     ·obtain rfl:=HT.out.trans (if_pos hz1)
      obtain⟨p0,p1,p2,f0,hl9⟩:=HR3.out.box
      have HFin:=hid HR3.out.fin
      clear HR3 HT HG HP HX HI HZ2 a4 al
      go_wp2
      refine bodyPost_ret (v:=.agg #[.int .i64 6,.int .i64 0,.string ⟨#[]⟩]) (by simp[results,Tryz.results44,go_sem,p0,p1,p2]) rfl ?_
      exact⟨rfl,by(show ah _ _ _ _ k _);with_reducible exact HFin.out _ _ _⟩
     replace HT:=hid (HT.out.trans (if_neg hz1))
     by_cases hz2:z2<0
     ·obtain rfl:=HT.out.trans (if_pos hz2)
      obtain⟨p0,p1,p2,f0,hl9⟩:=HR3.out.box
      have HFin:=hid HR3.out.fin
      clear HR3 HT HG HP HX HI HZ2 a4 al
      go_wp2
      refine bodyPost_ret (v:=.agg #[.int .i64 8,.int .i64 0,.string ⟨#[]⟩]) (by simp[results,Tryz.results44,go_sem,p0,p1,p2]) rfl ?_
      exact⟨rfl,by(show ah _ _ _ _ k _);with_reducible exact HFin.out _ _ _⟩
     replace HT:=hid (HT.out.trans (if_neg hz2))
     rcases HI.out with ⟨_,hi⟩|⟨i,x,rfl,hx,_,_⟩
     ·omega
     obtain⟨xk,xn,xp⟩:=x
     have hi6:i<6:=by rw[← HP.out.len];exact(List.getElem?_eq_some_iff.1 hx).1
     have hK3:=HR3.out.st
     have c4:=hK3.ptr.c4
     simp only[HG.out.procsL]at c4
     have kl:=hK3.box.lt
     have r1:=hK3.p1 HP.out
     have rl:=(hK3.Bp HP.out).lt
     have e0:wc.cell? ⟨gE,i*3,none⟩=_:=(hK3.Be HP.out).cell hx (j:=0) rfl
     have e1:wc.cell? ⟨gE,i*3+1,none⟩=_:=(hK3.Be HP.out).cell hx (j:=1) rfl
     have e2:wc.cell? ⟨gE,i*3+2,none⟩=_:=(hK3.Be HP.out).cell hx (j:=2) rfl
     have el:=(hK3.Be HP.out).lt
     have ef:=(hK3.Be HP.out).open_
     have HR4:=hid (HR3.out.put3 (hK3.putEnd HP.out.pv HP.out.proc rfl ⟨1,z1,0⟩ hx) (hK3.box2 HP.out) (by decide))
     replace HT:=hid (show D=⟨⟨k.mods,k.mem,k.nodes,k.pipes,k.procs.set q ⟨true,es.set i ⟨1,z1,0⟩⟩⟩,⟨0,i,[]⟩⟩ from HT.out.trans (by rw[Int.toNat_natCast]))
     obtain rfl:=HT.out
     clear HR3 HT HG HP HX HI HZ2 hK3 hx
     obtain⟨p0,p1,p2,f0,hl9⟩:=HR4.out.box
     have HFin:=hid HR4.out.fin
     clear HR4 a4 al
     go_wp2
     refine bodyPost_ret (v:=.agg #[.int .i64 0,.int .i64 i,.string ⟨#[]⟩]) (by simp[results,Tryz.results44,go_sem,p0,p1,p2]) rfl ?_
     exact⟨rfl,by(show ah _ _ _ _ ⟨_,_,_,_,_⟩ _);with_reducible exact HFin.out _ _ _⟩
   by_cases h9:kd=9
   ·subst h9
    clear HA2
    have hHH:=fun W (hW:KSt B wb g ⟨A,ca,M,cm,some ⟨gN,0,none⟩,cn,some ⟨gS,0,none⟩,cs,some ⟨gQ,0,none⟩,cq⟩ xs ps k W) kd nd=>nV k _ kd nd W hW.ptr.2 (eu (by rw[HG.out.procsL];omega)) (fun p hp=>eu (by rw[HG.out.ends p hp];omega))
    simp only[af,HG.out.nodesL,HG.out.pipesL,HG.out.procsL,HG.out.memL]at hHH
    have HH:=hid hHH
    clear hHH
    have c4:=HR2.out.st.ptr.c4
    simp only[HG.out.procsL]at c4
    have kl:=HR2.out.st.box.lt
    have r1:=HR2.out.st.p1 HP.out
    have rl:=(HR2.out.st.Bp HP.out).lt
    have el:=(HR2.out.st.Be HP.out).lt
    have HE:=hid (fun i x (hx:es[i]?=some x)=>((HR2.out.st.Be HP.out).cell hx (j:=0) rfl:w2.cell? ⟨gE,i*3,none⟩=some (.int .i64 x.kind)))
    have HL:=hid HP.out.len
    go_wp2
    go_loopw [8,9] (fun f v wr=>∃j:Nat,j≤6∧v = .int .i64 j∧f = .int .i64 ((es.take j).countP Cf.aK:Nat)∧w2=wr) (fun _ v _=>6-(intOf v).toNat)
    case atStart=>exact⟨0,by omega,rfl,rfl,rfl⟩
    case round=>
     obtain⟨j,hj,rfl,rfl,rfl⟩:=hrel
     clear a0 al
     have hcb:(es.take j).countP Cf.aK≤6:=Nat.le_trans List.countP_le_length (by rw[List.length_take];omega)
     by_cases hlt:j<6
     ·obtain⟨⟨xk,xn,xp⟩,hx⟩:∃x,es[j]?=some x:=⟨_,List.getElem?_eq_getElem (by rw[HL.out];exact hlt)⟩
      have e0:w2.cell? ⟨gE,j*3,none⟩=some (.int .i64 xk):=HE.out j _ hx
      have HX2:=hid (Cf.BH (p:=Cf.aK) hx)
      clear hx HT
      have hj6:(j:Int)<6:=by omega
      by_cases hx0:xk=0
      ·subst hx0
       go_wp2
       go_roundw
       case rel=>exact⟨j+1,by omega,by go_num,by rw[HX2.out];simp[Cf.aK],by trivial⟩
       case measure=>simp[intOf];omega
      ·have hxb:(xk == 0)=false:=by rw[beq_eq_false_iff_ne];exact hx0
       go_wp2
       go_roundw
       case rel=>exact⟨j+1,by omega,by go_num,by rw[HX2.out];simp[Cf.aK,hx0],by trivial⟩
       case measure=>simp[intOf];omega
     ·obtain rfl:j=6:=by omega
      have hct:(es.take 6).countP Cf.aK=es.countP Cf.aK:=by rw[List.take_of_length_le (by rw[HL.out];omega)]
      rw[hct]at hcb ⊢
      rw[show((6:Nat):Int)=6 from rfl]
      obtain⟨f,hf⟩:∃f,f=es.countP Cf.aK:=⟨_,rfl⟩
      rw[← hf]at hcb ⊢
      have HFc:=hid hf
      clear hct hf hlt hj c4 kl r1 rl el HE
      go_wp2
      have HT2:=hid (show D=if 2≤f∧0≤Cf.eX k then⟨⟨k.mods,k.mem,k.nodes,k.pipes,k.procs.set q ⟨true,(es.set z2.toNat ⟨2,Cf.eX k,0⟩).set (z2.toNat+1+(Cf.aJ Cf.aK (es.drop (z2.toNat+1))).toNat) ⟨3,Cf.eX k,0⟩⟩⟩,⟨0,z2,[]⟩⟩ else Cf.ai k 8 from HT.out.trans (by
       unfold Cf.dI;rw[if_neg (by show ¬(9:Int)=5;decide),if_pos rfl,DW HP.out.proc,HZ2.out,HFc.out]
       have h2:=Cf.zg (p:=Cf.aK) (l:=es)
       rw[HZ2.out]at h2
       by_cases hA:2≤es.countP Cf.aK
       ·have h3:=h2.2 hA
        by_cases hB:0≤Cf.eX k
        ·rw[if_neg (by omega),if_neg (by omega),if_pos ⟨hA,hB⟩]
        ·rw[if_pos (by omega),if_neg (fun h=>hB h.2)]
       ·rw[if_neg (fun h:2≤es.countP Cf.aK∧_=>hA h.1)]
        by_cases hC:Cf.eX k<0∨z2<0
        ·rw[if_pos hC]
        ·rw[if_neg hC,if_pos (by have:=fun h=>hA (h2.1 h);omega)]))
      have HT:=HT2
      clear HT2
      by_cases hf2:f<2
      ·obtain rfl:=HT.out.trans (if_neg (by omega))
       have Ox:¬(2:Int)≤(f:Int):=by omega
       refine wp_loop_rounds 1 ?_
       rw[rounds_succ]
       obtain⟨p0,p1,p2,f0,hl9⟩:=HR2.out.box
       have HFin:=hid HR2.out.fin
       clear HR2 HT HG HP HX HI HZ2 HF HH HL HFc hf2
       go_wp2
       refine bodyPost_ret (v:=.agg #[.int .i64 8,.int .i64 0,.string ⟨#[]⟩]) (by simp[results,Tryz.results44,go_sem,p0,p1,p2]) rfl ?_
       exact⟨rfl,by(show ah _ _ _ _ k _);with_reducible exact HFin.out _ _ _⟩
      have hf3:(2:Int)≤(f:Int):=by omega
      have hz0:0≤z2∧0≤Cf.aJ Cf.aK (es.drop (z2.toNat+1)):=by
       have h2:=Cf.zg (p:=Cf.aK) (l:=es)
       rw[HZ2.out,← HFc.out]at h2
       exact h2.2 (by omega)
      obtain⟨i,rfl⟩:=Int.eq_ofNat_of_zero_le hz0.1
      rw[Int.toNat_natCast]at hz0 HT
      obtain⟨i3,hi3⟩:=Int.eq_ofNat_of_zero_le hz0.2
      have H3:=hid hi3
      have H2f:=hid (show 2≤f by omega)
      have HTP:=hid (show Cf.eX k=Cf.aJ (Cf.lU k.procs) (List.range 6) by unfold Cf.eX;rw[HG.out.pipesL])
      rcases HI.out with ⟨_,hi⟩|⟨i',x,hi',hx,_,_⟩
      ·omega
      obtain rfl:i=i':=by omega
      have HXi:=hid hx
      have hi6:i<6:=by rw[← HL.out];exact(List.getElem?_eq_some_iff.1 hx).1
      clear hz0 hi3 hi' hx HI HFc hf2
      go_loopw [10] (fun v wr=>∃j:Nat,j≤6∧v = .int .i64 j∧((List.range 6).take j).any (Cf.lU k.procs)=false∧RS B wb g w (w.heap.size+1) ⟨A,ca,M,cm,some ⟨gN,0,none⟩,cn,some ⟨gS,0,none⟩,cs,some ⟨gQ,0,none⟩,cq⟩ xs ps k wr) (fun v _=>6-(intOf v).toNat)
      case atStart=>exact⟨0,by omega,rfl,rfl,HR2.out⟩
      case round=>
       obtain⟨j,hj,rfl,hall,hR⟩:=hrel
       clear HR2
       have aX:=hid hall
       have HR:=hid hR
       have hK:=hR.st
       have c0:=hK.ptr.c0
       have c1:=hK.ptr.c1
       have c2:=hK.ptr.c2
       have c3:=hK.ptr.c3
       have c4:=hK.ptr.c4
       simp only[HG.out.nodesL,HG.out.memL,HG.out.pipesL,HG.out.procsL]at c1 c2 c3 c4
       have kl:=hK.box.lt
       have HV:=hid (HH.out wr hK 2 j)
       clear hall hR hK
       by_cases hlt:j<6
       ·have HX2:=hid (List.getElem?_range hlt)
        have hNE:=show Cf.lU k.procs j=(!Cf.hasB k.procs 2 j && !Cf.hasB k.procs 3 j) from rfl
        have HH3:=hid (fun W hW=>HH.out W hW 3 j)
        generalize Cf.hasB k.procs 2 j=b1 at *
        generalize Cf.hasB k.procs 3 j=b2 at *
        go_wp2_with fail
        refine HV.out.mono ?_
        rintro e w3 ⟨rfl,hb3⟩
        have HR3:=hid (HR.out.below hb3)
        clear HV HR hb3 c0 c1 c2 c3 c4 kl
        cases b1
        ·have hK:=HR3.out.st
         have c0:=hK.ptr.c0
         have c1:=hK.ptr.c1
         have c2:=hK.ptr.c2
         have c3:=hK.ptr.c3
         have c4:=hK.ptr.c4
         simp only[HG.out.nodesL,HG.out.memL,HG.out.pipesL,HG.out.procsL]at c1 c2 c3 c4
         have kl:=hK.box.lt
         have HV:=hid (HH3.out w3 hK)
         clear hK
         go_wp2_with fail
         refine HV.out.mono ?_
         rintro e w4 ⟨rfl,hb4⟩
         have HR4:=hid (HR3.out.below hb4)
         clear HV HR3 hb4 c0 c1 c2 c3 c4 kl HH HH3
         cases b2
         ·have hIJ:=Cf.jI HX2.out (show Cf.lU k.procs j=true from hNE) aX.out
          replace HT:=hid (show D=⟨⟨k.mods,k.mem,k.nodes,k.pipes,k.procs.set q ⟨true,(es.set i ⟨2,j,0⟩).set (i+1+i3) ⟨3,j,0⟩⟩⟩,⟨0,i,[]⟩⟩ from HT.out.trans (by rw[HTP.out,hIJ,if_pos ⟨H2f.out,by omega⟩,H3.out,Int.toNat_natCast]))
          clear hIJ hNE HX2 aX HTP H2f
          have hK:=HR4.out.st
          have c4:=hK.ptr.c4
          simp only[HG.out.procsL]at c4
          have kl:=hK.box.lt
          have r1:=hK.p1 HP.out
          have rl:=(hK.Bp HP.out).lt
          have e0:w4.cell? ⟨gE,i*3,none⟩=_:=(hK.Be HP.out).cell HXi.out (j:=0) rfl
          have e1:w4.cell? ⟨gE,i*3+1,none⟩=_:=(hK.Be HP.out).cell HXi.out (j:=1) rfl
          have e2:w4.cell? ⟨gE,i*3+2,none⟩=_:=(hK.Be HP.out).cell HXi.out (j:=2) rfl
          have el:=(hK.Be HP.out).lt
          have ef:=(hK.Be HP.out).open_
          obtain⟨w5,hw5⟩:∃w5,w5=((w4.setCell ⟨gE,i*3,none⟩ (.int .i64 2)).setCell ⟨gE,i*3+1,none⟩ (.int .i64 j)).setCell ⟨gE,i*3+2,none⟩ (.int .i64 0):=⟨_,rfl⟩
          have HR5:=hid (show RS B wb g w (w.heap.size+1) _ xs ps ⟨k.mods,k.mem,k.nodes,k.pipes,k.procs.set q ⟨true,es.set i ⟨2,j,0⟩⟩⟩ w5 by rw[hw5];exact HR4.out.put3 (hK.putEnd HP.out.pv HP.out.proc rfl ⟨2,j,0⟩ HXi.out) (hK.box2 HP.out) (by decide))
          have HP1:=hid (HP.out.set i ⟨2,j,0⟩)
          have hI2:=Cf.JV (p:=Cf.aK) HZ2.out (y:=⟨2,j,0⟩) rfl
          rw[H3.out,if_neg (by omega)]at hI2
          obtain⟨i2,x2,hz,hx2,hi2⟩:∃(i2:Nat) (x2:Cf.End),Cf.aJ Cf.aK (es.set i ⟨2,j,0⟩)=i2∧(es.set i ⟨2,j,0⟩)[i2]?=some x2∧i2=i+1+i3:=by
           rcases Cf.bQ Cf.aK (es.set i ⟨2,j,0⟩) with ⟨_,h⟩|⟨i2,x2,h,hx,_,_⟩
           ·omega
           ·exact⟨i2,x2,h,hx,by omega⟩
          rw[← hi2]at HT
          have OE:i2<6:=by have h1:=(List.getElem?_eq_some_iff.1 hx2).1;rw[List.length_set,HL.out]at h1;exact h1
          obtain⟨xk,xn,xp⟩:=x2
          have HX2:=hid hx2
          have HFv:=hid (xe true (es.set i ⟨2,j,0⟩) (some ⟨gE,0,none⟩) ce w5.drew ((HR5.out.st.below (Below.refl _ _).drew).Be HP1.out).rd HP1.out.len)
          rw[hz]at HFv
          have Hw5:=hid hw5
          clear hK hw5 HR4 hI2 hz hx2 hi2 HZ2 H3
          go_upto_region 28 with fail
          rw[← Hw5.out]
          clear c4 kl r1 rl e0 e1 e2 el ef Hw5
          have hK:=HR5.out.st
          have c4:=hK.ptr.c4
          simp only[List.length_set,HG.out.procsL]at c4
          have kl:=hK.box.lt
          have r0:=hK.p0 HP1.out
          have r1:=hK.p1 HP1.out
          have rl:=(hK.Bp HP1.out).lt
          clear hK
          go_cut [145] from 129 to 148 (fun _ wx=>RS B wb g w (w.heap.size+1) ⟨A,ca,M,cm,some ⟨gN,0,none⟩,cn,some ⟨gS,0,none⟩,cs,some ⟨gQ,0,none⟩,cq⟩ xs ps ⟨k.mods,k.mem,k.nodes,k.pipes,k.procs.set q ⟨true,(es.set i ⟨2,j,0⟩).set i2 ⟨3,j,0⟩⟩⟩ wx)
          case first=>
           go_region_with (go_at_call 80;(with_reducible refine HFv.out.mono ?_);rintro e w6 ⟨rfl,hb6⟩;have hbb:=(Below.refl _ _).drew.trans hb6;have hK6:=HR5.out.st.below hbb;have d4:=hK6.ptr.c4;simp only[List.length_set,HG.out.procsL]at d4;have dl:=hK6.box.lt;have s1:=hK6.p1 HP1.out;have sl:=(hK6.Bp HP1.out).lt;have e0:w6.cell? ⟨gE,i2*3,none⟩=_:=(hK6.Be HP1.out).cell HX2.out (j:=0) rfl;have e1:w6.cell? ⟨gE,i2*3+1,none⟩=_:=(hK6.Be HP1.out).cell HX2.out (j:=1) rfl;have e2:w6.cell? ⟨gE,i2*3+2,none⟩=_:=(hK6.Be HP1.out).cell HX2.out (j:=2) rfl;have el:=(hK6.Be HP1.out).lt;have ef:=(hK6.Be HP1.out).open_;have hR7:=(HR5.out.below hbb).put3 (hK6.putEnd HP1.out.pv HP1.out.proc rfl ⟨3,j,0⟩ HX2.out) (hK6.box2 HP1.out) (by decide);rw[List.set_set]at hR7;have HR7:=hid hR7;clear hK6 hbb hb6 hR7)
           all_goals
            go_wp2_with fail
            go_meet
            exact HR7.out
          case rest=>
           have HR8:=hid hcut
           obtain rfl:=HT.out
           clear hcut HT HG HP HX HF HL HR5 HP1 HX2 HFv HXi c4 kl r0 r1 rl
           obtain⟨p0,p1,p2,f0,hl9⟩:=HR8.out.box
           have HFin:=hid HR8.out.fin
           clear HR8
           go_wp2
           refine bodyPost_ret (v:=.agg #[.int .i64 0,.int .i64 i,.string ⟨#[]⟩]) (by simp[results,Tryz.results44,go_sem,p0,p1,p2]) rfl ?_
           exact⟨rfl,by(show ah _ _ _ _ ⟨_,_,_,_,_⟩ _);with_reducible exact HFin.out _ _ _⟩
         ·have HA:=hid (Cf.fU HX2.out aX.out hNE)
          clear HT
          go_wp2
          go_roundw
          case rel=>exact⟨j+1,by omega,by go_num,HA.out,HR4.out⟩
          case measure=>simp[intOf];omega
        ·have HA:=hid (Cf.fU HX2.out aX.out hNE)
         clear HT HH HH3
         go_wp2
         go_roundw
         case rel=>exact⟨j+1,by omega,by go_num,HA.out,HR3.out⟩
         case measure=>simp[intOf];omega
       ·obtain rfl:j=6:=by omega
        obtain rfl:=HT.out.trans (if_neg (fun h=>by have h1:=h.2;rw[HTP.out,Cf.fJ (Cf.any_take aX.out (by simp))]at h1;omega))
        rw[show((6:Nat):Int)=6 from rfl]
        obtain⟨p0,p1,p2,f0,hl9⟩:=HR.out.box
        have HFin:=hid HR.out.fin
        clear HR HT HG HP HX HZ2 HF HH HL H3 H2f HTP HXi aX HV c0 c1 c2 c3 c4 kl hlt hj
        go_wp2
        refine bodyPost_ret (v:=.agg #[.int .i64 8,.int .i64 0,.string ⟨#[]⟩]) (by simp[results,Tryz.results44,go_sem,p0,p1,p2]) rfl ?_
        exact⟨rfl,by(show ah _ _ _ _ k _);with_reducible exact HFin.out _ _ _⟩
   by_cases h10:kd=10
   ·subst h10
    clear HF HI HZ2 HA2
    replace HT:=hid (show D=if Cf.aJ Cf.jr k.procs<0 then Cf.ai k 8 else⟨⟨k.mods,k.mem,k.nodes,k.pipes,k.procs.set (Cf.aJ Cf.jr k.procs).toNat ⟨true,es⟩⟩,⟨0,Cf.aJ Cf.jr k.procs,[]⟩⟩ from HT.out.trans (by
     unfold Cf.dI;rw[if_neg (by show ¬(10:Int)=5;decide),if_neg (by show ¬(10:Int)=9;decide),if_pos rfl];unfold Cf.qB Cf.setProc;rw[HX.out]))
    have c4:=HR2.out.st.ptr.c4
    simp only[HG.out.procsL]at c4
    have kl:=HR2.out.st.box.lt
    go_wp2
    go_loopw [11] (fun v wr=>∃j:Nat,j≤4∧v = .int .i64 j∧(k.procs.take j).any Cf.jr=false∧w2=wr) (fun v _=>4-(intOf v).toNat)
    case atStart=>exact⟨0,by omega,rfl,rfl,rfl⟩
    case round=>
     obtain⟨j,hj,rfl,hall,rfl⟩:=hrel
     have aX:=hid hall
     clear hall a0 al
     by_cases hlt:j<4
     ·obtain⟨gj,cj,lj,ej,hPj⟩:=HR2.out.st.pat HG.out.toPre hlt rfl
      have HPj:=hid hPj
      have r0:=HR2.out.st.p0 hPj
      have rj:=HR2.out.st.p1 hPj
      have r1:=HR2.out.st.p1 HP.out
      have rl:=(HR2.out.st.Bp hPj).lt
      have rf:=(HR2.out.st.Bp hPj).open_
      clear hPj
      cases lj
      ·have HI:=hid (Cf.jI HPj.out.proc (show Cf.jr ⟨false,ej⟩=true from rfl) aX.out)
       have hjq:j≠q:=by rintro rfl;have:=HPj.out.is_.symm.trans HX.out;simp at this
       obtain⟨i0,hi0,hy0,hy1,hy2⟩:=info_parts vP
       obtain⟨A',c',w3,hrun,hN,hb3,hc'⟩:=uU (P:=Tryz.prog) (enc:=bH) w2.drew 67 67 fP i0 (.agg #[.int .i64 0,.int .i64 0,.int .i64 0]) 3 24 Tryz.underlying67 hi0 hy0 hy1 hy2 rfl (by omega) jU CZ (some ⟨gE,0,none⟩) ce es ((HR2.out.st.below (Below.refl _ _).drew).Be HP.out).rd (by rw[HP.out.len];unfold maxLen;omega) (by rw[HP.out.len];omega)
       rw[HP.out.len]at hrun
       have hbb:Below w2.heap.size w2 w3:=(Below.refl _ _).drew.trans hb3
       have hK3:=HR2.out.st.below hbb
       have HR3:=hid ((HR2.out.below hbb).put2 (HR2.out.st.putProc hbb rfl HPj.out.pv HPj.out.proc true hN hc') (hK3.Bp HPj.out).box (by decide))
       have d4:=hK3.ptr.c4
       simp only[HG.out.procsL]at d4
       have dl:=hK3.box.lt
       have s0:=hK3.p0 HPj.out
       have sj:=hK3.p1 HPj.out
       have sl:=(hK3.Bp HPj.out).lt
       have sf:=(hK3.Bp HPj.out).open_
       replace HT:=hid (show D=⟨⟨k.mods,k.mem,k.nodes,k.pipes,k.procs.set j ⟨true,es⟩⟩,⟨0,j,[]⟩⟩ from HT.out.trans (by rw[HI.out,if_neg (by omega),Int.toNat_natCast]))
       rw[HP.out.len]at HR3
       obtain rfl:=HT.out
       clear hi0 hy0 hy1 hy2 hN hb3 hc' hbb hK3 HT HI HPj aX HX HP HG HR2
       go_wp2_with fail
       have hq4:(q:Int)<4:=by omega
       go_region_law (refine ng (by rfl) (.const (.slice none 0 0)) (.tmp 178) 67 (by rfl) _ _ (by rfl) (by rfl) _ _ hrun ?_)
       all_goals
        obtain⟨p0,p1,p2,f0,hl9⟩:=HR3.out.box
        have HFin:=hid HR3.out.fin
        clear HR3 c4 kl r0 rj r1 rl rf d4 dl s0 sj sl sf hrun
        go_wp2
        refine bodyPost_ret (v:=.agg #[.int .i64 0,.int .i64 j,.string ⟨#[]⟩]) (by simp[results,Tryz.results44,go_sem,p0,p1,p2]) rfl ?_
        exact⟨rfl,by(show ah _ _ _ _ ⟨_,_,_,_,_⟩ _);with_reducible exact HFin.out _ _ _⟩
      ·have HA:=hid (Cf.fU HPj.out.proc aX.out (show Cf.jr ⟨true,ej⟩=false from rfl))
       clear HT HPj
       go_wp2
       go_roundw
       case rel=>exact⟨j+1,by omega,by go_num,HA.out,by trivial⟩
       case measure=>simp[intOf];omega
     ·obtain rfl:j=4:=by omega
      obtain rfl:=HT.out.trans (if_pos (by rw[Cf.fJ (p:=Cf.jr) (l:=k.procs) (Cf.any_take aX.out (by rw[HG.out.procsL];omega))];omega))
      rw[show((4:Nat):Int)=4 from rfl]
      obtain⟨p0,p1,p2,f0,hl9⟩:=HR2.out.box
      have HFin:=hid HR2.out.fin
      clear HR2 HT HG HP HX aX c4 kl hlt hj
      go_wp2
      refine bodyPost_ret (v:=.agg #[.int .i64 8,.int .i64 0,.string ⟨#[]⟩]) (by simp[results,Tryz.results44,go_sem,p0,p1,p2]) rfl ?_
      exact⟨rfl,by(show ah _ _ _ _ k _);with_reducible exact HFin.out _ _ _⟩
   by_cases h11:kd=11
   ·subst h11
    clear HF HI HZ2 HA2
    replace HT:=hid (show D=⟨Cf.iY ⟨k.mods,k.mem,k.nodes,k.pipes,k.procs.set q ⟨false,List.replicate 6 Cf.noEnd⟩⟩,Cf.kS⟩ from HT.out.trans (by
     unfold Cf.dI;rw[if_neg (by show ¬(11:Int)=5;decide),if_neg (by show ¬(11:Int)=9;decide),if_neg (by show ¬(11:Int)=10;decide),if_pos rfl];unfold Cf.sW Cf.setProc;rw[HX.out];simp only[List.map_const',HP.out.len]))
    obtain⟨MC,hmk,hBk⟩:=EL
    have hK2:=HR2.out.st
    have c4:=hK2.ptr.c4
    simp only[HG.out.procsL]at c4
    have kl:=hK2.box.lt
    have r0:=hK2.p0 HP.out
    have r1:=hK2.p1 HP.out
    have rl:=(hK2.Bp HP.out).lt
    have rf:=(hK2.Bp HP.out).open_
    have hb3:Below w2.heap.size w2 (w2.alloc (.cells MC fP)):=(Below.refl _ _).alloc (Nat.le_refl _) _
    obtain⟨w4,hw4⟩:∃w4,w4=(((w2.alloc (.cells MC fP)).setCell ⟨gQ,q*2,none⟩ (.bool false)).setCell ⟨gQ,q*2+1,none⟩ (.slice (some ⟨w2.heap.size,0,none⟩) 6 6)).drew:=⟨_,rfl⟩
    have HR4:=hid (show RS B wb g w (w.heap.size+1) _ xs _ ⟨k.mods,k.mem,k.nodes,k.pipes,k.procs.set q ⟨false,List.replicate 6 Cf.noEnd⟩⟩ w4 by
     rw[hw4]
     exact((HR2.out.below hb3).put2 (hK2.putProc hb3 rfl HP.out.pv HP.out.proc false (A':=some ⟨w2.heap.size,0,none⟩) (c':=6) (es:=List.replicate 6 Cf.noEnd) (.inr ⟨w2.heap.size,rfl,Nat.le_refl _,hBk w2⟩) (Nat.le_refl _)) ((hK2.below hb3).Bp HP.out).box (by decide)).draw 1)
    have HTd:=hid (yw HG.out q ⟨false,List.replicate 6 Cf.noEnd⟩ rfl HR4.out.st)
    have Hw4:=hid hw4
    clear hK2 hw4 HR2 hBk hb3
    go_wp2_with fail
    go_region
    rw[← World.setCell_alloc_past _ _ _ _ (by simpa [World.setCell] using rl),← World.setCell_alloc_past _ _ _ _ rl,← Hw4.out]
    clear c4 kl r0 r1 rl rf a0 al Hw4 hmk
    go_wp2_with fail
    refine HTd.out.mono ?_
    rintro e w5 ⟨rfl,hK5,hp5⟩
    have HR5:=hid (HR4.out.tidy hK5 hp5)
    obtain rfl:=HT.out
    clear HTd hK5 hp5 HR4
    obtain⟨p0,p1,p2,f0,hl9⟩:=HR5.out.box
    have HFin:=hid HR5.out.fin
    clear HR5 HT HG HP HX
    go_wp2
    refine bodyPost_ret (v:=.agg #[.int .i64 0,.int .i64 0,.string ⟨#[]⟩]) (by simp[results,Tryz.results44,go_sem,p0,p1,p2]) rfl ?_
    exact⟨rfl,by(show ah _ _ _ _ (Cf.iY _) _);with_reducible exact HFin.out _ _ _⟩
   clear HF HI HZ2
   have hk5:(kd == 5)=false:=by rw[beq_eq_false_iff_ne];exact h5
   have hk9:(kd == 9)=false:=by rw[beq_eq_false_iff_ne];exact h9
   have hk10:(kd == 10)=false:=by rw[beq_eq_false_iff_ne];exact h10
   have Oy:(kd == 11)=false:=by rw[beq_eq_false_iff_ne];exact h11
   replace HT:=hid (show D=if Cf.aI nn 6=true∧(Cf.aH k q nn.toNat).kind≠0 then Cf.lV k q nn.toNat ⟨kd,q,nn,mm,nm,da⟩ else Cf.ai k 6 from HT.out.trans (by
    unfold Cf.dI;rw[if_neg (by exact h5),if_neg (by exact h9),if_neg (by exact h10),if_neg (by exact h11),HX.out];simp only[HP.out.len]))
   obtain⟨c,hc⟩:∃c,c=decide (¬(Cf.aI nn 6=true∧(Cf.aH k q nn.toNat).kind≠0)):=⟨_,rfl⟩
   have HC:=hid hc
   have HI:=hid (fun W=>dY nn 0 5 W)
   have a2:=HA2.out.cell 2
   simp only[gq]at a2
   have NW:=hid (show kd=6∨kd=7∨kd=8 by omega)
   clear hc h5 h9 h10 h11
   go_upto_region 43 with fail
   go_cut [217] from 198 to 218 (fun v wx=>v = .bool c∧∃n,wx=w2.drewN n)
   case first=>
    cases hin:Cf.inB nn 0 5
    ·rw[hin]at HI
     have hcv:c=true:=by rw[HC.out,decide_eq_true_eq];intro h1;have:=h1.1;simp[Cf.inB,Cf.aI]at hin this;omega
     clear hin HC
     go_quiet ((go_at_call 39;exact dJ (HI.out _)))
     go_wp2
     go_meet
     case rel=>exact⟨by rw[hcv],_,rfl⟩
    ·rw[hin]at HI
     obtain⟨i,rfl,hi⟩:∃i:Nat,nn=i∧i<6:=⟨nn.toNat,by simp[Cf.inB]at hin;omega,by simp[Cf.inB]at hin;omega⟩
     have hes:es[i]?=some (Cf.aH k q i):=by have:=HG.out.toPre.end_ hq hi;rwa [HX.out]at this
     obtain⟨⟨ek,en,ep⟩,he⟩:∃e,e=Cf.aH k q i:=⟨_,rfl⟩
     rw[← he]at hes
     have hcv:c=(ek == 0):=by rw[HC.out,Int.toNat_natCast,← he,Bool.eq_iff_iff];simp[Cf.aI];omega
     have c4:=HR2.out.st.ptr.c4
     simp only[HG.out.procsL]at c4
     have kl:=HR2.out.st.box.lt
     have r1:=HR2.out.st.p1 HP.out
     have rl:=(HR2.out.st.Bp HP.out).lt
     have e0:w2.cell? ⟨gE,i*3,none⟩=_:=(HR2.out.st.Be HP.out).cell hes (j:=0) rfl
     have el:=(HR2.out.st.Be HP.out).lt
     clear hin HC hes he
     go_quiet ((go_at_call 39;exact dJ (HI.out _)))
     go_wp2
     go_meet
     case rel=>exact⟨by rw[hcv],_,rfl⟩
   case rest=>
    obtain⟨rfl,n,rfl⟩:=hcut
    have HR3:=hid (HR2.out.draw n)
    have HA3:=hid (HA2.out.draw n)
    clear HR2 HA2 HI a0 al a2
    generalize w2.drewN n=w3 at *
    cases c
    ·have hcc:Cf.aI nn 6=true∧(Cf.aH k q nn.toNat).kind≠0:=by have:=of_decide_eq_false HC.out.symm;exact Classical.not_not.1 this
     replace HT:=hid (HT.out.trans (if_pos hcc))
     obtain⟨i,rfl,hi⟩:∃i:Nat,nn=i∧i<6:=by
      have h1:=hcc.1
      simp[Cf.aI]at h1
      exact⟨nn.toNat,by omega,by omega⟩
     have he0:=hcc.2
     rw[Int.toNat_natCast]at HT he0
     have H0:=hid he0
     clear hcc he0 HC
     have hA3:=HA3.out
     have a0:=hA3.cell 0
     have a2:=hA3.cell 2
     have a3:=hA3.cell 3
     have a5:=hA3.cell 5
     simp only[gq]at a0 a2 a3 a5
     have al:=hA3.lt
     clear HA3 hA3
     by_cases h7:kd=7
     ·subst h7
      have HV:=hid (BJ k q i mm w3 HR3.out.st HG.out hq hi H0.out)
      obtain⟨Dk,ac,an,ad⟩:=D
      replace HT:=hid (show Cf.Did.mk Dk ⟨ac,an,ad⟩=Cf.gI k q i mm from HT.out)
      rw[← HT.out]at HV
      clear HT HX HG HP
      go_wp2_with fail
      refine HV.out.mono ?_
      rintro e w4 ⟨rfl,hf4⟩
      obtain⟨a4,xs4,ps4,hR4⟩:=HR3.out.done hf4
      have HR4:=hid hR4
      simp only[aF]
      clear hf4 hR4 HV HR3
      obtain⟨p0,p1,p2,f0,hl9⟩:=HR4.out.box
      have HFin:=hid HR4.out.fin
      clear HR4 H0
      go_wp2
      refine bodyPost_ret (v:=.agg #[.int .i64 ac,.int .i64 an,.string ⟨ad.toArray⟩]) (by simp[results,Tryz.results44,go_sem,p0,p1,p2]) rfl ?_
      exact⟨rfl,by(show ah _ _ _ _ Dk _);with_reducible exact HFin.out _ _ _⟩
     by_cases h8:kd=8
     ·subst h8
      have HV:=hid (wG k q i da w3 HR3.out.st HG.out hq hi H0.out hdl)
      obtain⟨Dk,ac,an,ad⟩:=D
      replace HT:=hid (show Cf.Did.mk Dk ⟨ac,an,ad⟩=Cf.writeT k q i da from HT.out)
      rw[← HT.out]at HV
      clear HT HX HG HP
      go_wp2_with fail
      refine HV.out.mono ?_
      rintro e w4 ⟨rfl,hf4⟩
      obtain⟨a4,xs4,ps4,hR4⟩:=HR3.out.done hf4
      have HR4:=hid hR4
      simp only[aF]
      clear hf4 hR4 HV HR3
      obtain⟨p0,p1,p2,f0,hl9⟩:=HR4.out.box
      have HFin:=hid HR4.out.fin
      clear HR4 H0
      go_wp2
      refine bodyPost_ret (v:=.agg #[.int .i64 ac,.int .i64 an,.string ⟨ad.toArray⟩]) (by simp[results,Tryz.results44,go_sem,p0,p1,p2]) rfl ?_
      exact⟨rfl,by(show ah _ _ _ _ Dk _);with_reducible exact HFin.out _ _ _⟩
     obtain rfl:kd=6:=NW.out.resolve_right (fun h=>h.elim h7 h8)
     replace HT:=hid (show D=⟨Cf.iY ⟨k.mods,k.mem,k.nodes,k.pipes,k.procs.set q ⟨true,es.set i Cf.noEnd⟩⟩,Cf.kS⟩ from HT.out.trans (by
      unfold Cf.lV;rw[if_neg h7,if_neg h8];unfold Cf.yQ Cf.setEnd Cf.setProc;rw[HX.out]))
     have hes:es[i]?=some (Cf.aH k q i):=by have:=HG.out.toPre.end_ hq hi;rwa [HX.out]at this
     have hK3:=HR3.out.st
     have c4:=hK3.ptr.c4
     simp only[HG.out.procsL]at c4
     have kl:=hK3.box.lt
     have r1:=hK3.p1 HP.out
     have rl:=(hK3.Bp HP.out).lt
     have e0:w3.cell? ⟨gE,i*3,none⟩=_:=(hK3.Be HP.out).cell hes (j:=0) rfl
     have e1:w3.cell? ⟨gE,i*3+1,none⟩=_:=(hK3.Be HP.out).cell hes (j:=1) rfl
     have e2:w3.cell? ⟨gE,i*3+2,none⟩=_:=(hK3.Be HP.out).cell hes (j:=2) rfl
     have el:=(hK3.Be HP.out).lt
     have ef:=(hK3.Be HP.out).open_
     obtain⟨w4,hw4⟩:∃w4,w4=(((w3.setCell ⟨gE,i*3,none⟩ (.int .i64 0)).setCell ⟨gE,i*3+1,none⟩ (.int .i64 0)).setCell ⟨gE,i*3+2,none⟩ (.int .i64 0)).drew:=⟨_,rfl⟩
     have HR4:=hid (show RS B wb g w (w.heap.size+1) _ xs ps ⟨k.mods,k.mem,k.nodes,k.pipes,k.procs.set q ⟨true,es.set i Cf.noEnd⟩⟩ w4 by rw[hw4];exact(HR3.out.put3 (hK3.putEnd HP.out.pv HP.out.proc rfl Cf.noEnd hes) (hK3.box2 HP.out) (by decide)).draw 1)
     have HTd:=hid (yw HG.out q ⟨true,es.set i Cf.noEnd⟩ (by rw[List.length_set];exact HP.out.len) HR4.out.st)
     have Hw4:=hid hw4
     clear hK3 hes hw4 HR3 h7 h8 H0
     go_wp2_with fail
     go_region
     rw[← Hw4.out]
     clear c4 kl r1 rl e0 e1 e2 el ef a0 a2 a3 a5 al Hw4
     go_wp2_with fail
     refine HTd.out.mono ?_
     rintro e w5 ⟨rfl,hK5,hp5⟩
     have HR5:=hid (HR4.out.tidy hK5 hp5)
     obtain rfl:=HT.out
     clear HTd hK5 hp5 HR4
     obtain⟨p0,p1,p2,f0,hl9⟩:=HR5.out.box
     have HFin:=hid HR5.out.fin
     clear HR5 HT HG HP HX
     go_wp2
     refine bodyPost_ret (v:=.agg #[.int .i64 0,.int .i64 0,.string ⟨#[]⟩]) (by simp[results,Tryz.results44,go_sem,p0,p1,p2]) rfl ?_
     exact⟨rfl,by(show ah _ _ _ _ (Cf.iY _) _);with_reducible exact HFin.out _ _ _⟩
    ·obtain rfl:=HT.out.trans (if_neg (of_decide_eq_true HC.out.symm))
     obtain⟨p0,p1,p2,f0,hl9⟩:=HR3.out.box
     have HFin:=hid HR3.out.fin
     clear HR3 HT HC HA3 HG HP HX
     go_wp2
     refine bodyPost_ret (v:=.agg #[.int .i64 6,.int .i64 0,.string ⟨#[]⟩]) (by simp[results,Tryz.results44,go_sem,p0,p1,p2]) rfl ?_
     exact⟨rfl,by(show ah _ _ _ _ k _);with_reducible exact HFin.out _ _ _⟩
  ·obtain rfl:=HT.out.trans (if_neg (of_decide_eq_true HC.out.symm))
   obtain⟨p0,p1,p2,f0,hl9⟩:=HR1.out.box
   have HFin:=hid HR1.out.fin
   clear HR1 HT HC HA1 HG
   go_wp2
   refine bodyPost_ret (v:=.agg #[.int .i64 6,.int .i64 0,.string ⟨#[]⟩]) (by simp[results,Tryz.results44,go_sem,p0,p1,p2]) rfl ?_
   exact⟨rfl,by(show ah _ _ _ _ k _);with_reducible exact HFin.out _ _ _⟩
end
end Go.Proofs.YtnnhhbjbdmgpiaaGreatDoor
