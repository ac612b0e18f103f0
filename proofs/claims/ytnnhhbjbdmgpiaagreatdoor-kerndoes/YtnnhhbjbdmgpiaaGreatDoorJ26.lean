/- Texts of the proofs: RefF. -/
import Derived.Test.YtnnhhbjbdmgpiaaGreatDoorJ25
import Derived.Test.YtnnhhbjbdmgpiaaGreatDoorJ06
set_option linter.unusedSimpArgs false
set_option linter.unusedVariables false
namespace Go.Proofs.YtnnhhbjbdmgpiaaGreatDoor
set_option maxRecDepth 100000
set_option maxHeartbeats 4000000
open Lib (hid)
section
open Go.RowKit
theorem Jk{a b:Int}(h:a=b):Ending.returned (.int .i64 a)=Ending.returned (.int .i64 b):=by rw[h]
theorem Az{f:Nat→Bool}{n:Nat}:(List.range (n+1)).all f=((List.range n).all f && f n):=by
 rw[List.range_succ,List.all_append]
 simp
theorem jv{α:Type}{f:α→Bool}{l:List α}{n:Nat}{x:α}(h:l[n]?=some x):(l.take (n+1)).all f=((l.take n).all f && f x):=by
 rw[List.take_add_one,h,List.all_append]
 simp
theorem take_len{α:Type}{f:α→Bool}{l:List α}{n:Nat}(h:l.length≤n):(l.take n).all f=l.all f:=by rw[List.take_of_length_le h]
theorem EQ{w:World}{g:Nat}{cs:List Value}{w':World}(h:mV w g cs w')(n:Nat):mV w g cs (w'.drewN n):=h.next (jq _ _)
def jH(w:World)(cs:List Value)(b:Nat)(ps:List Value)(w':World):Prop:=Wb w' w.heap.size ae cs∧Wb w' b 69 ps∧Below w.heap.size w w'∧w.heap.size≤b
theorem jH.next{w:World}{cs ps:List Value}{b:Nat}{w' w2:World}(h:jH w cs b ps w')(hb:Below w'.heap.size w' w2):jH w cs b ps w2:=⟨h.1.below hb h.1.lt,h.2.1.below hb h.2.1.lt,h.2.2.1.trans (hb.mono h.2.2.1.size),h.2.2.2⟩
theorem jH.make{w:World}{cs:List Value}{w':World}(h:mV w w.heap.size cs w')(ps:List Value):jH w cs w'.heap.size ps (w'.alloc (.cells ps.toArray 69)):=
 ⟨h.1.alloc _,Wb.new w' _ ps,h.2.alloc h.2.size _,h.2.size⟩
theorem jH.box{w:World}{cs ps:List Value}{b:Nat}{w':World}(h:jH w cs b ps w'):mV w w.heap.size cs w':=⟨h.1,h.2.2.1⟩
def ffo(i:Nat):Oper:=match i with
 | 0=>⟨some 111,.move (Operand.tmp 6),4, "kern.go:90",#[],none⟩
 | 1=>⟨some 112,.move (Operand.tmp 111),4, "kern.go:90",#[⟨0,.data⟩],none⟩
 | 2=>⟨some 113,.load 28 (Operand.tmp 1),28, "kern.go:90",#[⟨1,.guard⟩],some (1,true)⟩
 | 3=>⟨some 114,.fieldAddr 69 (Operand.tmp 9) 1,0, "kern.go:90",#[⟨1,.guard⟩],some (1,true)⟩
 | 4=>⟨some 115,.load 67 (Operand.tmp 114),67, "kern.go:90",#[⟨3,.data⟩,⟨1,.guard⟩],some (1,true)⟩
 | 5=>⟨some 116,.move (Operand.tmp 10),3, "kern.go:90",#[⟨1,.guard⟩],some (1,true)⟩
 | 6=>⟨some 117,.indexAddr 67 (Operand.tmp 115) (Operand.tmp 116),0, "kern.go:90",#[⟨4,.data⟩,⟨5,.data⟩,⟨1,.guard⟩],some (1,true)⟩
 | 7=>⟨some 118,.load 72 (Operand.tmp 117),72, "kern.go:90",#[⟨6,.data⟩,⟨1,.guard⟩],some (1,true)⟩
 | 8=>⟨some 119,.call { callee:=Callee.value (Operand.func 75),args:=#[Operand.tmp 113,Operand.tmp 118],argTypes:=#[28,72] },4, "kern.go:90",#[⟨2,.data⟩,⟨7,.data⟩,⟨1,.chain⟩,⟨1,.guard⟩],some (1,true)⟩
 | 9=>⟨some 120,.pick (Operand.tmp 112) (Operand.tmp 119) (Operand.const (Value.bool false)),4, "kern.go:90",#[⟨1,.data⟩,⟨8,.data⟩],none⟩
 | 10=>⟨some 121,.move (Operand.tmp 120),4, "kern.go:90",#[⟨9,.data⟩,⟨8,.chain⟩],none⟩
 | 11=>⟨some 122,.fieldAddr 69 (Operand.tmp 9) 0,0, "kern.go:90",#[⟨10,.guard⟩],some (10,true)⟩
 | 12=>⟨some 123,.load 4 (Operand.tmp 122),4, "kern.go:90",#[⟨11,.data⟩,⟨10,.guard⟩],some (10,true)⟩
 | 13=>⟨some 124,.move (Operand.tmp 123),4, "kern.go:90",#[⟨12,.data⟩,⟨10,.chain⟩,⟨10,.guard⟩],some (10,true)⟩
 | 14=>⟨some 125,.fieldAddr 69 (Operand.tmp 9) 1,0, "kern.go:90",#[⟨13,.guard⟩],some (13,false)⟩
 | 15=>⟨some 126,.load 67 (Operand.tmp 125),67, "kern.go:90",#[⟨14,.data⟩,⟨13,.guard⟩],some (13,false)⟩
 | 16=>⟨some 127,.move (Operand.tmp 10),3, "kern.go:90",#[⟨13,.guard⟩],some (13,false)⟩
 | 17=>⟨some 128,.indexAddr 67 (Operand.tmp 126) (Operand.tmp 127),0, "kern.go:90",#[⟨15,.data⟩,⟨16,.data⟩,⟨13,.guard⟩],some (13,false)⟩
 | 18=>⟨some 129,.fieldAddr 72 (Operand.tmp 128) 0,0, "kern.go:90",#[⟨17,.data⟩,⟨13,.guard⟩],some (13,false)⟩
 | 19=>⟨some 130,.load 3 (Operand.tmp 129),3, "kern.go:90",#[⟨18,.data⟩,⟨13,.guard⟩],some (13,false)⟩
 | 20=>⟨some 131,.binOp BinOp.eql 3 (Operand.tmp 130) (Operand.const (Value.int IntKind.i64 0)) 3,4, "kern.go:90",#[⟨19,.data⟩,⟨13,.guard⟩],some (13,false)⟩
 | 21=>⟨some 132,.pick (Operand.tmp 124) (Operand.const (Value.bool true)) (Operand.tmp 131),4, "kern.go:90",#[⟨13,.data⟩,⟨20,.data⟩,⟨10,.guard⟩],some (10,true)⟩
 | 22=>⟨some 133,.pick (Operand.tmp 121) (Operand.tmp 132) (Operand.const (Value.bool false)),4, "kern.go:90",#[⟨10,.data⟩,⟨21,.data⟩],none⟩
 | _=>⟨some 6,.assign (Operand.tmp 133),4, "kern.go:90",#[⟨22,.data⟩,⟨13,.chain⟩,⟨0,.phase⟩,⟨1,.phase⟩,⟨2,.phase⟩,⟨3,.phase⟩,⟨4,.phase⟩,⟨5,.phase⟩,⟨6,.phase⟩,⟨7,.phase⟩,⟨8,.phase⟩,⟨9,.phase⟩,⟨10,.phase⟩,⟨11,.phase⟩,⟨12,.phase⟩,⟨13,.phase⟩,⟨14,.phase⟩,⟨15,.phase⟩,⟨16,.phase⟩,⟨17,.phase⟩,⟨18,.phase⟩,⟨19,.phase⟩,⟨20,.phase⟩,⟨21,.phase⟩,⟨22,.phase⟩],none⟩
theorem ffy{P:Program}{ops:Array Oper}{Q:Exit→Act→World→Prop}{md:Region.Mode}{S:World→Prop}{i:Nat}{oi:Oper}{v:Value}{fuel:Nat}{listed:Array Bool}{a:Act}{w:World}(hi:ops[i]?=some oi)(hb:(Region.noSelect ops && Region.free md ops listed i && (Region.ready md ops listed).contains i && Region.wanted oi (yielded ops a.tmps))=true)
  (hQ:∀c a w,Q (.panic c) (a.put oi.dst v) w→Q (.panic c) a w) (hS:S w) (hy:∀w,S w→(execOp a.eval oi).run P w = .ok (.value v) w)
  (h:wpAnyH P md ops Q S fuel (listed.setIfInBounds i true) (a.put oi.dst v) w):wpAnyH P md ops Q S (fuel+1) listed a w:=by
 simp only[Bool.and_eq_true]at hb
 exact wpAnyH_take hi hb.1.1.1 hb.1.1.2 hb.1.2 hQ (.inl ⟨hb.2,hy⟩) hS h
theorem ffn{P:Program}{ops:Array Oper}{Q:Exit→Act→World→Prop}{md:Region.Mode}{S:World→Prop}{i:Nat}{oi:Oper}{fuel:Nat}{listed:Array Bool}{a:Act}{w:World}(hi:ops[i]?=some oi)(hb:(Region.noSelect ops && Region.free md ops listed i && (Region.ready md ops listed).contains i && !Region.wanted oi (yielded ops a.tmps))=true)
  (hQ:∀c a w,Q (.panic c) (a.put oi.dst undef) w→Q (.panic c) a w) (hS:S w)
  (h:wpAnyH P md ops Q S fuel (listed.setIfInBounds i true) (a.put oi.dst undef) w):wpAnyH P md ops Q S (fuel+1) listed a w:=by
 simp only[Bool.and_eq_true,Bool.not_eq_true']at hb
 exact wpAnyH_take hi hb.1.1.1 hb.1.1.2 hb.1.2 hQ (.inr ⟨hb.2,rfl⟩) hS h
set_option maxHeartbeats 8000000 in
theorem tZ(k:Cf.ag)(a:KA)(w:World)(hR:KRd w a k)(hf:kU k):
  Calls Tryz.prog 38 #[.agg (af a k).toArray] w fun e w'=>e = .returned (.int .i64 (Cf.iq k))∧Below w.heap.size w w':=by
 obtain⟨A,ca,M,cm,N,cn,S,cs,Q,cq⟩:=a
 have hK0:mV w w.heap.size (af ⟨A,ca,M,cm,N,cn,S,cs,Q,cq⟩ k) (w.alloc (.cells (af ⟨A,ca,M,cm,N,cn,S,cs,Q,cq⟩ k).toArray ae)):=⟨Wb.new w ae _,(Below.refl _ _).alloc (Nat.le_refl _) _⟩
 have HT:=hid (show Cf.iq k=if Cf.sizedB k then(if Cf.gG k.mods=0 then(if k.mem.all Cf.aV then(if Cf.iK k && (Cf.jT k && Cf.iF k) then 0 else 9) else 2) else Cf.gG k.mods) else 1 from rfl)
 by_cases hsz:Cf.sizedB k=true
 ·obtain⟨z0,z1,z2,z3,z4⟩:k.mods.length≤8∧k.mem.length=1024∧k.nodes.length=8∧k.pipes.length=6∧k.procs.length=4:=by simpa [Cf.sizedB] using hsz
  have HT1:=hid (show Cf.iq k=if Cf.gG k.mods=0 then(if k.mem.all Cf.aV then(if Cf.iK k && (Cf.jT k && Cf.iF k) then 0 else 9) else 2) else Cf.gG k.mods by rw[HT.out,if_pos hsz])
  have HR:=hid hR
  have HF:=hid hf
  obtain⟨xs,hxs,hxm⟩:=hR.mods
  have HXM:=hid hxm
  have HXS:=hid hxs
  simp only at hxs
  have Hz2:=hid z2
  have Hz3:=hid z3
  have Hz4:=hid z4
  obtain⟨KC,hKC⟩:∃KC,KC=af ⟨A,ca,M,cm,N,cn,S,cs,Q,cq⟩ k:=⟨_,rfl⟩
  have KN:KC=[.slice A k.mods.length ca,.slice M 1024 cm,.slice N 8 cn,.slice S 6 cs,.slice Q 4 cq]:=by rw[hKC];simp only[af,z1,z2,z3,z4]
  have HKC:=hid KN
  have HKE:=hid hKC
  rw[← hKC,KN]at hK0
  have HK0:=hid hK0
  have HW:=hid (fun W (hW:Below w.heap.size w W)=>iP k.mem M cm W (RdS.below hR.mem hW) (uJ hf.mem))
  rw[z1]at HW
  simp only[af,z1,z2,z3,z4]
  clear hR hf hxs hxm hK0 hKC KN z1 z2 z3 z4 hsz HT
  go_enter Tryz.func38,Tryz.ntmps38
  go_wp2
  go_loopw [3] (fun i wr=>∃n:Nat,n≤k.mods.length∧i = .int .i64 n∧(∀j,j<n→Cf.pU k.mods j=0)∧mV w w.heap.size KC wr) (fun i _=>k.mods.length-(intOf i).toNat)
  case atStart=>exact⟨0,by omega,rfl,(fun j hj=>by omega),by have:=HK0.out;rw[HKC.out];exact this⟩
  case round=>
   obtain⟨n,hn,rfl,hok,hK⟩:=hrel
   clear HK0
   have Hok:=hid hok
   have HK:=hid hK
   have c0:=hK.1.cell 0
   have c1:=hK.1.cell 1
   rw[HKC.out]at c0 c1
   simp only[gq]at c0 c1
   have hl:=hK.1.lt
   have hsz:=hK.2.size
   clear hok hK
   by_cases hlt:n<k.mods.length
   ·obtain⟨nm,code,data,hx2⟩:∃nm code data,k.mods[n]?=some ⟨nm,code,data⟩:=⟨_,_,_,List.getElem?_eq_getElem hlt⟩
    obtain⟨nm1,A1,l1,c9,B1,d1,e1,hx⟩:∃nm1 A1 l1 c9 B1 d1 e1,xs[n]?=some ⟨nm1,A1,l1,c9,B1,d1,e1⟩:=⟨_,_,_,_,_,_,_,List.getElem?_eq_getElem (by rw[HXM.out.1];exact hlt)⟩
    obtain⟨h1,h2,h3,hC1,hD1⟩:=HXM.out.2 n _ _ hx hx2
    obtain⟨hnl,hcl,hdl⟩:=HF.out.each _ (List.mem_of_getElem? hx2)
    simp only at h1 h2 h3 hC1 hD1 hnl hcl hdl
    subst h1 h2 h3
    rcases HXS.out with h|⟨b,off,rfl,hb,hc⟩
    ·rw[h]at hx;simp at hx
    have HC:=hid hc
    have r0:wr.cell? ⟨b,off+n*3,none⟩=_:=(HK.out.2.cell hb).trans (hc n _ hx 0 _ rfl)
    have r1:wr.cell? ⟨b,off+n*3+1,none⟩=_:=(HK.out.2.cell hb).trans (hc n _ hx 1 _ rfl)
    have r2:wr.cell? ⟨b,off+n*3+2,none⟩=_:=(HK.out.2.cell hb).trans (hc n _ hx 2 _ rfl)
    have HM:=hid (kJ nm1 code data A1 B1 c9 e1 wr (hC1.below HK.out.2) (hD1.below HK.out.2) (uJ hnl) (uJ hcl) (uJ hdl))
    have HmE:=hid (show Cf.pU k.mods n=if Cf.cZ ⟨nm1,code,data⟩=0 then(if (k.mods.take n).any (Cf.eF nm1) then 7 else 0) else Cf.cZ ⟨nm1,code,data⟩ by unfold Cf.pU;rw[hx2])
    have HX:=hid hx
    have HX2:=hid hx2
    clear hx hx2 hC1 hD1 hnl hcl hdl hc
    generalize Cf.cZ ⟨nm1,code,data⟩=z at *
    go_wp2_with fail
    refine HM.out.mono ?_
    rintro e w1 ⟨rfl,hb1⟩
    have HK1:=hid (HK.out.next hb1)
    clear hb1 HM r0 r1 r2 c0 c1 hl hsz
    by_cases hz0:z=0
    ·subst hz0
     go_wp2_with fail
     go_loopw [5] (fun i wr=>∃m:Nat,m≤n∧i = .int .i64 m∧((k.mods.take n).take m).any (Cf.eF nm1)=false∧mV w w.heap.size KC wr) (fun i _=>n-(intOf i).toNat)
     case atStart=>exact⟨0,by omega,rfl,rfl,HK1.out⟩
     case round=>
      obtain⟨m,hm,rfl,hall,hK2⟩:=hrel
      clear HK1
      have aX:=hid hall
      have HK2:=hid hK2
      have c0:=hK2.1.cell 0
      rw[HKC.out]at c0
      simp only[List.getElem?_cons_zero]at c0
      have hl:=hK2.1.lt
      clear hall hK2
      by_cases hlt2:m<n
      ·obtain⟨x2,hy⟩:∃x2,xs[m]?=some x2:=⟨_,List.getElem?_eq_getElem (by rw[HXM.out.1];omega)⟩
       obtain⟨y2,hy2⟩:∃y2,k.mods[m]?=some y2:=⟨_,List.getElem?_eq_getElem (by omega)⟩
       have s0:wr.cell? ⟨b,off+m*3,none⟩=some (.string ⟨x2.name.toArray⟩):=(HK2.out.2.cell hb).trans (HC.out m _ hy 0 _ rfl)
       have s1:wr.cell? ⟨b,off+n*3,none⟩=some (.string ⟨nm1.toArray⟩):=(HK2.out.2.cell hb).trans (HC.out n _ HX.out 0 _ rfl)
       rw[(HXM.out.2 m _ _ hy hy2).1]at s0
       have hyt:(k.mods.take n)[m]?=some y2:=by rw[List.getElem?_take,if_pos hlt2];exact hy2
       clear hy hy2
       by_cases he:y2.name=nm1
       ·have HR7:=hid (show Cf.iq k=7 by
         have ha:=Cf.zi (p:=Cf.eF nm1) hyt (by simp[Cf.eF,he])
         have h7:Cf.pU k.mods n=7:=by rw[HmE.out,ha];simp
         have hE:Cf.gG k.mods=7:=by unfold Cf.gG;rw[Cf.nD Hok.out (by rw[h7];decide) hlt,h7]
         rw[HT1.out,hE];rfl)
        rw[he]at s0
        clear hyt he
        go_wp2_with fail
        go_quiet (fail)
        go_wp2
        go_ret
        exact⟨Jk HR7.out.symm,below_drewN HK2.out.2 _⟩
       ·have he':¬(y2.name == nm1)=true:=by simpa using he
        have HOn:=hid (Cf.fU hyt aX.out (show Cf.eF nm1 y2=false by simp[Cf.eF,he]))
        clear hyt he
        generalize y2.name=s2 at *
        go_wp2_with fail
        go_quiet (fail)
        go_wp2
        go_roundw
        case rel=>exact⟨m+1,by omega,by go_num,HOn.out,EQ HK2.out _⟩
        case measure=>simp[intOf];omega
      ·have HOn:=hid (show ∀j,j<n+1→Cf.pU k.mods j=0 from fun j hj=>by
        rcases Nat.lt_succ_iff_lt_or_eq.1 hj with h|h
        ·exact Hok.out j h
        ·rw[h,HmE.out,Cf.any_take aX.out (by simp;omega)]
         simp)
       go_wp2
       go_roundw
       case rel=>exact⟨n+1,by omega,by go_num,HOn.out,HK2.out⟩
       case measure=>simp[intOf];omega
    ·have HRz:=hid (show Cf.iq k=z by
      have hE:Cf.gG k.mods=z:=by unfold Cf.gG;rw[Cf.nD Hok.out (by rw[HmE.out,if_neg hz0];exact hz0) hlt,HmE.out,if_neg hz0]
      rw[HT1.out,hE,if_neg hz0])
     go_wp2
     go_ret
     exact⟨Jk HRz.out.symm,HK1.out.2⟩
   ·have HM0:=hid (show Cf.gG k.mods=0 from Cf.mg fun j hj=>Hok.out j (by omega))
    have HW2:=hid (HW.out _ HK.out.2)
    cases hq2:k.mem.all Cf.aV
    ·have HR2:=hid (show Cf.iq k=2 by rw[HT1.out,HM0.out,hq2];rfl)
     rw[hq2]at HW2
     clear hq2
     go_wp2_with fail
     refine HW2.out.mono ?_
     rintro e w' ⟨rfl,rfl⟩
     go_wp2
     go_ret
     exact⟨Jk HR2.out.symm,HK.out.2⟩
    ·have HT2:=hid (show Cf.iq k=if Cf.iK k && (Cf.jT k && Cf.iF k) then 0 else 9 by rw[HT1.out,HM0.out,hq2];rfl)
     rw[hq2]at HW2
     clear hq2
     go_wp2_with fail
     refine HW2.out.mono ?_
     rintro e w' ⟨rfl,rfl⟩
     clear c0 c1 hl hsz hlt hn HW HW2
     go_wp2
     go_loopw [6,7] (fun ok i wr=>∃n:Nat,n≤8∧i = .int .i64 n∧ok = .bool ((List.range n).all (Cf.lu k))∧mV w w.heap.size KC wr) (fun _ i _=>8-(intOf i).toNat)
     case atStart=>exact⟨0,by omega,rfl,rfl,HK.out⟩
     case round=>
      obtain⟨n,hn,rfl,rfl,hK⟩:=hrel
      clear HK
      have HK:=hid hK
      have hwc:=fun j=>hK.1.cell j
      rw[HKC.out]at hwc
      have c0:=hwc 0
      have c1:=hwc 1
      have c2:=hwc 2
      have c3:=hwc 3
      have c4:=hwc 4
      simp only[gq]at c0 c1 c2 c3 c4
      have hl:=hK.1.lt
      clear hK hwc
      by_cases hlt:n<8
      ·obtain⟨nd,hx⟩:∃nd,k.nodes[n]?=some nd:=⟨_,List.getElem?_eq_getElem (by rw[Hz2.out];exact hlt)⟩
       have HV:=hid (Bf k ⟨A,ca,M,cm,N,cn,S,cs,Q,cq⟩ n nd wr (HR.out.below HK.out.2) HF.out hx)
       have HfE:=hid (show(List.range (n+1)).all (Cf.lu k)=((List.range n).all (Cf.lu k) && (Cf.bI k.mods.length nd && (Cf.aW nd || Cf.bK k nd.name n))) by rw[Az];unfold Cf.lu;rw[hx])
       rw[← HKE.out,HKC.out]at HV
       clear hx
       generalize (Cf.bI k.mods.length nd && (Cf.aW nd || Cf.bK k nd.name n))=q at *
       cases hok:(List.range n).all (Cf.lu k)
       ·rw[hok]at HfE
        clear HV hok
        go_wp2
        go_roundw
        case rel=>exact⟨n+1,by omega,by go_num,by rw[HfE.out];rfl,HK.out⟩
        case measure=>simp[intOf];omega
       ·rw[hok]at HfE
        clear hok
        go_wp2_with fail
        refine HV.out.mono ?_
        rintro e w2 ⟨rfl,hb2⟩
        have HK2:=hid (HK.out.next hb2)
        clear HV hb2
        go_wp2
        go_roundw
        case rel=>exact⟨n+1,by omega,by go_num,by rw[HfE.out];rfl,HK2.out⟩
        case measure=>simp[intOf];omega
      ·obtain rfl:n=8:=by omega
       obtain⟨F,hF⟩:∃F,F=Cf.iK k:=⟨_,rfl⟩
       have hF2:(List.range 8).all (Cf.lu k)=F:=by rw[hF];unfold Cf.iK;rw[Hz2.out]
       rw[← hF]at HT2
       rw[hF2]
       clear hF hF2 hlt hn
       rw[show((8:Nat):Int)=8 from rfl]
       go_wp2
       clear c0 c1 c2 c3 c4 hl
       go_loopw [6,8] (fun ok i wr=>∃n:Nat,n≤4∧i = .int .i64 n∧ok = .bool (F && (k.procs.take n).all (Cf.kE k))∧mV w w.heap.size KC wr) (fun _ i _=>4-(intOf i).toNat)
       case atStart=>exact⟨0,by omega,rfl,by simp,HK.out⟩
       case round=>
        obtain⟨n,hn,rfl,rfl,hK⟩:=hrel
        clear HK
        obtain⟨wA,hwA⟩:∃wA,wA=wr:=⟨_,rfl⟩
        subst hwA
        have HK:=hid hK
        have hwc:=fun j=>hK.1.cell j
        rw[HKC.out]at hwc
        have c4:=hwc 4
        simp only[gq]at c4
        have hl:=hK.1.lt
        have hsz:=hK.2.size
        clear hK hwc
        by_cases hlt:n<4
        ·obtain⟨ps,hps,hpp⟩:=HR.out.procs
         simp only at hps
         obtain⟨lv,A1,le,c9,hx⟩:∃lv A1 le c9,ps[n]?=some ⟨lv,A1,le,c9⟩:=⟨_,_,_,_,List.getElem?_eq_getElem (by rw[hpp.1,Hz4.out];exact hlt)⟩
         obtain⟨p,hp⟩:∃p,k.procs[n]?=some p:=⟨_,List.getElem?_eq_getElem (by rw[Hz4.out];exact hlt)⟩
         obtain⟨h1,h2,h3⟩:=hpp.2 n _ _ hx hp
         simp only at h1 h2 h3
         subst h1 h2
         have hel:=HF.out.proc p (List.mem_of_getElem? hp)
         unfold big at hel
         rcases hps with h|⟨b,off,rfl,hb,hc⟩
         ·rw[h]at hx;simp at hx
         have r0:wA.cell? ⟨b,off+n*2,none⟩=_:=(HK.out.2.cell hb).trans (hc n _ hx 0 _ rfl)
         have r1:wA.cell? ⟨b,off+n*2+1,none⟩=_:=(HK.out.2.cell hb).trans (hc n _ hx 1 _ rfl)
         have HEn:=hid h3
         have HpE:=hid (show(k.procs.take (n+1)).all (Cf.kE k)=((k.procs.take n).all (Cf.kE k) && (decide (p.ends.length=6) && p.ends.all (fun e=>Cf.fZ k e && (p.live || Cf.aK e)))) by rw[jv hp];rfl)
         have hK5:=jH.make HK.out [.bool p.live,.slice A1 p.ends.length c9]
         have HK5:=hid hK5
         clear hx hp hpp hc h3 hK5
         have HEg:=hid (fun args w=>show(callFunc 75 args).run Tryz.prog w = .ok (.enter 75 args) w by simp[go_sem])
         cases hG:(F && (k.procs.take n).all (Cf.kE k))
         ·have HFL:=hid (show Value.bool (F && ((k.procs.take n).all (Cf.kE k) && (decide (p.ends.length=6) && p.ends.all (fun e=>Cf.fZ k e && (p.live || Cf.aK e))))) = .bool false by rw[← Bool.and_assoc,hG];rfl)
          clear hG
          go_wp2_with fail
          clear r0 r1 hl hsz c4
          go_loopw [6,10] (fun ok i wr'=>∃m:Nat,m≤p.ends.length∧i = .int .i64 m∧ok = .bool false∧jH w KC wA.heap.size [.bool p.live,.slice A1 p.ends.length c9] wr') (fun _ i _=>p.ends.length-(intOf i).toNat)
          case atStart=>exact⟨0,by omega,rfl,rfl,HK5.out⟩
          case round=>
           obtain⟨m,hm,rfl,rfl,hK7⟩:=hrel
           clear HK5
           have HK7:=hid hK7
           obtain⟨q0,q1, -, -⟩:=JM hK7.2.1
           have hwc:=fun j=>hK7.1.cell j
           rw[HKC.out]at hwc
           have c0:=hwc 0
           have c1:=hwc 1
           have c2:=hwc 2
           have c3:=hwc 3
           have c4:=hwc 4
           simp only[gq]at c0 c1 c2 c3 c4
           have hl:=hK7.1.lt
           have hl2:=hK7.2.1.lt
           have MI:=hK7.2.2.1.size
           clear hK7 hwc
           by_cases hlt2:m<p.ends.length
           ·go_wp2_with fail
            go_quiet (fail)
            go_wp2
            go_roundw
            case rel=>exact⟨m+1,by omega,by go_num,rfl,HK7.out.next (jq _ _)⟩
            case measure=>simp[intOf];omega
           ·go_wp2
            go_roundw
            case rel=>exact⟨n+1,by omega,by go_num,by rw[HpE.out,HFL.out],HK7.out.box⟩
            case measure=>simp[intOf];omega
         ·by_cases h6:p.ends.length=6
          ·have HTL:=hid (show Value.bool (F && ((k.procs.take n).all (Cf.kE k) && (decide (p.ends.length=6) && p.ends.all (fun e=>Cf.fZ k e && (p.live || Cf.aK e))))) = .bool (p.ends.all (fun e=>Cf.fZ k e && (p.live || Cf.aK e))) by rw[← Bool.and_assoc,hG,decide_eq_true h6];rfl)
           have h6':((p.ends.length:Int) == 6)=true:=by simp[h6]
           clear hG h6
           go_wp2_with fail
           clear r0 r1 hl hsz c4
           go_loopw [6,10] (fun ok i wr'=>∃m:Nat,m≤p.ends.length∧i = .int .i64 m∧ok = .bool ((p.ends.take m).all (fun e=>Cf.fZ k e && (p.live || Cf.aK e)))∧jH w KC wA.heap.size [.bool p.live,.slice A1 p.ends.length c9] wr') (fun _ i _=>p.ends.length-(intOf i).toNat)
           case atStart=>exact⟨0,by omega,rfl,rfl,HK5.out⟩
           case round=>
            obtain⟨m,hm,rfl,rfl,hK7⟩:=hrel
            clear HK5
            have HK7:=hid hK7
            obtain⟨q0,q1, -, -⟩:=JM hK7.2.1
            have hwc:=fun j=>hK7.1.cell j
            rw[HKC.out]at hwc
            have c0:=hwc 0
            have c1:=hwc 1
            have c2:=hwc 2
            have c3:=hwc 3
            have c4:=hwc 4
            simp only[gq]at c0 c1 c2 c3 c4
            have hl:=hK7.1.lt
            have hl2:=hK7.2.1.lt
            have MI:=hK7.2.2.1.size
            clear hK7 hwc
            by_cases hlt2:m<p.ends.length
            ·obtain⟨kd,nd,po,hy⟩:∃kd nd po,p.ends[m]?=some ⟨kd,nd,po⟩:=⟨_,_,_,List.getElem?_eq_getElem hlt2⟩
             have HaE:=hid (show(p.ends.take (m+1)).all (fun e=>Cf.fZ k e && (p.live || Cf.aK e))=((p.ends.take m).all (fun e=>Cf.fZ k e && (p.live || Cf.aK e)) && (Cf.fZ k ⟨kd,nd,po⟩ && (p.live || decide (kd=0)))) by rw[jv hy];rfl)
             cases hok:(p.ends.take m).all (fun e=>Cf.fZ k e && (p.live || Cf.aK e))
             ·rw[hok]at HaE
              clear hok hy
              go_wp2_with fail
              go_quiet (fail)
              go_wp2
              go_roundw
              case rel=>exact⟨m+1,by omega,by go_num,by rw[HaE.out];rfl,HK7.out.next (jq _ _)⟩
              case measure=>simp[intOf];omega
             ·rw[hok]at HaE
              clear hok
              rcases HEn.out with h|⟨b2,o2,hA2,hb2,hc2⟩
              ·rw[h]at hy;simp at hy
              subst hA2
              have hall:∀W,jH w KC wA.heap.size [.bool p.live,.slice (some ⟨b2,o2,none⟩) p.ends.length c9] W→jH w KC wA.heap.size [.bool p.live,.slice (some ⟨b2,o2,none⟩) p.ends.length c9] W∧W.cell? ⟨w.heap.size,0,none⟩=some (.slice A k.mods.length ca)∧W.cell? ⟨w.heap.size,1,none⟩=some (.slice M 1024 cm)∧W.cell? ⟨w.heap.size,2,none⟩=some (.slice N 8 cn)∧W.cell? ⟨w.heap.size,3,none⟩=some (.slice S 6 cs)∧W.cell? ⟨w.heap.size,4,none⟩=some (.slice (some ⟨b,off,none⟩) 4 cq)∧W.cell? ⟨wA.heap.size,0,none⟩=some (.bool p.live)∧W.cell? ⟨wA.heap.size,1,none⟩=some (.slice (some ⟨b2,o2,none⟩) p.ends.length c9)∧W.cell? ⟨b2,o2+m*3,none⟩=some (.int .i64 kd)∧W.cell? ⟨b2,o2+m*3+1,none⟩=some (.int .i64 nd)∧W.cell? ⟨b2,o2+m*3+2,none⟩=some (.int .i64 po)∧w.heap.size<W.heap.size∧wA.heap.size<W.heap.size:=by
               intro W hW
               have hwc:=fun j=>hW.1.cell j
               rw[HKC.out]at hwc
               exact⟨hW,hwc 0,hwc 1,hwc 2,hwc 3,hwc 4,hW.2.1.cell 0,hW.2.1.cell 1,(hW.2.2.1.cell hb2).trans (hc2 m _ hy 0 _ rfl),(hW.2.2.1.cell hb2).trans (hc2 m _ hy 1 _ rfl),(hW.2.2.1.cell hb2).trans (hc2 m _ hy 2 _ rfl),hW.1.lt,hW.2.1.lt⟩
              have HV:=hid (fun W (hW:Below w.heap.size w W)=>Dj k ⟨A,ca,M,cm,N,cn,S,cs,some ⟨b,off,none⟩,cq⟩ ⟨kd,nd,po⟩ W (HR.out.below hW) Hz2.out Hz3.out)
              rw[← HKE.out,HKC.out]at HV
              simp only[bH]at HV
              clear hy hc2
              generalize Cf.fZ k ⟨kd,nd,po⟩=r at *
              generalize hlv:p.live=lv at *
              have Hlv:=hid hlv
              clear hlv
              have IU:lv=true∨lv=false:=by cases lv<;>simp
              by_cases hk0:kd=0
              ·subst hk0
               obtain⟨Sx,hSx⟩:∃Sx:World→Prop,Sx=fun W=>jH w KC wA.heap.size [.bool lv,.slice (some ⟨b2,o2,none⟩) p.ends.length c9] W:=⟨_,rfl⟩
               have HSx:=hid (show ∀W,jH w KC wA.heap.size [.bool lv,.slice (some ⟨b2,o2,none⟩) p.ends.length c9] W→Sx W from fun W h=>by rw[hSx];exact h)
               have HSk:=hid (show ∀W,Sx W→jH w KC wA.heap.size [.bool lv,.slice (some ⟨b2,o2,none⟩) p.ends.length c9] W from fun W h=>by rw[hSx]at h;exact h)
               have HSb:=hid (show ∀W,Sx W→Below w.heap.size w W from fun W h=>by rw[hSx]at h;exact h.2.2.1)
               have HSo:=hid (fun W (h:Sx W)=>hall W (by rw[hSx]at h;exact h))
               clear hSx hall
               go_wp2_with fail
               clear c0 c1 c2 c3 c4 q0 q1 hl hl2
               cases r
               ·skip
                refine wp_region_noPanic ?_
                refine wp_region_held_drew (S:=Sx) (by kernel_rfl) (by exact HSx.out _ (HK7.out.next (Below.refl _ _).drew)) (fun hHeld=>?_)
                refine ffy (i:=0) (oi:=ffo 0) (v:=.bool true) rfl (by kernel_rfl) (fun _ _ _ h=>h) hHeld (fun w hSw=>by simp only[ffo];obtain⟨_,g0,g1,g2,g3,g4,g5,g6,g7,g8,g9,g10,g11⟩:=HSo.out _ hSw;go_simp) ?_
                (try simp only[ffo,Act.put,sq])
                refine ffy (i:=1) (oi:=ffo 1) (v:=.bool true) rfl (by kernel_rfl) (fun _ _ _ h=>h) hHeld (fun w hSw=>by simp only[ffo];obtain⟨_,g0,g1,g2,g3,g4,g5,g6,g7,g8,g9,g10,g11⟩:=HSo.out _ hSw;go_simp) ?_
                (try simp only[ffo,Act.put,sq])
                refine ffy (i:=2) (oi:=ffo 2) (v:=.agg #[.slice A k.mods.length ca,.slice M 1024 cm,.slice N 8 cn,.slice S 6 cs,.slice (some ⟨b,off,none⟩) 4 cq]) rfl (by kernel_rfl) (fun _ _ _ h=>h) hHeld (fun w hSw=>by simp only[ffo];obtain⟨_,g0,g1,g2,g3,g4,g5,g6,g7,g8,g9,g10,g11⟩:=HSo.out _ hSw;go_simp) ?_
                (try simp only[ffo,Act.put,sq])
                refine ffy (i:=3) (oi:=ffo 3) (v:=.pointer (some ⟨wA.heap.size,1,none⟩)) rfl (by kernel_rfl) (fun _ _ _ h=>h) hHeld (fun w hSw=>by simp only[ffo];obtain⟨_,g0,g1,g2,g3,g4,g5,g6,g7,g8,g9,g10,g11⟩:=HSo.out _ hSw;go_simp) ?_
                (try simp only[ffo,Act.put,sq])
                refine ffy (i:=4) (oi:=ffo 4) (v:=.slice (some ⟨b2,o2,none⟩) p.ends.length c9) rfl (by kernel_rfl) (fun _ _ _ h=>h) hHeld (fun w hSw=>by simp only[ffo];obtain⟨_,g0,g1,g2,g3,g4,g5,g6,g7,g8,g9,g10,g11⟩:=HSo.out _ hSw;go_simp) ?_
                (try simp only[ffo,Act.put,sq])
                refine ffy (i:=5) (oi:=ffo 5) (v:=.int .i64 m) rfl (by kernel_rfl) (fun _ _ _ h=>h) hHeld (fun w hSw=>by simp only[ffo];obtain⟨_,g0,g1,g2,g3,g4,g5,g6,g7,g8,g9,g10,g11⟩:=HSo.out _ hSw;go_simp) ?_
                (try simp only[ffo,Act.put,sq])
                refine ffy (i:=6) (oi:=ffo 6) (v:=.pointer (some ⟨b2,o2+m*3,none⟩)) rfl (by kernel_rfl) (fun _ _ _ h=>h) hHeld (fun w hSw=>by simp only[ffo];obtain⟨_,g0,g1,g2,g3,g4,g5,g6,g7,g8,g9,g10,g11⟩:=HSo.out _ hSw;go_simp) ?_
                (try simp only[ffo,Act.put,sq])
                refine ffy (i:=7) (oi:=ffo 7) (v:=.agg #[.int .i64 0,.int .i64 nd,.int .i64 po]) rfl (by kernel_rfl) (fun _ _ _ h=>h) hHeld (fun w hSw=>by simp only[ffo];obtain⟨_,g0,g1,g2,g3,g4,g5,g6,g7,g8,g9,g10,g11⟩:=HSo.out _ hSw;go_simp) ?_
                (try simp only[ffo,Act.put,sq])
                refine wpAnyH_ready (rs:=[8]) (by kernel_rfl) (by simp) ?_
                refine AllReadyH.cons (o:=ffo 8) rfl (fun K hK=>?_) AllReadyH.nil
                simp only[ffo]
                go_simp
                go_at_call 75;refine(HV.out _ (HSb.out _ hHeld)).mono ?_;rintro e w' ⟨rfl,hb'⟩
                go_wp2_with fail
                refine hK.out _ _ (HSx.out _ ((HSk.out _ hHeld).next hb')) (fun hHeld=>?_)
                clear hK K hb'
                (try simp only[ffo,Act.put,sq])
                refine ffy (i:=9) (oi:=ffo 9) (v:=.bool false) rfl (by kernel_rfl) (fun _ _ _ h=>h) hHeld (fun w hSw=>by simp only[ffo];obtain⟨_,g0,g1,g2,g3,g4,g5,g6,g7,g8,g9,g10,g11⟩:=HSo.out _ hSw;go_simp) ?_
                (try simp only[ffo,Act.put,sq])
                refine ffy (i:=10) (oi:=ffo 10) (v:=.bool false) rfl (by kernel_rfl) (fun _ _ _ h=>h) hHeld (fun w hSw=>by simp only[ffo];obtain⟨_,g0,g1,g2,g3,g4,g5,g6,g7,g8,g9,g10,g11⟩:=HSo.out _ hSw;go_simp) ?_
                (try simp only[ffo,Act.put,sq])
                refine ffn (i:=11) (oi:=ffo 11) rfl (by kernel_rfl) (fun _ _ _ h=>h) hHeld ?_
                (try simp only[ffo,Act.put,sq])
                refine ffn (i:=12) (oi:=ffo 12) rfl (by kernel_rfl) (fun _ _ _ h=>h) hHeld ?_
                (try simp only[ffo,Act.put,sq])
                refine ffn (i:=13) (oi:=ffo 13) rfl (by kernel_rfl) (fun _ _ _ h=>h) hHeld ?_
                (try simp only[ffo,Act.put,sq])
                refine ffn (i:=14) (oi:=ffo 14) rfl (by kernel_rfl) (fun _ _ _ h=>h) hHeld ?_
                (try simp only[ffo,Act.put,sq])
                refine ffn (i:=15) (oi:=ffo 15) rfl (by kernel_rfl) (fun _ _ _ h=>h) hHeld ?_
                (try simp only[ffo,Act.put,sq])
                refine ffn (i:=16) (oi:=ffo 16) rfl (by kernel_rfl) (fun _ _ _ h=>h) hHeld ?_
                (try simp only[ffo,Act.put,sq])
                refine ffn (i:=17) (oi:=ffo 17) rfl (by kernel_rfl) (fun _ _ _ h=>h) hHeld ?_
                (try simp only[ffo,Act.put,sq])
                refine ffn (i:=18) (oi:=ffo 18) rfl (by kernel_rfl) (fun _ _ _ h=>h) hHeld ?_
                (try simp only[ffo,Act.put,sq])
                refine ffn (i:=19) (oi:=ffo 19) rfl (by kernel_rfl) (fun _ _ _ h=>h) hHeld ?_
                (try simp only[ffo,Act.put,sq])
                refine ffn (i:=20) (oi:=ffo 20) rfl (by kernel_rfl) (fun _ _ _ h=>h) hHeld ?_
                (try simp only[ffo,Act.put,sq])
                refine ffn (i:=21) (oi:=ffo 21) rfl (by kernel_rfl) (fun _ _ _ h=>h) hHeld ?_
                (try simp only[ffo,Act.put,sq])
                refine ffy (i:=22) (oi:=ffo 22) (v:=.bool false) rfl (by kernel_rfl) (fun _ _ _ h=>h) hHeld (fun w hSw=>by simp only[ffo];obtain⟨_,g0,g1,g2,g3,g4,g5,g6,g7,g8,g9,g10,g11⟩:=HSo.out _ hSw;go_simp) ?_
                (try simp only[ffo,Act.put,sq])
                refine ffy (i:=23) (oi:=ffo 23) (v:=.bool false) rfl (by kernel_rfl) (fun _ _ _ h=>h) hHeld (fun w hSw=>by simp only[ffo];obtain⟨_,g0,g1,g2,g3,g4,g5,g6,g7,g8,g9,g10,g11⟩:=HSo.out _ hSw;go_simp) ?_
                (try simp only[ffo,Act.put,sq])
                refine wpAnyH_done (by kernel_rfl) ?_ _
                refine NoPanic.normal ?_
                have HK8:=hid (HSk.out _ hHeld)
                clear hHeld
                go_wp2
                go_roundw
                case rel=>exact⟨m+1,by omega,by go_num,by rw[HaE.out];rfl,HK8.out⟩
                case measure=>simp[intOf];omega
               ·rcases IU with rfl|rfl
                ·skip
                 refine wp_region_noPanic ?_
                 refine wp_region_held_drew (S:=Sx) (by kernel_rfl) (by exact HSx.out _ (HK7.out.next (Below.refl _ _).drew)) (fun hHeld=>?_)
                 refine ffy (i:=0) (oi:=ffo 0) (v:=.bool true) rfl (by kernel_rfl) (fun _ _ _ h=>h) hHeld (fun w hSw=>by simp only[ffo];obtain⟨_,g0,g1,g2,g3,g4,g5,g6,g7,g8,g9,g10,g11⟩:=HSo.out _ hSw;go_simp) ?_
                 (try simp only[ffo,Act.put,sq])
                 refine ffy (i:=1) (oi:=ffo 1) (v:=.bool true) rfl (by kernel_rfl) (fun _ _ _ h=>h) hHeld (fun w hSw=>by simp only[ffo];obtain⟨_,g0,g1,g2,g3,g4,g5,g6,g7,g8,g9,g10,g11⟩:=HSo.out _ hSw;go_simp) ?_
                 (try simp only[ffo,Act.put,sq])
                 refine ffy (i:=2) (oi:=ffo 2) (v:=.agg #[.slice A k.mods.length ca,.slice M 1024 cm,.slice N 8 cn,.slice S 6 cs,.slice (some ⟨b,off,none⟩) 4 cq]) rfl (by kernel_rfl) (fun _ _ _ h=>h) hHeld (fun w hSw=>by simp only[ffo];obtain⟨_,g0,g1,g2,g3,g4,g5,g6,g7,g8,g9,g10,g11⟩:=HSo.out _ hSw;go_simp) ?_
                 (try simp only[ffo,Act.put,sq])
                 refine ffy (i:=3) (oi:=ffo 3) (v:=.pointer (some ⟨wA.heap.size,1,none⟩)) rfl (by kernel_rfl) (fun _ _ _ h=>h) hHeld (fun w hSw=>by simp only[ffo];obtain⟨_,g0,g1,g2,g3,g4,g5,g6,g7,g8,g9,g10,g11⟩:=HSo.out _ hSw;go_simp) ?_
                 (try simp only[ffo,Act.put,sq])
                 refine ffy (i:=4) (oi:=ffo 4) (v:=.slice (some ⟨b2,o2,none⟩) p.ends.length c9) rfl (by kernel_rfl) (fun _ _ _ h=>h) hHeld (fun w hSw=>by simp only[ffo];obtain⟨_,g0,g1,g2,g3,g4,g5,g6,g7,g8,g9,g10,g11⟩:=HSo.out _ hSw;go_simp) ?_
                 (try simp only[ffo,Act.put,sq])
                 refine ffy (i:=5) (oi:=ffo 5) (v:=.int .i64 m) rfl (by kernel_rfl) (fun _ _ _ h=>h) hHeld (fun w hSw=>by simp only[ffo];obtain⟨_,g0,g1,g2,g3,g4,g5,g6,g7,g8,g9,g10,g11⟩:=HSo.out _ hSw;go_simp) ?_
                 (try simp only[ffo,Act.put,sq])
                 refine ffy (i:=6) (oi:=ffo 6) (v:=.pointer (some ⟨b2,o2+m*3,none⟩)) rfl (by kernel_rfl) (fun _ _ _ h=>h) hHeld (fun w hSw=>by simp only[ffo];obtain⟨_,g0,g1,g2,g3,g4,g5,g6,g7,g8,g9,g10,g11⟩:=HSo.out _ hSw;go_simp) ?_
                 (try simp only[ffo,Act.put,sq])
                 refine ffy (i:=7) (oi:=ffo 7) (v:=.agg #[.int .i64 0,.int .i64 nd,.int .i64 po]) rfl (by kernel_rfl) (fun _ _ _ h=>h) hHeld (fun w hSw=>by simp only[ffo];obtain⟨_,g0,g1,g2,g3,g4,g5,g6,g7,g8,g9,g10,g11⟩:=HSo.out _ hSw;go_simp) ?_
                 (try simp only[ffo,Act.put,sq])
                 refine wpAnyH_ready (rs:=[8]) (by kernel_rfl) (by simp) ?_
                 refine AllReadyH.cons (o:=ffo 8) rfl (fun K hK=>?_) AllReadyH.nil
                 simp only[ffo]
                 go_simp
                 go_at_call 75;refine(HV.out _ (HSb.out _ hHeld)).mono ?_;rintro e w' ⟨rfl,hb'⟩
                 go_wp2_with fail
                 refine hK.out _ _ (HSx.out _ ((HSk.out _ hHeld).next hb')) (fun hHeld=>?_)
                 clear hK K hb'
                 (try simp only[ffo,Act.put,sq])
                 refine ffy (i:=9) (oi:=ffo 9) (v:=.bool true) rfl (by kernel_rfl) (fun _ _ _ h=>h) hHeld (fun w hSw=>by simp only[ffo];obtain⟨_,g0,g1,g2,g3,g4,g5,g6,g7,g8,g9,g10,g11⟩:=HSo.out _ hSw;go_simp) ?_
                 (try simp only[ffo,Act.put,sq])
                 refine ffy (i:=10) (oi:=ffo 10) (v:=.bool true) rfl (by kernel_rfl) (fun _ _ _ h=>h) hHeld (fun w hSw=>by simp only[ffo];obtain⟨_,g0,g1,g2,g3,g4,g5,g6,g7,g8,g9,g10,g11⟩:=HSo.out _ hSw;go_simp) ?_
                 (try simp only[ffo,Act.put,sq])
                 refine ffy (i:=11) (oi:=ffo 11) (v:=.pointer (some ⟨wA.heap.size,0,none⟩)) rfl (by kernel_rfl) (fun _ _ _ h=>h) hHeld (fun w hSw=>by simp only[ffo];obtain⟨_,g0,g1,g2,g3,g4,g5,g6,g7,g8,g9,g10,g11⟩:=HSo.out _ hSw;go_simp) ?_
                 (try simp only[ffo,Act.put,sq])
                 refine ffy (i:=12) (oi:=ffo 12) (v:=.bool true) rfl (by kernel_rfl) (fun _ _ _ h=>h) hHeld (fun w hSw=>by simp only[ffo];obtain⟨_,g0,g1,g2,g3,g4,g5,g6,g7,g8,g9,g10,g11⟩:=HSo.out _ hSw;go_simp) ?_
                 (try simp only[ffo,Act.put,sq])
                 refine ffy (i:=13) (oi:=ffo 13) (v:=.bool true) rfl (by kernel_rfl) (fun _ _ _ h=>h) hHeld (fun w hSw=>by simp only[ffo];obtain⟨_,g0,g1,g2,g3,g4,g5,g6,g7,g8,g9,g10,g11⟩:=HSo.out _ hSw;go_simp) ?_
                 (try simp only[ffo,Act.put,sq])
                 refine ffn (i:=14) (oi:=ffo 14) rfl (by kernel_rfl) (fun _ _ _ h=>h) hHeld ?_
                 (try simp only[ffo,Act.put,sq])
                 refine ffn (i:=15) (oi:=ffo 15) rfl (by kernel_rfl) (fun _ _ _ h=>h) hHeld ?_
                 (try simp only[ffo,Act.put,sq])
                 refine ffn (i:=16) (oi:=ffo 16) rfl (by kernel_rfl) (fun _ _ _ h=>h) hHeld ?_
                 (try simp only[ffo,Act.put,sq])
                 refine ffn (i:=17) (oi:=ffo 17) rfl (by kernel_rfl) (fun _ _ _ h=>h) hHeld ?_
                 (try simp only[ffo,Act.put,sq])
                 refine ffn (i:=18) (oi:=ffo 18) rfl (by kernel_rfl) (fun _ _ _ h=>h) hHeld ?_
                 (try simp only[ffo,Act.put,sq])
                 refine ffn (i:=19) (oi:=ffo 19) rfl (by kernel_rfl) (fun _ _ _ h=>h) hHeld ?_
                 (try simp only[ffo,Act.put,sq])
                 refine ffn (i:=20) (oi:=ffo 20) rfl (by kernel_rfl) (fun _ _ _ h=>h) hHeld ?_
                 (try simp only[ffo,Act.put,sq])
                 refine ffy (i:=21) (oi:=ffo 21) (v:=.bool true) rfl (by kernel_rfl) (fun _ _ _ h=>h) hHeld (fun w hSw=>by simp only[ffo];obtain⟨_,g0,g1,g2,g3,g4,g5,g6,g7,g8,g9,g10,g11⟩:=HSo.out _ hSw;go_simp) ?_
                 (try simp only[ffo,Act.put,sq])
                 refine ffy (i:=22) (oi:=ffo 22) (v:=.bool true) rfl (by kernel_rfl) (fun _ _ _ h=>h) hHeld (fun w hSw=>by simp only[ffo];obtain⟨_,g0,g1,g2,g3,g4,g5,g6,g7,g8,g9,g10,g11⟩:=HSo.out _ hSw;go_simp) ?_
                 (try simp only[ffo,Act.put,sq])
                 refine ffy (i:=23) (oi:=ffo 23) (v:=.bool true) rfl (by kernel_rfl) (fun _ _ _ h=>h) hHeld (fun w hSw=>by simp only[ffo];obtain⟨_,g0,g1,g2,g3,g4,g5,g6,g7,g8,g9,g10,g11⟩:=HSo.out _ hSw;go_simp) ?_
                 (try simp only[ffo,Act.put,sq])
                 refine wpAnyH_done (by kernel_rfl) ?_ _
                 refine NoPanic.normal ?_
                 have HK8:=hid (HSk.out _ hHeld)
                 clear hHeld
                 go_wp2
                 go_roundw
                 case rel=>exact⟨m+1,by omega,by go_num,by rw[HaE.out];rfl,HK8.out⟩
                 case measure=>simp[intOf];omega
                ·skip
                 refine wp_region_noPanic ?_
                 refine wp_region_held_drew (S:=Sx) (by kernel_rfl) (by exact HSx.out _ (HK7.out.next (Below.refl _ _).drew)) (fun hHeld=>?_)
                 refine ffy (i:=0) (oi:=ffo 0) (v:=.bool true) rfl (by kernel_rfl) (fun _ _ _ h=>h) hHeld (fun w hSw=>by simp only[ffo];obtain⟨_,g0,g1,g2,g3,g4,g5,g6,g7,g8,g9,g10,g11⟩:=HSo.out _ hSw;go_simp) ?_
                 (try simp only[ffo,Act.put,sq])
                 refine ffy (i:=1) (oi:=ffo 1) (v:=.bool true) rfl (by kernel_rfl) (fun _ _ _ h=>h) hHeld (fun w hSw=>by simp only[ffo];obtain⟨_,g0,g1,g2,g3,g4,g5,g6,g7,g8,g9,g10,g11⟩:=HSo.out _ hSw;go_simp) ?_
                 (try simp only[ffo,Act.put,sq])
                 refine ffy (i:=2) (oi:=ffo 2) (v:=.agg #[.slice A k.mods.length ca,.slice M 1024 cm,.slice N 8 cn,.slice S 6 cs,.slice (some ⟨b,off,none⟩) 4 cq]) rfl (by kernel_rfl) (fun _ _ _ h=>h) hHeld (fun w hSw=>by simp only[ffo];obtain⟨_,g0,g1,g2,g3,g4,g5,g6,g7,g8,g9,g10,g11⟩:=HSo.out _ hSw;go_simp) ?_
                 (try simp only[ffo,Act.put,sq])
                 refine ffy (i:=3) (oi:=ffo 3) (v:=.pointer (some ⟨wA.heap.size,1,none⟩)) rfl (by kernel_rfl) (fun _ _ _ h=>h) hHeld (fun w hSw=>by simp only[ffo];obtain⟨_,g0,g1,g2,g3,g4,g5,g6,g7,g8,g9,g10,g11⟩:=HSo.out _ hSw;go_simp) ?_
                 (try simp only[ffo,Act.put,sq])
                 refine ffy (i:=4) (oi:=ffo 4) (v:=.slice (some ⟨b2,o2,none⟩) p.ends.length c9) rfl (by kernel_rfl) (fun _ _ _ h=>h) hHeld (fun w hSw=>by simp only[ffo];obtain⟨_,g0,g1,g2,g3,g4,g5,g6,g7,g8,g9,g10,g11⟩:=HSo.out _ hSw;go_simp) ?_
                 (try simp only[ffo,Act.put,sq])
                 refine ffy (i:=5) (oi:=ffo 5) (v:=.int .i64 m) rfl (by kernel_rfl) (fun _ _ _ h=>h) hHeld (fun w hSw=>by simp only[ffo];obtain⟨_,g0,g1,g2,g3,g4,g5,g6,g7,g8,g9,g10,g11⟩:=HSo.out _ hSw;go_simp) ?_
                 (try simp only[ffo,Act.put,sq])
                 refine ffy (i:=6) (oi:=ffo 6) (v:=.pointer (some ⟨b2,o2+m*3,none⟩)) rfl (by kernel_rfl) (fun _ _ _ h=>h) hHeld (fun w hSw=>by simp only[ffo];obtain⟨_,g0,g1,g2,g3,g4,g5,g6,g7,g8,g9,g10,g11⟩:=HSo.out _ hSw;go_simp) ?_
                 (try simp only[ffo,Act.put,sq])
                 refine ffy (i:=7) (oi:=ffo 7) (v:=.agg #[.int .i64 0,.int .i64 nd,.int .i64 po]) rfl (by kernel_rfl) (fun _ _ _ h=>h) hHeld (fun w hSw=>by simp only[ffo];obtain⟨_,g0,g1,g2,g3,g4,g5,g6,g7,g8,g9,g10,g11⟩:=HSo.out _ hSw;go_simp) ?_
                 (try simp only[ffo,Act.put,sq])
                 refine wpAnyH_ready (rs:=[8]) (by kernel_rfl) (by simp) ?_
                 refine AllReadyH.cons (o:=ffo 8) rfl (fun K hK=>?_) AllReadyH.nil
                 simp only[ffo]
                 go_simp
                 go_at_call 75;refine(HV.out _ (HSb.out _ hHeld)).mono ?_;rintro e w' ⟨rfl,hb'⟩
                 go_wp2_with fail
                 refine hK.out _ _ (HSx.out _ ((HSk.out _ hHeld).next hb')) (fun hHeld=>?_)
                 clear hK K hb'
                 (try simp only[ffo,Act.put,sq])
                 refine ffy (i:=9) (oi:=ffo 9) (v:=.bool true) rfl (by kernel_rfl) (fun _ _ _ h=>h) hHeld (fun w hSw=>by simp only[ffo];obtain⟨_,g0,g1,g2,g3,g4,g5,g6,g7,g8,g9,g10,g11⟩:=HSo.out _ hSw;go_simp) ?_
                 (try simp only[ffo,Act.put,sq])
                 refine ffy (i:=10) (oi:=ffo 10) (v:=.bool true) rfl (by kernel_rfl) (fun _ _ _ h=>h) hHeld (fun w hSw=>by simp only[ffo];obtain⟨_,g0,g1,g2,g3,g4,g5,g6,g7,g8,g9,g10,g11⟩:=HSo.out _ hSw;go_simp) ?_
                 (try simp only[ffo,Act.put,sq])
                 refine ffy (i:=11) (oi:=ffo 11) (v:=.pointer (some ⟨wA.heap.size,0,none⟩)) rfl (by kernel_rfl) (fun _ _ _ h=>h) hHeld (fun w hSw=>by simp only[ffo];obtain⟨_,g0,g1,g2,g3,g4,g5,g6,g7,g8,g9,g10,g11⟩:=HSo.out _ hSw;go_simp) ?_
                 (try simp only[ffo,Act.put,sq])
                 refine ffy (i:=12) (oi:=ffo 12) (v:=.bool false) rfl (by kernel_rfl) (fun _ _ _ h=>h) hHeld (fun w hSw=>by simp only[ffo];obtain⟨_,g0,g1,g2,g3,g4,g5,g6,g7,g8,g9,g10,g11⟩:=HSo.out _ hSw;go_simp) ?_
                 (try simp only[ffo,Act.put,sq])
                 refine ffy (i:=13) (oi:=ffo 13) (v:=.bool false) rfl (by kernel_rfl) (fun _ _ _ h=>h) hHeld (fun w hSw=>by simp only[ffo];obtain⟨_,g0,g1,g2,g3,g4,g5,g6,g7,g8,g9,g10,g11⟩:=HSo.out _ hSw;go_simp) ?_
                 (try simp only[ffo,Act.put,sq])
                 refine ffy (i:=14) (oi:=ffo 14) (v:=.pointer (some ⟨wA.heap.size,1,none⟩)) rfl (by kernel_rfl) (fun _ _ _ h=>h) hHeld (fun w hSw=>by simp only[ffo];obtain⟨_,g0,g1,g2,g3,g4,g5,g6,g7,g8,g9,g10,g11⟩:=HSo.out _ hSw;go_simp) ?_
                 (try simp only[ffo,Act.put,sq])
                 refine ffy (i:=15) (oi:=ffo 15) (v:=.slice (some ⟨b2,o2,none⟩) p.ends.length c9) rfl (by kernel_rfl) (fun _ _ _ h=>h) hHeld (fun w hSw=>by simp only[ffo];obtain⟨_,g0,g1,g2,g3,g4,g5,g6,g7,g8,g9,g10,g11⟩:=HSo.out _ hSw;go_simp) ?_
                 (try simp only[ffo,Act.put,sq])
                 refine ffy (i:=16) (oi:=ffo 16) (v:=.int .i64 m) rfl (by kernel_rfl) (fun _ _ _ h=>h) hHeld (fun w hSw=>by simp only[ffo];obtain⟨_,g0,g1,g2,g3,g4,g5,g6,g7,g8,g9,g10,g11⟩:=HSo.out _ hSw;go_simp) ?_
                 (try simp only[ffo,Act.put,sq])
                 refine ffy (i:=17) (oi:=ffo 17) (v:=.pointer (some ⟨b2,o2+m*3,none⟩)) rfl (by kernel_rfl) (fun _ _ _ h=>h) hHeld (fun w hSw=>by simp only[ffo];obtain⟨_,g0,g1,g2,g3,g4,g5,g6,g7,g8,g9,g10,g11⟩:=HSo.out _ hSw;go_simp) ?_
                 (try simp only[ffo,Act.put,sq])
                 refine ffy (i:=18) (oi:=ffo 18) (v:=.pointer (some ⟨b2,o2+m*3,none⟩)) rfl (by kernel_rfl) (fun _ _ _ h=>h) hHeld (fun w hSw=>by simp only[ffo];obtain⟨_,g0,g1,g2,g3,g4,g5,g6,g7,g8,g9,g10,g11⟩:=HSo.out _ hSw;go_simp) ?_
                 (try simp only[ffo,Act.put,sq])
                 refine ffy (i:=19) (oi:=ffo 19) (v:=.int .i64 0) rfl (by kernel_rfl) (fun _ _ _ h=>h) hHeld (fun w hSw=>by simp only[ffo];obtain⟨_,g0,g1,g2,g3,g4,g5,g6,g7,g8,g9,g10,g11⟩:=HSo.out _ hSw;go_simp) ?_
                 (try simp only[ffo,Act.put,sq])
                 refine ffy (i:=20) (oi:=ffo 20) (v:=.bool true) rfl (by kernel_rfl) (fun _ _ _ h=>h) hHeld (fun w hSw=>by simp only[ffo];obtain⟨_,g0,g1,g2,g3,g4,g5,g6,g7,g8,g9,g10,g11⟩:=HSo.out _ hSw;go_simp) ?_
                 (try simp only[ffo,Act.put,sq])
                 refine ffy (i:=21) (oi:=ffo 21) (v:=.bool true) rfl (by kernel_rfl) (fun _ _ _ h=>h) hHeld (fun w hSw=>by simp only[ffo];obtain⟨_,g0,g1,g2,g3,g4,g5,g6,g7,g8,g9,g10,g11⟩:=HSo.out _ hSw;go_simp) ?_
                 (try simp only[ffo,Act.put,sq])
                 refine ffy (i:=22) (oi:=ffo 22) (v:=.bool true) rfl (by kernel_rfl) (fun _ _ _ h=>h) hHeld (fun w hSw=>by simp only[ffo];obtain⟨_,g0,g1,g2,g3,g4,g5,g6,g7,g8,g9,g10,g11⟩:=HSo.out _ hSw;go_simp) ?_
                 (try simp only[ffo,Act.put,sq])
                 refine ffy (i:=23) (oi:=ffo 23) (v:=.bool true) rfl (by kernel_rfl) (fun _ _ _ h=>h) hHeld (fun w hSw=>by simp only[ffo];obtain⟨_,g0,g1,g2,g3,g4,g5,g6,g7,g8,g9,g10,g11⟩:=HSo.out _ hSw;go_simp) ?_
                 (try simp only[ffo,Act.put,sq])
                 refine wpAnyH_done (by kernel_rfl) ?_ _
                 refine NoPanic.normal ?_
                 have HK8:=hid (HSk.out _ hHeld)
                 clear hHeld
                 go_wp2
                 go_roundw
                 case rel=>exact⟨m+1,by omega,by go_num,by rw[HaE.out];rfl,HK8.out⟩
                 case measure=>simp[intOf];omega
              ·have hk1:(kd == 0)=false:=by simpa using hk0
               obtain⟨Sx,hSx⟩:∃Sx:World→Prop,Sx=fun W=>jH w KC wA.heap.size [.bool lv,.slice (some ⟨b2,o2,none⟩) p.ends.length c9] W:=⟨_,rfl⟩
               have HSx:=hid (show ∀W,jH w KC wA.heap.size [.bool lv,.slice (some ⟨b2,o2,none⟩) p.ends.length c9] W→Sx W from fun W h=>by rw[hSx];exact h)
               have HSk:=hid (show ∀W,Sx W→jH w KC wA.heap.size [.bool lv,.slice (some ⟨b2,o2,none⟩) p.ends.length c9] W from fun W h=>by rw[hSx]at h;exact h)
               have HSb:=hid (show ∀W,Sx W→Below w.heap.size w W from fun W h=>by rw[hSx]at h;exact h.2.2.1)
               have HSo:=hid (fun W (h:Sx W)=>hall W (by rw[hSx]at h;exact h))
               clear hSx hall
               go_wp2_with fail
               clear c0 c1 c2 c3 c4 q0 q1 hl hl2
               cases r
               ·skip
                refine wp_region_noPanic ?_
                refine wp_region_held_drew (S:=Sx) (by kernel_rfl) (by exact HSx.out _ (HK7.out.next (Below.refl _ _).drew)) (fun hHeld=>?_)
                refine ffy (i:=0) (oi:=ffo 0) (v:=.bool true) rfl (by kernel_rfl) (fun _ _ _ h=>h) hHeld (fun w hSw=>by simp only[ffo];obtain⟨_,g0,g1,g2,g3,g4,g5,g6,g7,g8,g9,g10,g11⟩:=HSo.out _ hSw;go_simp) ?_
                (try simp only[ffo,Act.put,sq])
                refine ffy (i:=1) (oi:=ffo 1) (v:=.bool true) rfl (by kernel_rfl) (fun _ _ _ h=>h) hHeld (fun w hSw=>by simp only[ffo];obtain⟨_,g0,g1,g2,g3,g4,g5,g6,g7,g8,g9,g10,g11⟩:=HSo.out _ hSw;go_simp) ?_
                (try simp only[ffo,Act.put,sq])
                refine ffy (i:=2) (oi:=ffo 2) (v:=.agg #[.slice A k.mods.length ca,.slice M 1024 cm,.slice N 8 cn,.slice S 6 cs,.slice (some ⟨b,off,none⟩) 4 cq]) rfl (by kernel_rfl) (fun _ _ _ h=>h) hHeld (fun w hSw=>by simp only[ffo];obtain⟨_,g0,g1,g2,g3,g4,g5,g6,g7,g8,g9,g10,g11⟩:=HSo.out _ hSw;go_simp) ?_
                (try simp only[ffo,Act.put,sq])
                refine ffy (i:=3) (oi:=ffo 3) (v:=.pointer (some ⟨wA.heap.size,1,none⟩)) rfl (by kernel_rfl) (fun _ _ _ h=>h) hHeld (fun w hSw=>by simp only[ffo];obtain⟨_,g0,g1,g2,g3,g4,g5,g6,g7,g8,g9,g10,g11⟩:=HSo.out _ hSw;go_simp) ?_
                (try simp only[ffo,Act.put,sq])
                refine ffy (i:=4) (oi:=ffo 4) (v:=.slice (some ⟨b2,o2,none⟩) p.ends.length c9) rfl (by kernel_rfl) (fun _ _ _ h=>h) hHeld (fun w hSw=>by simp only[ffo];obtain⟨_,g0,g1,g2,g3,g4,g5,g6,g7,g8,g9,g10,g11⟩:=HSo.out _ hSw;go_simp) ?_
                (try simp only[ffo,Act.put,sq])
                refine ffy (i:=5) (oi:=ffo 5) (v:=.int .i64 m) rfl (by kernel_rfl) (fun _ _ _ h=>h) hHeld (fun w hSw=>by simp only[ffo];obtain⟨_,g0,g1,g2,g3,g4,g5,g6,g7,g8,g9,g10,g11⟩:=HSo.out _ hSw;go_simp) ?_
                (try simp only[ffo,Act.put,sq])
                refine ffy (i:=6) (oi:=ffo 6) (v:=.pointer (some ⟨b2,o2+m*3,none⟩)) rfl (by kernel_rfl) (fun _ _ _ h=>h) hHeld (fun w hSw=>by simp only[ffo];obtain⟨_,g0,g1,g2,g3,g4,g5,g6,g7,g8,g9,g10,g11⟩:=HSo.out _ hSw;go_simp) ?_
                (try simp only[ffo,Act.put,sq])
                refine ffy (i:=7) (oi:=ffo 7) (v:=.agg #[.int .i64 kd,.int .i64 nd,.int .i64 po]) rfl (by kernel_rfl) (fun _ _ _ h=>h) hHeld (fun w hSw=>by simp only[ffo];obtain⟨_,g0,g1,g2,g3,g4,g5,g6,g7,g8,g9,g10,g11⟩:=HSo.out _ hSw;go_simp) ?_
                (try simp only[ffo,Act.put,sq])
                refine wpAnyH_ready (rs:=[8]) (by kernel_rfl) (by simp) ?_
                refine AllReadyH.cons (o:=ffo 8) rfl (fun K hK=>?_) AllReadyH.nil
                simp only[ffo]
                go_simp
                go_at_call 75;refine(HV.out _ (HSb.out _ hHeld)).mono ?_;rintro e w' ⟨rfl,hb'⟩
                go_wp2_with fail
                refine hK.out _ _ (HSx.out _ ((HSk.out _ hHeld).next hb')) (fun hHeld=>?_)
                clear hK K hb'
                (try simp only[ffo,Act.put,sq])
                refine ffy (i:=9) (oi:=ffo 9) (v:=.bool false) rfl (by kernel_rfl) (fun _ _ _ h=>h) hHeld (fun w hSw=>by simp only[ffo];obtain⟨_,g0,g1,g2,g3,g4,g5,g6,g7,g8,g9,g10,g11⟩:=HSo.out _ hSw;go_simp) ?_
                (try simp only[ffo,Act.put,sq])
                refine ffy (i:=10) (oi:=ffo 10) (v:=.bool false) rfl (by kernel_rfl) (fun _ _ _ h=>h) hHeld (fun w hSw=>by simp only[ffo];obtain⟨_,g0,g1,g2,g3,g4,g5,g6,g7,g8,g9,g10,g11⟩:=HSo.out _ hSw;go_simp) ?_
                (try simp only[ffo,Act.put,sq])
                refine ffn (i:=11) (oi:=ffo 11) rfl (by kernel_rfl) (fun _ _ _ h=>h) hHeld ?_
                (try simp only[ffo,Act.put,sq])
                refine ffn (i:=12) (oi:=ffo 12) rfl (by kernel_rfl) (fun _ _ _ h=>h) hHeld ?_
                (try simp only[ffo,Act.put,sq])
                refine ffn (i:=13) (oi:=ffo 13) rfl (by kernel_rfl) (fun _ _ _ h=>h) hHeld ?_
                (try simp only[ffo,Act.put,sq])
                refine ffn (i:=14) (oi:=ffo 14) rfl (by kernel_rfl) (fun _ _ _ h=>h) hHeld ?_
                (try simp only[ffo,Act.put,sq])
                refine ffn (i:=15) (oi:=ffo 15) rfl (by kernel_rfl) (fun _ _ _ h=>h) hHeld ?_
                (try simp only[ffo,Act.put,sq])
                refine ffn (i:=16) (oi:=ffo 16) rfl (by kernel_rfl) (fun _ _ _ h=>h) hHeld ?_
                (try simp only[ffo,Act.put,sq])
                refine ffn (i:=17) (oi:=ffo 17) rfl (by kernel_rfl) (fun _ _ _ h=>h) hHeld ?_
                (try simp only[ffo,Act.put,sq])
                refine ffn (i:=18) (oi:=ffo 18) rfl (by kernel_rfl) (fun _ _ _ h=>h) hHeld ?_
                (try simp only[ffo,Act.put,sq])
                refine ffn (i:=19) (oi:=ffo 19) rfl (by kernel_rfl) (fun _ _ _ h=>h) hHeld ?_
                (try simp only[ffo,Act.put,sq])
                refine ffn (i:=20) (oi:=ffo 20) rfl (by kernel_rfl) (fun _ _ _ h=>h) hHeld ?_
                (try simp only[ffo,Act.put,sq])
                refine ffn (i:=21) (oi:=ffo 21) rfl (by kernel_rfl) (fun _ _ _ h=>h) hHeld ?_
                (try simp only[ffo,Act.put,sq])
                refine ffy (i:=22) (oi:=ffo 22) (v:=.bool false) rfl (by kernel_rfl) (fun _ _ _ h=>h) hHeld (fun w hSw=>by simp only[ffo];obtain⟨_,g0,g1,g2,g3,g4,g5,g6,g7,g8,g9,g10,g11⟩:=HSo.out _ hSw;go_simp) ?_
                (try simp only[ffo,Act.put,sq])
                refine ffy (i:=23) (oi:=ffo 23) (v:=.bool false) rfl (by kernel_rfl) (fun _ _ _ h=>h) hHeld (fun w hSw=>by simp only[ffo];obtain⟨_,g0,g1,g2,g3,g4,g5,g6,g7,g8,g9,g10,g11⟩:=HSo.out _ hSw;go_simp) ?_
                (try simp only[ffo,Act.put,sq])
                refine wpAnyH_done (by kernel_rfl) ?_ _
                refine NoPanic.normal ?_
                have HK8:=hid (HSk.out _ hHeld)
                clear hHeld
                go_wp2
                go_roundw
                case rel=>exact⟨m+1,by omega,by go_num,by rw[HaE.out];rfl,HK8.out⟩
                case measure=>simp[intOf];omega
               ·rcases IU with rfl|rfl
                ·skip
                 refine wp_region_noPanic ?_
                 refine wp_region_held_drew (S:=Sx) (by kernel_rfl) (by exact HSx.out _ (HK7.out.next (Below.refl _ _).drew)) (fun hHeld=>?_)
                 refine ffy (i:=0) (oi:=ffo 0) (v:=.bool true) rfl (by kernel_rfl) (fun _ _ _ h=>h) hHeld (fun w hSw=>by simp only[ffo];obtain⟨_,g0,g1,g2,g3,g4,g5,g6,g7,g8,g9,g10,g11⟩:=HSo.out _ hSw;go_simp) ?_
                 (try simp only[ffo,Act.put,sq])
                 refine ffy (i:=1) (oi:=ffo 1) (v:=.bool true) rfl (by kernel_rfl) (fun _ _ _ h=>h) hHeld (fun w hSw=>by simp only[ffo];obtain⟨_,g0,g1,g2,g3,g4,g5,g6,g7,g8,g9,g10,g11⟩:=HSo.out _ hSw;go_simp) ?_
                 (try simp only[ffo,Act.put,sq])
                 refine ffy (i:=2) (oi:=ffo 2) (v:=.agg #[.slice A k.mods.length ca,.slice M 1024 cm,.slice N 8 cn,.slice S 6 cs,.slice (some ⟨b,off,none⟩) 4 cq]) rfl (by kernel_rfl) (fun _ _ _ h=>h) hHeld (fun w hSw=>by simp only[ffo];obtain⟨_,g0,g1,g2,g3,g4,g5,g6,g7,g8,g9,g10,g11⟩:=HSo.out _ hSw;go_simp) ?_
                 (try simp only[ffo,Act.put,sq])
                 refine ffy (i:=3) (oi:=ffo 3) (v:=.pointer (some ⟨wA.heap.size,1,none⟩)) rfl (by kernel_rfl) (fun _ _ _ h=>h) hHeld (fun w hSw=>by simp only[ffo];obtain⟨_,g0,g1,g2,g3,g4,g5,g6,g7,g8,g9,g10,g11⟩:=HSo.out _ hSw;go_simp) ?_
                 (try simp only[ffo,Act.put,sq])
                 refine ffy (i:=4) (oi:=ffo 4) (v:=.slice (some ⟨b2,o2,none⟩) p.ends.length c9) rfl (by kernel_rfl) (fun _ _ _ h=>h) hHeld (fun w hSw=>by simp only[ffo];obtain⟨_,g0,g1,g2,g3,g4,g5,g6,g7,g8,g9,g10,g11⟩:=HSo.out _ hSw;go_simp) ?_
                 (try simp only[ffo,Act.put,sq])
                 refine ffy (i:=5) (oi:=ffo 5) (v:=.int .i64 m) rfl (by kernel_rfl) (fun _ _ _ h=>h) hHeld (fun w hSw=>by simp only[ffo];obtain⟨_,g0,g1,g2,g3,g4,g5,g6,g7,g8,g9,g10,g11⟩:=HSo.out _ hSw;go_simp) ?_
                 (try simp only[ffo,Act.put,sq])
                 refine ffy (i:=6) (oi:=ffo 6) (v:=.pointer (some ⟨b2,o2+m*3,none⟩)) rfl (by kernel_rfl) (fun _ _ _ h=>h) hHeld (fun w hSw=>by simp only[ffo];obtain⟨_,g0,g1,g2,g3,g4,g5,g6,g7,g8,g9,g10,g11⟩:=HSo.out _ hSw;go_simp) ?_
                 (try simp only[ffo,Act.put,sq])
                 refine ffy (i:=7) (oi:=ffo 7) (v:=.agg #[.int .i64 kd,.int .i64 nd,.int .i64 po]) rfl (by kernel_rfl) (fun _ _ _ h=>h) hHeld (fun w hSw=>by simp only[ffo];obtain⟨_,g0,g1,g2,g3,g4,g5,g6,g7,g8,g9,g10,g11⟩:=HSo.out _ hSw;go_simp) ?_
                 (try simp only[ffo,Act.put,sq])
                 refine wpAnyH_ready (rs:=[8]) (by kernel_rfl) (by simp) ?_
                 refine AllReadyH.cons (o:=ffo 8) rfl (fun K hK=>?_) AllReadyH.nil
                 simp only[ffo]
                 go_simp
                 go_at_call 75;refine(HV.out _ (HSb.out _ hHeld)).mono ?_;rintro e w' ⟨rfl,hb'⟩
                 go_wp2_with fail
                 refine hK.out _ _ (HSx.out _ ((HSk.out _ hHeld).next hb')) (fun hHeld=>?_)
                 clear hK K hb'
                 (try simp only[ffo,Act.put,sq])
                 refine ffy (i:=9) (oi:=ffo 9) (v:=.bool true) rfl (by kernel_rfl) (fun _ _ _ h=>h) hHeld (fun w hSw=>by simp only[ffo];obtain⟨_,g0,g1,g2,g3,g4,g5,g6,g7,g8,g9,g10,g11⟩:=HSo.out _ hSw;go_simp) ?_
                 (try simp only[ffo,Act.put,sq])
                 refine ffy (i:=10) (oi:=ffo 10) (v:=.bool true) rfl (by kernel_rfl) (fun _ _ _ h=>h) hHeld (fun w hSw=>by simp only[ffo];obtain⟨_,g0,g1,g2,g3,g4,g5,g6,g7,g8,g9,g10,g11⟩:=HSo.out _ hSw;go_simp) ?_
                 (try simp only[ffo,Act.put,sq])
                 refine ffy (i:=11) (oi:=ffo 11) (v:=.pointer (some ⟨wA.heap.size,0,none⟩)) rfl (by kernel_rfl) (fun _ _ _ h=>h) hHeld (fun w hSw=>by simp only[ffo];obtain⟨_,g0,g1,g2,g3,g4,g5,g6,g7,g8,g9,g10,g11⟩:=HSo.out _ hSw;go_simp) ?_
                 (try simp only[ffo,Act.put,sq])
                 refine ffy (i:=12) (oi:=ffo 12) (v:=.bool true) rfl (by kernel_rfl) (fun _ _ _ h=>h) hHeld (fun w hSw=>by simp only[ffo];obtain⟨_,g0,g1,g2,g3,g4,g5,g6,g7,g8,g9,g10,g11⟩:=HSo.out _ hSw;go_simp) ?_
                 (try simp only[ffo,Act.put,sq])
                 refine ffy (i:=13) (oi:=ffo 13) (v:=.bool true) rfl (by kernel_rfl) (fun _ _ _ h=>h) hHeld (fun w hSw=>by simp only[ffo];obtain⟨_,g0,g1,g2,g3,g4,g5,g6,g7,g8,g9,g10,g11⟩:=HSo.out _ hSw;go_simp) ?_
                 (try simp only[ffo,Act.put,sq])
                 refine ffn (i:=14) (oi:=ffo 14) rfl (by kernel_rfl) (fun _ _ _ h=>h) hHeld ?_
                 (try simp only[ffo,Act.put,sq])
                 refine ffn (i:=15) (oi:=ffo 15) rfl (by kernel_rfl) (fun _ _ _ h=>h) hHeld ?_
                 (try simp only[ffo,Act.put,sq])
                 refine ffn (i:=16) (oi:=ffo 16) rfl (by kernel_rfl) (fun _ _ _ h=>h) hHeld ?_
                 (try simp only[ffo,Act.put,sq])
                 refine ffn (i:=17) (oi:=ffo 17) rfl (by kernel_rfl) (fun _ _ _ h=>h) hHeld ?_
                 (try simp only[ffo,Act.put,sq])
                 refine ffn (i:=18) (oi:=ffo 18) rfl (by kernel_rfl) (fun _ _ _ h=>h) hHeld ?_
                 (try simp only[ffo,Act.put,sq])
                 refine ffn (i:=19) (oi:=ffo 19) rfl (by kernel_rfl) (fun _ _ _ h=>h) hHeld ?_
                 (try simp only[ffo,Act.put,sq])
                 refine ffn (i:=20) (oi:=ffo 20) rfl (by kernel_rfl) (fun _ _ _ h=>h) hHeld ?_
                 (try simp only[ffo,Act.put,sq])
                 refine ffy (i:=21) (oi:=ffo 21) (v:=.bool true) rfl (by kernel_rfl) (fun _ _ _ h=>h) hHeld (fun w hSw=>by simp only[ffo];obtain⟨_,g0,g1,g2,g3,g4,g5,g6,g7,g8,g9,g10,g11⟩:=HSo.out _ hSw;go_simp) ?_
                 (try simp only[ffo,Act.put,sq])
                 refine ffy (i:=22) (oi:=ffo 22) (v:=.bool true) rfl (by kernel_rfl) (fun _ _ _ h=>h) hHeld (fun w hSw=>by simp only[ffo];obtain⟨_,g0,g1,g2,g3,g4,g5,g6,g7,g8,g9,g10,g11⟩:=HSo.out _ hSw;go_simp) ?_
                 (try simp only[ffo,Act.put,sq])
                 refine ffy (i:=23) (oi:=ffo 23) (v:=.bool true) rfl (by kernel_rfl) (fun _ _ _ h=>h) hHeld (fun w hSw=>by simp only[ffo];obtain⟨_,g0,g1,g2,g3,g4,g5,g6,g7,g8,g9,g10,g11⟩:=HSo.out _ hSw;go_simp) ?_
                 (try simp only[ffo,Act.put,sq])
                 refine wpAnyH_done (by kernel_rfl) ?_ _
                 refine NoPanic.normal ?_
                 have HK8:=hid (HSk.out _ hHeld)
                 clear hHeld
                 go_wp2
                 go_roundw
                 case rel=>exact⟨m+1,by omega,by go_num,by rw[HaE.out];rfl,HK8.out⟩
                 case measure=>simp[intOf];omega
                ·skip
                 refine wp_region_noPanic ?_
                 refine wp_region_held_drew (S:=Sx) (by kernel_rfl) (by exact HSx.out _ (HK7.out.next (Below.refl _ _).drew)) (fun hHeld=>?_)
                 refine ffy (i:=0) (oi:=ffo 0) (v:=.bool true) rfl (by kernel_rfl) (fun _ _ _ h=>h) hHeld (fun w hSw=>by simp only[ffo];obtain⟨_,g0,g1,g2,g3,g4,g5,g6,g7,g8,g9,g10,g11⟩:=HSo.out _ hSw;go_simp) ?_
                 (try simp only[ffo,Act.put,sq])
                 refine ffy (i:=1) (oi:=ffo 1) (v:=.bool true) rfl (by kernel_rfl) (fun _ _ _ h=>h) hHeld (fun w hSw=>by simp only[ffo];obtain⟨_,g0,g1,g2,g3,g4,g5,g6,g7,g8,g9,g10,g11⟩:=HSo.out _ hSw;go_simp) ?_
                 (try simp only[ffo,Act.put,sq])
                 refine ffy (i:=2) (oi:=ffo 2) (v:=.agg #[.slice A k.mods.length ca,.slice M 1024 cm,.slice N 8 cn,.slice S 6 cs,.slice (some ⟨b,off,none⟩) 4 cq]) rfl (by kernel_rfl) (fun _ _ _ h=>h) hHeld (fun w hSw=>by simp only[ffo];obtain⟨_,g0,g1,g2,g3,g4,g5,g6,g7,g8,g9,g10,g11⟩:=HSo.out _ hSw;go_simp) ?_
                 (try simp only[ffo,Act.put,sq])
                 refine ffy (i:=3) (oi:=ffo 3) (v:=.pointer (some ⟨wA.heap.size,1,none⟩)) rfl (by kernel_rfl) (fun _ _ _ h=>h) hHeld (fun w hSw=>by simp only[ffo];obtain⟨_,g0,g1,g2,g3,g4,g5,g6,g7,g8,g9,g10,g11⟩:=HSo.out _ hSw;go_simp) ?_
                 (try simp only[ffo,Act.put,sq])
                 refine ffy (i:=4) (oi:=ffo 4) (v:=.slice (some ⟨b2,o2,none⟩) p.ends.length c9) rfl (by kernel_rfl) (fun _ _ _ h=>h) hHeld (fun w hSw=>by simp only[ffo];obtain⟨_,g0,g1,g2,g3,g4,g5,g6,g7,g8,g9,g10,g11⟩:=HSo.out _ hSw;go_simp) ?_
                 (try simp only[ffo,Act.put,sq])
                 refine ffy (i:=5) (oi:=ffo 5) (v:=.int .i64 m) rfl (by kernel_rfl) (fun _ _ _ h=>h) hHeld (fun w hSw=>by simp only[ffo];obtain⟨_,g0,g1,g2,g3,g4,g5,g6,g7,g8,g9,g10,g11⟩:=HSo.out _ hSw;go_simp) ?_
                 (try simp only[ffo,Act.put,sq])
                 refine ffy (i:=6) (oi:=ffo 6) (v:=.pointer (some ⟨b2,o2+m*3,none⟩)) rfl (by kernel_rfl) (fun _ _ _ h=>h) hHeld (fun w hSw=>by simp only[ffo];obtain⟨_,g0,g1,g2,g3,g4,g5,g6,g7,g8,g9,g10,g11⟩:=HSo.out _ hSw;go_simp) ?_
                 (try simp only[ffo,Act.put,sq])
                 refine ffy (i:=7) (oi:=ffo 7) (v:=.agg #[.int .i64 kd,.int .i64 nd,.int .i64 po]) rfl (by kernel_rfl) (fun _ _ _ h=>h) hHeld (fun w hSw=>by simp only[ffo];obtain⟨_,g0,g1,g2,g3,g4,g5,g6,g7,g8,g9,g10,g11⟩:=HSo.out _ hSw;go_simp) ?_
                 (try simp only[ffo,Act.put,sq])
                 refine wpAnyH_ready (rs:=[8]) (by kernel_rfl) (by simp) ?_
                 refine AllReadyH.cons (o:=ffo 8) rfl (fun K hK=>?_) AllReadyH.nil
                 simp only[ffo]
                 go_simp
                 go_at_call 75;refine(HV.out _ (HSb.out _ hHeld)).mono ?_;rintro e w' ⟨rfl,hb'⟩
                 go_wp2_with fail
                 refine hK.out _ _ (HSx.out _ ((HSk.out _ hHeld).next hb')) (fun hHeld=>?_)
                 clear hK K hb'
                 (try simp only[ffo,Act.put,sq])
                 refine ffy (i:=9) (oi:=ffo 9) (v:=.bool true) rfl (by kernel_rfl) (fun _ _ _ h=>h) hHeld (fun w hSw=>by simp only[ffo];obtain⟨_,g0,g1,g2,g3,g4,g5,g6,g7,g8,g9,g10,g11⟩:=HSo.out _ hSw;go_simp) ?_
                 (try simp only[ffo,Act.put,sq])
                 refine ffy (i:=10) (oi:=ffo 10) (v:=.bool true) rfl (by kernel_rfl) (fun _ _ _ h=>h) hHeld (fun w hSw=>by simp only[ffo];obtain⟨_,g0,g1,g2,g3,g4,g5,g6,g7,g8,g9,g10,g11⟩:=HSo.out _ hSw;go_simp) ?_
                 (try simp only[ffo,Act.put,sq])
                 refine ffy (i:=11) (oi:=ffo 11) (v:=.pointer (some ⟨wA.heap.size,0,none⟩)) rfl (by kernel_rfl) (fun _ _ _ h=>h) hHeld (fun w hSw=>by simp only[ffo];obtain⟨_,g0,g1,g2,g3,g4,g5,g6,g7,g8,g9,g10,g11⟩:=HSo.out _ hSw;go_simp) ?_
                 (try simp only[ffo,Act.put,sq])
                 refine ffy (i:=12) (oi:=ffo 12) (v:=.bool false) rfl (by kernel_rfl) (fun _ _ _ h=>h) hHeld (fun w hSw=>by simp only[ffo];obtain⟨_,g0,g1,g2,g3,g4,g5,g6,g7,g8,g9,g10,g11⟩:=HSo.out _ hSw;go_simp) ?_
                 (try simp only[ffo,Act.put,sq])
                 refine ffy (i:=13) (oi:=ffo 13) (v:=.bool false) rfl (by kernel_rfl) (fun _ _ _ h=>h) hHeld (fun w hSw=>by simp only[ffo];obtain⟨_,g0,g1,g2,g3,g4,g5,g6,g7,g8,g9,g10,g11⟩:=HSo.out _ hSw;go_simp) ?_
                 (try simp only[ffo,Act.put,sq])
                 refine ffy (i:=14) (oi:=ffo 14) (v:=.pointer (some ⟨wA.heap.size,1,none⟩)) rfl (by kernel_rfl) (fun _ _ _ h=>h) hHeld (fun w hSw=>by simp only[ffo];obtain⟨_,g0,g1,g2,g3,g4,g5,g6,g7,g8,g9,g10,g11⟩:=HSo.out _ hSw;go_simp) ?_
                 (try simp only[ffo,Act.put,sq])
                 refine ffy (i:=15) (oi:=ffo 15) (v:=.slice (some ⟨b2,o2,none⟩) p.ends.length c9) rfl (by kernel_rfl) (fun _ _ _ h=>h) hHeld (fun w hSw=>by simp only[ffo];obtain⟨_,g0,g1,g2,g3,g4,g5,g6,g7,g8,g9,g10,g11⟩:=HSo.out _ hSw;go_simp) ?_
                 (try simp only[ffo,Act.put,sq])
                 refine ffy (i:=16) (oi:=ffo 16) (v:=.int .i64 m) rfl (by kernel_rfl) (fun _ _ _ h=>h) hHeld (fun w hSw=>by simp only[ffo];obtain⟨_,g0,g1,g2,g3,g4,g5,g6,g7,g8,g9,g10,g11⟩:=HSo.out _ hSw;go_simp) ?_
                 (try simp only[ffo,Act.put,sq])
                 refine ffy (i:=17) (oi:=ffo 17) (v:=.pointer (some ⟨b2,o2+m*3,none⟩)) rfl (by kernel_rfl) (fun _ _ _ h=>h) hHeld (fun w hSw=>by simp only[ffo];obtain⟨_,g0,g1,g2,g3,g4,g5,g6,g7,g8,g9,g10,g11⟩:=HSo.out _ hSw;go_simp) ?_
                 (try simp only[ffo,Act.put,sq])
                 refine ffy (i:=18) (oi:=ffo 18) (v:=.pointer (some ⟨b2,o2+m*3,none⟩)) rfl (by kernel_rfl) (fun _ _ _ h=>h) hHeld (fun w hSw=>by simp only[ffo];obtain⟨_,g0,g1,g2,g3,g4,g5,g6,g7,g8,g9,g10,g11⟩:=HSo.out _ hSw;go_simp) ?_
                 (try simp only[ffo,Act.put,sq])
                 refine ffy (i:=19) (oi:=ffo 19) (v:=.int .i64 kd) rfl (by kernel_rfl) (fun _ _ _ h=>h) hHeld (fun w hSw=>by simp only[ffo];obtain⟨_,g0,g1,g2,g3,g4,g5,g6,g7,g8,g9,g10,g11⟩:=HSo.out _ hSw;go_simp) ?_
                 (try simp only[ffo,Act.put,sq])
                 refine ffy (i:=20) (oi:=ffo 20) (v:=.bool false) rfl (by kernel_rfl) (fun _ _ _ h=>h) hHeld (fun w hSw=>by simp only[ffo];obtain⟨_,g0,g1,g2,g3,g4,g5,g6,g7,g8,g9,g10,g11⟩:=HSo.out _ hSw;go_simp;(try simp[hk1])) ?_
                 (try simp only[ffo,Act.put,sq])
                 refine ffy (i:=21) (oi:=ffo 21) (v:=.bool false) rfl (by kernel_rfl) (fun _ _ _ h=>h) hHeld (fun w hSw=>by simp only[ffo];obtain⟨_,g0,g1,g2,g3,g4,g5,g6,g7,g8,g9,g10,g11⟩:=HSo.out _ hSw;go_simp) ?_
                 (try simp only[ffo,Act.put,sq])
                 refine ffy (i:=22) (oi:=ffo 22) (v:=.bool false) rfl (by kernel_rfl) (fun _ _ _ h=>h) hHeld (fun w hSw=>by simp only[ffo];obtain⟨_,g0,g1,g2,g3,g4,g5,g6,g7,g8,g9,g10,g11⟩:=HSo.out _ hSw;go_simp) ?_
                 (try simp only[ffo,Act.put,sq])
                 refine ffy (i:=23) (oi:=ffo 23) (v:=.bool false) rfl (by kernel_rfl) (fun _ _ _ h=>h) hHeld (fun w hSw=>by simp only[ffo];obtain⟨_,g0,g1,g2,g3,g4,g5,g6,g7,g8,g9,g10,g11⟩:=HSo.out _ hSw;go_simp) ?_
                 (try simp only[ffo,Act.put,sq])
                 refine wpAnyH_done (by kernel_rfl) ?_ _
                 refine NoPanic.normal ?_
                 have HK8:=hid (HSk.out _ hHeld)
                 clear hHeld
                 go_wp2
                 go_roundw
                 case rel=>exact⟨m+1,by omega,by go_num,by rw[HaE.out];simp[hk0],HK8.out⟩
                 case measure=>simp[intOf];omega
            ·go_wp2
             go_roundw
             case rel=>exact⟨n+1,by omega,by go_num,by rw[HpE.out,HTL.out,take_len (by omega)],HK7.out.box⟩
             case measure=>simp[intOf];omega
          ·have HFL:=hid (show Value.bool (F && ((k.procs.take n).all (Cf.kE k) && (decide (p.ends.length=6) && p.ends.all (fun e=>Cf.fZ k e && (p.live || Cf.aK e))))) = .bool false by rw[decide_eq_false h6];simp)
           have h6':((p.ends.length:Int) == 6)=false:=by simp;omega
           clear hG h6
           go_wp2_with fail
           clear r0 r1 hl hsz c4
           go_loopw [6,10] (fun ok i wr'=>∃m:Nat,m≤p.ends.length∧i = .int .i64 m∧ok = .bool false∧jH w KC wA.heap.size [.bool p.live,.slice A1 p.ends.length c9] wr') (fun _ i _=>p.ends.length-(intOf i).toNat)
           case atStart=>exact⟨0,by omega,rfl,rfl,HK5.out⟩
           case round=>
            obtain⟨m,hm,rfl,rfl,hK7⟩:=hrel
            clear HK5
            have HK7:=hid hK7
            obtain⟨q0,q1, -, -⟩:=JM hK7.2.1
            have hwc:=fun j=>hK7.1.cell j
            rw[HKC.out]at hwc
            have c0:=hwc 0
            have c1:=hwc 1
            have c2:=hwc 2
            have c3:=hwc 3
            have c4:=hwc 4
            simp only[gq]at c0 c1 c2 c3 c4
            have hl:=hK7.1.lt
            have hl2:=hK7.2.1.lt
            have MI:=hK7.2.2.1.size
            clear hK7 hwc
            by_cases hlt2:m<p.ends.length
            ·go_wp2_with fail
             go_quiet (fail)
             go_wp2
             go_roundw
             case rel=>exact⟨m+1,by omega,by go_num,rfl,HK7.out.next (jq _ _)⟩
             case measure=>simp[intOf];omega
            ·go_wp2
             go_roundw
             case rel=>exact⟨n+1,by omega,by go_num,by rw[HpE.out,HFL.out],HK7.out.box⟩
             case measure=>simp[intOf];omega
        ·obtain rfl:n=4:=by omega
         obtain⟨Pb,hPb⟩:∃Pb,Pb=Cf.jT k:=⟨_,rfl⟩
         have hP2:(k.procs.take 4).all (Cf.kE k)=Pb:=by rw[hPb];unfold Cf.jT;rw[List.take_of_length_le (by rw[Hz4.out];omega)]
         rw[← hPb]at HT2
         rw[hP2]
         clear hPb hP2 hlt hn c4 hl hsz
         generalize hG:(F && Pb)=G
         have HG:=hid hG
         clear hG
         go_wp2
         go_loopw [6,11] (fun ok i wr'=>∃n:Nat,n≤6∧i = .int .i64 n∧ok = .bool (G && (List.range n).all (Cf.jJ k))∧mV w w.heap.size KC wr') (fun _ i _=>6-(intOf i).toNat)
         case atStart=>exact⟨0,by omega,rfl,by simp,HK.out⟩
         case round=>
          obtain⟨n,hn,rfl,rfl,hK⟩:=hrel
          clear HK
          have HK:=hid hK
          have hwc:=fun j=>hK.1.cell j
          rw[HKC.out]at hwc
          have c0:=hwc 0
          have c1:=hwc 1
          have c2:=hwc 2
          have c3:=hwc 3
          have c4:=hwc 4
          simp only[gq]at c0 c1 c2 c3 c4
          have hl:=hK.1.lt
          clear hK hwc
          by_cases hlt:n<6
          ·obtain⟨str,hx⟩:∃str,k.pipes[n]?=some str:=⟨_,List.getElem?_eq_getElem (by rw[Hz3.out];exact hlt)⟩
           have HaE:=hid (show(G && (List.range (n+1)).all (Cf.jJ k))=((G && (List.range n).all (Cf.jJ k)) && (decide (str.length≤20) && (decide (str=[]) || Cf.hasB k.procs 2 n))) by
            rw[Az,← Bool.and_assoc]
            unfold Cf.jJ
            rw[hx])
           have Hx:=hid hx
           rcases HR.out.pipes with h|⟨b3,o3,hA3,hb3,hc3⟩
           ·rw[h]at hx;simp at hx
           simp only at hA3
           subst hA3
           have t0:wr.cell? ⟨b3,o3+n,none⟩=some (.string ⟨str.toArray⟩):=(HK.out.2.cell hb3).trans (by have:=hc3 n _ hx 0 _ rfl;simpa using this)
           have HV:=hid (ve k _ 2 n wr (HR.out.below HK.out.2) HF.out)
           rw[← HKE.out,HKC.out]at HV
           clear hx hc3
           generalize Cf.hasB k.procs 2 n=q at *
           cases hok:(G && (List.range n).all (Cf.jJ k))
           ·rw[hok]at HaE
            clear hok HV
            go_wp2
            go_roundw
            case rel=>exact⟨n+1,by omega,by go_num,by rw[HaE.out];rfl,HK.out⟩
            case measure=>simp[intOf];omega
           ·rw[hok]at HaE
            clear hok
            by_cases h20:str.length≤20
            ·by_cases hs0:str=[]
             ·subst hs0
              clear HV
              go_wp2
              go_roundw
              case rel=>exact⟨n+1,by omega,by go_num,by rw[HaE.out];rfl,HK.out⟩
              case measure=>simp[intOf];omega
             ·have hs1:¬str.isEmpty=true:=by simpa using hs0
              have HaF:=hid (show Value.bool q = .bool (G && (List.range (n+1)).all (Cf.jJ k)) by rw[HaE.out];simp[h20,hs0])
              clear hs0
              go_wp2_with fail
              refine HV.out.mono ?_
              rintro e w2 ⟨rfl,hb2⟩
              have HK2:=hid (HK.out.next hb2)
              clear HV hb2
              go_wp2
              go_roundw
              case rel=>
               first
                | exact⟨n+1,by omega,by go_num,HaF.out,HK2.out⟩
                | ((repeat apply Exists.intro);exact⟨⟨n+1,by omega,by go_num,HaF.out,HK2.out⟩,rfl⟩)
              case measure=>simp[intOf];omega
            ·have Hpn:=hid (show Cf.jJ k n=false by unfold Cf.jJ;rw[Hx.out];simp[h20])
             clear HV
             go_wp2
             go_roundw
             case rel=>exact⟨n+1,by omega,by go_num,fun _=>⟨n,by omega,Hpn.out⟩,HK.out⟩
             case measure=>simp[intOf];omega
          ·obtain rfl:n=6:=by omega
           have hZ:(G && (List.range 6).all (Cf.jJ k))=(F && (Pb && Cf.iF k)):=by
            rw[← HG.out,Bool.and_assoc]
            unfold Cf.iF
            rw[Hz3.out]
           rw[← hZ]at HT2
           clear hZ c0 c1 c2 c3 c4
           cases hq:(G && (List.range 6).all (Cf.jJ k))
           ·have HR9:=hid (show Cf.iq k=9 by rw[HT2.out,hq];rfl)
            clear hq
            go_wp2
            go_ret
            exact⟨Jk HR9.out.symm,HK.out.2⟩
           ·have HR0:=hid (show Cf.iq k=0 by rw[HT2.out,hq];rfl)
            clear hq
            go_wp2
            go_ret
            exact⟨Jk HR0.out.symm,HK.out.2⟩
 ·have hsf:Cf.sizedB k=false:=by simpa using hsz
  rw[HT.out,hsf]
  have hb0:=hK0.2
  clear hK0 HT hR hf
  have hor:¬(k.mods.length≤8∧k.mem.length=1024∧k.nodes.length=8∧k.pipes.length=6∧k.procs.length=4):=by
   intro h
   rw[show Cf.sizedB k=true by simp[Cf.sizedB,h]]at hsf
   cases hsf
  simp only[af]at hb0 ⊢
  clear hsf hsz
  generalize k.mods.length=l0 at *
  generalize k.mem.length=l1 at *
  generalize k.nodes.length=l2 at *
  generalize k.pipes.length=l3 at *
  generalize k.procs.length=l4 at *
  by_cases h0:l0≤8
  ·by_cases h1:l1=1024
   ·subst h1
    by_cases h2:l2=8
    ·subst h2
     by_cases h3:l3=6
     ·subst h3
      have h4:¬(l4:Int)=4:=by omega
      have h5:((l4:Int) == 4)=false:=by simpa using h4
      have h6:((l4:Int) != 4)=true:=by simpa using h4
      have h7:¬l4=4:=by omega
      have h8:(l4 == 4)=false:=by simpa using h7
      clear hor
      go_enter Tryz.func38,Tryz.ntmps38
      go_wp2
      go_ret
      exact⟨rfl,hb0⟩
     ·have h4:¬(l3:Int)=6:=by omega
      clear hor h3
      go_enter Tryz.func38,Tryz.ntmps38
      go_wp2
      go_ret
      exact⟨rfl,hb0⟩
    ·have h4:¬(l2:Int)=8:=by omega
     clear hor h2
     go_enter Tryz.func38,Tryz.ntmps38
     go_wp2
     go_ret
     exact⟨rfl,hb0⟩
   ·have h4:¬(l1:Int)=1024:=by omega
    clear hor h1
    go_enter Tryz.func38,Tryz.ntmps38
    go_wp2
    go_ret
    exact⟨rfl,hb0⟩
  ·clear hor
   go_enter Tryz.func38,Tryz.ntmps38
   go_wp2
   go_ret
   exact⟨rfl,hb0⟩
end
end Go.Proofs.YtnnhhbjbdmgpiaaGreatDoor
