/- Texts of the proofs: ChkW, ChkV, ChkU. -/
import Derived.Test.YtnnhhbjbdmgpiaaGreatDoorJ19
import Derived.Test.YtnnhhbjbdmgpiaaGreatDoorJ29
set_option linter.unusedSimpArgs false
set_option linter.unusedVariables false
namespace Go.Proofs.YtnnhhbjbdmgpiaaGreatDoor
set_option maxRecDepth 100000
set_option maxHeartbeats 4000000
open Lib (hid)
section
open Go.RowKit
theorem EC(k:Cf.ag)(a:KA)(g:Nat)(w:World)(hP:jc w g a k):
  Calls Tryz.prog 50 #[.pointer (some ⟨g,0,none⟩)] w fun e w'=>e = .returned (.bool (Cf.sizedB k))∧w=w':=by
 have c0:=hP.c0
 have c1:=hP.c1
 have c2:=hP.c2
 have c3:=hP.c3
 have c4:=hP.c4
 have hl:=hP.1.lt
 obtain⟨mods,mem,nodes,pipes,procs⟩:=k
 simp only at c0 c1 c2 c3 c4
 clear hP
 by_cases h0:mods.length≤8
 ·by_cases h1:mem.length=1024
  ·by_cases h2:nodes.length=8
   ·by_cases h3:pipes.length=6
    ·have HZ:=hid (show Cf.sizedB ⟨mods,mem,nodes,pipes,procs⟩=decide (procs.length=4) by simp[Cf.sizedB,h0,h1,h2,h3])
     rw[h1]at c1
     rw[h2]at c2
     rw[h3]at c3
     clear h1 h2 h3
     go_enter Tryz.func50,Tryz.ntmps50
     go_wp2
     go_ret
     refine⟨dX (by rw[HZ.out,Bool.eq_iff_iff];simp;omega),rfl⟩
    ·have HZ:=hid (show Cf.sizedB ⟨mods,mem,nodes,pipes,procs⟩=false by simp[Cf.sizedB,h3])
     rw[h1]at c1
     rw[h2]at c2
     clear h1 h2
     have h3':¬(pipes.length:Int)=6:=by omega
     clear h3
     go_enter Tryz.func50,Tryz.ntmps50
     go_wp2
     go_ret
     exact⟨dX HZ.out.symm,rfl⟩
   ·have HZ:=hid (show Cf.sizedB ⟨mods,mem,nodes,pipes,procs⟩=false by simp[Cf.sizedB,h2])
    rw[h1]at c1
    clear h1
    have h3':¬(nodes.length:Int)=8:=by omega
    clear h2
    go_enter Tryz.func50,Tryz.ntmps50
    go_wp2
    go_ret
    exact⟨dX HZ.out.symm,rfl⟩
  ·have HZ:=hid (show Cf.sizedB ⟨mods,mem,nodes,pipes,procs⟩=false by simp[Cf.sizedB,h1])
   have h3':¬(mem.length:Int)=1024:=by omega
   clear h1
   go_enter Tryz.func50,Tryz.ntmps50
   go_wp2
   go_ret
   exact⟨dX HZ.out.symm,rfl⟩
 ·have HZ:=hid (show Cf.sizedB ⟨mods,mem,nodes,pipes,procs⟩=false by simp[Cf.sizedB,h0])
  go_enter Tryz.func50,Tryz.ntmps50
  go_wp2
  go_ret
  exact⟨dX HZ.out.symm,rfl⟩
theorem zW(v:Int)(w:World):
  Calls Tryz.prog 52 #[.int .i64 v] w fun e w'=>e = .returned (.bool (!Cf.aV v))∧Below w.heap.size w w':=by
 by_cases h1:v<0
 ·go_enter Tryz.func52,Tryz.ntmps52
  go_wp2
  go_ret
  exact⟨by simp[Cf.aV,Cf.inB,h1],Below.refl _ _⟩
 ·by_cases h2:65535<v
  ·go_enter Tryz.func52,Tryz.ntmps52
   go_wp2
   go_ret
   exact⟨by simp[Cf.aV,Cf.inB,h2],Below.refl _ _⟩
  ·go_enter Tryz.func52,Tryz.ntmps52
   go_wp2
   go_ret
   exact⟨by simp[Cf.aV,Cf.inB,h1,h2],Below.refl _ _⟩
theorem RdS.take{α:Type}{sz:Nat}{enc:α→List Value}{w:World}{A:Option Addr}{l:List α}(h:RdS sz enc w A l)(n:Nat):RdS sz enc w A (l.take n):=by
 rcases h with rfl|⟨b,off,hA,hb,hc⟩
 ·exact .inl (by simp)
 ·refine .inr ⟨b,off,hA,hb,fun k x hx=>hc k x ?_⟩
  rw[List.getElem?_take]at hx
  split at hx
  ·exact hx
  ·cases hx
theorem Each.take{α β:Type}{R:α→β→Prop}{xs:List α}{ys:List β}(h:Each R xs ys)(n:Nat):Each R (xs.take n) (ys.take n):=
 ⟨by simp[h.1],fun i a b hi hb=>by
   rw[List.getElem?_take]at hi hb
   split at hi
   ·rename_i hik
    rw[if_pos hik]at hb
    exact h.2 i a b hi hb
   ·cases hi⟩
def Il(l:List Cf.Mod)(n:Nat):Prop:=∀j,j<n→Cf.pU l j=0
theorem rY(xs:List MV)(l:List Cf.Mod)(A:Option Addr)(cap:Nat)(w:World)(hR:RdS 3 eG w A xs)(hE:Each (IsM w) xs l)(hm:l.length≤maxLen)(hcap:l.length≤cap)(hz:∀m∈l,m.name.length≤maxLen∧m.code.length≤maxLen∧m.data.length≤maxLen)(hL:jW w)(hF:kL w):
  Calls Tryz.prog 51 #[.slice A l.length cap] w fun e w'=>e = .returned (.int .i64 (Cf.gG l))∧Below w.heap.size w w':=by
 have hmf:∀(fn:Fn) (first cap:Array Value) (w:World),(Instr.makeFunc fn first cap).run Tryz.prog w = .ok (.func fn first cap) w:=fun _ _ _ _=>rfl
 have HE:=hid hE
 have HR:=hid hR
 have HZ:=hid hz
 have HL:=hid hL
 have HF:=hid hF
 unfold maxLen at hm
 have Heg:=hid (fun args w=>show(callFunc 85 args).run Tryz.prog w = .ok (.enter 85 args) w by simp[go_sem])
 rcases hR with h0|⟨b,off,rfl,hb,hc⟩
 ·obtain rfl:l=[]:=List.eq_nil_of_length_eq_zero (by rw[← hE.1,h0];rfl)
  clear hE hz hL hF
  go_enter Tryz.func51,Tryz.ntmps51
  go_wp2
  refine wp_loop_rounds 1 ?_
  rw[rounds_succ]
  go_wp2
  go_ret
  exact⟨rfl,Below.refl _ _⟩
 ·have Hc:=hid hc
  clear hE hz hL hF hc
  go_enter Tryz.func51,Tryz.ntmps51
  go_wp2
  go_loopw [8] (fun i wr=>∃n:Nat,n≤l.length∧i = .int .i64 n∧Il l n∧Below w.heap.size w wr) (fun i _=>l.length-(intOf i).toNat)
  case atStart=>exact⟨0,by omega,rfl,fun j hj=>by omega,Below.refl _ _⟩
  case round=>
   obtain⟨n,hn,rfl,hok,hbw⟩:=hrel
   have Hok:=hid hok
   clear hok
   have hsz:=hbw.size
   by_cases hlt:n<l.length
   ·have hncap:n≤cap:=by omega
    obtain⟨nm,code,data,hx2⟩:∃nm code data,l[n]?=some ⟨nm,code,data⟩:=⟨_,_,_,List.getElem?_eq_getElem hlt⟩
    obtain⟨nm1,A1,l1,c1,B1,d1,e1,hx⟩:∃nm1 A1 l1 c1 B1 d1 e1,xs[n]?=some ⟨nm1,A1,l1,c1,B1,d1,e1⟩:=⟨_,_,_,_,_,_,_,List.getElem?_eq_getElem (by rw[HE.out.1];exact hlt)⟩
    obtain⟨h1,h2,h3,hC1,hD1⟩:=HE.out.2 n _ _ hx hx2
    obtain⟨hnl,hcl,hdl⟩:=HZ.out _ (List.mem_of_getElem? hx2)
    simp only at h1 h2 h3 hC1 hD1 hnl hcl hdl
    subst h1 h2 h3
    have r0:wr.cell? ⟨b,off+n*3,none⟩=_:=(hbw.cell hb).trans (Hc.out n _ hx 0 _ rfl)
    have r1:wr.cell? ⟨b,off+n*3+1,none⟩=_:=(hbw.cell hb).trans (Hc.out n _ hx 1 _ rfl)
    have r2:wr.cell? ⟨b,off+n*3+2,none⟩=_:=(hbw.cell hb).trans (Hc.out n _ hx 2 _ rfl)
    have hb9:∀o:Obj,Below w.heap.size w (wr.alloc o):=fun o=>hbw.alloc hsz o
    have HM:=hid (fun o=>rF nm1 code data A1 B1 c1 e1 (wr.alloc o) (hC1.below (hb9 o)) (hD1.below (hb9 o)) (HL.out.below (hb9 o)) (HF.out.below (hb9 o)) hnl hcl hdl)
    have HmE:=hid (show Cf.pU l n=if Cf.cZ ⟨nm1,code,data⟩=0 then(if (l.take n).any (Cf.eF nm1) then 7 else 0) else Cf.cZ ⟨nm1,code,data⟩ by unfold Cf.pU;rw[hx2])
    have hbx:=Wb.new wr 79 [.string ⟨nm1.toArray⟩,.slice A1 code.length c1,.slice B1 data.length e1]
    have Hbx:=hid hbx
    have hlt0:(l.take n).length=n:=by simp;omega
    have HLt:=hid hlt0
    clear hx hx2 hC1 hD1 hnl hcl hdl hbx hlt0
    generalize Cf.cZ ⟨nm1,code,data⟩=z at *
    go_wp2_with fail
    refine(HM.out _).mono ?_
    rintro e w1 ⟨rfl,hb1⟩
    have aO:=(hb9 (.cells #[.string ⟨nm1.toArray⟩,.slice A1 code.length c1,.slice B1 data.length e1] 79)).trans (hb1.mono (by simp;omega))
    have qL:=Hbx.out.below hb1 Hbx.out.lt
    have p0:=qL.cell 0
    have pl:=qL.lt
    simp only[List.getElem?_cons_zero]at p0
    clear hb9 hb1 qL HM Hbx
    by_cases hz0:z=0
    ·subst hz0
     have HFm:=hid (fun W (hW:Below w.heap.size w W)=>nJ (xs.take n) (l.take n) (some ⟨b,off,none⟩) cap nm1 W ((RdS.take HR.out n).below hW) ((HE.out.take n).mono fun _ _ h=>h.below hW) (by rw[HLt.out];unfold maxLen;omega))
     rw[HLt.out]at HFm
     have MX:=hid (Cf.qQ (p:=Cf.eF nm1) (l:=l.take n))
     generalize Cf.aJ (Cf.eF nm1) (l.take n)=q at *
     by_cases hq:0≤q
     ·have HFi:=hid (show Cf.gG l=7 by
       have h7:Cf.pU l n=7:=by
        rw[HmE.out,if_pos rfl,← MX.out,if_pos (by simpa using hq)]
       unfold Cf.gG
       rw[Cf.nD Hok.out (by rw[h7];decide) hlt,h7])
      go_wp2_with fail
      go_region_law (first
       | (refine jh (by rfl) 85 (.tmp 20) (.tmp 22) #[22,9] (by rfl) (.slice (some ⟨b,off,none⟩) n cap) (.string ⟨nm1.toArray⟩) (by rfl) (by rfl) Heg.out (HFm.out _ aO.drew) ?_
          rintro e w5 ⟨rfl,hb5⟩
          refine⟨_,rfl,?_⟩
          have qh:=aO.drew.trans (hb5.mono aO.drew.size)
          clear hb5)
       | fail)
      all_goals
       go_wp2
       go_ret
       exact⟨by rw[HFi.out];rfl,qh⟩
     ·have HOn:=hid (show Il l (n+1) from fun j hj=>by
       rcases Nat.lt_succ_iff_lt_or_eq.1 hj with h|h
       ·exact Hok.out j h
       ·rw[h,HmE.out,if_pos rfl,← MX.out,if_neg (by simpa using hq)])
      go_wp2_with fail
      go_region_law (first
       | (refine jh (by rfl) 85 (.tmp 20) (.tmp 22) #[22,9] (by rfl) (.slice (some ⟨b,off,none⟩) n cap) (.string ⟨nm1.toArray⟩) (by rfl) (by rfl) Heg.out (HFm.out _ aO.drew) ?_
          rintro e w5 ⟨rfl,hb5⟩
          refine⟨_,rfl,?_⟩
          have qh:=aO.drew.trans (hb5.mono aO.drew.size)
          clear hb5)
       | fail)
      all_goals
       go_wp2
       go_roundw
       case rel=>exact⟨n+1,by omega,by go_num,HOn.out,qh⟩
       case measure=>simp[intOf];omega
    ·have HFi:=hid (show Cf.gG l=z by unfold Cf.gG;rw[Cf.nD Hok.out (by rw[HmE.out,if_neg hz0];exact hz0) hlt,HmE.out,if_neg hz0])
     go_wp2
     go_ret
     exact⟨by rw[HFi.out];rfl,aO⟩
   ·have HFi:=hid (show Cf.gG l=0 from Cf.mg fun j hj=>Hok.out j (by omega))
    go_wp2
    go_ret
    exact⟨by rw[HFi.out];rfl,hbw⟩
end
section
open Go.RowKit
theorem cu{n:Nat}(h:n≤big):n≤maxLen:=Nat.le_trans h (by unfold big maxLen;omega)
theorem sK(k:Cf.ag)(a:KA)(g:Nat)(n:Cf.Node)(w:World)(hP:jc w g a k):
  Calls Tryz.prog 87 #[.pointer (some ⟨g,0,none⟩),.agg (dA n).toArray] w fun e w'=>e = .returned (.bool (Cf.bI k.mods.length n))∧Below w.heap.size w w':=by
 have c0:=hP.c0
 have hl:=hP.1.lt
 have hc:∀o:Obj,(w.alloc o).cell? ⟨g,0,none⟩=some (.slice a.A k.mods.length a.ca):=fun o=>(((Below.refl w.heap.size w).alloc (Nat.le_refl _) o).cell (p:=⟨g,0,none⟩) hl).trans c0
 clear hP c0
 obtain⟨nm,kd,da,un⟩:=n
 have hb0:∀o:Obj,Below w.heap.size w (w.alloc o):=fun o=>(Below.refl _ _).alloc (Nat.le_refl _) _
 simp only[dA]
 by_cases h1:kd=1
 ·subst h1
  have HZ:=hid (show Cf.bI k.mods.length ⟨nm,1,da,un⟩=(decide (un=0) && decide (da.length≤100)) from rfl)
  by_cases hu:un=0
  ·subst hu
   go_enter Tryz.func87,Tryz.ntmps87
   go_wp2
   go_ret
   exact⟨dX (by rw[HZ.out];simp;omega),hb0 _⟩
  ·go_enter Tryz.func87,Tryz.ntmps87
   go_wp2
   go_ret
   exact⟨dX (by rw[HZ.out];simp[hu]),hb0 _⟩
 ·by_cases h2:kd=2
  ·subst h2
   have HZ:=hid (show Cf.bI k.mods.length ⟨nm,2,da,un⟩=(decide (da=[]) && Cf.aI un k.mods.length) from rfl)
   by_cases hd:da=[]
   ·subst hd
    go_enter Tryz.func87,Tryz.ntmps87
    go_wp2_with fail
    go_quiet ((go_at_call 70;exact dJ (iJ un k.mods.length _)))
    go_wp2
    go_ret
    exact⟨dX (by rw[HZ.out];simp),below_drewN (hb0 _) _⟩
   ·go_enter Tryz.func87,Tryz.ntmps87
    go_wp2_with fail
    go_quiet ((go_at_call 70;exact dJ (iJ un k.mods.length _)))
    go_wp2
    go_ret
    exact⟨dX (by rw[HZ.out];simp[hd]),below_drewN (hb0 _) _⟩
  ·have HZ:=hid (show Cf.bI k.mods.length ⟨nm,kd,da,un⟩=decide (Cf.Node.mk nm kd da un=Cf.bM) by simp only[Cf.bI,h1,h2,if_false])
   go_enter Tryz.func87,Tryz.ntmps87
   go_wp2
   all_goals
    go_ret
    exact⟨dX (by rw[HZ.out];simp_all [Cf.bM]),hb0 _⟩
theorem wK(k:Cf.ag)(a:KA)(g i:Nat)(n:Cf.Node)(w:World)(hP:jc w g a k)(hi:k.nodes[i]?=some n)(hf:kU k):
  Calls Tryz.prog 88 #[.pointer (some ⟨g,0,none⟩),.int .i64 i] w fun e w'=>e = .returned (.bool (Cf.bK k n.name i))∧Below w.heap.size w w':=by
 have c2:=hP.c2
 have hl:=hP.1.lt
 have hilt:i<k.nodes.length:=(List.getElem?_eq_some_iff.1 hi).1
 have hnl:=(hf.node n (List.mem_of_getElem? hi)).1
 have HH:=hid (jQ k a g 1 i w hP (cu hf.procs) (fun p hp=>cu (hf.proc p hp)))
 have HN:=hid (oG n.name (cu hnl) w)
 have HFf:=hid (fun W (hW:Below w.heap.size w W)=>kX k a g n.name W (hP.below hW) (cu hf.nodes))
 have hml:=cu hf.nodes
 unfold maxLen at hml
 rcases hP.2.nodes with h|⟨b,off,hA,hb,hc⟩
 ·rw[h]at hi;simp at hi
 have r0:w.cell? ⟨b,off+i*4,none⟩=some (.string ⟨n.name.toArray⟩):=hc i n hi 0 _ rfl
 rw[hA]at c2
 clear hc hP hi hf hnl hA
 by_cases hn:n.name=[]
 ·have HZ:=hid (show Cf.bK k n.name i=Cf.hasB k.procs 1 i by simp[Cf.bK,hn])
  rw[HZ.out]
  rw[hn]at r0
  clear HFf HN HZ
  generalize Cf.hasB k.procs 1 i=z at *
  go_enter Tryz.func88,Tryz.ntmps88
  go_wp2_with fail
  refine HH.out.mono ?_
  rintro e w1 ⟨rfl,hb1⟩
  clear HH c2 r0
  go_wp2
  go_ret
  exact⟨rfl,hb1⟩
 ·have HZ:=hid (show Cf.bK k n.name i=(Cf.nameB n.name && decide (Cf.aJ (Cf.aQ n.name) k.nodes=i)) by simp[Cf.bK,hn])
  rw[HZ.out]
  clear HH HZ
  generalize Cf.aJ (Cf.aQ n.name) k.nodes=z at *
  generalize n.name=s at *
  have hs:¬s.isEmpty=true:=by simpa using hn
  generalize Cf.nameB s=q at *
  go_enter Tryz.func88,Tryz.ntmps88
  go_wp2_with fail
  refine HN.out.mono ?_
  rintro e w1 ⟨rfl,hb1⟩
  clear HN c2 r0
  cases q
  ·clear HFf
   go_wp2
   go_ret
   exact⟨rfl,hb1⟩
  ·go_wp2_with fail
   refine(HFf.out _ hb1).mono ?_
   rintro e w2 ⟨rfl,hb2⟩
   have hb3:=hb1.trans (hb2.mono hb1.size)
   clear HFf hb1 hb2
   go_wp2
   go_ret
   exact⟨dX (by rw[Bool.true_and,Bool.eq_iff_iff];simp),hb3⟩
theorem vg(k:Cf.ag)(a:KA)(g:Nat)(w:World)(hP:jc w g a k)(hf:kU k):
  Calls Tryz.prog 54 #[.pointer (some ⟨g,0,none⟩)] w fun e w'=>e = .returned (.bool (Cf.iK k))∧Below w.heap.size w w':=by
 have c2:=hP.c2
 have hl:=hP.1.lt
 have HP:=hid hP
 have HF:=hid hf
 have hml:=cu hf.nodes
 unfold maxLen at hml
 rcases hP.2.nodes with h|⟨b,off,hA,hb,hc⟩
 ·have HZ:=hid (show Cf.iK k=true by simp[Cf.iK,h])
  rw[HZ.out]
  rw[h]at c2
  clear h hP hf
  go_enter Tryz.func54,Tryz.ntmps54
  go_wp2
  refine wp_loop_rounds 1 ?_
  rw[rounds_succ]
  go_wp2
  go_ret
  exact⟨rfl,Below.refl _ _⟩
 ·rw[hA]at c2
  have Hc:=hid hc
  have HZ:=hid (show Cf.iK k=(List.range k.nodes.length).all (Cf.lu k) from rfl)
  clear hc hP hf hA
  go_enter Tryz.func54,Tryz.ntmps54
  go_wp2
  go_loopw [10] (fun i wr=>∃n:Nat,n≤k.nodes.length∧i = .int .i64 n∧(∀j,j<n→Cf.lu k j=true)∧Below w.heap.size w wr) (fun i _=>k.nodes.length-(intOf i).toNat)
  case atStart=>exact⟨0,by omega,rfl,fun j hj=>by omega,Below.refl _ _⟩
  case round=>
   obtain⟨n,hn,rfl,hok,hbw⟩:=hrel
   have Hok:=hid hok
   clear hok c2
   have hsz:=hbw.size
   by_cases hlt:n<k.nodes.length
   ·obtain⟨nm,kd,da,un,hx⟩:∃nm kd da un,k.nodes[n]?=some ⟨nm,kd,da,un⟩:=⟨_,_,_,_,List.getElem?_eq_getElem hlt⟩
    have r0:wr.cell? ⟨b,off+n*4,none⟩=_:=(hbw.cell hb).trans (Hc.out n _ hx 0 _ rfl)
    have r1:wr.cell? ⟨b,off+n*4+1,none⟩=_:=(hbw.cell hb).trans (Hc.out n _ hx 1 _ rfl)
    have r2:wr.cell? ⟨b,off+n*4+2,none⟩=_:=(hbw.cell hb).trans (Hc.out n _ hx 2 _ rfl)
    have r3:wr.cell? ⟨b,off+n*4+3,none⟩=_:=(hbw.cell hb).trans (Hc.out n _ hx 3 _ rfl)
    have hb9:∀o:Obj,Below w.heap.size w (wr.alloc o):=fun o=>hbw.alloc hsz o
    have HC1:=hid (fun o=>sK k a g ⟨nm,kd,da,un⟩ (wr.alloc o) (HP.out.below (hb9 o)))
    simp only[dA]at HC1
    have HC2:=hid (fun W (hW:Below w.heap.size w W)=>wK k a g n ⟨nm,kd,da,un⟩ W (HP.out.below hW) hx HF.out)
    have HfE:=hid (show Cf.lu k n=(Cf.bI k.mods.length ⟨nm,kd,da,un⟩ && (decide (kd=0) || Cf.bK k nm n)) by unfold Cf.lu;rw[hx];rfl)
    have hbx:=Wb.new wr 57 [.string ⟨nm.toArray⟩,.int .i64 kd,.string ⟨da.toArray⟩,.int .i64 un]
    have Hbx:=hid hbx
    clear hx hbx
    simp only at HC2
    generalize Cf.bI k.mods.length ⟨nm,kd,da,un⟩=q1 at *
    generalize Cf.bK k nm n=q2 at *
    go_wp2_with fail
    refine(HC1.out _).mono ?_
    rintro e w1 ⟨rfl,hb1⟩
    have aO:=(hb9 (.cells #[.string ⟨nm.toArray⟩,.int .i64 kd,.string ⟨da.toArray⟩,.int .i64 un] 57)).trans (hb1.mono (by simp;omega))
    have qL:=Hbx.out.below hb1 Hbx.out.lt
    have p1:=qL.cell 1
    have pl:=qL.lt
    simp only[gq]at p1
    clear hb9 hb1 qL HC1 Hbx r0 r1 r2 r3
    cases q1
    ·have HFi:=hid (show Cf.iK k=false by rw[HZ.out];exact Cf.oC hlt (by rw[HfE.out];rfl))
     clear HC2
     go_wp2
     go_ret
     exact⟨dX HFi.out.symm,aO⟩
    ·by_cases hk0:kd=0
     ·have HOn:=hid (Cf.qF Hok.out (show Cf.lu k n=true by rw[HfE.out];simp[hk0]))
      subst hk0
      clear HC2
      go_wp2
      go_roundw
      case rel=>exact⟨n+1,by omega,by go_num,HOn.out,aO⟩
      case measure=>simp[intOf];omega
     ·have hk1:¬(kd == 0)=true:=by simpa using hk0
      go_wp2_with fail
      refine(HC2.out _ aO).mono ?_
      rintro e w2 ⟨rfl,hb2⟩
      have hbw2:=aO.trans (hb2.mono aO.size)
      clear HC2 hb2 p1
      cases q2
      ·have HFi:=hid (show Cf.iK k=false by rw[HZ.out];exact Cf.oC hlt (by rw[HfE.out];simp[hk0]))
       go_wp2
       go_ret
       exact⟨dX HFi.out.symm,hbw2⟩
      ·have HOn:=hid (Cf.qF Hok.out (show Cf.lu k n=true by rw[HfE.out];simp))
       go_wp2
       go_roundw
       case rel=>exact⟨n+1,by omega,by go_num,HOn.out,hbw2⟩
       case measure=>simp[intOf];omega
   ·have HFi:=hid (show Cf.iK k=true by rw[HZ.out];exact Cf.yh fun j hj=>Hok.out j (by omega))
    go_wp2
    go_ret
    exact⟨dX HFi.out.symm,hbw⟩
theorem vF(k:Cf.ag)(a:KA)(g:Nat)(w:World)(hP:jc w g a k)(hf:kU k):
  Calls Tryz.prog 56 #[.pointer (some ⟨g,0,none⟩)] w fun e w'=>e = .returned (.bool (Cf.iF k))∧Below w.heap.size w w':=by
 have c2:=hP.c3
 have hl:=hP.1.lt
 have HP:=hid hP
 have HF:=hid hf
 have hml:=cu hf.pipes
 unfold maxLen at hml
 rcases hP.2.pipes with h|⟨b,off,hA,hb,hc⟩
 ·have HZ:=hid (show Cf.iF k=true by simp[Cf.iF,h])
  rw[HZ.out]
  rw[h]at c2
  clear h hP hf
  go_enter Tryz.func56,Tryz.ntmps56
  go_wp2
  refine wp_loop_rounds 1 ?_
  rw[rounds_succ]
  go_wp2
  go_ret
  exact⟨rfl,Below.refl _ _⟩
 ·rw[hA]at c2
  have Hc:=hid hc
  have HZ:=hid (show Cf.iF k=(List.range k.pipes.length).all (Cf.jJ k) from rfl)
  clear hc hP hf hA
  go_enter Tryz.func56,Tryz.ntmps56
  go_wp2
  go_loopw [10] (fun i wr=>∃n:Nat,n≤k.pipes.length∧i = .int .i64 n∧(∀j,j<n→Cf.jJ k j=true)∧Below w.heap.size w wr) (fun i _=>k.pipes.length-(intOf i).toNat)
  case atStart=>exact⟨0,by omega,rfl,fun j hj=>by omega,Below.refl _ _⟩
  case round=>
   obtain⟨n,hn,rfl,hok,hbw⟩:=hrel
   have Hok:=hid hok
   clear hok c2
   have hsz:=hbw.size
   by_cases hlt:n<k.pipes.length
   ·obtain⟨s,hx⟩:∃s,k.pipes[n]?=some s:=⟨_,List.getElem?_eq_getElem hlt⟩
    have r0:wr.cell? ⟨b,off+n,none⟩=some (.string ⟨s.toArray⟩):=(hbw.cell hb).trans (by have:=Hc.out n _ hx 0 _ rfl;simpa using this)
    have HC2:=hid (jQ k a g 2 n wr (HP.out.below hbw) (cu HF.out.procs) (fun p hp=>cu (HF.out.proc p hp)))
    have HfE:=hid (show Cf.jJ k n=(decide (s.length≤20) && (decide (s=[]) || Cf.hasB k.procs 2 n)) by unfold Cf.jJ;rw[hx])
    clear hx
    generalize Cf.hasB k.procs 2 n=q2 at *
    by_cases h20:20<s.length
    ·have HFi:=hid (show Cf.iF k=false by rw[HZ.out];exact Cf.oC hlt (by rw[HfE.out];simp;omega))
     clear HC2
     go_wp2
     go_ret
     exact⟨dX HFi.out.symm,hbw⟩
    ·by_cases hs0:s=[]
     ·have HOn:=hid (Cf.qF Hok.out (show Cf.jJ k n=true by rw[HfE.out];simp[hs0]))
      subst hs0
      clear HC2
      go_wp2
      go_roundw
      case rel=>exact⟨n+1,by omega,by go_num,HOn.out,hbw⟩
      case measure=>simp[intOf];omega
     ·have hs1:¬s.isEmpty=true:=by simpa using hs0
      have Hs0:=hid hs0
      clear hs0
      go_wp2_with fail
      refine HC2.out.mono ?_
      rintro e w2 ⟨rfl,hb2⟩
      have hbw2:=hbw.trans (hb2.mono hbw.size)
      clear HC2 hb2
      cases q2
      ·have HFi:=hid (show Cf.iF k=false by rw[HZ.out];exact Cf.oC hlt (by rw[HfE.out];simp[Hs0.out]))
       go_wp2
       go_ret
       exact⟨dX HFi.out.symm,hbw2⟩
      ·have HOn:=hid (Cf.qF Hok.out (show Cf.jJ k n=true by rw[HfE.out];simp;omega))
       go_wp2
       go_roundw
       case rel=>exact⟨n+1,by omega,by go_num,HOn.out,hbw2⟩
       case measure=>simp[intOf];omega
   ·have HFi:=hid (show Cf.iF k=true by rw[HZ.out];exact Cf.yh fun j hj=>Hok.out j (by omega))
    go_wp2
    go_ret
    exact⟨dX HFi.out.symm,hbw⟩
end
section
open Go.RowKit
theorem yL(k:Cf.ag)(a:KA)(g:Nat)(x:Cf.End)(w:World)(hP:jc w g a k)(hf:kU k):
  Calls Tryz.prog 91 #[.pointer (some ⟨g,0,none⟩),.agg (bH x).toArray] w fun e w'=>e = .returned (.bool (Cf.fZ k x))∧Below w.heap.size w w':=by
 have hl:=hP.1.lt
 have hb0:∀o:Obj,Below w.heap.size w (w.alloc o):=fun o=>(Below.refl _ _).alloc (Nat.le_refl _) _
 have c2:∀o:Obj,(w.alloc o).cell? ⟨g,2,none⟩=some (.slice a.N k.nodes.length a.cn):=fun o=>((hb0 o).cell (p:=⟨g,2,none⟩) hl).trans hP.c2
 have c3:∀o:Obj,(w.alloc o).cell? ⟨g,3,none⟩=some (.slice a.S k.pipes.length a.cs):=fun o=>((hb0 o).cell (p:=⟨g,3,none⟩) hl).trans hP.c3
 have hml:=cu hf.nodes
 unfold maxLen at hml
 have HP:=hid hP
 clear hP hf
 obtain⟨kd,nd,po⟩:=x
 simp only[bH]
 by_cases h1:kd=1
 ·subst h1
  have HZ:=hid (show Cf.fZ k ⟨1,nd,po⟩=(Cf.aI nd k.nodes.length && (Cf.fM k.nodes nd && Cf.aI po 101)) from rfl)
  have HW1:=hid (fun W=>iJ nd k.nodes.length W)
  have HW2:=hid (fun W=>iJ po 101 W)
  cases hw:Cf.aI nd k.nodes.length
  ·rw[hw]at HW1
   have HZ':=hid (show Cf.fZ k ⟨1,nd,po⟩=false by rw[HZ.out,hw];rfl)
   clear hw HZ HW2
   go_enter Tryz.func91,Tryz.ntmps91
   go_wp2_with fail
   go_quiet ((go_at_call 70;exact dJ (HW1.out _)))
   go_wp2
   go_ret
   exact⟨dX HZ'.out.symm,below_drewN (hb0 _) _⟩
  ·obtain⟨hw0,hw1⟩:0≤nd∧nd<k.nodes.length:=by simpa [Cf.aI] using hw
   rw[hw]at HW1
   obtain⟨m,rfl⟩:∃m:Nat,nd=m:=⟨nd.toNat,by omega⟩
   obtain⟨n,hx⟩:∃n,k.nodes[m]?=some n:=⟨_,List.getElem?_eq_getElem (by omega)⟩
   have HU:=hid (show Cf.fM k.nodes (m:Int) = !decide (n.kind=0) by unfold Cf.fM;rw[Int.toNat_natCast,hx];rfl)
   rcases HP.out.2.nodes with h|⟨b,off,hA,hb,hc⟩
   ·rw[h]at hx;simp at hx
   have r1:∀o:Obj,(w.alloc o).cell? ⟨b,off+m*4+1,none⟩=some (.int .i64 n.kind):=fun o=>((hb0 o).cell (p:=⟨b,off+m*4+1,none⟩) hb).trans (hc m n hx 1 _ rfl)
   rw[hA]at c2
   have HZ':=hid (show Cf.fZ k ⟨1,(m:Int),po⟩=(!decide (n.kind=0) && Cf.aI po 101) by rw[HZ.out,hw,HU.out];rfl)
   clear hw HZ HU hc hx hA
   generalize n.kind=nk at *
   by_cases hk:nk=0
   ·subst hk
    have HZ2:=hid (show Cf.fZ k ⟨1,(m:Int),po⟩=false by rw[HZ'.out];rfl)
    go_enter Tryz.func91,Tryz.ntmps91
    go_wp2_with fail
    go_quiet ((go_at_call 70;exact dJ (HW1.out _)))
    go_wp2
    go_ret
    exact⟨dX HZ2.out.symm,below_drewN (hb0 _) _⟩
   ·have HZ2:=hid (show Cf.fZ k ⟨1,(m:Int),po⟩=Cf.aI po 101 by rw[HZ'.out];simp[hk])
    generalize Cf.aI po 101=q at *
    go_enter Tryz.func91,Tryz.ntmps91
    go_wp2_with fail
    go_quiet ((go_at_call 70;first|with_reducible exact dJ (HW1.out _)|with_reducible exact dJ (HW2.out _)))
    go_wp2
    go_ret
    exact⟨dX (by rw[HZ2.out];simp[hk]),below_drewN (hb0 _) _⟩
 ·by_cases h2:kd=2∨kd=3
  ·have HZ:=hid (show Cf.fZ k ⟨kd,nd,po⟩=(Cf.aI nd k.pipes.length && decide (po=0)) by simp only[Cf.fZ,h1,h2,if_false,if_true])
   have HW1:=hid (fun W=>iJ nd k.pipes.length W)
   have key:∀kk:Int,kk=2∨kk=3→kd=kk→Calls Tryz.prog 91 #[.pointer (some ⟨g,0,none⟩),.agg #[.int .i64 kd,.int .i64 nd,.int .i64 po]] w fun e w'=>e = .returned (.bool (Cf.fZ k ⟨kd,nd,po⟩))∧Below w.heap.size w w':=by
    rintro kk (rfl|rfl) rfl
    all_goals
     rw[HZ.out]
     clear h2 h1 HZ
     cases hw:Cf.aI nd k.pipes.length
     ·rw[hw]at HW1
      clear hw
      go_enter Tryz.func91,Tryz.ntmps91
      go_wp2_with fail
      go_quiet ((go_at_call 70;exact dJ (HW1.out _)))
      go_wp2
      go_ret
      exact⟨rfl,below_drewN (hb0 _) _⟩
     ·rw[hw]at HW1
      clear hw
      go_enter Tryz.func91,Tryz.ntmps91
      go_wp2_with fail
      go_quiet ((go_at_call 70;exact dJ (HW1.out _)))
      go_wp2
      go_ret
      exact⟨dX (by rw[Bool.true_and,Bool.eq_iff_iff];simp),below_drewN (hb0 _) _⟩
   exact key kd h2 rfl
  ·have HZ:=hid (show Cf.fZ k ⟨kd,nd,po⟩=decide (Cf.End.mk kd nd po=Cf.noEnd) by simp only[Cf.fZ,h1,h2,if_false])
   have h3:¬kd=2:=fun h=>h2 (.inl h)
   have h4:¬kd=3:=fun h=>h2 (.inr h)
   clear h2
   go_enter Tryz.func91,Tryz.ntmps91
   go_wp2
   all_goals
    go_ret
    exact⟨dX (by rw[HZ.out];simp_all [Cf.noEnd]),hb0 _⟩
def qi(k:Cf.ag)(live:Bool)(e:Cf.End):Bool:=!(Cf.fZ k e && (live || Cf.aK e))
theorem zA(k:Cf.ag)(a:KA)(g g1 g2:Nat)(x:Cf.End)(lv:Bool)(w:World)(hP:jc w g a k)(hf:kU k)(h1:w.cell? ⟨g1,0,none⟩=some (.pointer (some ⟨g,0,none⟩)))(h2:w.cell? ⟨g2,0,none⟩=some (.bool lv)):
  Calls Tryz.prog 90 #[.agg (bH x).toArray,.pointer (some ⟨g1,0,none⟩),.pointer (some ⟨g2,0,none⟩)] w fun e w'=>e = .returned (.bool (qi k lv x))∧Below w.heap.size w w':=by
 have l1:g1<w.heap.size:=lt_of_cell h1
 have l2:g2<w.heap.size:=lt_of_cell h2
 have hb0:∀o:Obj,Below w.heap.size w (w.alloc o):=fun o=>(Below.refl _ _).alloc (Nat.le_refl _) _
 have c1:∀o:Obj,(w.alloc o).cell? ⟨g1,0,none⟩=some (.pointer (some ⟨g,0,none⟩)):=fun o=>((hb0 o).cell (p:=⟨g1,0,none⟩) l1).trans h1
 have HV:=hid (fun o=>yL k a g x (w.alloc o) (hP.below (hb0 o)) hf)
 have Hc2:=hid h2
 have HZ:=hid (show qi k lv x = !(Cf.fZ k x && (lv || decide (x.kind=0))) from rfl)
 have Hb0:=hid hb0
 obtain⟨kd,nd,po⟩:=x
 have hbx:=Wb.new w 72 [.int .i64 kd,.int .i64 nd,.int .i64 po]
 have Hbx:=hid hbx
 simp only[bH]at HV ⊢
 simp only at HZ
 clear hP hf h1 h2 hbx
 generalize Cf.fZ k ⟨kd,nd,po⟩=q at *
 go_enter Tryz.func90,Tryz.ntmps90
 go_wp2_with fail
 refine(HV.out _).mono ?_
 rintro e w1 ⟨rfl,hb1⟩
 have hbw:=(Hb0.out (.cells #[.int .i64 kd,.int .i64 nd,.int .i64 po] 72)).trans (hb1.mono (by simp))
 have qL:=Hbx.out.below hb1 Hbx.out.lt
 have p0:=qL.cell 0
 have pl:=qL.lt
 simp only[List.getElem?_cons_zero]at p0
 have d2:w1.cell? ⟨g2,0,none⟩=some (.bool lv):=(hbw.cell (p:=⟨g2,0,none⟩) l2).trans Hc2.out
 have l2':g2<w1.heap.size:=Nat.lt_of_lt_of_le l2 hbw.size
 clear hb1 qL Hbx HV c1 hb0
 cases q
 ·go_wp2
  go_ret
  exact⟨dX (by rw[HZ.out];rfl),hbw⟩
 ·cases lv
  ·go_wp2
   go_ret
   exact⟨dX (by rw[HZ.out,Bool.eq_iff_iff];simp),hbw⟩
  ·go_wp2
   go_ret
   exact⟨dX (by rw[HZ.out];rfl),hbw⟩
theorem Ie(k:Cf.ag)(p:Cf.dR):Cf.kE k p = !(!decide (p.ends.length=6) || p.ends.any (qi k p.live)):=by
 have h:p.ends.any (qi k p.live) = !p.ends.all (fun e=>Cf.fZ k e && (p.live || Cf.aK e)):=Cf.yV
 rw[h]
 simp[Cf.kE]
theorem wU(k:Cf.ag)(a:KA)(g g1:Nat)(p:Cf.dR)(A:Option Addr)(cap:Nat)(w:World)(hP:jc w g a k)(hf:kU k)(hR:Ends w A p.ends)(hm:p.ends.length≤maxLen)(h1:w.cell? ⟨g1,0,none⟩=some (.pointer (some ⟨g,0,none⟩))):
  Calls Tryz.prog 89 #[.agg #[.bool p.live,.slice A p.ends.length cap],.pointer (some ⟨g1,0,none⟩)] w fun e w'=>e = .returned (.bool (!Cf.kE k p))∧Below w.heap.size w w':=by
 have hmf:∀(fn:Fn) (first cap:Array Value) (w:World),(Instr.makeFunc fn first cap).run Tryz.prog w = .ok (.func fn first cap) w:=fun _ _ _ _=>rfl
 have l1:g1<w.heap.size:=lt_of_cell h1
 have hb0:∀o:Obj,Below w.heap.size w (w.alloc o):=fun o=>(Below.refl _ _).alloc (Nat.le_refl _) _
 have hbx:=Wb.new w 69 [.bool p.live,.slice A p.ends.length cap]
 have HV:=hid (xJ p.ends A cap (w.alloc (.cells #[.bool p.live,.slice A p.ends.length cap] 69)) (RdS.below hR (hb0 _)) hm p.ends rfl (qi k p.live) 90 #[.pointer (some ⟨g1,0,none⟩),.pointer (some ⟨w.heap.size,0,none⟩)]
  (fun i x y w' hx hy hb=>by
    obtain rfl:=Option.some.inj (hx.symm.trans hy)
    exact zA k a g g1 w.heap.size x p.live w' ((hP.below (hb0 _)).below hb) hf ((hb.cell (p:=⟨g1,0,none⟩) (by show g1<_;simp;omega)).trans (((hb0 _).cell (p:=⟨g1,0,none⟩) l1).trans h1)) ((hbx.below hb hbx.lt).cell 0)) (fun args w=>by simp[go_sem]))
 have HZ:=hid (show(!Cf.kE k p)=(!decide (p.ends.length=6) || p.ends.any (qi k p.live)) by rw[Ie,Bool.not_not])
 rw[HZ.out]
 clear hP hf hR h1 hbx HZ
 generalize p.ends.any (qi k p.live)=q at *
 generalize p.live=lv at *
 by_cases h6:p.ends.length=6
 ·rw[h6]at HV ⊢
  clear h6 hm
  go_enter Tryz.func89,Tryz.ntmps89
  go_wp2_with fail
  refine HV.out.mono ?_
  rintro e w1 ⟨rfl,hb1⟩
  have hbw:=(hb0 (.cells #[.bool lv,.slice A 6 cap] 69)).trans (hb1.mono (by simp))
  clear hb1 hb0 HV
  go_wp2
  go_ret
  exact⟨dX (by simp),hbw⟩
 ·generalize p.ends.length=n at *
  have h6':¬(n:Int)=6:=by omega
  go_enter Tryz.func89,Tryz.ntmps89
  go_wp2
  go_ret
  exact⟨dX (by simp[h6]),hb0 _⟩
theorem vC(k:Cf.ag)(a:KA)(g:Nat)(w:World)(hP:jc w g a k)(hf:kU k):
  Calls Tryz.prog 55 #[.pointer (some ⟨g,0,none⟩)] w fun e w'=>e = .returned (.bool (Cf.jT k))∧Below w.heap.size w w':=by
 have hmf:∀(fn:Fn) (first cap:Array Value) (w:World),(Instr.makeFunc fn first cap).run Tryz.prog w = .ok (.func fn first cap) w:=fun _ _ _ _=>rfl
 have hl:=hP.1.lt
 have hb0:∀o:Obj,Below w.heap.size w (w.alloc o):=fun o=>(Below.refl _ _).alloc (Nat.le_refl _) _
 obtain⟨ps,hps,hpp⟩:=hP.2.procs
 have hc:=hP.c4
 rw[← hpp.1]at hc
 have c4:∀o:Obj,(w.alloc o).cell? ⟨g,4,none⟩=some (.slice a.Q ps.length a.cq):=fun o=>((hb0 o).cell (p:=⟨g,4,none⟩) hl).trans hc
 have hbx:=Wb.new w 82 [.pointer (some ⟨g,0,none⟩)]
 have HV:=hid (xO ps a.Q a.cq (w.alloc (.cells #[.pointer (some ⟨g,0,none⟩)] 82)) (RdS.below hps (hb0 _)) (by rw[hpp.1];exact cu hf.procs) k.procs hpp.1 (fun p=>!Cf.kE k p) 89 #[.pointer (some ⟨w.heap.size,0,none⟩)]
  (fun i x y w' hx hy hb=>by
    obtain⟨h1,h2,h3⟩:=hpp.2 i x y hx hy
    obtain⟨lv,A1,le,ce⟩:=x
    simp only at h1 h2 h3
    subst h1 h2
    exact wU k a g w.heap.size y A1 ce w' ((hP.below (hb0 _)).below hb) hf (RdS.below (RdS.below h3 (hb0 _)) hb) (cu (hf.proc y (List.mem_of_getElem? hy))) ((hbx.below hb hbx.lt).cell 0)) (fun args w=>by simp[go_sem]))
 have HZ:=hid (show k.procs.any (fun p=>!Cf.kE k p) = !Cf.jT k from Cf.yV)
 rw[HZ.out]at HV
 clear hP hf hps hpp hc hbx HZ
 generalize Cf.jT k=q at *
 go_enter Tryz.func55,Tryz.ntmps55
 go_wp2_with fail
 refine HV.out.mono ?_
 rintro e w1 ⟨rfl,hb1⟩
 have hbw:=(hb0 (.cells #[.pointer (some ⟨g,0,none⟩)] 82)).trans (hb1.mono (by simp))
 clear hb1 hb0 HV c4
 go_wp2
 go_ret
 exact⟨dX (by simp),hbw⟩
theorem BM(k:Cf.ag)(a:KA)(w:World)(hR:KRd w a k)(hf:kU k)(hL:jW w)(hF:kL w):
  Calls Tryz.prog 21 #[.agg (af a k).toArray] w fun e w'=>e = .returned (.int .i64 (Cf.iq k))∧Below w.heap.size w w':=by
 have hb0:Below w.heap.size w (w.alloc (.cells (af a k).toArray ae)):=(Below.refl _ _).alloc (Nat.le_refl _) _
 have hP:jc (w.alloc (.cells (af a k).toArray ae)) w.heap.size a k:=⟨Wb.new w ae (af a k),hR.below hb0⟩
 have HT:=hid (show Cf.iq k=if Cf.sizedB k then(if Cf.gG k.mods=0 then(if k.mem.all Cf.aV then(if Cf.iK k && (Cf.jT k && Cf.iF k) then 0 else 9) else 2) else Cf.gG k.mods) else 1 from rfl)
 rw[HT.out]
 obtain⟨xs,hxs,hxm⟩:=hP.2.mods
 have HS:=hid (EC k a w.heap.size _ hP)
 have HM:=hid (rY xs k.mods a.A a.ca _ hxs hxm (cu hf.mods) hR.capA (fun m hm=>by
  obtain⟨h1,h2,h3⟩:=hf.each m hm
  exact⟨cu h1,cu h2,cu h3⟩) (hL.below hb0) (hF.below hb0))
 have HW:=hid (fun W (hW:Below w.heap.size w W)=>IA k.mem a.M a.cm W (RdS.below hR.mem hW) (cu hf.mem) k.mem rfl (fun v=>!Cf.aV v) 52 #[]
  (fun i x y w' hx hy hb=>by
    obtain rfl:=Option.some.inj (hx.symm.trans hy)
    exact zW x w') (fun args w=>by simp[go_sem]))
 have HWn:=hid (show k.mem.any (fun v=>!Cf.aV v) = !k.mem.all Cf.aV from Cf.yV)
 rw[HWn.out]at HW
 have HV1:=hid (fun W (hW:jc W w.heap.size a k)=>vg k a w.heap.size W hW hf)
 have HV2:=hid (fun W (hW:jc W w.heap.size a k)=>vC k a w.heap.size W hW hf)
 have HV3:=hid (fun W (hW:jc W w.heap.size a k)=>vF k a w.heap.size W hW hf)
 have HP:=hid hP
 have c0:=hP.c0
 have hl:=hP.1.lt
 have Hb0:=hid hb0
 clear hR hf hL hF hxs hxm hP hb0 HWn HT
 generalize Cf.sizedB k=q0 at *
 generalize Cf.gG k.mods=q1 at *
 generalize k.mem.all Cf.aV=q2 at *
 generalize Cf.iK k=q3 at *
 generalize Cf.jT k=q4 at *
 generalize Cf.iF k=q5 at *
 simp only[af]at *
 go_enter Tryz.func21,Tryz.ntmps21
 go_wp2_with fail
 refine HS.out.mono ?_
 rintro e w' ⟨rfl,rfl⟩
 clear HS
 cases q0
 ·go_wp2
  go_ret
  exact⟨rfl,Hb0.out⟩
 ·go_wp2_with fail
  refine HM.out.mono ?_
  rintro e w1 ⟨rfl,hb1⟩
  have aO:=Hb0.out.trans (hb1.mono Hb0.out.size)
  have hP1:=HP.out.below hb1
  have d1:=hP1.c1
  have hl1:=hP1.1.lt
  have HP1:=hid hP1
  clear HM hb1 c0 hP1
  by_cases hq1:q1=0
  ·subst hq1
   go_wp2_with fail
   refine(HW.out _ aO).mono ?_
   rintro e w2 ⟨rfl,hb2⟩
   have hbw2:=aO.trans (hb2.mono aO.size)
   have HP2:=hid (HP1.out.below hb2)
   clear HW hb2 d1
   cases q2
   ·go_wp2
    go_ret
    exact⟨rfl,hbw2⟩
   ·go_wp2_with fail
    refine(HV1.out _ HP2.out).mono ?_
    rintro e w3 ⟨rfl,hb3⟩
    have hbw3:=hbw2.trans (hb3.mono hbw2.size)
    have HP3:=hid (HP2.out.below hb3)
    clear HV1 hb3
    cases q3
    ·go_wp2
     go_ret
     exact⟨rfl,hbw3⟩
    ·go_wp2_with fail
     refine(HV2.out _ HP3.out).mono ?_
     rintro e w4 ⟨rfl,hb4⟩
     have lw:=hbw3.trans (hb4.mono hbw3.size)
     have HP4:=hid (HP3.out.below hb4)
     clear HV2 hb4
     cases q4
     ·go_wp2
      go_ret
      exact⟨rfl,lw⟩
     ·go_wp2_with fail
      refine(HV3.out _ HP4.out).mono ?_
      rintro e w5 ⟨rfl,hb5⟩
      have qh:=lw.trans (hb5.mono lw.size)
      clear HV3 hb5
      cases q5
      ·go_wp2
       go_ret
       exact⟨rfl,qh⟩
      ·go_wp2
       go_ret
       exact⟨rfl,qh⟩
  ·clear HW HV1 HV2 HV3
   go_wp2
   go_ret
   exact⟨by simp,aO⟩
end
end Go.Proofs.YtnnhhbjbdmgpiaaGreatDoor
