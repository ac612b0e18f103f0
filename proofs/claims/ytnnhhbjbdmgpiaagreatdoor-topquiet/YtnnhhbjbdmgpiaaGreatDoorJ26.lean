/- Texts of the proofs: ModW, ChkW, ChkV, ChkU. -/
import Derived.Test.YtnnhhbjbdmgpiaaGreatDoorJ06
import Derived.Test.YtnnhhbjbdmgpiaaGreatDoorJ05
import Derived.Test.YtnnhhbjbdmgpiaaGreatDoorJ18
import Derived.Test.YtnnhhbjbdmgpiaaGreatDoorJ20
import Derived.Test.YtnnhhbjbdmgpiaaGreatDoorJ03
import Derived.Test.YtnnhhbjbdmgpiaaGreatDoorJ04
set_option linter.unusedSimpArgs false
set_option linter.unusedVariables false
/- Walks of chapter 4: the program's Check of a module. -/
namespace Go.Proofs.YtnnhhbjbdmgpiaaGreatDoor
set_option maxRecDepth 100000
open Go.RowKit
set_option maxHeartbeats 2000000 in
theorem modCheck_any (n : List UInt8) (l : List Cf.Ins) (d : List Int) (A B : Option Addr) (ca cb : Nat) (w : World) (hC : Codes w A l) (hD : Ints w B d) (hL : TabL w) (hF : TabF w) (hn : n.length ≤ maxLen) (hl : l.length ≤ maxLen) (hd : d.length ≤ maxLen) :
  Calls Tryz.prog 84 #[.agg #[.string ⟨n.toArray⟩, .slice A l.length ca, .slice B d.length cb]] w fun e w' => e = .returned (.int .i64 (Cf.modT ⟨n, l, d⟩)) ∧ Below w.heap.size w w' := by
 have hmf : ∀ (fn : Fn) (first cap : Array Value) (w : World), (Instr.makeFunc fn first cap).run Tryz.prog w = .ok (.func fn first cap) w := fun _ _ _ _ => rfl
 have hb0 : Below w.heap.size w (w.alloc (.cells #[.string ⟨n.toArray⟩, .slice A l.length ca, .slice B d.length cb] 79)) := (Below.refl _ _).alloc (Nat.le_refl _) _
 have hbox : Wb (w.alloc (.cells #[.string ⟨n.toArray⟩, .slice A l.length ca, .slice B d.length cb] 79)) w.heap.size 79 [.string ⟨n.toArray⟩, .slice A l.length ca, .slice B d.length cb] := Wb.new w 79 [.string ⟨n.toArray⟩, .slice A l.length ca, .slice B d.length cb]
 have HN := Lib.hid (pname_any n hn (w.alloc (.cells #[.string ⟨n.toArray⟩, .slice A l.length ca, .slice B d.length cb] 79)))
 have HC := Lib.hid hC
 have HD := Lib.hid hD
 have HL := Lib.hid hL
 have HF := Lib.hid hF
 have HMl := Lib.hid hl
 have HMd := Lib.hid hd
 have HB0 := Lib.hid hb0
 have Hbox := Lib.hid hbox
 unfold maxLen at hd
 clear hC hD hL hF hl hbox hb0
 go_enter Tryz.func84, Tryz.ntmps84
 go_wp2_with fail
 refine HN.out.mono ?_
 rintro e w1 ⟨rfl, hb1⟩
 have hbw1 := HB0.out.trans (hb1.mono (by simp))
 have hbox1 := Hbox.out.below hb1 (by simp)
 clear HN hb1 Hbox HB0
 cases hnb : Cf.nameB n
 ·have HS := Lib.hid (show Cf.modT ⟨n, l, d⟩ = 4 by unfold Cf.modT; rw [if_neg (by simp [hnb])])
  clear hnb
  go_wp2
  go_ret
  exact ⟨by rw [HS.out]; rfl, hbw1⟩
 ·have p1 := hbox1.cell 1
  have p2 := hbox1.cell 2
  simp only [List.getElem?_cons_zero, List.getElem?_cons_succ] at p1 p2
  by_cases h64 : d.length ≤ 64
  ·have HCF := Lib.hid (mContainsFunc_any d B cb w1 (HD.out.below hbw1) HMd.out)
   cases hw : d.all Cf.wordB
   ·have HS := Lib.hid (show Cf.modT ⟨n, l, d⟩ = 2 by unfold Cf.modT; rw [if_pos hnb, if_pos h64, if_neg (by simp [hw])])
    rw [hw] at HCF
    clear hnb hw
    go_wp2_with fail
    refine HCF.out.mono ?_
    rintro e w2 ⟨rfl, rfl⟩
    go_wp2
    go_ret
    exact ⟨by rw [HS.out]; rfl, hbw1⟩
   ·have HS := Lib.hid (show Cf.modT ⟨n, l, d⟩ = Cf.safeT l by unfold Cf.modT; rw [if_pos hnb, if_pos h64, if_pos hw])
    rw [hw] at HCF
    have HV := Lib.hid (verify_any l A ca w1 (HC.out.below hbw1) (HL.out.below hbw1) (HF.out.below hbw1) HMl.out)
    clear hnb hw
    go_wp2_with fail
    refine HCF.out.mono ?_
    rintro e w2 ⟨rfl, rfl⟩
    go_wp2_with fail
    refine HV.out.mono ?_
    rintro e w3 ⟨rfl, hb3⟩
    have hbw3 := hbw1.trans (hb3.mono hbw1.size)
    go_wp2
    go_ret
    exact ⟨by rw [HS.out]; rfl, hbw3⟩
  ·have HS := Lib.hid (show Cf.modT ⟨n, l, d⟩ = 1 by unfold Cf.modT; rw [if_pos hnb, if_neg h64])
   clear hnb
   go_wp2
   go_ret
   exact ⟨by rw [HS.out]; rfl, hbw1⟩
end Go.Proofs.YtnnhhbjbdmgpiaaGreatDoor
/- Walks of chapter 5: the program's Check of a kernel. -/
namespace Go.Proofs.YtnnhhbjbdmgpiaaGreatDoor
set_option maxRecDepth 100000
open Go.RowKit
set_option maxHeartbeats 1000000 in
theorem sized_any (k : Cf.Kern) (a : KA) (g : Nat) (w : World) (hP : KPtr w g a k) :
  Calls Tryz.prog 50 #[.pointer (some ⟨g, 0, none⟩)] w fun e w' => e = .returned (.bool (Cf.sizedB k)) ∧ w = w' := by
 have c0 := hP.c0
 have c1 := hP.c1
 have c2 := hP.c2
 have c3 := hP.c3
 have c4 := hP.c4
 have hl := hP.1.lt
 obtain ⟨mods, mem, nodes, pipes, procs⟩ := k
 simp only at c0 c1 c2 c3 c4
 clear hP
 by_cases h0 : mods.length ≤ 8
 ·by_cases h1 : mem.length = 1024
  ·by_cases h2 : nodes.length = 8
   ·by_cases h3 : pipes.length = 6
    ·have HZ := Lib.hid (show Cf.sizedB ⟨mods, mem, nodes, pipes, procs⟩ = decide (procs.length = 4) by simp [Cf.sizedB, h0, h1, h2, h3])
     rw [h1] at c1
     rw [h2] at c2
     rw [h3] at c3
     clear h1 h2 h3
     go_enter Tryz.func50, Tryz.ntmps50
     go_wp2
     go_ret
     refine ⟨retB (by rw [HZ.out, Bool.eq_iff_iff]; simp; omega), rfl⟩
    ·have HZ := Lib.hid (show Cf.sizedB ⟨mods, mem, nodes, pipes, procs⟩ = false by simp [Cf.sizedB, h3])
     rw [h1] at c1
     rw [h2] at c2
     clear h1 h2
     have h3' : ¬ (pipes.length : Int) = 6 := by omega
     clear h3
     go_enter Tryz.func50, Tryz.ntmps50
     go_wp2
     go_ret
     exact ⟨retB HZ.out.symm, rfl⟩
   ·have HZ := Lib.hid (show Cf.sizedB ⟨mods, mem, nodes, pipes, procs⟩ = false by simp [Cf.sizedB, h2])
    rw [h1] at c1
    clear h1
    have h3' : ¬ (nodes.length : Int) = 8 := by omega
    clear h2
    go_enter Tryz.func50, Tryz.ntmps50
    go_wp2
    go_ret
    exact ⟨retB HZ.out.symm, rfl⟩
  ·have HZ := Lib.hid (show Cf.sizedB ⟨mods, mem, nodes, pipes, procs⟩ = false by simp [Cf.sizedB, h1])
   have h3' : ¬ (mem.length : Int) = 1024 := by omega
   clear h1
   go_enter Tryz.func50, Tryz.ntmps50
   go_wp2
   go_ret
   exact ⟨retB HZ.out.symm, rfl⟩
 ·have HZ := Lib.hid (show Cf.sizedB ⟨mods, mem, nodes, pipes, procs⟩ = false by simp [Cf.sizedB, h0])
  go_enter Tryz.func50, Tryz.ntmps50
  go_wp2
  go_ret
  exact ⟨retB HZ.out.symm, rfl⟩
theorem noWordK_any (v : Int) (w : World) :
  Calls Tryz.prog 52 #[.int .i64 v] w fun e w' => e = .returned (.bool (!Cf.wordB v)) ∧ Below w.heap.size w w' := by
 by_cases h1 : v < 0
 ·go_enter Tryz.func52, Tryz.ntmps52
  go_wp2
  go_ret
  exact ⟨by simp [Cf.wordB, Cf.inB, h1], Below.refl _ _⟩
 ·by_cases h2 : 65535 < v
  ·go_enter Tryz.func52, Tryz.ntmps52
   go_wp2
   go_ret
   exact ⟨by simp [Cf.wordB, Cf.inB, h2], Below.refl _ _⟩
  ·go_enter Tryz.func52, Tryz.ntmps52
   go_wp2
   go_ret
   exact ⟨by simp [Cf.wordB, Cf.inB, h1, h2], Below.refl _ _⟩
theorem RdS.take {α : Type} {sz : Nat} {enc : α → List Value} {w : World} {A : Option Addr} {l : List α} (h : RdS sz enc w A l) (n : Nat) : RdS sz enc w A (l.take n) := by
 rcases h with rfl | ⟨b, off, hA, hb, hc⟩
 ·exact .inl (by simp)
 ·refine .inr ⟨b, off, hA, hb, fun k x hx => hc k x ?_⟩
  rw [List.getElem?_take] at hx
  split at hx
  ·exact hx
  ·cases hx
theorem Each.take {α β : Type} {R : α → β → Prop} {xs : List α} {ys : List β} (h : Each R xs ys) (n : Nat) : Each R (xs.take n) (ys.take n) :=
 ⟨by simp [h.1], fun i a b hi hb => by
   rw [List.getElem?_take] at hi hb
   split at hi
   ·rename_i hik
    rw [if_pos hik] at hb
    exact h.2 i a b hi hb
   ·cases hi⟩
def ModsOk (l : List Cf.Mod) (n : Nat) : Prop := ∀ j, j < n → Cf.modE l j = 0
set_option maxHeartbeats 1000000 in
theorem checkModules_any (xs : List MV) (l : List Cf.Mod) (A : Option Addr) (cap : Nat) (w : World) (hR : RdS 3 encMv w A xs) (hE : Each (IsM w) xs l) (hm : l.length ≤ maxLen) (hcap : l.length ≤ cap) (hz : ∀ m ∈ l, m.name.length ≤ maxLen ∧ m.code.length ≤ maxLen ∧ m.data.length ≤ maxLen) (hL : TabL w) (hF : TabF w) :
  Calls Tryz.prog 51 #[.slice A l.length cap] w fun e w' => e = .returned (.int .i64 (Cf.modsE l)) ∧ Below w.heap.size w w' := by
 have hmf : ∀ (fn : Fn) (first cap : Array Value) (w : World), (Instr.makeFunc fn first cap).run Tryz.prog w = .ok (.func fn first cap) w := fun _ _ _ _ => rfl
 have HE := Lib.hid hE
 have HR := Lib.hid hR
 have HZ := Lib.hid hz
 have HL := Lib.hid hL
 have HF := Lib.hid hF
 unfold maxLen at hm
 have Heg := Lib.hid (fun args w => show (callFunc 85 args).run Tryz.prog w = .ok (.enter 85 args) w by simp [go_sem])
 rcases hR with h0 | ⟨b, off, rfl, hb, hc⟩
 ·obtain rfl : l = [] := List.eq_nil_of_length_eq_zero (by rw [← hE.1, h0]; rfl)
  clear hE hz hL hF
  go_enter Tryz.func51, Tryz.ntmps51
  go_wp2
  refine wp_loop_rounds 1 ?_
  rw [rounds_succ]
  go_wp2
  go_ret
  exact ⟨rfl, Below.refl _ _⟩
 ·have Hc := Lib.hid hc
  clear hE hz hL hF hc
  go_enter Tryz.func51, Tryz.ntmps51
  go_wp2
  go_loopw [8] (fun i wr => ∃ n : Nat, n ≤ l.length ∧ i = .int .i64 n ∧ ModsOk l n ∧ Below w.heap.size w wr) (fun i _ => l.length - (intOf i).toNat)
  case atStart => exact ⟨0, by omega, rfl, fun j hj => by omega, Below.refl _ _⟩
  case round =>
   obtain ⟨n, hn, rfl, hok, hbw⟩ := hrel
   have Hok := Lib.hid hok
   clear hok
   have hsz := hbw.size
   by_cases hlt : n < l.length
   ·have hncap : n ≤ cap := by omega
    obtain ⟨nm, code, data, hx2⟩ : ∃ nm code data, l[n]? = some ⟨nm, code, data⟩ := ⟨_, _, _, List.getElem?_eq_getElem hlt⟩
    obtain ⟨nm1, A1, l1, c1, B1, d1, e1, hx⟩ : ∃ nm1 A1 l1 c1 B1 d1 e1, xs[n]? = some ⟨nm1, A1, l1, c1, B1, d1, e1⟩ := ⟨_, _, _, _, _, _, _, List.getElem?_eq_getElem (by rw [HE.out.1]; exact hlt)⟩
    obtain ⟨h1, h2, h3, hC1, hD1⟩ := HE.out.2 n _ _ hx hx2
    obtain ⟨hnl, hcl, hdl⟩ := HZ.out _ (List.mem_of_getElem? hx2)
    simp only at h1 h2 h3 hC1 hD1 hnl hcl hdl
    subst h1 h2 h3
    have r0 : wr.cell? ⟨b, off + n * 3, none⟩ = _ := (hbw.cell hb).trans (Hc.out n _ hx 0 _ rfl)
    have r1 : wr.cell? ⟨b, off + n * 3 + 1, none⟩ = _ := (hbw.cell hb).trans (Hc.out n _ hx 1 _ rfl)
    have r2 : wr.cell? ⟨b, off + n * 3 + 2, none⟩ = _ := (hbw.cell hb).trans (Hc.out n _ hx 2 _ rfl)
    have hb9 : ∀ o : Obj, Below w.heap.size w (wr.alloc o) := fun o => hbw.alloc hsz o
    have HM := Lib.hid (fun o => modCheck_any nm1 code data A1 B1 c1 e1 (wr.alloc o) (hC1.below (hb9 o)) (hD1.below (hb9 o)) (HL.out.below (hb9 o)) (HF.out.below (hb9 o)) hnl hcl hdl)
    have HmE := Lib.hid (show Cf.modE l n = if Cf.modT ⟨nm1, code, data⟩ = 0 then (if (l.take n).any (Cf.modIs nm1) then 7 else 0) else Cf.modT ⟨nm1, code, data⟩ by unfold Cf.modE; rw [hx2])
    have hbx := Wb.new wr 79 [.string ⟨nm1.toArray⟩, .slice A1 code.length c1, .slice B1 data.length e1]
    have Hbx := Lib.hid hbx
    have hlt0 : (l.take n).length = n := by simp; omega
    have HLt := Lib.hid hlt0
    clear hx hx2 hC1 hD1 hnl hcl hdl hbx hlt0
    generalize Cf.modT ⟨nm1, code, data⟩ = z at *
    go_wp2_with fail
    refine (HM.out _).mono ?_
    rintro e w1 ⟨rfl, hb1⟩
    have hbw1 := (hb9 (.cells #[.string ⟨nm1.toArray⟩, .slice A1 code.length c1, .slice B1 data.length e1] 79)).trans (hb1.mono (by simp; omega))
    have hbx1 := Hbx.out.below hb1 Hbx.out.lt
    have p0 := hbx1.cell 0
    have pl := hbx1.lt
    simp only [List.getElem?_cons_zero] at p0
    clear hb9 hb1 hbx1 HM Hbx
    by_cases hz0 : z = 0
    ·subst hz0
     have HFm := Lib.hid (fun W (hW : Below w.heap.size w W) => findModule_any (xs.take n) (l.take n) (some ⟨b, off, none⟩) cap nm1 W ((RdS.take HR.out n).below hW) ((HE.out.take n).mono fun _ _ h => h.below hW) (by rw [HLt.out]; unfold maxLen; omega))
     rw [HLt.out] at HFm
     have Hpos := Lib.hid (Cf.idx_pos (p := Cf.modIs nm1) (l := l.take n))
     generalize Cf.idxT (Cf.modIs nm1) (l.take n) = q at *
     by_cases hq : 0 ≤ q
     ·have HFi := Lib.hid (show Cf.modsE l = 7 by
       have h7 : Cf.modE l n = 7 := by
        rw [HmE.out, if_pos rfl, ← Hpos.out, if_pos (by simpa using hq)]
       unfold Cf.modsE
       rw [Cf.first_at Hok.out (by rw [h7]; decide) hlt, h7])
      go_wp2_with fail
      go_region_law (first
       | (refine step_call2 (by rfl) 85 (.tmp 20) (.tmp 22) #[22, 9] (by rfl) (.slice (some ⟨b, off, none⟩) n cap) (.string ⟨nm1.toArray⟩) (by rfl) (by rfl) Heg.out (HFm.out _ hbw1.drew) ?_
          rintro e w5 ⟨rfl, hb5⟩
          refine ⟨_, rfl, ?_⟩
          have hbw5 := hbw1.drew.trans (hb5.mono hbw1.drew.size)
          clear hb5)
       | fail)
      all_goals
       go_wp2
       go_ret
       exact ⟨by rw [HFi.out]; rfl, hbw5⟩
     ·have HOn := Lib.hid (show ModsOk l (n + 1) from fun j hj => by
       rcases Nat.lt_succ_iff_lt_or_eq.1 hj with h | h
       ·exact Hok.out j h
       ·rw [h, HmE.out, if_pos rfl, ← Hpos.out, if_neg (by simpa using hq)])
      go_wp2_with fail
      go_region_law (first
       | (refine step_call2 (by rfl) 85 (.tmp 20) (.tmp 22) #[22, 9] (by rfl) (.slice (some ⟨b, off, none⟩) n cap) (.string ⟨nm1.toArray⟩) (by rfl) (by rfl) Heg.out (HFm.out _ hbw1.drew) ?_
          rintro e w5 ⟨rfl, hb5⟩
          refine ⟨_, rfl, ?_⟩
          have hbw5 := hbw1.drew.trans (hb5.mono hbw1.drew.size)
          clear hb5)
       | fail)
      all_goals
       go_wp2
       go_roundw
       case rel => exact ⟨n + 1, by omega, by go_num, HOn.out, hbw5⟩
       case measure => simp [intOf]; omega
    ·have HFi := Lib.hid (show Cf.modsE l = z by unfold Cf.modsE; rw [Cf.first_at Hok.out (by rw [HmE.out, if_neg hz0]; exact hz0) hlt, HmE.out, if_neg hz0])
     go_wp2
     go_ret
     exact ⟨by rw [HFi.out]; rfl, hbw1⟩
   ·have HFi := Lib.hid (show Cf.modsE l = 0 from Cf.first_all fun j hj => Hok.out j (by omega))
    go_wp2
    go_ret
    exact ⟨by rw [HFi.out]; rfl, hbw⟩
end Go.Proofs.YtnnhhbjbdmgpiaaGreatDoor
/- Walks of chapter 5: the program's Check of files, processes and pipes. -/
namespace Go.Proofs.YtnnhhbjbdmgpiaaGreatDoor
set_option maxRecDepth 100000
open Go.RowKit
theorem le_maxLen {n : Nat} (h : n ≤ big) : n ≤ maxLen := Nat.le_trans h (by unfold big maxLen; omega)
set_option maxHeartbeats 1000000 in
theorem validContent_any (k : Cf.Kern) (a : KA) (g : Nat) (n : Cf.Node) (w : World) (hP : KPtr w g a k) :
  Calls Tryz.prog 87 #[.pointer (some ⟨g, 0, none⟩), .agg (encNd n).toArray] w fun e w' => e = .returned (.bool (Cf.contentB k.mods.length n)) ∧ Below w.heap.size w w' := by
 have c0 := hP.c0
 have hl := hP.1.lt
 have hc : ∀ o : Obj, (w.alloc o).cell? ⟨g, 0, none⟩ = some (.slice a.A k.mods.length a.ca) := fun o => (((Below.refl w.heap.size w).alloc (Nat.le_refl _) o).cell (p := ⟨g, 0, none⟩) hl).trans c0
 clear hP c0
 obtain ⟨nm, kd, da, un⟩ := n
 have hb0 : ∀ o : Obj, Below w.heap.size w (w.alloc o) := fun o => (Below.refl _ _).alloc (Nat.le_refl _) _
 simp only [encNd]
 by_cases h1 : kd = 1
 ·subst h1
  have HZ := Lib.hid (show Cf.contentB k.mods.length ⟨nm, 1, da, un⟩ = (decide (un = 0) && decide (da.length ≤ 100)) from rfl)
  by_cases hu : un = 0
  ·subst hu
   go_enter Tryz.func87, Tryz.ntmps87
   go_wp2
   go_ret
   exact ⟨retB (by rw [HZ.out]; simp; omega), hb0 _⟩
  ·go_enter Tryz.func87, Tryz.ntmps87
   go_wp2
   go_ret
   exact ⟨retB (by rw [HZ.out]; simp [hu]), hb0 _⟩
 ·by_cases h2 : kd = 2
  ·subst h2
   have HZ := Lib.hid (show Cf.contentB k.mods.length ⟨nm, 2, da, un⟩ = (decide (da = []) && Cf.withinB un k.mods.length) from rfl)
   by_cases hd : da = []
   ·subst hd
    go_enter Tryz.func87, Tryz.ntmps87
    go_wp2_with fail
    go_quiet ((go_at_call 70; exact quietE (within_any un k.mods.length _)))
    go_wp2
    go_ret
    exact ⟨retB (by rw [HZ.out]; simp), below_drewN (hb0 _) _⟩
   ·go_enter Tryz.func87, Tryz.ntmps87
    go_wp2_with fail
    go_quiet ((go_at_call 70; exact quietE (within_any un k.mods.length _)))
    go_wp2
    go_ret
    exact ⟨retB (by rw [HZ.out]; simp [hd]), below_drewN (hb0 _) _⟩
  ·have HZ := Lib.hid (show Cf.contentB k.mods.length ⟨nm, kd, da, un⟩ = decide (Cf.Node.mk nm kd da un = Cf.noNode) by simp only [Cf.contentB, h1, h2, if_false])
   go_enter Tryz.func87, Tryz.ntmps87
   go_wp2
   all_goals
    go_ret
    exact ⟨retB (by rw [HZ.out]; simp_all [Cf.noNode]), hb0 _⟩
set_option maxHeartbeats 1000000 in
theorem validName_any (k : Cf.Kern) (a : KA) (g i : Nat) (n : Cf.Node) (w : World) (hP : KPtr w g a k) (hi : k.nodes[i]? = some n) (hf : KFit k) :
  Calls Tryz.prog 88 #[.pointer (some ⟨g, 0, none⟩), .int .i64 i] w fun e w' => e = .returned (.bool (Cf.nameOk k n.name i)) ∧ Below w.heap.size w w' := by
 have c2 := hP.c2
 have hl := hP.1.lt
 have hilt : i < k.nodes.length := (List.getElem?_eq_some_iff.1 hi).1
 have hnl := (hf.node n (List.mem_of_getElem? hi)).1
 have HH := Lib.hid (hasEnd_any k a g 1 i w hP (le_maxLen hf.procs) (fun p hp => le_maxLen (hf.proc p hp)))
 have HN := Lib.hid (pname_any n.name (le_maxLen hnl) w)
 have HFf := Lib.hid (fun W (hW : Below w.heap.size w W) => findFile_any k a g n.name W (hP.below hW) (le_maxLen hf.nodes))
 have hml := le_maxLen hf.nodes
 unfold maxLen at hml
 rcases hP.2.nodes with h | ⟨b, off, hA, hb, hc⟩
 ·rw [h] at hi; simp at hi
 have r0 : w.cell? ⟨b, off + i * 4, none⟩ = some (.string ⟨n.name.toArray⟩) := hc i n hi 0 _ rfl
 rw [hA] at c2
 clear hc hP hi hf hnl hA
 by_cases hn : n.name = []
 ·have HZ := Lib.hid (show Cf.nameOk k n.name i = Cf.hasB k.procs 1 i by simp [Cf.nameOk, hn])
  rw [HZ.out]
  rw [hn] at r0
  clear HFf HN HZ
  generalize Cf.hasB k.procs 1 i = z at *
  go_enter Tryz.func88, Tryz.ntmps88
  go_wp2_with fail
  refine HH.out.mono ?_
  rintro e w1 ⟨rfl, hb1⟩
  clear HH c2 r0
  go_wp2
  go_ret
  exact ⟨rfl, hb1⟩
 ·have HZ := Lib.hid (show Cf.nameOk k n.name i = (Cf.nameB n.name && decide (Cf.idxT (Cf.namedB n.name) k.nodes = i)) by simp [Cf.nameOk, hn])
  rw [HZ.out]
  clear HH HZ
  generalize Cf.idxT (Cf.namedB n.name) k.nodes = z at *
  generalize n.name = s at *
  have hs : ¬ s.isEmpty = true := by simpa using hn
  generalize Cf.nameB s = q at *
  go_enter Tryz.func88, Tryz.ntmps88
  go_wp2_with fail
  refine HN.out.mono ?_
  rintro e w1 ⟨rfl, hb1⟩
  clear HN c2 r0
  cases q
  ·clear HFf
   go_wp2
   go_ret
   exact ⟨rfl, hb1⟩
  ·go_wp2_with fail
   refine (HFf.out _ hb1).mono ?_
   rintro e w2 ⟨rfl, hb2⟩
   have hb3 := hb1.trans (hb2.mono hb1.size)
   clear HFf hb1 hb2
   go_wp2
   go_ret
   exact ⟨retB (by rw [Bool.true_and, Bool.eq_iff_iff]; simp), hb3⟩
set_option maxHeartbeats 1000000 in
theorem validFiles_any (k : Cf.Kern) (a : KA) (g : Nat) (w : World) (hP : KPtr w g a k) (hf : KFit k) :
  Calls Tryz.prog 54 #[.pointer (some ⟨g, 0, none⟩)] w fun e w' => e = .returned (.bool (Cf.filesB k)) ∧ Below w.heap.size w w' := by
 have c2 := hP.c2
 have hl := hP.1.lt
 have HP := Lib.hid hP
 have HF := Lib.hid hf
 have hml := le_maxLen hf.nodes
 unfold maxLen at hml
 rcases hP.2.nodes with h | ⟨b, off, hA, hb, hc⟩
 ·have HZ := Lib.hid (show Cf.filesB k = true by simp [Cf.filesB, h])
  rw [HZ.out]
  rw [h] at c2
  clear h hP hf
  go_enter Tryz.func54, Tryz.ntmps54
  go_wp2
  refine wp_loop_rounds 1 ?_
  rw [rounds_succ]
  go_wp2
  go_ret
  exact ⟨rfl, Below.refl _ _⟩
 ·rw [hA] at c2
  have Hc := Lib.hid hc
  have HZ := Lib.hid (show Cf.filesB k = (List.range k.nodes.length).all (Cf.fileB k) from rfl)
  clear hc hP hf hA
  go_enter Tryz.func54, Tryz.ntmps54
  go_wp2
  go_loopw [10] (fun i wr => ∃ n : Nat, n ≤ k.nodes.length ∧ i = .int .i64 n ∧ (∀ j, j < n → Cf.fileB k j = true) ∧ Below w.heap.size w wr) (fun i _ => k.nodes.length - (intOf i).toNat)
  case atStart => exact ⟨0, by omega, rfl, fun j hj => by omega, Below.refl _ _⟩
  case round =>
   obtain ⟨n, hn, rfl, hok, hbw⟩ := hrel
   have Hok := Lib.hid hok
   clear hok c2
   have hsz := hbw.size
   by_cases hlt : n < k.nodes.length
   ·obtain ⟨nm, kd, da, un, hx⟩ : ∃ nm kd da un, k.nodes[n]? = some ⟨nm, kd, da, un⟩ := ⟨_, _, _, _, List.getElem?_eq_getElem hlt⟩
    have r0 : wr.cell? ⟨b, off + n * 4, none⟩ = _ := (hbw.cell hb).trans (Hc.out n _ hx 0 _ rfl)
    have r1 : wr.cell? ⟨b, off + n * 4 + 1, none⟩ = _ := (hbw.cell hb).trans (Hc.out n _ hx 1 _ rfl)
    have r2 : wr.cell? ⟨b, off + n * 4 + 2, none⟩ = _ := (hbw.cell hb).trans (Hc.out n _ hx 2 _ rfl)
    have r3 : wr.cell? ⟨b, off + n * 4 + 3, none⟩ = _ := (hbw.cell hb).trans (Hc.out n _ hx 3 _ rfl)
    have hb9 : ∀ o : Obj, Below w.heap.size w (wr.alloc o) := fun o => hbw.alloc hsz o
    have HC1 := Lib.hid (fun o => validContent_any k a g ⟨nm, kd, da, un⟩ (wr.alloc o) (HP.out.below (hb9 o)))
    simp only [encNd] at HC1
    have HC2 := Lib.hid (fun W (hW : Below w.heap.size w W) => validName_any k a g n ⟨nm, kd, da, un⟩ W (HP.out.below hW) hx HF.out)
    have HfE := Lib.hid (show Cf.fileB k n = (Cf.contentB k.mods.length ⟨nm, kd, da, un⟩ && (decide (kd = 0) || Cf.nameOk k nm n)) by unfold Cf.fileB; rw [hx]; rfl)
    have hbx := Wb.new wr 57 [.string ⟨nm.toArray⟩, .int .i64 kd, .string ⟨da.toArray⟩, .int .i64 un]
    have Hbx := Lib.hid hbx
    clear hx hbx
    simp only at HC2
    generalize Cf.contentB k.mods.length ⟨nm, kd, da, un⟩ = q1 at *
    generalize Cf.nameOk k nm n = q2 at *
    go_wp2_with fail
    refine (HC1.out _).mono ?_
    rintro e w1 ⟨rfl, hb1⟩
    have hbw1 := (hb9 (.cells #[.string ⟨nm.toArray⟩, .int .i64 kd, .string ⟨da.toArray⟩, .int .i64 un] 57)).trans (hb1.mono (by simp; omega))
    have hbx1 := Hbx.out.below hb1 Hbx.out.lt
    have p1 := hbx1.cell 1
    have pl := hbx1.lt
    simp only [List.getElem?_cons_zero, List.getElem?_cons_succ] at p1
    clear hb9 hb1 hbx1 HC1 Hbx r0 r1 r2 r3
    cases q1
    ·have HFi := Lib.hid (show Cf.filesB k = false by rw [HZ.out]; exact Cf.range_bad hlt (by rw [HfE.out]; rfl))
     clear HC2
     go_wp2
     go_ret
     exact ⟨retB HFi.out.symm, hbw1⟩
    ·by_cases hk0 : kd = 0
     ·have HOn := Lib.hid (Cf.range_on Hok.out (show Cf.fileB k n = true by rw [HfE.out]; simp [hk0]))
      subst hk0
      clear HC2
      go_wp2
      go_roundw
      case rel => exact ⟨n + 1, by omega, by go_num, HOn.out, hbw1⟩
      case measure => simp [intOf]; omega
     ·have hk1 : ¬ (kd == 0) = true := by simpa using hk0
      go_wp2_with fail
      refine (HC2.out _ hbw1).mono ?_
      rintro e w2 ⟨rfl, hb2⟩
      have hbw2 := hbw1.trans (hb2.mono hbw1.size)
      clear HC2 hb2 p1
      cases q2
      ·have HFi := Lib.hid (show Cf.filesB k = false by rw [HZ.out]; exact Cf.range_bad hlt (by rw [HfE.out]; simp [hk0]))
       go_wp2
       go_ret
       exact ⟨retB HFi.out.symm, hbw2⟩
      ·have HOn := Lib.hid (Cf.range_on Hok.out (show Cf.fileB k n = true by rw [HfE.out]; simp))
       go_wp2
       go_roundw
       case rel => exact ⟨n + 1, by omega, by go_num, HOn.out, hbw2⟩
       case measure => simp [intOf]; omega
   ·have HFi := Lib.hid (show Cf.filesB k = true by rw [HZ.out]; exact Cf.range_all fun j hj => Hok.out j (by omega))
    go_wp2
    go_ret
    exact ⟨retB HFi.out.symm, hbw⟩
set_option maxHeartbeats 1000000 in
theorem validPipes_any (k : Cf.Kern) (a : KA) (g : Nat) (w : World) (hP : KPtr w g a k) (hf : KFit k) :
  Calls Tryz.prog 56 #[.pointer (some ⟨g, 0, none⟩)] w fun e w' => e = .returned (.bool (Cf.pipesB k)) ∧ Below w.heap.size w w' := by
 have c2 := hP.c3
 have hl := hP.1.lt
 have HP := Lib.hid hP
 have HF := Lib.hid hf
 have hml := le_maxLen hf.pipes
 unfold maxLen at hml
 rcases hP.2.pipes with h | ⟨b, off, hA, hb, hc⟩
 ·have HZ := Lib.hid (show Cf.pipesB k = true by simp [Cf.pipesB, h])
  rw [HZ.out]
  rw [h] at c2
  clear h hP hf
  go_enter Tryz.func56, Tryz.ntmps56
  go_wp2
  refine wp_loop_rounds 1 ?_
  rw [rounds_succ]
  go_wp2
  go_ret
  exact ⟨rfl, Below.refl _ _⟩
 ·rw [hA] at c2
  have Hc := Lib.hid hc
  have HZ := Lib.hid (show Cf.pipesB k = (List.range k.pipes.length).all (Cf.pipeB k) from rfl)
  clear hc hP hf hA
  go_enter Tryz.func56, Tryz.ntmps56
  go_wp2
  go_loopw [10] (fun i wr => ∃ n : Nat, n ≤ k.pipes.length ∧ i = .int .i64 n ∧ (∀ j, j < n → Cf.pipeB k j = true) ∧ Below w.heap.size w wr) (fun i _ => k.pipes.length - (intOf i).toNat)
  case atStart => exact ⟨0, by omega, rfl, fun j hj => by omega, Below.refl _ _⟩
  case round =>
   obtain ⟨n, hn, rfl, hok, hbw⟩ := hrel
   have Hok := Lib.hid hok
   clear hok c2
   have hsz := hbw.size
   by_cases hlt : n < k.pipes.length
   ·obtain ⟨s, hx⟩ : ∃ s, k.pipes[n]? = some s := ⟨_, List.getElem?_eq_getElem hlt⟩
    have r0 : wr.cell? ⟨b, off + n, none⟩ = some (.string ⟨s.toArray⟩) := (hbw.cell hb).trans (by have := Hc.out n _ hx 0 _ rfl; simpa using this)
    have HC2 := Lib.hid (hasEnd_any k a g 2 n wr (HP.out.below hbw) (le_maxLen HF.out.procs) (fun p hp => le_maxLen (HF.out.proc p hp)))
    have HfE := Lib.hid (show Cf.pipeB k n = (decide (s.length ≤ 20) && (decide (s = []) || Cf.hasB k.procs 2 n)) by unfold Cf.pipeB; rw [hx])
    clear hx
    generalize Cf.hasB k.procs 2 n = q2 at *
    by_cases h20 : 20 < s.length
    ·have HFi := Lib.hid (show Cf.pipesB k = false by rw [HZ.out]; exact Cf.range_bad hlt (by rw [HfE.out]; simp; omega))
     clear HC2
     go_wp2
     go_ret
     exact ⟨retB HFi.out.symm, hbw⟩
    ·by_cases hs0 : s = []
     ·have HOn := Lib.hid (Cf.range_on Hok.out (show Cf.pipeB k n = true by rw [HfE.out]; simp [hs0]))
      subst hs0
      clear HC2
      go_wp2
      go_roundw
      case rel => exact ⟨n + 1, by omega, by go_num, HOn.out, hbw⟩
      case measure => simp [intOf]; omega
     ·have hs1 : ¬ s.isEmpty = true := by simpa using hs0
      have Hs0 := Lib.hid hs0
      clear hs0
      go_wp2_with fail
      refine HC2.out.mono ?_
      rintro e w2 ⟨rfl, hb2⟩
      have hbw2 := hbw.trans (hb2.mono hbw.size)
      clear HC2 hb2
      cases q2
      ·have HFi := Lib.hid (show Cf.pipesB k = false by rw [HZ.out]; exact Cf.range_bad hlt (by rw [HfE.out]; simp [Hs0.out]))
       go_wp2
       go_ret
       exact ⟨retB HFi.out.symm, hbw2⟩
      ·have HOn := Lib.hid (Cf.range_on Hok.out (show Cf.pipeB k n = true by rw [HfE.out]; simp; omega))
       go_wp2
       go_roundw
       case rel => exact ⟨n + 1, by omega, by go_num, HOn.out, hbw2⟩
       case measure => simp [intOf]; omega
   ·have HFi := Lib.hid (show Cf.pipesB k = true by rw [HZ.out]; exact Cf.range_all fun j hj => Hok.out j (by omega))
    go_wp2
    go_ret
    exact ⟨retB HFi.out.symm, hbw⟩
end Go.Proofs.YtnnhhbjbdmgpiaaGreatDoor
/- Walks of chapter 5: the program's Check of descriptors, and Check whole. -/
namespace Go.Proofs.YtnnhhbjbdmgpiaaGreatDoor
set_option maxRecDepth 100000
open Go.RowKit
set_option maxHeartbeats 2000000 in
theorem validEnd_any (k : Cf.Kern) (a : KA) (g : Nat) (x : Cf.End) (w : World) (hP : KPtr w g a k) (hf : KFit k) :
  Calls Tryz.prog 91 #[.pointer (some ⟨g, 0, none⟩), .agg (encEn x).toArray] w fun e w' => e = .returned (.bool (Cf.endB k x)) ∧ Below w.heap.size w w' := by
 have hl := hP.1.lt
 have hb0 : ∀ o : Obj, Below w.heap.size w (w.alloc o) := fun o => (Below.refl _ _).alloc (Nat.le_refl _) _
 have c2 : ∀ o : Obj, (w.alloc o).cell? ⟨g, 2, none⟩ = some (.slice a.N k.nodes.length a.cn) := fun o => ((hb0 o).cell (p := ⟨g, 2, none⟩) hl).trans hP.c2
 have c3 : ∀ o : Obj, (w.alloc o).cell? ⟨g, 3, none⟩ = some (.slice a.S k.pipes.length a.cs) := fun o => ((hb0 o).cell (p := ⟨g, 3, none⟩) hl).trans hP.c3
 have hml := le_maxLen hf.nodes
 unfold maxLen at hml
 have HP := Lib.hid hP
 clear hP hf
 obtain ⟨kd, nd, po⟩ := x
 simp only [encEn]
 by_cases h1 : kd = 1
 ·subst h1
  have HZ := Lib.hid (show Cf.endB k ⟨1, nd, po⟩ = (Cf.withinB nd k.nodes.length && (Cf.fullAt k.nodes nd && Cf.withinB po 101)) from rfl)
  have HW1 := Lib.hid (fun W => within_any nd k.nodes.length W)
  have HW2 := Lib.hid (fun W => within_any po 101 W)
  cases hw : Cf.withinB nd k.nodes.length
  ·rw [hw] at HW1
   have HZ' := Lib.hid (show Cf.endB k ⟨1, nd, po⟩ = false by rw [HZ.out, hw]; rfl)
   clear hw HZ HW2
   go_enter Tryz.func91, Tryz.ntmps91
   go_wp2_with fail
   go_quiet ((go_at_call 70; exact quietE (HW1.out _)))
   go_wp2
   go_ret
   exact ⟨retB HZ'.out.symm, below_drewN (hb0 _) _⟩
  ·obtain ⟨hw0, hw1⟩ : 0 ≤ nd ∧ nd < k.nodes.length := by simpa [Cf.withinB] using hw
   rw [hw] at HW1
   obtain ⟨m, rfl⟩ : ∃ m : Nat, nd = m := ⟨nd.toNat, by omega⟩
   obtain ⟨n, hx⟩ : ∃ n, k.nodes[m]? = some n := ⟨_, List.getElem?_eq_getElem (by omega)⟩
   have HU := Lib.hid (show Cf.fullAt k.nodes (m : Int) = !decide (n.kind = 0) by unfold Cf.fullAt; rw [Int.toNat_natCast, hx]; rfl)
   rcases HP.out.2.nodes with h | ⟨b, off, hA, hb, hc⟩
   ·rw [h] at hx; simp at hx
   have r1 : ∀ o : Obj, (w.alloc o).cell? ⟨b, off + m * 4 + 1, none⟩ = some (.int .i64 n.kind) := fun o => ((hb0 o).cell (p := ⟨b, off + m * 4 + 1, none⟩) hb).trans (hc m n hx 1 _ rfl)
   rw [hA] at c2
   have HZ' := Lib.hid (show Cf.endB k ⟨1, (m : Int), po⟩ = (!decide (n.kind = 0) && Cf.withinB po 101) by rw [HZ.out, hw, HU.out]; rfl)
   clear hw HZ HU hc hx hA
   generalize n.kind = nk at *
   by_cases hk : nk = 0
   ·subst hk
    have HZ2 := Lib.hid (show Cf.endB k ⟨1, (m : Int), po⟩ = false by rw [HZ'.out]; rfl)
    go_enter Tryz.func91, Tryz.ntmps91
    go_wp2_with fail
    go_quiet ((go_at_call 70; exact quietE (HW1.out _)))
    go_wp2
    go_ret
    exact ⟨retB HZ2.out.symm, below_drewN (hb0 _) _⟩
   ·have HZ2 := Lib.hid (show Cf.endB k ⟨1, (m : Int), po⟩ = Cf.withinB po 101 by rw [HZ'.out]; simp [hk])
    generalize Cf.withinB po 101 = q at *
    go_enter Tryz.func91, Tryz.ntmps91
    go_wp2_with fail
    go_quiet ((go_at_call 70; first | with_reducible exact quietE (HW1.out _) | with_reducible exact quietE (HW2.out _)))
    go_wp2
    go_ret
    exact ⟨retB (by rw [HZ2.out]; simp [hk]), below_drewN (hb0 _) _⟩
 ·by_cases h2 : kd = 2 ∨ kd = 3
  ·have HZ := Lib.hid (show Cf.endB k ⟨kd, nd, po⟩ = (Cf.withinB nd k.pipes.length && decide (po = 0)) by simp only [Cf.endB, h1, h2, if_false, if_true])
   have HW1 := Lib.hid (fun W => within_any nd k.pipes.length W)
   have key : ∀ kk : Int, kk = 2 ∨ kk = 3 → kd = kk → Calls Tryz.prog 91 #[.pointer (some ⟨g, 0, none⟩), .agg #[.int .i64 kd, .int .i64 nd, .int .i64 po]] w fun e w' => e = .returned (.bool (Cf.endB k ⟨kd, nd, po⟩)) ∧ Below w.heap.size w w' := by
    rintro kk (rfl | rfl) rfl
    all_goals
     rw [HZ.out]
     clear h2 h1 HZ
     cases hw : Cf.withinB nd k.pipes.length
     ·rw [hw] at HW1
      clear hw
      go_enter Tryz.func91, Tryz.ntmps91
      go_wp2_with fail
      go_quiet ((go_at_call 70; exact quietE (HW1.out _)))
      go_wp2
      go_ret
      exact ⟨rfl, below_drewN (hb0 _) _⟩
     ·rw [hw] at HW1
      clear hw
      go_enter Tryz.func91, Tryz.ntmps91
      go_wp2_with fail
      go_quiet ((go_at_call 70; exact quietE (HW1.out _)))
      go_wp2
      go_ret
      exact ⟨retB (by rw [Bool.true_and, Bool.eq_iff_iff]; simp), below_drewN (hb0 _) _⟩
   exact key kd h2 rfl
  ·have HZ := Lib.hid (show Cf.endB k ⟨kd, nd, po⟩ = decide (Cf.End.mk kd nd po = Cf.noEnd) by simp only [Cf.endB, h1, h2, if_false])
   have h3 : ¬ kd = 2 := fun h => h2 (.inl h)
   have h4 : ¬ kd = 3 := fun h => h2 (.inr h)
   clear h2
   go_enter Tryz.func91, Tryz.ntmps91
   go_wp2
   all_goals
    go_ret
    exact ⟨retB (by rw [HZ.out]; simp_all [Cf.noEnd]), hb0 _⟩
def wrongE (k : Cf.Kern) (live : Bool) (e : Cf.End) : Bool := !(Cf.endB k e && (live || Cf.freeB e))
theorem wrongEnd_any (k : Cf.Kern) (a : KA) (g g1 g2 : Nat) (x : Cf.End) (lv : Bool) (w : World) (hP : KPtr w g a k) (hf : KFit k) (h1 : w.cell? ⟨g1, 0, none⟩ = some (.pointer (some ⟨g, 0, none⟩))) (h2 : w.cell? ⟨g2, 0, none⟩ = some (.bool lv)) :
  Calls Tryz.prog 90 #[.agg (encEn x).toArray, .pointer (some ⟨g1, 0, none⟩), .pointer (some ⟨g2, 0, none⟩)] w fun e w' => e = .returned (.bool (wrongE k lv x)) ∧ Below w.heap.size w w' := by
 have l1 : g1 < w.heap.size := lt_of_cell h1
 have l2 : g2 < w.heap.size := lt_of_cell h2
 have hb0 : ∀ o : Obj, Below w.heap.size w (w.alloc o) := fun o => (Below.refl _ _).alloc (Nat.le_refl _) _
 have c1 : ∀ o : Obj, (w.alloc o).cell? ⟨g1, 0, none⟩ = some (.pointer (some ⟨g, 0, none⟩)) := fun o => ((hb0 o).cell (p := ⟨g1, 0, none⟩) l1).trans h1
 have HV := Lib.hid (fun o => validEnd_any k a g x (w.alloc o) (hP.below (hb0 o)) hf)
 have Hc2 := Lib.hid h2
 have HZ := Lib.hid (show wrongE k lv x = !(Cf.endB k x && (lv || decide (x.kind = 0))) from rfl)
 have Hb0 := Lib.hid hb0
 obtain ⟨kd, nd, po⟩ := x
 have hbx := Wb.new w 72 [.int .i64 kd, .int .i64 nd, .int .i64 po]
 have Hbx := Lib.hid hbx
 simp only [encEn] at HV ⊢
 simp only at HZ
 clear hP hf h1 h2 hbx
 generalize Cf.endB k ⟨kd, nd, po⟩ = q at *
 go_enter Tryz.func90, Tryz.ntmps90
 go_wp2_with fail
 refine (HV.out _).mono ?_
 rintro e w1 ⟨rfl, hb1⟩
 have hbw := (Hb0.out (.cells #[.int .i64 kd, .int .i64 nd, .int .i64 po] 72)).trans (hb1.mono (by simp))
 have hbx1 := Hbx.out.below hb1 Hbx.out.lt
 have p0 := hbx1.cell 0
 have pl := hbx1.lt
 simp only [List.getElem?_cons_zero] at p0
 have d2 : w1.cell? ⟨g2, 0, none⟩ = some (.bool lv) := (hbw.cell (p := ⟨g2, 0, none⟩) l2).trans Hc2.out
 have l2' : g2 < w1.heap.size := Nat.lt_of_lt_of_le l2 hbw.size
 clear hb1 hbx1 Hbx HV c1 hb0
 cases q
 ·go_wp2
  go_ret
  exact ⟨retB (by rw [HZ.out]; rfl), hbw⟩
 ·cases lv
  ·go_wp2
   go_ret
   exact ⟨retB (by rw [HZ.out, Bool.eq_iff_iff]; simp), hbw⟩
  ·go_wp2
   go_ret
   exact ⟨retB (by rw [HZ.out]; rfl), hbw⟩
theorem procB_eq (k : Cf.Kern) (p : Cf.Proc) : Cf.procB k p = !(!decide (p.ends.length = 6) || p.ends.any (wrongE k p.live)) := by
 have h : p.ends.any (wrongE k p.live) = !p.ends.all (fun e => Cf.endB k e && (p.live || Cf.freeB e)) := Cf.all_not
 rw [h]
 simp [Cf.procB]
theorem wrongProc_any (k : Cf.Kern) (a : KA) (g g1 : Nat) (p : Cf.Proc) (A : Option Addr) (cap : Nat) (w : World) (hP : KPtr w g a k) (hf : KFit k) (hR : Ends w A p.ends) (hm : p.ends.length ≤ maxLen) (h1 : w.cell? ⟨g1, 0, none⟩ = some (.pointer (some ⟨g, 0, none⟩))) :
  Calls Tryz.prog 89 #[.agg #[.bool p.live, .slice A p.ends.length cap], .pointer (some ⟨g1, 0, none⟩)] w fun e w' => e = .returned (.bool (!Cf.procB k p)) ∧ Below w.heap.size w w' := by
 have hmf : ∀ (fn : Fn) (first cap : Array Value) (w : World), (Instr.makeFunc fn first cap).run Tryz.prog w = .ok (.func fn first cap) w := fun _ _ _ _ => rfl
 have l1 : g1 < w.heap.size := lt_of_cell h1
 have hb0 : ∀ o : Obj, Below w.heap.size w (w.alloc o) := fun o => (Below.refl _ _).alloc (Nat.le_refl _) _
 have hbx := Wb.new w 69 [.bool p.live, .slice A p.ends.length cap]
 have HV := Lib.hid (enHas_any p.ends A cap (w.alloc (.cells #[.bool p.live, .slice A p.ends.length cap] 69)) (RdS.below hR (hb0 _)) hm p.ends rfl (wrongE k p.live) 90 #[.pointer (some ⟨g1, 0, none⟩), .pointer (some ⟨w.heap.size, 0, none⟩)]
  (fun i x y w' hx hy hb => by
    obtain rfl := Option.some.inj (hx.symm.trans hy)
    exact wrongEnd_any k a g g1 w.heap.size x p.live w' ((hP.below (hb0 _)).below hb) hf ((hb.cell (p := ⟨g1, 0, none⟩) (by show g1 < _; simp; omega)).trans (((hb0 _).cell (p := ⟨g1, 0, none⟩) l1).trans h1)) ((hbx.below hb hbx.lt).cell 0)) (fun args w => by simp [go_sem]))
 have HZ := Lib.hid (show (!Cf.procB k p) = (!decide (p.ends.length = 6) || p.ends.any (wrongE k p.live)) by rw [procB_eq, Bool.not_not])
 rw [HZ.out]
 clear hP hf hR h1 hbx HZ
 generalize p.ends.any (wrongE k p.live) = q at *
 generalize p.live = lv at *
 by_cases h6 : p.ends.length = 6
 ·rw [h6] at HV ⊢
  clear h6 hm
  go_enter Tryz.func89, Tryz.ntmps89
  go_wp2_with fail
  refine HV.out.mono ?_
  rintro e w1 ⟨rfl, hb1⟩
  have hbw := (hb0 (.cells #[.bool lv, .slice A 6 cap] 69)).trans (hb1.mono (by simp))
  clear hb1 hb0 HV
  go_wp2
  go_ret
  exact ⟨retB (by simp), hbw⟩
 ·generalize p.ends.length = n at *
  have h6' : ¬ (n : Int) = 6 := by omega
  go_enter Tryz.func89, Tryz.ntmps89
  go_wp2
  go_ret
  exact ⟨retB (by simp [h6]), hb0 _⟩
theorem validProcs_any (k : Cf.Kern) (a : KA) (g : Nat) (w : World) (hP : KPtr w g a k) (hf : KFit k) :
  Calls Tryz.prog 55 #[.pointer (some ⟨g, 0, none⟩)] w fun e w' => e = .returned (.bool (Cf.procsB k)) ∧ Below w.heap.size w w' := by
 have hmf : ∀ (fn : Fn) (first cap : Array Value) (w : World), (Instr.makeFunc fn first cap).run Tryz.prog w = .ok (.func fn first cap) w := fun _ _ _ _ => rfl
 have hl := hP.1.lt
 have hb0 : ∀ o : Obj, Below w.heap.size w (w.alloc o) := fun o => (Below.refl _ _).alloc (Nat.le_refl _) _
 obtain ⟨ps, hps, hpp⟩ := hP.2.procs
 have hc := hP.c4
 rw [← hpp.1] at hc
 have c4 : ∀ o : Obj, (w.alloc o).cell? ⟨g, 4, none⟩ = some (.slice a.Q ps.length a.cq) := fun o => ((hb0 o).cell (p := ⟨g, 4, none⟩) hl).trans hc
 have hbx := Wb.new w 82 [.pointer (some ⟨g, 0, none⟩)]
 have HV := Lib.hid (pvHas_any ps a.Q a.cq (w.alloc (.cells #[.pointer (some ⟨g, 0, none⟩)] 82)) (RdS.below hps (hb0 _)) (by rw [hpp.1]; exact le_maxLen hf.procs) k.procs hpp.1 (fun p => !Cf.procB k p) 89 #[.pointer (some ⟨w.heap.size, 0, none⟩)]
  (fun i x y w' hx hy hb => by
    obtain ⟨h1, h2, h3⟩ := hpp.2 i x y hx hy
    obtain ⟨lv, A1, le, ce⟩ := x
    simp only at h1 h2 h3
    subst h1 h2
    exact wrongProc_any k a g w.heap.size y A1 ce w' ((hP.below (hb0 _)).below hb) hf (RdS.below (RdS.below h3 (hb0 _)) hb) (le_maxLen (hf.proc y (List.mem_of_getElem? hy))) ((hbx.below hb hbx.lt).cell 0)) (fun args w => by simp [go_sem]))
 have HZ := Lib.hid (show k.procs.any (fun p => !Cf.procB k p) = !Cf.procsB k from Cf.all_not)
 rw [HZ.out] at HV
 clear hP hf hps hpp hc hbx HZ
 generalize Cf.procsB k = q at *
 go_enter Tryz.func55, Tryz.ntmps55
 go_wp2_with fail
 refine HV.out.mono ?_
 rintro e w1 ⟨rfl, hb1⟩
 have hbw := (hb0 (.cells #[.pointer (some ⟨g, 0, none⟩)] 82)).trans (hb1.mono (by simp))
 clear hb1 hb0 HV c4
 go_wp2
 go_ret
 exact ⟨retB (by simp), hbw⟩
set_option maxHeartbeats 2000000 in
theorem check_kern (k : Cf.Kern) (a : KA) (w : World) (hR : KRd w a k) (hf : KFit k) (hL : TabL w) (hF : TabF w) :
  Calls Tryz.prog 21 #[.agg (kcells a k).toArray] w fun e w' => e = .returned (.int .i64 (Cf.kernT k)) ∧ Below w.heap.size w w' := by
 have hb0 : Below w.heap.size w (w.alloc (.cells (kcells a k).toArray tKern)) := (Below.refl _ _).alloc (Nat.le_refl _) _
 have hP : KPtr (w.alloc (.cells (kcells a k).toArray tKern)) w.heap.size a k := ⟨Wb.new w tKern (kcells a k), hR.below hb0⟩
 have HT := Lib.hid (show Cf.kernT k = if Cf.sizedB k then (if Cf.modsE k.mods = 0 then (if k.mem.all Cf.wordB then (if Cf.filesB k && (Cf.procsB k && Cf.pipesB k) then 0 else 9) else 2) else Cf.modsE k.mods) else 1 from rfl)
 rw [HT.out]
 obtain ⟨xs, hxs, hxm⟩ := hP.2.mods
 have HS := Lib.hid (sized_any k a w.heap.size _ hP)
 have HM := Lib.hid (checkModules_any xs k.mods a.A a.ca _ hxs hxm (le_maxLen hf.mods) hR.capA (fun m hm => by
  obtain ⟨h1, h2, h3⟩ := hf.each m hm
  exact ⟨le_maxLen h1, le_maxLen h2, le_maxLen h3⟩) (hL.below hb0) (hF.below hb0))
 have HW := Lib.hid (fun W (hW : Below w.heap.size w W) => zHas_any k.mem a.M a.cm W (RdS.below hR.mem hW) (le_maxLen hf.mem) k.mem rfl (fun v => !Cf.wordB v) 52 #[]
  (fun i x y w' hx hy hb => by
    obtain rfl := Option.some.inj (hx.symm.trans hy)
    exact noWordK_any x w') (fun args w => by simp [go_sem]))
 have HWn := Lib.hid (show k.mem.any (fun v => !Cf.wordB v) = !k.mem.all Cf.wordB from Cf.all_not)
 rw [HWn.out] at HW
 have HV1 := Lib.hid (fun W (hW : KPtr W w.heap.size a k) => validFiles_any k a w.heap.size W hW hf)
 have HV2 := Lib.hid (fun W (hW : KPtr W w.heap.size a k) => validProcs_any k a w.heap.size W hW hf)
 have HV3 := Lib.hid (fun W (hW : KPtr W w.heap.size a k) => validPipes_any k a w.heap.size W hW hf)
 have HP := Lib.hid hP
 have c0 := hP.c0
 have hl := hP.1.lt
 have Hb0 := Lib.hid hb0
 clear hR hf hL hF hxs hxm hP hb0 HWn HT
 generalize Cf.sizedB k = q0 at *
 generalize Cf.modsE k.mods = q1 at *
 generalize k.mem.all Cf.wordB = q2 at *
 generalize Cf.filesB k = q3 at *
 generalize Cf.procsB k = q4 at *
 generalize Cf.pipesB k = q5 at *
 simp only [kcells] at *
 go_enter Tryz.func21, Tryz.ntmps21
 go_wp2_with fail
 refine HS.out.mono ?_
 rintro e w' ⟨rfl, rfl⟩
 clear HS
 cases q0
 ·go_wp2
  go_ret
  exact ⟨rfl, Hb0.out⟩
 ·go_wp2_with fail
  refine HM.out.mono ?_
  rintro e w1 ⟨rfl, hb1⟩
  have hbw1 := Hb0.out.trans (hb1.mono Hb0.out.size)
  have hP1 := HP.out.below hb1
  have d1 := hP1.c1
  have hl1 := hP1.1.lt
  have HP1 := Lib.hid hP1
  clear HM hb1 c0 hP1
  by_cases hq1 : q1 = 0
  ·subst hq1
   go_wp2_with fail
   refine (HW.out _ hbw1).mono ?_
   rintro e w2 ⟨rfl, hb2⟩
   have hbw2 := hbw1.trans (hb2.mono hbw1.size)
   have HP2 := Lib.hid (HP1.out.below hb2)
   clear HW hb2 d1
   cases q2
   ·go_wp2
    go_ret
    exact ⟨rfl, hbw2⟩
   ·go_wp2_with fail
    refine (HV1.out _ HP2.out).mono ?_
    rintro e w3 ⟨rfl, hb3⟩
    have hbw3 := hbw2.trans (hb3.mono hbw2.size)
    have HP3 := Lib.hid (HP2.out.below hb3)
    clear HV1 hb3
    cases q3
    ·go_wp2
     go_ret
     exact ⟨rfl, hbw3⟩
    ·go_wp2_with fail
     refine (HV2.out _ HP3.out).mono ?_
     rintro e w4 ⟨rfl, hb4⟩
     have hbw4 := hbw3.trans (hb4.mono hbw3.size)
     have HP4 := Lib.hid (HP3.out.below hb4)
     clear HV2 hb4
     cases q4
     ·go_wp2
      go_ret
      exact ⟨rfl, hbw4⟩
     ·go_wp2_with fail
      refine (HV3.out _ HP4.out).mono ?_
      rintro e w5 ⟨rfl, hb5⟩
      have hbw5 := hbw4.trans (hb5.mono hbw4.size)
      clear HV3 hb5
      cases q5
      ·go_wp2
       go_ret
       exact ⟨rfl, hbw5⟩
      ·go_wp2
       go_ret
       exact ⟨rfl, hbw5⟩
  ·clear HW HV1 HV2 HV3
   go_wp2
   go_ret
   exact ⟨by simp, hbw1⟩
end Go.Proofs.YtnnhhbjbdmgpiaaGreatDoor
