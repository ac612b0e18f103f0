/- TopRegion: for every list of raw numbers, whether made or not, every region, word and two raw numbers, trusted code that is entered in the region accesses only its own region: two runs whose words agree there come to the same, and the words outside it are as they were. Conditions: the package-level tables that the road reads hold what the program's text lays (the card ties them). -/
import Derived.Test.YtamepbgmajeaeacDoorCards
import Derived.Test.YtamepbgmajeaeacDoorTie
import Derived.Test.YtamepbgmajeaeacDoorTrustedK
import Derived.Test.YtamepbgmajeaeacDoorMemK
import Derived.Test.YtamepbgmajeaeacDoorEqI
import Derived.Test.YtamepbgmajeaeacDoorTopR
import Derived.Test.YtamepbgmajeaeacDoorOpenR
import Derived.Test.YtamepbgmajeaeacDoorStoreK
import Derived.Test.YtamepbgmajeaeacDoorCopyK
import Derived.Test.YtamepbgmajeaeacDoorArrEq
import Derived.Test.YtamepbgmajeaeacDoorTabsL
import Derived.Test.YtamepbgmajeaeacDoorKit
import Derived.Deep.QuietTactic
namespace Go.Proofs.YtamepbgmajeaeacDoor.TopRegionLaw
open Go.ChangeShapes Go.WideShapes Go.ChangeAt Go.RowKit

theorem own : ownKnob Tryd.prog.godebug = none := by kernel_rfl
theorem laidOut : laidOutB Tryd.prog = true := by kernel_rfl
theorem trusted_both (l : List Cf.Ins) (hf : ∀ x ∈ l, FitI x) (A0 : Option Addr) (c0 : Nat) (made : Bool) (w : World) (hR : Codes w A0 l) (hm : l.length ≤ maxLen) (hL : TabL w) (hF : TabF w) :
    Calls Tryd.prog 6 #[.slice A0 l.length c0, .bool made] w (TrustedPost made w) := by
  cases made with
  | true => exact trusted_made l hf A0 c0 w hR hm hL hF
  | false => exact trusted_any l hf A0 c0 w hR hm hL hF
theorem ints_draw {W : World} {A : Option Addr} {l : List Int} (h : Ints W A l) (n : Nat) : Ints (W.drewN n) A l := h
theorem ints_seg {W : World} {b o : Nat} {l : List Int} (h : Ints W (some ⟨b, o, none⟩) l) (a n : Nat) : Ints W (some ⟨b, o + a, none⟩) (seg l a n) := by
  rcases h with h | ⟨b', o', hA, hlt, hc⟩
  · exact .inl (by rw [h]; simp [seg])
  · injection hA with hA
    injection hA with h1 h2
    subst h1
    subst h2
    refine .inr ⟨b, o + a, rfl, hlt, fun k z hz j v hv => ?_⟩
    rw [seg_at] at hz
    split at hz
    · have := hc (a + k) z hz j v hv
      rw [show o + a + k * 1 + j = o + (a + k) * 1 + j by omega]
      exact this
    · cases hz
set_option maxRecDepth 100000 in
set_option maxHeartbeats 2000000 in
theorem walk (l : List Cf.Ins) (hf : ∀ x ∈ l, FitI x) (A0 : Option Addr) (c0 : Nat) (made : Bool) (region : Int) (hre : Fit region) (word : Int) (hwo : Fit word) (ka aa ab ac : Int) (f1 : Fit aa) (f2 : Fit ab) (kb ba bb bc : Int) (f3 : Fit ba) (f4 : Fit bb) (w : World) (hR : Codes w A0 l) (hm : l.length ≤ maxLen) (hL : TabL w) (hF : TabF w) :
    Calls Tryd.prog 3 #[.slice A0 l.length c0, .bool made, .int .i64 region, .int .i64 word, .agg #[.int .i64 ka, .int .i64 aa, .int .i64 ab, .int .i64 ac], .agg #[.int .i64 kb, .int .i64 ba, .int .i64 bb, .int .i64 bc]] w fun e w' => e = .returned (.bool true) ∧ Below w.heap.size w w' := by
  obtain ⟨r, hrp, hr15⟩ : ∃ r : Nat, Cf.pick region 16 = r ∧ r ≤ 15 := by
    obtain ⟨h1, h2⟩ := Cf.pick_range region 16 (by omega)
    exact ⟨(Cf.pick region 16).toNat, by omega, by omega⟩
  obtain ⟨n1, n2⟩ := Cf.pick_range word 65536 (by omega)
  have HPk := Lib.hid (fun w => Picked_any region 16 w hre (by omega) (by omega))
  rw [hrp] at HPk
  have HPw := Lib.hid (fun w => Picked_any word 65536 w hwo (by omega) (by omega))
  generalize Cf.pick word 65536 = n at n1 n2 HPw
  have hb0 : Below w.heap.size w ((w.alloc (.cells #[.int .i64 ka, .int .i64 aa, .int .i64 ab, .int .i64 ac] 24)).alloc (.cells #[.int .i64 kb, .int .i64 ba, .int .i64 bb, .int .i64 bc] 24)) := ((Below.refl _ _).alloc (Nat.le_refl _) _).alloc (by simp) _
  have HboxA := Lib.hid ((Wb.new w 24 [.int .i64 ka, .int .i64 aa, .int .i64 ab, .int .i64 ac]).alloc (.cells #[.int .i64 kb, .int .i64 ba, .int .i64 bb, .int .i64 bc] 24))
  have HboxB := Lib.hid (show Wb ((w.alloc (.cells #[.int .i64 ka, .int .i64 aa, .int .i64 ab, .int .i64 ac] 24)).alloc (.cells #[.int .i64 kb, .int .i64 ba, .int .i64 bb, .int .i64 bc] 24)) (w.heap.size + 1) 24 [.int .i64 kb, .int .i64 ba, .int .i64 bb, .int .i64 bc] by
    have h := Wb.new (w.alloc (.cells #[.int .i64 ka, .int .i64 aa, .int .i64 ab, .int .i64 ac] 24)) 24 [.int .i64 kb, .int .i64 ba, .int .i64 bb, .int .i64 bc]
    rw [World.size_alloc] at h
    exact h)
  have HP := Lib.hid (trusted_both l hf A0 c0 made _ (hR.below hb0) hm (hL.below hb0) (hF.below hb0))
  have HL := Lib.hid hL
  have HF := Lib.hid hF
  clear hL hF hR hrp
  go_enter Tryd.func3, Tryd.ntmps3
  go_wp2_with fail
  refine HP.out.mono ?_
  rintro e w1 ⟨A, cap, c, ok, rfl, hok, hmo, hcl, hcc, hb1⟩
  have hbw1 := hb0.trans (hb1.mono (by simp; omega))
  have HA1 := Lib.hid (HboxA.out.below hb1 HboxA.out.lt)
  have HB1 := Lib.hid (HboxB.out.below hb1 HboxB.out.lt)
  have HC1 := Lib.hid hcc
  clear hb0 hb1 HP HboxA HboxB hcc
  cases ok with
  | false =>
    cases made with
    | true => cases hmo rfl
    | false =>
      go_wp2
      go_ret
      exact ⟨rfl, hbw1⟩
  | true =>
    have Hsafe := Lib.hid (hok rfl)
    clear hok hmo
    go_wp2_with fail
    refine (HPk.out _).mono ?_
    rintro e w' ⟨rfl, rfl⟩
    go_wp2_with fail
    refine (HPw.out _).mono ?_
    rintro e w' ⟨rfl, rfl⟩
    go_wp2_with fail
    refine (enter_good r n _ (by omega) (by omega) n1 (by omega)).mono ?_
    rintro e w3 ⟨rfl, hb3⟩
    have hbw3 := hbw1.trans (hb3.mono hbw1.size)
    have hal : Below w3.heap.size w3 (w3.alloc (.cells #[.int .i64 n, .int .i64 0, .int .i64 0, .int .i64 0, .int .i64 (64 * (r : Int)), .int .i64 (64 * (r : Int)), .int .i64 63, .int .i64 0] 29)) := (Below.refl _ _).alloc (Nat.le_refl _) _
    have Hg0 := Lib.hid (Wb.new w3 29 [.int .i64 n, .int .i64 0, .int .i64 0, .int .i64 0, .int .i64 (64 * (r : Int)), .int .i64 (64 * (r : Int)), .int .i64 63, .int .i64 0])
    have HA0 := Lib.hid ((HA1.out.below hb3 HA1.out.lt).alloc (.cells #[.int .i64 n, .int .i64 0, .int .i64 0, .int .i64 0, .int .i64 (64 * (r : Int)), .int .i64 (64 * (r : Int)), .int .i64 63, .int .i64 0] 29))
    have HB0 := Lib.hid ((HB1.out.below hb3 HB1.out.lt).alloc (.cells #[.int .i64 n, .int .i64 0, .int .i64 0, .int .i64 0, .int .i64 (64 * (r : Int)), .int .i64 (64 * (r : Int)), .int .i64 63, .int .i64 0] 29))
    have HC0 := Lib.hid ((HC1.out.below hb3).below hal)
    have hbw0 := hbw3.trans (hal.mono hbw3.size)
    have hL := Lib.hid (HL.out.below hbw0)
    have HF0 := Lib.hid (HF.out.below hbw0)
    have hcm : c.length ≤ maxLen := by unfold maxLen; omega
    have HM1 := Lib.hid (mem_any ka aa ab ac 1024 (w3.alloc (.cells #[.int .i64 n, .int .i64 0, .int .i64 0, .int .i64 0, .int .i64 (64 * (r : Int)), .int .i64 (64 * (r : Int)), .int .i64 63, .int .i64 0] 29)) f1 f2 (by omega) (by omega))
    clear hb3 hbw1 hbw3 HA1 HB1 HC1 HL HF hal HPk HPw
    have q0 := HA0.out.cell 0
    have q1 := HA0.out.cell 1
    have q2 := HA0.out.cell 2
    have q3 := HA0.out.cell 3
    simp only [List.getElem?_cons_zero, List.getElem?_cons_succ] at q0 q1 q2 q3
    go_wp2_with fail
    refine HM1.out.mono ?_
    rintro e w4 ⟨Xa, cx, x, rfl, hxl, hxw, hxr, hb4⟩
    generalize w3.alloc _ = W0 at *
    have HB4 := Lib.hid (HB0.out.below hb4 HB0.out.lt)
    have Hg4 := Lib.hid (Hg0.out.below hb4 Hg0.out.lt)
    have HC4 := Lib.hid (HC0.out.below hb4)
    have hbw4 := hbw0.trans (hb4.mono hbw0.size)
    have HM2 := Lib.hid (mem_any kb ba bb bc 1024 w4 f3 f4 (by omega) (by omega))
    clear q0 q1 q2 q3 HM1 HA0 HB0 HC0 Hg0
    have q0 := HB4.out.cell 0
    have q1 := HB4.out.cell 1
    have q2 := HB4.out.cell 2
    have q3 := HB4.out.cell 3
    simp only [List.getElem?_cons_zero, List.getElem?_cons_succ] at q0 q1 q2 q3
    go_wp2_with fail
    refine HM2.out.mono ?_
    rintro e w5 ⟨Ya, cy, y, rfl, hyl, hyw, hyr, hb5⟩
    have hcx := Row.cap hxr
    have hcy := Row.cap hyr
    obtain ⟨gx, rfl, _, hgx, _, _⟩ := Row.cells hxr (by intro e; rw [e] at hxl; simp at hxl)
    obtain ⟨gy, rfl, hgy, _, _, _⟩ := Row.cells hyr (by intro e; rw [e] at hyl; simp at hyl)
    rw [hxl] at hcx
    rw [hyl] at hcy
    have Hxr := Lib.hid hxr
    have Hb5 := Lib.hid hb5
    have Hyr := Lib.hid hyr
    have Hxl := Lib.hid hxl
    have Hyl := Lib.hid hyl
    have Htw := Lib.hid (Cf.top_twin Hsafe.out r n hr15 ⟨n1, by omega⟩ x y hxl hyl hxw hyw)
    clear q0 q1 q2 q3 HM2 HB4 hb5 hxr hyr hxl hyl hxw hyw
    go_upto_region 10 with fail
    obtain ⟨F, hF⟩ : ∃ F : Nat, F = 64 * r := ⟨_, rfl⟩
    obtain ⟨G, hG⟩ : ∃ G : Nat, G = F + 64 := ⟨_, rfl⟩
    rw [show (r : Int) * 64 = (F : Int) by omega, show (F : Int) + 64 = (G : Int) by omega]
    have hF1 : F ≤ 960 := by omega
    have hG1 : G ≤ 1024 := by omega
    have hFG : F ≤ G := by omega
    have hGx : G ≤ cx := by omega
    have hGy : G ≤ cy := by omega
    have nFx : ¬ cx = F := by omega
    have nFy : ¬ cy = F := by omega
    have HF' := Lib.hid hF
    have HG' := Lib.hid hG
    clear hF hG
    refine wp_region_noPanic ?_
    refine wp_region_held_drew (S := fun _ => True) (by kernel_rfl) trivial (fun hHeld => ?_)
    refine wpAnyH_take (i := 0) (oi := { dst := some 53, op := Op.move (Operand.tmp 21), type := 33, pos := "top.go:48", after := #[], guard := none }) (v := .slice (some ⟨gy, 0, none⟩) 1024 cy) rfl (by kernel_rfl) (by kernel_rfl) (by kernel_rfl) (fun _ _ _ h => h) (Or.inl ⟨by kernel_rfl, fun wq hSw => by ((try dsimp only at hSw); go_simp)⟩) hHeld ?_
    (try simp only [Act.put, List.setIfInBounds_toArray, List.set_cons_zero, List.set_cons_succ])
    refine wpAnyH_take (i := 1) (oi := { dst := some 54, op := Op.move (Operand.tmp 18), type := 3, pos := "top.go:48", after := #[], guard := none }) (v := .int .i64 F) rfl (by kernel_rfl) (by kernel_rfl) (by kernel_rfl) (fun _ _ _ h => h) (Or.inl ⟨by kernel_rfl, fun wq hSw => by ((try dsimp only at hSw); go_simp)⟩) hHeld ?_
    (try simp only [Act.put, List.setIfInBounds_toArray, List.set_cons_zero, List.set_cons_succ])
    refine wpAnyH_take (i := 2) (oi := { dst := some 55, op := Op.move (Operand.tmp 19), type := 3, pos := "top.go:48", after := #[], guard := none }) (v := .int .i64 G) rfl (by kernel_rfl) (by kernel_rfl) (by kernel_rfl) (fun _ _ _ h => h) (Or.inl ⟨by kernel_rfl, fun wq hSw => by ((try dsimp only at hSw); go_simp)⟩) hHeld ?_
    (try simp only [Act.put, List.setIfInBounds_toArray, List.set_cons_zero, List.set_cons_succ])
    refine wpAnyH_take (i := 3) (oi := { dst := some 56, op := Op.slice 33 (Operand.tmp 53) (some (Operand.tmp 54)) (some (Operand.tmp 55)) none, type := 33, pos := "top.go:48", after := #[{ on := 0, ground := Ground.data }, { on := 1, ground := Ground.data }, { on := 2, ground := Ground.data }], guard := none }) (v := .slice (some ⟨gy, F, none⟩) (G - F) (cy - F)) rfl (by kernel_rfl) (by kernel_rfl) (by kernel_rfl) (fun _ _ _ h => h) (Or.inl ⟨by kernel_rfl, fun wq hSw => by ((try dsimp only at hSw); go_simp)⟩) hHeld ?_
    (try simp only [Act.put, List.setIfInBounds_toArray, List.set_cons_zero, List.set_cons_succ])
    refine wpAnyH_take (i := 4) (oi := { dst := some 57, op := Op.move (Operand.tmp 20), type := 33, pos := "top.go:48", after := #[], guard := none }) (v := .slice (some ⟨gx, 0, none⟩) 1024 cx) rfl (by kernel_rfl) (by kernel_rfl) (by kernel_rfl) (fun _ _ _ h => h) (Or.inl ⟨by kernel_rfl, fun wq hSw => by ((try dsimp only at hSw); go_simp)⟩) hHeld ?_
    (try simp only [Act.put, List.setIfInBounds_toArray, List.set_cons_zero, List.set_cons_succ])
    refine wpAnyH_take (i := 5) (oi := { dst := some 58, op := Op.move (Operand.tmp 18), type := 3, pos := "top.go:48", after := #[], guard := none }) (v := .int .i64 F) rfl (by kernel_rfl) (by kernel_rfl) (by kernel_rfl) (fun _ _ _ h => h) (Or.inl ⟨by kernel_rfl, fun wq hSw => by ((try dsimp only at hSw); go_simp)⟩) hHeld ?_
    (try simp only [Act.put, List.setIfInBounds_toArray, List.set_cons_zero, List.set_cons_succ])
    refine wpAnyH_take (i := 6) (oi := { dst := some 59, op := Op.move (Operand.tmp 19), type := 3, pos := "top.go:48", after := #[], guard := none }) (v := .int .i64 G) rfl (by kernel_rfl) (by kernel_rfl) (by kernel_rfl) (fun _ _ _ h => h) (Or.inl ⟨by kernel_rfl, fun wq hSw => by ((try dsimp only at hSw); go_simp)⟩) hHeld ?_
    (try simp only [Act.put, List.setIfInBounds_toArray, List.set_cons_zero, List.set_cons_succ])
    refine wpAnyH_take (i := 7) (oi := { dst := some 60, op := Op.slice 33 (Operand.tmp 57) (some (Operand.tmp 58)) (some (Operand.tmp 59)) none, type := 33, pos := "top.go:48", after := #[{ on := 4, ground := Ground.data }, { on := 5, ground := Ground.data }, { on := 6, ground := Ground.data }], guard := none }) (v := .slice (some ⟨gx, F, none⟩) (G - F) (cx - F)) rfl (by kernel_rfl) (by kernel_rfl) (by kernel_rfl) (fun _ _ _ h => h) (Or.inl ⟨by kernel_rfl, fun wq hSw => by ((try dsimp only at hSw); go_simp)⟩) hHeld ?_
    (try simp only [Act.put, List.setIfInBounds_toArray, List.set_cons_zero, List.set_cons_succ])
    refine wpAnyH_ready (rs := [8]) (by kernel_rfl) (by simp) ?_
    refine AllReadyH.cons (o := { dst := some 61, op := Op.call { callee := Callee.builtin Builtin.copy, args := #[Operand.tmp 56, Operand.tmp 60], argTypes := #[33, 33] }, type := 3, pos := "top.go:48", after := #[{ on := 3, ground := Ground.data }, { on := 7, ground := Ground.data }], guard := none }) rfl (fun K hK => ?_) AllReadyH.nil
    have Hsl := Lib.hid (show (seg x F 64).length = 64 from seg_len x (by rw [Hxl.out]; omega))
    have Hlen := Lib.hid (show ((seg x F 64).map (Value.int .i64)).length = 64 by rw [List.length_map, Hsl.out])
    have Hov := Lib.hid (show overlay x y F 64 = y.take F ++ (seg x F 64 ++ y.drop (F + (seg x F 64).length)) by rw [Hsl.out]; rfl)
    have Hyr6 := Lib.hid (Row.over (seg x F 64) F (World.drew w5) y Hyr.out (by rw [Hsl.out, Hyl.out]; omega))
    have Hb46 := Lib.hid (below_setCells hgy ((seg x F 64).map (Value.int .i64)) F (World.drew w5) Hb5.out.drew)
    refine Eq.mpr (if_pos (by kernel_rfl)) ?_
    refine wp_copy _ _ 33 3 rfl gy F (G - F) (cy - F) ⟨gx, F, none⟩ (G - F) (cx - F) ((seg x F 64).map (Value.int .i64)) rfl rfl Tryd.underlying33 (by kernel_rfl) (by rw [Hlen.out, HG'.out]; simp) (fun j v hv => ?_) (fun j hj => ?_) (fun j hj => ?_) (fun v hv => ?_) ?_
    · rw [List.getElem?_map, seg_at] at hv
      split at hv
      · obtain ⟨g', hA', _, _, _, hcell⟩ := Row.cells Hxr.out (by intro e; have := Hxl.out; rw [e] at this; simp at this)
        injection hA' with hA'
        injection hA' with hA'
        subst hA'
        obtain ⟨u, hu, rfl⟩ := Option.map_eq_some_iff.1 hv
        rw [Go.WideShapes.add_plain]
        exact (Hb5.out.cell (p := ⟨gx, F + j, none⟩) hgx).trans (hcell _ _ hu)
      · cases hv
    · rw [Hlen.out] at hj
      obtain ⟨⟨u, hu⟩, _, _⟩ := row_at Hyr.out (F + j) (by rw [Hyl.out]; omega)
      have hu' : (World.drew w5).cell? ⟨gy, F + j, none⟩ = some (.int .i64 u) := hu
      rw [hu']
      rfl
    · rw [Hlen.out] at hj
      obtain ⟨_, hu, _⟩ := row_at Hyr.out (F + j) (by rw [Hyl.out]; omega)
      exact hu
    · obtain ⟨u, _, rfl⟩ := List.mem_map.1 hv
      rfl
    rw [← Hov.out] at Hyr6
    generalize World.setCells (World.drew w5) gy F ((seg x F 64).map (Value.int .i64)) = w6 at Hyr6 Hb46 ⊢
    refine hK.out _ _ trivial (fun hHeld => ?_)
    clear hK K hHeld
    (try simp only [Act.put, List.setIfInBounds_toArray, List.set_cons_zero, List.set_cons_succ])
    refine wpAnyH_done (by kernel_rfl) ?_ _
    refine NoPanic.normal ?_
    rw [← HF'.out] at Htw
    obtain ⟨z, s0, s1, s2, s3, s4, s5, s6, s7, t, mm, mm2, e1, e2, htl, hmm, hmm2, k1, k2, k3, k4, k5⟩ := Htw.out
    have hbw6 := hbw4.trans (Hb46.out.mono hbw4.size)
    have HLw := Lib.hid (hL.out.below (hb4.trans (Hb46.out.mono hb4.size)))
    have HFw := Lib.hid (HF0.out.below (hb4.trans (Hb46.out.mono hb4.size)))
    have HC6 := Lib.hid (HC4.out.below Hb46.out)
    have Hg6 := Lib.hid (Hg4.out.below Hb46.out Hg4.out.lt)
    have HX6 := Lib.hid (show Ints w6 (some ⟨gx, 0, none⟩) x from (show Ints w4 _ x from Row.ints (by rw [Hxl.out]; exact Hxr.out)).below Hb46.out)
    have Hol := Lib.hid (show (overlay x y F 64).length = 1024 by rw [overlay_len (by rw [Hxl.out]; omega) (by rw [Hyl.out]; omega)]; exact Hyl.out)
    have HY6 := Lib.hid (show Ints w6 (some ⟨gy, 0, none⟩) (overlay x y F 64) from Row.ints (by rw [Hol.out]; exact Hyr6.out))
    have HE2 := Lib.hid e2
    have Hk1 := Lib.hid k1
    have Hk2 := Lib.hid k2
    have Hk3 := Lib.hid k3
    have Hk4 := Lib.hid k4
    have Hk5 := Lib.hid k5
    have Hmm := Lib.hid hmm
    have Hmm2 := Lib.hid hmm2
    have HR1 := Lib.hid (run_anyC c A cap n 0 0 0 (64 * (r : Int)) (64 * (r : Int)) 63 0 x (some ⟨gx, 0, none⟩) cx 3000 w6 HC6.out HLw.out HFw.out hcm HX6.out (by unfold maxLen; rw [Hxl.out]; omega))
    rw [e1, Hxl.out] at HR1
    clear e1 e2 k1 k2 k3 k4 k5 hmm hmm2 Htw Hyr6 Hov Hlen Hsl Hxr Hyr Hb5 Hb46 hgx hgy HC4 Hg4 hbw4 hbw0 hb4 hL HF0 nFx nFy hGx hGy
    have g0 := Hg6.out.cell 0
    have g1 := Hg6.out.cell 1
    have g2 := Hg6.out.cell 2
    have g3 := Hg6.out.cell 3
    have g4 := Hg6.out.cell 4
    have g5 := Hg6.out.cell 5
    have g6 := Hg6.out.cell 6
    have g7 := Hg6.out.cell 7
    simp only [List.getElem?_cons_zero, List.getElem?_cons_succ] at g0 g1 g2 g3 g4 g5 g6 g7
    go_wp2_with fail
    refine HR1.out.mono ?_
    rintro e w7 ⟨T, M, ct, cm, rfl, hT, hM, hb7, hc1⟩
    dsimp only at hT hM hc1 ⊢
    simp only [List.map_cons, List.map_nil, List.cons_append, List.nil_append]
    obtain ⟨bM, oM, rfl, _, _⟩ := hM.at_ (by intro e; have := Hmm.out; rw [e] at this; simp at this)
    rw [Hmm.out] at hc1 ⊢
    have hbw7 := hbw6.trans (hb7.mono hbw6.size)
    have Hal7 := Lib.hid ((Below.refl w7.heap.size w7).alloc (Nat.le_refl _) (.cells #[.int .i64 z, .int .i64 s0, .int .i64 s1, .int .i64 s2, .int .i64 s3, .int .i64 s4, .int .i64 s5, .int .i64 s6, .int .i64 s7, .slice T t.length ct, .slice (some ⟨bM, oM, none⟩) 1024 cm] 36))
    have HO7 := Lib.hid (Wb.new w7 36 [.int .i64 z, .int .i64 s0, .int .i64 s1, .int .i64 s2, .int .i64 s3, .int .i64 s4, .int .i64 s5, .int .i64 s6, .int .i64 s7, .slice T t.length ct, .slice (some ⟨bM, oM, none⟩) 1024 cm])
    have Hg7 := Lib.hid ((Hg6.out.below hb7 Hg6.out.lt).alloc (.cells #[.int .i64 z, .int .i64 s0, .int .i64 s1, .int .i64 s2, .int .i64 s3, .int .i64 s4, .int .i64 s5, .int .i64 s6, .int .i64 s7, .slice T t.length ct, .slice (some ⟨bM, oM, none⟩) 1024 cm] 36))
    have HC7 := Lib.hid ((HC6.out.below hb7).below Hal7.out)
    have HL7 := Lib.hid ((HLw.out.below hb7).below Hal7.out)
    have HF7 := Lib.hid ((HFw.out.below hb7).below Hal7.out)
    have HX7 := Lib.hid ((HX6.out.below hb7).below Hal7.out)
    have HY7 := Lib.hid ((HY6.out.below hb7).below Hal7.out)
    have HT7 := Lib.hid (hT.below Hal7.out)
    have HM7 := Lib.hid (hM.below Hal7.out)
    have hbW7 := hbw7.trans (Hal7.out.mono hbw7.size)
    have HR2 := Lib.hid (run_anyC c A cap n 0 0 0 (64 * (r : Int)) (64 * (r : Int)) 63 0 (overlay x y F 64) (some ⟨gy, 0, none⟩) cy 3000 (w7.alloc (.cells #[.int .i64 z, .int .i64 s0, .int .i64 s1, .int .i64 s2, .int .i64 s3, .int .i64 s4, .int .i64 s5, .int .i64 s6, .int .i64 s7, .slice T t.length ct, .slice (some ⟨bM, oM, none⟩) 1024 cm] 36)) HC7.out HL7.out HF7.out hcm HY7.out (by unfold maxLen; rw [Hol.out]; omega))
    rw [HE2.out, Hol.out] at HR2
    clear g0 g1 g2 g3 g4 g5 g6 g7 HR1 hT hM hb7 hbw6 hbw7 HC6 HLw HFw HX6 HY6 Hg6 Hal7 HE2
    have g0 := Hg7.out.cell 0
    have g1 := Hg7.out.cell 1
    have g2 := Hg7.out.cell 2
    have g3 := Hg7.out.cell 3
    have g4 := Hg7.out.cell 4
    have g5 := Hg7.out.cell 5
    have g6 := Hg7.out.cell 6
    have g7 := Hg7.out.cell 7
    simp only [List.getElem?_cons_zero, List.getElem?_cons_succ] at g0 g1 g2 g3 g4 g5 g6 g7
    go_wp2_with fail
    refine HR2.out.mono ?_
    rintro e w8 ⟨T2, M2, ct2, cm2, rfl, hT2, hM2, hb8, hc2⟩
    dsimp only at hT2 hM2 hc2 ⊢
    simp only [List.map_cons, List.map_nil, List.cons_append, List.nil_append]
    obtain ⟨bN, oN, rfl, _, _⟩ := hM2.at_ (by intro e; have := Hmm2.out; rw [e] at this; simp at this)
    rw [Hmm2.out] at hc2 ⊢
    have hbw8 := hbW7.trans (hb8.mono hbW7.size)
    have Hal8 := Lib.hid ((Below.refl w8.heap.size w8).alloc (Nat.le_refl _) (.cells #[.int .i64 z, .int .i64 s0, .int .i64 s1, .int .i64 s2, .int .i64 s3, .int .i64 s4, .int .i64 s5, .int .i64 s6, .int .i64 s7, .slice T2 t.length ct2, .slice (some ⟨bN, oN, none⟩) 1024 cm2] 36))
    have HO1 := Lib.hid ((HO7.out.below hb8 HO7.out.lt).alloc (.cells #[.int .i64 z, .int .i64 s0, .int .i64 s1, .int .i64 s2, .int .i64 s3, .int .i64 s4, .int .i64 s5, .int .i64 s6, .int .i64 s7, .slice T2 t.length ct2, .slice (some ⟨bN, oN, none⟩) 1024 cm2] 36))
    have HO2 := Lib.hid (Wb.new w8 36 [.int .i64 z, .int .i64 s0, .int .i64 s1, .int .i64 s2, .int .i64 s3, .int .i64 s4, .int .i64 s5, .int .i64 s6, .int .i64 s7, .slice T2 t.length ct2, .slice (some ⟨bN, oN, none⟩) 1024 cm2])
    have IX := Lib.hid ((HX7.out.below hb8).below Hal8.out)
    have IY := Lib.hid ((HY7.out.below hb8).below Hal8.out)
    have IT := Lib.hid ((HT7.out.below hb8).below Hal8.out)
    have IM := Lib.hid ((HM7.out.below hb8).below Hal8.out)
    have IT2 := Lib.hid (hT2.below Hal8.out)
    have IN := Lib.hid (hM2.below Hal8.out)
    have hbw9 := hbw8.trans (Hal8.out.mono hbw8.size)
    have hlt8 := (HO7.out.below hb8 HO7.out.lt).lt
    clear g0 g1 g2 g3 g4 g5 g6 g7 HR2 hT2 hM2 hb8 hbw8 hbW7 HC7 HL7 HF7 HX7 HY7 HT7 HM7 Hg7 Hal8 HO7
    have a10 := HO1.out.cell 10
    have b10 := HO2.out.cell 10
    simp only [List.getElem?_cons_zero, List.getElem?_cons_succ] at a10 b10
    have a10' := (World.cell?_alloc_lt w8 (.cells #[.int .i64 z, .int .i64 s0, .int .i64 s1, .int .i64 s2, .int .i64 s3, .int .i64 s4, .int .i64 s5, .int .i64 s6, .int .i64 s7, .slice T2 t.length ct2, .slice (some ⟨bN, oN, none⟩) 1024 cm2] 36) ⟨w7.heap.size, 10, none⟩ hlt8).symm.trans a10
    go_wp2_with fail
    clear a10 b10 a10'
    generalize w8.alloc _ = W at *
    have a0 := HO1.out.cell 0
    have b0 := HO2.out.cell 0
    have a1 := HO1.out.cell 1
    have b1 := HO2.out.cell 1
    have a2 := HO1.out.cell 2
    have b2 := HO2.out.cell 2
    have a3 := HO1.out.cell 3
    have b3 := HO2.out.cell 3
    have a4 := HO1.out.cell 4
    have b4 := HO2.out.cell 4
    have a5 := HO1.out.cell 5
    have b5 := HO2.out.cell 5
    have a6 := HO1.out.cell 6
    have b6 := HO2.out.cell 6
    have a7 := HO1.out.cell 7
    have b7 := HO2.out.cell 7
    have a8 := HO1.out.cell 8
    have b8 := HO2.out.cell 8
    have a9 := HO1.out.cell 9
    have b9 := HO2.out.cell 9
    have a10 := HO1.out.cell 10
    have b10 := HO2.out.cell 10
    simp only [List.getElem?_cons_zero, List.getElem?_cons_succ] at a0 b0 a1 b1 a2 b2 a3 b3 a4 b4 a5 b5 a6 b6 a7 b7 a8 b8 a9 b9 a10 b10
    have hEq : ∀ V : World, (Op.equalIn 10000 29 (.agg #[.int .i64 s0, .int .i64 s1, .int .i64 s2, .int .i64 s3, .int .i64 s4, .int .i64 s5, .int .i64 s6, .int .i64 s7]) (.agg #[.int .i64 s0, .int .i64 s1, .int .i64 s2, .int .i64 s3, .int .i64 s4, .int .i64 s5, .int .i64 s6, .int .i64 s7])).run Tryd.prog V = .ok true V := fun V => same8 V _ _ _ _ _ _ _ _
    have L1 := Lib.hid (show (seg mm 0 F).length = F from seg_len mm (by rw [Hmm.out]; omega))
    have L3 := Lib.hid (show (seg mm2 0 F).length = F from seg_len mm2 (by rw [Hmm2.out]; omega))
    have L5 := Lib.hid (show (seg mm F 64).length = G - F by rw [seg_len mm (by rw [Hmm.out]; omega)]; have := HG'.out; omega)
    have L2 := Lib.hid (show (seg mm G (1024 - G)).length = 1024 - G from seg_len mm (by rw [Hmm.out]; omega))
    have L4 := Lib.hid (show (seg mm2 G (1024 - G)).length = 1024 - G from seg_len mm2 (by rw [Hmm2.out]; omega))
    rw [← HG'.out] at Hk2 Hk4
    have Q1 := Lib.hid (fun n => Calls.quiet_of (equalI_same (seg mm 0 F) (some ⟨bM, oM, none⟩) (some ⟨gx, 0, none⟩) cm cx (W.drewN n) (ints_seg IM.out 0 F) (by rw [Hk1.out]; exact ints_seg IX.out 0 F) (by unfold maxLen; rw [L1.out]; omega)))
    rw [L1.out] at Q1
    have Q3 := Lib.hid (fun n => Calls.quiet_of (equalI_same (seg mm2 0 F) (some ⟨bN, oN, none⟩) (some ⟨gy, 0, none⟩) cm2 cy (W.drewN n) (ints_seg IN.out 0 F) (by rw [Hk3.out]; exact ints_seg IY.out 0 F) (by unfold maxLen; rw [L3.out]; omega)))
    rw [L3.out] at Q3
    have Q5 := Lib.hid (fun n => Calls.quiet_of (equalI_same (seg mm F 64) (some ⟨bM, oM + F, none⟩) (some ⟨bN, oN + F, none⟩) (cm - F) (cm2 - F) (W.drewN n) (ints_seg IM.out F 64) (by rw [Hk5.out]; exact ints_seg IN.out F 64) (by unfold maxLen; rw [L5.out]; omega)))
    rw [L5.out] at Q5
    have Q6 := Lib.hid (fun n => Calls.quiet_of (equalI_same t T T2 ct ct2 (W.drewN n) (ints_draw IT.out n) (ints_draw IT2.out n) (by unfold maxLen; omega)))
    have nFm : ¬ cm = F := by omega
    have nFn : ¬ cm2 = F := by omega
    have hFm : F ≤ cm := by omega
    have hFn : F ≤ cm2 := by omega
    have hGm : G ≤ cm := by omega
    have hGn : G ≤ cm2 := by omega
    have hFx : F ≤ cx := by omega
    have hFy : F ≤ cy := by omega
    by_cases hGe : G < 1024
    · have nGm : ¬ cm = G := by omega
      have nGn : ¬ cm2 = G := by omega
      have nGx : ¬ cx = G := by omega
      have nGy : ¬ cy = G := by omega
      have Q2 := Lib.hid (fun n => Calls.quiet_of (equalI_same (seg mm G (1024 - G)) (some ⟨bM, oM + G, none⟩) (some ⟨gx, G, none⟩) (cm - G) (cx - G) (W.drewN n) (ints_seg IM.out G (1024 - G)) (by rw [Hk2.out]; have h := ints_seg IX.out G (1024 - G); rw [Nat.zero_add] at h; exact h) (by unfold maxLen; rw [L2.out]; omega)))
      rw [L2.out] at Q2
      have Q4 := Lib.hid (fun n => Calls.quiet_of (equalI_same (seg mm2 G (1024 - G)) (some ⟨bN, oN + G, none⟩) (some ⟨gy, G, none⟩) (cm2 - G) (cy - G) (W.drewN n) (ints_seg IN.out G (1024 - G)) (by rw [Hk4.out]; have h := ints_seg IY.out G (1024 - G); rw [Nat.zero_add] at h; exact h) (by unfold maxLen; rw [L4.out]; omega)))
      rw [L4.out] at Q4
      simp only [List.append_eq, List.cons_append, List.nil_append]
      go_quiet ((first | (go_at_call 11; first | with_reducible exact Q1.out _ | with_reducible exact Q2.out _ | with_reducible exact Q3.out _ | with_reducible exact Q4.out _ | with_reducible exact Q5.out _ | with_reducible exact Q6.out _)))
      go_wp2
      go_ret
      exact ⟨rfl, below_drewN hbw9 _⟩
    · obtain ⟨Am, hAm⟩ : ∃ Am, (if cm = G then some (⟨bM, oM, none⟩ : Addr) else some ⟨bM, oM + G, none⟩) = Am := ⟨_, rfl⟩
      obtain ⟨An, hAn⟩ : ∃ An, (if cm2 = G then some (⟨bN, oN, none⟩ : Addr) else some ⟨bN, oN + G, none⟩) = An := ⟨_, rfl⟩
      obtain ⟨Ax, hAx⟩ : ∃ Ax, (if cx = G then some (⟨gx, 0, none⟩ : Addr) else some ⟨gx, G, none⟩) = Ax := ⟨_, rfl⟩
      obtain ⟨Ay, hAy⟩ : ∃ Ay, (if cy = G then some (⟨gy, 0, none⟩ : Addr) else some ⟨gy, G, none⟩) = Ay := ⟨_, rfl⟩
      have Hz := Lib.hid (show ([] : List Int).length = 1024 - G by simp; omega)
      have Q2 := Lib.hid (fun n => Calls.quiet_of (equalI_same ([] : List Int) Am Ax (cm - G) (cx - G) (W.drewN n) (.inl rfl) (.inl rfl) (by simp)))
      rw [Hz.out] at Q2
      have Q4 := Lib.hid (fun n => Calls.quiet_of (equalI_same ([] : List Int) An Ay (cm2 - G) (cy - G) (W.drewN n) (.inl rfl) (.inl rfl) (by simp)))
      rw [Hz.out] at Q4
      simp only [List.append_eq, List.cons_append, List.nil_append]
      go_quiet ((first | (go_at_call 11; first | with_reducible exact Q1.out _ | with_reducible exact Q2.out _ | with_reducible exact Q3.out _ | with_reducible exact Q4.out _ | with_reducible exact Q5.out _ | with_reducible exact Q6.out _)))
      go_wp2
      go_ret
      exact ⟨rfl, below_drewN hbw9 _⟩

set_option maxRecDepth 100000 in
theorem contract (H : Type) (enc : TypeId × Value → H) (W : World) (base : Nat) (args : Array Value) (ds gs : List (DataW H)) (before : List MemPlace)
    (hval : ∀ (j : Nat) t v, Tryd.f3.params[j]? = some t → args[j]? = some v → Value.okWide Tryd.prog W .any base t v)
    (hW : DataW.Whole enc Tryd.prog Tryd.f3.params.toList Rows.topRegionSpec.vars false W args.toList ds gs before)
    (_hsz0 : (DataW.weightsEach Tryd.prog (Tryd.f3.params.toList ++ (OpenSpec.ofChange Rows.topRegionSpec).bare.plain.varTypes Tryd.prog) (ds ++ gs)).all (· ≤ reachBytes) = true)
    (hL : laidMetH Tryd.prog Rows.topRegionRow.laid W) (_hsh : W.ShapedOpen Tryd.prog) :
    Calls Tryd.prog 3 args W fun e W' => ∃ v, e = .returned v ∧ Rows.topRegionSpec.post enc Tryd.prog Tryd.f3 false true false false W args v W' := by
  have hW' := hW
  obtain ⟨p, q, hA0, hV, rfl, hfz, hnd⟩ := hW
  have hA : DataW.TrodAll enc Tryd.prog W 0 (fun _ => true) true Tryd.f3.params.toList args.toList ds p := hA0
  rw [Tryd.params3] at hA hval
  obtain ⟨v0, vs0, d0, ds0, p0, q0, hargs0, rfl, rfl, h0, r0⟩ := trodAll_cons hA
  obtain ⟨v1, vs1, d1, ds1, p1, q1, hargs1, rfl, rfl, h1, r1⟩ := trodAll_cons r0
  obtain ⟨v2, vs2, d2, ds2, p2, q2, hargs2, rfl, rfl, h2, r2⟩ := trodAll_cons r1
  obtain ⟨v3, vs3, d3, ds3, p3, q3, hargs3, rfl, rfl, h3, r3⟩ := trodAll_cons r2
  obtain ⟨v4, vs4, d4, ds4, p4, q4, hargs4, rfl, rfl, h4, r4⟩ := trodAll_cons r3
  obtain ⟨v5, vs5, d5, ds5, p5, q5, hargs5, rfl, rfl, h5, r5⟩ := trodAll_cons r4
  obtain ⟨hnil, rfl, rfl⟩ := trodAll_nil r5
  obtain rfl : args = #[v0, v1, v2, v3, v4, v5] := by cases args; simp_all
  obtain ⟨rfl, rfl⟩ : gs = [] ∧ q = [] := by cases gs with | nil => exact ⟨rfl, hV⟩ | cons g gs => exact hV.elim
  obtain ⟨A, cap, l, rfl, hl, hm, hf⟩ := open_fit Tryd.underlying22 rawFields (hval 0 22 v0 rfl rfl) h0
  obtain ⟨made, rfl⟩ := okWide_bool Tryd.underlying4 (hval 1 4 v1 rfl rfl)
  obtain ⟨m1, rfl, rfl, rfl, hm1⟩ := Go.ChangeShapes.open_int Tryd.underlying3 (hval 2 3 v2 rfl rfl) h2
  obtain ⟨m2, rfl, rfl, rfl, hm2⟩ := Go.ChangeShapes.open_int Tryd.underlying3 (hval 3 3 v3 rfl rfl) h3
  obtain ⟨ka, aa, ab, ac, rfl, f0, f1, f2, f3⟩ := open_raw rawFields (hval 4 24 v4 rfl rfl) h4
  obtain ⟨kb, ba, bb, bc, rfl, e0, e1, e2, e3⟩ := open_raw rawFields (hval 5 24 v5 rfl rfl) h5
  refine (walk l hf A cap made m1 (fit_wf hm1) m2 (fit_wf hm2) ka aa ab ac f1 f2 kb ba bb bc e1 e2 W hl hm (laidL hL (List.Mem.head _)) (laidF hL (List.Mem.tail _ (List.Mem.head _)))).mono fun e W' ⟨he, hb⟩ => ?_
  exact ⟨_, he, post_law laidOut (by kernel_rfl) Tryd.underlying4 rfl (by kernel_rfl) (fun ds hd => by
    match ds, hd with
    | [d0, d1, d2, d3, d4, d5], _ => rfl) hW' hb⟩

noncomputable def laidWorld (os : Os) : World := { World.holding Tryd.prog os ⟨#[], #[], []⟩ with heap := (((World.holding Tryd.prog os ⟨#[], #[], []⟩).heap).modify 1 (withCells (Cf.larTab.map (Value.int .i64)))).modify 0 (withCells (Cf.fmtTab.flatten.map (Value.int .i64))) }
theorem laid_met (os : Os) : laidMet Tryd.prog Rows.topRegionRow.laid ((laidWorld os).forCall (fun _ _ => 0) ⟨#[], #[.slice none 0 0, .bool false, .int .i64 0, .int .i64 0, .agg #[.int .i64 0, .int .i64 0, .int .i64 0, .int .i64 0], .agg #[.int .i64 0, .int .i64 0, .int .i64 0, .int .i64 0]], []⟩).memory :=
  laidMet_of_run' 8 (by kernel_rfl) (by kernel_rfl)
theorem reads (os : Os) {H : Type} (enc : TypeId × Value → H) : ∃ places, DataW.whole enc Tryd.prog ((laidWorld os).forCall (fun _ _ => 0) ⟨#[], #[.slice none 0 0, .bool false, .int .i64 0, .int .i64 0, .agg #[.int .i64 0, .int .i64 0, .int .i64 0, .int .i64 0], .agg #[.int .i64 0, .int .i64 0, .int .i64 0, .int .i64 0]], []⟩).memory Tryd.f3.params.toList Rows.topRegionSpec.vars false (#[Value.slice none 0 0, .bool false, .int .i64 0, .int .i64 0, .agg #[.int .i64 0, .int .i64 0, .int .i64 0, .int .i64 0], .agg #[.int .i64 0, .int .i64 0, .int .i64 0, .int .i64 0]] : Array Value).toList 8 = some ([.nil, .lit (.bool false), .lit (.int .i64 0), .lit (.int .i64 0), .agg [.lit (.int .i64 0), .lit (.int .i64 0), .lit (.int .i64 0), .lit (.int .i64 0)], .agg [.lit (.int .i64 0), .lit (.int .i64 0), .lit (.int .i64 0), .lit (.int .i64 0)]], [], places) :=
  ⟨[], by kernel_rfl⟩

set_option maxRecDepth 100000 in
theorem lifted (os : Os) (started : os.Started) (H : Type) (enc : TypeId × Value → H) (F : Stop.Interp) :
    ReturnsInHanded {} Tryd.checked os 3 .any ((OpenSpec.ofChange Rows.topRegionSpec).preRow enc Tryd.prog Tryd.f3 Rows.topRegionRow.domain false Rows.topRegionRow.laid) (((OpenSpec.ofChange Rows.topRegionSpec).at F).post enc Tryd.prog Tryd.f3 false true false false) := by
  obtain ⟨places, hx⟩ := reads os enc
  refine returnsInHanded_of_row (C := Tryd.checked) (s := (OpenSpec.ofChange Rows.topRegionSpec)) own started (by kernel_rfl) Tryd.func3
    (witness_row_at (enc := enc) (C := Tryd.checked) false (laidWorld os) #[.slice none 0 0, .bool false, .int .i64 0, .int .i64 0, .agg #[.int .i64 0, .int .i64 0, .int .i64 0, .int .i64 0], .agg #[.int .i64 0, .int .i64 0, .int .i64 0, .int .i64 0]] rfl (by kernel_rfl) (by kernel_rfl) (by kernel_rfl)
      (OpenSpec.preRow_of_cond 8 hx (by kernel_rfl) (fun k hk => by cases hk) (by kernel_rfl) (laid_met os))) ?_
  intro W base args ds gs before hval hW _ hcond hsz hL hsh _
  exact contract H enc W base args ds gs before hval hW hsz hL hsh

theorem said : Rows.TopRegionSaid :=
  OpenClaim.holds_of_cond 3 Tryd.f3 rfl rfl rfl rfl rfl rfl rfl ⟨rfl, rfl, rfl, rfl, rfl⟩ rfl rfl rfl rfl rfl (by kernel_rfl) Tryd.func3 (by kernel_rfl)
    (of_decide_eq_true (by kernel_rfl)) (by unfold Func.isWrapper; first | (rw [if_pos (by decide +kernel)]; kernel_rfl) | (rw [if_neg (by decide +kernel)]; exact ⟨rfl, rfl⟩))
    (fun os started H enc _ F => by rw [OpenClaim.pre_eq_preRow]; exact lifted os started H enc F)
theorem plain (f : FuncId) (fn : Func) (hf : Tryd.pinned.checked.prog.funcNamed "curfew/curfewtop.TopRegion" = some f) (hfn : Tryd.pinned.checked.prog.funcs[f]? = some fn) :
    false = Tryd.pinned.checked.prog.looks [] ∧ ∀ (j : Nat) t, fn.params[j]? = some t → Tryd.pinned.checked.prog.wantsStandIn t = false := by
  obtain rfl : f = 3 := Option.some.inj ((show Tryd.prog.funcNamed "curfew/curfewtop.TopRegion" = some 3 by kernel_rfl).symm.trans hf) |>.symm
  obtain rfl : fn = Tryd.f3 := (Option.some.inj (Tryd.func3.symm.trans hfn)).symm
  refine ⟨by kernel_rfl, fun j t ht => ?_⟩
  rw [Tryd.params3] at ht
  have hm : t = 22 ∨ t = 4 ∨ t = 3 ∨ t = 3 ∨ t = 24 ∨ t = 24 := by simpa using Array.mem_of_getElem? ht
  rcases hm with rfl | rfl | rfl | rfl | rfl | rfl
  · exact (show Tryd.prog.wantsStandIn 22 = false by kernel_rfl)
  · exact (show Tryd.prog.wantsStandIn 4 = false by kernel_rfl)
  · exact (show Tryd.prog.wantsStandIn 3 = false by kernel_rfl)
  · exact (show Tryd.prog.wantsStandIn 3 = false by kernel_rfl)
  · exact (show Tryd.prog.wantsStandIn 24 = false by kernel_rfl)
  · exact (show Tryd.prog.wantsStandIn 24 = false by kernel_rfl)
theorem card : Rows.TopRegionCardSaid :=
  Claim7.holds_tied_plain_at .later [] _ _ _ _ said (fun _ h => by cases h) (by kernel_rfl) (fun _ h => by cases h) topRegion_row_tie rfl ⟨rfl, rfl⟩ (by kernel_rfl) rfl plain (by kernel_rfl)
end Go.Proofs.YtamepbgmajeaeacDoor.TopRegionLaw
namespace Go.Proofs.YtamepbgmajeaeacDoor
theorem topRegion_holds : Rows.TopRegionCardSaid := TopRegionLaw.card
#print axioms topRegion_holds
end Go.Proofs.YtamepbgmajeaeacDoor
