/- TopNever: for every list of raw numbers, whether made or not, every region and every raw number, trusted code that is entered in the region never faults. Conditions: the package-level tables that the road reads hold what the program's text lays (the card ties them). -/
import Derived.Test.YtamepbgmajeaeacDoorCards
import Derived.Test.YtamepbgmajeaeacDoorTie
import Derived.Test.YtamepbgmajeaeacDoorTrustedK
import Derived.Test.YtamepbgmajeaeacDoorMemK
import Derived.Test.YtamepbgmajeaeacDoorEqI
import Derived.Test.YtamepbgmajeaeacDoorTopQ
import Derived.Test.YtamepbgmajeaeacDoorOpenR
import Derived.Test.YtamepbgmajeaeacDoorStoreK
import Derived.Test.YtamepbgmajeaeacDoorTabsL
import Derived.Test.YtamepbgmajeaeacDoorKit
namespace Go.Proofs.YtamepbgmajeaeacDoor.TopNeverLaw
open Go.ChangeShapes Go.WideShapes Go.ChangeAt Go.RowKit

theorem own : ownKnob Tryd.prog.godebug = none := by kernel_rfl
theorem laidOut : laidOutB Tryd.prog = true := by kernel_rfl
theorem trusted_both (l : List Cf.Ins) (hf : ∀ x ∈ l, FitI x) (A0 : Option Addr) (c0 : Nat) (made : Bool) (w : World) (hR : Codes w A0 l) (hm : l.length ≤ maxLen) (hL : TabL w) (hF : TabF w) :
    Calls Tryd.prog 6 #[.slice A0 l.length c0, .bool made] w (TrustedPost made w) := by
  cases made with
  | true => exact trusted_made l hf A0 c0 w hR hm hL hF
  | false => exact trusted_any l hf A0 c0 w hR hm hL hF
def NvRel (w : World) (pv ev : Value) (wx : World) : Prop :=
  ∃ (g : Nat) (z : Int), pv = .pointer (some ⟨g, 0, none⟩) ∧ ev = .int .i64 0 ∧ z ≠ 0 ∧ z ≠ 3 ∧ wx.cell? ⟨g, 0, none⟩ = some (.int .i64 z) ∧ Below w.heap.size w wx
set_option maxRecDepth 100000 in
set_option maxHeartbeats 4000000 in
theorem walk (l : List Cf.Ins) (hf : ∀ x ∈ l, FitI x) (A0 : Option Addr) (c0 : Nat) (made : Bool) (region : Int) (hre : Fit region) (kr ra rb rc : Int) (f1 : Fit ra) (f2 : Fit rb) (w : World) (hR : Codes w A0 l) (hm : l.length ≤ maxLen) (hL : TabL w) (hF : TabF w) :
    Calls Tryd.prog 4 #[.slice A0 l.length c0, .bool made, .int .i64 region, .agg #[.int .i64 kr, .int .i64 ra, .int .i64 rb, .int .i64 rc]] w fun e w' => e = .returned (.bool true) ∧ Below w.heap.size w w' := by
  obtain ⟨r, hrp, hr15⟩ : ∃ r : Nat, Cf.pick region 16 = r ∧ r ≤ 15 := by
    obtain ⟨h1, h2⟩ := Cf.pick_range region 16 (by omega)
    exact ⟨(Cf.pick region 16).toNat, by omega, by omega⟩
  have HPk := Lib.hid (fun w => Picked_any region 16 w hre (by omega) (by omega))
  rw [hrp] at HPk
  have hb0 : Below w.heap.size w (w.alloc (.cells #[.int .i64 kr, .int .i64 ra, .int .i64 rb, .int .i64 rc] 24)) := (Below.refl _ _).alloc (Nat.le_refl _) _
  have Hbox := Lib.hid (Wb.new w 24 [.int .i64 kr, .int .i64 ra, .int .i64 rb, .int .i64 rc])
  have HP := Lib.hid (trusted_both l hf A0 c0 made _ (hR.below hb0) hm (hL.below hb0) (hF.below hb0))
  have HL := Lib.hid hL
  have HF := Lib.hid hF
  clear hL hF hR hrp
  go_enter Tryd.func4, Tryd.ntmps4
  go_wp2_with fail
  refine HP.out.mono ?_
  rintro e w1 ⟨A, cap, c, ok, rfl, hok, hmo, hcl, hcc, hb1⟩
  have hbw1 := hb0.trans (hb1.mono (by simp))
  have Hbox1 := Lib.hid (Hbox.out.below hb1 Hbox.out.lt)
  have HC1 := Lib.hid hcc
  clear hb0 hb1 HP Hbox hcc
  cases ok with
  | false =>
    cases made with
    | true => cases hmo rfl
    | false =>
      go_wp2
      go_ret
      exact ⟨rfl, hbw1⟩
  | true =>
    have Hsafe := Lib.hid (hok rfl)
    clear hok hmo
    go_wp2_with fail
    refine (HPk.out _).mono ?_
    rintro e w' ⟨rfl, rfl⟩
    go_wp2_with fail
    refine (enter_good r 5 _ (by omega) (by omega) (by omega) (by omega)).mono ?_
    rintro e w3 ⟨rfl, hb3⟩
    have hbw3 := hbw1.trans (hb3.mono hbw1.size)
    have Hbox3 := Lib.hid (Hbox1.out.below hb3 Hbox1.out.lt)
    have HC3 := Lib.hid (HC1.out.below hb3)
    have hal : Below w3.heap.size w3 (w3.alloc (.cells #[.int .i64 5, .int .i64 0, .int .i64 0, .int .i64 0, .int .i64 (64 * (r : Int)), .int .i64 (64 * (r : Int)), .int .i64 63, .int .i64 0] 29)) := (Below.refl _ _).alloc (Nat.le_refl _) _
    have Hg := Lib.hid (Wb.new w3 29 [.int .i64 5, .int .i64 0, .int .i64 0, .int .i64 0, .int .i64 (64 * (r : Int)), .int .i64 (64 * (r : Int)), .int .i64 63, .int .i64 0])
    have Hbox4 := Lib.hid (Hbox3.out.below hal Hbox3.out.lt)
    have HC0 := Lib.hid (HC3.out.below hal)
    have hbw0 := hbw3.trans (hal.mono hbw3.size)
    have hL := Lib.hid (HL.out.below hbw0)
    have HF0 := Lib.hid (HF.out.below hbw0)
    have hcm : c.length ≤ maxLen := by unfold maxLen; omega
    clear hb3 hbw1 hbw3 Hbox1 HC1 HC3 Hbox3 HL HF hal HPk
    go_upto_region 5 with fail
    generalize w3.alloc _ = W0 at *
    have g0 := Hg.out.cell 0
    have g1 := Hg.out.cell 1
    have g2 := Hg.out.cell 2
    have g3 := Hg.out.cell 3
    have g4 := Hg.out.cell 4
    have g5 := Hg.out.cell 5
    have g6 := Hg.out.cell 6
    have g7 := Hg.out.cell 7
    have q0 := Hbox4.out.cell 0
    have q1 := Hbox4.out.cell 1
    have q2 := Hbox4.out.cell 2
    have q3 := Hbox4.out.cell 3
    simp only [List.getElem?_cons_zero, List.getElem?_cons_succ] at g0 g1 g2 g3 g4 g5 g6 g7 q0 q1 q2 q3
    have hl3 := Hg.out.lt
    have hl0 := Hbox4.out.lt
    clear Hg Hbox4
    go_cut [13, 14] from 31 to 38 (fun pv ev wx => NvRel w pv ev wx)
    case first =>
      refine wp_region_noPanic ?_
      refine wp_region_held_drew (S := fun W => Below W0.heap.size W0 W) (by kernel_rfl) ((Below.refl _ _).drew) (fun hHeld => ?_)
      refine wpAnyH_take (i := 0) (oi := { dst := some 32, op := Op.move (Operand.tmp 9), type := 25, pos := "top.go:64", after := #[], guard := none }) (v := .slice A c.length cap) rfl (by kernel_rfl) (by kernel_rfl) (by kernel_rfl) (fun _ _ _ h => h) (Or.inl ⟨by kernel_rfl, fun wq hSw => by ((try dsimp only at hSw); go_simp)⟩) hHeld ?_
      (try simp only [Act.put, List.setIfInBounds_toArray, List.set_cons_zero, List.set_cons_succ])
      refine wpAnyH_take (i := 1) (oi := { dst := some 33, op := Op.load 29 (Operand.tmp 11), type := 29, pos := "top.go:64", after := #[], guard := none }) (v := .agg #[.int .i64 5, .int .i64 0, .int .i64 0, .int .i64 0, .int .i64 (64 * (r : Int)), .int .i64 (64 * (r : Int)), .int .i64 63, .int .i64 0]) rfl (by kernel_rfl) (by kernel_rfl) (by kernel_rfl) (fun _ _ _ h => h) (Or.inl ⟨by kernel_rfl, fun wq hSw => by (have k0 := (hSw.cell (p := ⟨w3.heap.size, 0, none⟩) hl3).trans g0; have k1 := (hSw.cell (p := ⟨w3.heap.size, 1, none⟩) hl3).trans g1; have k2 := (hSw.cell (p := ⟨w3.heap.size, 2, none⟩) hl3).trans g2; have k3 := (hSw.cell (p := ⟨w3.heap.size, 3, none⟩) hl3).trans g3; have k4 := (hSw.cell (p := ⟨w3.heap.size, 4, none⟩) hl3).trans g4; have k5 := (hSw.cell (p := ⟨w3.heap.size, 5, none⟩) hl3).trans g5; have k6 := (hSw.cell (p := ⟨w3.heap.size, 6, none⟩) hl3).trans g6; have k7 := (hSw.cell (p := ⟨w3.heap.size, 7, none⟩) hl3).trans g7; clear hSw; go_simp)⟩) hHeld ?_
      (try simp only [Act.put, List.setIfInBounds_toArray, List.set_cons_zero, List.set_cons_succ])
      refine wpAnyH_take (i := 2) (oi := { dst := some 34, op := Op.load 24 (Operand.tmp 7), type := 24, pos := "top.go:64", after := #[], guard := none }) (v := .agg #[.int .i64 kr, .int .i64 ra, .int .i64 rb, .int .i64 rc]) rfl (by kernel_rfl) (by kernel_rfl) (by kernel_rfl) (fun _ _ _ h => h) (Or.inl ⟨by kernel_rfl, fun wq hSw => by (have k0 := (hSw.cell (p := ⟨w.heap.size, 0, none⟩) hl0).trans q0; have k1 := (hSw.cell (p := ⟨w.heap.size, 1, none⟩) hl0).trans q1; have k2 := (hSw.cell (p := ⟨w.heap.size, 2, none⟩) hl0).trans q2; have k3 := (hSw.cell (p := ⟨w.heap.size, 3, none⟩) hl0).trans q3; clear hSw; go_simp)⟩) hHeld ?_
      (try simp only [Act.put, List.setIfInBounds_toArray, List.set_cons_zero, List.set_cons_succ])
      refine wpAnyH_ready (rs := [3, 8]) (by kernel_rfl) (by simp) ?_
      refine AllReadyH.cons (o := { dst := some 35, op := Op.call { callee := Callee.value (Operand.func 9), args := #[Operand.tmp 34, Operand.const (Value.int IntKind.i64 1024)], argTypes := #[24, 3] }, type := 33, pos := "top.go:64", after := #[{ on := 2, ground := Ground.data }], guard := none }) rfl (fun K hK => ?_) (AllReadyH.cons (o := { dst := some 13, op := Op.alloc 36, type := 0, pos := "top.go:64", after := #[], guard := none }) rfl (fun K hK => ?_) AllReadyH.nil)
      · go_simp
        go_at_call 9; refine (mem_any kr ra rb rc 1024 _ f1 f2 (by omega) (by omega)).mono ?_; rintro e w4 ⟨Mx, cmx, x, rfl, hxl, hxw, hxr, hb4⟩
        go_wp2_with fail
        refine hK.out _ _ (hHeld.trans (hb4.mono hHeld.size)) (fun hHeld => ?_)
        have HI4 := Lib.hid (show Ints w4 Mx x from Row.ints (by rw [hxl]; exact hxr))
        obtain ⟨z, s0, s1, s2, s3, s4, s5, s6, s7, t, mm, e1, hz0, hz3, _, _, _, _⟩ := Cf.top_run Hsafe.out r 5 hr15 (by omega) x hxl hxw
        have HE1 := Lib.hid e1
        have Hxl := Lib.hid hxl
        have Hz0 := Lib.hid hz0
        have Hz3 := Lib.hid hz3
        clear hK K e1 hxl hxw hxr hz0 hz3 
        (try simp only [Act.put, List.setIfInBounds_toArray, List.set_cons_zero, List.set_cons_succ])
        refine wpAnyH_ready (rs := [4, 8]) (by kernel_rfl) (by simp) ?_
        refine AllReadyH.cons (o := { dst := some 36, op := Op.call { callee := Callee.value (Operand.func 10), args := #[Operand.tmp 32, Operand.tmp 33, Operand.tmp 35, Operand.const (Value.int IntKind.i64 3000)], argTypes := #[25, 29, 33, 3] }, type := 37, pos := "top.go:64", after := #[{ on := 0, ground := Ground.data }, { on := 1, ground := Ground.data }, { on := 3, ground := Ground.data }, { on := 3, ground := Ground.chain }], guard := none }) rfl (fun K hK => ?_) (AllReadyH.cons (o := { dst := some 13, op := Op.alloc 36, type := 0, pos := "top.go:64", after := #[], guard := none }) rfl (fun K hK => ?_) AllReadyH.nil)
        · have HRn := Lib.hid (run_any c A cap 5 0 0 0 (64 * (r : Int)) (64 * (r : Int)) 63 0 x Mx cmx 3000 _ (HC0.out.below hHeld) (hL.out.below hHeld) (HF0.out.below hHeld) hcm HI4.out (by unfold maxLen; rw [Hxl.out]; omega))
          rw [HE1.out, Hxl.out] at HRn
          go_simp
          go_at_call 10; refine HRn.out.mono ?_; rintro e w5 ⟨T, M, ct, cm, rfl, hT, hM, hb5⟩
          dsimp only at hT hM ⊢
          simp only [List.map_cons, List.map_nil, List.cons_append, List.nil_append]
          go_wp2_with fail
          refine hK.out _ _ (hHeld.trans (hb5.mono hHeld.size)) (fun hHeld => ?_)
          clear hK K HRn hT hM
          (try simp only [Act.put, List.setIfInBounds_toArray, List.set_cons_zero, List.set_cons_succ])
          refine wpAnyH_take (i := 5) (oi := { dst := some 31, op := Op.move (Operand.tmp 36), type := 37, pos := "top.go:64", after := #[{ on := 4, ground := Ground.data }], guard := none }) (v := .tuple #[.agg #[.int .i64 z, .int .i64 s0, .int .i64 s1, .int .i64 s2, .int .i64 s3, .int .i64 s4, .int .i64 s5, .int .i64 s6, .int .i64 s7, .slice T t.length ct, .slice M mm.length cm], .int .i64 0]) rfl (by kernel_rfl) (by kernel_rfl) (by kernel_rfl) (fun _ _ _ h => h) (Or.inl ⟨by kernel_rfl, fun wq hSw => by ((try dsimp only at hSw); go_simp)⟩) hHeld ?_
          (try simp only [Act.put, List.setIfInBounds_toArray, List.set_cons_zero, List.set_cons_succ])
          refine wpAnyH_take (i := 6) (oi := { dst := some 37, op := Op.extract (Operand.tmp 31) 0, type := 36, pos := "top.go:64", after := #[{ on := 5, ground := Ground.data }], guard := none }) (v := .agg #[.int .i64 z, .int .i64 s0, .int .i64 s1, .int .i64 s2, .int .i64 s3, .int .i64 s4, .int .i64 s5, .int .i64 s6, .int .i64 s7, .slice T t.length ct, .slice M mm.length cm]) rfl (by kernel_rfl) (by kernel_rfl) (by kernel_rfl) (fun _ _ _ h => h) (Or.inl ⟨by kernel_rfl, fun wq hSw => by ((try dsimp only at hSw); go_simp)⟩) hHeld ?_
          (try simp only [Act.put, List.setIfInBounds_toArray, List.set_cons_zero, List.set_cons_succ])
          refine wpAnyH_take (i := 7) (oi := { dst := some 38, op := Op.extract (Operand.tmp 31) 1, type := 30, pos := "top.go:64", after := #[{ on := 5, ground := Ground.data }, { on := 9, ground := Ground.gcOnly Departure.lateStores }], guard := none }) (v := .int .i64 0) rfl (by kernel_rfl) (by kernel_rfl) (by kernel_rfl) (fun _ _ _ h => h) (Or.inl ⟨by kernel_rfl, fun wq hSw => by ((try dsimp only at hSw); go_simp)⟩) hHeld ?_
          (try simp only [Act.put, List.setIfInBounds_toArray, List.set_cons_zero, List.set_cons_succ])
          have hHeld' := hHeld
          refine wpAnyH_ready (rs := [8]) (by kernel_rfl) (by simp) ?_
          refine AllReadyH.cons (o := { dst := some 13, op := Op.alloc 36, type := 0, pos := "top.go:64", after := #[], guard := none }) rfl (fun K hK => ?_) AllReadyH.nil
          go_simp
          have hsz := hHeld.size
          refine hK.out _ _ (hHeld.alloc hHeld.size _) (fun hHeld => ?_)
          clear hK K
          (try simp only [Act.put, List.setIfInBounds_toArray, List.set_cons_zero, List.set_cons_succ])
          refine wpAnyH_ready (rs := [9]) (by kernel_rfl) (by simp) ?_
          refine AllReadyH.cons (o := { dst := none, op := Op.store 36 (Operand.tmp 13) (Operand.tmp 37), type := 0, pos := "top.go:64", after := #[{ on := 8, ground := Ground.data }, { on := 6, ground := Ground.data }, { on := 4, ground := Ground.chain }, { on := 0, ground := Ground.phase }, { on := 1, ground := Ground.phase }, { on := 2, ground := Ground.phase }, { on := 3, ground := Ground.phase }, { on := 4, ground := Ground.phase }, { on := 5, ground := Ground.phase }, { on := 6, ground := Ground.phase }, { on := 7, ground := Ground.textOnly Departure.lateStores }, { on := 8, ground := Ground.phase }], guard := none }) rfl (fun K hK => ?_) AllReadyH.nil
          go_simp
          refine hK.out _ _ (hHeld'.alloc hHeld'.size _) (fun hHeld => ?_)
          clear hK K
          (try simp only [Act.put, List.setIfInBounds_toArray, List.set_cons_zero, List.set_cons_succ])
          refine wpAnyH_take (i := 10) (oi := { dst := some 14, op := Op.assign (Operand.tmp 38), type := 30, pos := "top.go:64", after := #[{ on := 7, ground := Ground.data }, { on := 9, ground := Ground.chain }, { on := 0, ground := Ground.phase }, { on := 1, ground := Ground.phase }, { on := 2, ground := Ground.phase }, { on := 3, ground := Ground.phase }, { on := 4, ground := Ground.phase }, { on := 5, ground := Ground.phase }, { on := 6, ground := Ground.phase }, { on := 7, ground := Ground.phase }, { on := 8, ground := Ground.phase }, { on := 9, ground := Ground.phase }], guard := none }) (v := .int .i64 0) rfl (by kernel_rfl) (by kernel_rfl) (by kernel_rfl) (fun _ _ _ h => h) (Or.inl ⟨by kernel_rfl, fun wq hSw => by ((try dsimp only at hSw); go_simp)⟩) hHeld ?_
          (try simp only [Act.put, List.setIfInBounds_toArray, List.set_cons_zero, List.set_cons_succ])
          refine wpAnyH_done (by kernel_rfl) ?_ _
          refine NoPanic.normal ?_
          go_wp2_with fail
          go_meet
          exact ⟨_, z, rfl, rfl, Hz0.out, Hz3.out, (by simp), (hbw0.trans (hHeld.mono hbw0.size))⟩
        · go_simp
          have hsz := hHeld.size
          refine hK.out _ _ (hHeld.alloc hHeld.size _) (fun hHeld => ?_)
          clear hK K
          (try simp only [Act.put, List.setIfInBounds_toArray, List.set_cons_zero, List.set_cons_succ])
          have Hg4 := Lib.hid (Wb.new w4 36 [.int .i64 0, .int .i64 0, .int .i64 0, .int .i64 0, .int .i64 0, .int .i64 0, .int .i64 0, .int .i64 0, .int .i64 0, .slice none 0 0, .slice none 0 0])
          refine wpAnyH_ready (rs := [4]) (by kernel_rfl) (by simp) ?_
          refine AllReadyH.cons (o := { dst := some 36, op := Op.call { callee := Callee.value (Operand.func 10), args := #[Operand.tmp 32, Operand.tmp 33, Operand.tmp 35, Operand.const (Value.int IntKind.i64 3000)], argTypes := #[25, 29, 33, 3] }, type := 37, pos := "top.go:64", after := #[{ on := 0, ground := Ground.data }, { on := 1, ground := Ground.data }, { on := 3, ground := Ground.data }, { on := 3, ground := Ground.chain }], guard := none }) rfl (fun K hK => ?_) AllReadyH.nil
          have HRn := Lib.hid (run_any c A cap 5 0 0 0 (64 * (r : Int)) (64 * (r : Int)) 63 0 x Mx cmx 3000 _ (HC0.out.below hHeld) (hL.out.below hHeld) (HF0.out.below hHeld) hcm (HI4.out.below ((Below.refl _ _).alloc (Nat.le_refl _) _)) (by unfold maxLen; rw [Hxl.out]; omega))
          rw [HE1.out, Hxl.out] at HRn
          go_simp
          go_at_call 10; refine HRn.out.mono ?_; rintro e w5 ⟨T, M, ct, cm, rfl, hT, hM, hb5⟩
          dsimp only at hT hM ⊢
          simp only [List.map_cons, List.map_nil, List.cons_append, List.nil_append]
          go_wp2_with fail
          refine hK.out _ _ (hHeld.trans (hb5.mono hHeld.size)) (fun hHeld => ?_)
          have Hg5 := Lib.hid (Hg4.out.below hb5 Hg4.out.lt)
          have hgB : W0.heap.size ≤ w4.heap.size := hsz
          clear hK K HRn hT hM
          (try simp only [Act.put, List.setIfInBounds_toArray, List.set_cons_zero, List.set_cons_succ])
          refine wpAnyH_take (i := 5) (oi := { dst := some 31, op := Op.move (Operand.tmp 36), type := 37, pos := "top.go:64", after := #[{ on := 4, ground := Ground.data }], guard := none }) (v := .tuple #[.agg #[.int .i64 z, .int .i64 s0, .int .i64 s1, .int .i64 s2, .int .i64 s3, .int .i64 s4, .int .i64 s5, .int .i64 s6, .int .i64 s7, .slice T t.length ct, .slice M mm.length cm], .int .i64 0]) rfl (by kernel_rfl) (by kernel_rfl) (by kernel_rfl) (fun _ _ _ h => h) (Or.inl ⟨by kernel_rfl, fun wq hSw => by ((try dsimp only at hSw); go_simp)⟩) hHeld ?_
          (try simp only [Act.put, List.setIfInBounds_toArray, List.set_cons_zero, List.set_cons_succ])
          refine wpAnyH_take (i := 6) (oi := { dst := some 37, op := Op.extract (Operand.tmp 31) 0, type := 36, pos := "top.go:64", after := #[{ on := 5, ground := Ground.data }], guard := none }) (v := .agg #[.int .i64 z, .int .i64 s0, .int .i64 s1, .int .i64 s2, .int .i64 s3, .int .i64 s4, .int .i64 s5, .int .i64 s6, .int .i64 s7, .slice T t.length ct, .slice M mm.length cm]) rfl (by kernel_rfl) (by kernel_rfl) (by kernel_rfl) (fun _ _ _ h => h) (Or.inl ⟨by kernel_rfl, fun wq hSw => by ((try dsimp only at hSw); go_simp)⟩) hHeld ?_
          (try simp only [Act.put, List.setIfInBounds_toArray, List.set_cons_zero, List.set_cons_succ])
          refine wpAnyH_take (i := 7) (oi := { dst := some 38, op := Op.extract (Operand.tmp 31) 1, type := 30, pos := "top.go:64", after := #[{ on := 5, ground := Ground.data }, { on := 9, ground := Ground.gcOnly Departure.lateStores }], guard := none }) (v := .int .i64 0) rfl (by kernel_rfl) (by kernel_rfl) (by kernel_rfl) (fun _ _ _ h => h) (Or.inl ⟨by kernel_rfl, fun wq hSw => by ((try dsimp only at hSw); go_simp)⟩) hHeld ?_
          (try simp only [Act.put, List.setIfInBounds_toArray, List.set_cons_zero, List.set_cons_succ])
          refine wpAnyH_ready (rs := [9]) (by kernel_rfl) (by simp) ?_
          refine AllReadyH.cons (o := { dst := none, op := Op.store 36 (Operand.tmp 13) (Operand.tmp 37), type := 0, pos := "top.go:64", after := #[{ on := 8, ground := Ground.data }, { on := 6, ground := Ground.data }, { on := 4, ground := Ground.chain }, { on := 0, ground := Ground.phase }, { on := 1, ground := Ground.phase }, { on := 2, ground := Ground.phase }, { on := 3, ground := Ground.phase }, { on := 4, ground := Ground.phase }, { on := 5, ground := Ground.phase }, { on := 6, ground := Ground.phase }, { on := 7, ground := Ground.textOnly Departure.lateStores }, { on := 8, ground := Ground.phase }], guard := none }) rfl (fun K hK => ?_) AllReadyH.nil
          have hth := Hg5.out.there
          refine Eq.mpr (if_pos (by kernel_rfl)) ?_
          refine wp_store_mid 36 _ _ rfl w4.heap.size 0 #[.int .i64 z, .int .i64 s0, .int .i64 s1, .int .i64 s2, .int .i64 s3, .int .i64 s4, .int .i64 s5, .int .i64 s6, .int .i64 s7, .slice T t.length ct, .slice M mm.length cm] rfl rfl hth (by kernel_rfl) (all_oneCell_toArray (by intro v hv; simp at hv; rcases hv with rfl | rfl | rfl | rfl | rfl | rfl | rfl | rfl | rfl | rfl | rfl <;> rfl)) ?_
          have y0 : (w5.setCells w4.heap.size 0 [.int .i64 z, .int .i64 s0, .int .i64 s1, .int .i64 s2, .int .i64 s3, .int .i64 s4, .int .i64 s5, .int .i64 s6, .int .i64 s7, .slice T t.length ct, .slice M mm.length cm]).cell? ⟨w4.heap.size, 0, none⟩ = some (.int .i64 z) := World.rangeAt_setCells_same w5 w4.heap.size 0 [.int .i64 z, .int .i64 s0, .int .i64 s1, .int .i64 s2, .int .i64 s3, .int .i64 s4, .int .i64 s5, .int .i64 s6, .int .i64 s7, .slice T t.length ct, .slice M mm.length cm] hth 0 _ rfl
          have hbS := below_setCells hgB [.int .i64 z, .int .i64 s0, .int .i64 s1, .int .i64 s2, .int .i64 s3, .int .i64 s4, .int .i64 s5, .int .i64 s6, .int .i64 s7, .slice T t.length ct, .slice M mm.length cm] 0 w5 hHeld
          change K _ (w5.setCells w4.heap.size 0 [.int .i64 z, .int .i64 s0, .int .i64 s1, .int .i64 s2, .int .i64 s3, .int .i64 s4, .int .i64 s5, .int .i64 s6, .int .i64 s7, .slice T t.length ct, .slice M mm.length cm])
          generalize w5.setCells w4.heap.size 0 [.int .i64 z, .int .i64 s0, .int .i64 s1, .int .i64 s2, .int .i64 s3, .int .i64 s4, .int .i64 s5, .int .i64 s6, .int .i64 s7, .slice T t.length ct, .slice M mm.length cm] = w6 at y0 hbS ⊢
          refine hK.out _ _ hbS (fun hHeld => ?_)
          clear hK K hth hbS
          (try simp only [Act.put])
          refine wpAnyH_take (i := 10) (oi := { dst := some 14, op := Op.assign (Operand.tmp 38), type := 30, pos := "top.go:64", after := #[{ on := 7, ground := Ground.data }, { on := 9, ground := Ground.chain }, { on := 0, ground := Ground.phase }, { on := 1, ground := Ground.phase }, { on := 2, ground := Ground.phase }, { on := 3, ground := Ground.phase }, { on := 4, ground := Ground.phase }, { on := 5, ground := Ground.phase }, { on := 6, ground := Ground.phase }, { on := 7, ground := Ground.phase }, { on := 8, ground := Ground.phase }, { on := 9, ground := Ground.phase }], guard := none }) (v := .int .i64 0) rfl (by kernel_rfl) (by kernel_rfl) (by kernel_rfl) (fun _ _ _ h => h) (Or.inl ⟨by kernel_rfl, fun wq hSw => by ((try dsimp only at hSw); go_simp)⟩) hHeld ?_
          (try simp only [Act.put, List.setIfInBounds_toArray, List.set_cons_zero, List.set_cons_succ])
          refine wpAnyH_done (by kernel_rfl) ?_ _
          refine NoPanic.normal ?_
          go_wp2_with fail
          go_meet
          exact ⟨_, z, rfl, rfl, Hz0.out, Hz3.out, y0, (hbw0.trans (hHeld.mono hbw0.size))⟩
      · go_simp
        have hsz := hHeld.size
        refine hK.out _ _ (hHeld.alloc hHeld.size _) (fun hHeld => ?_)
        clear hK K
        (try simp only [Act.put, List.setIfInBounds_toArray, List.set_cons_zero, List.set_cons_succ])
        have Hg3 := Lib.hid (Wb.new (World.drew W0) 36 [.int .i64 0, .int .i64 0, .int .i64 0, .int .i64 0, .int .i64 0, .int .i64 0, .int .i64 0, .int .i64 0, .int .i64 0, .slice none 0 0, .slice none 0 0])
        refine wpAnyH_ready (rs := [3]) (by kernel_rfl) (by simp) ?_
        refine AllReadyH.cons (o := { dst := some 35, op := Op.call { callee := Callee.value (Operand.func 9), args := #[Operand.tmp 34, Operand.const (Value.int IntKind.i64 1024)], argTypes := #[24, 3] }, type := 33, pos := "top.go:64", after := #[{ on := 2, ground := Ground.data }], guard := none }) rfl (fun K hK => ?_) AllReadyH.nil
        go_simp
        go_at_call 9; refine (mem_any kr ra rb rc 1024 _ f1 f2 (by omega) (by omega)).mono ?_; rintro e w4 ⟨Mx, cmx, x, rfl, hxl, hxw, hxr, hb4⟩
        go_wp2_with fail
        refine hK.out _ _ (hHeld.trans (hb4.mono hHeld.size)) (fun hHeld => ?_)
        have HI4 := Lib.hid (show Ints w4 Mx x from Row.ints (by rw [hxl]; exact hxr))
        obtain ⟨z, s0, s1, s2, s3, s4, s5, s6, s7, t, mm, e1, hz0, hz3, _, _, _, _⟩ := Cf.top_run Hsafe.out r 5 hr15 (by omega) x hxl hxw
        have HE1 := Lib.hid e1
        have Hxl := Lib.hid hxl
        have Hz0 := Lib.hid hz0
        have Hz3 := Lib.hid hz3
        clear hK K e1 hxl hxw hxr hz0 hz3 
        (try simp only [Act.put, List.setIfInBounds_toArray, List.set_cons_zero, List.set_cons_succ])
        have Hg4 := Lib.hid (Hg3.out.below hb4 Hg3.out.lt)
        refine wpAnyH_ready (rs := [4]) (by kernel_rfl) (by simp) ?_
        refine AllReadyH.cons (o := { dst := some 36, op := Op.call { callee := Callee.value (Operand.func 10), args := #[Operand.tmp 32, Operand.tmp 33, Operand.tmp 35, Operand.const (Value.int IntKind.i64 3000)], argTypes := #[25, 29, 33, 3] }, type := 37, pos := "top.go:64", after := #[{ on := 0, ground := Ground.data }, { on := 1, ground := Ground.data }, { on := 3, ground := Ground.data }, { on := 3, ground := Ground.chain }], guard := none }) rfl (fun K hK => ?_) AllReadyH.nil
        have HRn := Lib.hid (run_any c A cap 5 0 0 0 (64 * (r : Int)) (64 * (r : Int)) 63 0 x Mx cmx 3000 _ (HC0.out.below hHeld) (hL.out.below hHeld) (HF0.out.below hHeld) hcm HI4.out (by unfold maxLen; rw [Hxl.out]; omega))
        rw [HE1.out, Hxl.out] at HRn
        go_simp
        go_at_call 10; refine HRn.out.mono ?_; rintro e w5 ⟨T, M, ct, cm, rfl, hT, hM, hb5⟩
        dsimp only at hT hM ⊢
        simp only [List.map_cons, List.map_nil, List.cons_append, List.nil_append]
        go_wp2_with fail
        refine hK.out _ _ (hHeld.trans (hb5.mono hHeld.size)) (fun hHeld => ?_)
        have Hg5 := Lib.hid (Hg4.out.below hb5 Hg4.out.lt)
        have hgB : W0.heap.size ≤ W0.heap.size := hsz
        clear hK K HRn hT hM
        (try simp only [Act.put, List.setIfInBounds_toArray, List.set_cons_zero, List.set_cons_succ])
        refine wpAnyH_take (i := 5) (oi := { dst := some 31, op := Op.move (Operand.tmp 36), type := 37, pos := "top.go:64", after := #[{ on := 4, ground := Ground.data }], guard := none }) (v := .tuple #[.agg #[.int .i64 z, .int .i64 s0, .int .i64 s1, .int .i64 s2, .int .i64 s3, .int .i64 s4, .int .i64 s5, .int .i64 s6, .int .i64 s7, .slice T t.length ct, .slice M mm.length cm], .int .i64 0]) rfl (by kernel_rfl) (by kernel_rfl) (by kernel_rfl) (fun _ _ _ h => h) (Or.inl ⟨by kernel_rfl, fun wq hSw => by ((try dsimp only at hSw); go_simp)⟩) hHeld ?_
        (try simp only [Act.put, List.setIfInBounds_toArray, List.set_cons_zero, List.set_cons_succ])
        refine wpAnyH_take (i := 6) (oi := { dst := some 37, op := Op.extract (Operand.tmp 31) 0, type := 36, pos := "top.go:64", after := #[{ on := 5, ground := Ground.data }], guard := none }) (v := .agg #[.int .i64 z, .int .i64 s0, .int .i64 s1, .int .i64 s2, .int .i64 s3, .int .i64 s4, .int .i64 s5, .int .i64 s6, .int .i64 s7, .slice T t.length ct, .slice M mm.length cm]) rfl (by kernel_rfl) (by kernel_rfl) (by kernel_rfl) (fun _ _ _ h => h) (Or.inl ⟨by kernel_rfl, fun wq hSw => by ((try dsimp only at hSw); go_simp)⟩) hHeld ?_
        (try simp only [Act.put, List.setIfInBounds_toArray, List.set_cons_zero, List.set_cons_succ])
        refine wpAnyH_take (i := 7) (oi := { dst := some 38, op := Op.extract (Operand.tmp 31) 1, type := 30, pos := "top.go:64", after := #[{ on := 5, ground := Ground.data }, { on := 9, ground := Ground.gcOnly Departure.lateStores }], guard := none }) (v := .int .i64 0) rfl (by kernel_rfl) (by kernel_rfl) (by kernel_rfl) (fun _ _ _ h => h) (Or.inl ⟨by kernel_rfl, fun wq hSw => by ((try dsimp only at hSw); go_simp)⟩) hHeld ?_
        (try simp only [Act.put, List.setIfInBounds_toArray, List.set_cons_zero, List.set_cons_succ])
        refine wpAnyH_ready (rs := [9]) (by kernel_rfl) (by simp) ?_
        refine AllReadyH.cons (o := { dst := none, op := Op.store 36 (Operand.tmp 13) (Operand.tmp 37), type := 0, pos := "top.go:64", after := #[{ on := 8, ground := Ground.data }, { on := 6, ground := Ground.data }, { on := 4, ground := Ground.chain }, { on := 0, ground := Ground.phase }, { on := 1, ground := Ground.phase }, { on := 2, ground := Ground.phase }, { on := 3, ground := Ground.phase }, { on := 4, ground := Ground.phase }, { on := 5, ground := Ground.phase }, { on := 6, ground := Ground.phase }, { on := 7, ground := Ground.textOnly Departure.lateStores }, { on := 8, ground := Ground.phase }], guard := none }) rfl (fun K hK => ?_) AllReadyH.nil
        have hth := Hg5.out.there
        refine Eq.mpr (if_pos (by kernel_rfl)) ?_
        refine wp_store_mid 36 _ _ rfl W0.heap.size 0 #[.int .i64 z, .int .i64 s0, .int .i64 s1, .int .i64 s2, .int .i64 s3, .int .i64 s4, .int .i64 s5, .int .i64 s6, .int .i64 s7, .slice T t.length ct, .slice M mm.length cm] rfl rfl hth (by kernel_rfl) (all_oneCell_toArray (by intro v hv; simp at hv; rcases hv with rfl | rfl | rfl | rfl | rfl | rfl | rfl | rfl | rfl | rfl | rfl <;> rfl)) ?_
        have y0 : (w5.setCells W0.heap.size 0 [.int .i64 z, .int .i64 s0, .int .i64 s1, .int .i64 s2, .int .i64 s3, .int .i64 s4, .int .i64 s5, .int .i64 s6, .int .i64 s7, .slice T t.length ct, .slice M mm.length cm]).cell? ⟨W0.heap.size, 0, none⟩ = some (.int .i64 z) := World.rangeAt_setCells_same w5 W0.heap.size 0 [.int .i64 z, .int .i64 s0, .int .i64 s1, .int .i64 s2, .int .i64 s3, .int .i64 s4, .int .i64 s5, .int .i64 s6, .int .i64 s7, .slice T t.length ct, .slice M mm.length cm] hth 0 _ rfl
        have hbS := below_setCells hgB [.int .i64 z, .int .i64 s0, .int .i64 s1, .int .i64 s2, .int .i64 s3, .int .i64 s4, .int .i64 s5, .int .i64 s6, .int .i64 s7, .slice T t.length ct, .slice M mm.length cm] 0 w5 hHeld
        change K _ (w5.setCells W0.heap.size 0 [.int .i64 z, .int .i64 s0, .int .i64 s1, .int .i64 s2, .int .i64 s3, .int .i64 s4, .int .i64 s5, .int .i64 s6, .int .i64 s7, .slice T t.length ct, .slice M mm.length cm])
        generalize w5.setCells W0.heap.size 0 [.int .i64 z, .int .i64 s0, .int .i64 s1, .int .i64 s2, .int .i64 s3, .int .i64 s4, .int .i64 s5, .int .i64 s6, .int .i64 s7, .slice T t.length ct, .slice M mm.length cm] = w6 at y0 hbS ⊢
        refine hK.out _ _ hbS (fun hHeld => ?_)
        clear hK K hth hbS
        (try simp only [Act.put])
        refine wpAnyH_take (i := 10) (oi := { dst := some 14, op := Op.assign (Operand.tmp 38), type := 30, pos := "top.go:64", after := #[{ on := 7, ground := Ground.data }, { on := 9, ground := Ground.chain }, { on := 0, ground := Ground.phase }, { on := 1, ground := Ground.phase }, { on := 2, ground := Ground.phase }, { on := 3, ground := Ground.phase }, { on := 4, ground := Ground.phase }, { on := 5, ground := Ground.phase }, { on := 6, ground := Ground.phase }, { on := 7, ground := Ground.phase }, { on := 8, ground := Ground.phase }, { on := 9, ground := Ground.phase }], guard := none }) (v := .int .i64 0) rfl (by kernel_rfl) (by kernel_rfl) (by kernel_rfl) (fun _ _ _ h => h) (Or.inl ⟨by kernel_rfl, fun wq hSw => by ((try dsimp only at hSw); go_simp)⟩) hHeld ?_
        (try simp only [Act.put, List.setIfInBounds_toArray, List.set_cons_zero, List.set_cons_succ])
        refine wpAnyH_done (by kernel_rfl) ?_ _
        refine NoPanic.normal ?_
        go_wp2_with fail
        go_meet
        exact ⟨_, z, rfl, rfl, Hz0.out, Hz3.out, y0, (hbw0.trans (hHeld.mono hbw0.size))⟩
    case rest =>
      obtain ⟨g, z, rfl, rfl, hz0, hz3, hc, hb⟩ := hcut
      have e0 := nen hz0
      have e3 := nen hz3
      clear hz0 hz3
      go_wp2
      go_ret
      exact ⟨rfl, hb⟩

set_option maxRecDepth 100000 in
theorem contract (H : Type) (enc : TypeId × Value → H) (W : World) (base : Nat) (args : Array Value) (ds gs : List (DataW H)) (before : List MemPlace)
    (hval : ∀ (j : Nat) t v, Tryd.f4.params[j]? = some t → args[j]? = some v → Value.okWide Tryd.prog W .any base t v)
    (hW : DataW.Whole enc Tryd.prog Tryd.f4.params.toList Rows.topNeverSpec.vars false W args.toList ds gs before)
    (_hsz0 : (DataW.weightsEach Tryd.prog (Tryd.f4.params.toList ++ (OpenSpec.ofChange Rows.topNeverSpec).bare.plain.varTypes Tryd.prog) (ds ++ gs)).all (· ≤ reachBytes) = true)
    (hL : laidMetH Tryd.prog Rows.topNeverRow.laid W) (_hsh : W.ShapedOpen Tryd.prog) :
    Calls Tryd.prog 4 args W fun e W' => ∃ v, e = .returned v ∧ Rows.topNeverSpec.post enc Tryd.prog Tryd.f4 false true false false W args v W' := by
  have hW' := hW
  obtain ⟨p, q, hA0, hV, rfl, hfz, hnd⟩ := hW
  have hA : DataW.TrodAll enc Tryd.prog W 0 (fun _ => true) true Tryd.f4.params.toList args.toList ds p := hA0
  rw [Tryd.params4] at hA hval
  obtain ⟨v0, vs0, d0, ds0, p0, q0, hargs0, rfl, rfl, h0, r0⟩ := trodAll_cons hA
  obtain ⟨v1, vs1, d1, ds1, p1, q1, hargs1, rfl, rfl, h1, r1⟩ := trodAll_cons r0
  obtain ⟨v2, vs2, d2, ds2, p2, q2, hargs2, rfl, rfl, h2, r2⟩ := trodAll_cons r1
  obtain ⟨v3, vs3, d3, ds3, p3, q3, hargs3, rfl, rfl, h3, r3⟩ := trodAll_cons r2
  obtain ⟨hnil, rfl, rfl⟩ := trodAll_nil r3
  obtain rfl : args = #[v0, v1, v2, v3] := by cases args; simp_all
  obtain ⟨rfl, rfl⟩ : gs = [] ∧ q = [] := by cases gs with | nil => exact ⟨rfl, hV⟩ | cons g gs => exact hV.elim
  obtain ⟨A, cap, l, rfl, hl, hm, hf⟩ := open_fit Tryd.underlying22 rawFields (hval 0 22 v0 rfl rfl) h0
  obtain ⟨made, rfl⟩ := okWide_bool Tryd.underlying4 (hval 1 4 v1 rfl rfl)
  obtain ⟨n1, rfl, rfl, rfl, hn1⟩ := Go.ChangeShapes.open_int Tryd.underlying3 (hval 2 3 v2 rfl rfl) h2
  obtain ⟨kr, ra, rb, rc, rfl, f0, f1, f2, f3⟩ := open_raw rawFields (hval 3 24 v3 rfl rfl) h3
  refine (walk l hf A cap made n1 (fit_wf hn1) kr ra rb rc f1 f2 W hl hm (laidL hL (List.Mem.head _)) (laidF hL (List.Mem.tail _ (List.Mem.head _)))).mono fun e W' ⟨he, hb⟩ => ?_
  exact ⟨_, he, post_law laidOut (by kernel_rfl) Tryd.underlying4 rfl (by kernel_rfl) (fun ds hd => by
    match ds, hd with
    | [d0, d1, d2, d3], _ => rfl) hW' hb⟩

noncomputable def laidWorld (os : Os) : World := { World.holding Tryd.prog os ⟨#[], #[], []⟩ with heap := (((World.holding Tryd.prog os ⟨#[], #[], []⟩).heap).modify 1 (withCells (Cf.larTab.map (Value.int .i64)))).modify 0 (withCells (Cf.fmtTab.flatten.map (Value.int .i64))) }
theorem laid_met (os : Os) : laidMet Tryd.prog Rows.topNeverRow.laid ((laidWorld os).forCall (fun _ _ => 0) ⟨#[], #[.slice none 0 0, .bool false, .int .i64 0, .agg #[.int .i64 0, .int .i64 0, .int .i64 0, .int .i64 0]], []⟩).memory :=
  laidMet_of_run' 8 (by kernel_rfl) (by kernel_rfl)
theorem reads (os : Os) {H : Type} (enc : TypeId × Value → H) : ∃ places, DataW.whole enc Tryd.prog ((laidWorld os).forCall (fun _ _ => 0) ⟨#[], #[.slice none 0 0, .bool false, .int .i64 0, .agg #[.int .i64 0, .int .i64 0, .int .i64 0, .int .i64 0]], []⟩).memory Tryd.f4.params.toList Rows.topNeverSpec.vars false (#[Value.slice none 0 0, .bool false, .int .i64 0, .agg #[.int .i64 0, .int .i64 0, .int .i64 0, .int .i64 0]] : Array Value).toList 8 = some ([.nil, .lit (.bool false), .lit (.int .i64 0), .agg [.lit (.int .i64 0), .lit (.int .i64 0), .lit (.int .i64 0), .lit (.int .i64 0)]], [], places) :=
  ⟨[], by kernel_rfl⟩

set_option maxRecDepth 100000 in
theorem lifted (os : Os) (started : os.Started) (H : Type) (enc : TypeId × Value → H) (F : Stop.Interp) :
    ReturnsInHanded {} Tryd.checked os 4 .any ((OpenSpec.ofChange Rows.topNeverSpec).preRow enc Tryd.prog Tryd.f4 Rows.topNeverRow.domain false Rows.topNeverRow.laid) (((OpenSpec.ofChange Rows.topNeverSpec).at F).post enc Tryd.prog Tryd.f4 false true false false) := by
  obtain ⟨places, hx⟩ := reads os enc
  refine returnsInHanded_of_row (C := Tryd.checked) (s := (OpenSpec.ofChange Rows.topNeverSpec)) own started (by kernel_rfl) Tryd.func4
    (witness_row_at (enc := enc) (C := Tryd.checked) false (laidWorld os) #[.slice none 0 0, .bool false, .int .i64 0, .agg #[.int .i64 0, .int .i64 0, .int .i64 0, .int .i64 0]] rfl (by kernel_rfl) (by kernel_rfl) (by kernel_rfl)
      (OpenSpec.preRow_of_cond 8 hx (by kernel_rfl) (fun k hk => by cases hk) (by kernel_rfl) (laid_met os))) ?_
  intro W base args ds gs before hval hW _ hcond hsz hL hsh _
  exact contract H enc W base args ds gs before hval hW hsz hL hsh

theorem said : Rows.TopNeverSaid :=
  OpenClaim.holds_of_cond 4 Tryd.f4 rfl rfl rfl rfl rfl rfl rfl ⟨rfl, rfl, rfl, rfl, rfl⟩ rfl rfl rfl rfl rfl (by kernel_rfl) Tryd.func4 (by kernel_rfl)
    (of_decide_eq_true (by kernel_rfl)) (by unfold Func.isWrapper; first | (rw [if_pos (by decide +kernel)]; kernel_rfl) | (rw [if_neg (by decide +kernel)]; exact ⟨rfl, rfl⟩))
    (fun os started H enc _ F => by rw [OpenClaim.pre_eq_preRow]; exact lifted os started H enc F)
theorem plain (f : FuncId) (fn : Func) (hf : Tryd.pinned.checked.prog.funcNamed "curfew/curfewtop.TopNever" = some f) (hfn : Tryd.pinned.checked.prog.funcs[f]? = some fn) :
    false = Tryd.pinned.checked.prog.looks [] ∧ ∀ (j : Nat) t, fn.params[j]? = some t → Tryd.pinned.checked.prog.wantsStandIn t = false := by
  obtain rfl : f = 4 := Option.some.inj ((show Tryd.prog.funcNamed "curfew/curfewtop.TopNever" = some 4 by kernel_rfl).symm.trans hf) |>.symm
  obtain rfl : fn = Tryd.f4 := (Option.some.inj (Tryd.func4.symm.trans hfn)).symm
  refine ⟨by kernel_rfl, fun j t ht => ?_⟩
  rw [Tryd.params4] at ht
  have hm : t = 22 ∨ t = 4 ∨ t = 3 ∨ t = 24 := by simpa using Array.mem_of_getElem? ht
  rcases hm with rfl | rfl | rfl | rfl
  · exact (show Tryd.prog.wantsStandIn 22 = false by kernel_rfl)
  · exact (show Tryd.prog.wantsStandIn 4 = false by kernel_rfl)
  · exact (show Tryd.prog.wantsStandIn 3 = false by kernel_rfl)
  · exact (show Tryd.prog.wantsStandIn 24 = false by kernel_rfl)
theorem card : Rows.TopNeverCardSaid :=
  Claim7.holds_tied_plain_at .later [] _ _ _ _ said (fun _ h => by cases h) (by kernel_rfl) (fun _ h => by cases h) topNever_row_tie rfl ⟨rfl, rfl⟩ (by kernel_rfl) rfl plain (by kernel_rfl)
end Go.Proofs.YtamepbgmajeaeacDoor.TopNeverLaw
namespace Go.Proofs.YtamepbgmajeaeacDoor
theorem topNever_holds : Rows.TopNeverCardSaid := TopNeverLaw.card
#print axioms topNever_holds
end Go.Proofs.YtamepbgmajeaeacDoor
