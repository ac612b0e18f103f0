/- Texts of the proofs: TrustY, TrustZ, CheckW, CheckM. -/
import Derived.Test.YtnnhhbjbdmgpiaaGreatDoorJ17
import Derived.Test.YtnnhhbjbdmgpiaaGreatDoorJ03
set_option linter.unusedSimpArgs false
set_option linter.unusedVariables false
/- Walks of chapter 3: the program's test of one instruction, further cases. -/
namespace Go.Proofs.YtnnhhbjbdmgpiaaGreatDoor
set_option maxRecDepth 100000
open Go.RowKit
set_option maxRecDepth 100000 in
set_option maxHeartbeats 2000000 in
theorem trust_w3 (l : List Cf.Ins) (A : Option Addr) (cap k gl : Nat) (b : Int) (w : World) (hR : Codes w A l) (hm : l.length ≤ maxLen) (hx : l[k]? = some ⟨4, 4, b, 6⟩) (hg : w.cell? ⟨gl, 0, none⟩ = some (.slice A l.length cap)) (hk1 : ¬ k + 1 < l.length) :
  Calls Tryz.prog 152 #[.int .i64 k, .pointer (some ⟨gl, 0, none⟩)] w fun e w' => e = .returned (.bool (Cf.trustB l k ⟨4, 4, b, 6⟩)) ∧ Below w.heap.size w w' := by
 have hmx : l.length ≤ 2 ^ 63 - 1 := hm
 clear hm
 have hk : k < l.length := (List.getElem?_eq_some_iff.1 hx).1
 obtain ⟨g, off, rfl, hgl, hc⟩ := hR.at_ (by intro e; rw [e] at hk; simp at hk)
 obtain ⟨p0, p1, p2, p3⟩ := hc k 4 4 b 6 hx
 have HT := Lib.hid (show Cf.trustB l k ⟨4, 4, b, 6⟩ = false by rw [trust_mask, Cf.nextB, List.getElem?_eq_none (by omega)])
 have hk2 : ¬ (k : Int) + 1 < l.length := by omega
 have hl : Cf.ldst ⟨4, 4, b, 6⟩ = false := rfl
 have hs : Cf.inB 4 1 8 = true := rfl
 have hr : Cf.inB 4 4 6 = true := rfl
 have C1 := Lib.hid (fun w => paccesses_any 4 4 b 6 w)
 rw [hl] at C1
 have C2 := Lib.hid (fun w => psets_any 4 4 b 6 w)
 rw [hs] at C2
 have C3 := Lib.hid (fun w => preserved_any 4 w)
 rw [hr] at C3
 clear hl hx hs hr hc
 go_enter Tryz.func152, Tryz.ntmps152
 go_wp2_with fail
 refine (C1.out _).mono ?_
 rintro e w1 ⟨rfl, hb1⟩
 have hbw1 : Below w.heap.size w w1 := ((Below.refl _ _).alloc (Nat.le_refl _) _).trans (hb1.mono (by simp))
 have q0 := hb1.cell (p := ⟨w.heap.size, 0, none⟩) (by simp)
 have q1 := hb1.cell (p := ⟨w.heap.size, 1, none⟩) (by simp)
 have q2 := hb1.cell (p := ⟨w.heap.size, 2, none⟩) (by simp)
 have q3 := hb1.cell (p := ⟨w.heap.size, 3, none⟩) (by simp)
 simp at q0 q1 q2 q3
 have qg : w1.cell? ⟨gl, 0, none⟩ = _ := (hbw1.cell (lt_of_cell hg)).trans hg
 clear hb1 hg p0 p1 p2 p3 C1
 go_wp2_with fail
 refine (C2.out _).mono ?_
 rintro e w2 ⟨rfl, hb2⟩
 obtain ⟨hbw2, r0, r1, r2, r3, rg⟩ := keepV ⟨hbw1, q0, q1, q2, q3, qg⟩ hb2
 clear hb2 hbw1 q0 q1 q2 q3 qg C2
 go_wp2_with fail
 refine (C3.out _).mono ?_
 rintro e w' ⟨rfl, rfl⟩
 clear C3
 go_upto_region 6 with fail
 have haf := add_fit k (by omega)
 refine wp_region_noPanic ?_
 refine wp_region_held_drew (S := fun W => Below w.heap.size w W ∧ W.cell? ⟨w.heap.size, 0, none⟩ = some (.int .i64 4) ∧ W.cell? ⟨w.heap.size, 1, none⟩ = some (.int .i64 4) ∧ W.cell? ⟨w.heap.size, 2, none⟩ = some (.int .i64 b) ∧ W.cell? ⟨w.heap.size, 3, none⟩ = some (.int .i64 6) ∧ W.cell? ⟨gl, 0, none⟩ = some (.slice (some ⟨g, off, none⟩) l.length cap)) (by kernel_rfl) ⟨hbw2.drew, r0, r1, r2, r3, rg⟩ (fun hHeld => ?_)
 refine wpAnyH_take (i := 0) (oi := { dst := some 25, op := Op.load 121 (Operand.tmp 4), type := 121, pos := "safe.go:20", after := #[], guard := none }) (v := .agg #[.int .i64 4, .int .i64 4, .int .i64 b, .int .i64 6]) rfl (by kernel_rfl) (by kernel_rfl) (by kernel_rfl) (fun _ _ _ h => h) (Or.inl ⟨by kernel_rfl, fun w hSw => by ((try dsimp only at hSw); go_simp)⟩) hHeld ?_
 (try simp only [Act.put, List.setIfInBounds_toArray, List.set_cons_zero, List.set_cons_succ])
 refine wpAnyH_ready (rs := [1]) (by kernel_rfl) (by simp) ?_
 refine AllReadyH.cons (o := { dst := some 26, op := Op.call { callee := Callee.value (Operand.func 102), args := #[], argTypes := #[] }, type := 121, pos := "safe.go:20", after := #[], guard := none }) rfl (fun K hK => ?_) AllReadyH.nil
 go_simp
 go_at_call 102; refine (prebase_any _).mono ?_; rintro e w' ⟨rfl, hb'⟩
 go_wp2_with fail
 refine hK.out _ _ (keepV hHeld hb') (fun hHeld => ?_)
 clear hK K hb'
 (try simp only [Act.put, List.setIfInBounds_toArray, List.set_cons_zero, List.set_cons_succ])
 refine wpAnyH_take (i := 2) (oi := { dst := some 27, op := Op.binOp BinOp.eql 121 (Operand.tmp 25) (Operand.tmp 26) 121, type := 4, pos := "safe.go:20", after := #[{ on := 0, ground := Ground.data }, { on := 1, ground := Ground.data }], guard := none }) (v := .bool false) rfl (by kernel_rfl) (by kernel_rfl) (by kernel_rfl) (fun _ _ _ h => h) (Or.inl ⟨by kernel_rfl, fun w hSw => by ((try dsimp only at hSw); go_simp)⟩) hHeld ?_
 (try simp only [Act.put, List.setIfInBounds_toArray, List.set_cons_zero, List.set_cons_succ])
 refine wpAnyH_take (i := 3) (oi := { dst := some 28, op := Op.move (Operand.tmp 27), type := 4, pos := "safe.go:20", after := #[{ on := 2, ground := Ground.data }, { on := 1, ground := Ground.chain }], guard := none }) (v := .bool false) rfl (by kernel_rfl) (by kernel_rfl) (by kernel_rfl) (fun _ _ _ h => h) (Or.inl ⟨by kernel_rfl, fun w hSw => by ((try dsimp only at hSw); go_simp)⟩) hHeld ?_
 (try simp only [Act.put, List.setIfInBounds_toArray, List.set_cons_zero, List.set_cons_succ])
 refine wpAnyH_take (i := 4) (oi := { dst := some 29, op := Op.load 121 (Operand.tmp 4), type := 121, pos := "safe.go:20", after := #[{ on := 3, ground := Ground.guard }], guard := some (3, false) }) (v := .agg #[.int .i64 4, .int .i64 4, .int .i64 b, .int .i64 6]) rfl (by kernel_rfl) (by kernel_rfl) (by kernel_rfl) (fun _ _ _ h => h) (Or.inl ⟨by kernel_rfl, fun w hSw => by ((try dsimp only at hSw); go_simp)⟩) hHeld ?_
 (try simp only [Act.put, List.setIfInBounds_toArray, List.set_cons_zero, List.set_cons_succ])
 refine wpAnyH_take (i := 5) (oi := { dst := some 30, op := Op.fieldAddr 121 (Operand.tmp 4) 2, type := 0, pos := "safe.go:20", after := #[{ on := 3, ground := Ground.guard }], guard := some (3, false) }) (v := .pointer (some ⟨w.heap.size, 2, none⟩)) rfl (by kernel_rfl) (by kernel_rfl) (by kernel_rfl) (fun _ _ _ h => h) (Or.inl ⟨by kernel_rfl, fun w hSw => by ((try dsimp only at hSw); go_simp)⟩) hHeld ?_
 (try simp only [Act.put, List.setIfInBounds_toArray, List.set_cons_zero, List.set_cons_succ])
 refine wpAnyH_take (i := 6) (oi := { dst := some 31, op := Op.load 3 (Operand.tmp 30), type := 3, pos := "safe.go:20", after := #[{ on := 5, ground := Ground.data }, { on := 3, ground := Ground.guard }], guard := some (3, false) }) (v := .int .i64 b) rfl (by kernel_rfl) (by kernel_rfl) (by kernel_rfl) (fun _ _ _ h => h) (Or.inl ⟨by kernel_rfl, fun w hSw => by ((try dsimp only at hSw); go_simp)⟩) hHeld ?_
 (try simp only [Act.put, List.setIfInBounds_toArray, List.set_cons_zero, List.set_cons_succ])
 refine wpAnyH_ready (rs := [7]) (by kernel_rfl) (by simp) ?_
 refine AllReadyH.cons (o := { dst := some 32, op := Op.call { callee := Callee.value (Operand.func 101), args := #[Operand.tmp 31], argTypes := #[3] }, type := 121, pos := "safe.go:20", after := #[{ on := 6, ground := Ground.data }, { on := 3, ground := Ground.chain }, { on := 3, ground := Ground.guard }], guard := some (3, false) }) rfl (fun K hK => ?_) AllReadyH.nil
 go_simp
 go_at_call 101; refine (pmask_any _ _).mono ?_; rintro e w' ⟨rfl, hb'⟩
 go_wp2_with fail
 refine hK.out _ _ (keepV hHeld hb') (fun hHeld => ?_)
 clear hK K hb'
 (try simp only [Act.put, List.setIfInBounds_toArray, List.set_cons_zero, List.set_cons_succ])
 refine wpAnyH_take (i := 8) (oi := { dst := some 33, op := Op.binOp BinOp.eql 121 (Operand.tmp 29) (Operand.tmp 32) 121, type := 4, pos := "safe.go:20", after := #[{ on := 4, ground := Ground.data }, { on := 7, ground := Ground.data }, { on := 3, ground := Ground.guard }], guard := some (3, false) }) (v := .bool true) rfl (by kernel_rfl) (by kernel_rfl) (by kernel_rfl) (fun _ _ _ h => h) (Or.inl ⟨by kernel_rfl, fun w hSw => by ((try dsimp only at hSw); go_simp)⟩) hHeld ?_
 (try simp only [Act.put, List.setIfInBounds_toArray, List.set_cons_zero, List.set_cons_succ])
 refine wpAnyH_take (i := 9) (oi := { dst := some 34, op := Op.move (Operand.tmp 33), type := 4, pos := "safe.go:20", after := #[{ on := 8, ground := Ground.data }, { on := 7, ground := Ground.chain }, { on := 3, ground := Ground.guard }], guard := some (3, false) }) (v := .bool true) rfl (by kernel_rfl) (by kernel_rfl) (by kernel_rfl) (fun _ _ _ h => h) (Or.inl ⟨by kernel_rfl, fun w hSw => by ((try dsimp only at hSw); go_simp)⟩) hHeld ?_
 (try simp only [Act.put, List.setIfInBounds_toArray, List.set_cons_zero, List.set_cons_succ])
 refine wpAnyH_take (i := 10) (oi := { dst := some 35, op := Op.move (Operand.tmp 0), type := 3, pos := "safe.go:20", after := #[{ on := 9, ground := Ground.guard }], guard := some (9, true) }) (v := .int .i64 k) rfl (by kernel_rfl) (by kernel_rfl) (by kernel_rfl) (fun _ _ _ h => h) (Or.inl ⟨by kernel_rfl, fun w hSw => by ((try dsimp only at hSw); go_simp)⟩) hHeld ?_
 (try simp only [Act.put, List.setIfInBounds_toArray, List.set_cons_zero, List.set_cons_succ])
 refine wpAnyH_take (i := 11) (oi := { dst := some 36, op := Op.binOp BinOp.add 3 (Operand.tmp 35) (Operand.const (Value.int IntKind.i64 1)) 3, type := 3, pos := "safe.go:20", after := #[{ on := 10, ground := Ground.data }, { on := 9, ground := Ground.guard }], guard := some (9, true) }) (v := .int .i64 (k + 1)) rfl (by kernel_rfl) (by kernel_rfl) (by kernel_rfl) (fun _ _ _ h => h) (Or.inl ⟨by kernel_rfl, fun w hSw => by ((try dsimp only at hSw); go_simp)⟩) hHeld ?_
 (try simp only [Act.put, List.setIfInBounds_toArray, List.set_cons_zero, List.set_cons_succ])
 refine wpAnyH_take (i := 12) (oi := { dst := some 37, op := Op.load 77 (Operand.tmp 1), type := 77, pos := "safe.go:20", after := #[{ on := 9, ground := Ground.guard }], guard := some (9, true) }) (v := .slice (some ⟨g, off, none⟩) l.length cap) rfl (by kernel_rfl) (by kernel_rfl) (by kernel_rfl) (fun _ _ _ h => h) (Or.inl ⟨by kernel_rfl, fun w hSw => by ((try dsimp only at hSw); go_simp)⟩) hHeld ?_
 (try simp only [Act.put, List.setIfInBounds_toArray, List.set_cons_zero, List.set_cons_succ])
 refine wpAnyH_take (i := 13) (oi := { dst := some 38, op := Op.call { callee := Callee.builtin Builtin.len, args := #[Operand.tmp 37], argTypes := #[77] }, type := 3, pos := "safe.go:20", after := #[{ on := 12, ground := Ground.data }, { on := 9, ground := Ground.guard }], guard := some (9, true) }) (v := .int .i64 l.length) rfl (by kernel_rfl) (by kernel_rfl) (by kernel_rfl) (fun _ _ _ h => h) (Or.inl ⟨by kernel_rfl, fun w hSw => by ((try dsimp only at hSw); go_simp)⟩) hHeld ?_
 (try simp only [Act.put, List.setIfInBounds_toArray, List.set_cons_zero, List.set_cons_succ])
 refine wpAnyH_take (i := 14) (oi := { dst := some 39, op := Op.binOp BinOp.lss 3 (Operand.tmp 36) (Operand.tmp 38) 3, type := 4, pos := "safe.go:20", after := #[{ on := 11, ground := Ground.data }, { on := 13, ground := Ground.data }, { on := 9, ground := Ground.guard }], guard := some (9, true) }) (v := .bool false) rfl (by kernel_rfl) (by kernel_rfl) (by kernel_rfl) (fun _ _ _ h => h) (Or.inl ⟨by kernel_rfl, fun w hSw => by ((try dsimp only at hSw); go_simp)⟩) hHeld ?_
 (try simp only [Act.put, List.setIfInBounds_toArray, List.set_cons_zero, List.set_cons_succ])
 refine wpAnyH_take (i := 15) (oi := { dst := some 40, op := Op.pick (Operand.tmp 34) (Operand.tmp 39) (Operand.const (Value.bool false)), type := 4, pos := "safe.go:20", after := #[{ on := 9, ground := Ground.data }, { on := 14, ground := Ground.data }, { on := 3, ground := Ground.guard }], guard := some (3, false) }) (v := .bool false) rfl (by kernel_rfl) (by kernel_rfl) (by kernel_rfl) (fun _ _ _ h => h) (Or.inl ⟨by kernel_rfl, fun w hSw => by ((try dsimp only at hSw); go_simp)⟩) hHeld ?_
 (try simp only [Act.put, List.setIfInBounds_toArray, List.set_cons_zero, List.set_cons_succ])
 refine wpAnyH_take (i := 16) (oi := { dst := some 41, op := Op.move (Operand.tmp 40), type := 4, pos := "safe.go:20", after := #[{ on := 15, ground := Ground.data }, { on := 9, ground := Ground.chain }, { on := 3, ground := Ground.guard }], guard := some (3, false) }) (v := .bool false) rfl (by kernel_rfl) (by kernel_rfl) (by kernel_rfl) (fun _ _ _ h => h) (Or.inl ⟨by kernel_rfl, fun w hSw => by ((try dsimp only at hSw); go_simp)⟩) hHeld ?_
 (try simp only [Act.put, List.setIfInBounds_toArray, List.set_cons_zero, List.set_cons_succ])
 refine wpAnyH_take (i := 17) (oi := { dst := some 42, op := Op.load 77 (Operand.tmp 1), type := 77, pos := "safe.go:20", after := #[{ on := 16, ground := Ground.guard }], guard := some (16, true) }) (v := undef) rfl (by kernel_rfl) (by kernel_rfl) (by kernel_rfl) (fun _ _ _ h => h) (Or.inr ⟨by kernel_rfl, rfl⟩) hHeld ?_
 (try simp only [Act.put, List.setIfInBounds_toArray, List.set_cons_zero, List.set_cons_succ])
 refine wpAnyH_take (i := 18) (oi := { dst := some 43, op := Op.move (Operand.tmp 0), type := 3, pos := "safe.go:20", after := #[{ on := 16, ground := Ground.guard }], guard := some (16, true) }) (v := undef) rfl (by kernel_rfl) (by kernel_rfl) (by kernel_rfl) (fun _ _ _ h => h) (Or.inr ⟨by kernel_rfl, rfl⟩) hHeld ?_
 (try simp only [Act.put, List.setIfInBounds_toArray, List.set_cons_zero, List.set_cons_succ])
 refine wpAnyH_take (i := 19) (oi := { dst := some 44, op := Op.binOp BinOp.add 3 (Operand.tmp 43) (Operand.const (Value.int IntKind.i64 1)) 3, type := 3, pos := "safe.go:20", after := #[{ on := 18, ground := Ground.data }, { on := 16, ground := Ground.guard }], guard := some (16, true) }) (v := undef) rfl (by kernel_rfl) (by kernel_rfl) (by kernel_rfl) (fun _ _ _ h => h) (Or.inr ⟨by kernel_rfl, rfl⟩) hHeld ?_
 (try simp only [Act.put, List.setIfInBounds_toArray, List.set_cons_zero, List.set_cons_succ])
 refine wpAnyH_take (i := 20) (oi := { dst := some 45, op := Op.indexAddr 77 (Operand.tmp 42) (Operand.tmp 44), type := 0, pos := "safe.go:20", after := #[{ on := 17, ground := Ground.data }, { on := 19, ground := Ground.data }, { on := 16, ground := Ground.guard }], guard := some (16, true) }) (v := undef) rfl (by kernel_rfl) (by kernel_rfl) (by kernel_rfl) (fun _ _ _ h => h) (Or.inr ⟨by kernel_rfl, rfl⟩) hHeld ?_
 (try simp only [Act.put, List.setIfInBounds_toArray, List.set_cons_zero, List.set_cons_succ])
 refine wpAnyH_take (i := 21) (oi := { dst := some 46, op := Op.load 121 (Operand.tmp 45), type := 121, pos := "safe.go:20", after := #[{ on := 20, ground := Ground.data }, { on := 16, ground := Ground.guard }], guard := some (16, true) }) (v := undef) rfl (by kernel_rfl) (by kernel_rfl) (by kernel_rfl) (fun _ _ _ h => h) (Or.inr ⟨by kernel_rfl, rfl⟩) hHeld ?_
 (try simp only [Act.put, List.setIfInBounds_toArray, List.set_cons_zero, List.set_cons_succ])
 refine wpAnyH_take (i := 22) (oi := { dst := some 47, op := Op.call { callee := Callee.value (Operand.func 102), args := #[], argTypes := #[] }, type := 121, pos := "safe.go:20", after := #[{ on := 16, ground := Ground.chain }, { on := 16, ground := Ground.guard }], guard := some (16, true) }) (v := undef) rfl (by kernel_rfl) (by kernel_rfl) (by kernel_rfl) (fun _ _ _ h => h) (Or.inr ⟨by kernel_rfl, rfl⟩) hHeld ?_
 (try simp only [Act.put, List.setIfInBounds_toArray, List.set_cons_zero, List.set_cons_succ])
 refine wpAnyH_take (i := 23) (oi := { dst := some 48, op := Op.binOp BinOp.eql 121 (Operand.tmp 46) (Operand.tmp 47) 121, type := 4, pos := "safe.go:20", after := #[{ on := 21, ground := Ground.data }, { on := 22, ground := Ground.data }, { on := 16, ground := Ground.guard }], guard := some (16, true) }) (v := undef) rfl (by kernel_rfl) (by kernel_rfl) (by kernel_rfl) (fun _ _ _ h => h) (Or.inr ⟨by kernel_rfl, rfl⟩) hHeld ?_
 (try simp only [Act.put, List.setIfInBounds_toArray, List.set_cons_zero, List.set_cons_succ])
 refine wpAnyH_take (i := 24) (oi := { dst := some 49, op := Op.pick (Operand.tmp 41) (Operand.tmp 48) (Operand.const (Value.bool false)), type := 4, pos := "safe.go:20", after := #[{ on := 16, ground := Ground.data }, { on := 23, ground := Ground.data }, { on := 3, ground := Ground.guard }], guard := some (3, false) }) (v := .bool false) rfl (by kernel_rfl) (by kernel_rfl) (by kernel_rfl) (fun _ _ _ h => h) (Or.inl ⟨by kernel_rfl, fun w hSw => by ((try dsimp only at hSw); go_simp)⟩) hHeld ?_
 (try simp only [Act.put, List.setIfInBounds_toArray, List.set_cons_zero, List.set_cons_succ])
 refine wpAnyH_take (i := 25) (oi := { dst := some 50, op := Op.pick (Operand.tmp 28) (Operand.const (Value.bool true)) (Operand.tmp 49), type := 4, pos := "safe.go:20", after := #[{ on := 3, ground := Ground.data }, { on := 24, ground := Ground.data }], guard := none }) (v := .bool false) rfl (by kernel_rfl) (by kernel_rfl) (by kernel_rfl) (fun _ _ _ h => h) (Or.inl ⟨by kernel_rfl, fun w hSw => by ((try dsimp only at hSw); go_simp)⟩) hHeld ?_
 (try simp only [Act.put, List.setIfInBounds_toArray, List.set_cons_zero, List.set_cons_succ])
 refine wpAnyH_take (i := 26) (oi := { dst := some 3, op := Op.assign (Operand.tmp 50), type := 4, pos := "safe.go:20", after := #[{ on := 25, ground := Ground.data }, { on := 22, ground := Ground.chain }, { on := 0, ground := Ground.phase }, { on := 1, ground := Ground.phase }, { on := 2, ground := Ground.phase }, { on := 3, ground := Ground.phase }, { on := 4, ground := Ground.phase }, { on := 5, ground := Ground.phase }, { on := 6, ground := Ground.phase }, { on := 7, ground := Ground.phase }, { on := 8, ground := Ground.phase }, { on := 9, ground := Ground.phase }, { on := 10, ground := Ground.phase }, { on := 11, ground := Ground.phase }, { on := 12, ground := Ground.phase }, { on := 13, ground := Ground.phase }, { on := 14, ground := Ground.phase }, { on := 15, ground := Ground.phase }, { on := 16, ground := Ground.phase }, { on := 17, ground := Ground.phase }, { on := 18, ground := Ground.phase }, { on := 19, ground := Ground.phase }, { on := 20, ground := Ground.phase }, { on := 21, ground := Ground.phase }, { on := 22, ground := Ground.phase }, { on := 23, ground := Ground.phase }, { on := 24, ground := Ground.phase }, { on := 25, ground := Ground.phase }], guard := none }) (v := .bool false) rfl (by kernel_rfl) (by kernel_rfl) (by kernel_rfl) (fun _ _ _ h => h) (Or.inl ⟨by kernel_rfl, fun w hSw => by ((try dsimp only at hSw); go_simp)⟩) hHeld ?_
 (try simp only [Act.put, List.setIfInBounds_toArray, List.set_cons_zero, List.set_cons_succ])
 refine wpAnyH_done (by kernel_rfl) ?_ _
 refine NoPanic.normal ?_
 obtain ⟨hend, _⟩ := hHeld
 go_wp2
 go_ret
 exact ⟨by rw [HT.out]; rfl, hend⟩
set_option maxRecDepth 100000 in
set_option maxHeartbeats 2000000 in
theorem trust_w5 (l : List Cf.Ins) (A : Option Addr) (cap k gl : Nat) (b : Int) (w : World) (hR : Codes w A l) (hm : l.length ≤ maxLen) (hx : l[k]? = some ⟨4, 4, b, 6⟩) (hg : w.cell? ⟨gl, 0, none⟩ = some (.slice A l.length cap)) (op2 a2 b2 c2 : Int) (hx2 : l[k + 1]? = some ⟨op2, a2, b2, c2⟩) (n3 : ¬ (op2 = 5 ∧ a2 = 4 ∧ b2 = 4 ∧ c2 = 5)) :
  Calls Tryz.prog 152 #[.int .i64 k, .pointer (some ⟨gl, 0, none⟩)] w fun e w' => e = .returned (.bool (Cf.trustB l k ⟨4, 4, b, 6⟩)) ∧ Below w.heap.size w w' := by
 have hmx : l.length ≤ 2 ^ 63 - 1 := hm
 clear hm
 have hk : k < l.length := (List.getElem?_eq_some_iff.1 hx).1
 obtain ⟨g, off, rfl, hgl, hc⟩ := hR.at_ (by intro e; rw [e] at hk; simp at hk)
 obtain ⟨p0, p1, p2, p3⟩ := hc k 4 4 b 6 hx
 have HT := Lib.hid (show Cf.trustB l k ⟨4, 4, b, 6⟩ = false by rw [trust_mask, Cf.nextB, hx2]; simp [Cf.orBaseB]; exact fun e1 e2 e3 e4 => n3 ⟨e1, e2, e3, e4⟩)
 have hk1 : k + 1 < l.length := (List.getElem?_eq_some_iff.1 hx2).1
 have hk2 : (k : Int) + 1 < l.length := by omega
 have N3 := Lib.hid n3
 have Hx2 := Lib.hid hx2
 have Hc := Lib.hid hc
 have hl : Cf.ldst ⟨4, 4, b, 6⟩ = false := rfl
 have hs : Cf.inB 4 1 8 = true := rfl
 have hr : Cf.inB 4 4 6 = true := rfl
 have C1 := Lib.hid (fun w => paccesses_any 4 4 b 6 w)
 rw [hl] at C1
 have C2 := Lib.hid (fun w => psets_any 4 4 b 6 w)
 rw [hs] at C2
 have C3 := Lib.hid (fun w => preserved_any 4 w)
 rw [hr] at C3
 clear hl hx hs hr hc n3 hx2
 go_enter Tryz.func152, Tryz.ntmps152
 go_wp2_with fail
 refine (C1.out _).mono ?_
 rintro e w1 ⟨rfl, hb1⟩
 have hbw1 : Below w.heap.size w w1 := ((Below.refl _ _).alloc (Nat.le_refl _) _).trans (hb1.mono (by simp))
 have q0 := hb1.cell (p := ⟨w.heap.size, 0, none⟩) (by simp)
 have q1 := hb1.cell (p := ⟨w.heap.size, 1, none⟩) (by simp)
 have q2 := hb1.cell (p := ⟨w.heap.size, 2, none⟩) (by simp)
 have q3 := hb1.cell (p := ⟨w.heap.size, 3, none⟩) (by simp)
 simp at q0 q1 q2 q3
 have qg : w1.cell? ⟨gl, 0, none⟩ = _ := (hbw1.cell (lt_of_cell hg)).trans hg
 clear hb1 hg p0 p1 p2 p3 C1
 go_wp2_with fail
 refine (C2.out _).mono ?_
 rintro e w2 ⟨rfl, hb2⟩
 obtain ⟨hbw2, r0, r1, r2, r3, rg⟩ := keepV ⟨hbw1, q0, q1, q2, q3, qg⟩ hb2
 clear hb2 hbw1 q0 q1 q2 q3 qg C2
 go_wp2_with fail
 refine (C3.out _).mono ?_
 rintro e w' ⟨rfl, rfl⟩
 clear C3
 obtain ⟨n0, n1, n2, n3⟩ := Hc.out (k + 1) op2 a2 b2 c2 Hx2.out
 have m0 := (hbw2.cell hgl).trans n0
 have m1 := (hbw2.cell hgl).trans n1
 have m2 := (hbw2.cell hgl).trans n2
 have m3 := (hbw2.cell hgl).trans n3
 clear n0 n1 n2 n3
 go_upto_region 6 with fail
 have haf := add_fit k (by omega)
 have hk0 : ¬ (k : Int) + 1 < 0 := by omega
 refine wp_region_noPanic ?_
 refine wp_region_held_drew (S := fun W => Below w.heap.size w W ∧ W.cell? ⟨w.heap.size, 0, none⟩ = some (.int .i64 4) ∧ W.cell? ⟨w.heap.size, 1, none⟩ = some (.int .i64 4) ∧ W.cell? ⟨w.heap.size, 2, none⟩ = some (.int .i64 b) ∧ W.cell? ⟨w.heap.size, 3, none⟩ = some (.int .i64 6) ∧ W.cell? ⟨gl, 0, none⟩ = some (.slice (some ⟨g, off, none⟩) l.length cap) ∧ W.cell? ⟨g, off + (k + 1) * 4, none⟩ = some (.int .i64 op2) ∧ W.cell? ⟨g, off + (k + 1) * 4 + 1, none⟩ = some (.int .i64 a2) ∧ W.cell? ⟨g, off + (k + 1) * 4 + 2, none⟩ = some (.int .i64 b2) ∧ W.cell? ⟨g, off + (k + 1) * 4 + 3, none⟩ = some (.int .i64 c2)) (by kernel_rfl) ⟨hbw2.drew, r0, r1, r2, r3, rg, m0, m1, m2, m3⟩ (fun hHeld => ?_)
 refine wpAnyH_take (i := 0) (oi := { dst := some 25, op := Op.load 121 (Operand.tmp 4), type := 121, pos := "safe.go:20", after := #[], guard := none }) (v := .agg #[.int .i64 4, .int .i64 4, .int .i64 b, .int .i64 6]) rfl (by kernel_rfl) (by kernel_rfl) (by kernel_rfl) (fun _ _ _ h => h) (Or.inl ⟨by kernel_rfl, fun w hSw => by ((try dsimp only at hSw); go_simp)⟩) hHeld ?_
 (try simp only [Act.put, List.setIfInBounds_toArray, List.set_cons_zero, List.set_cons_succ])
 refine wpAnyH_ready (rs := [1]) (by kernel_rfl) (by simp) ?_
 refine AllReadyH.cons (o := { dst := some 26, op := Op.call { callee := Callee.value (Operand.func 102), args := #[], argTypes := #[] }, type := 121, pos := "safe.go:20", after := #[], guard := none }) rfl (fun K hK => ?_) AllReadyH.nil
 go_simp
 go_at_call 102; refine (prebase_any _).mono ?_; rintro e w' ⟨rfl, hb'⟩
 go_wp2_with fail
 refine hK.out _ _ (keepN hHeld hb') (fun hHeld => ?_)
 clear hK K hb'
 (try simp only [Act.put, List.setIfInBounds_toArray, List.set_cons_zero, List.set_cons_succ])
 refine wpAnyH_take (i := 2) (oi := { dst := some 27, op := Op.binOp BinOp.eql 121 (Operand.tmp 25) (Operand.tmp 26) 121, type := 4, pos := "safe.go:20", after := #[{ on := 0, ground := Ground.data }, { on := 1, ground := Ground.data }], guard := none }) (v := .bool false) rfl (by kernel_rfl) (by kernel_rfl) (by kernel_rfl) (fun _ _ _ h => h) (Or.inl ⟨by kernel_rfl, fun w hSw => by ((try dsimp only at hSw); go_simp)⟩) hHeld ?_
 (try simp only [Act.put, List.setIfInBounds_toArray, List.set_cons_zero, List.set_cons_succ])
 refine wpAnyH_take (i := 3) (oi := { dst := some 28, op := Op.move (Operand.tmp 27), type := 4, pos := "safe.go:20", after := #[{ on := 2, ground := Ground.data }, { on := 1, ground := Ground.chain }], guard := none }) (v := .bool false) rfl (by kernel_rfl) (by kernel_rfl) (by kernel_rfl) (fun _ _ _ h => h) (Or.inl ⟨by kernel_rfl, fun w hSw => by ((try dsimp only at hSw); go_simp)⟩) hHeld ?_
 (try simp only [Act.put, List.setIfInBounds_toArray, List.set_cons_zero, List.set_cons_succ])
 refine wpAnyH_take (i := 4) (oi := { dst := some 29, op := Op.load 121 (Operand.tmp 4), type := 121, pos := "safe.go:20", after := #[{ on := 3, ground := Ground.guard }], guard := some (3, false) }) (v := .agg #[.int .i64 4, .int .i64 4, .int .i64 b, .int .i64 6]) rfl (by kernel_rfl) (by kernel_rfl) (by kernel_rfl) (fun _ _ _ h => h) (Or.inl ⟨by kernel_rfl, fun w hSw => by ((try dsimp only at hSw); go_simp)⟩) hHeld ?_
 (try simp only [Act.put, List.setIfInBounds_toArray, List.set_cons_zero, List.set_cons_succ])
 refine wpAnyH_take (i := 5) (oi := { dst := some 30, op := Op.fieldAddr 121 (Operand.tmp 4) 2, type := 0, pos := "safe.go:20", after := #[{ on := 3, ground := Ground.guard }], guard := some (3, false) }) (v := .pointer (some ⟨w.heap.size, 2, none⟩)) rfl (by kernel_rfl) (by kernel_rfl) (by kernel_rfl) (fun _ _ _ h => h) (Or.inl ⟨by kernel_rfl, fun w hSw => by ((try dsimp only at hSw); go_simp)⟩) hHeld ?_
 (try simp only [Act.put, List.setIfInBounds_toArray, List.set_cons_zero, List.set_cons_succ])
 refine wpAnyH_take (i := 6) (oi := { dst := some 31, op := Op.load 3 (Operand.tmp 30), type := 3, pos := "safe.go:20", after := #[{ on := 5, ground := Ground.data }, { on := 3, ground := Ground.guard }], guard := some (3, false) }) (v := .int .i64 b) rfl (by kernel_rfl) (by kernel_rfl) (by kernel_rfl) (fun _ _ _ h => h) (Or.inl ⟨by kernel_rfl, fun w hSw => by ((try dsimp only at hSw); go_simp)⟩) hHeld ?_
 (try simp only [Act.put, List.setIfInBounds_toArray, List.set_cons_zero, List.set_cons_succ])
 refine wpAnyH_ready (rs := [7]) (by kernel_rfl) (by simp) ?_
 refine AllReadyH.cons (o := { dst := some 32, op := Op.call { callee := Callee.value (Operand.func 101), args := #[Operand.tmp 31], argTypes := #[3] }, type := 121, pos := "safe.go:20", after := #[{ on := 6, ground := Ground.data }, { on := 3, ground := Ground.chain }, { on := 3, ground := Ground.guard }], guard := some (3, false) }) rfl (fun K hK => ?_) AllReadyH.nil
 go_simp
 go_at_call 101; refine (pmask_any _ _).mono ?_; rintro e w' ⟨rfl, hb'⟩
 go_wp2_with fail
 refine hK.out _ _ (keepN hHeld hb') (fun hHeld => ?_)
 clear hK K hb'
 (try simp only [Act.put, List.setIfInBounds_toArray, List.set_cons_zero, List.set_cons_succ])
 refine wpAnyH_take (i := 8) (oi := { dst := some 33, op := Op.binOp BinOp.eql 121 (Operand.tmp 29) (Operand.tmp 32) 121, type := 4, pos := "safe.go:20", after := #[{ on := 4, ground := Ground.data }, { on := 7, ground := Ground.data }, { on := 3, ground := Ground.guard }], guard := some (3, false) }) (v := .bool true) rfl (by kernel_rfl) (by kernel_rfl) (by kernel_rfl) (fun _ _ _ h => h) (Or.inl ⟨by kernel_rfl, fun w hSw => by ((try dsimp only at hSw); go_simp)⟩) hHeld ?_
 (try simp only [Act.put, List.setIfInBounds_toArray, List.set_cons_zero, List.set_cons_succ])
 refine wpAnyH_take (i := 9) (oi := { dst := some 34, op := Op.move (Operand.tmp 33), type := 4, pos := "safe.go:20", after := #[{ on := 8, ground := Ground.data }, { on := 7, ground := Ground.chain }, { on := 3, ground := Ground.guard }], guard := some (3, false) }) (v := .bool true) rfl (by kernel_rfl) (by kernel_rfl) (by kernel_rfl) (fun _ _ _ h => h) (Or.inl ⟨by kernel_rfl, fun w hSw => by ((try dsimp only at hSw); go_simp)⟩) hHeld ?_
 (try simp only [Act.put, List.setIfInBounds_toArray, List.set_cons_zero, List.set_cons_succ])
 refine wpAnyH_take (i := 10) (oi := { dst := some 35, op := Op.move (Operand.tmp 0), type := 3, pos := "safe.go:20", after := #[{ on := 9, ground := Ground.guard }], guard := some (9, true) }) (v := .int .i64 k) rfl (by kernel_rfl) (by kernel_rfl) (by kernel_rfl) (fun _ _ _ h => h) (Or.inl ⟨by kernel_rfl, fun w hSw => by ((try dsimp only at hSw); go_simp)⟩) hHeld ?_
 (try simp only [Act.put, List.setIfInBounds_toArray, List.set_cons_zero, List.set_cons_succ])
 refine wpAnyH_take (i := 11) (oi := { dst := some 36, op := Op.binOp BinOp.add 3 (Operand.tmp 35) (Operand.const (Value.int IntKind.i64 1)) 3, type := 3, pos := "safe.go:20", after := #[{ on := 10, ground := Ground.data }, { on := 9, ground := Ground.guard }], guard := some (9, true) }) (v := .int .i64 (k + 1)) rfl (by kernel_rfl) (by kernel_rfl) (by kernel_rfl) (fun _ _ _ h => h) (Or.inl ⟨by kernel_rfl, fun w hSw => by ((try dsimp only at hSw); go_simp)⟩) hHeld ?_
 (try simp only [Act.put, List.setIfInBounds_toArray, List.set_cons_zero, List.set_cons_succ])
 refine wpAnyH_take (i := 12) (oi := { dst := some 37, op := Op.load 77 (Operand.tmp 1), type := 77, pos := "safe.go:20", after := #[{ on := 9, ground := Ground.guard }], guard := some (9, true) }) (v := .slice (some ⟨g, off, none⟩) l.length cap) rfl (by kernel_rfl) (by kernel_rfl) (by kernel_rfl) (fun _ _ _ h => h) (Or.inl ⟨by kernel_rfl, fun w hSw => by ((try dsimp only at hSw); go_simp)⟩) hHeld ?_
 (try simp only [Act.put, List.setIfInBounds_toArray, List.set_cons_zero, List.set_cons_succ])
 refine wpAnyH_take (i := 13) (oi := { dst := some 38, op := Op.call { callee := Callee.builtin Builtin.len, args := #[Operand.tmp 37], argTypes := #[77] }, type := 3, pos := "safe.go:20", after := #[{ on := 12, ground := Ground.data }, { on := 9, ground := Ground.guard }], guard := some (9, true) }) (v := .int .i64 l.length) rfl (by kernel_rfl) (by kernel_rfl) (by kernel_rfl) (fun _ _ _ h => h) (Or.inl ⟨by kernel_rfl, fun w hSw => by ((try dsimp only at hSw); go_simp)⟩) hHeld ?_
 (try simp only [Act.put, List.setIfInBounds_toArray, List.set_cons_zero, List.set_cons_succ])
 refine wpAnyH_take (i := 14) (oi := { dst := some 39, op := Op.binOp BinOp.lss 3 (Operand.tmp 36) (Operand.tmp 38) 3, type := 4, pos := "safe.go:20", after := #[{ on := 11, ground := Ground.data }, { on := 13, ground := Ground.data }, { on := 9, ground := Ground.guard }], guard := some (9, true) }) (v := .bool true) rfl (by kernel_rfl) (by kernel_rfl) (by kernel_rfl) (fun _ _ _ h => h) (Or.inl ⟨by kernel_rfl, fun w hSw => by ((try dsimp only at hSw); go_simp)⟩) hHeld ?_
 (try simp only [Act.put, List.setIfInBounds_toArray, List.set_cons_zero, List.set_cons_succ])
 refine wpAnyH_take (i := 15) (oi := { dst := some 40, op := Op.pick (Operand.tmp 34) (Operand.tmp 39) (Operand.const (Value.bool false)), type := 4, pos := "safe.go:20", after := #[{ on := 9, ground := Ground.data }, { on := 14, ground := Ground.data }, { on := 3, ground := Ground.guard }], guard := some (3, false) }) (v := .bool true) rfl (by kernel_rfl) (by kernel_rfl) (by kernel_rfl) (fun _ _ _ h => h) (Or.inl ⟨by kernel_rfl, fun w hSw => by ((try dsimp only at hSw); go_simp)⟩) hHeld ?_
 (try simp only [Act.put, List.setIfInBounds_toArray, List.set_cons_zero, List.set_cons_succ])
 refine wpAnyH_take (i := 16) (oi := { dst := some 41, op := Op.move (Operand.tmp 40), type := 4, pos := "safe.go:20", after := #[{ on := 15, ground := Ground.data }, { on := 9, ground := Ground.chain }, { on := 3, ground := Ground.guard }], guard := some (3, false) }) (v := .bool true) rfl (by kernel_rfl) (by kernel_rfl) (by kernel_rfl) (fun _ _ _ h => h) (Or.inl ⟨by kernel_rfl, fun w hSw => by ((try dsimp only at hSw); go_simp)⟩) hHeld ?_
 (try simp only [Act.put, List.setIfInBounds_toArray, List.set_cons_zero, List.set_cons_succ])
 refine wpAnyH_take (i := 17) (oi := { dst := some 42, op := Op.load 77 (Operand.tmp 1), type := 77, pos := "safe.go:20", after := #[{ on := 16, ground := Ground.guard }], guard := some (16, true) }) (v := .slice (some ⟨g, off, none⟩) l.length cap) rfl (by kernel_rfl) (by kernel_rfl) (by kernel_rfl) (fun _ _ _ h => h) (Or.inl ⟨by kernel_rfl, fun w hSw => by ((try dsimp only at hSw); go_simp)⟩) hHeld ?_
 (try simp only [Act.put, List.setIfInBounds_toArray, List.set_cons_zero, List.set_cons_succ])
 refine wpAnyH_take (i := 18) (oi := { dst := some 43, op := Op.move (Operand.tmp 0), type := 3, pos := "safe.go:20", after := #[{ on := 16, ground := Ground.guard }], guard := some (16, true) }) (v := .int .i64 k) rfl (by kernel_rfl) (by kernel_rfl) (by kernel_rfl) (fun _ _ _ h => h) (Or.inl ⟨by kernel_rfl, fun w hSw => by ((try dsimp only at hSw); go_simp)⟩) hHeld ?_
 (try simp only [Act.put, List.setIfInBounds_toArray, List.set_cons_zero, List.set_cons_succ])
 refine wpAnyH_take (i := 19) (oi := { dst := some 44, op := Op.binOp BinOp.add 3 (Operand.tmp 43) (Operand.const (Value.int IntKind.i64 1)) 3, type := 3, pos := "safe.go:20", after := #[{ on := 18, ground := Ground.data }, { on := 16, ground := Ground.guard }], guard := some (16, true) }) (v := .int .i64 (k + 1)) rfl (by kernel_rfl) (by kernel_rfl) (by kernel_rfl) (fun _ _ _ h => h) (Or.inl ⟨by kernel_rfl, fun w hSw => by ((try dsimp only at hSw); go_simp)⟩) hHeld ?_
 (try simp only [Act.put, List.setIfInBounds_toArray, List.set_cons_zero, List.set_cons_succ])
 refine wpAnyH_take (i := 20) (oi := { dst := some 45, op := Op.indexAddr 77 (Operand.tmp 42) (Operand.tmp 44), type := 0, pos := "safe.go:20", after := #[{ on := 17, ground := Ground.data }, { on := 19, ground := Ground.data }, { on := 16, ground := Ground.guard }], guard := some (16, true) }) (v := .pointer (some ⟨g, off + (k + 1) * 4, none⟩)) rfl (by kernel_rfl) (by kernel_rfl) (by kernel_rfl) (fun _ _ _ h => h) (Or.inl ⟨by kernel_rfl, fun w hSw => by ((try dsimp only at hSw); go_simp)⟩) hHeld ?_
 (try simp only [Act.put, List.setIfInBounds_toArray, List.set_cons_zero, List.set_cons_succ])
 refine wpAnyH_take (i := 21) (oi := { dst := some 46, op := Op.load 121 (Operand.tmp 45), type := 121, pos := "safe.go:20", after := #[{ on := 20, ground := Ground.data }, { on := 16, ground := Ground.guard }], guard := some (16, true) }) (v := .agg #[.int .i64 op2, .int .i64 a2, .int .i64 b2, .int .i64 c2]) rfl (by kernel_rfl) (by kernel_rfl) (by kernel_rfl) (fun _ _ _ h => h) (Or.inl ⟨by kernel_rfl, fun w hSw => by ((try dsimp only at hSw); go_simp)⟩) hHeld ?_
 (try simp only [Act.put, List.setIfInBounds_toArray, List.set_cons_zero, List.set_cons_succ])
 refine wpAnyH_ready (rs := [22]) (by kernel_rfl) (by simp) ?_
 refine AllReadyH.cons (o := { dst := some 47, op := Op.call { callee := Callee.value (Operand.func 102), args := #[], argTypes := #[] }, type := 121, pos := "safe.go:20", after := #[{ on := 16, ground := Ground.chain }, { on := 16, ground := Ground.guard }], guard := some (16, true) }) rfl (fun K hK => ?_) AllReadyH.nil
 go_simp
 go_at_call 102; refine (prebase_any _).mono ?_; rintro e w' ⟨rfl, hb'⟩
 go_wp2_with fail
 refine hK.out _ _ (keepN hHeld hb') (fun hHeld => ?_)
 clear hK K hb'
 (try simp only [Act.put, List.setIfInBounds_toArray, List.set_cons_zero, List.set_cons_succ])
 refine wpAnyH_take (i := 23) (oi := { dst := some 48, op := Op.binOp BinOp.eql 121 (Operand.tmp 46) (Operand.tmp 47) 121, type := 4, pos := "safe.go:20", after := #[{ on := 21, ground := Ground.data }, { on := 22, ground := Ground.data }, { on := 16, ground := Ground.guard }], guard := some (16, true) }) (v := .bool false) rfl (by kernel_rfl) (by kernel_rfl) (by kernel_rfl) (fun _ _ _ h => h) (Or.inl ⟨by kernel_rfl, fun w hSw => by ((try dsimp only at hSw); go_simp; exact fun e1 e2 e3 e4 => N3.out ⟨e1, e2, e3, e4⟩)⟩) hHeld ?_
 (try simp only [Act.put, List.setIfInBounds_toArray, List.set_cons_zero, List.set_cons_succ])
 refine wpAnyH_take (i := 24) (oi := { dst := some 49, op := Op.pick (Operand.tmp 41) (Operand.tmp 48) (Operand.const (Value.bool false)), type := 4, pos := "safe.go:20", after := #[{ on := 16, ground := Ground.data }, { on := 23, ground := Ground.data }, { on := 3, ground := Ground.guard }], guard := some (3, false) }) (v := .bool false) rfl (by kernel_rfl) (by kernel_rfl) (by kernel_rfl) (fun _ _ _ h => h) (Or.inl ⟨by kernel_rfl, fun w hSw => by ((try dsimp only at hSw); go_simp)⟩) hHeld ?_
 (try simp only [Act.put, List.setIfInBounds_toArray, List.set_cons_zero, List.set_cons_succ])
 refine wpAnyH_take (i := 25) (oi := { dst := some 50, op := Op.pick (Operand.tmp 28) (Operand.const (Value.bool true)) (Operand.tmp 49), type := 4, pos := "safe.go:20", after := #[{ on := 3, ground := Ground.data }, { on := 24, ground := Ground.data }], guard := none }) (v := .bool false) rfl (by kernel_rfl) (by kernel_rfl) (by kernel_rfl) (fun _ _ _ h => h) (Or.inl ⟨by kernel_rfl, fun w hSw => by ((try dsimp only at hSw); go_simp)⟩) hHeld ?_
 (try simp only [Act.put, List.setIfInBounds_toArray, List.set_cons_zero, List.set_cons_succ])
 refine wpAnyH_take (i := 26) (oi := { dst := some 3, op := Op.assign (Operand.tmp 50), type := 4, pos := "safe.go:20", after := #[{ on := 25, ground := Ground.data }, { on := 22, ground := Ground.chain }, { on := 0, ground := Ground.phase }, { on := 1, ground := Ground.phase }, { on := 2, ground := Ground.phase }, { on := 3, ground := Ground.phase }, { on := 4, ground := Ground.phase }, { on := 5, ground := Ground.phase }, { on := 6, ground := Ground.phase }, { on := 7, ground := Ground.phase }, { on := 8, ground := Ground.phase }, { on := 9, ground := Ground.phase }, { on := 10, ground := Ground.phase }, { on := 11, ground := Ground.phase }, { on := 12, ground := Ground.phase }, { on := 13, ground := Ground.phase }, { on := 14, ground := Ground.phase }, { on := 15, ground := Ground.phase }, { on := 16, ground := Ground.phase }, { on := 17, ground := Ground.phase }, { on := 18, ground := Ground.phase }, { on := 19, ground := Ground.phase }, { on := 20, ground := Ground.phase }, { on := 21, ground := Ground.phase }, { on := 22, ground := Ground.phase }, { on := 23, ground := Ground.phase }, { on := 24, ground := Ground.phase }, { on := 25, ground := Ground.phase }], guard := none }) (v := .bool false) rfl (by kernel_rfl) (by kernel_rfl) (by kernel_rfl) (fun _ _ _ h => h) (Or.inl ⟨by kernel_rfl, fun w hSw => by ((try dsimp only at hSw); go_simp)⟩) hHeld ?_
 (try simp only [Act.put, List.setIfInBounds_toArray, List.set_cons_zero, List.set_cons_succ])
 refine wpAnyH_done (by kernel_rfl) ?_ _
 refine NoPanic.normal ?_
 obtain ⟨hend, _⟩ := hHeld
 go_wp2
 go_ret
 exact ⟨by rw [HT.out]; rfl, hend⟩
set_option maxRecDepth 100000 in
set_option maxHeartbeats 2000000 in
theorem trust_w6 (l : List Cf.Ins) (A : Option Addr) (cap k gl : Nat) (b : Int) (w : World) (hR : Codes w A l) (hm : l.length ≤ maxLen) (hx : l[k]? = some ⟨4, 4, b, 6⟩) (hg : w.cell? ⟨gl, 0, none⟩ = some (.slice A l.length cap)) (hx2 : l[k + 1]? = some ⟨5, 4, 4, 5⟩) :
  Calls Tryz.prog 152 #[.int .i64 k, .pointer (some ⟨gl, 0, none⟩)] w fun e w' => e = .returned (.bool (Cf.trustB l k ⟨4, 4, b, 6⟩)) ∧ Below w.heap.size w w' := by
 have hmx : l.length ≤ 2 ^ 63 - 1 := hm
 clear hm
 have hk : k < l.length := (List.getElem?_eq_some_iff.1 hx).1
 obtain ⟨g, off, rfl, hgl, hc⟩ := hR.at_ (by intro e; rw [e] at hk; simp at hk)
 obtain ⟨p0, p1, p2, p3⟩ := hc k 4 4 b 6 hx
 have HT := Lib.hid (show Cf.trustB l k ⟨4, 4, b, 6⟩ = true by rw [trust_mask, Cf.nextB, hx2]; rfl)
 have hk1 : k + 1 < l.length := (List.getElem?_eq_some_iff.1 hx2).1
 have hk2 : (k : Int) + 1 < l.length := by omega
 have Hx2 := Lib.hid hx2
 have Hc := Lib.hid hc
 have hl : Cf.ldst ⟨4, 4, b, 6⟩ = false := rfl
 have hs : Cf.inB 4 1 8 = true := rfl
 have hr : Cf.inB 4 4 6 = true := rfl
 have C1 := Lib.hid (fun w => paccesses_any 4 4 b 6 w)
 rw [hl] at C1
 have C2 := Lib.hid (fun w => psets_any 4 4 b 6 w)
 rw [hs] at C2
 have C3 := Lib.hid (fun w => preserved_any 4 w)
 rw [hr] at C3
 clear hl hx hs hr hc hx2
 go_enter Tryz.func152, Tryz.ntmps152
 go_wp2_with fail
 refine (C1.out _).mono ?_
 rintro e w1 ⟨rfl, hb1⟩
 have hbw1 : Below w.heap.size w w1 := ((Below.refl _ _).alloc (Nat.le_refl _) _).trans (hb1.mono (by simp))
 have q0 := hb1.cell (p := ⟨w.heap.size, 0, none⟩) (by simp)
 have q1 := hb1.cell (p := ⟨w.heap.size, 1, none⟩) (by simp)
 have q2 := hb1.cell (p := ⟨w.heap.size, 2, none⟩) (by simp)
 have q3 := hb1.cell (p := ⟨w.heap.size, 3, none⟩) (by simp)
 simp at q0 q1 q2 q3
 have qg : w1.cell? ⟨gl, 0, none⟩ = _ := (hbw1.cell (lt_of_cell hg)).trans hg
 clear hb1 hg p0 p1 p2 p3 C1
 go_wp2_with fail
 refine (C2.out _).mono ?_
 rintro e w2 ⟨rfl, hb2⟩
 obtain ⟨hbw2, r0, r1, r2, r3, rg⟩ := keepV ⟨hbw1, q0, q1, q2, q3, qg⟩ hb2
 clear hb2 hbw1 q0 q1 q2 q3 qg C2
 go_wp2_with fail
 refine (C3.out _).mono ?_
 rintro e w' ⟨rfl, rfl⟩
 clear C3
 obtain ⟨n0, n1, n2, n3⟩ := Hc.out (k + 1) 5 4 4 5 Hx2.out
 have m0 := (hbw2.cell hgl).trans n0
 have m1 := (hbw2.cell hgl).trans n1
 have m2 := (hbw2.cell hgl).trans n2
 have m3 := (hbw2.cell hgl).trans n3
 clear n0 n1 n2 n3
 go_upto_region 6 with fail
 have haf := add_fit k (by omega)
 have hk0 : ¬ (k : Int) + 1 < 0 := by omega
 refine wp_region_noPanic ?_
 refine wp_region_held_drew (S := fun W => Below w.heap.size w W ∧ W.cell? ⟨w.heap.size, 0, none⟩ = some (.int .i64 4) ∧ W.cell? ⟨w.heap.size, 1, none⟩ = some (.int .i64 4) ∧ W.cell? ⟨w.heap.size, 2, none⟩ = some (.int .i64 b) ∧ W.cell? ⟨w.heap.size, 3, none⟩ = some (.int .i64 6) ∧ W.cell? ⟨gl, 0, none⟩ = some (.slice (some ⟨g, off, none⟩) l.length cap) ∧ W.cell? ⟨g, off + (k + 1) * 4, none⟩ = some (.int .i64 5) ∧ W.cell? ⟨g, off + (k + 1) * 4 + 1, none⟩ = some (.int .i64 4) ∧ W.cell? ⟨g, off + (k + 1) * 4 + 2, none⟩ = some (.int .i64 4) ∧ W.cell? ⟨g, off + (k + 1) * 4 + 3, none⟩ = some (.int .i64 5)) (by kernel_rfl) ⟨hbw2.drew, r0, r1, r2, r3, rg, m0, m1, m2, m3⟩ (fun hHeld => ?_)
 refine wpAnyH_take (i := 0) (oi := { dst := some 25, op := Op.load 121 (Operand.tmp 4), type := 121, pos := "safe.go:20", after := #[], guard := none }) (v := .agg #[.int .i64 4, .int .i64 4, .int .i64 b, .int .i64 6]) rfl (by kernel_rfl) (by kernel_rfl) (by kernel_rfl) (fun _ _ _ h => h) (Or.inl ⟨by kernel_rfl, fun w hSw => by ((try dsimp only at hSw); go_simp)⟩) hHeld ?_
 (try simp only [Act.put, List.setIfInBounds_toArray, List.set_cons_zero, List.set_cons_succ])
 refine wpAnyH_ready (rs := [1]) (by kernel_rfl) (by simp) ?_
 refine AllReadyH.cons (o := { dst := some 26, op := Op.call { callee := Callee.value (Operand.func 102), args := #[], argTypes := #[] }, type := 121, pos := "safe.go:20", after := #[], guard := none }) rfl (fun K hK => ?_) AllReadyH.nil
 go_simp
 go_at_call 102; refine (prebase_any _).mono ?_; rintro e w' ⟨rfl, hb'⟩
 go_wp2_with fail
 refine hK.out _ _ (keepN hHeld hb') (fun hHeld => ?_)
 clear hK K hb'
 (try simp only [Act.put, List.setIfInBounds_toArray, List.set_cons_zero, List.set_cons_succ])
 refine wpAnyH_take (i := 2) (oi := { dst := some 27, op := Op.binOp BinOp.eql 121 (Operand.tmp 25) (Operand.tmp 26) 121, type := 4, pos := "safe.go:20", after := #[{ on := 0, ground := Ground.data }, { on := 1, ground := Ground.data }], guard := none }) (v := .bool false) rfl (by kernel_rfl) (by kernel_rfl) (by kernel_rfl) (fun _ _ _ h => h) (Or.inl ⟨by kernel_rfl, fun w hSw => by ((try dsimp only at hSw); go_simp)⟩) hHeld ?_
 (try simp only [Act.put, List.setIfInBounds_toArray, List.set_cons_zero, List.set_cons_succ])
 refine wpAnyH_take (i := 3) (oi := { dst := some 28, op := Op.move (Operand.tmp 27), type := 4, pos := "safe.go:20", after := #[{ on := 2, ground := Ground.data }, { on := 1, ground := Ground.chain }], guard := none }) (v := .bool false) rfl (by kernel_rfl) (by kernel_rfl) (by kernel_rfl) (fun _ _ _ h => h) (Or.inl ⟨by kernel_rfl, fun w hSw => by ((try dsimp only at hSw); go_simp)⟩) hHeld ?_
 (try simp only [Act.put, List.setIfInBounds_toArray, List.set_cons_zero, List.set_cons_succ])
 refine wpAnyH_take (i := 4) (oi := { dst := some 29, op := Op.load 121 (Operand.tmp 4), type := 121, pos := "safe.go:20", after := #[{ on := 3, ground := Ground.guard }], guard := some (3, false) }) (v := .agg #[.int .i64 4, .int .i64 4, .int .i64 b, .int .i64 6]) rfl (by kernel_rfl) (by kernel_rfl) (by kernel_rfl) (fun _ _ _ h => h) (Or.inl ⟨by kernel_rfl, fun w hSw => by ((try dsimp only at hSw); go_simp)⟩) hHeld ?_
 (try simp only [Act.put, List.setIfInBounds_toArray, List.set_cons_zero, List.set_cons_succ])
 refine wpAnyH_take (i := 5) (oi := { dst := some 30, op := Op.fieldAddr 121 (Operand.tmp 4) 2, type := 0, pos := "safe.go:20", after := #[{ on := 3, ground := Ground.guard }], guard := some (3, false) }) (v := .pointer (some ⟨w.heap.size, 2, none⟩)) rfl (by kernel_rfl) (by kernel_rfl) (by kernel_rfl) (fun _ _ _ h => h) (Or.inl ⟨by kernel_rfl, fun w hSw => by ((try dsimp only at hSw); go_simp)⟩) hHeld ?_
 (try simp only [Act.put, List.setIfInBounds_toArray, List.set_cons_zero, List.set_cons_succ])
 refine wpAnyH_take (i := 6) (oi := { dst := some 31, op := Op.load 3 (Operand.tmp 30), type := 3, pos := "safe.go:20", after := #[{ on := 5, ground := Ground.data }, { on := 3, ground := Ground.guard }], guard := some (3, false) }) (v := .int .i64 b) rfl (by kernel_rfl) (by kernel_rfl) (by kernel_rfl) (fun _ _ _ h => h) (Or.inl ⟨by kernel_rfl, fun w hSw => by ((try dsimp only at hSw); go_simp)⟩) hHeld ?_
 (try simp only [Act.put, List.setIfInBounds_toArray, List.set_cons_zero, List.set_cons_succ])
 refine wpAnyH_ready (rs := [7]) (by kernel_rfl) (by simp) ?_
 refine AllReadyH.cons (o := { dst := some 32, op := Op.call { callee := Callee.value (Operand.func 101), args := #[Operand.tmp 31], argTypes := #[3] }, type := 121, pos := "safe.go:20", after := #[{ on := 6, ground := Ground.data }, { on := 3, ground := Ground.chain }, { on := 3, ground := Ground.guard }], guard := some (3, false) }) rfl (fun K hK => ?_) AllReadyH.nil
 go_simp
 go_at_call 101; refine (pmask_any _ _).mono ?_; rintro e w' ⟨rfl, hb'⟩
 go_wp2_with fail
 refine hK.out _ _ (keepN hHeld hb') (fun hHeld => ?_)
 clear hK K hb'
 (try simp only [Act.put, List.setIfInBounds_toArray, List.set_cons_zero, List.set_cons_succ])
 refine wpAnyH_take (i := 8) (oi := { dst := some 33, op := Op.binOp BinOp.eql 121 (Operand.tmp 29) (Operand.tmp 32) 121, type := 4, pos := "safe.go:20", after := #[{ on := 4, ground := Ground.data }, { on := 7, ground := Ground.data }, { on := 3, ground := Ground.guard }], guard := some (3, false) }) (v := .bool true) rfl (by kernel_rfl) (by kernel_rfl) (by kernel_rfl) (fun _ _ _ h => h) (Or.inl ⟨by kernel_rfl, fun w hSw => by ((try dsimp only at hSw); go_simp)⟩) hHeld ?_
 (try simp only [Act.put, List.setIfInBounds_toArray, List.set_cons_zero, List.set_cons_succ])
 refine wpAnyH_take (i := 9) (oi := { dst := some 34, op := Op.move (Operand.tmp 33), type := 4, pos := "safe.go:20", after := #[{ on := 8, ground := Ground.data }, { on := 7, ground := Ground.chain }, { on := 3, ground := Ground.guard }], guard := some (3, false) }) (v := .bool true) rfl (by kernel_rfl) (by kernel_rfl) (by kernel_rfl) (fun _ _ _ h => h) (Or.inl ⟨by kernel_rfl, fun w hSw => by ((try dsimp only at hSw); go_simp)⟩) hHeld ?_
 (try simp only [Act.put, List.setIfInBounds_toArray, List.set_cons_zero, List.set_cons_succ])
 refine wpAnyH_take (i := 10) (oi := { dst := some 35, op := Op.move (Operand.tmp 0), type := 3, pos := "safe.go:20", after := #[{ on := 9, ground := Ground.guard }], guard := some (9, true) }) (v := .int .i64 k) rfl (by kernel_rfl) (by kernel_rfl) (by kernel_rfl) (fun _ _ _ h => h) (Or.inl ⟨by kernel_rfl, fun w hSw => by ((try dsimp only at hSw); go_simp)⟩) hHeld ?_
 (try simp only [Act.put, List.setIfInBounds_toArray, List.set_cons_zero, List.set_cons_succ])
 refine wpAnyH_take (i := 11) (oi := { dst := some 36, op := Op.binOp BinOp.add 3 (Operand.tmp 35) (Operand.const (Value.int IntKind.i64 1)) 3, type := 3, pos := "safe.go:20", after := #[{ on := 10, ground := Ground.data }, { on := 9, ground := Ground.guard }], guard := some (9, true) }) (v := .int .i64 (k + 1)) rfl (by kernel_rfl) (by kernel_rfl) (by kernel_rfl) (fun _ _ _ h => h) (Or.inl ⟨by kernel_rfl, fun w hSw => by ((try dsimp only at hSw); go_simp)⟩) hHeld ?_
 (try simp only [Act.put, List.setIfInBounds_toArray, List.set_cons_zero, List.set_cons_succ])
 refine wpAnyH_take (i := 12) (oi := { dst := some 37, op := Op.load 77 (Operand.tmp 1), type := 77, pos := "safe.go:20", after := #[{ on := 9, ground := Ground.guard }], guard := some (9, true) }) (v := .slice (some ⟨g, off, none⟩) l.length cap) rfl (by kernel_rfl) (by kernel_rfl) (by kernel_rfl) (fun _ _ _ h => h) (Or.inl ⟨by kernel_rfl, fun w hSw => by ((try dsimp only at hSw); go_simp)⟩) hHeld ?_
 (try simp only [Act.put, List.setIfInBounds_toArray, List.set_cons_zero, List.set_cons_succ])
 refine wpAnyH_take (i := 13) (oi := { dst := some 38, op := Op.call { callee := Callee.builtin Builtin.len, args := #[Operand.tmp 37], argTypes := #[77] }, type := 3, pos := "safe.go:20", after := #[{ on := 12, ground := Ground.data }, { on := 9, ground := Ground.guard }], guard := some (9, true) }) (v := .int .i64 l.length) rfl (by kernel_rfl) (by kernel_rfl) (by kernel_rfl) (fun _ _ _ h => h) (Or.inl ⟨by kernel_rfl, fun w hSw => by ((try dsimp only at hSw); go_simp)⟩) hHeld ?_
 (try simp only [Act.put, List.setIfInBounds_toArray, List.set_cons_zero, List.set_cons_succ])
 refine wpAnyH_take (i := 14) (oi := { dst := some 39, op := Op.binOp BinOp.lss 3 (Operand.tmp 36) (Operand.tmp 38) 3, type := 4, pos := "safe.go:20", after := #[{ on := 11, ground := Ground.data }, { on := 13, ground := Ground.data }, { on := 9, ground := Ground.guard }], guard := some (9, true) }) (v := .bool true) rfl (by kernel_rfl) (by kernel_rfl) (by kernel_rfl) (fun _ _ _ h => h) (Or.inl ⟨by kernel_rfl, fun w hSw => by ((try dsimp only at hSw); go_simp)⟩) hHeld ?_
 (try simp only [Act.put, List.setIfInBounds_toArray, List.set_cons_zero, List.set_cons_succ])
 refine wpAnyH_take (i := 15) (oi := { dst := some 40, op := Op.pick (Operand.tmp 34) (Operand.tmp 39) (Operand.const (Value.bool false)), type := 4, pos := "safe.go:20", after := #[{ on := 9, ground := Ground.data }, { on := 14, ground := Ground.data }, { on := 3, ground := Ground.guard }], guard := some (3, false) }) (v := .bool true) rfl (by kernel_rfl) (by kernel_rfl) (by kernel_rfl) (fun _ _ _ h => h) (Or.inl ⟨by kernel_rfl, fun w hSw => by ((try dsimp only at hSw); go_simp)⟩) hHeld ?_
 (try simp only [Act.put, List.setIfInBounds_toArray, List.set_cons_zero, List.set_cons_succ])
 refine wpAnyH_take (i := 16) (oi := { dst := some 41, op := Op.move (Operand.tmp 40), type := 4, pos := "safe.go:20", after := #[{ on := 15, ground := Ground.data }, { on := 9, ground := Ground.chain }, { on := 3, ground := Ground.guard }], guard := some (3, false) }) (v := .bool true) rfl (by kernel_rfl) (by kernel_rfl) (by kernel_rfl) (fun _ _ _ h => h) (Or.inl ⟨by kernel_rfl, fun w hSw => by ((try dsimp only at hSw); go_simp)⟩) hHeld ?_
 (try simp only [Act.put, List.setIfInBounds_toArray, List.set_cons_zero, List.set_cons_succ])
 refine wpAnyH_take (i := 17) (oi := { dst := some 42, op := Op.load 77 (Operand.tmp 1), type := 77, pos := "safe.go:20", after := #[{ on := 16, ground := Ground.guard }], guard := some (16, true) }) (v := .slice (some ⟨g, off, none⟩) l.length cap) rfl (by kernel_rfl) (by kernel_rfl) (by kernel_rfl) (fun _ _ _ h => h) (Or.inl ⟨by kernel_rfl, fun w hSw => by ((try dsimp only at hSw); go_simp)⟩) hHeld ?_
 (try simp only [Act.put, List.setIfInBounds_toArray, List.set_cons_zero, List.set_cons_succ])
 refine wpAnyH_take (i := 18) (oi := { dst := some 43, op := Op.move (Operand.tmp 0), type := 3, pos := "safe.go:20", after := #[{ on := 16, ground := Ground.guard }], guard := some (16, true) }) (v := .int .i64 k) rfl (by kernel_rfl) (by kernel_rfl) (by kernel_rfl) (fun _ _ _ h => h) (Or.inl ⟨by kernel_rfl, fun w hSw => by ((try dsimp only at hSw); go_simp)⟩) hHeld ?_
 (try simp only [Act.put, List.setIfInBounds_toArray, List.set_cons_zero, List.set_cons_succ])
 refine wpAnyH_take (i := 19) (oi := { dst := some 44, op := Op.binOp BinOp.add 3 (Operand.tmp 43) (Operand.const (Value.int IntKind.i64 1)) 3, type := 3, pos := "safe.go:20", after := #[{ on := 18, ground := Ground.data }, { on := 16, ground := Ground.guard }], guard := some (16, true) }) (v := .int .i64 (k + 1)) rfl (by kernel_rfl) (by kernel_rfl) (by kernel_rfl) (fun _ _ _ h => h) (Or.inl ⟨by kernel_rfl, fun w hSw => by ((try dsimp only at hSw); go_simp)⟩) hHeld ?_
 (try simp only [Act.put, List.setIfInBounds_toArray, List.set_cons_zero, List.set_cons_succ])
 refine wpAnyH_take (i := 20) (oi := { dst := some 45, op := Op.indexAddr 77 (Operand.tmp 42) (Operand.tmp 44), type := 0, pos := "safe.go:20", after := #[{ on := 17, ground := Ground.data }, { on := 19, ground := Ground.data }, { on := 16, ground := Ground.guard }], guard := some (16, true) }) (v := .pointer (some ⟨g, off + (k + 1) * 4, none⟩)) rfl (by kernel_rfl) (by kernel_rfl) (by kernel_rfl) (fun _ _ _ h => h) (Or.inl ⟨by kernel_rfl, fun w hSw => by ((try dsimp only at hSw); go_simp)⟩) hHeld ?_
 (try simp only [Act.put, List.setIfInBounds_toArray, List.set_cons_zero, List.set_cons_succ])
 refine wpAnyH_take (i := 21) (oi := { dst := some 46, op := Op.load 121 (Operand.tmp 45), type := 121, pos := "safe.go:20", after := #[{ on := 20, ground := Ground.data }, { on := 16, ground := Ground.guard }], guard := some (16, true) }) (v := .agg #[.int .i64 5, .int .i64 4, .int .i64 4, .int .i64 5]) rfl (by kernel_rfl) (by kernel_rfl) (by kernel_rfl) (fun _ _ _ h => h) (Or.inl ⟨by kernel_rfl, fun w hSw => by ((try dsimp only at hSw); go_simp)⟩) hHeld ?_
 (try simp only [Act.put, List.setIfInBounds_toArray, List.set_cons_zero, List.set_cons_succ])
 refine wpAnyH_ready (rs := [22]) (by kernel_rfl) (by simp) ?_
 refine AllReadyH.cons (o := { dst := some 47, op := Op.call { callee := Callee.value (Operand.func 102), args := #[], argTypes := #[] }, type := 121, pos := "safe.go:20", after := #[{ on := 16, ground := Ground.chain }, { on := 16, ground := Ground.guard }], guard := some (16, true) }) rfl (fun K hK => ?_) AllReadyH.nil
 go_simp
 go_at_call 102; refine (prebase_any _).mono ?_; rintro e w' ⟨rfl, hb'⟩
 go_wp2_with fail
 refine hK.out _ _ (keepN hHeld hb') (fun hHeld => ?_)
 clear hK K hb'
 (try simp only [Act.put, List.setIfInBounds_toArray, List.set_cons_zero, List.set_cons_succ])
 refine wpAnyH_take (i := 23) (oi := { dst := some 48, op := Op.binOp BinOp.eql 121 (Operand.tmp 46) (Operand.tmp 47) 121, type := 4, pos := "safe.go:20", after := #[{ on := 21, ground := Ground.data }, { on := 22, ground := Ground.data }, { on := 16, ground := Ground.guard }], guard := some (16, true) }) (v := .bool true) rfl (by kernel_rfl) (by kernel_rfl) (by kernel_rfl) (fun _ _ _ h => h) (Or.inl ⟨by kernel_rfl, fun w hSw => by ((try dsimp only at hSw); go_simp)⟩) hHeld ?_
 (try simp only [Act.put, List.setIfInBounds_toArray, List.set_cons_zero, List.set_cons_succ])
 refine wpAnyH_take (i := 24) (oi := { dst := some 49, op := Op.pick (Operand.tmp 41) (Operand.tmp 48) (Operand.const (Value.bool false)), type := 4, pos := "safe.go:20", after := #[{ on := 16, ground := Ground.data }, { on := 23, ground := Ground.data }, { on := 3, ground := Ground.guard }], guard := some (3, false) }) (v := .bool true) rfl (by kernel_rfl) (by kernel_rfl) (by kernel_rfl) (fun _ _ _ h => h) (Or.inl ⟨by kernel_rfl, fun w hSw => by ((try dsimp only at hSw); go_simp)⟩) hHeld ?_
 (try simp only [Act.put, List.setIfInBounds_toArray, List.set_cons_zero, List.set_cons_succ])
 refine wpAnyH_take (i := 25) (oi := { dst := some 50, op := Op.pick (Operand.tmp 28) (Operand.const (Value.bool true)) (Operand.tmp 49), type := 4, pos := "safe.go:20", after := #[{ on := 3, ground := Ground.data }, { on := 24, ground := Ground.data }], guard := none }) (v := .bool true) rfl (by kernel_rfl) (by kernel_rfl) (by kernel_rfl) (fun _ _ _ h => h) (Or.inl ⟨by kernel_rfl, fun w hSw => by ((try dsimp only at hSw); go_simp)⟩) hHeld ?_
 (try simp only [Act.put, List.setIfInBounds_toArray, List.set_cons_zero, List.set_cons_succ])
 refine wpAnyH_take (i := 26) (oi := { dst := some 3, op := Op.assign (Operand.tmp 50), type := 4, pos := "safe.go:20", after := #[{ on := 25, ground := Ground.data }, { on := 22, ground := Ground.chain }, { on := 0, ground := Ground.phase }, { on := 1, ground := Ground.phase }, { on := 2, ground := Ground.phase }, { on := 3, ground := Ground.phase }, { on := 4, ground := Ground.phase }, { on := 5, ground := Ground.phase }, { on := 6, ground := Ground.phase }, { on := 7, ground := Ground.phase }, { on := 8, ground := Ground.phase }, { on := 9, ground := Ground.phase }, { on := 10, ground := Ground.phase }, { on := 11, ground := Ground.phase }, { on := 12, ground := Ground.phase }, { on := 13, ground := Ground.phase }, { on := 14, ground := Ground.phase }, { on := 15, ground := Ground.phase }, { on := 16, ground := Ground.phase }, { on := 17, ground := Ground.phase }, { on := 18, ground := Ground.phase }, { on := 19, ground := Ground.phase }, { on := 20, ground := Ground.phase }, { on := 21, ground := Ground.phase }, { on := 22, ground := Ground.phase }, { on := 23, ground := Ground.phase }, { on := 24, ground := Ground.phase }, { on := 25, ground := Ground.phase }], guard := none }) (v := .bool true) rfl (by kernel_rfl) (by kernel_rfl) (by kernel_rfl) (fun _ _ _ h => h) (Or.inl ⟨by kernel_rfl, fun w hSw => by ((try dsimp only at hSw); go_simp)⟩) hHeld ?_
 (try simp only [Act.put, List.setIfInBounds_toArray, List.set_cons_zero, List.set_cons_succ])
 refine wpAnyH_done (by kernel_rfl) ?_ _
 refine NoPanic.normal ?_
 obtain ⟨hend, _⟩ := hHeld
 go_wp2
 go_ret
 exact ⟨by rw [HT.out]; rfl, hend⟩
end Go.Proofs.YtnnhhbjbdmgpiaaGreatDoor
/- Walks of chapter 3: the program's test of one instruction, further cases. -/
namespace Go.Proofs.YtnnhhbjbdmgpiaaGreatDoor
set_option maxRecDepth 100000
open Go.RowKit
theorem trust_any (l : List Cf.Ins) (A : Option Addr) (cap k gl : Nat) (op a b c : Int) (w : World) (hR : Codes w A l) (hm : l.length ≤ maxLen) (hx : l[k]? = some ⟨op, a, b, c⟩) (hg : w.cell? ⟨gl, 0, none⟩ = some (.slice A l.length cap)) :
  Calls Tryz.prog 152 #[.int .i64 k, .pointer (some ⟨gl, 0, none⟩)] w fun e w' => e = .returned (.bool (Cf.trustB l k ⟨op, a, b, c⟩)) ∧ Below w.heap.size w w' := by
 cases hl : Cf.ldst ⟨op, a, b, c⟩ with
 | true =>
   by_cases hb : b = 4
   ·cases hs : Cf.inB op 1 8 with
    | false => exact trust_p2 l A cap k gl op a b c w hR hm hx hg hl hb hs
    | true =>
      cases hr : Cf.inB a 4 6 with
      | false => exact trust_p3 l A cap k gl op a b c w hR hm hx hg hl hb hs hr
      | true =>
        have h8 : op = 8 ∨ op = 9 := by simpa [Cf.ldst] using hl
        exact trust_w4 l A cap k gl op a b c w hR hm hx hg hl hb hs hr (fun h => by omega) (fun h => by omega)
   ·exact trust_p1 l A cap k gl op a b c w hR hm hx hg hl hb
 | false =>
   cases hs : Cf.inB op 1 8 with
   | false => exact trust_p5 l A cap k gl op a b c w hR hm hx hg hl hs
   | true =>
     cases hr : Cf.inB a 4 6 with
     | false => exact trust_p6 l A cap k gl op a b c w hR hm hx hg hl hs hr
     | true =>
       by_cases n1 : op = 5 ∧ a = 4 ∧ b = 4 ∧ c = 5
       ·obtain ⟨rfl, rfl, rfl, rfl⟩ := n1
        exact trust_w1 l A cap k gl w hR hm hx hg
       ·by_cases n2 : op = 4 ∧ a = 4 ∧ c = 6
        ·obtain ⟨rfl, rfl, rfl⟩ := n2
         by_cases hk1 : k + 1 < l.length
         ·obtain ⟨op2, a2, b2, c2, hx2⟩ : ∃ op a b' c', l[k + 1]? = some ⟨op, a, b', c'⟩ := ⟨_, _, _, _, List.getElem?_eq_getElem hk1⟩
          by_cases n3 : op2 = 5 ∧ a2 = 4 ∧ b2 = 4 ∧ c2 = 5
          ·obtain ⟨rfl, rfl, rfl, rfl⟩ := n3
           exact trust_w6 l A cap k gl b w hR hm hx hg hx2
          ·exact trust_w5 l A cap k gl b w hR hm hx hg op2 a2 b2 c2 hx2 n3
         ·exact trust_w3 l A cap k gl b w hR hm hx hg hk1
        ·exact trust_w2 l A cap k gl op a b c w hR hm hx hg hl hs hr n1 n2
end Go.Proofs.YtnnhhbjbdmgpiaaGreatDoor
/- Walks of chapter 3: the program's check of code, with the test of Verify. -/
namespace Go.Proofs.YtnnhhbjbdmgpiaaGreatDoor
set_option maxRecDepth 100000
open Go.RowKit
set_option maxRecDepth 100000 in
set_option maxHeartbeats 4000000 in
theorem checkV_any (l : List Cf.Ins) (A : Option Addr) (cap cap' gl : Nat) (w : World) (hR : Codes w A l) (hL : TabL w) (hF : TabF w) (hm : l.length ≤ maxLen) (hg : w.cell? ⟨gl, 0, none⟩ = some (.slice A l.length cap')) :
  Calls Tryz.prog 98 #[.slice A l.length cap, .func (.func 152) #[] #[.pointer (some ⟨gl, 0, none⟩)]] w fun e w' => e = .returned (.int .i64 (Cf.chkT l (Cf.trustB l))) ∧ Below w.heap.size w w' := by
 have HC := Lib.hid (check_any l A cap w hR hL hF hm)
 have HM := Lib.hid hm
 unfold maxLen at hm
 have hgl := lt_of_cell hg
 have Hg := Lib.hid hg
 have HR := Lib.hid hR
 clear hL hF hg
 by_cases hf : Cf.fault l = 0
 ·rw [hf] at HC
  by_cases hn : l = []
  ·subst hn
   have HS := Lib.hid (show Cf.chkT [] (Cf.trustB []) = 10 from rfl)
   clear hR
   go_enter Tryz.func98, Tryz.ntmps98
   go_wp2_with fail
   refine HC.out.mono ?_
   rintro e w1 ⟨rfl, hb1⟩
   go_wp2
   go_ret
   exact ⟨by rw [HS.out]; rfl, hb1⟩
  ·obtain ⟨n, hnl⟩ : ∃ n, l.length = n + 1 := ⟨l.length - 1, by have := List.length_pos_iff.2 hn; omega⟩
   obtain ⟨lop, la, lb, lc, hlast⟩ : ∃ op a b c, l[n]? = some ⟨op, a, b, c⟩ := ⟨_, _, _, _, List.getElem?_eq_getElem (by omega)⟩
   have hlB : Cf.lastB l = Cf.stopsB ⟨lop, la, lb, lc⟩ := by
    unfold Cf.lastB
    rw [List.getLast?_eq_getElem?, hnl, show n + 1 - 1 = n by omega, hlast]
   rcases hR with h0 | ⟨b, off, rfl, hb, hc⟩
   ·exact absurd h0 hn
   have Hc := Lib.hid hc
   have Hlast := Lib.hid hlast
   have Hf := Lib.hid hf
   have Hnl := Lib.hid hnl
   have HlB := Lib.hid hlB
   have hnm : n + 1 ≤ 2 ^ 63 - 1 := by omega
   clear hc hlast hf hn hnl hlB
   go_enter Tryz.func98, Tryz.ntmps98
   go_wp2_with fail
   refine HC.out.mono ?_
   rintro e w1 ⟨rfl, hb1⟩
   have d0 : w1.cell? ⟨b, off + n * 4, none⟩ = some (.int .i64 lop) := (hb1.cell hb).trans (Hc.out n _ Hlast.out 0 _ rfl)
   have d1 : w1.cell? ⟨b, off + n * 4 + 1, none⟩ = some (.int .i64 la) := (hb1.cell hb).trans (Hc.out n _ Hlast.out 1 _ rfl)
   have d2 : w1.cell? ⟨b, off + n * 4 + 2, none⟩ = some (.int .i64 lb) := (hb1.cell hb).trans (Hc.out n _ Hlast.out 2 _ rfl)
   have d3 : w1.cell? ⟨b, off + n * 4 + 3, none⟩ = some (.int .i64 lc) := (hb1.cell hb).trans (Hc.out n _ Hlast.out 3 _ rfl)
   rw [Hnl.out]
   clear HC hm
   go_wp2_with fail
   refine (pleaves_any lop la lb lc _).mono ?_
   rintro e w2 ⟨rfl, hb2⟩
   have hbw2 := hb1.trans (hb2.mono hb1.size)
   clear d0 d1 d2 d3 hb1 hb2
   cases hst : Cf.stopsB ⟨lop, la, lb, lc⟩
   ·have HS := Lib.hid (show Cf.chkT l (Cf.trustB l) = 10 by unfold Cf.chkT; rw [if_pos Hf.out, HlB.out, hst]; rfl)
    go_wp2
    go_ret
    exact ⟨by rw [HS.out]; rfl, hbw2⟩
   ·have HL := Lib.hid (HlB.out.trans hst)
    clear HlB hst
    go_wp2
    go_loopw [28] (fun i wr => ∃ k : Nat, k ≤ n + 1 ∧ i = .int .i64 k ∧ (∀ j, j < k → Cf.okT l (Cf.trustB l) j = true) ∧ Below w.heap.size w wr) (fun i _ => n + 1 - (intOf i).toNat)
    case atStart => exact ⟨0, by omega, rfl, fun j hj => by omega, hbw2⟩
    case round =>
     obtain ⟨k, hk, rfl, hz, hbw⟩ := hrel
     have Hz := Lib.hid hz
     clear hz hbw2
     by_cases hlt : k < n + 1
     ·obtain ⟨op, a, b', c', hx⟩ : ∃ op a b' c', l[k]? = some ⟨op, a, b', c'⟩ := ⟨_, _, _, _, List.getElem?_eq_getElem (by rw [Hnl.out]; omega)⟩
      have hc0 : wr.cell? ⟨b, off + k * 4, none⟩ = some (.int .i64 op) := (hbw.cell hb).trans (Hc.out k _ hx 0 _ rfl)
      have hc1 : wr.cell? ⟨b, off + k * 4 + 1, none⟩ = some (.int .i64 a) := (hbw.cell hb).trans (Hc.out k _ hx 1 _ rfl)
      have hc2 : wr.cell? ⟨b, off + k * 4 + 2, none⟩ = some (.int .i64 b') := (hbw.cell hb).trans (Hc.out k _ hx 2 _ rfl)
      have hc3 : wr.cell? ⟨b, off + k * 4 + 3, none⟩ = some (.int .i64 c') := (hbw.cell hb).trans (Hc.out k _ hx 3 _ rfl)
      have Hx := Lib.hid hx
      clear hx
      go_wp2_with fail
      refine (pjumps_any op a b' c' _).mono ?_
      rintro e w3 ⟨rfl, hb3⟩
      have hbw3 : Below w.heap.size w w3 := (hbw.alloc hbw.size _).trans (hb3.mono (by have := hbw.size; simp; omega))
      have x3 := hb3.cell (p := ⟨wr.heap.size, 3, none⟩) (by simp)
      simp at x3
      have HG3 := Lib.hid (show w3.cell? ⟨gl, 0, none⟩ = some (.slice (some ⟨b, off, none⟩) l.length cap') from (hbw3.cell hgl).trans Hg.out)
      have HR3 := Lib.hid (HR.out.below hbw3)
      have HT := Lib.hid (trust_any l (some ⟨b, off, none⟩) cap' k gl op a b' c' w3 HR3.out HM.out Hx.out HG3.out)
      clear hb3 hc0 hc1 hc2 hc3 hbw
      cases hj : Cf.jumpsB ⟨op, a, b', c'⟩
      ·have HO := Lib.hid (show (!(Cf.jumpsB ⟨op, a, b', c'⟩ && decide ((l.length : Int) ≤ c')) && Cf.trustB l k ⟨op, a, b', c'⟩) = Cf.trustB l k ⟨op, a, b', c'⟩ by simp [hj])
       clear hj
       go_wp2_with fail
       refine HT.out.mono ?_
       rintro e w4 ⟨rfl, hb4⟩
       have hbw4 := hbw3.trans (hb4.mono hbw3.size)
       clear HT hb4 hbw3 HG3 HR3 x3
       cases ht : Cf.trustB l k ⟨op, a, b', c'⟩
       ·have HS := Lib.hid (Cf.chkT_bad l (Cf.trustB l) k _ Hf.out Hx.out (HO.out.trans ht))
        clear ht
        go_wp2
        go_ret
        exact ⟨by rw [HS.out]; rfl, hbw4⟩
       ·have HZ := Lib.hid (Cf.chkT_on l (Cf.trustB l) k _ Hx.out Hz.out (HO.out.trans ht))
        clear ht
        go_wp2
        go_roundw
        case rel => (repeat apply Exists.intro); exact ⟨⟨k + 1, by omega, by go_num, HZ.out, hbw4⟩, rfl⟩
        case measure => simp [intOf]; omega
      ·by_cases hcl : (l.length : Int) ≤ c'
       ·have HS := Lib.hid (Cf.chkT_bad l (Cf.trustB l) k _ Hf.out Hx.out (by simp [hj, hcl]))
        clear hj
        rw [Hnl.out] at hcl
        go_wp2
        go_ret
        exact ⟨by rw [HS.out]; rfl, hbw3⟩
       ·have HO := Lib.hid (show (!(Cf.jumpsB ⟨op, a, b', c'⟩ && decide ((l.length : Int) ≤ c')) && Cf.trustB l k ⟨op, a, b', c'⟩) = Cf.trustB l k ⟨op, a, b', c'⟩ by simp [hcl])
        clear hj
        rw [Hnl.out] at hcl
        go_wp2_with fail
        refine HT.out.mono ?_
        rintro e w4 ⟨rfl, hb4⟩
        have hbw4 := hbw3.trans (hb4.mono hbw3.size)
        clear HT hb4 hbw3 HG3 HR3 x3
        cases ht : Cf.trustB l k ⟨op, a, b', c'⟩
        ·have HS := Lib.hid (Cf.chkT_bad l (Cf.trustB l) k _ Hf.out Hx.out (HO.out.trans ht))
         clear ht
         go_wp2
         go_ret
         exact ⟨by rw [HS.out]; rfl, hbw4⟩
        ·have HZ := Lib.hid (Cf.chkT_on l (Cf.trustB l) k _ Hx.out Hz.out (HO.out.trans ht))
         clear ht
         go_wp2
         go_roundw
         case rel => (repeat apply Exists.intro); exact ⟨⟨k + 1, by omega, by go_num, HZ.out, hbw4⟩, rfl⟩
         case measure => simp [intOf]; omega
     ·have HS := Lib.hid (Cf.chkT_end l (Cf.trustB l) Hf.out HL.out (fun j hj => Hz.out j (by rw [Hnl.out] at hj; omega)))
      go_wp2
      go_ret
      exact ⟨by rw [HS.out]; rfl, hbw⟩
 ·have hf' : (Cf.fault l != 0) = true := by simp [hf]
  have HS := Lib.hid (show Cf.chkT l (Cf.trustB l) = Cf.fault l by unfold Cf.chkT; rw [if_neg hf])
  clear hf
  go_enter Tryz.func98, Tryz.ntmps98
  go_wp2_with fail
  refine HC.out.mono ?_
  rintro e w1 ⟨rfl, hb1⟩
  go_wp2
  go_ret
  exact ⟨by rw [HS.out]; rfl, hb1⟩
theorem verify_any (l : List Cf.Ins) (A : Option Addr) (cap : Nat) (w : World) (hR : Codes w A l) (hL : TabL w) (hF : TabF w) (hm : l.length ≤ maxLen) :
  Calls Tryz.prog 121 #[.slice A l.length cap] w fun e w' => e = .returned (.int .i64 (Cf.safeT l)) ∧ Below w.heap.size w w' := by
 have hb0 : Below w.heap.size w (w.alloc (.cells #[.slice A l.length cap] 77)) := (Below.refl _ _).alloc (Nat.le_refl _) _
 have HV := Lib.hid (checkV_any l A cap cap w.heap.size _ (hR.below hb0) (hL.below hb0) (hF.below hb0) hm (by simp))
 rw [Cf.chkT_trust] at HV
 have hmf : ∀ (fn : Fn) (first cap : Array Value) (w : World), (Instr.makeFunc fn first cap).run Tryz.prog w = .ok (.func fn first cap) w := fun _ _ _ _ => rfl
 clear hR hL hF
 go_enter Tryz.func121, Tryz.ntmps121
 go_wp2_with fail
 refine HV.out.mono ?_
 rintro e w1 ⟨rfl, hb1⟩
 go_wp2
 go_ret
 exact ⟨rfl, hb0.trans (hb1.mono (by simp))⟩
end Go.Proofs.YtnnhhbjbdmgpiaaGreatDoor
/- Walks of chapter 3: the program's check of code, with the test of Make. -/
namespace Go.Proofs.YtnnhhbjbdmgpiaaGreatDoor
set_option maxRecDepth 100000
open Go.RowKit
theorem plain_any (l : List Cf.Ins) (A : Option Addr) (cap k gl : Nat) (op a b c : Int) (w : World) (hR : Codes w A l) (hm : l.length ≤ maxLen) (hx : l[k]? = some ⟨op, a, b, c⟩) (hg : w.cell? ⟨gl, 0, none⟩ = some (.slice A l.length cap)) :
  Calls Tryz.prog 96 #[.int .i64 k, .pointer (some ⟨gl, 0, none⟩)] w fun e w' => e = .returned (.bool (!Cf.useB ⟨op, a, b, c⟩)) ∧ Below w.heap.size w w' := by
 have hmx : l.length ≤ 2 ^ 63 - 1 := hm
 clear hm
 have hk : k < l.length := (List.getElem?_eq_some_iff.1 hx).1
 obtain ⟨g, off, rfl, hgl, hc⟩ := hR.at_ (by intro e; rw [e] at hk; simp at hk)
 obtain ⟨p0, p1, p2, p3⟩ := hc k op a b c hx
 clear hc hx
 go_enter Tryz.func96, Tryz.ntmps96
 go_wp2_with fail
 refine (puses_any op a b c _).mono ?_
 rintro e w1 ⟨rfl, hb1⟩
 go_wp2
 go_ret
 exact ⟨rfl, hb1⟩
set_option maxRecDepth 100000 in
set_option maxHeartbeats 4000000 in
theorem checkP_any (l : List Cf.Ins) (A : Option Addr) (cap cap' gl : Nat) (w : World) (hR : Codes w A l) (hL : TabL w) (hF : TabF w) (hm : l.length ≤ maxLen) (hg : w.cell? ⟨gl, 0, none⟩ = some (.slice A l.length cap')) :
  Calls Tryz.prog 98 #[.slice A l.length cap, .func (.func 96) #[] #[.pointer (some ⟨gl, 0, none⟩)]] w fun e w' => e = .returned (.int .i64 (Cf.chkT l (fun _ i => !Cf.useB i))) ∧ Below w.heap.size w w' := by
 have HC := Lib.hid (check_any l A cap w hR hL hF hm)
 have HM := Lib.hid hm
 unfold maxLen at hm
 have hgl := lt_of_cell hg
 have Hg := Lib.hid hg
 have HR := Lib.hid hR
 clear hL hF hg
 by_cases hf : Cf.fault l = 0
 ·rw [hf] at HC
  by_cases hn : l = []
  ·subst hn
   have HS := Lib.hid (show Cf.chkT [] (fun _ i => !Cf.useB i) = 10 from rfl)
   clear hR
   go_enter Tryz.func98, Tryz.ntmps98
   go_wp2_with fail
   refine HC.out.mono ?_
   rintro e w1 ⟨rfl, hb1⟩
   go_wp2
   go_ret
   exact ⟨by rw [HS.out]; rfl, hb1⟩
  ·obtain ⟨n, hnl⟩ : ∃ n, l.length = n + 1 := ⟨l.length - 1, by have := List.length_pos_iff.2 hn; omega⟩
   obtain ⟨lop, la, lb, lc, hlast⟩ : ∃ op a b c, l[n]? = some ⟨op, a, b, c⟩ := ⟨_, _, _, _, List.getElem?_eq_getElem (by omega)⟩
   have hlB : Cf.lastB l = Cf.stopsB ⟨lop, la, lb, lc⟩ := by
    unfold Cf.lastB
    rw [List.getLast?_eq_getElem?, hnl, show n + 1 - 1 = n by omega, hlast]
   rcases hR with h0 | ⟨b, off, rfl, hb, hc⟩
   ·exact absurd h0 hn
   have Hc := Lib.hid hc
   have Hlast := Lib.hid hlast
   have Hf := Lib.hid hf
   have Hnl := Lib.hid hnl
   have HlB := Lib.hid hlB
   have hnm : n + 1 ≤ 2 ^ 63 - 1 := by omega
   clear hc hlast hf hn hnl hlB
   go_enter Tryz.func98, Tryz.ntmps98
   go_wp2_with fail
   refine HC.out.mono ?_
   rintro e w1 ⟨rfl, hb1⟩
   have d0 : w1.cell? ⟨b, off + n * 4, none⟩ = some (.int .i64 lop) := (hb1.cell hb).trans (Hc.out n _ Hlast.out 0 _ rfl)
   have d1 : w1.cell? ⟨b, off + n * 4 + 1, none⟩ = some (.int .i64 la) := (hb1.cell hb).trans (Hc.out n _ Hlast.out 1 _ rfl)
   have d2 : w1.cell? ⟨b, off + n * 4 + 2, none⟩ = some (.int .i64 lb) := (hb1.cell hb).trans (Hc.out n _ Hlast.out 2 _ rfl)
   have d3 : w1.cell? ⟨b, off + n * 4 + 3, none⟩ = some (.int .i64 lc) := (hb1.cell hb).trans (Hc.out n _ Hlast.out 3 _ rfl)
   rw [Hnl.out]
   clear HC hm
   go_wp2_with fail
   refine (pleaves_any lop la lb lc _).mono ?_
   rintro e w2 ⟨rfl, hb2⟩
   have hbw2 := hb1.trans (hb2.mono hb1.size)
   clear d0 d1 d2 d3 hb1 hb2
   cases hst : Cf.stopsB ⟨lop, la, lb, lc⟩
   ·have HS := Lib.hid (show Cf.chkT l (fun _ i => !Cf.useB i) = 10 by unfold Cf.chkT; rw [if_pos Hf.out, HlB.out, hst]; rfl)
    go_wp2
    go_ret
    exact ⟨by rw [HS.out]; rfl, hbw2⟩
   ·have HL := Lib.hid (HlB.out.trans hst)
    clear HlB hst
    go_wp2
    go_loopw [28] (fun i wr => ∃ k : Nat, k ≤ n + 1 ∧ i = .int .i64 k ∧ (∀ j, j < k → Cf.okT l (fun _ i => !Cf.useB i) j = true) ∧ Below w.heap.size w wr) (fun i _ => n + 1 - (intOf i).toNat)
    case atStart => exact ⟨0, by omega, rfl, fun j hj => by omega, hbw2⟩
    case round =>
     obtain ⟨k, hk, rfl, hz, hbw⟩ := hrel
     have Hz := Lib.hid hz
     clear hz hbw2
     by_cases hlt : k < n + 1
     ·obtain ⟨op, a, b', c', hx⟩ : ∃ op a b' c', l[k]? = some ⟨op, a, b', c'⟩ := ⟨_, _, _, _, List.getElem?_eq_getElem (by rw [Hnl.out]; omega)⟩
      have hc0 : wr.cell? ⟨b, off + k * 4, none⟩ = some (.int .i64 op) := (hbw.cell hb).trans (Hc.out k _ hx 0 _ rfl)
      have hc1 : wr.cell? ⟨b, off + k * 4 + 1, none⟩ = some (.int .i64 a) := (hbw.cell hb).trans (Hc.out k _ hx 1 _ rfl)
      have hc2 : wr.cell? ⟨b, off + k * 4 + 2, none⟩ = some (.int .i64 b') := (hbw.cell hb).trans (Hc.out k _ hx 2 _ rfl)
      have hc3 : wr.cell? ⟨b, off + k * 4 + 3, none⟩ = some (.int .i64 c') := (hbw.cell hb).trans (Hc.out k _ hx 3 _ rfl)
      have Hx := Lib.hid hx
      clear hx
      go_wp2_with fail
      refine (pjumps_any op a b' c' _).mono ?_
      rintro e w3 ⟨rfl, hb3⟩
      have hbw3 : Below w.heap.size w w3 := (hbw.alloc hbw.size _).trans (hb3.mono (by have := hbw.size; simp; omega))
      have x3 := hb3.cell (p := ⟨wr.heap.size, 3, none⟩) (by simp)
      simp at x3
      have HG3 := Lib.hid (show w3.cell? ⟨gl, 0, none⟩ = some (.slice (some ⟨b, off, none⟩) l.length cap') from (hbw3.cell hgl).trans Hg.out)
      have HR3 := Lib.hid (HR.out.below hbw3)
      have HT := Lib.hid (plain_any l (some ⟨b, off, none⟩) cap' k gl op a b' c' w3 HR3.out HM.out Hx.out HG3.out)
      clear hb3 hc0 hc1 hc2 hc3 hbw
      cases hj : Cf.jumpsB ⟨op, a, b', c'⟩
      ·have HO := Lib.hid (show (!(Cf.jumpsB ⟨op, a, b', c'⟩ && decide ((l.length : Int) ≤ c')) && (!Cf.useB ⟨op, a, b', c'⟩)) = (!Cf.useB ⟨op, a, b', c'⟩) by simp [hj])
       clear hj
       go_wp2_with fail
       refine HT.out.mono ?_
       rintro e w4 ⟨rfl, hb4⟩
       have hbw4 := hbw3.trans (hb4.mono hbw3.size)
       clear HT hb4 hbw3 HG3 HR3 x3
       cases ht : (!Cf.useB ⟨op, a, b', c'⟩)
       ·have HS := Lib.hid (Cf.chkT_bad l (fun _ i => !Cf.useB i) k _ Hf.out Hx.out (HO.out.trans ht))
        clear ht
        go_wp2
        go_ret
        exact ⟨by rw [HS.out]; rfl, hbw4⟩
       ·have HZ := Lib.hid (Cf.chkT_on l (fun _ i => !Cf.useB i) k _ Hx.out Hz.out (HO.out.trans ht))
        clear ht
        go_wp2
        go_roundw
        case rel => (repeat apply Exists.intro); exact ⟨⟨k + 1, by omega, by go_num, HZ.out, hbw4⟩, rfl⟩
        case measure => simp [intOf]; omega
      ·by_cases hcl : (l.length : Int) ≤ c'
       ·have HS := Lib.hid (Cf.chkT_bad l (fun _ i => !Cf.useB i) k _ Hf.out Hx.out (by simp [hj, hcl]))
        clear hj
        rw [Hnl.out] at hcl
        go_wp2
        go_ret
        exact ⟨by rw [HS.out]; rfl, hbw3⟩
       ·have HO := Lib.hid (show (!(Cf.jumpsB ⟨op, a, b', c'⟩ && decide ((l.length : Int) ≤ c')) && (!Cf.useB ⟨op, a, b', c'⟩)) = (!Cf.useB ⟨op, a, b', c'⟩) by simp [hcl])
        clear hj
        rw [Hnl.out] at hcl
        go_wp2_with fail
        refine HT.out.mono ?_
        rintro e w4 ⟨rfl, hb4⟩
        have hbw4 := hbw3.trans (hb4.mono hbw3.size)
        clear HT hb4 hbw3 HG3 HR3 x3
        cases ht : (!Cf.useB ⟨op, a, b', c'⟩)
        ·have HS := Lib.hid (Cf.chkT_bad l (fun _ i => !Cf.useB i) k _ Hf.out Hx.out (HO.out.trans ht))
         clear ht
         go_wp2
         go_ret
         exact ⟨by rw [HS.out]; rfl, hbw4⟩
        ·have HZ := Lib.hid (Cf.chkT_on l (fun _ i => !Cf.useB i) k _ Hx.out Hz.out (HO.out.trans ht))
         clear ht
         go_wp2
         go_roundw
         case rel => (repeat apply Exists.intro); exact ⟨⟨k + 1, by omega, by go_num, HZ.out, hbw4⟩, rfl⟩
         case measure => simp [intOf]; omega
     ·have HS := Lib.hid (Cf.chkT_end l (fun _ i => !Cf.useB i) Hf.out HL.out (fun j hj => Hz.out j (by rw [Hnl.out] at hj; omega)))
      go_wp2
      go_ret
      exact ⟨by rw [HS.out]; rfl, hbw⟩
 ·have hf' : (Cf.fault l != 0) = true := by simp [hf]
  have HS := Lib.hid (show Cf.chkT l (fun _ i => !Cf.useB i) = Cf.fault l by unfold Cf.chkT; rw [if_neg hf])
  clear hf
  go_enter Tryz.func98, Tryz.ntmps98
  go_wp2_with fail
  refine HC.out.mono ?_
  rintro e w1 ⟨rfl, hb1⟩
  go_wp2
  go_ret
  exact ⟨by rw [HS.out]; rfl, hb1⟩
end Go.Proofs.YtnnhhbjbdmgpiaaGreatDoor
