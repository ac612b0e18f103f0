/- Walks of chapter 3: the program's test of one instruction (the closure of safe.Verify). -/
import Derived.Test.YtnnhhbjbdmgpiaaDoorSafeW
import Derived.Test.YtnnhhbjbdmgpiaaDoorInsK
import Derived.Test.YtnnhhbjbdmgpiaaDoorKit
import Derived.Deep.CutRange
namespace Go.Proofs.YtnnhhbjbdmgpiaaDoor
set_option maxRecDepth 100000
open Go.RowKit

theorem keepV {w W W' : World} {br gl : Nat} {v0 v1 v2 v3 s : Value} (h : Below w.heap.size w W ∧ W.cell? ⟨br, 0, none⟩ = some v0 ∧ W.cell? ⟨br, 1, none⟩ = some v1 ∧ W.cell? ⟨br, 2, none⟩ = some v2 ∧ W.cell? ⟨br, 3, none⟩ = some v3 ∧ W.cell? ⟨gl, 0, none⟩ = some s) (hb : Below W.heap.size W W') :
    Below w.heap.size w W' ∧ W'.cell? ⟨br, 0, none⟩ = some v0 ∧ W'.cell? ⟨br, 1, none⟩ = some v1 ∧ W'.cell? ⟨br, 2, none⟩ = some v2 ∧ W'.cell? ⟨br, 3, none⟩ = some v3 ∧ W'.cell? ⟨gl, 0, none⟩ = some s := by
  obtain ⟨h0, h1, h2, h3, h4, h5⟩ := h
  exact ⟨h0.trans (hb.mono h0.size), (hb.cell (lt_of_cell h1)).trans h1, (hb.cell (lt_of_cell h2)).trans h2, (hb.cell (lt_of_cell h3)).trans h3, (hb.cell (lt_of_cell h4)).trans h4, (hb.cell (lt_of_cell h5)).trans h5⟩
theorem keepN {w W W' : World} {br gl g o0 o1 o2 o3 : Nat} {v0 v1 v2 v3 s u0 u1 u2 u3 : Value} (h : Below w.heap.size w W ∧ W.cell? ⟨br, 0, none⟩ = some v0 ∧ W.cell? ⟨br, 1, none⟩ = some v1 ∧ W.cell? ⟨br, 2, none⟩ = some v2 ∧ W.cell? ⟨br, 3, none⟩ = some v3 ∧ W.cell? ⟨gl, 0, none⟩ = some s ∧ W.cell? ⟨g, o0, none⟩ = some u0 ∧ W.cell? ⟨g, o1, none⟩ = some u1 ∧ W.cell? ⟨g, o2, none⟩ = some u2 ∧ W.cell? ⟨g, o3, none⟩ = some u3) (hb : Below W.heap.size W W') :
    Below w.heap.size w W' ∧ W'.cell? ⟨br, 0, none⟩ = some v0 ∧ W'.cell? ⟨br, 1, none⟩ = some v1 ∧ W'.cell? ⟨br, 2, none⟩ = some v2 ∧ W'.cell? ⟨br, 3, none⟩ = some v3 ∧ W'.cell? ⟨gl, 0, none⟩ = some s ∧ W'.cell? ⟨g, o0, none⟩ = some u0 ∧ W'.cell? ⟨g, o1, none⟩ = some u1 ∧ W'.cell? ⟨g, o2, none⟩ = some u2 ∧ W'.cell? ⟨g, o3, none⟩ = some u3 := by
  obtain ⟨h0, h1, h2, h3, h4, h5, h6, h7, h8, h9⟩ := h
  exact ⟨h0.trans (hb.mono h0.size), (hb.cell (lt_of_cell h1)).trans h1, (hb.cell (lt_of_cell h2)).trans h2, (hb.cell (lt_of_cell h3)).trans h3, (hb.cell (lt_of_cell h4)).trans h4, (hb.cell (lt_of_cell h5)).trans h5, (hb.cell (lt_of_cell h6)).trans h6, (hb.cell (lt_of_cell h7)).trans h7, (hb.cell (lt_of_cell h8)).trans h8, (hb.cell (lt_of_cell h9)).trans h9⟩
theorem add_fit (k : Nat) (h : k + 1 ≤ 2 ^ 63 - 1) : IntKind.i64.wrap ((k : Int) + 1) = (k : Int) + 1 := by
  rw [IntKind.wrap_i64]
  omega
theorem trust_far {l : List Cf.Ins} {k : Nat} {op a b c : Int} (hr : Cf.inB a 4 6 = false) (hb : (!Cf.ldst ⟨op, a, b, c⟩ || decide (b = 4)) = true) : Cf.trustB l k ⟨op, a, b, c⟩ = true := by
  have h : a < 4 ∨ 6 < a := by simp [Cf.inB] at hr; omega
  unfold Cf.trustB
  rw [show (!Cf.ldst ⟨op, a, b, c⟩ || decide ((⟨op, a, b, c⟩ : Cf.Ins).b = 4)) = true from hb]
  unfold Cf.destB
  split
  · rw [if_neg (by dsimp only; omega), if_neg (by dsimp only; omega)]; rfl
  · rfl
theorem trust_no {l : List Cf.Ins} {k : Nat} {op a b c : Int} (hs : Cf.inB op 1 8 = true) (hr : Cf.inB a 4 6 = true) (n1 : ¬ (op = 5 ∧ a = 4 ∧ b = 4 ∧ c = 5)) (n2 : ¬ (op = 4 ∧ a = 4 ∧ c = 6)) : Cf.trustB l k ⟨op, a, b, c⟩ = false := by
  have h : 4 ≤ a ∧ a ≤ 6 := by simpa [Cf.inB] using hr
  unfold Cf.trustB
  have hd : Cf.destB l k ⟨op, a, b, c⟩ = false := by
    unfold Cf.destB
    rw [if_pos hs]
    by_cases h56 : a = 5 ∨ a = 6
    · rw [if_pos h56]
    · rw [if_neg h56]
      have h4 : a = 4 := by omega
      have ho : Cf.orBaseB ⟨op, a, b, c⟩ = false := by
        cases hq : Cf.orBaseB ⟨op, a, b, c⟩ with
        | false => rfl
        | true => exact absurd (Cf.orBase_parts hq) n1
      rw [if_pos ⟨h4, ho⟩]
      cases hq : (decide (op = 4) && (decide (c = 6) && Cf.nextB l k)) with
      | false => rfl
      | true =>
        simp only [Bool.and_eq_true, decide_eq_true_eq] at hq
        exact absurd ⟨hq.1, h4, hq.2.1⟩ n2
  rw [hd, Bool.and_false]
theorem trust_mask {l : List Cf.Ins} {k : Nat} {b : Int} : Cf.trustB l k ⟨4, 4, b, 6⟩ = Cf.nextB l k := by
  simp [Cf.trustB, Cf.ldst, Cf.destB, Cf.inB, Cf.orBaseB]
set_option maxRecDepth 100000 in
set_option maxHeartbeats 2000000 in
theorem trust_p1 (l : List Cf.Ins) (A : Option Addr) (cap k gl : Nat) (op a b c : Int) (w : World) (hR : Codes w A l) (hm : l.length ≤ maxLen) (hx : l[k]? = some ⟨op, a, b, c⟩) (hg : w.cell? ⟨gl, 0, none⟩ = some (.slice A l.length cap)) (hl : Cf.ldst ⟨op, a, b, c⟩ = true) (hb : ¬ b = 4) :
    Calls Tryd.prog 50 #[.int .i64 k, .pointer (some ⟨gl, 0, none⟩)] w fun e w' => e = .returned (.bool (Cf.trustB l k ⟨op, a, b, c⟩)) ∧ Below w.heap.size w w' := by
  have hmx : l.length ≤ 2 ^ 63 - 1 := hm
  clear hm
  have hk : k < l.length := (List.getElem?_eq_some_iff.1 hx).1
  obtain ⟨g, off, rfl, hgl, hc⟩ := hR.at_ (by intro e; rw [e] at hk; simp at hk)
  obtain ⟨p0, p1, p2, p3⟩ := hc k op a b c hx
  have HT := Lib.hid (show Cf.trustB l k ⟨op, a, b, c⟩ = false by simp [Cf.trustB, hl, hb])
  have eb := nen hb
  have C1 := Lib.hid (fun w => paccesses_any op a b c w)
  rw [hl] at C1
  clear hl hx hc hb
  go_enter Tryd.func50, Tryd.ntmps50
  go_wp2_with fail
  refine (C1.out _).mono ?_
  rintro e w1 ⟨rfl, hb1⟩
  have hbw1 : Below w.heap.size w w1 := ((Below.refl _ _).alloc (Nat.le_refl _) _).trans (hb1.mono (by simp))
  have q0 := hb1.cell (p := ⟨w.heap.size, 0, none⟩) (by simp)
  have q1 := hb1.cell (p := ⟨w.heap.size, 1, none⟩) (by simp)
  have q2 := hb1.cell (p := ⟨w.heap.size, 2, none⟩) (by simp)
  have q3 := hb1.cell (p := ⟨w.heap.size, 3, none⟩) (by simp)
  simp at q0 q1 q2 q3
  have qg : w1.cell? ⟨gl, 0, none⟩ = _ := (hbw1.cell (lt_of_cell hg)).trans hg
  clear hb1 hg p0 p1 p2 p3 C1
  go_wp2
  go_ret
  exact ⟨by rw [HT.out]; rfl, hbw1⟩
set_option maxRecDepth 100000 in
set_option maxHeartbeats 2000000 in
theorem trust_p2 (l : List Cf.Ins) (A : Option Addr) (cap k gl : Nat) (op a b c : Int) (w : World) (hR : Codes w A l) (hm : l.length ≤ maxLen) (hx : l[k]? = some ⟨op, a, b, c⟩) (hg : w.cell? ⟨gl, 0, none⟩ = some (.slice A l.length cap)) (hl : Cf.ldst ⟨op, a, b, c⟩ = true) (hb : b = 4) (hs : Cf.inB op 1 8 = false) :
    Calls Tryd.prog 50 #[.int .i64 k, .pointer (some ⟨gl, 0, none⟩)] w fun e w' => e = .returned (.bool (Cf.trustB l k ⟨op, a, b, c⟩)) ∧ Below w.heap.size w w' := by
  have hmx : l.length ≤ 2 ^ 63 - 1 := hm
  clear hm
  have hk : k < l.length := (List.getElem?_eq_some_iff.1 hx).1
  obtain ⟨g, off, rfl, hgl, hc⟩ := hR.at_ (by intro e; rw [e] at hk; simp at hk)
  obtain ⟨p0, p1, p2, p3⟩ := hc k op a b c hx
  have HT := Lib.hid (show Cf.trustB l k ⟨op, a, b, c⟩ = true by simp [Cf.trustB, Cf.destB, hb, hs])
  have eb := eqn hb
  have C1 := Lib.hid (fun w => paccesses_any op a b c w)
  rw [hl] at C1
  have C2 := Lib.hid (fun w => psets_any op a b c w)
  rw [hs] at C2
  clear hl hx hc hs hb
  go_enter Tryd.func50, Tryd.ntmps50
  go_wp2_with fail
  refine (C1.out _).mono ?_
  rintro e w1 ⟨rfl, hb1⟩
  have hbw1 : Below w.heap.size w w1 := ((Below.refl _ _).alloc (Nat.le_refl _) _).trans (hb1.mono (by simp))
  have q0 := hb1.cell (p := ⟨w.heap.size, 0, none⟩) (by simp)
  have q1 := hb1.cell (p := ⟨w.heap.size, 1, none⟩) (by simp)
  have q2 := hb1.cell (p := ⟨w.heap.size, 2, none⟩) (by simp)
  have q3 := hb1.cell (p := ⟨w.heap.size, 3, none⟩) (by simp)
  simp at q0 q1 q2 q3
  have qg : w1.cell? ⟨gl, 0, none⟩ = _ := (hbw1.cell (lt_of_cell hg)).trans hg
  clear hb1 hg p0 p1 p2 p3 C1
  go_wp2_with fail
  refine (C2.out _).mono ?_
  rintro e w2 ⟨rfl, hb2⟩
  obtain ⟨hbw2, r0, r1, r2, r3, rg⟩ := keepV ⟨hbw1, q0, q1, q2, q3, qg⟩ hb2
  clear hb2 hbw1 q0 q1 q2 q3 qg C2
  go_wp2
  go_ret
  exact ⟨by rw [HT.out]; rfl, hbw2⟩
set_option maxRecDepth 100000 in
set_option maxHeartbeats 2000000 in
theorem trust_p3 (l : List Cf.Ins) (A : Option Addr) (cap k gl : Nat) (op a b c : Int) (w : World) (hR : Codes w A l) (hm : l.length ≤ maxLen) (hx : l[k]? = some ⟨op, a, b, c⟩) (hg : w.cell? ⟨gl, 0, none⟩ = some (.slice A l.length cap)) (hl : Cf.ldst ⟨op, a, b, c⟩ = true) (hb : b = 4) (hs : Cf.inB op 1 8 = true) (hr : Cf.inB a 4 6 = false) :
    Calls Tryd.prog 50 #[.int .i64 k, .pointer (some ⟨gl, 0, none⟩)] w fun e w' => e = .returned (.bool (Cf.trustB l k ⟨op, a, b, c⟩)) ∧ Below w.heap.size w w' := by
  have hmx : l.length ≤ 2 ^ 63 - 1 := hm
  clear hm
  have hk : k < l.length := (List.getElem?_eq_some_iff.1 hx).1
  obtain ⟨g, off, rfl, hgl, hc⟩ := hR.at_ (by intro e; rw [e] at hk; simp at hk)
  obtain ⟨p0, p1, p2, p3⟩ := hc k op a b c hx
  have HT := Lib.hid (show Cf.trustB l k ⟨op, a, b, c⟩ = true by exact trust_far hr (by simp [hb]))
  have eb := eqn hb
  have C1 := Lib.hid (fun w => paccesses_any op a b c w)
  rw [hl] at C1
  have C2 := Lib.hid (fun w => psets_any op a b c w)
  rw [hs] at C2
  have C3 := Lib.hid (fun w => preserved_any a w)
  rw [hr] at C3
  clear hl hx hc hs hr hb
  go_enter Tryd.func50, Tryd.ntmps50
  go_wp2_with fail
  refine (C1.out _).mono ?_
  rintro e w1 ⟨rfl, hb1⟩
  have hbw1 : Below w.heap.size w w1 := ((Below.refl _ _).alloc (Nat.le_refl _) _).trans (hb1.mono (by simp))
  have q0 := hb1.cell (p := ⟨w.heap.size, 0, none⟩) (by simp)
  have q1 := hb1.cell (p := ⟨w.heap.size, 1, none⟩) (by simp)
  have q2 := hb1.cell (p := ⟨w.heap.size, 2, none⟩) (by simp)
  have q3 := hb1.cell (p := ⟨w.heap.size, 3, none⟩) (by simp)
  simp at q0 q1 q2 q3
  have qg : w1.cell? ⟨gl, 0, none⟩ = _ := (hbw1.cell (lt_of_cell hg)).trans hg
  clear hb1 hg p0 p1 p2 p3 C1
  go_wp2_with fail
  refine (C2.out _).mono ?_
  rintro e w2 ⟨rfl, hb2⟩
  obtain ⟨hbw2, r0, r1, r2, r3, rg⟩ := keepV ⟨hbw1, q0, q1, q2, q3, qg⟩ hb2
  clear hb2 hbw1 q0 q1 q2 q3 qg C2
  go_wp2_with fail
  refine (C3.out _).mono ?_
  rintro e w' ⟨rfl, rfl⟩
  clear C3
  go_wp2
  go_ret
  exact ⟨by rw [HT.out]; rfl, hbw2⟩
set_option maxRecDepth 100000 in
set_option maxHeartbeats 2000000 in
theorem trust_p5 (l : List Cf.Ins) (A : Option Addr) (cap k gl : Nat) (op a b c : Int) (w : World) (hR : Codes w A l) (hm : l.length ≤ maxLen) (hx : l[k]? = some ⟨op, a, b, c⟩) (hg : w.cell? ⟨gl, 0, none⟩ = some (.slice A l.length cap)) (hl : Cf.ldst ⟨op, a, b, c⟩ = false) (hs : Cf.inB op 1 8 = false) :
    Calls Tryd.prog 50 #[.int .i64 k, .pointer (some ⟨gl, 0, none⟩)] w fun e w' => e = .returned (.bool (Cf.trustB l k ⟨op, a, b, c⟩)) ∧ Below w.heap.size w w' := by
  have hmx : l.length ≤ 2 ^ 63 - 1 := hm
  clear hm
  have hk : k < l.length := (List.getElem?_eq_some_iff.1 hx).1
  obtain ⟨g, off, rfl, hgl, hc⟩ := hR.at_ (by intro e; rw [e] at hk; simp at hk)
  obtain ⟨p0, p1, p2, p3⟩ := hc k op a b c hx
  have HT := Lib.hid (show Cf.trustB l k ⟨op, a, b, c⟩ = true by simp [Cf.trustB, Cf.destB, hl, hs])
  have C1 := Lib.hid (fun w => paccesses_any op a b c w)
  rw [hl] at C1
  have C2 := Lib.hid (fun w => psets_any op a b c w)
  rw [hs] at C2
  clear hl hx hc hs
  go_enter Tryd.func50, Tryd.ntmps50
  go_wp2_with fail
  refine (C1.out _).mono ?_
  rintro e w1 ⟨rfl, hb1⟩
  have hbw1 : Below w.heap.size w w1 := ((Below.refl _ _).alloc (Nat.le_refl _) _).trans (hb1.mono (by simp))
  have q0 := hb1.cell (p := ⟨w.heap.size, 0, none⟩) (by simp)
  have q1 := hb1.cell (p := ⟨w.heap.size, 1, none⟩) (by simp)
  have q2 := hb1.cell (p := ⟨w.heap.size, 2, none⟩) (by simp)
  have q3 := hb1.cell (p := ⟨w.heap.size, 3, none⟩) (by simp)
  simp at q0 q1 q2 q3
  have qg : w1.cell? ⟨gl, 0, none⟩ = _ := (hbw1.cell (lt_of_cell hg)).trans hg
  clear hb1 hg p0 p1 p2 p3 C1
  go_wp2_with fail
  refine (C2.out _).mono ?_
  rintro e w2 ⟨rfl, hb2⟩
  obtain ⟨hbw2, r0, r1, r2, r3, rg⟩ := keepV ⟨hbw1, q0, q1, q2, q3, qg⟩ hb2
  clear hb2 hbw1 q0 q1 q2 q3 qg C2
  go_wp2
  go_ret
  exact ⟨by rw [HT.out]; rfl, hbw2⟩
set_option maxRecDepth 100000 in
set_option maxHeartbeats 2000000 in
theorem trust_p6 (l : List Cf.Ins) (A : Option Addr) (cap k gl : Nat) (op a b c : Int) (w : World) (hR : Codes w A l) (hm : l.length ≤ maxLen) (hx : l[k]? = some ⟨op, a, b, c⟩) (hg : w.cell? ⟨gl, 0, none⟩ = some (.slice A l.length cap)) (hl : Cf.ldst ⟨op, a, b, c⟩ = false) (hs : Cf.inB op 1 8 = true) (hr : Cf.inB a 4 6 = false) :
    Calls Tryd.prog 50 #[.int .i64 k, .pointer (some ⟨gl, 0, none⟩)] w fun e w' => e = .returned (.bool (Cf.trustB l k ⟨op, a, b, c⟩)) ∧ Below w.heap.size w w' := by
  have hmx : l.length ≤ 2 ^ 63 - 1 := hm
  clear hm
  have hk : k < l.length := (List.getElem?_eq_some_iff.1 hx).1
  obtain ⟨g, off, rfl, hgl, hc⟩ := hR.at_ (by intro e; rw [e] at hk; simp at hk)
  obtain ⟨p0, p1, p2, p3⟩ := hc k op a b c hx
  have HT := Lib.hid (show Cf.trustB l k ⟨op, a, b, c⟩ = true by exact trust_far hr (by simp [hl]))
  have C1 := Lib.hid (fun w => paccesses_any op a b c w)
  rw [hl] at C1
  have C2 := Lib.hid (fun w => psets_any op a b c w)
  rw [hs] at C2
  have C3 := Lib.hid (fun w => preserved_any a w)
  rw [hr] at C3
  clear hl hx hc hs hr
  go_enter Tryd.func50, Tryd.ntmps50
  go_wp2_with fail
  refine (C1.out _).mono ?_
  rintro e w1 ⟨rfl, hb1⟩
  have hbw1 : Below w.heap.size w w1 := ((Below.refl _ _).alloc (Nat.le_refl _) _).trans (hb1.mono (by simp))
  have q0 := hb1.cell (p := ⟨w.heap.size, 0, none⟩) (by simp)
  have q1 := hb1.cell (p := ⟨w.heap.size, 1, none⟩) (by simp)
  have q2 := hb1.cell (p := ⟨w.heap.size, 2, none⟩) (by simp)
  have q3 := hb1.cell (p := ⟨w.heap.size, 3, none⟩) (by simp)
  simp at q0 q1 q2 q3
  have qg : w1.cell? ⟨gl, 0, none⟩ = _ := (hbw1.cell (lt_of_cell hg)).trans hg
  clear hb1 hg p0 p1 p2 p3 C1
  go_wp2_with fail
  refine (C2.out _).mono ?_
  rintro e w2 ⟨rfl, hb2⟩
  obtain ⟨hbw2, r0, r1, r2, r3, rg⟩ := keepV ⟨hbw1, q0, q1, q2, q3, qg⟩ hb2
  clear hb2 hbw1 q0 q1 q2 q3 qg C2
  go_wp2_with fail
  refine (C3.out _).mono ?_
  rintro e w' ⟨rfl, rfl⟩
  clear C3
  go_wp2
  go_ret
  exact ⟨by rw [HT.out]; rfl, hbw2⟩
end Go.Proofs.YtnnhhbjbdmgpiaaDoor
