/- Texts of the proofs: TrustW, TrustX. -/
import Derived.Deep.CutRange
import Derived.Test.YtnnhhbjbdmgpiaaGreatDoorJ03
import Derived.Test.YtnnhhbjbdmgpiaaGreatDoorJ05
import Derived.Test.YtnnhhbjbdmgpiaaGreatDoorJ13
set_option linter.unusedSimpArgs false
set_option linter.unusedVariables false
/- Walks of chapter 3: the program's test of one instruction (the closure of safe.Verify). -/
namespace Go.Proofs.YtnnhhbjbdmgpiaaGreatDoor
set_option maxRecDepth 100000
open Go.RowKit
theorem keepV {w W W' : World} {br gl : Nat} {v0 v1 v2 v3 s : Value} (h : Below w.heap.size w W ∧ W.cell? ⟨br, 0, none⟩ = some v0 ∧ W.cell? ⟨br, 1, none⟩ = some v1 ∧ W.cell? ⟨br, 2, none⟩ = some v2 ∧ W.cell? ⟨br, 3, none⟩ = some v3 ∧ W.cell? ⟨gl, 0, none⟩ = some s) (hb : Below W.heap.size W W') :
  Below w.heap.size w W' ∧ W'.cell? ⟨br, 0, none⟩ = some v0 ∧ W'.cell? ⟨br, 1, none⟩ = some v1 ∧ W'.cell? ⟨br, 2, none⟩ = some v2 ∧ W'.cell? ⟨br, 3, none⟩ = some v3 ∧ W'.cell? ⟨gl, 0, none⟩ = some s := by
 obtain ⟨h0, h1, h2, h3, h4, h5⟩ := h
 exact ⟨h0.trans (hb.mono h0.size), (hb.cell (lt_of_cell h1)).trans h1, (hb.cell (lt_of_cell h2)).trans h2, (hb.cell (lt_of_cell h3)).trans h3, (hb.cell (lt_of_cell h4)).trans h4, (hb.cell (lt_of_cell h5)).trans h5⟩
theorem keepN {w W W' : World} {br gl g o0 o1 o2 o3 : Nat} {v0 v1 v2 v3 s u0 u1 u2 u3 : Value} (h : Below w.heap.size w W ∧ W.cell? ⟨br, 0, none⟩ = some v0 ∧ W.cell? ⟨br, 1, none⟩ = some v1 ∧ W.cell? ⟨br, 2, none⟩ = some v2 ∧ W.cell? ⟨br, 3, none⟩ = some v3 ∧ W.cell? ⟨gl, 0, none⟩ = some s ∧ W.cell? ⟨g, o0, none⟩ = some u0 ∧ W.cell? ⟨g, o1, none⟩ = some u1 ∧ W.cell? ⟨g, o2, none⟩ = some u2 ∧ W.cell? ⟨g, o3, none⟩ = some u3) (hb : Below W.heap.size W W') :
  Below w.heap.size w W' ∧ W'.cell? ⟨br, 0, none⟩ = some v0 ∧ W'.cell? ⟨br, 1, none⟩ = some v1 ∧ W'.cell? ⟨br, 2, none⟩ = some v2 ∧ W'.cell? ⟨br, 3, none⟩ = some v3 ∧ W'.cell? ⟨gl, 0, none⟩ = some s ∧ W'.cell? ⟨g, o0, none⟩ = some u0 ∧ W'.cell? ⟨g, o1, none⟩ = some u1 ∧ W'.cell? ⟨g, o2, none⟩ = some u2 ∧ W'.cell? ⟨g, o3, none⟩ = some u3 := by
 obtain ⟨h0, h1, h2, h3, h4, h5, h6, h7, h8, h9⟩ := h
 exact ⟨h0.trans (hb.mono h0.size), (hb.cell (lt_of_cell h1)).trans h1, (hb.cell (lt_of_cell h2)).trans h2, (hb.cell (lt_of_cell h3)).trans h3, (hb.cell (lt_of_cell h4)).trans h4, (hb.cell (lt_of_cell h5)).trans h5, (hb.cell (lt_of_cell h6)).trans h6, (hb.cell (lt_of_cell h7)).trans h7, (hb.cell (lt_of_cell h8)).trans h8, (hb.cell (lt_of_cell h9)).trans h9⟩
theorem add_fit (k : Nat) (h : k + 1 ≤ 2 ^ 63 - 1) : IntKind.i64.wrap ((k : Int) + 1) = (k : Int) + 1 := by
 rw [IntKind.wrap_i64]
 omega
theorem trust_far {l : List Cf.Ins} {k : Nat} {op a b c : Int} (hr : Cf.inB a 4 6 = false) (hb : (!Cf.ldst ⟨op, a, b, c⟩ || decide (b = 4)) = true) : Cf.trustB l k ⟨op, a, b, c⟩ = true := by
 have h : a < 4 ∨ 6 < a := by simp [Cf.inB] at hr; omega
 unfold Cf.trustB
 rw [show (!Cf.ldst ⟨op, a, b, c⟩ || decide ((⟨op, a, b, c⟩ : Cf.Ins).b = 4)) = true from hb]
 unfold Cf.destB
 split
 ·rw [if_neg (by dsimp only; omega), if_neg (by dsimp only; omega)]; rfl
 ·rfl
theorem trust_no {l : List Cf.Ins} {k : Nat} {op a b c : Int} (hs : Cf.inB op 1 8 = true) (hr : Cf.inB a 4 6 = true) (n1 : ¬ (op = 5 ∧ a = 4 ∧ b = 4 ∧ c = 5)) (n2 : ¬ (op = 4 ∧ a = 4 ∧ c = 6)) : Cf.trustB l k ⟨op, a, b, c⟩ = false := by
 have h : 4 ≤ a ∧ a ≤ 6 := by simpa [Cf.inB] using hr
 unfold Cf.trustB
 have hd : Cf.destB l k ⟨op, a, b, c⟩ = false := by
  unfold Cf.destB
  rw [if_pos hs]
  by_cases h56 : a = 5 ∨ a = 6
  ·rw [if_pos h56]
  ·rw [if_neg h56]
   have h4 : a = 4 := by omega
   have ho : Cf.orBaseB ⟨op, a, b, c⟩ = false := by
    cases hq : Cf.orBaseB ⟨op, a, b, c⟩ with
    | false => rfl
    | true => exact absurd (Cf.orBase_parts hq) n1
   rw [if_pos ⟨h4, ho⟩]
   cases hq : (decide (op = 4) && (decide (c = 6) && Cf.nextB l k)) with
   | false => rfl
   | true =>
     simp only [Bool.and_eq_true, decide_eq_true_eq] at hq
     exact absurd ⟨hq.1, h4, hq.2.1⟩ n2
 rw [hd, Bool.and_false]
theorem trust_mask {l : List Cf.Ins} {k : Nat} {b : Int} : Cf.trustB l k ⟨4, 4, b, 6⟩ = Cf.nextB l k := by
 simp [Cf.trustB, Cf.ldst, Cf.destB, Cf.inB, Cf.orBaseB]
set_option maxRecDepth 100000 in
set_option maxHeartbeats 2000000 in
theorem trust_p1 (l : List Cf.Ins) (A : Option Addr) (cap k gl : Nat) (op a b c : Int) (w : World) (hR : Codes w A l) (hm : l.length ≤ maxLen) (hx : l[k]? = some ⟨op, a, b, c⟩) (hg : w.cell? ⟨gl, 0, none⟩ = some (.slice A l.length cap)) (hl : Cf.ldst ⟨op, a, b, c⟩ = true) (hb : ¬ b = 4) :
  Calls Tryz.prog 152 #[.int .i64 k, .pointer (some ⟨gl, 0, none⟩)] w fun e w' => e = .returned (.bool (Cf.trustB l k ⟨op, a, b, c⟩)) ∧ Below w.heap.size w w' := by
 have hmx : l.length ≤ 2 ^ 63 - 1 := hm
 clear hm
 have hk : k < l.length := (List.getElem?_eq_some_iff.1 hx).1
 obtain ⟨g, off, rfl, hgl, hc⟩ := hR.at_ (by intro e; rw [e] at hk; simp at hk)
 obtain ⟨p0, p1, p2, p3⟩ := hc k op a b c hx
 have HT := Lib.hid (show Cf.trustB l k ⟨op, a, b, c⟩ = false by simp [Cf.trustB, hl, hb])
 have eb := nen hb
 have C1 := Lib.hid (fun w => paccesses_any op a b c w)
 rw [hl] at C1
 clear hl hx hc hb
 go_enter Tryz.func152, Tryz.ntmps152
 go_wp2_with fail
 refine (C1.out _).mono ?_
 rintro e w1 ⟨rfl, hb1⟩
 have hbw1 : Below w.heap.size w w1 := ((Below.refl _ _).alloc (Nat.le_refl _) _).trans (hb1.mono (by simp))
 have q0 := hb1.cell (p := ⟨w.heap.size, 0, none⟩) (by simp)
 have q1 := hb1.cell (p := ⟨w.heap.size, 1, none⟩) (by simp)
 have q2 := hb1.cell (p := ⟨w.heap.size, 2, none⟩) (by simp)
 have q3 := hb1.cell (p := ⟨w.heap.size, 3, none⟩) (by simp)
 simp at q0 q1 q2 q3
 have qg : w1.cell? ⟨gl, 0, none⟩ = _ := (hbw1.cell (lt_of_cell hg)).trans hg
 clear hb1 hg p0 p1 p2 p3 C1
 go_wp2
 go_ret
 exact ⟨by rw [HT.out]; rfl, hbw1⟩
set_option maxRecDepth 100000 in
set_option maxHeartbeats 2000000 in
theorem trust_p2 (l : List Cf.Ins) (A : Option Addr) (cap k gl : Nat) (op a b c : Int) (w : World) (hR : Codes w A l) (hm : l.length ≤ maxLen) (hx : l[k]? = some ⟨op, a, b, c⟩) (hg : w.cell? ⟨gl, 0, none⟩ = some (.slice A l.length cap)) (hl : Cf.ldst ⟨op, a, b, c⟩ = true) (hb : b = 4) (hs : Cf.inB op 1 8 = false) :
  Calls Tryz.prog 152 #[.int .i64 k, .pointer (some ⟨gl, 0, none⟩)] w fun e w' => e = .returned (.bool (Cf.trustB l k ⟨op, a, b, c⟩)) ∧ Below w.heap.size w w' := by
 have hmx : l.length ≤ 2 ^ 63 - 1 := hm
 clear hm
 have hk : k < l.length := (List.getElem?_eq_some_iff.1 hx).1
 obtain ⟨g, off, rfl, hgl, hc⟩ := hR.at_ (by intro e; rw [e] at hk; simp at hk)
 obtain ⟨p0, p1, p2, p3⟩ := hc k op a b c hx
 have HT := Lib.hid (show Cf.trustB l k ⟨op, a, b, c⟩ = true by simp [Cf.trustB, Cf.destB, hb, hs])
 have eb := eqn hb
 have C1 := Lib.hid (fun w => paccesses_any op a b c w)
 rw [hl] at C1
 have C2 := Lib.hid (fun w => psets_any op a b c w)
 rw [hs] at C2
 clear hl hx hc hs hb
 go_enter Tryz.func152, Tryz.ntmps152
 go_wp2_with fail
 refine (C1.out _).mono ?_
 rintro e w1 ⟨rfl, hb1⟩
 have hbw1 : Below w.heap.size w w1 := ((Below.refl _ _).alloc (Nat.le_refl _) _).trans (hb1.mono (by simp))
 have q0 := hb1.cell (p := ⟨w.heap.size, 0, none⟩) (by simp)
 have q1 := hb1.cell (p := ⟨w.heap.size, 1, none⟩) (by simp)
 have q2 := hb1.cell (p := ⟨w.heap.size, 2, none⟩) (by simp)
 have q3 := hb1.cell (p := ⟨w.heap.size, 3, none⟩) (by simp)
 simp at q0 q1 q2 q3
 have qg : w1.cell? ⟨gl, 0, none⟩ = _ := (hbw1.cell (lt_of_cell hg)).trans hg
 clear hb1 hg p0 p1 p2 p3 C1
 go_wp2_with fail
 refine (C2.out _).mono ?_
 rintro e w2 ⟨rfl, hb2⟩
 obtain ⟨hbw2, r0, r1, r2, r3, rg⟩ := keepV ⟨hbw1, q0, q1, q2, q3, qg⟩ hb2
 clear hb2 hbw1 q0 q1 q2 q3 qg C2
 go_wp2
 go_ret
 exact ⟨by rw [HT.out]; rfl, hbw2⟩
set_option maxRecDepth 100000 in
set_option maxHeartbeats 2000000 in
theorem trust_p3 (l : List Cf.Ins) (A : Option Addr) (cap k gl : Nat) (op a b c : Int) (w : World) (hR : Codes w A l) (hm : l.length ≤ maxLen) (hx : l[k]? = some ⟨op, a, b, c⟩) (hg : w.cell? ⟨gl, 0, none⟩ = some (.slice A l.length cap)) (hl : Cf.ldst ⟨op, a, b, c⟩ = true) (hb : b = 4) (hs : Cf.inB op 1 8 = true) (hr : Cf.inB a 4 6 = false) :
  Calls Tryz.prog 152 #[.int .i64 k, .pointer (some ⟨gl, 0, none⟩)] w fun e w' => e = .returned (.bool (Cf.trustB l k ⟨op, a, b, c⟩)) ∧ Below w.heap.size w w' := by
 have hmx : l.length ≤ 2 ^ 63 - 1 := hm
 clear hm
 have hk : k < l.length := (List.getElem?_eq_some_iff.1 hx).1
 obtain ⟨g, off, rfl, hgl, hc⟩ := hR.at_ (by intro e; rw [e] at hk; simp at hk)
 obtain ⟨p0, p1, p2, p3⟩ := hc k op a b c hx
 have HT := Lib.hid (show Cf.trustB l k ⟨op, a, b, c⟩ = true by exact trust_far hr (by simp [hb]))
 have eb := eqn hb
 have C1 := Lib.hid (fun w => paccesses_any op a b c w)
 rw [hl] at C1
 have C2 := Lib.hid (fun w => psets_any op a b c w)
 rw [hs] at C2
 have C3 := Lib.hid (fun w => preserved_any a w)
 rw [hr] at C3
 clear hl hx hc hs hr hb
 go_enter Tryz.func152, Tryz.ntmps152
 go_wp2_with fail
 refine (C1.out _).mono ?_
 rintro e w1 ⟨rfl, hb1⟩
 have hbw1 : Below w.heap.size w w1 := ((Below.refl _ _).alloc (Nat.le_refl _) _).trans (hb1.mono (by simp))
 have q0 := hb1.cell (p := ⟨w.heap.size, 0, none⟩) (by simp)
 have q1 := hb1.cell (p := ⟨w.heap.size, 1, none⟩) (by simp)
 have q2 := hb1.cell (p := ⟨w.heap.size, 2, none⟩) (by simp)
 have q3 := hb1.cell (p := ⟨w.heap.size, 3, none⟩) (by simp)
 simp at q0 q1 q2 q3
 have qg : w1.cell? ⟨gl, 0, none⟩ = _ := (hbw1.cell (lt_of_cell hg)).trans hg
 clear hb1 hg p0 p1 p2 p3 C1
 go_wp2_with fail
 refine (C2.out _).mono ?_
 rintro e w2 ⟨rfl, hb2⟩
 obtain ⟨hbw2, r0, r1, r2, r3, rg⟩ := keepV ⟨hbw1, q0, q1, q2, q3, qg⟩ hb2
 clear hb2 hbw1 q0 q1 q2 q3 qg C2
 go_wp2_with fail
 refine (C3.out _).mono ?_
 rintro e w' ⟨rfl, rfl⟩
 clear C3
 go_wp2
 go_ret
 exact ⟨by rw [HT.out]; rfl, hbw2⟩
set_option maxRecDepth 100000 in
set_option maxHeartbeats 2000000 in
theorem trust_p5 (l : List Cf.Ins) (A : Option Addr) (cap k gl : Nat) (op a b c : Int) (w : World) (hR : Codes w A l) (hm : l.length ≤ maxLen) (hx : l[k]? = some ⟨op, a, b, c⟩) (hg : w.cell? ⟨gl, 0, none⟩ = some (.slice A l.length cap)) (hl : Cf.ldst ⟨op, a, b, c⟩ = false) (hs : Cf.inB op 1 8 = false) :
  Calls Tryz.prog 152 #[.int .i64 k, .pointer (some ⟨gl, 0, none⟩)] w fun e w' => e = .returned (.bool (Cf.trustB l k ⟨op, a, b, c⟩)) ∧ Below w.heap.size w w' := by
 have hmx : l.length ≤ 2 ^ 63 - 1 := hm
 clear hm
 have hk : k < l.length := (List.getElem?_eq_some_iff.1 hx).1
 obtain ⟨g, off, rfl, hgl, hc⟩ := hR.at_ (by intro e; rw [e] at hk; simp at hk)
 obtain ⟨p0, p1, p2, p3⟩ := hc k op a b c hx
 have HT := Lib.hid (show Cf.trustB l k ⟨op, a, b, c⟩ = true by simp [Cf.trustB, Cf.destB, hl, hs])
 have C1 := Lib.hid (fun w => paccesses_any op a b c w)
 rw [hl] at C1
 have C2 := Lib.hid (fun w => psets_any op a b c w)
 rw [hs] at C2
 clear hl hx hc hs
 go_enter Tryz.func152, Tryz.ntmps152
 go_wp2_with fail
 refine (C1.out _).mono ?_
 rintro e w1 ⟨rfl, hb1⟩
 have hbw1 : Below w.heap.size w w1 := ((Below.refl _ _).alloc (Nat.le_refl _) _).trans (hb1.mono (by simp))
 have q0 := hb1.cell (p := ⟨w.heap.size, 0, none⟩) (by simp)
 have q1 := hb1.cell (p := ⟨w.heap.size, 1, none⟩) (by simp)
 have q2 := hb1.cell (p := ⟨w.heap.size, 2, none⟩) (by simp)
 have q3 := hb1.cell (p := ⟨w.heap.size, 3, none⟩) (by simp)
 simp at q0 q1 q2 q3
 have qg : w1.cell? ⟨gl, 0, none⟩ = _ := (hbw1.cell (lt_of_cell hg)).trans hg
 clear hb1 hg p0 p1 p2 p3 C1
 go_wp2_with fail
 refine (C2.out _).mono ?_
 rintro e w2 ⟨rfl, hb2⟩
 obtain ⟨hbw2, r0, r1, r2, r3, rg⟩ := keepV ⟨hbw1, q0, q1, q2, q3, qg⟩ hb2
 clear hb2 hbw1 q0 q1 q2 q3 qg C2
 go_wp2
 go_ret
 exact ⟨by rw [HT.out]; rfl, hbw2⟩
set_option maxRecDepth 100000 in
set_option maxHeartbeats 2000000 in
theorem trust_p6 (l : List Cf.Ins) (A : Option Addr) (cap k gl : Nat) (op a b c : Int) (w : World) (hR : Codes w A l) (hm : l.length ≤ maxLen) (hx : l[k]? = some ⟨op, a, b, c⟩) (hg : w.cell? ⟨gl, 0, none⟩ = some (.slice A l.length cap)) (hl : Cf.ldst ⟨op, a, b, c⟩ = false) (hs : Cf.inB op 1 8 = true) (hr : Cf.inB a 4 6 = false) :
  Calls Tryz.prog 152 #[.int .i64 k, .pointer (some ⟨gl, 0, none⟩)] w fun e w' => e = .returned (.bool (Cf.trustB l k ⟨op, a, b, c⟩)) ∧ Below w.heap.size w w' := by
 have hmx : l.length ≤ 2 ^ 63 - 1 := hm
 clear hm
 have hk : k < l.length := (List.getElem?_eq_some_iff.1 hx).1
 obtain ⟨g, off, rfl, hgl, hc⟩ := hR.at_ (by intro e; rw [e] at hk; simp at hk)
 obtain ⟨p0, p1, p2, p3⟩ := hc k op a b c hx
 have HT := Lib.hid (show Cf.trustB l k ⟨op, a, b, c⟩ = true by exact trust_far hr (by simp [hl]))
 have C1 := Lib.hid (fun w => paccesses_any op a b c w)
 rw [hl] at C1
 have C2 := Lib.hid (fun w => psets_any op a b c w)
 rw [hs] at C2
 have C3 := Lib.hid (fun w => preserved_any a w)
 rw [hr] at C3
 clear hl hx hc hs hr
 go_enter Tryz.func152, Tryz.ntmps152
 go_wp2_with fail
 refine (C1.out _).mono ?_
 rintro e w1 ⟨rfl, hb1⟩
 have hbw1 : Below w.heap.size w w1 := ((Below.refl _ _).alloc (Nat.le_refl _) _).trans (hb1.mono (by simp))
 have q0 := hb1.cell (p := ⟨w.heap.size, 0, none⟩) (by simp)
 have q1 := hb1.cell (p := ⟨w.heap.size, 1, none⟩) (by simp)
 have q2 := hb1.cell (p := ⟨w.heap.size, 2, none⟩) (by simp)
 have q3 := hb1.cell (p := ⟨w.heap.size, 3, none⟩) (by simp)
 simp at q0 q1 q2 q3
 have qg : w1.cell? ⟨gl, 0, none⟩ = _ := (hbw1.cell (lt_of_cell hg)).trans hg
 clear hb1 hg p0 p1 p2 p3 C1
 go_wp2_with fail
 refine (C2.out _).mono ?_
 rintro e w2 ⟨rfl, hb2⟩
 obtain ⟨hbw2, r0, r1, r2, r3, rg⟩ := keepV ⟨hbw1, q0, q1, q2, q3, qg⟩ hb2
 clear hb2 hbw1 q0 q1 q2 q3 qg C2
 go_wp2_with fail
 refine (C3.out _).mono ?_
 rintro e w' ⟨rfl, rfl⟩
 clear C3
 go_wp2
 go_ret
 exact ⟨by rw [HT.out]; rfl, hbw2⟩
end Go.Proofs.YtnnhhbjbdmgpiaaGreatDoor
/- Walks of chapter 3: the program's test of one instruction, further cases. -/
namespace Go.Proofs.YtnnhhbjbdmgpiaaGreatDoor
set_option maxRecDepth 100000
open Go.RowKit
set_option maxRecDepth 100000 in
set_option maxHeartbeats 2000000 in
theorem trust_w2 (l : List Cf.Ins) (A : Option Addr) (cap k gl : Nat) (op a b c : Int) (w : World) (hR : Codes w A l) (hm : l.length ≤ maxLen) (hx : l[k]? = some ⟨op, a, b, c⟩) (hg : w.cell? ⟨gl, 0, none⟩ = some (.slice A l.length cap)) (hl : Cf.ldst ⟨op, a, b, c⟩ = false) (hs : Cf.inB op 1 8 = true) (hr : Cf.inB a 4 6 = true) (n1 : ¬ (op = 5 ∧ a = 4 ∧ b = 4 ∧ c = 5)) (n2 : ¬ (op = 4 ∧ a = 4 ∧ c = 6)) :
  Calls Tryz.prog 152 #[.int .i64 k, .pointer (some ⟨gl, 0, none⟩)] w fun e w' => e = .returned (.bool (Cf.trustB l k ⟨op, a, b, c⟩)) ∧ Below w.heap.size w w' := by
 have hmx : l.length ≤ 2 ^ 63 - 1 := hm
 clear hm
 have hk : k < l.length := (List.getElem?_eq_some_iff.1 hx).1
 obtain ⟨g, off, rfl, hgl, hc⟩ := hR.at_ (by intro e; rw [e] at hk; simp at hk)
 obtain ⟨p0, p1, p2, p3⟩ := hc k op a b c hx
 have HT := Lib.hid (show Cf.trustB l k ⟨op, a, b, c⟩ = false by exact trust_no hs hr n1 n2)
 have N1 := Lib.hid n1
 have N2 := Lib.hid n2
 have C1 := Lib.hid (fun w => paccesses_any op a b c w)
 rw [hl] at C1
 have C2 := Lib.hid (fun w => psets_any op a b c w)
 rw [hs] at C2
 have C3 := Lib.hid (fun w => preserved_any a w)
 rw [hr] at C3
 clear hl hx hs hr n1 n2 hc
 go_enter Tryz.func152, Tryz.ntmps152
 go_wp2_with fail
 refine (C1.out _).mono ?_
 rintro e w1 ⟨rfl, hb1⟩
 have hbw1 : Below w.heap.size w w1 := ((Below.refl _ _).alloc (Nat.le_refl _) _).trans (hb1.mono (by simp))
 have q0 := hb1.cell (p := ⟨w.heap.size, 0, none⟩) (by simp)
 have q1 := hb1.cell (p := ⟨w.heap.size, 1, none⟩) (by simp)
 have q2 := hb1.cell (p := ⟨w.heap.size, 2, none⟩) (by simp)
 have q3 := hb1.cell (p := ⟨w.heap.size, 3, none⟩) (by simp)
 simp at q0 q1 q2 q3
 have qg : w1.cell? ⟨gl, 0, none⟩ = _ := (hbw1.cell (lt_of_cell hg)).trans hg
 clear hb1 hg p0 p1 p2 p3 C1
 go_wp2_with fail
 refine (C2.out _).mono ?_
 rintro e w2 ⟨rfl, hb2⟩
 obtain ⟨hbw2, r0, r1, r2, r3, rg⟩ := keepV ⟨hbw1, q0, q1, q2, q3, qg⟩ hb2
 clear hb2 hbw1 q0 q1 q2 q3 qg C2
 go_wp2_with fail
 refine (C3.out _).mono ?_
 rintro e w' ⟨rfl, rfl⟩
 clear C3
 go_upto_region 6 with fail
 refine wp_region_noPanic ?_
 refine wp_region_held_drew (S := fun W => Below w.heap.size w W ∧ W.cell? ⟨w.heap.size, 0, none⟩ = some (.int .i64 op) ∧ W.cell? ⟨w.heap.size, 1, none⟩ = some (.int .i64 a) ∧ W.cell? ⟨w.heap.size, 2, none⟩ = some (.int .i64 b) ∧ W.cell? ⟨w.heap.size, 3, none⟩ = some (.int .i64 c) ∧ W.cell? ⟨gl, 0, none⟩ = some (.slice (some ⟨g, off, none⟩) l.length cap)) (by kernel_rfl) ⟨hbw2.drew, r0, r1, r2, r3, rg⟩ (fun hHeld => ?_)
 refine wpAnyH_take (i := 0) (oi := { dst := some 25, op := Op.load 121 (Operand.tmp 4), type := 121, pos := "safe.go:20", after := #[], guard := none }) (v := .agg #[.int .i64 op, .int .i64 a, .int .i64 b, .int .i64 c]) rfl (by kernel_rfl) (by kernel_rfl) (by kernel_rfl) (fun _ _ _ h => h) (Or.inl ⟨by kernel_rfl, fun w hSw => by ((try dsimp only at hSw); go_simp)⟩) hHeld ?_
 (try simp only [Act.put, List.setIfInBounds_toArray, List.set_cons_zero, List.set_cons_succ])
 refine wpAnyH_ready (rs := [1]) (by kernel_rfl) (by simp) ?_
 refine AllReadyH.cons (o := { dst := some 26, op := Op.call { callee := Callee.value (Operand.func 102), args := #[], argTypes := #[] }, type := 121, pos := "safe.go:20", after := #[], guard := none }) rfl (fun K hK => ?_) AllReadyH.nil
 go_simp
 go_at_call 102; refine (prebase_any _).mono ?_; rintro e w' ⟨rfl, hb'⟩
 go_wp2_with fail
 refine hK.out _ _ (keepV hHeld hb') (fun hHeld => ?_)
 clear hK K hb'
 (try simp only [Act.put, List.setIfInBounds_toArray, List.set_cons_zero, List.set_cons_succ])
 refine wpAnyH_take (i := 2) (oi := { dst := some 27, op := Op.binOp BinOp.eql 121 (Operand.tmp 25) (Operand.tmp 26) 121, type := 4, pos := "safe.go:20", after := #[{ on := 0, ground := Ground.data }, { on := 1, ground := Ground.data }], guard := none }) (v := .bool false) rfl (by kernel_rfl) (by kernel_rfl) (by kernel_rfl) (fun _ _ _ h => h) (Or.inl ⟨by kernel_rfl, fun w hSw => by ((try dsimp only at hSw); go_simp; exact fun e1 e2 e3 e4 => N1.out ⟨e1, e2, e3, e4⟩)⟩) hHeld ?_
 (try simp only [Act.put, List.setIfInBounds_toArray, List.set_cons_zero, List.set_cons_succ])
 refine wpAnyH_take (i := 3) (oi := { dst := some 28, op := Op.move (Operand.tmp 27), type := 4, pos := "safe.go:20", after := #[{ on := 2, ground := Ground.data }, { on := 1, ground := Ground.chain }], guard := none }) (v := .bool false) rfl (by kernel_rfl) (by kernel_rfl) (by kernel_rfl) (fun _ _ _ h => h) (Or.inl ⟨by kernel_rfl, fun w hSw => by ((try dsimp only at hSw); go_simp)⟩) hHeld ?_
 (try simp only [Act.put, List.setIfInBounds_toArray, List.set_cons_zero, List.set_cons_succ])
 refine wpAnyH_take (i := 4) (oi := { dst := some 29, op := Op.load 121 (Operand.tmp 4), type := 121, pos := "safe.go:20", after := #[{ on := 3, ground := Ground.guard }], guard := some (3, false) }) (v := .agg #[.int .i64 op, .int .i64 a, .int .i64 b, .int .i64 c]) rfl (by kernel_rfl) (by kernel_rfl) (by kernel_rfl) (fun _ _ _ h => h) (Or.inl ⟨by kernel_rfl, fun w hSw => by ((try dsimp only at hSw); go_simp)⟩) hHeld ?_
 (try simp only [Act.put, List.setIfInBounds_toArray, List.set_cons_zero, List.set_cons_succ])
 refine wpAnyH_take (i := 5) (oi := { dst := some 30, op := Op.fieldAddr 121 (Operand.tmp 4) 2, type := 0, pos := "safe.go:20", after := #[{ on := 3, ground := Ground.guard }], guard := some (3, false) }) (v := .pointer (some ⟨w.heap.size, 2, none⟩)) rfl (by kernel_rfl) (by kernel_rfl) (by kernel_rfl) (fun _ _ _ h => h) (Or.inl ⟨by kernel_rfl, fun w hSw => by ((try dsimp only at hSw); go_simp)⟩) hHeld ?_
 (try simp only [Act.put, List.setIfInBounds_toArray, List.set_cons_zero, List.set_cons_succ])
 refine wpAnyH_take (i := 6) (oi := { dst := some 31, op := Op.load 3 (Operand.tmp 30), type := 3, pos := "safe.go:20", after := #[{ on := 5, ground := Ground.data }, { on := 3, ground := Ground.guard }], guard := some (3, false) }) (v := .int .i64 b) rfl (by kernel_rfl) (by kernel_rfl) (by kernel_rfl) (fun _ _ _ h => h) (Or.inl ⟨by kernel_rfl, fun w hSw => by ((try dsimp only at hSw); go_simp)⟩) hHeld ?_
 (try simp only [Act.put, List.setIfInBounds_toArray, List.set_cons_zero, List.set_cons_succ])
 refine wpAnyH_ready (rs := [7]) (by kernel_rfl) (by simp) ?_
 refine AllReadyH.cons (o := { dst := some 32, op := Op.call { callee := Callee.value (Operand.func 101), args := #[Operand.tmp 31], argTypes := #[3] }, type := 121, pos := "safe.go:20", after := #[{ on := 6, ground := Ground.data }, { on := 3, ground := Ground.chain }, { on := 3, ground := Ground.guard }], guard := some (3, false) }) rfl (fun K hK => ?_) AllReadyH.nil
 go_simp
 go_at_call 101; refine (pmask_any _ _).mono ?_; rintro e w' ⟨rfl, hb'⟩
 go_wp2_with fail
 refine hK.out _ _ (keepV hHeld hb') (fun hHeld => ?_)
 clear hK K hb'
 (try simp only [Act.put, List.setIfInBounds_toArray, List.set_cons_zero, List.set_cons_succ])
 refine wpAnyH_take (i := 8) (oi := { dst := some 33, op := Op.binOp BinOp.eql 121 (Operand.tmp 29) (Operand.tmp 32) 121, type := 4, pos := "safe.go:20", after := #[{ on := 4, ground := Ground.data }, { on := 7, ground := Ground.data }, { on := 3, ground := Ground.guard }], guard := some (3, false) }) (v := .bool false) rfl (by kernel_rfl) (by kernel_rfl) (by kernel_rfl) (fun _ _ _ h => h) (Or.inl ⟨by kernel_rfl, fun w hSw => by ((try dsimp only at hSw); go_simp; exact fun e1 e2 e3 => N2.out ⟨e1, e2, e3⟩)⟩) hHeld ?_
 (try simp only [Act.put, List.setIfInBounds_toArray, List.set_cons_zero, List.set_cons_succ])
 refine wpAnyH_take (i := 9) (oi := { dst := some 34, op := Op.move (Operand.tmp 33), type := 4, pos := "safe.go:20", after := #[{ on := 8, ground := Ground.data }, { on := 7, ground := Ground.chain }, { on := 3, ground := Ground.guard }], guard := some (3, false) }) (v := .bool false) rfl (by kernel_rfl) (by kernel_rfl) (by kernel_rfl) (fun _ _ _ h => h) (Or.inl ⟨by kernel_rfl, fun w hSw => by ((try dsimp only at hSw); go_simp)⟩) hHeld ?_
 (try simp only [Act.put, List.setIfInBounds_toArray, List.set_cons_zero, List.set_cons_succ])
 refine wpAnyH_take (i := 10) (oi := { dst := some 35, op := Op.move (Operand.tmp 0), type := 3, pos := "safe.go:20", after := #[{ on := 9, ground := Ground.guard }], guard := some (9, true) }) (v := undef) rfl (by kernel_rfl) (by kernel_rfl) (by kernel_rfl) (fun _ _ _ h => h) (Or.inr ⟨by kernel_rfl, rfl⟩) hHeld ?_
 (try simp only [Act.put, List.setIfInBounds_toArray, List.set_cons_zero, List.set_cons_succ])
 refine wpAnyH_take (i := 11) (oi := { dst := some 36, op := Op.binOp BinOp.add 3 (Operand.tmp 35) (Operand.const (Value.int IntKind.i64 1)) 3, type := 3, pos := "safe.go:20", after := #[{ on := 10, ground := Ground.data }, { on := 9, ground := Ground.guard }], guard := some (9, true) }) (v := undef) rfl (by kernel_rfl) (by kernel_rfl) (by kernel_rfl) (fun _ _ _ h => h) (Or.inr ⟨by kernel_rfl, rfl⟩) hHeld ?_
 (try simp only [Act.put, List.setIfInBounds_toArray, List.set_cons_zero, List.set_cons_succ])
 refine wpAnyH_take (i := 12) (oi := { dst := some 37, op := Op.load 77 (Operand.tmp 1), type := 77, pos := "safe.go:20", after := #[{ on := 9, ground := Ground.guard }], guard := some (9, true) }) (v := undef) rfl (by kernel_rfl) (by kernel_rfl) (by kernel_rfl) (fun _ _ _ h => h) (Or.inr ⟨by kernel_rfl, rfl⟩) hHeld ?_
 (try simp only [Act.put, List.setIfInBounds_toArray, List.set_cons_zero, List.set_cons_succ])
 refine wpAnyH_take (i := 13) (oi := { dst := some 38, op := Op.call { callee := Callee.builtin Builtin.len, args := #[Operand.tmp 37], argTypes := #[77] }, type := 3, pos := "safe.go:20", after := #[{ on := 12, ground := Ground.data }, { on := 9, ground := Ground.guard }], guard := some (9, true) }) (v := undef) rfl (by kernel_rfl) (by kernel_rfl) (by kernel_rfl) (fun _ _ _ h => h) (Or.inr ⟨by kernel_rfl, rfl⟩) hHeld ?_
 (try simp only [Act.put, List.setIfInBounds_toArray, List.set_cons_zero, List.set_cons_succ])
 refine wpAnyH_take (i := 14) (oi := { dst := some 39, op := Op.binOp BinOp.lss 3 (Operand.tmp 36) (Operand.tmp 38) 3, type := 4, pos := "safe.go:20", after := #[{ on := 11, ground := Ground.data }, { on := 13, ground := Ground.data }, { on := 9, ground := Ground.guard }], guard := some (9, true) }) (v := undef) rfl (by kernel_rfl) (by kernel_rfl) (by kernel_rfl) (fun _ _ _ h => h) (Or.inr ⟨by kernel_rfl, rfl⟩) hHeld ?_
 (try simp only [Act.put, List.setIfInBounds_toArray, List.set_cons_zero, List.set_cons_succ])
 refine wpAnyH_take (i := 15) (oi := { dst := some 40, op := Op.pick (Operand.tmp 34) (Operand.tmp 39) (Operand.const (Value.bool false)), type := 4, pos := "safe.go:20", after := #[{ on := 9, ground := Ground.data }, { on := 14, ground := Ground.data }, { on := 3, ground := Ground.guard }], guard := some (3, false) }) (v := .bool false) rfl (by kernel_rfl) (by kernel_rfl) (by kernel_rfl) (fun _ _ _ h => h) (Or.inl ⟨by kernel_rfl, fun w hSw => by ((try dsimp only at hSw); go_simp)⟩) hHeld ?_
 (try simp only [Act.put, List.setIfInBounds_toArray, List.set_cons_zero, List.set_cons_succ])
 refine wpAnyH_take (i := 16) (oi := { dst := some 41, op := Op.move (Operand.tmp 40), type := 4, pos := "safe.go:20", after := #[{ on := 15, ground := Ground.data }, { on := 9, ground := Ground.chain }, { on := 3, ground := Ground.guard }], guard := some (3, false) }) (v := .bool false) rfl (by kernel_rfl) (by kernel_rfl) (by kernel_rfl) (fun _ _ _ h => h) (Or.inl ⟨by kernel_rfl, fun w hSw => by ((try dsimp only at hSw); go_simp)⟩) hHeld ?_
 (try simp only [Act.put, List.setIfInBounds_toArray, List.set_cons_zero, List.set_cons_succ])
 refine wpAnyH_take (i := 17) (oi := { dst := some 42, op := Op.load 77 (Operand.tmp 1), type := 77, pos := "safe.go:20", after := #[{ on := 16, ground := Ground.guard }], guard := some (16, true) }) (v := undef) rfl (by kernel_rfl) (by kernel_rfl) (by kernel_rfl) (fun _ _ _ h => h) (Or.inr ⟨by kernel_rfl, rfl⟩) hHeld ?_
 (try simp only [Act.put, List.setIfInBounds_toArray, List.set_cons_zero, List.set_cons_succ])
 refine wpAnyH_take (i := 18) (oi := { dst := some 43, op := Op.move (Operand.tmp 0), type := 3, pos := "safe.go:20", after := #[{ on := 16, ground := Ground.guard }], guard := some (16, true) }) (v := undef) rfl (by kernel_rfl) (by kernel_rfl) (by kernel_rfl) (fun _ _ _ h => h) (Or.inr ⟨by kernel_rfl, rfl⟩) hHeld ?_
 (try simp only [Act.put, List.setIfInBounds_toArray, List.set_cons_zero, List.set_cons_succ])
 refine wpAnyH_take (i := 19) (oi := { dst := some 44, op := Op.binOp BinOp.add 3 (Operand.tmp 43) (Operand.const (Value.int IntKind.i64 1)) 3, type := 3, pos := "safe.go:20", after := #[{ on := 18, ground := Ground.data }, { on := 16, ground := Ground.guard }], guard := some (16, true) }) (v := undef) rfl (by kernel_rfl) (by kernel_rfl) (by kernel_rfl) (fun _ _ _ h => h) (Or.inr ⟨by kernel_rfl, rfl⟩) hHeld ?_
 (try simp only [Act.put, List.setIfInBounds_toArray, List.set_cons_zero, List.set_cons_succ])
 refine wpAnyH_take (i := 20) (oi := { dst := some 45, op := Op.indexAddr 77 (Operand.tmp 42) (Operand.tmp 44), type := 0, pos := "safe.go:20", after := #[{ on := 17, ground := Ground.data }, { on := 19, ground := Ground.data }, { on := 16, ground := Ground.guard }], guard := some (16, true) }) (v := undef) rfl (by kernel_rfl) (by kernel_rfl) (by kernel_rfl) (fun _ _ _ h => h) (Or.inr ⟨by kernel_rfl, rfl⟩) hHeld ?_
 (try simp only [Act.put, List.setIfInBounds_toArray, List.set_cons_zero, List.set_cons_succ])
 refine wpAnyH_take (i := 21) (oi := { dst := some 46, op := Op.load 121 (Operand.tmp 45), type := 121, pos := "safe.go:20", after := #[{ on := 20, ground := Ground.data }, { on := 16, ground := Ground.guard }], guard := some (16, true) }) (v := undef) rfl (by kernel_rfl) (by kernel_rfl) (by kernel_rfl) (fun _ _ _ h => h) (Or.inr ⟨by kernel_rfl, rfl⟩) hHeld ?_
 (try simp only [Act.put, List.setIfInBounds_toArray, List.set_cons_zero, List.set_cons_succ])
 refine wpAnyH_take (i := 22) (oi := { dst := some 47, op := Op.call { callee := Callee.value (Operand.func 102), args := #[], argTypes := #[] }, type := 121, pos := "safe.go:20", after := #[{ on := 16, ground := Ground.chain }, { on := 16, ground := Ground.guard }], guard := some (16, true) }) (v := undef) rfl (by kernel_rfl) (by kernel_rfl) (by kernel_rfl) (fun _ _ _ h => h) (Or.inr ⟨by kernel_rfl, rfl⟩) hHeld ?_
 (try simp only [Act.put, List.setIfInBounds_toArray, List.set_cons_zero, List.set_cons_succ])
 refine wpAnyH_take (i := 23) (oi := { dst := some 48, op := Op.binOp BinOp.eql 121 (Operand.tmp 46) (Operand.tmp 47) 121, type := 4, pos := "safe.go:20", after := #[{ on := 21, ground := Ground.data }, { on := 22, ground := Ground.data }, { on := 16, ground := Ground.guard }], guard := some (16, true) }) (v := undef) rfl (by kernel_rfl) (by kernel_rfl) (by kernel_rfl) (fun _ _ _ h => h) (Or.inr ⟨by kernel_rfl, rfl⟩) hHeld ?_
 (try simp only [Act.put, List.setIfInBounds_toArray, List.set_cons_zero, List.set_cons_succ])
 refine wpAnyH_take (i := 24) (oi := { dst := some 49, op := Op.pick (Operand.tmp 41) (Operand.tmp 48) (Operand.const (Value.bool false)), type := 4, pos := "safe.go:20", after := #[{ on := 16, ground := Ground.data }, { on := 23, ground := Ground.data }, { on := 3, ground := Ground.guard }], guard := some (3, false) }) (v := .bool false) rfl (by kernel_rfl) (by kernel_rfl) (by kernel_rfl) (fun _ _ _ h => h) (Or.inl ⟨by kernel_rfl, fun w hSw => by ((try dsimp only at hSw); go_simp)⟩) hHeld ?_
 (try simp only [Act.put, List.setIfInBounds_toArray, List.set_cons_zero, List.set_cons_succ])
 refine wpAnyH_take (i := 25) (oi := { dst := some 50, op := Op.pick (Operand.tmp 28) (Operand.const (Value.bool true)) (Operand.tmp 49), type := 4, pos := "safe.go:20", after := #[{ on := 3, ground := Ground.data }, { on := 24, ground := Ground.data }], guard := none }) (v := .bool false) rfl (by kernel_rfl) (by kernel_rfl) (by kernel_rfl) (fun _ _ _ h => h) (Or.inl ⟨by kernel_rfl, fun w hSw => by ((try dsimp only at hSw); go_simp)⟩) hHeld ?_
 (try simp only [Act.put, List.setIfInBounds_toArray, List.set_cons_zero, List.set_cons_succ])
 refine wpAnyH_take (i := 26) (oi := { dst := some 3, op := Op.assign (Operand.tmp 50), type := 4, pos := "safe.go:20", after := #[{ on := 25, ground := Ground.data }, { on := 22, ground := Ground.chain }, { on := 0, ground := Ground.phase }, { on := 1, ground := Ground.phase }, { on := 2, ground := Ground.phase }, { on := 3, ground := Ground.phase }, { on := 4, ground := Ground.phase }, { on := 5, ground := Ground.phase }, { on := 6, ground := Ground.phase }, { on := 7, ground := Ground.phase }, { on := 8, ground := Ground.phase }, { on := 9, ground := Ground.phase }, { on := 10, ground := Ground.phase }, { on := 11, ground := Ground.phase }, { on := 12, ground := Ground.phase }, { on := 13, ground := Ground.phase }, { on := 14, ground := Ground.phase }, { on := 15, ground := Ground.phase }, { on := 16, ground := Ground.phase }, { on := 17, ground := Ground.phase }, { on := 18, ground := Ground.phase }, { on := 19, ground := Ground.phase }, { on := 20, ground := Ground.phase }, { on := 21, ground := Ground.phase }, { on := 22, ground := Ground.phase }, { on := 23, ground := Ground.phase }, { on := 24, ground := Ground.phase }, { on := 25, ground := Ground.phase }], guard := none }) (v := .bool false) rfl (by kernel_rfl) (by kernel_rfl) (by kernel_rfl) (fun _ _ _ h => h) (Or.inl ⟨by kernel_rfl, fun w hSw => by ((try dsimp only at hSw); go_simp)⟩) hHeld ?_
 (try simp only [Act.put, List.setIfInBounds_toArray, List.set_cons_zero, List.set_cons_succ])
 refine wpAnyH_done (by kernel_rfl) ?_ _
 refine NoPanic.normal ?_
 obtain ⟨hend, _⟩ := hHeld
 go_wp2
 go_ret
 exact ⟨by rw [HT.out]; rfl, hend⟩
set_option maxRecDepth 100000 in
set_option maxHeartbeats 2000000 in
theorem trust_w4 (l : List Cf.Ins) (A : Option Addr) (cap k gl : Nat) (op a b c : Int) (w : World) (hR : Codes w A l) (hm : l.length ≤ maxLen) (hx : l[k]? = some ⟨op, a, b, c⟩) (hg : w.cell? ⟨gl, 0, none⟩ = some (.slice A l.length cap)) (hl : Cf.ldst ⟨op, a, b, c⟩ = true) (hb : b = 4) (hs : Cf.inB op 1 8 = true) (hr : Cf.inB a 4 6 = true) (n1 : ¬ (op = 5 ∧ a = 4 ∧ b = 4 ∧ c = 5)) (n2 : ¬ (op = 4 ∧ a = 4 ∧ c = 6)) :
  Calls Tryz.prog 152 #[.int .i64 k, .pointer (some ⟨gl, 0, none⟩)] w fun e w' => e = .returned (.bool (Cf.trustB l k ⟨op, a, b, c⟩)) ∧ Below w.heap.size w w' := by
 have hmx : l.length ≤ 2 ^ 63 - 1 := hm
 clear hm
 have hk : k < l.length := (List.getElem?_eq_some_iff.1 hx).1
 obtain ⟨g, off, rfl, hgl, hc⟩ := hR.at_ (by intro e; rw [e] at hk; simp at hk)
 obtain ⟨p0, p1, p2, p3⟩ := hc k op a b c hx
 have HT := Lib.hid (show Cf.trustB l k ⟨op, a, b, c⟩ = false by exact trust_no hs hr n1 n2)
 have N1 := Lib.hid n1
 have N2 := Lib.hid n2
 have eb := eqn hb
 have C1 := Lib.hid (fun w => paccesses_any op a b c w)
 rw [hl] at C1
 have C2 := Lib.hid (fun w => psets_any op a b c w)
 rw [hs] at C2
 have C3 := Lib.hid (fun w => preserved_any a w)
 rw [hr] at C3
 clear hl hx hs hr n1 n2 hc hb
 go_enter Tryz.func152, Tryz.ntmps152
 go_wp2_with fail
 refine (C1.out _).mono ?_
 rintro e w1 ⟨rfl, hb1⟩
 have hbw1 : Below w.heap.size w w1 := ((Below.refl _ _).alloc (Nat.le_refl _) _).trans (hb1.mono (by simp))
 have q0 := hb1.cell (p := ⟨w.heap.size, 0, none⟩) (by simp)
 have q1 := hb1.cell (p := ⟨w.heap.size, 1, none⟩) (by simp)
 have q2 := hb1.cell (p := ⟨w.heap.size, 2, none⟩) (by simp)
 have q3 := hb1.cell (p := ⟨w.heap.size, 3, none⟩) (by simp)
 simp at q0 q1 q2 q3
 have qg : w1.cell? ⟨gl, 0, none⟩ = _ := (hbw1.cell (lt_of_cell hg)).trans hg
 clear hb1 hg p0 p1 p2 p3 C1
 go_wp2_with fail
 refine (C2.out _).mono ?_
 rintro e w2 ⟨rfl, hb2⟩
 obtain ⟨hbw2, r0, r1, r2, r3, rg⟩ := keepV ⟨hbw1, q0, q1, q2, q3, qg⟩ hb2
 clear hb2 hbw1 q0 q1 q2 q3 qg C2
 go_wp2_with fail
 refine (C3.out _).mono ?_
 rintro e w' ⟨rfl, rfl⟩
 clear C3
 go_upto_region 6 with fail
 refine wp_region_noPanic ?_
 refine wp_region_held_drew (S := fun W => Below w.heap.size w W ∧ W.cell? ⟨w.heap.size, 0, none⟩ = some (.int .i64 op) ∧ W.cell? ⟨w.heap.size, 1, none⟩ = some (.int .i64 a) ∧ W.cell? ⟨w.heap.size, 2, none⟩ = some (.int .i64 b) ∧ W.cell? ⟨w.heap.size, 3, none⟩ = some (.int .i64 c) ∧ W.cell? ⟨gl, 0, none⟩ = some (.slice (some ⟨g, off, none⟩) l.length cap)) (by kernel_rfl) ⟨hbw2.drew, r0, r1, r2, r3, rg⟩ (fun hHeld => ?_)
 refine wpAnyH_take (i := 0) (oi := { dst := some 25, op := Op.load 121 (Operand.tmp 4), type := 121, pos := "safe.go:20", after := #[], guard := none }) (v := .agg #[.int .i64 op, .int .i64 a, .int .i64 b, .int .i64 c]) rfl (by kernel_rfl) (by kernel_rfl) (by kernel_rfl) (fun _ _ _ h => h) (Or.inl ⟨by kernel_rfl, fun w hSw => by ((try dsimp only at hSw); go_simp)⟩) hHeld ?_
 (try simp only [Act.put, List.setIfInBounds_toArray, List.set_cons_zero, List.set_cons_succ])
 refine wpAnyH_ready (rs := [1]) (by kernel_rfl) (by simp) ?_
 refine AllReadyH.cons (o := { dst := some 26, op := Op.call { callee := Callee.value (Operand.func 102), args := #[], argTypes := #[] }, type := 121, pos := "safe.go:20", after := #[], guard := none }) rfl (fun K hK => ?_) AllReadyH.nil
 go_simp
 go_at_call 102; refine (prebase_any _).mono ?_; rintro e w' ⟨rfl, hb'⟩
 go_wp2_with fail
 refine hK.out _ _ (keepV hHeld hb') (fun hHeld => ?_)
 clear hK K hb'
 (try simp only [Act.put, List.setIfInBounds_toArray, List.set_cons_zero, List.set_cons_succ])
 refine wpAnyH_take (i := 2) (oi := { dst := some 27, op := Op.binOp BinOp.eql 121 (Operand.tmp 25) (Operand.tmp 26) 121, type := 4, pos := "safe.go:20", after := #[{ on := 0, ground := Ground.data }, { on := 1, ground := Ground.data }], guard := none }) (v := .bool false) rfl (by kernel_rfl) (by kernel_rfl) (by kernel_rfl) (fun _ _ _ h => h) (Or.inl ⟨by kernel_rfl, fun w hSw => by ((try dsimp only at hSw); go_simp; exact fun e1 e2 e3 e4 => N1.out ⟨e1, e2, e3, e4⟩)⟩) hHeld ?_
 (try simp only [Act.put, List.setIfInBounds_toArray, List.set_cons_zero, List.set_cons_succ])
 refine wpAnyH_take (i := 3) (oi := { dst := some 28, op := Op.move (Operand.tmp 27), type := 4, pos := "safe.go:20", after := #[{ on := 2, ground := Ground.data }, { on := 1, ground := Ground.chain }], guard := none }) (v := .bool false) rfl (by kernel_rfl) (by kernel_rfl) (by kernel_rfl) (fun _ _ _ h => h) (Or.inl ⟨by kernel_rfl, fun w hSw => by ((try dsimp only at hSw); go_simp)⟩) hHeld ?_
 (try simp only [Act.put, List.setIfInBounds_toArray, List.set_cons_zero, List.set_cons_succ])
 refine wpAnyH_take (i := 4) (oi := { dst := some 29, op := Op.load 121 (Operand.tmp 4), type := 121, pos := "safe.go:20", after := #[{ on := 3, ground := Ground.guard }], guard := some (3, false) }) (v := .agg #[.int .i64 op, .int .i64 a, .int .i64 b, .int .i64 c]) rfl (by kernel_rfl) (by kernel_rfl) (by kernel_rfl) (fun _ _ _ h => h) (Or.inl ⟨by kernel_rfl, fun w hSw => by ((try dsimp only at hSw); go_simp)⟩) hHeld ?_
 (try simp only [Act.put, List.setIfInBounds_toArray, List.set_cons_zero, List.set_cons_succ])
 refine wpAnyH_take (i := 5) (oi := { dst := some 30, op := Op.fieldAddr 121 (Operand.tmp 4) 2, type := 0, pos := "safe.go:20", after := #[{ on := 3, ground := Ground.guard }], guard := some (3, false) }) (v := .pointer (some ⟨w.heap.size, 2, none⟩)) rfl (by kernel_rfl) (by kernel_rfl) (by kernel_rfl) (fun _ _ _ h => h) (Or.inl ⟨by kernel_rfl, fun w hSw => by ((try dsimp only at hSw); go_simp)⟩) hHeld ?_
 (try simp only [Act.put, List.setIfInBounds_toArray, List.set_cons_zero, List.set_cons_succ])
 refine wpAnyH_take (i := 6) (oi := { dst := some 31, op := Op.load 3 (Operand.tmp 30), type := 3, pos := "safe.go:20", after := #[{ on := 5, ground := Ground.data }, { on := 3, ground := Ground.guard }], guard := some (3, false) }) (v := .int .i64 b) rfl (by kernel_rfl) (by kernel_rfl) (by kernel_rfl) (fun _ _ _ h => h) (Or.inl ⟨by kernel_rfl, fun w hSw => by ((try dsimp only at hSw); go_simp)⟩) hHeld ?_
 (try simp only [Act.put, List.setIfInBounds_toArray, List.set_cons_zero, List.set_cons_succ])
 refine wpAnyH_ready (rs := [7]) (by kernel_rfl) (by simp) ?_
 refine AllReadyH.cons (o := { dst := some 32, op := Op.call { callee := Callee.value (Operand.func 101), args := #[Operand.tmp 31], argTypes := #[3] }, type := 121, pos := "safe.go:20", after := #[{ on := 6, ground := Ground.data }, { on := 3, ground := Ground.chain }, { on := 3, ground := Ground.guard }], guard := some (3, false) }) rfl (fun K hK => ?_) AllReadyH.nil
 go_simp
 go_at_call 101; refine (pmask_any _ _).mono ?_; rintro e w' ⟨rfl, hb'⟩
 go_wp2_with fail
 refine hK.out _ _ (keepV hHeld hb') (fun hHeld => ?_)
 clear hK K hb'
 (try simp only [Act.put, List.setIfInBounds_toArray, List.set_cons_zero, List.set_cons_succ])
 refine wpAnyH_take (i := 8) (oi := { dst := some 33, op := Op.binOp BinOp.eql 121 (Operand.tmp 29) (Operand.tmp 32) 121, type := 4, pos := "safe.go:20", after := #[{ on := 4, ground := Ground.data }, { on := 7, ground := Ground.data }, { on := 3, ground := Ground.guard }], guard := some (3, false) }) (v := .bool false) rfl (by kernel_rfl) (by kernel_rfl) (by kernel_rfl) (fun _ _ _ h => h) (Or.inl ⟨by kernel_rfl, fun w hSw => by ((try dsimp only at hSw); go_simp; exact fun e1 e2 e3 => N2.out ⟨e1, e2, e3⟩)⟩) hHeld ?_
 (try simp only [Act.put, List.setIfInBounds_toArray, List.set_cons_zero, List.set_cons_succ])
 refine wpAnyH_take (i := 9) (oi := { dst := some 34, op := Op.move (Operand.tmp 33), type := 4, pos := "safe.go:20", after := #[{ on := 8, ground := Ground.data }, { on := 7, ground := Ground.chain }, { on := 3, ground := Ground.guard }], guard := some (3, false) }) (v := .bool false) rfl (by kernel_rfl) (by kernel_rfl) (by kernel_rfl) (fun _ _ _ h => h) (Or.inl ⟨by kernel_rfl, fun w hSw => by ((try dsimp only at hSw); go_simp)⟩) hHeld ?_
 (try simp only [Act.put, List.setIfInBounds_toArray, List.set_cons_zero, List.set_cons_succ])
 refine wpAnyH_take (i := 10) (oi := { dst := some 35, op := Op.move (Operand.tmp 0), type := 3, pos := "safe.go:20", after := #[{ on := 9, ground := Ground.guard }], guard := some (9, true) }) (v := undef) rfl (by kernel_rfl) (by kernel_rfl) (by kernel_rfl) (fun _ _ _ h => h) (Or.inr ⟨by kernel_rfl, rfl⟩) hHeld ?_
 (try simp only [Act.put, List.setIfInBounds_toArray, List.set_cons_zero, List.set_cons_succ])
 refine wpAnyH_take (i := 11) (oi := { dst := some 36, op := Op.binOp BinOp.add 3 (Operand.tmp 35) (Operand.const (Value.int IntKind.i64 1)) 3, type := 3, pos := "safe.go:20", after := #[{ on := 10, ground := Ground.data }, { on := 9, ground := Ground.guard }], guard := some (9, true) }) (v := undef) rfl (by kernel_rfl) (by kernel_rfl) (by kernel_rfl) (fun _ _ _ h => h) (Or.inr ⟨by kernel_rfl, rfl⟩) hHeld ?_
 (try simp only [Act.put, List.setIfInBounds_toArray, List.set_cons_zero, List.set_cons_succ])
 refine wpAnyH_take (i := 12) (oi := { dst := some 37, op := Op.load 77 (Operand.tmp 1), type := 77, pos := "safe.go:20", after := #[{ on := 9, ground := Ground.guard }], guard := some (9, true) }) (v := undef) rfl (by kernel_rfl) (by kernel_rfl) (by kernel_rfl) (fun _ _ _ h => h) (Or.inr ⟨by kernel_rfl, rfl⟩) hHeld ?_
 (try simp only [Act.put, List.setIfInBounds_toArray, List.set_cons_zero, List.set_cons_succ])
 refine wpAnyH_take (i := 13) (oi := { dst := some 38, op := Op.call { callee := Callee.builtin Builtin.len, args := #[Operand.tmp 37], argTypes := #[77] }, type := 3, pos := "safe.go:20", after := #[{ on := 12, ground := Ground.data }, { on := 9, ground := Ground.guard }], guard := some (9, true) }) (v := undef) rfl (by kernel_rfl) (by kernel_rfl) (by kernel_rfl) (fun _ _ _ h => h) (Or.inr ⟨by kernel_rfl, rfl⟩) hHeld ?_
 (try simp only [Act.put, List.setIfInBounds_toArray, List.set_cons_zero, List.set_cons_succ])
 refine wpAnyH_take (i := 14) (oi := { dst := some 39, op := Op.binOp BinOp.lss 3 (Operand.tmp 36) (Operand.tmp 38) 3, type := 4, pos := "safe.go:20", after := #[{ on := 11, ground := Ground.data }, { on := 13, ground := Ground.data }, { on := 9, ground := Ground.guard }], guard := some (9, true) }) (v := undef) rfl (by kernel_rfl) (by kernel_rfl) (by kernel_rfl) (fun _ _ _ h => h) (Or.inr ⟨by kernel_rfl, rfl⟩) hHeld ?_
 (try simp only [Act.put, List.setIfInBounds_toArray, List.set_cons_zero, List.set_cons_succ])
 refine wpAnyH_take (i := 15) (oi := { dst := some 40, op := Op.pick (Operand.tmp 34) (Operand.tmp 39) (Operand.const (Value.bool false)), type := 4, pos := "safe.go:20", after := #[{ on := 9, ground := Ground.data }, { on := 14, ground := Ground.data }, { on := 3, ground := Ground.guard }], guard := some (3, false) }) (v := .bool false) rfl (by kernel_rfl) (by kernel_rfl) (by kernel_rfl) (fun _ _ _ h => h) (Or.inl ⟨by kernel_rfl, fun w hSw => by ((try dsimp only at hSw); go_simp)⟩) hHeld ?_
 (try simp only [Act.put, List.setIfInBounds_toArray, List.set_cons_zero, List.set_cons_succ])
 refine wpAnyH_take (i := 16) (oi := { dst := some 41, op := Op.move (Operand.tmp 40), type := 4, pos := "safe.go:20", after := #[{ on := 15, ground := Ground.data }, { on := 9, ground := Ground.chain }, { on := 3, ground := Ground.guard }], guard := some (3, false) }) (v := .bool false) rfl (by kernel_rfl) (by kernel_rfl) (by kernel_rfl) (fun _ _ _ h => h) (Or.inl ⟨by kernel_rfl, fun w hSw => by ((try dsimp only at hSw); go_simp)⟩) hHeld ?_
 (try simp only [Act.put, List.setIfInBounds_toArray, List.set_cons_zero, List.set_cons_succ])
 refine wpAnyH_take (i := 17) (oi := { dst := some 42, op := Op.load 77 (Operand.tmp 1), type := 77, pos := "safe.go:20", after := #[{ on := 16, ground := Ground.guard }], guard := some (16, true) }) (v := undef) rfl (by kernel_rfl) (by kernel_rfl) (by kernel_rfl) (fun _ _ _ h => h) (Or.inr ⟨by kernel_rfl, rfl⟩) hHeld ?_
 (try simp only [Act.put, List.setIfInBounds_toArray, List.set_cons_zero, List.set_cons_succ])
 refine wpAnyH_take (i := 18) (oi := { dst := some 43, op := Op.move (Operand.tmp 0), type := 3, pos := "safe.go:20", after := #[{ on := 16, ground := Ground.guard }], guard := some (16, true) }) (v := undef) rfl (by kernel_rfl) (by kernel_rfl) (by kernel_rfl) (fun _ _ _ h => h) (Or.inr ⟨by kernel_rfl, rfl⟩) hHeld ?_
 (try simp only [Act.put, List.setIfInBounds_toArray, List.set_cons_zero, List.set_cons_succ])
 refine wpAnyH_take (i := 19) (oi := { dst := some 44, op := Op.binOp BinOp.add 3 (Operand.tmp 43) (Operand.const (Value.int IntKind.i64 1)) 3, type := 3, pos := "safe.go:20", after := #[{ on := 18, ground := Ground.data }, { on := 16, ground := Ground.guard }], guard := some (16, true) }) (v := undef) rfl (by kernel_rfl) (by kernel_rfl) (by kernel_rfl) (fun _ _ _ h => h) (Or.inr ⟨by kernel_rfl, rfl⟩) hHeld ?_
 (try simp only [Act.put, List.setIfInBounds_toArray, List.set_cons_zero, List.set_cons_succ])
 refine wpAnyH_take (i := 20) (oi := { dst := some 45, op := Op.indexAddr 77 (Operand.tmp 42) (Operand.tmp 44), type := 0, pos := "safe.go:20", after := #[{ on := 17, ground := Ground.data }, { on := 19, ground := Ground.data }, { on := 16, ground := Ground.guard }], guard := some (16, true) }) (v := undef) rfl (by kernel_rfl) (by kernel_rfl) (by kernel_rfl) (fun _ _ _ h => h) (Or.inr ⟨by kernel_rfl, rfl⟩) hHeld ?_
 (try simp only [Act.put, List.setIfInBounds_toArray, List.set_cons_zero, List.set_cons_succ])
 refine wpAnyH_take (i := 21) (oi := { dst := some 46, op := Op.load 121 (Operand.tmp 45), type := 121, pos := "safe.go:20", after := #[{ on := 20, ground := Ground.data }, { on := 16, ground := Ground.guard }], guard := some (16, true) }) (v := undef) rfl (by kernel_rfl) (by kernel_rfl) (by kernel_rfl) (fun _ _ _ h => h) (Or.inr ⟨by kernel_rfl, rfl⟩) hHeld ?_
 (try simp only [Act.put, List.setIfInBounds_toArray, List.set_cons_zero, List.set_cons_succ])
 refine wpAnyH_take (i := 22) (oi := { dst := some 47, op := Op.call { callee := Callee.value (Operand.func 102), args := #[], argTypes := #[] }, type := 121, pos := "safe.go:20", after := #[{ on := 16, ground := Ground.chain }, { on := 16, ground := Ground.guard }], guard := some (16, true) }) (v := undef) rfl (by kernel_rfl) (by kernel_rfl) (by kernel_rfl) (fun _ _ _ h => h) (Or.inr ⟨by kernel_rfl, rfl⟩) hHeld ?_
 (try simp only [Act.put, List.setIfInBounds_toArray, List.set_cons_zero, List.set_cons_succ])
 refine wpAnyH_take (i := 23) (oi := { dst := some 48, op := Op.binOp BinOp.eql 121 (Operand.tmp 46) (Operand.tmp 47) 121, type := 4, pos := "safe.go:20", after := #[{ on := 21, ground := Ground.data }, { on := 22, ground := Ground.data }, { on := 16, ground := Ground.guard }], guard := some (16, true) }) (v := undef) rfl (by kernel_rfl) (by kernel_rfl) (by kernel_rfl) (fun _ _ _ h => h) (Or.inr ⟨by kernel_rfl, rfl⟩) hHeld ?_
 (try simp only [Act.put, List.setIfInBounds_toArray, List.set_cons_zero, List.set_cons_succ])
 refine wpAnyH_take (i := 24) (oi := { dst := some 49, op := Op.pick (Operand.tmp 41) (Operand.tmp 48) (Operand.const (Value.bool false)), type := 4, pos := "safe.go:20", after := #[{ on := 16, ground := Ground.data }, { on := 23, ground := Ground.data }, { on := 3, ground := Ground.guard }], guard := some (3, false) }) (v := .bool false) rfl (by kernel_rfl) (by kernel_rfl) (by kernel_rfl) (fun _ _ _ h => h) (Or.inl ⟨by kernel_rfl, fun w hSw => by ((try dsimp only at hSw); go_simp)⟩) hHeld ?_
 (try simp only [Act.put, List.setIfInBounds_toArray, List.set_cons_zero, List.set_cons_succ])
 refine wpAnyH_take (i := 25) (oi := { dst := some 50, op := Op.pick (Operand.tmp 28) (Operand.const (Value.bool true)) (Operand.tmp 49), type := 4, pos := "safe.go:20", after := #[{ on := 3, ground := Ground.data }, { on := 24, ground := Ground.data }], guard := none }) (v := .bool false) rfl (by kernel_rfl) (by kernel_rfl) (by kernel_rfl) (fun _ _ _ h => h) (Or.inl ⟨by kernel_rfl, fun w hSw => by ((try dsimp only at hSw); go_simp)⟩) hHeld ?_
 (try simp only [Act.put, List.setIfInBounds_toArray, List.set_cons_zero, List.set_cons_succ])
 refine wpAnyH_take (i := 26) (oi := { dst := some 3, op := Op.assign (Operand.tmp 50), type := 4, pos := "safe.go:20", after := #[{ on := 25, ground := Ground.data }, { on := 22, ground := Ground.chain }, { on := 0, ground := Ground.phase }, { on := 1, ground := Ground.phase }, { on := 2, ground := Ground.phase }, { on := 3, ground := Ground.phase }, { on := 4, ground := Ground.phase }, { on := 5, ground := Ground.phase }, { on := 6, ground := Ground.phase }, { on := 7, ground := Ground.phase }, { on := 8, ground := Ground.phase }, { on := 9, ground := Ground.phase }, { on := 10, ground := Ground.phase }, { on := 11, ground := Ground.phase }, { on := 12, ground := Ground.phase }, { on := 13, ground := Ground.phase }, { on := 14, ground := Ground.phase }, { on := 15, ground := Ground.phase }, { on := 16, ground := Ground.phase }, { on := 17, ground := Ground.phase }, { on := 18, ground := Ground.phase }, { on := 19, ground := Ground.phase }, { on := 20, ground := Ground.phase }, { on := 21, ground := Ground.phase }, { on := 22, ground := Ground.phase }, { on := 23, ground := Ground.phase }, { on := 24, ground := Ground.phase }, { on := 25, ground := Ground.phase }], guard := none }) (v := .bool false) rfl (by kernel_rfl) (by kernel_rfl) (by kernel_rfl) (fun _ _ _ h => h) (Or.inl ⟨by kernel_rfl, fun w hSw => by ((try dsimp only at hSw); go_simp)⟩) hHeld ?_
 (try simp only [Act.put, List.setIfInBounds_toArray, List.set_cons_zero, List.set_cons_succ])
 refine wpAnyH_done (by kernel_rfl) ?_ _
 refine NoPanic.normal ?_
 obtain ⟨hend, _⟩ := hHeld
 go_wp2
 go_ret
 exact ⟨by rw [HT.out]; rfl, hend⟩
set_option maxRecDepth 100000 in
set_option maxHeartbeats 2000000 in
theorem trust_w1 (l : List Cf.Ins) (A : Option Addr) (cap k gl : Nat) (w : World) (hR : Codes w A l) (hm : l.length ≤ maxLen) (hx : l[k]? = some ⟨5, 4, 4, 5⟩) (hg : w.cell? ⟨gl, 0, none⟩ = some (.slice A l.length cap))  :
  Calls Tryz.prog 152 #[.int .i64 k, .pointer (some ⟨gl, 0, none⟩)] w fun e w' => e = .returned (.bool (Cf.trustB l k ⟨5, 4, 4, 5⟩)) ∧ Below w.heap.size w w' := by
 have hmx : l.length ≤ 2 ^ 63 - 1 := hm
 clear hm
 have hk : k < l.length := (List.getElem?_eq_some_iff.1 hx).1
 obtain ⟨g, off, rfl, hgl, hc⟩ := hR.at_ (by intro e; rw [e] at hk; simp at hk)
 obtain ⟨p0, p1, p2, p3⟩ := hc k 5 4 4 5 hx
 have HT := Lib.hid (show Cf.trustB l k ⟨5, 4, 4, 5⟩ = true by simp [Cf.trustB, Cf.ldst, Cf.destB, Cf.inB, Cf.orBaseB])
 have hl : Cf.ldst ⟨5, 4, 4, 5⟩ = false := rfl
 have hs : Cf.inB 5 1 8 = true := rfl
 have hr : Cf.inB 4 4 6 = true := rfl
 have C1 := Lib.hid (fun w => paccesses_any 5 4 4 5 w)
 rw [hl] at C1
 have C2 := Lib.hid (fun w => psets_any 5 4 4 5 w)
 rw [hs] at C2
 have C3 := Lib.hid (fun w => preserved_any 4 w)
 rw [hr] at C3
 clear hl hx hs hr hc
 go_enter Tryz.func152, Tryz.ntmps152
 go_wp2_with fail
 refine (C1.out _).mono ?_
 rintro e w1 ⟨rfl, hb1⟩
 have hbw1 : Below w.heap.size w w1 := ((Below.refl _ _).alloc (Nat.le_refl _) _).trans (hb1.mono (by simp))
 have q0 := hb1.cell (p := ⟨w.heap.size, 0, none⟩) (by simp)
 have q1 := hb1.cell (p := ⟨w.heap.size, 1, none⟩) (by simp)
 have q2 := hb1.cell (p := ⟨w.heap.size, 2, none⟩) (by simp)
 have q3 := hb1.cell (p := ⟨w.heap.size, 3, none⟩) (by simp)
 simp at q0 q1 q2 q3
 have qg : w1.cell? ⟨gl, 0, none⟩ = _ := (hbw1.cell (lt_of_cell hg)).trans hg
 clear hb1 hg p0 p1 p2 p3 C1
 go_wp2_with fail
 refine (C2.out _).mono ?_
 rintro e w2 ⟨rfl, hb2⟩
 obtain ⟨hbw2, r0, r1, r2, r3, rg⟩ := keepV ⟨hbw1, q0, q1, q2, q3, qg⟩ hb2
 clear hb2 hbw1 q0 q1 q2 q3 qg C2
 go_wp2_with fail
 refine (C3.out _).mono ?_
 rintro e w' ⟨rfl, rfl⟩
 clear C3
 go_upto_region 6 with fail
 refine wp_region_noPanic ?_
 refine wp_region_held_drew (S := fun W => Below w.heap.size w W ∧ W.cell? ⟨w.heap.size, 0, none⟩ = some (.int .i64 5) ∧ W.cell? ⟨w.heap.size, 1, none⟩ = some (.int .i64 4) ∧ W.cell? ⟨w.heap.size, 2, none⟩ = some (.int .i64 4) ∧ W.cell? ⟨w.heap.size, 3, none⟩ = some (.int .i64 5) ∧ W.cell? ⟨gl, 0, none⟩ = some (.slice (some ⟨g, off, none⟩) l.length cap)) (by kernel_rfl) ⟨hbw2.drew, r0, r1, r2, r3, rg⟩ (fun hHeld => ?_)
 refine wpAnyH_take (i := 0) (oi := { dst := some 25, op := Op.load 121 (Operand.tmp 4), type := 121, pos := "safe.go:20", after := #[], guard := none }) (v := .agg #[.int .i64 5, .int .i64 4, .int .i64 4, .int .i64 5]) rfl (by kernel_rfl) (by kernel_rfl) (by kernel_rfl) (fun _ _ _ h => h) (Or.inl ⟨by kernel_rfl, fun w hSw => by ((try dsimp only at hSw); go_simp)⟩) hHeld ?_
 (try simp only [Act.put, List.setIfInBounds_toArray, List.set_cons_zero, List.set_cons_succ])
 refine wpAnyH_ready (rs := [1]) (by kernel_rfl) (by simp) ?_
 refine AllReadyH.cons (o := { dst := some 26, op := Op.call { callee := Callee.value (Operand.func 102), args := #[], argTypes := #[] }, type := 121, pos := "safe.go:20", after := #[], guard := none }) rfl (fun K hK => ?_) AllReadyH.nil
 go_simp
 go_at_call 102; refine (prebase_any _).mono ?_; rintro e w' ⟨rfl, hb'⟩
 go_wp2_with fail
 refine hK.out _ _ (keepV hHeld hb') (fun hHeld => ?_)
 clear hK K hb'
 (try simp only [Act.put, List.setIfInBounds_toArray, List.set_cons_zero, List.set_cons_succ])
 refine wpAnyH_take (i := 2) (oi := { dst := some 27, op := Op.binOp BinOp.eql 121 (Operand.tmp 25) (Operand.tmp 26) 121, type := 4, pos := "safe.go:20", after := #[{ on := 0, ground := Ground.data }, { on := 1, ground := Ground.data }], guard := none }) (v := .bool true) rfl (by kernel_rfl) (by kernel_rfl) (by kernel_rfl) (fun _ _ _ h => h) (Or.inl ⟨by kernel_rfl, fun w hSw => by ((try dsimp only at hSw); go_simp)⟩) hHeld ?_
 (try simp only [Act.put, List.setIfInBounds_toArray, List.set_cons_zero, List.set_cons_succ])
 refine wpAnyH_take (i := 3) (oi := { dst := some 28, op := Op.move (Operand.tmp 27), type := 4, pos := "safe.go:20", after := #[{ on := 2, ground := Ground.data }, { on := 1, ground := Ground.chain }], guard := none }) (v := .bool true) rfl (by kernel_rfl) (by kernel_rfl) (by kernel_rfl) (fun _ _ _ h => h) (Or.inl ⟨by kernel_rfl, fun w hSw => by ((try dsimp only at hSw); go_simp)⟩) hHeld ?_
 (try simp only [Act.put, List.setIfInBounds_toArray, List.set_cons_zero, List.set_cons_succ])
 refine wpAnyH_take (i := 4) (oi := { dst := some 29, op := Op.load 121 (Operand.tmp 4), type := 121, pos := "safe.go:20", after := #[{ on := 3, ground := Ground.guard }], guard := some (3, false) }) (v := undef) rfl (by kernel_rfl) (by kernel_rfl) (by kernel_rfl) (fun _ _ _ h => h) (Or.inr ⟨by kernel_rfl, rfl⟩) hHeld ?_
 (try simp only [Act.put, List.setIfInBounds_toArray, List.set_cons_zero, List.set_cons_succ])
 refine wpAnyH_take (i := 5) (oi := { dst := some 30, op := Op.fieldAddr 121 (Operand.tmp 4) 2, type := 0, pos := "safe.go:20", after := #[{ on := 3, ground := Ground.guard }], guard := some (3, false) }) (v := undef) rfl (by kernel_rfl) (by kernel_rfl) (by kernel_rfl) (fun _ _ _ h => h) (Or.inr ⟨by kernel_rfl, rfl⟩) hHeld ?_
 (try simp only [Act.put, List.setIfInBounds_toArray, List.set_cons_zero, List.set_cons_succ])
 refine wpAnyH_take (i := 6) (oi := { dst := some 31, op := Op.load 3 (Operand.tmp 30), type := 3, pos := "safe.go:20", after := #[{ on := 5, ground := Ground.data }, { on := 3, ground := Ground.guard }], guard := some (3, false) }) (v := undef) rfl (by kernel_rfl) (by kernel_rfl) (by kernel_rfl) (fun _ _ _ h => h) (Or.inr ⟨by kernel_rfl, rfl⟩) hHeld ?_
 (try simp only [Act.put, List.setIfInBounds_toArray, List.set_cons_zero, List.set_cons_succ])
 refine wpAnyH_take (i := 7) (oi := { dst := some 32, op := Op.call { callee := Callee.value (Operand.func 101), args := #[Operand.tmp 31], argTypes := #[3] }, type := 121, pos := "safe.go:20", after := #[{ on := 6, ground := Ground.data }, { on := 3, ground := Ground.chain }, { on := 3, ground := Ground.guard }], guard := some (3, false) }) (v := undef) rfl (by kernel_rfl) (by kernel_rfl) (by kernel_rfl) (fun _ _ _ h => h) (Or.inr ⟨by kernel_rfl, rfl⟩) hHeld ?_
 (try simp only [Act.put, List.setIfInBounds_toArray, List.set_cons_zero, List.set_cons_succ])
 refine wpAnyH_take (i := 8) (oi := { dst := some 33, op := Op.binOp BinOp.eql 121 (Operand.tmp 29) (Operand.tmp 32) 121, type := 4, pos := "safe.go:20", after := #[{ on := 4, ground := Ground.data }, { on := 7, ground := Ground.data }, { on := 3, ground := Ground.guard }], guard := some (3, false) }) (v := undef) rfl (by kernel_rfl) (by kernel_rfl) (by kernel_rfl) (fun _ _ _ h => h) (Or.inr ⟨by kernel_rfl, rfl⟩) hHeld ?_
 (try simp only [Act.put, List.setIfInBounds_toArray, List.set_cons_zero, List.set_cons_succ])
 refine wpAnyH_take (i := 9) (oi := { dst := some 34, op := Op.move (Operand.tmp 33), type := 4, pos := "safe.go:20", after := #[{ on := 8, ground := Ground.data }, { on := 7, ground := Ground.chain }, { on := 3, ground := Ground.guard }], guard := some (3, false) }) (v := undef) rfl (by kernel_rfl) (by kernel_rfl) (by kernel_rfl) (fun _ _ _ h => h) (Or.inr ⟨by kernel_rfl, rfl⟩) hHeld ?_
 (try simp only [Act.put, List.setIfInBounds_toArray, List.set_cons_zero, List.set_cons_succ])
 refine wpAnyH_take (i := 10) (oi := { dst := some 35, op := Op.move (Operand.tmp 0), type := 3, pos := "safe.go:20", after := #[{ on := 9, ground := Ground.guard }], guard := some (9, true) }) (v := undef) rfl (by kernel_rfl) (by kernel_rfl) (by kernel_rfl) (fun _ _ _ h => h) (Or.inr ⟨by kernel_rfl, rfl⟩) hHeld ?_
 (try simp only [Act.put, List.setIfInBounds_toArray, List.set_cons_zero, List.set_cons_succ])
 refine wpAnyH_take (i := 11) (oi := { dst := some 36, op := Op.binOp BinOp.add 3 (Operand.tmp 35) (Operand.const (Value.int IntKind.i64 1)) 3, type := 3, pos := "safe.go:20", after := #[{ on := 10, ground := Ground.data }, { on := 9, ground := Ground.guard }], guard := some (9, true) }) (v := undef) rfl (by kernel_rfl) (by kernel_rfl) (by kernel_rfl) (fun _ _ _ h => h) (Or.inr ⟨by kernel_rfl, rfl⟩) hHeld ?_
 (try simp only [Act.put, List.setIfInBounds_toArray, List.set_cons_zero, List.set_cons_succ])
 refine wpAnyH_take (i := 12) (oi := { dst := some 37, op := Op.load 77 (Operand.tmp 1), type := 77, pos := "safe.go:20", after := #[{ on := 9, ground := Ground.guard }], guard := some (9, true) }) (v := undef) rfl (by kernel_rfl) (by kernel_rfl) (by kernel_rfl) (fun _ _ _ h => h) (Or.inr ⟨by kernel_rfl, rfl⟩) hHeld ?_
 (try simp only [Act.put, List.setIfInBounds_toArray, List.set_cons_zero, List.set_cons_succ])
 refine wpAnyH_take (i := 13) (oi := { dst := some 38, op := Op.call { callee := Callee.builtin Builtin.len, args := #[Operand.tmp 37], argTypes := #[77] }, type := 3, pos := "safe.go:20", after := #[{ on := 12, ground := Ground.data }, { on := 9, ground := Ground.guard }], guard := some (9, true) }) (v := undef) rfl (by kernel_rfl) (by kernel_rfl) (by kernel_rfl) (fun _ _ _ h => h) (Or.inr ⟨by kernel_rfl, rfl⟩) hHeld ?_
 (try simp only [Act.put, List.setIfInBounds_toArray, List.set_cons_zero, List.set_cons_succ])
 refine wpAnyH_take (i := 14) (oi := { dst := some 39, op := Op.binOp BinOp.lss 3 (Operand.tmp 36) (Operand.tmp 38) 3, type := 4, pos := "safe.go:20", after := #[{ on := 11, ground := Ground.data }, { on := 13, ground := Ground.data }, { on := 9, ground := Ground.guard }], guard := some (9, true) }) (v := undef) rfl (by kernel_rfl) (by kernel_rfl) (by kernel_rfl) (fun _ _ _ h => h) (Or.inr ⟨by kernel_rfl, rfl⟩) hHeld ?_
 (try simp only [Act.put, List.setIfInBounds_toArray, List.set_cons_zero, List.set_cons_succ])
 refine wpAnyH_take (i := 15) (oi := { dst := some 40, op := Op.pick (Operand.tmp 34) (Operand.tmp 39) (Operand.const (Value.bool false)), type := 4, pos := "safe.go:20", after := #[{ on := 9, ground := Ground.data }, { on := 14, ground := Ground.data }, { on := 3, ground := Ground.guard }], guard := some (3, false) }) (v := undef) rfl (by kernel_rfl) (by kernel_rfl) (by kernel_rfl) (fun _ _ _ h => h) (Or.inr ⟨by kernel_rfl, rfl⟩) hHeld ?_
 (try simp only [Act.put, List.setIfInBounds_toArray, List.set_cons_zero, List.set_cons_succ])
 refine wpAnyH_take (i := 16) (oi := { dst := some 41, op := Op.move (Operand.tmp 40), type := 4, pos := "safe.go:20", after := #[{ on := 15, ground := Ground.data }, { on := 9, ground := Ground.chain }, { on := 3, ground := Ground.guard }], guard := some (3, false) }) (v := undef) rfl (by kernel_rfl) (by kernel_rfl) (by kernel_rfl) (fun _ _ _ h => h) (Or.inr ⟨by kernel_rfl, rfl⟩) hHeld ?_
 (try simp only [Act.put, List.setIfInBounds_toArray, List.set_cons_zero, List.set_cons_succ])
 refine wpAnyH_take (i := 17) (oi := { dst := some 42, op := Op.load 77 (Operand.tmp 1), type := 77, pos := "safe.go:20", after := #[{ on := 16, ground := Ground.guard }], guard := some (16, true) }) (v := undef) rfl (by kernel_rfl) (by kernel_rfl) (by kernel_rfl) (fun _ _ _ h => h) (Or.inr ⟨by kernel_rfl, rfl⟩) hHeld ?_
 (try simp only [Act.put, List.setIfInBounds_toArray, List.set_cons_zero, List.set_cons_succ])
 refine wpAnyH_take (i := 18) (oi := { dst := some 43, op := Op.move (Operand.tmp 0), type := 3, pos := "safe.go:20", after := #[{ on := 16, ground := Ground.guard }], guard := some (16, true) }) (v := undef) rfl (by kernel_rfl) (by kernel_rfl) (by kernel_rfl) (fun _ _ _ h => h) (Or.inr ⟨by kernel_rfl, rfl⟩) hHeld ?_
 (try simp only [Act.put, List.setIfInBounds_toArray, List.set_cons_zero, List.set_cons_succ])
 refine wpAnyH_take (i := 19) (oi := { dst := some 44, op := Op.binOp BinOp.add 3 (Operand.tmp 43) (Operand.const (Value.int IntKind.i64 1)) 3, type := 3, pos := "safe.go:20", after := #[{ on := 18, ground := Ground.data }, { on := 16, ground := Ground.guard }], guard := some (16, true) }) (v := undef) rfl (by kernel_rfl) (by kernel_rfl) (by kernel_rfl) (fun _ _ _ h => h) (Or.inr ⟨by kernel_rfl, rfl⟩) hHeld ?_
 (try simp only [Act.put, List.setIfInBounds_toArray, List.set_cons_zero, List.set_cons_succ])
 refine wpAnyH_take (i := 20) (oi := { dst := some 45, op := Op.indexAddr 77 (Operand.tmp 42) (Operand.tmp 44), type := 0, pos := "safe.go:20", after := #[{ on := 17, ground := Ground.data }, { on := 19, ground := Ground.data }, { on := 16, ground := Ground.guard }], guard := some (16, true) }) (v := undef) rfl (by kernel_rfl) (by kernel_rfl) (by kernel_rfl) (fun _ _ _ h => h) (Or.inr ⟨by kernel_rfl, rfl⟩) hHeld ?_
 (try simp only [Act.put, List.setIfInBounds_toArray, List.set_cons_zero, List.set_cons_succ])
 refine wpAnyH_take (i := 21) (oi := { dst := some 46, op := Op.load 121 (Operand.tmp 45), type := 121, pos := "safe.go:20", after := #[{ on := 20, ground := Ground.data }, { on := 16, ground := Ground.guard }], guard := some (16, true) }) (v := undef) rfl (by kernel_rfl) (by kernel_rfl) (by kernel_rfl) (fun _ _ _ h => h) (Or.inr ⟨by kernel_rfl, rfl⟩) hHeld ?_
 (try simp only [Act.put, List.setIfInBounds_toArray, List.set_cons_zero, List.set_cons_succ])
 refine wpAnyH_take (i := 22) (oi := { dst := some 47, op := Op.call { callee := Callee.value (Operand.func 102), args := #[], argTypes := #[] }, type := 121, pos := "safe.go:20", after := #[{ on := 16, ground := Ground.chain }, { on := 16, ground := Ground.guard }], guard := some (16, true) }) (v := undef) rfl (by kernel_rfl) (by kernel_rfl) (by kernel_rfl) (fun _ _ _ h => h) (Or.inr ⟨by kernel_rfl, rfl⟩) hHeld ?_
 (try simp only [Act.put, List.setIfInBounds_toArray, List.set_cons_zero, List.set_cons_succ])
 refine wpAnyH_take (i := 23) (oi := { dst := some 48, op := Op.binOp BinOp.eql 121 (Operand.tmp 46) (Operand.tmp 47) 121, type := 4, pos := "safe.go:20", after := #[{ on := 21, ground := Ground.data }, { on := 22, ground := Ground.data }, { on := 16, ground := Ground.guard }], guard := some (16, true) }) (v := undef) rfl (by kernel_rfl) (by kernel_rfl) (by kernel_rfl) (fun _ _ _ h => h) (Or.inr ⟨by kernel_rfl, rfl⟩) hHeld ?_
 (try simp only [Act.put, List.setIfInBounds_toArray, List.set_cons_zero, List.set_cons_succ])
 refine wpAnyH_take (i := 24) (oi := { dst := some 49, op := Op.pick (Operand.tmp 41) (Operand.tmp 48) (Operand.const (Value.bool false)), type := 4, pos := "safe.go:20", after := #[{ on := 16, ground := Ground.data }, { on := 23, ground := Ground.data }, { on := 3, ground := Ground.guard }], guard := some (3, false) }) (v := undef) rfl (by kernel_rfl) (by kernel_rfl) (by kernel_rfl) (fun _ _ _ h => h) (Or.inr ⟨by kernel_rfl, rfl⟩) hHeld ?_
 (try simp only [Act.put, List.setIfInBounds_toArray, List.set_cons_zero, List.set_cons_succ])
 refine wpAnyH_take (i := 25) (oi := { dst := some 50, op := Op.pick (Operand.tmp 28) (Operand.const (Value.bool true)) (Operand.tmp 49), type := 4, pos := "safe.go:20", after := #[{ on := 3, ground := Ground.data }, { on := 24, ground := Ground.data }], guard := none }) (v := .bool true) rfl (by kernel_rfl) (by kernel_rfl) (by kernel_rfl) (fun _ _ _ h => h) (Or.inl ⟨by kernel_rfl, fun w hSw => by ((try dsimp only at hSw); go_simp)⟩) hHeld ?_
 (try simp only [Act.put, List.setIfInBounds_toArray, List.set_cons_zero, List.set_cons_succ])
 refine wpAnyH_take (i := 26) (oi := { dst := some 3, op := Op.assign (Operand.tmp 50), type := 4, pos := "safe.go:20", after := #[{ on := 25, ground := Ground.data }, { on := 22, ground := Ground.chain }, { on := 0, ground := Ground.phase }, { on := 1, ground := Ground.phase }, { on := 2, ground := Ground.phase }, { on := 3, ground := Ground.phase }, { on := 4, ground := Ground.phase }, { on := 5, ground := Ground.phase }, { on := 6, ground := Ground.phase }, { on := 7, ground := Ground.phase }, { on := 8, ground := Ground.phase }, { on := 9, ground := Ground.phase }, { on := 10, ground := Ground.phase }, { on := 11, ground := Ground.phase }, { on := 12, ground := Ground.phase }, { on := 13, ground := Ground.phase }, { on := 14, ground := Ground.phase }, { on := 15, ground := Ground.phase }, { on := 16, ground := Ground.phase }, { on := 17, ground := Ground.phase }, { on := 18, ground := Ground.phase }, { on := 19, ground := Ground.phase }, { on := 20, ground := Ground.phase }, { on := 21, ground := Ground.phase }, { on := 22, ground := Ground.phase }, { on := 23, ground := Ground.phase }, { on := 24, ground := Ground.phase }, { on := 25, ground := Ground.phase }], guard := none }) (v := .bool true) rfl (by kernel_rfl) (by kernel_rfl) (by kernel_rfl) (fun _ _ _ h => h) (Or.inl ⟨by kernel_rfl, fun w hSw => by ((try dsimp only at hSw); go_simp)⟩) hHeld ?_
 (try simp only [Act.put, List.setIfInBounds_toArray, List.set_cons_zero, List.set_cons_succ])
 refine wpAnyH_done (by kernel_rfl) ?_ _
 refine NoPanic.normal ?_
 obtain ⟨hend, _⟩ := hHeld
 go_wp2
 go_ret
 exact ⟨by rw [HT.out]; rfl, hend⟩
end Go.Proofs.YtnnhhbjbdmgpiaaGreatDoor
