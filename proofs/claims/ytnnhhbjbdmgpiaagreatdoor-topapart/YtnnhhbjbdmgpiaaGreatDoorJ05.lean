/- Texts of the proof of TopApart: OwnK, FreshK, SafeW. -/
import Derived.WalkSmall
import Derived.Test.YtnnhhbjbdmgpiaaGreatDoorJ03
import Derived.Test.YtnnhhbjbdmgpiaaGreatDoorJ01
/- Rows that a call makes and appends to, read as lists. Of any program. -/
namespace Go.Proofs.YtnnhhbjbdmgpiaaGreatDoor
set_option maxRecDepth 100000
open Go.RowKit

theorem own_form {w : World} {base : Nat} {e : TypeId} {size : Nat} {v : Value} {n : Nat} {xs : List Value} (h : w.ownsRow base e size v n xs) : ∃ A cap, v = .slice A n cap := by
  rcases h.2 with ⟨rfl, rfl⟩ | ⟨g, cap, cur, rfl, _⟩
  · exact ⟨_, _, rfl⟩
  · exact ⟨_, _, rfl⟩
theorem own_below {w w' : World} {base : Nat} {e : TypeId} {size : Nat} {v : Value} {n : Nat} {xs : List Value} (h : w.ownsRow base e size v n xs) (hb : Below w.heap.size w w') : w'.ownsRow base e size v n xs := by
  refine ⟨h.1, ?_⟩
  rcases h.2 with h2 | ⟨g, cap, cur, hv, hg, hh, r⟩
  · exact .inl h2
  · have hlt : g < w.heap.size := (Array.getElem?_eq_some_iff.1 hh).1
    exact .inr ⟨g, cap, cur, hv, hg, (hb.block g hlt).trans hh, r⟩
theorem own_blocks {w : World} {base : Nat} {e : TypeId} {size : Nat} {v : Value} {n : Nat} {xs : List Value} (h : w.ownsRow base e size v n xs) : ∀ k, v.ownBlock = some k → base ≤ k := by
  intro k hk
  rcases h.2 with ⟨rfl, _⟩ | ⟨g, cap, cur, rfl, hg, _⟩
  · cases hk
  · simp [Value.ownBlock] at hk; omega
theorem flat_at {α : Type} (sz : Nat) (enc : α → List Value) (hsz : ∀ x, (enc x).length = sz) : ∀ (l : List α) (k : Nat) (x : α) (j : Nat) (v : Value), l[k]? = some x → (enc x)[j]? = some v → (l.flatMap enc)[k * sz + j]? = some v := by
  intro l
  induction l with
  | nil => intro k x j v h; simp at h
  | cons y l ih =>
    intro k x j v h hv
    have hj : j < sz := by rw [← hsz x]; exact (List.getElem?_eq_some_iff.1 hv).1
    rw [List.flatMap_cons]
    cases k with
    | zero =>
      simp at h
      subst h
      rw [List.getElem?_append_left (by rw [hsz]; omega), Nat.zero_mul, Nat.zero_add]
      exact hv
    | succ k =>
      rw [List.getElem?_append_right (by rw [hsz, Nat.add_mul]; omega), hsz, show (k + 1) * sz + j - sz = k * sz + j by rw [Nat.add_mul]; omega]
      exact ih k x j v (by simpa using h) hv
theorem own_rd {α : Type} {sz : Nat} {enc : α → List Value} (hsz : ∀ x, (enc x).length = sz) {w : World} {base : Nat} {e : TypeId} {A : Option Addr} {cap : Nat} {l : List α} (h : w.ownsRow base e sz (.slice A l.length cap) l.length (l.flatMap enc)) : RdS sz enc w A l := by
  rcases h.2 with ⟨hv, hn⟩ | ⟨g, cap', cur, hv, hg, hh, hnc, hcm, hcs, ht⟩
  · exact .inl (List.eq_nil_of_length_eq_zero hn)
  · injection hv with hA _ _
    refine .inr ⟨g, 0, hA, (Array.getElem?_eq_some_iff.1 hh).1, fun k x hx j v hj => ?_⟩
    have h1 := flat_at sz enc hsz l k x j v hx hj
    rw [← ht, List.getElem?_take] at h1
    split at h1
    · rw [show 0 + k * sz + j = k * sz + j by omega, World.cell?]
      simp only [hh]
      rw [← Array.getElem?_toList]
      exact h1
    · cases h1
theorem encI_len (x : Cf.Ins) : (encI x).length = 4 := rfl
end Go.Proofs.YtnnhhbjbdmgpiaaGreatDoor
/- Slices in new memory. Of any program. -/
namespace Go.Proofs.YtnnhhbjbdmgpiaaGreatDoor
set_option maxRecDepth 100000
open Go.RowKit

/-- A slice without elements, or in memory from there on. -/
def Fresh {α : Type} (B : Nat) (A : Option Addr) (l : List α) : Prop := l = [] ∨ ∃ b off, A = some ⟨b, off, none⟩ ∧ B ≤ b
theorem rd_set {α : Type} {sz : Nat} {enc : α → List Value} {w : World} {A : Option Addr} {l : List α} {B : Nat} (h : RdS sz enc w A l) (hf : Fresh B A l) {p : Addr} (hp : p.block < B) (u : Value) : RdS sz enc (w.setCell p u) A l := by
  rcases h with h | ⟨b, off, rfl, hb, hc⟩
  · exact .inl h
  · rcases hf with hf | ⟨b', off', he, hle⟩
    · exact .inl hf
    · cases he
      refine .inr ⟨b, off, rfl, by rw [show (w.setCell p u).heap.size = w.heap.size by simp [World.setCell]]; exact hb, fun k x hx j v hv => ?_⟩
      rw [World.cell?_of_block (w := w) (Below.heap_setCell w p u b (by omega))]
      exact hc k x hx j v hv
theorem Fresh.mono {α : Type} {B B' : Nat} {A : Option Addr} {l : List α} (h : Fresh B A l) (hB : B' ≤ B) : Fresh B' A l := by
  rcases h with h | ⟨b, off, he, hle⟩
  · exact .inl h
  · exact .inr ⟨b, off, he, Nat.le_trans hB hle⟩
theorem own_fresh {α : Type} {w : World} {base n size : Nat} {e : TypeId} {A : Option Addr} {cap : Nat} {xs : List Value} {l : List α} (h : w.ownsRow base e size (.slice A n cap) n xs) (hl : l.length = n) : Fresh base A l := by
  rcases h.2 with ⟨_, h0⟩ | ⟨g, cap', cur, hv, hb, _⟩
  · exact .inl (List.eq_nil_of_length_eq_zero (hl.trans h0))
  · injection hv with hA _ _
    exact .inr ⟨g, 0, hA, hb⟩
end Go.Proofs.YtnnhhbjbdmgpiaaGreatDoor
/- Walks of chapter 3: the program's small tests of an instruction, and the instructions that it makes. -/
namespace Go.Proofs.YtnnhhbjbdmgpiaaGreatDoor
set_option maxRecDepth 100000
open Go.RowKit

theorem pleaves_any (op a b c : Int) (w : World) :
    Calls Tryz.prog 130 #[.agg #[.int .i64 op, .int .i64 a, .int .i64 b, .int .i64 c]] w fun e w' => e = .returned (.bool (Cf.stopsB ⟨op, a, b, c⟩)) ∧ Below w.heap.size w w' := by
  by_cases h1 : op = 10
  · have e1 := eqb h1
    go_enter Tryz.func130, Tryz.ntmps130
    go_wp2
    go_ret
    exact ⟨by simp [Cf.stopsB, h1], (Below.refl _ _).alloc (Nat.le_refl _) _⟩
  · have e1 := neb h1
    by_cases h2 : op = 13
    · have e2 := eqb h2
      go_enter Tryz.func130, Tryz.ntmps130
      go_wp2
      go_ret
      exact ⟨by simp [Cf.stopsB, h2], (Below.refl _ _).alloc (Nat.le_refl _) _⟩
    · have e2 := neb h2
      by_cases h3 : op = 15
      · have e3 := eqb h3
        go_enter Tryz.func130, Tryz.ntmps130
        go_wp2
        go_ret
        exact ⟨by simp [Cf.stopsB, h3], (Below.refl _ _).alloc (Nat.le_refl _) _⟩
      · have e3 := neb h3
        go_enter Tryz.func130, Tryz.ntmps130
        go_wp2
        go_ret
        exact ⟨by simp [Cf.stopsB, h1, h2, h3], (Below.refl _ _).alloc (Nat.le_refl _) _⟩
theorem pjumps_any (op a b c : Int) (w : World) :
    Calls Tryz.prog 103 #[.agg #[.int .i64 op, .int .i64 a, .int .i64 b, .int .i64 c]] w fun e w' => e = .returned (.bool (Cf.jumpsB ⟨op, a, b, c⟩)) ∧ Below w.heap.size w w' := by
  by_cases h1 : op = 10
  · have e1 := eqb h1
    go_enter Tryz.func103, Tryz.ntmps103
    go_wp2
    go_ret
    exact ⟨by simp [Cf.jumpsB, h1], (Below.refl _ _).alloc (Nat.le_refl _) _⟩
  · have e1 := neb h1
    by_cases h2 : op = 11
    · have e2 := eqb h2
      go_enter Tryz.func103, Tryz.ntmps103
      go_wp2
      go_ret
      exact ⟨by simp [Cf.jumpsB, h2], (Below.refl _ _).alloc (Nat.le_refl _) _⟩
    · have e2 := neb h2
      by_cases h3 : op = 12
      · have e3 := eqb h3
        go_enter Tryz.func103, Tryz.ntmps103
        go_wp2
        go_ret
        exact ⟨by simp [Cf.jumpsB, h3], (Below.refl _ _).alloc (Nat.le_refl _) _⟩
      · have e3 := neb h3
        go_enter Tryz.func103, Tryz.ntmps103
        go_wp2
        go_ret
        exact ⟨by simp [Cf.jumpsB, h1, h2, h3], (Below.refl _ _).alloc (Nat.le_refl _) _⟩
theorem paccesses_any (op a b c : Int) (w : World) :
    Calls Tryz.prog 100 #[.agg #[.int .i64 op, .int .i64 a, .int .i64 b, .int .i64 c]] w fun e w' => e = .returned (.bool (Cf.ldst ⟨op, a, b, c⟩)) ∧ Below w.heap.size w w' := by
  by_cases h1 : op = 8
  · have e1 := eqb h1
    go_enter Tryz.func100, Tryz.ntmps100
    go_wp2
    go_ret
    exact ⟨by simp [Cf.ldst, h1], (Below.refl _ _).alloc (Nat.le_refl _) _⟩
  · have e1 := neb h1
    by_cases h2 : op = 9
    · have e2 := eqb h2
      go_enter Tryz.func100, Tryz.ntmps100
      go_wp2
      go_ret
      exact ⟨by simp [Cf.ldst, h2], (Below.refl _ _).alloc (Nat.le_refl _) _⟩
    · have e2 := neb h2
      go_enter Tryz.func100, Tryz.ntmps100
      go_wp2
      go_ret
      exact ⟨by simp [Cf.ldst, h1, h2], (Below.refl _ _).alloc (Nat.le_refl _) _⟩
theorem psets_any (op a b c : Int) (w : World) :
    Calls Tryz.prog 153 #[.agg #[.int .i64 op, .int .i64 a, .int .i64 b, .int .i64 c]] w fun e w' => e = .returned (.bool (Cf.inB op 1 8)) ∧ Below w.heap.size w w' := by
  by_cases h1 : 1 ≤ op
  · by_cases h2 : op ≤ 8
    all_goals
      go_enter Tryz.func153, Tryz.ntmps153
      go_wp2
      go_ret
      exact ⟨by simp [Cf.inB, h1, h2], (Below.refl _ _).alloc (Nat.le_refl _) _⟩
  · have HI := Lib.hid (show Cf.inB op 1 8 = false by simp [Cf.inB, h1])
    go_enter Tryz.func153, Tryz.ntmps153
    go_wp2
    go_ret
    exact ⟨by rw [HI.out]; rfl, (Below.refl _ _).alloc (Nat.le_refl _) _⟩
theorem preserved_any (r : Int) (w : World) :
    Calls Tryz.prog 128 #[.int .i64 r] w fun e w' => e = .returned (.bool (Cf.inB r 4 6)) ∧ w = w' := by
  by_cases h1 : r = 4
  · have e1 := eqb h1
    go_enter Tryz.func128, Tryz.ntmps128
    go_wp2
    go_ret
    exact ⟨by simp [Cf.inB, h1], rfl⟩
  · have e1 := neb h1
    by_cases h2 : r = 5
    · have e2 := eqb h2
      go_enter Tryz.func128, Tryz.ntmps128
      go_wp2
      go_ret
      exact ⟨by simp [Cf.inB, h2], rfl⟩
    · have e2 := neb h2
      by_cases h3 : r = 6
      · have e3 := eqb h3
        go_enter Tryz.func128, Tryz.ntmps128
        go_wp2
        go_ret
        exact ⟨by simp [Cf.inB, h3], rfl⟩
      · have e3 := neb h3
        have HI := Lib.hid (show Cf.inB r 4 6 = false by simp [Cf.inB]; omega)
        go_enter Tryz.func128, Tryz.ntmps128
        go_wp2
        go_ret
        exact ⟨by rw [HI.out]; rfl, rfl⟩
theorem pmask_any (b : Int) (w : World) :
    Calls Tryz.prog 101 #[.int .i64 b] w fun e w' => e = .returned (.agg #[.int .i64 4, .int .i64 4, .int .i64 b, .int .i64 6]) ∧ Below w.heap.size w w' := by
  go_enter Tryz.func101, Tryz.ntmps101
  go_wp2
  exact bodyPost_ret (v := .agg #[.int .i64 4, .int .i64 4, .int .i64 b, .int .i64 6]) (by simp [results, Tryz.results101, go_sem]) rfl ⟨rfl, (Below.refl _ _).alloc (by simp) _⟩
theorem prebase_any (w : World) :
    Calls Tryz.prog 102 #[] w fun e w' => e = .returned (.agg #[.int .i64 5, .int .i64 4, .int .i64 4, .int .i64 5]) ∧ Below w.heap.size w w' := by
  go_enter Tryz.func102, Tryz.ntmps102
  go_wp2
  exact bodyPost_ret (v := .agg #[.int .i64 5, .int .i64 4, .int .i64 4, .int .i64 5]) (by simp [results, Tryz.results102, go_sem]) rfl ⟨rfl, (Below.refl _ _).alloc (by simp) _⟩
end Go.Proofs.YtnnhhbjbdmgpiaaGreatDoor
