/- Plain mathematics of chapter 1: texts that are refused, and at which line. No Go in it. -/
import Derived.Test.YthbjeleiiilhlaaDoorBackP
import Derived.Lib.Repeat
namespace Go.Proofs.YthbjeleiiilhlaaDoor.Cf

theorem split_pre (r : List UInt8) : ∀ a : List Ins, splitL 10 (showAll a ++ r) = a.map showIns ++ splitL 10 r
  | [] => rfl
  | x :: a => by
    have : showAll (x :: a) ++ r = showIns x ++ 10 :: (showAll a ++ r) := by simp [showAll]
    rw [this, split_hit 10 _ _ (ins_free x), split_pre r a]
    rfl
theorem readP_pre (ps : List (List UInt8)) (hp : ps ≠ []) : ∀ (a acc : List Ins), faultIn a = 0 → acc.length + a.length ≤ 200 → readP acc (a.map showIns ++ ps) = readP (acc ++ a) ps
  | [], acc, _, _ => by simp
  | x :: a, acc, hz, hl => by
    have hx : chk x = 0 := faultIn_mem (x :: a) hz 0 x rfl
    have ha : faultIn a = 0 := by simpa [faultIn, hx] using hz
    have hrest : a.map showIns ++ ps ≠ [] := by simp [hp]
    cases hr : a.map showIns ++ ps with
    | nil => exact absurd hr hrest
    | cons m r =>
      rw [List.map_cons, List.cons_append, hr, readP, if_neg (by simp at hl; omega), parse_show x hx]
      simp only
      rw [← hr, readP_pre ps hp a (acc ++ [x]) ha (by simp at hl ⊢; omega)]
      simp
theorem readT_pre (a : List Ins) (r : List UInt8) (hf : faultIn a = 0) (ha : a.length ≤ 200) (hl : (showAll a ++ r).length ≤ 4000) : readT (showAll a ++ r) = readP a (splitL 10 r) := by
  unfold readT
  rw [if_neg (by omega), split_pre, readP_pre _ (split_ne _ _) a [] hf (by simpa using ha)]
  rfl
/-- The law's odd lines. -/
def oddTab : List (List UInt8) := [[108, 105, 32, 114, 49], [108, 105, 32, 114, 49, 32, 54, 53, 53, 51, 54], [108, 105, 32, 49, 32, 49], [97, 100, 100, 32, 114, 49, 32, 114, 50], [97, 100, 100, 32, 114, 49, 32, 114, 50, 32, 114, 56], [97, 100, 100, 32, 32, 114, 49, 32, 114, 50, 32, 114, 51], [108, 100, 32, 114, 49, 32, 114, 50, 32, 114, 51], [106, 109, 112], [106, 109, 112, 32, 114, 49], [106, 109, 112, 32, 50, 48, 48], [114, 101, 116, 32, 49], [116, 101, 108, 108], [104, 97, 108, 116, 32], [76, 73, 32, 114, 49, 32, 49], [108, 105, 32, 114, 49, 32, 48, 49], [], [110, 111]]
theorem odd_bad : ∀ p ∈ oddTab, parseL p = none ∧ (10 : UInt8) ∉ p ∧ p.length ≤ 13 := by decide +kernel
theorem bad_line (a : List Ins) (hf : faultIn a = 0) (ha : a.length ≤ 41) (p : List UInt8) (hp : p ∈ oddTab) : readT (showAll a ++ p ++ [10, 104, 97, 108, 116, 10]) = ⟨[], a.length + 1, 4⟩ := by
  obtain ⟨h1, h2, h3⟩ := odd_bad p hp
  have hl := all_len a hf
  have e : showAll a ++ p ++ [10, 104, 97, 108, 116, 10] = showAll a ++ (p ++ 10 :: [104, 97, 108, 116, 10]) := by simp
  rw [e, readT_pre a _ hf (by omega) (by simp; omega), split_hit 10 p _ h2, show splitL 10 [104, 97, 108, 116, 10] = [[104, 97, 108, 116], []] by decide, readP, if_neg (by omega), h1]
theorem bad_last (a : List Ins) (hf : faultIn a = 0) (ha : a.length ≤ 41) : readT (showAll a ++ [104, 97, 108, 116]) = ⟨[], a.length + 1, 5⟩ := by
  have hl := all_len a hf
  rw [readT_pre a _ hf (by omega) (by simp; omega), show splitL 10 [104, 97, 108, 116] = [[104, 97, 108, 116]] by decide, readP, if_neg (by simp)]
theorem rets : ∀ n : Nat, Lib.repeatL [114, 101, 116, 10] n = showAll (List.replicate n ⟨13, 0, 0, 0⟩) ∧ faultIn (List.replicate n ⟨13, 0, 0, 0⟩) = 0
  | 0 => ⟨rfl, rfl⟩
  | n + 1 => by
    obtain ⟨h1, h2⟩ := rets n
    have hr : showIns ⟨13, 0, 0, 0⟩ = [114, 101, 116] := by decide
    have hc : chk ⟨13, 0, 0, 0⟩ = 0 := by decide
    refine ⟨?_, ?_⟩
    · rw [Lib.repeatL, h1, List.replicate_succ]
      simp [showAll, hr]
    · rw [List.replicate_succ, faultIn, if_pos hc, h2]
theorem bad_many : readT (Lib.repeatL [114, 101, 116, 10] 201) = ⟨[], 201, 1⟩ := by
  have key : ∀ n : Nat, n = 200 → readT (Lib.repeatL [114, 101, 116, 10] (n + 1)) = ⟨[], 201, 1⟩ := by
    intro n hn
    obtain ⟨h1, h2⟩ := rets n
    have hl : (showAll (List.replicate n ⟨13, 0, 0, 0⟩)).length = n * 4 := by rw [← h1, Lib.repeatL_length]; rfl
    rw [Lib.repeatL_add, h1, readT_pre _ _ h2 (by rw [List.length_replicate]; omega) (by rw [List.length_append, hl, Lib.repeatL_length]; simp only [List.length_cons, List.length_nil]; omega),
      show splitL 10 (Lib.repeatL [114, 101, 116, 10] 1) = [[114, 101, 116], []] by decide, readP, if_pos (by rw [List.length_replicate]; exact hn), List.length_replicate, hn]
    rfl
  exact key 200 rfl
end Go.Proofs.YthbjeleiiilhlaaDoor.Cf
