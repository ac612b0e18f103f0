/- Plain mathematics of chapter 1: reading text. No Go in it. -/
import Derived.Lib.AtoiAll
import Derived.Lib.SplitLaws
import Derived.Test.YthbjeleiiilhlaaDoorShowP
namespace Go.Proofs.YthbjeleiiilhlaaDoor.Cf

/-! ### Pieces -/
def splitL (c : UInt8) : List UInt8 → List (List UInt8)
  | [] => [[]]
  | b :: r => if b = c then [] :: splitL c r else (b :: (splitL c r).headD []) :: (splitL c r).tail
def joinL (c : UInt8) : List (List UInt8) → List UInt8
  | [] => []
  | [p] => p
  | p :: q :: ps => p ++ c :: joinL c (q :: ps)
theorem split_ne (c : UInt8) (l : List UInt8) : splitL c l ≠ [] := by cases l <;> simp [splitL]; split <;> simp
theorem split_none (c : UInt8) (u : List UInt8) (h : c ∉ u) : splitL c u = [u] := by
  induction u with
  | nil => rfl
  | cons b u ih =>
    have hb : ¬ b = c := fun e => h (by simp [e])
    simp [splitL, hb, ih (fun hm => h (List.mem_cons_of_mem _ hm))]
theorem split_hit (c : UInt8) (u v : List UInt8) (h : c ∉ u) : splitL c (u ++ c :: v) = u :: splitL c v := by
  induction u with
  | nil => simp [splitL]
  | cons b u ih =>
    have hb : ¬ b = c := fun e => h (by simp [e])
    simp [splitL, hb, ih (fun hm => h (List.mem_cons_of_mem _ hm))]
theorem join_split (c : UInt8) (l : List UInt8) : joinL c (splitL c l) = l := by
  induction l with
  | nil => rfl
  | cons b l ih =>
    cases hs : splitL c l with
    | nil => exact absurd hs (split_ne c l)
    | cons p ps =>
      rw [hs] at ih
      by_cases hb : b = c
      · simp [splitL, hb, hs, joinL, ih]
      · cases ps with
        | nil => simp [splitL, hb, hs, joinL] at ih ⊢; exact ih
        | cons q ps => simp [splitL, hb, hs, joinL] at ih ⊢; exact ih
theorem split_free (c : UInt8) (l : List UInt8) : ∀ p ∈ splitL c l, c ∉ p := by
  induction l with
  | nil => simp [splitL]
  | cons b l ih =>
    cases hs : splitL c l with
    | nil => exact absurd hs (split_ne c l)
    | cons p ps =>
      rw [hs] at ih
      by_cases hb : b = c
      · intro q hq
        simp [splitL, hb, hs] at hq
        rcases hq with rfl | hq
        · simp
        · exact ih q (by simpa using hq)
      · intro q hq
        simp [splitL, hb, hs] at hq
        rcases hq with rfl | hq
        · have := ih p (by simp)
          simp
          exact ⟨fun e => hb e.symm, this⟩
        · exact ih q (by simp [hq])
theorem split_size (c : UInt8) (l : List UInt8) : (splitL c l).length ≤ l.length + 1 ∧ ∀ p ∈ splitL c l, p.length ≤ l.length := by
  induction l with
  | nil => simp [splitL]
  | cons b l ih =>
    cases hs : splitL c l with
    | nil => exact absurd hs (split_ne c l)
    | cons p ps =>
      rw [hs] at ih
      by_cases hb : b = c
      · simp only [splitL, hb, hs, if_true]
        refine ⟨by have := ih.1; simp at this ⊢; omega, fun q hq => ?_⟩
        rcases List.mem_cons.1 hq with rfl | hq
        · simp
        · have := ih.2 q hq; simp; omega
      · simp only [splitL, hb, hs, if_false, List.headD_cons, List.tail_cons]
        refine ⟨by have := ih.1; simp at this ⊢; omega, fun q hq => ?_⟩
        rcases List.mem_cons.1 hq with rfl | hq
        · have := ih.2 p (by simp); simp; omega
        · have := ih.2 q (by simp [hq]); simp; omega
theorem split_join (c : UInt8) : ∀ ps : List (List UInt8), ps ≠ [] → (∀ p ∈ ps, c ∉ p) → splitL c (joinL c ps) = ps
  | [], h, _ => absurd rfl h
  | [p], _, h => split_none c p (h p (by simp))
  | p :: q :: ps, _, h => by
    rw [joinL, split_hit c p _ (h p (by simp)), split_join c (q :: ps) (by simp) (fun x hx => h x (List.mem_cons_of_mem _ hx))]
theorem drop_parts (d : List UInt8) (f k : Nat) (c : UInt8) (hf : f ≤ k) (hk : d[k]? = some c) : d.drop f = (d.drop f).take (k - f) ++ c :: d.drop (k + 1) := by
  have hlt : k < d.length := (List.getElem?_eq_some_iff.1 hk).1
  have h2 : (d.drop f).drop (k - f) = c :: d.drop (k + 1) := by
    rw [List.drop_drop, show f + (k - f) = k by omega, List.drop_eq_getElem_cons hlt]
    congr 1
    exact (List.getElem?_eq_some_iff.1 hk).2
  rw [← h2, List.take_append_drop]
theorem piece_at (c : UInt8) (d : List UInt8) (f k : Nat) (hf : f ≤ k) (hk : d[k]? = some c) (hfree : c ∉ (d.drop f).take (k - f)) : splitL c (d.drop f) = (d.drop f).take (k - f) :: splitL c (d.drop (k + 1)) := by
  have h := drop_parts d f k c hf hk
  have h2 := split_hit c ((d.drop f).take (k - f)) (d.drop (k + 1)) hfree
  rw [← h] at h2
  exact h2
theorem piece_on (c b : UInt8) (d : List UInt8) (f k : Nat) (hf : f ≤ k) (hk : d[k]? = some b) (hb : b ≠ c) (hfree : c ∉ (d.drop f).take (k - f)) : c ∉ (d.drop f).take (k + 1 - f) := by
  have h := drop_parts d f k b hf hk
  have hlt : k < d.length := (List.getElem?_eq_some_iff.1 hk).1
  have h1 : (d.drop f).take (k + 1 - f) = (d.drop f).take (k - f) ++ [b] := by
    rw [show k + 1 - f = (k - f) + 1 by omega, List.take_add_one]
    congr 1
    rw [List.getElem?_drop, show f + (k - f) = k by omega, hk]
    rfl
  rw [h1]
  simp
  exact ⟨hfree, fun e => hb e.symm⟩
theorem indexByte_free (c : UInt8) (u : List UInt8) (h : c ∉ u) : Lib.indexByte u c = -1 := by
  induction u with
  | nil => rfl
  | cons b u ih =>
    have hb : ¬ b = c := fun e => h (by simp [e])
    simp [Lib.indexByte, hb, ih (fun hm => h (List.mem_cons_of_mem _ hm))]
theorem indexByte_hit (c : UInt8) (u v : List UInt8) (h : c ∉ u) : Lib.indexByte (u ++ c :: v) c = u.length := by
  induction u with
  | nil => simp [Lib.indexByte]
  | cons b u ih =>
    have hb : ¬ b = c := fun e => h (by simp [e])
    have := ih (fun hm => h (List.mem_cons_of_mem _ hm))
    simp [Lib.indexByte, hb, this]
theorem splitK_all (c : UInt8) : ∀ (n : Nat) (s : List UInt8), s.length ≤ n → Lib.splitK [c] 0 (s.count c) s = splitL c s := by
  intro n
  induction n with
  | zero =>
    intro s hs
    have : s = [] := List.eq_nil_of_length_eq_zero (by omega)
    subst this
    rfl
  | succ n ih =>
    intro s hs
    by_cases h : c ∈ s
    · obtain ⟨u, v, rfl, hu⟩ : ∃ u v, s = u ++ c :: v ∧ c ∉ u := by
        obtain ⟨u, v, h1, h2⟩ := List.append_of_mem h |> fun ⟨s1, s2, e⟩ => List.eq_append_cons_of_mem h
        exact ⟨u, v, h1, h2⟩
      have hc : (u ++ c :: v).count c = v.count c + 1 := by
        rw [List.count_append, List.count_eq_zero_of_not_mem hu]
        simp
      rw [hc, Lib.splitK, Lib.index_one, indexByte_hit c u v hu, split_hit c u v hu]
      have hb : ((u.length : Int) == -1) = false := by
        rw [beq_eq_false_iff_ne]; omega
      rw [hb]
      simp only [Bool.false_eq_true, if_false, Int.toNat_natCast, Nat.add_zero, List.length_cons, List.length_nil, Nat.zero_add]
      have h1 : (u ++ c :: v).take u.length = u := by simp
      have h2 : (u ++ c :: v).drop (u.length + 1) = v := by
        rw [List.drop_append]; simp
      rw [h1, h2, ih v (by simp at hs; omega)]
    · rw [List.count_eq_zero_of_not_mem h, split_none c s h]
      rfl

/-! ### Numerals -/
def dig (c : UInt8) : Bool := decide (48 ≤ c.toNat) && decide (c.toNat ≤ 57)
def addDig (n : Nat) (c : UInt8) : Nat := 10 * n + (c.toNat - 48)
def valF (n : Nat) (l : List UInt8) : Nat := l.foldl addDig n
theorem valF_snoc (n : Nat) (l : List UInt8) (c : UInt8) : valF n (l ++ [c]) = 10 * valF n l + (c.toNat - 48) := by
  unfold valF
  rw [List.foldl_append, List.foldl_cons, List.foldl_nil]
  unfold addDig
  rw [Nat.add_comm]
theorem valF_cons (n : Nat) (c : UInt8) (l : List UInt8) : valF n (c :: l) = valF (10 * n + (c.toNat - 48)) l := by
  unfold valF
  rw [List.foldl_cons]
  unfold addDig
  rw [Nat.add_comm]
theorem valF_ge (l : List UInt8) : ∀ n, n ≤ valF n l := by
  induction l with
  | nil => intro n; exact Nat.le_refl _
  | cons c l ih => intro n; rw [valF_cons]; have := ih (10 * n + (c.toNat - 48)); omega
theorem ofNat_toNat48 (i : Nat) (h : i < 10) : (UInt8.ofNat (48 + i)).toNat = 48 + i := by
  rw [UInt8.toNat_ofNat']; omega
theorem dec_dig (u : Nat) : ∀ c ∈ Lib.decDigits u, dig c = true := by
  induction u using Nat.strongRecOn with
  | _ u ih =>
    intro c hc
    rw [Lib.decDigits] at hc
    split at hc
    · rename_i h
      simp at hc
      subst hc
      simp [dig]
      omega
    · rename_i h
      simp at hc
      rcases hc with hc | hc
      · exact ih (u / 10) (by omega) c hc
      · subst hc
        simp [dig]
        omega
theorem valF_dec (u : Nat) : valF 0 (Lib.decDigits u) = u := by
  induction u using Nat.strongRecOn with
  | _ u ih =>
    by_cases h : u < 10
    · rw [Lib.decDigits, dif_pos h, valF_cons, ofNat_toNat48 u h, valF, List.foldl_nil]
      omega
    · rw [Lib.decDigits, dif_neg h, valF_snoc, ih (u / 10) (by omega), ofNat_toNat48 (u % 10) (by omega)]
      omega
theorem dec_ne (u : Nat) : Lib.decDigits u ≠ [] := by
  rw [Lib.decDigits]; split <;> simp
theorem dec_head (u : Nat) (h : 10 ≤ u) : ∃ c r, Lib.decDigits u = c :: r ∧ c.toNat ≠ 48 := by
  induction u using Nat.strongRecOn with
  | _ u ih =>
    rw [Lib.decDigits, dif_neg (by omega)]
    by_cases h1 : u / 10 < 10
    · rw [Lib.decDigits, dif_pos h1]
      exact ⟨_, _, rfl, by rw [ofNat_toNat48 _ h1]; omega⟩
    · obtain ⟨c, r, e, hc⟩ := ih (u / 10) (by omega) (by omega)
      rw [e]
      exact ⟨c, _, rfl, hc⟩
/-- Digits without a needless 0 are the numeral of their value. -/
theorem dec_val (d : List UInt8) (hd : ∀ c ∈ d, dig c = true) (h0 : d ≠ []) (hh : 1 < d.length → (d.headD 0).toNat ≠ 48) : Lib.decDigits (valF 0 d) = d := by
  have key : ∀ (n : Nat) (d : List UInt8), d.length = n → (∀ c ∈ d, dig c = true) → d ≠ [] → (1 < d.length → (d.headD 0).toNat ≠ 48) → Lib.decDigits (valF 0 d) = d := by
    intro n
    induction n with
    | zero => intro d hl _ h0 _; exact absurd (List.eq_nil_of_length_eq_zero hl) h0
    | succ n ih =>
      intro d hl hd h0 hh
      obtain ⟨e, c, rfl⟩ : ∃ e c, d = e ++ [c] := ⟨d.dropLast, d.getLast h0, (List.dropLast_concat_getLast h0).symm⟩
      have hc : dig c = true := hd c (by simp)
      simp [dig] at hc
      rw [valF_snoc]
      have hcc : UInt8.ofNat (48 + (c.toNat - 48)) = c := by
        rw [show 48 + (c.toNat - 48) = c.toNat by omega]; simp
      by_cases he : e = []
      · subst he
        simp only [List.nil_append]
        rw [Lib.decDigits, dif_pos (by simp [valF]; omega)]
        simp only [valF, List.foldl_nil, Nat.mul_zero, Nat.zero_add]
        rw [hcc]
      · have hle : 1 ≤ e.length := by
          rcases Nat.eq_zero_or_pos e.length with h | h
          · exact absurd (List.eq_nil_of_length_eq_zero h) he
          · exact h
        have hhe : (e.headD 0).toNat ≠ 48 := by
          have := hh (by simp; omega)
          cases e with
          | nil => exact absurd rfl he
          | cons x e => simpa using this
        have hv : 1 ≤ valF 0 e := by
          cases e with
          | nil => exact absurd rfl he
          | cons x e =>
            rw [valF_cons]
            have hx : dig x = true := hd x (by simp)
            simp [dig] at hx
            simp at hhe
            have := valF_ge e (10 * 0 + (x.toNat - 48))
            have hx2 : x.toNat ≠ 48 := by simpa using hhe
            omega
        have ihe := ih e (by simp at hl; omega) (fun x hx => hd x (by simp [hx])) he (fun _ => hhe)
        rw [Lib.decDigits, dif_neg (by omega), show (10 * valF 0 e + (c.toNat - 48)) / 10 = valF 0 e by omega, ihe, show (10 * valF 0 e + (c.toNat - 48)) % 10 = c.toNat - 48 by omega, hcc]
  exact key d.length d rfl hd h0 hh
/-- The reference's reading of digits. -/
def numFrom (n : Nat) : List UInt8 → Option Nat
  | [] => some n
  | c :: r => if dig c && decide (n ≤ 100000) then numFrom (10 * n + (c.toNat - 48)) r else none
def numI (d : List UInt8) : Int :=
  match numFrom 0 d with
  | none => -1
  | some n => if d.length = 0 ∨ (1 < d.length ∧ (d.headD 0).toNat = 48) then -1 else n
theorem numFrom_some (l : List UInt8) : ∀ n m, numFrom n l = some m → (∀ c ∈ l, dig c = true) ∧ m = valF n l := by
  induction l with
  | nil => intro n m h; simp [numFrom] at h; simp [valF, h]
  | cons c l ih =>
    intro n m h
    simp only [numFrom] at h
    split at h
    · rename_i hc
      simp at hc
      obtain ⟨h1, h2⟩ := ih _ _ h
      exact ⟨fun x hx => by rcases List.mem_cons.1 hx with rfl | hx; exact hc.1; exact h1 x hx, h2⟩
    · cases h
theorem numFrom_small (l : List UInt8) : ∀ n, (∀ c ∈ l, dig c = true) → valF n l ≤ 100000 → numFrom n l = some (valF n l) := by
  induction l with
  | nil => intro n _ _; rfl
  | cons c l ih =>
    intro n hd hv
    have h1 := valF_ge (c :: l) n
    rw [valF_cons] at hv
    have hc := hd c (by simp)
    simp only [numFrom, hc, Bool.true_and, valF_cons]
    rw [if_pos (by simp; rw [valF_cons] at h1; omega)]
    exact ih _ (fun x hx => hd x (by simp [hx])) hv
theorem num_dec (v : Int) (h0 : 0 ≤ v) (h1 : v ≤ 65535) : numI (decL v) = v := by
  unfold numI decL
  rw [numFrom_small _ 0 (dec_dig _) (by rw [valF_dec]; omega), valF_dec]
  simp only
  rw [if_neg]
  · omega
  · rintro (h | ⟨h, hh⟩)
    · exact dec_ne _ (List.eq_nil_of_length_eq_zero h)
    · by_cases h10 : v.toNat < 10
      · rw [Lib.decDigits, dif_pos h10] at h; simp at h
      · obtain ⟨c, r, e, hc⟩ := dec_head v.toNat (by omega)
        rw [e] at hh
        exact hc hh
theorem dec_num (d : List UInt8) (h : 0 ≤ numI d) : decL (numI d) = d := by
  unfold numI at h ⊢
  cases hn : numFrom 0 d with
  | none => rw [hn] at h; simp at h
  | some n =>
    rw [hn] at h
    simp only at h ⊢
    split at h
    · omega
    · rename_i hc
      rw [if_neg hc]
      obtain ⟨hd, hv⟩ := numFrom_some d 0 n hn
      have hc' : ¬ d.length = 0 ∧ (1 < d.length → (d.headD 0).toNat ≠ 48) := ⟨fun e => hc (.inl e), fun e e' => hc (.inr ⟨e, e'⟩)⟩
      unfold decL
      rw [Int.toNat_natCast, hv]
      exact dec_val d hd (fun e => hc'.1 (by rw [e]; rfl)) hc'.2
theorem numI_le (d : List UInt8) : numI d ≤ 1000009 := by
  unfold numI
  cases hn : numFrom 0 d with
  | none => simp
  | some n =>
    simp only
    split
    · omega
    · have : ∀ (l : List UInt8) (n m : Nat), n ≤ 1000009 → numFrom n l = some m → m ≤ 1000009 := by
        intro l
        induction l with
        | nil => intro n m h1 h2; simp [numFrom] at h2; omega
        | cons c l ih =>
          intro n m h1 h2
          simp only [numFrom] at h2
          split at h2
          · rename_i hc
            simp [dig] at hc
            exact ih _ _ (by omega) h2
          · cases h2
      have := this d 0 n (by omega) hn
      omega
/-- Go's Atoi on a numeral. -/
theorem parse_val (l : List UInt8) : ∀ n, (∀ c ∈ l, dig c = true) → valF n l ≤ 100000 → Lib.parseUint10 n l = .ok (valF n l) := by
  induction l with
  | nil => intro n _ _; rfl
  | cons c l ih =>
    intro n hd hv
    have h1 := valF_ge (c :: l) n
    rw [valF_cons] at hv h1
    have h2 := valF_ge l (10 * n + (c.toNat - 48))
    have hc := hd c (by simp)
    simp [dig] at hc
    rw [Lib.parseUint10, if_pos hc, if_neg (by omega), if_neg (by omega), show n * 10 + (c.toNat - 48) = 10 * n + (c.toNat - 48) by omega]
    exact ih _ (fun x hx => hd x (by simp [hx])) hv
theorem atoi_dec (v : Int) (h0 : 0 ≤ v) (h1 : v ≤ 65535) : Lib.atoiAll (decL v) = .ok v := by
  unfold decL
  have hv := valF_dec v.toNat
  have hd := dec_dig v.toNat
  cases hl : Lib.decDigits v.toNat with
  | nil => exact absurd hl (dec_ne _)
  | cons c r =>
    rw [hl] at hv hd
    have hc := hd c (by simp)
    simp [dig] at hc
    have hp := parse_val (c :: r) 0 hd (by rw [hv]; omega)
    rw [hv] at hp
    unfold Lib.atoiAll
    simp only
    rw [if_neg (by omega), Lib.parseMag, if_neg (by simp), hp]
    simp only
    rw [if_neg (by omega), if_neg (by omega), if_neg (by omega)]
    congr 1
    omega
end Go.Proofs.YthbjeleiiilhlaaDoor.Cf
