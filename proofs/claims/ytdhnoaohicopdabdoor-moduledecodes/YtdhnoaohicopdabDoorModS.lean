/- Plain mathematics of chapter 4: how the reference reads a module, a byte at a time. No Go in it. -/
import Derived.Test.YtdhnoaohicopdabDoorModQ
namespace Go.Proofs.YtdhnoaohicopdabDoor.Cf

/-- A word, by two bytes read one after the other. -/
def wordQ (r : Rdr) : TookN := ⟨256 * (numR 1 r).got + (numR 1 (numR 1 r).rdr).got, (numR 1 (numR 1 r).rdr).rdr⟩
def insQ (r : Rdr) : TookI := ⟨⟨(numR 1 r).got, (numR 1 (numR 1 r).rdr).got / 16, (numR 1 (numR 1 r).rdr).got % 16, (wordQ (numR 1 (numR 1 r).rdr).rdr).got⟩, (wordQ (numR 1 (numR 1 r).rdr).rdr).rdr⟩
def codeQ : Nat → Rdr → TookC
  | 0, r => ⟨[], r⟩
  | n + 1, r => if r.short then ⟨[], r⟩ else ⟨(insQ r).got :: (codeQ n (insQ r).rdr).got, (codeQ n (insQ r).rdr).rdr⟩
def dataQ : Nat → Rdr → TookD
  | 0, r => ⟨[], r⟩
  | n + 1, r => if r.short then ⟨[], r⟩ else ⟨((wordQ r).got : Int) :: (dataQ n (wordQ r).rdr).got, (dataQ n (wordQ r).rdr).rdr⟩
theorem codeQ_short {r : Rdr} (h : r.short = true) (n : Nat) : codeQ n r = ⟨[], r⟩ := by
  cases n with
  | zero => rfl
  | succ n => rw [codeQ, if_pos h]
theorem dataQ_short {r : Rdr} (h : r.short = true) (n : Nat) : dataQ n r = ⟨[], r⟩ := by
  cases n with
  | zero => rfl
  | succ n => rw [dataQ, if_pos h]
theorem codeQ_len : ∀ (n : Nat) (r : Rdr), (codeQ n r).got.length ≤ n
  | 0, _ => by simp [codeQ]
  | n + 1, r => by
    have := codeQ_len n (insQ r).rdr
    rw [codeQ]
    split
    · simp
    · simp; omega
theorem dataQ_len : ∀ (n : Nat) (r : Rdr), (dataQ n r).got.length ≤ n
  | 0, _ => by simp [dataQ]
  | n + 1, r => by
    have := dataQ_len n (wordQ r).rdr
    rw [dataQ]
    split
    · simp
    · simp; omega
theorem insQ_some {t : List UInt8} {x : Ins} {r : List UInt8} (h : decIns t = some (x, r)) : insQ ⟨t, false⟩ = ⟨x, ⟨r, false⟩⟩ := by
  unfold decIns at h
  split at h
  · simp only [Option.some.injEq, Prod.mk.injEq] at h
    obtain ⟨rfl, rfl⟩ := h
    simp only [insQ, wordQ, num1_cons]
    simp
  · cases h
theorem insQ_none {t : List UInt8} (h : decIns t = none) : (insQ ⟨t, false⟩).rdr = stuck := by
  unfold decIns at h
  split at h
  · cases h
  · rename_i hn
    match t with
    | [] => simp [insQ, wordQ, num1_nil, num_stuck]
    | [a] => simp [insQ, wordQ, num1_nil, num1_cons, num_stuck]
    | [a, b] => simp [insQ, wordQ, num1_nil, num1_cons, num_stuck]
    | [a, b, c] => simp [insQ, wordQ, num1_nil, num1_cons]
    | a :: b :: c :: d :: r => exact absurd rfl (hn a b c d r)
theorem codeQ_dec : ∀ (n : Nat) (t : List UInt8), (∀ xs r, decCode n t = some (xs, r) → codeQ n ⟨t, false⟩ = ⟨xs, ⟨r, false⟩⟩) ∧ (decCode n t = none → (codeQ n ⟨t, false⟩).rdr = stuck)
  | 0, t => ⟨fun xs r h => by simp [decCode] at h; obtain ⟨rfl, rfl⟩ := h; rfl, fun h => by simp [decCode] at h⟩
  | n + 1, t => by
    rw [decCode, codeQ, if_neg (by simp)]
    cases hd : decIns t with
    | none =>
      refine ⟨fun xs r h => by simp at h, fun _ => ?_⟩
      show (codeQ n (insQ ⟨t, false⟩).rdr).rdr = stuck
      rw [insQ_none hd, codeQ_short rfl]
    | some q =>
      obtain ⟨x, r⟩ := q
      obtain ⟨h1, h2⟩ := codeQ_dec n r
      rw [insQ_some hd]
      simp only
      cases hc : decCode n r with
      | none => exact ⟨fun xs r' h => by simp at h, fun _ => h2 hc⟩
      | some p =>
        obtain ⟨ys, r'⟩ := p
        refine ⟨fun xs r'' h => ?_, fun h => by simp at h⟩
        simp at h
        obtain ⟨rfl, rfl⟩ := h
        rw [h1 _ _ hc]
theorem dataQ_dec : ∀ (n : Nat) (t : List UInt8), (∀ xs r, decData n t = some (xs, r) → dataQ n ⟨t, false⟩ = ⟨xs, ⟨r, false⟩⟩) ∧ (decData n t = none → (dataQ n ⟨t, false⟩).rdr = stuck)
  | 0, t => ⟨fun xs r h => by simp [decData] at h; obtain ⟨rfl, rfl⟩ := h; rfl, fun h => by simp [decData] at h⟩
  | n + 1, t => by
    rw [dataQ, if_neg (by simp)]
    match t with
    | [] =>
      refine ⟨fun xs r h => by simp [decData] at h, fun _ => ?_⟩
      have : (wordQ ⟨[], false⟩).rdr = stuck := by simp [wordQ, num1_nil, num_stuck]
      show (dataQ n (wordQ ⟨[], false⟩).rdr).rdr = stuck
      rw [this, dataQ_short rfl]
    | [a] =>
      refine ⟨fun xs r h => by simp [decData] at h, fun _ => ?_⟩
      have : (wordQ ⟨[a], false⟩).rdr = stuck := by simp [wordQ, num1_nil, num1_cons]
      show (dataQ n (wordQ ⟨[a], false⟩).rdr).rdr = stuck
      rw [this, dataQ_short rfl]
    | c :: d :: r =>
      obtain ⟨h1, h2⟩ := dataQ_dec n r
      have hw : wordQ ⟨c :: d :: r, false⟩ = ⟨256 * c.toNat + d.toNat, ⟨r, false⟩⟩ := by simp [wordQ, num1_cons]
      rw [hw, decData]
      simp only
      cases hc : decData n r with
      | none => exact ⟨fun xs r' h => by simp at h, fun _ => h2 hc⟩
      | some p =>
        obtain ⟨ys, r'⟩ := p
        refine ⟨fun xs r'' h => ?_, fun h => by simp at h⟩
        simp at h
        obtain ⟨rfl, rfl⟩ := h
        rw [h1 _ _ hc]
        simp
/-- What the reference reads behind the checksum. -/
def firstQ (t : List UInt8) : TookN := numR 1 ⟨t, false⟩
def nameQ (t : List UInt8) : List UInt8 := (firstQ t).rdr.rest.take (firstQ t).got
def afterQ (t : List UInt8) : Rdr := ⟨(firstQ t).rdr.rest.drop (firstQ t).got, (firstQ t).rdr.short⟩
def restCQ (t : List UInt8) : TookC := codeQ (numR 1 (afterQ t)).got (numR 1 (afterQ t)).rdr
def restDQ (t : List UInt8) : TookD := dataQ (numR 1 (restCQ t).rdr).got (numR 1 (restCQ t).rdr).rdr
def refM (t : List UInt8) : Mod := ⟨nameQ t, (restCQ t).got, (restDQ t).got⟩
def refT (t : List UInt8) : GotM :=
  if (firstQ t).rdr.rest.length < (firstQ t).got then ⟨noMod, 5⟩ else if (restDQ t).rdr.short then ⟨noMod, 5⟩ else if (restDQ t).rdr.rest ≠ [] then ⟨noMod, 4⟩ else if modT (refM t) = 0 then ⟨refM t, 0⟩ else ⟨noMod, modT (refM t)⟩
theorem ref_dec (t : List UInt8) : refT t = match decBody t with
    | none => ⟨noMod, 5⟩
    | some (_, _ :: _) => ⟨noMod, 4⟩
    | some (m, []) => if modT m = 0 then ⟨m, 0⟩ else ⟨noMod, modT m⟩ := by
  have hstuck : (restDQ t).rdr = stuck → refT t = ⟨noMod, 5⟩ := by
    intro h
    unfold refT
    by_cases h1 : (firstQ t).rdr.rest.length < (firstQ t).got
    · rw [if_pos h1]
    · rw [if_neg h1, if_pos (by rw [h]; rfl)]
  cases t with
  | nil =>
    refine (hstuck ?_).trans rfl
    have h1 : firstQ [] = ⟨0, stuck⟩ := num1_nil false
    have h2 : afterQ [] = stuck := by unfold afterQ; rw [h1]; rfl
    simp [restDQ, restCQ, h2, num_stuck, codeQ, dataQ]
  | cons n r =>
    have h1 : firstQ (n :: r) = ⟨n.toNat, ⟨r, false⟩⟩ := num1_cons n r false
    simp only [decBody]
    by_cases hn : r.length < n.toNat
    · rw [if_pos hn]
      unfold refT
      rw [h1, if_pos hn]
    · rw [if_neg hn]
      have hA : afterQ (n :: r) = ⟨r.drop n.toNat, false⟩ := by unfold afterQ; rw [h1]
      have hNm : nameQ (n :: r) = r.take n.toNat := by unfold nameQ; rw [h1]
      cases hd : r.drop n.toNat with
      | nil =>
        rw [hd] at hA
        rw [hstuck]
        simp [restDQ, restCQ, hA, num1_nil, num_stuck, codeQ, dataQ]
      | cons k r2 =>
        rw [hd] at hA
        simp only
        obtain ⟨c1, c2⟩ := codeQ_dec k.toNat r2
        have hC : restCQ (n :: r) = codeQ k.toNat ⟨r2, false⟩ := by
          unfold restCQ
          rw [hA, num1_cons]
        cases hc : decCode k.toNat r2 with
        | none =>
          rw [hstuck]
          have := c2 hc
          simp [restDQ, hC, this, num_stuck, dataQ]
        | some p =>
          obtain ⟨code, r3⟩ := p
          have hC' := hC.trans (c1 _ _ hc)
          match r3 with
          | [] =>
            rw [hstuck]
            simp [restDQ, hC', num1_nil, dataQ]
          | d :: r4 =>
            simp only
            obtain ⟨d1, d2⟩ := dataQ_dec d.toNat r4
            have hD : restDQ (n :: r) = dataQ d.toNat ⟨r4, false⟩ := by
              unfold restDQ
              rw [hC', num1_cons]
            cases hx : decData d.toNat r4 with
            | none =>
              rw [hstuck]
              rw [hD]
              exact d2 hx
            | some q =>
              obtain ⟨data, r5⟩ := q
              have hD' := hD.trans (d1 _ _ hx)
              have hM : refM (n :: r) = ⟨r.take n.toNat, code, data⟩ := by unfold refM; rw [hNm, hC', hD']
              unfold refT
              rw [h1, if_neg hn, hD', hM]
              cases r5 with
              | nil => rfl
              | cons a b => rfl
theorem decT_ref (s : List UInt8) : decT s = if 4000 < s.length then ⟨noMod, 1⟩ else if s.length < 4 then ⟨noMod, 5⟩ else if sealL (s.drop 4) ≠ s.take 4 then ⟨noMod, 11⟩ else refT (s.drop 4) := by
  unfold decT
  rw [ref_dec]
  cases decBody (s.drop 4) with
  | none => rfl
  | some p =>
    obtain ⟨m, r⟩ := p
    cases r with
    | nil => rfl
    | cons a b => rfl
theorem wordQ_le (r : Rdr) : (wordQ r).got ≤ 65535 := by
  have h1 := numR1_le r
  have h2 := numR1_le (numR 1 r).rdr
  unfold wordQ
  dsimp only
  omega
end Go.Proofs.YtdhnoaohicopdabDoor.Cf
