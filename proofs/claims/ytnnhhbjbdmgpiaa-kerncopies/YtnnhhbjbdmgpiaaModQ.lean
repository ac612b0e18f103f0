/- Plain mathematics of chapter 4, for the walks: the checksum, and a reader of bytes, a piece at a time. No Go in it. -/
import Derived.Test.YtnnhhbjbdmgpiaaModP
namespace Go.Proofs.Ytnnhhbjbdmgpiaa.Cf

theorem sealX_lt (s : List UInt8) : sealX 1 s < 65521 := by
  rw [sealX_sum _ _ (by omega)]
  exact Nat.mod_lt _ (by omega)
theorem sealX_snoc : ∀ (s : List UInt8) (x : Nat) (c : UInt8), sealX x (s ++ [c]) = (sealX x s + c.toNat) % 65521
  | [], _, _ => rfl
  | d :: r, x, c => by rw [List.cons_append, sealX, sealX, sealX_snoc r]
theorem sealY_snoc : ∀ (s : List UInt8) (x y : Nat) (c : UInt8), sealY x y (s ++ [c]) = (sealY x y s + (sealX x s + c.toNat) % 65521) % 65521
  | [], _, _, _ => rfl
  | d :: r, x, y, c => by rw [List.cons_append, sealY, sealY, sealX, sealY_snoc r]
theorem sealY_lt : ∀ (s : List UInt8) (x y : Nat), y < 65521 → sealY x y s < 65521
  | [], _, _, h => h
  | d :: r, x, y, h => by rw [sealY]; exact sealY_lt r _ _ (Nat.mod_lt _ (by omega))
theorem take_next {α : Type} (s : List α) (k : Nat) (c : α) (h : s[k]? = some c) : s.take (k + 1) = s.take k ++ [c] := by
  rw [List.take_add_one, h]; rfl
/-- A number of these bytes, the most significant one first. -/
def valB (l : List UInt8) : Nat := l.foldl (fun v b => 256 * v + b.toNat) 0
theorem valB_snoc (l : List UInt8) (c : UInt8) : valB (l ++ [c]) = 256 * valB l + c.toNat := by
  simp [valB]
theorem valB_le2 (l : List UInt8) (h : l.length ≤ 2) : valB l ≤ 65535 := by
  match l, h with
  | [], _ => simp [valB]
  | [a], _ => have := a.toNat_lt; simp [valB]; omega
  | [a, b], _ => have := a.toNat_lt; have := b.toNat_lt; simp [valB]; omega
structure Rdr where
  rest : List UInt8
  short : Bool
structure TookS where
  got : List UInt8
  rdr : Rdr
structure TookN where
  got : Nat
  rdr : Rdr
structure TookI where
  got : Ins
  rdr : Rdr
structure TookC where
  got : List Ins
  rdr : Rdr
structure TookD where
  got : List Int
  rdr : Rdr
def takeR (n : Nat) (r : Rdr) : TookS := if r.rest.length < n then ⟨[], ⟨[], true⟩⟩ else ⟨r.rest.take n, ⟨r.rest.drop n, r.short⟩⟩
def numR (n : Nat) (r : Rdr) : TookN := ⟨valB (takeR n r).got, (takeR n r).rdr⟩
def insR (r : Rdr) : TookI := ⟨⟨(numR 1 r).got, (numR 1 (numR 1 r).rdr).got / 16, (numR 1 (numR 1 r).rdr).got % 16, (numR 2 (numR 1 (numR 1 r).rdr).rdr).got⟩, (numR 2 (numR 1 (numR 1 r).rdr).rdr).rdr⟩
def codeR : Nat → Rdr → TookC
  | 0, r => ⟨[], r⟩
  | n + 1, r => ⟨(codeR n r).got ++ [(insR (codeR n r).rdr).got], (insR (codeR n r).rdr).rdr⟩
def dataR : Nat → Rdr → TookD
  | 0, r => ⟨[], r⟩
  | n + 1, r => ⟨(dataR n r).got ++ [((numR 2 (dataR n r).rdr).got : Int)], (numR 2 (dataR n r).rdr).rdr⟩
theorem takeR_len (n : Nat) (r : Rdr) : (takeR n r).got.length ≤ n := by
  unfold takeR
  split
  · simp
  · simp only [List.length_take]; omega
theorem takeR_rest (n : Nat) (r : Rdr) : (takeR n r).rdr.rest.length ≤ r.rest.length := by
  unfold takeR
  split
  · simp
  · simp
theorem numR1_le (r : Rdr) : (numR 1 r).got ≤ 255 := by
  have := takeR_len 1 r
  unfold numR
  generalize (takeR 1 r).got = l at *
  match l, this with
  | [], _ => simp [valB]
  | [a], _ => have := a.toNat_lt; simp [valB]; omega
theorem numR2_le (r : Rdr) : (numR 2 r).got ≤ 65535 := valB_le2 _ (takeR_len 2 r)
theorem codeR_len : ∀ (n : Nat) (r : Rdr), (codeR n r).got.length = n
  | 0, _ => rfl
  | n + 1, r => by simp [codeR, codeR_len n r]
theorem dataR_len : ∀ (n : Nat) (r : Rdr), (dataR n r).got.length = n
  | 0, _ => rfl
  | n + 1, r => by simp [dataR, dataR_len n r]
/-- What the program reads of a body. -/
def nameR (body : List UInt8) : TookS := takeR (numR 1 ⟨body, false⟩).got (numR 1 ⟨body, false⟩).rdr
def restC (body : List UInt8) : TookC := codeR (numR 1 (nameR body).rdr).got (numR 1 (nameR body).rdr).rdr
def restD (body : List UInt8) : TookD := dataR (numR 1 (restC body).rdr).got (numR 1 (restC body).rdr).rdr
def parseT (body : List UInt8) : GotM :=
  if (restD body).rdr.short then ⟨noMod, 5⟩ else if (restD body).rdr.rest = [] then ⟨⟨(nameR body).got, (restC body).got, (restD body).got⟩, 0⟩ else ⟨noMod, 4⟩
def stuck : Rdr := ⟨[], true⟩
theorem take_stuck (n : Nat) : takeR n stuck = ⟨[], stuck⟩ := by
  unfold takeR stuck
  split
  · rfl
  · simp
theorem num_stuck (n : Nat) : numR n stuck = ⟨0, stuck⟩ := by
  unfold numR
  rw [take_stuck]
  rfl
theorem num1_nil (b : Bool) : numR 1 ⟨[], b⟩ = ⟨0, stuck⟩ := by
  unfold numR takeR
  simp [valB, stuck]
theorem num1_cons (c : UInt8) (t : List UInt8) (b : Bool) : numR 1 ⟨c :: t, b⟩ = ⟨c.toNat, ⟨t, b⟩⟩ := by
  unfold numR takeR
  simp [valB]
theorem num2_two (c d : UInt8) (t : List UInt8) (b : Bool) : numR 2 ⟨c :: d :: t, b⟩ = ⟨256 * c.toNat + d.toNat, ⟨t, b⟩⟩ := by
  unfold numR takeR
  rw [if_neg (by simp)]
  simp [valB]
theorem num2_short (l : List UInt8) (h : l.length < 2) (b : Bool) : numR 2 ⟨l, b⟩ = ⟨0, stuck⟩ := by
  unfold numR takeR
  rw [if_pos h]
  rfl
theorem ins_stuck : (insR stuck).rdr = stuck := by
  simp [insR, num_stuck]
theorem ins_some {t : List UInt8} {x : Ins} {r : List UInt8} (h : decIns t = some (x, r)) : insR ⟨t, false⟩ = ⟨x, ⟨r, false⟩⟩ := by
  unfold decIns at h
  split at h
  · simp only [Option.some.injEq, Prod.mk.injEq] at h
    obtain ⟨rfl, rfl⟩ := h
    simp only [insR, num1_cons, num2_two]
    simp
  · cases h
theorem ins_none {t : List UInt8} (h : decIns t = none) : (insR ⟨t, false⟩).rdr = stuck := by
  unfold decIns at h
  split at h
  · cases h
  · rename_i hn
    match t with
    | [] => simp [insR, num1_nil, num_stuck]
    | [a] => simp [insR, num1_nil, num1_cons, num_stuck]
    | [a, b] => simp [insR, num1_cons, num2_short]
    | [a, b, c] => simp [insR, num1_cons, num2_short]
    | a :: b :: c :: d :: r => exact absurd rfl (hn a b c d r)
theorem decCode_snoc : ∀ (n : Nat) (t : List UInt8), decCode (n + 1) t = (decCode n t).bind fun p => (decIns p.2).map fun q => (p.1 ++ [q.1], q.2)
  | 0, t => by
    simp only [decCode, Option.bind_some]
    cases decIns t with
    | none => rfl
    | some q => rfl
  | n + 1, t => by
    have ih := fun r => decCode_snoc n r
    rw [decCode]
    conv => rhs; rw [decCode]
    cases hd : decIns t with
    | none => rfl
    | some q =>
      obtain ⟨x, r⟩ := q
      simp only
      rw [ih r]
      cases decCode n r with
      | none => rfl
      | some p =>
        obtain ⟨xs, r'⟩ := p
        simp only [Option.bind_some]
        cases decIns r' with
        | none => rfl
        | some q' => rfl
theorem decData_snoc : ∀ (n : Nat) (t : List UInt8), decData (n + 1) t = (decData n t).bind fun p => match p.2 with
    | c1 :: c0 :: r => some (p.1 ++ [(256 * c1.toNat + c0.toNat : Int)], r)
    | _ => none
  | 0, t => by
    match t with
    | [] => rfl
    | [_] => rfl
    | a :: b :: r => rfl
  | n + 1, t => by
    match t with
    | [] => rfl
    | [_] => rfl
    | a :: b :: r =>
      have ih := decData_snoc n r
      rw [decData, ih]
      conv => rhs; rw [decData]
      cases decData n r with
      | none => rfl
      | some p =>
        obtain ⟨xs, r'⟩ := p
        simp only [Option.bind_some]
        match r' with
        | [] => rfl
        | [_] => rfl
        | c :: d :: r'' => rfl
theorem code_stuck : ∀ n, (codeR n stuck).rdr = stuck
  | 0 => rfl
  | n + 1 => by rw [codeR]; show (insR (codeR n stuck).rdr).rdr = stuck; rw [code_stuck n, ins_stuck]
theorem data_stuck : ∀ n, (dataR n stuck).rdr = stuck
  | 0 => rfl
  | n + 1 => by rw [dataR]; show (numR 2 (dataR n stuck).rdr).rdr = stuck; rw [data_stuck n, num_stuck]
theorem code_dec : ∀ (n : Nat) (t : List UInt8), (∀ xs r, decCode n t = some (xs, r) → codeR n ⟨t, false⟩ = ⟨xs, ⟨r, false⟩⟩) ∧ (decCode n t = none → (codeR n ⟨t, false⟩).rdr = stuck)
  | 0, t => ⟨fun xs r h => by simp [decCode] at h; obtain ⟨rfl, rfl⟩ := h; rfl, fun h => by simp [decCode] at h⟩
  | n + 1, t => by
    obtain ⟨h1, h2⟩ := code_dec n t
    rw [decCode_snoc]
    cases hd : decCode n t with
    | none =>
      refine ⟨fun xs r h => by simp at h, fun _ => ?_⟩
      rw [codeR]
      show (insR (codeR n ⟨t, false⟩).rdr).rdr = stuck
      rw [h2 hd, ins_stuck]
    | some p =>
      obtain ⟨ys, r'⟩ := p
      have e := h1 ys r' hd
      simp only [Option.bind_some]
      cases hi : decIns r' with
      | none =>
        refine ⟨fun xs r h => by simp at h, fun _ => ?_⟩
        rw [codeR, e]
        exact ins_none hi
      | some q =>
        obtain ⟨x, r''⟩ := q
        refine ⟨fun xs r h => ?_, fun h => by simp at h⟩
        simp at h
        obtain ⟨rfl, rfl⟩ := h
        rw [codeR, e, ins_some hi]
theorem data_dec : ∀ (n : Nat) (t : List UInt8), (∀ xs r, decData n t = some (xs, r) → dataR n ⟨t, false⟩ = ⟨xs, ⟨r, false⟩⟩) ∧ (decData n t = none → (dataR n ⟨t, false⟩).rdr = stuck)
  | 0, t => ⟨fun xs r h => by simp [decData] at h; obtain ⟨rfl, rfl⟩ := h; rfl, fun h => by simp [decData] at h⟩
  | n + 1, t => by
    obtain ⟨h1, h2⟩ := data_dec n t
    rw [decData_snoc]
    cases hd : decData n t with
    | none =>
      refine ⟨fun xs r h => by simp at h, fun _ => ?_⟩
      rw [dataR]
      show (numR 2 (dataR n ⟨t, false⟩).rdr).rdr = stuck
      rw [h2 hd, num_stuck]
    | some p =>
      obtain ⟨ys, r'⟩ := p
      have e := h1 ys r' hd
      simp only [Option.bind_some]
      match r' with
      | [] =>
        refine ⟨fun xs r h => by simp at h, fun _ => ?_⟩
        rw [dataR, e]
        show (numR 2 ⟨[], false⟩).rdr = stuck
        rw [num2_short _ (by simp)]
      | [a] =>
        refine ⟨fun xs r h => by simp at h, fun _ => ?_⟩
        rw [dataR, e]
        show (numR 2 ⟨[a], false⟩).rdr = stuck
        rw [num2_short _ (by simp)]
      | c :: d :: r'' =>
        refine ⟨fun xs r h => ?_, fun h => by simp at h⟩
        simp at h
        obtain ⟨rfl, rfl⟩ := h
        rw [dataR, e]
        simp only [num2_two]
        simp
/-- The program's reading is the document's. -/
theorem parse_dec (body : List UInt8) : parseT body = match decBody body with
    | none => ⟨noMod, 5⟩
    | some (_, _ :: _) => ⟨noMod, 4⟩
    | some (m, []) => ⟨m, 0⟩ := by
  have hstuck : (restD body).rdr = stuck → parseT body = ⟨noMod, 5⟩ := by
    intro h
    unfold parseT
    rw [h]
    rfl
  cases body with
  | nil =>
    refine (hstuck ?_).trans rfl
    simp [restD, restC, nameR, num1_nil, take_stuck, num_stuck, codeR, dataR]
  | cons n r =>
    simp only [decBody]
    by_cases hn : r.length < n.toNat
    · rw [if_pos hn, hstuck]
      have : nameR (n :: r) = ⟨[], stuck⟩ := by
        unfold nameR
        rw [num1_cons]
        unfold takeR
        rw [if_pos hn]
        rfl
      simp [restD, restC, this, num_stuck, codeR, dataR]
    · rw [if_neg hn]
      have hN : nameR (n :: r) = ⟨r.take n.toNat, ⟨r.drop n.toNat, false⟩⟩ := by
        unfold nameR
        rw [num1_cons]
        unfold takeR
        rw [if_neg hn]
      cases hd : r.drop n.toNat with
      | nil =>
        rw [hd] at hN
        rw [hstuck]
        simp [restD, restC, hN, num1_nil, num_stuck, codeR, dataR]
      | cons k r2 =>
        rw [hd] at hN
        simp only
        obtain ⟨c1, c2⟩ := code_dec k.toNat r2
        have hC : restC (n :: r) = codeR k.toNat ⟨r2, false⟩ := by
          unfold restC
          rw [hN, num1_cons]
        cases hc : decCode k.toNat r2 with
        | none =>
          rw [hstuck]
          have := c2 hc
          simp [restD, hC, this, num_stuck, dataR]
        | some p =>
          obtain ⟨code, r3⟩ := p
          have hC' := hC.trans (c1 _ _ hc)
          match r3 with
          | [] =>
            rw [hstuck]
            simp [restD, hC', num1_nil, dataR]
          | d :: r4 =>
            simp only
            obtain ⟨d1, d2⟩ := data_dec d.toNat r4
            have hD : restD (n :: r) = dataR d.toNat ⟨r4, false⟩ := by
              unfold restD
              rw [hC', num1_cons]
            cases hx : decData d.toNat r4 with
            | none =>
              rw [hstuck]
              rw [hD]
              exact d2 hx
            | some q =>
              obtain ⟨data, r5⟩ := q
              have hD' := hD.trans (d1 _ _ hx)
              unfold parseT
              rw [hD', hC', hN]
              cases r5 with
              | nil => rfl
              | cons a b => rfl
theorem decT_parse (s : List UInt8) : decT s = if 4000 < s.length then ⟨noMod, 1⟩ else if s.length < 4 then ⟨noMod, 5⟩ else if sealL (s.drop 4) ≠ s.take 4 then ⟨noMod, 11⟩ else
    if (parseT (s.drop 4)).err = 0 then (if modT (parseT (s.drop 4)).mod = 0 then ⟨(parseT (s.drop 4)).mod, 0⟩ else ⟨noMod, modT (parseT (s.drop 4)).mod⟩) else ⟨noMod, (parseT (s.drop 4)).err⟩ := by
  unfold decT
  rw [parse_dec]
  cases decBody (s.drop 4) with
  | none => rfl
  | some p =>
    obtain ⟨m, r⟩ := p
    cases r with
    | nil => rfl
    | cons a b => rfl
end Go.Proofs.Ytnnhhbjbdmgpiaa.Cf
