/- Plain mathematics of chapter 4: modules as bytes. No Go in it. -/
import Derived.Test.YtnnhhbjbdmgpiaaDoorSafeP
namespace Go.Proofs.YtnnhhbjbdmgpiaaDoor.Cf
set_option maxRecDepth 100000

structure Mod where
  name : List UInt8
  code : List Ins
  data : List Int
def noMod : Mod := ⟨[], [], []⟩
def letterB (c : UInt8) : Bool := inB c.toNat 97 122
def nameB (s : List UInt8) : Bool := s.all letterB && inB s.length 1 6
def modT (m : Mod) : Int := if nameB m.name then (if m.data.length ≤ 64 then (if m.data.all wordB then safeT m.code else 2) else 1) else 4
/-- The checksum's two numbers. -/
def sealX (x : Nat) : List UInt8 → Nat
  | [] => x
  | c :: r => sealX ((x + c.toNat) % 65521) r
def sealY (x y : Nat) : List UInt8 → Nat
  | [] => y
  | c :: r => sealY ((x + c.toNat) % 65521) ((y + (x + c.toNat) % 65521) % 65521) r
def sealL (s : List UInt8) : List UInt8 := [UInt8.ofNat (sealY 1 0 s / 256), UInt8.ofNat (sealY 1 0 s % 256), UInt8.ofNat (sealX 1 s / 256), UInt8.ofNat (sealX 1 s % 256)]
def encIns (x : Ins) : List UInt8 := [UInt8.ofNat x.op.toNat, UInt8.ofNat (16 * x.a.toNat + x.b.toNat), UInt8.ofNat (x.c.toNat / 256), UInt8.ofNat (x.c.toNat % 256)]
def encW (v : Int) : List UInt8 := [UInt8.ofNat (v.toNat / 256), UInt8.ofNat (v.toNat % 256)]
def bodyL (m : Mod) : List UInt8 := UInt8.ofNat m.name.length :: (m.name ++ UInt8.ofNat m.code.length :: (m.code.flatMap encIns ++ UInt8.ofNat m.data.length :: m.data.flatMap encW))
def encL (m : Mod) : List UInt8 := sealL (bodyL m) ++ bodyL m
def decIns : List UInt8 → Option (Ins × List UInt8)
  | o :: ab :: c1 :: c0 :: r => some (⟨o.toNat, ab.toNat / 16, ab.toNat % 16, 256 * c1.toNat + c0.toNat⟩, r)
  | _ => none
def decCode : Nat → List UInt8 → Option (List Ins × List UInt8)
  | 0, t => some ([], t)
  | n + 1, t => match decIns t with
    | none => none
    | some (x, r) => match decCode n r with
      | none => none
      | some (xs, r') => some (x :: xs, r')
def decData : Nat → List UInt8 → Option (List Int × List UInt8)
  | 0, t => some ([], t)
  | n + 1, c1 :: c0 :: r => match decData n r with
    | none => none
    | some (xs, r') => some ((256 * c1.toNat + c0.toNat : Int) :: xs, r')
  | _ + 1, _ => none
def decBody : List UInt8 → Option (Mod × List UInt8)
  | [] => none
  | n :: r => if r.length < n.toNat then none else match r.drop n.toNat with
    | [] => none
    | k :: r2 => match decCode k.toNat r2 with
      | none => none
      | some (_, []) => none
      | some (code, d :: r4) => match decData d.toNat r4 with
        | none => none
        | some (data, r5) => some (⟨r.take n.toNat, code, data⟩, r5)
structure GotM where
  mod : Mod
  err : Int
def decT (s : List UInt8) : GotM :=
  if 4000 < s.length then ⟨noMod, 1⟩ else if s.length < 4 then ⟨noMod, 5⟩ else if sealL (s.drop 4) ≠ s.take 4 then ⟨noMod, 11⟩ else match decBody (s.drop 4) with
    | none => ⟨noMod, 5⟩
    | some (_, _ :: _) => ⟨noMod, 4⟩
    | some (m, []) => if modT m = 0 then ⟨m, 0⟩ else ⟨noMod, modT m⟩

theorem toNat_of (n : Nat) (h : n < 256) : (UInt8.ofNat n).toNat = n := by
  simp [UInt8.toNat_ofNat']
  omega
theorem dec_ins (x : Ins) (h : chk x = 0) (r : List UInt8) : decIns (encIns x ++ r) = some (x, r) := by
  obtain ⟨ho, ha, hb, hc, _, _⟩ := chk_parts x h
  obtain ⟨op, a, b, c⟩ := x
  dsimp only at ho ha hb hc
  simp only [encIns, List.cons_append, List.nil_append, decIns]
  rw [toNat_of _ (by omega), toNat_of _ (by omega), toNat_of _ (by omega), toNat_of _ (by omega)]
  simp only [Option.some.injEq, Prod.mk.injEq, Ins.mk.injEq, and_true]
  omega
theorem dec_code : ∀ (l : List Ins) (r : List UInt8), faultIn l = 0 → decCode l.length (l.flatMap encIns ++ r) = some (l, r)
  | [], r, _ => rfl
  | x :: l, r, h => by
    have hx : chk x = 0 := faultIn_mem (x :: l) h 0 x rfl
    have hl : faultIn l = 0 := by simpa [faultIn, hx] using h
    rw [List.length_cons, List.flatMap_cons, List.append_assoc, decCode, dec_ins x hx]
    simp only
    rw [dec_code l r hl]
theorem dec_data : ∀ (l : List Int) (r : List UInt8), (∀ v ∈ l, 0 ≤ v ∧ v ≤ 65535) → decData l.length (l.flatMap encW ++ r) = some (l, r)
  | [], r, _ => rfl
  | v :: l, r, h => by
    have hv := h v (List.mem_cons_self ..)
    rw [List.length_cons, List.flatMap_cons, List.append_assoc, encW, List.cons_append, List.cons_append, List.nil_append, decData, dec_data l r (fun u hu => h u (List.mem_cons_of_mem _ hu))]
    simp only [Option.some.injEq, Prod.mk.injEq, List.cons.injEq, and_true]
    rw [toNat_of _ (by omega), toNat_of _ (by omega)]
    omega
theorem mod_parts {m : Mod} (h : modT m = 0) : (1 ≤ m.name.length ∧ m.name.length ≤ 6) ∧ m.data.length ≤ 64 ∧ (∀ v ∈ m.data, 0 ≤ v ∧ v ≤ 65535) ∧ safeT m.code = 0 := by
  unfold modT at h
  split at h
  · rename_i hn
    split at h
    · rename_i hd
      split at h
      · rename_i hw
        simp only [nameB, Bool.and_eq_true, inB, decide_eq_true_eq] at hn
        refine ⟨⟨by omega, by omega⟩, hd, fun v hv => ?_, h⟩
        have := List.all_eq_true.1 hw v hv
        simpa [wordB, inB] using this
      · cases h
    · cases h
  · cases h
theorem dec_body {m : Mod} (h : modT m = 0) : decBody (bodyL m) = some (m, []) := by
  obtain ⟨hn, hd, hw, hs⟩ := mod_parts h
  have hf := safe_fault hs
  have hz : faultIn m.code = 0 ∧ m.code.length ≤ 200 := by
    unfold fault at hf
    split at hf
    · cases hf
    · exact ⟨hf, by omega⟩
  have e := dec_data m.data [] hw
  rw [List.append_nil] at e
  unfold bodyL decBody
  simp only
  rw [toNat_of _ (by omega), if_neg (by simp), List.drop_left, List.take_left]
  simp only
  rw [toNat_of _ (by omega), dec_code _ _ hz.1]
  simp only
  rw [toNat_of _ (by omega), e]
theorem encIns_len (l : List Ins) : (l.flatMap encIns).length = 4 * l.length := by
  induction l with
  | nil => rfl
  | cons x l ih => rw [List.flatMap_cons, List.length_append, ih, List.length_cons]; show 4 + 4 * l.length = _; omega
theorem encW_len (l : List Int) : (l.flatMap encW).length = 2 * l.length := by
  induction l with
  | nil => rfl
  | cons x l ih => rw [List.flatMap_cons, List.length_append, ih, List.length_cons]; show 2 + 2 * l.length = _; omega
theorem enc_len {m : Mod} (h : modT m = 0) : 6 ≤ (encL m).length ∧ (encL m).length ≤ 941 := by
  obtain ⟨hn, hd, _, hs⟩ := mod_parts h
  have hf := safe_fault hs
  have hz : m.code.length ≤ 200 := by
    unfold fault at hf
    split at hf
    · cases hf
    · omega
  simp only [encL, bodyL, List.length_append, List.length_cons, encIns_len, encW_len]
  simp only [sealL, List.length_cons, List.length_nil]
  omega
/-- Decoding an encoding gives the module back. -/
theorem dec_enc {m : Mod} (h : modT m = 0) : decT (encL m) = ⟨m, 0⟩ := by
  have hl := enc_len h
  unfold decT
  rw [if_neg (by omega), if_neg (by omega), if_neg, show (encL m).drop 4 = bodyL m from rfl, dec_body h]
  · simp only
    rw [if_pos h]
  · exact fun hx => hx rfl
theorem dec_short {s : List UInt8} (h : s.length < 4) : decT s = ⟨noMod, 5⟩ := by
  unfold decT
  rw [if_neg (by omega), if_pos h]
/-- The first number is a sum. -/
def sumL (s : List UInt8) : Nat := (s.map UInt8.toNat).sum
theorem sealX_sum : ∀ (s : List UInt8) (x : Nat), x < 65521 → sealX x s = (x + sumL s) % 65521
  | [], x, h => by simp [sealX, sumL]; omega
  | c :: r, x, h => by
    rw [sealX, sealX_sum r _ (Nat.mod_lt _ (by omega))]
    simp only [sumL, List.map_cons, List.sum_cons]
    omega
theorem seal_x {s t : List UInt8} (h : sealL s = sealL t) : sealX 1 s = sealX 1 t := by
  have h1 : sealX 1 s < 65521 := by rw [sealX_sum _ _ (by omega)]; exact Nat.mod_lt _ (by omega)
  have h2 : sealX 1 t < 65521 := by rw [sealX_sum _ _ (by omega)]; exact Nat.mod_lt _ (by omega)
  simp only [sealL, List.cons.injEq, and_true] at h
  have e1 := congrArg UInt8.toNat h.2.2.1
  have e2 := congrArg UInt8.toNat h.2.2.2
  rw [toNat_of _ (by omega), toNat_of _ (by omega)] at e1 e2
  omega
theorem sum_set : ∀ (s : List UInt8) (k : Nat) (v u : UInt8), s[k]? = some u → sumL (s.set k v) + u.toNat = sumL s + v.toNat
  | [], k, v, u, h => by simp at h
  | c :: r, 0, v, u, h => by
    simp at h
    subst h
    simp [sumL]
    omega
  | c :: r, k + 1, v, u, h => by
    have := sum_set r k v u (by simpa using h)
    simp only [List.set_cons_succ, sumL, List.map_cons, List.sum_cons] at this ⊢
    omega
/-- One byte that is changed is noticed. -/
theorem seal_set {s : List UInt8} {k : Nat} {u v : UInt8} (h : s[k]? = some u) (hne : v ≠ u) : sealL (s.set k v) ≠ sealL s := by
  intro he
  have hx := seal_x he
  rw [sealX_sum _ _ (by omega), sealX_sum _ _ (by omega)] at hx
  have hs := sum_set s k v u h
  have hv := v.toNat_lt
  have hu := u.toNat_lt
  exact hne (UInt8.toNat_inj.1 (by omega))
theorem dec_set {m : Mod} (h : modT m = 0) {k : Nat} {u v : UInt8} (hk : (encL m)[k]? = some u) (hne : v ≠ u) : decT ((encL m).set k v) = ⟨noMod, 11⟩ := by
  have hl := enc_len h
  unfold decT
  rw [if_neg (by rw [List.length_set]; omega), if_neg (by rw [List.length_set]; omega), if_pos]
  have h4 : (sealL (bodyL m)).length = 4 := rfl
  rcases Nat.lt_or_ge k 4 with h1 | h1
  · have e : (encL m).set k v = (sealL (bodyL m)).set k v ++ bodyL m := by unfold encL; rw [List.set_append_left _ _ (by omega)]
    rw [e, List.drop_left' (by rw [List.length_set, h4]), List.take_left' (by rw [List.length_set, h4])]
    intro he
    have hk' : (sealL (bodyL m))[k]? = some u := by
      unfold encL at hk
      rwa [List.getElem?_append_left (by omega)] at hk
    have := congrArg (fun z => z[k]?) he
    rw [hk', List.getElem?_set_self (by omega)] at this
    injection this with this
    exact hne this.symm
  · have e : (encL m).set k v = sealL (bodyL m) ++ (bodyL m).set (k - 4) v := by unfold encL; rw [List.set_append_right _ _ (by omega), h4]
    rw [e, List.drop_left' h4, List.take_left' h4]
    have hk' : (bodyL m)[k - 4]? = some u := by
      unfold encL at hk
      rwa [List.getElem?_append_right (by omega), h4] at hk
    exact seal_set hk' hne
end Go.Proofs.YtnnhhbjbdmgpiaaDoor.Cf
