/- Plain mathematics of chapter 3: what may be trusted, and that it keeps to its region. No Go in it. -/
import Derived.Test.YtnnhhbjbdmgpiaaDoorCpuP
namespace Go.Proofs.YtnnhhbjbdmgpiaaDoor.Cf
set_option maxRecDepth 100000

def stopsB (i : Ins) : Bool := decide (i.op = 10) || (decide (i.op = 13) || decide (i.op = 15))
def jumpsB (i : Ins) : Bool := decide (i.op = 10) || (decide (i.op = 11) || decide (i.op = 12))
def orBaseB (i : Ins) : Bool := decide (i.op = 5) && (decide (i.a = 4) && (decide (i.b = 4) && decide (i.c = 5)))
/-- The instruction behind k is Or At At Base. -/
def nextB (l : List Ins) (k : Nat) : Bool :=
  match l[k + 1]? with
  | some i => orBaseB i
  | none => false
/-- The register A of an instruction from Li to Ld. -/
def destB (l : List Ins) (k : Nat) (i : Ins) : Bool :=
  if inB i.op 1 8 then (if i.a = 5 ∨ i.a = 6 then false else if i.a = 4 ∧ orBaseB i = false then decide (i.op = 4) && (decide (i.c = 6) && nextB l k) else true) else true
def okI (l : List Ins) (k : Nat) (i : Ins) : Bool :=
  if destB l k i then (if (i.op = 8 ∨ i.op = 9) ∧ i.b ≠ 4 ∨ jumpsB i = true ∧ (l.length : Int) ≤ i.c then false else true) else false
def okAt (l : List Ins) (k : Nat) : Bool :=
  match l[k]? with
  | some i => okI l k i
  | none => true
def lastB (l : List Ins) : Bool :=
  match l.getLast? with
  | some i => stopsB i
  | none => false
def safeT (l : List Ins) : Int := if fault l = 0 then (if lastB l && (List.range l.length).all (okAt l) then 0 else 10) else fault l

theorem safe_fault {l : List Ins} (h : safeT l = 0) : fault l = 0 := by
  unfold safeT at h
  split at h
  · assumption
  · exact h
theorem safe_both {l : List Ins} (h : safeT l = 0) : lastB l = true ∧ ∀ k i, l[k]? = some i → okI l k i = true := by
  have hf := safe_fault h
  unfold safeT at h
  rw [if_pos hf] at h
  split at h
  · rename_i hb
    simp only [Bool.and_eq_true] at hb
    refine ⟨hb.1, fun k i hi => ?_⟩
    have hk : k < l.length := (List.getElem?_eq_some_iff.1 hi).1
    have := List.all_eq_true.1 hb.2 k (List.mem_range.2 hk)
    rw [okAt, hi] at this
    exact this
  · simp at h
/-- An instruction that goes on is not the last. -/
theorem safe_next {l : List Ins} (h : safeT l = 0) {k : Nat} {i : Ins} (hi : l[k]? = some i) (hs : stopsB i = false) : k + 1 < l.length := by
  obtain ⟨hl, _⟩ := safe_both h
  have hk : k < l.length := (List.getElem?_eq_some_iff.1 hi).1
  rcases Nat.lt_or_ge (k + 1) l.length with h1 | h1
  · exact h1
  · exfalso
    unfold lastB at hl
    rw [List.getLast?_eq_getElem?, show l.length - 1 = k by omega, hi] at hl
    simp only at hl
    rw [hl] at hs
    cases hs
/-- What the check says of one instruction, part by part. -/
theorem safe_at {l : List Ins} (h : safeT l = 0) {k : Nat} {i : Ins} (hi : l[k]? = some i) :
    (1 ≤ i.op ∧ i.op ≤ 8 → i.a ≠ 5 ∧ i.a ≠ 6 ∧ (i.a = 4 → orBaseB i = true ∨ (i.op = 4 ∧ i.c = 6 ∧ nextB l k = true))) ∧ (i.op = 8 ∨ i.op = 9 → i.b = 4) ∧ (jumpsB i = true → i.c < l.length) := by
  have ho := (safe_both h).2 k i hi
  unfold okI at ho
  split at ho
  · rename_i hd
    split at ho
    · cases ho
    · rename_i hn
      refine ⟨fun hop => ?_, fun hop => ?_, fun hj => ?_⟩
      · unfold destB at hd
        rw [if_pos (by simp [inB]; omega)] at hd
        split at hd
        · cases hd
        · rename_i h56
          refine ⟨fun e => h56 (.inl e), fun e => h56 (.inr e), fun h4 => ?_⟩
          cases hob : orBaseB i with
          | true => exact .inl rfl
          | false =>
            rw [if_pos ⟨h4, hob⟩] at hd
            simp only [Bool.and_eq_true, decide_eq_true_eq] at hd
            exact .inr hd
      · rcases Int.lt_trichotomy i.b 4 with h4 | h4 | h4
        · exact absurd (.inl ⟨hop, by omega⟩) hn
        · exact h4
        · exact absurd (.inl ⟨hop, by omega⟩) hn
      · by_cases h4 : i.c < l.length
        · exact h4
        · exact absurd (.inr ⟨hj, by omega⟩) hn
  · cases ho

/-- Bits: a number below 64 or'ed with a multiple of 64. -/
theorem or_base (r x : Nat) (hx : x < 64) : (x ||| 64 * r) = 64 * r + x := by
  rw [Nat.or_comm, show 64 * r = 2 ^ 6 * r from rfl, Nat.two_pow_add_eq_or_of_lt hx]
theorem or_again (r x : Nat) (h1 : 64 * r ≤ x) (h2 : x < 64 * r + 64) : (x ||| 64 * r) = x := by
  obtain ⟨y, rfl⟩ : ∃ y, x = 64 * r + y := ⟨x - 64 * r, by omega⟩
  rw [← or_base r y (by omega), Nat.or_assoc, Nat.or_self]
theorem and_left (x : Nat) : x &&& 63 < 64 := by
  have := Nat.and_le_right (n := x) (m := 63)
  omega

/-- What holds of trusted code in the region r at every step. -/
structure SInv (l : List Ins) (r : Nat) (m : Mach) : Prop where
  len : m.regs.length = 8
  base : m.regs.getD 5 0 = 64 * r
  left : m.regs.getD 6 0 = 63
  words : ∀ v ∈ m.regs, 0 ≤ v ∧ v ≤ 65535
  pc : m.pc < l.length
  backs : ∀ b ∈ m.back, b < l.length
  mem : m.mem.length = 1024
  at_ : (64 * (r : Int) ≤ m.regs.getD 4 0 ∧ m.regs.getD 4 0 < 64 * r + 64) ∨ (m.regs.getD 4 0 < 64 ∧ ∃ i, l[m.pc]? = some i ∧ orBaseB i = true)
theorem getD_set (l : List Int) (i j : Nat) (v : Int) (hi : i < l.length) : (l.set i v).getD j 0 = if i = j then v else l.getD j 0 := by
  rw [List.getD_eq_getElem?_getD, List.getD_eq_getElem?_getD, List.getElem?_set]
  split
  · rename_i h; subst h; simp
  · rfl
theorem orBase_parts {i : Ins} (h : orBaseB i = true) : i.op = 5 ∧ i.a = 4 ∧ i.b = 4 ∧ i.c = 5 := by
  simpa [orBaseB] using h
/-- In the region, unless the instruction at hand is Or At At Base. -/
theorem SInv.in_ {l : List Ins} {r : Nat} {m : Mach} (h : SInv l r m) {i : Ins} (hi : l[m.pc]? = some i) (ho : orBaseB i = false) : 64 * (r : Int) ≤ m.regs.getD 4 0 ∧ m.regs.getD 4 0 < 64 * r + 64 := by
  rcases h.at_ with h1 | ⟨_, j, hj, hb⟩
  · exact h1
  · rw [hi] at hj
    injection hj with hj
    subst hj
    rw [hb] at ho
    cases ho
/-- A step of trusted code. -/
def SafeStep (l : List Ins) (r : Nat) (m : Mach) : Step → Prop
  | .on m' => SInv l r m' ∧ ∀ j : Nat, j < 64 * r ∨ 64 * r + 64 ≤ j → m'.mem.getD j 0 = m.mem.getD j 0
  | .fin e m' => e ≠ 3 ∧ m'.mem = m.mem
theorem not_or {i : Ins} (h : i.op ≠ 5) : orBaseB i = false := by simp [orBaseB, h]
theorem step_safe {l : List Ins} {r : Nat} (hs : safeT l = 0) (hr : r ≤ 15) {m : Mach} (hm : SInv l r m) (hw : ∀ v ∈ m.mem, 0 ≤ v ∧ v ≤ 65535) : SafeStep l r m (step l m) := by
  obtain ⟨i, hi⟩ : ∃ i, l[m.pc]? = some i := ⟨_, List.getElem?_eq_getElem hm.pc⟩
  have hz : faultIn l = 0 := by
    have hf := safe_fault hs
    unfold fault at hf
    split at hf
    · cases hf
    · exact hf
  obtain ⟨ho, ha, hb, hc, _, _⟩ := chk_parts i (faultIn_mem l hz m.pc i hi)
  obtain ⟨s1, s2, s3⟩ := safe_at hs hi
  have hnx := fun h => safe_next hs hi h
  have hin := fun h => hm.in_ hi h
  have hword := fun j => getD_word hm.words j
  unfold step
  rw [hi]
  simp only
  unfold exec
  split
  · -- the register A is set
    rename_i h7
    have hn : m.pc + 1 < l.length := hnx (by simp [stopsB]; omega)
    obtain ⟨a5, a6, a4⟩ := s1 ⟨ho.1, by omega⟩
    have hv : 0 ≤ alu i.op (m.regs.getD i.b.toNat 0) (m.regs.getD i.c.toNat 0) i.c ∧ alu i.op (m.regs.getD i.b.toNat 0) (m.regs.getD i.c.toNat 0) i.c ≤ 65535 := alu_word (hword _) (hword _) (fun _ => hc)
    have hal : i.a.toNat < m.regs.length := by rw [hm.len]; omega
    refine ⟨⟨by simp [Mach.setR, hm.len], ?_, ?_, fun u hu => mem_set hm.words hv hu, hn, hm.backs, hm.mem, ?_⟩, fun _ _ => rfl⟩
    · show (m.regs.set i.a.toNat _).getD 5 0 = _
      rw [getD_set _ _ _ _ hal, if_neg (by omega)]
      exact hm.base
    · show (m.regs.set i.a.toNat _).getD 6 0 = _
      rw [getD_set _ _ _ _ hal, if_neg (by omega)]
      exact hm.left
    · show (64 * (r : Int) ≤ (m.regs.set i.a.toNat _).getD 4 0 ∧ (m.regs.set i.a.toNat _).getD 4 0 < 64 * r + 64) ∨ ((m.regs.set i.a.toNat _).getD 4 0 < 64 ∧ ∃ j, l[m.pc + 1]? = some j ∧ orBaseB j = true)
      rw [getD_set _ _ _ _ hal]
      by_cases h4 : i.a = 4
      · rw [if_pos (by omega)]
        rcases a4 h4 with hob | ⟨e1, e2, e3⟩
        · obtain ⟨p1, p2, p3, p4⟩ := orBase_parts hob
          refine .inl ?_
          show 64 * (r : Int) ≤ alu i.op (m.regs.getD i.b.toNat 0) (m.regs.getD i.c.toNat 0) i.c ∧ alu i.op (m.regs.getD i.b.toNat 0) (m.regs.getD i.c.toNat 0) i.c < 64 * r + 64
          rw [p1, p3, p4, show alu 5 (m.regs.getD (4 : Int).toNat 0) (m.regs.getD (5 : Int).toNat 0) 5 = orI (m.regs.getD 4 0) (m.regs.getD 5 0) from rfl, hm.base]
          unfold orI
          have h0 := hword 4
          rw [show (64 * (r : Int)).toNat = 64 * r by omega]
          rcases hm.at_ with h1 | h1
          · rw [or_again r _ (by omega) (by omega)]
            omega
          · rw [or_base r _ (by omega)]
            omega
        · refine .inr ⟨?_, ?_⟩
          · show alu i.op (m.regs.getD i.b.toNat 0) (m.regs.getD i.c.toNat 0) i.c < 64
            rw [e1, e2, show ∀ x, alu 4 x (m.regs.getD (6 : Int).toNat 0) 6 = andI x (m.regs.getD 6 0) from fun _ => rfl, hm.left]
            unfold andI
            have := and_left (m.regs.getD i.b.toNat 0).toNat
            rw [show (63 : Int).toNat = 63 from rfl]
            omega
          · unfold nextB at e3
            split at e3
            · exact ⟨_, by assumption, e3⟩
            · cases e3
      · rw [if_neg (by omega)]
        refine .inl (hin ?_)
        cases hob : orBaseB i with
        | false => rfl
        | true => exact absurd (orBase_parts hob).2.1 h4
  · rename_i h7
    have hin' := hin (not_or (by omega))
    split
    · -- Ld
      rename_i h8
      have hn : m.pc + 1 < l.length := hnx (by simp [stopsB]; omega)
      obtain ⟨a5, a6, a4⟩ := s1 ⟨ho.1, by omega⟩
      have hne4 : i.a ≠ 4 := fun e => by
        rcases a4 e with h | h
        · have := (orBase_parts h).1
          omega
        · omega
      have hal : i.a.toNat < m.regs.length := by rw [hm.len]; omega
      have hb4 := s2 (.inl h8)
      have hadr : (Mach.rg ⟨m.regs, m.mem, m.told, m.back, m.pc + 1⟩ i.b) = m.regs.getD 4 0 := by rw [hb4]; rfl
      rw [if_pos (by rw [hadr]; show _ < m.mem.length; rw [hm.mem]; omega)]
      have hv : 0 ≤ m.mem.getD (m.regs.getD i.b.toNat 0).toNat 0 ∧ m.mem.getD (m.regs.getD i.b.toNat 0).toNat 0 ≤ 65535 := getD_word hw _
      refine ⟨⟨by simp [Mach.setR, hm.len], ?_, ?_, fun u hu => mem_set hm.words hv hu, hn, hm.backs, hm.mem, ?_⟩, fun _ _ => rfl⟩
      · show (m.regs.set i.a.toNat _).getD 5 0 = _
        rw [getD_set _ _ _ _ hal, if_neg (by omega)]
        exact hm.base
      · show (m.regs.set i.a.toNat _).getD 6 0 = _
        rw [getD_set _ _ _ _ hal, if_neg (by omega)]
        exact hm.left
      · refine .inl ?_
        show 64 * (r : Int) ≤ (m.regs.set i.a.toNat _).getD 4 0 ∧ (m.regs.set i.a.toNat _).getD 4 0 < 64 * r + 64
        rw [getD_set _ _ _ _ hal, if_neg (by omega)]
        exact hin'
    · split
      · -- St
        rename_i h9
        have hn : m.pc + 1 < l.length := hnx (by simp [stopsB]; omega)
        have hb4 := s2 (.inr h9)
        have hadr : (Mach.rg ⟨m.regs, m.mem, m.told, m.back, m.pc + 1⟩ i.b) = m.regs.getD 4 0 := by rw [hb4]; rfl
        rw [if_pos (by rw [hadr]; show _ < m.mem.length; rw [hm.mem]; omega), hadr]
        refine ⟨⟨hm.len, hm.base, hm.left, hm.words, hn, hm.backs, by simp [hm.mem], .inl hin'⟩, fun j hj => ?_⟩
        show (m.mem.set (m.regs.getD 4 0).toNat _).getD j 0 = _
        rw [getD_set _ _ _ _ (by rw [hm.mem]; omega), if_neg (by omega)]
      · split
        · rename_i h10
          have := s3 (by simp [jumpsB, h10])
          exact ⟨⟨hm.len, hm.base, hm.left, hm.words, by show i.c.toNat < l.length; omega, hm.backs, hm.mem, .inl hin'⟩, fun _ _ => rfl⟩
        · split
          · rename_i h11
            have := s3 (by simp [jumpsB, h11])
            have hn : m.pc + 1 < l.length := hnx (by simp [stopsB]; omega)
            split
            · exact ⟨⟨hm.len, hm.base, hm.left, hm.words, by show i.c.toNat < l.length; omega, hm.backs, hm.mem, .inl hin'⟩, fun _ _ => rfl⟩
            · exact ⟨⟨hm.len, hm.base, hm.left, hm.words, hn, hm.backs, hm.mem, .inl hin'⟩, fun _ _ => rfl⟩
          · split
            · rename_i h12
              have := s3 (by simp [jumpsB, h12])
              have hn : m.pc + 1 < l.length := hnx (by simp [stopsB]; omega)
              split
              · exact ⟨by decide, rfl⟩
              · refine ⟨⟨hm.len, hm.base, hm.left, hm.words, by show i.c.toNat < l.length; omega, fun b hb' => ?_, hm.mem, .inl hin'⟩, fun _ _ => rfl⟩
                rcases List.mem_append.1 hb' with h1 | h1
                · exact hm.backs b h1
                · simp at h1
                  rw [h1]
                  exact hn
            · split
              · split
                · exact ⟨by decide, rfl⟩
                · rename_i hne
                  refine ⟨⟨hm.len, hm.base, hm.left, hm.words, ?_, fun b hb' => hm.backs b (List.dropLast_subset _ hb'), hm.mem, .inl hin'⟩, fun _ _ => rfl⟩
                  show m.back.getLastD 0 < l.length
                  have hne' : m.back ≠ [] := hne
                  rw [List.getLastD_eq_getLast?, List.getLast?_eq_some_getLast hne']
                  exact hm.backs _ (List.getLast_mem hne')
              · split
                · have hn : m.pc + 1 < l.length := hnx (by simp [stopsB]; omega)
                  split
                  · exact ⟨by decide, rfl⟩
                  · exact ⟨⟨hm.len, hm.base, hm.left, hm.words, hn, hm.backs, hm.mem, .inl hin'⟩, fun _ _ => rfl⟩
                · exact ⟨by decide, rfl⟩
/-- A run of trusted code: no fault, and nothing outside the region is turned. -/
theorem run_safe {l : List Ins} {r : Nat} (hs : safeT l = 0) (hr : r ≤ 15) : ∀ (n : Nat) (m : Mach), SInv l r m → (∀ v ∈ m.mem, 0 ≤ v ∧ v ≤ 65535) → MOk m → (runM l n m).1 ≠ 3 ∧ ∀ j : Nat, j < 64 * r ∨ 64 * r + 64 ≤ j → (runM l n m).2.mem.getD j 0 = m.mem.getD j 0
  | 0, m, _, _, _ => ⟨(show (2 : Int) ≠ 3 by decide), fun _ _ => rfl⟩
  | n + 1, m, hm, hw, hk => by
    have h := step_safe hs hr hm hw
    have hz : faultIn l = 0 ∧ l.length ≤ 200 := by
      have hf := safe_fault hs
      unfold fault at hf
      split at hf
      · cases hf
      · exact ⟨hf, by omega⟩
    rw [runM]
    cases hst : step l m with
    | on m' =>
      rw [hst] at h
      have hk' := step_ok hz.1 hz.2 hk hst
      obtain ⟨h1, h2⟩ := run_safe hs hr n m' h.1 hk'.mem hk'
      exact ⟨h1, fun j hj => (h2 j hj).trans (h.2 j hj)⟩
    | fin e m' =>
      rw [hst] at h
      exact ⟨h.1, fun j _ => by show m'.mem.getD j 0 = _; rw [h.2]⟩
end Go.Proofs.YtnnhhbjbdmgpiaaDoor.Cf
