/- Plain mathematics of chapter 2: the machine. No Go in it. -/
import Derived.Test.YtnnhhbjbdmgpiaaDoorCf
namespace Go.Proofs.YtnnhhbjbdmgpiaaDoor.Cf
set_option maxRecDepth 100000

/-- The machine's state. -/
structure Mach where
  regs : List Int
  mem : List Int
  told : List Int
  back : List Nat
  pc : Nat
def andI (x y : Int) : Int := ((x.toNat &&& y.toNat : Nat) : Int)
def orI (x y : Int) : Int := ((x.toNat ||| y.toNat : Nat) : Int)
def xorI (x y : Int) : Int := ((x.toNat ^^^ y.toNat : Nat) : Int)
def Mach.rg (m : Mach) (i : Int) : Int := m.regs.getD i.toNat 0
def Mach.setR (m : Mach) (i v : Int) : Mach := ⟨m.regs.set i.toNat v, m.mem, m.told, m.back, m.pc⟩
/-- What a step comes to: on, or an end. -/
inductive Step where
  | on (m : Mach)
  | fin (why : Int) (m : Mach)
/-- An instruction that is no jump, no access, no word told: what the register A becomes. -/
def alu (op : Int) (x y c : Int) : Int :=
  if op = 1 then c else if op = 2 then (x + y) % 65536 else if op = 3 then (x + 65536 - y) % 65536 else if op = 4 then andI x y else if op = 5 then orI x y else if op = 6 then xorI x y else if x < y then 1 else 0
def exec (i : Ins) (m : Mach) : Step :=
  if i.op ≤ 7 then .on (m.setR i.a (alu i.op (m.rg i.b) (m.rg i.c) i.c))
  else if i.op = 8 then (if (m.rg i.b).toNat < m.mem.length then .on (m.setR i.a (m.mem.getD (m.rg i.b).toNat 0)) else .fin 3 m)
  else if i.op = 9 then (if (m.rg i.b).toNat < m.mem.length then .on ⟨m.regs, m.mem.set (m.rg i.b).toNat (m.rg i.a), m.told, m.back, m.pc⟩ else .fin 3 m)
  else if i.op = 10 then .on ⟨m.regs, m.mem, m.told, m.back, i.c.toNat⟩
  else if i.op = 11 then (if m.rg i.a = 0 then .on ⟨m.regs, m.mem, m.told, m.back, i.c.toNat⟩ else .on m)
  else if i.op = 12 then (if 16 ≤ m.back.length then .fin 4 m else .on ⟨m.regs, m.mem, m.told, m.back ++ [m.pc], i.c.toNat⟩)
  else if i.op = 13 then (if m.back = [] then .fin 1 m else .on ⟨m.regs, m.mem, m.told, m.back.dropLast, m.back.getLastD 0⟩)
  else if i.op = 14 then (if 100 ≤ m.told.length then .fin 5 m else .on ⟨m.regs, m.mem, m.told ++ [m.rg i.a], m.back, m.pc⟩)
  else .fin 1 m
def step (l : List Ins) (m : Mach) : Step :=
  match l[m.pc]? with
  | none => .fin 3 m
  | some i => exec i ⟨m.regs, m.mem, m.told, m.back, m.pc + 1⟩
def runM (l : List Ins) : Nat → Mach → Int × Mach
  | 0, m => (2, m)
  | n + 1, m => match step l m with
    | .on m' => runM l n m'
    | .fin e m' => (e, m')
structure Out where
  fin : Int
  regs : List Int
  told : List Int
  mem : List Int
  err : Int
def noOut (e : Int) : Out := ⟨0, [0, 0, 0, 0, 0, 0, 0, 0], [], [], e⟩
def wordB (v : Int) : Bool := inB v 0 65535
def runT (l : List Ins) (regs mem : List Int) (fuel : Int) : Out :=
  if fault l = 0 then
    (if mem.length ≤ 1024 then
      (if inB fuel 0 20000 && (regs.all wordB && mem.all wordB) then ⟨(runM l fuel.toNat ⟨regs, mem, [], [], 0⟩).1, (runM l fuel.toNat ⟨regs, mem, [], [], 0⟩).2.regs, (runM l fuel.toNat ⟨regs, mem, [], [], 0⟩).2.told, (runM l fuel.toNat ⟨regs, mem, [], [], 0⟩).2.mem, 0⟩
      else noOut 2) else noOut 1) else noOut (fault l)

/-- The steps of a run, one behind the other. -/
theorem run_on (l : List Ins) (n : Nat) (m m' : Mach) (h : step l m = .on m') : runM l (n + 1) m = runM l n m' := by rw [runM, h]
theorem run_fin (l : List Ins) (n : Nat) (m m' : Mach) (e : Int) (h : step l m = .fin e m') : runM l (n + 1) m = (e, m') := by rw [runM, h]

/-- What holds of the machine at every step. -/
structure MOk (m : Mach) : Prop where
  regs : m.regs.length = 8
  words : ∀ v ∈ m.regs, 0 ≤ v ∧ v ≤ 65535
  mem : ∀ v ∈ m.mem, 0 ≤ v ∧ v ≤ 65535
  told : m.told.length ≤ 100
  toldW : ∀ v ∈ m.told, 0 ≤ v ∧ v ≤ 65535
  back : m.back.length ≤ 16
  backs : ∀ b ∈ m.back, b ≤ 200
  pc : m.pc ≤ 200
theorem getD_word {l : List Int} (h : ∀ v ∈ l, 0 ≤ v ∧ v ≤ 65535) (j : Nat) : 0 ≤ l.getD j 0 ∧ l.getD j 0 ≤ 65535 := by
  rw [List.getD_eq_getElem?_getD]
  cases hj : l[j]? with
  | none => simp
  | some v => exact h v (List.mem_of_getElem? hj)
theorem MOk.rg {m : Mach} (h : MOk m) (i : Int) : 0 ≤ m.rg i ∧ m.rg i ≤ 65535 := getD_word h.words _
theorem bits_word {x y : Int} (hx : 0 ≤ x ∧ x ≤ 65535) (hy : 0 ≤ y ∧ y ≤ 65535) : (0 ≤ andI x y ∧ andI x y ≤ 65535) ∧ (0 ≤ orI x y ∧ orI x y ≤ 65535) ∧ (0 ≤ xorI x y ∧ xorI x y ≤ 65535) := by
  have h1 : x.toNat < 2 ^ 16 := by omega
  have h2 : y.toNat < 2 ^ 16 := by omega
  have a1 := Nat.and_lt_two_pow (x := x.toNat) (n := 16) h2
  have a2 := Nat.or_lt_two_pow h1 h2
  have a3 := Nat.xor_lt_two_pow h1 h2
  unfold andI orI xorI
  omega
theorem alu_word {op x y c : Int} (hx : 0 ≤ x ∧ x ≤ 65535) (hy : 0 ≤ y ∧ y ≤ 65535) (hc : op = 1 → 0 ≤ c ∧ c ≤ 65535) : 0 ≤ alu op x y c ∧ alu op x y c ≤ 65535 := by
  obtain ⟨b1, b2, b3⟩ := bits_word hx hy
  unfold alu
  split
  · exact hc (by assumption)
  · split
    · omega
    · split
      · omega
      · split
        · exact b1
        · split
          · exact b2
          · split
            · exact b3
            · split <;> omega
theorem mem_set {l : List Int} {j : Nat} {v u : Int} (hl : ∀ z ∈ l, 0 ≤ z ∧ z ≤ 65535) (hv : 0 ≤ v ∧ v ≤ 65535) (hu : u ∈ l.set j v) : 0 ≤ u ∧ u ≤ 65535 := by
  rcases List.mem_or_eq_of_mem_set hu with h | h
  · exact hl u h
  · rw [h]; exact hv
theorem MOk.setR {m : Mach} (h : MOk m) (i v : Int) (hv : 0 ≤ v ∧ v ≤ 65535) : MOk (m.setR i v) :=
  ⟨by simp [Mach.setR, h.regs], fun u hu => mem_set h.words hv hu, h.mem, h.told, h.toldW, h.back, h.backs, h.pc⟩
/-- What a check that was passed says of an instruction. -/
theorem chk_parts (x : Ins) (h : chk x = 0) : (1 ≤ x.op ∧ x.op ≤ 15) ∧ (0 ≤ x.a ∧ x.a ≤ 7) ∧ (0 ≤ x.b ∧ x.b ≤ 7) ∧ (0 ≤ x.c ∧ x.c ≤ 65535) ∧ (x.op = 10 ∨ x.op = 11 ∨ x.op = 12 → x.c ≤ 199) ∧ (2 ≤ x.op ∧ x.op ≤ 9 → x.c ≤ 7) := by
  obtain ⟨op, a, b, c⟩ := x
  have hop : 1 ≤ op ∧ op ≤ 15 := by
    unfold chk at h
    split at h
    · rename_i ho
      simpa [opB] using ho
    · simp at h
  have h15 : op = 1 ∨ op = 2 ∨ op = 3 ∨ op = 4 ∨ op = 5 ∨ op = 6 ∨ op = 7 ∨ op = 8 ∨ op = 9 ∨ op = 10 ∨ op = 11 ∨ op = 12 ∨ op = 13 ∨ op = 14 ∨ op = 15 := by omega
  refine ⟨hop, ?_⟩
  rcases h15 with h' | h' | h' | h' | h' | h' | h' | h' | h' | h' | h' | h' | h' | h' | h' <;> subst h' <;>
    simp [chk, opB, fldB, fitB, fmt, fmtTab, fld, lar, larTab] at h <;> dsimp only <;> omega
theorem step_ok {l : List Ins} (hz : faultIn l = 0) (hl : l.length ≤ 200) {m m' : Mach} (hm : MOk m) (h : step l m = .on m') : MOk m' := by
  unfold step at h
  cases hi : l[m.pc]? with
  | none => rw [hi] at h; simp at h
  | some x =>
    rw [hi] at h
    have hpc : m.pc < l.length := (List.getElem?_eq_some_iff.1 hi).1
    obtain ⟨ho, ha, hb, hc, hj, h7⟩ := chk_parts x (faultIn_mem l hz m.pc x hi)
    have hm1 : MOk ⟨m.regs, m.mem, m.told, m.back, m.pc + 1⟩ := ⟨hm.regs, hm.words, hm.mem, hm.told, hm.toldW, hm.back, hm.backs, by show m.pc + 1 ≤ 200; omega⟩
    simp only at h
    generalize Mach.mk m.regs m.mem m.told m.back (m.pc + 1) = q at hm1 h
    unfold exec at h
    split at h
    · injection h with h
      subst h
      exact hm1.setR _ _ (alu_word (hm1.rg _) (hm1.rg _) (fun _ => hc))
    · split at h
      · split at h
        · injection h with h
          subst h
          exact hm1.setR _ _ (getD_word hm1.mem _)
        · simp at h
      · split at h
        · split at h
          · injection h with h
            subst h
            exact ⟨hm1.regs, hm1.words, fun u hu => mem_set hm1.mem (hm1.rg _) hu, hm1.told, hm1.toldW, hm1.back, hm1.backs, hm1.pc⟩
          · simp at h
        · split at h
          · injection h with h
            subst h
            exact ⟨hm1.regs, hm1.words, hm1.mem, hm1.told, hm1.toldW, hm1.back, hm1.backs, by show x.c.toNat ≤ 200; have := hj (by omega); omega⟩
          · split at h
            · split at h
              · injection h with h
                subst h
                exact ⟨hm1.regs, hm1.words, hm1.mem, hm1.told, hm1.toldW, hm1.back, hm1.backs, by show x.c.toNat ≤ 200; have := hj (by omega); omega⟩
              · injection h with h
                subst h
                exact hm1
            · split at h
              · split at h
                · simp at h
                · injection h with h
                  subst h
                  refine ⟨hm1.regs, hm1.words, hm1.mem, hm1.told, hm1.toldW, by simp; omega, fun b hb' => ?_, by show x.c.toNat ≤ 200; have := hj (by omega); omega⟩
                  rcases List.mem_append.1 hb' with h1 | h1
                  · exact hm1.backs b h1
                  · simp at h1
                    rw [h1]
                    exact hm1.pc
              · split at h
                · split at h
                  · simp at h
                  · rename_i hne
                    injection h with h
                    subst h
                    refine ⟨hm1.regs, hm1.words, hm1.mem, hm1.told, hm1.toldW, ?_, fun b hb' => hm1.backs b (List.dropLast_subset _ hb'), ?_⟩
                    · have := hm1.back
                      simp; omega
                    · show q.back.getLastD 0 ≤ 200
                      rw [List.getLastD_eq_getLast?, List.getLast?_eq_some_getLast hne]
                      exact hm1.backs _ (List.getLast_mem hne)
                · split at h
                  · split at h
                    · simp at h
                    · injection h with h
                      subst h
                      refine ⟨hm1.regs, hm1.words, hm1.mem, by simp; omega, fun v hv => ?_, hm1.back, hm1.backs, hm1.pc⟩
                      rcases List.mem_append.1 hv with h1 | h1
                      · exact hm1.toldW v h1
                      · simp at h1
                        rw [h1]
                        exact hm1.rg _
                  · simp at h
end Go.Proofs.YtnnhhbjbdmgpiaaDoor.Cf
