/- Texts of the proofs: Cf, CpuP, SafeP, ModP, ModQ, KernP, KernQ. -/
set_option linter.unusedSimpArgs false
set_option linter.unusedVariables false
/- Plain mathematics of chapter 1: instructions, their formats, and which error a list of them has. No Go in it. -/
namespace Go.Proofs.YtnnhhbjbdmgpiaaGreatDoor.Cf
set_option maxRecDepth 100000
structure Ins where
 op : Int
 a : Int
 b : Int
 c : Int
def fmtTab : List (List Int) := [[0,0,0],[1,0,2],[1,1,1],[1,1,1],[1,1,1],[1,1,1],[1,1,1],[1,1,1],[1,1,0],[1,1,0],[0,0,3],[1,0,3],[0,0,3],[0,0,0],[1,0,0],[0,0,0]]
def fmt (op i : Nat) : Int := (fmtTab.getD op []).getD i 0
def larTab : List Int := [0, 7, 65535, 199]
def lar (k : Nat) : Int := larTab.getD k 0
def fitB (k v : Int) : Bool := decide (0 ≤ v) && decide (v ≤ lar k.toNat)
def fld (x : Ins) (i : Nat) : Int := [x.a, x.b, x.c].getD i 0
def fldB (x : Ins) (i : Nat) : Bool := fitB (fmt x.op.toNat i) (fld x i)
def opB (x : Ins) : Bool := decide (1 ≤ x.op) && decide (x.op ≤ 15)
def chk (x : Ins) : Int := if opB x then (if fldB x 0 && (fldB x 1 && fldB x 2) then 0 else 2) else 3
def faultIn : List Ins → Int
 | [] => 0
 | x :: r => if chk x = 0 then faultIn r else chk x
def fault (l : List Ins) : Int := if 200 < l.length then 1 else faultIn l
def shapeL (op : Int) : List UInt8 :=
 if op = 1 then [114, 45, 119] else if op = 8 ∨ op = 9 then [114, 114, 45] else if op = 10 ∨ op = 12 then [45, 45, 112] else if op = 11 then [114, 45, 112]
 else if op = 14 then [114, 45, 45] else if op = 13 ∨ op = 15 then [45, 45, 45] else [114, 114, 114]
def most (c : Int) : Int := if c = 114 then 7 else if c = 119 then 65535 else if c = 112 then 199 else 0
def inB (n lo hi : Int) : Bool := decide (lo ≤ n) && decide (n ≤ hi)
theorem faultIn_append (l : List Ins) (r : List Ins) : faultIn (l ++ r) = if faultIn l = 0 then faultIn r else faultIn l := by
 induction l with
 | nil => simp [faultIn]
 | cons x l ih =>
   simp only [List.cons_append, faultIn]
   by_cases h : chk x = 0
   ·simp only [h, if_true]; exact ih
   ·simp only [h, if_false]
theorem chk_two (x : Ins) (k : Nat) (hk : k < 3) (h1 : 1 ≤ x.op) (h2 : x.op ≤ 15) (h : fldB x k = false) : chk x = 2 := by
 have : k = 0 ∨ k = 1 ∨ k = 2 := by omega
 rcases this with rfl | rfl | rfl <;> simp [chk, opB, h1, h2, h]
theorem chk_zero (x : Ins) (h1 : 1 ≤ x.op) (h2 : x.op ≤ 15) (h : ∀ j, j < 3 → fldB x j = true) : chk x = 0 := by
 simp [chk, opB, h1, h2, h]
theorem most_fmt (op : Int) (h1 : 1 ≤ op) (h2 : op ≤ 15) (i : Nat) (hi : i < 3) : most ((((shapeL op).getD i 0).toNat : Nat) : Int) = lar (fmt op.toNat i).toNat := by
 have : op = 1 ∨ op = 2 ∨ op = 3 ∨ op = 4 ∨ op = 5 ∨ op = 6 ∨ op = 7 ∨ op = 8 ∨ op = 9 ∨ op = 10 ∨ op = 11 ∨ op = 12 ∨ op = 13 ∨ op = 14 ∨ op = 15 := by omega
 have hi' : i = 0 ∨ i = 1 ∨ i = 2 := by omega
 rcases this with h | h | h | h | h | h | h | h | h | h | h | h | h | h | h <;> rcases hi' with h' | h' | h' <;> subst h <;> subst h' <;> decide
theorem fldB_in (x : Ins) (h : inB x.op 1 15 = true) (i : Nat) (hi : i < 3) : fldB x i = inB (fld x i) 0 (most ((((shapeL x.op).getD i 0).toNat : Nat) : Int)) := by
 simp [inB] at h
 rw [most_fmt x.op h.1 h.2 i hi]
 rfl
theorem chk_zero' (x : Ins) (h : inB x.op 1 15 = true) {p q r : UInt8} (hs : shapeL x.op = [p, q, r])
  (h0 : inB x.a 0 (most p.toNat) = true) (h1 : inB x.b 0 (most q.toNat) = true) (h2 : inB x.c 0 (most r.toNat) = true) : chk x = 0 := by
 have h' := h
 simp [inB] at h'
 refine chk_zero x h'.1 h'.2 (fun j hj => ?_)
 rw [fldB_in x h j hj, hs]
 have : j = 0 ∨ j = 1 ∨ j = 2 := by omega
 rcases this with rfl | rfl | rfl
 ·exact h0
 ·exact h1
 ·exact h2
theorem faultIn_mem : ∀ (l : List Ins), faultIn l = 0 → ∀ (k : Nat) (x : Ins), l[k]? = some x → chk x = 0
 | [], _, k, x, h => by simp at h
 | y :: l, hz, k, x, h => by
   have hy : chk y = 0 := by
    by_cases hy : chk y = 0
    ·exact hy
    ·simp [faultIn, hy] at hz
   cases k with
   | zero => simp at h; rw [← h]; exact hy
   | succ k =>
     simp [faultIn, hy] at hz
     exact faultIn_mem l hz k x (by simpa using h)
theorem fault_len (l : List Ins) (hf : fault l = 0) : l.length ≤ 200 := by
 unfold fault at hf
 split at hf
 ·cases hf
 ·omega
end Go.Proofs.YtnnhhbjbdmgpiaaGreatDoor.Cf
/- Plain mathematics of chapter 2: the machine. No Go in it. -/
namespace Go.Proofs.YtnnhhbjbdmgpiaaGreatDoor.Cf
set_option maxRecDepth 100000
structure Mach where
 regs : List Int
 mem : List Int
 told : List Int
 back : List Nat
 pc : Nat
def andI (x y : Int) : Int := ((x.toNat &&& y.toNat : Nat) : Int)
def orI (x y : Int) : Int := ((x.toNat ||| y.toNat : Nat) : Int)
def xorI (x y : Int) : Int := ((x.toNat ^^^ y.toNat : Nat) : Int)
def Mach.rg (m : Mach) (i : Int) : Int := m.regs.getD i.toNat 0
def Mach.setR (m : Mach) (i v : Int) : Mach := ⟨m.regs.set i.toNat v, m.mem, m.told, m.back, m.pc⟩
inductive Step where
 | on (m : Mach)
 | fin (why : Int) (m : Mach)
def alu (op : Int) (x y c : Int) : Int :=
 if op = 1 then c else if op = 2 then (x + y) % 65536 else if op = 3 then (x + 65536 - y) % 65536 else if op = 4 then andI x y else if op = 5 then orI x y else if op = 6 then xorI x y else if x < y then 1 else 0
def exec (i : Ins) (m : Mach) : Step :=
 if i.op ≤ 7 then .on (m.setR i.a (alu i.op (m.rg i.b) (m.rg i.c) i.c))
 else if i.op = 8 then (if (m.rg i.b).toNat < m.mem.length then .on (m.setR i.a (m.mem.getD (m.rg i.b).toNat 0)) else .fin 3 m)
 else if i.op = 9 then (if (m.rg i.b).toNat < m.mem.length then .on ⟨m.regs, m.mem.set (m.rg i.b).toNat (m.rg i.a), m.told, m.back, m.pc⟩ else .fin 3 m)
 else if i.op = 10 then .on ⟨m.regs, m.mem, m.told, m.back, i.c.toNat⟩
 else if i.op = 11 then (if m.rg i.a = 0 then .on ⟨m.regs, m.mem, m.told, m.back, i.c.toNat⟩ else .on m)
 else if i.op = 12 then (if 16 ≤ m.back.length then .fin 4 m else .on ⟨m.regs, m.mem, m.told, m.back ++ [m.pc], i.c.toNat⟩)
 else if i.op = 13 then (if m.back = [] then .fin 1 m else .on ⟨m.regs, m.mem, m.told, m.back.dropLast, m.back.getLastD 0⟩)
 else if i.op = 14 then (if 100 ≤ m.told.length then .fin 5 m else .on ⟨m.regs, m.mem, m.told ++ [m.rg i.a], m.back, m.pc⟩)
 else .fin 1 m
def step (l : List Ins) (m : Mach) : Step :=
 match l[m.pc]? with
 | none => .fin 3 m
 | some i => exec i ⟨m.regs, m.mem, m.told, m.back, m.pc + 1⟩
def runM (l : List Ins) : Nat → Mach → Int × Mach
 | 0, m => (2, m)
 | n + 1, m => match step l m with
   | .on m' => runM l n m'
   | .fin e m' => (e, m')
structure Out where
 fin : Int
 regs : List Int
 told : List Int
 mem : List Int
 err : Int
def noOut (e : Int) : Out := ⟨0, [0, 0, 0, 0, 0, 0, 0, 0], [], [], e⟩
def wordB (v : Int) : Bool := inB v 0 65535
def runT (l : List Ins) (regs mem : List Int) (fuel : Int) : Out :=
 if fault l = 0 then
  (if mem.length ≤ 1024 then
    (if inB fuel 0 20000 && (regs.all wordB && mem.all wordB) then ⟨(runM l fuel.toNat ⟨regs, mem, [], [], 0⟩).1, (runM l fuel.toNat ⟨regs, mem, [], [], 0⟩).2.regs, (runM l fuel.toNat ⟨regs, mem, [], [], 0⟩).2.told, (runM l fuel.toNat ⟨regs, mem, [], [], 0⟩).2.mem, 0⟩
    else noOut 2) else noOut 1) else noOut (fault l)
theorem run_on (l : List Ins) (n : Nat) (m m' : Mach) (h : step l m = .on m') : runM l (n + 1) m = runM l n m' := by rw [runM, h]
theorem run_fin (l : List Ins) (n : Nat) (m m' : Mach) (e : Int) (h : step l m = .fin e m') : runM l (n + 1) m = (e, m') := by rw [runM, h]
structure MOk (m : Mach) : Prop where
 regs : m.regs.length = 8
 words : ∀ v ∈ m.regs, 0 ≤ v ∧ v ≤ 65535
 mem : ∀ v ∈ m.mem, 0 ≤ v ∧ v ≤ 65535
 told : m.told.length ≤ 100
 toldW : ∀ v ∈ m.told, 0 ≤ v ∧ v ≤ 65535
 back : m.back.length ≤ 16
 backs : ∀ b ∈ m.back, b ≤ 200
 pc : m.pc ≤ 200
theorem getD_word {l : List Int} (h : ∀ v ∈ l, 0 ≤ v ∧ v ≤ 65535) (j : Nat) : 0 ≤ l.getD j 0 ∧ l.getD j 0 ≤ 65535 := by
 rw [List.getD_eq_getElem?_getD]
 cases hj : l[j]? with
 | none => simp
 | some v => exact h v (List.mem_of_getElem? hj)
theorem MOk.rg {m : Mach} (h : MOk m) (i : Int) : 0 ≤ m.rg i ∧ m.rg i ≤ 65535 := getD_word h.words _
theorem bits_word {x y : Int} (hx : 0 ≤ x ∧ x ≤ 65535) (hy : 0 ≤ y ∧ y ≤ 65535) : (0 ≤ andI x y ∧ andI x y ≤ 65535) ∧ (0 ≤ orI x y ∧ orI x y ≤ 65535) ∧ (0 ≤ xorI x y ∧ xorI x y ≤ 65535) := by
 have h1 : x.toNat < 2 ^ 16 := by omega
 have h2 : y.toNat < 2 ^ 16 := by omega
 have a1 := Nat.and_lt_two_pow (x := x.toNat) (n := 16) h2
 have a2 := Nat.or_lt_two_pow h1 h2
 have a3 := Nat.xor_lt_two_pow h1 h2
 unfold andI orI xorI
 omega
theorem alu_word {op x y c : Int} (hx : 0 ≤ x ∧ x ≤ 65535) (hy : 0 ≤ y ∧ y ≤ 65535) (hc : op = 1 → 0 ≤ c ∧ c ≤ 65535) : 0 ≤ alu op x y c ∧ alu op x y c ≤ 65535 := by
 obtain ⟨b1, b2, b3⟩ := bits_word hx hy
 unfold alu
 split
 ·exact hc (by assumption)
 ·split
  ·omega
  ·split
   ·omega
   ·split
    ·exact b1
    ·split
     ·exact b2
     ·split
      ·exact b3
      ·split <;> omega
theorem mem_set {l : List Int} {j : Nat} {v u : Int} (hl : ∀ z ∈ l, 0 ≤ z ∧ z ≤ 65535) (hv : 0 ≤ v ∧ v ≤ 65535) (hu : u ∈ l.set j v) : 0 ≤ u ∧ u ≤ 65535 := by
 rcases List.mem_or_eq_of_mem_set hu with h | h
 ·exact hl u h
 ·rw [h]; exact hv
theorem MOk.setR {m : Mach} (h : MOk m) (i v : Int) (hv : 0 ≤ v ∧ v ≤ 65535) : MOk (m.setR i v) :=
 ⟨by simp [Mach.setR, h.regs], fun u hu => mem_set h.words hv hu, h.mem, h.told, h.toldW, h.back, h.backs, h.pc⟩
theorem chk_parts (x : Ins) (h : chk x = 0) : (1 ≤ x.op ∧ x.op ≤ 15) ∧ (0 ≤ x.a ∧ x.a ≤ 7) ∧ (0 ≤ x.b ∧ x.b ≤ 7) ∧ (0 ≤ x.c ∧ x.c ≤ 65535) ∧ (x.op = 10 ∨ x.op = 11 ∨ x.op = 12 → x.c ≤ 199) ∧ (2 ≤ x.op ∧ x.op ≤ 9 → x.c ≤ 7) := by
 obtain ⟨op, a, b, c⟩ := x
 have hop : 1 ≤ op ∧ op ≤ 15 := by
  unfold chk at h
  split at h
  ·rename_i ho
   simpa [opB] using ho
  ·simp at h
 have h15 : op = 1 ∨ op = 2 ∨ op = 3 ∨ op = 4 ∨ op = 5 ∨ op = 6 ∨ op = 7 ∨ op = 8 ∨ op = 9 ∨ op = 10 ∨ op = 11 ∨ op = 12 ∨ op = 13 ∨ op = 14 ∨ op = 15 := by omega
 refine ⟨hop, ?_⟩
 rcases h15 with h' | h' | h' | h' | h' | h' | h' | h' | h' | h' | h' | h' | h' | h' | h' <;> subst h' <;>
  simp [chk, opB, fldB, fitB, fmt, fmtTab, fld, lar, larTab] at h <;> dsimp only <;> omega
theorem step_ok {l : List Ins} (hz : faultIn l = 0) (hl : l.length ≤ 200) {m m' : Mach} (hm : MOk m) (h : step l m = .on m') : MOk m' := by
 unfold step at h
 cases hi : l[m.pc]? with
 | none => rw [hi] at h; simp at h
 | some x =>
   rw [hi] at h
   have hpc : m.pc < l.length := (List.getElem?_eq_some_iff.1 hi).1
   obtain ⟨ho, ha, hb, hc, hj, h7⟩ := chk_parts x (faultIn_mem l hz m.pc x hi)
   have hm1 : MOk ⟨m.regs, m.mem, m.told, m.back, m.pc + 1⟩ := ⟨hm.regs, hm.words, hm.mem, hm.told, hm.toldW, hm.back, hm.backs, by show m.pc + 1 ≤ 200; omega⟩
   simp only at h
   generalize Mach.mk m.regs m.mem m.told m.back (m.pc + 1) = q at hm1 h
   unfold exec at h
   split at h
   ·injection h with h
    subst h
    exact hm1.setR _ _ (alu_word (hm1.rg _) (hm1.rg _) (fun _ => hc))
   ·split at h
    ·split at h
     ·injection h with h
      subst h
      exact hm1.setR _ _ (getD_word hm1.mem _)
     ·simp at h
    ·split at h
     ·split at h
      ·injection h with h
       subst h
       exact ⟨hm1.regs, hm1.words, fun u hu => mem_set hm1.mem (hm1.rg _) hu, hm1.told, hm1.toldW, hm1.back, hm1.backs, hm1.pc⟩
      ·simp at h
     ·split at h
      ·injection h with h
       subst h
       exact ⟨hm1.regs, hm1.words, hm1.mem, hm1.told, hm1.toldW, hm1.back, hm1.backs, by show x.c.toNat ≤ 200; have := hj (by omega); omega⟩
      ·split at h
       ·split at h
        ·injection h with h
         subst h
         exact ⟨hm1.regs, hm1.words, hm1.mem, hm1.told, hm1.toldW, hm1.back, hm1.backs, by show x.c.toNat ≤ 200; have := hj (by omega); omega⟩
        ·injection h with h
         subst h
         exact hm1
       ·split at h
        ·split at h
         ·simp at h
         ·injection h with h
          subst h
          refine ⟨hm1.regs, hm1.words, hm1.mem, hm1.told, hm1.toldW, by simp; omega, fun b hb' => ?_, by show x.c.toNat ≤ 200; have := hj (by omega); omega⟩
          rcases List.mem_append.1 hb' with h1 | h1
          ·exact hm1.backs b h1
          ·simp at h1
           rw [h1]
           exact hm1.pc
        ·split at h
         ·split at h
          ·simp at h
          ·rename_i hne
           injection h with h
           subst h
           refine ⟨hm1.regs, hm1.words, hm1.mem, hm1.told, hm1.toldW, ?_, fun b hb' => hm1.backs b (List.dropLast_subset _ hb'), ?_⟩
           ·have := hm1.back
            simp; omega
           ·show q.back.getLastD 0 ≤ 200
            rw [List.getLastD_eq_getLast?, List.getLast?_eq_some_getLast hne]
            exact hm1.backs _ (List.getLast_mem hne)
         ·split at h
          ·split at h
           ·simp at h
           ·injection h with h
            subst h
            refine ⟨hm1.regs, hm1.words, hm1.mem, by simp; omega, fun v hv => ?_, hm1.back, hm1.backs, hm1.pc⟩
            rcases List.mem_append.1 hv with h1 | h1
            ·exact hm1.toldW v h1
            ·simp at h1
             rw [h1]
             exact hm1.rg _
          ·simp at h
end Go.Proofs.YtnnhhbjbdmgpiaaGreatDoor.Cf
/- Plain mathematics of chapter 3: what may be trusted, and that it keeps to its region. No Go in it. -/
namespace Go.Proofs.YtnnhhbjbdmgpiaaGreatDoor.Cf
set_option maxRecDepth 100000
def stopsB (i : Ins) : Bool := decide (i.op = 10) || (decide (i.op = 13) || decide (i.op = 15))
def jumpsB (i : Ins) : Bool := decide (i.op = 10) || (decide (i.op = 11) || decide (i.op = 12))
def orBaseB (i : Ins) : Bool := decide (i.op = 5) && (decide (i.a = 4) && (decide (i.b = 4) && decide (i.c = 5)))
def nextB (l : List Ins) (k : Nat) : Bool :=
 match l[k + 1]? with
 | some i => orBaseB i
 | none => false
def destB (l : List Ins) (k : Nat) (i : Ins) : Bool :=
 if inB i.op 1 8 then (if i.a = 5 ∨ i.a = 6 then false else if i.a = 4 ∧ orBaseB i = false then decide (i.op = 4) && (decide (i.c = 6) && nextB l k) else true) else true
def okI (l : List Ins) (k : Nat) (i : Ins) : Bool :=
 if destB l k i then (if (i.op = 8 ∨ i.op = 9) ∧ i.b ≠ 4 ∨ jumpsB i = true ∧ (l.length : Int) ≤ i.c then false else true) else false
def okAt (l : List Ins) (k : Nat) : Bool :=
 match l[k]? with
 | some i => okI l k i
 | none => true
def lastB (l : List Ins) : Bool :=
 match l.getLast? with
 | some i => stopsB i
 | none => false
def safeT (l : List Ins) : Int := if fault l = 0 then (if lastB l && (List.range l.length).all (okAt l) then 0 else 10) else fault l
theorem safe_fault {l : List Ins} (h : safeT l = 0) : fault l = 0 := by
 unfold safeT at h
 split at h
 ·assumption
 ·exact h
theorem safe_both {l : List Ins} (h : safeT l = 0) : lastB l = true ∧ ∀ k i, l[k]? = some i → okI l k i = true := by
 have hf := safe_fault h
 unfold safeT at h
 rw [if_pos hf] at h
 split at h
 ·rename_i hb
  simp only [Bool.and_eq_true] at hb
  refine ⟨hb.1, fun k i hi => ?_⟩
  have hk : k < l.length := (List.getElem?_eq_some_iff.1 hi).1
  have := List.all_eq_true.1 hb.2 k (List.mem_range.2 hk)
  rw [okAt, hi] at this
  exact this
 ·simp at h
theorem safe_next {l : List Ins} (h : safeT l = 0) {k : Nat} {i : Ins} (hi : l[k]? = some i) (hs : stopsB i = false) : k + 1 < l.length := by
 obtain ⟨hl, _⟩ := safe_both h
 have hk : k < l.length := (List.getElem?_eq_some_iff.1 hi).1
 rcases Nat.lt_or_ge (k + 1) l.length with h1 | h1
 ·exact h1
 ·exfalso
  unfold lastB at hl
  rw [List.getLast?_eq_getElem?, show l.length - 1 = k by omega, hi] at hl
  simp only at hl
  rw [hl] at hs
  cases hs
theorem safe_at {l : List Ins} (h : safeT l = 0) {k : Nat} {i : Ins} (hi : l[k]? = some i) :
  (1 ≤ i.op ∧ i.op ≤ 8 → i.a ≠ 5 ∧ i.a ≠ 6 ∧ (i.a = 4 → orBaseB i = true ∨ (i.op = 4 ∧ i.c = 6 ∧ nextB l k = true))) ∧ (i.op = 8 ∨ i.op = 9 → i.b = 4) ∧ (jumpsB i = true → i.c < l.length) := by
 have ho := (safe_both h).2 k i hi
 unfold okI at ho
 split at ho
 ·rename_i hd
  split at ho
  ·cases ho
  ·rename_i hn
   refine ⟨fun hop => ?_, fun hop => ?_, fun hj => ?_⟩
   ·unfold destB at hd
    rw [if_pos (by simp [inB]; omega)] at hd
    split at hd
    ·cases hd
    ·rename_i h56
     refine ⟨fun e => h56 (.inl e), fun e => h56 (.inr e), fun h4 => ?_⟩
     cases hob : orBaseB i with
     | true => exact .inl rfl
     | false =>
       rw [if_pos ⟨h4, hob⟩] at hd
       simp only [Bool.and_eq_true, decide_eq_true_eq] at hd
       exact .inr hd
   ·rcases Int.lt_trichotomy i.b 4 with h4 | h4 | h4
    ·exact absurd (.inl ⟨hop, by omega⟩) hn
    ·exact h4
    ·exact absurd (.inl ⟨hop, by omega⟩) hn
   ·by_cases h4 : i.c < l.length
    ·exact h4
    ·exact absurd (.inr ⟨hj, by omega⟩) hn
 ·cases ho
theorem or_base (r x : Nat) (hx : x < 64) : (x ||| 64 * r) = 64 * r + x := by
 rw [Nat.or_comm, show 64 * r = 2 ^ 6 * r from rfl, Nat.two_pow_add_eq_or_of_lt hx]
theorem or_again (r x : Nat) (h1 : 64 * r ≤ x) (h2 : x < 64 * r + 64) : (x ||| 64 * r) = x := by
 obtain ⟨y, rfl⟩ : ∃ y, x = 64 * r + y := ⟨x - 64 * r, by omega⟩
 rw [← or_base r y (by omega), Nat.or_assoc, Nat.or_self]
theorem and_left (x : Nat) : x &&& 63 < 64 := by
 have := Nat.and_le_right (n := x) (m := 63)
 omega
structure SInv (l : List Ins) (r : Nat) (m : Mach) : Prop where
 len : m.regs.length = 8
 base : m.regs.getD 5 0 = 64 * r
 left : m.regs.getD 6 0 = 63
 words : ∀ v ∈ m.regs, 0 ≤ v ∧ v ≤ 65535
 pc : m.pc < l.length
 backs : ∀ b ∈ m.back, b < l.length
 mem : m.mem.length = 1024
 at_ : (64 * (r : Int) ≤ m.regs.getD 4 0 ∧ m.regs.getD 4 0 < 64 * r + 64) ∨ (m.regs.getD 4 0 < 64 ∧ ∃ i, l[m.pc]? = some i ∧ orBaseB i = true)
theorem getD_set (l : List Int) (i j : Nat) (v : Int) (hi : i < l.length) : (l.set i v).getD j 0 = if i = j then v else l.getD j 0 := by
 rw [List.getD_eq_getElem?_getD, List.getD_eq_getElem?_getD, List.getElem?_set]
 split
 ·rename_i h; subst h; simp
 ·rfl
theorem orBase_parts {i : Ins} (h : orBaseB i = true) : i.op = 5 ∧ i.a = 4 ∧ i.b = 4 ∧ i.c = 5 := by
 simpa [orBaseB] using h
theorem SInv.in_ {l : List Ins} {r : Nat} {m : Mach} (h : SInv l r m) {i : Ins} (hi : l[m.pc]? = some i) (ho : orBaseB i = false) : 64 * (r : Int) ≤ m.regs.getD 4 0 ∧ m.regs.getD 4 0 < 64 * r + 64 := by
 rcases h.at_ with h1 | ⟨_, j, hj, hb⟩
 ·exact h1
 ·rw [hi] at hj
  injection hj with hj
  subst hj
  rw [hb] at ho
  cases ho
def SafeStep (l : List Ins) (r : Nat) (m : Mach) : Step → Prop
 | .on m' => SInv l r m' ∧ ∀ j : Nat, j < 64 * r ∨ 64 * r + 64 ≤ j → m'.mem.getD j 0 = m.mem.getD j 0
 | .fin e m' => e ≠ 3 ∧ m'.mem = m.mem
theorem not_or {i : Ins} (h : i.op ≠ 5) : orBaseB i = false := by simp [orBaseB, h]
theorem step_safe {l : List Ins} {r : Nat} (hs : safeT l = 0) (hr : r ≤ 15) {m : Mach} (hm : SInv l r m) (hw : ∀ v ∈ m.mem, 0 ≤ v ∧ v ≤ 65535) : SafeStep l r m (step l m) := by
 obtain ⟨i, hi⟩ : ∃ i, l[m.pc]? = some i := ⟨_, List.getElem?_eq_getElem hm.pc⟩
 have hz : faultIn l = 0 := by
  have hf := safe_fault hs
  unfold fault at hf
  split at hf
  ·cases hf
  ·exact hf
 obtain ⟨ho, ha, hb, hc, _, _⟩ := chk_parts i (faultIn_mem l hz m.pc i hi)
 obtain ⟨s1, s2, s3⟩ := safe_at hs hi
 have hnx := fun h => safe_next hs hi h
 have hin := fun h => hm.in_ hi h
 have hword := fun j => getD_word hm.words j
 unfold step
 rw [hi]
 simp only
 unfold exec
 split
 ·-- the register A is set
  rename_i h7
  have hn : m.pc + 1 < l.length := hnx (by simp [stopsB]; omega)
  obtain ⟨a5, a6, a4⟩ := s1 ⟨ho.1, by omega⟩
  have hv : 0 ≤ alu i.op (m.regs.getD i.b.toNat 0) (m.regs.getD i.c.toNat 0) i.c ∧ alu i.op (m.regs.getD i.b.toNat 0) (m.regs.getD i.c.toNat 0) i.c ≤ 65535 := alu_word (hword _) (hword _) (fun _ => hc)
  have hal : i.a.toNat < m.regs.length := by rw [hm.len]; omega
  refine ⟨⟨by simp [Mach.setR, hm.len], ?_, ?_, fun u hu => mem_set hm.words hv hu, hn, hm.backs, hm.mem, ?_⟩, fun _ _ => rfl⟩
  ·show (m.regs.set i.a.toNat _).getD 5 0 = _
   rw [getD_set _ _ _ _ hal, if_neg (by omega)]
   exact hm.base
  ·show (m.regs.set i.a.toNat _).getD 6 0 = _
   rw [getD_set _ _ _ _ hal, if_neg (by omega)]
   exact hm.left
  ·show (64 * (r : Int) ≤ (m.regs.set i.a.toNat _).getD 4 0 ∧ (m.regs.set i.a.toNat _).getD 4 0 < 64 * r + 64) ∨ ((m.regs.set i.a.toNat _).getD 4 0 < 64 ∧ ∃ j, l[m.pc + 1]? = some j ∧ orBaseB j = true)
   rw [getD_set _ _ _ _ hal]
   by_cases h4 : i.a = 4
   ·rw [if_pos (by omega)]
    rcases a4 h4 with hob | ⟨e1, e2, e3⟩
    ·obtain ⟨p1, p2, p3, p4⟩ := orBase_parts hob
     refine .inl ?_
     show 64 * (r : Int) ≤ alu i.op (m.regs.getD i.b.toNat 0) (m.regs.getD i.c.toNat 0) i.c ∧ alu i.op (m.regs.getD i.b.toNat 0) (m.regs.getD i.c.toNat 0) i.c < 64 * r + 64
     rw [p1, p3, p4, show alu 5 (m.regs.getD (4 : Int).toNat 0) (m.regs.getD (5 : Int).toNat 0) 5 = orI (m.regs.getD 4 0) (m.regs.getD 5 0) from rfl, hm.base]
     unfold orI
     have h0 := hword 4
     rw [show (64 * (r : Int)).toNat = 64 * r by omega]
     rcases hm.at_ with h1 | h1
     ·rw [or_again r _ (by omega) (by omega)]
      omega
     ·rw [or_base r _ (by omega)]
      omega
    ·refine .inr ⟨?_, ?_⟩
     ·show alu i.op (m.regs.getD i.b.toNat 0) (m.regs.getD i.c.toNat 0) i.c < 64
      rw [e1, e2, show ∀ x, alu 4 x (m.regs.getD (6 : Int).toNat 0) 6 = andI x (m.regs.getD 6 0) from fun _ => rfl, hm.left]
      unfold andI
      have := and_left (m.regs.getD i.b.toNat 0).toNat
      rw [show (63 : Int).toNat = 63 from rfl]
      omega
     ·unfold nextB at e3
      split at e3
      ·exact ⟨_, by assumption, e3⟩
      ·cases e3
   ·rw [if_neg (by omega)]
    refine .inl (hin ?_)
    cases hob : orBaseB i with
    | false => rfl
    | true => exact absurd (orBase_parts hob).2.1 h4
 ·rename_i h7
  have hin' := hin (not_or (by omega))
  split
  ·-- Ld
   rename_i h8
   have hn : m.pc + 1 < l.length := hnx (by simp [stopsB]; omega)
   obtain ⟨a5, a6, a4⟩ := s1 ⟨ho.1, by omega⟩
   have hne4 : i.a ≠ 4 := fun e => by
    rcases a4 e with h | h
    ·have := (orBase_parts h).1
     omega
    ·omega
   have hal : i.a.toNat < m.regs.length := by rw [hm.len]; omega
   have hb4 := s2 (.inl h8)
   have hadr : (Mach.rg ⟨m.regs, m.mem, m.told, m.back, m.pc + 1⟩ i.b) = m.regs.getD 4 0 := by rw [hb4]; rfl
   rw [if_pos (by rw [hadr]; show _ < m.mem.length; rw [hm.mem]; omega)]
   have hv : 0 ≤ m.mem.getD (m.regs.getD i.b.toNat 0).toNat 0 ∧ m.mem.getD (m.regs.getD i.b.toNat 0).toNat 0 ≤ 65535 := getD_word hw _
   refine ⟨⟨by simp [Mach.setR, hm.len], ?_, ?_, fun u hu => mem_set hm.words hv hu, hn, hm.backs, hm.mem, ?_⟩, fun _ _ => rfl⟩
   ·show (m.regs.set i.a.toNat _).getD 5 0 = _
    rw [getD_set _ _ _ _ hal, if_neg (by omega)]
    exact hm.base
   ·show (m.regs.set i.a.toNat _).getD 6 0 = _
    rw [getD_set _ _ _ _ hal, if_neg (by omega)]
    exact hm.left
   ·refine .inl ?_
    show 64 * (r : Int) ≤ (m.regs.set i.a.toNat _).getD 4 0 ∧ (m.regs.set i.a.toNat _).getD 4 0 < 64 * r + 64
    rw [getD_set _ _ _ _ hal, if_neg (by omega)]
    exact hin'
  ·split
   ·-- St
    rename_i h9
    have hn : m.pc + 1 < l.length := hnx (by simp [stopsB]; omega)
    have hb4 := s2 (.inr h9)
    have hadr : (Mach.rg ⟨m.regs, m.mem, m.told, m.back, m.pc + 1⟩ i.b) = m.regs.getD 4 0 := by rw [hb4]; rfl
    rw [if_pos (by rw [hadr]; show _ < m.mem.length; rw [hm.mem]; omega), hadr]
    refine ⟨⟨hm.len, hm.base, hm.left, hm.words, hn, hm.backs, by simp [hm.mem], .inl hin'⟩, fun j hj => ?_⟩
    show (m.mem.set (m.regs.getD 4 0).toNat _).getD j 0 = _
    rw [getD_set _ _ _ _ (by rw [hm.mem]; omega), if_neg (by omega)]
   ·split
    ·rename_i h10
     have := s3 (by simp [jumpsB, h10])
     exact ⟨⟨hm.len, hm.base, hm.left, hm.words, by show i.c.toNat < l.length; omega, hm.backs, hm.mem, .inl hin'⟩, fun _ _ => rfl⟩
    ·split
     ·rename_i h11
      have := s3 (by simp [jumpsB, h11])
      have hn : m.pc + 1 < l.length := hnx (by simp [stopsB]; omega)
      split
      ·exact ⟨⟨hm.len, hm.base, hm.left, hm.words, by show i.c.toNat < l.length; omega, hm.backs, hm.mem, .inl hin'⟩, fun _ _ => rfl⟩
      ·exact ⟨⟨hm.len, hm.base, hm.left, hm.words, hn, hm.backs, hm.mem, .inl hin'⟩, fun _ _ => rfl⟩
     ·split
      ·rename_i h12
       have := s3 (by simp [jumpsB, h12])
       have hn : m.pc + 1 < l.length := hnx (by simp [stopsB]; omega)
       split
       ·exact ⟨by decide, rfl⟩
       ·refine ⟨⟨hm.len, hm.base, hm.left, hm.words, by show i.c.toNat < l.length; omega, fun b hb' => ?_, hm.mem, .inl hin'⟩, fun _ _ => rfl⟩
        rcases List.mem_append.1 hb' with h1 | h1
        ·exact hm.backs b h1
        ·simp at h1
         rw [h1]
         exact hn
      ·split
       ·split
        ·exact ⟨by decide, rfl⟩
        ·rename_i hne
         refine ⟨⟨hm.len, hm.base, hm.left, hm.words, ?_, fun b hb' => hm.backs b (List.dropLast_subset _ hb'), hm.mem, .inl hin'⟩, fun _ _ => rfl⟩
         show m.back.getLastD 0 < l.length
         have hne' : m.back ≠ [] := hne
         rw [List.getLastD_eq_getLast?, List.getLast?_eq_some_getLast hne']
         exact hm.backs _ (List.getLast_mem hne')
       ·split
        ·have hn : m.pc + 1 < l.length := hnx (by simp [stopsB]; omega)
         split
         ·exact ⟨by decide, rfl⟩
         ·exact ⟨⟨hm.len, hm.base, hm.left, hm.words, hn, hm.backs, hm.mem, .inl hin'⟩, fun _ _ => rfl⟩
        ·exact ⟨by decide, rfl⟩
theorem run_safe {l : List Ins} {r : Nat} (hs : safeT l = 0) (hr : r ≤ 15) : ∀ (n : Nat) (m : Mach), SInv l r m → (∀ v ∈ m.mem, 0 ≤ v ∧ v ≤ 65535) → MOk m → (runM l n m).1 ≠ 3 ∧ ∀ j : Nat, j < 64 * r ∨ 64 * r + 64 ≤ j → (runM l n m).2.mem.getD j 0 = m.mem.getD j 0
 | 0, m, _, _, _ => ⟨(show (2 : Int) ≠ 3 by decide), fun _ _ => rfl⟩
 | n + 1, m, hm, hw, hk => by
   have h := step_safe hs hr hm hw
   have hz : faultIn l = 0 ∧ l.length ≤ 200 := by
    have hf := safe_fault hs
    unfold fault at hf
    split at hf
    ·cases hf
    ·exact ⟨hf, by omega⟩
   rw [runM]
   cases hst : step l m with
   | on m' =>
     rw [hst] at h
     have hk' := step_ok hz.1 hz.2 hk hst
     obtain ⟨h1, h2⟩ := run_safe hs hr n m' h.1 hk'.mem hk'
     exact ⟨h1, fun j hj => (h2 j hj).trans (h.2 j hj)⟩
   | fin e m' =>
     rw [hst] at h
     exact ⟨h.1, fun j _ => by show m'.mem.getD j 0 = _; rw [h.2]⟩
end Go.Proofs.YtnnhhbjbdmgpiaaGreatDoor.Cf
/- Plain mathematics of chapter 4: modules as bytes. No Go in it. -/
namespace Go.Proofs.YtnnhhbjbdmgpiaaGreatDoor.Cf
set_option maxRecDepth 100000
structure Mod where
 name : List UInt8
 code : List Ins
 data : List Int
def noMod : Mod := ⟨[], [], []⟩
def letterB (c : UInt8) : Bool := inB c.toNat 97 122
def nameB (s : List UInt8) : Bool := s.all letterB && inB s.length 1 6
def modT (m : Mod) : Int := if nameB m.name then (if m.data.length ≤ 64 then (if m.data.all wordB then safeT m.code else 2) else 1) else 4
def sealX (x : Nat) : List UInt8 → Nat
 | [] => x
 | c :: r => sealX ((x + c.toNat) % 65521) r
def sealY (x y : Nat) : List UInt8 → Nat
 | [] => y
 | c :: r => sealY ((x + c.toNat) % 65521) ((y + (x + c.toNat) % 65521) % 65521) r
def sealL (s : List UInt8) : List UInt8 := [UInt8.ofNat (sealY 1 0 s / 256), UInt8.ofNat (sealY 1 0 s % 256), UInt8.ofNat (sealX 1 s / 256), UInt8.ofNat (sealX 1 s % 256)]
def encIns (x : Ins) : List UInt8 := [UInt8.ofNat x.op.toNat, UInt8.ofNat (16 * x.a.toNat + x.b.toNat), UInt8.ofNat (x.c.toNat / 256), UInt8.ofNat (x.c.toNat % 256)]
def encW (v : Int) : List UInt8 := [UInt8.ofNat (v.toNat / 256), UInt8.ofNat (v.toNat % 256)]
def bodyL (m : Mod) : List UInt8 := UInt8.ofNat m.name.length :: (m.name ++ UInt8.ofNat m.code.length :: (m.code.flatMap encIns ++ UInt8.ofNat m.data.length :: m.data.flatMap encW))
def encL (m : Mod) : List UInt8 := sealL (bodyL m) ++ bodyL m
def decIns : List UInt8 → Option (Ins × List UInt8)
 | o :: ab :: c1 :: c0 :: r => some (⟨o.toNat, ab.toNat / 16, ab.toNat % 16, 256 * c1.toNat + c0.toNat⟩, r)
 | _ => none
def decCode : Nat → List UInt8 → Option (List Ins × List UInt8)
 | 0, t => some ([], t)
 | n + 1, t => match decIns t with
   | none => none
   | some (x, r) => match decCode n r with
     | none => none
     | some (xs, r') => some (x :: xs, r')
def decData : Nat → List UInt8 → Option (List Int × List UInt8)
 | 0, t => some ([], t)
 | n + 1, c1 :: c0 :: r => match decData n r with
   | none => none
   | some (xs, r') => some ((256 * c1.toNat + c0.toNat : Int) :: xs, r')
 | _ + 1, _ => none
def decBody : List UInt8 → Option (Mod × List UInt8)
 | [] => none
 | n :: r => if r.length < n.toNat then none else match r.drop n.toNat with
   | [] => none
   | k :: r2 => match decCode k.toNat r2 with
     | none => none
     | some (_, []) => none
     | some (code, d :: r4) => match decData d.toNat r4 with
       | none => none
       | some (data, r5) => some (⟨r.take n.toNat, code, data⟩, r5)
structure GotM where
 mod : Mod
 err : Int
def decT (s : List UInt8) : GotM :=
 if 4000 < s.length then ⟨noMod, 1⟩ else if s.length < 4 then ⟨noMod, 5⟩ else if sealL (s.drop 4) ≠ s.take 4 then ⟨noMod, 11⟩ else match decBody (s.drop 4) with
  | none => ⟨noMod, 5⟩
  | some (_, _ :: _) => ⟨noMod, 4⟩
  | some (m, []) => if modT m = 0 then ⟨m, 0⟩ else ⟨noMod, modT m⟩
theorem toNat_of (n : Nat) (h : n < 256) : (UInt8.ofNat n).toNat = n := by
 simp [UInt8.toNat_ofNat']
 omega
theorem dec_ins (x : Ins) (h : chk x = 0) (r : List UInt8) : decIns (encIns x ++ r) = some (x, r) := by
 obtain ⟨ho, ha, hb, hc, _, _⟩ := chk_parts x h
 obtain ⟨op, a, b, c⟩ := x
 dsimp only at ho ha hb hc
 simp only [encIns, List.cons_append, List.nil_append, decIns]
 rw [toNat_of _ (by omega), toNat_of _ (by omega), toNat_of _ (by omega), toNat_of _ (by omega)]
 simp only [Option.some.injEq, Prod.mk.injEq, Ins.mk.injEq, and_true]
 omega
theorem dec_code : ∀ (l : List Ins) (r : List UInt8), faultIn l = 0 → decCode l.length (l.flatMap encIns ++ r) = some (l, r)
 | [], r, _ => rfl
 | x :: l, r, h => by
   have hx : chk x = 0 := faultIn_mem (x :: l) h 0 x rfl
   have hl : faultIn l = 0 := by simpa [faultIn, hx] using h
   rw [List.length_cons, List.flatMap_cons, List.append_assoc, decCode, dec_ins x hx]
   simp only
   rw [dec_code l r hl]
theorem dec_data : ∀ (l : List Int) (r : List UInt8), (∀ v ∈ l, 0 ≤ v ∧ v ≤ 65535) → decData l.length (l.flatMap encW ++ r) = some (l, r)
 | [], r, _ => rfl
 | v :: l, r, h => by
   have hv := h v (List.mem_cons_self ..)
   rw [List.length_cons, List.flatMap_cons, List.append_assoc, encW, List.cons_append, List.cons_append, List.nil_append, decData, dec_data l r (fun u hu => h u (List.mem_cons_of_mem _ hu))]
   simp only [Option.some.injEq, Prod.mk.injEq, List.cons.injEq, and_true]
   rw [toNat_of _ (by omega), toNat_of _ (by omega)]
   omega
theorem mod_parts {m : Mod} (h : modT m = 0) : (1 ≤ m.name.length ∧ m.name.length ≤ 6) ∧ m.data.length ≤ 64 ∧ (∀ v ∈ m.data, 0 ≤ v ∧ v ≤ 65535) ∧ safeT m.code = 0 := by
 unfold modT at h
 split at h
 ·rename_i hn
  split at h
  ·rename_i hd
   split at h
   ·rename_i hw
    simp only [nameB, Bool.and_eq_true, inB, decide_eq_true_eq] at hn
    refine ⟨⟨by omega, by omega⟩, hd, fun v hv => ?_, h⟩
    have := List.all_eq_true.1 hw v hv
    simpa [wordB, inB] using this
   ·cases h
  ·cases h
 ·cases h
theorem dec_body {m : Mod} (h : modT m = 0) : decBody (bodyL m) = some (m, []) := by
 obtain ⟨hn, hd, hw, hs⟩ := mod_parts h
 have hf := safe_fault hs
 have hz : faultIn m.code = 0 ∧ m.code.length ≤ 200 := by
  unfold fault at hf
  split at hf
  ·cases hf
  ·exact ⟨hf, by omega⟩
 have e := dec_data m.data [] hw
 rw [List.append_nil] at e
 unfold bodyL decBody
 simp only
 rw [toNat_of _ (by omega), if_neg (by simp), List.drop_left, List.take_left]
 simp only
 rw [toNat_of _ (by omega), dec_code _ _ hz.1]
 simp only
 rw [toNat_of _ (by omega), e]
theorem encIns_len (l : List Ins) : (l.flatMap encIns).length = 4 * l.length := by
 induction l with
 | nil => rfl
 | cons x l ih => rw [List.flatMap_cons, List.length_append, ih, List.length_cons]; show 4 + 4 * l.length = _; omega
theorem encW_len (l : List Int) : (l.flatMap encW).length = 2 * l.length := by
 induction l with
 | nil => rfl
 | cons x l ih => rw [List.flatMap_cons, List.length_append, ih, List.length_cons]; show 2 + 2 * l.length = _; omega
theorem enc_len {m : Mod} (h : modT m = 0) : 6 ≤ (encL m).length ∧ (encL m).length ≤ 941 := by
 obtain ⟨hn, hd, _, hs⟩ := mod_parts h
 have hf := safe_fault hs
 have hz : m.code.length ≤ 200 := by
  unfold fault at hf
  split at hf
  ·cases hf
  ·omega
 simp only [encL, bodyL, List.length_append, List.length_cons, encIns_len, encW_len]
 simp only [sealL, List.length_cons, List.length_nil]
 omega
theorem dec_enc {m : Mod} (h : modT m = 0) : decT (encL m) = ⟨m, 0⟩ := by
 have hl := enc_len h
 unfold decT
 rw [if_neg (by omega), if_neg (by omega), if_neg, show (encL m).drop 4 = bodyL m from rfl, dec_body h]
 ·simp only
  rw [if_pos h]
 ·exact fun hx => hx rfl
def sumL (s : List UInt8) : Nat := (s.map UInt8.toNat).sum
theorem sealX_sum : ∀ (s : List UInt8) (x : Nat), x < 65521 → sealX x s = (x + sumL s) % 65521
 | [], x, h => by simp [sealX, sumL]; omega
 | c :: r, x, h => by
   rw [sealX, sealX_sum r _ (Nat.mod_lt _ (by omega))]
   simp only [sumL, List.map_cons, List.sum_cons]
   omega
end Go.Proofs.YtnnhhbjbdmgpiaaGreatDoor.Cf
/- Plain mathematics of chapter 4, for the walks: the checksum, and a reader of bytes, a piece at a time. No Go in it. -/
namespace Go.Proofs.YtnnhhbjbdmgpiaaGreatDoor.Cf
set_option maxRecDepth 100000
theorem sealX_lt (s : List UInt8) : sealX 1 s < 65521 := by
 rw [sealX_sum _ _ (by omega)]
 exact Nat.mod_lt _ (by omega)
theorem sealX_snoc : ∀ (s : List UInt8) (x : Nat) (c : UInt8), sealX x (s ++ [c]) = (sealX x s + c.toNat) % 65521
 | [], _, _ => rfl
 | d :: r, x, c => by rw [List.cons_append, sealX, sealX, sealX_snoc r]
theorem sealY_snoc : ∀ (s : List UInt8) (x y : Nat) (c : UInt8), sealY x y (s ++ [c]) = (sealY x y s + (sealX x s + c.toNat) % 65521) % 65521
 | [], _, _, _ => rfl
 | d :: r, x, y, c => by rw [List.cons_append, sealY, sealY, sealX, sealY_snoc r]
theorem sealY_lt : ∀ (s : List UInt8) (x y : Nat), y < 65521 → sealY x y s < 65521
 | [], _, _, h => h
 | d :: r, x, y, h => by rw [sealY]; exact sealY_lt r _ _ (Nat.mod_lt _ (by omega))
theorem take_next {α : Type} (s : List α) (k : Nat) (c : α) (h : s[k]? = some c) : s.take (k + 1) = s.take k ++ [c] := by
 rw [List.take_add_one, h]; rfl
def valB (l : List UInt8) : Nat := l.foldl (fun v b => 256 * v + b.toNat) 0
theorem valB_snoc (l : List UInt8) (c : UInt8) : valB (l ++ [c]) = 256 * valB l + c.toNat := by
 simp [valB]
theorem valB_le2 (l : List UInt8) (h : l.length ≤ 2) : valB l ≤ 65535 := by
 match l, h with
 | [], _ => simp [valB]
 | [a], _ => have := a.toNat_lt; simp [valB]; omega
 | [a, b], _ => have := a.toNat_lt; have := b.toNat_lt; simp [valB]; omega
structure Rdr where
 rest : List UInt8
 short : Bool
structure TookS where
 got : List UInt8
 rdr : Rdr
structure TookN where
 got : Nat
 rdr : Rdr
structure TookI where
 got : Ins
 rdr : Rdr
structure TookC where
 got : List Ins
 rdr : Rdr
structure TookD where
 got : List Int
 rdr : Rdr
def takeR (n : Nat) (r : Rdr) : TookS := if r.rest.length < n then ⟨[], ⟨[], true⟩⟩ else ⟨r.rest.take n, ⟨r.rest.drop n, r.short⟩⟩
def numR (n : Nat) (r : Rdr) : TookN := ⟨valB (takeR n r).got, (takeR n r).rdr⟩
def insR (r : Rdr) : TookI := ⟨⟨(numR 1 r).got, (numR 1 (numR 1 r).rdr).got / 16, (numR 1 (numR 1 r).rdr).got % 16, (numR 2 (numR 1 (numR 1 r).rdr).rdr).got⟩, (numR 2 (numR 1 (numR 1 r).rdr).rdr).rdr⟩
def codeR : Nat → Rdr → TookC
 | 0, r => ⟨[], r⟩
 | n + 1, r => ⟨(codeR n r).got ++ [(insR (codeR n r).rdr).got], (insR (codeR n r).rdr).rdr⟩
def dataR : Nat → Rdr → TookD
 | 0, r => ⟨[], r⟩
 | n + 1, r => ⟨(dataR n r).got ++ [((numR 2 (dataR n r).rdr).got : Int)], (numR 2 (dataR n r).rdr).rdr⟩
theorem takeR_len (n : Nat) (r : Rdr) : (takeR n r).got.length ≤ n := by
 unfold takeR
 split
 ·simp
 ·simp only [List.length_take]; omega
theorem takeR_rest (n : Nat) (r : Rdr) : (takeR n r).rdr.rest.length ≤ r.rest.length := by
 unfold takeR
 split
 ·simp
 ·simp
theorem numR1_le (r : Rdr) : (numR 1 r).got ≤ 255 := by
 have := takeR_len 1 r
 unfold numR
 generalize (takeR 1 r).got = l at *
 match l, this with
 | [], _ => simp [valB]
 | [a], _ => have := a.toNat_lt; simp [valB]; omega
theorem codeR_len : ∀ (n : Nat) (r : Rdr), (codeR n r).got.length = n
 | 0, _ => rfl
 | n + 1, r => by simp [codeR, codeR_len n r]
theorem dataR_len : ∀ (n : Nat) (r : Rdr), (dataR n r).got.length = n
 | 0, _ => rfl
 | n + 1, r => by simp [dataR, dataR_len n r]
def nameR (body : List UInt8) : TookS := takeR (numR 1 ⟨body, false⟩).got (numR 1 ⟨body, false⟩).rdr
def restC (body : List UInt8) : TookC := codeR (numR 1 (nameR body).rdr).got (numR 1 (nameR body).rdr).rdr
def restD (body : List UInt8) : TookD := dataR (numR 1 (restC body).rdr).got (numR 1 (restC body).rdr).rdr
def parseT (body : List UInt8) : GotM :=
 if (restD body).rdr.short then ⟨noMod, 5⟩ else if (restD body).rdr.rest = [] then ⟨⟨(nameR body).got, (restC body).got, (restD body).got⟩, 0⟩ else ⟨noMod, 4⟩
def stuck : Rdr := ⟨[], true⟩
theorem take_stuck (n : Nat) : takeR n stuck = ⟨[], stuck⟩ := by
 unfold takeR stuck
 split
 ·rfl
 ·simp
theorem num_stuck (n : Nat) : numR n stuck = ⟨0, stuck⟩ := by
 unfold numR
 rw [take_stuck]
 rfl
theorem num1_nil (b : Bool) : numR 1 ⟨[], b⟩ = ⟨0, stuck⟩ := by
 unfold numR takeR
 simp [valB, stuck]
theorem num1_cons (c : UInt8) (t : List UInt8) (b : Bool) : numR 1 ⟨c :: t, b⟩ = ⟨c.toNat, ⟨t, b⟩⟩ := by
 unfold numR takeR
 simp [valB]
theorem num2_two (c d : UInt8) (t : List UInt8) (b : Bool) : numR 2 ⟨c :: d :: t, b⟩ = ⟨256 * c.toNat + d.toNat, ⟨t, b⟩⟩ := by
 unfold numR takeR
 rw [if_neg (by simp)]
 simp [valB]
theorem num2_short (l : List UInt8) (h : l.length < 2) (b : Bool) : numR 2 ⟨l, b⟩ = ⟨0, stuck⟩ := by
 unfold numR takeR
 rw [if_pos h]
 rfl
theorem ins_stuck : (insR stuck).rdr = stuck := by
 simp [insR, num_stuck]
theorem ins_some {t : List UInt8} {x : Ins} {r : List UInt8} (h : decIns t = some (x, r)) : insR ⟨t, false⟩ = ⟨x, ⟨r, false⟩⟩ := by
 unfold decIns at h
 split at h
 ·simp only [Option.some.injEq, Prod.mk.injEq] at h
  obtain ⟨rfl, rfl⟩ := h
  simp only [insR, num1_cons, num2_two]
  simp
 ·cases h
theorem ins_none {t : List UInt8} (h : decIns t = none) : (insR ⟨t, false⟩).rdr = stuck := by
 unfold decIns at h
 split at h
 ·cases h
 ·rename_i hn
  match t with
  | [] => simp [insR, num1_nil, num_stuck]
  | [a] => simp [insR, num1_nil, num1_cons, num_stuck]
  | [a, b] => simp [insR, num1_cons, num2_short]
  | [a, b, c] => simp [insR, num1_cons, num2_short]
  | a :: b :: c :: d :: r => exact absurd rfl (hn a b c d r)
theorem decCode_snoc : ∀ (n : Nat) (t : List UInt8), decCode (n + 1) t = (decCode n t).bind fun p => (decIns p.2).map fun q => (p.1 ++ [q.1], q.2)
 | 0, t => by
   simp only [decCode, Option.bind_some]
   cases decIns t with
   | none => rfl
   | some q => rfl
 | n + 1, t => by
   have ih := fun r => decCode_snoc n r
   rw [decCode]
   conv => rhs; rw [decCode]
   cases hd : decIns t with
   | none => rfl
   | some q =>
     obtain ⟨x, r⟩ := q
     simp only
     rw [ih r]
     cases decCode n r with
     | none => rfl
     | some p =>
       obtain ⟨xs, r'⟩ := p
       simp only [Option.bind_some]
       cases decIns r' with
       | none => rfl
       | some q' => rfl
theorem decData_snoc : ∀ (n : Nat) (t : List UInt8), decData (n + 1) t = (decData n t).bind fun p => match p.2 with
  | c1 :: c0 :: r => some (p.1 ++ [(256 * c1.toNat + c0.toNat : Int)], r)
  | _ => none
 | 0, t => by
   match t with
   | [] => rfl
   | [_] => rfl
   | a :: b :: r => rfl
 | n + 1, t => by
   match t with
   | [] => rfl
   | [_] => rfl
   | a :: b :: r =>
     have ih := decData_snoc n r
     rw [decData, ih]
     conv => rhs; rw [decData]
     cases decData n r with
     | none => rfl
     | some p =>
       obtain ⟨xs, r'⟩ := p
       simp only [Option.bind_some]
       match r' with
       | [] => rfl
       | [_] => rfl
       | c :: d :: r'' => rfl
theorem code_dec : ∀ (n : Nat) (t : List UInt8), (∀ xs r, decCode n t = some (xs, r) → codeR n ⟨t, false⟩ = ⟨xs, ⟨r, false⟩⟩) ∧ (decCode n t = none → (codeR n ⟨t, false⟩).rdr = stuck)
 | 0, t => ⟨fun xs r h => by simp [decCode] at h; obtain ⟨rfl, rfl⟩ := h; rfl, fun h => by simp [decCode] at h⟩
 | n + 1, t => by
   obtain ⟨h1, h2⟩ := code_dec n t
   rw [decCode_snoc]
   cases hd : decCode n t with
   | none =>
     refine ⟨fun xs r h => by simp at h, fun _ => ?_⟩
     rw [codeR]
     show (insR (codeR n ⟨t, false⟩).rdr).rdr = stuck
     rw [h2 hd, ins_stuck]
   | some p =>
     obtain ⟨ys, r'⟩ := p
     have e := h1 ys r' hd
     simp only [Option.bind_some]
     cases hi : decIns r' with
     | none =>
       refine ⟨fun xs r h => by simp at h, fun _ => ?_⟩
       rw [codeR, e]
       exact ins_none hi
     | some q =>
       obtain ⟨x, r''⟩ := q
       refine ⟨fun xs r h => ?_, fun h => by simp at h⟩
       simp at h
       obtain ⟨rfl, rfl⟩ := h
       rw [codeR, e, ins_some hi]
theorem data_dec : ∀ (n : Nat) (t : List UInt8), (∀ xs r, decData n t = some (xs, r) → dataR n ⟨t, false⟩ = ⟨xs, ⟨r, false⟩⟩) ∧ (decData n t = none → (dataR n ⟨t, false⟩).rdr = stuck)
 | 0, t => ⟨fun xs r h => by simp [decData] at h; obtain ⟨rfl, rfl⟩ := h; rfl, fun h => by simp [decData] at h⟩
 | n + 1, t => by
   obtain ⟨h1, h2⟩ := data_dec n t
   rw [decData_snoc]
   cases hd : decData n t with
   | none =>
     refine ⟨fun xs r h => by simp at h, fun _ => ?_⟩
     rw [dataR]
     show (numR 2 (dataR n ⟨t, false⟩).rdr).rdr = stuck
     rw [h2 hd, num_stuck]
   | some p =>
     obtain ⟨ys, r'⟩ := p
     have e := h1 ys r' hd
     simp only [Option.bind_some]
     match r' with
     | [] =>
       refine ⟨fun xs r h => by simp at h, fun _ => ?_⟩
       rw [dataR, e]
       show (numR 2 ⟨[], false⟩).rdr = stuck
       rw [num2_short _ (by simp)]
     | [a] =>
       refine ⟨fun xs r h => by simp at h, fun _ => ?_⟩
       rw [dataR, e]
       show (numR 2 ⟨[a], false⟩).rdr = stuck
       rw [num2_short _ (by simp)]
     | c :: d :: r'' =>
       refine ⟨fun xs r h => ?_, fun h => by simp at h⟩
       simp at h
       obtain ⟨rfl, rfl⟩ := h
       rw [dataR, e]
       simp only [num2_two]
       simp
theorem parse_dec (body : List UInt8) : parseT body = match decBody body with
  | none => ⟨noMod, 5⟩
  | some (_, _ :: _) => ⟨noMod, 4⟩
  | some (m, []) => ⟨m, 0⟩ := by
 have hstuck : (restD body).rdr = stuck → parseT body = ⟨noMod, 5⟩ := by
  intro h
  unfold parseT
  rw [h]
  rfl
 cases body with
 | nil =>
   refine (hstuck ?_).trans rfl
   simp [restD, restC, nameR, num1_nil, take_stuck, num_stuck, codeR, dataR]
 | cons n r =>
   simp only [decBody]
   by_cases hn : r.length < n.toNat
   ·rw [if_pos hn, hstuck]
    have : nameR (n :: r) = ⟨[], stuck⟩ := by
     unfold nameR
     rw [num1_cons]
     unfold takeR
     rw [if_pos hn]
     rfl
    simp [restD, restC, this, num_stuck, codeR, dataR]
   ·rw [if_neg hn]
    have hN : nameR (n :: r) = ⟨r.take n.toNat, ⟨r.drop n.toNat, false⟩⟩ := by
     unfold nameR
     rw [num1_cons]
     unfold takeR
     rw [if_neg hn]
    cases hd : r.drop n.toNat with
    | nil =>
      rw [hd] at hN
      rw [hstuck]
      simp [restD, restC, hN, num1_nil, num_stuck, codeR, dataR]
    | cons k r2 =>
      rw [hd] at hN
      simp only
      obtain ⟨c1, c2⟩ := code_dec k.toNat r2
      have hC : restC (n :: r) = codeR k.toNat ⟨r2, false⟩ := by
       unfold restC
       rw [hN, num1_cons]
      cases hc : decCode k.toNat r2 with
      | none =>
        rw [hstuck]
        have := c2 hc
        simp [restD, hC, this, num_stuck, dataR]
      | some p =>
        obtain ⟨code, r3⟩ := p
        have hC' := hC.trans (c1 _ _ hc)
        match r3 with
        | [] =>
          rw [hstuck]
          simp [restD, hC', num1_nil, dataR]
        | d :: r4 =>
          simp only
          obtain ⟨d1, d2⟩ := data_dec d.toNat r4
          have hD : restD (n :: r) = dataR d.toNat ⟨r4, false⟩ := by
           unfold restD
           rw [hC', num1_cons]
          cases hx : decData d.toNat r4 with
          | none =>
            rw [hstuck]
            rw [hD]
            exact d2 hx
          | some q =>
            obtain ⟨data, r5⟩ := q
            have hD' := hD.trans (d1 _ _ hx)
            unfold parseT
            rw [hD', hC', hN]
            cases r5 with
            | nil => rfl
            | cons a b => rfl
theorem decT_parse (s : List UInt8) : decT s = if 4000 < s.length then ⟨noMod, 1⟩ else if s.length < 4 then ⟨noMod, 5⟩ else if sealL (s.drop 4) ≠ s.take 4 then ⟨noMod, 11⟩ else
  if (parseT (s.drop 4)).err = 0 then (if modT (parseT (s.drop 4)).mod = 0 then ⟨(parseT (s.drop 4)).mod, 0⟩ else ⟨noMod, modT (parseT (s.drop 4)).mod⟩) else ⟨noMod, (parseT (s.drop 4)).err⟩ := by
 unfold decT
 rw [parse_dec]
 cases decBody (s.drop 4) with
 | none => rfl
 | some p =>
   obtain ⟨m, r⟩ := p
   cases r with
   | nil => rfl
   | cons a b => rfl
end Go.Proofs.YtnnhhbjbdmgpiaaGreatDoor.Cf
/- Plain mathematics of chapter 5: a kernel, what is valid, and what actions do. No Go in it. -/
namespace Go.Proofs.YtnnhhbjbdmgpiaaGreatDoor.Cf
set_option maxRecDepth 100000
structure Node where
 name : List UInt8
 kind : Int
 data : List UInt8
 unit : Int
deriving DecidableEq
structure End where
 kind : Int
 node : Int
 pos : Int
deriving DecidableEq
structure Proc where
 live : Bool
 ends : List End
deriving DecidableEq
structure Kern where
 mods : List Mod
 mem : List Int
 nodes : List Node
 pipes : List (List UInt8)
 procs : List Proc
structure Actn where
 kind : Int
 p : Int
 n : Int
 m : Int
 name : List UInt8
 data : List UInt8
structure Ans where
 code : Int
 n : Int
 data : List UInt8
deriving DecidableEq
def noNode : Node := ⟨[], 0, [], 0⟩
def noEnd : End := ⟨0, 0, 0⟩
def noProc : Proc := ⟨false, List.replicate 6 noEnd⟩
def noKern : Kern := ⟨[], [], [], [], []⟩
def noAns : Ans := ⟨0, 0, []⟩
def newKern : Kern := ⟨[], List.replicate 1024 0, List.replicate 8 noNode, List.replicate 6 [], ⟨true, List.replicate 6 noEnd⟩ :: List.replicate 3 noProc⟩
def idxT {α : Type} (p : α → Bool) (l : List α) : Int := if l.any p then (l.findIdx p : Int) else -1
def endOf (kind node : Int) (e : End) : Bool := decide (e.kind = kind) && decide (e.node = node)
def holdsB (kind node : Int) (p : Proc) : Bool := p.ends.any (endOf kind node)
def hasB (ps : List Proc) (kind node : Int) : Bool := ps.any (holdsB kind node)
def withinB (v : Int) (size : Nat) : Bool := decide (0 ≤ v) && decide (v < size)
def namedB (name : List UInt8) (n : Node) : Bool := decide (n.name = name) && decide (name ≠ [])
def modIs (name : List UInt8) (m : Mod) : Bool := decide (m.name = name)
def emptyB (n : Node) : Bool := decide (n.kind = 0)
def freeB (e : End) : Bool := decide (e.kind = 0)
def deadB (p : Proc) : Bool := !p.live
def sizedB (k : Kern) : Bool := decide (k.mods.length ≤ 8) && (decide (k.mem.length = 1024) && (decide (k.nodes.length = 8) && (decide (k.pipes.length = 6) && decide (k.procs.length = 4))))
def modE (l : List Mod) (i : Nat) : Int :=
 match l[i]? with
 | some m => if modT m = 0 then (if (l.take i).any (modIs m.name) then 7 else 0) else modT m
 | none => 0
def firstE (f : Nat → Int) : Nat → Int
 | 0 => 0
 | n + 1 => if firstE f n = 0 then f n else firstE f n
def modsE (l : List Mod) : Int := firstE (modE l) l.length
def contentB (mods : Nat) (n : Node) : Bool :=
 if n.kind = 1 then decide (n.unit = 0) && decide (n.data.length ≤ 100) else if n.kind = 2 then decide (n.data = []) && withinB n.unit mods else decide (n = noNode)
def nameOk (k : Kern) (name : List UInt8) (i : Nat) : Bool := if name = [] then hasB k.procs 1 i else nameB name && decide (idxT (namedB name) k.nodes = i)
def fileB (k : Kern) (i : Nat) : Bool :=
 match k.nodes[i]? with
 | some n => contentB k.mods.length n && (emptyB n || nameOk k n.name i)
 | none => true
def filesB (k : Kern) : Bool := (List.range k.nodes.length).all (fileB k)
def fullAt (ns : List Node) (i : Int) : Bool :=
 match ns[i.toNat]? with
 | some n => !emptyB n
 | none => false
def endB (k : Kern) (e : End) : Bool :=
 if e.kind = 1 then withinB e.node k.nodes.length && (fullAt k.nodes e.node && withinB e.pos 101) else if e.kind = 2 ∨ e.kind = 3 then withinB e.node k.pipes.length && decide (e.pos = 0) else decide (e = noEnd)
def procB (k : Kern) (p : Proc) : Bool := decide (p.ends.length = 6) && p.ends.all (fun e => endB k e && (p.live || freeB e))
def procsB (k : Kern) : Bool := k.procs.all (procB k)
def pipeB (k : Kern) (i : Nat) : Bool :=
 match k.pipes[i]? with
 | some s => decide (s.length ≤ 20) && (decide (s = []) || hasB k.procs 2 i)
 | none => true
def pipesB (k : Kern) : Bool := (List.range k.pipes.length).all (pipeB k)
def kernT (k : Kern) : Int :=
 if sizedB k then (if modsE k.mods = 0 then (if k.mem.all wordB then (if filesB k && (procsB k && pipesB k) then 0 else 9) else 2) else modsE k.mods) else 1
structure Did where
 kern : Kern
 ans : Ans
def refuseT (k : Kern) (e : Int) : Did := ⟨k, ⟨e, 0, []⟩⟩
def tidyN (ps : List Proc) (i : Nat) (n : Node) : Node := if n.name = [] ∧ hasB ps 1 i = false then noNode else n
def tidyP (ps : List Proc) (i : Nat) (s : List UInt8) : List UInt8 := if hasB ps 2 i = false then [] else s
def tidyT (k : Kern) : Kern := ⟨k.mods, k.mem, k.nodes.mapIdx (tidyN k.procs), k.pipes.mapIdx (tidyP k.procs), k.procs⟩
def setNode (k : Kern) (i : Nat) (n : Node) : Kern := ⟨k.mods, k.mem, k.nodes.set i n, k.pipes, k.procs⟩
def setPipe (k : Kern) (i : Nat) (s : List UInt8) : Kern := ⟨k.mods, k.mem, k.nodes, k.pipes.set i s, k.procs⟩
def setProc (k : Kern) (i : Nat) (p : Proc) : Kern := ⟨k.mods, k.mem, k.nodes, k.pipes, k.procs.set i p⟩
def setMem (k : Kern) (m : List Int) : Kern := ⟨k.mods, m, k.nodes, k.pipes, k.procs⟩
def nodeAt (k : Kern) (i : Nat) : Node := k.nodes.getD i noNode
def pipeAt (k : Kern) (i : Nat) : List UInt8 := k.pipes.getD i []
def procAt (k : Kern) (i : Nat) : Proc := k.procs.getD i noProc
def endAt (k : Kern) (p i : Nat) : End := (procAt k p).ends.getD i noEnd
def setEnd (k : Kern) (p i : Nat) (e : End) : Kern := setProc k p ⟨(procAt k p).live, (procAt k p).ends.set i e⟩
def layT (mem data : List Int) (at_ : Nat) : List Int := mem.take at_ ++ (data ++ List.replicate (64 - data.length) 0) ++ mem.drop (at_ + 64)
def installT (k : Kern) (s : List UInt8) : Did :=
 if (decT s).err ≠ 0 then refuseT k (decT s).err else if k.mods.any (modIs (decT s).mod.name) then refuseT k 7 else if k.mods.length = 8 then refuseT k 8
 else ⟨⟨k.mods ++ [(decT s).mod], layT k.mem (decT s).mod.data (64 * k.mods.length), k.nodes, k.pipes, k.procs⟩, ⟨0, k.mods.length, []⟩⟩
def addT (k : Kern) (f : Node) : Did :=
 if nameB f.name = false then refuseT k 4 else if 0 ≤ idxT (namedB f.name) k.nodes then refuseT k 7 else if f.kind = 2 ∧ withinB f.unit k.mods.length = false then refuseT k 6
 else if idxT emptyB k.nodes < 0 then refuseT k 8 else ⟨setNode k (idxT emptyB k.nodes).toNat f, ⟨0, idxT emptyB k.nodes, []⟩⟩
def unlinkT (k : Kern) (name : List UInt8) : Did :=
 if idxT (namedB name) k.nodes < 0 then refuseT k 6
 else ⟨tidyT (setNode k (idxT (namedB name) k.nodes).toNat ⟨[], (nodeAt k (idxT (namedB name) k.nodes).toNat).kind, (nodeAt k (idxT (namedB name) k.nodes).toNat).data, (nodeAt k (idxT (namedB name) k.nodes).toNat).unit⟩), noAns⟩
def openT (k : Kern) (p : Nat) (name : List UInt8) : Did :=
 if nameB name = false then refuseT k 4 else if idxT (namedB name) k.nodes < 0 then refuseT k 6 else if idxT freeB (procAt k p).ends < 0 then refuseT k 8
 else ⟨setEnd k p (idxT freeB (procAt k p).ends).toNat ⟨1, idxT (namedB name) k.nodes, 0⟩, ⟨0, idxT freeB (procAt k p).ends, []⟩⟩
def noEnds (ps : List Proc) (i : Nat) : Bool := !hasB ps 2 i && !hasB ps 3 i
def pipeT' (k : Kern) : Int := idxT (noEnds k.procs) (List.range k.pipes.length)
def pipeT (k : Kern) (p : Nat) : Did :=
 if pipeT' k < 0 ∨ idxT freeB (procAt k p).ends < 0 then refuseT k 8
 else if idxT freeB ((procAt k p).ends.drop ((idxT freeB (procAt k p).ends).toNat + 1)) < 0 then refuseT k 8
 else ⟨setEnd (setEnd k p (idxT freeB (procAt k p).ends).toNat ⟨2, pipeT' k, 0⟩) p ((idxT freeB (procAt k p).ends).toNat + 1 + (idxT freeB ((procAt k p).ends.drop ((idxT freeB (procAt k p).ends).toNat + 1))).toNat) ⟨3, pipeT' k, 0⟩, ⟨0, idxT freeB (procAt k p).ends, []⟩⟩
def forkT (k : Kern) (p : Nat) : Did :=
 if idxT deadB k.procs < 0 then refuseT k 8 else ⟨setProc k (idxT deadB k.procs).toNat ⟨true, (procAt k p).ends⟩, ⟨0, idxT deadB k.procs, []⟩⟩
def exitT (k : Kern) (p : Nat) : Did := ⟨tidyT (setProc k p ⟨false, (procAt k p).ends.map (fun _ => noEnd)⟩), noAns⟩
def closeT (k : Kern) (p i : Nat) : Did := ⟨tidyT (setEnd k p i noEnd), noAns⟩
structure Asked where
 mem : List Int
 word : Int
 ok : Bool
def askR (unit : Nat) (word : Int) : List Int := [word, 0, 0, 0, 64 * (unit : Int), 64 * (unit : Int), 63, 0]
def askO (k : Kern) (unit : Nat) (word : Int) : Out := runT (k.mods.getD unit noMod).code (askR unit word) k.mem 2000
def askT (k : Kern) (unit : Nat) (word : Int) : Asked :=
 if (askO k unit word).err = 0 ∧ (askO k unit word).fin = 1 then ⟨(askO k unit word).mem, (askO k unit word).regs.getD 0 0, true⟩ else ⟨k.mem, 0, false⟩
def gaveT (k : Kern) (s : List UInt8) : Did := ⟨k, ⟨0, s.length, s⟩⟩
def readPipeT (k : Kern) (i size : Nat) : Did :=
 if pipeAt k i = [] then refuseT k (if hasB k.procs 3 i then 13 else 12) else gaveT (setPipe k i ((pipeAt k i).drop size)) ((pipeAt k i).take size)
def readFileT (k : Kern) (p n size : Nat) (data : List UInt8) (e : End) : Did :=
 if data.drop e.pos.toNat = [] then refuseT k 12
 else gaveT (setEnd k p n ⟨e.kind, e.node, e.pos + ((data.drop e.pos.toNat).take size).length⟩) ((data.drop e.pos.toNat).take size)
def readDevT (k : Kern) (unit : Nat) : Did :=
 if (askT k unit 256).ok then gaveT (setMem k (askT k unit 256).mem) [UInt8.ofNat (askT k unit 256).word.toNat] else refuseT k 14
def readT (k : Kern) (p n : Nat) (size : Int) : Did :=
 if (endAt k p n).kind = 3 then refuseT k 3 else if inB size 1 100 = false then refuseT k 2 else if (endAt k p n).kind = 2 then readPipeT k (endAt k p n).node.toNat size.toNat
 else if (nodeAt k (endAt k p n).node.toNat).kind = 2 then readDevT k (nodeAt k (endAt k p n).node.toNat).unit.toNat
 else readFileT k p n size.toNat (nodeAt k (endAt k p n).node.toNat).data (endAt k p n)
def writePipeT (k : Kern) (i : Nat) (s : List UInt8) : Did :=
 if hasB k.procs 2 i = false then refuseT k 12 else if s.take (20 - (pipeAt k i).length) = [] then refuseT k 13
 else ⟨setPipe k i (pipeAt k i ++ s.take (20 - (pipeAt k i).length)), ⟨0, (s.take (20 - (pipeAt k i).length)).length, []⟩⟩
def overT (d s : List UInt8) (pos : Nat) : List UInt8 := (d ++ List.replicate (pos - d.length) 0).take pos ++ s ++ d.drop (pos + s.length)
def writeFileT (k : Kern) (p n : Nat) (s : List UInt8) (e : End) (f : Node) : Did :=
 if s.take (100 - e.pos.toNat) = [] then refuseT k 8
 else ⟨setEnd (setNode k e.node.toNat ⟨f.name, f.kind, overT f.data (s.take (100 - e.pos.toNat)) e.pos.toNat, f.unit⟩) p n ⟨e.kind, e.node, e.pos + (s.take (100 - e.pos.toNat)).length⟩, ⟨0, (s.take (100 - e.pos.toNat)).length, []⟩⟩
structure Fed where
 mem : List Int
 many : Nat
def feedT (k : Kern) (unit : Nat) : List UInt8 → Fed
 | [] => ⟨k.mem, 0⟩
 | b :: r => if (askT k unit b.toNat).ok then ⟨(feedT (setMem k (askT k unit b.toNat).mem) unit r).mem, (feedT (setMem k (askT k unit b.toNat).mem) unit r).many + 1⟩ else ⟨k.mem, 0⟩
def writeDevT (k : Kern) (unit : Nat) (s : List UInt8) : Did :=
 if (feedT k unit s).many = 0 then refuseT k 14 else ⟨setMem k (feedT k unit s).mem, ⟨0, (feedT k unit s).many, []⟩⟩
def writeT (k : Kern) (p n : Nat) (s : List UInt8) : Did :=
 if (endAt k p n).kind = 2 then refuseT k 3 else if inB s.length 1 100 = false then refuseT k 2 else if (endAt k p n).kind = 3 then writePipeT k (endAt k p n).node.toNat s
 else if (nodeAt k (endAt k p n).node.toNat).kind = 2 then writeDevT k (nodeAt k (endAt k p n).node.toNat).unit.toNat s
 else writeFileT k p n s (endAt k p n) (nodeAt k (endAt k p n).node.toNat)
def byEndT (k : Kern) (p n : Nat) (a : Actn) : Did := if a.kind = 7 then readT k p n a.m else if a.kind = 8 then writeT k p n a.data else closeT k p n
def byProcT (k : Kern) (p : Nat) (a : Actn) : Did :=
 if a.kind = 5 then openT k p a.name else if a.kind = 9 then pipeT k p else if a.kind = 10 then forkT k p else if a.kind = 11 then exitT k p
 else if withinB a.n (procAt k p).ends.length = true ∧ (endAt k p a.n.toNat).kind ≠ 0 then byEndT k p a.n.toNat a else refuseT k 6
def actT (k : Kern) (a : Actn) : Did :=
 if a.kind = 1 then installT k a.data else if a.kind = 2 then addT k ⟨a.name, 1, [], 0⟩ else if a.kind = 3 then addT k ⟨a.name, 2, [], a.n⟩ else if a.kind = 4 then unlinkT k a.name
 else if withinB a.p k.procs.length = true ∧ (procAt k a.p.toNat).live = true then byProcT k a.p.toNat a else refuseT k 6
structure DidE where
 kern : Kern
 ans : Ans
 err : Int
def doT (k : Kern) (a : Actn) : DidE :=
 if kernT k ≠ 0 then ⟨noKern, noAns, kernT k⟩ else if inB a.kind 1 11 = false then ⟨noKern, noAns, 3⟩ else ⟨(actT k a).kern, (actT k a).ans, 0⟩
def nextT (k : Kern) (a : Actn) : Did := if (doT k a).err = 0 then ⟨(doT k a).kern, (doT k a).ans⟩ else ⟨k, ⟨(doT k a).err, 0, []⟩⟩
structure Ran where
 answers : List Ans
 kern : Kern
def ranT : Kern → List Actn → Ran
 | k, [] => ⟨[], k⟩
 | k, a :: r => ⟨(nextT k a).ans :: (ranT (nextT k a).kern r).answers, (ranT (nextT k a).kern r).kern⟩
structure RanE where
 answers : List Ans
 kern : Kern
 err : Int
def scriptT (l : List Actn) : RanE := if 200 < l.length then ⟨[], noKern, 1⟩ else ⟨(ranT newKern l).answers, (ranT newKern l).kern, 0⟩
end Go.Proofs.YtnnhhbjbdmgpiaaGreatDoor.Cf
/- Plain mathematics of chapter 5, for the walks: the first one of a list, one by one. No Go in it. -/
namespace Go.Proofs.YtnnhhbjbdmgpiaaGreatDoor.Cf
set_option maxRecDepth 100000
section
variable {α β : Type} {p : α → Bool} {l : List α}
theorem idx_none (h : l.any p = false) : idxT p l = -1 := by unfold idxT; rw [h]; rfl
theorem idx_at {k : Nat} {x : α} (hx : l[k]? = some x) (hp : p x = true) (h : (l.take k).any p = false) : idxT p l = k := by
 have ha : l.any p = true := List.any_eq_true.2 ⟨x, List.mem_of_getElem? hx, hp⟩
 unfold idxT
 rw [ha, if_pos rfl]
 obtain ⟨hk, hx'⟩ := List.getElem?_eq_some_iff.1 hx
 have : l.findIdx p = k := by
  rw [List.findIdx_eq hk]
  refine ⟨by rw [hx']; exact hp, fun j hj => ?_⟩
  have := List.any_eq_false.1 h l[j] (List.mem_take_iff_getElem.2 ⟨j, by omega, rfl⟩)
  simpa using this
 rw [this]
theorem any_on {k : Nat} {x : α} (hx : l[k]? = some x) (h : (l.take k).any p = false) (hp : p x = false) : (l.take (k + 1)).any p = false := by
 rw [List.take_add_one, hx, List.any_append, h]
 simp [hp]
theorem idx_pos : decide (0 ≤ idxT p l) = l.any p := by
 unfold idxT
 cases l.any p
 ·simp
 ·simp
theorem idx_neg : idxT p l < 0 ↔ l.any p = false := by
 unfold idxT
 cases l.any p
 ·simp
 ·simp
theorem idx_cases (p : α → Bool) (l : List α) : (l.any p = false ∧ idxT p l = -1) ∨ ∃ (k : Nat) (x : α), idxT p l = k ∧ l[k]? = some x ∧ p x = true ∧ (l.take k).any p = false := by
 cases h : l.any p
 ·exact .inl ⟨rfl, idx_none h⟩
 ·refine .inr ?_
  obtain ⟨y, hy, hpy⟩ := List.any_eq_true.1 h
  have hlt : l.findIdx p < l.length := List.findIdx_lt_length_of_exists ⟨y, hy, hpy⟩
  refine ⟨l.findIdx p, l[l.findIdx p], by unfold idxT; rw [h, if_pos rfl], List.getElem?_eq_getElem hlt, List.findIdx_getElem, ?_⟩
  rw [List.any_eq_false]
  intro z hz
  obtain ⟨j, hj, rfl⟩ := List.mem_take_iff_getElem.1 hz
  have := List.not_of_lt_findIdx (p := p) (xs := l) (i := j) (by omega)
  simpa using this
end
theorem first_all {f : Nat → Int} : ∀ {n : Nat}, (∀ j, j < n → f j = 0) → firstE f n = 0
 | 0, _ => rfl
 | n + 1, h => by rw [firstE, if_pos (first_all fun j hj => h j (by omega))]; exact h n (by omega)
theorem first_at {f : Nat → Int} {k : Nat} (hz : ∀ j, j < k → f j = 0) (hk : f k ≠ 0) : ∀ {n : Nat}, k < n → firstE f n = f k
 | n + 1, h => by
   rw [firstE]
   rcases Nat.lt_or_ge k n with h1 | h1
   ·rw [first_at hz hk h1, if_neg hk]
   ·obtain rfl : k = n := by omega
    rw [if_pos (first_all hz)]
theorem first_zero {f : Nat → Int} : ∀ {n : Nat}, firstE f n = 0 → ∀ j, j < n → f j = 0
 | n + 1, h, j, hj => by
   rw [firstE] at h
   split at h
   ·rename_i h0
    rcases Nat.lt_or_ge j n with h1 | h1
    ·exact first_zero h0 j h1
    ·obtain rfl : j = n := by omega
     exact h
   ·rename_i h0
    exact absurd h h0
theorem range_bad {f : Nat → Bool} {n k : Nat} (hk : k < n) (hf : f k = false) : (List.range n).all f = false := by
 rw [List.all_eq_false]
 exact ⟨k, List.mem_range.2 hk, by simp [hf]⟩
theorem range_all {f : Nat → Bool} {n : Nat} (h : ∀ j, j < n → f j = true) : (List.range n).all f = true := List.all_eq_true.2 fun j hj => h j (List.mem_range.1 hj)
theorem range_on {f : Nat → Bool} {k : Nat} (h : ∀ j, j < k → f j = true) (hk : f k = true) : ∀ j, j < k + 1 → f j = true := by
 intro j hj
 rcases Nat.lt_succ_iff_lt_or_eq.1 hj with h1 | h1
 ·exact h j h1
 ·exact h1 ▸ hk
theorem all_not {α : Type} {q : α → Bool} {l : List α} : l.any (fun x => !q x) = !l.all q := by
 rw [Bool.eq_iff_iff]
 simp
end Go.Proofs.YtnnhhbjbdmgpiaaGreatDoor.Cf
