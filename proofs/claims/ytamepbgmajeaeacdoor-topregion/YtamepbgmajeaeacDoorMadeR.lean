/- Plain mathematics of chapter 3: made code does what the plain code does, where that keeps to its words. No Go in it. -/
import Derived.Test.YtamepbgmajeaeacDoorMadeP
namespace Go.Proofs.YtamepbgmajeaeacDoor.Cf

/-- The plain machine p, and the made one q in the region 0. -/
structure Sim (l : List Ins) (p q : Mach) : Prop where
  len : q.regs.length = 8
  regs : ∀ j : Nat, j < 4 ∨ 6 < j → q.regs.getD j 0 = p.regs.getD j 0
  base : q.regs.getD 5 0 = 0
  left : q.regs.getD 6 0 = 63
  mem : q.mem = p.mem
  told : q.told = p.told
  back : q.back = p.back.map (place l)
  pc : q.pc = place l p.pc
  ok : MOk p
  size : p.mem.length = 64
/-- What is compared at the end. -/
structure Alike (p q : Mach) : Prop where
  regs : ∀ j : Nat, j < 4 ∨ 6 < j → q.regs.getD j 0 = p.regs.getD j 0
  mem : q.mem = p.mem
  told : q.told = p.told
theorem Sim.alike {l : List Ins} {p q : Mach} (h : Sim l p q) : Alike p q := ⟨h.regs, h.mem, h.told⟩
theorem Sim.rg {l : List Ins} {p q : Mach} (h : Sim l p q) {i : Int} (hi : i < 4 ∨ 6 < i) : q.regs.getD i.toNat 0 = p.regs.getD i.toNat 0 := h.regs _ (by omega)
theorem alu_same {op x y c x' y' : Int} (h1 : x' = x) (h2 : op ≠ 1 → y' = y) : alu op x' y' c = alu op x y c := by
  by_cases h : op = 1
  · unfold alu; rw [if_pos h, if_pos h]
  · rw [h1, h2 h]
/-- A register that the plain code may use is set in both. -/
theorem Sim.setR {l : List Ins} {p q : Mach} (h : Sim l p q) {a v : Int} (h0 : 0 ≤ a) (ha : a < 4 ∨ 6 < a) (h7 : a ≤ 7) (hv : 0 ≤ v ∧ v ≤ 65535) : Sim l (p.setR a v) (q.setR a v) := by
  have hq : a.toNat < q.regs.length := by rw [h.len]; omega
  have hp : a.toNat < p.regs.length := by rw [h.ok.regs]; omega
  refine ⟨by simp [Mach.setR, h.len], fun j hj => ?_, ?_, ?_, h.mem, h.told, h.back, h.pc, h.ok.setR a v hv, h.size⟩
  · show (q.regs.set a.toNat v).getD j 0 = (p.regs.set a.toNat v).getD j 0
    rw [getD_set _ _ _ _ hq, getD_set _ _ _ _ hp, h.regs j hj]
  · show (q.regs.set a.toNat v).getD 5 0 = 0
    rw [getD_set _ _ _ _ hq, if_neg (by omega), h.base]
  · show (q.regs.set a.toNat v).getD 6 0 = 63
    rw [getD_set _ _ _ _ hq, if_neg (by omega), h.left]
/-- Both go on behind the instruction at hand. -/
theorem Sim.go {l : List Ins} {p q : Mach} (h : Sim l p q) {i : Ins} (hi : l[p.pc]? = some i) (hl : l.length ≤ 200) : Sim l ⟨p.regs, p.mem, p.told, p.back, p.pc + 1⟩ ⟨q.regs, q.mem, q.told, q.back, q.pc + wid i⟩ := by
  have hpc : p.pc < l.length := (List.getElem?_eq_some_iff.1 hi).1
  exact ⟨h.len, h.regs, h.base, h.left, h.mem, h.told, h.back, by show q.pc + wid i = place l (p.pc + 1); rw [h.pc, place_next hi],
    ⟨h.ok.regs, h.ok.words, h.ok.mem, h.ok.told, h.ok.toldW, h.ok.back, h.ok.backs, by show p.pc + 1 ≤ 200; omega⟩, h.size⟩
theorem Sim.jump {l : List Ins} {p q : Mach} (h : Sim l p q) (c : Nat) (hc : c ≤ 200) : Sim l ⟨p.regs, p.mem, p.told, p.back, c⟩ ⟨q.regs, q.mem, q.told, q.back, place l c⟩ :=
  ⟨h.len, h.regs, h.base, h.left, h.mem, h.told, h.back, rfl, ⟨h.ok.regs, h.ok.words, h.ok.mem, h.ok.told, h.ok.toldW, h.ok.back, h.ok.backs, hc⟩, h.size⟩
theorem and_small (x : Nat) (h : x < 64) : x &&& 63 = x := by
  rw [show (63 : Nat) = 2 ^ 6 - 1 from rfl, Nat.and_two_pow_sub_one_eq_mod, Nat.mod_eq_of_lt h]
/-- One step of the plain code, and what the made code does for it. -/
def SimStep (l : List Ins) (q : Mach) : Step → Prop
  | .on p' => ∃ n q', n ≤ 3 ∧ (∀ k, runM (madeL l) (k + n) q = runM (madeL l) k q') ∧ Sim l p' q'
  | .fin e p' => e = 3 ∨ ∃ q', (∀ k, runM (madeL l) (k + 1) q = (e, q')) ∧ Alike p' q'
theorem sim_access {l : List Ins} (hf : fault l = 0) (hp : plainB l = true) {p q : Mach} (h : Sim l p q) {i : Ins} (hi : l[p.pc]? = some i) (hl : ldst i = true) : SimStep l q (step l p) := by
  obtain ⟨hz, hlen⟩ := fault_two hf
  obtain ⟨ho, ha, hb, hc, _, _⟩ := chk_parts i (faultIn_mem l hz p.pc i hi)
  obtain ⟨pa, pb, _, _⟩ := (plain_parts hp).2 i (List.mem_of_getElem? hi)
  have hw : wid i = 3 := by unfold wid; rw [hl]; rfl
  have hgo := h.go hi hlen
  have m0 := made_at hi 0 (by omega)
  have m1 := made_at hi 1 (by omega)
  have m2 := made_at hi 2 (by omega)
  rw [← h.pc] at m0 m1 m2
  simp only [tri, hl, if_true] at m0 m1 m2
  simp at m0 m1 m2
  have hx := getD_word h.ok.words i.b.toNat
  have hrb := h.rg pb
  have hra := h.rg pa
  unfold step
  rw [hi]
  simp only
  by_cases hin : (p.regs.getD i.b.toNat 0).toNat < 64
  · -- the word is there
    obtain ⟨x, hxe⟩ : ∃ x : Nat, p.regs.getD i.b.toNat 0 = x := ⟨(p.regs.getD i.b.toNat 0).toNat, by omega⟩
    have hx64 : x < 64 := by omega
    have st0 : step (madeL l) q = .on ⟨q.regs.set 4 x, q.mem, q.told, q.back, q.pc + 1⟩ := by
      unfold step
      rw [m0]
      show Step.on ⟨q.regs.set 4 (andI (q.regs.getD i.b.toNat 0) (q.regs.getD 6 0)), _, _, _, _⟩ = _
      rw [h.left, hrb, hxe, show andI (x : Int) 63 = x by unfold andI; rw [Int.toNat_natCast, show (63 : Int).toNat = 63 from rfl, and_small x hx64]]
    have st1 : step (madeL l) ⟨q.regs.set 4 x, q.mem, q.told, q.back, q.pc + 1⟩ = .on ⟨q.regs.set 4 x, q.mem, q.told, q.back, q.pc + 2⟩ := by
      unfold step
      show (match (madeL l)[q.pc + 1]? with | none => Step.fin 3 _ | some i => exec i _) = _
      rw [m1]
      show Step.on ⟨(q.regs.set 4 (x : Int)).set 4 (orI ((q.regs.set 4 (x : Int)).getD 4 0) ((q.regs.set 4 (x : Int)).getD 5 0)), _, _, _, _⟩ = _
      rw [getD_set _ _ _ _ (by rw [h.len]; omega), getD_set _ _ _ _ (by rw [h.len]; omega), if_pos rfl, if_neg (by omega), h.base, show orI (x : Int) 0 = x by simp [orI], List.set_set]
    have st2 : ∀ k, runM (madeL l) (k + 3) q = runM (madeL l) (k + 1) ⟨q.regs.set 4 x, q.mem, q.told, q.back, q.pc + 2⟩ := fun k => by
      rw [run_on _ (k + 2) _ _ st0, run_on _ (k + 1) _ _ st1]
    -- with At set the machines are still alike
    have hsim : Sim l ⟨p.regs, p.mem, p.told, p.back, p.pc + 1⟩ ⟨q.regs.set 4 x, q.mem, q.told, q.back, q.pc + 3⟩ := by
      rw [hw] at hgo
      refine ⟨by simp [h.len], fun j hj => ?_, ?_, ?_, hgo.mem, hgo.told, hgo.back, hgo.pc, hgo.ok, hgo.size⟩
      · show (q.regs.set 4 (x : Int)).getD j 0 = _
        rw [getD_set _ _ _ _ (by rw [h.len]; omega), if_neg (by omega)]
        exact h.regs j hj
      · show (q.regs.set 4 (x : Int)).getD 5 0 = _
        rw [getD_set _ _ _ _ (by rw [h.len]; omega), if_neg (by omega)]
        exact h.base
      · show (q.regs.set 4 (x : Int)).getD 6 0 = _
        rw [getD_set _ _ _ _ (by rw [h.len]; omega), if_neg (by omega)]
        exact h.left
    have at4 : (q.regs.set 4 (x : Int)).getD 4 0 = x := by rw [getD_set _ _ _ _ (by rw [h.len]; omega), if_pos rfl]
    simp only [ldst, Bool.or_eq_true, decide_eq_true_eq] at hl
    unfold exec
    rw [if_neg (by omega)]
    by_cases h8 : i.op = 8
    · rw [if_pos h8, if_pos (by show (p.regs.getD i.b.toNat 0).toNat < p.mem.length; rw [h.size]; omega)]
      refine ⟨3, _, Nat.le_refl _, fun k => ?_, hsim.setR ha.1 pa ha.2 (getD_word h.ok.mem _)⟩
      rw [st2, run_on _ k _ _ ?_]
      unfold step
      show (match (madeL l)[q.pc + 2]? with | none => Step.fin 3 _ | some i => exec i _) = _
      rw [m2]
      unfold exec
      simp only [h8]
      rw [if_neg (by omega), if_pos trivial]
      simp only [Mach.rg, show (4 : Int).toNat = 4 from rfl, at4]
      rw [if_pos (by rw [h.mem, h.size]; simpa using hx64), hxe, h.mem]
    · have h9 : i.op = 9 := by omega
      rw [if_neg h8, if_pos h9, if_pos (by show (p.regs.getD i.b.toNat 0).toNat < p.mem.length; rw [h.size]; omega)]
      refine ⟨3, ⟨q.regs.set 4 x, q.mem.set x (q.regs.getD i.a.toNat 0), q.told, q.back, q.pc + 3⟩, Nat.le_refl _, fun k => ?_, ?_⟩
      · rw [st2, run_on _ k _ _ ?_]
        unfold step
        show (match (madeL l)[q.pc + 2]? with | none => Step.fin 3 _ | some i => exec i _) = _
        rw [m2]
        unfold exec
        simp only [h9]
        rw [if_neg (by omega), if_neg (by omega), if_pos trivial]
        simp only [Mach.rg, show (4 : Int).toNat = 4 from rfl, at4]
        rw [if_pos (by rw [h.mem, h.size]; simpa using hx64), Int.toNat_natCast, getD_set _ _ _ _ (by rw [h.len]; omega), if_neg (by omega)]
      · refine ⟨hsim.len, hsim.regs, hsim.base, hsim.left, ?_, hsim.told, hsim.back, hsim.pc, ⟨hsim.ok.regs, hsim.ok.words, fun u hu => mem_set h.ok.mem (getD_word h.ok.words _) hu, hsim.ok.told, hsim.ok.toldW, hsim.ok.back, hsim.ok.backs, hsim.ok.pc⟩, by simp [h.size]⟩
        show q.mem.set x (q.regs.getD i.a.toNat 0) = p.mem.set (p.regs.getD i.b.toNat 0).toNat (p.regs.getD i.a.toNat 0)
        rw [h.mem, hra, hxe, Int.toNat_natCast]
  · -- a word that is not there: the plain code faults
    simp only [ldst, Bool.or_eq_true, decide_eq_true_eq] at hl
    unfold exec
    rw [if_neg (by omega)]
    by_cases h8 : i.op = 8
    · rw [if_pos h8, if_neg (by show ¬ (p.regs.getD i.b.toNat 0).toNat < p.mem.length; rw [h.size]; omega)]
      exact .inl rfl
    · rw [if_neg h8, if_pos (by omega), if_neg (by show ¬ (p.regs.getD i.b.toNat 0).toNat < p.mem.length; rw [h.size]; omega)]
      exact .inl rfl
theorem sim_other {l : List Ins} (hf : fault l = 0) (hp : plainB l = true) {p q : Mach} (h : Sim l p q) {i : Ins} (hi : l[p.pc]? = some i) (hl : ldst i = false) : SimStep l q (step l p) := by
  obtain ⟨hz, hlen⟩ := fault_two hf
  obtain ⟨ho, ha, hb, hc, hj, _⟩ := chk_parts i (faultIn_mem l hz p.pc i hi)
  obtain ⟨pa, pb, pc, _⟩ := (plain_parts hp).2 i (List.mem_of_getElem? hi)
  have hw : wid i = 1 := by unfold wid; rw [hl]; rfl
  have hgo := h.go hi hlen
  rw [hw] at hgo
  have m0 := made_at hi 0 (by omega)
  rw [Nat.add_zero, ← h.pc] at m0
  unfold tri at m0
  rw [if_neg (by rw [hl]; decide)] at m0
  have hra := h.rg pa
  have hrb := h.rg pb
  have hne : i.op ≠ 8 ∧ i.op ≠ 9 := by simpa [ldst] using hl
  have n8 := hne.1
  have n9 := hne.2
  unfold step
  rw [hi]
  simp only
  unfold exec
  by_cases h7 : i.op ≤ 7
  · rw [if_pos h7]
    rw [if_neg (by simp [jumpsB]; omega)] at m0
    have hs : step (madeL l) q = .on (Mach.setR ⟨q.regs, q.mem, q.told, q.back, q.pc + 1⟩ i.a (alu i.op (Mach.rg ⟨p.regs, p.mem, p.told, p.back, p.pc + 1⟩ i.b) (Mach.rg ⟨p.regs, p.mem, p.told, p.back, p.pc + 1⟩ i.c) i.c)) := by
      unfold step
      rw [m0]
      simp only [List.getElem?_cons_zero]
      unfold exec
      rw [if_pos h7]
      congr 2
      refine alu_same hrb (fun h1 => ?_)
      exact h.rg (pc ⟨by omega, h7⟩)
    exact ⟨1, _, by omega, fun k => run_on _ k _ _ hs, hgo.setR ha.1 pa ha.2 (alu_word (getD_word h.ok.words _) (getD_word h.ok.words _) (fun _ => hc))⟩
  · rw [if_neg h7, if_neg n8, if_neg n9]
    by_cases h10 : i.op = 10
    · rw [if_pos h10]
      rw [if_pos (by simp [jumpsB, h10])] at m0
      refine ⟨1, _, by omega, fun k => run_on _ k _ ⟨q.regs, q.mem, q.told, q.back, place l i.c.toNat⟩ ?_, h.jump _ (by have := hj (by omega); omega)⟩
      unfold step
      rw [m0]
      simp only [List.getElem?_cons_zero]
      unfold exec
      simp [h10]
    · rw [if_neg h10]
      by_cases h11 : i.op = 11
      · rw [if_pos h11]
        rw [if_pos (by simp [jumpsB, h11])] at m0
        by_cases hz0 : p.regs.getD i.a.toNat 0 = 0
        · rw [if_pos (by exact hz0)]
          refine ⟨1, _, by omega, fun k => run_on _ k _ ⟨q.regs, q.mem, q.told, q.back, place l i.c.toNat⟩ ?_, h.jump _ (by have := hj (by omega); omega)⟩
          unfold step
          rw [m0]
          simp only [List.getElem?_cons_zero]
          unfold exec
          simp [h11, Mach.rg]
          rw [← List.getD_eq_getElem?_getD, hra]
          exact fun hx => absurd hz0 hx
        · rw [if_neg (by exact hz0)]
          refine ⟨1, _, by omega, fun k => run_on _ k _ ⟨q.regs, q.mem, q.told, q.back, q.pc + 1⟩ ?_, hgo⟩
          unfold step
          rw [m0]
          simp only [List.getElem?_cons_zero]
          unfold exec
          simp [h11, Mach.rg]
          rw [← List.getD_eq_getElem?_getD, hra]
          exact fun hx => absurd hx hz0
      · rw [if_neg h11]
        by_cases h12 : i.op = 12
        · rw [if_pos h12]
          rw [if_pos (by simp [jumpsB, h12])] at m0
          have hbl : q.back.length = p.back.length := by rw [h.back]; simp
          by_cases hd : 16 ≤ p.back.length
          · rw [if_pos (by exact hd)]
            refine .inr ⟨⟨q.regs, q.mem, q.told, q.back, q.pc + 1⟩, fun k => run_fin _ k _ _ _ ?_, hgo.alike⟩
            unfold step
            rw [m0]
            simp only [List.getElem?_cons_zero]
            unfold exec
            simp [h12, hbl, hd]
          · rw [if_neg (by exact hd)]
            refine ⟨1, ⟨q.regs, q.mem, q.told, q.back ++ [q.pc + 1], place l i.c.toNat⟩, by omega, fun k => run_on _ k _ _ ?_, ?_⟩
            · unfold step
              rw [m0]
              simp only [List.getElem?_cons_zero]
              unfold exec
              simp [h12, hbl]
              omega
            · have hpc : p.pc < l.length := (List.getElem?_eq_some_iff.1 hi).1
              refine ⟨h.len, h.regs, h.base, h.left, h.mem, h.told, ?_, rfl, ⟨h.ok.regs, h.ok.words, h.ok.mem, h.ok.told, h.ok.toldW, by simp; omega, fun b hb' => ?_, by show i.c.toNat ≤ 200; have := hj (by omega); omega⟩, h.size⟩
              · show q.back ++ [q.pc + 1] = (p.back ++ [p.pc + 1]).map (place l)
                rw [h.back, List.map_append, h.pc, List.map_cons, place_next hi, hw]
                rfl
              · rcases List.mem_append.1 hb' with h1 | h1
                · exact h.ok.backs b h1
                · simp at h1
                  omega
        · rw [if_neg h12]
          rw [if_neg (by simp [jumpsB]; omega)] at m0
          by_cases h13 : i.op = 13
          · rw [if_pos h13]
            by_cases hn : p.back = []
            · rw [if_pos (by exact hn)]
              refine .inr ⟨⟨q.regs, q.mem, q.told, q.back, q.pc + 1⟩, fun k => run_fin _ k _ _ _ ?_, hgo.alike⟩
              unfold step
              rw [m0]
              simp only [List.getElem?_cons_zero]
              unfold exec
              simp [h13, h.back, hn]
            · rw [if_neg (by exact hn)]
              refine ⟨1, ⟨q.regs, q.mem, q.told, q.back.dropLast, q.back.getLastD 0⟩, by omega, fun k => run_on _ k _ _ ?_, ?_⟩
              · unfold step
                rw [m0]
                simp only [List.getElem?_cons_zero]
                unfold exec
                simp [h13, h.back, hn]
              · have hbl := h.ok.back
                refine ⟨h.len, h.regs, h.base, h.left, h.mem, h.told, ?_, ?_, ⟨h.ok.regs, h.ok.words, h.ok.mem, h.ok.told, h.ok.toldW, by simp; omega, fun b hb' => h.ok.backs b (List.dropLast_subset _ hb'), ?_⟩, h.size⟩
                · show q.back.dropLast = p.back.dropLast.map (place l)
                  rw [h.back, List.map_dropLast]
                · show q.back.getLastD 0 = place l (p.back.getLastD 0)
                  rw [h.back, List.getLastD_eq_getLast?, List.getLast?_map, List.getLastD_eq_getLast?, List.getLast?_eq_some_getLast hn]
                  rfl
                · show p.back.getLastD 0 ≤ 200
                  rw [List.getLastD_eq_getLast?, List.getLast?_eq_some_getLast hn]
                  exact h.ok.backs _ (List.getLast_mem hn)
          · rw [if_neg h13]
            by_cases h14 : i.op = 14
            · rw [if_pos h14]
              by_cases ht : 100 ≤ p.told.length
              · rw [if_pos (by exact ht)]
                refine .inr ⟨⟨q.regs, q.mem, q.told, q.back, q.pc + 1⟩, fun k => run_fin _ k _ _ _ ?_, hgo.alike⟩
                unfold step
                rw [m0]
                simp only [List.getElem?_cons_zero]
                unfold exec
                simp [h14, h.told, ht]
              · rw [if_neg (by exact ht)]
                refine ⟨1, ⟨q.regs, q.mem, q.told ++ [q.regs.getD i.a.toNat 0], q.back, q.pc + 1⟩, by omega, fun k => run_on _ k _ _ ?_, ?_⟩
                · unfold step
                  rw [m0]
                  simp only [List.getElem?_cons_zero]
                  unfold exec
                  simp [h14, h.told, Mach.rg]
                  omega
                · refine ⟨hgo.len, hgo.regs, hgo.base, hgo.left, hgo.mem, ?_, hgo.back, hgo.pc, ⟨hgo.ok.regs, hgo.ok.words, hgo.ok.mem, by simp; omega, fun v hv => ?_, hgo.ok.back, hgo.ok.backs, hgo.ok.pc⟩, hgo.size⟩
                  · show q.told ++ [q.regs.getD i.a.toNat 0] = p.told ++ [p.regs.getD i.a.toNat 0]
                    rw [h.told, hra]
                  · rcases List.mem_append.1 hv with h1 | h1
                    · exact h.ok.toldW v h1
                    · simp only [List.mem_singleton] at h1
                      rw [h1]
                      exact getD_word h.ok.words _
            · rw [if_neg h14]
              refine .inr ⟨⟨q.regs, q.mem, q.told, q.back, q.pc + 1⟩, fun k => run_fin _ k _ _ _ ?_, hgo.alike⟩
              unfold step
              rw [m0]
              simp only [List.getElem?_cons_zero]
              unfold exec
              rw [if_neg h7, if_neg n8, if_neg n9, if_neg h10, if_neg h11, if_neg h12, if_neg h13, if_neg h14]
/-- A run of the plain code that neither faults nor is spent: the made code comes to the same. -/
theorem run_sim {l : List Ins} (hf : fault l = 0) (hp : plainB l = true) : ∀ (n : Nat) (p q : Mach), Sim l p q → (runM l n p).1 ≠ 2 → (runM l n p).1 ≠ 3 → ∀ k, 3 * n ≤ k → (runM (madeL l) k q).1 = (runM l n p).1 ∧ Alike (runM l n p).2 (runM (madeL l) k q).2
  | 0, p, q, _, h2, _, _, _ => absurd rfl h2
  | n + 1, p, q, h, h2, h3, k, hk => by
    have hst : SimStep l q (step l p) := by
      cases hi : l[p.pc]? with
      | none =>
        unfold step
        rw [hi]
        exact .inl rfl
      | some i =>
        cases hl : ldst i with
        | true => exact sim_access hf hp h hi hl
        | false => exact sim_other hf hp h hi hl
    rw [runM] at h2 h3 ⊢
    cases hs : step l p with
    | on p' =>
      rw [hs] at hst h2 h3
      obtain ⟨m, q', hm, hr, hsim⟩ := hst
      obtain ⟨k', rfl⟩ : ∃ k', k = k' + m := ⟨k - m, by omega⟩
      rw [hr]
      exact run_sim hf hp n p' q' hsim h2 h3 k' (by omega)
    | fin e p' =>
      rw [hs] at hst h2 h3
      rcases hst with rfl | ⟨q', hr, hal⟩
      · exact absurd rfl h3
      · obtain ⟨k', rfl⟩ : ∃ k', k = k' + 1 := ⟨k - 1, by omega⟩
        rw [hr]
        exact ⟨rfl, hal⟩
end Go.Proofs.YtamepbgmajeaeacDoor.Cf
