/- Plain mathematics of the whole: two runs of trusted code whose words agree in its region. No Go in it. -/
import Derived.Test.YtamepbgmajeaeacDoorTopQ
namespace Go.Proofs.YtamepbgmajeaeacDoor

/-- A piece of a list. -/
def seg (l : List Int) (a n : Nat) : List Int := (l.drop a).take n
theorem seg_at (l : List Int) (a n j : Nat) : (seg l a n)[j]? = if j < n then l[a + j]? else none := by
  unfold seg
  rw [List.getElem?_take]
  split
  · rw [List.getElem?_drop]
  · rfl
theorem seg_eq {l m : List Int} (hl : l.length = m.length) {a n : Nat} (h : ∀ j, a ≤ j → j < a + n → l.getD j 0 = m.getD j 0) : seg l a n = seg m a n := by
  refine List.ext_getElem? fun j => ?_
  rw [seg_at, seg_at]
  split
  · rename_i hj
    have := h (a + j) (by omega) (by omega)
    rw [List.getD_eq_getElem?_getD, List.getD_eq_getElem?_getD] at this
    rcases Nat.lt_or_ge (a + j) l.length with h1 | h1
    · rw [List.getElem?_eq_getElem h1, List.getElem?_eq_getElem (by omega : a + j < m.length)] at this ⊢
      simpa using this
    · rw [List.getElem?_eq_none h1, List.getElem?_eq_none (by omega)]
  · rfl
/-- y with a piece of x laid over it. -/
def overlay (x y : List Int) (a n : Nat) : List Int := y.take a ++ (seg x a n ++ y.drop (a + n))
theorem seg_len (l : List Int) {a n : Nat} (h : a + n ≤ l.length) : (seg l a n).length = n := by unfold seg; simp; omega
theorem overlay_len {x y : List Int} {a n : Nat} (hx : a + n ≤ x.length) (hy : a + n ≤ y.length) : (overlay x y a n).length = y.length := by
  unfold overlay
  simp only [List.length_append, List.length_take, List.length_drop, seg_len x hx]
  omega
theorem overlay_words {x y : List Int} {a n : Nat} (hx : ∀ v ∈ x, 0 ≤ v ∧ v ≤ 65535) (hy : ∀ v ∈ y, 0 ≤ v ∧ v ≤ 65535) : ∀ v ∈ overlay x y a n, 0 ≤ v ∧ v ≤ 65535 := by
  intro v hv
  unfold overlay seg at hv
  simp only [List.mem_append] at hv
  rcases hv with h | h | h
  · exact hy v (List.mem_of_mem_take h)
  · exact hx v (List.mem_of_mem_drop (List.mem_of_mem_take h))
  · exact hy v (List.mem_of_mem_drop h)
theorem overlay_in {x y : List Int} {a n : Nat} (hx : a + n ≤ x.length) (hy : a + n ≤ y.length) (j : Nat) (h1 : a ≤ j) (h2 : j < a + n) : (overlay x y a n).getD j 0 = x.getD j 0 := by
  unfold overlay
  rw [List.getD_eq_getElem?_getD, List.getD_eq_getElem?_getD, List.getElem?_append_right (by simp; omega), List.getElem?_append_left (by simp [seg_len x hx]; omega), seg_at, if_pos (by simp; omega)]
  congr 2
  simp
  omega
theorem Cf.top_twin {c : List Cf.Ins} (hs : Cf.safeT c = 0) (r : Nat) (n : Int) (hr : r ≤ 15) (hn : 0 ≤ n ∧ n ≤ 65535) (x y : List Int) (hx : x.length = 1024) (hy : y.length = 1024) (hxw : ∀ v ∈ x, 0 ≤ v ∧ v ≤ 65535) (hyw : ∀ v ∈ y, 0 ≤ v ∧ v ≤ 65535) :
    ∃ z s0 s1 s2 s3 s4 s5 s6 s7 t mm mm2, Cf.runT c [n, 0, 0, 0, 64 * (r : Int), 64 * (r : Int), 63, 0] x 3000 = ⟨z, [s0, s1, s2, s3, s4, s5, s6, s7], t, mm, 0⟩ ∧
      Cf.runT c [n, 0, 0, 0, 64 * (r : Int), 64 * (r : Int), 63, 0] (overlay x y (64 * r) 64) 3000 = ⟨z, [s0, s1, s2, s3, s4, s5, s6, s7], t, mm2, 0⟩ ∧ t.length ≤ 100 ∧ mm.length = 1024 ∧ mm2.length = 1024 ∧
      seg mm 0 (64 * r) = seg x 0 (64 * r) ∧ seg mm (64 * r + 64) (1024 - (64 * r + 64)) = seg x (64 * r + 64) (1024 - (64 * r + 64)) ∧
      seg mm2 0 (64 * r) = seg (overlay x y (64 * r) 64) 0 (64 * r) ∧ seg mm2 (64 * r + 64) (1024 - (64 * r + 64)) = seg (overlay x y (64 * r) 64) (64 * r + 64) (1024 - (64 * r + 64)) ∧
      seg mm (64 * r) 64 = seg mm2 (64 * r) 64 := by
  have hol := overlay_len (x := x) (y := y) (a := 64 * r) (n := 64) (by omega) (by omega)
  have how := overlay_words (a := 64 * r) (n := 64) hxw hyw
  have hoi := overlay_in (x := x) (y := y) (a := 64 * r) (n := 64) (by omega) (by omega)
  generalize overlay x y (64 * r) 64 = y' at hol how hoi ⊢
  have hy' : y'.length = 1024 := by omega
  obtain ⟨z, s0, s1, s2, s3, s4, s5, s6, s7, t, mm, e1, _, _, ht, hmm, hr1, ho1⟩ := Cf.top_run hs r n hr hn x hx hxw
  obtain ⟨z', s0', s1', s2', s3', s4', s5', s6', s7', t', mm2, e2, _, _, _, hmm2, hr2, ho2⟩ := Cf.top_run hs r n hr hn y' hy' how
  have htw : Cf.Twin r ⟨Cf.inRegs r n, x, [], [], 0⟩ ⟨Cf.inRegs r n, y', [], [], 0⟩ := ⟨rfl, rfl, rfl, rfl, fun j h1 h2 => (hoi j h1 h2).symm⟩
  obtain ⟨k1, k2⟩ := Cf.run_twin hs hr 3000 _ _ (Cf.start_inv hs r n hr hn x hx) (Cf.start_inv hs r n hr hn y' hy') (Cf.start_ok r n hr hn x hxw) (Cf.start_ok r n hr hn y' how) htw
  have c1 := k2.regs
  have c2 := k2.told
  have c3 := k2.mem
  rw [hr1, hr2] at k1 c1 c2 c3
  dsimp only at k1 c1 c2 c3
  simp only [List.cons.injEq, and_true] at c1
  obtain ⟨rfl, rfl, rfl, rfl, rfl, rfl, rfl, rfl⟩ := c1
  subst k1
  subst c2
  refine ⟨z, s0, s1, s2, s3, s4, s5, s6, s7, t, mm, mm2, e1, e2, ht, hmm, hmm2, ?_, ?_, ?_, ?_, ?_⟩
  · exact seg_eq (by omega) fun j _ h2 => ho1 j (.inl (by omega))
  · exact seg_eq (by omega) fun j h1 _ => ho1 j (.inr h1)
  · exact seg_eq (by omega) fun j _ h2 => ho2 j (.inl (by omega))
  · exact seg_eq (by omega) fun j h1 _ => ho2 j (.inr h1)
  · exact seg_eq (by omega) fun j h1 h2 => c3 j h1 h2
end Go.Proofs.YtamepbgmajeaeacDoor
