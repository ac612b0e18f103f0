/- Arguments opened, of any program: slices of whatever elements, fields of structs, by their cells. -/
import Derived.Test.YtnnhhbjbdmgpiaaDoorMachW
import Derived.Test.YtnnhhbjbdmgpiaaDoorKit
import Derived.SizedLaws
namespace Go.Proofs.YtnnhhbjbdmgpiaaDoor
set_option maxRecDepth 100000
open Go.ChangeShapes Go.WideShapes Go.ChangeAt Go.RowKit Go.Deep

theorem weightsAll_mem {H : Type} {P : Program} {e : TypeId} : ∀ {l : List (DataW H)} {d : DataW H} {n : Nat}, d ∈ l → n ∈ d.weights P e → n ∈ DataW.weightsAll P e l
  | d0 :: l, d, n, hd, hn => by
    simp only [DataW.weightsAll, List.mem_append]
    rcases List.mem_cons.1 hd with rfl | h
    · exact .inl hn
    · exact .inr (weightsAll_mem h hn)
theorem part_weights {H : Type} {P : Program} {t : TypeId} {fs : Array Field} (ht : P.underlying t = some (.struct fs)) {xs : List (DataW H)} {i : Nat} {f : Field} {d : DataW H} (hf : fs[i]? = some f) (hd : xs[i]? = some d) :
    ∀ n ∈ d.weights P f.type, n ∈ (DataW.agg xs).weights P t := by
  intro n hn
  simp only [DataW.weights, ht]
  exact DataW.weights_mem_each (by simp [hf]) hd n hn
section
variable {H : Type} {enc : TypeId × Value → H} {P : Program} {w : World}
/-- What a datum of a call weighs at most. -/
def Light (P : Program) (t : TypeId) (N : Nat) (d : DataW H) : Prop := ∀ n ∈ d.weights P t, n ≤ N
theorem light_arg {ts : List TypeId} {ds : List (DataW H)} (h : (DataW.weightsEach P ts ds).all (· ≤ reachBytes) = true) {j : Nat} {t : TypeId} {d : DataW H} (ht : ts[j]? = some t) (hd : ds[j]? = some d) : Light P t reachBytes d := by
  intro n hn
  have := List.all_eq_true.1 h _ (DataW.weights_mem_each ht hd n hn)
  simpa using this
/-- A struct's field of one cell. -/
theorem open_field {t : TypeId} {fs : Array Field} {fuel : Nat} {cs : List Value} {x : DataW H × List MemPlace} {N : Nat} (ht : P.underlying t = some (.struct fs)) (h : DataW.trod enc P w 0 (fun _ => true) true fuel t cs = some x) (hN : Light P t N x.1)
    (i : Nat) (f : Field) (hf : fs[i]? = some f) : ∃ n y, DataW.trod enc P w 0 (fun _ => true) true n f.type ((cs.drop f.offset).take (P.cellsOf f.type)) = some y ∧ Light P f.type N y.1 := by
  obtain ⟨xs, n, _, rfl, _, hxl, hg⟩ := DataW.trod_struct ht h
  have hi : i < xs.length := by rw [hxl]; exact (Array.getElem?_eq_some_iff.1 hf).1
  have hys : xs[i]? = some xs[i] := List.getElem?_eq_getElem hi
  exact ⟨n, xs[i], (hg i f hf).trans hys, fun k hk => hN k (part_weights ht hf (by simp [hys]) k hk)⟩
theorem open_cell {t : TypeId} {fs : Array Field} {fuel : Nat} {cs : List Value} {x : DataW H × List MemPlace} {N : Nat} (ht : P.underlying t = some (.struct fs)) (h : DataW.trod enc P w 0 (fun _ => true) true fuel t cs = some x) (hN : Light P t N x.1)
    (i : Nat) {ft : TypeId} {off : Nat} (hf : (fs[i]?).map (fun f => (f.type, f.offset)) = some (ft, off)) (hc : P.cellsOf ft = 1) {v : Value} (hv : cs[off]? = some v) : ∃ n y, DataW.trod enc P w 0 (fun _ => true) true n ft [v] = some y ∧ Light P ft N y.1 := by
  rw [Option.map_eq_some_iff] at hf
  obtain ⟨f, hf, he⟩ := hf
  simp only [Prod.mk.injEq] at he
  obtain ⟨rfl, rfl⟩ := he
  obtain ⟨n, y, h1, h2⟩ := open_field ht h hN i f hf
  refine ⟨n, y, ?_, h2⟩
  rw [hc] at h1
  rw [← h1]
  congr 1
  obtain ⟨hlt, rfl⟩ := List.getElem?_eq_some_iff.1 hv
  rw [List.drop_eq_getElem_cons hlt]
  rfl
theorem open_len {t : TypeId} {fs : Array Field} {fuel : Nat} {cs : List Value} {x : DataW H × List MemPlace} (ht : P.underlying t = some (.struct fs)) (h : DataW.trod enc P w 0 (fun _ => true) true fuel t cs = some x) : cs.length = P.cellsOf t := by
  obtain ⟨xs, n, _, _, hl, _⟩ := DataW.trod_struct ht h
  exact hl
theorem open_text {t : TypeId} {fuel : Nat} {cs : List Value} {x : DataW H × List MemPlace} {N : Nat} (ht : P.underlying t = some .string) (h : DataW.trod enc P w 0 (fun _ => true) true fuel t cs = some x) (hN : Light P t N x.1) :
    ∃ s : List UInt8, cs = [.string ⟨s.toArray⟩] ∧ s.length ≤ maxLen ∧ s.length ≤ N := by
  obtain ⟨s, rfl, rfl, hs⟩ := DataW.trod_string ht h
  obtain ⟨⟨sl⟩⟩ := s
  refine ⟨sl, rfl, by simpa [ByteArray.size] using hs, hN _ ?_⟩
  simp [DataW.weights]
theorem open_num {t : TypeId} {fuel : Nat} {cs : List Value} {x : DataW H × List MemPlace} (ht : P.underlying t = some (.int .i64)) (h : DataW.trod enc P w 0 (fun _ => true) true fuel t cs = some x) :
    ∃ z : Int, cs = [.int .i64 z] ∧ (Lit.int .i64 z).wf = true := by
  obtain ⟨z, rfl, _, hz⟩ := DataW.trod_int ht h
  exact ⟨z, rfl, hz⟩
theorem open_list {α : Type} (Q : α → List Value → Prop) {t e : TypeId} {fuel : Nat} {cs : List Value} {x : DataW H × List MemPlace} {N : Nat} (ht : P.underlying t = some (.slice e)) (hpos : 0 < P.cellsOf e)
    (h : DataW.trod enc P w 0 (fun _ => true) true fuel t cs = some x) (hN : Light P t N x.1)
    (hel : ∀ n cs' (y : DataW H × List MemPlace), DataW.trod enc P w 0 (fun _ => true) true n e cs' = some y → Light P e N y.1 → ∃ a, Q a cs') :
    ∃ (A : Option Addr) (cap : Nat) (l : List α), cs = [.slice A l.length cap] ∧ (l.length ≤ maxLen ∧ l.length ≤ cap) ∧ l.length * P.bytesOf e ≤ N ∧ (l = [] ∨ ∃ b off, A = some ⟨b, off, none⟩ ∧ b < w.heap.size ∧
      ∀ k a, l[k]? = some a → ∃ cs', Q a cs' ∧ cs'.length = P.cellsOf e ∧ ∀ j u, cs'[j]? = some u → w.cell? ⟨b, off + k * P.cellsOf e + j, none⟩ = some u) := by
  rcases DataW.trod_slice ht h with ⟨rfl, _⟩ | ⟨ad, len, cap, elems, rest, n, _, rfl, rfl, _, hl, hm, hlen, hat, _, _⟩
  · exact ⟨none, 0, [], rfl, ⟨by simp, by simp⟩, by simp, .inl rfl⟩
  have hby : (elems.length + rest.length) * P.bytesOf e ≤ N := hN _ (by simp [DataW.weights, ht])
  have hone : ∀ i, i < len → ∃ a cs', Q a cs' ∧ cs'.length = P.cellsOf e ∧ ∀ j u, cs'[j]? = some u → w.cell? (ad.add (i * P.cellsOf e + j)) = some u := by
    intro i hi
    have h1 := hat i hi
    have hys : elems[i]? = some (elems[i]'(by omega)) := List.getElem?_eq_getElem (by omega)
    rw [hys, Option.bind_eq_some_iff] at h1
    obtain ⟨cs', hc, h2⟩ := h1
    obtain ⟨a, ha⟩ := hel n cs' _ h2 (fun k hk => hN k (by
      simp only [DataW.weights, ht, List.mem_cons, List.mem_append]
      exact .inr (.inl (weightsAll_mem (List.mem_map_of_mem (List.getElem_mem (by omega))) hk))))
    obtain ⟨_, hcl, hcell⟩ := World.cells?_some hc
    refine ⟨a, cs', ha, hcl, fun j u hu => ?_⟩
    have hj : j < P.cellsOf e := by rw [← hcl]; exact (List.getElem?_eq_some_iff.1 hu).1
    rw [← Go.Deep.add_add, hcell j hj, hu]
  have hex : ∀ k, k ≤ len → ∃ l : List α, l.length = k ∧ ∀ i a, l[i]? = some a → ∃ cs', Q a cs' ∧ cs'.length = P.cellsOf e ∧ ∀ j u, cs'[j]? = some u → w.cell? (ad.add (i * P.cellsOf e + j)) = some u := by
    intro k
    induction k with
    | zero => intro _; exact ⟨[], rfl, fun i a ha => by simp at ha⟩
    | succ k ih =>
      intro hk
      obtain ⟨l, hll, hall⟩ := ih (by omega)
      obtain ⟨a, ha⟩ := hone k (by omega)
      refine ⟨l ++ [a], by simp [hll], fun i y hy => ?_⟩
      rw [List.getElem?_append] at hy
      split at hy
      · exact hall i y hy
      · have h0 : i - l.length = 0 := by
          rcases Nat.eq_zero_or_pos (i - l.length) with h | h
          · exact h
          · rw [List.getElem?_eq_none (by simp; omega)] at hy; cases hy
        rw [h0] at hy
        simp at hy
        subst hy
        have : i = k := by omega
        subst this
        exact ha
  obtain ⟨l, rfl, hall⟩ := hex len (Nat.le_refl _)
  refine ⟨some ad, cap, l, rfl, ⟨by omega, by omega⟩, Nat.le_trans (Nat.mul_le_mul_right _ (by omega)) hby, ?_⟩
  cases l with
  | nil => exact .inl rfl
  | cons a l =>
    obtain ⟨cs0, _, hcl0, hc0⟩ := hall 0 a rfl
    have h0 := hc0 0 (cs0[0]'(by omega)) (List.getElem?_eq_getElem (by omega))
    obtain ⟨b, off, spot⟩ := ad
    have hspot : spot = none := by simpa [Addr.add] using World.cell?_spot h0
    subst hspot
    refine .inr ⟨b, off, rfl, ?_, fun k y hy => ?_⟩
    · have := lt_of_cell h0
      simpa [Addr.add] using this
    · obtain ⟨cs', hq, hcl, hc⟩ := hall k y hy
      refine ⟨cs', hq, hcl, fun j u hu => ?_⟩
      have := hc j u hu
      rw [Go.WideShapes.add_plain] at this
      rwa [Nat.add_assoc]
/-- Elements that are just their cells. -/
theorem open_rd {α : Type} {sz : Nat} (en : α → List Value) {t e : TypeId} {fuel : Nat} {cs : List Value} {x : DataW H × List MemPlace} {N : Nat} (ht : P.underlying t = some (.slice e)) (hsz : P.cellsOf e = sz) (hpos : 0 < sz)
    (h : DataW.trod enc P w 0 (fun _ => true) true fuel t cs = some x) (hN : Light P t N x.1)
    (hel : ∀ n cs' (y : DataW H × List MemPlace), DataW.trod enc P w 0 (fun _ => true) true n e cs' = some y → Light P e N y.1 → ∃ a, cs' = en a) :
    ∃ (A : Option Addr) (cap : Nat) (l : List α), cs = [.slice A l.length cap] ∧ l.length ≤ maxLen ∧ l.length * P.bytesOf e ≤ N ∧ RdS sz en w A l := by
  obtain ⟨A, cap, l, h1, ⟨h2, _⟩, h3, h4⟩ := open_list (fun a cs' => cs' = en a) ht (by omega) h hN hel
  refine ⟨A, cap, l, h1, h2, h3, ?_⟩
  rcases h4 with h4 | ⟨b, off, hA, hb, hc⟩
  · exact .inl h4
  · refine .inr ⟨b, off, hA, hb, fun k a ha j u hu => ?_⟩
    obtain ⟨cs', rfl, _, hcell⟩ := hc k a ha
    have := hcell j u hu
    rwa [hsz] at this
theorem three_of {cs : List Value} (h : cs.length = 3) : ∃ a b c, cs = [a, b, c] := by
  match cs, h with
  | [a, b, c], _ => exact ⟨a, b, c, rfl⟩
theorem four_of {cs : List Value} (h : cs.length = 4) : ∃ a b c d, cs = [a, b, c, d] := by
  match cs, h with
  | [a, b, c, d], _ => exact ⟨a, b, c, d, rfl⟩
theorem open_rd_ins {t e : TypeId} {fuel : Nat} {cs : List Value} {x : DataW H × List MemPlace} {N : Nat} (ht : P.underlying t = some (.slice e)) (h4 : fourInts P e = true)
    (h : DataW.trod enc P w 0 (fun _ => true) true fuel t cs = some x) (hN : Light P t N x.1) :
    ∃ (A : Option Addr) (cap : Nat) (l : List Cf.Ins), cs = [.slice A l.length cap] ∧ l.length ≤ maxLen ∧ l.length * P.bytesOf e ≤ N ∧ Codes w A l := by
  obtain ⟨fs, he, hn, hC, hf⟩ := fourInts_of h4
  refine open_rd encI ht hC (by omega) h hN fun n cs' y hy hNy => ?_
  have hl := open_len he hy
  have one : ∀ j, j < 4 → ∃ z : Int, cs'[j]? = some (.int .i64 z) := by
    intro j hj
    have hj' := hf j hj
    rw [Option.map_eq_some_iff] at hj'
    obtain ⟨f, hfj, hfe⟩ := hj'
    simp only [Prod.mk.injEq] at hfe
    obtain ⟨ho, hu, hk⟩ := hfe
    obtain ⟨n', y', h1, _⟩ := open_field he hy hNy j f hfj
    rw [ho, hk] at h1
    obtain ⟨z, hz, _⟩ := open_num hu h1
    refine ⟨z, ?_⟩
    have h0 := congrArg (·[0]?) hz
    simpa [List.getElem?_drop] using h0
  rw [hC] at hl
  obtain ⟨c0, c1, c2, c3, rfl⟩ := four_of hl
  obtain ⟨z0, e0⟩ := one 0 (by omega)
  obtain ⟨z1, e1⟩ := one 1 (by omega)
  obtain ⟨z2, e2⟩ := one 2 (by omega)
  obtain ⟨z3, e3⟩ := one 3 (by omega)
  simp at e0 e1 e2 e3
  exact ⟨⟨z0, z1, z2, z3⟩, by rw [e0, e1, e2, e3]; rfl⟩
theorem open_rd_nums {t e : TypeId} {fuel : Nat} {cs : List Value} {x : DataW H × List MemPlace} {N : Nat} (ht : P.underlying t = some (.slice e)) (he : P.underlying e = some (.int .i64)) (hce : P.cellsOf e = 1)
    (h : DataW.trod enc P w 0 (fun _ => true) true fuel t cs = some x) (hN : Light P t N x.1) :
    ∃ (A : Option Addr) (cap : Nat) (l : List Int), cs = [.slice A l.length cap] ∧ l.length ≤ maxLen ∧ l.length * P.bytesOf e ≤ N ∧ Ints w A l :=
  open_rd encZ ht hce (by omega) h hN fun n cs' y hy _ => by
    obtain ⟨z, rfl, _⟩ := open_num he hy
    exact ⟨z, rfl⟩
end
end Go.Proofs.YtnnhhbjbdmgpiaaDoor
