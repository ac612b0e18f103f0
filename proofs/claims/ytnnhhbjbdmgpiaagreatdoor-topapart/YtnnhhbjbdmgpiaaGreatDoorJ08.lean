/- Texts of the proof of TopApart: MachW, IntsK, SameJ, MachS, WordW, EqJ. -/
import Derived.Maps.AppendAt
import Derived.Test.YtnnhhbjbdmgpiaaGreatDoorJ05
import Derived.Test.YtnnhhbjbdmgpiaaGreatDoorJ00
/- Blocks known whole, and the machine's state as it lies in memory. -/
namespace Go.Proofs.YtnnhhbjbdmgpiaaGreatDoor
set_option maxRecDepth 100000
open Go.RowKit

/-- A block that is known whole: these cells, none of them shut. -/
def Wb (w : World) (g : Nat) (t : TypeId) (cs : List Value) : Prop := w.heap[g]? = some (.cells cs.toArray t (0, 0))
section
variable {w w' : World} {g : Nat} {t : TypeId} {cs : List Value}
theorem Wb.lt (h : Wb w g t cs) : g < w.heap.size := (Array.getElem?_eq_some_iff.1 h).1
theorem Wb.cell (h : Wb w g t cs) (i : Nat) : w.cell? ⟨g, i, none⟩ = cs[i]? := by
  unfold Wb at h
  simp [World.cell?, h]
theorem Wb.open_ (h : Wb w g t cs) (i : Nat) : w.frozen? ⟨g, i, none⟩ = false := by
  unfold Wb at h
  simp [World.frozen?, h]
theorem Wb.new (w : World) (t : TypeId) (cs : List Value) : Wb (w.alloc (.cells cs.toArray t)) w.heap.size t cs := heap_alloc_new w _
theorem Wb.alloc (h : Wb w g t cs) (o : Obj) : Wb (w.alloc o) g t cs := (Below.heap_alloc w o g h.lt).trans h
theorem Wb.put (h : Wb w g t cs) (i : Nat) (u : Value) : Wb (w.setCell ⟨g, i, none⟩ u) g t (cs.set i u) := by
  unfold Wb at h ⊢
  simp [World.setCell, Array.getElem?_modify, h]
theorem Wb.off_ (h : Wb w g t cs) {p : Addr} (hp : g ≠ p.block) (u : Value) : Wb (w.setCell p u) g t cs := (Below.heap_setCell w p u g hp).trans h
theorem Wb.below {B : Nat} (h : Wb w g t cs) (hb : Below B w w') (hg : g < B) : Wb w' g t cs := (hb.block g hg).trans h
theorem Wb.grown {row : Option Nat} (h : Wb w g t cs) (hb : w.grownBy w' row) (hg : row ≠ some g) : Wb w' g t cs := (hb.block g h.lt (Ne.symm hg)).trans h
theorem Wb.draw (h : Wb w g t cs) (n : Nat) : Wb (w.drewN n) g t cs := h
theorem Wb.other {g' : Nat} {t' : TypeId} {cs' : List Value} (h : Wb w g t cs) (h' : Wb w g' t' cs') (hne : t ≠ t') : g ≠ g' := by
  intro he
  subst he
  have h2 := Option.some.inj (Eq.trans (Eq.symm h) h')
  injection h2 with _ ht
  exact hne ht
/-- A row that the call owns is no block of another element type. -/
theorem own_off {base : Nat} {e : TypeId} {size n : Nat} {v : Value} {xs : List Value} (h : w.ownsRow base e size v n xs) (hg : Wb w g t cs) (hne : e ≠ t) : v.ownBlock ≠ some g := by
  rcases h.2 with ⟨rfl, _⟩ | ⟨g', cap, cur, rfl, _, hh, _⟩
  · simp [Value.ownBlock]
  · intro he
    simp [Value.ownBlock] at he
    subst he
    have h2 := Option.some.inj (Eq.trans (Eq.symm hh) hg)
    injection h2 with _ ht
    exact hne ht
theorem own_setCell {base : Nat} {e : TypeId} {size n : Nat} {v : Value} {xs : List Value} (h : w.ownsRow base e size v n xs) {p : Addr} (hp : v.ownBlock ≠ some p.block) (u : Value) : (w.setCell p u).ownsRow base e size v n xs := by
  refine ⟨h.1, ?_⟩
  rcases h.2 with h2 | ⟨g', cap, cur, rfl, hb, hh, r⟩
  · exact .inl h2
  · exact .inr ⟨g', cap, cur, rfl, hb, (Below.heap_setCell w p u g' (fun he => hp (by simp [Value.ownBlock, he]))).trans hh, r⟩
theorem own_draw {base : Nat} {e : TypeId} {size n : Nat} {v : Value} {xs : List Value} (h : w.ownsRow base e size v n xs) (k : Nat) : (w.drewN k).ownsRow base e size v n xs := h
end

/-- Two slices that share no block. -/
def Apart (a b : Value) : Prop := ∀ k, a.ownBlock = some k → b.ownBlock ≠ some k
theorem Apart.symm {a b : Value} (h : Apart a b) : Apart b a := fun k hb ha => h k ha hb
theorem Apart.nil (b : Value) : Apart (.slice none 0 0) b := fun k h => by cases h
/-- A row that was appended to is still apart from another one that lay there before. -/
theorem Apart.grown {w : World} {base : Nat} {e : TypeId} {size n : Nat} {a a' b : Value} {xs : List Value} (h : Apart a b) (hb : w.ownsRow base e size b n xs) (ha : a'.ownBlock = a.ownBlock ∨ ∃ k, a'.ownBlock = some k ∧ w.heap.size ≤ k) : Apart a' b := by
  intro k hk hbk
  rcases ha with ha | ⟨j, hj, hle⟩
  · exact h k (ha ▸ hk) hbk
  · rw [hj] at hk
    cases hk
    have := (hb.lt _ hbk).2
    omega

abbrev tInt : TypeId := 3
def encZ (z : Int) : List Value := [.int .i64 z]
def encN (z : Nat) : List Value := [.int .i64 (z : Int)]
theorem encZ_len (z : Int) : (encZ z).length = 1 := rfl
def Ints (w : World) (A : Option Addr) (l : List Int) : Prop := RdS 1 encZ w A l
theorem Ints.below {w w' : World} {A : Option Addr} {l : List Int} (h : Ints w A l) (hb : Below w.heap.size w w') : Ints w' A l := RdS.below h hb
/-- A block of numbers, read as a slice. -/
theorem Wb.ints {w : World} {g : Nat} {t : TypeId} {l : List Int} (h : Wb w g t (l.map (Value.int .i64))) : Ints w (some ⟨g, 0, none⟩) l :=
  .inr ⟨g, 0, rfl, h.lt, fun k z hz j v hv => by
    cases j with
    | zero =>
      simp [encZ] at hv
      subst hv
      rw [h.cell, List.getElem?_map]
      simp [hz]
    | succ j => simp [encZ] at hv⟩
theorem map_flat (l : List Int) : l.map (Value.int .i64) = l.flatMap encZ := by
  induction l with
  | nil => rfl
  | cons x l ih => simp [encZ, ih]
/-- A row of numbers that the call owns. -/
def Row (w : World) (base : Nat) (v : Value) (l : List Int) : Prop := w.ownsRow base tInt 1 v l.length (l.map (Value.int .i64))
section
variable {w w' : World} {base : Nat} {v : Value} {l : List Int}
theorem Row.form (h : Row w base v l) : ∃ A cap, v = .slice A l.length cap := own_form h
theorem Row.ints {A : Option Addr} {cap : Nat} (h : Row w base (.slice A l.length cap) l) : Ints w A l := by
  unfold Row at h
  rw [map_flat] at h
  exact own_rd encZ_len h
theorem Row.cells {A : Option Addr} {n cap : Nat} (h : Row w base (.slice A n cap) l) (hl : l ≠ []) : ∃ g, A = some ⟨g, 0, none⟩ ∧ base ≤ g ∧ g < w.heap.size ∧ (∀ i, w.cell? ⟨g, i, none⟩ = none ∨ w.frozen? ⟨g, i, none⟩ = false) ∧ ∀ (i : Nat) (z : Int), l[i]? = some z → w.cell? ⟨g, i, none⟩ = some (.int .i64 z) := by
  rcases h.2 with ⟨_, h0⟩ | ⟨g, cap', cur, hv, hb, hh, hn, hm, hs, ht⟩
  · exact absurd (List.eq_nil_of_length_eq_zero h0) hl
  · injection hv with hA _ _
    refine ⟨g, hA, hb, (Array.getElem?_eq_some_iff.1 hh).1, fun i => .inr (by simp [World.frozen?, hh]), fun i z hz => ?_⟩
    have h1 : (l.map (Value.int .i64))[i]? = some (.int .i64 z) := by simp [hz]
    rw [← ht, List.getElem?_take] at h1
    split at h1
    · simp only [World.cell?, hh]
      rw [← Array.getElem?_toList]
      exact h1
    · cases h1
/-- A store into a row. -/
theorem Row.set {g cap i : Nat} {n : Nat} (h : Row w base (.slice (some ⟨g, 0, none⟩) n cap) l) (z : Int) : Row (w.setCell ⟨g, i, none⟩ (.int .i64 z)) base (.slice (some ⟨g, 0, none⟩) n cap) (l.set i z) := by
  refine ⟨by simp, ?_⟩
  rcases h.2 with ⟨h0, _⟩ | ⟨g', cap', cur, hv, hb, hh, hn, hm, hs, ht⟩
  · cases h0
  · injection hv with hA hn' hc
    injection hA with hA
    injection hA with hA
    subst hA
    subst hn'
    refine .inr ⟨g, cap', cur.setIfInBounds i (.int .i64 z), by rw [hc, List.length_set], hb, ?_, by simpa using hn, hm, by simpa using hs, ?_⟩
    · simp [World.setCell, Array.getElem?_modify, hh]
    · rw [Array.toList_setIfInBounds, List.length_set, List.take_set, ht, List.map_set]
theorem Row.alloc (h : Row w base v l) (o : Obj) : Row (w.alloc o) base v l := World.ownsRow.alloc h o
theorem Row.below (h : Row w base v l) (hb : Below w.heap.size w w') : Row w' base v l := own_below h hb
theorem Row.setCell (h : Row w base v l) {p : Addr} (hp : v.ownBlock ≠ some p.block) (u : Value) : Row (w.setCell p u) base v l := own_setCell h hp u
theorem Row.kept {row : Option Nat} (h : Row w base v l) (hg : w.grownBy w' row) (hne : ∀ k, v.ownBlock = some k → row ≠ some k) : Row w' base v l := by
  refine World.ownsRow.kept h hg ?_
  cases hv : v.ownBlock with
  | none => exact .inl rfl
  | some k => exact .inr (Ne.symm (hne k hv))
end
end Go.Proofs.YtnnhhbjbdmgpiaaGreatDoor
/- Slices of numbers: opened; words among them. Of any program. -/
namespace Go.Proofs.YtnnhhbjbdmgpiaaGreatDoor
set_option maxRecDepth 100000
open Go.RowKit

theorem Ints.at_ {w : World} {A : Option Addr} {l : List Int} (h : Ints w A l) (hl : l ≠ []) : ∃ b off, A = some ⟨b, off, none⟩ ∧ b < w.heap.size ∧ ∀ (k : Nat) (z : Int), l[k]? = some z → w.cell? ⟨b, off + k, none⟩ = some (.int .i64 z) := by
  rcases h with h | ⟨b, off, hA, hb, hc⟩
  · exact absurd h hl
  · exact ⟨b, off, hA, hb, fun k z hz => by simpa using hc k z hz 0 _ rfl⟩
theorem all_on (l : List Int) (k : Nat) (z : Int) (hz : l[k]? = some z) (h : (l.take k).all Cf.wordB = true) (hw : Cf.wordB z = true) : (l.take (k + 1)).all Cf.wordB = true := by
  rw [List.take_add_one, hz, List.all_append, h]; simp [hw]
theorem all_bad (l : List Int) (k : Nat) (z : Int) (hz : l[k]? = some z) (hw : Cf.wordB z = false) : l.all Cf.wordB = false := by
  rw [List.all_eq_false]
  exact ⟨z, List.mem_of_getElem? hz, by simp [hw]⟩
end Go.Proofs.YtnnhhbjbdmgpiaaGreatDoor
/- Walks of the law's own helper: two slices of numbers that read as one list are the same. -/
namespace Go.Proofs.YtnnhhbjbdmgpiaaGreatDoor
set_option maxRecDepth 100000
open Go.RowKit

set_option maxHeartbeats 1000000 in
theorem sameInts_same (l : List Int) (A B : Option Addr) (ca cb : Nat) (w : World) (hA : Ints w A l) (hB : Ints w B l) (hm : l.length ≤ maxLen) :
    Calls Tryz.prog 45 #[.slice A l.length ca, .slice B l.length cb] w fun e w' => e = .returned (.bool true) ∧ Below w.heap.size w w' := by
  unfold maxLen at hm
  by_cases hl : l = []
  · subst hl
    go_enter Tryz.func45, Tryz.ntmps45
    go_wp2
    refine wp_loop_rounds 1 ?_
    rw [rounds_succ]
    go_wp2
    go_ret
    exact ⟨rfl, Below.refl _ _⟩
  · obtain ⟨b1, o1, rfl, hb1, hc1⟩ := hA.at_ hl
    obtain ⟨b2, o2, rfl, hb2, hc2⟩ := hB.at_ hl
    have H1 := Lib.hid hc1
    have H2 := Lib.hid hc2
    clear hc1 hc2
    go_enter Tryz.func45, Tryz.ntmps45
    go_wp2
    go_loopw [5] (fun i wr => ∃ k m : Nat, k ≤ l.length ∧ i = .int .i64 k ∧ wr = w.drewN m) (fun i _ => l.length - (intOf i).toNat)
    case atStart => exact ⟨0, 0, by omega, rfl, rfl⟩
    case round =>
      obtain ⟨k, m, hk, rfl, rfl⟩ := hrel
      by_cases hlt : k < l.length
      · obtain ⟨z, hx⟩ : ∃ z, l[k]? = some z := ⟨_, List.getElem?_eq_getElem hlt⟩
        have p0 := H1.out k z hx
        have q0 := H2.out k z hx
        clear hx
        go_wp2_with fail
        go_quiet (fail)
        go_wp2
        go_roundw
        case rel => exact ⟨k + 1, _, by omega, by go_num, rfl⟩
        case measure => simp [intOf]; omega
      · go_wp2
        go_ret
        exact ⟨rfl, below_drewN (Below.refl _ _) m⟩
end Go.Proofs.YtnnhhbjbdmgpiaaGreatDoor
/- The machine's state as it lies in memory: a block with registers and places, and three rows that share nothing. -/
namespace Go.Proofs.YtnnhhbjbdmgpiaaGreatDoor
set_option maxRecDepth 100000
open Go.RowKit

def natI (l : List Nat) : List Int := l.map fun (b : Nat) => (b : Int)
structure St (w : World) (base g : Nat) (t : TypeId) (cs : List Value) (mem told : List Int) (back : List Nat) (vm vt vr : Value) : Prop where
  blk : Wb w g t cs
  lo : base ≤ g
  mem : Row w base vm mem
  told : Row w base vt told
  back : Row w base vr (natI back)
  mt : Apart vm vt
  mr : Apart vm vr
  tr : Apart vt vr
section
variable {w w' : World} {base g : Nat} {t : TypeId} {cs : List Value} {mem told : List Int} {back : List Nat} {vm vt vr : Value}
theorem St.put (h : St w base g t cs mem told back vm vt vr) (ht : tInt ≠ t) (i : Nat) (u : Value) : St (w.setCell ⟨g, i, none⟩ u) base g t (cs.set i u) mem told back vm vt vr :=
  ⟨h.blk.put i u, h.lo, h.mem.setCell (p := ⟨g, i, none⟩) (own_off h.mem h.blk ht) u, h.told.setCell (p := ⟨g, i, none⟩) (own_off h.told h.blk ht) u, h.back.setCell (p := ⟨g, i, none⟩) (own_off h.back h.blk ht) u, h.mt, h.mr, h.tr⟩
theorem St.alloc (h : St w base g t cs mem told back vm vt vr) (o : Obj) : St (w.alloc o) base g t cs mem told back vm vt vr :=
  ⟨h.blk.alloc o, h.lo, h.mem.alloc o, h.told.alloc o, h.back.alloc o, h.mt, h.mr, h.tr⟩
theorem St.draw (h : St w base g t cs mem told back vm vt vr) (n : Nat) : St (w.drewN n) base g t cs mem told back vm vt vr :=
  ⟨h.blk.draw n, h.lo, own_draw h.mem n, own_draw h.told n, own_draw h.back n, h.mt, h.mr, h.tr⟩
theorem St.far (h : St w base g t cs mem told back vm vt vr) (hb : Below w.heap.size w w') : St w' base g t cs mem told back vm vt vr :=
  ⟨h.blk.below hb h.blk.lt, h.lo, h.mem.below hb, h.told.below hb, h.back.below hb, h.mt, h.mr, h.tr⟩
theorem St.memSet {gm n cap i : Nat} (h : St w base g t cs mem told back (.slice (some ⟨gm, 0, none⟩) n cap) vt vr) (ht : tInt ≠ t) (z : Int) :
    St (w.setCell ⟨gm, i, none⟩ (.int .i64 z)) base g t cs (mem.set i z) told back (.slice (some ⟨gm, 0, none⟩) n cap) vt vr := by
  have hg : g ≠ gm := fun he => own_off h.mem h.blk ht (by simp [Value.ownBlock, he])
  exact ⟨h.blk.off_ (p := ⟨gm, i, none⟩) hg _, h.lo, h.mem.set z, h.told.setCell (p := ⟨gm, i, none⟩) (h.mt gm rfl) _, h.back.setCell (p := ⟨gm, i, none⟩) (h.mr gm rfl) _, h.mt, h.mr, h.tr⟩
theorem St.tell (h : St w base g t cs mem told back vm vt vr) (ht : tInt ≠ t) {vt' : Value} {told' : List Int} (hr : Row w' base vt' told') (hg : w.grownBy w' vt.ownBlock) (ha : vt'.ownBlock = vt.ownBlock ∨ ∃ k, vt'.ownBlock = some k ∧ w.heap.size ≤ k) :
    St w' base g t cs mem told' back vm vt' vr :=
  ⟨h.blk.grown hg (own_off h.told h.blk ht), h.lo, h.mem.kept hg (fun k hk => h.mt k hk), hr, h.back.kept hg (fun k hk he => h.tr k he hk), ((h.mt.symm).grown h.mem ha).symm, h.mr, h.tr.grown h.back ha⟩
theorem St.call (h : St w base g t cs mem told back vm vt vr) (ht : tInt ≠ t) {vr' : Value} {back' : List Nat} (hr : Row w' base vr' (natI back')) (hg : w.grownBy w' vr.ownBlock) (ha : vr'.ownBlock = vr.ownBlock ∨ ∃ k, vr'.ownBlock = some k ∧ w.heap.size ≤ k) :
    St w' base g t cs mem told back' vm vt vr' :=
  ⟨h.blk.grown hg (own_off h.back h.blk ht), h.lo, h.mem.kept hg (fun k hk => h.mr k hk), h.told.kept hg (fun k hk => h.tr k hk), hr, h.mt, ((h.mr.symm).grown h.mem ha).symm, ((h.tr.symm).grown h.told ha).symm⟩
theorem natI_len (l : List Nat) : (natI l).length = l.length := by simp [natI]
/-- A row without its last element. -/
theorem Row.pop {A : Option Addr} {n cap : Nat} (h : Row w base (.slice A n cap) (natI back)) (hb : back ≠ []) (hn : back.length = n) : Row w base (.slice A (n - 1) cap) (natI back.dropLast) := by
  refine ⟨by simp, ?_⟩
  rcases h.2 with ⟨_, h0⟩ | ⟨g, cap', cur, hv, hlo, hh, hnc, hm, hs, ht⟩
  · exact absurd (List.eq_nil_of_length_eq_zero (by simpa [natI] using h0)) hb
  · injection hv with hA hn' hc
    have hl : (natI back.dropLast).length = n - 1 := by simp [natI, hn]
    rw [natI_len] at hnc ht
    refine .inr ⟨g, cap', cur, by rw [hA, hc, hl], hlo, hh, by rw [hl]; omega, hm, hs, ?_⟩
    have h2 := congrArg (List.take (n - 1)) ht
    rw [List.take_take, Nat.min_eq_left (by omega)] at h2
    rw [hl, Nat.mul_one, h2, ← List.map_take]
    congr 1
    unfold natI
    rw [← List.map_take, List.dropLast_eq_take, hn]
theorem St.pop {A : Option Addr} {n cap : Nat} (h : St w base g t cs mem told back vm vt (.slice A n cap)) (hb : back ≠ []) (hn : back.length = n) : St w base g t cs mem told back.dropLast vm vt (.slice A (n - 1) cap) := by
  have ho : (Value.slice A (n - 1) cap).ownBlock = (Value.slice A n cap).ownBlock := by cases A <;> rfl
  refine ⟨h.blk, h.lo, h.mem, h.told, h.back.pop hb hn, h.mt, fun k hk => ?_, fun k hk => ?_⟩
  · rw [ho]; exact h.mr k hk
  · rw [ho]; exact h.tr k hk
end
/-- The cells of the program's machine. -/
def progT (A : Option Addr) (n cp : Nat) (regs : List Int) (tl : List Value) : List Value := .slice A n cp :: (regs.map (Value.int .i64) ++ tl)
abbrev progC (A : Option Addr) (n cp : Nat) (regs : List Int) (vm vt vr : Value) (pc fuel : Int) : List Value := progT A n cp regs [vm, vt, vr, .int .i64 pc, .int .i64 fuel]
section
variable {A : Option Addr} {n cp : Nat} {regs : List Int} {tl : List Value}
theorem progT_code : (progT A n cp regs tl)[0]? = some (.slice A n cp) := rfl
theorem progT_reg (hr : regs.length = 8) (i : Nat) (hi : i < 8) : (progT A n cp regs tl)[1 + i]? = some (.int .i64 (regs.getD i 0)) := by
  unfold progT
  rw [Nat.add_comm, List.getElem?_cons_succ, List.getElem?_append_left (by simp; omega), List.getElem?_map, List.getD_eq_getElem?_getD, List.getElem?_eq_getElem (by omega)]
  rfl
theorem progT_at (hr : regs.length = 8) (i : Nat) : (progT A n cp regs tl)[9 + i]? = tl[i]? := by
  unfold progT
  rw [show 9 + i = (8 + i) + 1 by omega, List.getElem?_cons_succ, List.getElem?_append_right (by simp; omega)]
  simp [hr]
theorem progT_setR (hr : regs.length = 8) (i : Nat) (hi : i < 8) (z : Int) : (progT A n cp regs tl).set (1 + i) (.int .i64 z) = progT A n cp (regs.set i z) tl := by
  unfold progT
  rw [Nat.add_comm, List.set_cons_succ, List.set_append_left _ _ (by simp; omega), List.map_set]
theorem progT_set (hr : regs.length = 8) (i : Nat) (u : Value) : (progT A n cp regs tl).set (9 + i) u = progT A n cp regs (tl.set i u) := by
  unfold progT
  rw [show 9 + i = (8 + i) + 1 by omega, List.set_cons_succ, List.set_append_right _ _ (by simp; omega)]
  simp [hr]
end
theorem tMach_ne : tInt ≠ 194 := by decide
/-- The program's machine, at block g. -/
def PM (w : World) (base g : Nat) (A : Option Addr) (n cp : Nat) (m : Cf.Mach) (fuel : Int) : Prop :=
  ∃ vm vt vr, St w base g 194 (progC A n cp m.regs vm vt vr m.pc fuel) m.mem m.told m.back vm vt vr
def Cf.Step.code : Cf.Step → Int
  | .on _ => 0
  | .fin r _ => r
def Cf.Step.mach : Cf.Step → Cf.Mach
  | .on m => m
  | .fin _ m => m
/-- What a step of the program comes to. -/
def StepPost (s : Cf.Step) (base g : Nat) (A : Option Addr) (n cp : Nat) (fuel : Int) (w : World) (e : Ending) (w' : World) : Prop :=
  e = .returned (.int .i64 s.code) ∧ PM w' base g A n cp s.mach fuel ∧ Below base w w'
end Go.Proofs.YtnnhhbjbdmgpiaaGreatDoor
/- Walks of chapter 4: the program's check of a module's words. -/
namespace Go.Proofs.YtnnhhbjbdmgpiaaGreatDoor
set_option maxRecDepth 100000
open Go.RowKit

theorem mNoWord_any (v : Int) (w : World) :
    Calls Tryz.prog 120 #[.int .i64 v] w fun e w' => e = .returned (.bool (!Cf.wordB v)) ∧ w = w' := by
  by_cases h1 : v < 0
  · go_enter Tryz.func120, Tryz.ntmps120
    go_wp2
    go_ret
    exact ⟨by simp [Cf.wordB, Cf.inB, h1], rfl⟩
  · by_cases h2 : 65535 < v
    · go_enter Tryz.func120, Tryz.ntmps120
      go_wp2
      go_ret
      exact ⟨by simp [Cf.wordB, Cf.inB, h2], rfl⟩
    · go_enter Tryz.func120, Tryz.ntmps120
      go_wp2
      go_ret
      exact ⟨by simp [Cf.wordB, Cf.inB, h1, h2], rfl⟩
def MIdxPost (l : List Int) (w : World) (e : Ending) (w' : World) : Prop := ∃ z : Int, e = .returned (.int .i64 z) ∧ decide (0 ≤ z) = !l.all Cf.wordB ∧ w = w'
set_option maxHeartbeats 1000000 in
theorem mIndexFunc_any (l : List Int) (A : Option Addr) (cap : Nat) (w : World) (hI : Ints w A l) (hm : l.length ≤ maxLen) :
    Calls Tryz.prog 86 #[.slice A l.length cap, .func (.func 120) #[] #[]] w (MIdxPost l w) := by
  unfold maxLen at hm
  by_cases hl : l = []
  · subst hl
    go_enter Tryz.func86, Tryz.ntmps86
    go_wp2
    refine wp_loop_rounds 1 ?_
    rw [rounds_succ]
    go_wp2
    go_ret
    exact ⟨-1, rfl, rfl, rfl⟩
  · obtain ⟨b, off, rfl, hb, hc⟩ := hI.at_ hl
    have Hc := Lib.hid hc
    clear hc
    go_enter Tryz.func86, Tryz.ntmps86
    go_wp2
    go_loop [8] (fun i => ∃ k : Nat, k ≤ l.length ∧ i = .int .i64 k ∧ (l.take k).all Cf.wordB = true) (fun i => l.length - (intOf i).toNat)
    case atStart => exact ⟨0, by omega, rfl, rfl⟩
    case round =>
      obtain ⟨k, hk, rfl, hall⟩ := hrel
      have Hall := Lib.hid hall
      clear hall
      by_cases hlt : k < l.length
      · obtain ⟨z, hz⟩ : ∃ z, l[k]? = some z := ⟨_, List.getElem?_eq_getElem hlt⟩
        have c := Hc.out k z hz
        have Hz := Lib.hid hz
        clear hz
        cases hw : Cf.wordB z
        · have HB := Lib.hid (all_bad l k z Hz.out hw)
          go_wp2_with fail
          refine (mNoWord_any z _).mono ?_
          rintro e w1 ⟨rfl, rfl⟩
          rw [hw]
          go_wp2
          go_ret
          exact ⟨k, rfl, by rw [HB.out]; simp, rfl⟩
        · have HA := Lib.hid (all_on l k z Hz.out Hall.out hw)
          go_wp2_with fail
          refine (mNoWord_any z _).mono ?_
          rintro e w1 ⟨rfl, rfl⟩
          rw [hw]
          go_wp2
          go_round
          case rel => exact ⟨k + 1, by omega, by go_num, HA.out⟩
          case measure => simp [intOf]; omega
      · have HA := Lib.hid (show l.all Cf.wordB = true by have := Hall.out; rwa [List.take_of_length_le (by omega)] at this)
        go_wp2
        go_ret
        exact ⟨-1, rfl, by rw [HA.out]; rfl, rfl⟩
theorem mContainsFunc_any (l : List Int) (A : Option Addr) (cap : Nat) (w : World) (hI : Ints w A l) (hm : l.length ≤ maxLen) :
    Calls Tryz.prog 53 #[.slice A l.length cap, .func (.func 120) #[] #[]] w fun e w' => e = .returned (.bool (!l.all Cf.wordB)) ∧ w = w' := by
  have H := Lib.hid (mIndexFunc_any l A cap w hI hm)
  go_enter Tryz.func53, Tryz.ntmps53
  go_wp2_with fail
  refine H.out.mono ?_
  rintro e w1 ⟨z, rfl, hz, rfl⟩
  have HZ := Lib.hid hz
  clear hz
  go_wp2
  go_ret
  exact ⟨by rw [← HZ.out]; rfl, rfl⟩
end Go.Proofs.YtnnhhbjbdmgpiaaGreatDoor
/- Walks of the laws' own helpers: slices.Equal of two slices of numbers that read as one list. -/
namespace Go.Proofs.YtnnhhbjbdmgpiaaGreatDoor
set_option maxRecDepth 100000
open Go.RowKit

set_option maxHeartbeats 1000000 in
theorem equalI_same (l : List Int) (A B : Option Addr) (ca cb : Nat) (w : World) (hA : Ints w A l) (hB : Ints w B l) (hm : l.length ≤ maxLen) :
    Calls Tryz.prog 25 #[.slice A l.length ca, .slice B l.length cb] w fun e w' => e = .returned (.bool true) ∧ ∃ k, w' = w.drewN k := by
  unfold maxLen at hm
  by_cases hl : l = []
  · subst hl
    go_enter Tryz.func25, Tryz.ntmps25
    go_wp2
    refine wp_loop_rounds 1 ?_
    rw [rounds_succ]
    go_wp2
    go_ret
    exact ⟨rfl, 0, rfl⟩
  · obtain ⟨b1, o1, rfl, hb1, hc1⟩ := hA.at_ hl
    obtain ⟨b2, o2, rfl, hb2, hc2⟩ := hB.at_ hl
    have H1 := Lib.hid hc1
    have H2 := Lib.hid hc2
    clear hc1 hc2
    go_enter Tryz.func25, Tryz.ntmps25
    go_wp2
    go_loopw [13] (fun i wr => ∃ k m : Nat, k ≤ l.length ∧ i = .int .i64 k ∧ wr = w.drewN m) (fun i _ => l.length - (intOf i).toNat)
    case atStart => exact ⟨0, 0, by omega, rfl, rfl⟩
    case round =>
      obtain ⟨k, m, hk, rfl, rfl⟩ := hrel
      by_cases hlt : k < l.length
      · obtain ⟨z, hx⟩ : ∃ z, l[k]? = some z := ⟨_, List.getElem?_eq_getElem hlt⟩
        have p0 := H1.out k z hx
        have q0 := H2.out k z hx
        clear hx
        go_wp2_with fail
        go_quiet (fail)
        go_wp2
        go_roundw
        case rel => exact ⟨k + 1, _, by omega, by go_num, rfl⟩
        case measure => simp [intOf]; omega
      · go_wp2
        go_ret
        exact ⟨rfl, m, rfl⟩
end Go.Proofs.YtnnhhbjbdmgpiaaGreatDoor
