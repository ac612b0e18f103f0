/- The machine's state as it lies in memory: a block with registers and places, and three rows that share nothing. -/
import Derived.Test.YtamepbgmajeaeacDoorMachW
namespace Go.Proofs.YtamepbgmajeaeacDoor
open Go.RowKit

def natI (l : List Nat) : List Int := l.map fun (b : Nat) => (b : Int)
structure St (w : World) (base g : Nat) (t : TypeId) (cs : List Value) (mem told : List Int) (back : List Nat) (vm vt vr : Value) : Prop where
  blk : Wb w g t cs
  lo : base ≤ g
  mem : Row w base vm mem
  told : Row w base vt told
  back : Row w base vr (natI back)
  mt : Apart vm vt
  mr : Apart vm vr
  tr : Apart vt vr
section
variable {w w' : World} {base g : Nat} {t : TypeId} {cs : List Value} {mem told : List Int} {back : List Nat} {vm vt vr : Value}
theorem St.put (h : St w base g t cs mem told back vm vt vr) (ht : tInt ≠ t) (i : Nat) (u : Value) : St (w.setCell ⟨g, i, none⟩ u) base g t (cs.set i u) mem told back vm vt vr :=
  ⟨h.blk.put i u, h.lo, h.mem.setCell (p := ⟨g, i, none⟩) (own_off h.mem h.blk ht) u, h.told.setCell (p := ⟨g, i, none⟩) (own_off h.told h.blk ht) u, h.back.setCell (p := ⟨g, i, none⟩) (own_off h.back h.blk ht) u, h.mt, h.mr, h.tr⟩
theorem St.alloc (h : St w base g t cs mem told back vm vt vr) (o : Obj) : St (w.alloc o) base g t cs mem told back vm vt vr :=
  ⟨h.blk.alloc o, h.lo, h.mem.alloc o, h.told.alloc o, h.back.alloc o, h.mt, h.mr, h.tr⟩
theorem St.draw (h : St w base g t cs mem told back vm vt vr) (n : Nat) : St (w.drewN n) base g t cs mem told back vm vt vr :=
  ⟨h.blk.draw n, h.lo, own_draw h.mem n, own_draw h.told n, own_draw h.back n, h.mt, h.mr, h.tr⟩
theorem St.far (h : St w base g t cs mem told back vm vt vr) (hb : Below w.heap.size w w') : St w' base g t cs mem told back vm vt vr :=
  ⟨h.blk.below hb h.blk.lt, h.lo, h.mem.below hb, h.told.below hb, h.back.below hb, h.mt, h.mr, h.tr⟩
theorem St.memSet {gm n cap i : Nat} (h : St w base g t cs mem told back (.slice (some ⟨gm, 0, none⟩) n cap) vt vr) (ht : tInt ≠ t) (z : Int) :
    St (w.setCell ⟨gm, i, none⟩ (.int .i64 z)) base g t cs (mem.set i z) told back (.slice (some ⟨gm, 0, none⟩) n cap) vt vr := by
  have hg : g ≠ gm := fun he => own_off h.mem h.blk ht (by simp [Value.ownBlock, he])
  exact ⟨h.blk.off_ (p := ⟨gm, i, none⟩) hg _, h.lo, h.mem.set z, h.told.setCell (p := ⟨gm, i, none⟩) (h.mt gm rfl) _, h.back.setCell (p := ⟨gm, i, none⟩) (h.mr gm rfl) _, h.mt, h.mr, h.tr⟩
theorem St.tell (h : St w base g t cs mem told back vm vt vr) (ht : tInt ≠ t) {vt' : Value} {told' : List Int} (hr : Row w' base vt' told') (hg : w.grownBy w' vt.ownBlock) (ha : vt'.ownBlock = vt.ownBlock ∨ ∃ k, vt'.ownBlock = some k ∧ w.heap.size ≤ k) :
    St w' base g t cs mem told' back vm vt' vr :=
  ⟨h.blk.grown hg (own_off h.told h.blk ht), h.lo, h.mem.kept hg (fun k hk => h.mt k hk), hr, h.back.kept hg (fun k hk he => h.tr k he hk), ((h.mt.symm).grown h.mem ha).symm, h.mr, h.tr.grown h.back ha⟩
theorem St.call (h : St w base g t cs mem told back vm vt vr) (ht : tInt ≠ t) {vr' : Value} {back' : List Nat} (hr : Row w' base vr' (natI back')) (hg : w.grownBy w' vr.ownBlock) (ha : vr'.ownBlock = vr.ownBlock ∨ ∃ k, vr'.ownBlock = some k ∧ w.heap.size ≤ k) :
    St w' base g t cs mem told back' vm vt vr' :=
  ⟨h.blk.grown hg (own_off h.back h.blk ht), h.lo, h.mem.kept hg (fun k hk => h.mr k hk), h.told.kept hg (fun k hk => h.tr k hk), hr, h.mt, ((h.mr.symm).grown h.mem ha).symm, ((h.tr.symm).grown h.told ha).symm⟩
theorem natI_len (l : List Nat) : (natI l).length = l.length := by simp [natI]
/-- A row without its last element. -/
theorem Row.pop {A : Option Addr} {n cap : Nat} (h : Row w base (.slice A n cap) (natI back)) (hb : back ≠ []) (hn : back.length = n) : Row w base (.slice A (n - 1) cap) (natI back.dropLast) := by
  refine ⟨by simp, ?_⟩
  rcases h.2 with ⟨_, h0⟩ | ⟨g, cap', cur, hv, hlo, hh, hnc, hm, hs, ht⟩
  · exact absurd (List.eq_nil_of_length_eq_zero (by simpa [natI] using h0)) hb
  · injection hv with hA hn' hc
    have hl : (natI back.dropLast).length = n - 1 := by simp [natI, hn]
    rw [natI_len] at hnc ht
    refine .inr ⟨g, cap', cur, by rw [hA, hc, hl], hlo, hh, by rw [hl]; omega, hm, hs, ?_⟩
    have h2 := congrArg (List.take (n - 1)) ht
    rw [List.take_take, Nat.min_eq_left (by omega)] at h2
    rw [hl, Nat.mul_one, h2, ← List.map_take]
    congr 1
    unfold natI
    rw [← List.map_take, List.dropLast_eq_take, hn]
theorem St.pop {A : Option Addr} {n cap : Nat} (h : St w base g t cs mem told back vm vt (.slice A n cap)) (hb : back ≠ []) (hn : back.length = n) : St w base g t cs mem told back.dropLast vm vt (.slice A (n - 1) cap) := by
  have ho : (Value.slice A (n - 1) cap).ownBlock = (Value.slice A n cap).ownBlock := by cases A <;> rfl
  refine ⟨h.blk, h.lo, h.mem, h.told, h.back.pop hb hn, h.mt, fun k hk => ?_, fun k hk => ?_⟩
  · rw [ho]; exact h.mr k hk
  · rw [ho]; exact h.tr k hk
end
/-- The cells of the program's machine. -/
def progT (A : Option Addr) (n cp : Nat) (regs : List Int) (tl : List Value) : List Value := .slice A n cp :: (regs.map (Value.int .i64) ++ tl)
abbrev progC (A : Option Addr) (n cp : Nat) (regs : List Int) (vm vt vr : Value) (pc fuel : Int) : List Value := progT A n cp regs [vm, vt, vr, .int .i64 pc, .int .i64 fuel]
section
variable {A : Option Addr} {n cp : Nat} {regs : List Int} {tl : List Value}
theorem progT_code : (progT A n cp regs tl)[0]? = some (.slice A n cp) := rfl
theorem progT_reg (hr : regs.length = 8) (i : Nat) (hi : i < 8) : (progT A n cp regs tl)[1 + i]? = some (.int .i64 (regs.getD i 0)) := by
  unfold progT
  rw [Nat.add_comm, List.getElem?_cons_succ, List.getElem?_append_left (by simp; omega), List.getElem?_map, List.getD_eq_getElem?_getD, List.getElem?_eq_getElem (by omega)]
  rfl
theorem progT_at (hr : regs.length = 8) (i : Nat) : (progT A n cp regs tl)[9 + i]? = tl[i]? := by
  unfold progT
  rw [show 9 + i = (8 + i) + 1 by omega, List.getElem?_cons_succ, List.getElem?_append_right (by simp; omega)]
  simp [hr]
theorem progT_setR (hr : regs.length = 8) (i : Nat) (hi : i < 8) (z : Int) : (progT A n cp regs tl).set (1 + i) (.int .i64 z) = progT A n cp (regs.set i z) tl := by
  unfold progT
  rw [Nat.add_comm, List.set_cons_succ, List.set_append_left _ _ (by simp; omega), List.map_set]
theorem progT_set (hr : regs.length = 8) (i : Nat) (u : Value) : (progT A n cp regs tl).set (9 + i) u = progT A n cp regs (tl.set i u) := by
  unfold progT
  rw [show 9 + i = (8 + i) + 1 by omega, List.set_cons_succ, List.set_append_right _ _ (by simp; omega)]
  simp [hr]
end
theorem tMach_ne : tInt ≠ 51 := by decide
/-- The program's machine, at block g. -/
def PM (w : World) (base g : Nat) (A : Option Addr) (n cp : Nat) (m : Cf.Mach) (fuel : Int) : Prop :=
  ∃ vm vt vr, St w base g 51 (progC A n cp m.regs vm vt vr m.pc fuel) m.mem m.told m.back vm vt vr
def Cf.Step.code : Cf.Step → Int
  | .on _ => 0
  | .fin r _ => r
def Cf.Step.mach : Cf.Step → Cf.Mach
  | .on m => m
  | .fin _ m => m
/-- What a step of the program comes to. -/
def StepPost (s : Cf.Step) (base g : Nat) (A : Option Addr) (n cp : Nat) (fuel : Int) (w : World) (e : Ending) (w' : World) : Prop :=
  e = .returned (.int .i64 s.code) ∧ PM w' base g A n cp s.mach fuel ∧ Below base w w'
end Go.Proofs.YtamepbgmajeaeacDoor
