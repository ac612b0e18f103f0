/- The reference's machine as it lies in memory. -/
import Derived.Test.YtjmojbnjhcfdkaaDoorCpuJ
import Derived.Test.YtjmojbnjhcfdkaaDoorCpuK
namespace Go.Proofs.YtjmojbnjhcfdkaaDoor
open Go.RowKit

def refT (e : Value) (regs : List Int) (tl : List Value) : List Value := e :: (regs.map (Value.int .i64) ++ tl)
section
variable {e : Value} {regs : List Int} {tl : List Value}
theorem refT_reg (hr : regs.length = 8) (i : Nat) (hi : i < 8) : (refT e regs tl)[1 + i]? = some (.int .i64 (regs.getD i 0)) := by
  unfold refT
  rw [Nat.add_comm, List.getElem?_cons_succ, List.getElem?_append_left (by simp; omega), List.getElem?_map, List.getD_eq_getElem?_getD, List.getElem?_eq_getElem (by omega)]
  rfl
theorem refT_at (hr : regs.length = 8) (i : Nat) : (refT e regs tl)[9 + i]? = tl[i]? := by
  unfold refT
  rw [show 9 + i = (8 + i) + 1 by omega, List.getElem?_cons_succ, List.getElem?_append_right (by simp; omega)]
  simp [hr]
theorem refT_setR (hr : regs.length = 8) (i : Nat) (hi : i < 8) (z : Int) : (refT e regs tl).set (1 + i) (.int .i64 z) = refT e (regs.set i z) tl := by
  unfold refT
  rw [Nat.add_comm, List.set_cons_succ, List.set_append_left _ _ (by simp; omega), List.map_set]
theorem refT_set (hr : regs.length = 8) (i : Nat) (u : Value) : (refT e regs tl).set (9 + i) u = refT e regs (tl.set i u) := by
  unfold refT
  rw [show 9 + i = (8 + i) + 1 by omega, List.set_cons_succ, List.set_append_right _ _ (by simp; omega)]
  simp [hr]
end
theorem tOut_ne : tInt ≠ 44 := by decide
/-- The reference's machine, at block g; its calls lie in a slice of their own. -/
def RM (w : World) (base g : Nat) (m : Cf.Mach) (vr : Value) : Prop :=
  ∃ vm vt, St w base g 44 (refT (.int .i64 0) m.regs [vt, vm]) m.mem m.told m.back vm vt vr
section
variable {w w' : World} {base g : Nat} {m : Cf.Mach} {vr : Value}
theorem RM.alloc (h : RM w base g m vr) (o : Obj) : RM (w.alloc o) base g m vr := by
  obtain ⟨vm, vt, h⟩ := h
  exact ⟨vm, vt, h.alloc o⟩
theorem RM.draw (h : RM w base g m vr) (k : Nat) : RM (w.drewN k) base g m vr := by
  obtain ⟨vm, vt, h⟩ := h
  exact ⟨vm, vt, h.draw k⟩
theorem RM.setR (h : RM w base g m vr) (hr : m.regs.length = 8) (i : Nat) (hi : i < 8) (z : Int) (pc : Nat) : RM (w.setCell ⟨g, 1 + i, none⟩ (.int .i64 z)) base g ⟨m.regs.set i z, m.mem, m.told, m.back, pc⟩ vr := by
  obtain ⟨vm, vt, h⟩ := h
  have h := h.put tOut_ne (1 + i) (.int .i64 z)
  rw [refT_setR hr i hi] at h
  exact ⟨vm, vt, h⟩
theorem RM.at_ (h : RM w base g m vr) (pc : Nat) : RM w base g ⟨m.regs, m.mem, m.told, m.back, pc⟩ vr := h
theorem RM.pop {A : Option Addr} {n cap : Nat} (h : RM w base g m (.slice A n cap)) (hb : m.back ≠ []) (hn : m.back.length = n) (pc : Nat) : RM w base g ⟨m.regs, m.mem, m.told, m.back.dropLast, pc⟩ (.slice A (n - 1) cap) := by
  obtain ⟨vm, vt, h⟩ := h
  exact ⟨vm, vt, h.pop hb hn⟩
theorem RM.call (h : RM w base g m vr) {vr' : Value} {b : Nat} (hr : w'.ownsRow base tInt 1 vr' (m.back.length + 1) ((natI m.back).map (Value.int .i64) ++ [.int .i64 (b : Int)])) (hg : w.grownBy w' vr.ownBlock) (ha : vr'.ownBlock = vr.ownBlock ∨ ∃ k, vr'.ownBlock = some k ∧ w.heap.size ≤ k) (pc : Nat) :
    RM w' base g ⟨m.regs, m.mem, m.told, m.back ++ [b], pc⟩ vr' := by
  obtain ⟨vm, vt, h⟩ := h
  have hrow : Row w' base vr' (natI (m.back ++ [b])) := by
    unfold Row
    rw [natI_snoc, List.length_append, natI_len, List.map_append]
    exact hr
  exact ⟨vm, vt, h.call tOut_ne hrow hg ha⟩
theorem RM.lo (h : RM w base g m vr) : base ≤ g := by
  obtain ⟨vm, vt, h⟩ := h
  exact h.lo
theorem RM.lt (h : RM w base g m vr) : g < w.heap.size := by
  obtain ⟨vm, vt, h⟩ := h
  exact h.blk.lt
theorem RM.reg (h : RM w base g m vr) (hr : m.regs.length = 8) (i : Nat) (hi : i < 8) : w.cell? ⟨g, 1 + i, none⟩ = some (.int .i64 (m.rg (i : Int))) := by
  obtain ⟨vm, vt, h⟩ := h
  rw [rg_nat]
  exact (h.blk.cell (1 + i)).trans (refT_reg hr i hi)
theorem RM.open_ (h : RM w base g m vr) (i : Nat) : w.frozen? ⟨g, i, none⟩ = false := by
  obtain ⟨vm, vt, h⟩ := h
  exact h.blk.open_ i
theorem RM.back_ (h : RM w base g m vr) : Row w base vr (natI m.back) := by
  obtain ⟨vm, vt, h⟩ := h
  exact h.back
theorem RM.ne (h : RM w base g m vr) : vr.ownBlock ≠ some g := by
  obtain ⟨vm, vt, h⟩ := h
  exact own_off h.back h.blk tOut_ne
end
/-- What holds at the head of RunOf's loop. -/
def RefRel (l : List Cf.Ins) (m0 : Cf.Mach) (f0 : Nat) (w2 : World) (g : Nat) (fv bv av : Value) (wr : World) : Prop :=
  ∃ (m : Cf.Mach) (k : Nat) (R : Option Addr) (cr : Nat), fv = .int .i64 (k : Int) ∧ bv = .slice R m.back.length cr ∧ av = .int .i64 (m.pc : Int) ∧ k ≤ 20000 ∧ Cf.MOk m ∧ RM wr w2.heap.size g m (.slice R m.back.length cr) ∧ Below w2.heap.size w2 wr ∧ Cf.runM l f0 m0 = Cf.runM l k m
/-- The reference's machine, as it is made. -/
def RStart (w2 : World) (regs mem : List Int) (x : Value) (wx : World) : Prop :=
  ∃ g, x = .pointer (some ⟨g, 0, none⟩) ∧ RM wx w2.heap.size g ⟨regs, mem, [], [], 0⟩ (.slice none 0 0) ∧ Below w2.heap.size w2 wx
def outZ : List Value := [.int .i64 0, .int .i64 0, .int .i64 0, .int .i64 0, .int .i64 0, .int .i64 0, .int .i64 0, .int .i64 0, .int .i64 0, .slice none 0 0, .slice none 0 0]
abbrev outO : Obj := .cells #[.int .i64 0, .int .i64 0, .int .i64 0, .int .i64 0, .int .i64 0, .int .i64 0, .int .i64 0, .int .i64 0, .int .i64 0, .slice none 0 0, .slice none 0 0] 44
theorem rstart_a {w2 w4 : World} {A' : Option Addr} {cap' : Nat} {r0 r1 r2 r3 r4 r5 r6 r7 : Int} {mem : List Int} (hb : Below w2.heap.size w2 w4) (hr : Row w4 w2.heap.size (.slice A' (0 + mem.length) cap') mem) :
    RStart w2 [r0, r1, r2, r3, r4, r5, r6, r7] mem (.pointer (some ⟨w4.heap.size, 0, none⟩)) (w4.alloc (.cells #[.int .i64 0, .int .i64 r0, .int .i64 r1, .int .i64 r2, .int .i64 r3, .int .i64 r4, .int .i64 r5, .int .i64 r6, .int .i64 r7, .slice none 0 0, .slice A' mem.length cap'] 44)) := by
  rw [Nat.zero_add] at hr
  have hw := Wb.new w4 44 (refT (.int .i64 0) [r0, r1, r2, r3, r4, r5, r6, r7] [.slice none 0 0, .slice A' mem.length cap'])
  exact ⟨_, rfl, ⟨_, _, St.start hw hb.size (hr.alloc _)⟩, hb.alloc hb.size _⟩
theorem rstart_b {w2 w4 : World} {g : Nat} {A' : Option Addr} {cap' : Nat} {r0 r1 r2 r3 r4 r5 r6 r7 : Int} {mem : List Int} (hb : Below w2.heap.size w2 w4) (hr : Row w4 w2.heap.size (.slice A' (0 + mem.length) cap') mem) (hw : Wb w4 g 44 outZ) (hg : w2.heap.size ≤ g) :
    RStart w2 [r0, r1, r2, r3, r4, r5, r6, r7] mem (.pointer (some ⟨g, 0, none⟩)) (((((((((((w4.setCell ⟨g, 0, none⟩ (.int .i64 0)).setCell ⟨g, 1, none⟩ (.int .i64 r0)).setCell ⟨g, 2, none⟩ (.int .i64 r1)).setCell ⟨g, 3, none⟩ (.int .i64 r2)).setCell ⟨g, 4, none⟩ (.int .i64 r3)).setCell ⟨g, 5, none⟩ (.int .i64 r4)).setCell ⟨g, 6, none⟩ (.int .i64 r5)).setCell ⟨g, 7, none⟩ (.int .i64 r6)).setCell ⟨g, 8, none⟩ (.int .i64 r7)).setCell ⟨g, 9, none⟩ (.slice none 0 0)).setCell ⟨g, 10, none⟩ (.slice A' mem.length cap')) := by
  rw [Nat.zero_add] at hr
  have h0 := St.start hw hg hr
  have h1 := (((((((((((h0.put tOut_ne 0 (.int .i64 0)).put tOut_ne 1 (.int .i64 r0)).put tOut_ne 2 (.int .i64 r1)).put tOut_ne 3 (.int .i64 r2)).put tOut_ne 4 (.int .i64 r3)).put tOut_ne 5 (.int .i64 r4)).put tOut_ne 6 (.int .i64 r5)).put tOut_ne 7 (.int .i64 r6)).put tOut_ne 8 (.int .i64 r7)).put tOut_ne 9 (.slice none 0 0)).put tOut_ne 10 (.slice A' mem.length cap'))
  refine ⟨g, rfl, ⟨_, _, h1⟩, ?_⟩
  iterate 11 refine Below.setCell ?_ (by exact hg) _
  exact hb
theorem exec_alu (m : Cf.Mach) (op a b c : Int) (p : Nat) (h : op ≤ 7) : Cf.exec ⟨op, a, b, c⟩ ⟨m.regs, m.mem, m.told, m.back, p⟩ = .on ⟨m.regs.set a.toNat (Cf.alu op (m.rg b) (m.rg c) c), m.mem, m.told, m.back, p⟩ := by
  simp [Cf.exec, Cf.Mach.setR, Cf.Mach.rg, h]
theorem rtell {m : Cf.Mach} (hr : m.regs.length = 8) {w w1 : World} {base g : Nat} {vm vr : Value} {T : Option Addr} {ct gg cap : Nat} {z : Int} {o1 o2 : Obj}
    (hs : St w base g 44 (refT (.int .i64 0) m.regs [.slice T m.told.length ct, vm]) m.mem m.told m.back vm (.slice T m.told.length ct) vr)
    (hown : w1.ownsRow base 3 1 (.slice (some ⟨gg, 0, none⟩) (m.told.length + 1) cap) (m.told.length + 1) (m.told.map (Value.int .i64) ++ [.int .i64 z]))
    (hgr : ((w.alloc o1).alloc o2).drew.grownBy w1 (Value.slice T m.told.length ct).ownBlock) (hat : (Value.slice T m.told.length ct).ownBlock = some gg ∨ gg = w.heap.size + 1 + 1) (pc : Nat) :
    RM (w1.setCell ⟨g, 9, none⟩ (.slice (some ⟨gg, 0, none⟩) (m.told.length + 1) cap)) base g ⟨m.regs, m.mem, m.told ++ [z], m.back, pc⟩ vr ∧
    Below base w (w1.setCell ⟨g, 9, none⟩ (.slice (some ⟨gg, 0, none⟩) (m.told.length + 1) cap)) := by
  have hlo := hs.lo
  have hwz := hs.blk.lt
  have hrow : Row w1 base (.slice (some ⟨gg, 0, none⟩) (m.told.length + 1) cap) (m.told ++ [z]) := by
    unfold Row
    rw [List.length_append, List.map_append]
    exact hown
  have h0 : St ((w.alloc o1).alloc o2).drew base g 44 (refT (.int .i64 0) m.regs [.slice T m.told.length ct, vm]) m.mem m.told m.back vm (.slice T m.told.length ct) vr := ((hs.alloc o1).alloc o2).draw 1
  have h1 := h0.tell tOut_ne hrow hgr (hat.imp (fun h => h.symm) fun h => ⟨gg, rfl, by simp; omega⟩)
  have h2 := h1.put tOut_ne 9 (.slice (some ⟨gg, 0, none⟩) (m.told.length + 1) cap)
  rw [show (9 : Nat) = 9 + 0 from rfl, refT_set hr 0] at h2
  refine ⟨⟨_, _, h2⟩, ?_⟩
  have hb0 : Below base w ((w.alloc o1).alloc o2).drew := (((Below.refl base w).alloc (by omega) o1).alloc (by simp; omega) o2).drew
  exact (hb0.grown hgr (by simp; omega) (fun k hk => (hs.told.lt k hk).1)).setCell (p := ⟨g, 9, none⟩) hlo _
section
variable (m : Cf.Mach) (a b : Nat) (c : Int) (p ad : Nat)
theorem exec_ld (h : m.rg (b : Int) = (ad : Int)) (hl : ad < m.mem.length) : Cf.exec ⟨8, a, b, c⟩ ⟨m.regs, m.mem, m.told, m.back, p⟩ = .on ⟨m.regs.set a (m.mem.getD ad 0), m.mem, m.told, m.back, p⟩ := by
  simp only [Cf.Mach.rg] at h
  simp only [Cf.exec, Cf.Mach.setR, Cf.Mach.rg, h]
  simp [hl]
theorem exec_ld_no (h : m.rg (b : Int) = (ad : Int)) (hl : ¬ ad < m.mem.length) : Cf.exec ⟨8, a, b, c⟩ ⟨m.regs, m.mem, m.told, m.back, p⟩ = .fin 3 ⟨m.regs, m.mem, m.told, m.back, p⟩ := by
  simp only [Cf.Mach.rg] at h
  simp only [Cf.exec, Cf.Mach.setR, Cf.Mach.rg, h]
  simp [hl]
theorem exec_st (h : m.rg (b : Int) = (ad : Int)) (hl : ad < m.mem.length) : Cf.exec ⟨9, a, b, c⟩ ⟨m.regs, m.mem, m.told, m.back, p⟩ = .on ⟨m.regs, m.mem.set ad (m.rg a), m.told, m.back, p⟩ := by
  simp only [Cf.Mach.rg] at h
  simp only [Cf.exec, Cf.Mach.setR, Cf.Mach.rg, h]
  simp [hl]
theorem exec_st_no (h : m.rg (b : Int) = (ad : Int)) (hl : ¬ ad < m.mem.length) : Cf.exec ⟨9, a, b, c⟩ ⟨m.regs, m.mem, m.told, m.back, p⟩ = .fin 3 ⟨m.regs, m.mem, m.told, m.back, p⟩ := by
  simp only [Cf.Mach.rg] at h
  simp only [Cf.exec, Cf.Mach.setR, Cf.Mach.rg, h]
  simp [hl]
end
theorem exec_jz_yes (m : Cf.Mach) (a : Int) (b : Int) (c p : Nat) (h : m.rg a = 0) : Cf.exec ⟨11, a, b, c⟩ ⟨m.regs, m.mem, m.told, m.back, p⟩ = .on ⟨m.regs, m.mem, m.told, m.back, c⟩ := by
  have h' : (Cf.Mach.mk m.regs m.mem m.told m.back p).rg a = 0 := h
  simp [Cf.exec, h']
theorem exec_jz_no (m : Cf.Mach) (a : Int) (b : Int) (c p : Nat) (h : m.rg a ≠ 0) : Cf.exec ⟨11, a, b, c⟩ ⟨m.regs, m.mem, m.told, m.back, p⟩ = .on ⟨m.regs, m.mem, m.told, m.back, p⟩ := by
  have h' : (Cf.Mach.mk m.regs m.mem m.told m.back p).rg a ≠ 0 := h
  simp [Cf.exec, h']
theorem eight {l : List Int} (h : l.length = 8) : ∃ s0 s1 s2 s3 s4 s5 s6 s7, l = [s0, s1, s2, s3, s4, s5, s6, s7] := by
  match l, h with
  | [s0, s1, s2, s3, s4, s5, s6, s7], _ => exact ⟨s0, s1, s2, s3, s4, s5, s6, s7, rfl⟩
theorem chk_last (x : Cf.Ins) (h : Cf.chk x = 0) (h13 : 13 ≤ x.op) : x.c = 0 := by
  obtain ⟨op, a, b, c⟩ := x
  have ho := (Cf.chk_parts _ h).1
  dsimp only at ho h13 ⊢
  have h15 : op = 13 ∨ op = 14 ∨ op = 15 := by omega
  rcases h15 with h' | h' | h' <;> subst h' <;>
    simp [Cf.chk, Cf.opB, Cf.fldB, Cf.fitB, Cf.fmt, Cf.fmtTab, Cf.fld, Cf.lar, Cf.larTab] at h <;> omega
end Go.Proofs.YtjmojbnjhcfdkaaDoor
