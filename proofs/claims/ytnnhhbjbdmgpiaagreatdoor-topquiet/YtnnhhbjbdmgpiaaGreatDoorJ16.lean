/- Texts of the proofs: CpuJ. -/
import Derived.Deep.RegionLaw
import Derived.Deep.CutRange
import Derived.Test.YtnnhhbjbdmgpiaaGreatDoorJ14
import Derived.Test.YtnnhhbjbdmgpiaaGreatDoorJ07
import Derived.Test.YtnnhhbjbdmgpiaaGreatDoorJ03
set_option linter.unusedSimpArgs false
set_option linter.unusedVariables false
/- Walks of chapter 2: the program's Run. -/
namespace Go.Proofs.YtnnhhbjbdmgpiaaGreatDoor
set_option maxRecDepth 100000
open Go.RowKit
def RunPostE (o : Cf.Out) (w : World) (e : Ending) (w' : World) : Prop :=
 ∃ (T M : Option Addr) (ct cm : Nat), e = .returned (.tuple #[.agg ((.int .i64 o.fin :: (o.regs.map (Value.int .i64) ++ [.slice T o.told.length ct, .slice M o.mem.length cm])).toArray), .int .i64 o.err]) ∧ Ints w' T o.told ∧ Ints w' M o.mem ∧ Below w.heap.size w w' ∧ o.mem.length ≤ cm ∧ Fresh w.heap.size M o.mem ∧ Row w' w.heap.size (.slice M o.mem.length cm) o.mem
theorem Row.cap {w : World} {base n cap : Nat} {A : Option Addr} {l : List Int} (h : Row w base (.slice A n cap) l) : l.length ≤ cap := by
 rcases h.2 with ⟨_, h0⟩ | ⟨g, cap', cur, hv, _, _, hn, _⟩
 ·omega
 ·injection hv with _ _ hc
  omega
theorem Row.base {w : World} {b b' : Nat} {v : Value} {l : List Int} (h : Row w b v l) (hb : b' ≤ b) : Row w b' v l := by
 refine ⟨h.1, ?_⟩
 rcases h.2 with h2 | ⟨g, cap, cur, hv, hg, r⟩
 ·exact .inl h2
 ·exact .inr ⟨g, cap, cur, hv, Nat.le_trans hb hg, r⟩
theorem runT_bad (l : List Cf.Ins) (regs mem : List Int) (fuel : Int) (h : Cf.runE l regs mem fuel ≠ 0) : Cf.runT l regs mem fuel = Cf.noOut (Cf.runE l regs mem fuel) := by
 unfold Cf.runE at h ⊢
 unfold Cf.runT
 split
 ·split
  ·split
   ·rename_i h1 h2 h3
    rw [if_pos h1, if_pos h2, if_pos h3] at h
    exact absurd rfl h
   ·rfl
  ·rfl
 ·rfl
theorem runT_good (l : List Cf.Ins) (regs mem : List Int) (fuel : Int) (h : Cf.runE l regs mem fuel = 0) : Cf.fault l = 0 ∧ mem.length ≤ 1024 ∧ (0 ≤ fuel ∧ fuel ≤ 20000) ∧ (∀ v ∈ regs, 0 ≤ v ∧ v ≤ 65535) ∧ (∀ v ∈ mem, 0 ≤ v ∧ v ≤ 65535) ∧
  Cf.runT l regs mem fuel = ⟨(Cf.runM l fuel.toNat ⟨regs, mem, [], [], 0⟩).1, (Cf.runM l fuel.toNat ⟨regs, mem, [], [], 0⟩).2.regs, (Cf.runM l fuel.toNat ⟨regs, mem, [], [], 0⟩).2.told, (Cf.runM l fuel.toNat ⟨regs, mem, [], [], 0⟩).2.mem, 0⟩ := by
 unfold Cf.runE at h
 unfold Cf.runT
 split at h
 ·rename_i h1
  split at h
  ·rename_i h2
   split at h
   ·rename_i h3
    rw [if_pos h1, if_pos h2, if_pos h3]
    simp only [Bool.and_eq_true, List.all_eq_true, Cf.wordB, Cf.inB, decide_eq_true_eq] at h3
    exact ⟨h1, h2, h3.1, h3.2.1, h3.2.2, rfl⟩
   ·simp at h
  ·simp at h
 ·rename_i h1
  exact absurd h h1
theorem step_end {l : List Cf.Ins} (hl : l.length ≤ 200) {m m' : Cf.Mach} {r : Int} (hm : Cf.MOk m) (h : Cf.step l m = .fin r m') : Cf.MOk m' ∧ r ≠ 0 ∧ 0 ≤ r := by
 unfold Cf.step at h
 cases hi : l[m.pc]? with
 | none =>
   rw [hi] at h
   simp only [Cf.Step.fin.injEq] at h
   obtain ⟨rfl, rfl⟩ := h
   exact ⟨hm, by omega, by omega⟩
 | some x =>
   rw [hi] at h
   have hpc : m.pc < l.length := (List.getElem?_eq_some_iff.1 hi).1
   have hm1 : Cf.MOk ⟨m.regs, m.mem, m.told, m.back, m.pc + 1⟩ := ⟨hm.regs, hm.words, hm.mem, hm.told, hm.toldW, hm.back, hm.backs, by show m.pc + 1 ≤ 200; omega⟩
   simp only at h
   generalize Cf.Mach.mk m.regs m.mem m.told m.back (m.pc + 1) = q at hm1 h
   unfold Cf.exec at h
   repeat' split at h
   all_goals first
    | cases h; done
    | (simp only [Cf.Step.fin.injEq] at h; obtain ⟨rfl, rfl⟩ := h; exact ⟨hm1, by omega, by omega⟩)
def fuelAt (w : World) (g : Nat) : Nat := match w.cell? ⟨g, 13, none⟩ with
 | some (.int _ n) => n.toNat
 | _ => 0
theorem PM.fuel {w : World} {base g : Nat} {A : Option Addr} {n cp : Nat} {m : Cf.Mach} {fuel : Int} (h : PM w base g A n cp m fuel) (hr : m.regs.length = 8) : fuelAt w g = fuel.toNat := by
 obtain ⟨vm, vt, vr, hs⟩ := h
 unfold fuelAt
 rw [(hs.blk.cell 13).trans (progT_at hr 4)]
 rfl
theorem Row.low {w : World} {base : Nat} {v : Value} {l : List Int} (h : Row w base v l) {p : Addr} (hp : p.block < base) (u : Value) : Row (w.setCell p u) base v l := ownsRow_setCell_below h hp u
def StartRel (w2 : World) (A : Option Addr) (n cl : Nat) (regs mem : List Int) (fuel : Int) (x : Value) (wx : World) : Prop :=
 ∃ g, x = .pointer (some ⟨g, 0, none⟩) ∧ PM wx w2.heap.size g A n cl ⟨regs, mem, [], [], 0⟩ fuel ∧ Below w2.heap.size w2 wx
theorem St.start {w : World} {base g : Nat} {t : TypeId} {cs : List Value} {v : Value} {mem : List Int} (hb : Wb w g t cs) (hlo : base ≤ g) (hr : Row w base v mem) : St w base g t cs mem [] [] v (.slice none 0 0) (.slice none 0 0) :=
 ⟨hb, hlo, hr, World.ownsRow_nil _ _ _ _, World.ownsRow_nil _ _ _ _, (Apart.nil v).symm, (Apart.nil v).symm, Apart.nil _⟩
def machZ : List Value := [.slice none 0 0, .int .i64 0, .int .i64 0, .int .i64 0, .int .i64 0, .int .i64 0, .int .i64 0, .int .i64 0, .int .i64 0, .slice none 0 0, .slice none 0 0, .slice none 0 0, .int .i64 0, .int .i64 0]
abbrev machO : Obj := .cells #[.slice none 0 0, .int .i64 0, .int .i64 0, .int .i64 0, .int .i64 0, .int .i64 0, .int .i64 0, .int .i64 0, .int .i64 0, .slice none 0 0, .slice none 0 0, .slice none 0 0, .int .i64 0, .int .i64 0] 194
theorem one_z : ∀ x, ∀ u ∈ encZ x, u.oneCell' = true := by
 intro x u hu
 simp [encZ] at hu
 subst hu
 rfl
theorem row_of {w : World} {base : Nat} {v : Value} {l : List Int} (h : w.ownsRow base tInt 1 v (0 + l.length) ([] ++ l.flatMap encZ)) : Row w base v l := by
 unfold Row
 rw [map_flat]
 simpa using h
theorem keep8 {w : World} {g : Nat} {t : TypeId} {r0 r1 r2 r3 r4 r5 r6 r7 : Int} (h : Wb w g t [.int .i64 r0, .int .i64 r1, .int .i64 r2, .int .i64 r3, .int .i64 r4, .int .i64 r5, .int .i64 r6, .int .i64 r7]) :
  w.cell? ⟨g, 0, none⟩ = some (.int .i64 r0) ∧ w.cell? ⟨g, 1, none⟩ = some (.int .i64 r1) ∧ w.cell? ⟨g, 2, none⟩ = some (.int .i64 r2) ∧ w.cell? ⟨g, 3, none⟩ = some (.int .i64 r3) ∧ w.cell? ⟨g, 4, none⟩ = some (.int .i64 r4) ∧ w.cell? ⟨g, 5, none⟩ = some (.int .i64 r5) ∧ w.cell? ⟨g, 6, none⟩ = some (.int .i64 r6) ∧ w.cell? ⟨g, 7, none⟩ = some (.int .i64 r7) :=
 ⟨h.cell 0, h.cell 1, h.cell 2, h.cell 3, h.cell 4, h.cell 5, h.cell 6, h.cell 7⟩
theorem own_a (w : World) (base : Nat) (hb : base ≤ w.heap.size) : (w.alloc (.cells #[] 3)).drew.ownsRow base 3 1 (.slice (some ⟨w.heap.size, 0, none⟩) 0 0) 0 [] :=
 (World.ownsRow_made w #[] 0 hb (by unfold maxLen; omega) rfl).drew
theorem own_b (w : World) (base : Nat) (o : Obj) (hb : base ≤ w.heap.size) : ((w.alloc (.cells #[] 3)).alloc o).drew.ownsRow base 3 1 (.slice (some ⟨w.heap.size, 0, none⟩) 0 0) 0 [] :=
 (((World.ownsRow_made w #[] 0 hb (by unfold maxLen; omega) rfl).alloc o)).drew
theorem own_c (w : World) (base : Nat) (o : Obj) (hb : base ≤ w.heap.size) : ((w.alloc o).alloc (.cells #[] 3)).drew.ownsRow base 3 1 (.slice (some ⟨w.heap.size + 1, 0, none⟩) 0 0) 0 [] := by
 have := (World.ownsRow_made (base := base) (e := 3) (size := 1) (w.alloc o) #[] 0 (by simp; omega) (by unfold maxLen; omega) rfl).drew
 simpa using this
theorem start_a {w2 w4 : World} {A A' : Option Addr} {n cl cap' : Nat} {r0 r1 r2 r3 r4 r5 r6 r7 fuel : Int} {mem : List Int} (hb : Below w2.heap.size w2 w4) (hr : Row w4 w2.heap.size (.slice A' (0 + mem.length) cap') mem) :
  StartRel w2 A n cl [r0, r1, r2, r3, r4, r5, r6, r7] mem fuel (.pointer (some ⟨w4.heap.size, 0, none⟩)) (w4.alloc (.cells #[.slice A n cl, .int .i64 r0, .int .i64 r1, .int .i64 r2, .int .i64 r3, .int .i64 r4, .int .i64 r5, .int .i64 r6, .int .i64 r7, .slice A' mem.length cap', .slice none 0 0, .slice none 0 0, .int .i64 0, .int .i64 fuel] 194)) := by
 rw [Nat.zero_add] at hr
 have hw := Wb.new w4 194 (progC A n cl [r0, r1, r2, r3, r4, r5, r6, r7] (.slice A' mem.length cap') (.slice none 0 0) (.slice none 0 0) 0 fuel)
 exact ⟨_, rfl, ⟨_, _, _, St.start hw hb.size (hr.alloc _)⟩, hb.alloc hb.size _⟩
theorem start_b {w2 w4 : World} {g : Nat} {A A' : Option Addr} {n cl cap' : Nat} {r0 r1 r2 r3 r4 r5 r6 r7 fuel : Int} {mem : List Int} (hb : Below w2.heap.size w2 w4) (hr : Row w4 w2.heap.size (.slice A' (0 + mem.length) cap') mem) (hw : Wb w4 g 194 machZ) (hg : w2.heap.size ≤ g) :
  StartRel w2 A n cl [r0, r1, r2, r3, r4, r5, r6, r7] mem fuel (.pointer (some ⟨g, 0, none⟩)) ((((((((((((((w4.setCell ⟨g, 0, none⟩ (.slice A n cl)).setCell ⟨g, 1, none⟩ (.int .i64 r0)).setCell ⟨g, 2, none⟩ (.int .i64 r1)).setCell ⟨g, 3, none⟩ (.int .i64 r2)).setCell ⟨g, 4, none⟩ (.int .i64 r3)).setCell ⟨g, 5, none⟩ (.int .i64 r4)).setCell ⟨g, 6, none⟩ (.int .i64 r5)).setCell ⟨g, 7, none⟩ (.int .i64 r6)).setCell ⟨g, 8, none⟩ (.int .i64 r7)).setCell ⟨g, 9, none⟩ (.slice A' mem.length cap')).setCell ⟨g, 10, none⟩ (.slice none 0 0)).setCell ⟨g, 11, none⟩ (.slice none 0 0)).setCell ⟨g, 12, none⟩ (.int .i64 0)).setCell ⟨g, 13, none⟩ (.int .i64 fuel)) := by
 rw [Nat.zero_add] at hr
 have h0 := St.start hw hg hr
 have h1 := ((((((((((((((h0.put tMach_ne 0 (.slice A n cl)).put tMach_ne 1 (.int .i64 r0)).put tMach_ne 2 (.int .i64 r1)).put tMach_ne 3 (.int .i64 r2)).put tMach_ne 4 (.int .i64 r3)).put tMach_ne 5 (.int .i64 r4)).put tMach_ne 6 (.int .i64 r5)).put tMach_ne 7 (.int .i64 r6)).put tMach_ne 8 (.int .i64 r7)).put tMach_ne 9 (.slice A' mem.length cap')).put tMach_ne 10 (.slice none 0 0)).put tMach_ne 11 (.slice none 0 0)).put tMach_ne 12 (.int .i64 0)).put tMach_ne 13 (.int .i64 fuel))
 refine ⟨g, rfl, ⟨_, _, _, h1⟩, ?_⟩
 iterate 14 refine Below.setCell ?_ (by exact hg) _
 exact hb
def RunRel (l : List Cf.Ins) (m0 : Cf.Mach) (f0 : Nat) (w2 : World) (g : Nat) (A : Option Addr) (cl : Nat) (ev : Value) (wr : World) : Prop :=
 ∃ (m : Cf.Mach) (k : Nat) (z : Int), ev = .int .i64 z ∧ 0 ≤ z ∧ k ≤ 20000 ∧ Cf.MOk m ∧ PM wr w2.heap.size g A l.length cl m k ∧ Below w2.heap.size w2 wr ∧ ((z = 0 ∧ Cf.runM l f0 m0 = Cf.runM l k m) ∨ (z ≠ 0 ∧ Cf.runM l f0 m0 = (z, m)))
set_option maxRecDepth 100000 in
set_option maxHeartbeats 2000000 in
theorem run_anyE (l : List Cf.Ins) (A : Option Addr) (cl : Nat) (r0 r1 r2 r3 r4 r5 r6 r7 : Int) (mem : List Int) (M : Option Addr) (cm : Nat) (fuel : Int) (w : World)
  (hC : Codes w A l) (hL : TabL w) (hF : TabF w) (hl : l.length ≤ maxLen) (hI : Ints w M mem) (hm : mem.length ≤ maxLen) :
  Calls Tryz.prog 169 #[.slice A l.length cl, .agg #[.int .i64 r0, .int .i64 r1, .int .i64 r2, .int .i64 r3, .int .i64 r4, .int .i64 r5, .int .i64 r6, .int .i64 r7], .slice M mem.length cm, .int .i64 fuel] w
   (RunPostE (Cf.runT l [r0, r1, r2, r3, r4, r5, r6, r7] mem fuel) w) := by
 obtain ⟨w2, hw2⟩ : ∃ w2 : World, w2 = (w.alloc (.cells #[.int .i64 r0, .int .i64 r1, .int .i64 r2, .int .i64 r3, .int .i64 r4, .int .i64 r5, .int .i64 r6, .int .i64 r7] 171)).alloc
  (.cells #[.int .i64 0, .int .i64 0, .int .i64 0, .int .i64 0, .int .i64 0, .int .i64 0, .int .i64 0, .int .i64 0, .int .i64 0, .slice none 0 0, .slice none 0 0] 175) := ⟨_, rfl⟩
 have hz2 : w2.heap.size = w.heap.size + 2 := by rw [hw2]; simp
 have hb2 : Below w.heap.size w w2 := by rw [hw2]; exact ((Below.refl _ _).alloc (Nat.le_refl _) _).alloc (by simp) _
 have k5 : Wb w2 w.heap.size 171 [.int .i64 r0, .int .i64 r1, .int .i64 r2, .int .i64 r3, .int .i64 r4, .int .i64 r5, .int .i64 r6, .int .i64 r7] := by rw [hw2]; exact (Wb.new w _ [_, _, _, _, _, _, _, _]).alloc _
 have k8 : Wb w2 (w.heap.size + 1) 175 [.int .i64 0, .int .i64 0, .int .i64 0, .int .i64 0, .int .i64 0, .int .i64 0, .int .i64 0, .int .i64 0, .int .i64 0, .slice none 0 0, .slice none 0 0] := by
  rw [hw2]
  have := Wb.new (w.alloc (.cells #[.int .i64 r0, .int .i64 r1, .int .i64 r2, .int .i64 r3, .int .i64 r4, .int .i64 r5, .int .i64 r6, .int .i64 r7] 171)) 175 [.int .i64 0, .int .i64 0, .int .i64 0, .int .i64 0, .int .i64 0, .int .i64 0, .int .i64 0, .int .i64 0, .int .i64 0, .slice none 0 0, .slice none 0 0]
  simpa using this
 have Hw2 := Lib.hid hw2
 have Hz2 := Lib.hid hz2
 have HK := Lib.hid (check_run l A cl r0 r1 r2 r3 r4 r5 r6 r7 mem M cm fuel w2 (hC.below hb2) (hL.below hb2) (hF.below hb2) hl (hI.below hb2) hm)
 clear hw2 hz2
 by_cases he : Cf.runE l [r0, r1, r2, r3, r4, r5, r6, r7] mem fuel = 0
 ·obtain ⟨hf, hml, hfu, hrw, hmw, hrun⟩ := runT_good l _ mem fuel he
  rw [he] at HK
  have HR := Lib.hid hrun
  obtain ⟨f0, hf0⟩ := Int.eq_ofNat_of_zero_le hfu.1
  subst hf0
  have hrl := Cf.fault_len l hf
  obtain ⟨i0, hi, hz0, hz1, hz2⟩ := info_parts infoInt
  have Hi := Lib.hid hi
  have Hz0 := Lib.hid hz0
  have Hz1 := Lib.hid hz1
  have Hzb := Lib.hid hz2
  have Hrw := Lib.hid hrw
  have Hmw := Lib.hid hmw
  have Hf := Lib.hid hf
  clear hi hz0 hz1 hz2 hrun he hrw hmw hf
  go_enter Tryz.func169, Tryz.ntmps169
  go_wp2_with fail
  rw [← Hw2.out]
  refine HK.out.mono ?_
  rintro e w3 ⟨rfl, hb3⟩
  have k5' := k5.below hb3 (by rw [Hz2.out]; omega)
  have hb4 := hb2.trans (hb3.mono hb2.size)
  have hz3 : w.heap.size + 2 ≤ w3.heap.size := by have := hb3.size; rw [Hz2.out] at this; exact this
  have q0 := k5'.cell 0
  have q1 := k5'.cell 1
  have q2 := k5'.cell 2
  have q3 := k5'.cell 3
  have q4 := k5'.cell 4
  have q5 := k5'.cell 5
  have q6 := k5'.cell 6
  have q7 := k5'.cell 7
  simp only [List.getElem?_cons_zero, List.getElem?_cons_succ] at q0 q1 q2 q3 q4 q5 q6 q7
  have HI := Lib.hid (hI.below hb4)
  have HK5 := Lib.hid k5'
  clear k5' k5 HK
  go_upto_region 4 with fail
  go_cut [11] from 22 to 28 (fun x wx => StartRel w2 A l.length cl [r0, r1, r2, r3, r4, r5, r6, r7] mem f0 x wx)
  case first =>
   have HB3 := Lib.hid hb3.size
   have hn3 : w3.heap.size ≠ w.heap.size := by omega
   have hn3' : w3.heap.size + 1 ≠ w.heap.size := by omega
   have HBa := Lib.hid (show Below w3.heap.size w3 (w3.alloc (.cells #[] 3)).drew from ((Below.refl _ _).alloc (Nat.le_refl _) _).drew)
   have HBb := Lib.hid (show Below w3.heap.size w3 ((w3.alloc (.cells #[] 3)).alloc machO).drew from (((Below.refl _ _).alloc (Nat.le_refl _) _).alloc (by simp) _).drew)
   have HBc := Lib.hid (show Below w3.heap.size w3 ((w3.alloc machO).alloc (.cells #[] 3)).drew from (((Below.refl _ _).alloc (Nat.le_refl _) _).alloc (by simp) _).drew)
   have HMb := Lib.hid (show Wb ((w3.alloc (.cells #[] 3)).alloc machO).drew (w3.heap.size + 1) 194 machZ by have := Wb.new (w3.alloc (.cells #[] 3)) 194 machZ; rw [show (w3.alloc (.cells #[] 3)).heap.size = w3.heap.size + 1 by simp] at this; exact this)
   have HMc := Lib.hid (show Wb ((w3.alloc machO).alloc (.cells #[] 3)).drew w3.heap.size 194 machZ from (Wb.new w3 194 machZ).alloc _)
   have HWa := Lib.hid (show Wb (w3.alloc (.cells #[] 3)).drew w.heap.size 171 [.int .i64 r0, .int .i64 r1, .int .i64 r2, .int .i64 r3, .int .i64 r4, .int .i64 r5, .int .i64 r6, .int .i64 r7] from HK5.out.alloc _)
   have HWb := Lib.hid (show Wb ((w3.alloc (.cells #[] 3)).alloc machO).drew w.heap.size 171 [.int .i64 r0, .int .i64 r1, .int .i64 r2, .int .i64 r3, .int .i64 r4, .int .i64 r5, .int .i64 r6, .int .i64 r7] from (HK5.out.alloc _).alloc _)
   have HWc := Lib.hid (show Wb ((w3.alloc machO).alloc (.cells #[] 3)).drew w.heap.size 171 [.int .i64 r0, .int .i64 r1, .int .i64 r2, .int .i64 r3, .int .i64 r4, .int .i64 r5, .int .i64 r6, .int .i64 r7] from (HK5.out.alloc _).alloc _)
   go_region_held3 (fun W => W.cell? ⟨w.heap.size, 0, none⟩ = some (.int .i64 r0) ∧ W.cell? ⟨w.heap.size, 1, none⟩ = some (.int .i64 r1) ∧ W.cell? ⟨w.heap.size, 2, none⟩ = some (.int .i64 r2) ∧ W.cell? ⟨w.heap.size, 3, none⟩ = some (.int .i64 r3) ∧ W.cell? ⟨w.heap.size, 4, none⟩ = some (.int .i64 r4) ∧ W.cell? ⟨w.heap.size, 5, none⟩ = some (.int .i64 r5) ∧ W.cell? ⟨w.heap.size, 6, none⟩ = some (.int .i64 r6) ∧ W.cell? ⟨w.heap.size, 7, none⟩ = some (.int .i64 r7))
    (first | go_keep | (go_split_ands; refine ⟨?_, ?_, ?_, ?_, ?_, ?_, ?_, ?_⟩ <;> (rw [Hgr.out.cell_far _ (by simp; omega) (by simp [Value.ownBlock]; omega)]; assumption)) | (refine ⟨?_, ?_, ?_, ?_, ?_, ?_, ?_, ?_⟩ <;> go_keep) | exact keep8 (HW5.out.alloc _))
    (first
      | (refine step_append_src (by rfl) _ _ _ (by rfl) w2.heap.size 3 i0 (.int .i64 0) 1 8 Tryz.underlying23 Hi.out Hz0.out Hz1.out Hzb.out rfl (by omega) encZ_len one_z _ 0 [] (by rfl) (own_a w3 w2.heap.size HB3.out) M cm mem (by rfl) (RdS.below HI.out HBa.out) (by omega) (by omega) (by simp; exact Nat.le_succ_of_le HB3.out) ?_; intro v' w4 hown hgr hat; have HRow := Lib.hid (row_of hown); obtain ⟨A', cap', rfl⟩ := own_form hown; have HW5 := Lib.hid (HWa.out.grown hgr (by simp [Value.ownBlock]; omega)); have hn4 : w4.heap.size ≠ w.heap.size := (by have := hgr.size; simp at this; omega); have Hgr := Lib.hid hgr; have Hat := Lib.hid hat; clear hown hgr hat)
      | (refine step_append_src (by rfl) _ _ _ (by rfl) w2.heap.size 3 i0 (.int .i64 0) 1 8 Tryz.underlying23 Hi.out Hz0.out Hz1.out Hzb.out rfl (by omega) encZ_len one_z _ 0 [] (by rfl) (own_b w3 w2.heap.size machO HB3.out) M cm mem (by rfl) (RdS.below HI.out HBb.out) (by omega) (by omega) (by simp; exact Nat.le_succ_of_le (Nat.le_succ_of_le HB3.out)) ?_; intro v' w4 hown hgr hat; have HRow := Lib.hid (row_of hown); obtain ⟨A', cap', rfl⟩ := own_form hown; have HW5 := Lib.hid (HWb.out.grown hgr (by simp [Value.ownBlock]; omega)); have HB := HMb.out.grown hgr (by simp [Value.ownBlock]); have m0 := HB.cell 0; have m1 := HB.cell 1; have m2 := HB.cell 2; have m3 := HB.cell 3; have m4 := HB.cell 4; have m5 := HB.cell 5; have m6 := HB.cell 6; have m7 := HB.cell 7; have m8 := HB.cell 8; have m9 := HB.cell 9; have m10 := HB.cell 10; have m11 := HB.cell 11; have m12 := HB.cell 12; have m13 := HB.cell 13; simp only [machZ, List.getElem?_cons_zero, List.getElem?_cons_succ] at m0 m1 m2 m3 m4 m5 m6 m7 m8 m9 m10 m11 m12 m13; have mf := HB.open_; have HBm := Lib.hid HB; have Hgr := Lib.hid hgr; have Hat := Lib.hid hat; clear hown hgr hat HB)
      | (refine step_append_src (by rfl) _ _ _ (by rfl) w2.heap.size 3 i0 (.int .i64 0) 1 8 Tryz.underlying23 Hi.out Hz0.out Hz1.out Hzb.out rfl (by omega) encZ_len one_z _ 0 [] (by rfl) (own_c w3 w2.heap.size machO HB3.out) M cm mem (by rfl) (RdS.below HI.out HBc.out) (by omega) (by omega) (by simp; exact Nat.le_succ_of_le (Nat.le_succ_of_le HB3.out)) ?_; intro v' w4 hown hgr hat; have HRow := Lib.hid (row_of hown); obtain ⟨A', cap', rfl⟩ := own_form hown; have HW5 := Lib.hid (HWc.out.grown hgr (by simp [Value.ownBlock]; omega)); have HB := HMc.out.grown hgr (by simp [Value.ownBlock]); have m0 := HB.cell 0; have m1 := HB.cell 1; have m2 := HB.cell 2; have m3 := HB.cell 3; have m4 := HB.cell 4; have m5 := HB.cell 5; have m6 := HB.cell 6; have m7 := HB.cell 7; have m8 := HB.cell 8; have m9 := HB.cell 9; have m10 := HB.cell 10; have m11 := HB.cell 11; have m12 := HB.cell 12; have m13 := HB.cell 13; simp only [machZ, List.getElem?_cons_zero, List.getElem?_cons_succ] at m0 m1 m2 m3 m4 m5 m6 m7 m8 m9 m10 m11 m12 m13; have mf := HB.open_; have HBm := Lib.hid HB; have Hgr := Lib.hid hgr; have Hat := Lib.hid hat; clear hown hgr hat HB))
   ·go_wp2_with fail
    go_meet
    exact start_a ((hb3.trans ((HBa.out).mono HB3.out)).grown Hgr.out (by simp; exact Nat.le_succ_of_le HB3.out) (fun k hk => by simp [Value.ownBlock] at hk; subst hk; exact HB3.out)) HRow.out
   ·go_wp2_with fail
    go_meet
    exact start_b ((hb3.trans ((HBb.out).mono HB3.out)).grown Hgr.out (by simp; exact Nat.le_succ_of_le (Nat.le_succ_of_le HB3.out)) (fun k hk => by simp [Value.ownBlock] at hk; subst hk; exact HB3.out)) HRow.out HBm.out (Nat.le_succ_of_le HB3.out)
   ·go_wp2_with fail
    go_meet
    exact start_b ((hb3.trans ((HBc.out).mono HB3.out)).grown Hgr.out (by simp; exact Nat.le_succ_of_le (Nat.le_succ_of_le HB3.out)) (fun k hk => by simp [Value.ownBlock] at hk; subst hk; exact Nat.le_succ_of_le HB3.out)) HRow.out HBm.out HB3.out
  case rest =>
   obtain ⟨g, rfl, hPM, hbc⟩ := hcut
   have HC2 := Lib.hid (hC.below hb2)
   have HPM := Lib.hid hPM
   have Hbc := Lib.hid hbc
   have hm0 : Cf.MOk ⟨[r0, r1, r2, r3, r4, r5, r6, r7], mem, [], [], 0⟩ := ⟨rfl, Hrw.out, Hmw.out, by simp, by simp, by simp, by simp, by simp⟩
   have Hm0 := Lib.hid hm0
   have Hk8 := Lib.hid k8
   clear hPM hbc hm0 q0 q1 q2 q3 q4 q5 q6 q7 HK5 k8 hb3 hb4 HI
   go_wp2
   go_loopw [12] (fun ev wr => RunRel l ⟨[r0, r1, r2, r3, r4, r5, r6, r7], mem, [], [], 0⟩ f0 w2 g A cl ev wr) (fun ev wr => 2 * fuelAt wr g + (1 - (intOf ev).toNat))
   case atStart => exact ⟨_, f0, 0, rfl, by omega, by omega, Hm0.out, HPM.out, Hbc.out, .inl ⟨rfl, rfl⟩⟩
   case round =>
    obtain ⟨m, k, z, rfl, hz0, hk, hok, hP, hbr, hor⟩ := hrel
    rcases hor with ⟨rfl, hrun⟩ | ⟨hzne, hrun⟩
    ·have Hrun := Lib.hid hrun
     have Hok := Lib.hid hok
     clear hrun hok
     cases k with
     | zero =>
       go_wp2_with fail
       refine (step_zero m Hok.out wr w2.heap.size g A l.length cl hP).mono ?_
       rintro e w5 ⟨rfl, h2, h3⟩
       go_wp2
       go_roundw
       case rel => exact ⟨m, 0, 2, rfl, by omega, by omega, Hok.out, h2, hbr.trans h3, .inr ⟨by omega, by rw [Hrun.out]; rfl⟩⟩
       case measure =>
        rw [h2.fuel Hok.out.regs, hP.fuel Hok.out.regs]
        simp [intOf, Cf.Step.code]
     | succ k =>
       rw [show ((k + 1 : Nat) : Int) = (k : Int) + 1 by omega] at hP
       have hlow := hP.fuel Hok.out.regs
       have Hlow := Lib.hid hlow
       clear hlow
       go_wp2_with fail
       refine (step_succ l (by have := Hf.out; unfold Cf.fault at this; rwa [if_neg (by omega)] at this) hrl m Hok.out k (by omega) w2 wr g A cl HC2.out hbr hP).mono ?_
       rintro e w5 ⟨rfl, h2, h3⟩
       cases hst : Cf.step l m with
       | on m' =>
         rw [hst] at h2
         have hok' := Cf.step_ok (by have := Hf.out; unfold Cf.fault at this; rwa [if_neg (by omega)] at this) hrl Hok.out hst
         have Hst := Lib.hid hst
         clear hst
         go_wp2
         go_roundw
         case rel => exact ⟨m', k, 0, rfl, by omega, by omega, hok', h2, hbr.trans h3, .inl ⟨rfl, by rw [Hrun.out, Cf.run_on l k m m' Hst.out]⟩⟩
         case measure =>
          rw [h2.fuel hok'.regs, Hlow.out]
          simp [intOf, Cf.Step.code]
       | fin r m' =>
         rw [hst] at h2
         obtain ⟨hok', hrne, hr0⟩ := step_end hrl Hok.out hst
         have Hst := Lib.hid hst
         clear hst
         go_wp2
         go_roundw
         case rel => exact ⟨m', k, r, rfl, hr0, by omega, hok', h2, hbr.trans h3, .inr ⟨hrne, by rw [Hrun.out, Cf.run_fin l k m m' r Hst.out]⟩⟩
         case measure =>
          rw [h2.fuel hok'.regs, Hlow.out]
          simp [intOf, Cf.Step.code]
          omega
    ·have hzb : (z == 0) = false := by rw [beq_eq_false_iff_ne]; exact hzne
     have Hrun := Lib.hid hrun
     obtain ⟨vm, vt, vr, hs⟩ := hP
     obtain ⟨T, ct, rfl⟩ := hs.told.form
     obtain ⟨M', cm', rfl⟩ := hs.mem.form
     obtain ⟨regs, mem', told, back, pc⟩ := m
     obtain ⟨hrl8, hwords, hmemw, htold, htoldw, hback, hbacks, hpc⟩ := hok
     dsimp only at hrl8 hs htold
     match regs, hrl8 with
     | [s0, s1, s2, s3, s4, s5, s6, s7], _ =>
       have p1 : wr.cell? ⟨g, 1, none⟩ = some (.int .i64 s0) := hs.blk.cell 1
       have p2 : wr.cell? ⟨g, 2, none⟩ = some (.int .i64 s1) := hs.blk.cell 2
       have p3 : wr.cell? ⟨g, 3, none⟩ = some (.int .i64 s2) := hs.blk.cell 3
       have p4 : wr.cell? ⟨g, 4, none⟩ = some (.int .i64 s3) := hs.blk.cell 4
       have p5 : wr.cell? ⟨g, 5, none⟩ = some (.int .i64 s4) := hs.blk.cell 5
       have p6 : wr.cell? ⟨g, 6, none⟩ = some (.int .i64 s5) := hs.blk.cell 6
       have p7 : wr.cell? ⟨g, 7, none⟩ = some (.int .i64 s6) := hs.blk.cell 7
       have p8 : wr.cell? ⟨g, 8, none⟩ = some (.int .i64 s7) := hs.blk.cell 8
       have p9 : wr.cell? ⟨g, 9, none⟩ = some (.slice M' mem'.length cm') := hs.blk.cell 9
       have p10 : wr.cell? ⟨g, 10, none⟩ = some (.slice T told.length ct) := hs.blk.cell 10
       have k8r := Hk8.out.below hbr (by rw [Hz2.out]; omega)
       have q0 := k8r.cell 0
       have q1 := k8r.cell 1
       have q2 := k8r.cell 2
       have q3 := k8r.cell 3
       have q4 := k8r.cell 4
       have q5 := k8r.cell 5
       have q6 := k8r.cell 6
       have q7 := k8r.cell 7
       have q8 := k8r.cell 8
       have q9 := k8r.cell 9
       have q10 := k8r.cell 10
       simp only [List.getElem?_cons_zero, List.getElem?_cons_succ] at q0 q1 q2 q3 q4 q5 q6 q7 q8 q9 q10
       have qf := k8r.open_
       have Hs := Lib.hid hs
       have hbf := hb2.trans (hbr.mono hb2.size)
       have Hbf := Lib.hid hbf
       clear hs k8r hbf hbr hrun hzne
       go_wp2
       refine bodyPost_ret (v := .tuple #[.agg #[.int .i64 z, .int .i64 s0, .int .i64 s1, .int .i64 s2, .int .i64 s3, .int .i64 s4, .int .i64 s5, .int .i64 s6, .int .i64 s7, .slice T told.length ct, .slice M' mem'.length cm'], .int .i64 0]) (by simp [results, Tryz.results169, go_sem, q0, q1, q2, q3, q4, q5, q6, q7, q8, q9, q10]) rfl ?_
       rw [HR.out, Int.toNat_natCast, Hrun.out]
       refine ⟨T, M', ct, cm', rfl, ?_, ?_, ?_, Row.cap Hs.out.mem, (own_fresh Hs.out.mem rfl).mono (by rw [Hz2.out]; omega), ?_⟩
       ·refine Row.ints (base := w2.heap.size) (cap := ct) ?_
        iterate 11 refine Row.low ?_ (by show w.heap.size + 1 < w2.heap.size; rw [Hz2.out]; omega) _
        exact Hs.out.told
       ·refine Row.ints (base := w2.heap.size) (cap := cm') ?_
        iterate 11 refine Row.low ?_ (by show w.heap.size + 1 < w2.heap.size; rw [Hz2.out]; omega) _
        exact Hs.out.mem
       ·iterate 11 refine Below.setCell ?_ (by simp) _
        exact Hbf.out
       ·refine Row.base (b := w2.heap.size) ?_ (by rw [Hz2.out]; omega)
        iterate 11 refine Row.low ?_ (by show w.heap.size + 1 < w2.heap.size; rw [Hz2.out]; omega) _
        exact Hs.out.mem
 ·have HR := Lib.hid (runT_bad l _ mem fuel he)
  generalize Cf.runE l [r0, r1, r2, r3, r4, r5, r6, r7] mem fuel = er at *
  have hq : (er != 0) = true := by rw [bne_iff_ne]; exact he
  clear he
  go_enter Tryz.func169, Tryz.ntmps169
  go_wp2_with fail
  rw [← Hw2.out]
  refine HK.out.mono ?_
  rintro e w3 ⟨rfl, hb3⟩
  have k8' := k8.below hb3 (by rw [Hz2.out]; omega)
  have hb4 := hb2.trans (hb3.mono hb2.size)
  have hz3 : w.heap.size + 2 ≤ w3.heap.size := by have := hb3.size; rw [Hz2.out] at this; exact this
  have q0 := k8'.cell 0
  have q1 := k8'.cell 1
  have q2 := k8'.cell 2
  have q3 := k8'.cell 3
  have q4 := k8'.cell 4
  have q5 := k8'.cell 5
  have q6 := k8'.cell 6
  have q7 := k8'.cell 7
  have q8 := k8'.cell 8
  have q9 := k8'.cell 9
  have q10 := k8'.cell 10
  simp only [List.getElem?_cons_zero, List.getElem?_cons_succ] at q0 q1 q2 q3 q4 q5 q6 q7 q8 q9 q10
  have qf := k8'.open_
  clear k5 k8 hb3 hb2 k8'
  go_wp2
  refine bodyPost_ret (v := .tuple #[.agg #[.int .i64 0, .int .i64 0, .int .i64 0, .int .i64 0, .int .i64 0, .int .i64 0, .int .i64 0, .int .i64 0, .int .i64 0, .slice none 0 0, .slice none 0 0], .int .i64 er]) (by simp [results, Tryz.results169, go_sem, q0, q1, q2, q3, q4, q5, q6, q7, q8, q9, q10]) rfl ?_
  rw [HR.out]
  refine ⟨none, none, 0, 0, rfl, .inl rfl, .inl rfl, ?_, Nat.le_refl _, .inl rfl, ⟨rfl, .inl ⟨rfl, rfl⟩⟩⟩
  iterate 11 refine Below.setCell ?_ (by simp) _
  exact hb4
end Go.Proofs.YtnnhhbjbdmgpiaaGreatDoor
