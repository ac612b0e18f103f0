/- Walks of chapter 4: the program's Copy once more: the rows may be written. -/
import Derived.Test.YtnnhhbjbdmgpiaaNwK
namespace Go.Proofs.Ytnnhhbjbdmgpiaa
open Go.RowKit

abbrev tIns : TypeId := 51
/-- A module as a call hands it back, its rows in memory of their own. -/
def CopyNw (n : List UInt8) (l : List Cf.Ins) (d : List Int) (w : World) (e : Ending) (w' : World) : Prop :=
  ∃ (A B : Option Addr) (ca cb : Nat), e = .returned (.agg #[.string ⟨n.toArray⟩, .slice A l.length ca, .slice B d.length cb]) ∧ Nw 4 encI w' tIns w.heap.size A l ∧ Nw 1 encZ w' tInt w.heap.size B d ∧ Below w.heap.size w w'
theorem copy_done2 {n : List UInt8} {l : List Cf.Ins} {d : List Int} {w wb w3 : World} {A2 A3 : Option Addr} (c2 c3 : Nat) (v0 v1 v2 : Value) (hb0 : Below w.heap.size w wb) (hlt : w.heap.size + 1 < wb.heap.size) (h2 : Nw 4 encI w3 tIns wb.heap.size A2 l) (h3 : Nw 1 encZ w3 tInt wb.heap.size A3 d) (hB : Below wb.heap.size wb w3) :
    CopyNw n l d w (.returned (.agg #[.string ⟨n.toArray⟩, .slice A2 l.length c2, .slice A3 d.length c3])) (((w3.setCell ⟨w.heap.size + 1, 0, none⟩ v0).setCell ⟨w.heap.size + 1, 1, none⟩ v1).setCell ⟨w.heap.size + 1, 2, none⟩ v2) :=
  ⟨A2, A3, c2, c3, rfl, (((h2.old (p := ⟨w.heap.size + 1, 0, none⟩) hlt v0).old (p := ⟨w.heap.size + 1, 1, none⟩) hlt v1).old (p := ⟨w.heap.size + 1, 2, none⟩) hlt v2).mono hb0.size,
    (((h3.old (p := ⟨w.heap.size + 1, 0, none⟩) hlt v0).old (p := ⟨w.heap.size + 1, 1, none⟩) hlt v1).old (p := ⟨w.heap.size + 1, 2, none⟩) hlt v2).mono hb0.size,
    (((hb0.trans (hB.mono hb0.size)).setCell (p := ⟨w.heap.size + 1, 0, none⟩) (by show w.heap.size ≤ w.heap.size + 1; omega) v0).setCell (p := ⟨w.heap.size + 1, 1, none⟩) (by show w.heap.size ≤ w.heap.size + 1; omega) v1).setCell (p := ⟨w.heap.size + 1, 2, none⟩) (by show w.heap.size ≤ w.heap.size + 1; omega) v2⟩

set_option maxRecDepth 100000 in
set_option maxHeartbeats 4000000 in
theorem copy_nw (n : List UInt8) (l : List Cf.Ins) (d : List Int) (A B : Option Addr) (ca cb : Nat) (w : World) (hC : Codes w A l) (hD : Ints w B d) (hn : n.length ≤ 140737488355328) (hl : l.length ≤ maxLen) (hd : d.length ≤ maxLen) (hlb : l.length * 32 ≤ 140737488355328) (hdb : d.length * 8 ≤ 140737488355328) :
    Calls Try.prog 6 #[.agg #[.string ⟨n.toArray⟩, .slice A l.length ca, .slice B d.length cb]] w (CopyNw n l d w) := by
  obtain ⟨i1, hi1, hy0, hy1, hy2⟩ := info_parts infoNum
  obtain ⟨i0, hi, hz0, hz1, hz2⟩ := info_parts infoIns
  have Hi := Lib.hid hi
  have Hz0 := Lib.hid hz0
  have Hz1 := Lib.hid hz1
  have Hz2 := Lib.hid hz2
  have Hi1 := Lib.hid hi1
  have Hy0 := Lib.hid hy0
  have Hy1 := Lib.hid hy1
  have Hy2 := Lib.hid hy2
  have HCl := Lib.hid (fun W => cloneS_any n W (by omega))
  have HC := Lib.hid hC
  have HD := Lib.hid hD
  clear hi hz0 hz1 hz2 hi1 hy0 hy1 hy2 hC hD
  go_enter Try.func6, Try.ntmps6
  go_wp2_with fail
  have hb0 : Below w.heap.size w ((w.alloc (.cells #[.string ⟨n.toArray⟩, .slice A l.length ca, .slice B d.length cb] 34)).alloc (.cells #[.string ⟨#[]⟩, .slice none 0 0, .slice none 0 0] 34)) := ((Below.refl _ _).alloc (Nat.le_refl _) _).alloc (by simp) _
  have hx0 := (Wb.new w 34 [.string ⟨n.toArray⟩, .slice A l.length ca, .slice B d.length cb]).alloc (.cells #[.string ⟨#[]⟩, .slice none 0 0, .slice none 0 0] 34)
  have hx1 : Wb ((w.alloc (.cells #[.string ⟨n.toArray⟩, .slice A l.length ca, .slice B d.length cb] 34)).alloc (.cells #[.string ⟨#[]⟩, .slice none 0 0, .slice none 0 0] 34)) (w.heap.size + 1) 34 [.string ⟨#[]⟩, .slice none 0 0, .slice none 0 0] := by
    have := Wb.new (w.alloc (.cells #[.string ⟨n.toArray⟩, .slice A l.length ca, .slice B d.length cb] 34)) 34 [.string ⟨#[]⟩, .slice none 0 0, .slice none 0 0]
    simpa using this
  have HCB := Lib.hid (HC.out.below hb0)
  have HDB := Lib.hid (HD.out.below hb0)
  have HB0 := Lib.hid hb0
  have Hx0 := Lib.hid hx0
  have Hx1 := Lib.hid hx1
  clear hb0 HC HD hx0 hx1
  generalize (w.alloc (.cells #[.string ⟨n.toArray⟩, .slice A l.length ca, .slice B d.length cb] 34)).alloc (.cells #[.string ⟨#[]⟩, .slice none 0 0, .slice none 0 0] 34) = wb at *
  have c0 := Hx0.out.cell 0
  have c1 := Hx0.out.cell 1
  have c2 := Hx0.out.cell 2
  simp only [List.getElem?_cons_zero, List.getElem?_cons_succ] at c0 c1 c2
  have HSk : Hid (∀ W : World, Below wb.heap.size wb W → W.cell? ⟨w.heap.size, 0, none⟩ = some (.string ⟨n.toArray⟩) ∧ W.cell? ⟨w.heap.size, 1, none⟩ = some (.slice A l.length ca) ∧ W.cell? ⟨w.heap.size, 2, none⟩ = some (.slice B d.length cb)) :=
    Lib.hid (fun W hW => ⟨((Hx0.out.below hW Hx0.out.lt).cell 0), ((Hx0.out.below hW Hx0.out.lt).cell 1), ((Hx0.out.below hW Hx0.out.lt).cell 2)⟩)
  have hBr : Below wb.heap.size wb wb := Below.refl _ _
  go_region_held3 (fun W => W.cell? ⟨w.heap.size, 0, none⟩ = some (.string ⟨n.toArray⟩) ∧ W.cell? ⟨w.heap.size, 1, none⟩ = some (.slice A l.length ca) ∧ W.cell? ⟨w.heap.size, 2, none⟩ = some (.slice B d.length cb))
    (first | go_keep | exact HSk.out _ (by repeat (first | assumption | apply below_more | apply below_turn)))
    (first
      | (go_at_call 7
         refine (HCl.out _).mono ?_
         rintro e w1 ⟨rfl, hb1⟩
         have hB1 := below_step (a := wb) (by repeat (first | assumption | apply below_more | apply below_turn)) hb1)
      | (refine step_append_nw (by rfl) (.tmp 6) (.tmp 8) 32 (by rfl) 51 i0 (.agg #[.int .i64 0, .int .i64 0, .int .i64 0, .int .i64 0]) 4 32 Try.underlying32 Hi.out Hz0.out Hz1.out Hz2.out encI_len _ (by rfl) A ca l (by rfl) (HCB.out.below (by repeat (first | assumption | apply below_more | apply below_turn))) hl hlb ?_
         intro A2 c2' w2 hR2 hb2
         have hF2 := hR2.mono (below_size (a := wb) (by repeat (first | assumption | apply below_more | apply below_turn)))
         have hB2 := below_step (a := wb) (by repeat (first | assumption | apply below_more | apply below_turn)) hb2)
      | (refine step_append_nw (by rfl) (.tmp 10) (.tmp 12) 23 (by rfl) 3 i1 (.int .i64 0) 1 8 Try.underlying23 Hi1.out Hy0.out Hy1.out Hy2.out encZ_len _ (by rfl) B cb d (by rfl) (HDB.out.below (by repeat (first | assumption | apply below_more | apply below_turn))) hd hdb ?_
         intro A3 c3' w3 hR3 hb3
         have hF3 := hR3.mono (below_size (a := wb) (by repeat (first | assumption | apply below_more | apply below_turn)))
         have hB3 := below_step (a := wb) (by repeat (first | assumption | apply below_more | apply below_turn)) hb3
         have hx3 := Hx1.out.below hB3 Hx1.out.lt
         have k0 := hx3.cell 0
         have k1 := hx3.cell 1
         have k2 := hx3.cell 2
         have f0 := hx3.open_ 0
         have f1 := hx3.open_ 1
         have f2 := hx3.open_ 2
         simp only [List.getElem?_cons_zero, List.getElem?_cons_succ] at k0 k1 k2
         obtain ⟨m0, m1, m2⟩ := HSk.out _ hB3
         clear hx3)
      | fail)
  all_goals
    go_wp2
    refine bodyPost_ret (v := .agg #[.string ⟨n.toArray⟩, .slice A2 l.length c2', .slice A3 d.length c3']) (by simp [results, Try.results6, go_sem, k0, k1, k2]) rfl ?_
    exact copy_done2 c2' c3' _ _ _ HB0.out Hx1.out.lt (hF2.below (below_step (a := w2) (by repeat (first | exact Below.refl _ _ | apply below_more | apply below_turn)) hb3)) hF3 hB3
end Go.Proofs.Ytnnhhbjbdmgpiaa
