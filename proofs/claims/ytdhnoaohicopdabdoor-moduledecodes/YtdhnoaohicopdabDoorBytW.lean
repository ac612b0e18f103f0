/- Walks of chapter 4: the program's appendWord. -/
import Derived.Test.YtdhnoaohicopdabDoorBytK
namespace Go.Proofs.YtdhnoaohicopdabDoor
open Go.RowKit

set_option maxHeartbeats 1000000 in
theorem appendWord_any (v : Value) (l : List UInt8) (z : Nat) (hz : z ≤ 65535) (w : World) (base : Nat) (hr : BRow w base v l) (hbase : base ≤ w.heap.size) (hl : l.length ≤ 100000) :
    Calls Tryd.prog 40 #[v, .int .i64 z] w (AppPost base v l (Cf.encW z) w) := by
  obtain ⟨i0, hi, hz0, hz1, hz2⟩ := info_parts infoByte
  have Hi := Lib.hid hi
  have Hz0 := Lib.hid hz0
  have Hz1 := Lib.hid hz1
  have Hz2 := Lib.hid hz2
  have HR := Lib.hid hr
  have HW := Lib.hid (word_cells z hz)
  have hel : (Cf.encW z).length = 2 := rfl
  have HL := Lib.hid hel
  clear hi hz0 hz1 hz2 hr hel
  go_enter Tryd.func40, Tryd.ntmps40
  go_wp2_with (at_builtin; refine wpList_append_src rfl _ _ 49 rfl base 5 i0 (.int .u8 0) 1 1 Tryd.underlying49 Hi.out Hz0.out Hz1.out Hz2.out rfl (by decide) encB_len one_b v l.length (l.flatMap encB) rfl (HR.out.alloc _) (some ⟨w.heap.size, 0, none⟩) 2 (Cf.encW z) rfl (byts_new w _ _ _ HW.out) (by unfold maxLen; rw [HL.out]; omega) (by rw [HL.out]; omega) (by simp; omega) ?_)
  intro v' w1 hown hgr hat
  have Hown := Lib.hid hown
  have Hgr := Lib.hid hgr
  clear hown hgr hat
  go_wp2
  go_ret
  refine ⟨v', rfl, ?_, grown_alloc Hgr.out⟩
  unfold BRow
  rw [List.length_append, List.flatMap_append]
  exact Hown.out
end Go.Proofs.YtdhnoaohicopdabDoor
