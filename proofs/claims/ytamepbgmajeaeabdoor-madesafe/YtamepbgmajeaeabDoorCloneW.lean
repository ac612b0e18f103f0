/- Walks of the laws' own helpers: a slice of instructions cloned. -/
import Derived.Test.YtamepbgmajeaeabDoorAppS
import Derived.Test.YtamepbgmajeaeabDoorInsK
namespace Go.Proofs.YtamepbgmajeaeabDoor
open Go.RowKit

theorem one_i : ∀ x, ∀ u ∈ encI x, u.oneCell' = true := by
  intro x u hu
  simp [encI] at hu
  rcases hu with rfl | rfl | rfl | rfl <;> rfl
/-- A new row without cells. -/
theorem own_empty (w : World) (base : Nat) (e : TypeId) (size : Nat) (h : base ≤ w.heap.size) : (w.alloc (.cells #[] e)).ownsRow base e size (.slice (some ⟨w.heap.size, 0, none⟩) 0 0) 0 [] := by
  refine ⟨by simp, .inr ⟨w.heap.size, 0, #[], rfl, h, ?_, Nat.le_refl _, by simp, by simp, by simp⟩⟩
  exact heap_alloc_new w _
def ClonePost (l : List Cf.Ins) (w : World) (e : Ending) (w' : World) : Prop :=
  ∃ (K : Option Addr) (ck : Nat), e = .returned (.slice K l.length ck) ∧ w'.ownsRow w.heap.size 30 4 (.slice K l.length ck) l.length (l.flatMap encI) ∧ Below w.heap.size w w'
set_option maxHeartbeats 1000000 in
theorem clone_any (l : List Cf.Ins) (ad : Addr) (cap : Nat) (w : World) (hR : Codes w (some ad) l) (hl : l.length ≤ 200) :
    Calls Tryd.prog 8 #[.slice (some ad) l.length cap] w (ClonePost l w) := by
  obtain ⟨i0, hi, hz0, hz1, hz2⟩ := info_parts infoIns
  have Hi := Lib.hid hi
  have Hz0 := Lib.hid hz0
  have Hz1 := Lib.hid hz1
  have Hz2 := Lib.hid hz2
  have hb0 : Below w.heap.size w (w.alloc (.cells #[] 30)) := (Below.refl _ _).alloc (Nat.le_refl _) _
  have HR := Lib.hid (hR.below hb0)
  clear hi hz0 hz1 hz2 hR
  have hnil : ∀ w : World, (binOp BinOp.eql 23 (.slice (some ad) l.length cap) (.slice none 0 0)).run Tryd.prog w = .ok (.bool false) w := fun _ => by kernel_rfl
  go_enter Tryd.func8, Tryd.ntmps8
  go_wp2_with (at_builtin; refine wpList_append_src rfl _ _ 23 rfl w.heap.size 30 i0 (.agg #[.int .i64 0, .int .i64 0, .int .i64 0, .int .i64 0]) 4 32 Tryd.underlying23 Hi.out Hz0.out Hz1.out Hz2.out rfl (by decide) encI_len one_i _ 0 [] rfl (own_empty w w.heap.size _ _ (Nat.le_refl _)) (some ad) cap l rfl HR.out (by unfold maxLen; omega) (by omega) (by simp) ?_)
  intro v' w1 hown hgr hat
  obtain ⟨K, ck, rfl⟩ := own_form hown
  have hb1 : Below w.heap.size w w1 := hb0.grown hgr (by simp) (fun k hk => by simp [Value.ownBlock] at hk; omega)
  have Hown := Lib.hid hown
  clear hown hgr hat
  go_wp2
  go_ret
  exact ⟨K, ck, rfl, Hown.out, hb1⟩
end Go.Proofs.YtamepbgmajeaeabDoor
