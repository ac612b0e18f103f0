/- Walks of chapter 3: where each instruction comes to lie (the program's layout). -/
import Derived.Test.YtdhnoaohicopdabDoorCheckW
import Derived.Test.YtdhnoaohicopdabDoorMachW
namespace Go.Proofs.YtdhnoaohicopdabDoor
open Go.RowKit

theorem infoI : (Tryd.prog.info? 3).map (fun i => (i.zero, i.size, i.bytes)) = some (some (.int .i64 0), 1, 8) := by kernel_rfl
theorem Cf.place_le (l : List Cf.Ins) : ∀ k, Cf.place l k ≤ 3 * k := by
  intro k
  induction k with
  | zero => simp [Cf.place]
  | succ k ih =>
    cases hx : l[k]? with
    | none =>
      have h1 : l.length ≤ k := by simpa using hx
      have : Cf.place l (k + 1) = Cf.place l k := by
        unfold Cf.place
        rw [List.take_of_length_le (by omega), List.take_of_length_le h1]
      omega
    | some i =>
      rw [Cf.place_next hx]
      have : Cf.wid i ≤ 3 := by unfold Cf.wid; split <;> omega
      omega
def startsL (l : List Cf.Ins) (k : Nat) : List Int := (List.range k).map fun i => (Cf.place l i : Int)
theorem startsL_len (l : List Cf.Ins) (k : Nat) : (startsL l k).length = k := by simp [startsL]
theorem startsL_succ (l : List Cf.Ins) (k : Nat) : startsL l (k + 1) = startsL l k ++ [(Cf.place l k : Int)] := by simp [startsL, List.range_succ]
theorem startsL_at (l : List Cf.Ins) {i k : Nat} (h : i < k) : (startsL l k)[i]? = some (Cf.place l i : Int) := by simp [startsL, h]
def LayRel (l : List Cf.Ins) (w : World) (sv zv iv : Value) (wr : World) : Prop :=
  ∃ (k cap : Nat) (A : Option Addr), k ≤ l.length ∧ iv = .int .i64 k ∧ zv = .int .i64 (Cf.place l k : Nat) ∧ sv = .slice A k cap ∧ Row wr w.heap.size (.slice A k cap) (startsL l k) ∧ Below w.heap.size w wr
def LayPost (l : List Cf.Ins) (w : World) (e : Ending) (w' : World) : Prop :=
  ∃ (A : Option Addr) (cap : Nat), e = .returned (.tuple #[.slice A l.length cap, .int .i64 (Cf.place l l.length : Nat)]) ∧ Row w' w.heap.size (.slice A l.length cap) (startsL l l.length) ∧ Below w.heap.size w w'
set_option maxRecDepth 100000 in
set_option maxHeartbeats 4000000 in
theorem layout_any (l : List Cf.Ins) (A0 : Option Addr) (c0 : Nat) (w : World) (hR : Codes w A0 l) (hm : l.length ≤ 200) :
    Calls Tryd.prog 26 #[.slice A0 l.length c0] w (LayPost l w) := by
  obtain ⟨i0, hi, hz0, hz1, hz2⟩ := info_parts infoI
  have Hi := Lib.hid hi
  have Hz0 := Lib.hid hz0
  have Hz1 := Lib.hid hz1
  have Hz2 := Lib.hid hz2
  have HR := Lib.hid hR
  clear hi hz0 hz1 hz2 hR
  go_enter Tryd.func26, Tryd.ntmps26
  go_wp2
  go_loopw [4, 5, 10] (fun sv zv iv wr => LayRel l w sv zv iv wr) (fun _ _ iv _ => l.length - (intOf iv).toNat)
  case atStart => exact ⟨0, 0, none, by omega, rfl, rfl, rfl, World.ownsRow_nil _ _ _ _, Below.refl _ _⟩
  case round =>
    obtain ⟨k, cap, A, hk, rfl, rfl, rfl, hrow, hbw⟩ := hrel
    have Hrow := Lib.hid hrow
    have hwz := hbw.size
    have hpk := Cf.place_le l k
    clear hrow
    by_cases hlt : k < l.length
    · obtain ⟨op, a, b, c, hx⟩ : ∃ op a b' c', l[k]? = some ⟨op, a, b', c'⟩ := ⟨_, _, _, _, List.getElem?_eq_getElem hlt⟩
      obtain ⟨g, off, rfl, hgl, hc⟩ := HR.out.at_ (by intro e; rw [e] at hlt; simp at hlt)
      obtain ⟨p0, p1, p2, p3⟩ := hc k op a b c hx
      have r0 := (hbw.cell hgl).trans p0
      have r1 := (hbw.cell hgl).trans p1
      have r2 := (hbw.cell hgl).trans p2
      have r3 := (hbw.cell hgl).trans p3
      have HP := Lib.hid (Cf.place_next hx)
      have HSU := Lib.hid (startsL_succ l k)
      have HSL := Lib.hid (startsL_len l k)
      clear hc hx p0 p1 p2 p3
      generalize hpp : Cf.place l k = pk at *
      clear hpp
      have wbI := Wb.new wr 30 [.int .i64 op, .int .i64 a, .int .i64 b, .int .i64 c]
      have HW := Lib.hid wbI
      clear wbI
      go_wp2_with (at_builtin; refine wpList_append_own _ rfl _ _ 35 rfl w.heap.size 3 i0 (.int .i64 0) 1 8 Tryd.underlying35 Hi.out Hz0.out Hz1.out Hz2.out rfl (by decide) _ k _ rfl (show World.ownsRow _ _ _ _ _ _ ((startsL l k).map (Value.int .i64)) by have h := (Hrow.out.alloc (.cells #[.int .i64 op, .int .i64 a, .int .i64 b, .int .i64 c] 30)).alloc (.cells #[.int .i64 (pk : Int)] 3); unfold Row at h; rw [HSL.out] at h; exact h) ⟨wr.heap.size + 1, 0, none⟩ 1 1 [.int .i64 (pk : Int)] rfl rfl ?c1 ?c2 ?c3 ?c4 ?c5 ?_)
      case c1 =>
        intro j u hj
        match j, hj with
        | 0, hj => simp at hj; subst hj; simp [Addr.add]
        | (j + 1), hj => simp at hj
      case c2 => intro u hu; simp at hu; subst hu; rfl
      case c3 => unfold maxLen; omega
      case c4 => omega
      case c5 => simp; omega
      intro v' w3 hown3 hg3 _
      obtain ⟨A', cap', rfl⟩ := own_form hown3
      have hrow5 := (Hrow.out.alloc (.cells #[.int .i64 op, .int .i64 a, .int .i64 b, .int .i64 c] 30)).alloc (.cells #[.int .i64 (pk : Int)] 3)
      have hwb3 := (HW.out.alloc (.cells #[.int .i64 (pk : Int)] 3)).grown hg3 (own_off hrow5 (HW.out.alloc _) (by decide))
      have hbw3 : Below w.heap.size w w3 := ((hbw.alloc hbw.size _).alloc (by simp; omega) _).grown hg3 (by simp; omega) (fun k hk => own_blocks hrow5 k hk)
      have Hrow3 := Lib.hid (show Row w3 w.heap.size (.slice A' (k + 1) cap') (startsL l (k + 1)) by
        unfold Row
        rw [startsL_len, HSU.out, List.map_append]
        exact hown3)
      have q0 := hwb3.cell 0
      have q1 := hwb3.cell 1
      have q2 := hwb3.cell 2
      have q3 := hwb3.cell 3
      simp at q0 q1 q2 q3
      clear hown3 hg3 hrow5 hwb3 hbw Hrow HW r0 r1 r2 r3 HSU HSL
      go_wp2_with fail
      refine (paccesses_any op a b c _).mono ?_
      rintro e w4 ⟨rfl, hb4⟩
      have hbw4 := hbw3.trans (hb4.mono hbw3.size)
      have Hrow4 := Lib.hid (Hrow3.out.below hb4)
      clear hb4 hbw3 Hrow3 q0 q1 q2 q3
      cases hl : Cf.ldst ⟨op, a, b, c⟩
      · have HP' := Lib.hid (show Cf.place l (k + 1) = pk + 1 by rw [HP.out]; simp [Cf.wid, hl])
        clear hl HP
        go_wp2
        go_roundw
        case rel => exact ⟨k + 1, cap', A', by omega, by go_num, by rw [HP'.out]; rfl, rfl, Hrow4.out, hbw4⟩
        case measure => simp [intOf]; omega
      · have HP' := Lib.hid (show Cf.place l (k + 1) = pk + 3 by rw [HP.out]; simp [Cf.wid, hl])
        clear hl HP
        go_wp2
        go_roundw
        case rel => exact ⟨k + 1, cap', A', by omega, by go_num, by rw [HP'.out]; rfl, rfl, Hrow4.out, hbw4⟩
        case measure => simp [intOf]; omega
    · obtain rfl : k = l.length := by omega
      go_wp2
      go_ret2
      exact ⟨A, cap, rfl, Hrow.out, hbw⟩
end Go.Proofs.YtdhnoaohicopdabDoor
