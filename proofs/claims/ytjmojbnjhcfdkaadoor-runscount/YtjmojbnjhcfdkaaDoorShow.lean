/- Walks of chapter 1: the program's Show, whole. -/
import Derived.Test.YtjmojbnjhcfdkaaDoorShowW
namespace Go.Proofs.YtjmojbnjhcfdkaaDoor
open Go.RowKit

def Bld (B b : Nat) (l : List UInt8) (w : World) : Prop := Lib.IsBuilderF 59 5 B b (Lib.byteCells l) w
theorem ownsF_below {w w' : World} {base : Nat} {e : TypeId} {size : Nat} {v : Value} {n : Nat} {xs : List Value} (h : w.ownsRowF base e size v n xs) (hb : Below w.heap.size w w') : w'.ownsRowF base e size v n xs := by
  refine ⟨h.1, ?_⟩
  rcases h.2 with h2 | ⟨g, cap, cur, fz, hv, hg, hh, r⟩
  · exact .inl h2
  · have hlt : g < w.heap.size := (Array.getElem?_eq_some_iff.1 hh).1
    exact .inr ⟨g, cap, cur, fz, hv, hg, (hb.block g hlt).trans hh, r⟩
theorem bldAt_below {T e : TypeId} {B b : Nat} {p : Value} {bs : List Value} {w w' : World} (h : Lib.BuilderAtF T e B b p bs w) (hb : Below w.heap.size w w') : Lib.BuilderAtF T e B b p bs w' := by
  obtain ⟨hB, v, hh, ho, hne⟩ := h
  have hlt : b < w.heap.size := (Array.getElem?_eq_some_iff.1 hh).1
  exact ⟨hB, v, (hb.block b hlt).trans hh, ownsF_below ho hb, hne⟩
theorem Bld.below {B b : Nat} {l : List UInt8} {w w' : World} (h : Bld B b l w) (hb : Below w.heap.size w w') : Bld B b l w' := by
  rcases h with h | h
  · exact .inl (bldAt_below h hb)
  · exact .inr (bldAt_below h hb)
theorem strCells_eq (l : List UInt8) : Lib.strCells ⟨l.toArray⟩ = Lib.byteCells l := rfl
theorem byteCells_append (a b : List UInt8) : Lib.byteCells (a ++ b) = Lib.byteCells a ++ Lib.byteCells b := by simp [Lib.byteCells]
theorem writeString_any (B b : Nat) (l s : List UInt8) (w : World) (h : Bld B b l w) (hlen : l.length + s.length ≤ 1000000) (hB : B ≤ w.heap.size) :
    Calls Tryd.prog 31 #[.pointer (some ⟨b, 0, none⟩), .string ⟨s.toArray⟩] w fun e w' => e = .returned (.tuple #[.int .i64 s.length, .nilIface]) ∧ Bld B b (l ++ s) w' ∧ Below B w w' := by
  refine (Any.Builder_WriteString_k bl166 bx166 B b (Lib.byteCells l) ⟨s.toArray⟩ w h ?_ hB).mono ?_
  · rw [Lib.byteCells_length]; show l.length + s.toArray.size ≤ _; simp; omega
  · rintro e w' ⟨rfl, h1, h2, _⟩
    refine ⟨by simp [ByteArray.size], .inr ?_, h2⟩
    rw [byteCells_append]
    exact h1
theorem writeByte_any (B b : Nat) (l : List UInt8) (c : UInt8) (w : World) (h : Bld B b l w) (hlen : l.length + 1 ≤ 1000000) (hB : B ≤ w.heap.size) :
    Calls Tryd.prog 33 #[.pointer (some ⟨b, 0, none⟩), .int .u8 c.toNat] w fun e w' => e = .returned .nilIface ∧ Bld B b (l ++ [c]) w' ∧ Below B w w' := by
  refine (Any.Builder_WriteByte_k bl167 bx167 B b (Lib.byteCells l) c.toNat w h ?_ hB).mono ?_
  · rw [Lib.byteCells_length]; omega
  · rintro e w' ⟨rfl, h1, h2, _⟩
    refine ⟨rfl, .inr ?_, h2⟩
    rw [byteCells_append]
    exact h1
theorem bString_any (B b : Nat) (l : List UInt8) (w : World) (h : Bld B b l w) (hB : B ≤ w.heap.size) :
    Calls Tryd.prog 34 #[.pointer (some ⟨b, 0, none⟩)] w fun e w' => e = .returned (.string ⟨l.toArray⟩) ∧ Below B w w' := by
  refine (Any.Builder_String_any_k lays169 Builder_Extra_169 B b l w h hB).mono ?_
  rintro e w' ⟨rfl, _, h2, _⟩
  exact ⟨rfl, h2⟩

set_option maxHeartbeats 2000000 in
theorem show_any (l : List Cf.Ins) (A : Option Addr) (cap : Nat) (w : World) (hR : Codes w A l) (hL : TabL w) (hF : TabF w) (hN : TabN w) (hP : TabP w) (hm : l.length ≤ maxLen) :
    Calls Tryd.prog 14 #[.slice A l.length cap] w fun e w' => e = .returned (.tuple #[.string ⟨(Cf.showT l).toArray⟩, .int .i64 (Cf.fault l)]) ∧ Below w.heap.size w w' := by
  by_cases hf : Cf.fault l = 0
  · rcases hR with rfl | ⟨b, off, rfl, hb, hc⟩
    · go_enter Tryd.func14, Tryd.ntmps14
      go_wp2_with fail
      refine (check_any [] _ cap _ (.inl rfl) hL hF hm).mono ?_
      rintro e w1 ⟨rfl, hb1⟩
      have h00 : (Cf.fault [] != 0) = false := rfl
      clear hf hm
      go_wp2_with fail
      refine wp_loop_rounds 1 ?_
      rw [rounds_succ]
      go_wp2_with fail
      refine (bString_any w1.heap.size w1.heap.size [] _ (Lib.IsBuilderF.of (Lib.fresh_isBuilder _ _ w1)) (by simp)).mono ?_
      rintro e w2 ⟨rfl, hb2⟩
      have hbw := ((hb1.alloc hb1.size _).trans (hb2.mono hb1.size))
      clear hb1 hb2
      go_wp2
      go_ret2
      exact ⟨rfl, hbw⟩
    · have Hf := Lib.hid hf
      have hf' : (Cf.fault l != 0) = false := by simp [hf]
      rw [Cf.showT, if_pos hf]
      clear hf
      have hR : Codes w (some ⟨b, off, none⟩) l := .inr ⟨b, off, rfl, hb, hc⟩
      have Hc := Lib.hid hc
      clear hc
      go_enter Tryd.func14, Tryd.ntmps14
      go_wp2_with fail
      refine (check_any l _ cap _ hR hL hF hm).mono ?_
      rintro e w1 ⟨rfl, hb1⟩
      unfold maxLen at hm
      go_wp2_with fail
      go_loopw [15] (fun i wr => ∃ k : Nat, k ≤ l.length ∧ i = .int .i64 k ∧ Bld w1.heap.size w1.heap.size (Cf.showAll (l.take k)) wr ∧ w1.heap.size < wr.heap.size ∧ Below w.heap.size w wr) (fun i _ => l.length - (intOf i).toNat)
      case atStart => exact ⟨0, by omega, rfl, Lib.IsBuilderF.of (Lib.fresh_isBuilder _ _ w1), by simp, hb1.alloc hb1.size _⟩
      case round =>
        obtain ⟨k, hk, rfl, hbl, hz1, hbw⟩ := hrel
        have hwz := hb1.size
        clear hb1 hR
        by_cases hlt : k < l.length
        · obtain ⟨op, a, b', c', hx⟩ : ∃ op a b' c', l[k]? = some ⟨op, a, b', c'⟩ := ⟨_, _, _, _, List.getElem?_eq_getElem hlt⟩
          have Hx := Lib.hid hx
          have q0 : wr.cell? ⟨b, off + k * 4, none⟩ = some (.int .i64 op) := (hbw.cell hb).trans (Hc.out k _ hx 0 _ rfl)
          have q1 : wr.cell? ⟨b, off + k * 4 + 1, none⟩ = some (.int .i64 a) := (hbw.cell hb).trans (Hc.out k _ hx 1 _ rfl)
          have q2 : wr.cell? ⟨b, off + k * 4 + 2, none⟩ = some (.int .i64 b') := (hbw.cell hb).trans (Hc.out k _ hx 2 _ rfl)
          have q3 : wr.cell? ⟨b, off + k * 4 + 3, none⟩ = some (.int .i64 c') := (hbw.cell hb).trans (Hc.out k _ hx 3 _ rfl)
          clear hx
          obtain ⟨hop1, hop2, hfb⟩ := Cf.fault_zero l k _ Hf.out Hx.out
          have Hfb := Lib.hid hfb
          clear hfb
          have hl0 := Cf.take_len l Hf.out k
          have hl1 : (Cf.showIns ⟨op, a, b', c'⟩).length ≤ 25 := Cf.upTo_len _ 3 Hfb.out (by omega)
          have HS := Lib.hid (Cf.all_snoc l k _ Hx.out)
          have Hbl := Lib.hid (fun o => hbl.below ((Below.refl wr.heap.size wr).alloc (Nat.le_refl _) o))
          clear hbl
          go_wp2_with fail
          refine (showInstr_any op a b' c' hop1 hop2 Hfb.out _ (hN.below (hbw.alloc hbw.size _)) (hF.below (hbw.alloc hbw.size _)) (hP.below (hbw.alloc hbw.size _))).mono ?_
          rintro e w2 ⟨rfl, hb2⟩
          have hbl2 := (Hbl.out _).below hb2
          have hbw2 : Below w.heap.size w w2 := (hbw.alloc hbw.size _).trans (hb2.mono (by have := hbw.size; simp; omega))
          have hz2 : w1.heap.size < w2.heap.size := Nat.lt_of_lt_of_le (by simp; omega) hb2.size
          clear q0 q1 q2 q3 hb2 Hbl
          go_wp2_with fail
          refine (writeString_any _ _ _ _ _ hbl2 (by omega) (by omega)).mono ?_
          rintro e w3 ⟨rfl, hbl3, hb3⟩
          have hbw3 : Below w.heap.size w w3 := hbw2.trans (hb3.mono hwz)
          have hz3 : w1.heap.size < w3.heap.size := Nat.lt_of_lt_of_le hz2 hb3.size
          clear hbl2 hb3 hbw2 hz2
          go_wp2_with fail
          refine (writeByte_any _ _ _ 10 _ hbl3 (by rw [List.length_append]; omega) (by omega)).mono ?_
          rintro e w4 ⟨rfl, hbl4, hb4⟩
          have hbw4 : Below w.heap.size w w4 := hbw3.trans (hb4.mono hwz)
          have hz4 : w1.heap.size < w4.heap.size := Nat.lt_of_lt_of_le hz3 hb4.size
          have Hbl4 := Lib.hid hbl4
          clear hbl3 hb4 hbw3 hz3 hbl4
          go_wp2
          go_roundw
          case rel => exact ⟨k + 1, by omega, by go_num, by rw [HS.out, ← List.append_assoc]; exact Hbl4.out, hz4, hbw4⟩
          case measure => simp [intOf]; omega
        · have HZ := Lib.hid (show l.take k = l from List.take_of_length_le (by omega))
          rw [HZ.out] at hbl
          go_wp2_with fail
          refine (bString_any _ _ _ _ hbl (by omega)).mono ?_
          rintro e w2 ⟨rfl, hb2⟩
          have hbw2 := hbw.trans (hb2.mono hwz)
          clear hbl hb2 hbw
          go_wp2
          go_ret2
          exact ⟨by rw [Hf.out]; rfl, hbw2⟩
  · have hf' : (Cf.fault l != 0) = true := by simp [hf]
    rw [Cf.showT, if_neg hf]
    clear hf
    go_enter Tryd.func14, Tryd.ntmps14
    go_wp2_with fail
    refine (check_any l _ cap _ hR hL hF hm).mono ?_
    rintro e w1 ⟨rfl, hb1⟩
    go_wp2
    go_ret2
    exact ⟨rfl, hb1⟩
end Go.Proofs.YtjmojbnjhcfdkaaDoor
