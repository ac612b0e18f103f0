/- Walks of chapter 1: the reference's CodeText. -/
import Derived.Test.YtjmojbnjhcfdkaaDoorShowR
import Derived.StillTailTactics
namespace Go.Proofs.YtjmojbnjhcfdkaaDoor
open Go.RowKit

theorem cat3 (a b c : List UInt8) : ((⟨a.toArray⟩ : ByteArray) ++ ⟨b.toArray⟩) ++ ⟨c.toArray⟩ = ⟨(a ++ (b ++ c)).toArray⟩ := by
  rw [str_append, str_append, List.append_assoc]
set_option maxRecDepth 100000 in
set_option maxHeartbeats 4000000 in
theorem codeText_any (l : List Cf.Ins) (A : Option Addr) (cap : Nat) (w : World) (hR : Codes w A l) (hm : l.length ≤ maxLen) :
    Calls Tryd.prog 15 #[.slice A l.length cap] w fun e w' => e = .returned (.tuple #[.string ⟨(Cf.showT l).toArray⟩, .int .i64 (Cf.fault l)]) ∧ Below w.heap.size w w' := by
  by_cases hf : Cf.fault l = 0
  · rcases hR with rfl | ⟨b, off, rfl, hb, hc⟩
    · go_enter Tryd.func15, Tryd.ntmps15
      go_wp2_with fail
      refine (codeFault_any [] _ cap _ (.inl rfl) hm).mono ?_
      rintro e w1 ⟨rfl, hb1⟩
      have h00 : (Cf.fault [] != 0) = false := rfl
      clear hf hm
      go_wp2
      refine wp_loop_rounds 1 ?_
      rw [rounds_succ]
      go_wp2
      go_ret2
      exact ⟨rfl, hb1⟩
    · have Hf := Lib.hid hf
      have hf' : (Cf.fault l != 0) = false := by simp [hf]
      rw [Cf.showT, if_pos hf]
      clear hf
      have hR : Codes w (some ⟨b, off, none⟩) l := .inr ⟨b, off, rfl, hb, hc⟩
      have Hc := Lib.hid hc
      clear hc
      go_enter Tryd.func15, Tryd.ntmps15
      go_wp2_with fail
      refine (codeFault_any l _ cap _ hR hm).mono ?_
      rintro e w1 ⟨rfl, hb1⟩
      unfold maxLen at hm
      go_wp2
      go_loopw [5, 6] (fun o i wr => ∃ k : Nat, k ≤ l.length ∧ i = .int .i64 k ∧ o = .string ⟨(Cf.showAll (l.take k)).toArray⟩ ∧ Below w.heap.size w wr) (fun _ i _ => l.length - (intOf i).toNat)
      case atStart => exact ⟨0, by omega, rfl, rfl, hb1⟩
      case round =>
        obtain ⟨k, hk, rfl, rfl, hbw⟩ := hrel
        clear hb1 hR
        by_cases hlt : k < l.length
        · obtain ⟨op, a, b', c', hx⟩ : ∃ op a b' c', l[k]? = some ⟨op, a, b', c'⟩ := ⟨_, _, _, _, List.getElem?_eq_getElem hlt⟩
          have Hx := Lib.hid hx
          have cells : ∀ W : World, Below w.heap.size w W → W.cell? ⟨b, off + k * 4, none⟩ = some (.int .i64 op) ∧ W.cell? ⟨b, off + k * 4 + 1, none⟩ = some (.int .i64 a) ∧ W.cell? ⟨b, off + k * 4 + 2, none⟩ = some (.int .i64 b') ∧ W.cell? ⟨b, off + k * 4 + 3, none⟩ = some (.int .i64 c') :=
            fun W hW => ⟨(hW.cell hb).trans (Hc.out k _ hx 0 _ rfl), (hW.cell hb).trans (Hc.out k _ hx 1 _ rfl), (hW.cell hb).trans (Hc.out k _ hx 2 _ rfl), (hW.cell hb).trans (Hc.out k _ hx 3 _ rfl)⟩
          have Cells := Lib.hid cells
          clear cells hx
          obtain ⟨hop1, hop2, hfb⟩ := Cf.fault_zero l k _ Hf.out Hx.out
          have Hfb := Lib.hid hfb
          clear hfb
          obtain ⟨q0, q1, q2, q3⟩ := Cells.out wr hbw
          have hl0 := Cf.take_len l Hf.out k
          have hl1 := Cf.name_len op
          go_wp2_with fail
          refine (name_any op hop1 hop2 _).mono ?_
          rintro e w2 ⟨rfl, hb2⟩
          have hbw2 := hbw.trans (hb2.mono hbw.size)
          clear q0 q1 q2 q3
          obtain ⟨q0, q1, q2, q3⟩ := Cells.out w2 hbw2
          clear hb2
          go_wp2_with fail
          refine (shape_any op _).mono ?_
          rintro e w3 ⟨rfl, rfl⟩
          obtain ⟨x, y, z, hs⟩ := Cf.shape_three op
          rw [show Cf.shape op = ⟨#[x, y, z]⟩ by rw [Cf.shape, hs]]
          have Hs := Lib.hid hs
          clear hs
          go_wp2_with fail
          go_still_tail 15, (by kernel_rfl)
          change wpList _ _ _ _ _ w2.drew
          have hbw3 : Below w.heap.size w w2.drew := hbw2.drew
          generalize w2.drew = w3 at hbw3 ⊢
          clear q0 q1 q2 q3
          have hS : ∀ u : List UInt8, (⟨(Cf.showAll (l.take k)).toArray⟩ : ByteArray) ++ ⟨u.toArray⟩ = ⟨(Cf.showAll (l.take k) ++ u).toArray⟩ := fun u => str_append _ _
          have HS := Lib.hid hS
          clear hS
          go_wp2_with fail
          go_loopw [5, 9] (fun o i wq => ∃ j : Nat, j ≤ 3 ∧ i = .int .i64 j ∧ o = .string ⟨(Cf.showAll (l.take k) ++ Cf.showUpTo ⟨op, a, b', c'⟩ j).toArray⟩ ∧ Below w.heap.size w wq ∧
              (∀ t : Nat, t < 3 → wq.cell? ⟨w3.heap.size, t, none⟩ = some (.int .i64 (Cf.fld ⟨op, a, b', c'⟩ t))) ∧ w3.heap.size < wq.heap.size) (fun _ i _ => 3 - (intOf i).toNat)
          case atStart => exact ⟨0, by omega, rfl, by rw [HS.out]; rfl, hbw3.alloc hbw3.size _, fun t ht => by
            have : t = 0 ∨ t = 1 ∨ t = 2 := by omega
            rcases this with rfl | rfl | rfl <;> simp [Cf.fld], by simp⟩
          case round =>
            obtain ⟨j, hj, rfl, rfl, hbq, hcn, hgq⟩ := hrel
            have Hcn := Lib.hid hcn
            clear hcn HS
            by_cases hj3 : j < 3
            · have hcell := Hcn.out j hj3
              obtain ⟨hv0, hv1⟩ := Cf.fld_range _ j (Hfb.out j hj3)
              have hlu := Cf.upTo_len ⟨op, a, b', c'⟩ j Hfb.out (by omega)
              have hld := Cf.dec_len (Cf.fld ⟨op, a, b', c'⟩ j) (by omega)
              obtain ⟨cb, hcb⟩ : ∃ cb : UInt8, cb = (Cf.shapeL op).getD j 0 := ⟨_, rfl⟩
              have hix : ∀ w, (Instr.index 9 (.string ⟨#[x, y, z]⟩) (.int .i64 (j : Int))).run Tryd.prog w = .ok (.int .u8 (cb.toNat : Int)) w := by
                rw [hcb, Hs.out]
                have : j = 0 ∨ j = 1 ∨ j = 2 := by omega
                rcases this with rfl | rfl | rfl <;> exact fun _ => by kernel_rfl
              have Hup := Lib.hid (show Cf.showUpTo ⟨op, a, b', c'⟩ (j + 1) = Cf.showUpTo ⟨op, a, b', c'⟩ j ++ Cf.showPart (Cf.fmt op.toNat j) (Cf.fld ⟨op, a, b', c'⟩ j) from rfl)
              rcases Cf.shape_fmt op hop1 hop2 j hj3 with ⟨hs1, hs2⟩ | ⟨hs1, hs2⟩ | ⟨hs1, hs2, hs3⟩
              · have hp := Lib.hid (show Cf.showPart (Cf.fmt op.toNat j) (Cf.fld ⟨op, a, b', c'⟩ j) = [] by rw [hs2]; rfl)
                rw [hs1] at hcb
                subst hcb
                clear hs1 hs2
                go_wp2
                go_roundw
                case rel => exact ⟨j + 1, by omega, by go_num, by rw [Hup.out, hp.out, List.append_nil], hbq, Hcn.out, hgq⟩
                case measure => simp [intOf]; omega
              · have hp := Lib.hid (show Cf.showPart (Cf.fmt op.toNat j) (Cf.fld ⟨op, a, b', c'⟩ j) = [32, 114] ++ Cf.decL (Cf.fld ⟨op, a, b', c'⟩ j) by rw [hs2]; rfl)
                rw [hs1] at hcb
                subst hcb
                clear hs1 hs2
                go_wp2_with fail
                refine (dec_any _ _ _ (Nat.lt_succ_self _) hv0 (by omega)).mono ?_
                rintro e w4 ⟨rfl, hb4⟩
                have hbq4 := hbq.trans (hb4.mono hbq.size)
                have Hcn4 := Lib.hid (fun (t : Nat) (ht : t < 3) => (hb4.cell (p := ⟨w3.heap.size, t, none⟩) hgq).trans (Hcn.out t ht))
                have hgq4 := Nat.lt_of_lt_of_le hgq hb4.size
                clear hb4 hcell hix
                go_wp2
                go_roundw
                case rel => exact ⟨j + 1, by omega, by go_num, congrArg Value.string ((cat3 _ [32, 114] _).trans (by rw [Hup.out, hp.out]; simp)), hbq4, Hcn4.out, hgq4⟩
                case measure => simp [intOf]; omega
              · have hp := Lib.hid (show Cf.showPart (Cf.fmt op.toNat j) (Cf.fld ⟨op, a, b', c'⟩ j) = [32] ++ Cf.decL (Cf.fld ⟨op, a, b', c'⟩ j) by
                  unfold Cf.showPart Cf.showF; rw [if_neg hs2, if_neg hs3]; rfl)
                have hn1 : ((cb.toNat : Int) == 114) = false := by rw [hcb]; rcases hs1 with h | h <;> rw [h] <;> decide
                have hn2 : ((cb.toNat : Int) != 45) = true := by rw [hcb]; rcases hs1 with h | h <;> rw [h] <;> decide
                clear hs1 hs2 hs3 hcb
                go_wp2_with fail
                refine (dec_any _ _ _ (Nat.lt_succ_self _) hv0 (by omega)).mono ?_
                rintro e w4 ⟨rfl, hb4⟩
                have hbq4 := hbq.trans (hb4.mono hbq.size)
                have Hcn4 := Lib.hid (fun (t : Nat) (ht : t < 3) => (hb4.cell (p := ⟨w3.heap.size, t, none⟩) hgq).trans (Hcn.out t ht))
                have hgq4 := Nat.lt_of_lt_of_le hgq hb4.size
                clear hb4 hcell hix
                go_wp2
                go_roundw
                case rel => exact ⟨j + 1, by omega, by go_num, congrArg Value.string ((cat3 _ [32] _).trans (by rw [Hup.out, hp.out]; simp)), hbq4, Hcn4.out, hgq4⟩
                case measure => simp [intOf]; omega
            · obtain rfl : j = 3 := by omega
              have hlu := Cf.upTo_len ⟨op, a, b', c'⟩ 3 Hfb.out (by omega)
              have Hsn := Lib.hid (Cf.all_snoc l k _ Hx.out)
              go_wp2
              go_roundw
              case rel => exact ⟨k + 1, by omega, by go_num, congrArg Value.string ((str_append _ [10]).trans (by rw [Hsn.out]; simp [Cf.showIns])), hbq⟩
              case measure => simp [intOf]; omega
        · have HZ := Lib.hid (show l.take k = l from List.take_of_length_le (by omega))
          go_wp2
          go_ret2
          exact ⟨by rw [HZ.out, Hf.out]; rfl, hbw⟩
  · have hf' : (Cf.fault l != 0) = true := by simp [hf]
    rw [Cf.showT, if_neg hf]
    clear hf
    go_enter Tryd.func15, Tryd.ntmps15
    go_wp2_with fail
    refine (codeFault_any l _ cap _ hR hm).mono ?_
    rintro e w1 ⟨rfl, hb1⟩
    go_wp2
    go_ret2
    exact ⟨rfl, hb1⟩
end Go.Proofs.YtjmojbnjhcfdkaaDoor
