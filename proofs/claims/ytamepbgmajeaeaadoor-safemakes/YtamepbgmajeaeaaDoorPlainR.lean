/- Walks of chapter 3: the reference's PlainMay. -/
import Derived.Test.YtamepbgmajeaeaaDoorSafeR
import Derived.Test.YtamepbgmajeaeaaDoorInsK
namespace Go.Proofs.YtamepbgmajeaeaaDoor
open Go.RowKit

theorem plain_bad (l : List Cf.Ins) (k : Nat) (i : Cf.Ins) (hi : l[k]? = some i) (ho : Cf.plainI l i = false) : Cf.plainB l = false := by
  unfold Cf.plainB
  have : l.all (Cf.plainI l) = false := by
    rw [Bool.eq_false_iff]
    intro h
    have := List.all_eq_true.1 h i (List.mem_of_getElem? hi)
    rw [ho] at this
    cases this
  rw [this, Bool.and_false]
theorem plain_end (l : List Cf.Ins) (hl : Cf.lastB l = true) (h : ∀ j i, j < l.length → l[j]? = some i → Cf.plainI l i = true) : Cf.plainB l = true := by
  unfold Cf.plainB
  rw [hl, Bool.true_and]
  refine List.all_eq_true.2 fun i hi => ?_
  obtain ⟨k, hk⟩ := List.getElem?_of_mem hi
  exact h k i (List.getElem?_eq_some_iff.1 hk).1 hk
set_option maxRecDepth 100000 in
set_option maxHeartbeats 4000000 in
theorem plainMay_any (l : List Cf.Ins) (A : Option Addr) (cap : Nat) (w : World) (hR : Codes w A l) (hm : l.length ≤ maxLen) :
    Calls Tryd.prog 67 #[.slice A l.length cap] w fun e w' => e = .returned (.bool (Cf.plainB l)) ∧ Below w.heap.size w w' := by
  unfold maxLen at hm
  by_cases hn : l = []
  · subst hn
    clear hR
    go_enter Tryd.func67, Tryd.ntmps67
    go_wp2
    go_ret
    exact ⟨rfl, Below.refl _ _⟩
  · obtain ⟨n, hnl⟩ : ∃ n, l.length = n + 1 := ⟨l.length - 1, by have := List.length_pos_iff.2 hn; omega⟩
    obtain ⟨lop, la, lb, lc, hlast⟩ : ∃ op a b c, l[n]? = some ⟨op, a, b, c⟩ := ⟨_, _, _, _, List.getElem?_eq_getElem (by omega)⟩
    have hlB : Cf.lastB l = Cf.stopsB ⟨lop, la, lb, lc⟩ := by
      unfold Cf.lastB
      rw [List.getLast?_eq_getElem?, hnl, show n + 1 - 1 = n by omega, hlast]
    rcases hR with h0 | ⟨b, off, rfl, hb, hc⟩
    · exact absurd h0 hn
    have d0 : w.cell? ⟨b, off + n * 4, none⟩ = some (.int .i64 lop) := hc n _ hlast 0 _ rfl
    have d1 : w.cell? ⟨b, off + n * 4 + 1, none⟩ = some (.int .i64 la) := hc n _ hlast 1 _ rfl
    have d2 : w.cell? ⟨b, off + n * 4 + 2, none⟩ = some (.int .i64 lb) := hc n _ hlast 2 _ rfl
    have d3 : w.cell? ⟨b, off + n * 4 + 3, none⟩ = some (.int .i64 lc) := hc n _ hlast 3 _ rfl
    have Hc := Lib.hid hc
    have Hnl := Lib.hid hnl
    have HlB := Lib.hid hlB
    have hnm : n + 1 ≤ 2 ^ 63 - 1 := by omega
    clear hc hlast hn hnl hlB
    rw [Hnl.out]
    clear hm
    go_enter Tryd.func67, Tryd.ntmps67
    go_wp2_with fail
    refine (stops_any lop la lb lc _).mono ?_
    rintro e w2 ⟨rfl, hbw2⟩
    clear d0 d1 d2 d3
    cases hst : Cf.stopsB ⟨lop, la, lb, lc⟩
    · have HS := Lib.hid (show Cf.plainB l = false by unfold Cf.plainB; rw [HlB.out, hst]; rfl)
      go_wp2
      go_ret
      exact ⟨by rw [HS.out]; rfl, hbw2⟩
    · have HL := Lib.hid (HlB.out.trans hst)
      clear HlB hst
      go_wp2
      go_loopw [3] (fun i wr => ∃ k : Nat, k ≤ n + 1 ∧ i = .int .i64 k ∧ (∀ j i, j < k → l[j]? = some i → Cf.plainI l i = true) ∧ Below w.heap.size w wr) (fun i _ => n + 1 - (intOf i).toNat)
      case atStart => exact ⟨0, by omega, rfl, fun j i hj => by omega, hbw2⟩
      case round =>
        obtain ⟨k, hk, rfl, hz, hbw⟩ := hrel
        have Hz := Lib.hid hz
        clear hz hbw2
        by_cases hlt : k < n + 1
        · obtain ⟨op, a, b', c', hx⟩ : ∃ op a b' c', l[k]? = some ⟨op, a, b', c'⟩ := ⟨_, _, _, _, List.getElem?_eq_getElem (by rw [Hnl.out]; omega)⟩
          have hc0 : wr.cell? ⟨b, off + k * 4, none⟩ = some (.int .i64 op) := (hbw.cell hb).trans (Hc.out k _ hx 0 _ rfl)
          have hc1 : wr.cell? ⟨b, off + k * 4 + 1, none⟩ = some (.int .i64 a) := (hbw.cell hb).trans (Hc.out k _ hx 1 _ rfl)
          have hc2 : wr.cell? ⟨b, off + k * 4 + 2, none⟩ = some (.int .i64 b') := (hbw.cell hb).trans (Hc.out k _ hx 2 _ rfl)
          have hc3 : wr.cell? ⟨b, off + k * 4 + 3, none⟩ = some (.int .i64 c') := (hbw.cell hb).trans (Hc.out k _ hx 3 _ rfl)
          have HPe := Lib.hid (Cf.plainI_eq l ⟨op, a, b', c'⟩)
          have hbw1 := hbw.alloc hbw.size (.cells #[.int .i64 op, .int .i64 a, .int .i64 b', .int .i64 c'] 35)
          have Hx := Lib.hid hx
          have HON := Lib.hid (show Cf.plainI l ⟨op, a, b', c'⟩ = true → ∀ j i, j < k + 1 → l[j]? = some i → Cf.plainI l i = true from fun hp j i hj hi => by
            rcases Nat.lt_succ_iff_lt_or_eq.1 hj with h | h
            · exact Hz.out j i h hi
            · subst h
              rw [hx] at hi
              injection hi with hi
              subst hi
              exact hp)
          clear hx
          go_wp2_with fail
          refine (in_any a 4 6 _).mono ?_
          rintro e w' ⟨rfl, rfl⟩
          cases ha : Cf.inB a 4 6
          · go_wp2_with fail
            refine (in_any b' 4 6 _).mono ?_
            rintro e w' ⟨rfl, rfl⟩
            cases hb' : Cf.inB b' 4 6
            · go_wp2_with fail
              refine (in_any op 2 7 _).mono ?_
              rintro e w' ⟨rfl, rfl⟩
              cases ho : Cf.inB op 2 7
              · have HU := Lib.hid (show Cf.useB ⟨op, a, b', c'⟩ = false by simp [Cf.useB, ha, hb', ho])
                clear ha hb' ho
                go_wp2_with fail
                refine (jumps_any op a b' c' _).mono ?_
                rintro e w3 ⟨rfl, hb3⟩
                have hbw3 := hbw1.trans (hb3.mono (by have := hbw.size; simp; omega))
                have x3 := hb3.cell (p := ⟨wr.heap.size, 3, none⟩) (by simp)
                simp at x3
                clear hb3 hc0 hc1 hc2 hc3
                cases hj : Cf.jumpsB ⟨op, a, b', c'⟩
                · have HZ := Lib.hid (HON.out (by rw [HPe.out, hj, HU.out]; rfl))
                  clear hj
                  go_wp2
                  go_roundw
                  case rel => (repeat apply Exists.intro); exact ⟨⟨k + 1, by omega, by go_num, HZ.out, hbw3⟩, rfl⟩
                  case measure => simp [intOf]; omega
                · by_cases hcl : (l.length : Int) ≤ c'
                  · have HS := Lib.hid (plain_bad l k _ Hx.out (by rw [HPe.out, hj]; simp [hcl]))
                    clear hj
                    rw [Hnl.out] at hcl
                    go_wp2
                    go_ret
                    exact ⟨by rw [HS.out]; rfl, hbw3⟩
                  · have HZ := Lib.hid (HON.out (by rw [HPe.out, HU.out]; simp [hcl]))
                    clear hj
                    rw [Hnl.out] at hcl
                    go_wp2
                    go_roundw
                    case rel => (repeat apply Exists.intro); exact ⟨⟨k + 1, by omega, by go_num, HZ.out, hbw3⟩, rfl⟩
                    case measure => simp [intOf]; omega
              · go_wp2_with fail
                refine (in_any c' 4 6 _).mono ?_
                rintro e w' ⟨rfl, rfl⟩
                cases hcc : Cf.inB c' 4 6
                · have HU := Lib.hid (show Cf.useB ⟨op, a, b', c'⟩ = false by simp [Cf.useB, ha, hb', hcc])
                  clear ha hb' ho hcc
                  go_wp2_with fail
                  refine (jumps_any op a b' c' _).mono ?_
                  rintro e w3 ⟨rfl, hb3⟩
                  have hbw3 := hbw1.trans (hb3.mono (by have := hbw.size; simp; omega))
                  have x3 := hb3.cell (p := ⟨wr.heap.size, 3, none⟩) (by simp)
                  simp at x3
                  clear hb3 hc0 hc1 hc2 hc3
                  cases hj : Cf.jumpsB ⟨op, a, b', c'⟩
                  · have HZ := Lib.hid (HON.out (by rw [HPe.out, hj, HU.out]; rfl))
                    clear hj
                    go_wp2
                    go_roundw
                    case rel => (repeat apply Exists.intro); exact ⟨⟨k + 1, by omega, by go_num, HZ.out, hbw3⟩, rfl⟩
                    case measure => simp [intOf]; omega
                  · by_cases hcl : (l.length : Int) ≤ c'
                    · have HS := Lib.hid (plain_bad l k _ Hx.out (by rw [HPe.out, hj]; simp [hcl]))
                      clear hj
                      rw [Hnl.out] at hcl
                      go_wp2
                      go_ret
                      exact ⟨by rw [HS.out]; rfl, hbw3⟩
                    · have HZ := Lib.hid (HON.out (by rw [HPe.out, HU.out]; simp [hcl]))
                      clear hj
                      rw [Hnl.out] at hcl
                      go_wp2
                      go_roundw
                      case rel => (repeat apply Exists.intro); exact ⟨⟨k + 1, by omega, by go_num, HZ.out, hbw3⟩, rfl⟩
                      case measure => simp [intOf]; omega
                · have HS := Lib.hid (plain_bad l k _ Hx.out (by rw [HPe.out]; simp [Cf.useB, ho, hcc]))
                  clear ha hb' ho hcc
                  go_wp2
                  go_ret
                  exact ⟨by rw [HS.out]; rfl, hbw1⟩
            · have HS := Lib.hid (plain_bad l k _ Hx.out (by rw [HPe.out]; simp [Cf.useB, hb']))
              clear ha hb'
              go_wp2
              go_ret
              exact ⟨by rw [HS.out]; rfl, hbw1⟩
          · have HS := Lib.hid (plain_bad l k _ Hx.out (by rw [HPe.out]; simp [Cf.useB, ha]))
            clear ha
            go_wp2
            go_ret
            exact ⟨by rw [HS.out]; rfl, hbw1⟩
        · have HS := Lib.hid (plain_end l HL.out (fun j i hj => Hz.out j i (by rw [Hnl.out] at hj; omega)))
          go_wp2
          go_ret
          exact ⟨by rw [HS.out]; rfl, hbw⟩
end Go.Proofs.YtamepbgmajeaeaaDoor
