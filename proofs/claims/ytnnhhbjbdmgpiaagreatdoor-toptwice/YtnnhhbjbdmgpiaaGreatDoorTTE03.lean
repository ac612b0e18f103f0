/- Texts of the proof of TopTwice: CheckM. -/
import Derived.Test.YtnnhhbjbdmgpiaaGreatDoorJ19
import Derived.Test.YtnnhhbjbdmgpiaaGreatDoorTTE01
set_option linter.unusedSimpArgs false
set_option linter.unusedVariables false
/- Walks of chapter 3: the program's check of code, with the test of Make. -/
namespace Go.Proofs.YtnnhhbjbdmgpiaaGreatDoor
set_option maxRecDepth 100000
open Go.RowKit
theorem plain_any (l : List Cf.Ins) (A : Option Addr) (cap k gl : Nat) (op a b c : Int) (w : World) (hR : Codes w A l) (hm : l.length ≤ maxLen) (hx : l[k]? = some ⟨op, a, b, c⟩) (hg : w.cell? ⟨gl, 0, none⟩ = some (.slice A l.length cap)) :
  Calls Tryz.prog 96 #[.int .i64 k, .pointer (some ⟨gl, 0, none⟩)] w fun e w' => e = .returned (.bool (!Cf.useB ⟨op, a, b, c⟩)) ∧ Below w.heap.size w w' := by
 have hmx : l.length ≤ 2 ^ 63 - 1 := hm
 clear hm
 have hk : k < l.length := (List.getElem?_eq_some_iff.1 hx).1
 obtain ⟨g, off, rfl, hgl, hc⟩ := hR.at_ (by intro e; rw [e] at hk; simp at hk)
 obtain ⟨p0, p1, p2, p3⟩ := hc k op a b c hx
 clear hc hx
 go_enter Tryz.func96, Tryz.ntmps96
 go_wp2_with fail
 refine (puses_any op a b c _).mono ?_
 rintro e w1 ⟨rfl, hb1⟩
 go_wp2
 go_ret
 exact ⟨rfl, hb1⟩
set_option maxRecDepth 100000 in
set_option maxHeartbeats 4000000 in
theorem checkP_any (l : List Cf.Ins) (A : Option Addr) (cap cap' gl : Nat) (w : World) (hR : Codes w A l) (hL : TabL w) (hF : TabF w) (hm : l.length ≤ maxLen) (hg : w.cell? ⟨gl, 0, none⟩ = some (.slice A l.length cap')) :
  Calls Tryz.prog 98 #[.slice A l.length cap, .func (.func 96) #[] #[.pointer (some ⟨gl, 0, none⟩)]] w fun e w' => e = .returned (.int .i64 (Cf.chkT l (fun _ i => !Cf.useB i))) ∧ Below w.heap.size w w' := by
 have HC := Lib.hid (check_any l A cap w hR hL hF hm)
 have HM := Lib.hid hm
 unfold maxLen at hm
 have hgl := lt_of_cell hg
 have Hg := Lib.hid hg
 have HR := Lib.hid hR
 clear hL hF hg
 by_cases hf : Cf.fault l = 0
 ·rw [hf] at HC
  by_cases hn : l = []
  ·subst hn
   have HS := Lib.hid (show Cf.chkT [] (fun _ i => !Cf.useB i) = 10 from rfl)
   clear hR
   go_enter Tryz.func98, Tryz.ntmps98
   go_wp2_with fail
   refine HC.out.mono ?_
   rintro e w1 ⟨rfl, hb1⟩
   go_wp2
   go_ret
   exact ⟨by rw [HS.out]; rfl, hb1⟩
  ·obtain ⟨n, hnl⟩ : ∃ n, l.length = n + 1 := ⟨l.length - 1, by have := List.length_pos_iff.2 hn; omega⟩
   obtain ⟨lop, la, lb, lc, hlast⟩ : ∃ op a b c, l[n]? = some ⟨op, a, b, c⟩ := ⟨_, _, _, _, List.getElem?_eq_getElem (by omega)⟩
   have hlB : Cf.lastB l = Cf.stopsB ⟨lop, la, lb, lc⟩ := by
    unfold Cf.lastB
    rw [List.getLast?_eq_getElem?, hnl, show n + 1 - 1 = n by omega, hlast]
   rcases hR with h0 | ⟨b, off, rfl, hb, hc⟩
   ·exact absurd h0 hn
   have Hc := Lib.hid hc
   have Hlast := Lib.hid hlast
   have Hf := Lib.hid hf
   have Hnl := Lib.hid hnl
   have HlB := Lib.hid hlB
   have hnm : n + 1 ≤ 2 ^ 63 - 1 := by omega
   clear hc hlast hf hn hnl hlB
   go_enter Tryz.func98, Tryz.ntmps98
   go_wp2_with fail
   refine HC.out.mono ?_
   rintro e w1 ⟨rfl, hb1⟩
   have d0 : w1.cell? ⟨b, off + n * 4, none⟩ = some (.int .i64 lop) := (hb1.cell hb).trans (Hc.out n _ Hlast.out 0 _ rfl)
   have d1 : w1.cell? ⟨b, off + n * 4 + 1, none⟩ = some (.int .i64 la) := (hb1.cell hb).trans (Hc.out n _ Hlast.out 1 _ rfl)
   have d2 : w1.cell? ⟨b, off + n * 4 + 2, none⟩ = some (.int .i64 lb) := (hb1.cell hb).trans (Hc.out n _ Hlast.out 2 _ rfl)
   have d3 : w1.cell? ⟨b, off + n * 4 + 3, none⟩ = some (.int .i64 lc) := (hb1.cell hb).trans (Hc.out n _ Hlast.out 3 _ rfl)
   rw [Hnl.out]
   clear HC hm
   go_wp2_with fail
   refine (pleaves_any lop la lb lc _).mono ?_
   rintro e w2 ⟨rfl, hb2⟩
   have hbw2 := hb1.trans (hb2.mono hb1.size)
   clear d0 d1 d2 d3 hb1 hb2
   cases hst : Cf.stopsB ⟨lop, la, lb, lc⟩
   ·have HS := Lib.hid (show Cf.chkT l (fun _ i => !Cf.useB i) = 10 by unfold Cf.chkT; rw [if_pos Hf.out, HlB.out, hst]; rfl)
    go_wp2
    go_ret
    exact ⟨by rw [HS.out]; rfl, hbw2⟩
   ·have HL := Lib.hid (HlB.out.trans hst)
    clear HlB hst
    go_wp2
    go_loopw [28] (fun i wr => ∃ k : Nat, k ≤ n + 1 ∧ i = .int .i64 k ∧ (∀ j, j < k → Cf.okT l (fun _ i => !Cf.useB i) j = true) ∧ Below w.heap.size w wr) (fun i _ => n + 1 - (intOf i).toNat)
    case atStart => exact ⟨0, by omega, rfl, fun j hj => by omega, hbw2⟩
    case round =>
     obtain ⟨k, hk, rfl, hz, hbw⟩ := hrel
     have Hz := Lib.hid hz
     clear hz hbw2
     by_cases hlt : k < n + 1
     ·obtain ⟨op, a, b', c', hx⟩ : ∃ op a b' c', l[k]? = some ⟨op, a, b', c'⟩ := ⟨_, _, _, _, List.getElem?_eq_getElem (by rw [Hnl.out]; omega)⟩
      have hc0 : wr.cell? ⟨b, off + k * 4, none⟩ = some (.int .i64 op) := (hbw.cell hb).trans (Hc.out k _ hx 0 _ rfl)
      have hc1 : wr.cell? ⟨b, off + k * 4 + 1, none⟩ = some (.int .i64 a) := (hbw.cell hb).trans (Hc.out k _ hx 1 _ rfl)
      have hc2 : wr.cell? ⟨b, off + k * 4 + 2, none⟩ = some (.int .i64 b') := (hbw.cell hb).trans (Hc.out k _ hx 2 _ rfl)
      have hc3 : wr.cell? ⟨b, off + k * 4 + 3, none⟩ = some (.int .i64 c') := (hbw.cell hb).trans (Hc.out k _ hx 3 _ rfl)
      have Hx := Lib.hid hx
      clear hx
      go_wp2_with fail
      refine (pjumps_any op a b' c' _).mono ?_
      rintro e w3 ⟨rfl, hb3⟩
      have hbw3 : Below w.heap.size w w3 := (hbw.alloc hbw.size _).trans (hb3.mono (by have := hbw.size; simp; omega))
      have x3 := hb3.cell (p := ⟨wr.heap.size, 3, none⟩) (by simp)
      simp at x3
      have HG3 := Lib.hid (show w3.cell? ⟨gl, 0, none⟩ = some (.slice (some ⟨b, off, none⟩) l.length cap') from (hbw3.cell hgl).trans Hg.out)
      have HR3 := Lib.hid (HR.out.below hbw3)
      have HT := Lib.hid (plain_any l (some ⟨b, off, none⟩) cap' k gl op a b' c' w3 HR3.out HM.out Hx.out HG3.out)
      clear hb3 hc0 hc1 hc2 hc3 hbw
      cases hj : Cf.jumpsB ⟨op, a, b', c'⟩
      ·have HO := Lib.hid (show (!(Cf.jumpsB ⟨op, a, b', c'⟩ && decide ((l.length : Int) ≤ c')) && (!Cf.useB ⟨op, a, b', c'⟩)) = (!Cf.useB ⟨op, a, b', c'⟩) by simp [hj])
       clear hj
       go_wp2_with fail
       refine HT.out.mono ?_
       rintro e w4 ⟨rfl, hb4⟩
       have hbw4 := hbw3.trans (hb4.mono hbw3.size)
       clear HT hb4 hbw3 HG3 HR3 x3
       cases ht : (!Cf.useB ⟨op, a, b', c'⟩)
       ·have HS := Lib.hid (Cf.chkT_bad l (fun _ i => !Cf.useB i) k _ Hf.out Hx.out (HO.out.trans ht))
        clear ht
        go_wp2
        go_ret
        exact ⟨by rw [HS.out]; rfl, hbw4⟩
       ·have HZ := Lib.hid (Cf.chkT_on l (fun _ i => !Cf.useB i) k _ Hx.out Hz.out (HO.out.trans ht))
        clear ht
        go_wp2
        go_roundw
        case rel => (repeat apply Exists.intro); exact ⟨⟨k + 1, by omega, by go_num, HZ.out, hbw4⟩, rfl⟩
        case measure => simp [intOf]; omega
      ·by_cases hcl : (l.length : Int) ≤ c'
       ·have HS := Lib.hid (Cf.chkT_bad l (fun _ i => !Cf.useB i) k _ Hf.out Hx.out (by simp [hj, hcl]))
        clear hj
        rw [Hnl.out] at hcl
        go_wp2
        go_ret
        exact ⟨by rw [HS.out]; rfl, hbw3⟩
       ·have HO := Lib.hid (show (!(Cf.jumpsB ⟨op, a, b', c'⟩ && decide ((l.length : Int) ≤ c')) && (!Cf.useB ⟨op, a, b', c'⟩)) = (!Cf.useB ⟨op, a, b', c'⟩) by simp [hcl])
        clear hj
        rw [Hnl.out] at hcl
        go_wp2_with fail
        refine HT.out.mono ?_
        rintro e w4 ⟨rfl, hb4⟩
        have hbw4 := hbw3.trans (hb4.mono hbw3.size)
        clear HT hb4 hbw3 HG3 HR3 x3
        cases ht : (!Cf.useB ⟨op, a, b', c'⟩)
        ·have HS := Lib.hid (Cf.chkT_bad l (fun _ i => !Cf.useB i) k _ Hf.out Hx.out (HO.out.trans ht))
         clear ht
         go_wp2
         go_ret
         exact ⟨by rw [HS.out]; rfl, hbw4⟩
        ·have HZ := Lib.hid (Cf.chkT_on l (fun _ i => !Cf.useB i) k _ Hx.out Hz.out (HO.out.trans ht))
         clear ht
         go_wp2
         go_roundw
         case rel => (repeat apply Exists.intro); exact ⟨⟨k + 1, by omega, by go_num, HZ.out, hbw4⟩, rfl⟩
         case measure => simp [intOf]; omega
     ·have HS := Lib.hid (Cf.chkT_end l (fun _ i => !Cf.useB i) Hf.out HL.out (fun j hj => Hz.out j (by rw [Hnl.out] at hj; omega)))
      go_wp2
      go_ret
      exact ⟨by rw [HS.out]; rfl, hbw⟩
 ·have hf' : (Cf.fault l != 0) = true := by simp [hf]
  have HS := Lib.hid (show Cf.chkT l (fun _ i => !Cf.useB i) = Cf.fault l by unfold Cf.chkT; rw [if_neg hf])
  clear hf
  go_enter Tryz.func98, Tryz.ntmps98
  go_wp2_with fail
  refine HC.out.mono ?_
  rintro e w1 ⟨rfl, hb1⟩
  go_wp2
  go_ret
  exact ⟨by rw [HS.out]; rfl, hb1⟩
end Go.Proofs.YtnnhhbjbdmgpiaaGreatDoor
