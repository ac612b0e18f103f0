/- Walks of chapter 4: the reference's ModuleFault. -/
import Derived.Test.YtnnhhbjbdmgpiaaDoorNameR
import Derived.Test.YtnnhhbjbdmgpiaaDoorWordR
import Derived.Test.YtnnhhbjbdmgpiaaDoorSafeR
namespace Go.Proofs.YtnnhhbjbdmgpiaaDoor
set_option maxRecDepth 100000
open Go.RowKit

set_option maxHeartbeats 2000000 in
theorem moduleFault_any (n : List UInt8) (l : List Cf.Ins) (d : List Int) (A B : Option Addr) (ca cb : Nat) (w : World) (hC : Codes w A l) (hD : Ints w B d) (hn : n.length ≤ maxLen) (hl : l.length ≤ maxLen) (hd : d.length ≤ maxLen) :
    Calls Tryd.prog 13 #[.agg #[.string ⟨n.toArray⟩, .slice A l.length ca, .slice B d.length cb]] w fun e w' => e = .returned (.int .i64 (Cf.modT ⟨n, l, d⟩)) ∧ Below w.heap.size w w' := by
  have hb0 : Below w.heap.size w (w.alloc (.cells #[.string ⟨n.toArray⟩, .slice A l.length ca, .slice B d.length cb] 40)) := (Below.refl _ _).alloc (Nat.le_refl _) _
  have hbox : Wb (w.alloc (.cells #[.string ⟨n.toArray⟩, .slice A l.length ca, .slice B d.length cb] 40)) w.heap.size 40 [.string ⟨n.toArray⟩, .slice A l.length ca, .slice B d.length cb] := Wb.new w 40 [.string ⟨n.toArray⟩, .slice A l.length ca, .slice B d.length cb]
  have HN := Lib.hid (nameMay_any n hn (w.alloc (.cells #[.string ⟨n.toArray⟩, .slice A l.length ca, .slice B d.length cb] 40)))
  have HC := Lib.hid hC
  have HD := Lib.hid hD
  have HMl := Lib.hid hl
  have HMd := Lib.hid hd
  have p1 := hbox.cell 1
  have p2 := hbox.cell 2
  simp only [List.getElem?_cons_zero, List.getElem?_cons_succ] at p1 p2
  unfold maxLen at hd
  clear hC hD hl hbox
  go_enter Tryd.func13, Tryd.ntmps13
  go_wp2_with fail
  refine HN.out.mono ?_
  rintro e w1 ⟨rfl, rfl⟩
  generalize hw1 : w.alloc _ = w1 at *
  clear HN hw1
  cases hnb : Cf.nameB n
  · have HS := Lib.hid (show Cf.modT ⟨n, l, d⟩ = 4 by unfold Cf.modT; rw [if_neg (by simp [hnb])])
    clear hnb
    go_wp2
    go_ret
    exact ⟨by rw [HS.out]; rfl, hb0⟩
  · by_cases h64 : d.length ≤ 64
    · have HCF := Lib.hid (allWords_any d B cb w1 (HD.out.below hb0) HMd.out)
      cases hw : d.all Cf.wordB
      · have HS := Lib.hid (show Cf.modT ⟨n, l, d⟩ = 2 by unfold Cf.modT; rw [if_pos hnb, if_pos h64, if_neg (by simp [hw])])
        rw [hw] at HCF
        clear hnb hw
        go_wp2_with fail
        refine HCF.out.mono ?_
        rintro e w2 ⟨rfl, rfl⟩
        go_wp2
        go_ret
        exact ⟨by rw [HS.out]; rfl, hb0⟩
      · have HS := Lib.hid (show Cf.modT ⟨n, l, d⟩ = Cf.safeT l by unfold Cf.modT; rw [if_pos hnb, if_pos h64, if_pos hw])
        rw [hw] at HCF
        have HV := Lib.hid (safeFault_any l A ca w1 (HC.out.below hb0) HMl.out)
        clear hnb hw
        go_wp2_with fail
        refine HCF.out.mono ?_
        rintro e w2 ⟨rfl, rfl⟩
        go_wp2_with fail
        refine HV.out.mono ?_
        rintro e w3 ⟨rfl, hb3⟩
        have hbw3 := hb0.trans (hb3.mono hb0.size)
        go_wp2
        go_ret
        exact ⟨by rw [HS.out]; rfl, hbw3⟩
    · have HS := Lib.hid (show Cf.modT ⟨n, l, d⟩ = 1 by unfold Cf.modT; rw [if_pos hnb, if_neg h64])
      clear hnb
      go_wp2
      go_ret
      exact ⟨by rw [HS.out]; rfl, hb0⟩
end Go.Proofs.YtnnhhbjbdmgpiaaDoor
