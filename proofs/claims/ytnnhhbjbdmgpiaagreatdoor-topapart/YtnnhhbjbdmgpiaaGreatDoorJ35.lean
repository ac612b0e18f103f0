/- Texts of the proof of TopApart: ModW. -/
import Derived.Test.YtnnhhbjbdmgpiaaGreatDoorJ12
import Derived.Test.YtnnhhbjbdmgpiaaGreatDoorJ08
import Derived.Test.YtnnhhbjbdmgpiaaGreatDoorJ26
/- Walks of chapter 4: the program's Check of a module. -/
namespace Go.Proofs.YtnnhhbjbdmgpiaaGreatDoor
set_option maxRecDepth 100000
open Go.RowKit

/-- A module's cells. -/
abbrev modV (n : List UInt8) (A : Option Addr) (lc ca : Nat) (B : Option Addr) (ld cb : Nat) : Array Value := #[.string ⟨n.toArray⟩, .slice A lc ca, .slice B ld cb]
set_option maxHeartbeats 2000000 in
theorem modCheck_any (n : List UInt8) (l : List Cf.Ins) (d : List Int) (A B : Option Addr) (ca cb : Nat) (w : World) (hC : Codes w A l) (hD : Ints w B d) (hL : TabL w) (hF : TabF w) (hn : n.length ≤ maxLen) (hl : l.length ≤ maxLen) (hd : d.length ≤ maxLen) :
    Calls Tryz.prog 84 #[.agg #[.string ⟨n.toArray⟩, .slice A l.length ca, .slice B d.length cb]] w fun e w' => e = .returned (.int .i64 (Cf.modT ⟨n, l, d⟩)) ∧ Below w.heap.size w w' := by
  have hmf : ∀ (fn : Fn) (first cap : Array Value) (w : World), (Instr.makeFunc fn first cap).run Tryz.prog w = .ok (.func fn first cap) w := fun _ _ _ _ => rfl
  have hb0 : Below w.heap.size w (w.alloc (.cells #[.string ⟨n.toArray⟩, .slice A l.length ca, .slice B d.length cb] 79)) := (Below.refl _ _).alloc (Nat.le_refl _) _
  have hbox : Wb (w.alloc (.cells #[.string ⟨n.toArray⟩, .slice A l.length ca, .slice B d.length cb] 79)) w.heap.size 79 [.string ⟨n.toArray⟩, .slice A l.length ca, .slice B d.length cb] := Wb.new w 79 [.string ⟨n.toArray⟩, .slice A l.length ca, .slice B d.length cb]
  have HN := Lib.hid (pname_any n hn (w.alloc (.cells #[.string ⟨n.toArray⟩, .slice A l.length ca, .slice B d.length cb] 79)))
  have HC := Lib.hid hC
  have HD := Lib.hid hD
  have HL := Lib.hid hL
  have HF := Lib.hid hF
  have HMl := Lib.hid hl
  have HMd := Lib.hid hd
  have HB0 := Lib.hid hb0
  have Hbox := Lib.hid hbox
  unfold maxLen at hd
  clear hC hD hL hF hl hbox hb0
  go_enter Tryz.func84, Tryz.ntmps84
  go_wp2_with fail
  refine HN.out.mono ?_
  rintro e w1 ⟨rfl, hb1⟩
  have hbw1 := HB0.out.trans (hb1.mono (by simp))
  have hbox1 := Hbox.out.below hb1 (by simp)
  clear HN hb1 Hbox HB0
  cases hnb : Cf.nameB n
  · have HS := Lib.hid (show Cf.modT ⟨n, l, d⟩ = 4 by unfold Cf.modT; rw [if_neg (by simp [hnb])])
    clear hnb
    go_wp2
    go_ret
    exact ⟨by rw [HS.out]; rfl, hbw1⟩
  · have p1 := hbox1.cell 1
    have p2 := hbox1.cell 2
    simp only [List.getElem?_cons_zero, List.getElem?_cons_succ] at p1 p2
    by_cases h64 : d.length ≤ 64
    · have HCF := Lib.hid (mContainsFunc_any d B cb w1 (HD.out.below hbw1) HMd.out)
      cases hw : d.all Cf.wordB
      · have HS := Lib.hid (show Cf.modT ⟨n, l, d⟩ = 2 by unfold Cf.modT; rw [if_pos hnb, if_pos h64, if_neg (by simp [hw])])
        rw [hw] at HCF
        clear hnb hw
        go_wp2_with fail
        refine HCF.out.mono ?_
        rintro e w2 ⟨rfl, rfl⟩
        go_wp2
        go_ret
        exact ⟨by rw [HS.out]; rfl, hbw1⟩
      · have HS := Lib.hid (show Cf.modT ⟨n, l, d⟩ = Cf.safeT l by unfold Cf.modT; rw [if_pos hnb, if_pos h64, if_pos hw])
        rw [hw] at HCF
        have HV := Lib.hid (verify_any l A ca w1 (HC.out.below hbw1) (HL.out.below hbw1) (HF.out.below hbw1) HMl.out)
        clear hnb hw
        go_wp2_with fail
        refine HCF.out.mono ?_
        rintro e w2 ⟨rfl, rfl⟩
        go_wp2_with fail
        refine HV.out.mono ?_
        rintro e w3 ⟨rfl, hb3⟩
        have hbw3 := hbw1.trans (hb3.mono hbw1.size)
        go_wp2
        go_ret
        exact ⟨by rw [HS.out]; rfl, hbw3⟩
    · have HS := Lib.hid (show Cf.modT ⟨n, l, d⟩ = 1 by unfold Cf.modT; rw [if_pos hnb, if_neg h64])
      clear hnb
      go_wp2
      go_ret
      exact ⟨by rw [HS.out]; rfl, hbw1⟩
end Go.Proofs.YtnnhhbjbdmgpiaaGreatDoor
