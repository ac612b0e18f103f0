/- ModulesBack: for every list of raw numbers, raw numbers, place and byte, decoding the encoding of the module made of them gives the module back; an encoding in which one byte was turned is refused by its sum, and one cut to three bytes as too short. Conditions: the package-level tables that the road reads hold what the program's text lays (the card ties them). -/
import Derived.Test.YtdhnoaohicopdabDoorCards
import Derived.Test.YtdhnoaohicopdabDoorTie
import Derived.Test.YtdhnoaohicopdabDoorPlainK
import Derived.Test.YtdhnoaohicopdabDoorMakeW
import Derived.Test.YtdhnoaohicopdabDoorMemK
import Derived.Test.YtdhnoaohicopdabDoorEqJ
import Derived.Test.YtdhnoaohicopdabDoorEqC
import Derived.Test.YtdhnoaohicopdabDoorEncW
import Derived.Test.YtdhnoaohicopdabDoorDecW
import Derived.Test.YtdhnoaohicopdabDoorBackK
import Derived.Test.YtdhnoaohicopdabDoorOpenR
import Derived.Test.YtdhnoaohicopdabDoorTabsL
import Derived.Test.YtdhnoaohicopdabDoorKit
namespace Go.Proofs.YtdhnoaohicopdabDoor.ModulesBackLaw
open Go.ChangeShapes Go.WideShapes Go.ChangeAt Go.RowKit

theorem own : ownKnob Tryd.prog.godebug = none := by kernel_rfl
theorem laidOut : laidOutB Tryd.prog = true := by kernel_rfl
def BackRel (w2 : World) (X : Option Addr) (lc cx : Nat) (s : Value) (wx : World) : Prop :=
  ∃ (g : Nat) (B : Option Addr) (cb : Nat) (d : List Int), s = .pointer (some ⟨g, 0, none⟩) ∧ Wb wx g 37 [.string ⟨modName.toArray⟩, .slice X lc cx, .slice B d.length cb] ∧ Ints wx B d ∧ d.length ≤ 64 ∧ (∀ v ∈ d, 0 ≤ v ∧ v ≤ 65535) ∧ Below w2.heap.size w2 wx
theorem back_c {w2 w3 : World} {X B : Option Addr} {lc cx cb p base : Nat} {d : List Int} (hl : d.length = p) (hp : p ≤ 64) (hw : Words d) (hr : Row w3 base (.slice B p cb) d) (hb : Below w2.heap.size w2 w3) :
    BackRel w2 X lc cx (.pointer (some ⟨w3.heap.size, 0, none⟩)) (w3.alloc (.cells #[.string ⟨#[109, 111, 100]⟩, .slice X lc cx, .slice B p cb] 37)) := by
  subst hl
  exact ⟨w3.heap.size, B, cb, d, rfl, Wb.new w3 37 [.string ⟨modName.toArray⟩, .slice X lc cx, .slice B d.length cb], (hr.alloc _).ints, hp, hw, hb.alloc hb.size _⟩
theorem back_a {w2 w3 : World} {X B : Option Addr} {lc cx cb p : Nat} {d : List Int} {W0 : World} {z : List Value} (hl : d.length = p) (hp : p ≤ 64) (hw : Words d) (hz : z.length = 3) (hx : Wb W0 w2.heap.size 37 z) (hb0 : Below w2.heap.size w2 W0) (hr : Row w3 W0.heap.size (.slice B p cb) d) (hb : Below W0.heap.size W0 w3) :
    BackRel w2 X lc cx (.pointer (some ⟨w2.heap.size, 0, none⟩)) (((w3.setCell ⟨w2.heap.size, 0, none⟩ (.string ⟨#[109, 111, 100]⟩)).setCell ⟨w2.heap.size, 1, none⟩ (.slice X lc cx)).setCell ⟨w2.heap.size, 2, none⟩ (.slice B p cb)) := by
  subst hl
  have hlt := hx.lt
  have hx3 := hx.below hb hlt
  have hoff : (Value.slice B d.length cb).ownBlock ≠ some w2.heap.size := fun e => by have := own_blocks hr _ e; omega
  match z, hz with
  | [z0, z1, z2], _ =>
    exact ⟨w2.heap.size, B, cb, d, rfl, ((hx3.put 0 _).put 1 _).put 2 _, (((hr.setCell (p := ⟨w2.heap.size, 0, none⟩) hoff _).setCell (p := ⟨w2.heap.size, 1, none⟩) hoff _).setCell (p := ⟨w2.heap.size, 2, none⟩) hoff _).ints, hp, hw,
      (((hb0.trans (hb.mono hb0.size)).setCell (p := ⟨w2.heap.size, 0, none⟩) (Nat.le_refl _) _).setCell (p := ⟨w2.heap.size, 1, none⟩) (Nat.le_refl _) _).setCell (p := ⟨w2.heap.size, 2, none⟩) (Nat.le_refl _) _⟩
set_option maxRecDepth 100000 in
set_option maxHeartbeats 1000000 in
theorem walk (l : List Cf.Ins) (hf : ∀ x ∈ l, FitI x) (A0 : Option Addr) (c0 : Nat) (kr ra rb rc : Int) (f1 : Fit ra) (f2 : Fit rb) (f3 : Fit rc) (pl8 : Int) (hpl8 : Fit pl8) (bv : UInt8) (w : World) (hR : Codes w A0 l) (hm : l.length ≤ maxLen) (hL : TabL w) (hF : TabF w) :
    Calls Tryd.prog 7 #[.slice A0 l.length c0, .agg #[.int .i64 kr, .int .i64 ra, .int .i64 rb, .int .i64 rc], .int .i64 pl8, .int .u8 (bv.toNat : Int)] w fun e w' => e = .returned (.bool true) ∧ Below w.heap.size w w' := by
  have HL := Lib.hid hL
  have HF := Lib.hid hF
  have hb0 : Below w.heap.size w (w.alloc (.cells #[.int .i64 kr, .int .i64 ra, .int .i64 rb, .int .i64 rc] 47)) := (Below.refl _ _).alloc (Nat.le_refl _) _
  have hbox := Wb.new w 47 [.int .i64 kr, .int .i64 ra, .int .i64 rb, .int .i64 rc]
  have HP := Lib.hid (keepPlain_any l hf A0 c0 _ (hR.below hb0) hm)
  obtain ⟨p, hp, hp1⟩ : ∃ p : Nat, Cf.pick rc 65 = p ∧ p ≤ 64 := by
    obtain ⟨h1, h2⟩ := Cf.pick_range rc 65 (by omega)
    exact ⟨(Cf.pick rc 65).toNat, by omega, by omega⟩
  have P1 := Lib.hid (fun w => picked_any rc 65 w f3 (by omega) (by omega))
  rw [hp] at P1
  have P2 := Lib.hid (fun w => mem_all kr ra rb rc p w f1 f2 (by omega))
  clear hL hF hR hp
  go_enter Tryd.func7, Tryd.ntmps7
  go_wp2_with fail
  refine HP.out.mono ?_
  rintro e w1 ⟨A, cp, pl, rfl, hpl, hpf, hpp, hpc, hb1⟩
  have hbw1 := hb0.trans (hb1.mono (by simp))
  have hle := Cf.place_le pl pl.length
  have HLE := Lib.hid (show (Cf.madeL pl).length = Cf.place pl pl.length by rw [← madeK_all, madeK_len])
  have HMT := Lib.hid (show Cf.madeT pl = ⟨Cf.madeL pl, 0⟩ by unfold Cf.madeT; rw [if_pos hpf, if_pos hpp, if_pos (by rw [HLE.out]; omega)])
  have HMS := Lib.hid (Cf.made_safe hpf hpp (by rw [HLE.out]; omega))
  have HMk := Lib.hid (make_any pl A cp w1 hpc (HL.out.below hbw1) (HF.out.below hbw1) (by unfold maxLen; omega))
  rw [HMT.out] at HMk
  have Hbox1 := Lib.hid (hbox.below hb1 (by simp))
  clear hpf hpp hpc HMT HP hb0 hb1 hbox
  go_wp2_with fail
  refine HMk.out.mono ?_
  rintro e w2 ⟨X, cx, rfl, hX, hb2⟩
  dsimp only at hX ⊢
  have hbw2 := hbw1.trans (hb2.mono hbw1.size)
  have hml : (Cf.madeL pl).length ≤ 93 := by rw [HLE.out]; omega
  have hbox2 := Hbox1.out.below hb2 Hbox1.out.lt
  have HX := Lib.hid hX
  have Hbox2 := Lib.hid hbox2
  have Hbw2 := Lib.hid hbw2
  generalize Cf.madeL pl = c at *
  clear HMk hb2 Hbox1 hbw1 hX hbw2 HLE
  have q0 := hbox2.cell 0
  have q1 := hbox2.cell 1
  have q2 := hbox2.cell 2
  have q3 := hbox2.cell 3
  simp only [List.getElem?_cons_zero, List.getElem?_cons_succ] at q0 q1 q2 q3
  have hz2 := hbox2.lt
  clear hbox2
  have hn2 : w2.heap.size ≠ w.heap.size := by omega
  have hn2' : w.heap.size ≠ w2.heap.size := by omega
  go_upto_region 2 with fail
  go_cut [11] from 27 to 33 (fun x wx => BackRel w2 X c.length cx x wx)
  case first =>
    go_region_held3 (fun W => W.cell? ⟨w.heap.size, 0, none⟩ = some (.int .i64 kr) ∧ W.cell? ⟨w.heap.size, 1, none⟩ = some (.int .i64 ra) ∧ W.cell? ⟨w.heap.size, 2, none⟩ = some (.int .i64 rb) ∧ W.cell? ⟨w.heap.size, 3, none⟩ = some (.int .i64 rc))
      (first | go_keep | fail)
      (first
        | (go_at_call 11; (with_reducible refine (P1.out _).mono ?_); rintro e w' ⟨rfl, rfl⟩)
        | (go_at_call 20
           (with_reducible refine (P2.out _).mono ?_)
           rintro e w3 ⟨B, cb, d, rfl, hdl, hdw, hrow, hb3⟩
           have k0 := (hb3.cell (p := ⟨w.heap.size, 0, none⟩) (by simp; omega))
           have k1 := (hb3.cell (p := ⟨w.heap.size, 1, none⟩) (by simp; omega))
           have k2 := (hb3.cell (p := ⟨w.heap.size, 2, none⟩) (by simp; omega))
           have k3 := (hb3.cell (p := ⟨w.heap.size, 3, none⟩) (by simp; omega))
           simp at k0 k1 k2 k3
           have j0 := fun h => hb3.cell (p := ⟨w2.heap.size, 0, none⟩) h
           have j1 := fun h => hb3.cell (p := ⟨w2.heap.size, 1, none⟩) h
           have j2 := fun h => hb3.cell (p := ⟨w2.heap.size, 2, none⟩) h
           have g0 := fun h => hb3.frozen (p := ⟨w2.heap.size, 0, none⟩) h
           have g1 := fun h => hb3.frozen (p := ⟨w2.heap.size, 1, none⟩) h
           have g2 := fun h => hb3.frozen (p := ⟨w2.heap.size, 2, none⟩) h
           simp at j0 j1 j2 g0 g1 g2
           have hn3 : w3.heap.size ≠ w.heap.size := by have := hb3.size; simp at this; omega
           have hn3' : w.heap.size ≠ w3.heap.size := Ne.symm hn3
           have HD1 := Lib.hid hdl
           have HD2 := Lib.hid hdw
           have HD3 := Lib.hid hrow
           have HD4 := Lib.hid hb3
           clear hdl hdw hrow hb3)
        | fail)
    all_goals
      go_wp2_with fail
      go_meet
      first
        | exact back_c HD1.out hp1 HD2.out HD3.out (show Below w2.heap.size w2 w3 from (Below.refl _ _).drew.trans HD4.out)
        | exact back_a (W0 := (w2.alloc (.cells #[.string ⟨#[]⟩, .slice none 0 0, .slice none 0 0] 37)).drew) (z := [.string ⟨#[]⟩, .slice none 0 0, .slice none 0 0]) HD1.out hp1 HD2.out rfl (show Wb (w2.alloc _) _ _ _ from Wb.new w2 37 [.string ⟨#[]⟩, .slice none 0 0, .slice none 0 0]) ((Below.refl _ _).alloc (Nat.le_refl _) _).drew HD3.out HD4.out
  case rest =>
    obtain ⟨g, B, cb, d, rfl, hg, hB, hd64, hdw, hb3⟩ := hcut
    have hbw3 := Hbw2.out.trans (hb3.mono Hbw2.out.size)
    have HXc := Lib.hid (HX.out.below hb3)
    have HBc := Lib.hid hB
    have Hg := Lib.hid hg
    have hmod := mod_good HMS.out hd64 hdw
    have HEL := Lib.hid (Cf.enc_len hmod)
    have HEn := Lib.hid (encode_any modName c d X B cx cb wc HXc.out HBc.out (HL.out.below hbw3) (HF.out.below hbw3) (by unfold maxLen; simp [modName]) (by unfold maxLen; omega) (by unfold maxLen; omega))
    rw [Cf.encT, if_pos hmod, hmod] at HEn
    have HDe := Lib.hid (Cf.dec_enc hmod)
    have HDs := Lib.hid (fun (k : Nat) (u v : UInt8) (hk : (Cf.encL ⟨modName, c, d⟩)[k]? = some u) (hne : v ≠ u) => Cf.dec_set hmod hk hne)
    have p0 := hg.cell 0
    have p1 := hg.cell 1
    have p2 := hg.cell 2
    simp only [List.getElem?_cons_zero, List.getElem?_cons_succ] at p0 p1 p2
    have HMd := Lib.hid hmod
    clear hb3 hB hg q0 q1 q2 q3 hz2 Hbox2 P1 P2 HX HMS hmod hdw hn2 hn2' Hbw2
    generalize hme : Cf.encL ⟨modName, c, d⟩ = en at *
    clear hme
    obtain ⟨hen1, hen2⟩ := HEL.out
    clear HEL
    go_wp2_with fail
    refine HEn.out.mono ?_
    rintro e w4 ⟨rfl, hb4⟩
    have hbw4 := hbw3.trans (hb4.mono hbw3.size)
    have HX4 := Lib.hid (HXc.out.below hb4)
    have HB4 := Lib.hid (HBc.out.below hb4)
    have Hg4 := Lib.hid (Hg.out.below hb4 Hg.out.lt)
    have HDc := Lib.hid (decode_any en w4 (HL.out.below hbw4) (HF.out.below hbw4) (by unfold maxLen; omega))
    rw [HDe.out] at HDc
    clear HEn hb4 HXc HBc Hg p0 p1 p2 hbw3
    go_wp2_with fail
    refine HDc.out.mono ?_
    rintro e w5 ⟨X5, B5, cx5, cb5, rfl, hX5, hB5, hb5, _, _⟩
    dsimp only at hX5 hB5 ⊢
    have hbw5 := hbw4.trans (hb5.mono hbw4.size)
    have hb5a : Below w5.heap.size w5 (w5.alloc (.cells #[.string ⟨modName.toArray⟩, .slice X5 c.length cx5, .slice B5 d.length cb5] 37)) := (Below.refl _ _).alloc (Nat.le_refl _) _
    have hbw5a := hbw5.trans (hb5a.mono hbw5.size)
    have Hx5 := Lib.hid (Wb.new w5 37 [.string ⟨modName.toArray⟩, .slice X5 c.length cx5, .slice B5 d.length cb5])
    have HX5 := Lib.hid hX5
    have HB5 := Lib.hid hB5
    have HX5a := Lib.hid (HX4.out.below hb5)
    have HB5a := Lib.hid (HB4.out.below hb5)
    have Hg5 := Lib.hid (Hg4.out.below hb5 Hg4.out.lt)
    obtain ⟨capb, w6, hcv, hcells, hopen, hb6⟩ := bytes_open en (w5.alloc (.cells #[.string ⟨modName.toArray⟩, .slice X5 c.length cx5, .slice B5 d.length cb5] 37))
    rw [show (w5.alloc (.cells #[.string ⟨modName.toArray⟩, .slice X5 c.length cx5, .slice B5 d.length cb5] 37)).heap.size = w5.heap.size + 1 by simp] at hcv hcells hopen
    have hbw6 := hbw5a.trans (hb6.mono hbw5a.size)
    obtain ⟨q, hq, hq1⟩ : ∃ q : Nat, Cf.pick pl8 en.length = q ∧ q < en.length := by
      obtain ⟨h1, h2⟩ := Cf.pick_range pl8 en.length (by omega)
      exact ⟨(Cf.pick pl8 en.length).toNat, by omega, by omega⟩
    have HPk := Lib.hid (fun w => picked_any pl8 en.length w hpl8 (by omega) (by omega))
    rw [hq] at HPk
    obtain ⟨u, hu⟩ : ∃ u, en[q]? = some u := ⟨_, List.getElem?_eq_getElem hq1⟩
    have hcq := hcells q u hu
    have hfq := hopen.2 q hq1
    have hb56 : Below w5.heap.size w5 w6 := hb5a.trans (hb6.mono (by simp))
    have Hx6 := Lib.hid (Hx5.out.below hb6 Hx5.out.lt)
    have HU := Lib.hid hu
    have Hcells := Lib.hid hcells
    have Hop := Lib.hid hopen
    have hlen0 : ¬ ((en.length : Int) < 6) := by omega
    have hz5 : w5.heap.size + 1 ≤ w6.heap.size := by have := hb6.size; simpa using this
    clear HDc hb5 hX5 hB5 hb5a Hx5 HX4 HB4 Hg4 hcells hopen hu hq hb6
    go_wp2_with fail
    refine (HPk.out _).mono ?_
    rintro e w' ⟨rfl, rfl⟩
    have hval : (((u + bv).toNat : Nat) : Int) = ((u.toNat : Int) + (bv.toNat : Int)) % 256 := by rw [UInt8.toNat_add]; omega
    have hby7 := byts_set Hop.out.1 Hcells.out q (u + bv)
    rw [hval] at hby7
    have hcv7 := bytes_back hby7 (by intro e; have h8 := congrArg List.length e; rw [List.length_set, List.length_nil] at h8; omega) capb
    rw [List.length_set] at hcv7
    have hb7 : Below w.heap.size w (w6.setCell ⟨w5.heap.size + 1, q, none⟩ (.int .u8 (((u.toNat : Int) + (bv.toNat : Int)) % 256))) := hbw6.setCell (by show w.heap.size ≤ w5.heap.size + 1; have := hbw5.size; omega) _
    have HD7 := Lib.hid (decode_any (en.set q (u + bv)) _ (HL.out.below hb7) (HF.out.below hb7) (by unfold maxLen; rw [List.length_set]; omega))
    have HE7 := Lib.hid (show bv = 0 ∨ (Cf.decT (en.set q (u + bv))).err = 11 by
      by_cases h0 : bv = 0
      · exact .inl h0
      · exact .inr (by rw [HDs.out q u (u + bv) HU.out (add_ne u bv h0)]))
    have hb57 := hb56.setCell (p := ⟨w5.heap.size + 1, q, none⟩) (by show w5.heap.size ≤ w5.heap.size + 1; omega) (.int .u8 (((u.toNat : Int) + (bv.toNat : Int)) % 256))
    have HX7 := Lib.hid (HX5.out.below hb57)
    have HB7 := Lib.hid (HB5.out.below hb57)
    have HX7a := Lib.hid (HX5a.out.below hb57)
    have HB7a := Lib.hid (HB5a.out.below hb57)
    have Hg7 := Lib.hid (Hg5.out.below hb57 Hg5.out.lt)
    have Hx7 := Lib.hid (show Wb (w6.setCell ⟨w5.heap.size + 1, q, none⟩ (.int .u8 (((u.toNat : Int) + (bv.toNat : Int)) % 256))) w5.heap.size _ _ from Hx6.out.off_ (p := ⟨w5.heap.size + 1, q, none⟩) (by show w5.heap.size ≠ w5.heap.size + 1; omega) _)
    have Hb7 := Lib.hid hb7
    clear hcv hval hby7 hb7 Hcells Hop HU HDs HPk hbw6 Hx6 HX5 HB5 HX5a HB5a Hg5 hb56 hb57 hz5
    go_wp2_with fail
    generalize hw7 : w6.setCell _ _ = w7 at *
    clear hw7
    refine HD7.out.mono ?_
    rintro e w8 ⟨X8, B8, cx8, cb8, rfl, _, _, hb8, _, _⟩
    have hbw8 := Hb7.out.trans (hb8.mono Hb7.out.size)
    have hb8a := fun o => hb8.alloc hb8.size o
    have hbw8a := fun o => hbw8.alloc hbw8.size o
    have s3 : ∀ w, (Instr.slice 9 (.string ⟨en.toArray⟩) none (some (.int .i64 3)) none).run Tryd.prog w = .ok (.string ⟨(en.take 3).toArray⟩) w := str_upto en 3 (by omega)
    have HD9 := Lib.hid (fun (W : World) (hW : Below w.heap.size w W) => decode_any (en.take 3) W (HL.out.below hW) (HF.out.below hW) (by unfold maxLen; rw [List.length_take]; omega))
    rw [Cf.dec_short (by rw [List.length_take]; omega)] at HD9
    generalize (Cf.decT (en.set q (u + bv))).err = er8 at *
    generalize (Cf.decT (en.set q (u + bv))).mod = md8 at *
    clear HD7 hcv7 hcq hfq
    go_wp2_with fail
    refine (HD9.out _ (hbw8a _)).mono ?_
    rintro e w9 ⟨X9, B9, cx9, cb9, rfl, _, _, hb9, _, _⟩
    dsimp only [Cf.noMod]
    have hbw9 := (hbw8a _).trans (hb9.mono (by have := hbw8.size; simp; omega))
    have hb79 := (hb8a _).trans (hb9.mono (by have := hb8.size; simp; omega))
    have HX9 := Lib.hid (HX7.out.below hb79)
    have HB9 := Lib.hid (HB7.out.below hb79)
    have HX9a := Lib.hid (HX7a.out.below hb79)
    have HB9a := Lib.hid (HB7a.out.below hb79)
    have hx9 := Hx7.out.below hb79 Hx7.out.lt
    have hg9 := Hg7.out.below hb79 Hg7.out.lt
    have y0 := hx9.cell 0
    have y1 := hx9.cell 1
    have y2 := hx9.cell 2
    have z0 := hg9.cell 0
    have z1 := hg9.cell 1
    have z2 := hg9.cell 2
    simp only [List.getElem?_cons_zero, List.getElem?_cons_succ] at y0 y1 y2 z0 z1 z2
    have hy := hx9.lt
    have hz := hg9.lt
    clear HD9 hb8 hb8a hbw8a hbw8 hb9 Hx7 Hg7 HX7 HB7 HX7a HB7a s3 hb79 Hb7 hx9 hg9
    have hbA : ∀ o : Obj, Below w9.heap.size w9 (w9.alloc o) := fun o => (Below.refl _ _).alloc (Nat.le_refl _) o
    have HEC := Lib.hid (fun o => equalC_same c X5 X cx5 cx (w9.alloc o) (HX9.out.below (hbA o)) (HX9a.out.below (hbA o)) (by unfold maxLen; omega))
    have HEI := Lib.hid (fun o k => equalI_same d B5 B cb5 cb ((w9.alloc o).drewN k) (HB9.out.below (below_drewN (hbA o) k)) (HB9a.out.below (below_drewN (hbA o) k)) (by unfold maxLen; omega))
    have hbw9a := fun o => hbw9.alloc hbw9.size o
    clear hbA
    go_wp2_with fail
    refine (HEC.out _).mono ?_
    rintro e w' ⟨rfl, k1, rfl⟩
    go_wp2_with fail
    refine (HEI.out _ _).mono ?_
    rintro e w' ⟨rfl, k2, rfl⟩
    by_cases hv0 : bv = 0
    · subst hv0
      go_wp2
      go_ret
      exact ⟨rfl, below_drewN (hbw9a _) (k1 + k2)⟩
    · have h11 : er8 = 11 := HE7.out.resolve_left hv0
      subst h11
      have hv1 : ((bv.toNat : Int) == 0) = false := by
        rw [beq_eq_false_iff_ne]
        intro e
        exact hv0 (UInt8.toNat_inj.1 (by simpa using e))
      clear hv0
      go_wp2
      go_ret
      exact ⟨rfl, below_drewN (hbw9a _) (k1 + k2)⟩

set_option maxRecDepth 100000 in
theorem contract (H : Type) (enc : TypeId × Value → H) (W : World) (base : Nat) (args : Array Value) (ds gs : List (DataW H)) (before : List MemPlace)
    (hval : ∀ (j : Nat) t v, Tryd.f7.params[j]? = some t → args[j]? = some v → Value.okWide Tryd.prog W .any base t v)
    (hW : DataW.Whole enc Tryd.prog Tryd.f7.params.toList Rows.modulesBackSpec.vars false W args.toList ds gs before)
    (_hsz0 : (DataW.weightsEach Tryd.prog (Tryd.f7.params.toList ++ (OpenSpec.ofChange Rows.modulesBackSpec).bare.plain.varTypes Tryd.prog) (ds ++ gs)).all (· ≤ reachBytes) = true)
    (hL : laidMetH Tryd.prog Rows.modulesBackRow.laid W) (_hsh : W.ShapedOpen Tryd.prog) :
    Calls Tryd.prog 7 args W fun e W' => ∃ v, e = .returned v ∧ Rows.modulesBackSpec.post enc Tryd.prog Tryd.f7 false true false false W args v W' := by
  have hW' := hW
  obtain ⟨p, q, hA0, hV, rfl, hfz, hnd⟩ := hW
  have hA : DataW.TrodAll enc Tryd.prog W 0 (fun _ => true) true Tryd.f7.params.toList args.toList ds p := hA0
  rw [Tryd.params7] at hA hval
  obtain ⟨v0, vs0, d0, ds0, p0, q0, hargs0, rfl, rfl, h0, r0⟩ := trodAll_cons hA
  obtain ⟨v1, vs1, d1, ds1, p1, q1, hargs1, rfl, rfl, h1, r1⟩ := trodAll_cons r0
  obtain ⟨v2, vs2, d2, ds2, p2, q2, hargs2, rfl, rfl, h2, r2⟩ := trodAll_cons r1
  obtain ⟨v3, vs3, d3, ds3, p3, q3, hargs3, rfl, rfl, h3, r3⟩ := trodAll_cons r2
  obtain ⟨hnil, rfl, rfl⟩ := trodAll_nil r3
  obtain rfl : args = #[v0, v1, v2, v3] := by cases args; simp_all
  obtain ⟨rfl, rfl⟩ : gs = [] ∧ q = [] := by cases gs with | nil => exact ⟨rfl, hV⟩ | cons g gs => exact hV.elim
  obtain ⟨A0, c0, l, rfl, hl, hm, hfit⟩ := open_fit Tryd.underlying22 rawFields (hval 0 22 v0 rfl rfl) h0
  obtain ⟨kr, ra, rb, rc, rfl, _, f1, f2, f3⟩ := open_raw rawFields (hval 1 47 v1 rfl rfl) h1
  obtain ⟨pl8, rfl, rfl, rfl, hp8⟩ := Go.ChangeShapes.open_int Tryd.underlying3 (hval 2 3 v2 rfl rfl) h2
  obtain ⟨bz, rfl, rfl, rfl, hbz⟩ := Go.ChangeShapes.open_int Tryd.underlying5 (hval 3 5 v3 rfl rfl) h3
  obtain ⟨bv, rfl⟩ : ∃ bv : UInt8, bz = (bv.toNat : Int) := by
    have hz : 0 ≤ bz ∧ bz ≤ 255 := by simpa [Lit.wf, IntKind.min, IntKind.max, IntKind.bits, IntKind.signed] using hbz
    exact ⟨UInt8.ofNat bz.toNat, by rw [Cf.toNat_of _ (by omega)]; omega⟩
  refine (walk l hfit A0 c0 kr ra rb rc f1 f2 f3 pl8 (fit_wf hp8) bv W hl hm (laidL hL (List.Mem.head _)) (laidF hL (List.Mem.tail _ (List.Mem.head _)))).mono fun e W' ⟨he, hb⟩ => ?_
  exact ⟨_, he, post_law laidOut (by kernel_rfl) Tryd.underlying4 rfl (by kernel_rfl) (fun ds hd => by
    match ds, hd with
    | [d0, d1, d2, d3], _ => rfl) hW' hb⟩

noncomputable def laidWorld (os : Os) : World := { World.holding Tryd.prog os ⟨#[], #[], []⟩ with heap := (((World.holding Tryd.prog os ⟨#[], #[], []⟩).heap).modify 1 (withCells (Cf.larTab.map (Value.int .i64)))).modify 0 (withCells (Cf.fmtTab.flatten.map (Value.int .i64))) }
theorem laid_met (os : Os) : laidMet Tryd.prog Rows.modulesBackRow.laid ((laidWorld os).forCall (fun _ _ => 0) ⟨#[], #[.slice none 0 0, .agg #[.int .i64 0, .int .i64 0, .int .i64 0, .int .i64 0], .int .i64 0, .int .u8 0], []⟩).memory :=
  laidMet_of_run' 8 (by kernel_rfl) (by kernel_rfl)
theorem reads (os : Os) {H : Type} (enc : TypeId × Value → H) : ∃ places, DataW.whole enc Tryd.prog ((laidWorld os).forCall (fun _ _ => 0) ⟨#[], #[.slice none 0 0, .agg #[.int .i64 0, .int .i64 0, .int .i64 0, .int .i64 0], .int .i64 0, .int .u8 0], []⟩).memory Tryd.f7.params.toList Rows.modulesBackSpec.vars false (#[Value.slice none 0 0, .agg #[.int .i64 0, .int .i64 0, .int .i64 0, .int .i64 0], .int .i64 0, .int .u8 0] : Array Value).toList 8 = some ([.nil, .agg [.lit (.int .i64 0), .lit (.int .i64 0), .lit (.int .i64 0), .lit (.int .i64 0)], .lit (.int .i64 0), .lit (.int .u8 0)], [], places) :=
  ⟨[], by kernel_rfl⟩

set_option maxRecDepth 100000 in
theorem lifted (os : Os) (started : os.Started) (H : Type) (enc : TypeId × Value → H) (F : Stop.Interp) :
    ReturnsInHanded {} Tryd.checked os 7 .any ((OpenSpec.ofChange Rows.modulesBackSpec).preRow enc Tryd.prog Tryd.f7 Rows.modulesBackRow.domain false Rows.modulesBackRow.laid) (((OpenSpec.ofChange Rows.modulesBackSpec).at F).post enc Tryd.prog Tryd.f7 false true false false) := by
  obtain ⟨places, hx⟩ := reads os enc
  refine returnsInHanded_of_row (C := Tryd.checked) (s := (OpenSpec.ofChange Rows.modulesBackSpec)) own started (by kernel_rfl) Tryd.func7
    (witness_row_at (enc := enc) (C := Tryd.checked) false (laidWorld os) #[.slice none 0 0, .agg #[.int .i64 0, .int .i64 0, .int .i64 0, .int .i64 0], .int .i64 0, .int .u8 0] rfl (by kernel_rfl) (by kernel_rfl) (by kernel_rfl)
      (OpenSpec.preRow_of_cond 8 hx (by kernel_rfl) (fun k hk => by cases hk) (by kernel_rfl) (laid_met os))) ?_
  intro W base args ds gs before hval hW _ hcond hsz hL hsh _
  exact contract H enc W base args ds gs before hval hW hsz hL hsh

theorem said : Rows.ModulesBackSaid :=
  OpenClaim.holds_of_cond 7 Tryd.f7 rfl rfl rfl rfl rfl rfl rfl ⟨rfl, rfl, rfl, rfl, rfl⟩ rfl rfl rfl rfl rfl (by kernel_rfl) Tryd.func7 (by kernel_rfl)
    (of_decide_eq_true (by kernel_rfl)) (by unfold Func.isWrapper; first | (rw [if_pos (by decide +kernel)]; kernel_rfl) | (rw [if_neg (by decide +kernel)]; exact ⟨rfl, rfl⟩))
    (fun os started H enc _ F => by rw [OpenClaim.pre_eq_preRow]; exact lifted os started H enc F)
theorem plain (f : FuncId) (fn : Func) (hf : Tryd.pinned.checked.prog.funcNamed "curfew/curfewkeep.ModulesBack" = some f) (hfn : Tryd.pinned.checked.prog.funcs[f]? = some fn) :
    false = Tryd.pinned.checked.prog.looks [] ∧ ∀ (j : Nat) t, fn.params[j]? = some t → Tryd.pinned.checked.prog.wantsStandIn t = false := by
  obtain rfl : f = 7 := Option.some.inj ((show Tryd.prog.funcNamed "curfew/curfewkeep.ModulesBack" = some 7 by kernel_rfl).symm.trans hf) |>.symm
  obtain rfl : fn = Tryd.f7 := (Option.some.inj (Tryd.func7.symm.trans hfn)).symm
  refine ⟨by kernel_rfl, fun j t ht => ?_⟩
  rw [Tryd.params7] at ht
  have hm : t = 22 ∨ t = 47 ∨ t = 3 ∨ t = 5 := by simpa using Array.mem_of_getElem? ht
  rcases hm with rfl | rfl | rfl | rfl
  · exact (show Tryd.prog.wantsStandIn 22 = false by kernel_rfl)
  · exact (show Tryd.prog.wantsStandIn 47 = false by kernel_rfl)
  · exact (show Tryd.prog.wantsStandIn 3 = false by kernel_rfl)
  · exact (show Tryd.prog.wantsStandIn 5 = false by kernel_rfl)
theorem card : Rows.ModulesBackCardSaid :=
  Claim7.holds_tied_plain_at .later [] _ _ _ _ said (fun _ h => by cases h) (by kernel_rfl) (fun _ h => by cases h) modulesBack_row_tie rfl ⟨rfl, rfl⟩ (by kernel_rfl) rfl plain (by kernel_rfl)
end Go.Proofs.YtdhnoaohicopdabDoor.ModulesBackLaw
namespace Go.Proofs.YtdhnoaohicopdabDoor
theorem modulesBack_holds : Rows.ModulesBackCardSaid := ModulesBackLaw.card
#print axioms modulesBack_holds
end Go.Proofs.YtdhnoaohicopdabDoor
