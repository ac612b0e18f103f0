/- Texts of the proof of TopApart: ApartK. -/
import Derived.BigRegion
import Derived.BigQuiet
import Derived.Test.YtnnhhbjbdmgpiaaGreatDoorJ37
import Derived.Test.YtnnhhbjbdmgpiaaGreatDoorJ33
import Derived.Test.YtnnhhbjbdmgpiaaGreatDoorTAT00
import Derived.Test.YtnnhhbjbdmgpiaaGreatDoorTAT02
import Derived.Test.YtnnhhbjbdmgpiaaGreatDoorJ04
import Derived.Test.YtnnhhbjbdmgpiaaGreatDoorJ13
set_option linter.unusedSimpArgs false
set_option linter.unusedVariables false
/- Walks of the law TopApart: its script, laid. -/
namespace Go.Proofs.YtnnhhbjbdmgpiaaGreatDoor
set_option maxRecDepth 100000
open Go.RowKit
theorem acts_new (w : World) (t : TypeId) (vs : Array Value) (l : List Cf.Actn) (h : vs.toList = l.flatMap encAc) : Acts (w.alloc (.cells vs t)) (some ⟨w.heap.size, 0, none⟩) l :=
 .inr ⟨w.heap.size, 0, rfl, by simp, fun k b hb j u hu => by
  have h1 := flat_at 6 encAc encAc_len l k b j u hb hu
  rw [← h] at h1
  simp at h1 ⊢
  exact h1⟩
theorem ext_list (s : List UInt8) (a b : Nat) : ((⟨s.toArray⟩ : ByteArray).extract a (a + b)).toList = (s.drop a).take b := by
 have h : (⟨s.toArray⟩ : ByteArray).extract a (a + b) = ⟨((s.drop a).take b).toArray⟩ := by
  apply ext_of
  rw [Lib.extract_data]
  simp
 rw [h]
 simp
theorem pick29 : Cf.pick 29 30 = 29 := by decide
set_option maxRecDepth 100000 in
set_option maxHeartbeats 4000000 in
theorem apart_walk (kr ra rb rc n m : Int) (w : World) (f1 : Fit ra) (f2 : Fit rb) (fn : Fit n) (fm : Fit m) (hL : TabL w) (hF : TabF w) :
  Calls Tryz.prog 9 #[.agg #[.int .i64 kr, .int .i64 ra, .int .i64 rb, .int .i64 rc], .int .i64 n, .int .i64 m] w fun e w' => e = .returned (.bool true) ∧ Below w.heap.size w w' := by
 obtain ⟨da, hda⟩ : ∃ d : Nat, (d : Int) = 1 + Cf.pick ra 30 := ⟨(1 + Cf.pick ra 30).toNat, by have := Cf.pick_range ra 30 (by omega); omega⟩
 have hda1 : 1 ≤ da ∧ da ≤ 30 := by have := Cf.pick_range ra 30 (by omega); omega
 obtain ⟨pa, hpa, hpa8⟩ : ∃ p : Nat, Cf.pick n 9 = p ∧ p ≤ 8 := by
  obtain ⟨h1, h2⟩ := Cf.pick_range n 9 (by omega)
  exact ⟨(Cf.pick n 9).toNat, by omega, by omega⟩
 obtain ⟨pb, hpb, hpb8⟩ : ∃ p : Nat, Cf.pick m 9 = p ∧ p ≤ 8 := by
  obtain ⟨h1, h2⟩ := Cf.pick_range m 9 (by omega)
  exact ⟨(Cf.pick m 9).toNat, by omega, by omega⟩
 have HPa := Lib.hid (fun w => Picked_any n 9 w fn (by omega) (by omega))
 have HPb := Lib.hid (fun w => Picked_any m 9 w fm (by omega) (by omega))
 rw [hpa] at HPa
 rw [hpb] at HPb
 have HD1 := Lib.hid (fun w => data_any kr ra rb rc da w f1 f2 hda)
 have HD2 := Lib.hid (fun w => data_any 0 29 rb 0 30 w (by unfold Fit; omega) f2 (by rw [pick29]; rfl))
 have HAdd := Lib.hid (fun (a b : List UInt8) (h : a.length + b.length ≤ 100) => show (∀ W : World, (Op.stringOp .add ⟨a.toArray⟩ ⟨b.toArray⟩).run Tryz.prog W = .ok (.string ⟨(a ++ b).toArray⟩) W) from fun W => by
  rw [run_string_add_sum _ _ _ (by simp [ByteArray.size]; omega), str_append])
 have hb0 : Below w.heap.size w (w.alloc (.cells #[.int .i64 kr, .int .i64 ra, .int .i64 rb, .int .i64 rc] 45)) := (Below.refl _ _).alloc (Nat.le_refl _) _
 have Hbox := Lib.hid (Wb.new w 45 [.int .i64 kr, .int .i64 ra, .int .i64 rb, .int .i64 rc])
 have HT := Lib.hid (fun (W : World) (h : Below w.heap.size w W) => show TabL W ∧ TabF W from ⟨hL.below h, hF.below h⟩)
 clear hL hF hpa hpb hda f1 f2 fn fm
 go_enter Tryz.func9, Tryz.ntmps9
 go_upto_region 1 with fail
 have Hb0 := Lib.hid hb0
 have q0 := Hbox.out.cell 0
 have q1 := Hbox.out.cell 1
 have q2 := Hbox.out.cell 2
 have q3 := Hbox.out.cell 3
 simp only [List.getElem?_cons_zero, List.getElem?_cons_succ] at q0 q1 q2 q3
 have hz := Hbox.out.lt
 clear hb0 Hbox
 generalize w.alloc (.cells #[.int .i64 kr, .int .i64 ra, .int .i64 rb, .int .i64 rc] 45) = w0 at *
 go_cut [7] from 13 to 20 (fun x wx => ∃ s : List UInt8, x = .string ⟨s.toArray⟩ ∧ 30 ≤ s.length ∧ s.length ≤ 60 ∧ Below w.heap.size w wx)
 case first =>
  go_region_held3 (fun W => W.cell? ⟨w.heap.size, 0, none⟩ = some (.int .i64 kr) ∧ W.cell? ⟨w.heap.size, 1, none⟩ = some (.int .i64 ra) ∧ W.cell? ⟨w.heap.size, 2, none⟩ = some (.int .i64 rb) ∧ W.cell? ⟨w.heap.size, 3, none⟩ = some (.int .i64 rc))
   (first | go_keep | fail)
   (first
     | (go_at_call 17
        (with_reducible refine (HD1.out _).mono ?_)
        rintro e wa ⟨la, hla, rfl, hba⟩
        have k0 := (hba.cell (p := ⟨w.heap.size, 0, none⟩) (by simp; omega))
        have k1 := (hba.cell (p := ⟨w.heap.size, 1, none⟩) (by simp; omega))
        have k2 := (hba.cell (p := ⟨w.heap.size, 2, none⟩) (by simp; omega))
        have k3 := (hba.cell (p := ⟨w.heap.size, 3, none⟩) (by simp; omega))
        simp at k0 k1 k2 k3
        have Hla := Lib.hid hla
        have Hba := Lib.hid hba
        clear hla hba)
     | (go_at_call 17
        (with_reducible refine (HD2.out _).mono ?_)
        rintro e wb ⟨lb, hlb, rfl, hbb⟩
        have hz' := Nat.lt_of_lt_of_le hz (show w0.heap.size ≤ wa.heap.size from by have := Hba.out.size; simpa using this)
        have k0 := (hbb.cell (p := ⟨w.heap.size, 0, none⟩) hz')
        have k1 := (hbb.cell (p := ⟨w.heap.size, 1, none⟩) hz')
        have k2 := (hbb.cell (p := ⟨w.heap.size, 2, none⟩) hz')
        have k3 := (hbb.cell (p := ⟨w.heap.size, 3, none⟩) hz')
        (try simp at k0 k1 k2 k3)
        have hns : ¬ (9223372036854775807 < la.length + lb.length) := by rw [Hla.out, hlb]; omega
        have hadd := HAdd.out la lb (by rw [Hla.out, hlb]; omega)
        have Hlb := Lib.hid hlb
        have Hbb := Lib.hid hbb
        clear hlb hbb)
     | fail)
  all_goals
   go_wp2_with fail
   go_meet
   exact ⟨la ++ lb, rfl, by rw [List.length_append, Hlb.out]; omega, by rw [List.length_append, Hlb.out, Hla.out]; omega, Hb0.out.trans (((Below.refl _ _).drew.trans (Hba.out.trans (Hbb.out.mono Hba.out.size))).mono Hb0.out.size)⟩
 case rest =>
  obtain ⟨s, rfl, hs1, hs2, hbw⟩ := hcut
  have Hbw := Lib.hid hbw
  clear hbw q0 q1 q2 q3 hz HD1 HD2 HAdd Hb0
  go_wp2_with fail
  refine (HPa.out _).mono ?_
  rintro e w' ⟨rfl, rfl⟩
  go_wp2_with fail
  refine (HPb.out _).mono ?_
  rintro e w' ⟨rfl, rfl⟩
  go_upto_region 4 with fail
  rw [show (1 : Int) + (pa : Int) = ((1 + pa : Nat) : Int) by omega, show (1 : Int) + (pb : Int) = ((1 + pb : Nat) : Int) by omega]
  obtain ⟨a, ha⟩ : ∃ a, a = 1 + pa := ⟨_, rfl⟩
  obtain ⟨b, hb⟩ : ∃ b, b = 1 + pb := ⟨_, rfl⟩
  rw [← ha, ← hb]
  have ha1 : 1 ≤ a ∧ a ≤ 9 := by omega
  have hb1 : 1 ≤ b ∧ b ≤ 9 := by omega
  clear ha hb hpa8 hpb8 HPa HPb
  obtain ⟨x0, x1, x2, x3, x4, x5, x6, x7, x8, x9, hx, h6, h7, h9⟩ := Cf.apart_ran s a b ha1.1 ha1.2 hb1.1 hb1.2 hs1 (by omega)
  have hbc : Below w.heap.size w (wc.alloc (.cells #[.int .i64 2, .int .i64 0, .int .i64 0, .int .i64 0, .string ⟨#[102]⟩, .string ⟨#[]⟩, .int .i64 5, .int .i64 0, .int .i64 0, .int .i64 0, .string ⟨#[102]⟩, .string ⟨#[]⟩, .int .i64 8, .int .i64 0, .int .i64 0, .int .i64 0, .string ⟨#[]⟩, .string ⟨s.toArray⟩, .int .i64 6, .int .i64 0, .int .i64 0, .int .i64 0, .string ⟨#[]⟩, .string ⟨#[]⟩, .int .i64 5, .int .i64 0, .int .i64 0, .int .i64 0, .string ⟨#[102]⟩, .string ⟨#[]⟩, .int .i64 10, .int .i64 0, .int .i64 0, .int .i64 0, .string ⟨#[]⟩, .string ⟨#[]⟩, .int .i64 7, .int .i64 0, .int .i64 0, .int .i64 (a : Int), .string ⟨#[]⟩, .string ⟨#[]⟩, .int .i64 7, .int .i64 1, .int .i64 0, .int .i64 (b : Int), .string ⟨#[]⟩, .string ⟨#[]⟩, .int .i64 11, .int .i64 1, .int .i64 0, .int .i64 0, .string ⟨#[]⟩, .string ⟨#[]⟩, .int .i64 7, .int .i64 0, .int .i64 0, .int .i64 (b : Int), .string ⟨#[]⟩, .string ⟨#[]⟩] 30)) := Hbw.out.alloc Hbw.out.size _
  have HR := Lib.hid (run_script (Cf.apartActs s a b) (some ⟨wc.heap.size, 0, none⟩) 10 (wc.alloc (.cells #[.int .i64 2, .int .i64 0, .int .i64 0, .int .i64 0, .string ⟨#[102]⟩, .string ⟨#[]⟩, .int .i64 5, .int .i64 0, .int .i64 0, .int .i64 0, .string ⟨#[102]⟩, .string ⟨#[]⟩, .int .i64 8, .int .i64 0, .int .i64 0, .int .i64 0, .string ⟨#[]⟩, .string ⟨s.toArray⟩, .int .i64 6, .int .i64 0, .int .i64 0, .int .i64 0, .string ⟨#[]⟩, .string ⟨#[]⟩, .int .i64 5, .int .i64 0, .int .i64 0, .int .i64 0, .string ⟨#[102]⟩, .string ⟨#[]⟩, .int .i64 10, .int .i64 0, .int .i64 0, .int .i64 0, .string ⟨#[]⟩, .string ⟨#[]⟩, .int .i64 7, .int .i64 0, .int .i64 0, .int .i64 (a : Int), .string ⟨#[]⟩, .string ⟨#[]⟩, .int .i64 7, .int .i64 1, .int .i64 0, .int .i64 (b : Int), .string ⟨#[]⟩, .string ⟨#[]⟩, .int .i64 11, .int .i64 1, .int .i64 0, .int .i64 0, .string ⟨#[]⟩, .string ⟨#[]⟩, .int .i64 7, .int .i64 0, .int .i64 0, .int .i64 (b : Int), .string ⟨#[]⟩, .string ⟨#[]⟩] 30)) (acts_new wc 30 _ _ rfl) (by simp [Cf.apartActs, maxLen]) (by
   intro x hx
   simp only [Cf.apartActs, List.mem_cons, List.not_mem_nil, or_false] at hx
   unfold maxLen
   rcases hx with rfl | rfl | rfl | rfl | rfl | rfl | rfl | rfl | rfl | rfl <;> simp [Cf.aCreate, Cf.aOpen, Cf.aWrite, Cf.aClose, Cf.aFork, Cf.aRead, Cf.aExit, Cf.fN] <;> omega) (HT.out _ hbc).1 (HT.out _ hbc).2)
  have HS := Lib.hid (show Cf.scriptT (Cf.apartActs s a b) = ⟨[x0, x1, x2, x3, x4, x5, x6, x7, x8, x9], (Cf.ranT Cf.newKern (Cf.apartActs s a b)).kern, 0⟩ by unfold Cf.scriptT; rw [if_neg (by simp [Cf.apartActs]), hx])
  rw [HS.out, show (Cf.apartActs s a b).length = 10 from rfl] at HR
  have Hbc := Lib.hid hbc
  have Hx := Lib.hid hx
  have H6 := Lib.hid h6
  have H7 := Lib.hid h7
  have H9 := Lib.hid h9
  clear hbc hx h6 h7 h9 HT Hbw HS
  go_wp2_with fail
  refine HR.out.mono ?_
  rintro e w1 ⟨R, cr, ⟨A2, ca2, M2, cm2, N2, cn2, S2, cs2, Q2, cq2⟩, rfl, hrd, hcr, -, hb2⟩
  simp only [kcells]
  have Hb2 := Lib.hid (Hbc.out.trans (hb2.mono Hbc.out.size))
  have Hrd := Lib.hid hrd
  clear hrd hcr hb2 HR Hbc
  generalize Cf.ranT Cf.newKern (Cf.apartActs s a b) = kk at *
  simp only [List.length_cons, List.length_nil, Nat.zero_add]
  go_upto_region 7 with fail
  generalize hw2 : w1.alloc _ = w2
  have hb3 : Below w1.heap.size w1 w2 := by rw [← hw2]; exact (Below.refl _ _).alloc (Nat.le_refl _) _
  clear hw2
  have hrd := (Hrd.out.below hb3)
  have Hb3 := Lib.hid (Hb2.out.trans (hb3.mono Hb2.out.size))
  rcases hrd with h0 | ⟨bk, off, rfl, hlt, hc⟩
  ·cases h0
  have c6 := hc 6 x6 rfl 2 _ rfl
  have c7 := hc 7 x7 rfl 2 _ rfl
  have c9 := hc 9 x9 rfl 2 _ rfl
  rw [H6.out] at c6
  rw [H7.out] at c7
  rw [H9.out] at c9
  have S6 := str_upto s a (by omega)
  have S7 := str_upto s b (by omega)
  have S9 := str_slice s a (a + b) (by omega) (by omega)
  rw [Nat.add_sub_cancel_left] at S9
  have hmin : min (s.length : Int) ((a : Int) + (b : Int)) = ((a + b : Nat) : Int) := by omega
  clear hc Hrd Hb2 hb3 H6 H7 H9 Hx
  have hE : (List.take b (List.drop a s) == ((⟨s.toArray⟩ : ByteArray).extract a (a + b)).toList) = true := by rw [ext_list]; simp
  have HE := Lib.hid hE
  clear hE
  go_quiet (fail)
  rw [HE.out]
  go_wp2
  go_ret
  exact ⟨rfl, below_drewN Hb3.out _⟩
end Go.Proofs.YtnnhhbjbdmgpiaaGreatDoor
