/- Texts of the proof of FilesBack: FileA. -/
import Derived.BigRegion
import Derived.BigQuiet
import Derived.Test.YtnnhhbjbdmgpiaaGreatDoorFBK00
import Derived.Test.YtnnhhbjbdmgpiaaGreatDoorJ33
import Derived.Test.YtnnhhbjbdmgpiaaGreatDoorJ01
import Derived.Test.YtnnhhbjbdmgpiaaGreatDoorJ13
set_option linter.unusedSimpArgs false
set_option linter.unusedVariables false
/- Walks of the law FilesBack: its script, laid. -/
namespace Go.Proofs.YtnnhhbjbdmgpiaaGreatDoor
set_option maxRecDepth 100000
open Go.RowKit
set_option maxRecDepth 100000 in
set_option maxHeartbeats 4000000 in
theorem file_walk (kr ra rb rc parts : Int) (u : Bool) (w : World) (f1 : Fit ra) (f2 : Fit rb) (f3 : Fit rc) (fp : Fit parts) (hL : TabL w) (hF : TabF w) :
  Calls Tryz.prog 5 #[.agg #[.int .i64 kr, .int .i64 ra, .int .i64 rb, .int .i64 rc], .int .i64 parts, .bool u] w fun e w' => e = .returned (.bool true) ∧ Below w.heap.size w w' := by
 obtain ⟨i0, hi, hz0, hz1, hz2⟩ := info_parts infoAct
 have Hi := Lib.hid hi
 have H0 := Lib.hid hz0
 have H1 := Lib.hid hz1
 have H2 := Lib.hid hz2
 obtain ⟨da, hda⟩ : ∃ d : Nat, (d : Int) = 1 + Cf.pick ra 30 := ⟨(1 + Cf.pick ra 30).toNat, by have := Cf.pick_range ra 30 (by omega); omega⟩
 have hda1 : 1 ≤ da ∧ da ≤ 30 := by have := Cf.pick_range ra 30 (by omega); omega
 obtain ⟨db, hdb⟩ : ∃ d : Nat, (d : Int) = 1 + Cf.pick rb 30 := ⟨(1 + Cf.pick rb 30).toNat, by have := Cf.pick_range rb 30 (by omega); omega⟩
 have hdb1 : 1 ≤ db ∧ db ≤ 30 := by have := Cf.pick_range rb 30 (by omega); omega
 have HD1 := Lib.hid (fun w => data_any kr ra rb rc da w f1 f2 hda)
 have HD2 := Lib.hid (fun w => data_any 0 rb rc 0 db w f2 f3 hdb)
 have HP := Lib.hid (fun (n : Nat) (h : 1 ≤ n ∧ n ≤ 100) w => picked_any parts n w fp (by omega) (by omega))
 have HAdd := Lib.hid (fun (a b : List UInt8) (h : a.length + b.length ≤ 100) => show (∀ W : World, (Op.stringOp .add ⟨a.toArray⟩ ⟨b.toArray⟩).run Tryz.prog W = .ok (.string ⟨(a ++ b).toArray⟩) W) from fun W => by
  rw [run_string_add_sum _ _ _ (by simp [ByteArray.size]; omega), str_append])
 have hb0 : Below w.heap.size w (w.alloc (.cells #[.int .i64 kr, .int .i64 ra, .int .i64 rb, .int .i64 rc] 45)) := (Below.refl _ _).alloc (Nat.le_refl _) _
 have Hbox := Lib.hid (Wb.new w 45 [.int .i64 kr, .int .i64 ra, .int .i64 rb, .int .i64 rc])
 have HT := Lib.hid (fun (W : World) (h : Below w.heap.size w W) => show TabL W ∧ TabF W from ⟨hL.below h, hF.below h⟩)
 clear hL hF hda hdb f1 f2 f3 fp hi hz0 hz1 hz2
 go_enter Tryz.func5, Tryz.ntmps5
 go_upto_region 1 with fail
 have Hb0 := Lib.hid hb0
 have q0 := Hbox.out.cell 0
 have q1 := Hbox.out.cell 1
 have q2 := Hbox.out.cell 2
 have q3 := Hbox.out.cell 3
 simp only [List.getElem?_cons_zero, List.getElem?_cons_succ] at q0 q1 q2 q3
 have hz := Hbox.out.lt
 clear hb0 Hbox
 generalize w.alloc (.cells #[.int .i64 kr, .int .i64 ra, .int .i64 rb, .int .i64 rc] 45) = w0 at *
 go_cut [7] from 14 to 23 (fun x wx => ∃ s : List UInt8, x = .string ⟨s.toArray⟩ ∧ 1 ≤ s.length ∧ s.length ≤ 60 ∧ Below w.heap.size w wx)
 case first =>
  go_region_held3 (fun W => W.cell? ⟨w.heap.size, 0, none⟩ = some (.int .i64 kr) ∧ W.cell? ⟨w.heap.size, 1, none⟩ = some (.int .i64 ra) ∧ W.cell? ⟨w.heap.size, 2, none⟩ = some (.int .i64 rb) ∧ W.cell? ⟨w.heap.size, 3, none⟩ = some (.int .i64 rc))
   (first | go_keep | fail)
   (first
     | (go_at_call 17
        (with_reducible refine (HD1.out _).mono ?_)
        rintro e wa ⟨la, hla, rfl, hba⟩
        have k0 := (hba.cell (p := ⟨w.heap.size, 0, none⟩) (by simp; omega))
        have k1 := (hba.cell (p := ⟨w.heap.size, 1, none⟩) (by simp; omega))
        have k2 := (hba.cell (p := ⟨w.heap.size, 2, none⟩) (by simp; omega))
        have k3 := (hba.cell (p := ⟨w.heap.size, 3, none⟩) (by simp; omega))
        simp at k0 k1 k2 k3
        have Hla := Lib.hid hla
        have Hba := Lib.hid hba
        clear hla hba)
     | (go_at_call 17
        (with_reducible refine (HD2.out _).mono ?_)
        rintro e wb ⟨lb, hlb, rfl, hbb⟩
        have hz' := Nat.lt_of_lt_of_le hz (show w0.heap.size ≤ wa.heap.size from by have := Hba.out.size; simpa using this)
        have k0 := (hbb.cell (p := ⟨w.heap.size, 0, none⟩) hz')
        have k1 := (hbb.cell (p := ⟨w.heap.size, 1, none⟩) hz')
        have k2 := (hbb.cell (p := ⟨w.heap.size, 2, none⟩) hz')
        have k3 := (hbb.cell (p := ⟨w.heap.size, 3, none⟩) hz')
        (try simp at k0 k1 k2 k3)
        have hns : ¬ (9223372036854775807 < la.length + lb.length) := by rw [Hla.out, hlb]; omega
        have hadd := HAdd.out la lb (by rw [Hla.out, hlb]; omega)
        have Hlb := Lib.hid hlb
        have Hbb := Lib.hid hbb
        clear hlb hbb)
     | fail)
  all_goals
   go_wp2_with fail
   go_meet
   exact ⟨la ++ lb, rfl, by rw [List.length_append, Hlb.out, Hla.out]; omega, by rw [List.length_append, Hlb.out, Hla.out]; omega, Hb0.out.trans (((Below.refl _ _).drew.trans (Hba.out.trans (Hbb.out.mono Hba.out.size))).mono Hb0.out.size)⟩
 case rest =>
  obtain ⟨s, rfl, hs1, hs2, hbw⟩ := hcut
  have Hbw := Lib.hid hbw
  clear hbw q0 q1 q2 q3 hz HD1 HD2 HAdd Hb0
  rename_i wc
  go_upto_region 3 with fail
  have hb3 := fun o => Hbw.out.alloc Hbw.out.size o
  have hnn := (HP.out s.length ⟨hs1, by omega⟩)
  obtain ⟨n, hn, hn1, hn2⟩ : ∃ n : Nat, (n : Int) = 1 + Cf.pick parts s.length ∧ 1 ≤ n ∧ n ≤ s.length := by
   obtain ⟨h1, h2⟩ := Cf.pick_range parts s.length (by omega)
   exact ⟨(1 + Cf.pick parts s.length).toNat, by omega, by omega, by omega⟩
  have Hnn := Lib.hid hnn
  have Hn := Lib.hid hn
  clear hnn hn HP
  go_wp2_with fail
  refine (Hnn.out _).mono ?_
  rintro e w' ⟨rfl, rfl⟩
  have hpk : Cf.pick parts s.length = (n : Int) - 1 := by have := Hn.out; omega
  rw [hpk]
  clear hpk
  go_upto_region 4 with fail
  rw [show (1 : Int) + ((n : Int) - 1) = (n : Int) by omega]
  have HO4 := Lib.hid (show (wc.alloc (.cells #[.int .i64 2, .int .i64 0, .int .i64 0, .int .i64 0, .string ⟨#[102]⟩, .string ⟨#[]⟩, .int .i64 5, .int .i64 0, .int .i64 0, .int .i64 0, .string ⟨#[102]⟩, .string ⟨#[]⟩, .int .i64 5, .int .i64 0, .int .i64 0, .int .i64 0, .string ⟨#[102]⟩, .string ⟨#[]⟩] 30)).ownsRow w.heap.size tAct 6 (.slice (some ⟨wc.heap.size, 0, none⟩) 3 3) 3 ([Cf.aCreate, Cf.aOpen, Cf.aOpen].flatMap encAc) from own_lit wc w.heap.size _ _ [Cf.aCreate, Cf.aOpen, Cf.aOpen] rfl Hbw.out.size (by simp))
  have Hb4 := Lib.hid (hb3 (.cells #[.int .i64 2, .int .i64 0, .int .i64 0, .int .i64 0, .string ⟨#[102]⟩, .string ⟨#[]⟩, .int .i64 5, .int .i64 0, .int .i64 0, .int .i64 0, .string ⟨#[102]⟩, .string ⟨#[]⟩, .int .i64 5, .int .i64 0, .int .i64 0, .int .i64 0, .string ⟨#[102]⟩, .string ⟨#[]⟩] 30))
  clear hb3 Hnn Hn Hbw
  generalize wc.heap.size = gc at *
  generalize wc.alloc (.cells #[.int .i64 2, .int .i64 0, .int .i64 0, .int .i64 0, .string ⟨#[102]⟩, .string ⟨#[]⟩, .int .i64 5, .int .i64 0, .int .i64 0, .int .i64 0, .string ⟨#[102]⟩, .string ⟨#[]⟩, .int .i64 5, .int .i64 0, .int .i64 0, .int .i64 0, .string ⟨#[102]⟩, .string ⟨#[]⟩] 30) = w4 at *
  have S1 := str_upto s n hn2
  have hz4 := Hb4.out.size
  go_wp2_with (at_builtin; refine wpList_append_src rfl _ _ 39 rfl w.heap.size 30 i0 (.agg #[.int .i64 0, .int .i64 0, .int .i64 0, .int .i64 0, .string ⟨#[]⟩, .string ⟨#[]⟩]) 6 64 Tryz.underlying39 Hi.out H0.out H1.out H2.out rfl (by decide) encAc_len one_ac _ 3 _ rfl (World.ownsRow.alloc HO4.out _) (some ⟨w4.heap.size, 0, none⟩) 1 [Cf.aWrite (s.take n)] rfl (acts_lit w4 _ _ _ rfl) (by unfold maxLen; simp <;> omega) (by simp <;> omega) (by simp <;> omega) ?_)
  intro v' w5 hown5 hgr hat
  have HO5 := Lib.hid (show w5.ownsRow w.heap.size tAct 6 v' 4 ([Cf.aCreate, Cf.aOpen, Cf.aOpen, Cf.aWrite (s.take n)].flatMap encAc) from hown5)
  have Hb5 := Lib.hid ((Hb4.out.alloc Hb4.out.size _).grown hgr (Nat.le_trans Hb4.out.size (by simp)) (fun r hr => own_blocks HO4.out r hr))
  clear hown5 hgr hat HO4 Hb4 S1 hz4
  have HN := Lib.hid (show n ≤ s.length from hn2)
  obtain ⟨A5, c5, hA5⟩ := own_form HO5.out
  subst hA5
  go_upto_if 42 with fail
  go_cut [8] from 42 to 50 (fun v wx => wx.ownsRow w.heap.size tAct 6 v (4 + (if n < s.length then [Cf.aWrite (s.drop n)] else []).length) (([Cf.aCreate, Cf.aOpen, Cf.aOpen, Cf.aWrite (s.take n)] ++ (if n < s.length then [Cf.aWrite (s.drop n)] else [])).flatMap encAc) ∧ Below w.heap.size w wx)
  case first =>
   by_cases hlt : n < s.length
   ·go_upto_region 6 with fail
    have S1 := str_from s n hn2
    have hz5 := Hb5.out.size
    go_wp2_with (at_builtin; refine wpList_append_src rfl _ _ 39 rfl w.heap.size 30 i0 (.agg #[.int .i64 0, .int .i64 0, .int .i64 0, .int .i64 0, .string ⟨#[]⟩, .string ⟨#[]⟩]) 6 64 Tryz.underlying39 Hi.out H0.out H1.out H2.out rfl (by decide) encAc_len one_ac _ 4 _ rfl (World.ownsRow.alloc HO5.out _) (some ⟨w5.heap.size, 0, none⟩) 1 [Cf.aWrite (s.drop n)] rfl (acts_lit w5 _ _ _ rfl) (by unfold maxLen; simp <;> omega) (by simp <;> omega) (by simp <;> omega) ?_)
    intro v' w6 hown6 hgr hat
    go_wp2_with fail
    go_meet
    exact ⟨by rw [if_pos hlt, List.flatMap_append]; exact hown6, (Hb5.out.alloc Hb5.out.size _).grown hgr (Nat.le_trans Hb5.out.size (by simp)) (fun r hr => own_blocks HO5.out r hr)⟩
   ·go_wp2_with fail
    go_meet
    exact ⟨by rw [if_neg hlt]; exact HO5.out, Hb5.out⟩
  case rest =>
   obtain ⟨h1, h2⟩ := hcut
   have HO6 := Lib.hid h1
   have Hb6 := Lib.hid h2
   clear h1 h2 HO5 Hb5
   obtain ⟨m6, hm6, hm6'⟩ : ∃ m, m = (if n < s.length then [Cf.aWrite (s.drop n)] else []).length ∧ m ≤ 1 := ⟨_, rfl, by split <;> simp⟩
   rw [← hm6] at HO6
   have Hm6 := Lib.hid hm6
   clear hm6
   generalize hg6 : (if n < s.length then [Cf.aWrite (s.drop n)] else []) = l6 at *
   have Hg6 := Lib.hid hg6
   clear hg6
   rename_i w6
   obtain ⟨A6, c6, hA6⟩ := own_form HO6.out
   subst hA6
   go_upto_if 50 with fail
   go_cut [8] from 51 to 55 (fun v wx => wx.ownsRow w.heap.size tAct 6 v (4 + m6 + (if u = true then [Cf.aUnlink] else []).length) (([Cf.aCreate, Cf.aOpen, Cf.aOpen, Cf.aWrite (s.take n)] ++ l6 ++ (if u = true then [Cf.aUnlink] else [])).flatMap encAc) ∧ Below w.heap.size w wx)
   case first =>
    cases u
    ·go_wp2_with fail
     go_meet
     exact ⟨by rw [if_neg (by decide)]; simpa using HO6.out, Hb6.out⟩
    ·have hz6 := Hb6.out.size
     go_wp2_with (at_builtin; refine wpList_append_src rfl _ _ 39 rfl w.heap.size 30 i0 (.agg #[.int .i64 0, .int .i64 0, .int .i64 0, .int .i64 0, .string ⟨#[]⟩, .string ⟨#[]⟩]) 6 64 Tryz.underlying39 Hi.out H0.out H1.out H2.out rfl (by decide) encAc_len one_ac _ (4 + m6) _ rfl (World.ownsRow.alloc HO6.out _) (some ⟨wc.heap.size, 0, none⟩) 1 [Cf.aUnlink] rfl (acts_lit wc _ _ _ rfl) (by unfold maxLen; simp <;> omega) (by simp <;> omega) (by simp <;> omega) ?_)
     intro v' w7 hown7 hgr hat
     go_wp2_with fail
     go_meet
     exact ⟨by rw [if_pos trivial, List.flatMap_append]; exact hown7, (Hb6.out.alloc Hb6.out.size _).grown hgr (Nat.le_trans Hb6.out.size (by simp)) (fun r hr => own_blocks HO6.out r hr)⟩
   case rest =>
    obtain ⟨h1, h2⟩ := hcut
    obtain ⟨m7, hm7, hm7'⟩ : ∃ m, m = (if u = true then [Cf.aUnlink] else []).length ∧ m ≤ 1 := ⟨_, rfl, by split <;> simp⟩
    obtain ⟨kk, hkk⟩ : ∃ kk, kk = 4 + m6 + m7 := ⟨_, rfl⟩
    rw [← hm7, ← hkk] at h1
    have HFA := Lib.hid (show ([Cf.aCreate, Cf.aOpen, Cf.aOpen, Cf.aWrite (s.take n)] ++ l6 ++ (if u = true then [Cf.aUnlink] else [])) ++ [Cf.aRead 0 1 n, Cf.aRead 0 1 100, Cf.aRead 0 1 1, Cf.aOpen] = Cf.fileActs s n u by unfold Cf.fileActs; rw [← Hg6.out]; simp only [List.append_assoc])
    have hLl : (Cf.fileActs s n u).length = kk + 4 := by
     rw [← HFA.out, List.length_append, List.length_append, List.length_append, ← hm7, ← Hm6.out, hkk]
     rfl
    have HB := Lib.hid (Cf.files_back s n u hn1 hn2 (by omega))
    have hz7 : ∀ x ∈ Cf.fileActs s n u, x.name.length ≤ maxLen ∧ x.data.length ≤ maxLen := by
     intro x hx
     unfold Cf.fileActs at hx
     unfold maxLen
     simp only [List.mem_append, List.mem_cons, List.not_mem_nil, or_false] at hx
     rcases hx with (rfl | rfl | rfl | rfl) | hx | hx | rfl | rfl | rfl | rfl
     ·simp [Cf.aCreate, Cf.fN]
     ·simp [Cf.aOpen, Cf.fN]
     ·simp [Cf.aOpen, Cf.fN]
     ·simp [Cf.aWrite]; omega
     ·split at hx
      ·rw [List.mem_singleton.1 hx]
       simp [Cf.aWrite]; omega
      ·cases hx
     ·split at hx
      ·rw [List.mem_singleton.1 hx]
       simp [Cf.aUnlink, Cf.fN]
      ·cases hx
     ·simp [Cf.aRead]
     ·simp [Cf.aRead]
     ·simp [Cf.aRead]
     ·simp [Cf.aOpen, Cf.fN]
    have HZ7 := Lib.hid hz7
    have hk10 : kk ≤ 6 := by omega
    have hk04 : 4 ≤ kk := by omega
    have HO7 := Lib.hid h1
    have Hb7 := Lib.hid h2
    clear h1 h2 HO6 Hb6 hm7 hkk Hm6 Hg6 hz7 hm6' hm7'
    generalize (if u = true then [Cf.aUnlink] else []) = l7 at *
    obtain ⟨A7, c7, hA7⟩ := own_form HO7.out
    subst hA7
    have hs7 := Hb7.out.size
    go_wp2_with (at_builtin; refine wpList_append_src rfl _ _ 39 rfl w.heap.size 30 i0 (.agg #[.int .i64 0, .int .i64 0, .int .i64 0, .int .i64 0, .string ⟨#[]⟩, .string ⟨#[]⟩]) 6 64 Tryz.underlying39 Hi.out H0.out H1.out H2.out rfl (by decide) encAc_len one_ac _ kk _ rfl (World.ownsRow.alloc HO7.out _) (some ⟨wc.heap.size, 0, none⟩) 4 [Cf.aRead 0 1 n, Cf.aRead 0 1 100, Cf.aRead 0 1 1, Cf.aOpen] rfl (acts_lit wc _ _ _ rfl) (by unfold maxLen; simp <;> omega) (by simp <;> omega) (by simp <;> omega) ?_)
    intro v' w8 hown8 hgr hat
    have Hb8 := Lib.hid ((Hb7.out.alloc Hb7.out.size _).grown hgr (Nat.le_trans Hb7.out.size (by simp)) (fun r hr => own_blocks HO7.out r hr))
    have hown : w8.ownsRow w.heap.size tAct 6 v' (Cf.fileActs s n u).length ((Cf.fileActs s n u).flatMap encAc) := by
     rw [hLl, ← HFA.out]
     simpa using hown8
    clear hown8 hgr hat HO7 Hb7 HFA
    generalize Cf.fileActs s n u = L at *
    obtain ⟨A8, c8, hA8⟩ := own_form hown
    subst hA8
    have hAc := own_rd encAc_len hown
    have hb9 : Below w8.heap.size w8 (w8.alloc (.cells #[.slice A8 L.length c8] 39)) := (Below.refl _ _).alloc (Nat.le_refl _) _
    have Hb9 := Lib.hid (Hb8.out.trans (hb9.mono Hb8.out.size))
    have hrow : RdS 1 encS (w8.alloc (.cells #[.slice A8 L.length c8] 39)) (some ⟨w8.heap.size, 0, none⟩) [⟨A8, c8, L⟩] :=
     .inr ⟨w8.heap.size, 0, rfl, by simp, fun j b hb i u hu => by
      cases j with
      | succ j => simp at hb
      | zero =>
        simp at hb
        subst hb
        have := (Wb.new w8 39 [.slice A8 L.length c8]).cell i
        rw [show 0 + 0 * 1 + i = i by omega]
        exact this.trans hu⟩
    have hcl : catL [⟨A8, c8, L⟩] = L := by simp [catL]
    have hran := ran_any [⟨A8, c8, L⟩] (some ⟨w8.heap.size, 0, none⟩) 1 _ hrow (fun x hx => by rw [List.mem_singleton.1 hx]; exact hAc.below hb9) (by simp) (by rw [hcl]; omega) (by rw [hcl]; exact HZ7.out) (HT.out _ Hb9.out).1 (HT.out _ Hb9.out).2
    rw [hcl] at hran
    have Hran := Lib.hid hran
    have HLl := Lib.hid hLl
    have hL1 : kk < L.length := by omega
    have hL2 : kk + 1 < L.length := by omega
    have hL3 : kk + 2 < L.length := by omega
    have hL4 : kk + 3 < L.length := by omega
    clear hran hrow hcl hb9 hAc Hb8 HT HZ7 hown hLl
    go_wp2_with fail
    refine Hran.out.mono ?_
    rintro e w10 ⟨R, cr, ⟨A2, ca2, M2, cm2, N2, cn2, S2, cs2, Q2, cq2⟩, rfl, hrd, hcr, -, hb2⟩
    simp only [kcells]
    have Hb2 := Lib.hid (Hb9.out.trans (hb2.mono Hb9.out.size))
    have Hrd := Lib.hid hrd
    obtain ⟨pre, a0, a1, a2, a3, hB1, hB2, hB3, h6, h7, h8, h9, h10⟩ := HB.out
    have hB4 : (Cf.ranT Cf.newKern L).answers = pre ++ [a0, a1, a2, a3] := by
     have : ¬ 200 < L.length := by have := HLl.out; omega
     unfold Cf.scriptT at hB1
     rw [if_neg this] at hB1
     exact hB1
    have hpl : pre.length = kk := by have := HLl.out; omega
    rw [hB4] at Hrd
    clear hrd hcr hb2 Hran Hb9 HB hB1 hB2 hB3 hB4
    generalize (Cf.ranT Cf.newKern L).kern = kn at *
    simp only [HLl.out]
    clear HLl hL1 hL2 hL3 hL4
    go_upto_region 12 with fail
    generalize hw2 : w10.alloc _ = w2
    have hb3 : Below w10.heap.size w10 w2 := by rw [← hw2]; exact (Below.refl _ _).alloc (Nat.le_refl _) _
    clear hw2
    have hrd := (Hrd.out.below hb3)
    have Hb3 := Lib.hid (Hb2.out.trans (hb3.mono Hb2.out.size))
    rcases hrd with h0 | ⟨bk, off, rfl, hlt, hc⟩
    ·simp at h0
    have c0 := hc kk a0 (by rw [← hpl]; simp) 2 _ rfl
    have c1 := hc (kk + 1) a1 (by rw [← hpl]; simp) 2 _ rfl
    have c2 := hc (kk + 2) a2 (by rw [← hpl]; simp) 0 _ rfl
    have c3 := hc (kk + 3) a3 (by rw [← hpl]; simp) 0 _ rfl
    have c4 := hc (kk + 1) a1 (by rw [← hpl]; simp) 0 _ rfl
    rw [h6] at c0
    rw [h7] at c1
    rw [h8] at c2
    have S0 := str_upto s n hn2
    have S1 := str_from s n hn2
    clear hc Hrd Hb2 hb3 h6 h7 h8 hpl
    obtain rfl | rfl | rfl : kk = 4 ∨ kk = 5 ∨ kk = 6 := by omega
    ·rw [show ((4 : Nat) : Int) = 4 from rfl]
     cases u
     ·have h9' : (a3.code == 6) = false := by
       rw [beq_eq_false_iff_ne]
       intro e
       exact absurd (h9.1 e) (by decide)
      clear h9
      by_cases h11 : n < s.length
      ·skip
       go_quiet (fail)
       go_wp2
       go_ret
       exact ⟨rfl, below_drewN Hb3.out _⟩
      ·obtain h10 := h10.resolve_left h11
       rw [h10] at c4
       go_quiet (fail)
       go_wp2
       go_ret
       exact ⟨rfl, below_drewN Hb3.out _⟩
     ·rw [h9.2 rfl] at c3
      clear h9
      by_cases h11 : n < s.length
      ·skip
       go_quiet (fail)
       go_wp2
       go_ret
       exact ⟨rfl, below_drewN Hb3.out _⟩
      ·obtain h10 := h10.resolve_left h11
       rw [h10] at c4
       go_quiet (fail)
       go_wp2
       go_ret
       exact ⟨rfl, below_drewN Hb3.out _⟩
    ·rw [show ((5 : Nat) : Int) = 5 from rfl]
     cases u
     ·have h9' : (a3.code == 6) = false := by
       rw [beq_eq_false_iff_ne]
       intro e
       exact absurd (h9.1 e) (by decide)
      clear h9
      by_cases h11 : n < s.length
      ·skip
       go_quiet (fail)
       go_wp2
       go_ret
       exact ⟨rfl, below_drewN Hb3.out _⟩
      ·obtain h10 := h10.resolve_left h11
       rw [h10] at c4
       go_quiet (fail)
       go_wp2
       go_ret
       exact ⟨rfl, below_drewN Hb3.out _⟩
     ·rw [h9.2 rfl] at c3
      clear h9
      by_cases h11 : n < s.length
      ·skip
       go_quiet (fail)
       go_wp2
       go_ret
       exact ⟨rfl, below_drewN Hb3.out _⟩
      ·obtain h10 := h10.resolve_left h11
       rw [h10] at c4
       go_quiet (fail)
       go_wp2
       go_ret
       exact ⟨rfl, below_drewN Hb3.out _⟩
    ·rw [show ((6 : Nat) : Int) = 6 from rfl]
     cases u
     ·have h9' : (a3.code == 6) = false := by
       rw [beq_eq_false_iff_ne]
       intro e
       exact absurd (h9.1 e) (by decide)
      clear h9
      by_cases h11 : n < s.length
      ·skip
       go_quiet (fail)
       go_wp2
       go_ret
       exact ⟨rfl, below_drewN Hb3.out _⟩
      ·obtain h10 := h10.resolve_left h11
       rw [h10] at c4
       go_quiet (fail)
       go_wp2
       go_ret
       exact ⟨rfl, below_drewN Hb3.out _⟩
     ·rw [h9.2 rfl] at c3
      clear h9
      by_cases h11 : n < s.length
      ·skip
       go_quiet (fail)
       go_wp2
       go_ret
       exact ⟨rfl, below_drewN Hb3.out _⟩
      ·obtain h10 := h10.resolve_left h11
       rw [h10] at c4
       go_quiet (fail)
       go_wp2
       go_ret
       exact ⟨rfl, below_drewN Hb3.out _⟩
end Go.Proofs.YtnnhhbjbdmgpiaaGreatDoor
