/- Texts of the proofs: DecW. -/
import Derived.Deep.RegionWith
import Derived.Test.YtnnhhbjbdmgpiaaGreatDoorJ21
import Derived.Test.YtnnhhbjbdmgpiaaGreatDoorJ12
import Derived.Test.YtnnhhbjbdmgpiaaGreatDoorJ26
set_option linter.unusedSimpArgs false
set_option linter.unusedVariables false
/- Walks of chapter 4: the program's Decode. -/
namespace Go.Proofs.YtnnhhbjbdmgpiaaGreatDoor
set_option maxRecDepth 100000
open Go.RowKit
theorem parse_len (body : List UInt8) : (Cf.parseT body).mod.name.length ≤ 255 ∧ (Cf.parseT body).mod.code.length ≤ 255 ∧ (Cf.parseT body).mod.data.length ≤ 255 := by
 have h1 := Cf.takeR_len (Cf.numR 1 ⟨body, false⟩).got (Cf.numR 1 ⟨body, false⟩).rdr
 have h2 := Cf.numR1_le ⟨body, false⟩
 have h3 : (Cf.restC body).got.length ≤ 255 := by unfold Cf.restC; rw [Cf.codeR_len]; exact Cf.numR1_le _
 have h4 : (Cf.restD body).got.length ≤ 255 := by unfold Cf.restD; rw [Cf.dataR_len]; exact Cf.numR1_le _
 have h5 : (Cf.nameR body).got.length ≤ 255 := by unfold Cf.nameR; omega
 unfold Cf.parseT
 generalize (Cf.restD body).rdr.short = b
 generalize (Cf.restD body).rdr.rest = t
 generalize Cf.nameR body = x at *
 generalize Cf.restC body = y at *
 generalize Cf.restD body = z at *
 cases b
 ·rw [if_neg (by simp)]
  by_cases ht : t = []
  ·rw [if_pos ht]
   exact ⟨h5, h3, h4⟩
  ·rw [if_neg ht]
   exact ⟨Nat.zero_le _, Nat.zero_le _, Nat.zero_le _⟩
 ·rw [if_pos rfl]
  exact ⟨Nat.zero_le _, Nat.zero_le _, Nat.zero_le _⟩
set_option maxRecDepth 100000 in
set_option maxHeartbeats 1000000 in
theorem decode_any (s : List UInt8) (w : World) (hL : TabL w) (hF : TabF w) (hs : s.length ≤ maxLen) :
  Calls Tryz.prog 106 #[.string ⟨s.toArray⟩] w (ModPost (Cf.decT s).mod (Cf.decT s).err w) := by
 have HS := Lib.hid hs
 unfold maxLen at hs
 have HT := Lib.hid (Cf.decT_parse s)
 have HL := Lib.hid hL
 have HF := Lib.hid hF
 have hb0 : Below w.heap.size w (w.alloc (.cells #[.string ⟨#[]⟩, .slice none 0 0, .slice none 0 0] 79)) := (Below.refl _ _).alloc (Nat.le_refl _) _
 have hx0 := Wb.new w 79 [.string ⟨#[]⟩, .slice none 0 0, .slice none 0 0]
 clear hL hF
 by_cases h1 : 4000 < s.length
 ·rw [if_pos h1] at HT
  go_enter Tryz.func106, Tryz.ntmps106
  go_wp2
  refine bodyPost_ret (v := .tuple #[.agg #[.string ⟨#[]⟩, .slice none 0 0, .slice none 0 0], .int .i64 1]) (by simp [results, Tryz.results106, go_sem]) rfl ?_
  rw [HT.out]
  exact ⟨none, none, 0, 0, rfl, .inl rfl, .inl rfl, hb0, .inl rfl, .inl rfl⟩
 ·rw [if_neg h1] at HT
  by_cases h2 : s.length < 4
  ·rw [if_pos h2] at HT
   go_enter Tryz.func106, Tryz.ntmps106
   go_wp2
   refine bodyPost_ret (v := .tuple #[.agg #[.string ⟨#[]⟩, .slice none 0 0, .slice none 0 0], .int .i64 5]) (by simp [results, Tryz.results106, go_sem]) rfl ?_
   rw [HT.out]
   exact ⟨none, none, 0, 0, rfl, .inl rfl, .inl rfl, hb0, .inl rfl, .inl rfl⟩
  ·rw [if_neg h2] at HT
   have s1 : ∀ w, (Instr.slice 9 (.string ⟨s.toArray⟩) (some (.int .i64 4)) none none).run Tryz.prog w = .ok (.string ⟨(s.drop 4).toArray⟩) w := str_from s 4 (by omega)
   have s2 : ∀ w, (Instr.slice 9 (.string ⟨s.toArray⟩) none (some (.int .i64 4)) none).run Tryz.prog w = .ok (.string ⟨(s.take 4).toArray⟩) w := str_upto s 4 (by omega)
   have hdl : (s.drop 4).length = s.length - 4 := by simp
   have HCk := Lib.hid (fun W => checksum_any (s.drop 4) (by unfold maxLen; omega) W)
   have hpl := parse_len (s.drop 4)
   have HPr := Lib.hid (fun W => parse_any (s.drop 4) W (by unfold maxLen; omega))
   have hbl : (s.drop 4).length ≤ 4000 := by omega
   clear hdl
   generalize s.drop 4 = bd at *
   generalize s.take 4 = tk at *
   go_enter Tryz.func106, Tryz.ntmps106
   go_wp2_with fail
   go_region_with (go_at_call 105; (with_reducible refine (HCk.out _).mono ?_); rintro e w1 ⟨rfl, hb1⟩)
   have hbw1 : Below w.heap.size w w1 := hb0.drew.trans (hb1.mono (by simp))
   have hx1 := Wb.below (w := (w.alloc (.cells #[.string ⟨#[]⟩, .slice none 0 0, .slice none 0 0] 79)).drew) (show Wb _ _ _ _ from hx0) hb1 (by simp)
   have z0 := hx1.cell 0
   have z1 := hx1.cell 1
   have z2 := hx1.cell 2
   have f0 := hx1.open_ 0
   have f1 := hx1.open_ 1
   have f2 := hx1.open_ 2
   simp only [List.getElem?_cons_zero, List.getElem?_cons_succ] at z0 z1 z2
   have Hx1 := Lib.hid hx1
   have hz1w := hx1.lt
   clear hb0 hx0 hb1 hx1 HCk s1 s2
   by_cases hq : Cf.sealL bd = tk
   ·rw [if_neg (fun h => h hq)] at HT
    have hq' : (!(tk == Cf.sealL bd)) = false := by simp [hq]
    clear hq
    rw [hq']
    clear hq'
    generalize Cf.sealL bd = sl at *
    go_wp2_with fail
    refine (HPr.out _).mono ?_
    rintro e w2 ⟨A, B, ca, cb, rfl, hA, hB, hb2, hfA, hfB⟩
    have hbw2 := hbw1.trans (hb2.mono hbw1.size)
    have hx2 := Hx1.out.below hb2 Hx1.out.lt
    have z0 := hx2.cell 0
    have z1 := hx2.cell 1
    have z2 := hx2.cell 2
    have f0 := hx2.open_ 0
    have f1 := hx2.open_ 1
    have f2 := hx2.open_ 2
    simp only [List.getElem?_cons_zero, List.getElem?_cons_succ] at z0 z1 z2
    have hz2 := hx2.lt
    have Hx2 := Lib.hid hx2
    clear HPr Hx1 hx2
    generalize Cf.parseT bd = g at *
    obtain ⟨⟨n, l, d⟩, er⟩ := g
    dsimp only at hA hB hpl HT hfA hfB ⊢
    obtain ⟨hn', hl', hd'⟩ := hpl
    have HA := Lib.hid hA
    have HB := Lib.hid hB
    have HfA := Lib.hid hfA
    have HfB := Lib.hid hfB
    have hlt1 := Lib.hid hz1w
    clear hfA hfB hz1w
    by_cases he : er = 0
    ·subst he
     rw [if_pos rfl] at HT
     have hb3 : Below w2.heap.size w2 (w2.alloc (.cells #[.string ⟨n.toArray⟩, .slice A l.length ca, .slice B d.length cb] 79)) := (Below.refl _ _).alloc (Nat.le_refl _) _
     have hbw3 := hbw2.trans (hb3.mono hbw2.size)
     have hm3 := Wb.new w2 79 [.string ⟨n.toArray⟩, .slice A l.length ca, .slice B d.length cb]
     have HV := Lib.hid (modCheck_any n l d A B ca cb _ (HA.out.below hb3) (HB.out.below hb3) (HL.out.below hbw3) (HF.out.below hbw3) (by unfold maxLen; omega) (by unfold maxLen; omega) (by unfold maxLen; omega))
     have Hm3 := Lib.hid hm3
     have Hx3 := Lib.hid (Hx2.out.below hb3 Hx2.out.lt)
     have HB3 := Lib.hid hb3
     have Hbw3 := Lib.hid hbw3
     clear hA hB hb3 hbw3 hm3
     go_wp2_with fail
     refine HV.out.mono ?_
     rintro e w4 ⟨rfl, hb4⟩
     have hbw4 := Hbw3.out.trans (hb4.mono Hbw3.out.size)
     have hx4 := Hx3.out.below hb4 Hx3.out.lt
     have hm4 := Hm3.out.below hb4 Hm3.out.lt
     have HA4 := Lib.hid ((HA.out.below HB3.out).below hb4)
     have HB4 := Lib.hid ((HB.out.below HB3.out).below hb4)
     clear HV Hm3 Hx3 HB3 Hbw3 hb4 HA HB z0 z1 z2 f0 f1 f2 hz2 hbw2 hb2 Hx2
     have z0 := hx4.cell 0
     have z1 := hx4.cell 1
     have z2 := hx4.cell 2
     have f0 := hx4.open_ 0
     have f1 := hx4.open_ 1
     have f2 := hx4.open_ 2
     have y0 := hm4.cell 0
     have y1 := hm4.cell 1
     have y2 := hm4.cell 2
     simp only [List.getElem?_cons_zero, List.getElem?_cons_succ] at z0 z1 z2 y0 y1 y2
     clear hx4 hm4
     by_cases hm : Cf.modT ⟨n, l, d⟩ = 0
     ·rw [if_pos hm] at HT
      rw [hm]
      go_wp2
      refine bodyPost_ret (v := .tuple #[.agg #[.string ⟨n.toArray⟩, .slice A l.length ca, .slice B d.length cb], .int .i64 0]) (by simp [results, Tryz.results106, go_sem, z0, z1, z2]) rfl ?_
      rw [HT.out]
      exact ⟨A, B, ca, cb, rfl, rd_set (rd_set (rd_set HA4.out HfA.out (p := ⟨w.heap.size, 0, none⟩) hlt1.out _) HfA.out (p := ⟨w.heap.size, 1, none⟩) hlt1.out _) HfA.out (p := ⟨w.heap.size, 2, none⟩) hlt1.out _,
       rd_set (rd_set (rd_set HB4.out HfB.out (p := ⟨w.heap.size, 0, none⟩) hlt1.out _) HfB.out (p := ⟨w.heap.size, 1, none⟩) hlt1.out _) HfB.out (p := ⟨w.heap.size, 2, none⟩) hlt1.out _,
       ((hbw4.setCell (Nat.le_refl _) _).setCell (Nat.le_refl _) _).setCell (Nat.le_refl _) _, HfA.out.mono hbw1.size, HfB.out.mono hbw1.size⟩
     ·rw [if_neg hm] at HT
      have hm' : (Cf.modT ⟨n, l, d⟩ != 0) = true := by simp [hm]
      clear hm
      generalize Cf.modT ⟨n, l, d⟩ = em at *
      go_wp2
      refine bodyPost_ret (v := .tuple #[.agg #[.string ⟨#[]⟩, .slice none 0 0, .slice none 0 0], .int .i64 em]) (by simp [results, Tryz.results106, go_sem, z0, z1, z2]) rfl ?_
      rw [HT.out]
      exact ⟨none, none, 0, 0, rfl, .inl rfl, .inl rfl, ((hbw4.setCell (Nat.le_refl _) _).setCell (Nat.le_refl _) _).setCell (Nat.le_refl _) _, .inl rfl, .inl rfl⟩
    ·rw [if_neg he] at HT
     have he' : (er == 0) = false := by simp [he]
     have he2 : (er != 0) = true := by simp [he]
     clear he hA hB HA HB Hx2
     have hbw3 := ((hbw2.setCell (p := ⟨w.heap.size, 0, none⟩) (Nat.le_refl _) (.string ⟨#[]⟩)).setCell (p := ⟨w.heap.size, 1, none⟩) (Nat.le_refl _) (.slice none 0 0)).setCell (p := ⟨w.heap.size, 2, none⟩) (Nat.le_refl _) (.slice none 0 0)
     go_wp2
     refine bodyPost_ret (v := .tuple #[.agg #[.string ⟨#[]⟩, .slice none 0 0, .slice none 0 0], .int .i64 er]) (by simp [results, Tryz.results106, go_sem, z0, z1, z2, hz2]) rfl ?_
     rw [HT.out]
     exact ⟨none, none, 0, 0, rfl, .inl rfl, .inl rfl, hbw3.alloc hbw3.size _, .inl rfl, .inl rfl⟩
   ·rw [if_pos hq] at HT
    have hq' : (!(tk == Cf.sealL bd)) = true := by simp [Ne.symm hq]
    clear hq
    rw [hq']
    clear hq'
    generalize Cf.sealL bd = sl at *
    go_wp2
    refine bodyPost_ret (v := .tuple #[.agg #[.string ⟨#[]⟩, .slice none 0 0, .slice none 0 0], .int .i64 11]) (by simp [results, Tryz.results106, go_sem, z0, z1, z2]) rfl ?_
    rw [HT.out]
    exact ⟨none, none, 0, 0, rfl, .inl rfl, .inl rfl, ((hbw1.setCell (Nat.le_refl _) _).setCell (Nat.le_refl _) _).setCell (Nat.le_refl _) _, .inl rfl, .inl rfl⟩
end Go.Proofs.YtnnhhbjbdmgpiaaGreatDoor
