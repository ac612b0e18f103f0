/- Walks of chapter 4: the reference's ModuleOf. -/
import Derived.Test.YtdhnoaohicopdabDoorOfK
import Derived.Test.YtdhnoaohicopdabDoorModR
import Derived.Test.YtdhnoaohicopdabDoorSumR
import Derived.Test.YtdhnoaohicopdabDoorRdrW
import Derived.Test.YtdhnoaohicopdabDoorParW
import Derived.Deep.RegionWith
import Derived.Deep.RegionLaw
import Derived.IntWalk
namespace Go.Proofs.YtdhnoaohicopdabDoor
open Go.RowKit

theorem codeQ_step {n k : Nat} (hk : k < n) {r r' : Cf.Rdr} {x : Cf.Ins} (hs : r.short = false) (hi : Cf.insQ r = ⟨x, r'⟩) {acc : List Cf.Ins} {g : Cf.TookC} (h : g = ⟨acc ++ (Cf.codeQ (n - k) r).got, (Cf.codeQ (n - k) r).rdr⟩) :
    g = ⟨(acc ++ [x]) ++ (Cf.codeQ (n - (k + 1)) r').got, (Cf.codeQ (n - (k + 1)) r').rdr⟩ := by
  rw [h, show n - k = (n - (k + 1)) + 1 by omega, Cf.codeQ, if_neg (by simp [hs]), hi]
  simp
theorem dataQ_step {n k : Nat} (hk : k < n) {r r' : Cf.Rdr} {v : Nat} (hs : r.short = false) (hi : Cf.wordQ r = ⟨v, r'⟩) {acc : List Int} {g : Cf.TookD} (h : g = ⟨acc ++ (Cf.dataQ (n - k) r).got, (Cf.dataQ (n - k) r).rdr⟩) :
    g = ⟨(acc ++ [(v : Int)]) ++ (Cf.dataQ (n - (k + 1)) r').got, (Cf.dataQ (n - (k + 1)) r').rdr⟩ := by
  rw [h, show n - k = (n - (k + 1)) + 1 by omega, Cf.dataQ, if_neg (by simp [hs]), hi]
  simp
/-- What holds at the head of the loop that reads instructions. -/
def CodeRel (w : World) (gi : Nat) (t : List UInt8) (nv : Value) (n : Nat) (s : Value) (wr : World) : Prop :=
  ∃ (k pos : Nat) (sh : Bool) (cv : Value) (acc : List Cf.Ins), k ≤ n ∧ s = .int .i64 (k : Int) ∧ OSt w gi t pos sh nv cv acc (.slice none 0 0) [] wr ∧ acc.length ≤ k ∧ Cf.restCQ t = ⟨acc ++ (Cf.codeQ (n - k) ⟨t.drop pos, sh⟩).got, (Cf.codeQ (n - k) ⟨t.drop pos, sh⟩).rdr⟩
def DataRel (w : World) (gi : Nat) (t : List UInt8) (nv cv : Value) (code : List Cf.Ins) (n : Nat) (s : Value) (wr : World) : Prop :=
  ∃ (k pos : Nat) (sh : Bool) (dv : Value) (acc : List Int), k ≤ n ∧ s = .int .i64 (k : Int) ∧ OSt w gi t pos sh nv cv code dv acc wr ∧ acc.length ≤ k ∧ Cf.restDQ t = ⟨acc ++ (Cf.dataQ (n - k) ⟨t.drop pos, sh⟩).got, (Cf.dataQ (n - k) ⟨t.drop pos, sh⟩).rdr⟩
set_option maxRecDepth 100000 in
set_option maxHeartbeats 20000000 in
theorem moduleOf_any (s : List UInt8) (w : World) (hs : s.length ≤ maxLen) :
    Calls Tryd.prog 18 #[.string ⟨s.toArray⟩] w (ModPost (Cf.decT s).mod (Cf.decT s).err w) := by
  unfold maxLen at hs
  have HT := Lib.hid (Cf.decT_ref s)
  obtain ⟨i1, hi1, hy0, hy1, hy2⟩ := info_parts infoInt8
  obtain ⟨i0, hi, hz0, hz1, hz2⟩ := info_parts infoIns
  have Hi := Lib.hid hi
  have Hz0 := Lib.hid hz0
  have Hz1 := Lib.hid hz1
  have Hz2 := Lib.hid hz2
  have Hi1 := Lib.hid hi1
  have Hy0 := Lib.hid hy0
  have Hy1 := Lib.hid hy1
  have Hy2 := Lib.hid hy2
  clear hi hz0 hz1 hz2 hi1 hy0 hy1 hy2
  have hmf : ∀ (fn : Fn) (first cap : Array Value) (w : World), (Instr.makeFunc fn first cap).run Tryd.prog w = .ok (.func fn first cap) w := fun _ _ _ _ => rfl
  have hb0 : Below w.heap.size w (w.alloc (.cells #[.string ⟨#[]⟩, .slice none 0 0, .slice none 0 0] 37)) := (Below.refl _ _).alloc (Nat.le_refl _) _
  by_cases h1 : 4000 < s.length
  · rw [if_pos h1] at HT
    go_enter Tryd.func18, Tryd.ntmps18
    go_wp2
    refine bodyPost_ret (v := .tuple #[.agg #[.string ⟨#[]⟩, .slice none 0 0, .slice none 0 0], .int .i64 1]) (by simp [results, Tryd.results18, go_sem]) rfl ?_
    rw [HT.out]
    exact ⟨none, none, 0, 0, rfl, .inl rfl, .inl rfl, hb0, .inl rfl, .inl rfl⟩
  · rw [if_neg h1] at HT
    by_cases h2 : s.length < 4
    · rw [if_pos h2] at HT
      go_enter Tryd.func18, Tryd.ntmps18
      go_wp2
      refine bodyPost_ret (v := .tuple #[.agg #[.string ⟨#[]⟩, .slice none 0 0, .slice none 0 0], .int .i64 5]) (by simp [results, Tryd.results18, go_sem]) rfl ?_
      rw [HT.out]
      exact ⟨none, none, 0, 0, rfl, .inl rfl, .inl rfl, hb0, .inl rfl, .inl rfl⟩
    · rw [if_neg h2] at HT
      have s1 : ∀ w, (Instr.slice 9 (.string ⟨s.toArray⟩) (some (.int .i64 4)) none none).run Tryd.prog w = .ok (.string ⟨(s.drop 4).toArray⟩) w := str_from s 4 (by omega)
      have s2 : ∀ w, (Instr.slice 9 (.string ⟨s.toArray⟩) none (some (.int .i64 4)) none).run Tryd.prog w = .ok (.string ⟨(s.take 4).toArray⟩) w := str_upto s 4 (by omega)
      have hbl : (s.drop 4).length ≤ 4000 := by rw [List.length_drop]; omega
      have HCk := Lib.hid (fun W => sealOf_any (s.drop 4) (by unfold maxLen; omega) W)
      generalize s.drop 4 = t at *
      generalize s.take 4 = tk at *
      have hx0 := (Wb.new w 37 [.string ⟨#[]⟩, .slice none 0 0, .slice none 0 0]).alloc (.cells #[.string ⟨t.toArray⟩] 9)
      have ht0 : Wb ((w.alloc (.cells #[.string ⟨#[]⟩, .slice none 0 0, .slice none 0 0] 37)).alloc (.cells #[.string ⟨t.toArray⟩] 9)) (w.heap.size + 1) 9 [.string ⟨t.toArray⟩] := by
        have := Wb.new (w.alloc (.cells #[.string ⟨#[]⟩, .slice none 0 0, .slice none 0 0] 37)) 9 [.string ⟨t.toArray⟩]
        simpa using this
      have hb0a := hb0.alloc (by simp) (.cells #[.string ⟨t.toArray⟩] 9)
      have ct := ht0.cell 0
      simp only [List.getElem?_cons_zero] at ct
      have Hx0 := Lib.hid hx0
      have Ht0 := Lib.hid ht0
      have Hb0 := Lib.hid hb0a
      clear hx0 ht0 hb0a hb0
      go_enter Tryd.func18, Tryd.ntmps18
      go_wp2_with fail
      generalize hwb : (w.alloc (.cells #[.string ⟨#[]⟩, .slice none 0 0, .slice none 0 0] 37)).alloc (.cells #[.string ⟨t.toArray⟩] 9) = wb at *
      clear hwb
      go_region_held3 (fun W => W.cell? ⟨w.heap.size + 1, 0, none⟩ = some (.string ⟨t.toArray⟩))
        (first | go_keep | exact (Wb.below (w := wb.drew) (show Wb wb _ _ _ from Ht0.out) hb1 Ht0.out.lt).cell 0)
        (first | (go_at_call 42; (with_reducible refine (HCk.out _).mono ?_); rintro e w1 ⟨rfl, hb1⟩) | fail)
      have hbw1 : Below w.heap.size w w1 := Hb0.out.drew.trans (hb1.mono Hb0.out.size)
      have Hx1 := Lib.hid (Wb.below (w := wb.drew) (show Wb wb _ _ _ from Hx0.out) hb1 Hx0.out.lt)
      have Ht1 := Lib.hid (Wb.below (w := wb.drew) (show Wb wb _ _ _ from Ht0.out) hb1 Ht0.out.lt)
      have hlt1 := Ht1.out.lt
      clear ct Hx0 Ht0 Hb0 hb1 HCk s1 s2
      by_cases hq : Cf.sealL t = tk
      · rw [if_neg (fun h => h hq)] at HT
        have hq' : (!(Cf.sealL t == tk)) = false := by simp [hq]
        clear hq
        rw [hq']
        clear hq'
        generalize Cf.sealL t = sl at *
        have hw1s : Wb (((w1.alloc (.cells #[.int .i64 0] 3)).alloc (.cells #[.bool false] 4)).alloc (.cells #[.string ⟨#[]⟩, .slice none 0 0, .slice none 0 0] 37)) (w1.heap.size + 1) 4 [.bool false] := by
          have := (Wb.new (w1.alloc (.cells #[.int .i64 0] 3)) 4 [.bool false]).alloc (.cells #[.string ⟨#[]⟩, .slice none 0 0, .slice none 0 0] 37)
          simpa using this
        have hw1m : Wb (((w1.alloc (.cells #[.int .i64 0] 3)).alloc (.cells #[.bool false] 4)).alloc (.cells #[.string ⟨#[]⟩, .slice none 0 0, .slice none 0 0] 37)) (w1.heap.size + 1 + 1) 37 [.string ⟨#[]⟩, .slice none 0 0, .slice none 0 0] := by
          have := Wb.new ((w1.alloc (.cells #[.int .i64 0] 3)).alloc (.cells #[.bool false] 4)) 37 [.string ⟨#[]⟩, .slice none 0 0, .slice none 0 0]
          simpa using this
        have HO := Lib.hid (show OSt w w1.heap.size t 0 false (.string ⟨#[]⟩) (.slice none 0 0) [] (.slice none 0 0) [] (((w1.alloc (.cells #[.int .i64 0] 3)).alloc (.cells #[.bool false] 4)).alloc (.cells #[.string ⟨#[]⟩, .slice none 0 0, .slice none 0 0] 37)) from
          ⟨⟨((Wb.new w1 3 [.int .i64 0]).alloc _).alloc _, ((Ht1.out.alloc _).alloc _).alloc _, hw1s⟩, by omega, hw1m, ((Hx1.out.alloc _).alloc _).alloc _, World.ownsRow_nil _ _ _ _, World.ownsRow_nil _ _ _ _, ((hbw1.alloc hbw1.size _).alloc (by have := hbw1.size; simp; omega) _).alloc (by have := hbw1.size; simp; omega) _, hlt1⟩)
        have HN := Lib.hid (next_any w1.heap.size (w.heap.size + 1) (w1.heap.size + 1) t 0 false _ HO.out.ns (by omega) (by omega))
        clear hw1s hw1m Hx1 Ht1 hbw1
        go_wp2_with fail
        refine HN.out.mono ?_
        rintro e w2 ⟨rfl, hc2, pos2, sh2, hp2, hn2, hr2⟩
        have HO2 := Lib.hid (HO.out.next hc2 hn2 hp2)
        have hF : Cf.firstQ t = Cf.numR 1 ⟨t.drop 0, false⟩ := by rw [List.drop_zero]; rfl
        rw [← hF] at hr2 ⊢
        have hN1 : (Cf.firstQ t).got ≤ 255 := Cf.numR1_le _
        have HAf := Lib.hid (show Cf.afterQ t = ⟨t.drop (pos2 + (Cf.firstQ t).got), sh2⟩ by unfold Cf.afterQ; rw [← hr2, List.drop_drop])
        have HNq := Lib.hid (show Cf.nameQ t = (t.drop pos2).take (Cf.firstQ t).got by unfold Cf.nameQ; rw [← hr2])
        have HRl := Lib.hid (show (Cf.firstQ t).rdr.rest.length = t.length - pos2 by rw [← hr2, List.length_drop])
        have HRT := Lib.hid (show Cf.refT t = _ from rfl)
        clear HN HO hc2 hn2 hF hr2 HRT
        have c0 := HO2.out.ns.i.cell 0
        have c1 := HO2.out.ns.t.cell 0
        have z0 := HO2.out.res.cell 0
        have z1 := HO2.out.res.cell 1
        have z2 := HO2.out.res.cell 2
        have f0 := HO2.out.res.open_ 0
        have f1 := HO2.out.res.open_ 1
        have f2 := HO2.out.res.open_ 2
        simp only [List.getElem?_cons_zero, List.getElem?_cons_succ] at c0 c1 z0 z1 z2
        have hbw2 := HO2.out.below
        by_cases hsh : t.length < pos2 + (Cf.firstQ t).got
        · have HR := Lib.hid (show Cf.refT t = ⟨Cf.noMod, 5⟩ by unfold Cf.refT; rw [if_pos (by rw [HRl.out]; omega)])
          rw [HR.out] at HT
          generalize (Cf.firstQ t).got = N at *
          go_wp2
          refine bodyPost_ret (v := .tuple #[.agg #[.string ⟨#[]⟩, .slice none 0 0, .slice none 0 0], .int .i64 5]) (by simp [results, Tryd.results18, go_sem, z0, z1, z2]) rfl ?_
          rw [HT.out]
          exact ⟨none, none, 0, 0, rfl, .inl rfl, .inl rfl, ((hbw2.setCell (Nat.le_refl _) _).setCell (Nat.le_refl _) _).setCell (Nat.le_refl _) _, .inl rfl, .inl rfl⟩
        · have HRF := Lib.hid (show Cf.refT t = if (Cf.restDQ t).rdr.short then ⟨Cf.noMod, 5⟩ else if (Cf.restDQ t).rdr.rest ≠ [] then ⟨Cf.noMod, 4⟩ else if Cf.modT (Cf.refM t) = 0 then ⟨Cf.refM t, 0⟩ else ⟨Cf.noMod, Cf.modT (Cf.refM t)⟩ by unfold Cf.refT; rw [if_neg (by rw [HRl.out]; omega)])
          have s3 : ∀ w, (Instr.slice 9 (.string ⟨t.toArray⟩) (some (.int .i64 (pos2 : Int))) (some (.int .i64 ((pos2 : Int) + ((Cf.firstQ t).got : Int)))) none).run Tryd.prog w = .ok (.string ⟨(Cf.nameQ t).toArray⟩) w := by
            have := str_slice t pos2 (pos2 + (Cf.firstQ t).got) (by omega) (by omega)
            rw [HNq.out]
            simpa using this
          have hnl : (Cf.nameQ t).length ≤ 255 := by rw [HNq.out, List.length_take]; omega
          have y0 := HO2.out.box.cell 0
          have g0 := HO2.out.box.open_ 0
          have fi := HO2.out.ns.i.open_ 0
          simp only [List.getElem?_cons_zero] at y0
          have hz2 := HO2.out.box.lt
          have HO3 := Lib.hid ((HO2.out.putName (.string ⟨(Cf.nameQ t).toArray⟩)).putPos (Cf.firstQ t).got (by omega) (.int .i64 ((pos2 : Int) + ((Cf.firstQ t).got : Int))) (by simp))
          have HN4 := Lib.hid (next_any w1.heap.size (w.heap.size + 1) (w1.heap.size + 1) t _ sh2 _ HO3.out.ns HO3.out.hp (by omega))
          have hgN : w1.heap.size ≠ w1.heap.size + 1 + 1 := by omega
          have hle : (pos2 : Int) + ((Cf.firstQ t).got : Int) ≤ (t.length : Int) := by omega
          clear HO2 HNq z0 z1 z2 f0 f1 f2 hbw2 HRl
          generalize (Cf.firstQ t).got = N at *
          go_wp2_with fail
          refine HN4.out.mono ?_
          rintro e w4 ⟨rfl, hc4, pos4, sh4, hp4, hn4, hr4⟩
          have HO4 := Lib.hid (HO3.out.next hc4 hn4 hp4)
          rw [← HAf.out] at hr4 ⊢
          have hN4 : (Cf.numR 1 (Cf.afterQ t)).got ≤ 255 := Cf.numR1_le _
          have HRC := Lib.hid (show Cf.restCQ t = ⟨[] ++ (Cf.codeQ ((Cf.numR 1 (Cf.afterQ t)).got - 0) ⟨t.drop pos4, sh4⟩).got, (Cf.codeQ ((Cf.numR 1 (Cf.afterQ t)).got - 0) ⟨t.drop pos4, sh4⟩).rdr⟩ by rw [hr4]; rfl)
          clear HN4 HO3 hc4 hn4 hr4 HAf c0 c1 y0 g0 fi hz2 s3 hgN hp2
          generalize (Cf.numR 1 (Cf.afterQ t)).got = n at *
          go_wp2
          go_loopw [10] (fun i wr => CodeRel w w1.heap.size t (.string ⟨(Cf.nameQ t).toArray⟩) n i wr) (fun i _ => n - (intOf i).toNat)
          case atStart => exact ⟨0, pos4, sh4, _, [], by omega, rfl, HO4.out, by simp, HRC.out⟩
          case round =>
            obtain ⟨k, pos, sh, cv, acc, hk, rfl, hO, hal, hQ⟩ := hrel
            have HO := Lib.hid hO
            have HQ := Lib.hid hQ
            clear hO hQ HO4 HRC
            have c2 := HO.out.ns.s.cell 0
            simp only [List.getElem?_cons_zero] at c2
            by_cases hgo : k < n ∧ sh = false
            · obtain ⟨hlt, rfl⟩ := hgo
              have HX0 := Lib.hid (OX.new HO.out [.int .i64 0, .int .i64 0, .int .i64 0, .int .i64 0])
              have HNa := Lib.hid (next_any w1.heap.size (w.heap.size + 1) (w1.heap.size + 1) t pos false _ HX0.out.st.ns HO.out.hp (by omega))
              clear HO
              go_wp2_with fail
              refine HNa.out.mono ?_
              rintro e wa ⟨rfl, hca, posa, sha, hpa, hna, hra⟩
              have HXa := Lib.hid (HX0.out.next hca hna hpa)
              have hva := Cf.numR1_le ⟨t.drop pos, false⟩
              have Hra := Lib.hid hra
              clear HNa HX0 hca hna hra c2
              have x0 := HXa.out.x.cell 0
              have e0 := HXa.out.x.open_ 0
              simp only [List.getElem?_cons_zero] at x0
              have HXa2 := Lib.hid (HXa.out.put 0 (.int .i64 ((Cf.numR 1 ⟨t.drop pos, false⟩).got : Int)))
              have HNb := Lib.hid (next_any w1.heap.size (w.heap.size + 1) (w1.heap.size + 1) t posa sha _ HXa2.out.st.ns hpa (by omega))
              clear HXa
              go_wp2_with fail
              refine HNb.out.mono ?_
              rintro e wb ⟨rfl, hcb, posb, shb, hpb, hnb, hrb⟩
              have HXb := Lib.hid (HXa2.out.next hcb hnb hpb)
              have hvb := Cf.numR1_le ⟨t.drop posa, sha⟩
              have Hrb := Lib.hid hrb
              clear HNb HXa2 hcb hnb hrb x0 e0
              have x1 := HXb.out.x.cell 1
              have x2 := HXb.out.x.cell 2
              have e1 := HXb.out.x.open_ 1
              have e2 := HXb.out.x.open_ 2
              simp only [List.set_cons_zero, List.getElem?_cons_zero, List.getElem?_cons_succ] at x1 x2
              have HXb2 := Lib.hid ((HXb.out.put 1 (.int .i64 (((Cf.numR 1 ⟨t.drop posa, sha⟩).got : Int) / 16))).put 2 (.int .i64 (((Cf.numR 1 ⟨t.drop posa, sha⟩).got : Int) % 16)))
              have HNc := Lib.hid (next_any w1.heap.size (w.heap.size + 1) (w1.heap.size + 1) t posb shb _ HXb2.out.st.ns hpb (by omega))
              clear HXb
              go_wp2_with fail
              refine HNc.out.mono ?_
              rintro e wc ⟨rfl, hcc, posc, shc, hpc, hnc, hrc⟩
              have HXc := Lib.hid (HXb2.out.next hcc hnc hpc)
              have hvc := Cf.numR1_le ⟨t.drop posb, shb⟩
              have Hrc := Lib.hid hrc
              clear HNc HXb2 hcc hnc hrc x1 x2 e1 e2
              have x3 := HXc.out.x.cell 3
              have e3 := HXc.out.x.open_ 3
              simp only [List.set_cons_zero, List.set_cons_succ, List.getElem?_cons_zero, List.getElem?_cons_succ] at x3
              have HXc2 := Lib.hid (HXc.out.put 3 (.int .i64 (256 * ((Cf.numR 1 ⟨t.drop posb, shb⟩).got : Int))))
              clear HXc
              go_wp2_with fail
              generalize hwd : wc.setCell _ _ = wd at *
              clear hwd x3 e3
              have x3 := HXc2.out.x.cell 3
              simp only [List.set_cons_zero, List.set_cons_succ, List.getElem?_cons_zero, List.getElem?_cons_succ] at x3
              have HNd := Lib.hid (next_any w1.heap.size (w.heap.size + 1) (w1.heap.size + 1) t posc shc wd.drew HXc2.out.drew.st.ns hpc (by omega))
              have Heg : Hid (∀ args w, (callFunc 44 args).run Tryd.prog w = .ok (.enter 44 args) w) := Lib.hid (fun args w => by simp [go_sem])
              have hvd := Cf.numR1_le ⟨t.drop posc, shc⟩
              have hwr : IntKind.i64.wrap (256 * ((Cf.numR 1 ⟨t.drop posb, shb⟩).got : Int) + ((Cf.numR 1 ⟨t.drop posc, shc⟩).got : Int)) = 256 * ((Cf.numR 1 ⟨t.drop posb, shb⟩).got : Int) + ((Cf.numR 1 ⟨t.drop posc, shc⟩).got : Int) := IntWalk.i64_in _ (by omega)
              go_region_law (first
                | (refine step_callF (by rfl) 44 (.tmp 82) #[] (by rfl) #[.pointer (some ⟨w1.heap.size, 0, none⟩), .pointer (some ⟨w.heap.size + 1, 0, none⟩), .pointer (some ⟨w1.heap.size + 1, 0, none⟩)] (by rfl) Heg.out HNd.out ?_
                   rintro e we ⟨rfl, hce, pose, she, hpe, hne, hre⟩
                   refine ⟨_, rfl, ?_⟩
                   have HXe := Lib.hid (HXc2.out.drew.next hce hne hpe)
                   have Hre := Lib.hid hre
                   have k3 := HXe.out.x.cell 3
                   have kf3 := HXe.out.x.open_ 3
                   simp only [List.set_cons_zero, List.set_cons_succ, List.getElem?_cons_zero, List.getElem?_cons_succ] at k3
                   clear hce hne hre)
                | fail)
              all_goals
                have HXf := Lib.hid (HXe.out.put 3 (.int .i64 (256 * ((Cf.numR 1 ⟨t.drop posb, shb⟩).got : Int) + ((Cf.numR 1 ⟨t.drop posc, shc⟩).got : Int))))
                have HI := Lib.hid (show Cf.insQ ⟨t.drop pos, false⟩ = ⟨⟨((Cf.numR 1 ⟨t.drop pos, false⟩).got : Int), ((Cf.numR 1 ⟨t.drop posa, sha⟩).got : Int) / 16, ((Cf.numR 1 ⟨t.drop posa, sha⟩).got : Int) % 16, 256 * ((Cf.numR 1 ⟨t.drop posb, shb⟩).got : Int) + ((Cf.numR 1 ⟨t.drop posc, shc⟩).got : Int)⟩, ⟨t.drop pose, she⟩⟩ by
                  unfold Cf.insQ Cf.wordQ
                  rw [← Hra.out, ← Hrb.out, ← Hrc.out, ← Hre.out]
                  simp)
                have HQ2 := Lib.hid (codeQ_step hlt rfl HI.out HQ.out)
                clear HNd Heg hwr HXe k3 kf3 x3 HXc2 HI HQ Hra Hrb Hrc Hre
                try rw [show IntKind.i64.wrap (256 * ((Cf.numR 1 ⟨t.drop posb, shb⟩).got : Int) + ((Cf.numR 1 ⟨t.drop posc, shc⟩).got : Int)) = 256 * ((Cf.numR 1 ⟨t.drop posb, shb⟩).got : Int) + ((Cf.numR 1 ⟨t.drop posc, shc⟩).got : Int) from IntWalk.i64_in _ (by omega)]
                generalize hwf : we.setCell _ _ = wf at *
                clear hwf
                generalize ((Cf.numR 1 ⟨t.drop pos, false⟩).got : Int) = v1 at *
                generalize ((Cf.numR 1 ⟨t.drop posa, sha⟩).got : Int) = v2 at *
                generalize ((Cf.numR 1 ⟨t.drop posb, shb⟩).got : Int) = v3 at *
                generalize ((Cf.numR 1 ⟨t.drop posc, shc⟩).got : Int) = v4 at *
                have x0 := HXf.out.x.cell 0
                have x1 := HXf.out.x.cell 1
                have x2 := HXf.out.x.cell 2
                have x3 := HXf.out.x.cell 3
                have b1 := HXf.out.st.box.cell 1
                have bl := HXf.out.st.box.lt
                simp only [List.set_cons_zero, List.set_cons_succ, List.getElem?_cons_zero, List.getElem?_cons_succ] at x0 x1 x2 x3 b1
                obtain ⟨Ac, cc, rfl⟩ := own_form HXf.out.st.code
                have HSt := Lib.hid HXf.out.st
                clear HXf
                go_wp2_with (at_builtin; refine wpList_append_src rfl _ _ 23 rfl (w1.heap.size + 1 + 1 + 1) 30 i0 (.agg #[.int .i64 0, .int .i64 0, .int .i64 0, .int .i64 0]) 4 32 Tryd.underlying23 Hi.out Hz0.out Hz1.out Hz2.out rfl (by decide) encI_len oneIns _ _ _ rfl (HSt.out.alloc _).code (some ⟨wf.heap.size, 0, none⟩) 1 [⟨v1, v2 / 16, v2 % 16, 256 * v3 + v4⟩] rfl (codes_one wf _ _ _ _ _) (by unfold maxLen; simp; omega) (by simp; omega) (by have := HSt.out.box.lt; simp; omega) ?_)
                intro v5 w5 hown hgr _
                obtain ⟨A5, c5, rfl⟩ := own_form hown
                have hbx := OSt.boxC (HSt.out.alloc _) hgr
                have k1 := hbx.cell 1
                have kf1 := hbx.open_ 1
                simp only [List.getElem?_cons_zero, List.getElem?_cons_succ] at k1
                have HSt5 := Lib.hid (OSt.putCode (code' := acc ++ [⟨v1, v2 / 16, v2 % 16, 256 * v3 + v4⟩]) (HSt.out.alloc _) (by rw [List.length_append, List.flatMap_append]; exact hown) hgr (fun k hk => by cases hk))
                clear hbx hown hgr HSt x0 x1 x2 x3 b1
                go_wp2
                go_roundw
                case rel => exact ⟨k + 1, pose, she, _, acc ++ [⟨v1, v2 / 16, v2 % 16, 256 * v3 + v4⟩], by omega, by go_num, HSt5.out, by simp; omega, HQ2.out⟩
                case measure => simp [intOf]; omega
            · have HC := Lib.hid (show Cf.restCQ t = ⟨acc, ⟨t.drop pos, sh⟩⟩ by
                rw [HQ.out]
                by_cases hlt : k < n
                · have hs : sh = true := by
                    cases sh
                    · exact absurd ⟨hlt, rfl⟩ hgo
                    · rfl
                  rw [Cf.codeQ_short (by exact hs)]
                  simp
                · rw [show n - k = 0 by omega]
                  simp [Cf.codeQ])
              have HNg := Lib.hid (next_any w1.heap.size (w.heap.size + 1) (w1.heap.size + 1) t pos sh wr HO.out.ns HO.out.hp (by omega))
              have hcl : acc.length ≤ 255 := by omega
              clear HQ
              by_cases hlt : k < n
              · have hs : sh = true := by
                  cases sh
                  · exact absurd ⟨hlt, rfl⟩ hgo
                  · rfl
                rw [hs] at c2
                clear hgo hs
                go_wp2_with fail
                refine HNg.out.mono ?_
                rintro e w6 ⟨rfl, hc6, pos6, sh6, hp6, hn6, hr6⟩
                have HO6 := Lib.hid (HO.out.next hc6 hn6 hp6)
                have HCr := Lib.hid (show (Cf.restCQ t).rdr = ⟨t.drop pos, sh⟩ by rw [HC.out])
                rw [← HCr.out] at hr6 ⊢
                have hN6 : (Cf.numR 1 (Cf.restCQ t).rdr).got ≤ 255 := Cf.numR1_le _
                have HRD := Lib.hid (show Cf.restDQ t = ⟨[] ++ (Cf.dataQ ((Cf.numR 1 (Cf.restCQ t).rdr).got - 0) ⟨t.drop pos6, sh6⟩).got, (Cf.dataQ ((Cf.numR 1 (Cf.restCQ t).rdr).got - 0) ⟨t.drop pos6, sh6⟩).rdr⟩ by rw [hr6]; rfl)
                clear HNg HO hc6 hn6 hr6 HCr c2 hk hal hlt
                generalize (Cf.numR 1 (Cf.restCQ t).rdr).got = m at *
                go_wp2
                go_loopw [13] (fun i wr => DataRel w w1.heap.size t (.string ⟨(Cf.nameQ t).toArray⟩) cv acc m i wr) (fun i _ => m - (intOf i).toNat)
                case atStart => exact ⟨0, pos6, sh6, _, [], by omega, rfl, HO6.out, by simp, HRD.out⟩
                case round =>
                  obtain ⟨k, pos, sh, dv, da, hk, rfl, hO, hal, hQ⟩ := hrel
                  have HO := Lib.hid hO
                  have HQ := Lib.hid hQ
                  clear hO hQ HO6 HRD
                  have c2 := HO.out.ns.s.cell 0
                  simp only [List.getElem?_cons_zero] at c2
                  by_cases hgo : k < m ∧ sh = false
                  · obtain ⟨hlt, rfl⟩ := hgo
                    have HNa := Lib.hid (next_any w1.heap.size (w.heap.size + 1) (w1.heap.size + 1) t pos false wr HO.out.ns HO.out.hp (by omega))
                    go_wp2_with fail
                    refine HNa.out.mono ?_
                    rintro e wa ⟨rfl, hca, posa, sha, hpa, hna, hra⟩
                    have HOa := Lib.hid (HO.out.next hca hna hpa)
                    have hva := Cf.numR1_le ⟨t.drop pos, false⟩
                    have Hra := Lib.hid hra
                    have HNb := Lib.hid (next_any w1.heap.size (w.heap.size + 1) (w1.heap.size + 1) t posa sha wa HOa.out.ns hpa (by omega))
                    clear HNa HO hca hna hra c2
                    go_wp2_with fail
                    refine HNb.out.mono ?_
                    rintro e wb ⟨rfl, hcb, posb, shb, hpb, hnb, hrb⟩
                    have HOb := Lib.hid (HOa.out.next hcb hnb hpb)
                    have hvb := Cf.numR1_le ⟨t.drop posa, sha⟩
                    have HI := Lib.hid (show Cf.wordQ ⟨t.drop pos, false⟩ = ⟨256 * (Cf.numR 1 ⟨t.drop pos, false⟩).got + (Cf.numR 1 ⟨t.drop posa, sha⟩).got, ⟨t.drop posb, shb⟩⟩ by
                      unfold Cf.wordQ
                      rw [← Hra.out, hrb])
                    have HQ2 := Lib.hid (dataQ_step hlt rfl HI.out HQ.out)
                    clear HNb HOa hcb hnb hrb Hra HI HQ
                    generalize (Cf.numR 1 ⟨t.drop pos, false⟩).got = v1 at *
                    generalize (Cf.numR 1 ⟨t.drop posa, sha⟩).got = v2 at *
                    have b1 := HOb.out.box.cell 2
                    have bl := HOb.out.box.lt
                    simp only [List.getElem?_cons_zero, List.getElem?_cons_succ] at b1
                    obtain ⟨Ac, cc, rfl⟩ := own_form HOb.out.data
                    go_wp2_with (at_builtin; refine wpList_append_src rfl _ _ 35 rfl (w1.heap.size + 1 + 1 + 1) 3 i1 (.int .i64 0) 1 8 Tryd.underlying35 Hi1.out Hy0.out Hy1.out Hy2.out rfl (by decide) encZ_len oneInt _ _ _ rfl (HOb.out.alloc _).data (some ⟨wb.heap.size, 0, none⟩) 1 [256 * (v1 : Int) + (v2 : Int)] rfl (ints_one wb _ _) (by unfold maxLen; simp; omega) (by simp; omega) (by have := HOb.out.box.lt; simp; omega) ?_)
                    intro v5 w5 hown hgr _
                    obtain ⟨A5, c5, rfl⟩ := own_form hown
                    have hbx := OSt.boxD (HOb.out.alloc _) hgr
                    have k1 := hbx.cell 2
                    have kf1 := hbx.open_ 2
                    simp only [List.getElem?_cons_zero, List.getElem?_cons_succ] at k1
                    have HSt5 := Lib.hid (OSt.putData (data' := da ++ [((256 * v1 + v2 : Nat) : Int)]) (HOb.out.alloc _) (by rw [List.length_append, List.flatMap_append]; exact hown) hgr (rows_apart HOb.out.code HOb.out.data insNeInt2))
                    clear hbx hown hgr HOb b1
                    go_wp2
                    go_roundw
                    case rel => exact ⟨k + 1, posb, shb, _, da ++ [((256 * v1 + v2 : Nat) : Int)], by omega, by go_num, HSt5.out, by simp; omega, HQ2.out⟩
                    case measure => simp [intOf]; omega
                  · have HD := Lib.hid (show Cf.restDQ t = ⟨da, ⟨t.drop pos, sh⟩⟩ by
                      rw [HQ.out]
                      by_cases hlt : k < m
                      · have hs : sh = true := by
                          cases sh
                          · exact absurd ⟨hlt, rfl⟩ hgo
                          · rfl
                        rw [Cf.dataQ_short (by exact hs)]
                        simp
                      · rw [show m - k = 0 by omega]
                        simp [Cf.dataQ])
                    have HM := Lib.hid (show Cf.refM t = ⟨Cf.nameQ t, acc, da⟩ by unfold Cf.refM; rw [HC.out, HD.out])
                    have HFin := Lib.hid (show Cf.decT s = if sh then ⟨Cf.noMod, 5⟩ else if t.drop pos ≠ [] then ⟨Cf.noMod, 4⟩ else if Cf.modT ⟨Cf.nameQ t, acc, da⟩ = 0 then ⟨⟨Cf.nameQ t, acc, da⟩, 0⟩ else ⟨Cf.noMod, Cf.modT ⟨Cf.nameQ t, acc, da⟩⟩ by rw [HT.out, HRF.out, HD.out, HM.out])
                    clear HQ HD HM
                    have hdl : da.length ≤ 255 := by omega
                    have hbr := HO.out.below
                    have c0 := HO.out.ns.i.cell 0
                    have c1 := HO.out.ns.t.cell 0
                    have z0 := HO.out.res.cell 0
                    have z1 := HO.out.res.cell 1
                    have z2 := HO.out.res.cell 2
                    have f0 := HO.out.res.open_ 0
                    have f1 := HO.out.res.open_ 1
                    have f2 := HO.out.res.open_ 2
                    have y0 := HO.out.box.cell 0
                    have y1 := HO.out.box.cell 1
                    have y2 := HO.out.box.cell 2
                    simp only [List.getElem?_cons_zero, List.getElem?_cons_succ] at c0 c1 z0 z1 z2 y0 y1 y2
                    by_cases hlt : k < m
                    · obtain rfl : sh = true := by
                        cases sh
                        · exact absurd ⟨hlt, rfl⟩ hgo
                        · rfl
                      have HE := Lib.hid (show Cf.decT s = ⟨Cf.noMod, 5⟩ by rw [HFin.out, if_pos rfl])
                      clear hgo
                      go_wp2
                      refine bodyPost_ret (v := .tuple #[.agg #[.string ⟨#[]⟩, .slice none 0 0, .slice none 0 0], .int .i64 5]) (by simp [results, Tryd.results18, go_sem, z0, z1, z2]) rfl ?_
                      rw [HE.out]
                      exact ⟨none, none, 0, 0, rfl, .inl rfl, .inl rfl, ((hbr.setCell (Nat.le_refl _) _).setCell (Nat.le_refl _) _).setCell (Nat.le_refl _) _, .inl rfl, .inl rfl⟩
                    · clear hgo
                      cases sh
                      · have hpp := HO.out.hp
                        by_cases hpl : pos < t.length
                        · have HE := Lib.hid (show Cf.decT s = ⟨Cf.noMod, 4⟩ by rw [HFin.out, if_neg (by simp), if_pos (by intro e; have := congrArg List.length e; rw [List.length_drop, List.length_nil] at this; omega)])
                          go_wp2
                          refine bodyPost_ret (v := .tuple #[.agg #[.string ⟨#[]⟩, .slice none 0 0, .slice none 0 0], .int .i64 4]) (by simp [results, Tryd.results18, go_sem, z0, z1, z2]) rfl ?_
                          rw [HE.out]
                          exact ⟨none, none, 0, 0, rfl, .inl rfl, .inl rfl, ((hbr.setCell (Nat.le_refl _) _).setCell (Nat.le_refl _) _).setCell (Nat.le_refl _) _, .inl rfl, .inl rfl⟩
                        · have HE0 := Lib.hid (show Cf.decT s = if Cf.modT ⟨Cf.nameQ t, acc, da⟩ = 0 then ⟨⟨Cf.nameQ t, acc, da⟩, 0⟩ else ⟨Cf.noMod, Cf.modT ⟨Cf.nameQ t, acc, da⟩⟩ by rw [HFin.out, if_neg (by simp), if_neg (fun h => h (List.drop_of_length_le (by omega)))])
                          obtain ⟨Ac, cc, rfl⟩ := own_form HO.out.code
                          obtain ⟨Ad, cd, rfl⟩ := own_form HO.out.data
                          obtain ⟨hoC, hoD, hfC, hfD⟩ := HO.out.out
                          have HoC := Lib.hid hoC
                          have HoD := Lib.hid hoD
                          have HfC := Lib.hid hfC
                          have HfD := Lib.hid hfD
                          have HFt := Lib.hid (moduleFault_any (Cf.nameQ t) acc da Ac Ad cc cd wr hoC hoD (by unfold maxLen; omega) (by unfold maxLen; omega) (by unfold maxLen; omega))
                          clear hoC hoD hfC hfD HFin
                          go_wp2_with fail
                          refine HFt.out.mono ?_
                          rintro e w9 ⟨rfl, hb9⟩
                          have hlt9 := HO.out.lt
                          have HO9 := Lib.hid (HO.out.more hb9)
                          have HoC9 := Lib.hid (HoC.out.below hb9)
                          have HoD9 := Lib.hid (HoD.out.below hb9)
                          clear HFt HO HoC HoD hb9 hbr c0 c1 z0 z1 z2 f0 f1 f2 y0 y1 y2
                          have hbr := HO9.out.below
                          have z0 := HO9.out.res.cell 0
                          have z1 := HO9.out.res.cell 1
                          have z2 := HO9.out.res.cell 2
                          have f0 := HO9.out.res.open_ 0
                          have f1 := HO9.out.res.open_ 1
                          have f2 := HO9.out.res.open_ 2
                          have y0 := HO9.out.box.cell 0
                          have y1 := HO9.out.box.cell 1
                          have y2 := HO9.out.box.cell 2
                          simp only [List.getElem?_cons_zero, List.getElem?_cons_succ] at z0 z1 z2 y0 y1 y2
                          by_cases hm : Cf.modT ⟨Cf.nameQ t, acc, da⟩ = 0
                          · have HE := Lib.hid (HE0.out.trans (if_pos hm))
                            rw [hm]
                            clear hm HE0
                            go_wp2
                            refine bodyPost_ret (v := .tuple #[.agg #[.string ⟨(Cf.nameQ t).toArray⟩, .slice Ac acc.length cc, .slice Ad da.length cd], .int .i64 0]) (by simp [results, Tryd.results18, go_sem, z0, z1, z2]) rfl ?_
                            rw [HE.out]
                            exact ⟨Ac, Ad, cc, cd, rfl, rd_set (rd_set (rd_set HoC9.out HfC.out (p := ⟨w.heap.size, 0, none⟩) (by show w.heap.size < _; omega) _) HfC.out (p := ⟨w.heap.size, 1, none⟩) (by show w.heap.size < _; omega) _) HfC.out (p := ⟨w.heap.size, 2, none⟩) (by show w.heap.size < _; omega) _,
                              rd_set (rd_set (rd_set HoD9.out HfD.out (p := ⟨w.heap.size, 0, none⟩) (by show w.heap.size < _; omega) _) HfD.out (p := ⟨w.heap.size, 1, none⟩) (by show w.heap.size < _; omega) _) HfD.out (p := ⟨w.heap.size, 2, none⟩) (by show w.heap.size < _; omega) _,
                              ((hbr.setCell (Nat.le_refl _) _).setCell (Nat.le_refl _) _).setCell (Nat.le_refl _) _, HfC.out.mono (by omega), HfD.out.mono (by omega)⟩
                          · have HE := Lib.hid (HE0.out.trans (if_neg hm))
                            have hm' : (Cf.modT ⟨Cf.nameQ t, acc, da⟩ != 0) = true := by simp [hm]
                            clear hm HE0
                            generalize Cf.modT ⟨Cf.nameQ t, acc, da⟩ = em at *
                            go_wp2
                            refine bodyPost_ret (v := .tuple #[.agg #[.string ⟨#[]⟩, .slice none 0 0, .slice none 0 0], .int .i64 em]) (by simp [results, Tryd.results18, go_sem, z0, z1, z2]) rfl ?_
                            rw [HE.out]
                            exact ⟨none, none, 0, 0, rfl, .inl rfl, .inl rfl, ((hbr.setCell (Nat.le_refl _) _).setCell (Nat.le_refl _) _).setCell (Nat.le_refl _) _, .inl rfl, .inl rfl⟩
                      · have HE := Lib.hid (show Cf.decT s = ⟨Cf.noMod, 5⟩ by rw [HFin.out, if_pos rfl])
                        go_wp2
                        refine bodyPost_ret (v := .tuple #[.agg #[.string ⟨#[]⟩, .slice none 0 0, .slice none 0 0], .int .i64 5]) (by simp [results, Tryd.results18, go_sem, z0, z1, z2]) rfl ?_
                        rw [HE.out]
                        exact ⟨none, none, 0, 0, rfl, .inl rfl, .inl rfl, ((hbr.setCell (Nat.le_refl _) _).setCell (Nat.le_refl _) _).setCell (Nat.le_refl _) _, .inl rfl, .inl rfl⟩
              · clear hgo
                go_wp2_with fail
                refine HNg.out.mono ?_
                rintro e w6 ⟨rfl, hc6, pos6, sh6, hp6, hn6, hr6⟩
                have HO6 := Lib.hid (HO.out.next hc6 hn6 hp6)
                have HCr := Lib.hid (show (Cf.restCQ t).rdr = ⟨t.drop pos, sh⟩ by rw [HC.out])
                rw [← HCr.out] at hr6 ⊢
                have hN6 : (Cf.numR 1 (Cf.restCQ t).rdr).got ≤ 255 := Cf.numR1_le _
                have HRD := Lib.hid (show Cf.restDQ t = ⟨[] ++ (Cf.dataQ ((Cf.numR 1 (Cf.restCQ t).rdr).got - 0) ⟨t.drop pos6, sh6⟩).got, (Cf.dataQ ((Cf.numR 1 (Cf.restCQ t).rdr).got - 0) ⟨t.drop pos6, sh6⟩).rdr⟩ by rw [hr6]; rfl)
                clear HNg HO hc6 hn6 hr6 HCr c2 hk hal hlt
                generalize (Cf.numR 1 (Cf.restCQ t).rdr).got = m at *
                go_wp2
                go_loopw [13] (fun i wr => DataRel w w1.heap.size t (.string ⟨(Cf.nameQ t).toArray⟩) cv acc m i wr) (fun i _ => m - (intOf i).toNat)
                case atStart => exact ⟨0, pos6, sh6, _, [], by omega, rfl, HO6.out, by simp, HRD.out⟩
                case round =>
                  obtain ⟨k, pos, sh, dv, da, hk, rfl, hO, hal, hQ⟩ := hrel
                  have HO := Lib.hid hO
                  have HQ := Lib.hid hQ
                  clear hO hQ HO6 HRD
                  have c2 := HO.out.ns.s.cell 0
                  simp only [List.getElem?_cons_zero] at c2
                  by_cases hgo : k < m ∧ sh = false
                  · obtain ⟨hlt, rfl⟩ := hgo
                    have HNa := Lib.hid (next_any w1.heap.size (w.heap.size + 1) (w1.heap.size + 1) t pos false wr HO.out.ns HO.out.hp (by omega))
                    go_wp2_with fail
                    refine HNa.out.mono ?_
                    rintro e wa ⟨rfl, hca, posa, sha, hpa, hna, hra⟩
                    have HOa := Lib.hid (HO.out.next hca hna hpa)
                    have hva := Cf.numR1_le ⟨t.drop pos, false⟩
                    have Hra := Lib.hid hra
                    have HNb := Lib.hid (next_any w1.heap.size (w.heap.size + 1) (w1.heap.size + 1) t posa sha wa HOa.out.ns hpa (by omega))
                    clear HNa HO hca hna hra c2
                    go_wp2_with fail
                    refine HNb.out.mono ?_
                    rintro e wb ⟨rfl, hcb, posb, shb, hpb, hnb, hrb⟩
                    have HOb := Lib.hid (HOa.out.next hcb hnb hpb)
                    have hvb := Cf.numR1_le ⟨t.drop posa, sha⟩
                    have HI := Lib.hid (show Cf.wordQ ⟨t.drop pos, false⟩ = ⟨256 * (Cf.numR 1 ⟨t.drop pos, false⟩).got + (Cf.numR 1 ⟨t.drop posa, sha⟩).got, ⟨t.drop posb, shb⟩⟩ by
                      unfold Cf.wordQ
                      rw [← Hra.out, hrb])
                    have HQ2 := Lib.hid (dataQ_step hlt rfl HI.out HQ.out)
                    clear HNb HOa hcb hnb hrb Hra HI HQ
                    generalize (Cf.numR 1 ⟨t.drop pos, false⟩).got = v1 at *
                    generalize (Cf.numR 1 ⟨t.drop posa, sha⟩).got = v2 at *
                    have b1 := HOb.out.box.cell 2
                    have bl := HOb.out.box.lt
                    simp only [List.getElem?_cons_zero, List.getElem?_cons_succ] at b1
                    obtain ⟨Ac, cc, rfl⟩ := own_form HOb.out.data
                    go_wp2_with (at_builtin; refine wpList_append_src rfl _ _ 35 rfl (w1.heap.size + 1 + 1 + 1) 3 i1 (.int .i64 0) 1 8 Tryd.underlying35 Hi1.out Hy0.out Hy1.out Hy2.out rfl (by decide) encZ_len oneInt _ _ _ rfl (HOb.out.alloc _).data (some ⟨wb.heap.size, 0, none⟩) 1 [256 * (v1 : Int) + (v2 : Int)] rfl (ints_one wb _ _) (by unfold maxLen; simp; omega) (by simp; omega) (by have := HOb.out.box.lt; simp; omega) ?_)
                    intro v5 w5 hown hgr _
                    obtain ⟨A5, c5, rfl⟩ := own_form hown
                    have hbx := OSt.boxD (HOb.out.alloc _) hgr
                    have k1 := hbx.cell 2
                    have kf1 := hbx.open_ 2
                    simp only [List.getElem?_cons_zero, List.getElem?_cons_succ] at k1
                    have HSt5 := Lib.hid (OSt.putData (data' := da ++ [((256 * v1 + v2 : Nat) : Int)]) (HOb.out.alloc _) (by rw [List.length_append, List.flatMap_append]; exact hown) hgr (rows_apart HOb.out.code HOb.out.data insNeInt2))
                    clear hbx hown hgr HOb b1
                    go_wp2
                    go_roundw
                    case rel => exact ⟨k + 1, posb, shb, _, da ++ [((256 * v1 + v2 : Nat) : Int)], by omega, by go_num, HSt5.out, by simp; omega, HQ2.out⟩
                    case measure => simp [intOf]; omega
                  · have HD := Lib.hid (show Cf.restDQ t = ⟨da, ⟨t.drop pos, sh⟩⟩ by
                      rw [HQ.out]
                      by_cases hlt : k < m
                      · have hs : sh = true := by
                          cases sh
                          · exact absurd ⟨hlt, rfl⟩ hgo
                          · rfl
                        rw [Cf.dataQ_short (by exact hs)]
                        simp
                      · rw [show m - k = 0 by omega]
                        simp [Cf.dataQ])
                    have HM := Lib.hid (show Cf.refM t = ⟨Cf.nameQ t, acc, da⟩ by unfold Cf.refM; rw [HC.out, HD.out])
                    have HFin := Lib.hid (show Cf.decT s = if sh then ⟨Cf.noMod, 5⟩ else if t.drop pos ≠ [] then ⟨Cf.noMod, 4⟩ else if Cf.modT ⟨Cf.nameQ t, acc, da⟩ = 0 then ⟨⟨Cf.nameQ t, acc, da⟩, 0⟩ else ⟨Cf.noMod, Cf.modT ⟨Cf.nameQ t, acc, da⟩⟩ by rw [HT.out, HRF.out, HD.out, HM.out])
                    clear HQ HD HM
                    have hdl : da.length ≤ 255 := by omega
                    have hbr := HO.out.below
                    have c0 := HO.out.ns.i.cell 0
                    have c1 := HO.out.ns.t.cell 0
                    have z0 := HO.out.res.cell 0
                    have z1 := HO.out.res.cell 1
                    have z2 := HO.out.res.cell 2
                    have f0 := HO.out.res.open_ 0
                    have f1 := HO.out.res.open_ 1
                    have f2 := HO.out.res.open_ 2
                    have y0 := HO.out.box.cell 0
                    have y1 := HO.out.box.cell 1
                    have y2 := HO.out.box.cell 2
                    simp only [List.getElem?_cons_zero, List.getElem?_cons_succ] at c0 c1 z0 z1 z2 y0 y1 y2
                    by_cases hlt : k < m
                    · obtain rfl : sh = true := by
                        cases sh
                        · exact absurd ⟨hlt, rfl⟩ hgo
                        · rfl
                      have HE := Lib.hid (show Cf.decT s = ⟨Cf.noMod, 5⟩ by rw [HFin.out, if_pos rfl])
                      clear hgo
                      go_wp2
                      refine bodyPost_ret (v := .tuple #[.agg #[.string ⟨#[]⟩, .slice none 0 0, .slice none 0 0], .int .i64 5]) (by simp [results, Tryd.results18, go_sem, z0, z1, z2]) rfl ?_
                      rw [HE.out]
                      exact ⟨none, none, 0, 0, rfl, .inl rfl, .inl rfl, ((hbr.setCell (Nat.le_refl _) _).setCell (Nat.le_refl _) _).setCell (Nat.le_refl _) _, .inl rfl, .inl rfl⟩
                    · clear hgo
                      cases sh
                      · have hpp := HO.out.hp
                        by_cases hpl : pos < t.length
                        · have HE := Lib.hid (show Cf.decT s = ⟨Cf.noMod, 4⟩ by rw [HFin.out, if_neg (by simp), if_pos (by intro e; have := congrArg List.length e; rw [List.length_drop, List.length_nil] at this; omega)])
                          go_wp2
                          refine bodyPost_ret (v := .tuple #[.agg #[.string ⟨#[]⟩, .slice none 0 0, .slice none 0 0], .int .i64 4]) (by simp [results, Tryd.results18, go_sem, z0, z1, z2]) rfl ?_
                          rw [HE.out]
                          exact ⟨none, none, 0, 0, rfl, .inl rfl, .inl rfl, ((hbr.setCell (Nat.le_refl _) _).setCell (Nat.le_refl _) _).setCell (Nat.le_refl _) _, .inl rfl, .inl rfl⟩
                        · have HE0 := Lib.hid (show Cf.decT s = if Cf.modT ⟨Cf.nameQ t, acc, da⟩ = 0 then ⟨⟨Cf.nameQ t, acc, da⟩, 0⟩ else ⟨Cf.noMod, Cf.modT ⟨Cf.nameQ t, acc, da⟩⟩ by rw [HFin.out, if_neg (by simp), if_neg (fun h => h (List.drop_of_length_le (by omega)))])
                          obtain ⟨Ac, cc, rfl⟩ := own_form HO.out.code
                          obtain ⟨Ad, cd, rfl⟩ := own_form HO.out.data
                          obtain ⟨hoC, hoD, hfC, hfD⟩ := HO.out.out
                          have HoC := Lib.hid hoC
                          have HoD := Lib.hid hoD
                          have HfC := Lib.hid hfC
                          have HfD := Lib.hid hfD
                          have HFt := Lib.hid (moduleFault_any (Cf.nameQ t) acc da Ac Ad cc cd wr hoC hoD (by unfold maxLen; omega) (by unfold maxLen; omega) (by unfold maxLen; omega))
                          clear hoC hoD hfC hfD HFin
                          go_wp2_with fail
                          refine HFt.out.mono ?_
                          rintro e w9 ⟨rfl, hb9⟩
                          have hlt9 := HO.out.lt
                          have HO9 := Lib.hid (HO.out.more hb9)
                          have HoC9 := Lib.hid (HoC.out.below hb9)
                          have HoD9 := Lib.hid (HoD.out.below hb9)
                          clear HFt HO HoC HoD hb9 hbr c0 c1 z0 z1 z2 f0 f1 f2 y0 y1 y2
                          have hbr := HO9.out.below
                          have z0 := HO9.out.res.cell 0
                          have z1 := HO9.out.res.cell 1
                          have z2 := HO9.out.res.cell 2
                          have f0 := HO9.out.res.open_ 0
                          have f1 := HO9.out.res.open_ 1
                          have f2 := HO9.out.res.open_ 2
                          have y0 := HO9.out.box.cell 0
                          have y1 := HO9.out.box.cell 1
                          have y2 := HO9.out.box.cell 2
                          simp only [List.getElem?_cons_zero, List.getElem?_cons_succ] at z0 z1 z2 y0 y1 y2
                          by_cases hm : Cf.modT ⟨Cf.nameQ t, acc, da⟩ = 0
                          · have HE := Lib.hid (HE0.out.trans (if_pos hm))
                            rw [hm]
                            clear hm HE0
                            go_wp2
                            refine bodyPost_ret (v := .tuple #[.agg #[.string ⟨(Cf.nameQ t).toArray⟩, .slice Ac acc.length cc, .slice Ad da.length cd], .int .i64 0]) (by simp [results, Tryd.results18, go_sem, z0, z1, z2]) rfl ?_
                            rw [HE.out]
                            exact ⟨Ac, Ad, cc, cd, rfl, rd_set (rd_set (rd_set HoC9.out HfC.out (p := ⟨w.heap.size, 0, none⟩) (by show w.heap.size < _; omega) _) HfC.out (p := ⟨w.heap.size, 1, none⟩) (by show w.heap.size < _; omega) _) HfC.out (p := ⟨w.heap.size, 2, none⟩) (by show w.heap.size < _; omega) _,
                              rd_set (rd_set (rd_set HoD9.out HfD.out (p := ⟨w.heap.size, 0, none⟩) (by show w.heap.size < _; omega) _) HfD.out (p := ⟨w.heap.size, 1, none⟩) (by show w.heap.size < _; omega) _) HfD.out (p := ⟨w.heap.size, 2, none⟩) (by show w.heap.size < _; omega) _,
                              ((hbr.setCell (Nat.le_refl _) _).setCell (Nat.le_refl _) _).setCell (Nat.le_refl _) _, HfC.out.mono (by omega), HfD.out.mono (by omega)⟩
                          · have HE := Lib.hid (HE0.out.trans (if_neg hm))
                            have hm' : (Cf.modT ⟨Cf.nameQ t, acc, da⟩ != 0) = true := by simp [hm]
                            clear hm HE0
                            generalize Cf.modT ⟨Cf.nameQ t, acc, da⟩ = em at *
                            go_wp2
                            refine bodyPost_ret (v := .tuple #[.agg #[.string ⟨#[]⟩, .slice none 0 0, .slice none 0 0], .int .i64 em]) (by simp [results, Tryd.results18, go_sem, z0, z1, z2]) rfl ?_
                            rw [HE.out]
                            exact ⟨none, none, 0, 0, rfl, .inl rfl, .inl rfl, ((hbr.setCell (Nat.le_refl _) _).setCell (Nat.le_refl _) _).setCell (Nat.le_refl _) _, .inl rfl, .inl rfl⟩
                      · have HE := Lib.hid (show Cf.decT s = ⟨Cf.noMod, 5⟩ by rw [HFin.out, if_pos rfl])
                        go_wp2
                        refine bodyPost_ret (v := .tuple #[.agg #[.string ⟨#[]⟩, .slice none 0 0, .slice none 0 0], .int .i64 5]) (by simp [results, Tryd.results18, go_sem, z0, z1, z2]) rfl ?_
                        rw [HE.out]
                        exact ⟨none, none, 0, 0, rfl, .inl rfl, .inl rfl, ((hbr.setCell (Nat.le_refl _) _).setCell (Nat.le_refl _) _).setCell (Nat.le_refl _) _, .inl rfl, .inl rfl⟩
      · rw [if_pos hq] at HT
        have hq' : (!(Cf.sealL t == tk)) = true := by simp [hq]
        clear hq
        rw [hq']
        clear hq'
        have z0 := Hx1.out.cell 0
        have z1 := Hx1.out.cell 1
        have z2 := Hx1.out.cell 2
        have f0 := Hx1.out.open_ 0
        have f1 := Hx1.out.open_ 1
        have f2 := Hx1.out.open_ 2
        simp only [List.getElem?_cons_zero, List.getElem?_cons_succ] at z0 z1 z2
        generalize Cf.sealL t = sl at *
        go_wp2
        refine bodyPost_ret (v := .tuple #[.agg #[.string ⟨#[]⟩, .slice none 0 0, .slice none 0 0], .int .i64 11]) (by simp [results, Tryd.results18, go_sem, z0, z1, z2]) rfl ?_
        rw [HT.out]
        exact ⟨none, none, 0, 0, rfl, .inl rfl, .inl rfl, ((hbw1.setCell (Nat.le_refl _) _).setCell (Nat.le_refl _) _).setCell (Nat.le_refl _) _, .inl rfl, .inl rfl⟩
end Go.Proofs.YtdhnoaohicopdabDoor
