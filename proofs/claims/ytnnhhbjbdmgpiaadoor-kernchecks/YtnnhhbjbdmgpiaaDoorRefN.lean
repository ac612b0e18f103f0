/- Walks of chapter 5: the reference's nodeMay. -/
import Derived.Test.YtnnhhbjbdmgpiaaDoorRefL
namespace Go.Proofs.YtnnhhbjbdmgpiaaDoor
set_option maxRecDepth 100000
open Go.RowKit

theorem Cf.within_sub (v : Int) (n : Nat) : Cf.withinB v n = Cf.inB v 0 ((n : Int) - 1) := by
  rw [Bool.eq_iff_iff]
  simp [Cf.withinB, Cf.inB]
  omega
theorem Cf.name_first {k : Cf.Kern} {i : Nat} {n : Cf.Node} (hi : k.nodes[i]? = some n) (hn : n.name ≠ []) (h : ∀ j m, j < i → k.nodes[j]? = some m → m.name ≠ n.name) : Cf.nameOk k n.name i = Cf.nameB n.name := by
  have h1 : Cf.idxT (Cf.namedB n.name) k.nodes = i := by
    refine Cf.idx_at hi (by simp [Cf.namedB, hn]) ?_
    rw [List.any_eq_false]
    intro m hm
    obtain ⟨j, hj⟩ := List.mem_iff_getElem?.1 hm
    rw [List.getElem?_take] at hj
    split at hj
    · rename_i hji
      simp [Cf.namedB, h j m hji hj]
    · cases hj
  simp [Cf.nameOk, hn, h1]
theorem Cf.name_twice {k : Cf.Kern} {i j : Nat} {n m : Cf.Node} (hn : n.name ≠ []) (hj : j < i) (hm : k.nodes[j]? = some m) (he : m.name = n.name) : Cf.nameOk k n.name i = false := by
  have h1 : Cf.idxT (Cf.namedB n.name) k.nodes ≠ i := by
    rcases Cf.idx_cases (Cf.namedB n.name) k.nodes with ⟨_, h⟩ | ⟨q, x, hq, hx, hb, hall⟩
    · omega
    · rw [hq]
      intro h
      have hqi : q = i := by omega
      subst hqi
      have := List.any_eq_false.1 hall m (List.mem_of_getElem? (i := j) (by rw [List.getElem?_take, if_pos hj]; exact hm))
      simp [Cf.namedB, he, hn] at this
  simp [Cf.nameOk, hn, h1]
/-- A kernel and a node, each in its box. -/
def KNBox (w : World) (cs ns : List Value) (w' : World) : Prop := Wb w' w.heap.size tKern cs ∧ Wb w' (w.heap.size + 1) 53 ns ∧ Below w.heap.size w w'
theorem KNBox.next {w : World} {cs ns : List Value} {w' w2 : World} (h : KNBox w cs ns w') (hb : Below w'.heap.size w' w2) : KNBox w cs ns w2 := ⟨h.1.below hb h.1.lt, h.2.1.below hb h.2.1.lt, h.2.2.trans (hb.mono h.2.2.size)⟩
theorem below_drewS (w : World) (n : Nat) : Below w.heap.size w (w.drewN n) := below_drewN (Below.refl _ _) n
set_option maxHeartbeats 4000000 in
theorem nodeMay_any (k : Cf.Kern) (a : KA) (i : Nat) (n : Cf.Node) (w : World) (hR : KRd w a k) (hf : KFit k) (hi : k.nodes[i]? = some n) :
    Calls Tryd.prog 15 #[.agg (kcells a k).toArray, .int .i64 i] w fun e w' => e = .returned (.bool (Cf.contentB k.mods.length n && (Cf.emptyB n || Cf.nameOk k n.name i))) ∧ Below w.heap.size w w' := by
  obtain ⟨A, ca, M, cm, N, cn, S, cs, Q, cq⟩ := a
  have HRd := Lib.hid hR
  have HF := Lib.hid hf
  have HI := Lib.hid hi
  have hil := (List.getElem?_eq_some_iff.1 hi).1
  have hml := hf.nodes
  have hmm := hf.mods
  unfold big at hml hmm
  rcases hR.nodes with h | ⟨b, off, hA, hb, hc⟩
  · rw [h] at hi; simp at hi
  simp only at hA
  subst hA
  obtain ⟨nm, kd, da, un⟩ := n
  have HC := Lib.hid hc
  have r0 : w.cell? ⟨b, off + i * 4, none⟩ = some (.string ⟨nm.toArray⟩) := hc i _ hi 0 _ rfl
  have r1 : w.cell? ⟨b, off + i * 4 + 1, none⟩ = some (.int .i64 kd) := hc i _ hi 1 _ rfl
  have r2 : w.cell? ⟨b, off + i * 4 + 2, none⟩ = some (.string ⟨da.toArray⟩) := hc i _ hi 2 _ rfl
  have r3 : w.cell? ⟨b, off + i * 4 + 3, none⟩ = some (.int .i64 un) := hc i _ hi 3 _ rfl
  have hnl := le_max (hf.node _ (List.mem_of_getElem? hi)).1
  simp only at hnl
  have HW := Lib.hid (fun v lo hi W => in_any v lo hi W)
  obtain ⟨KC, hKC⟩ : ∃ KC, KC = kcells ⟨A, ca, M, cm, some ⟨b, off, none⟩, cn, S, cs, Q, cq⟩ k := ⟨_, rfl⟩
  have HKC := Lib.hid hKC
  have hK0 : KNBox w KC [.string ⟨nm.toArray⟩, .int .i64 kd, .string ⟨da.toArray⟩, .int .i64 un] ((w.alloc (.cells KC.toArray tKern)).alloc (.cells #[.string ⟨nm.toArray⟩, .int .i64 kd, .string ⟨da.toArray⟩, .int .i64 un] 53)) :=
    ⟨(Wb.new w tKern KC).alloc _, by have := Wb.new (w.alloc (.cells KC.toArray tKern)) 53 [.string ⟨nm.toArray⟩, .int .i64 kd, .string ⟨da.toArray⟩, .int .i64 un]; simpa using this, ((Below.refl _ _).alloc (Nat.le_refl _) _).alloc (by simp) _⟩
  have HK0 := Lib.hid hK0
  have HQ := Lib.hid (show ∀ W, Wb W w.heap.size tKern KC → W.cell? ⟨w.heap.size, 2, none⟩ = some (.slice (some ⟨b, off, none⟩) k.nodes.length cn) from fun W hW => by rw [hKC] at hW; exact hW.cell 2)
  have HB0 := Lib.hid hK0.2.2
  rw [hKC] at HB0
  clear hR hf hi hc hK0 hKC
  simp only [kcells] at HB0 ⊢
  by_cases h0 : kd = 0
  · have HZ := Lib.hid (show (Cf.contentB k.mods.length ⟨nm, kd, da, un⟩ && (Cf.emptyB ⟨nm, kd, da, un⟩ || Cf.nameOk k nm i)) = ((decide (nm = []) && decide (da = [])) && decide (un = 0)) by
      unfold Cf.contentB
      rw [if_neg (by show ¬ kd = 1; omega), if_neg (by show ¬ kd = 2; omega)]
      simp [Cf.emptyB, Cf.noNode, h0, Bool.and_assoc])
    rw [HZ.out]
    subst h0
    clear HW HQ HK0 HC
    by_cases hn : nm = []
    · subst hn
      by_cases hd : da = []
      · subst hd
        go_enter Tryd.func15, Tryd.ntmps15
        go_wp2
        go_ret
        exact ⟨retB (by rw [Bool.eq_iff_iff]; simp), HB0.out⟩
      · go_enter Tryd.func15, Tryd.ntmps15
        go_wp2
        go_ret
        exact ⟨retB (by simp), HB0.out⟩
    · go_enter Tryd.func15, Tryd.ntmps15
      go_wp2
      go_ret
      exact ⟨retB (by simp [hn]), HB0.out⟩
  · have HW1 := Lib.hid (fun W => HW.out kd 1 2 W)
    by_cases h1 : kd = 1
    · have HZ := Lib.hid (show (Cf.contentB k.mods.length ⟨nm, kd, da, un⟩ && (Cf.emptyB ⟨nm, kd, da, un⟩ || Cf.nameOk k nm i)) = ((decide (un = 0) && decide (da.length ≤ 100)) && Cf.nameOk k nm i) by
        unfold Cf.contentB
        rw [if_pos h1]
        simp [Cf.emptyB, h0])
      rw [HZ.out]
      have hin : Cf.inB kd 1 2 = true := by simp [Cf.inB, h1]
      rw [hin] at HW1
      subst h1
      clear h0 hin HZ HW
      by_cases hu : un = 0
      · subst hu
        by_cases hd : da.length ≤ 100
        · rw [decide_eq_true rfl, decide_eq_true hd, Bool.true_and, Bool.true_and]
          have HK0' := Lib.hid (show KNBox w KC [.string ⟨nm.toArray⟩, .int .i64 1, .string ⟨da.toArray⟩, .int .i64 0] ((w.alloc (.cells #[.slice A k.mods.length ca, .slice M k.mem.length cm, .slice (some ⟨b, off, none⟩) k.nodes.length cn, .slice S k.pipes.length cs, .slice Q k.procs.length cq] tKern)).alloc (.cells #[.string ⟨nm.toArray⟩, .int .i64 1, .string ⟨da.toArray⟩, .int .i64 0] 53)) by have := HK0.out; rw [HKC.out] at this ⊢; exact this)
          by_cases hn : nm = []
          · have HZ2 := Lib.hid (show Cf.nameOk k nm i = Cf.hasB k.procs 1 i by simp [Cf.nameOk, hn])
            rw [HZ2.out]
            have HH := Lib.hid (fun W (hW : Below w.heap.size w W) => rHas_any k ⟨A, ca, M, cm, some ⟨b, off, none⟩, cn, S, cs, Q, cq⟩ 1 i W (HRd.out.below hW) HF.out)
            simp only [kcells] at HH
            generalize Cf.hasB k.procs 1 i = z at *
            subst hn
            clear HC HK0 HK0' HQ HI HZ2
            go_enter Tryd.func15, Tryd.ntmps15
            go_wp2_with fail
            refine (HW1.out _).mono ?_
            rintro e w' ⟨rfl, rfl⟩
            go_wp2_with fail
            refine (HH.out _ HB0.out).mono ?_
            rintro e w2 ⟨rfl, hb2⟩
            have hbw := HB0.out.trans (hb2.mono HB0.out.size)
            clear hb2 HH HB0
            go_wp2
            go_ret
            exact ⟨rfl, hbw⟩
          · have hs : ¬ nm.isEmpty = true := by simpa using hn
            have HnN := Lib.hid hn
            clear hn
            have HN := Lib.hid (fun W => nameMay_any nm hnl W)
            go_enter Tryd.func15, Tryd.ntmps15
            go_wp2_with fail
            refine (HW1.out _).mono ?_
            rintro e w' ⟨rfl, rfl⟩
            go_wp2
            go_loopw [6] (fun x wr => ∃ j : Nat, j ≤ i ∧ x = .int .i64 j ∧ (∀ q m, q < j → k.nodes[q]? = some m → m.name ≠ nm) ∧ KNBox w KC [.string ⟨nm.toArray⟩, .int .i64 1, .string ⟨da.toArray⟩, .int .i64 0] wr) (fun x _ => i - (intOf x).toNat)
            case atStart => exact ⟨0, by omega, rfl, (fun q m hq => by omega), HK0'.out⟩
            case round =>
              obtain ⟨j, hj, rfl, hall, hK⟩ := hrel
              clear HK0' HK0 r0 r1 r2 r3
              have Hall := Lib.hid hall
              have HK := Lib.hid hK
              have c2 := HQ.out _ hK.1
              have p0 := hK.2.1.cell 0
              simp only [List.getElem?_cons_zero] at p0
              have hl1 := hK.1.lt
              have hl2 := hK.2.1.lt
              clear hall hK
              by_cases hlt : j < i
              · obtain ⟨m, hm⟩ : ∃ m, k.nodes[j]? = some m := ⟨_, List.getElem?_eq_getElem (by omega)⟩
                have s0 : wr.cell? ⟨b, off + j * 4, none⟩ = some (.string ⟨m.name.toArray⟩) := (HK.out.2.2.cell hb).trans (HC.out j _ hm 0 _ rfl)
                by_cases he : m.name = nm
                · have HT := Lib.hid (show Cf.nameOk k nm i = false from Cf.name_twice (n := ⟨nm, 1, da, 0⟩) HnN.out hlt hm he)
                  rw [he] at s0
                  clear hm he
                  go_wp2_with fail
                  go_quiet (fail)
                  go_wp2
                  go_ret
                  exact ⟨retB HT.out.symm, below_drewN HK.out.2.2 _⟩
                · have he' : ¬ (m.name == nm) = true := by simpa using he
                  have HOn := Lib.hid (show ∀ q m, q < j + 1 → k.nodes[q]? = some m → m.name ≠ nm from fun q m' hq hm' => by
                    rcases Nat.lt_succ_iff_lt_or_eq.1 hq with h | h
                    · exact Hall.out q m' h hm'
                    · rw [h, hm] at hm'
                      cases hm'
                      exact he)
                  clear hm he
                  generalize m.name = s2 at *
                  go_wp2_with fail
                  go_quiet (fail)
                  go_wp2
                  go_roundw
                  case rel => exact ⟨j + 1, by omega, by go_num, HOn.out, HK.out.next (below_drewS _ _)⟩
                  case measure => simp [intOf]; omega
              · have HT := Lib.hid (show Cf.nameOk k nm i = Cf.nameB nm from Cf.name_first (n := ⟨nm, 1, da, 0⟩) HI.out HnN.out fun q m hq => Hall.out q m (by omega))
                go_wp2_with fail
                refine (HN.out _).mono ?_
                rintro e w' ⟨rfl, rfl⟩
                go_wp2
                go_ret
                exact ⟨retB HT.out.symm, HK.out.2.2⟩
        · rw [decide_eq_false hd, Bool.and_false, Bool.false_and]
          clear HQ HK0 HC
          go_enter Tryd.func15, Tryd.ntmps15
          go_wp2_with fail
          refine (HW1.out _).mono ?_
          rintro e w' ⟨rfl, rfl⟩
          go_wp2
          go_ret
          exact ⟨rfl, HB0.out⟩
      · rw [decide_eq_false hu, Bool.false_and, Bool.false_and]
        clear HQ HK0 HC
        go_enter Tryd.func15, Tryd.ntmps15
        go_wp2_with fail
        refine (HW1.out _).mono ?_
        rintro e w' ⟨rfl, rfl⟩
        go_wp2
        go_ret
        exact ⟨rfl, HB0.out⟩
    · by_cases h2 : kd = 2
      · have HZ := Lib.hid (show (Cf.contentB k.mods.length ⟨nm, kd, da, un⟩ && (Cf.emptyB ⟨nm, kd, da, un⟩ || Cf.nameOk k nm i)) = ((decide (da = []) && Cf.inB un 0 ((k.mods.length : Int) - 1)) && Cf.nameOk k nm i) by
          unfold Cf.contentB
          rw [if_neg h1, if_pos h2, Cf.within_sub]
          simp [Cf.emptyB, h0])
        rw [HZ.out]
        have hin : Cf.inB kd 1 2 = true := by simp [Cf.inB, h2]
        rw [hin] at HW1
        have HW2 := Lib.hid (fun W => HW.out un 0 ((k.mods.length : Int) - 1) W)
        subst h2
        clear h0 h1 hin HZ HW
        by_cases hd : da = []
        · subst hd
          cases hq : Cf.inB un 0 ((k.mods.length : Int) - 1)
          · rw [hq] at HW2
            rw [Bool.and_false, Bool.false_and]
            clear HQ HK0 HC hq
            go_enter Tryd.func15, Tryd.ntmps15
            go_wp2_with fail
            refine (HW1.out _).mono ?_
            rintro e w' ⟨rfl, rfl⟩
            go_wp2_with fail
            refine (HW2.out _).mono ?_
            rintro e w' ⟨rfl, rfl⟩
            go_wp2
            go_ret
            exact ⟨rfl, HB0.out⟩
          · rw [hq] at HW2
            rw [decide_eq_true rfl, Bool.true_and, Bool.true_and]
            clear hq
            have HK0' := Lib.hid (show KNBox w KC [.string ⟨nm.toArray⟩, .int .i64 2, .string ⟨#[]⟩, .int .i64 un] ((w.alloc (.cells #[.slice A k.mods.length ca, .slice M k.mem.length cm, .slice (some ⟨b, off, none⟩) k.nodes.length cn, .slice S k.pipes.length cs, .slice Q k.procs.length cq] tKern)).alloc (.cells #[.string ⟨nm.toArray⟩, .int .i64 2, .string ⟨#[]⟩, .int .i64 un] 53)) by have := HK0.out; rw [HKC.out] at this ⊢; exact this)
            by_cases hn : nm = []
            · have HZ2 := Lib.hid (show Cf.nameOk k nm i = Cf.hasB k.procs 1 i by simp [Cf.nameOk, hn])
              rw [HZ2.out]
              have HH := Lib.hid (fun W (hW : Below w.heap.size w W) => rHas_any k ⟨A, ca, M, cm, some ⟨b, off, none⟩, cn, S, cs, Q, cq⟩ 1 i W (HRd.out.below hW) HF.out)
              simp only [kcells] at HH
              generalize Cf.hasB k.procs 1 i = z at *
              subst hn
              clear HC HK0 HK0' HQ HI HZ2
              go_enter Tryd.func15, Tryd.ntmps15
              go_wp2_with fail
              refine (HW1.out _).mono ?_
              rintro e w' ⟨rfl, rfl⟩
              go_wp2_with fail
              refine (HW2.out _).mono ?_
              rintro e w' ⟨rfl, rfl⟩
              go_wp2_with fail
              refine (HH.out _ HB0.out).mono ?_
              rintro e w2 ⟨rfl, hb2⟩
              have hbw := HB0.out.trans (hb2.mono HB0.out.size)
              clear hb2 HH HB0
              go_wp2
              go_ret
              exact ⟨rfl, hbw⟩
            · have hs : ¬ nm.isEmpty = true := by simpa using hn
              have HnN := Lib.hid hn
              clear hn
              have HN := Lib.hid (fun W => nameMay_any nm hnl W)
              go_enter Tryd.func15, Tryd.ntmps15
              go_wp2_with fail
              refine (HW1.out _).mono ?_
              rintro e w' ⟨rfl, rfl⟩
              go_wp2_with fail
              refine (HW2.out _).mono ?_
              rintro e w' ⟨rfl, rfl⟩
              go_wp2
              go_loopw [6] (fun x wr => ∃ j : Nat, j ≤ i ∧ x = .int .i64 j ∧ (∀ q m, q < j → k.nodes[q]? = some m → m.name ≠ nm) ∧ KNBox w KC [.string ⟨nm.toArray⟩, .int .i64 2, .string ⟨#[]⟩, .int .i64 un] wr) (fun x _ => i - (intOf x).toNat)
              case atStart => exact ⟨0, by omega, rfl, (fun q m hq => by omega), HK0'.out⟩
              case round =>
                obtain ⟨j, hj, rfl, hall, hK⟩ := hrel
                clear HK0' HK0 r0 r1 r2 r3
                have Hall := Lib.hid hall
                have HK := Lib.hid hK
                have c2 := HQ.out _ hK.1
                have p0 := hK.2.1.cell 0
                simp only [List.getElem?_cons_zero] at p0
                have hl1 := hK.1.lt
                have hl2 := hK.2.1.lt
                clear hall hK
                by_cases hlt : j < i
                · obtain ⟨m, hm⟩ : ∃ m, k.nodes[j]? = some m := ⟨_, List.getElem?_eq_getElem (by omega)⟩
                  have s0 : wr.cell? ⟨b, off + j * 4, none⟩ = some (.string ⟨m.name.toArray⟩) := (HK.out.2.2.cell hb).trans (HC.out j _ hm 0 _ rfl)
                  by_cases he : m.name = nm
                  · have HT := Lib.hid (show Cf.nameOk k nm i = false from Cf.name_twice (n := ⟨nm, 2, [], un⟩) HnN.out hlt hm he)
                    rw [he] at s0
                    clear hm he
                    go_wp2_with fail
                    go_quiet (fail)
                    go_wp2
                    go_ret
                    exact ⟨retB HT.out.symm, below_drewN HK.out.2.2 _⟩
                  · have he' : ¬ (m.name == nm) = true := by simpa using he
                    have HOn := Lib.hid (show ∀ q m, q < j + 1 → k.nodes[q]? = some m → m.name ≠ nm from fun q m' hq hm' => by
                      rcases Nat.lt_succ_iff_lt_or_eq.1 hq with h | h
                      · exact Hall.out q m' h hm'
                      · rw [h, hm] at hm'
                        cases hm'
                        exact he)
                    clear hm he
                    generalize m.name = s2 at *
                    go_wp2_with fail
                    go_quiet (fail)
                    go_wp2
                    go_roundw
                    case rel => exact ⟨j + 1, by omega, by go_num, HOn.out, HK.out.next (below_drewS _ _)⟩
                    case measure => simp [intOf]; omega
                · have HT := Lib.hid (show Cf.nameOk k nm i = Cf.nameB nm from Cf.name_first (n := ⟨nm, 2, [], un⟩) HI.out HnN.out fun q m hq => Hall.out q m (by omega))
                  go_wp2_with fail
                  refine (HN.out _).mono ?_
                  rintro e w' ⟨rfl, rfl⟩
                  go_wp2
                  go_ret
                  exact ⟨retB HT.out.symm, HK.out.2.2⟩
        · have hd' : ¬ da.isEmpty = true := by simpa using hd
          rw [decide_eq_false hd, Bool.false_and, Bool.false_and]
          clear HQ HK0 HC
          go_enter Tryd.func15, Tryd.ntmps15
          go_wp2_with fail
          refine (HW1.out _).mono ?_
          rintro e w' ⟨rfl, rfl⟩
          go_wp2
          go_ret
          exact ⟨rfl, HB0.out⟩
      · have HZ := Lib.hid (show (Cf.contentB k.mods.length ⟨nm, kd, da, un⟩ && (Cf.emptyB ⟨nm, kd, da, un⟩ || Cf.nameOk k nm i)) = false by
          unfold Cf.contentB
          rw [if_neg h1, if_neg h2]
          simp [Cf.noNode, h0])
        rw [HZ.out]
        have hin : Cf.inB kd 1 2 = false := by
          cases hq : Cf.inB kd 1 2
          · rfl
          · have : 1 ≤ kd ∧ kd ≤ 2 := by simpa [Cf.inB] using hq
            omega
        rw [hin] at HW1
        clear hin HZ HW HQ HK0 HC h1 h2
        go_enter Tryd.func15, Tryd.ntmps15
        go_wp2_with fail
        refine (HW1.out _).mono ?_
        rintro e w' ⟨rfl, rfl⟩
        go_wp2
        go_ret
        exact ⟨rfl, HB0.out⟩
end Go.Proofs.YtnnhhbjbdmgpiaaDoor
