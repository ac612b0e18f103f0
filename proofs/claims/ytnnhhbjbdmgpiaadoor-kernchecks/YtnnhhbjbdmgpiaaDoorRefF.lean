/- Walks of chapter 5: the reference's KernelFault. -/
import Derived.Test.YtnnhhbjbdmgpiaaDoorRefN
import Derived.Test.YtnnhhbjbdmgpiaaDoorModR
import Derived.Test.YtnnhhbjbdmgpiaaDoorWordR
namespace Go.Proofs.YtnnhhbjbdmgpiaaDoor
set_option maxRecDepth 100000
open Go.RowKit

theorem step_call2g {P : Program} {ops : Array Oper} {o : Oper} {a : Act} {w : World} {K : Act → World → Prop} {Q : Exit → Act → World → Prop} {E : Prop} {R : Ending → World → Prop}
    (hw : Region.wanted o (yielded ops a.tmps) = true) (f : FuncId) (x y : Operand) (tys : Array TypeId) (ho : o.op = .call { callee := .value (.func f), args := #[x, y], argTypes := tys }) (v u : Value) (hv : a.eval x = v) (hu : a.eval y = u)
    (eg : ∀ args w, (callFunc f args).run P w = .ok (.enter f args) w) (hc : Calls P f #[v, u] w R) (h : ∀ e w', R e w' → ∃ v, e = .returned v ∧ K (a.put o.dst v) w') :
    if Region.wanted o (yielded ops a.tmps) = true then Oper.wp P o a w K Q else E := by
  rw [if_pos hw]
  have hex : (execOp a.eval o).run P w = .ok (.enter f #[v, u]) w := by
    have hfn : a.eval (.func f) = .func (.func f) #[] #[] := rfl
    simp [execOp, ho, resolve, invoke, hv, hu, eg, hfn, Deferred.ofValue]
  unfold Oper.wp
  rw [hex]
  refine hc.mono fun e w' hr => ?_
  obtain ⟨v, rfl, hk⟩ := h e w' hr
  exact hk
theorem retI {a b : Int} (h : a = b) : Ending.returned (.int .i64 a) = Ending.returned (.int .i64 b) := by rw [h]
theorem all_next {f : Nat → Bool} {n : Nat} : (List.range (n + 1)).all f = ((List.range n).all f && f n) := by
  rw [List.range_succ, List.all_append]
  simp
theorem take_next {α : Type} {f : α → Bool} {l : List α} {n : Nat} {x : α} (h : l[n]? = some x) : (l.take (n + 1)).all f = ((l.take n).all f && f x) := by
  rw [List.take_add_one, h, List.all_append]
  simp
theorem take_len {α : Type} {f : α → Bool} {l : List α} {n : Nat} (h : l.length ≤ n) : (l.take n).all f = l.all f := by rw [List.take_of_length_le h]
theorem kbox_drew {w : World} {g : Nat} {cs : List Value} {w' : World} (h : KBox w g cs w') (n : Nat) : KBox w g cs (w'.drewN n) := h.next (below_drewS _ _)
/-- A kernel in its box, and a process in a box behind it. -/
def KPBox (w : World) (cs : List Value) (b : Nat) (ps : List Value) (w' : World) : Prop := Wb w' w.heap.size tKern cs ∧ Wb w' b 45 ps ∧ Below w.heap.size w w' ∧ w.heap.size ≤ b
theorem KPBox.next {w : World} {cs ps : List Value} {b : Nat} {w' w2 : World} (h : KPBox w cs b ps w') (hb : Below w'.heap.size w' w2) : KPBox w cs b ps w2 := ⟨h.1.below hb h.1.lt, h.2.1.below hb h.2.1.lt, h.2.2.1.trans (hb.mono h.2.2.1.size), h.2.2.2⟩
theorem KPBox.make {w : World} {cs : List Value} {w' : World} (h : KBox w w.heap.size cs w') (ps : List Value) : KPBox w cs w'.heap.size ps (w'.alloc (.cells ps.toArray 45)) :=
  ⟨h.1.alloc _, Wb.new w' _ ps, h.2.alloc h.2.size _, h.2.size⟩
theorem KPBox.box {w : World} {cs ps : List Value} {b : Nat} {w' : World} (h : KPBox w cs b ps w') : KBox w w.heap.size cs w' := ⟨h.1, h.2.2.1⟩
set_option maxHeartbeats 8000000 in
theorem kernelFault_any (k : Cf.Kern) (a : KA) (w : World) (hR : KRd w a k) (hf : KFit k) :
    Calls Tryd.prog 5 #[.agg (kcells a k).toArray] w fun e w' => e = .returned (.int .i64 (Cf.kernT k)) ∧ Below w.heap.size w w' := by
  obtain ⟨A, ca, M, cm, N, cn, S, cs, Q, cq⟩ := a
  have hK0 : KBox w w.heap.size (kcells ⟨A, ca, M, cm, N, cn, S, cs, Q, cq⟩ k) (w.alloc (.cells (kcells ⟨A, ca, M, cm, N, cn, S, cs, Q, cq⟩ k).toArray tKern)) := ⟨Wb.new w tKern _, (Below.refl _ _).alloc (Nat.le_refl _) _⟩
  have HT := Lib.hid (show Cf.kernT k = if Cf.sizedB k then (if Cf.modsE k.mods = 0 then (if k.mem.all Cf.wordB then (if Cf.filesB k && (Cf.procsB k && Cf.pipesB k) then 0 else 9) else 2) else Cf.modsE k.mods) else 1 from rfl)
  by_cases hsz : Cf.sizedB k = true
  · obtain ⟨z0, z1, z2, z3, z4⟩ : k.mods.length ≤ 8 ∧ k.mem.length = 1024 ∧ k.nodes.length = 8 ∧ k.pipes.length = 6 ∧ k.procs.length = 4 := by simpa [Cf.sizedB] using hsz
    have HT1 := Lib.hid (show Cf.kernT k = if Cf.modsE k.mods = 0 then (if k.mem.all Cf.wordB then (if Cf.filesB k && (Cf.procsB k && Cf.pipesB k) then 0 else 9) else 2) else Cf.modsE k.mods by rw [HT.out, if_pos hsz])
    have HR := Lib.hid hR
    have HF := Lib.hid hf
    obtain ⟨xs, hxs, hxm⟩ := hR.mods
    have HXM := Lib.hid hxm
    have HXS := Lib.hid hxs
    simp only at hxs
    have Hz2 := Lib.hid z2
    have Hz3 := Lib.hid z3
    have Hz4 := Lib.hid z4
    obtain ⟨KC, hKC⟩ : ∃ KC, KC = kcells ⟨A, ca, M, cm, N, cn, S, cs, Q, cq⟩ k := ⟨_, rfl⟩
    have hKC' : KC = [.slice A k.mods.length ca, .slice M 1024 cm, .slice N 8 cn, .slice S 6 cs, .slice Q 4 cq] := by rw [hKC]; simp only [kcells, z1, z2, z3, z4]
    have HKC := Lib.hid hKC'
    have HKE := Lib.hid hKC
    rw [← hKC, hKC'] at hK0
    have HK0 := Lib.hid hK0
    have HW := Lib.hid (fun W (hW : Below w.heap.size w W) => allWords_any k.mem M cm W (RdS.below hR.mem hW) (le_max hf.mem))
    rw [z1] at HW
    simp only [kcells, z1, z2, z3, z4]
    clear hR hf hxs hxm hK0 hKC hKC' z1 z2 z3 z4 hsz HT
    go_enter Tryd.func5, Tryd.ntmps5
    go_wp2
    go_loopw [3] (fun i wr => ∃ n : Nat, n ≤ k.mods.length ∧ i = .int .i64 n ∧ (∀ j, j < n → Cf.modE k.mods j = 0) ∧ KBox w w.heap.size KC wr) (fun i _ => k.mods.length - (intOf i).toNat)
    case atStart => exact ⟨0, by omega, rfl, (fun j hj => by omega), by have := HK0.out; rw [HKC.out]; exact this⟩
    case round =>
      obtain ⟨n, hn, rfl, hok, hK⟩ := hrel
      clear HK0
      have Hok := Lib.hid hok
      have HK := Lib.hid hK
      have c0 := hK.1.cell 0
      have c1 := hK.1.cell 1
      rw [HKC.out] at c0 c1
      simp only [List.getElem?_cons_zero, List.getElem?_cons_succ] at c0 c1
      have hl := hK.1.lt
      have hsz := hK.2.size
      clear hok hK
      by_cases hlt : n < k.mods.length
      · obtain ⟨nm, code, data, hx2⟩ : ∃ nm code data, k.mods[n]? = some ⟨nm, code, data⟩ := ⟨_, _, _, List.getElem?_eq_getElem hlt⟩
        obtain ⟨nm1, A1, l1, c9, B1, d1, e1, hx⟩ : ∃ nm1 A1 l1 c9 B1 d1 e1, xs[n]? = some ⟨nm1, A1, l1, c9, B1, d1, e1⟩ := ⟨_, _, _, _, _, _, _, List.getElem?_eq_getElem (by rw [HXM.out.1]; exact hlt)⟩
        obtain ⟨h1, h2, h3, hC1, hD1⟩ := HXM.out.2 n _ _ hx hx2
        obtain ⟨hnl, hcl, hdl⟩ := HF.out.each _ (List.mem_of_getElem? hx2)
        simp only at h1 h2 h3 hC1 hD1 hnl hcl hdl
        subst h1 h2 h3
        rcases HXS.out with h | ⟨b, off, rfl, hb, hc⟩
        · rw [h] at hx; simp at hx
        have HC := Lib.hid hc
        have r0 : wr.cell? ⟨b, off + n * 3, none⟩ = _ := (HK.out.2.cell hb).trans (hc n _ hx 0 _ rfl)
        have r1 : wr.cell? ⟨b, off + n * 3 + 1, none⟩ = _ := (HK.out.2.cell hb).trans (hc n _ hx 1 _ rfl)
        have r2 : wr.cell? ⟨b, off + n * 3 + 2, none⟩ = _ := (HK.out.2.cell hb).trans (hc n _ hx 2 _ rfl)
        have HM := Lib.hid (moduleFault_any nm1 code data A1 B1 c9 e1 wr (hC1.below HK.out.2) (hD1.below HK.out.2) (le_max hnl) (le_max hcl) (le_max hdl))
        have HmE := Lib.hid (show Cf.modE k.mods n = if Cf.modT ⟨nm1, code, data⟩ = 0 then (if (k.mods.take n).any (Cf.modIs nm1) then 7 else 0) else Cf.modT ⟨nm1, code, data⟩ by unfold Cf.modE; rw [hx2])
        have HX := Lib.hid hx
        have HX2 := Lib.hid hx2
        clear hx hx2 hC1 hD1 hnl hcl hdl hc
        generalize Cf.modT ⟨nm1, code, data⟩ = z at *
        go_wp2_with fail
        refine HM.out.mono ?_
        rintro e w1 ⟨rfl, hb1⟩
        have HK1 := Lib.hid (HK.out.next hb1)
        clear hb1 HM r0 r1 r2 c0 c1 hl hsz
        by_cases hz0 : z = 0
        · subst hz0
          go_wp2_with fail
          go_loopw [5] (fun i wr => ∃ m : Nat, m ≤ n ∧ i = .int .i64 m ∧ ((k.mods.take n).take m).any (Cf.modIs nm1) = false ∧ KBox w w.heap.size KC wr) (fun i _ => n - (intOf i).toNat)
          case atStart => exact ⟨0, by omega, rfl, rfl, HK1.out⟩
          case round =>
            obtain ⟨m, hm, rfl, hall, hK2⟩ := hrel
            clear HK1
            have Hall := Lib.hid hall
            have HK2 := Lib.hid hK2
            have c0 := hK2.1.cell 0
            rw [HKC.out] at c0
            simp only [List.getElem?_cons_zero] at c0
            have hl := hK2.1.lt
            clear hall hK2
            by_cases hlt2 : m < n
            · obtain ⟨x2, hy⟩ : ∃ x2, xs[m]? = some x2 := ⟨_, List.getElem?_eq_getElem (by rw [HXM.out.1]; omega)⟩
              obtain ⟨y2, hy2⟩ : ∃ y2, k.mods[m]? = some y2 := ⟨_, List.getElem?_eq_getElem (by omega)⟩
              have s0 : wr.cell? ⟨b, off + m * 3, none⟩ = some (.string ⟨x2.name.toArray⟩) := (HK2.out.2.cell hb).trans (HC.out m _ hy 0 _ rfl)
              have s1 : wr.cell? ⟨b, off + n * 3, none⟩ = some (.string ⟨nm1.toArray⟩) := (HK2.out.2.cell hb).trans (HC.out n _ HX.out 0 _ rfl)
              rw [(HXM.out.2 m _ _ hy hy2).1] at s0
              have hyt : (k.mods.take n)[m]? = some y2 := by rw [List.getElem?_take, if_pos hlt2]; exact hy2
              clear hy hy2
              by_cases he : y2.name = nm1
              · have HR7 := Lib.hid (show Cf.kernT k = 7 by
                  have ha := Cf.any_yes (p := Cf.modIs nm1) hyt (by simp [Cf.modIs, he])
                  have h7 : Cf.modE k.mods n = 7 := by rw [HmE.out, ha]; simp
                  have hE : Cf.modsE k.mods = 7 := by unfold Cf.modsE; rw [Cf.first_at Hok.out (by rw [h7]; decide) hlt, h7]
                  rw [HT1.out, hE]; rfl)
                rw [he] at s0
                clear hyt he
                go_wp2_with fail
                go_quiet (fail)
                go_wp2
                go_ret
                exact ⟨retI HR7.out.symm, below_drewN HK2.out.2 _⟩
              · have he' : ¬ (y2.name == nm1) = true := by simpa using he
                have HOn := Lib.hid (Cf.any_on hyt Hall.out (show Cf.modIs nm1 y2 = false by simp [Cf.modIs, he]))
                clear hyt he
                generalize y2.name = s2 at *
                go_wp2_with fail
                go_quiet (fail)
                go_wp2
                go_roundw
                case rel => exact ⟨m + 1, by omega, by go_num, HOn.out, kbox_drew HK2.out _⟩
                case measure => simp [intOf]; omega
            · have HOn := Lib.hid (show ∀ j, j < n + 1 → Cf.modE k.mods j = 0 from fun j hj => by
                rcases Nat.lt_succ_iff_lt_or_eq.1 hj with h | h
                · exact Hok.out j h
                · rw [h, HmE.out, Cf.any_take Hall.out (by simp; omega)]
                  simp)
              go_wp2
              go_roundw
              case rel => exact ⟨n + 1, by omega, by go_num, HOn.out, HK2.out⟩
              case measure => simp [intOf]; omega
        · have HRz := Lib.hid (show Cf.kernT k = z by
            have hE : Cf.modsE k.mods = z := by unfold Cf.modsE; rw [Cf.first_at Hok.out (by rw [HmE.out, if_neg hz0]; exact hz0) hlt, HmE.out, if_neg hz0]
            rw [HT1.out, hE, if_neg hz0])
          go_wp2
          go_ret
          exact ⟨retI HRz.out.symm, HK1.out.2⟩
      · have HM0 := Lib.hid (show Cf.modsE k.mods = 0 from Cf.first_all fun j hj => Hok.out j (by omega))
        have HW2 := Lib.hid (HW.out _ HK.out.2)
        cases hq2 : k.mem.all Cf.wordB
        · have HR2 := Lib.hid (show Cf.kernT k = 2 by rw [HT1.out, HM0.out, hq2]; rfl)
          rw [hq2] at HW2
          clear hq2
          go_wp2_with fail
          refine HW2.out.mono ?_
          rintro e w' ⟨rfl, rfl⟩
          go_wp2
          go_ret
          exact ⟨retI HR2.out.symm, HK.out.2⟩
        · have HT2 := Lib.hid (show Cf.kernT k = if Cf.filesB k && (Cf.procsB k && Cf.pipesB k) then 0 else 9 by rw [HT1.out, HM0.out, hq2]; rfl)
          rw [hq2] at HW2
          clear hq2
          go_wp2_with fail
          refine HW2.out.mono ?_
          rintro e w' ⟨rfl, rfl⟩
          clear c0 c1 hl hsz hlt hn HW HW2
          go_wp2
          go_loopw [6, 7] (fun ok i wr => ∃ n : Nat, n ≤ 8 ∧ i = .int .i64 n ∧ ok = .bool ((List.range n).all (Cf.fileB k)) ∧ KBox w w.heap.size KC wr) (fun _ i _ => 8 - (intOf i).toNat)
          case atStart => exact ⟨0, by omega, rfl, rfl, HK.out⟩
          case round =>
            obtain ⟨n, hn, rfl, rfl, hK⟩ := hrel
            clear HK
            have HK := Lib.hid hK
            have hwc := fun j => hK.1.cell j
            rw [HKC.out] at hwc
            have c0 := hwc 0
            have c1 := hwc 1
            have c2 := hwc 2
            have c3 := hwc 3
            have c4 := hwc 4
            simp only [List.getElem?_cons_zero, List.getElem?_cons_succ] at c0 c1 c2 c3 c4
            have hl := hK.1.lt
            clear hK hwc
            by_cases hlt : n < 8
            · obtain ⟨nd, hx⟩ : ∃ nd, k.nodes[n]? = some nd := ⟨_, List.getElem?_eq_getElem (by rw [Hz2.out]; exact hlt)⟩
              have HV := Lib.hid (nodeMay_any k ⟨A, ca, M, cm, N, cn, S, cs, Q, cq⟩ n nd wr (HR.out.below HK.out.2) HF.out hx)
              have HfE := Lib.hid (show (List.range (n + 1)).all (Cf.fileB k) = ((List.range n).all (Cf.fileB k) && (Cf.contentB k.mods.length nd && (Cf.emptyB nd || Cf.nameOk k nd.name n))) by rw [all_next]; unfold Cf.fileB; rw [hx])
              rw [← HKE.out, HKC.out] at HV
              clear hx
              generalize (Cf.contentB k.mods.length nd && (Cf.emptyB nd || Cf.nameOk k nd.name n)) = q at *
              cases hok : (List.range n).all (Cf.fileB k)
              · rw [hok] at HfE
                clear HV hok
                go_wp2
                go_roundw
                case rel => exact ⟨n + 1, by omega, by go_num, by rw [HfE.out]; rfl, HK.out⟩
                case measure => simp [intOf]; omega
              · rw [hok] at HfE
                clear hok
                go_wp2_with fail
                refine HV.out.mono ?_
                rintro e w2 ⟨rfl, hb2⟩
                have HK2 := Lib.hid (HK.out.next hb2)
                clear HV hb2
                go_wp2
                go_roundw
                case rel => exact ⟨n + 1, by omega, by go_num, by rw [HfE.out]; rfl, HK2.out⟩
                case measure => simp [intOf]; omega
            · obtain rfl : n = 8 := by omega
              obtain ⟨F, hF⟩ : ∃ F, F = Cf.filesB k := ⟨_, rfl⟩
              have hF2 : (List.range 8).all (Cf.fileB k) = F := by rw [hF]; unfold Cf.filesB; rw [Hz2.out]
              rw [← hF] at HT2
              rw [hF2]
              clear hF hF2 hlt hn
              rw [show ((8 : Nat) : Int) = 8 from rfl]
              go_wp2
              clear c0 c1 c2 c3 c4 hl
              go_loopw [6, 8] (fun ok i wr => ∃ n : Nat, n ≤ 4 ∧ i = .int .i64 n ∧ ok = .bool (F && (k.procs.take n).all (Cf.procB k)) ∧ KBox w w.heap.size KC wr) (fun _ i _ => 4 - (intOf i).toNat)
              case atStart => exact ⟨0, by omega, rfl, by simp, HK.out⟩
              case round =>
                obtain ⟨n, hn, rfl, rfl, hK⟩ := hrel
                clear HK
                obtain ⟨wA, hwA⟩ : ∃ wA, wA = wr := ⟨_, rfl⟩
                subst hwA
                have HK := Lib.hid hK
                have hwc := fun j => hK.1.cell j
                rw [HKC.out] at hwc
                have c4 := hwc 4
                simp only [List.getElem?_cons_zero, List.getElem?_cons_succ] at c4
                have hl := hK.1.lt
                have hsz := hK.2.size
                clear hK hwc
                by_cases hlt : n < 4
                · obtain ⟨ps, hps, hpp⟩ := HR.out.procs
                  simp only at hps
                  obtain ⟨lv, A1, le, c9, hx⟩ : ∃ lv A1 le c9, ps[n]? = some ⟨lv, A1, le, c9⟩ := ⟨_, _, _, _, List.getElem?_eq_getElem (by rw [hpp.1, Hz4.out]; exact hlt)⟩
                  obtain ⟨p, hp⟩ : ∃ p, k.procs[n]? = some p := ⟨_, List.getElem?_eq_getElem (by rw [Hz4.out]; exact hlt)⟩
                  obtain ⟨h1, h2, h3⟩ := hpp.2 n _ _ hx hp
                  simp only at h1 h2 h3
                  subst h1 h2
                  have hel := HF.out.proc p (List.mem_of_getElem? hp)
                  unfold big at hel
                  rcases hps with h | ⟨b, off, rfl, hb, hc⟩
                  · rw [h] at hx; simp at hx
                  have r0 : wA.cell? ⟨b, off + n * 2, none⟩ = _ := (HK.out.2.cell hb).trans (hc n _ hx 0 _ rfl)
                  have r1 : wA.cell? ⟨b, off + n * 2 + 1, none⟩ = _ := (HK.out.2.cell hb).trans (hc n _ hx 1 _ rfl)
                  have HEn := Lib.hid h3
                  have HpE := Lib.hid (show (k.procs.take (n + 1)).all (Cf.procB k) = ((k.procs.take n).all (Cf.procB k) && (decide (p.ends.length = 6) && p.ends.all (fun e => Cf.endB k e && (p.live || Cf.freeB e)))) by rw [take_next hp]; rfl)
                  have hK5 := KPBox.make HK.out [.bool p.live, .slice A1 p.ends.length c9]
                  have HK5 := Lib.hid hK5
                  clear hx hp hpp hc h3 hK5
                  have HEg := Lib.hid (fun args w => show (callFunc 16 args).run Tryd.prog w = .ok (.enter 16 args) w by simp [go_sem])
                  cases hG : (F && (k.procs.take n).all (Cf.procB k))
                  · have HFL := Lib.hid (show Value.bool (F && ((k.procs.take n).all (Cf.procB k) && (decide (p.ends.length = 6) && p.ends.all (fun e => Cf.endB k e && (p.live || Cf.freeB e))))) = .bool false by rw [← Bool.and_assoc, hG]; rfl)
                    clear hG
                    go_wp2_with fail
                    clear r0 r1 hl hsz c4
                    go_loopw [6, 10] (fun ok i wr' => ∃ m : Nat, m ≤ p.ends.length ∧ i = .int .i64 m ∧ ok = .bool false ∧ KPBox w KC wA.heap.size [.bool p.live, .slice A1 p.ends.length c9] wr') (fun _ i _ => p.ends.length - (intOf i).toNat)
                    case atStart => exact ⟨0, by omega, rfl, rfl, HK5.out⟩
                    case round =>
                      obtain ⟨m, hm, rfl, rfl, hK7⟩ := hrel
                      clear HK5
                      have HK7 := Lib.hid hK7
                      have q0 := hK7.2.1.cell 0
                      have q1 := hK7.2.1.cell 1
                      simp only [List.getElem?_cons_zero, List.getElem?_cons_succ] at q0 q1
                      have hwc := fun j => hK7.1.cell j
                      rw [HKC.out] at hwc
                      have c0 := hwc 0
                      have c1 := hwc 1
                      have c2 := hwc 2
                      have c3 := hwc 3
                      have c4 := hwc 4
                      simp only [List.getElem?_cons_zero, List.getElem?_cons_succ] at c0 c1 c2 c3 c4
                      have hl := hK7.1.lt
                      have hl2 := hK7.2.1.lt
                      have hsz7 := hK7.2.2.1.size
                      clear hK7 hwc
                      by_cases hlt2 : m < p.ends.length
                      · go_wp2_with fail
                        go_quiet (fail)
                        go_wp2
                        go_roundw
                        case rel => exact ⟨m + 1, by omega, by go_num, rfl, HK7.out.next (below_drewS _ _)⟩
                        case measure => simp [intOf]; omega
                      · go_wp2
                        go_roundw
                        case rel => exact ⟨n + 1, by omega, by go_num, by rw [HpE.out, HFL.out], HK7.out.box⟩
                        case measure => simp [intOf]; omega
                  · by_cases h6 : p.ends.length = 6
                    · have HTL := Lib.hid (show Value.bool (F && ((k.procs.take n).all (Cf.procB k) && (decide (p.ends.length = 6) && p.ends.all (fun e => Cf.endB k e && (p.live || Cf.freeB e))))) = .bool (p.ends.all (fun e => Cf.endB k e && (p.live || Cf.freeB e))) by rw [← Bool.and_assoc, hG, decide_eq_true h6]; rfl)
                      have h6' : ((p.ends.length : Int) == 6) = true := by simp [h6]
                      clear hG h6
                      go_wp2_with fail
                      clear r0 r1 hl hsz c4
                      go_loopw [6, 10] (fun ok i wr' => ∃ m : Nat, m ≤ p.ends.length ∧ i = .int .i64 m ∧ ok = .bool ((p.ends.take m).all (fun e => Cf.endB k e && (p.live || Cf.freeB e))) ∧ KPBox w KC wA.heap.size [.bool p.live, .slice A1 p.ends.length c9] wr') (fun _ i _ => p.ends.length - (intOf i).toNat)
                      case atStart => exact ⟨0, by omega, rfl, rfl, HK5.out⟩
                      case round =>
                        obtain ⟨m, hm, rfl, rfl, hK7⟩ := hrel
                        clear HK5
                        have HK7 := Lib.hid hK7
                        have q0 := hK7.2.1.cell 0
                        have q1 := hK7.2.1.cell 1
                        simp only [List.getElem?_cons_zero, List.getElem?_cons_succ] at q0 q1
                        have hwc := fun j => hK7.1.cell j
                        rw [HKC.out] at hwc
                        have c0 := hwc 0
                        have c1 := hwc 1
                        have c2 := hwc 2
                        have c3 := hwc 3
                        have c4 := hwc 4
                        simp only [List.getElem?_cons_zero, List.getElem?_cons_succ] at c0 c1 c2 c3 c4
                        have hl := hK7.1.lt
                        have hl2 := hK7.2.1.lt
                        have hsz7 := hK7.2.2.1.size
                        clear hK7 hwc
                        by_cases hlt2 : m < p.ends.length
                        · obtain ⟨kd, nd, po, hy⟩ : ∃ kd nd po, p.ends[m]? = some ⟨kd, nd, po⟩ := ⟨_, _, _, List.getElem?_eq_getElem hlt2⟩
                          have HaE := Lib.hid (show (p.ends.take (m + 1)).all (fun e => Cf.endB k e && (p.live || Cf.freeB e)) = ((p.ends.take m).all (fun e => Cf.endB k e && (p.live || Cf.freeB e)) && (Cf.endB k ⟨kd, nd, po⟩ && (p.live || decide (kd = 0)))) by rw [take_next hy]; rfl)
                          cases hok : (p.ends.take m).all (fun e => Cf.endB k e && (p.live || Cf.freeB e))
                          · rw [hok] at HaE
                            clear hok hy
                            go_wp2_with fail
                            go_quiet (fail)
                            go_wp2
                            go_roundw
                            case rel => exact ⟨m + 1, by omega, by go_num, by rw [HaE.out]; rfl, HK7.out.next (below_drewS _ _)⟩
                            case measure => simp [intOf]; omega
                          · rw [hok] at HaE
                            clear hok
                            rcases HEn.out with h | ⟨b2, o2, hA2, hb2, hc2⟩
                            · rw [h] at hy; simp at hy
                            subst hA2
                            have hall : ∀ W, KPBox w KC wA.heap.size [.bool p.live, .slice (some ⟨b2, o2, none⟩) p.ends.length c9] W → KPBox w KC wA.heap.size [.bool p.live, .slice (some ⟨b2, o2, none⟩) p.ends.length c9] W ∧ W.cell? ⟨w.heap.size, 0, none⟩ = some (.slice A k.mods.length ca) ∧ W.cell? ⟨w.heap.size, 1, none⟩ = some (.slice M 1024 cm) ∧ W.cell? ⟨w.heap.size, 2, none⟩ = some (.slice N 8 cn) ∧ W.cell? ⟨w.heap.size, 3, none⟩ = some (.slice S 6 cs) ∧ W.cell? ⟨w.heap.size, 4, none⟩ = some (.slice (some ⟨b, off, none⟩) 4 cq) ∧ W.cell? ⟨wA.heap.size, 0, none⟩ = some (.bool p.live) ∧ W.cell? ⟨wA.heap.size, 1, none⟩ = some (.slice (some ⟨b2, o2, none⟩) p.ends.length c9) ∧ W.cell? ⟨b2, o2 + m * 3, none⟩ = some (.int .i64 kd) ∧ W.cell? ⟨b2, o2 + m * 3 + 1, none⟩ = some (.int .i64 nd) ∧ W.cell? ⟨b2, o2 + m * 3 + 2, none⟩ = some (.int .i64 po) ∧ w.heap.size < W.heap.size ∧ wA.heap.size < W.heap.size := by
                              intro W hW
                              have hwc := fun j => hW.1.cell j
                              rw [HKC.out] at hwc
                              exact ⟨hW, hwc 0, hwc 1, hwc 2, hwc 3, hwc 4, hW.2.1.cell 0, hW.2.1.cell 1, (hW.2.2.1.cell hb2).trans (hc2 m _ hy 0 _ rfl), (hW.2.2.1.cell hb2).trans (hc2 m _ hy 1 _ rfl), (hW.2.2.1.cell hb2).trans (hc2 m _ hy 2 _ rfl), hW.1.lt, hW.2.1.lt⟩
                            have HV := Lib.hid (fun W (hW : Below w.heap.size w W) => endMay_any k ⟨A, ca, M, cm, N, cn, S, cs, some ⟨b, off, none⟩, cq⟩ ⟨kd, nd, po⟩ W (HR.out.below hW) Hz2.out Hz3.out)
                            rw [← HKE.out, HKC.out] at HV
                            simp only [encEn] at HV
                            clear hy hc2
                            generalize Cf.endB k ⟨kd, nd, po⟩ = r at *
                            generalize hlv : p.live = lv at *
                            have Hlv := Lib.hid hlv
                            clear hlv
                            have Hcases : lv = true ∨ lv = false := by cases lv <;> simp
                            by_cases hk0 : kd = 0
                            · subst hk0
                              obtain ⟨Sx, hSx⟩ : ∃ Sx : World → Prop, Sx = fun W => KPBox w KC wA.heap.size [.bool lv, .slice (some ⟨b2, o2, none⟩) p.ends.length c9] W := ⟨_, rfl⟩
                              have HSx := Lib.hid (show ∀ W, KPBox w KC wA.heap.size [.bool lv, .slice (some ⟨b2, o2, none⟩) p.ends.length c9] W → Sx W from fun W h => by rw [hSx]; exact h)
                              have HSk := Lib.hid (show ∀ W, Sx W → KPBox w KC wA.heap.size [.bool lv, .slice (some ⟨b2, o2, none⟩) p.ends.length c9] W from fun W h => by rw [hSx] at h; exact h)
                              have HSb := Lib.hid (show ∀ W, Sx W → Below w.heap.size w W from fun W h => by rw [hSx] at h; exact h.2.2.1)
                              have HSo := Lib.hid (fun W (h : Sx W) => hall W (by rw [hSx] at h; exact h))
                              clear hSx hall
                              go_wp2_with fail
                              clear c0 c1 c2 c3 c4 q0 q1 hl hl2
                              cases r
                              · skip
                                refine wp_region_noPanic ?_
                                refine wp_region_held_drew (S := Sx) (by kernel_rfl) (by exact HSx.out _ (HK7.out.next (Below.refl _ _).drew)) (fun hHeld => ?_)
                                refine wpAnyH_take (i := 0) (oi := { dst := some 111, op := Op.move (Operand.tmp 6), type := 4, pos := "kern.go:90", after := #[], guard := none }) (v := .bool true) rfl (by kernel_rfl) (by kernel_rfl) (by kernel_rfl) (fun _ _ _ h => h) (Or.inl ⟨by kernel_rfl, fun w hSw => by (obtain ⟨_, g0, g1, g2, g3, g4, g5, g6, g7, g8, g9, g10, g11⟩ := HSo.out _ hSw; go_simp)⟩) hHeld ?_
                                (try simp only [Act.put, List.setIfInBounds_toArray, List.set_cons_zero, List.set_cons_succ])
                                refine wpAnyH_take (i := 1) (oi := { dst := some 112, op := Op.move (Operand.tmp 111), type := 4, pos := "kern.go:90", after := #[{ on := 0, ground := Ground.data }], guard := none }) (v := .bool true) rfl (by kernel_rfl) (by kernel_rfl) (by kernel_rfl) (fun _ _ _ h => h) (Or.inl ⟨by kernel_rfl, fun w hSw => by (obtain ⟨_, g0, g1, g2, g3, g4, g5, g6, g7, g8, g9, g10, g11⟩ := HSo.out _ hSw; go_simp)⟩) hHeld ?_
                                (try simp only [Act.put, List.setIfInBounds_toArray, List.set_cons_zero, List.set_cons_succ])
                                refine wpAnyH_take (i := 2) (oi := { dst := some 113, op := Op.load 28 (Operand.tmp 1), type := 28, pos := "kern.go:90", after := #[{ on := 1, ground := Ground.guard }], guard := some (1, true) }) (v := .agg #[.slice A k.mods.length ca, .slice M 1024 cm, .slice N 8 cn, .slice S 6 cs, .slice (some ⟨b, off, none⟩) 4 cq]) rfl (by kernel_rfl) (by kernel_rfl) (by kernel_rfl) (fun _ _ _ h => h) (Or.inl ⟨by kernel_rfl, fun w hSw => by (obtain ⟨_, g0, g1, g2, g3, g4, g5, g6, g7, g8, g9, g10, g11⟩ := HSo.out _ hSw; go_simp)⟩) hHeld ?_
                                (try simp only [Act.put, List.setIfInBounds_toArray, List.set_cons_zero, List.set_cons_succ])
                                refine wpAnyH_take (i := 3) (oi := { dst := some 114, op := Op.fieldAddr 45 (Operand.tmp 9) 1, type := 0, pos := "kern.go:90", after := #[{ on := 1, ground := Ground.guard }], guard := some (1, true) }) (v := .pointer (some ⟨wA.heap.size, 1, none⟩)) rfl (by kernel_rfl) (by kernel_rfl) (by kernel_rfl) (fun _ _ _ h => h) (Or.inl ⟨by kernel_rfl, fun w hSw => by (obtain ⟨_, g0, g1, g2, g3, g4, g5, g6, g7, g8, g9, g10, g11⟩ := HSo.out _ hSw; go_simp)⟩) hHeld ?_
                                (try simp only [Act.put, List.setIfInBounds_toArray, List.set_cons_zero, List.set_cons_succ])
                                refine wpAnyH_take (i := 4) (oi := { dst := some 115, op := Op.load 43 (Operand.tmp 114), type := 43, pos := "kern.go:90", after := #[{ on := 3, ground := Ground.data }, { on := 1, ground := Ground.guard }], guard := some (1, true) }) (v := .slice (some ⟨b2, o2, none⟩) p.ends.length c9) rfl (by kernel_rfl) (by kernel_rfl) (by kernel_rfl) (fun _ _ _ h => h) (Or.inl ⟨by kernel_rfl, fun w hSw => by (obtain ⟨_, g0, g1, g2, g3, g4, g5, g6, g7, g8, g9, g10, g11⟩ := HSo.out _ hSw; go_simp)⟩) hHeld ?_
                                (try simp only [Act.put, List.setIfInBounds_toArray, List.set_cons_zero, List.set_cons_succ])
                                refine wpAnyH_take (i := 5) (oi := { dst := some 116, op := Op.move (Operand.tmp 10), type := 3, pos := "kern.go:90", after := #[{ on := 1, ground := Ground.guard }], guard := some (1, true) }) (v := .int .i64 m) rfl (by kernel_rfl) (by kernel_rfl) (by kernel_rfl) (fun _ _ _ h => h) (Or.inl ⟨by kernel_rfl, fun w hSw => by (obtain ⟨_, g0, g1, g2, g3, g4, g5, g6, g7, g8, g9, g10, g11⟩ := HSo.out _ hSw; go_simp)⟩) hHeld ?_
                                (try simp only [Act.put, List.setIfInBounds_toArray, List.set_cons_zero, List.set_cons_succ])
                                refine wpAnyH_take (i := 6) (oi := { dst := some 117, op := Op.indexAddr 43 (Operand.tmp 115) (Operand.tmp 116), type := 0, pos := "kern.go:90", after := #[{ on := 4, ground := Ground.data }, { on := 5, ground := Ground.data }, { on := 1, ground := Ground.guard }], guard := some (1, true) }) (v := .pointer (some ⟨b2, o2 + m * 3, none⟩)) rfl (by kernel_rfl) (by kernel_rfl) (by kernel_rfl) (fun _ _ _ h => h) (Or.inl ⟨by kernel_rfl, fun w hSw => by (obtain ⟨_, g0, g1, g2, g3, g4, g5, g6, g7, g8, g9, g10, g11⟩ := HSo.out _ hSw; go_simp)⟩) hHeld ?_
                                (try simp only [Act.put, List.setIfInBounds_toArray, List.set_cons_zero, List.set_cons_succ])
                                refine wpAnyH_take (i := 7) (oi := { dst := some 118, op := Op.load 48 (Operand.tmp 117), type := 48, pos := "kern.go:90", after := #[{ on := 6, ground := Ground.data }, { on := 1, ground := Ground.guard }], guard := some (1, true) }) (v := .agg #[.int .i64 0, .int .i64 nd, .int .i64 po]) rfl (by kernel_rfl) (by kernel_rfl) (by kernel_rfl) (fun _ _ _ h => h) (Or.inl ⟨by kernel_rfl, fun w hSw => by (obtain ⟨_, g0, g1, g2, g3, g4, g5, g6, g7, g8, g9, g10, g11⟩ := HSo.out _ hSw; go_simp)⟩) hHeld ?_
                                (try simp only [Act.put, List.setIfInBounds_toArray, List.set_cons_zero, List.set_cons_succ])
                                refine wpAnyH_ready (rs := [8]) (by kernel_rfl) (by simp) ?_
                                refine AllReadyH.cons (o := { dst := some 119, op := Op.call { callee := Callee.value (Operand.func 16), args := #[Operand.tmp 113, Operand.tmp 118], argTypes := #[28, 48] }, type := 4, pos := "kern.go:90", after := #[{ on := 2, ground := Ground.data }, { on := 7, ground := Ground.data }, { on := 1, ground := Ground.chain }, { on := 1, ground := Ground.guard }], guard := some (1, true) }) rfl (fun K hK => ?_) AllReadyH.nil
                                go_simp
                                go_at_call 16; refine (HV.out _ (HSb.out _ hHeld)).mono ?_; rintro e w' ⟨rfl, hb'⟩
                                go_wp2_with fail
                                refine hK.out _ _ (HSx.out _ ((HSk.out _ hHeld).next hb')) (fun hHeld => ?_)
                                clear hK K hb'
                                (try simp only [Act.put, List.setIfInBounds_toArray, List.set_cons_zero, List.set_cons_succ])
                                refine wpAnyH_take (i := 9) (oi := { dst := some 120, op := Op.pick (Operand.tmp 112) (Operand.tmp 119) (Operand.const (Value.bool false)), type := 4, pos := "kern.go:90", after := #[{ on := 1, ground := Ground.data }, { on := 8, ground := Ground.data }], guard := none }) (v := .bool false) rfl (by kernel_rfl) (by kernel_rfl) (by kernel_rfl) (fun _ _ _ h => h) (Or.inl ⟨by kernel_rfl, fun w hSw => by (obtain ⟨_, g0, g1, g2, g3, g4, g5, g6, g7, g8, g9, g10, g11⟩ := HSo.out _ hSw; go_simp)⟩) hHeld ?_
                                (try simp only [Act.put, List.setIfInBounds_toArray, List.set_cons_zero, List.set_cons_succ])
                                refine wpAnyH_take (i := 10) (oi := { dst := some 121, op := Op.move (Operand.tmp 120), type := 4, pos := "kern.go:90", after := #[{ on := 9, ground := Ground.data }, { on := 8, ground := Ground.chain }], guard := none }) (v := .bool false) rfl (by kernel_rfl) (by kernel_rfl) (by kernel_rfl) (fun _ _ _ h => h) (Or.inl ⟨by kernel_rfl, fun w hSw => by (obtain ⟨_, g0, g1, g2, g3, g4, g5, g6, g7, g8, g9, g10, g11⟩ := HSo.out _ hSw; go_simp)⟩) hHeld ?_
                                (try simp only [Act.put, List.setIfInBounds_toArray, List.set_cons_zero, List.set_cons_succ])
                                refine wpAnyH_take (i := 11) (oi := { dst := some 122, op := Op.fieldAddr 45 (Operand.tmp 9) 0, type := 0, pos := "kern.go:90", after := #[{ on := 10, ground := Ground.guard }], guard := some (10, true) }) (v := undef) rfl (by kernel_rfl) (by kernel_rfl) (by kernel_rfl) (fun _ _ _ h => h) (Or.inr ⟨by kernel_rfl, rfl⟩) hHeld ?_
                                (try simp only [Act.put, List.setIfInBounds_toArray, List.set_cons_zero, List.set_cons_succ])
                                refine wpAnyH_take (i := 12) (oi := { dst := some 123, op := Op.load 4 (Operand.tmp 122), type := 4, pos := "kern.go:90", after := #[{ on := 11, ground := Ground.data }, { on := 10, ground := Ground.guard }], guard := some (10, true) }) (v := undef) rfl (by kernel_rfl) (by kernel_rfl) (by kernel_rfl) (fun _ _ _ h => h) (Or.inr ⟨by kernel_rfl, rfl⟩) hHeld ?_
                                (try simp only [Act.put, List.setIfInBounds_toArray, List.set_cons_zero, List.set_cons_succ])
                                refine wpAnyH_take (i := 13) (oi := { dst := some 124, op := Op.move (Operand.tmp 123), type := 4, pos := "kern.go:90", after := #[{ on := 12, ground := Ground.data }, { on := 10, ground := Ground.chain }, { on := 10, ground := Ground.guard }], guard := some (10, true) }) (v := undef) rfl (by kernel_rfl) (by kernel_rfl) (by kernel_rfl) (fun _ _ _ h => h) (Or.inr ⟨by kernel_rfl, rfl⟩) hHeld ?_
                                (try simp only [Act.put, List.setIfInBounds_toArray, List.set_cons_zero, List.set_cons_succ])
                                refine wpAnyH_take (i := 14) (oi := { dst := some 125, op := Op.fieldAddr 45 (Operand.tmp 9) 1, type := 0, pos := "kern.go:90", after := #[{ on := 13, ground := Ground.guard }], guard := some (13, false) }) (v := undef) rfl (by kernel_rfl) (by kernel_rfl) (by kernel_rfl) (fun _ _ _ h => h) (Or.inr ⟨by kernel_rfl, rfl⟩) hHeld ?_
                                (try simp only [Act.put, List.setIfInBounds_toArray, List.set_cons_zero, List.set_cons_succ])
                                refine wpAnyH_take (i := 15) (oi := { dst := some 126, op := Op.load 43 (Operand.tmp 125), type := 43, pos := "kern.go:90", after := #[{ on := 14, ground := Ground.data }, { on := 13, ground := Ground.guard }], guard := some (13, false) }) (v := undef) rfl (by kernel_rfl) (by kernel_rfl) (by kernel_rfl) (fun _ _ _ h => h) (Or.inr ⟨by kernel_rfl, rfl⟩) hHeld ?_
                                (try simp only [Act.put, List.setIfInBounds_toArray, List.set_cons_zero, List.set_cons_succ])
                                refine wpAnyH_take (i := 16) (oi := { dst := some 127, op := Op.move (Operand.tmp 10), type := 3, pos := "kern.go:90", after := #[{ on := 13, ground := Ground.guard }], guard := some (13, false) }) (v := undef) rfl (by kernel_rfl) (by kernel_rfl) (by kernel_rfl) (fun _ _ _ h => h) (Or.inr ⟨by kernel_rfl, rfl⟩) hHeld ?_
                                (try simp only [Act.put, List.setIfInBounds_toArray, List.set_cons_zero, List.set_cons_succ])
                                refine wpAnyH_take (i := 17) (oi := { dst := some 128, op := Op.indexAddr 43 (Operand.tmp 126) (Operand.tmp 127), type := 0, pos := "kern.go:90", after := #[{ on := 15, ground := Ground.data }, { on := 16, ground := Ground.data }, { on := 13, ground := Ground.guard }], guard := some (13, false) }) (v := undef) rfl (by kernel_rfl) (by kernel_rfl) (by kernel_rfl) (fun _ _ _ h => h) (Or.inr ⟨by kernel_rfl, rfl⟩) hHeld ?_
                                (try simp only [Act.put, List.setIfInBounds_toArray, List.set_cons_zero, List.set_cons_succ])
                                refine wpAnyH_take (i := 18) (oi := { dst := some 129, op := Op.fieldAddr 48 (Operand.tmp 128) 0, type := 0, pos := "kern.go:90", after := #[{ on := 17, ground := Ground.data }, { on := 13, ground := Ground.guard }], guard := some (13, false) }) (v := undef) rfl (by kernel_rfl) (by kernel_rfl) (by kernel_rfl) (fun _ _ _ h => h) (Or.inr ⟨by kernel_rfl, rfl⟩) hHeld ?_
                                (try simp only [Act.put, List.setIfInBounds_toArray, List.set_cons_zero, List.set_cons_succ])
                                refine wpAnyH_take (i := 19) (oi := { dst := some 130, op := Op.load 3 (Operand.tmp 129), type := 3, pos := "kern.go:90", after := #[{ on := 18, ground := Ground.data }, { on := 13, ground := Ground.guard }], guard := some (13, false) }) (v := undef) rfl (by kernel_rfl) (by kernel_rfl) (by kernel_rfl) (fun _ _ _ h => h) (Or.inr ⟨by kernel_rfl, rfl⟩) hHeld ?_
                                (try simp only [Act.put, List.setIfInBounds_toArray, List.set_cons_zero, List.set_cons_succ])
                                refine wpAnyH_take (i := 20) (oi := { dst := some 131, op := Op.binOp BinOp.eql 3 (Operand.tmp 130) (Operand.const (Value.int IntKind.i64 0)) 3, type := 4, pos := "kern.go:90", after := #[{ on := 19, ground := Ground.data }, { on := 13, ground := Ground.guard }], guard := some (13, false) }) (v := undef) rfl (by kernel_rfl) (by kernel_rfl) (by kernel_rfl) (fun _ _ _ h => h) (Or.inr ⟨by kernel_rfl, rfl⟩) hHeld ?_
                                (try simp only [Act.put, List.setIfInBounds_toArray, List.set_cons_zero, List.set_cons_succ])
                                refine wpAnyH_take (i := 21) (oi := { dst := some 132, op := Op.pick (Operand.tmp 124) (Operand.const (Value.bool true)) (Operand.tmp 131), type := 4, pos := "kern.go:90", after := #[{ on := 13, ground := Ground.data }, { on := 20, ground := Ground.data }, { on := 10, ground := Ground.guard }], guard := some (10, true) }) (v := undef) rfl (by kernel_rfl) (by kernel_rfl) (by kernel_rfl) (fun _ _ _ h => h) (Or.inr ⟨by kernel_rfl, rfl⟩) hHeld ?_
                                (try simp only [Act.put, List.setIfInBounds_toArray, List.set_cons_zero, List.set_cons_succ])
                                refine wpAnyH_take (i := 22) (oi := { dst := some 133, op := Op.pick (Operand.tmp 121) (Operand.tmp 132) (Operand.const (Value.bool false)), type := 4, pos := "kern.go:90", after := #[{ on := 10, ground := Ground.data }, { on := 21, ground := Ground.data }], guard := none }) (v := .bool false) rfl (by kernel_rfl) (by kernel_rfl) (by kernel_rfl) (fun _ _ _ h => h) (Or.inl ⟨by kernel_rfl, fun w hSw => by (obtain ⟨_, g0, g1, g2, g3, g4, g5, g6, g7, g8, g9, g10, g11⟩ := HSo.out _ hSw; go_simp)⟩) hHeld ?_
                                (try simp only [Act.put, List.setIfInBounds_toArray, List.set_cons_zero, List.set_cons_succ])
                                refine wpAnyH_take (i := 23) (oi := { dst := some 6, op := Op.assign (Operand.tmp 133), type := 4, pos := "kern.go:90", after := #[{ on := 22, ground := Ground.data }, { on := 13, ground := Ground.chain }, { on := 0, ground := Ground.phase }, { on := 1, ground := Ground.phase }, { on := 2, ground := Ground.phase }, { on := 3, ground := Ground.phase }, { on := 4, ground := Ground.phase }, { on := 5, ground := Ground.phase }, { on := 6, ground := Ground.phase }, { on := 7, ground := Ground.phase }, { on := 8, ground := Ground.phase }, { on := 9, ground := Ground.phase }, { on := 10, ground := Ground.phase }, { on := 11, ground := Ground.phase }, { on := 12, ground := Ground.phase }, { on := 13, ground := Ground.phase }, { on := 14, ground := Ground.phase }, { on := 15, ground := Ground.phase }, { on := 16, ground := Ground.phase }, { on := 17, ground := Ground.phase }, { on := 18, ground := Ground.phase }, { on := 19, ground := Ground.phase }, { on := 20, ground := Ground.phase }, { on := 21, ground := Ground.phase }, { on := 22, ground := Ground.phase }], guard := none }) (v := .bool false) rfl (by kernel_rfl) (by kernel_rfl) (by kernel_rfl) (fun _ _ _ h => h) (Or.inl ⟨by kernel_rfl, fun w hSw => by (obtain ⟨_, g0, g1, g2, g3, g4, g5, g6, g7, g8, g9, g10, g11⟩ := HSo.out _ hSw; go_simp)⟩) hHeld ?_
                                (try simp only [Act.put, List.setIfInBounds_toArray, List.set_cons_zero, List.set_cons_succ])
                                refine wpAnyH_done (by kernel_rfl) ?_ _
                                refine NoPanic.normal ?_
                                have HK8 := Lib.hid (HSk.out _ hHeld)
                                clear hHeld
                                go_wp2
                                go_roundw
                                case rel => exact ⟨m + 1, by omega, by go_num, by rw [HaE.out]; rfl, HK8.out⟩
                                case measure => simp [intOf]; omega
                              · rcases Hcases with rfl | rfl
                                · skip
                                  refine wp_region_noPanic ?_
                                  refine wp_region_held_drew (S := Sx) (by kernel_rfl) (by exact HSx.out _ (HK7.out.next (Below.refl _ _).drew)) (fun hHeld => ?_)
                                  refine wpAnyH_take (i := 0) (oi := { dst := some 111, op := Op.move (Operand.tmp 6), type := 4, pos := "kern.go:90", after := #[], guard := none }) (v := .bool true) rfl (by kernel_rfl) (by kernel_rfl) (by kernel_rfl) (fun _ _ _ h => h) (Or.inl ⟨by kernel_rfl, fun w hSw => by (obtain ⟨_, g0, g1, g2, g3, g4, g5, g6, g7, g8, g9, g10, g11⟩ := HSo.out _ hSw; go_simp)⟩) hHeld ?_
                                  (try simp only [Act.put, List.setIfInBounds_toArray, List.set_cons_zero, List.set_cons_succ])
                                  refine wpAnyH_take (i := 1) (oi := { dst := some 112, op := Op.move (Operand.tmp 111), type := 4, pos := "kern.go:90", after := #[{ on := 0, ground := Ground.data }], guard := none }) (v := .bool true) rfl (by kernel_rfl) (by kernel_rfl) (by kernel_rfl) (fun _ _ _ h => h) (Or.inl ⟨by kernel_rfl, fun w hSw => by (obtain ⟨_, g0, g1, g2, g3, g4, g5, g6, g7, g8, g9, g10, g11⟩ := HSo.out _ hSw; go_simp)⟩) hHeld ?_
                                  (try simp only [Act.put, List.setIfInBounds_toArray, List.set_cons_zero, List.set_cons_succ])
                                  refine wpAnyH_take (i := 2) (oi := { dst := some 113, op := Op.load 28 (Operand.tmp 1), type := 28, pos := "kern.go:90", after := #[{ on := 1, ground := Ground.guard }], guard := some (1, true) }) (v := .agg #[.slice A k.mods.length ca, .slice M 1024 cm, .slice N 8 cn, .slice S 6 cs, .slice (some ⟨b, off, none⟩) 4 cq]) rfl (by kernel_rfl) (by kernel_rfl) (by kernel_rfl) (fun _ _ _ h => h) (Or.inl ⟨by kernel_rfl, fun w hSw => by (obtain ⟨_, g0, g1, g2, g3, g4, g5, g6, g7, g8, g9, g10, g11⟩ := HSo.out _ hSw; go_simp)⟩) hHeld ?_
                                  (try simp only [Act.put, List.setIfInBounds_toArray, List.set_cons_zero, List.set_cons_succ])
                                  refine wpAnyH_take (i := 3) (oi := { dst := some 114, op := Op.fieldAddr 45 (Operand.tmp 9) 1, type := 0, pos := "kern.go:90", after := #[{ on := 1, ground := Ground.guard }], guard := some (1, true) }) (v := .pointer (some ⟨wA.heap.size, 1, none⟩)) rfl (by kernel_rfl) (by kernel_rfl) (by kernel_rfl) (fun _ _ _ h => h) (Or.inl ⟨by kernel_rfl, fun w hSw => by (obtain ⟨_, g0, g1, g2, g3, g4, g5, g6, g7, g8, g9, g10, g11⟩ := HSo.out _ hSw; go_simp)⟩) hHeld ?_
                                  (try simp only [Act.put, List.setIfInBounds_toArray, List.set_cons_zero, List.set_cons_succ])
                                  refine wpAnyH_take (i := 4) (oi := { dst := some 115, op := Op.load 43 (Operand.tmp 114), type := 43, pos := "kern.go:90", after := #[{ on := 3, ground := Ground.data }, { on := 1, ground := Ground.guard }], guard := some (1, true) }) (v := .slice (some ⟨b2, o2, none⟩) p.ends.length c9) rfl (by kernel_rfl) (by kernel_rfl) (by kernel_rfl) (fun _ _ _ h => h) (Or.inl ⟨by kernel_rfl, fun w hSw => by (obtain ⟨_, g0, g1, g2, g3, g4, g5, g6, g7, g8, g9, g10, g11⟩ := HSo.out _ hSw; go_simp)⟩) hHeld ?_
                                  (try simp only [Act.put, List.setIfInBounds_toArray, List.set_cons_zero, List.set_cons_succ])
                                  refine wpAnyH_take (i := 5) (oi := { dst := some 116, op := Op.move (Operand.tmp 10), type := 3, pos := "kern.go:90", after := #[{ on := 1, ground := Ground.guard }], guard := some (1, true) }) (v := .int .i64 m) rfl (by kernel_rfl) (by kernel_rfl) (by kernel_rfl) (fun _ _ _ h => h) (Or.inl ⟨by kernel_rfl, fun w hSw => by (obtain ⟨_, g0, g1, g2, g3, g4, g5, g6, g7, g8, g9, g10, g11⟩ := HSo.out _ hSw; go_simp)⟩) hHeld ?_
                                  (try simp only [Act.put, List.setIfInBounds_toArray, List.set_cons_zero, List.set_cons_succ])
                                  refine wpAnyH_take (i := 6) (oi := { dst := some 117, op := Op.indexAddr 43 (Operand.tmp 115) (Operand.tmp 116), type := 0, pos := "kern.go:90", after := #[{ on := 4, ground := Ground.data }, { on := 5, ground := Ground.data }, { on := 1, ground := Ground.guard }], guard := some (1, true) }) (v := .pointer (some ⟨b2, o2 + m * 3, none⟩)) rfl (by kernel_rfl) (by kernel_rfl) (by kernel_rfl) (fun _ _ _ h => h) (Or.inl ⟨by kernel_rfl, fun w hSw => by (obtain ⟨_, g0, g1, g2, g3, g4, g5, g6, g7, g8, g9, g10, g11⟩ := HSo.out _ hSw; go_simp)⟩) hHeld ?_
                                  (try simp only [Act.put, List.setIfInBounds_toArray, List.set_cons_zero, List.set_cons_succ])
                                  refine wpAnyH_take (i := 7) (oi := { dst := some 118, op := Op.load 48 (Operand.tmp 117), type := 48, pos := "kern.go:90", after := #[{ on := 6, ground := Ground.data }, { on := 1, ground := Ground.guard }], guard := some (1, true) }) (v := .agg #[.int .i64 0, .int .i64 nd, .int .i64 po]) rfl (by kernel_rfl) (by kernel_rfl) (by kernel_rfl) (fun _ _ _ h => h) (Or.inl ⟨by kernel_rfl, fun w hSw => by (obtain ⟨_, g0, g1, g2, g3, g4, g5, g6, g7, g8, g9, g10, g11⟩ := HSo.out _ hSw; go_simp)⟩) hHeld ?_
                                  (try simp only [Act.put, List.setIfInBounds_toArray, List.set_cons_zero, List.set_cons_succ])
                                  refine wpAnyH_ready (rs := [8]) (by kernel_rfl) (by simp) ?_
                                  refine AllReadyH.cons (o := { dst := some 119, op := Op.call { callee := Callee.value (Operand.func 16), args := #[Operand.tmp 113, Operand.tmp 118], argTypes := #[28, 48] }, type := 4, pos := "kern.go:90", after := #[{ on := 2, ground := Ground.data }, { on := 7, ground := Ground.data }, { on := 1, ground := Ground.chain }, { on := 1, ground := Ground.guard }], guard := some (1, true) }) rfl (fun K hK => ?_) AllReadyH.nil
                                  go_simp
                                  go_at_call 16; refine (HV.out _ (HSb.out _ hHeld)).mono ?_; rintro e w' ⟨rfl, hb'⟩
                                  go_wp2_with fail
                                  refine hK.out _ _ (HSx.out _ ((HSk.out _ hHeld).next hb')) (fun hHeld => ?_)
                                  clear hK K hb'
                                  (try simp only [Act.put, List.setIfInBounds_toArray, List.set_cons_zero, List.set_cons_succ])
                                  refine wpAnyH_take (i := 9) (oi := { dst := some 120, op := Op.pick (Operand.tmp 112) (Operand.tmp 119) (Operand.const (Value.bool false)), type := 4, pos := "kern.go:90", after := #[{ on := 1, ground := Ground.data }, { on := 8, ground := Ground.data }], guard := none }) (v := .bool true) rfl (by kernel_rfl) (by kernel_rfl) (by kernel_rfl) (fun _ _ _ h => h) (Or.inl ⟨by kernel_rfl, fun w hSw => by (obtain ⟨_, g0, g1, g2, g3, g4, g5, g6, g7, g8, g9, g10, g11⟩ := HSo.out _ hSw; go_simp)⟩) hHeld ?_
                                  (try simp only [Act.put, List.setIfInBounds_toArray, List.set_cons_zero, List.set_cons_succ])
                                  refine wpAnyH_take (i := 10) (oi := { dst := some 121, op := Op.move (Operand.tmp 120), type := 4, pos := "kern.go:90", after := #[{ on := 9, ground := Ground.data }, { on := 8, ground := Ground.chain }], guard := none }) (v := .bool true) rfl (by kernel_rfl) (by kernel_rfl) (by kernel_rfl) (fun _ _ _ h => h) (Or.inl ⟨by kernel_rfl, fun w hSw => by (obtain ⟨_, g0, g1, g2, g3, g4, g5, g6, g7, g8, g9, g10, g11⟩ := HSo.out _ hSw; go_simp)⟩) hHeld ?_
                                  (try simp only [Act.put, List.setIfInBounds_toArray, List.set_cons_zero, List.set_cons_succ])
                                  refine wpAnyH_take (i := 11) (oi := { dst := some 122, op := Op.fieldAddr 45 (Operand.tmp 9) 0, type := 0, pos := "kern.go:90", after := #[{ on := 10, ground := Ground.guard }], guard := some (10, true) }) (v := .pointer (some ⟨wA.heap.size, 0, none⟩)) rfl (by kernel_rfl) (by kernel_rfl) (by kernel_rfl) (fun _ _ _ h => h) (Or.inl ⟨by kernel_rfl, fun w hSw => by (obtain ⟨_, g0, g1, g2, g3, g4, g5, g6, g7, g8, g9, g10, g11⟩ := HSo.out _ hSw; go_simp)⟩) hHeld ?_
                                  (try simp only [Act.put, List.setIfInBounds_toArray, List.set_cons_zero, List.set_cons_succ])
                                  refine wpAnyH_take (i := 12) (oi := { dst := some 123, op := Op.load 4 (Operand.tmp 122), type := 4, pos := "kern.go:90", after := #[{ on := 11, ground := Ground.data }, { on := 10, ground := Ground.guard }], guard := some (10, true) }) (v := .bool true) rfl (by kernel_rfl) (by kernel_rfl) (by kernel_rfl) (fun _ _ _ h => h) (Or.inl ⟨by kernel_rfl, fun w hSw => by (obtain ⟨_, g0, g1, g2, g3, g4, g5, g6, g7, g8, g9, g10, g11⟩ := HSo.out _ hSw; go_simp)⟩) hHeld ?_
                                  (try simp only [Act.put, List.setIfInBounds_toArray, List.set_cons_zero, List.set_cons_succ])
                                  refine wpAnyH_take (i := 13) (oi := { dst := some 124, op := Op.move (Operand.tmp 123), type := 4, pos := "kern.go:90", after := #[{ on := 12, ground := Ground.data }, { on := 10, ground := Ground.chain }, { on := 10, ground := Ground.guard }], guard := some (10, true) }) (v := .bool true) rfl (by kernel_rfl) (by kernel_rfl) (by kernel_rfl) (fun _ _ _ h => h) (Or.inl ⟨by kernel_rfl, fun w hSw => by (obtain ⟨_, g0, g1, g2, g3, g4, g5, g6, g7, g8, g9, g10, g11⟩ := HSo.out _ hSw; go_simp)⟩) hHeld ?_
                                  (try simp only [Act.put, List.setIfInBounds_toArray, List.set_cons_zero, List.set_cons_succ])
                                  refine wpAnyH_take (i := 14) (oi := { dst := some 125, op := Op.fieldAddr 45 (Operand.tmp 9) 1, type := 0, pos := "kern.go:90", after := #[{ on := 13, ground := Ground.guard }], guard := some (13, false) }) (v := undef) rfl (by kernel_rfl) (by kernel_rfl) (by kernel_rfl) (fun _ _ _ h => h) (Or.inr ⟨by kernel_rfl, rfl⟩) hHeld ?_
                                  (try simp only [Act.put, List.setIfInBounds_toArray, List.set_cons_zero, List.set_cons_succ])
                                  refine wpAnyH_take (i := 15) (oi := { dst := some 126, op := Op.load 43 (Operand.tmp 125), type := 43, pos := "kern.go:90", after := #[{ on := 14, ground := Ground.data }, { on := 13, ground := Ground.guard }], guard := some (13, false) }) (v := undef) rfl (by kernel_rfl) (by kernel_rfl) (by kernel_rfl) (fun _ _ _ h => h) (Or.inr ⟨by kernel_rfl, rfl⟩) hHeld ?_
                                  (try simp only [Act.put, List.setIfInBounds_toArray, List.set_cons_zero, List.set_cons_succ])
                                  refine wpAnyH_take (i := 16) (oi := { dst := some 127, op := Op.move (Operand.tmp 10), type := 3, pos := "kern.go:90", after := #[{ on := 13, ground := Ground.guard }], guard := some (13, false) }) (v := undef) rfl (by kernel_rfl) (by kernel_rfl) (by kernel_rfl) (fun _ _ _ h => h) (Or.inr ⟨by kernel_rfl, rfl⟩) hHeld ?_
                                  (try simp only [Act.put, List.setIfInBounds_toArray, List.set_cons_zero, List.set_cons_succ])
                                  refine wpAnyH_take (i := 17) (oi := { dst := some 128, op := Op.indexAddr 43 (Operand.tmp 126) (Operand.tmp 127), type := 0, pos := "kern.go:90", after := #[{ on := 15, ground := Ground.data }, { on := 16, ground := Ground.data }, { on := 13, ground := Ground.guard }], guard := some (13, false) }) (v := undef) rfl (by kernel_rfl) (by kernel_rfl) (by kernel_rfl) (fun _ _ _ h => h) (Or.inr ⟨by kernel_rfl, rfl⟩) hHeld ?_
                                  (try simp only [Act.put, List.setIfInBounds_toArray, List.set_cons_zero, List.set_cons_succ])
                                  refine wpAnyH_take (i := 18) (oi := { dst := some 129, op := Op.fieldAddr 48 (Operand.tmp 128) 0, type := 0, pos := "kern.go:90", after := #[{ on := 17, ground := Ground.data }, { on := 13, ground := Ground.guard }], guard := some (13, false) }) (v := undef) rfl (by kernel_rfl) (by kernel_rfl) (by kernel_rfl) (fun _ _ _ h => h) (Or.inr ⟨by kernel_rfl, rfl⟩) hHeld ?_
                                  (try simp only [Act.put, List.setIfInBounds_toArray, List.set_cons_zero, List.set_cons_succ])
                                  refine wpAnyH_take (i := 19) (oi := { dst := some 130, op := Op.load 3 (Operand.tmp 129), type := 3, pos := "kern.go:90", after := #[{ on := 18, ground := Ground.data }, { on := 13, ground := Ground.guard }], guard := some (13, false) }) (v := undef) rfl (by kernel_rfl) (by kernel_rfl) (by kernel_rfl) (fun _ _ _ h => h) (Or.inr ⟨by kernel_rfl, rfl⟩) hHeld ?_
                                  (try simp only [Act.put, List.setIfInBounds_toArray, List.set_cons_zero, List.set_cons_succ])
                                  refine wpAnyH_take (i := 20) (oi := { dst := some 131, op := Op.binOp BinOp.eql 3 (Operand.tmp 130) (Operand.const (Value.int IntKind.i64 0)) 3, type := 4, pos := "kern.go:90", after := #[{ on := 19, ground := Ground.data }, { on := 13, ground := Ground.guard }], guard := some (13, false) }) (v := undef) rfl (by kernel_rfl) (by kernel_rfl) (by kernel_rfl) (fun _ _ _ h => h) (Or.inr ⟨by kernel_rfl, rfl⟩) hHeld ?_
                                  (try simp only [Act.put, List.setIfInBounds_toArray, List.set_cons_zero, List.set_cons_succ])
                                  refine wpAnyH_take (i := 21) (oi := { dst := some 132, op := Op.pick (Operand.tmp 124) (Operand.const (Value.bool true)) (Operand.tmp 131), type := 4, pos := "kern.go:90", after := #[{ on := 13, ground := Ground.data }, { on := 20, ground := Ground.data }, { on := 10, ground := Ground.guard }], guard := some (10, true) }) (v := .bool true) rfl (by kernel_rfl) (by kernel_rfl) (by kernel_rfl) (fun _ _ _ h => h) (Or.inl ⟨by kernel_rfl, fun w hSw => by (obtain ⟨_, g0, g1, g2, g3, g4, g5, g6, g7, g8, g9, g10, g11⟩ := HSo.out _ hSw; go_simp)⟩) hHeld ?_
                                  (try simp only [Act.put, List.setIfInBounds_toArray, List.set_cons_zero, List.set_cons_succ])
                                  refine wpAnyH_take (i := 22) (oi := { dst := some 133, op := Op.pick (Operand.tmp 121) (Operand.tmp 132) (Operand.const (Value.bool false)), type := 4, pos := "kern.go:90", after := #[{ on := 10, ground := Ground.data }, { on := 21, ground := Ground.data }], guard := none }) (v := .bool true) rfl (by kernel_rfl) (by kernel_rfl) (by kernel_rfl) (fun _ _ _ h => h) (Or.inl ⟨by kernel_rfl, fun w hSw => by (obtain ⟨_, g0, g1, g2, g3, g4, g5, g6, g7, g8, g9, g10, g11⟩ := HSo.out _ hSw; go_simp)⟩) hHeld ?_
                                  (try simp only [Act.put, List.setIfInBounds_toArray, List.set_cons_zero, List.set_cons_succ])
                                  refine wpAnyH_take (i := 23) (oi := { dst := some 6, op := Op.assign (Operand.tmp 133), type := 4, pos := "kern.go:90", after := #[{ on := 22, ground := Ground.data }, { on := 13, ground := Ground.chain }, { on := 0, ground := Ground.phase }, { on := 1, ground := Ground.phase }, { on := 2, ground := Ground.phase }, { on := 3, ground := Ground.phase }, { on := 4, ground := Ground.phase }, { on := 5, ground := Ground.phase }, { on := 6, ground := Ground.phase }, { on := 7, ground := Ground.phase }, { on := 8, ground := Ground.phase }, { on := 9, ground := Ground.phase }, { on := 10, ground := Ground.phase }, { on := 11, ground := Ground.phase }, { on := 12, ground := Ground.phase }, { on := 13, ground := Ground.phase }, { on := 14, ground := Ground.phase }, { on := 15, ground := Ground.phase }, { on := 16, ground := Ground.phase }, { on := 17, ground := Ground.phase }, { on := 18, ground := Ground.phase }, { on := 19, ground := Ground.phase }, { on := 20, ground := Ground.phase }, { on := 21, ground := Ground.phase }, { on := 22, ground := Ground.phase }], guard := none }) (v := .bool true) rfl (by kernel_rfl) (by kernel_rfl) (by kernel_rfl) (fun _ _ _ h => h) (Or.inl ⟨by kernel_rfl, fun w hSw => by (obtain ⟨_, g0, g1, g2, g3, g4, g5, g6, g7, g8, g9, g10, g11⟩ := HSo.out _ hSw; go_simp)⟩) hHeld ?_
                                  (try simp only [Act.put, List.setIfInBounds_toArray, List.set_cons_zero, List.set_cons_succ])
                                  refine wpAnyH_done (by kernel_rfl) ?_ _
                                  refine NoPanic.normal ?_
                                  have HK8 := Lib.hid (HSk.out _ hHeld)
                                  clear hHeld
                                  go_wp2
                                  go_roundw
                                  case rel => exact ⟨m + 1, by omega, by go_num, by rw [HaE.out]; rfl, HK8.out⟩
                                  case measure => simp [intOf]; omega
                                · skip
                                  refine wp_region_noPanic ?_
                                  refine wp_region_held_drew (S := Sx) (by kernel_rfl) (by exact HSx.out _ (HK7.out.next (Below.refl _ _).drew)) (fun hHeld => ?_)
                                  refine wpAnyH_take (i := 0) (oi := { dst := some 111, op := Op.move (Operand.tmp 6), type := 4, pos := "kern.go:90", after := #[], guard := none }) (v := .bool true) rfl (by kernel_rfl) (by kernel_rfl) (by kernel_rfl) (fun _ _ _ h => h) (Or.inl ⟨by kernel_rfl, fun w hSw => by (obtain ⟨_, g0, g1, g2, g3, g4, g5, g6, g7, g8, g9, g10, g11⟩ := HSo.out _ hSw; go_simp)⟩) hHeld ?_
                                  (try simp only [Act.put, List.setIfInBounds_toArray, List.set_cons_zero, List.set_cons_succ])
                                  refine wpAnyH_take (i := 1) (oi := { dst := some 112, op := Op.move (Operand.tmp 111), type := 4, pos := "kern.go:90", after := #[{ on := 0, ground := Ground.data }], guard := none }) (v := .bool true) rfl (by kernel_rfl) (by kernel_rfl) (by kernel_rfl) (fun _ _ _ h => h) (Or.inl ⟨by kernel_rfl, fun w hSw => by (obtain ⟨_, g0, g1, g2, g3, g4, g5, g6, g7, g8, g9, g10, g11⟩ := HSo.out _ hSw; go_simp)⟩) hHeld ?_
                                  (try simp only [Act.put, List.setIfInBounds_toArray, List.set_cons_zero, List.set_cons_succ])
                                  refine wpAnyH_take (i := 2) (oi := { dst := some 113, op := Op.load 28 (Operand.tmp 1), type := 28, pos := "kern.go:90", after := #[{ on := 1, ground := Ground.guard }], guard := some (1, true) }) (v := .agg #[.slice A k.mods.length ca, .slice M 1024 cm, .slice N 8 cn, .slice S 6 cs, .slice (some ⟨b, off, none⟩) 4 cq]) rfl (by kernel_rfl) (by kernel_rfl) (by kernel_rfl) (fun _ _ _ h => h) (Or.inl ⟨by kernel_rfl, fun w hSw => by (obtain ⟨_, g0, g1, g2, g3, g4, g5, g6, g7, g8, g9, g10, g11⟩ := HSo.out _ hSw; go_simp)⟩) hHeld ?_
                                  (try simp only [Act.put, List.setIfInBounds_toArray, List.set_cons_zero, List.set_cons_succ])
                                  refine wpAnyH_take (i := 3) (oi := { dst := some 114, op := Op.fieldAddr 45 (Operand.tmp 9) 1, type := 0, pos := "kern.go:90", after := #[{ on := 1, ground := Ground.guard }], guard := some (1, true) }) (v := .pointer (some ⟨wA.heap.size, 1, none⟩)) rfl (by kernel_rfl) (by kernel_rfl) (by kernel_rfl) (fun _ _ _ h => h) (Or.inl ⟨by kernel_rfl, fun w hSw => by (obtain ⟨_, g0, g1, g2, g3, g4, g5, g6, g7, g8, g9, g10, g11⟩ := HSo.out _ hSw; go_simp)⟩) hHeld ?_
                                  (try simp only [Act.put, List.setIfInBounds_toArray, List.set_cons_zero, List.set_cons_succ])
                                  refine wpAnyH_take (i := 4) (oi := { dst := some 115, op := Op.load 43 (Operand.tmp 114), type := 43, pos := "kern.go:90", after := #[{ on := 3, ground := Ground.data }, { on := 1, ground := Ground.guard }], guard := some (1, true) }) (v := .slice (some ⟨b2, o2, none⟩) p.ends.length c9) rfl (by kernel_rfl) (by kernel_rfl) (by kernel_rfl) (fun _ _ _ h => h) (Or.inl ⟨by kernel_rfl, fun w hSw => by (obtain ⟨_, g0, g1, g2, g3, g4, g5, g6, g7, g8, g9, g10, g11⟩ := HSo.out _ hSw; go_simp)⟩) hHeld ?_
                                  (try simp only [Act.put, List.setIfInBounds_toArray, List.set_cons_zero, List.set_cons_succ])
                                  refine wpAnyH_take (i := 5) (oi := { dst := some 116, op := Op.move (Operand.tmp 10), type := 3, pos := "kern.go:90", after := #[{ on := 1, ground := Ground.guard }], guard := some (1, true) }) (v := .int .i64 m) rfl (by kernel_rfl) (by kernel_rfl) (by kernel_rfl) (fun _ _ _ h => h) (Or.inl ⟨by kernel_rfl, fun w hSw => by (obtain ⟨_, g0, g1, g2, g3, g4, g5, g6, g7, g8, g9, g10, g11⟩ := HSo.out _ hSw; go_simp)⟩) hHeld ?_
                                  (try simp only [Act.put, List.setIfInBounds_toArray, List.set_cons_zero, List.set_cons_succ])
                                  refine wpAnyH_take (i := 6) (oi := { dst := some 117, op := Op.indexAddr 43 (Operand.tmp 115) (Operand.tmp 116), type := 0, pos := "kern.go:90", after := #[{ on := 4, ground := Ground.data }, { on := 5, ground := Ground.data }, { on := 1, ground := Ground.guard }], guard := some (1, true) }) (v := .pointer (some ⟨b2, o2 + m * 3, none⟩)) rfl (by kernel_rfl) (by kernel_rfl) (by kernel_rfl) (fun _ _ _ h => h) (Or.inl ⟨by kernel_rfl, fun w hSw => by (obtain ⟨_, g0, g1, g2, g3, g4, g5, g6, g7, g8, g9, g10, g11⟩ := HSo.out _ hSw; go_simp)⟩) hHeld ?_
                                  (try simp only [Act.put, List.setIfInBounds_toArray, List.set_cons_zero, List.set_cons_succ])
                                  refine wpAnyH_take (i := 7) (oi := { dst := some 118, op := Op.load 48 (Operand.tmp 117), type := 48, pos := "kern.go:90", after := #[{ on := 6, ground := Ground.data }, { on := 1, ground := Ground.guard }], guard := some (1, true) }) (v := .agg #[.int .i64 0, .int .i64 nd, .int .i64 po]) rfl (by kernel_rfl) (by kernel_rfl) (by kernel_rfl) (fun _ _ _ h => h) (Or.inl ⟨by kernel_rfl, fun w hSw => by (obtain ⟨_, g0, g1, g2, g3, g4, g5, g6, g7, g8, g9, g10, g11⟩ := HSo.out _ hSw; go_simp)⟩) hHeld ?_
                                  (try simp only [Act.put, List.setIfInBounds_toArray, List.set_cons_zero, List.set_cons_succ])
                                  refine wpAnyH_ready (rs := [8]) (by kernel_rfl) (by simp) ?_
                                  refine AllReadyH.cons (o := { dst := some 119, op := Op.call { callee := Callee.value (Operand.func 16), args := #[Operand.tmp 113, Operand.tmp 118], argTypes := #[28, 48] }, type := 4, pos := "kern.go:90", after := #[{ on := 2, ground := Ground.data }, { on := 7, ground := Ground.data }, { on := 1, ground := Ground.chain }, { on := 1, ground := Ground.guard }], guard := some (1, true) }) rfl (fun K hK => ?_) AllReadyH.nil
                                  go_simp
                                  go_at_call 16; refine (HV.out _ (HSb.out _ hHeld)).mono ?_; rintro e w' ⟨rfl, hb'⟩
                                  go_wp2_with fail
                                  refine hK.out _ _ (HSx.out _ ((HSk.out _ hHeld).next hb')) (fun hHeld => ?_)
                                  clear hK K hb'
                                  (try simp only [Act.put, List.setIfInBounds_toArray, List.set_cons_zero, List.set_cons_succ])
                                  refine wpAnyH_take (i := 9) (oi := { dst := some 120, op := Op.pick (Operand.tmp 112) (Operand.tmp 119) (Operand.const (Value.bool false)), type := 4, pos := "kern.go:90", after := #[{ on := 1, ground := Ground.data }, { on := 8, ground := Ground.data }], guard := none }) (v := .bool true) rfl (by kernel_rfl) (by kernel_rfl) (by kernel_rfl) (fun _ _ _ h => h) (Or.inl ⟨by kernel_rfl, fun w hSw => by (obtain ⟨_, g0, g1, g2, g3, g4, g5, g6, g7, g8, g9, g10, g11⟩ := HSo.out _ hSw; go_simp)⟩) hHeld ?_
                                  (try simp only [Act.put, List.setIfInBounds_toArray, List.set_cons_zero, List.set_cons_succ])
                                  refine wpAnyH_take (i := 10) (oi := { dst := some 121, op := Op.move (Operand.tmp 120), type := 4, pos := "kern.go:90", after := #[{ on := 9, ground := Ground.data }, { on := 8, ground := Ground.chain }], guard := none }) (v := .bool true) rfl (by kernel_rfl) (by kernel_rfl) (by kernel_rfl) (fun _ _ _ h => h) (Or.inl ⟨by kernel_rfl, fun w hSw => by (obtain ⟨_, g0, g1, g2, g3, g4, g5, g6, g7, g8, g9, g10, g11⟩ := HSo.out _ hSw; go_simp)⟩) hHeld ?_
                                  (try simp only [Act.put, List.setIfInBounds_toArray, List.set_cons_zero, List.set_cons_succ])
                                  refine wpAnyH_take (i := 11) (oi := { dst := some 122, op := Op.fieldAddr 45 (Operand.tmp 9) 0, type := 0, pos := "kern.go:90", after := #[{ on := 10, ground := Ground.guard }], guard := some (10, true) }) (v := .pointer (some ⟨wA.heap.size, 0, none⟩)) rfl (by kernel_rfl) (by kernel_rfl) (by kernel_rfl) (fun _ _ _ h => h) (Or.inl ⟨by kernel_rfl, fun w hSw => by (obtain ⟨_, g0, g1, g2, g3, g4, g5, g6, g7, g8, g9, g10, g11⟩ := HSo.out _ hSw; go_simp)⟩) hHeld ?_
                                  (try simp only [Act.put, List.setIfInBounds_toArray, List.set_cons_zero, List.set_cons_succ])
                                  refine wpAnyH_take (i := 12) (oi := { dst := some 123, op := Op.load 4 (Operand.tmp 122), type := 4, pos := "kern.go:90", after := #[{ on := 11, ground := Ground.data }, { on := 10, ground := Ground.guard }], guard := some (10, true) }) (v := .bool false) rfl (by kernel_rfl) (by kernel_rfl) (by kernel_rfl) (fun _ _ _ h => h) (Or.inl ⟨by kernel_rfl, fun w hSw => by (obtain ⟨_, g0, g1, g2, g3, g4, g5, g6, g7, g8, g9, g10, g11⟩ := HSo.out _ hSw; go_simp)⟩) hHeld ?_
                                  (try simp only [Act.put, List.setIfInBounds_toArray, List.set_cons_zero, List.set_cons_succ])
                                  refine wpAnyH_take (i := 13) (oi := { dst := some 124, op := Op.move (Operand.tmp 123), type := 4, pos := "kern.go:90", after := #[{ on := 12, ground := Ground.data }, { on := 10, ground := Ground.chain }, { on := 10, ground := Ground.guard }], guard := some (10, true) }) (v := .bool false) rfl (by kernel_rfl) (by kernel_rfl) (by kernel_rfl) (fun _ _ _ h => h) (Or.inl ⟨by kernel_rfl, fun w hSw => by (obtain ⟨_, g0, g1, g2, g3, g4, g5, g6, g7, g8, g9, g10, g11⟩ := HSo.out _ hSw; go_simp)⟩) hHeld ?_
                                  (try simp only [Act.put, List.setIfInBounds_toArray, List.set_cons_zero, List.set_cons_succ])
                                  refine wpAnyH_take (i := 14) (oi := { dst := some 125, op := Op.fieldAddr 45 (Operand.tmp 9) 1, type := 0, pos := "kern.go:90", after := #[{ on := 13, ground := Ground.guard }], guard := some (13, false) }) (v := .pointer (some ⟨wA.heap.size, 1, none⟩)) rfl (by kernel_rfl) (by kernel_rfl) (by kernel_rfl) (fun _ _ _ h => h) (Or.inl ⟨by kernel_rfl, fun w hSw => by (obtain ⟨_, g0, g1, g2, g3, g4, g5, g6, g7, g8, g9, g10, g11⟩ := HSo.out _ hSw; go_simp)⟩) hHeld ?_
                                  (try simp only [Act.put, List.setIfInBounds_toArray, List.set_cons_zero, List.set_cons_succ])
                                  refine wpAnyH_take (i := 15) (oi := { dst := some 126, op := Op.load 43 (Operand.tmp 125), type := 43, pos := "kern.go:90", after := #[{ on := 14, ground := Ground.data }, { on := 13, ground := Ground.guard }], guard := some (13, false) }) (v := .slice (some ⟨b2, o2, none⟩) p.ends.length c9) rfl (by kernel_rfl) (by kernel_rfl) (by kernel_rfl) (fun _ _ _ h => h) (Or.inl ⟨by kernel_rfl, fun w hSw => by (obtain ⟨_, g0, g1, g2, g3, g4, g5, g6, g7, g8, g9, g10, g11⟩ := HSo.out _ hSw; go_simp)⟩) hHeld ?_
                                  (try simp only [Act.put, List.setIfInBounds_toArray, List.set_cons_zero, List.set_cons_succ])
                                  refine wpAnyH_take (i := 16) (oi := { dst := some 127, op := Op.move (Operand.tmp 10), type := 3, pos := "kern.go:90", after := #[{ on := 13, ground := Ground.guard }], guard := some (13, false) }) (v := .int .i64 m) rfl (by kernel_rfl) (by kernel_rfl) (by kernel_rfl) (fun _ _ _ h => h) (Or.inl ⟨by kernel_rfl, fun w hSw => by (obtain ⟨_, g0, g1, g2, g3, g4, g5, g6, g7, g8, g9, g10, g11⟩ := HSo.out _ hSw; go_simp)⟩) hHeld ?_
                                  (try simp only [Act.put, List.setIfInBounds_toArray, List.set_cons_zero, List.set_cons_succ])
                                  refine wpAnyH_take (i := 17) (oi := { dst := some 128, op := Op.indexAddr 43 (Operand.tmp 126) (Operand.tmp 127), type := 0, pos := "kern.go:90", after := #[{ on := 15, ground := Ground.data }, { on := 16, ground := Ground.data }, { on := 13, ground := Ground.guard }], guard := some (13, false) }) (v := .pointer (some ⟨b2, o2 + m * 3, none⟩)) rfl (by kernel_rfl) (by kernel_rfl) (by kernel_rfl) (fun _ _ _ h => h) (Or.inl ⟨by kernel_rfl, fun w hSw => by (obtain ⟨_, g0, g1, g2, g3, g4, g5, g6, g7, g8, g9, g10, g11⟩ := HSo.out _ hSw; go_simp)⟩) hHeld ?_
                                  (try simp only [Act.put, List.setIfInBounds_toArray, List.set_cons_zero, List.set_cons_succ])
                                  refine wpAnyH_take (i := 18) (oi := { dst := some 129, op := Op.fieldAddr 48 (Operand.tmp 128) 0, type := 0, pos := "kern.go:90", after := #[{ on := 17, ground := Ground.data }, { on := 13, ground := Ground.guard }], guard := some (13, false) }) (v := .pointer (some ⟨b2, o2 + m * 3, none⟩)) rfl (by kernel_rfl) (by kernel_rfl) (by kernel_rfl) (fun _ _ _ h => h) (Or.inl ⟨by kernel_rfl, fun w hSw => by (obtain ⟨_, g0, g1, g2, g3, g4, g5, g6, g7, g8, g9, g10, g11⟩ := HSo.out _ hSw; go_simp)⟩) hHeld ?_
                                  (try simp only [Act.put, List.setIfInBounds_toArray, List.set_cons_zero, List.set_cons_succ])
                                  refine wpAnyH_take (i := 19) (oi := { dst := some 130, op := Op.load 3 (Operand.tmp 129), type := 3, pos := "kern.go:90", after := #[{ on := 18, ground := Ground.data }, { on := 13, ground := Ground.guard }], guard := some (13, false) }) (v := .int .i64 0) rfl (by kernel_rfl) (by kernel_rfl) (by kernel_rfl) (fun _ _ _ h => h) (Or.inl ⟨by kernel_rfl, fun w hSw => by (obtain ⟨_, g0, g1, g2, g3, g4, g5, g6, g7, g8, g9, g10, g11⟩ := HSo.out _ hSw; go_simp)⟩) hHeld ?_
                                  (try simp only [Act.put, List.setIfInBounds_toArray, List.set_cons_zero, List.set_cons_succ])
                                  refine wpAnyH_take (i := 20) (oi := { dst := some 131, op := Op.binOp BinOp.eql 3 (Operand.tmp 130) (Operand.const (Value.int IntKind.i64 0)) 3, type := 4, pos := "kern.go:90", after := #[{ on := 19, ground := Ground.data }, { on := 13, ground := Ground.guard }], guard := some (13, false) }) (v := .bool true) rfl (by kernel_rfl) (by kernel_rfl) (by kernel_rfl) (fun _ _ _ h => h) (Or.inl ⟨by kernel_rfl, fun w hSw => by (obtain ⟨_, g0, g1, g2, g3, g4, g5, g6, g7, g8, g9, g10, g11⟩ := HSo.out _ hSw; go_simp)⟩) hHeld ?_
                                  (try simp only [Act.put, List.setIfInBounds_toArray, List.set_cons_zero, List.set_cons_succ])
                                  refine wpAnyH_take (i := 21) (oi := { dst := some 132, op := Op.pick (Operand.tmp 124) (Operand.const (Value.bool true)) (Operand.tmp 131), type := 4, pos := "kern.go:90", after := #[{ on := 13, ground := Ground.data }, { on := 20, ground := Ground.data }, { on := 10, ground := Ground.guard }], guard := some (10, true) }) (v := .bool true) rfl (by kernel_rfl) (by kernel_rfl) (by kernel_rfl) (fun _ _ _ h => h) (Or.inl ⟨by kernel_rfl, fun w hSw => by (obtain ⟨_, g0, g1, g2, g3, g4, g5, g6, g7, g8, g9, g10, g11⟩ := HSo.out _ hSw; go_simp)⟩) hHeld ?_
                                  (try simp only [Act.put, List.setIfInBounds_toArray, List.set_cons_zero, List.set_cons_succ])
                                  refine wpAnyH_take (i := 22) (oi := { dst := some 133, op := Op.pick (Operand.tmp 121) (Operand.tmp 132) (Operand.const (Value.bool false)), type := 4, pos := "kern.go:90", after := #[{ on := 10, ground := Ground.data }, { on := 21, ground := Ground.data }], guard := none }) (v := .bool true) rfl (by kernel_rfl) (by kernel_rfl) (by kernel_rfl) (fun _ _ _ h => h) (Or.inl ⟨by kernel_rfl, fun w hSw => by (obtain ⟨_, g0, g1, g2, g3, g4, g5, g6, g7, g8, g9, g10, g11⟩ := HSo.out _ hSw; go_simp)⟩) hHeld ?_
                                  (try simp only [Act.put, List.setIfInBounds_toArray, List.set_cons_zero, List.set_cons_succ])
                                  refine wpAnyH_take (i := 23) (oi := { dst := some 6, op := Op.assign (Operand.tmp 133), type := 4, pos := "kern.go:90", after := #[{ on := 22, ground := Ground.data }, { on := 13, ground := Ground.chain }, { on := 0, ground := Ground.phase }, { on := 1, ground := Ground.phase }, { on := 2, ground := Ground.phase }, { on := 3, ground := Ground.phase }, { on := 4, ground := Ground.phase }, { on := 5, ground := Ground.phase }, { on := 6, ground := Ground.phase }, { on := 7, ground := Ground.phase }, { on := 8, ground := Ground.phase }, { on := 9, ground := Ground.phase }, { on := 10, ground := Ground.phase }, { on := 11, ground := Ground.phase }, { on := 12, ground := Ground.phase }, { on := 13, ground := Ground.phase }, { on := 14, ground := Ground.phase }, { on := 15, ground := Ground.phase }, { on := 16, ground := Ground.phase }, { on := 17, ground := Ground.phase }, { on := 18, ground := Ground.phase }, { on := 19, ground := Ground.phase }, { on := 20, ground := Ground.phase }, { on := 21, ground := Ground.phase }, { on := 22, ground := Ground.phase }], guard := none }) (v := .bool true) rfl (by kernel_rfl) (by kernel_rfl) (by kernel_rfl) (fun _ _ _ h => h) (Or.inl ⟨by kernel_rfl, fun w hSw => by (obtain ⟨_, g0, g1, g2, g3, g4, g5, g6, g7, g8, g9, g10, g11⟩ := HSo.out _ hSw; go_simp)⟩) hHeld ?_
                                  (try simp only [Act.put, List.setIfInBounds_toArray, List.set_cons_zero, List.set_cons_succ])
                                  refine wpAnyH_done (by kernel_rfl) ?_ _
                                  refine NoPanic.normal ?_
                                  have HK8 := Lib.hid (HSk.out _ hHeld)
                                  clear hHeld
                                  go_wp2
                                  go_roundw
                                  case rel => exact ⟨m + 1, by omega, by go_num, by rw [HaE.out]; rfl, HK8.out⟩
                                  case measure => simp [intOf]; omega
                            · have hk1 : (kd == 0) = false := by simpa using hk0
                              obtain ⟨Sx, hSx⟩ : ∃ Sx : World → Prop, Sx = fun W => KPBox w KC wA.heap.size [.bool lv, .slice (some ⟨b2, o2, none⟩) p.ends.length c9] W := ⟨_, rfl⟩
                              have HSx := Lib.hid (show ∀ W, KPBox w KC wA.heap.size [.bool lv, .slice (some ⟨b2, o2, none⟩) p.ends.length c9] W → Sx W from fun W h => by rw [hSx]; exact h)
                              have HSk := Lib.hid (show ∀ W, Sx W → KPBox w KC wA.heap.size [.bool lv, .slice (some ⟨b2, o2, none⟩) p.ends.length c9] W from fun W h => by rw [hSx] at h; exact h)
                              have HSb := Lib.hid (show ∀ W, Sx W → Below w.heap.size w W from fun W h => by rw [hSx] at h; exact h.2.2.1)
                              have HSo := Lib.hid (fun W (h : Sx W) => hall W (by rw [hSx] at h; exact h))
                              clear hSx hall
                              go_wp2_with fail
                              clear c0 c1 c2 c3 c4 q0 q1 hl hl2
                              cases r
                              · skip
                                refine wp_region_noPanic ?_
                                refine wp_region_held_drew (S := Sx) (by kernel_rfl) (by exact HSx.out _ (HK7.out.next (Below.refl _ _).drew)) (fun hHeld => ?_)
                                refine wpAnyH_take (i := 0) (oi := { dst := some 111, op := Op.move (Operand.tmp 6), type := 4, pos := "kern.go:90", after := #[], guard := none }) (v := .bool true) rfl (by kernel_rfl) (by kernel_rfl) (by kernel_rfl) (fun _ _ _ h => h) (Or.inl ⟨by kernel_rfl, fun w hSw => by (obtain ⟨_, g0, g1, g2, g3, g4, g5, g6, g7, g8, g9, g10, g11⟩ := HSo.out _ hSw; go_simp)⟩) hHeld ?_
                                (try simp only [Act.put, List.setIfInBounds_toArray, List.set_cons_zero, List.set_cons_succ])
                                refine wpAnyH_take (i := 1) (oi := { dst := some 112, op := Op.move (Operand.tmp 111), type := 4, pos := "kern.go:90", after := #[{ on := 0, ground := Ground.data }], guard := none }) (v := .bool true) rfl (by kernel_rfl) (by kernel_rfl) (by kernel_rfl) (fun _ _ _ h => h) (Or.inl ⟨by kernel_rfl, fun w hSw => by (obtain ⟨_, g0, g1, g2, g3, g4, g5, g6, g7, g8, g9, g10, g11⟩ := HSo.out _ hSw; go_simp)⟩) hHeld ?_
                                (try simp only [Act.put, List.setIfInBounds_toArray, List.set_cons_zero, List.set_cons_succ])
                                refine wpAnyH_take (i := 2) (oi := { dst := some 113, op := Op.load 28 (Operand.tmp 1), type := 28, pos := "kern.go:90", after := #[{ on := 1, ground := Ground.guard }], guard := some (1, true) }) (v := .agg #[.slice A k.mods.length ca, .slice M 1024 cm, .slice N 8 cn, .slice S 6 cs, .slice (some ⟨b, off, none⟩) 4 cq]) rfl (by kernel_rfl) (by kernel_rfl) (by kernel_rfl) (fun _ _ _ h => h) (Or.inl ⟨by kernel_rfl, fun w hSw => by (obtain ⟨_, g0, g1, g2, g3, g4, g5, g6, g7, g8, g9, g10, g11⟩ := HSo.out _ hSw; go_simp)⟩) hHeld ?_
                                (try simp only [Act.put, List.setIfInBounds_toArray, List.set_cons_zero, List.set_cons_succ])
                                refine wpAnyH_take (i := 3) (oi := { dst := some 114, op := Op.fieldAddr 45 (Operand.tmp 9) 1, type := 0, pos := "kern.go:90", after := #[{ on := 1, ground := Ground.guard }], guard := some (1, true) }) (v := .pointer (some ⟨wA.heap.size, 1, none⟩)) rfl (by kernel_rfl) (by kernel_rfl) (by kernel_rfl) (fun _ _ _ h => h) (Or.inl ⟨by kernel_rfl, fun w hSw => by (obtain ⟨_, g0, g1, g2, g3, g4, g5, g6, g7, g8, g9, g10, g11⟩ := HSo.out _ hSw; go_simp)⟩) hHeld ?_
                                (try simp only [Act.put, List.setIfInBounds_toArray, List.set_cons_zero, List.set_cons_succ])
                                refine wpAnyH_take (i := 4) (oi := { dst := some 115, op := Op.load 43 (Operand.tmp 114), type := 43, pos := "kern.go:90", after := #[{ on := 3, ground := Ground.data }, { on := 1, ground := Ground.guard }], guard := some (1, true) }) (v := .slice (some ⟨b2, o2, none⟩) p.ends.length c9) rfl (by kernel_rfl) (by kernel_rfl) (by kernel_rfl) (fun _ _ _ h => h) (Or.inl ⟨by kernel_rfl, fun w hSw => by (obtain ⟨_, g0, g1, g2, g3, g4, g5, g6, g7, g8, g9, g10, g11⟩ := HSo.out _ hSw; go_simp)⟩) hHeld ?_
                                (try simp only [Act.put, List.setIfInBounds_toArray, List.set_cons_zero, List.set_cons_succ])
                                refine wpAnyH_take (i := 5) (oi := { dst := some 116, op := Op.move (Operand.tmp 10), type := 3, pos := "kern.go:90", after := #[{ on := 1, ground := Ground.guard }], guard := some (1, true) }) (v := .int .i64 m) rfl (by kernel_rfl) (by kernel_rfl) (by kernel_rfl) (fun _ _ _ h => h) (Or.inl ⟨by kernel_rfl, fun w hSw => by (obtain ⟨_, g0, g1, g2, g3, g4, g5, g6, g7, g8, g9, g10, g11⟩ := HSo.out _ hSw; go_simp)⟩) hHeld ?_
                                (try simp only [Act.put, List.setIfInBounds_toArray, List.set_cons_zero, List.set_cons_succ])
                                refine wpAnyH_take (i := 6) (oi := { dst := some 117, op := Op.indexAddr 43 (Operand.tmp 115) (Operand.tmp 116), type := 0, pos := "kern.go:90", after := #[{ on := 4, ground := Ground.data }, { on := 5, ground := Ground.data }, { on := 1, ground := Ground.guard }], guard := some (1, true) }) (v := .pointer (some ⟨b2, o2 + m * 3, none⟩)) rfl (by kernel_rfl) (by kernel_rfl) (by kernel_rfl) (fun _ _ _ h => h) (Or.inl ⟨by kernel_rfl, fun w hSw => by (obtain ⟨_, g0, g1, g2, g3, g4, g5, g6, g7, g8, g9, g10, g11⟩ := HSo.out _ hSw; go_simp)⟩) hHeld ?_
                                (try simp only [Act.put, List.setIfInBounds_toArray, List.set_cons_zero, List.set_cons_succ])
                                refine wpAnyH_take (i := 7) (oi := { dst := some 118, op := Op.load 48 (Operand.tmp 117), type := 48, pos := "kern.go:90", after := #[{ on := 6, ground := Ground.data }, { on := 1, ground := Ground.guard }], guard := some (1, true) }) (v := .agg #[.int .i64 kd, .int .i64 nd, .int .i64 po]) rfl (by kernel_rfl) (by kernel_rfl) (by kernel_rfl) (fun _ _ _ h => h) (Or.inl ⟨by kernel_rfl, fun w hSw => by (obtain ⟨_, g0, g1, g2, g3, g4, g5, g6, g7, g8, g9, g10, g11⟩ := HSo.out _ hSw; go_simp)⟩) hHeld ?_
                                (try simp only [Act.put, List.setIfInBounds_toArray, List.set_cons_zero, List.set_cons_succ])
                                refine wpAnyH_ready (rs := [8]) (by kernel_rfl) (by simp) ?_
                                refine AllReadyH.cons (o := { dst := some 119, op := Op.call { callee := Callee.value (Operand.func 16), args := #[Operand.tmp 113, Operand.tmp 118], argTypes := #[28, 48] }, type := 4, pos := "kern.go:90", after := #[{ on := 2, ground := Ground.data }, { on := 7, ground := Ground.data }, { on := 1, ground := Ground.chain }, { on := 1, ground := Ground.guard }], guard := some (1, true) }) rfl (fun K hK => ?_) AllReadyH.nil
                                go_simp
                                go_at_call 16; refine (HV.out _ (HSb.out _ hHeld)).mono ?_; rintro e w' ⟨rfl, hb'⟩
                                go_wp2_with fail
                                refine hK.out _ _ (HSx.out _ ((HSk.out _ hHeld).next hb')) (fun hHeld => ?_)
                                clear hK K hb'
                                (try simp only [Act.put, List.setIfInBounds_toArray, List.set_cons_zero, List.set_cons_succ])
                                refine wpAnyH_take (i := 9) (oi := { dst := some 120, op := Op.pick (Operand.tmp 112) (Operand.tmp 119) (Operand.const (Value.bool false)), type := 4, pos := "kern.go:90", after := #[{ on := 1, ground := Ground.data }, { on := 8, ground := Ground.data }], guard := none }) (v := .bool false) rfl (by kernel_rfl) (by kernel_rfl) (by kernel_rfl) (fun _ _ _ h => h) (Or.inl ⟨by kernel_rfl, fun w hSw => by (obtain ⟨_, g0, g1, g2, g3, g4, g5, g6, g7, g8, g9, g10, g11⟩ := HSo.out _ hSw; go_simp)⟩) hHeld ?_
                                (try simp only [Act.put, List.setIfInBounds_toArray, List.set_cons_zero, List.set_cons_succ])
                                refine wpAnyH_take (i := 10) (oi := { dst := some 121, op := Op.move (Operand.tmp 120), type := 4, pos := "kern.go:90", after := #[{ on := 9, ground := Ground.data }, { on := 8, ground := Ground.chain }], guard := none }) (v := .bool false) rfl (by kernel_rfl) (by kernel_rfl) (by kernel_rfl) (fun _ _ _ h => h) (Or.inl ⟨by kernel_rfl, fun w hSw => by (obtain ⟨_, g0, g1, g2, g3, g4, g5, g6, g7, g8, g9, g10, g11⟩ := HSo.out _ hSw; go_simp)⟩) hHeld ?_
                                (try simp only [Act.put, List.setIfInBounds_toArray, List.set_cons_zero, List.set_cons_succ])
                                refine wpAnyH_take (i := 11) (oi := { dst := some 122, op := Op.fieldAddr 45 (Operand.tmp 9) 0, type := 0, pos := "kern.go:90", after := #[{ on := 10, ground := Ground.guard }], guard := some (10, true) }) (v := undef) rfl (by kernel_rfl) (by kernel_rfl) (by kernel_rfl) (fun _ _ _ h => h) (Or.inr ⟨by kernel_rfl, rfl⟩) hHeld ?_
                                (try simp only [Act.put, List.setIfInBounds_toArray, List.set_cons_zero, List.set_cons_succ])
                                refine wpAnyH_take (i := 12) (oi := { dst := some 123, op := Op.load 4 (Operand.tmp 122), type := 4, pos := "kern.go:90", after := #[{ on := 11, ground := Ground.data }, { on := 10, ground := Ground.guard }], guard := some (10, true) }) (v := undef) rfl (by kernel_rfl) (by kernel_rfl) (by kernel_rfl) (fun _ _ _ h => h) (Or.inr ⟨by kernel_rfl, rfl⟩) hHeld ?_
                                (try simp only [Act.put, List.setIfInBounds_toArray, List.set_cons_zero, List.set_cons_succ])
                                refine wpAnyH_take (i := 13) (oi := { dst := some 124, op := Op.move (Operand.tmp 123), type := 4, pos := "kern.go:90", after := #[{ on := 12, ground := Ground.data }, { on := 10, ground := Ground.chain }, { on := 10, ground := Ground.guard }], guard := some (10, true) }) (v := undef) rfl (by kernel_rfl) (by kernel_rfl) (by kernel_rfl) (fun _ _ _ h => h) (Or.inr ⟨by kernel_rfl, rfl⟩) hHeld ?_
                                (try simp only [Act.put, List.setIfInBounds_toArray, List.set_cons_zero, List.set_cons_succ])
                                refine wpAnyH_take (i := 14) (oi := { dst := some 125, op := Op.fieldAddr 45 (Operand.tmp 9) 1, type := 0, pos := "kern.go:90", after := #[{ on := 13, ground := Ground.guard }], guard := some (13, false) }) (v := undef) rfl (by kernel_rfl) (by kernel_rfl) (by kernel_rfl) (fun _ _ _ h => h) (Or.inr ⟨by kernel_rfl, rfl⟩) hHeld ?_
                                (try simp only [Act.put, List.setIfInBounds_toArray, List.set_cons_zero, List.set_cons_succ])
                                refine wpAnyH_take (i := 15) (oi := { dst := some 126, op := Op.load 43 (Operand.tmp 125), type := 43, pos := "kern.go:90", after := #[{ on := 14, ground := Ground.data }, { on := 13, ground := Ground.guard }], guard := some (13, false) }) (v := undef) rfl (by kernel_rfl) (by kernel_rfl) (by kernel_rfl) (fun _ _ _ h => h) (Or.inr ⟨by kernel_rfl, rfl⟩) hHeld ?_
                                (try simp only [Act.put, List.setIfInBounds_toArray, List.set_cons_zero, List.set_cons_succ])
                                refine wpAnyH_take (i := 16) (oi := { dst := some 127, op := Op.move (Operand.tmp 10), type := 3, pos := "kern.go:90", after := #[{ on := 13, ground := Ground.guard }], guard := some (13, false) }) (v := undef) rfl (by kernel_rfl) (by kernel_rfl) (by kernel_rfl) (fun _ _ _ h => h) (Or.inr ⟨by kernel_rfl, rfl⟩) hHeld ?_
                                (try simp only [Act.put, List.setIfInBounds_toArray, List.set_cons_zero, List.set_cons_succ])
                                refine wpAnyH_take (i := 17) (oi := { dst := some 128, op := Op.indexAddr 43 (Operand.tmp 126) (Operand.tmp 127), type := 0, pos := "kern.go:90", after := #[{ on := 15, ground := Ground.data }, { on := 16, ground := Ground.data }, { on := 13, ground := Ground.guard }], guard := some (13, false) }) (v := undef) rfl (by kernel_rfl) (by kernel_rfl) (by kernel_rfl) (fun _ _ _ h => h) (Or.inr ⟨by kernel_rfl, rfl⟩) hHeld ?_
                                (try simp only [Act.put, List.setIfInBounds_toArray, List.set_cons_zero, List.set_cons_succ])
                                refine wpAnyH_take (i := 18) (oi := { dst := some 129, op := Op.fieldAddr 48 (Operand.tmp 128) 0, type := 0, pos := "kern.go:90", after := #[{ on := 17, ground := Ground.data }, { on := 13, ground := Ground.guard }], guard := some (13, false) }) (v := undef) rfl (by kernel_rfl) (by kernel_rfl) (by kernel_rfl) (fun _ _ _ h => h) (Or.inr ⟨by kernel_rfl, rfl⟩) hHeld ?_
                                (try simp only [Act.put, List.setIfInBounds_toArray, List.set_cons_zero, List.set_cons_succ])
                                refine wpAnyH_take (i := 19) (oi := { dst := some 130, op := Op.load 3 (Operand.tmp 129), type := 3, pos := "kern.go:90", after := #[{ on := 18, ground := Ground.data }, { on := 13, ground := Ground.guard }], guard := some (13, false) }) (v := undef) rfl (by kernel_rfl) (by kernel_rfl) (by kernel_rfl) (fun _ _ _ h => h) (Or.inr ⟨by kernel_rfl, rfl⟩) hHeld ?_
                                (try simp only [Act.put, List.setIfInBounds_toArray, List.set_cons_zero, List.set_cons_succ])
                                refine wpAnyH_take (i := 20) (oi := { dst := some 131, op := Op.binOp BinOp.eql 3 (Operand.tmp 130) (Operand.const (Value.int IntKind.i64 0)) 3, type := 4, pos := "kern.go:90", after := #[{ on := 19, ground := Ground.data }, { on := 13, ground := Ground.guard }], guard := some (13, false) }) (v := undef) rfl (by kernel_rfl) (by kernel_rfl) (by kernel_rfl) (fun _ _ _ h => h) (Or.inr ⟨by kernel_rfl, rfl⟩) hHeld ?_
                                (try simp only [Act.put, List.setIfInBounds_toArray, List.set_cons_zero, List.set_cons_succ])
                                refine wpAnyH_take (i := 21) (oi := { dst := some 132, op := Op.pick (Operand.tmp 124) (Operand.const (Value.bool true)) (Operand.tmp 131), type := 4, pos := "kern.go:90", after := #[{ on := 13, ground := Ground.data }, { on := 20, ground := Ground.data }, { on := 10, ground := Ground.guard }], guard := some (10, true) }) (v := undef) rfl (by kernel_rfl) (by kernel_rfl) (by kernel_rfl) (fun _ _ _ h => h) (Or.inr ⟨by kernel_rfl, rfl⟩) hHeld ?_
                                (try simp only [Act.put, List.setIfInBounds_toArray, List.set_cons_zero, List.set_cons_succ])
                                refine wpAnyH_take (i := 22) (oi := { dst := some 133, op := Op.pick (Operand.tmp 121) (Operand.tmp 132) (Operand.const (Value.bool false)), type := 4, pos := "kern.go:90", after := #[{ on := 10, ground := Ground.data }, { on := 21, ground := Ground.data }], guard := none }) (v := .bool false) rfl (by kernel_rfl) (by kernel_rfl) (by kernel_rfl) (fun _ _ _ h => h) (Or.inl ⟨by kernel_rfl, fun w hSw => by (obtain ⟨_, g0, g1, g2, g3, g4, g5, g6, g7, g8, g9, g10, g11⟩ := HSo.out _ hSw; go_simp)⟩) hHeld ?_
                                (try simp only [Act.put, List.setIfInBounds_toArray, List.set_cons_zero, List.set_cons_succ])
                                refine wpAnyH_take (i := 23) (oi := { dst := some 6, op := Op.assign (Operand.tmp 133), type := 4, pos := "kern.go:90", after := #[{ on := 22, ground := Ground.data }, { on := 13, ground := Ground.chain }, { on := 0, ground := Ground.phase }, { on := 1, ground := Ground.phase }, { on := 2, ground := Ground.phase }, { on := 3, ground := Ground.phase }, { on := 4, ground := Ground.phase }, { on := 5, ground := Ground.phase }, { on := 6, ground := Ground.phase }, { on := 7, ground := Ground.phase }, { on := 8, ground := Ground.phase }, { on := 9, ground := Ground.phase }, { on := 10, ground := Ground.phase }, { on := 11, ground := Ground.phase }, { on := 12, ground := Ground.phase }, { on := 13, ground := Ground.phase }, { on := 14, ground := Ground.phase }, { on := 15, ground := Ground.phase }, { on := 16, ground := Ground.phase }, { on := 17, ground := Ground.phase }, { on := 18, ground := Ground.phase }, { on := 19, ground := Ground.phase }, { on := 20, ground := Ground.phase }, { on := 21, ground := Ground.phase }, { on := 22, ground := Ground.phase }], guard := none }) (v := .bool false) rfl (by kernel_rfl) (by kernel_rfl) (by kernel_rfl) (fun _ _ _ h => h) (Or.inl ⟨by kernel_rfl, fun w hSw => by (obtain ⟨_, g0, g1, g2, g3, g4, g5, g6, g7, g8, g9, g10, g11⟩ := HSo.out _ hSw; go_simp)⟩) hHeld ?_
                                (try simp only [Act.put, List.setIfInBounds_toArray, List.set_cons_zero, List.set_cons_succ])
                                refine wpAnyH_done (by kernel_rfl) ?_ _
                                refine NoPanic.normal ?_
                                have HK8 := Lib.hid (HSk.out _ hHeld)
                                clear hHeld
                                go_wp2
                                go_roundw
                                case rel => exact ⟨m + 1, by omega, by go_num, by rw [HaE.out]; rfl, HK8.out⟩
                                case measure => simp [intOf]; omega
                              · rcases Hcases with rfl | rfl
                                · skip
                                  refine wp_region_noPanic ?_
                                  refine wp_region_held_drew (S := Sx) (by kernel_rfl) (by exact HSx.out _ (HK7.out.next (Below.refl _ _).drew)) (fun hHeld => ?_)
                                  refine wpAnyH_take (i := 0) (oi := { dst := some 111, op := Op.move (Operand.tmp 6), type := 4, pos := "kern.go:90", after := #[], guard := none }) (v := .bool true) rfl (by kernel_rfl) (by kernel_rfl) (by kernel_rfl) (fun _ _ _ h => h) (Or.inl ⟨by kernel_rfl, fun w hSw => by (obtain ⟨_, g0, g1, g2, g3, g4, g5, g6, g7, g8, g9, g10, g11⟩ := HSo.out _ hSw; go_simp)⟩) hHeld ?_
                                  (try simp only [Act.put, List.setIfInBounds_toArray, List.set_cons_zero, List.set_cons_succ])
                                  refine wpAnyH_take (i := 1) (oi := { dst := some 112, op := Op.move (Operand.tmp 111), type := 4, pos := "kern.go:90", after := #[{ on := 0, ground := Ground.data }], guard := none }) (v := .bool true) rfl (by kernel_rfl) (by kernel_rfl) (by kernel_rfl) (fun _ _ _ h => h) (Or.inl ⟨by kernel_rfl, fun w hSw => by (obtain ⟨_, g0, g1, g2, g3, g4, g5, g6, g7, g8, g9, g10, g11⟩ := HSo.out _ hSw; go_simp)⟩) hHeld ?_
                                  (try simp only [Act.put, List.setIfInBounds_toArray, List.set_cons_zero, List.set_cons_succ])
                                  refine wpAnyH_take (i := 2) (oi := { dst := some 113, op := Op.load 28 (Operand.tmp 1), type := 28, pos := "kern.go:90", after := #[{ on := 1, ground := Ground.guard }], guard := some (1, true) }) (v := .agg #[.slice A k.mods.length ca, .slice M 1024 cm, .slice N 8 cn, .slice S 6 cs, .slice (some ⟨b, off, none⟩) 4 cq]) rfl (by kernel_rfl) (by kernel_rfl) (by kernel_rfl) (fun _ _ _ h => h) (Or.inl ⟨by kernel_rfl, fun w hSw => by (obtain ⟨_, g0, g1, g2, g3, g4, g5, g6, g7, g8, g9, g10, g11⟩ := HSo.out _ hSw; go_simp)⟩) hHeld ?_
                                  (try simp only [Act.put, List.setIfInBounds_toArray, List.set_cons_zero, List.set_cons_succ])
                                  refine wpAnyH_take (i := 3) (oi := { dst := some 114, op := Op.fieldAddr 45 (Operand.tmp 9) 1, type := 0, pos := "kern.go:90", after := #[{ on := 1, ground := Ground.guard }], guard := some (1, true) }) (v := .pointer (some ⟨wA.heap.size, 1, none⟩)) rfl (by kernel_rfl) (by kernel_rfl) (by kernel_rfl) (fun _ _ _ h => h) (Or.inl ⟨by kernel_rfl, fun w hSw => by (obtain ⟨_, g0, g1, g2, g3, g4, g5, g6, g7, g8, g9, g10, g11⟩ := HSo.out _ hSw; go_simp)⟩) hHeld ?_
                                  (try simp only [Act.put, List.setIfInBounds_toArray, List.set_cons_zero, List.set_cons_succ])
                                  refine wpAnyH_take (i := 4) (oi := { dst := some 115, op := Op.load 43 (Operand.tmp 114), type := 43, pos := "kern.go:90", after := #[{ on := 3, ground := Ground.data }, { on := 1, ground := Ground.guard }], guard := some (1, true) }) (v := .slice (some ⟨b2, o2, none⟩) p.ends.length c9) rfl (by kernel_rfl) (by kernel_rfl) (by kernel_rfl) (fun _ _ _ h => h) (Or.inl ⟨by kernel_rfl, fun w hSw => by (obtain ⟨_, g0, g1, g2, g3, g4, g5, g6, g7, g8, g9, g10, g11⟩ := HSo.out _ hSw; go_simp)⟩) hHeld ?_
                                  (try simp only [Act.put, List.setIfInBounds_toArray, List.set_cons_zero, List.set_cons_succ])
                                  refine wpAnyH_take (i := 5) (oi := { dst := some 116, op := Op.move (Operand.tmp 10), type := 3, pos := "kern.go:90", after := #[{ on := 1, ground := Ground.guard }], guard := some (1, true) }) (v := .int .i64 m) rfl (by kernel_rfl) (by kernel_rfl) (by kernel_rfl) (fun _ _ _ h => h) (Or.inl ⟨by kernel_rfl, fun w hSw => by (obtain ⟨_, g0, g1, g2, g3, g4, g5, g6, g7, g8, g9, g10, g11⟩ := HSo.out _ hSw; go_simp)⟩) hHeld ?_
                                  (try simp only [Act.put, List.setIfInBounds_toArray, List.set_cons_zero, List.set_cons_succ])
                                  refine wpAnyH_take (i := 6) (oi := { dst := some 117, op := Op.indexAddr 43 (Operand.tmp 115) (Operand.tmp 116), type := 0, pos := "kern.go:90", after := #[{ on := 4, ground := Ground.data }, { on := 5, ground := Ground.data }, { on := 1, ground := Ground.guard }], guard := some (1, true) }) (v := .pointer (some ⟨b2, o2 + m * 3, none⟩)) rfl (by kernel_rfl) (by kernel_rfl) (by kernel_rfl) (fun _ _ _ h => h) (Or.inl ⟨by kernel_rfl, fun w hSw => by (obtain ⟨_, g0, g1, g2, g3, g4, g5, g6, g7, g8, g9, g10, g11⟩ := HSo.out _ hSw; go_simp)⟩) hHeld ?_
                                  (try simp only [Act.put, List.setIfInBounds_toArray, List.set_cons_zero, List.set_cons_succ])
                                  refine wpAnyH_take (i := 7) (oi := { dst := some 118, op := Op.load 48 (Operand.tmp 117), type := 48, pos := "kern.go:90", after := #[{ on := 6, ground := Ground.data }, { on := 1, ground := Ground.guard }], guard := some (1, true) }) (v := .agg #[.int .i64 kd, .int .i64 nd, .int .i64 po]) rfl (by kernel_rfl) (by kernel_rfl) (by kernel_rfl) (fun _ _ _ h => h) (Or.inl ⟨by kernel_rfl, fun w hSw => by (obtain ⟨_, g0, g1, g2, g3, g4, g5, g6, g7, g8, g9, g10, g11⟩ := HSo.out _ hSw; go_simp)⟩) hHeld ?_
                                  (try simp only [Act.put, List.setIfInBounds_toArray, List.set_cons_zero, List.set_cons_succ])
                                  refine wpAnyH_ready (rs := [8]) (by kernel_rfl) (by simp) ?_
                                  refine AllReadyH.cons (o := { dst := some 119, op := Op.call { callee := Callee.value (Operand.func 16), args := #[Operand.tmp 113, Operand.tmp 118], argTypes := #[28, 48] }, type := 4, pos := "kern.go:90", after := #[{ on := 2, ground := Ground.data }, { on := 7, ground := Ground.data }, { on := 1, ground := Ground.chain }, { on := 1, ground := Ground.guard }], guard := some (1, true) }) rfl (fun K hK => ?_) AllReadyH.nil
                                  go_simp
                                  go_at_call 16; refine (HV.out _ (HSb.out _ hHeld)).mono ?_; rintro e w' ⟨rfl, hb'⟩
                                  go_wp2_with fail
                                  refine hK.out _ _ (HSx.out _ ((HSk.out _ hHeld).next hb')) (fun hHeld => ?_)
                                  clear hK K hb'
                                  (try simp only [Act.put, List.setIfInBounds_toArray, List.set_cons_zero, List.set_cons_succ])
                                  refine wpAnyH_take (i := 9) (oi := { dst := some 120, op := Op.pick (Operand.tmp 112) (Operand.tmp 119) (Operand.const (Value.bool false)), type := 4, pos := "kern.go:90", after := #[{ on := 1, ground := Ground.data }, { on := 8, ground := Ground.data }], guard := none }) (v := .bool true) rfl (by kernel_rfl) (by kernel_rfl) (by kernel_rfl) (fun _ _ _ h => h) (Or.inl ⟨by kernel_rfl, fun w hSw => by (obtain ⟨_, g0, g1, g2, g3, g4, g5, g6, g7, g8, g9, g10, g11⟩ := HSo.out _ hSw; go_simp)⟩) hHeld ?_
                                  (try simp only [Act.put, List.setIfInBounds_toArray, List.set_cons_zero, List.set_cons_succ])
                                  refine wpAnyH_take (i := 10) (oi := { dst := some 121, op := Op.move (Operand.tmp 120), type := 4, pos := "kern.go:90", after := #[{ on := 9, ground := Ground.data }, { on := 8, ground := Ground.chain }], guard := none }) (v := .bool true) rfl (by kernel_rfl) (by kernel_rfl) (by kernel_rfl) (fun _ _ _ h => h) (Or.inl ⟨by kernel_rfl, fun w hSw => by (obtain ⟨_, g0, g1, g2, g3, g4, g5, g6, g7, g8, g9, g10, g11⟩ := HSo.out _ hSw; go_simp)⟩) hHeld ?_
                                  (try simp only [Act.put, List.setIfInBounds_toArray, List.set_cons_zero, List.set_cons_succ])
                                  refine wpAnyH_take (i := 11) (oi := { dst := some 122, op := Op.fieldAddr 45 (Operand.tmp 9) 0, type := 0, pos := "kern.go:90", after := #[{ on := 10, ground := Ground.guard }], guard := some (10, true) }) (v := .pointer (some ⟨wA.heap.size, 0, none⟩)) rfl (by kernel_rfl) (by kernel_rfl) (by kernel_rfl) (fun _ _ _ h => h) (Or.inl ⟨by kernel_rfl, fun w hSw => by (obtain ⟨_, g0, g1, g2, g3, g4, g5, g6, g7, g8, g9, g10, g11⟩ := HSo.out _ hSw; go_simp)⟩) hHeld ?_
                                  (try simp only [Act.put, List.setIfInBounds_toArray, List.set_cons_zero, List.set_cons_succ])
                                  refine wpAnyH_take (i := 12) (oi := { dst := some 123, op := Op.load 4 (Operand.tmp 122), type := 4, pos := "kern.go:90", after := #[{ on := 11, ground := Ground.data }, { on := 10, ground := Ground.guard }], guard := some (10, true) }) (v := .bool true) rfl (by kernel_rfl) (by kernel_rfl) (by kernel_rfl) (fun _ _ _ h => h) (Or.inl ⟨by kernel_rfl, fun w hSw => by (obtain ⟨_, g0, g1, g2, g3, g4, g5, g6, g7, g8, g9, g10, g11⟩ := HSo.out _ hSw; go_simp)⟩) hHeld ?_
                                  (try simp only [Act.put, List.setIfInBounds_toArray, List.set_cons_zero, List.set_cons_succ])
                                  refine wpAnyH_take (i := 13) (oi := { dst := some 124, op := Op.move (Operand.tmp 123), type := 4, pos := "kern.go:90", after := #[{ on := 12, ground := Ground.data }, { on := 10, ground := Ground.chain }, { on := 10, ground := Ground.guard }], guard := some (10, true) }) (v := .bool true) rfl (by kernel_rfl) (by kernel_rfl) (by kernel_rfl) (fun _ _ _ h => h) (Or.inl ⟨by kernel_rfl, fun w hSw => by (obtain ⟨_, g0, g1, g2, g3, g4, g5, g6, g7, g8, g9, g10, g11⟩ := HSo.out _ hSw; go_simp)⟩) hHeld ?_
                                  (try simp only [Act.put, List.setIfInBounds_toArray, List.set_cons_zero, List.set_cons_succ])
                                  refine wpAnyH_take (i := 14) (oi := { dst := some 125, op := Op.fieldAddr 45 (Operand.tmp 9) 1, type := 0, pos := "kern.go:90", after := #[{ on := 13, ground := Ground.guard }], guard := some (13, false) }) (v := undef) rfl (by kernel_rfl) (by kernel_rfl) (by kernel_rfl) (fun _ _ _ h => h) (Or.inr ⟨by kernel_rfl, rfl⟩) hHeld ?_
                                  (try simp only [Act.put, List.setIfInBounds_toArray, List.set_cons_zero, List.set_cons_succ])
                                  refine wpAnyH_take (i := 15) (oi := { dst := some 126, op := Op.load 43 (Operand.tmp 125), type := 43, pos := "kern.go:90", after := #[{ on := 14, ground := Ground.data }, { on := 13, ground := Ground.guard }], guard := some (13, false) }) (v := undef) rfl (by kernel_rfl) (by kernel_rfl) (by kernel_rfl) (fun _ _ _ h => h) (Or.inr ⟨by kernel_rfl, rfl⟩) hHeld ?_
                                  (try simp only [Act.put, List.setIfInBounds_toArray, List.set_cons_zero, List.set_cons_succ])
                                  refine wpAnyH_take (i := 16) (oi := { dst := some 127, op := Op.move (Operand.tmp 10), type := 3, pos := "kern.go:90", after := #[{ on := 13, ground := Ground.guard }], guard := some (13, false) }) (v := undef) rfl (by kernel_rfl) (by kernel_rfl) (by kernel_rfl) (fun _ _ _ h => h) (Or.inr ⟨by kernel_rfl, rfl⟩) hHeld ?_
                                  (try simp only [Act.put, List.setIfInBounds_toArray, List.set_cons_zero, List.set_cons_succ])
                                  refine wpAnyH_take (i := 17) (oi := { dst := some 128, op := Op.indexAddr 43 (Operand.tmp 126) (Operand.tmp 127), type := 0, pos := "kern.go:90", after := #[{ on := 15, ground := Ground.data }, { on := 16, ground := Ground.data }, { on := 13, ground := Ground.guard }], guard := some (13, false) }) (v := undef) rfl (by kernel_rfl) (by kernel_rfl) (by kernel_rfl) (fun _ _ _ h => h) (Or.inr ⟨by kernel_rfl, rfl⟩) hHeld ?_
                                  (try simp only [Act.put, List.setIfInBounds_toArray, List.set_cons_zero, List.set_cons_succ])
                                  refine wpAnyH_take (i := 18) (oi := { dst := some 129, op := Op.fieldAddr 48 (Operand.tmp 128) 0, type := 0, pos := "kern.go:90", after := #[{ on := 17, ground := Ground.data }, { on := 13, ground := Ground.guard }], guard := some (13, false) }) (v := undef) rfl (by kernel_rfl) (by kernel_rfl) (by kernel_rfl) (fun _ _ _ h => h) (Or.inr ⟨by kernel_rfl, rfl⟩) hHeld ?_
                                  (try simp only [Act.put, List.setIfInBounds_toArray, List.set_cons_zero, List.set_cons_succ])
                                  refine wpAnyH_take (i := 19) (oi := { dst := some 130, op := Op.load 3 (Operand.tmp 129), type := 3, pos := "kern.go:90", after := #[{ on := 18, ground := Ground.data }, { on := 13, ground := Ground.guard }], guard := some (13, false) }) (v := undef) rfl (by kernel_rfl) (by kernel_rfl) (by kernel_rfl) (fun _ _ _ h => h) (Or.inr ⟨by kernel_rfl, rfl⟩) hHeld ?_
                                  (try simp only [Act.put, List.setIfInBounds_toArray, List.set_cons_zero, List.set_cons_succ])
                                  refine wpAnyH_take (i := 20) (oi := { dst := some 131, op := Op.binOp BinOp.eql 3 (Operand.tmp 130) (Operand.const (Value.int IntKind.i64 0)) 3, type := 4, pos := "kern.go:90", after := #[{ on := 19, ground := Ground.data }, { on := 13, ground := Ground.guard }], guard := some (13, false) }) (v := undef) rfl (by kernel_rfl) (by kernel_rfl) (by kernel_rfl) (fun _ _ _ h => h) (Or.inr ⟨by kernel_rfl, rfl⟩) hHeld ?_
                                  (try simp only [Act.put, List.setIfInBounds_toArray, List.set_cons_zero, List.set_cons_succ])
                                  refine wpAnyH_take (i := 21) (oi := { dst := some 132, op := Op.pick (Operand.tmp 124) (Operand.const (Value.bool true)) (Operand.tmp 131), type := 4, pos := "kern.go:90", after := #[{ on := 13, ground := Ground.data }, { on := 20, ground := Ground.data }, { on := 10, ground := Ground.guard }], guard := some (10, true) }) (v := .bool true) rfl (by kernel_rfl) (by kernel_rfl) (by kernel_rfl) (fun _ _ _ h => h) (Or.inl ⟨by kernel_rfl, fun w hSw => by (obtain ⟨_, g0, g1, g2, g3, g4, g5, g6, g7, g8, g9, g10, g11⟩ := HSo.out _ hSw; go_simp)⟩) hHeld ?_
                                  (try simp only [Act.put, List.setIfInBounds_toArray, List.set_cons_zero, List.set_cons_succ])
                                  refine wpAnyH_take (i := 22) (oi := { dst := some 133, op := Op.pick (Operand.tmp 121) (Operand.tmp 132) (Operand.const (Value.bool false)), type := 4, pos := "kern.go:90", after := #[{ on := 10, ground := Ground.data }, { on := 21, ground := Ground.data }], guard := none }) (v := .bool true) rfl (by kernel_rfl) (by kernel_rfl) (by kernel_rfl) (fun _ _ _ h => h) (Or.inl ⟨by kernel_rfl, fun w hSw => by (obtain ⟨_, g0, g1, g2, g3, g4, g5, g6, g7, g8, g9, g10, g11⟩ := HSo.out _ hSw; go_simp)⟩) hHeld ?_
                                  (try simp only [Act.put, List.setIfInBounds_toArray, List.set_cons_zero, List.set_cons_succ])
                                  refine wpAnyH_take (i := 23) (oi := { dst := some 6, op := Op.assign (Operand.tmp 133), type := 4, pos := "kern.go:90", after := #[{ on := 22, ground := Ground.data }, { on := 13, ground := Ground.chain }, { on := 0, ground := Ground.phase }, { on := 1, ground := Ground.phase }, { on := 2, ground := Ground.phase }, { on := 3, ground := Ground.phase }, { on := 4, ground := Ground.phase }, { on := 5, ground := Ground.phase }, { on := 6, ground := Ground.phase }, { on := 7, ground := Ground.phase }, { on := 8, ground := Ground.phase }, { on := 9, ground := Ground.phase }, { on := 10, ground := Ground.phase }, { on := 11, ground := Ground.phase }, { on := 12, ground := Ground.phase }, { on := 13, ground := Ground.phase }, { on := 14, ground := Ground.phase }, { on := 15, ground := Ground.phase }, { on := 16, ground := Ground.phase }, { on := 17, ground := Ground.phase }, { on := 18, ground := Ground.phase }, { on := 19, ground := Ground.phase }, { on := 20, ground := Ground.phase }, { on := 21, ground := Ground.phase }, { on := 22, ground := Ground.phase }], guard := none }) (v := .bool true) rfl (by kernel_rfl) (by kernel_rfl) (by kernel_rfl) (fun _ _ _ h => h) (Or.inl ⟨by kernel_rfl, fun w hSw => by (obtain ⟨_, g0, g1, g2, g3, g4, g5, g6, g7, g8, g9, g10, g11⟩ := HSo.out _ hSw; go_simp)⟩) hHeld ?_
                                  (try simp only [Act.put, List.setIfInBounds_toArray, List.set_cons_zero, List.set_cons_succ])
                                  refine wpAnyH_done (by kernel_rfl) ?_ _
                                  refine NoPanic.normal ?_
                                  have HK8 := Lib.hid (HSk.out _ hHeld)
                                  clear hHeld
                                  go_wp2
                                  go_roundw
                                  case rel => exact ⟨m + 1, by omega, by go_num, by rw [HaE.out]; rfl, HK8.out⟩
                                  case measure => simp [intOf]; omega
                                · skip
                                  refine wp_region_noPanic ?_
                                  refine wp_region_held_drew (S := Sx) (by kernel_rfl) (by exact HSx.out _ (HK7.out.next (Below.refl _ _).drew)) (fun hHeld => ?_)
                                  refine wpAnyH_take (i := 0) (oi := { dst := some 111, op := Op.move (Operand.tmp 6), type := 4, pos := "kern.go:90", after := #[], guard := none }) (v := .bool true) rfl (by kernel_rfl) (by kernel_rfl) (by kernel_rfl) (fun _ _ _ h => h) (Or.inl ⟨by kernel_rfl, fun w hSw => by (obtain ⟨_, g0, g1, g2, g3, g4, g5, g6, g7, g8, g9, g10, g11⟩ := HSo.out _ hSw; go_simp)⟩) hHeld ?_
                                  (try simp only [Act.put, List.setIfInBounds_toArray, List.set_cons_zero, List.set_cons_succ])
                                  refine wpAnyH_take (i := 1) (oi := { dst := some 112, op := Op.move (Operand.tmp 111), type := 4, pos := "kern.go:90", after := #[{ on := 0, ground := Ground.data }], guard := none }) (v := .bool true) rfl (by kernel_rfl) (by kernel_rfl) (by kernel_rfl) (fun _ _ _ h => h) (Or.inl ⟨by kernel_rfl, fun w hSw => by (obtain ⟨_, g0, g1, g2, g3, g4, g5, g6, g7, g8, g9, g10, g11⟩ := HSo.out _ hSw; go_simp)⟩) hHeld ?_
                                  (try simp only [Act.put, List.setIfInBounds_toArray, List.set_cons_zero, List.set_cons_succ])
                                  refine wpAnyH_take (i := 2) (oi := { dst := some 113, op := Op.load 28 (Operand.tmp 1), type := 28, pos := "kern.go:90", after := #[{ on := 1, ground := Ground.guard }], guard := some (1, true) }) (v := .agg #[.slice A k.mods.length ca, .slice M 1024 cm, .slice N 8 cn, .slice S 6 cs, .slice (some ⟨b, off, none⟩) 4 cq]) rfl (by kernel_rfl) (by kernel_rfl) (by kernel_rfl) (fun _ _ _ h => h) (Or.inl ⟨by kernel_rfl, fun w hSw => by (obtain ⟨_, g0, g1, g2, g3, g4, g5, g6, g7, g8, g9, g10, g11⟩ := HSo.out _ hSw; go_simp)⟩) hHeld ?_
                                  (try simp only [Act.put, List.setIfInBounds_toArray, List.set_cons_zero, List.set_cons_succ])
                                  refine wpAnyH_take (i := 3) (oi := { dst := some 114, op := Op.fieldAddr 45 (Operand.tmp 9) 1, type := 0, pos := "kern.go:90", after := #[{ on := 1, ground := Ground.guard }], guard := some (1, true) }) (v := .pointer (some ⟨wA.heap.size, 1, none⟩)) rfl (by kernel_rfl) (by kernel_rfl) (by kernel_rfl) (fun _ _ _ h => h) (Or.inl ⟨by kernel_rfl, fun w hSw => by (obtain ⟨_, g0, g1, g2, g3, g4, g5, g6, g7, g8, g9, g10, g11⟩ := HSo.out _ hSw; go_simp)⟩) hHeld ?_
                                  (try simp only [Act.put, List.setIfInBounds_toArray, List.set_cons_zero, List.set_cons_succ])
                                  refine wpAnyH_take (i := 4) (oi := { dst := some 115, op := Op.load 43 (Operand.tmp 114), type := 43, pos := "kern.go:90", after := #[{ on := 3, ground := Ground.data }, { on := 1, ground := Ground.guard }], guard := some (1, true) }) (v := .slice (some ⟨b2, o2, none⟩) p.ends.length c9) rfl (by kernel_rfl) (by kernel_rfl) (by kernel_rfl) (fun _ _ _ h => h) (Or.inl ⟨by kernel_rfl, fun w hSw => by (obtain ⟨_, g0, g1, g2, g3, g4, g5, g6, g7, g8, g9, g10, g11⟩ := HSo.out _ hSw; go_simp)⟩) hHeld ?_
                                  (try simp only [Act.put, List.setIfInBounds_toArray, List.set_cons_zero, List.set_cons_succ])
                                  refine wpAnyH_take (i := 5) (oi := { dst := some 116, op := Op.move (Operand.tmp 10), type := 3, pos := "kern.go:90", after := #[{ on := 1, ground := Ground.guard }], guard := some (1, true) }) (v := .int .i64 m) rfl (by kernel_rfl) (by kernel_rfl) (by kernel_rfl) (fun _ _ _ h => h) (Or.inl ⟨by kernel_rfl, fun w hSw => by (obtain ⟨_, g0, g1, g2, g3, g4, g5, g6, g7, g8, g9, g10, g11⟩ := HSo.out _ hSw; go_simp)⟩) hHeld ?_
                                  (try simp only [Act.put, List.setIfInBounds_toArray, List.set_cons_zero, List.set_cons_succ])
                                  refine wpAnyH_take (i := 6) (oi := { dst := some 117, op := Op.indexAddr 43 (Operand.tmp 115) (Operand.tmp 116), type := 0, pos := "kern.go:90", after := #[{ on := 4, ground := Ground.data }, { on := 5, ground := Ground.data }, { on := 1, ground := Ground.guard }], guard := some (1, true) }) (v := .pointer (some ⟨b2, o2 + m * 3, none⟩)) rfl (by kernel_rfl) (by kernel_rfl) (by kernel_rfl) (fun _ _ _ h => h) (Or.inl ⟨by kernel_rfl, fun w hSw => by (obtain ⟨_, g0, g1, g2, g3, g4, g5, g6, g7, g8, g9, g10, g11⟩ := HSo.out _ hSw; go_simp)⟩) hHeld ?_
                                  (try simp only [Act.put, List.setIfInBounds_toArray, List.set_cons_zero, List.set_cons_succ])
                                  refine wpAnyH_take (i := 7) (oi := { dst := some 118, op := Op.load 48 (Operand.tmp 117), type := 48, pos := "kern.go:90", after := #[{ on := 6, ground := Ground.data }, { on := 1, ground := Ground.guard }], guard := some (1, true) }) (v := .agg #[.int .i64 kd, .int .i64 nd, .int .i64 po]) rfl (by kernel_rfl) (by kernel_rfl) (by kernel_rfl) (fun _ _ _ h => h) (Or.inl ⟨by kernel_rfl, fun w hSw => by (obtain ⟨_, g0, g1, g2, g3, g4, g5, g6, g7, g8, g9, g10, g11⟩ := HSo.out _ hSw; go_simp)⟩) hHeld ?_
                                  (try simp only [Act.put, List.setIfInBounds_toArray, List.set_cons_zero, List.set_cons_succ])
                                  refine wpAnyH_ready (rs := [8]) (by kernel_rfl) (by simp) ?_
                                  refine AllReadyH.cons (o := { dst := some 119, op := Op.call { callee := Callee.value (Operand.func 16), args := #[Operand.tmp 113, Operand.tmp 118], argTypes := #[28, 48] }, type := 4, pos := "kern.go:90", after := #[{ on := 2, ground := Ground.data }, { on := 7, ground := Ground.data }, { on := 1, ground := Ground.chain }, { on := 1, ground := Ground.guard }], guard := some (1, true) }) rfl (fun K hK => ?_) AllReadyH.nil
                                  go_simp
                                  go_at_call 16; refine (HV.out _ (HSb.out _ hHeld)).mono ?_; rintro e w' ⟨rfl, hb'⟩
                                  go_wp2_with fail
                                  refine hK.out _ _ (HSx.out _ ((HSk.out _ hHeld).next hb')) (fun hHeld => ?_)
                                  clear hK K hb'
                                  (try simp only [Act.put, List.setIfInBounds_toArray, List.set_cons_zero, List.set_cons_succ])
                                  refine wpAnyH_take (i := 9) (oi := { dst := some 120, op := Op.pick (Operand.tmp 112) (Operand.tmp 119) (Operand.const (Value.bool false)), type := 4, pos := "kern.go:90", after := #[{ on := 1, ground := Ground.data }, { on := 8, ground := Ground.data }], guard := none }) (v := .bool true) rfl (by kernel_rfl) (by kernel_rfl) (by kernel_rfl) (fun _ _ _ h => h) (Or.inl ⟨by kernel_rfl, fun w hSw => by (obtain ⟨_, g0, g1, g2, g3, g4, g5, g6, g7, g8, g9, g10, g11⟩ := HSo.out _ hSw; go_simp)⟩) hHeld ?_
                                  (try simp only [Act.put, List.setIfInBounds_toArray, List.set_cons_zero, List.set_cons_succ])
                                  refine wpAnyH_take (i := 10) (oi := { dst := some 121, op := Op.move (Operand.tmp 120), type := 4, pos := "kern.go:90", after := #[{ on := 9, ground := Ground.data }, { on := 8, ground := Ground.chain }], guard := none }) (v := .bool true) rfl (by kernel_rfl) (by kernel_rfl) (by kernel_rfl) (fun _ _ _ h => h) (Or.inl ⟨by kernel_rfl, fun w hSw => by (obtain ⟨_, g0, g1, g2, g3, g4, g5, g6, g7, g8, g9, g10, g11⟩ := HSo.out _ hSw; go_simp)⟩) hHeld ?_
                                  (try simp only [Act.put, List.setIfInBounds_toArray, List.set_cons_zero, List.set_cons_succ])
                                  refine wpAnyH_take (i := 11) (oi := { dst := some 122, op := Op.fieldAddr 45 (Operand.tmp 9) 0, type := 0, pos := "kern.go:90", after := #[{ on := 10, ground := Ground.guard }], guard := some (10, true) }) (v := .pointer (some ⟨wA.heap.size, 0, none⟩)) rfl (by kernel_rfl) (by kernel_rfl) (by kernel_rfl) (fun _ _ _ h => h) (Or.inl ⟨by kernel_rfl, fun w hSw => by (obtain ⟨_, g0, g1, g2, g3, g4, g5, g6, g7, g8, g9, g10, g11⟩ := HSo.out _ hSw; go_simp)⟩) hHeld ?_
                                  (try simp only [Act.put, List.setIfInBounds_toArray, List.set_cons_zero, List.set_cons_succ])
                                  refine wpAnyH_take (i := 12) (oi := { dst := some 123, op := Op.load 4 (Operand.tmp 122), type := 4, pos := "kern.go:90", after := #[{ on := 11, ground := Ground.data }, { on := 10, ground := Ground.guard }], guard := some (10, true) }) (v := .bool false) rfl (by kernel_rfl) (by kernel_rfl) (by kernel_rfl) (fun _ _ _ h => h) (Or.inl ⟨by kernel_rfl, fun w hSw => by (obtain ⟨_, g0, g1, g2, g3, g4, g5, g6, g7, g8, g9, g10, g11⟩ := HSo.out _ hSw; go_simp)⟩) hHeld ?_
                                  (try simp only [Act.put, List.setIfInBounds_toArray, List.set_cons_zero, List.set_cons_succ])
                                  refine wpAnyH_take (i := 13) (oi := { dst := some 124, op := Op.move (Operand.tmp 123), type := 4, pos := "kern.go:90", after := #[{ on := 12, ground := Ground.data }, { on := 10, ground := Ground.chain }, { on := 10, ground := Ground.guard }], guard := some (10, true) }) (v := .bool false) rfl (by kernel_rfl) (by kernel_rfl) (by kernel_rfl) (fun _ _ _ h => h) (Or.inl ⟨by kernel_rfl, fun w hSw => by (obtain ⟨_, g0, g1, g2, g3, g4, g5, g6, g7, g8, g9, g10, g11⟩ := HSo.out _ hSw; go_simp)⟩) hHeld ?_
                                  (try simp only [Act.put, List.setIfInBounds_toArray, List.set_cons_zero, List.set_cons_succ])
                                  refine wpAnyH_take (i := 14) (oi := { dst := some 125, op := Op.fieldAddr 45 (Operand.tmp 9) 1, type := 0, pos := "kern.go:90", after := #[{ on := 13, ground := Ground.guard }], guard := some (13, false) }) (v := .pointer (some ⟨wA.heap.size, 1, none⟩)) rfl (by kernel_rfl) (by kernel_rfl) (by kernel_rfl) (fun _ _ _ h => h) (Or.inl ⟨by kernel_rfl, fun w hSw => by (obtain ⟨_, g0, g1, g2, g3, g4, g5, g6, g7, g8, g9, g10, g11⟩ := HSo.out _ hSw; go_simp)⟩) hHeld ?_
                                  (try simp only [Act.put, List.setIfInBounds_toArray, List.set_cons_zero, List.set_cons_succ])
                                  refine wpAnyH_take (i := 15) (oi := { dst := some 126, op := Op.load 43 (Operand.tmp 125), type := 43, pos := "kern.go:90", after := #[{ on := 14, ground := Ground.data }, { on := 13, ground := Ground.guard }], guard := some (13, false) }) (v := .slice (some ⟨b2, o2, none⟩) p.ends.length c9) rfl (by kernel_rfl) (by kernel_rfl) (by kernel_rfl) (fun _ _ _ h => h) (Or.inl ⟨by kernel_rfl, fun w hSw => by (obtain ⟨_, g0, g1, g2, g3, g4, g5, g6, g7, g8, g9, g10, g11⟩ := HSo.out _ hSw; go_simp)⟩) hHeld ?_
                                  (try simp only [Act.put, List.setIfInBounds_toArray, List.set_cons_zero, List.set_cons_succ])
                                  refine wpAnyH_take (i := 16) (oi := { dst := some 127, op := Op.move (Operand.tmp 10), type := 3, pos := "kern.go:90", after := #[{ on := 13, ground := Ground.guard }], guard := some (13, false) }) (v := .int .i64 m) rfl (by kernel_rfl) (by kernel_rfl) (by kernel_rfl) (fun _ _ _ h => h) (Or.inl ⟨by kernel_rfl, fun w hSw => by (obtain ⟨_, g0, g1, g2, g3, g4, g5, g6, g7, g8, g9, g10, g11⟩ := HSo.out _ hSw; go_simp)⟩) hHeld ?_
                                  (try simp only [Act.put, List.setIfInBounds_toArray, List.set_cons_zero, List.set_cons_succ])
                                  refine wpAnyH_take (i := 17) (oi := { dst := some 128, op := Op.indexAddr 43 (Operand.tmp 126) (Operand.tmp 127), type := 0, pos := "kern.go:90", after := #[{ on := 15, ground := Ground.data }, { on := 16, ground := Ground.data }, { on := 13, ground := Ground.guard }], guard := some (13, false) }) (v := .pointer (some ⟨b2, o2 + m * 3, none⟩)) rfl (by kernel_rfl) (by kernel_rfl) (by kernel_rfl) (fun _ _ _ h => h) (Or.inl ⟨by kernel_rfl, fun w hSw => by (obtain ⟨_, g0, g1, g2, g3, g4, g5, g6, g7, g8, g9, g10, g11⟩ := HSo.out _ hSw; go_simp)⟩) hHeld ?_
                                  (try simp only [Act.put, List.setIfInBounds_toArray, List.set_cons_zero, List.set_cons_succ])
                                  refine wpAnyH_take (i := 18) (oi := { dst := some 129, op := Op.fieldAddr 48 (Operand.tmp 128) 0, type := 0, pos := "kern.go:90", after := #[{ on := 17, ground := Ground.data }, { on := 13, ground := Ground.guard }], guard := some (13, false) }) (v := .pointer (some ⟨b2, o2 + m * 3, none⟩)) rfl (by kernel_rfl) (by kernel_rfl) (by kernel_rfl) (fun _ _ _ h => h) (Or.inl ⟨by kernel_rfl, fun w hSw => by (obtain ⟨_, g0, g1, g2, g3, g4, g5, g6, g7, g8, g9, g10, g11⟩ := HSo.out _ hSw; go_simp)⟩) hHeld ?_
                                  (try simp only [Act.put, List.setIfInBounds_toArray, List.set_cons_zero, List.set_cons_succ])
                                  refine wpAnyH_take (i := 19) (oi := { dst := some 130, op := Op.load 3 (Operand.tmp 129), type := 3, pos := "kern.go:90", after := #[{ on := 18, ground := Ground.data }, { on := 13, ground := Ground.guard }], guard := some (13, false) }) (v := .int .i64 kd) rfl (by kernel_rfl) (by kernel_rfl) (by kernel_rfl) (fun _ _ _ h => h) (Or.inl ⟨by kernel_rfl, fun w hSw => by (obtain ⟨_, g0, g1, g2, g3, g4, g5, g6, g7, g8, g9, g10, g11⟩ := HSo.out _ hSw; go_simp)⟩) hHeld ?_
                                  (try simp only [Act.put, List.setIfInBounds_toArray, List.set_cons_zero, List.set_cons_succ])
                                  refine wpAnyH_take (i := 20) (oi := { dst := some 131, op := Op.binOp BinOp.eql 3 (Operand.tmp 130) (Operand.const (Value.int IntKind.i64 0)) 3, type := 4, pos := "kern.go:90", after := #[{ on := 19, ground := Ground.data }, { on := 13, ground := Ground.guard }], guard := some (13, false) }) (v := .bool false) rfl (by kernel_rfl) (by kernel_rfl) (by kernel_rfl) (fun _ _ _ h => h) (Or.inl ⟨by kernel_rfl, fun w hSw => by (obtain ⟨_, g0, g1, g2, g3, g4, g5, g6, g7, g8, g9, g10, g11⟩ := HSo.out _ hSw; go_simp; (try simp [hk1]))⟩) hHeld ?_
                                  (try simp only [Act.put, List.setIfInBounds_toArray, List.set_cons_zero, List.set_cons_succ])
                                  refine wpAnyH_take (i := 21) (oi := { dst := some 132, op := Op.pick (Operand.tmp 124) (Operand.const (Value.bool true)) (Operand.tmp 131), type := 4, pos := "kern.go:90", after := #[{ on := 13, ground := Ground.data }, { on := 20, ground := Ground.data }, { on := 10, ground := Ground.guard }], guard := some (10, true) }) (v := .bool false) rfl (by kernel_rfl) (by kernel_rfl) (by kernel_rfl) (fun _ _ _ h => h) (Or.inl ⟨by kernel_rfl, fun w hSw => by (obtain ⟨_, g0, g1, g2, g3, g4, g5, g6, g7, g8, g9, g10, g11⟩ := HSo.out _ hSw; go_simp)⟩) hHeld ?_
                                  (try simp only [Act.put, List.setIfInBounds_toArray, List.set_cons_zero, List.set_cons_succ])
                                  refine wpAnyH_take (i := 22) (oi := { dst := some 133, op := Op.pick (Operand.tmp 121) (Operand.tmp 132) (Operand.const (Value.bool false)), type := 4, pos := "kern.go:90", after := #[{ on := 10, ground := Ground.data }, { on := 21, ground := Ground.data }], guard := none }) (v := .bool false) rfl (by kernel_rfl) (by kernel_rfl) (by kernel_rfl) (fun _ _ _ h => h) (Or.inl ⟨by kernel_rfl, fun w hSw => by (obtain ⟨_, g0, g1, g2, g3, g4, g5, g6, g7, g8, g9, g10, g11⟩ := HSo.out _ hSw; go_simp)⟩) hHeld ?_
                                  (try simp only [Act.put, List.setIfInBounds_toArray, List.set_cons_zero, List.set_cons_succ])
                                  refine wpAnyH_take (i := 23) (oi := { dst := some 6, op := Op.assign (Operand.tmp 133), type := 4, pos := "kern.go:90", after := #[{ on := 22, ground := Ground.data }, { on := 13, ground := Ground.chain }, { on := 0, ground := Ground.phase }, { on := 1, ground := Ground.phase }, { on := 2, ground := Ground.phase }, { on := 3, ground := Ground.phase }, { on := 4, ground := Ground.phase }, { on := 5, ground := Ground.phase }, { on := 6, ground := Ground.phase }, { on := 7, ground := Ground.phase }, { on := 8, ground := Ground.phase }, { on := 9, ground := Ground.phase }, { on := 10, ground := Ground.phase }, { on := 11, ground := Ground.phase }, { on := 12, ground := Ground.phase }, { on := 13, ground := Ground.phase }, { on := 14, ground := Ground.phase }, { on := 15, ground := Ground.phase }, { on := 16, ground := Ground.phase }, { on := 17, ground := Ground.phase }, { on := 18, ground := Ground.phase }, { on := 19, ground := Ground.phase }, { on := 20, ground := Ground.phase }, { on := 21, ground := Ground.phase }, { on := 22, ground := Ground.phase }], guard := none }) (v := .bool false) rfl (by kernel_rfl) (by kernel_rfl) (by kernel_rfl) (fun _ _ _ h => h) (Or.inl ⟨by kernel_rfl, fun w hSw => by (obtain ⟨_, g0, g1, g2, g3, g4, g5, g6, g7, g8, g9, g10, g11⟩ := HSo.out _ hSw; go_simp)⟩) hHeld ?_
                                  (try simp only [Act.put, List.setIfInBounds_toArray, List.set_cons_zero, List.set_cons_succ])
                                  refine wpAnyH_done (by kernel_rfl) ?_ _
                                  refine NoPanic.normal ?_
                                  have HK8 := Lib.hid (HSk.out _ hHeld)
                                  clear hHeld
                                  go_wp2
                                  go_roundw
                                  case rel => exact ⟨m + 1, by omega, by go_num, by rw [HaE.out]; simp [hk0], HK8.out⟩
                                  case measure => simp [intOf]; omega
                        · go_wp2
                          go_roundw
                          case rel => exact ⟨n + 1, by omega, by go_num, by rw [HpE.out, HTL.out, take_len (by omega)], HK7.out.box⟩
                          case measure => simp [intOf]; omega
                    · have HFL := Lib.hid (show Value.bool (F && ((k.procs.take n).all (Cf.procB k) && (decide (p.ends.length = 6) && p.ends.all (fun e => Cf.endB k e && (p.live || Cf.freeB e))))) = .bool false by rw [decide_eq_false h6]; simp)
                      have h6' : ((p.ends.length : Int) == 6) = false := by simp; omega
                      clear hG h6
                      go_wp2_with fail
                      clear r0 r1 hl hsz c4
                      go_loopw [6, 10] (fun ok i wr' => ∃ m : Nat, m ≤ p.ends.length ∧ i = .int .i64 m ∧ ok = .bool false ∧ KPBox w KC wA.heap.size [.bool p.live, .slice A1 p.ends.length c9] wr') (fun _ i _ => p.ends.length - (intOf i).toNat)
                      case atStart => exact ⟨0, by omega, rfl, rfl, HK5.out⟩
                      case round =>
                        obtain ⟨m, hm, rfl, rfl, hK7⟩ := hrel
                        clear HK5
                        have HK7 := Lib.hid hK7
                        have q0 := hK7.2.1.cell 0
                        have q1 := hK7.2.1.cell 1
                        simp only [List.getElem?_cons_zero, List.getElem?_cons_succ] at q0 q1
                        have hwc := fun j => hK7.1.cell j
                        rw [HKC.out] at hwc
                        have c0 := hwc 0
                        have c1 := hwc 1
                        have c2 := hwc 2
                        have c3 := hwc 3
                        have c4 := hwc 4
                        simp only [List.getElem?_cons_zero, List.getElem?_cons_succ] at c0 c1 c2 c3 c4
                        have hl := hK7.1.lt
                        have hl2 := hK7.2.1.lt
                        have hsz7 := hK7.2.2.1.size
                        clear hK7 hwc
                        by_cases hlt2 : m < p.ends.length
                        · go_wp2_with fail
                          go_quiet (fail)
                          go_wp2
                          go_roundw
                          case rel => exact ⟨m + 1, by omega, by go_num, rfl, HK7.out.next (below_drewS _ _)⟩
                          case measure => simp [intOf]; omega
                        · go_wp2
                          go_roundw
                          case rel => exact ⟨n + 1, by omega, by go_num, by rw [HpE.out, HFL.out], HK7.out.box⟩
                          case measure => simp [intOf]; omega
                · obtain rfl : n = 4 := by omega
                  obtain ⟨Pb, hPb⟩ : ∃ Pb, Pb = Cf.procsB k := ⟨_, rfl⟩
                  have hP2 : (k.procs.take 4).all (Cf.procB k) = Pb := by rw [hPb]; unfold Cf.procsB; rw [List.take_of_length_le (by rw [Hz4.out]; omega)]
                  rw [← hPb] at HT2
                  rw [hP2]
                  clear hPb hP2 hlt hn c4 hl hsz
                  generalize hG : (F && Pb) = G
                  have HG := Lib.hid hG
                  clear hG
                  go_wp2
                  go_loopw [6, 11] (fun ok i wr' => ∃ n : Nat, n ≤ 6 ∧ i = .int .i64 n ∧ ok = .bool (G && (List.range n).all (Cf.pipeB k)) ∧ KBox w w.heap.size KC wr') (fun _ i _ => 6 - (intOf i).toNat)
                  case atStart => exact ⟨0, by omega, rfl, by simp, HK.out⟩
                  case round =>
                    obtain ⟨n, hn, rfl, rfl, hK⟩ := hrel
                    clear HK
                    have HK := Lib.hid hK
                    have hwc := fun j => hK.1.cell j
                    rw [HKC.out] at hwc
                    have c0 := hwc 0
                    have c1 := hwc 1
                    have c2 := hwc 2
                    have c3 := hwc 3
                    have c4 := hwc 4
                    simp only [List.getElem?_cons_zero, List.getElem?_cons_succ] at c0 c1 c2 c3 c4
                    have hl := hK.1.lt
                    clear hK hwc
                    by_cases hlt : n < 6
                    · obtain ⟨str, hx⟩ : ∃ str, k.pipes[n]? = some str := ⟨_, List.getElem?_eq_getElem (by rw [Hz3.out]; exact hlt)⟩
                      have HaE := Lib.hid (show (G && (List.range (n + 1)).all (Cf.pipeB k)) = ((G && (List.range n).all (Cf.pipeB k)) && (decide (str.length ≤ 20) && (decide (str = []) || Cf.hasB k.procs 2 n))) by
                        rw [all_next, ← Bool.and_assoc]
                        unfold Cf.pipeB
                        rw [hx])
                      have Hx := Lib.hid hx
                      rcases HR.out.pipes with h | ⟨b3, o3, hA3, hb3, hc3⟩
                      · rw [h] at hx; simp at hx
                      simp only at hA3
                      subst hA3
                      have t0 : wr.cell? ⟨b3, o3 + n, none⟩ = some (.string ⟨str.toArray⟩) := (HK.out.2.cell hb3).trans (by have := hc3 n _ hx 0 _ rfl; simpa using this)
                      have HV := Lib.hid (rHas_any k _ 2 n wr (HR.out.below HK.out.2) HF.out)
                      rw [← HKE.out, HKC.out] at HV
                      clear hx hc3
                      generalize Cf.hasB k.procs 2 n = q at *
                      cases hok : (G && (List.range n).all (Cf.pipeB k))
                      · rw [hok] at HaE
                        clear hok HV
                        go_wp2
                        go_roundw
                        case rel => exact ⟨n + 1, by omega, by go_num, by rw [HaE.out]; rfl, HK.out⟩
                        case measure => simp [intOf]; omega
                      · rw [hok] at HaE
                        clear hok
                        by_cases h20 : str.length ≤ 20
                        · by_cases hs0 : str = []
                          · subst hs0
                            clear HV
                            go_wp2
                            go_roundw
                            case rel => exact ⟨n + 1, by omega, by go_num, by rw [HaE.out]; rfl, HK.out⟩
                            case measure => simp [intOf]; omega
                          · have hs1 : ¬ str.isEmpty = true := by simpa using hs0
                            have HaF := Lib.hid (show Value.bool q = .bool (G && (List.range (n + 1)).all (Cf.pipeB k)) by rw [HaE.out]; simp [h20, hs0])
                            clear hs0
                            go_wp2_with fail
                            refine HV.out.mono ?_
                            rintro e w2 ⟨rfl, hb2⟩
                            have HK2 := Lib.hid (HK.out.next hb2)
                            clear HV hb2
                            go_wp2
                            go_roundw
                            case rel =>
                              first
                                | exact ⟨n + 1, by omega, by go_num, HaF.out, HK2.out⟩
                                | ((repeat apply Exists.intro); exact ⟨⟨n + 1, by omega, by go_num, HaF.out, HK2.out⟩, rfl⟩)
                            case measure => simp [intOf]; omega
                        · have Hpn := Lib.hid (show Cf.pipeB k n = false by unfold Cf.pipeB; rw [Hx.out]; simp [h20])
                          clear HV
                          go_wp2
                          go_roundw
                          case rel => exact ⟨n + 1, by omega, by go_num, fun _ => ⟨n, by omega, Hpn.out⟩, HK.out⟩
                          case measure => simp [intOf]; omega
                    · obtain rfl : n = 6 := by omega
                      have hZ : (G && (List.range 6).all (Cf.pipeB k)) = (F && (Pb && Cf.pipesB k)) := by
                        rw [← HG.out, Bool.and_assoc]
                        unfold Cf.pipesB
                        rw [Hz3.out]
                      rw [← hZ] at HT2
                      clear hZ c0 c1 c2 c3 c4
                      cases hq : (G && (List.range 6).all (Cf.pipeB k))
                      · have HR9 := Lib.hid (show Cf.kernT k = 9 by rw [HT2.out, hq]; rfl)
                        clear hq
                        go_wp2
                        go_ret
                        exact ⟨retI HR9.out.symm, HK.out.2⟩
                      · have HR0 := Lib.hid (show Cf.kernT k = 0 by rw [HT2.out, hq]; rfl)
                        clear hq
                        go_wp2
                        go_ret
                        exact ⟨retI HR0.out.symm, HK.out.2⟩
  · have hsf : Cf.sizedB k = false := by simpa using hsz
    rw [HT.out, hsf]
    have hb0 := hK0.2
    clear hK0 HT hR hf
    have hor : ¬ (k.mods.length ≤ 8 ∧ k.mem.length = 1024 ∧ k.nodes.length = 8 ∧ k.pipes.length = 6 ∧ k.procs.length = 4) := by
      intro h
      rw [show Cf.sizedB k = true by simp [Cf.sizedB, h]] at hsf
      cases hsf
    simp only [kcells] at hb0 ⊢
    clear hsf hsz
    generalize k.mods.length = l0 at *
    generalize k.mem.length = l1 at *
    generalize k.nodes.length = l2 at *
    generalize k.pipes.length = l3 at *
    generalize k.procs.length = l4 at *
    by_cases h0 : l0 ≤ 8
    · by_cases h1 : l1 = 1024
      · subst h1
        by_cases h2 : l2 = 8
        · subst h2
          by_cases h3 : l3 = 6
          · subst h3
            have h4 : ¬ (l4 : Int) = 4 := by omega
            have h5 : ((l4 : Int) == 4) = false := by simpa using h4
            have h6 : ((l4 : Int) != 4) = true := by simpa using h4
            have h7 : ¬ l4 = 4 := by omega
            have h8 : (l4 == 4) = false := by simpa using h7
            clear hor
            go_enter Tryd.func5, Tryd.ntmps5
            go_wp2
            go_ret
            exact ⟨rfl, hb0⟩
          · have h4 : ¬ (l3 : Int) = 6 := by omega
            clear hor h3
            go_enter Tryd.func5, Tryd.ntmps5
            go_wp2
            go_ret
            exact ⟨rfl, hb0⟩
        · have h4 : ¬ (l2 : Int) = 8 := by omega
          clear hor h2
          go_enter Tryd.func5, Tryd.ntmps5
          go_wp2
          go_ret
          exact ⟨rfl, hb0⟩
      · have h4 : ¬ (l1 : Int) = 1024 := by omega
        clear hor h1
        go_enter Tryd.func5, Tryd.ntmps5
        go_wp2
        go_ret
        exact ⟨rfl, hb0⟩
    · clear hor
      go_enter Tryd.func5, Tryd.ntmps5
      go_wp2
      go_ret
      exact ⟨rfl, hb0⟩
end Go.Proofs.YtnnhhbjbdmgpiaaDoor
