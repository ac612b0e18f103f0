/- Texts of the proof of KernelsGood: GrowA, CatA, RanA, LitK. -/
import Derived.Lib.AppendZeros
import Derived.Laws.AppendOwn
import Derived.Test.YtnnhhbjbdmgpiaaGreatDoorJ37
set_option linter.unusedSimpArgs false
set_option linter.unusedVariables false
/- Walks of the library: slices.Grow of no actions. -/
namespace Go.Proofs.YtnnhhbjbdmgpiaaGreatDoor
set_option maxRecDepth 100000
open Go.RowKit
theorem infoAct : (Tryz.prog.info? 30).map (fun i => (i.zero, i.size, i.bytes)) = some (some (.agg #[.int .i64 0, .int .i64 0, .int .i64 0, .int .i64 0, .string ⟨#[]⟩, .string ⟨#[]⟩]), 6, 64) := by kernel_rfl
def GrowPost (w : World) (e : Ending) (w' : World) : Prop := ∃ (A : Option Addr) (c : Nat), e = .returned (.slice A 0 c) ∧ w'.ownsRow w.heap.size tAct 6 (.slice A 0 c) 0 [] ∧ Below w.heap.size w w'
set_option maxHeartbeats 1000000 in
theorem grow_any (n : Nat) (w : World) (h0 : 0 < n) (hn : n ≤ 1000) : Calls Tryz.prog 60 #[.slice none 0 0, .int .i64 n] w (GrowPost w) := by
 obtain ⟨i0, hi, hz0, hz1, hz2⟩ := info_parts infoAct
 have happ := Lib.run_append_nil_zeros (P := Tryz.prog) w 39 3 39 30 i0 _ .i64 .i64 Tryz.underlying39 Tryz.underlying3 hi hz0 n h0 (by omega) (by omega) (by rw [hz2]; omega)
 have hc : n ≤ grownCap w n 0 30 := grownCap_ge w n 0 _
 have hm : grownCap w n 0 30 ≤ maxLen := grownCap_le_maxLen w n 0 _ (by unfold maxLen; omega)
 have hown : (w.drew.alloc (.cells (Builtin.zeroCells (Value.agg #[.int .i64 0, .int .i64 0, .int .i64 0, .int .i64 0, .string ⟨#[]⟩, .string ⟨#[]⟩]).cells n ++ Builtin.zeroCells (Value.agg #[.int .i64 0, .int .i64 0, .int .i64 0, .int .i64 0, .string ⟨#[]⟩, .string ⟨#[]⟩]).cells (grownCap w n 0 30 - n)) 30)).ownsRow w.heap.size tAct 6 (.slice (some ⟨w.heap.size, 0, none⟩) 0 (grownCap w n 0 30)) 0 [] := by
  refine ⟨by simp, .inr ⟨w.heap.size, grownCap w n 0 30, _, rfl, Nat.le_refl _, by simpa using heap_alloc_new w.drew _, Nat.zero_le _, ?_, ?_, ?_⟩⟩
  ·exact hm
  ·rw [Array.size_append, size_zeroCells, size_zeroCells]
   show n * 6 + (grownCap w n 0 30 - n) * 6 = _
   omega
  ·simp
 have hb : Below w.heap.size w (w.drew.alloc (.cells (Builtin.zeroCells (Value.agg #[.int .i64 0, .int .i64 0, .int .i64 0, .int .i64 0, .string ⟨#[]⟩, .string ⟨#[]⟩]).cells n ++ Builtin.zeroCells (Value.agg #[.int .i64 0, .int .i64 0, .int .i64 0, .int .i64 0, .string ⟨#[]⟩, .string ⟨#[]⟩]).cells (grownCap w n 0 30 - n)) 30)) := ((Below.refl _ _).drew).alloc (by simp) _
 have Hown := Lib.hid hown
 have Hb := Lib.hid hb
 clear hown hb hi hz0 hz1 hz2 hm
 generalize grownCap w n 0 30 = c at *
 generalize w.drew.alloc (.cells (Builtin.zeroCells (Value.agg #[.int .i64 0, .int .i64 0, .int .i64 0, .int .i64 0, .string ⟨#[]⟩, .string ⟨#[]⟩]).cells n ++ Builtin.zeroCells (Value.agg #[.int .i64 0, .int .i64 0, .int .i64 0, .int .i64 0, .string ⟨#[]⟩, .string ⟨#[]⟩]).cells (c - n)) 30) = w1 at *
 have Happ := Lib.hid happ
 clear happ
 go_enter Tryz.func60, Tryz.ntmps60
 go_wp2_with (at_builtin; refine Lib.wpList_append_run _ rfl _ _ _ _ rfl _ _ rfl rfl _ _ Happ.out ?_)
 go_wp2
 go_ret
 exact ⟨_, c, rfl, Hown.out, Hb.out⟩
set_option maxHeartbeats 1000000 in
theorem grow_all (n : Nat) (w : World) (hn : n ≤ 1000) : Calls Tryz.prog 60 #[.slice none 0 0, .int .i64 n] w (GrowPost w) := by
 by_cases h0 : n = 0
 ·subst h0
  go_enter Tryz.func60, Tryz.ntmps60
  go_wp2
  go_ret
  exact ⟨none, 0, rfl, World.ownsRow_nil _ _ _ _, Below.refl _ _⟩
 ·exact grow_any n w (by omega) hn
end Go.Proofs.YtnnhhbjbdmgpiaaGreatDoor
/- Walks of the library: slices.Concat of rows of actions. -/
namespace Go.Proofs.YtnnhhbjbdmgpiaaGreatDoor
set_option maxRecDepth 100000
open Go.RowKit
structure SV where
 A : Option Addr
 c : Nat
 l : List Cf.Actn
def encS (x : SV) : List Value := [.slice x.A x.l.length x.c]
def catL (xs : List SV) : List Cf.Actn := xs.flatMap SV.l
theorem cat_take {xs : List SV} {k : Nat} {x : SV} (h : xs[k]? = some x) : catL (xs.take (k + 1)) = catL (xs.take k) ++ x.l := by
 unfold catL
 rw [List.take_add_one, h]
 simp
theorem cat_le (xs : List SV) (k : Nat) : (catL (xs.take k)).length ≤ (catL xs).length := by
 have : catL xs = catL (xs.take k) ++ catL (xs.drop k) := by
  unfold catL
  rw [← List.flatMap_append, List.take_append_drop]
 rw [this, List.length_append]
 omega
def CatPost (l : List Cf.Actn) (w : World) (e : Ending) (w' : World) : Prop := ∃ (A : Option Addr) (c : Nat), e = .returned (.slice A l.length c) ∧ w'.ownsRow w.heap.size tAct 6 (.slice A l.length c) l.length (l.flatMap encAc) ∧ Below w.heap.size w w'
theorem one_ac : ∀ x, ∀ u ∈ encAc x, u.oneCell' = true := by
 intro x u hu
 simp [encAc] at hu
 rcases hu with rfl | rfl | rfl | rfl | rfl | rfl <;> rfl
set_option maxRecDepth 100000 in
set_option maxHeartbeats 1000000 in
theorem concat_any (xs : List SV) (A0 : Option Addr) (c0 : Nat) (w : World) (hR : RdS 1 encS w A0 xs) (hE : ∀ x ∈ xs, Acts w x.A x.l) (hn : xs.length ≤ 100) (ht : (catL xs).length ≤ 1000) :
  Calls Tryz.prog 26 #[.slice A0 xs.length c0] w (CatPost (catL xs) w) := by
 obtain ⟨i0, hi, hz0, hz1, hz2⟩ := info_parts infoAct
 have Hi := Lib.hid hi
 have H0 := Lib.hid hz0
 have H1 := Lib.hid hz1
 have H2 := Lib.hid hz2
 have HR := Lib.hid hR
 have HE := Lib.hid hE
 clear hi hz0 hz1 hz2 hR hE
 go_enter Tryz.func26, Tryz.ntmps26
 go_wp2
 go_loopw [3, 11] (fun sv iv wr => ∃ k : Nat, k ≤ xs.length ∧ sv = .int .i64 ((catL (xs.take k)).length : Nat) ∧ iv = .int .i64 k ∧ w = wr) (fun _ iv _ => xs.length - (intOf iv).toNat)
 case atStart => exact ⟨0, by omega, rfl, rfl, rfl⟩
 case round =>
  obtain ⟨k, hk, rfl, rfl, rfl⟩ := hrel
  by_cases hlt : k < xs.length
  ·obtain ⟨⟨xA, xc, xl⟩, hx⟩ : ∃ x, xs[k]? = some x := ⟨_, List.getElem?_eq_getElem hlt⟩
   obtain ⟨b, off, rfl, q⟩ : ∃ b off, A0 = some ⟨b, off, none⟩ ∧ w.cell? ⟨b, off + k, none⟩ = some (.slice xA xl.length xc) := by
    rcases HR.out with h0 | ⟨b, off, rfl, hb, hc⟩
    ·rw [h0] at hlt; simp at hlt
    ·refine ⟨b, off, rfl, ?_⟩
     have := hc k _ hx 0 _ rfl
     simpa using this
   have Hs := Lib.hid (congrArg List.length (cat_take hx))
   rw [List.length_append] at Hs
   have h1 := cat_le xs (k + 1)
   rw [Hs.out] at h1
   generalize hm : (catL (xs.take k)).length = m at *
   clear hx hm
   simp only at h1
   go_wp2
   go_roundw
   case rel => exact ⟨k + 1, by omega, by rw [Hs.out]; go_num, by go_num, trivial⟩
   case measure => simp [intOf]; omega
  ·obtain rfl : k = xs.length := by omega
   rw [List.take_length]
   go_wp2_with fail
   refine (grow_all _ _ ht).mono ?_
   rintro e w1 ⟨A1, c1, rfl, hown, hb1⟩
   have Hown := Lib.hid hown
   have Hb1 := Lib.hid hb1
   clear hown hb1
   go_wp2
   go_loopw [6, 27] (fun v iv wr => ∃ k : Nat, k ≤ xs.length ∧ iv = .int .i64 k ∧ wr.ownsRow w.heap.size tAct 6 v (catL (xs.take k)).length ((catL (xs.take k)).flatMap encAc) ∧ Below w.heap.size w wr) (fun _ iv _ => xs.length - (intOf iv).toNat)
   case atStart => exact ⟨0, by omega, rfl, Hown.out, Hb1.out⟩
   case round =>
    obtain ⟨k, hk2, rfl, hown, hbw⟩ := hrel
    have Hown := Lib.hid hown
    clear hown Hb1
    by_cases hlt2 : k < xs.length
    ·obtain ⟨⟨xA, xc, xl⟩, hx⟩ : ∃ x, xs[k]? = some x := ⟨_, List.getElem?_eq_getElem hlt2⟩
     obtain ⟨b, off, rfl, q⟩ : ∃ b off, A0 = some ⟨b, off, none⟩ ∧ wr.cell? ⟨b, off + k, none⟩ = some (.slice xA xl.length xc) := by
      rcases HR.out.below hbw with h0 | ⟨b, off, rfl, hb, hc⟩
      ·rw [h0] at hlt2; simp at hlt2
      ·refine ⟨b, off, rfl, ?_⟩
       have := hc k _ hx 0 _ rfl
       simpa using this
     have Hs := Lib.hid (cat_take hx)
     have HX := Lib.hid ((HE.out _ (List.mem_of_getElem? hx)).below hbw)
     have h1 := cat_le xs (k + 1)
     rw [Hs.out, List.length_append] at h1
     generalize hm : catL (xs.take k) = m at *
     clear hx hm
     simp only at h1 HX
     have hsz := hbw.size
     go_wp2_with (at_builtin; refine wpList_append_src rfl _ _ 39 rfl w.heap.size 30 i0 (.agg #[.int .i64 0, .int .i64 0, .int .i64 0, .int .i64 0, .string ⟨#[]⟩, .string ⟨#[]⟩]) 6 64 Tryz.underlying39 Hi.out H0.out H1.out H2.out rfl (by decide) encAc_len one_ac _ m.length (m.flatMap encAc) rfl Hown.out xA xc xl rfl HX.out (by unfold maxLen; omega) (by omega) hsz ?_)
     intro v' w8 hown8 hgr hat
     have HO := Lib.hid (show w8.ownsRow w.heap.size tAct 6 v' (catL (xs.take (k + 1))).length ((catL (xs.take (k + 1))).flatMap encAc) by rw [Hs.out, List.length_append, List.flatMap_append]; exact hown8)
     have HB := Lib.hid (hbw.grown hgr hbw.size (fun r hr => own_blocks Hown.out r hr))
     clear hown8 hgr hat
     go_wp2
     go_roundw
     case rel => exact ⟨k + 1, by omega, by go_num, HO.out, HB.out⟩
     case measure => simp [intOf]; omega
    ·obtain rfl : k = xs.length := by omega
     rw [List.take_length] at Hown
     obtain ⟨A5, c5, hA5⟩ := own_form Hown.out
     subst hA5
     go_wp2
     go_ret
     exact ⟨A5, c5, rfl, Hown.out, hbw⟩
end Go.Proofs.YtnnhhbjbdmgpiaaGreatDoor
/- Walks of the laws' own helpers: a script run, of rows of actions laid one behind the other. -/
namespace Go.Proofs.YtnnhhbjbdmgpiaaGreatDoor
set_option maxRecDepth 100000
open Go.RowKit
def RanPost (l : List Cf.Actn) (w : World) (e : Ending) (w' : World) : Prop :=
 ∃ (A : Option Addr) (c : Nat) (a : KA), e = .returned (.tuple #[.slice A l.length c, .agg (kcells a (Cf.ranT Cf.newKern l).kern).toArray, .bool true]) ∧ RdS 3 encAn w' A (Cf.ranT Cf.newKern l).answers ∧ l.length ≤ c ∧ KRd w' a (Cf.ranT Cf.newKern l).kern ∧ Below w.heap.size w w'
set_option maxRecDepth 100000 in
set_option maxHeartbeats 2000000 in
theorem ran_any (xs : List SV) (A0 : Option Addr) (c0 : Nat) (w : World) (hR : RdS 1 encS w A0 xs) (hE : ∀ x ∈ xs, Acts w x.A x.l) (hn : xs.length ≤ 100) (ht : (catL xs).length ≤ 200) (hz : ∀ x ∈ catL xs, x.name.length ≤ maxLen ∧ x.data.length ≤ maxLen) (hL : TabL w) (hF : TabF w) :
  Calls Tryz.prog 19 #[.slice A0 xs.length c0] w (RanPost (catL xs) w) := by
 have hb0 : Below w.heap.size w (w.alloc (.cells #[.slice none 0 0, .slice none 0 0, .slice none 0 0, .slice none 0 0, .slice none 0 0] tKern)) := (Below.refl _ _).alloc (Nat.le_refl _) _
 have HR0 := Lib.hid (Wb.new w tKern [.slice none 0 0, .slice none 0 0, .slice none 0 0, .slice none 0 0, .slice none 0 0])
 have HC := Lib.hid (concat_any xs A0 c0 _ (hR.below hb0) (fun x hx => (hE x hx).below hb0) hn (by omega))
 have HT := Lib.hid (show ∀ W, Below w.heap.size w W → TabL W ∧ TabF W from fun W h => ⟨hL.below h, hF.below h⟩)
 have HS := Lib.hid (show Cf.scriptT (catL xs) = ⟨(Cf.ranT Cf.newKern (catL xs)).answers, (Cf.ranT Cf.newKern (catL xs)).kern, 0⟩ by unfold Cf.scriptT; rw [if_neg (by omega)])
 have HN := Lib.hid (Cf.ran_len (catL xs) Cf.newKern)
 have Hz := Lib.hid hz
 have Hb0 := Lib.hid hb0
 clear hR hE hL hF hz hb0
 generalize catL xs = l at *
 go_enter Tryz.func19, Tryz.ntmps19
 go_wp2_with fail
 refine HC.out.mono ?_
 rintro e w1 ⟨A1, c1, rfl, hown, hb1⟩
 have HA := Lib.hid (own_rd encAc_len hown)
 have hbw1 := Hb0.out.trans (hb1.mono (by simp))
 have HR1 := Lib.hid (HR0.out.below hb1 HR0.out.lt)
 have Hbw1 := Lib.hid hbw1
 clear hown hb1 HC HR0 Hb0
 have HRun := Lib.hid (run_script l A1 c1 w1 HA.out (by unfold maxLen; omega) Hz.out (HT.out _ hbw1).1 (HT.out _ hbw1).2)
 rw [HS.out] at HRun
 clear hbw1 HA
 go_wp2_with fail
 refine HRun.out.mono ?_
 rintro e w2 ⟨A2, c2, ⟨A, ca, M, cm, N, cn, S, cs, Q, cq⟩, rfl, hrd, hcp, ⟨hat, hkr⟩, hb2⟩
 simp only [HN.out] at hcp
 simp only [kcells, HN.out]
 have hlt1 : w.heap.size < w1.heap.size := Nat.lt_of_lt_of_le HR1.out.lt (Nat.le_refl _)
 have Hrd := Lib.hid (show RdS 3 encAn w2 A2 (Cf.ranT Cf.newKern l).answers ∧ AtP (fun b => b ≠ w.heap.size) A2 (Cf.ranT Cf.newKern l).answers from ⟨hrd, hat.mono fun b hb => by omega⟩)
 have Hkr := Lib.hid (hkr.mono (R := fun b => b ≠ w.heap.size) fun b hb => by omega)
 have Hb2 := Lib.hid (Hbw1.out.trans (hb2.mono Hbw1.out.size))
 have HR2 := Lib.hid (HR1.out.below hb2 HR1.out.lt)
 clear hrd hkr hat hlt1 hb2 HRun HR1 Hbw1 HS HT Hz
 generalize hkk : (Cf.ranT Cf.newKern l).kern = kk at *
 generalize han : (Cf.ranT Cf.newKern l).answers = an at *
 go_upto_region 3 with fail
 have hb3 : Below w2.heap.size w2 (w2.alloc (.cells #[.slice A kk.mods.length ca, .slice M kk.mem.length cm, .slice N kk.nodes.length cn, .slice S kk.pipes.length cs, .slice Q kk.procs.length cq] tKern)) := (Below.refl _ _).alloc (Nat.le_refl _) _
 have HK := Lib.hid (Wb.new w2 tKern [.slice A kk.mods.length ca, .slice M kk.mem.length cm, .slice N kk.nodes.length cn, .slice S kk.pipes.length cs, .slice Q kk.procs.length cq])
 have HR3 := Lib.hid (HR2.out.below hb3 HR2.out.lt)
 have Hrd3 := Lib.hid (show RdS 3 encAn _ A2 an ∧ AtP (fun b => b ≠ w.heap.size) A2 an from ⟨RdS.below Hrd.out.1 hb3, Hrd.out.2⟩)
 have Hkr3 := Lib.hid (Hkr.out.kept (KeepP.below hb3))
 have Hb3 := Lib.hid (Hb2.out.trans (hb3.mono Hb2.out.size))
 have hne : w2.heap.size ≠ w.heap.size := by have := HR2.out.lt; omega
 clear hb3 HR2 Hrd Hkr Hb2
 generalize w2.heap.size = g2 at *
 generalize w2.alloc (.cells #[.slice A kk.mods.length ca, .slice M kk.mem.length cm, .slice N kk.nodes.length cn, .slice S kk.pipes.length cs, .slice Q kk.procs.length cq] tKern) = w3 at *
 have hK := HK.out
 have z0 := hK.cell 0
 have z1 := hK.cell 1
 have z2 := hK.cell 2
 have z3 := hK.cell 3
 have z4 := hK.cell 4
 have hR := HR3.out
 have r0 := hR.cell 0
 have r1 := hR.cell 1
 have r2 := hR.cell 2
 have r3 := hR.cell 3
 have r4 := hR.cell 4
 simp only [List.getElem?_cons_zero, List.getElem?_cons_succ] at z0 z1 z2 z3 z4 r0 r1 r2 r3 r4
 have zl := hK.lt
 have rl := hR.lt
 have rf := hR.open_
 clear hK hR
 go_wp2_with fail
 go_region
 all_goals
  go_wp2
  refine bodyPost_ret (v := .tuple #[.slice A2 l.length c2, .agg #[.slice A kk.mods.length ca, .slice M kk.mem.length cm, .slice N kk.nodes.length cn, .slice S kk.pipes.length cs, .slice Q kk.procs.length cq], .bool true]) (by simp [results, Tryz.results19, go_sem, r0, r1, r2, r3, r4]) rfl ?_
  refine ⟨A2, c2, ⟨A, ca, M, cm, N, cn, S, cs, Q, cq⟩, by rw [hkk]; rfl, ?_, hcp, ?_, ?_⟩
  ·rw [han]
   refine RdS.kept (P := fun b => b ≠ w.heap.size) ?_ Hrd3.out.2 (KeepP.below (Below.refl _ _).drew)
   iterate 5 refine RdS.kept (P := fun b => b ≠ w.heap.size) ?_ Hrd3.out.2 (KeepP.set (fun b hb => hb) _ _)
   exact Hrd3.out.1
  ·rw [hkk]
   refine KPr.rd (KPr.kept (P := fun b => b ≠ w.heap.size) ?_ (KeepP.below (Below.refl _ _).drew))
   iterate 5 refine KPr.kept ?_ (KeepP.set (fun b hb => hb) _ _)
   exact Hkr3.out
  ·refine Below.drew ?_
   refine Below.setCell (p := ⟨w.heap.size, 4, none⟩) ?_ (Nat.le_refl _) _
   refine Below.setCell (p := ⟨w.heap.size, 3, none⟩) ?_ (Nat.le_refl _) _
   refine Below.setCell (p := ⟨w.heap.size, 2, none⟩) ?_ (Nat.le_refl _) _
   refine Below.setCell (p := ⟨w.heap.size, 1, none⟩) ?_ (Nat.le_refl _) _
   refine Below.setCell (p := ⟨w.heap.size, 0, none⟩) ?_ (Nat.le_refl _) _
   exact Hb3.out
end Go.Proofs.YtnnhhbjbdmgpiaaGreatDoor
/- A literal of actions. -/
namespace Go.Proofs.YtnnhhbjbdmgpiaaGreatDoor
set_option maxRecDepth 100000
open Go.RowKit
theorem flat_ac (l : List Cf.Actn) : (l.flatMap encAc).length = l.length * 6 := by
 induction l with
 | nil => rfl
 | cons x l ih => rw [List.flatMap_cons, List.length_append, ih, encAc_len, List.length_cons, Nat.add_mul]; omega
theorem own_lit (w : World) (base : Nat) (t : TypeId) (vs : Array Value) (l : List Cf.Actn) (h : vs.toList = l.flatMap encAc) (hb : base ≤ w.heap.size) (hl : l.length ≤ 1000) :
  (w.alloc (.cells vs t)).ownsRow base t 6 (.slice (some ⟨w.heap.size, 0, none⟩) l.length l.length) l.length (l.flatMap encAc) := by
 have hs : vs.size = l.length * 6 := by rw [← Array.length_toList, h, flat_ac]
 refine ⟨flat_ac l, .inr ⟨w.heap.size, l.length, vs, rfl, hb, heap_alloc_new w _, Nat.le_refl _, by unfold maxLen; omega, hs, ?_⟩⟩
 rw [h, List.take_of_length_le (by rw [flat_ac]; exact Nat.le_refl _)]
theorem acts_lit (w : World) (t : TypeId) (vs : Array Value) (l : List Cf.Actn) (h : vs.toList = l.flatMap encAc) : Acts (w.alloc (.cells vs t)) (some ⟨w.heap.size, 0, none⟩) l :=
 .inr ⟨w.heap.size, 0, rfl, by simp, fun k b hb j u hu => by
  have h1 := flat_at 6 encAc encAc_len l k b j u hb hu
  rw [← h] at h1
  simp at h1 ⊢
  exact h1⟩
theorem row_one (w : World) (t : TypeId) (A : Option Addr) (c : Nat) (l : List Cf.Actn) : RdS 1 encS (w.alloc (.cells #[.slice A l.length c] t)) (some ⟨w.heap.size, 0, none⟩) [⟨A, c, l⟩] :=
 .inr ⟨w.heap.size, 0, rfl, by simp, fun j b hb i u hu => by
  cases j with
  | succ j => simp at hb
  | zero =>
    simp at hb
    subst hb
    have := (Wb.new w t [.slice A l.length c]).cell i
    rw [show 0 + 0 * 1 + i = i by omega]
    exact this.trans hu⟩
theorem row_two (w : World) (t : TypeId) (A A' : Option Addr) (c c' : Nat) (l l' : List Cf.Actn) : RdS 1 encS (w.alloc (.cells #[.slice A l.length c, .slice A' l'.length c'] t)) (some ⟨w.heap.size, 0, none⟩) [⟨A, c, l⟩, ⟨A', c', l'⟩] :=
 .inr ⟨w.heap.size, 0, rfl, by simp, fun j b hb i u hu => by
  have hW := Wb.new w t [.slice A l.length c, .slice A' l'.length c']
  match j, hb with
  | 0, hb =>
    simp at hb
    subst hb
    cases i with
    | succ i => simp [encS] at hu
    | zero => exact (hW.cell 0).trans hu
  | 1, hb =>
    simp at hb
    subst hb
    cases i with
    | succ i => simp [encS] at hu
    | zero => exact (hW.cell 1).trans hu
  | j + 2, hb => simp at hb⟩
theorem cat_one (A : Option Addr) (c : Nat) (l : List Cf.Actn) : catL [⟨A, c, l⟩] = l := by simp [catL]
theorem cat_two (A A' : Option Addr) (c c' : Nat) (l l' : List Cf.Actn) : catL [⟨A, c, l⟩, ⟨A', c', l'⟩] = l ++ l' := by simp [catL]
end Go.Proofs.YtnnhhbjbdmgpiaaGreatDoor
