/- Texts of the proofs: RunK, RunW. -/
import Derived.Test.YtnnhhbjbdmgpiaaGreatDoorJ36
import Derived.Test.YtnnhhbjbdmgpiaaGreatDoorJ12
set_option linter.unusedSimpArgs false
set_option linter.unusedVariables false
/- A kernel that is read, and which blocks its rows lie in; the answers of a script. -/
namespace Go.Proofs.YtnnhhbjbdmgpiaaGreatDoor
set_option maxRecDepth 100000
open Go.RowKit
def AtP {α : Type} (P : Nat → Prop) (A : Option Addr) (l : List α) : Prop := l = [] ∨ ∃ b off, A = some ⟨b, off, none⟩ ∧ P b
theorem AtP.mono {α : Type} {P R : Nat → Prop} {A : Option Addr} {l : List α} (h : AtP P A l) (hPR : ∀ b, P b → R b) : AtP R A l := by
 rcases h with h | ⟨b, off, he, hp⟩
 ·exact .inl h
 ·exact .inr ⟨b, off, he, hPR b hp⟩
theorem atP_of {α : Type} {sz : Nat} {enc : α → List Value} {w : World} {B : Nat} {A : Option Addr} {l : List α} (h : RdS sz enc w A l) (hf : Fresh B A l) : AtP (fun b => B ≤ b ∧ b < w.heap.size) A l := by
 rcases h with h | ⟨b, off, rfl, hb, hc⟩
 ·exact .inl h
 ·rcases hf with hf | ⟨b', off', he, hle⟩
  ·exact .inl hf
  ·cases he
   exact .inr ⟨b, off, rfl, hle, hb⟩
def KeepP (P : Nat → Prop) (w w' : World) : Prop := w.heap.size ≤ w'.heap.size ∧ ∀ b, P b → b < w.heap.size → w'.heap[b]? = w.heap[b]?
theorem RdS.kept {α : Type} {sz : Nat} {enc : α → List Value} {w w' : World} {P : Nat → Prop} {A : Option Addr} {l : List α} (h : RdS sz enc w A l) (hp : AtP P A l) (hk : KeepP P w w') : RdS sz enc w' A l := by
 rcases h with h | ⟨b, off, rfl, hb, hc⟩
 ·exact .inl h
 ·rcases hp with hp | ⟨b', off', he, hle⟩
  ·exact .inl hp
  ·cases he
   refine .inr ⟨b, off, rfl, Nat.lt_of_lt_of_le hb hk.1, fun k x hx j v hv => ?_⟩
   rw [World.cell?_of_block (w := w) (hk.2 b hle hb)]
   exact hc k x hx j v hv
structure KPr (P : Nat → Prop) (w : World) (a : KA) (k : Cf.Kern) : Prop where
 mods : ∃ xs, (RdS 3 encMv w a.A xs ∧ AtP P a.A xs) ∧ Each (fun x m => IsM w x m ∧ AtP P x.A m.code ∧ AtP P x.B m.data) xs k.mods
 mem : Ints w a.M k.mem ∧ AtP P a.M k.mem
 nodes : Nodes w a.N k.nodes ∧ AtP P a.N k.nodes
 pipes : Strs w a.S k.pipes ∧ AtP P a.S k.pipes
 procs : ∃ xs, (RdS 2 encPv w a.Q xs ∧ AtP P a.Q xs) ∧ Each (fun x p => IsP w x p ∧ AtP P x.A p.ends) xs k.procs
 capA : k.mods.length ≤ a.ca
section
variable {P R : Nat → Prop} {w w' : World} {a : KA} {k : Cf.Kern} {B : Nat}
theorem KNew.pr (h : KNew B w a k) : KPr (fun b => B ≤ b ∧ b < w.heap.size) w a k := by
 obtain ⟨xs, h1, h2⟩ := h.mods
 obtain ⟨ys, h3, h4⟩ := h.procs
 exact ⟨⟨xs, ⟨h1.1, atP_of h1.1 h1.2⟩, h2.mono fun _ _ h => ⟨h.1, atP_of h.1.2.2.2.1 h.2.1, atP_of h.1.2.2.2.2 h.2.2⟩⟩, ⟨h.mem.1, atP_of h.mem.1 h.mem.2⟩, ⟨h.nodes.1, atP_of h.nodes.1 h.nodes.2⟩, ⟨h.pipes.1, atP_of h.pipes.1 h.pipes.2⟩, ⟨ys, ⟨h3.1, atP_of h3.1 h3.2⟩, h4.mono fun _ _ h => ⟨h.1, atP_of h.1.2.2 h.2⟩⟩, h.capA⟩
theorem KPr.rd (h : KPr P w a k) : KRd w a k := by
 obtain ⟨xs, h1, h2⟩ := h.mods
 obtain ⟨ys, h3, h4⟩ := h.procs
 exact ⟨⟨xs, h1.1, h2.mono fun _ _ h => h.1⟩, h.mem.1, h.nodes.1, h.pipes.1, ⟨ys, h3.1, h4.mono fun _ _ h => h.1⟩, h.capA⟩
theorem KPr.mono (h : KPr P w a k) (hPR : ∀ b, P b → R b) : KPr R w a k := by
 obtain ⟨xs, h1, h2⟩ := h.mods
 obtain ⟨ys, h3, h4⟩ := h.procs
 exact ⟨⟨xs, ⟨h1.1, h1.2.mono hPR⟩, h2.mono fun _ _ h => ⟨h.1, h.2.1.mono hPR, h.2.2.mono hPR⟩⟩, ⟨h.mem.1, h.mem.2.mono hPR⟩, ⟨h.nodes.1, h.nodes.2.mono hPR⟩, ⟨h.pipes.1, h.pipes.2.mono hPR⟩, ⟨ys, ⟨h3.1, h3.2.mono hPR⟩, h4.mono fun _ _ h => ⟨h.1, h.2.mono hPR⟩⟩, h.capA⟩
theorem KPr.kept (h : KPr P w a k) (hk : KeepP P w w') : KPr P w' a k := by
 obtain ⟨xs, h1, h2⟩ := h.mods
 obtain ⟨ys, h3, h4⟩ := h.procs
 exact ⟨⟨xs, ⟨h1.1.kept h1.2 hk, h1.2⟩, h2.mono fun _ _ h => ⟨⟨h.1.1, h.1.2.1, h.1.2.2.1, RdS.kept h.1.2.2.2.1 h.2.1 hk, RdS.kept h.1.2.2.2.2 h.2.2 hk⟩, h.2⟩⟩, ⟨RdS.kept h.mem.1 h.mem.2 hk, h.mem.2⟩, ⟨RdS.kept h.nodes.1 h.nodes.2 hk, h.nodes.2⟩, ⟨RdS.kept h.pipes.1 h.pipes.2 hk, h.pipes.2⟩, ⟨ys, ⟨h3.1.kept h3.2 hk, h3.2⟩, h4.mono fun _ _ h => ⟨⟨h.1.1, h.1.2.1, RdS.kept h.1.2.2 h.2 hk⟩, h.2⟩⟩, h.capA⟩
theorem KeepP.below (hb : Below w.heap.size w w') : KeepP P w w' := ⟨hb.size, fun b _ hl => hb.block b hl⟩
theorem KeepP.set {g : Nat} (hP : ∀ b, P b → b ≠ g) (i : Nat) (u : Value) : KeepP P w (w.setCell ⟨g, i, none⟩ u) := ⟨by simp [World.setCell], fun b hb _ => Below.heap_setCell w ⟨g, i, none⟩ u b (fun he => hP b hb he)⟩
theorem KeepP.grown {row : Option Nat} (hg : w.grownBy w' row) (hP : ∀ b, P b → row ≠ some b) : KeepP P w w' := ⟨hg.size, fun b hb hl => hg.block b hl (fun he => hP b hb he.symm)⟩
end
theorem infoA : (Tryz.prog.info? 34).map (fun i => (i.zero, i.size, i.bytes)) = some (some (.agg #[.int .i64 0, .int .i64 0, .string ⟨#[]⟩]), 3, 32) := by kernel_rfl
theorem encAn_len (x : Cf.Ans) : (encAn x).length = 3 := rfl
theorem one_an : ∀ x, ∀ u ∈ encAn x, u.oneCell' = true := by
 intro x u hu
 simp [encAn] at hu
 rcases hu with rfl | rfl | rfl <;> rfl
theorem encAc_len (x : Cf.Actn) : (encAc x).length = 6 := rfl
abbrev Acts (w : World) (A : Option Addr) (l : List Cf.Actn) : Prop := RdS 6 encAc w A l
def RunP (r : Cf.RanE) (w : World) (e : Ending) (w' : World) : Prop :=
 ∃ (A : Option Addr) (c : Nat) (a : KA), e = .returned (.tuple #[.slice A r.answers.length c, .agg (kcells a r.kern).toArray, .int .i64 r.err]) ∧ RdS 3 encAn w' A r.answers ∧ r.answers.length ≤ c ∧ (AtP (fun b => w.heap.size ≤ b) A r.answers ∧ KPr (fun b => w.heap.size ≤ b) w' a r.kern) ∧ Below w.heap.size w w'
theorem atP_lt {α : Type} {sz : Nat} {enc : α → List Value} {w : World} {P : Nat → Prop} {A : Option Addr} {l : List α} (h : RdS sz enc w A l) (hp : AtP P A l) : AtP (fun b => P b ∧ b < w.heap.size) A l := by
 rcases h with h | ⟨b, off, rfl, hb, hc⟩
 ·exact .inl h
 ·rcases hp with hp | ⟨b', off', he, hle⟩
  ·exact .inl hp
  ·cases he
   exact .inr ⟨b, off, rfl, hle, hb⟩
theorem KPr.lt {P : Nat → Prop} {w : World} {a : KA} {k : Cf.Kern} (h : KPr P w a k) : KPr (fun b => P b ∧ b < w.heap.size) w a k := by
 obtain ⟨xs, h1, h2⟩ := h.mods
 obtain ⟨ys, h3, h4⟩ := h.procs
 exact ⟨⟨xs, ⟨h1.1, atP_lt h1.1 h1.2⟩, h2.mono fun _ _ h => ⟨h.1, atP_lt h.1.2.2.2.1 h.2.1, atP_lt h.1.2.2.2.2 h.2.2⟩⟩, ⟨h.mem.1, atP_lt h.mem.1 h.mem.2⟩, ⟨h.nodes.1, atP_lt h.nodes.1 h.nodes.2⟩, ⟨h.pipes.1, atP_lt h.pipes.1 h.pipes.2⟩, ⟨ys, ⟨h3.1, atP_lt h3.1 h3.2⟩, h4.mono fun _ _ h => ⟨h.1, atP_lt h.1.2.2 h.2⟩⟩, h.capA⟩
structure RunT (w : World) (g : Nat) (k : Cf.Kern) (ans : List Cf.Ans) (v : Value) (a : KA) (wr : World) : Prop where
 box : Wb wr g tKern (kcells a k)
 row : wr.ownsRow w.heap.size tAns 3 v ans.length (ans.flatMap encAn)
 rows : KPr (fun b => b ≠ g ∧ v.ownBlock ≠ some b ∧ w.heap.size < b) wr a k
 keep : Below w.heap.size w wr
 lo : w.heap.size ≤ g
section
variable {w : World} {g : Nat} {k : Cf.Kern} {ans : List Cf.Ans} {v : Value} {a : KA} {wr wr' : World}
theorem RunT.below (h : RunT w g k ans v a wr) (hb : Below wr.heap.size wr wr') : RunT w g k ans v a wr' := ⟨h.box.below hb h.box.lt, own_below h.row hb, h.rows.kept (KeepP.below hb), h.keep.trans (hb.mono h.keep.size), h.lo⟩
theorem RunT.own_lt (h : RunT w g k ans v a wr) {b : Nat} (hb : v.ownBlock = some b) : b < wr.heap.size := by
 rcases h.row.2 with ⟨hv, _⟩ | ⟨g', cap, cur, hv, _, hh, _⟩
 ·rw [hv] at hb
  cases hb
 ·rw [hv] at hb
  cases hb
  exact (Array.getElem?_eq_some_iff.1 hh).1
theorem RunT.put (h : RunT w g k ans v a wr) {a2 : KA} {k2 : Cf.Kern} (hr : KPr (fun b => b ≠ g ∧ v.ownBlock ≠ some b ∧ w.heap.size < b) wr a2 k2) :
  RunT w g k2 ans v a2 (((((wr.setCell ⟨g, 0, none⟩ (.slice a2.A k2.mods.length a2.ca)).setCell ⟨g, 1, none⟩ (.slice a2.M k2.mem.length a2.cm)).setCell ⟨g, 2, none⟩ (.slice a2.N k2.nodes.length a2.cn)).setCell ⟨g, 3, none⟩ (.slice a2.S k2.pipes.length a2.cs)).setCell ⟨g, 4, none⟩ (.slice a2.Q k2.procs.length a2.cq)) := by
 have ho : ∀ (W : World) (ds : List Value), W.ownsRow w.heap.size tAns 3 v ans.length (ans.flatMap encAn) → Wb W g tKern ds → v.ownBlock ≠ some g := fun W ds hr hw => own_off hr hw (by decide)
 have hk : ∀ (W : World) (i : Nat) (u : Value), KPr (fun b => b ≠ g ∧ v.ownBlock ≠ some b ∧ w.heap.size < b) W a2 k2 → KPr (fun b => b ≠ g ∧ v.ownBlock ≠ some b ∧ w.heap.size < b) (W.setCell ⟨g, i, none⟩ u) a2 k2 := fun W i u h => h.kept (KeepP.set (fun b hb => hb.1) i u)
 have hg := ho _ _ h.row h.box
 refine ⟨((((h.box.put 0 _).put 1 _).put 2 _).put 3 _).put 4 _, ?_, hk _ 4 _ (hk _ 3 _ (hk _ 2 _ (hk _ 1 _ (hk _ 0 _ hr)))), ((((h.keep.setCell h.lo _).setCell h.lo _).setCell h.lo _).setCell h.lo _).setCell h.lo _, h.lo⟩
 exact own_setCell (own_setCell (own_setCell (own_setCell (own_setCell h.row hg _) hg _) hg _) hg _) hg _
theorem RunT.grow (h : RunT w g k ans v a wr) {x : Cf.Ans} {v' : Value} (hown : wr'.ownsRow w.heap.size tAns 3 v' (ans.length + 1) (ans.flatMap encAn ++ [x].flatMap encAn)) (hg : wr.grownBy wr' v.ownBlock) (hat : v'.ownBlock = v.ownBlock ∨ v'.ownBlock = some wr.heap.size) : RunT w g k (ans ++ [x]) v' a wr' := by
 refine ⟨h.box.grown hg (own_off h.row h.box (by decide)), by rw [List.length_append, List.flatMap_append]; exact hown, ?_, h.keep.grown hg h.keep.size (fun r hr => own_blocks h.row r hr), h.lo⟩
 refine ((h.rows.lt).kept (KeepP.grown hg fun b hb => hb.1.2.1)).mono fun b hb => ⟨hb.1.1, ?_, hb.1.2.2⟩
 rcases hat with hat | hat
 ·rw [hat]; exact hb.1.2.1
 ·rw [hat]
  intro he
  have := Option.some.inj he
  omega
end
theorem take_next {l : List Cf.Actn} {n : Nat} {x : Cf.Actn} (hx : l[n]? = some x) (k : Cf.Kern) : Cf.ranT k (l.take (n + 1)) = ⟨(Cf.ranT k (l.take n)).answers ++ [(Cf.nextT (Cf.ranT k (l.take n)).kern x).ans], (Cf.nextT (Cf.ranT k (l.take n)).kern x).kern⟩ := by
 rw [List.take_add_one, hx, Option.toList_some, Cf.ran_app]
 rfl
end Go.Proofs.YtnnhhbjbdmgpiaaGreatDoor
/- Walks of chapter 5: the program's Run. (tools/gen/runw.py) -/
namespace Go.Proofs.YtnnhhbjbdmgpiaaGreatDoor
set_option maxRecDepth 100000
open Go.RowKit
theorem an_new (w : World) (t : TypeId) (x : Cf.Ans) : RdS 3 encAn (w.alloc (.cells #[.int .i64 x.code, .int .i64 x.n, .string ⟨x.data.toArray⟩] t)) (some ⟨w.heap.size, 0, none⟩) [x] :=
 .inr ⟨w.heap.size, 0, rfl, by simp, fun k y hy j u hu => by
  cases k with
  | succ k => simp at hy
  | zero =>
    simp at hy
    subst hy
    rw [show 0 + 0 * 3 + j = j by omega]
    exact ((Wb.new w t (encAn x)).cell j).trans hu⟩
theorem ans_len (l : List Cf.Actn) (k : Cf.Kern) (n : Nat) : (Cf.ranT k (l.take n)).answers.length ≤ n := by rw [Cf.ran_len, List.length_take]; omega
theorem own_at {w : World} {B sz : Nat} {t : TypeId} {A : Option Addr} {c : Nat} {l : List Cf.Ans} {xs : List Value} (h : w.ownsRow B t sz (.slice A l.length c) l.length xs) : AtP (fun b => B ≤ b) A l := by
 rcases h.2 with ⟨_, h0⟩ | ⟨g, cap, cur, hv, hb, _⟩
 ·exact .inl (List.eq_nil_of_length_eq_zero h0)
 ·injection hv with h1
  exact .inr ⟨g, 0, h1, hb⟩
set_option maxHeartbeats 4000000 in
theorem run_script (l : List Cf.Actn) (Al : Option Addr) (cap : Nat) (w : World) (hA : Acts w Al l) (hl : l.length ≤ maxLen) (hz : ∀ x ∈ l, x.name.length ≤ maxLen ∧ x.data.length ≤ maxLen) (hL : TabL w) (hF : TabF w) :
  Calls Tryz.prog 15 #[.slice Al l.length cap] w (RunP (Cf.scriptT l) w) := by
 obtain ⟨i0, hi0, hy0, hy1, hy2⟩ := info_parts infoA
 have Hi := Lib.hid hi0
 have H0 := Lib.hid hy0
 have H1 := Lib.hid hy1
 have H2 := Lib.hid hy2
 unfold maxLen at hl
 obtain ⟨w0, hw0⟩ : ∃ w0 : World, w0 = w.alloc (.cells #[.slice none 0 0, .slice none 0 0, .slice none 0 0, .slice none 0 0, .slice none 0 0] tKern) := ⟨_, rfl⟩
 have hb0 : Below w.heap.size w w0 := by rw [hw0]; exact (Below.refl _ _).alloc (Nat.le_refl _) _
 have HR0 := Lib.hid (show Wb w0 w.heap.size tKern [.slice none 0 0, .slice none 0 0, .slice none 0 0, .slice none 0 0, .slice none 0 0] by rw [hw0]; exact Wb.new w tKern [.slice none 0 0, .slice none 0 0, .slice none 0 0, .slice none 0 0, .slice none 0 0])
 have Hw0 := Lib.hid hw0
 have Hb0 := Lib.hid hb0
 have HA := Lib.hid hA
 have HZ := Lib.hid hz
 have HTb := Lib.hid (show ∀ W, Below w.heap.size w W → TabL W ∧ TabF W from fun W h => ⟨hL.below h, hF.below h⟩)
 have Hs0 := Lib.hid (show w0.heap.size = w.heap.size + 1 by rw [hw0]; simp)
 clear hi0 hy0 hy1 hy2 hw0 hb0 hA hz hL hF
 by_cases h2 : 200 < l.length
 ·have HSc := Lib.hid (show Cf.scriptT l = ⟨[], Cf.noKern, 1⟩ by unfold Cf.scriptT; rw [if_pos h2])
  rw [HSc.out]
  go_enter Tryz.func15, Tryz.ntmps15
  go_upto_region 1 with fail
  rw [← Hw0.out]
  clear Hw0
  have hR := HR0.out
  have r0 := hR.cell 0
  have r1 := hR.cell 1
  have r2 := hR.cell 2
  have r3 := hR.cell 3
  have r4 := hR.cell 4
  simp only [List.getElem?_cons_zero, List.getElem?_cons_succ] at r0 r1 r2 r3 r4
  have rf := hR.open_
  have rl := hR.lt
  clear hR
  go_wp2
  refine bodyPost_ret (v := .tuple #[.slice none 0 0, .agg #[.slice none 0 0, .slice none 0 0, .slice none 0 0, .slice none 0 0, .slice none 0 0], .int .i64 1]) (by simp [results, Tryz.results15, go_sem, r0, r1, r2, r3, r4]) rfl ?_
  exact ⟨none, 0, _, rfl, .inl rfl, Nat.le_refl _, ⟨.inl rfl, ((no_new w.heap.size _).pr).mono fun b hb => hb.1⟩, (((((Hb0.out.setCell (p := ⟨w.heap.size, 0, none⟩) (Nat.le_refl _) _).setCell (p := ⟨w.heap.size, 1, none⟩) (Nat.le_refl _) _).setCell (p := ⟨w.heap.size, 2, none⟩) (Nat.le_refl _) _).setCell (p := ⟨w.heap.size, 3, none⟩) (Nat.le_refl _) _).setCell (p := ⟨w.heap.size, 4, none⟩) (Nat.le_refl _) _)⟩
 have HSc := Lib.hid (show Cf.scriptT l = ⟨(Cf.ranT Cf.newKern (l.take l.length)).answers, (Cf.ranT Cf.newKern (l.take l.length)).kern, 0⟩ by unfold Cf.scriptT; rw [if_neg h2, List.take_length])
 have HNw := Lib.hid (new_any w0)
 rw [HSc.out]
 clear HSc
 go_enter Tryz.func15, Tryz.ntmps15
 go_upto_region 1 with fail
 rw [← Hw0.out]
 clear Hw0
 go_wp2_with fail
 refine HNw.out.mono ?_
 rintro e w1 ⟨⟨A1, ca1, M1, cm1, N1, cn1, S1, cs1, Q1, cq1⟩, rfl, hnew, hb1⟩
 simp only [kcells]
 go_upto_region 4 with fail
 have HT0 := Lib.hid (show RunT w w1.heap.size Cf.newKern [] (.slice none 0 0) ⟨A1, ca1, M1, cm1, N1, cn1, S1, cs1, Q1, cq1⟩ (w1.alloc (.cells #[.slice A1 Cf.newKern.mods.length ca1, .slice M1 Cf.newKern.mem.length cm1, .slice N1 Cf.newKern.nodes.length cn1, .slice S1 Cf.newKern.pipes.length cs1, .slice Q1 Cf.newKern.procs.length cq1] tKern)) from ⟨Wb.new w1 tKern _, World.ownsRow_nil _ _ _ _, ((hnew.pr).mono fun b hb => ⟨by omega, by simp [Value.ownBlock], by have := Hs0.out; omega⟩).kept (KeepP.below ((Below.refl _ _).alloc (Nat.le_refl _) _)), (Hb0.out.trans (hb1.mono Hb0.out.size)).alloc (Nat.le_trans Hb0.out.size hb1.size) _, Nat.le_trans Hb0.out.size hb1.size⟩)
 have HR1 := Lib.hid ((HR0.out.below hb1 HR0.out.lt).alloc (.cells #[.slice A1 Cf.newKern.mods.length ca1, .slice M1 Cf.newKern.mem.length cm1, .slice N1 Cf.newKern.nodes.length cn1, .slice S1 Cf.newKern.pipes.length cs1, .slice Q1 Cf.newKern.procs.length cq1] tKern))
 have Hgl := Lib.hid (show w.heap.size < w1.heap.size by have := hb1.size; have := Hs0.out; omega)
 clear hnew hb1 HNw HR0 Hb0
 generalize hgg : w1.heap.size = g at *
 clear hgg
 generalize w1.alloc (.cells #[.slice A1 Cf.newKern.mods.length ca1, .slice M1 Cf.newKern.mem.length cm1, .slice N1 Cf.newKern.nodes.length cn1, .slice S1 Cf.newKern.pipes.length cs1, .slice Q1 Cf.newKern.procs.length cq1] tKern) = w2 at *
 go_wp2
 go_loopw [6, 19] (fun v i wr => ∃ (n : Nat) (a : KA), n ≤ l.length ∧ i = .int .i64 n ∧ RunT w g (Cf.ranT Cf.newKern (l.take n)).kern (Cf.ranT Cf.newKern (l.take n)).answers v a wr ∧ Wb wr w.heap.size tKern [.slice none 0 0, .slice none 0 0, .slice none 0 0, .slice none 0 0, .slice none 0 0] ∧ Cf.Good (Cf.ranT Cf.newKern (l.take n)).kern) (fun v i _ => l.length - (intOf i).toNat)
 case atStart => exact ⟨0, _, by omega, rfl, HT0.out, HR1.out, Cf.good_new⟩
 case round =>
  obtain ⟨n, ⟨A, ca, M, cm, N, cn, S, cs, Q, cq⟩, hn, rfl, hT, hR, hG⟩ := hrel
  have HT := Lib.hid hT
  have HR := Lib.hid hR
  have HG := Lib.hid hG
  clear hT hR hG HT0 HR1
  by_cases hlt : n < l.length
  ·obtain ⟨kd, pp, nn, mm, nm, da, hx⟩ : ∃ kd pp nn mm nm da, l[n]? = some ⟨kd, pp, nn, mm, nm, da⟩ := ⟨_, _, _, _, _, _, List.getElem?_eq_getElem hlt⟩
   rcases HA.out with h0 | ⟨b, off, rfl, hbl, hc⟩
   ·rw [h0] at hlt
    simp at hlt
   have hkp := HT.out.keep
   have q0 : wr.cell? ⟨b, off + n * 6, none⟩ = _ := (hkp.cell hbl).trans (hc n _ hx 0 _ rfl)
   have q1 : wr.cell? ⟨b, off + n * 6 + 1, none⟩ = _ := (hkp.cell hbl).trans (hc n _ hx 1 _ rfl)
   have q2 : wr.cell? ⟨b, off + n * 6 + 2, none⟩ = _ := (hkp.cell hbl).trans (hc n _ hx 2 _ rfl)
   have q3 : wr.cell? ⟨b, off + n * 6 + 3, none⟩ = _ := (hkp.cell hbl).trans (hc n _ hx 3 _ rfl)
   have q4 : wr.cell? ⟨b, off + n * 6 + 4, none⟩ = _ := (hkp.cell hbl).trans (hc n _ hx 4 _ rfl)
   have q5 : wr.cell? ⟨b, off + n * 6 + 5, none⟩ = _ := (hkp.cell hbl).trans (hc n _ hx 5 _ rfl)
   have hbl2 : b < wr.heap.size := Nat.lt_of_lt_of_le hbl hkp.size
   obtain ⟨hnm, hda⟩ := HZ.out _ (List.mem_of_getElem? hx)
   simp only at hnm hda
   have HNx := Lib.hid (take_next hx Cf.newKern)
   have hal := ans_len l Cf.newKern n
   clear hkp hc hx
   generalize (Cf.ranT Cf.newKern (l.take n)).kern = kk at *
   generalize (Cf.ranT Cf.newKern (l.take n)).answers = an at *
   have HGn := Lib.hid (HG.out.next ⟨kd, pp, nn, mm, nm, da⟩)
   have HNt := Lib.hid (show Cf.nextT kk ⟨kd, pp, nn, mm, nm, da⟩ = if (Cf.doT kk ⟨kd, pp, nn, mm, nm, da⟩).err = 0 then ⟨(Cf.doT kk ⟨kd, pp, nn, mm, nm, da⟩).kern, (Cf.doT kk ⟨kd, pp, nn, mm, nm, da⟩).ans⟩ else ⟨kk, ⟨(Cf.doT kk ⟨kd, pp, nn, mm, nm, da⟩).err, 0, []⟩⟩ from rfl)
   go_upto_region 8 with fail
   have hb3 : Below wr.heap.size wr (wr.alloc (.cells #[.int .i64 kd, .int .i64 pp, .int .i64 nn, .int .i64 mm, .string ⟨nm.toArray⟩, .string ⟨da.toArray⟩] tAct)) := (Below.refl _ _).alloc (Nat.le_refl _) _
   have HB3 := Lib.hid (Wb.new wr tAct [.int .i64 kd, .int .i64 pp, .int .i64 nn, .int .i64 mm, .string ⟨nm.toArray⟩, .string ⟨da.toArray⟩])
   have HT3 := Lib.hid (HT.out.below hb3)
   have HR3 := Lib.hid (HR.out.below hb3 HR.out.lt)
   clear hb3 HT HR q0 q1 q2 q3 q4 q5 hbl2
   generalize hgA : wr.heap.size = gA at *
   clear hgA
   generalize wr.alloc (.cells #[.int .i64 kd, .int .i64 pp, .int .i64 nn, .int .i64 mm, .string ⟨nm.toArray⟩, .string ⟨da.toArray⟩] tAct) = w3 at *
   have HDo := Lib.hid (do_any kk ⟨A, ca, M, cm, N, cn, S, cs, Q, cq⟩ kd pp nn mm nm da w3 HT3.out.rows.rd (fit_good HG.out) (HTb.out w3 HT3.out.keep).1 (HTb.out w3 HT3.out.keep).2 hnm hda)
   generalize Cf.doT kk ⟨kd, pp, nn, mm, nm, da⟩ = d at *
   obtain ⟨dk, ⟨dc, dn, ds⟩, de⟩ := d
   have hK := HT3.out.box
   have z0 := hK.cell 0
   have z1 := hK.cell 1
   have z2 := hK.cell 2
   have z3 := hK.cell 3
   have z4 := hK.cell 4
   simp only [kcells, List.getElem?_cons_zero, List.getElem?_cons_succ] at z0 z1 z2 z3 z4
   have zl := hK.lt
   have hB := HB3.out
   have a0 := hB.cell 0
   have a1 := hB.cell 1
   have a2 := hB.cell 2
   have a3 := hB.cell 3
   have a4 := hB.cell 4
   have a5 := hB.cell 5
   simp only [List.getElem?_cons_zero, List.getElem?_cons_succ] at a0 a1 a2 a3 a4 a5
   have al := hB.lt
   clear hK hB HB3
   go_wp2_with fail
   refine HDo.out.mono ?_
   rintro e w4 ⟨⟨A2, ca2, M2, cm2, N2, cn2, S2, cs2, Q2, cq2⟩, rfl, hnew, hb4⟩
   simp only [kcells, encAn]
   go_upto_region 9 with fail
   have hb5 : Below w4.heap.size w4 ((w4.alloc (.cells #[.slice A2 dk.mods.length ca2, .slice M2 dk.mem.length cm2, .slice N2 dk.nodes.length cn2, .slice S2 dk.pipes.length cs2, .slice Q2 dk.procs.length cq2] tKern)).alloc (.cells #[.int .i64 dc, .int .i64 dn, .string ⟨ds.toArray⟩] tAns)) := ((Below.refl _ _).alloc (Nat.le_refl _) _).alloc (by simp) _
   have HN5 := Lib.hid (show Wb ((w4.alloc (.cells #[.slice A2 dk.mods.length ca2, .slice M2 dk.mem.length cm2, .slice N2 dk.nodes.length cn2, .slice S2 dk.pipes.length cs2, .slice Q2 dk.procs.length cq2] tKern)).alloc (.cells #[.int .i64 dc, .int .i64 dn, .string ⟨ds.toArray⟩] tAns)) w4.heap.size tKern [.slice A2 dk.mods.length ca2, .slice M2 dk.mem.length cm2, .slice N2 dk.nodes.length cn2, .slice S2 dk.pipes.length cs2, .slice Q2 dk.procs.length cq2] from (Wb.new w4 tKern [.slice A2 dk.mods.length ca2, .slice M2 dk.mem.length cm2, .slice N2 dk.nodes.length cn2, .slice S2 dk.pipes.length cs2, .slice Q2 dk.procs.length cq2]).alloc _)
   have HA5 := Lib.hid (show Wb ((w4.alloc (.cells #[.slice A2 dk.mods.length ca2, .slice M2 dk.mem.length cm2, .slice N2 dk.nodes.length cn2, .slice S2 dk.pipes.length cs2, .slice Q2 dk.procs.length cq2] tKern)).alloc (.cells #[.int .i64 dc, .int .i64 dn, .string ⟨ds.toArray⟩] tAns)) (w4.heap.size + 1) tAns [.int .i64 dc, .int .i64 dn, .string ⟨ds.toArray⟩] by
    have := Wb.new (w4.alloc (.cells #[.slice A2 dk.mods.length ca2, .slice M2 dk.mem.length cm2, .slice N2 dk.nodes.length cn2, .slice S2 dk.pipes.length cs2, .slice Q2 dk.procs.length cq2] tKern)) tAns [.int .i64 dc, .int .i64 dn, .string ⟨ds.toArray⟩]
    rwa [show (w4.alloc (.cells #[.slice A2 dk.mods.length ca2, .slice M2 dk.mem.length cm2, .slice N2 dk.nodes.length cn2, .slice S2 dk.pipes.length cs2, .slice Q2 dk.procs.length cq2] tKern)).heap.size = w4.heap.size + 1 by simp] at this)
   have Hb35 := Lib.hid (hb4.trans (hb5.mono hb4.size))
   have HT5 := Lib.hid (HT3.out.below Hb35.out)
   have HR5 := Lib.hid (HR3.out.below Hb35.out HR3.out.lt)
   have HK5 := Lib.hid (show KPr (fun b => b ≠ g ∧ u6.ownBlock ≠ some b ∧ w.heap.size < b) ((w4.alloc (.cells #[.slice A2 dk.mods.length ca2, .slice M2 dk.mem.length cm2, .slice N2 dk.nodes.length cn2, .slice S2 dk.pipes.length cs2, .slice Q2 dk.procs.length cq2] tKern)).alloc (.cells #[.int .i64 dc, .int .i64 dn, .string ⟨ds.toArray⟩] tAns)) ⟨A2, ca2, M2, cm2, N2, cn2, S2, cs2, Q2, cq2⟩ dk from
    ((hnew.pr).mono fun b hb => ⟨by have := HT3.out.box.lt; omega, fun he => by have := HT3.out.own_lt he; omega, by have := HT3.out.keep.size; have := HR3.out.lt; omega⟩).kept (KeepP.below hb5))
   have Hs4 := Lib.hid (show w3.heap.size ≤ w4.heap.size from hb4.size)
   clear hnew hb4 hb5 HDo HR3 z0 z1 z2 z3 z4 zl a0 a1 a2 a3 a4 a5 al
   generalize hg4 : w4.heap.size = g4 at *
   clear hg4
   generalize (w4.alloc (.cells #[.slice A2 dk.mods.length ca2, .slice M2 dk.mem.length cm2, .slice N2 dk.nodes.length cn2, .slice S2 dk.pipes.length cs2, .slice Q2 dk.procs.length cq2] tKern)).alloc (.cells #[.int .i64 dc, .int .i64 dn, .string ⟨ds.toArray⟩] tAns) = w5 at *
   have hN5 := HN5.out
   have y0 := hN5.cell 0
   have y1 := hN5.cell 1
   have y2 := hN5.cell 2
   have y3 := hN5.cell 3
   have y4 := hN5.cell 4
   have hA5 := HA5.out
   have t0 := hA5.cell 0
   have t1 := hA5.cell 1
   have t2 := hA5.cell 2
   have hK5 := HT5.out.box
   have z0 := hK5.cell 0
   have z1 := hK5.cell 1
   have z2 := hK5.cell 2
   have z3 := hK5.cell 3
   have z4 := hK5.cell 4
   simp only [kcells, List.getElem?_cons_zero, List.getElem?_cons_succ] at y0 y1 y2 y3 y4 t0 t1 t2 z0 z1 z2 z3 z4
   have yl := hN5.lt
   have tl := hA5.lt
   have tf := hA5.open_
   have zl := hK5.lt
   have zf := hK5.open_
   have n1 : g4 ≠ g := by have := HT3.out.box.lt; have := Hs4.out; omega
   clear hN5 hA5 hK5 HN5
   by_cases he : de = 0
   ·subst he
    rw [if_pos rfl] at HNt
    have n2 : g4 + 1 ≠ g := by have := HT3.out.box.lt; have := Hs4.out; omega
    have n3 : w.heap.size ≠ g := Nat.ne_of_lt Hgl.out
    have HT6 := Lib.hid (show RunT w g dk an u6 ⟨A2, ca2, M2, cm2, N2, cn2, S2, cs2, Q2, cq2⟩ (((((w5.setCell ⟨g, 0, none⟩ (.slice A2 dk.mods.length ca2)).setCell ⟨g, 1, none⟩ (.slice M2 dk.mem.length cm2)).setCell ⟨g, 2, none⟩ (.slice N2 dk.nodes.length cn2)).setCell ⟨g, 3, none⟩ (.slice S2 dk.pipes.length cs2)).setCell ⟨g, 4, none⟩ (.slice Q2 dk.procs.length cq2)) from HT5.out.put HK5.out)
    have HA6 := Lib.hid (show Wb (((((w5.setCell ⟨g, 0, none⟩ (.slice A2 dk.mods.length ca2)).setCell ⟨g, 1, none⟩ (.slice M2 dk.mem.length cm2)).setCell ⟨g, 2, none⟩ (.slice N2 dk.nodes.length cn2)).setCell ⟨g, 3, none⟩ (.slice S2 dk.pipes.length cs2)).setCell ⟨g, 4, none⟩ (.slice Q2 dk.procs.length cq2)) (g4 + 1) tAns [.int .i64 dc, .int .i64 dn, .string ⟨ds.toArray⟩] from (((((HA5.out.off_ (p := ⟨g, 0, none⟩) n2 _).off_ (p := ⟨g, 1, none⟩) n2 _).off_ (p := ⟨g, 2, none⟩) n2 _).off_ (p := ⟨g, 3, none⟩) n2 _).off_ (p := ⟨g, 4, none⟩) n2 _))
    have HR6 := Lib.hid (show Wb (((((w5.setCell ⟨g, 0, none⟩ (.slice A2 dk.mods.length ca2)).setCell ⟨g, 1, none⟩ (.slice M2 dk.mem.length cm2)).setCell ⟨g, 2, none⟩ (.slice N2 dk.nodes.length cn2)).setCell ⟨g, 3, none⟩ (.slice S2 dk.pipes.length cs2)).setCell ⟨g, 4, none⟩ (.slice Q2 dk.procs.length cq2)) w.heap.size tKern [.slice none 0 0, .slice none 0 0, .slice none 0 0, .slice none 0 0, .slice none 0 0] from (((((HR5.out.off_ (p := ⟨g, 0, none⟩) n3 _).off_ (p := ⟨g, 1, none⟩) n3 _).off_ (p := ⟨g, 2, none⟩) n3 _).off_ (p := ⟨g, 3, none⟩) n3 _).off_ (p := ⟨g, 4, none⟩) n3 _))
    clear HT5 HK5 HA5 HR5
    go_upto_region 12 with fail
    clear y0 y1 y2 y3 y4 t0 t1 t2 z0 z1 z2 z3 z4 yl tl tf zl zf n1 n2 n3
    generalize (((((w5.setCell ⟨g, 0, none⟩ (.slice A2 dk.mods.length ca2)).setCell ⟨g, 1, none⟩ (.slice M2 dk.mem.length cm2)).setCell ⟨g, 2, none⟩ (.slice N2 dk.nodes.length cn2)).setCell ⟨g, 3, none⟩ (.slice S2 dk.pipes.length cs2)).setCell ⟨g, 4, none⟩ (.slice Q2 dk.procs.length cq2)) = w6 at *
    have hA9 := HA6.out
    have t0 := hA9.cell 0
    have t1 := hA9.cell 1
    have t2 := hA9.cell 2
    simp only [List.getElem?_cons_zero, List.getElem?_cons_succ] at t0 t1 t2
    have tl := hA9.lt
    have hb9 : Below w6.heap.size w6 (w6.alloc (.cells #[.int .i64 dc, .int .i64 dn, .string ⟨ds.toArray⟩] 34)) := (Below.refl _ _).alloc (Nat.le_refl _) _
    have HT7 := Lib.hid (HT6.out.below hb9)
    have HR7 := Lib.hid (HR6.out.below hb9 HR6.out.lt)
    have Hsz := Lib.hid HT6.out.keep.size
    clear hA9 HA6 HT6 HR6 hb9
    go_wp2_with (at_builtin; refine wpList_append_src rfl _ _ 40 rfl w.heap.size 34 i0 (.agg #[.int .i64 0, .int .i64 0, .string ⟨#[]⟩]) 3 32 Tryz.underlying40 Hi.out H0.out H1.out H2.out rfl (by decide) encAn_len one_an _ an.length (an.flatMap encAn) rfl HT7.out.row (some ⟨w6.heap.size, 0, none⟩) 1 [⟨dc, dn, ds⟩] rfl (an_new w6 _ ⟨dc, dn, ds⟩) (by unfold maxLen; simp; omega) (by simp; omega) (Nat.le_trans Hsz.out (by simp)) ?_)
    intro v' w8 hown hgr hat
    have HT8 := Lib.hid (HT7.out.grow (x := ⟨dc, dn, ds⟩) hown hgr (by simpa using hat))
    have HR8 := Lib.hid (HR7.out.grown hgr (own_off HT7.out.row HR7.out (by decide)))
    have HT9 := Lib.hid (show RunT w g (Cf.ranT Cf.newKern (l.take (n + 1))).kern (Cf.ranT Cf.newKern (l.take (n + 1))).answers v' _ w8 from by rw [HNx.out, HNt.out]; exact HT8.out)
    have HG9 := Lib.hid (show Cf.Good (Cf.ranT Cf.newKern (l.take (n + 1))).kern from by rw [HNx.out]; exact HGn.out)
    clear HT7 HR7 hown hgr hat HT8 t0 t1 t2 tl HNx HNt HGn
    go_wp2
    go_roundw
    case rel => exact ⟨n + 1, _, by omega, by go_num, HT9.out, HR8.out, HG9.out⟩
    case measure => simp [intOf]; omega
   ·have hq : (de == 0) = false := by rw [beq_eq_false_iff_ne]; exact he
    rw [if_neg he] at HNt
    clear he y0 y1 y2 y3 y4 z0 z1 z2 z3 z4 yl zl zf t0 t1 t2 tl tf
    go_wp2_with fail
    refine (refuse_any de _).mono ?_
    rintro e w6 ⟨rfl, hb6⟩
    simp only [encAn]
    have hA6 := HA5.out.below hb6 HA5.out.lt
    have t0 := hA6.cell 0
    have t1 := hA6.cell 1
    have t2 := hA6.cell 2
    simp only [List.getElem?_cons_zero, List.getElem?_cons_succ] at t0 t1 t2
    have tl := hA6.lt
    have tf := hA6.open_
    have n3 : w.heap.size ≠ g4 + 1 := by have := HT3.out.keep.size; have := Hs4.out; omega
    have hb36 := Hb35.out.trans (hb6.mono Hb35.out.size)
    have hg41 : w3.heap.size ≤ g4 + 1 := by have := Hs4.out; omega
    have HT7a := Lib.hid (show RunT w g kk an u6 ⟨A, ca, M, cm, N, cn, S, cs, Q, cq⟩ (((w6.setCell ⟨g4 + 1, 0, none⟩ (.int .i64 de)).setCell ⟨g4 + 1, 1, none⟩ (.int .i64 0)).setCell ⟨g4 + 1, 2, none⟩ (.string ⟨#[]⟩)) from HT3.out.below (((hb36.setCell (p := ⟨g4 + 1, 0, none⟩) hg41 _).setCell (p := ⟨g4 + 1, 1, none⟩) hg41 _).setCell (p := ⟨g4 + 1, 2, none⟩) hg41 _))
    have HA7 := Lib.hid (show Wb (((w6.setCell ⟨g4 + 1, 0, none⟩ (.int .i64 de)).setCell ⟨g4 + 1, 1, none⟩ (.int .i64 0)).setCell ⟨g4 + 1, 2, none⟩ (.string ⟨#[]⟩)) (g4 + 1) tAns [.int .i64 de, .int .i64 0, .string ⟨#[]⟩] from ((hA6.put 0 (.int .i64 de)).put 1 (.int .i64 0)).put 2 (.string ⟨#[]⟩))
    have HR7a := Lib.hid (show Wb (((w6.setCell ⟨g4 + 1, 0, none⟩ (.int .i64 de)).setCell ⟨g4 + 1, 1, none⟩ (.int .i64 0)).setCell ⟨g4 + 1, 2, none⟩ (.string ⟨#[]⟩)) w.heap.size tKern [.slice none 0 0, .slice none 0 0, .slice none 0 0, .slice none 0 0, .slice none 0 0] from (((HR5.out.below hb6 HR5.out.lt).off_ (p := ⟨g4 + 1, 0, none⟩) n3 _).off_ (p := ⟨g4 + 1, 1, none⟩) n3 _).off_ (p := ⟨g4 + 1, 2, none⟩) n3 _)
    clear hA6 hb6 hb36 HT5 HK5 HA5 HR5
    go_upto_region 12 with fail
    clear t0 t1 t2 tl tf
    generalize (((w6.setCell ⟨g4 + 1, 0, none⟩ (.int .i64 de)).setCell ⟨g4 + 1, 1, none⟩ (.int .i64 0)).setCell ⟨g4 + 1, 2, none⟩ (.string ⟨#[]⟩)) = w7 at *
    have hA9 := HA7.out
    have t0 := hA9.cell 0
    have t1 := hA9.cell 1
    have t2 := hA9.cell 2
    simp only [List.getElem?_cons_zero, List.getElem?_cons_succ] at t0 t1 t2
    have tl := hA9.lt
    have hb9 : Below w7.heap.size w7 (w7.alloc (.cells #[.int .i64 de, .int .i64 0, .string ⟨#[]⟩] 34)) := (Below.refl _ _).alloc (Nat.le_refl _) _
    have HT7 := Lib.hid (HT7a.out.below hb9)
    have HR7 := Lib.hid (HR7a.out.below hb9 HR7a.out.lt)
    have Hsz := Lib.hid HT7a.out.keep.size
    clear hA9 HA7 HT7a HR7a hb9
    go_wp2_with (at_builtin; refine wpList_append_src rfl _ _ 40 rfl w.heap.size 34 i0 (.agg #[.int .i64 0, .int .i64 0, .string ⟨#[]⟩]) 3 32 Tryz.underlying40 Hi.out H0.out H1.out H2.out rfl (by decide) encAn_len one_an _ an.length (an.flatMap encAn) rfl HT7.out.row (some ⟨w7.heap.size, 0, none⟩) 1 [⟨de, 0, []⟩] rfl (an_new w7 _ ⟨de, 0, []⟩) (by unfold maxLen; simp; omega) (by simp; omega) (Nat.le_trans Hsz.out (by simp)) ?_)
    intro v' w8 hown hgr hat
    have HT8 := Lib.hid (HT7.out.grow (x := ⟨de, 0, []⟩) hown hgr (by simpa using hat))
    have HR8 := Lib.hid (HR7.out.grown hgr (own_off HT7.out.row HR7.out (by decide)))
    have HT9 := Lib.hid (show RunT w g (Cf.ranT Cf.newKern (l.take (n + 1))).kern (Cf.ranT Cf.newKern (l.take (n + 1))).answers v' _ w8 from by rw [HNx.out, HNt.out]; exact HT8.out)
    have HG9 := Lib.hid (show Cf.Good (Cf.ranT Cf.newKern (l.take (n + 1))).kern from by rw [HNx.out]; exact HGn.out)
    clear HT7 HR7 hown hgr hat HT8 t0 t1 t2 tl HNx HNt HGn
    go_wp2
    go_roundw
    case rel => exact ⟨n + 1, _, by omega, by go_num, HT9.out, HR8.out, HG9.out⟩
    case measure => simp [intOf]; omega
  ·obtain rfl : n = l.length := by omega
   generalize (Cf.ranT Cf.newKern (l.take l.length)).kern = kk at *
   generalize (Cf.ranT Cf.newKern (l.take l.length)).answers = an at *
   obtain ⟨A5, c5, rfl⟩ := own_form HT.out.row
   have hK := HT.out.box
   have z0 := hK.cell 0
   have z1 := hK.cell 1
   have z2 := hK.cell 2
   have z3 := hK.cell 3
   have z4 := hK.cell 4
   have hR9 := HR.out
   have r0 := hR9.cell 0
   have r1 := hR9.cell 1
   have r2 := hR9.cell 2
   have r3 := hR9.cell 3
   have r4 := hR9.cell 4
   simp only [kcells, List.getElem?_cons_zero, List.getElem?_cons_succ] at z0 z1 z2 z3 z4 r0 r1 r2 r3 r4
   have zl := hK.lt
   have rl := hR9.lt
   have rf := hR9.open_
   have n3 : g ≠ w.heap.size := Ne.symm (Nat.ne_of_lt Hgl.out)
   have ho := own_off HT.out.row hR9 (by decide)
   have Ho := Lib.hid ho
   clear hK hR9 ho hlt hn
   go_wp2_with fail
   go_region
   all_goals
    go_wp2
    refine bodyPost_ret (v := .tuple #[.slice A5 an.length c5, .agg #[.slice A kk.mods.length ca, .slice M kk.mem.length cm, .slice N kk.nodes.length cn, .slice S kk.pipes.length cs, .slice Q kk.procs.length cq], .int .i64 0]) (by simp [results, Tryz.results15, go_sem, r0, r1, r2, r3, r4]) rfl ?_
    refine ⟨A5, c5, ⟨A, ca, M, cm, N, cn, S, cs, Q, cq⟩, rfl, ?_, own_cap HT.out.row, ?_, ?_⟩
    ·refine own_rd (base := w.heap.size) (e := tAns) (cap := c5) encAn_len (own_below ?_ (Below.refl _ _).drew)
     iterate 5 refine own_setCell ?_ Ho.out _
     exact HT.out.row
    ·refine ⟨own_at HT.out.row, ?_⟩
     refine KPr.mono (P := fun b => b ≠ g ∧ (Value.slice A5 an.length c5).ownBlock ≠ some b ∧ w.heap.size < b) ?_ (fun b hb => Nat.le_of_lt hb.2.2)
     refine KPr.kept (P := fun b => b ≠ g ∧ (Value.slice A5 an.length c5).ownBlock ≠ some b ∧ w.heap.size < b) ?_ (KeepP.below (Below.refl _ _).drew)
     iterate 5 refine KPr.kept ?_ (KeepP.set (fun b hb => by omega) _ _)
     exact HT.out.rows
    ·refine Below.drew ?_
     refine Below.setCell (p := ⟨w.heap.size, 4, none⟩) ?_ (Nat.le_refl _) _
     refine Below.setCell (p := ⟨w.heap.size, 3, none⟩) ?_ (Nat.le_refl _) _
     refine Below.setCell (p := ⟨w.heap.size, 2, none⟩) ?_ (Nat.le_refl _) _
     refine Below.setCell (p := ⟨w.heap.size, 1, none⟩) ?_ (Nat.le_refl _) _
     refine Below.setCell (p := ⟨w.heap.size, 0, none⟩) ?_ (Nat.le_refl _) _
     exact HT.out.keep
end Go.Proofs.YtnnhhbjbdmgpiaaGreatDoor
