/- Texts of the proofs: RunK, IdxA, RunW, QuiA, QuiD, EqX, EqE, GrowA, CatA, QuiB, QuiC, LitK, RanA. -/
import Derived.Test.YtnnhhbjbdmgpiaaGreatDoorJ35
import Derived.Test.YtnnhhbjbdmgpiaaGreatDoorJ11
import Derived.Test.YtnnhhbjbdmgpiaaGreatDoorJ00
import Derived.BigRegion
import Derived.BigQuiet
import Derived.Test.YtnnhhbjbdmgpiaaGreatDoorJ02
import Derived.Laws.EntriesVeiled
import Derived.Lib.AppendZeros
import Derived.Laws.AppendOwn
import Derived.Test.YtnnhhbjbdmgpiaaGreatDoorJ07
import Derived.Test.YtnnhhbjbdmgpiaaGreatDoorJ32
set_option linter.unusedSimpArgs false
set_option linter.unusedVariables false
/- A kernel that is read, and which blocks its rows lie in; the answers of a script. -/
namespace Go.Proofs.YtnnhhbjbdmgpiaaGreatDoor
set_option maxRecDepth 100000
open Go.RowKit
def AtP {α : Type} (P : Nat → Prop) (A : Option Addr) (l : List α) : Prop := l = [] ∨ ∃ b off, A = some ⟨b, off, none⟩ ∧ P b
theorem AtP.mono {α : Type} {P R : Nat → Prop} {A : Option Addr} {l : List α} (h : AtP P A l) (hPR : ∀ b, P b → R b) : AtP R A l := by
 rcases h with h | ⟨b, off, he, hp⟩
 ·exact .inl h
 ·exact .inr ⟨b, off, he, hPR b hp⟩
theorem atP_of {α : Type} {sz : Nat} {enc : α → List Value} {w : World} {B : Nat} {A : Option Addr} {l : List α} (h : RdS sz enc w A l) (hf : Fresh B A l) : AtP (fun b => B ≤ b ∧ b < w.heap.size) A l := by
 rcases h with h | ⟨b, off, rfl, hb, hc⟩
 ·exact .inl h
 ·rcases hf with hf | ⟨b', off', he, hle⟩
  ·exact .inl hf
  ·cases he
   exact .inr ⟨b, off, rfl, hle, hb⟩
def KeepP (P : Nat → Prop) (w w' : World) : Prop := w.heap.size ≤ w'.heap.size ∧ ∀ b, P b → b < w.heap.size → w'.heap[b]? = w.heap[b]?
theorem RdS.kept {α : Type} {sz : Nat} {enc : α → List Value} {w w' : World} {P : Nat → Prop} {A : Option Addr} {l : List α} (h : RdS sz enc w A l) (hp : AtP P A l) (hk : KeepP P w w') : RdS sz enc w' A l := by
 rcases h with h | ⟨b, off, rfl, hb, hc⟩
 ·exact .inl h
 ·rcases hp with hp | ⟨b', off', he, hle⟩
  ·exact .inl hp
  ·cases he
   refine .inr ⟨b, off, rfl, Nat.lt_of_lt_of_le hb hk.1, fun k x hx j v hv => ?_⟩
   rw [World.cell?_of_block (w := w) (hk.2 b hle hb)]
   exact hc k x hx j v hv
structure KPr (P : Nat → Prop) (w : World) (a : KA) (k : Cf.Kern) : Prop where
 mods : ∃ xs, (RdS 3 encMv w a.A xs ∧ AtP P a.A xs) ∧ Each (fun x m => IsM w x m ∧ AtP P x.A m.code ∧ AtP P x.B m.data) xs k.mods
 mem : Ints w a.M k.mem ∧ AtP P a.M k.mem
 nodes : Nodes w a.N k.nodes ∧ AtP P a.N k.nodes
 pipes : Strs w a.S k.pipes ∧ AtP P a.S k.pipes
 procs : ∃ xs, (RdS 2 encPv w a.Q xs ∧ AtP P a.Q xs) ∧ Each (fun x p => IsP w x p ∧ AtP P x.A p.ends) xs k.procs
 capA : k.mods.length ≤ a.ca
 capM : k.mem.length ≤ a.cm
section
variable {P R : Nat → Prop} {w w' : World} {a : KA} {k : Cf.Kern} {B : Nat}
theorem KNew.pr (h : KNew B w a k) : KPr (fun b => B ≤ b ∧ b < w.heap.size) w a k := by
 obtain ⟨xs, h1, h2⟩ := h.mods
 obtain ⟨ys, h3, h4⟩ := h.procs
 exact ⟨⟨xs, ⟨h1.1, atP_of h1.1 h1.2⟩, h2.mono fun _ _ h => ⟨h.1, atP_of h.1.2.2.2.1 h.2.1, atP_of h.1.2.2.2.2 h.2.2⟩⟩, ⟨h.mem.1, atP_of h.mem.1 h.mem.2⟩, ⟨h.nodes.1, atP_of h.nodes.1 h.nodes.2⟩, ⟨h.pipes.1, atP_of h.pipes.1 h.pipes.2⟩, ⟨ys, ⟨h3.1, atP_of h3.1 h3.2⟩, h4.mono fun _ _ h => ⟨h.1, atP_of h.1.2.2 h.2⟩⟩, h.capA, h.capM⟩
theorem KPr.rd (h : KPr P w a k) : KRd w a k := by
 obtain ⟨xs, h1, h2⟩ := h.mods
 obtain ⟨ys, h3, h4⟩ := h.procs
 exact ⟨⟨xs, h1.1, h2.mono fun _ _ h => h.1⟩, h.mem.1, h.nodes.1, h.pipes.1, ⟨ys, h3.1, h4.mono fun _ _ h => h.1⟩, h.capA⟩
theorem KPr.mono (h : KPr P w a k) (hPR : ∀ b, P b → R b) : KPr R w a k := by
 obtain ⟨xs, h1, h2⟩ := h.mods
 obtain ⟨ys, h3, h4⟩ := h.procs
 exact ⟨⟨xs, ⟨h1.1, h1.2.mono hPR⟩, h2.mono fun _ _ h => ⟨h.1, h.2.1.mono hPR, h.2.2.mono hPR⟩⟩, ⟨h.mem.1, h.mem.2.mono hPR⟩, ⟨h.nodes.1, h.nodes.2.mono hPR⟩, ⟨h.pipes.1, h.pipes.2.mono hPR⟩, ⟨ys, ⟨h3.1, h3.2.mono hPR⟩, h4.mono fun _ _ h => ⟨h.1, h.2.mono hPR⟩⟩, h.capA, h.capM⟩
theorem KPr.kept (h : KPr P w a k) (hk : KeepP P w w') : KPr P w' a k := by
 obtain ⟨xs, h1, h2⟩ := h.mods
 obtain ⟨ys, h3, h4⟩ := h.procs
 exact ⟨⟨xs, ⟨h1.1.kept h1.2 hk, h1.2⟩, h2.mono fun _ _ h => ⟨⟨h.1.1, h.1.2.1, h.1.2.2.1, RdS.kept h.1.2.2.2.1 h.2.1 hk, RdS.kept h.1.2.2.2.2 h.2.2 hk⟩, h.2⟩⟩, ⟨RdS.kept h.mem.1 h.mem.2 hk, h.mem.2⟩, ⟨RdS.kept h.nodes.1 h.nodes.2 hk, h.nodes.2⟩, ⟨RdS.kept h.pipes.1 h.pipes.2 hk, h.pipes.2⟩, ⟨ys, ⟨h3.1.kept h3.2 hk, h3.2⟩, h4.mono fun _ _ h => ⟨⟨h.1.1, h.1.2.1, RdS.kept h.1.2.2 h.2 hk⟩, h.2⟩⟩, h.capA, h.capM⟩
theorem KeepP.below (hb : Below w.heap.size w w') : KeepP P w w' := ⟨hb.size, fun b _ hl => hb.block b hl⟩
theorem KeepP.set {g : Nat} (hP : ∀ b, P b → b ≠ g) (i : Nat) (u : Value) : KeepP P w (w.setCell ⟨g, i, none⟩ u) := ⟨by simp [World.setCell], fun b hb _ => Below.heap_setCell w ⟨g, i, none⟩ u b (fun he => hP b hb he)⟩
theorem KeepP.grown {row : Option Nat} (hg : w.grownBy w' row) (hP : ∀ b, P b → row ≠ some b) : KeepP P w w' := ⟨hg.size, fun b hb hl => hg.block b hl (fun he => hP b hb he.symm)⟩
end
theorem infoA : (Tryz.prog.info? 34).map (fun i => (i.zero, i.size, i.bytes)) = some (some (.agg #[.int .i64 0, .int .i64 0, .string ⟨#[]⟩]), 3, 32) := by kernel_rfl
theorem encAn_len (x : Cf.Ans) : (encAn x).length = 3 := rfl
theorem one_an : ∀ x, ∀ u ∈ encAn x, u.oneCell' = true := by
 intro x u hu
 simp [encAn] at hu
 rcases hu with rfl | rfl | rfl <;> rfl
theorem encAc_len (x : Cf.Actn) : (encAc x).length = 6 := rfl
abbrev Acts (w : World) (A : Option Addr) (l : List Cf.Actn) : Prop := RdS 6 encAc w A l
def RunP (r : Cf.RanE) (w : World) (e : Ending) (w' : World) : Prop :=
 ∃ (A : Option Addr) (c : Nat) (a : KA), e = .returned (.tuple #[.slice A r.answers.length c, .agg (kcells a r.kern).toArray, .int .i64 r.err]) ∧ RdS 3 encAn w' A r.answers ∧ r.answers.length ≤ c ∧ (AtP (fun b => w.heap.size ≤ b) A r.answers ∧ KPr (fun b => w.heap.size ≤ b) w' a r.kern) ∧ Below w.heap.size w w'
theorem atP_lt {α : Type} {sz : Nat} {enc : α → List Value} {w : World} {P : Nat → Prop} {A : Option Addr} {l : List α} (h : RdS sz enc w A l) (hp : AtP P A l) : AtP (fun b => P b ∧ b < w.heap.size) A l := by
 rcases h with h | ⟨b, off, rfl, hb, hc⟩
 ·exact .inl h
 ·rcases hp with hp | ⟨b', off', he, hle⟩
  ·exact .inl hp
  ·cases he
   exact .inr ⟨b, off, rfl, hle, hb⟩
theorem KPr.lt {P : Nat → Prop} {w : World} {a : KA} {k : Cf.Kern} (h : KPr P w a k) : KPr (fun b => P b ∧ b < w.heap.size) w a k := by
 obtain ⟨xs, h1, h2⟩ := h.mods
 obtain ⟨ys, h3, h4⟩ := h.procs
 exact ⟨⟨xs, ⟨h1.1, atP_lt h1.1 h1.2⟩, h2.mono fun _ _ h => ⟨h.1, atP_lt h.1.2.2.2.1 h.2.1, atP_lt h.1.2.2.2.2 h.2.2⟩⟩, ⟨h.mem.1, atP_lt h.mem.1 h.mem.2⟩, ⟨h.nodes.1, atP_lt h.nodes.1 h.nodes.2⟩, ⟨h.pipes.1, atP_lt h.pipes.1 h.pipes.2⟩, ⟨ys, ⟨h3.1, atP_lt h3.1 h3.2⟩, h4.mono fun _ _ h => ⟨h.1, atP_lt h.1.2.2 h.2⟩⟩, h.capA, h.capM⟩
structure RunT (w : World) (g : Nat) (k : Cf.Kern) (ans : List Cf.Ans) (v : Value) (a : KA) (wr : World) : Prop where
 box : Wb wr g tKern (kcells a k)
 row : wr.ownsRow w.heap.size tAns 3 v ans.length (ans.flatMap encAn)
 rows : KPr (fun b => b ≠ g ∧ v.ownBlock ≠ some b ∧ w.heap.size < b) wr a k
 keep : Below w.heap.size w wr
 lo : w.heap.size ≤ g
section
variable {w : World} {g : Nat} {k : Cf.Kern} {ans : List Cf.Ans} {v : Value} {a : KA} {wr wr' : World}
theorem RunT.below (h : RunT w g k ans v a wr) (hb : Below wr.heap.size wr wr') : RunT w g k ans v a wr' := ⟨h.box.below hb h.box.lt, own_below h.row hb, h.rows.kept (KeepP.below hb), h.keep.trans (hb.mono h.keep.size), h.lo⟩
theorem RunT.own_lt (h : RunT w g k ans v a wr) {b : Nat} (hb : v.ownBlock = some b) : b < wr.heap.size := by
 rcases h.row.2 with ⟨hv, _⟩ | ⟨g', cap, cur, hv, _, hh, _⟩
 ·rw [hv] at hb
  cases hb
 ·rw [hv] at hb
  cases hb
  exact (Array.getElem?_eq_some_iff.1 hh).1
theorem RunT.put (h : RunT w g k ans v a wr) {a2 : KA} {k2 : Cf.Kern} (hr : KPr (fun b => b ≠ g ∧ v.ownBlock ≠ some b ∧ w.heap.size < b) wr a2 k2) :
  RunT w g k2 ans v a2 (((((wr.setCell ⟨g, 0, none⟩ (.slice a2.A k2.mods.length a2.ca)).setCell ⟨g, 1, none⟩ (.slice a2.M k2.mem.length a2.cm)).setCell ⟨g, 2, none⟩ (.slice a2.N k2.nodes.length a2.cn)).setCell ⟨g, 3, none⟩ (.slice a2.S k2.pipes.length a2.cs)).setCell ⟨g, 4, none⟩ (.slice a2.Q k2.procs.length a2.cq)) := by
 have ho : ∀ (W : World) (ds : List Value), W.ownsRow w.heap.size tAns 3 v ans.length (ans.flatMap encAn) → Wb W g tKern ds → v.ownBlock ≠ some g := fun W ds hr hw => own_off hr hw (by decide)
 have hk : ∀ (W : World) (i : Nat) (u : Value), KPr (fun b => b ≠ g ∧ v.ownBlock ≠ some b ∧ w.heap.size < b) W a2 k2 → KPr (fun b => b ≠ g ∧ v.ownBlock ≠ some b ∧ w.heap.size < b) (W.setCell ⟨g, i, none⟩ u) a2 k2 := fun W i u h => h.kept (KeepP.set (fun b hb => hb.1) i u)
 have hg := ho _ _ h.row h.box
 refine ⟨((((h.box.put 0 _).put 1 _).put 2 _).put 3 _).put 4 _, ?_, hk _ 4 _ (hk _ 3 _ (hk _ 2 _ (hk _ 1 _ (hk _ 0 _ hr)))), ((((h.keep.setCell h.lo _).setCell h.lo _).setCell h.lo _).setCell h.lo _).setCell h.lo _, h.lo⟩
 exact own_setCell (own_setCell (own_setCell (own_setCell (own_setCell h.row hg _) hg _) hg _) hg _) hg _
theorem RunT.grow (h : RunT w g k ans v a wr) {x : Cf.Ans} {v' : Value} (hown : wr'.ownsRow w.heap.size tAns 3 v' (ans.length + 1) (ans.flatMap encAn ++ [x].flatMap encAn)) (hg : wr.grownBy wr' v.ownBlock) (hat : v'.ownBlock = v.ownBlock ∨ v'.ownBlock = some wr.heap.size) : RunT w g k (ans ++ [x]) v' a wr' := by
 refine ⟨h.box.grown hg (own_off h.row h.box (by decide)), by rw [List.length_append, List.flatMap_append]; exact hown, ?_, h.keep.grown hg h.keep.size (fun r hr => own_blocks h.row r hr), h.lo⟩
 refine ((h.rows.lt).kept (KeepP.grown hg fun b hb => hb.1.2.1)).mono fun b hb => ⟨hb.1.1, ?_, hb.1.2.2⟩
 rcases hat with hat | hat
 ·rw [hat]; exact hb.1.2.1
 ·rw [hat]
  intro he
  have := Option.some.inj he
  omega
end
theorem take_next {l : List Cf.Actn} {n : Nat} {x : Cf.Actn} (hx : l[n]? = some x) (k : Cf.Kern) : Cf.ranT k (l.take (n + 1)) = ⟨(Cf.ranT k (l.take n)).answers ++ [(Cf.nextT (Cf.ranT k (l.take n)).kern x).ans], (Cf.nextT (Cf.ranT k (l.take n)).kern x).kern⟩ := by
 rw [List.take_add_one, hx, Option.toList_some, Cf.ran_app]
 rfl
end Go.Proofs.YtnnhhbjbdmgpiaaGreatDoor
/- Walks of the library: slices.IndexFunc of actions, whatever the function that is handed in. (tools/gen/idxa.py) -/
namespace Go.Proofs.YtnnhhbjbdmgpiaaGreatDoor
set_option maxRecDepth 100000
open Go.RowKit
def acCl {β : Type} (l : List Cf.Actn) (ys : List β) (p : β → Bool) (f : Nat) (cs : Array Value) (w : World) : Prop :=
 ∀ (i : Nat) (x : Cf.Actn) (y : β) (w' : World), l[i]? = some x → ys[i]? = some y → Below w.heap.size w w' → Calls Tryz.prog f (#[.agg (encAc x).toArray] ++ cs) w' fun e w'' => e = .returned (.bool (p y)) ∧ Below w'.heap.size w' w''
set_option maxHeartbeats 1000000 in
theorem acIdx_any {β : Type} (l : List Cf.Actn) (A : Option Addr) (cap : Nat) (w : World) (hR : RdS 6 encAc w A l) (hm : l.length ≤ maxLen) (ys : List β) (hy : l.length = ys.length) (p : β → Bool) (f : Nat) (cs : Array Value) (hf : acCl l ys p f cs w) (eg : ∀ args w, (callFunc f args).run Tryz.prog w = .ok (.enter f args) w) :
  Calls Tryz.prog 65 #[.slice A l.length cap, .func (.func f) #[] cs] w fun e w' => e = .returned (.int .i64 (Cf.idxT p ys)) ∧ Below w.heap.size w w' := by
 unfold maxLen at hm
 rcases hR with hl | ⟨b, off, rfl, hb, hc⟩
 ·subst hl
  obtain rfl : ys = [] := List.eq_nil_of_length_eq_zero hy.symm
  clear hf eg hm
  go_enter Tryz.func65, Tryz.ntmps65
  go_wp2
  refine wp_loop_rounds 1 ?_
  rw [rounds_succ]
  go_wp2
  go_ret
  exact ⟨rfl, Below.refl _ _⟩
 ·have Hc := Lib.hid hc
  have HF := Lib.hid hf
  have Heg := Lib.hid eg
  have HY := Lib.hid hy
  clear hc hf eg hy
  go_enter Tryz.func65, Tryz.ntmps65
  go_wp2
  go_loopw [8] (fun i wr => ∃ k : Nat, k ≤ l.length ∧ i = .int .i64 k ∧ (ys.take k).any p = false ∧ Below w.heap.size w wr) (fun i _ => l.length - (intOf i).toNat)
  case atStart => exact ⟨0, by omega, rfl, rfl, Below.refl _ _⟩
  case round =>
   obtain ⟨k, hk, rfl, hall, hbw⟩ := hrel
   have Hall := Lib.hid hall
   clear hall
   by_cases hlt : k < l.length
   ·obtain ⟨kd, pp, nn, mm, nm, da, hx⟩ : ∃ kd pp nn mm nm da, l[k]? = some ⟨kd, pp, nn, mm, nm, da⟩ := ⟨_, _, _, _, _, _, List.getElem?_eq_getElem hlt⟩
    have c0 : wr.cell? ⟨b, off + k * 6, none⟩ = some (.int .i64 kd) := (hbw.cell hb).trans (Hc.out k _ hx 0 _ rfl)
    have c1 : wr.cell? ⟨b, off + k * 6 + 1, none⟩ = some (.int .i64 pp) := (hbw.cell hb).trans (Hc.out k _ hx 1 _ rfl)
    have c2 : wr.cell? ⟨b, off + k * 6 + 2, none⟩ = some (.int .i64 nn) := (hbw.cell hb).trans (Hc.out k _ hx 2 _ rfl)
    have c3 : wr.cell? ⟨b, off + k * 6 + 3, none⟩ = some (.int .i64 mm) := (hbw.cell hb).trans (Hc.out k _ hx 3 _ rfl)
    have c4 : wr.cell? ⟨b, off + k * 6 + 4, none⟩ = some (.string ⟨nm.toArray⟩) := (hbw.cell hb).trans (Hc.out k _ hx 4 _ rfl)
    have c5 : wr.cell? ⟨b, off + k * 6 + 5, none⟩ = some (.string ⟨da.toArray⟩) := (hbw.cell hb).trans (Hc.out k _ hx 5 _ rfl)
    obtain ⟨y, hyk⟩ : ∃ y, ys[k]? = some y := ⟨_, List.getElem?_eq_getElem (by rw [← HY.out]; exact hlt)⟩
    have HX := Lib.hid hyk
    have HC := Lib.hid (HF.out k _ y wr hx hyk hbw)
    clear hx hyk
    go_wp2_with fail
    first | with_reducible refine HC.out.mono ?_ | (rw [Heg.out]; refine HC.out.mono ?_)
    rintro e w1 ⟨rfl, hb1⟩
    have hbw1 := hbw.trans (hb1.mono hbw.size)
    clear hb1 HC
    cases hp : p y
    ·have HA := Lib.hid (Cf.any_on HX.out Hall.out hp)
     clear hp
     go_wp2
     go_roundw
     case rel => exact ⟨k + 1, by omega, by go_num, HA.out, hbw1⟩
     case measure => simp [intOf]; omega
    ·have HI := Lib.hid (Cf.idx_at HX.out hp Hall.out)
     clear hp
     go_wp2
     go_ret
     exact ⟨by rw [HI.out]; first | done | rfl, hbw1⟩
   ·have HI := Lib.hid (Cf.idx_none (p := p) (l := ys) (by have := Hall.out; rwa [List.take_of_length_le (by rw [← HY.out]; omega)] at this))
    go_wp2
    go_ret
    exact ⟨by rw [HI.out]; rfl, hbw⟩
end Go.Proofs.YtnnhhbjbdmgpiaaGreatDoor
/- Walks of chapter 5: the program's Run. (tools/gen/runw.py) -/
namespace Go.Proofs.YtnnhhbjbdmgpiaaGreatDoor
set_option maxRecDepth 100000
open Go.RowKit
theorem an_new (w : World) (t : TypeId) (x : Cf.Ans) : RdS 3 encAn (w.alloc (.cells #[.int .i64 x.code, .int .i64 x.n, .string ⟨x.data.toArray⟩] t)) (some ⟨w.heap.size, 0, none⟩) [x] :=
 .inr ⟨w.heap.size, 0, rfl, by simp, fun k y hy j u hu => by
  cases k with
  | succ k => simp at hy
  | zero =>
    simp at hy
    subst hy
    rw [show 0 + 0 * 3 + j = j by omega]
    exact ((Wb.new w t (encAn x)).cell j).trans hu⟩
theorem ans_len (l : List Cf.Actn) (k : Cf.Kern) (n : Nat) : (Cf.ranT k (l.take n)).answers.length ≤ n := by rw [Cf.ran_len, List.length_take]; omega
theorem own_at {w : World} {B sz : Nat} {t : TypeId} {A : Option Addr} {c : Nat} {l : List Cf.Ans} {xs : List Value} (h : w.ownsRow B t sz (.slice A l.length c) l.length xs) : AtP (fun b => B ≤ b) A l := by
 rcases h.2 with ⟨_, h0⟩ | ⟨g, cap, cur, hv, hb, _⟩
 ·exact .inl (List.eq_nil_of_length_eq_zero h0)
 ·injection hv with h1
  exact .inr ⟨g, 0, h1, hb⟩
set_option maxHeartbeats 4000000 in
theorem run_script (l : List Cf.Actn) (Al : Option Addr) (cap : Nat) (w : World) (hA : Acts w Al l) (hl : l.length ≤ maxLen) (hz : ∀ x ∈ l, x.name.length ≤ maxLen ∧ x.data.length ≤ maxLen) (hL : TabL w) (hF : TabF w) :
  Calls Tryz.prog 15 #[.slice Al l.length cap] w (RunP (Cf.scriptT l) w) := by
 obtain ⟨i0, hi0, hy0, hy1, hy2⟩ := info_parts infoA
 have Hi := Lib.hid hi0
 have H0 := Lib.hid hy0
 have H1 := Lib.hid hy1
 have H2 := Lib.hid hy2
 unfold maxLen at hl
 obtain ⟨w0, hw0⟩ : ∃ w0 : World, w0 = w.alloc (.cells #[.slice none 0 0, .slice none 0 0, .slice none 0 0, .slice none 0 0, .slice none 0 0] tKern) := ⟨_, rfl⟩
 have hb0 : Below w.heap.size w w0 := by rw [hw0]; exact (Below.refl _ _).alloc (Nat.le_refl _) _
 have HR0 := Lib.hid (show Wb w0 w.heap.size tKern [.slice none 0 0, .slice none 0 0, .slice none 0 0, .slice none 0 0, .slice none 0 0] by rw [hw0]; exact Wb.new w tKern [.slice none 0 0, .slice none 0 0, .slice none 0 0, .slice none 0 0, .slice none 0 0])
 have Hw0 := Lib.hid hw0
 have Hb0 := Lib.hid hb0
 have HA := Lib.hid hA
 have HZ := Lib.hid hz
 have HTb := Lib.hid (show ∀ W, Below w.heap.size w W → TabL W ∧ TabF W from fun W h => ⟨hL.below h, hF.below h⟩)
 have Hs0 := Lib.hid (show w0.heap.size = w.heap.size + 1 by rw [hw0]; simp)
 clear hi0 hy0 hy1 hy2 hw0 hb0 hA hz hL hF
 by_cases h2 : 200 < l.length
 ·have HSc := Lib.hid (show Cf.scriptT l = ⟨[], Cf.noKern, 1⟩ by unfold Cf.scriptT; rw [if_pos h2])
  rw [HSc.out]
  go_enter Tryz.func15, Tryz.ntmps15
  go_upto_region 1 with fail
  rw [← Hw0.out]
  clear Hw0
  have hR := HR0.out
  have r0 := hR.cell 0
  have r1 := hR.cell 1
  have r2 := hR.cell 2
  have r3 := hR.cell 3
  have r4 := hR.cell 4
  simp only [List.getElem?_cons_zero, List.getElem?_cons_succ] at r0 r1 r2 r3 r4
  have rf := hR.open_
  have rl := hR.lt
  clear hR
  go_wp2
  refine bodyPost_ret (v := .tuple #[.slice none 0 0, .agg #[.slice none 0 0, .slice none 0 0, .slice none 0 0, .slice none 0 0, .slice none 0 0], .int .i64 1]) (by simp [results, Tryz.results15, go_sem, r0, r1, r2, r3, r4]) rfl ?_
  exact ⟨none, 0, _, rfl, .inl rfl, Nat.le_refl _, ⟨.inl rfl, ((no_new w.heap.size _).pr).mono fun b hb => hb.1⟩, (((((Hb0.out.setCell (p := ⟨w.heap.size, 0, none⟩) (Nat.le_refl _) _).setCell (p := ⟨w.heap.size, 1, none⟩) (Nat.le_refl _) _).setCell (p := ⟨w.heap.size, 2, none⟩) (Nat.le_refl _) _).setCell (p := ⟨w.heap.size, 3, none⟩) (Nat.le_refl _) _).setCell (p := ⟨w.heap.size, 4, none⟩) (Nat.le_refl _) _)⟩
 have HSc := Lib.hid (show Cf.scriptT l = ⟨(Cf.ranT Cf.newKern (l.take l.length)).answers, (Cf.ranT Cf.newKern (l.take l.length)).kern, 0⟩ by unfold Cf.scriptT; rw [if_neg h2, List.take_length])
 have HNw := Lib.hid (new_any w0)
 rw [HSc.out]
 clear HSc
 go_enter Tryz.func15, Tryz.ntmps15
 go_upto_region 1 with fail
 rw [← Hw0.out]
 clear Hw0
 go_wp2_with fail
 refine HNw.out.mono ?_
 rintro e w1 ⟨⟨A1, ca1, M1, cm1, N1, cn1, S1, cs1, Q1, cq1⟩, rfl, hnew, hb1⟩
 simp only [kcells]
 go_upto_region 4 with fail
 have HT0 := Lib.hid (show RunT w w1.heap.size Cf.newKern [] (.slice none 0 0) ⟨A1, ca1, M1, cm1, N1, cn1, S1, cs1, Q1, cq1⟩ (w1.alloc (.cells #[.slice A1 Cf.newKern.mods.length ca1, .slice M1 Cf.newKern.mem.length cm1, .slice N1 Cf.newKern.nodes.length cn1, .slice S1 Cf.newKern.pipes.length cs1, .slice Q1 Cf.newKern.procs.length cq1] tKern)) from ⟨Wb.new w1 tKern _, World.ownsRow_nil _ _ _ _, ((hnew.pr).mono fun b hb => ⟨by omega, by simp [Value.ownBlock], by have := Hs0.out; omega⟩).kept (KeepP.below ((Below.refl _ _).alloc (Nat.le_refl _) _)), (Hb0.out.trans (hb1.mono Hb0.out.size)).alloc (Nat.le_trans Hb0.out.size hb1.size) _, Nat.le_trans Hb0.out.size hb1.size⟩)
 have HR1 := Lib.hid ((HR0.out.below hb1 HR0.out.lt).alloc (.cells #[.slice A1 Cf.newKern.mods.length ca1, .slice M1 Cf.newKern.mem.length cm1, .slice N1 Cf.newKern.nodes.length cn1, .slice S1 Cf.newKern.pipes.length cs1, .slice Q1 Cf.newKern.procs.length cq1] tKern))
 have Hgl := Lib.hid (show w.heap.size < w1.heap.size by have := hb1.size; have := Hs0.out; omega)
 clear hnew hb1 HNw HR0 Hb0
 generalize hgg : w1.heap.size = g at *
 clear hgg
 generalize w1.alloc (.cells #[.slice A1 Cf.newKern.mods.length ca1, .slice M1 Cf.newKern.mem.length cm1, .slice N1 Cf.newKern.nodes.length cn1, .slice S1 Cf.newKern.pipes.length cs1, .slice Q1 Cf.newKern.procs.length cq1] tKern) = w2 at *
 go_wp2
 go_loopw [6, 19] (fun v i wr => ∃ (n : Nat) (a : KA), n ≤ l.length ∧ i = .int .i64 n ∧ RunT w g (Cf.ranT Cf.newKern (l.take n)).kern (Cf.ranT Cf.newKern (l.take n)).answers v a wr ∧ Wb wr w.heap.size tKern [.slice none 0 0, .slice none 0 0, .slice none 0 0, .slice none 0 0, .slice none 0 0] ∧ Cf.Good (Cf.ranT Cf.newKern (l.take n)).kern) (fun v i _ => l.length - (intOf i).toNat)
 case atStart => exact ⟨0, _, by omega, rfl, HT0.out, HR1.out, Cf.good_new⟩
 case round =>
  obtain ⟨n, ⟨A, ca, M, cm, N, cn, S, cs, Q, cq⟩, hn, rfl, hT, hR, hG⟩ := hrel
  have HT := Lib.hid hT
  have HR := Lib.hid hR
  have HG := Lib.hid hG
  clear hT hR hG HT0 HR1
  by_cases hlt : n < l.length
  ·obtain ⟨kd, pp, nn, mm, nm, da, hx⟩ : ∃ kd pp nn mm nm da, l[n]? = some ⟨kd, pp, nn, mm, nm, da⟩ := ⟨_, _, _, _, _, _, List.getElem?_eq_getElem hlt⟩
   rcases HA.out with h0 | ⟨b, off, rfl, hbl, hc⟩
   ·rw [h0] at hlt
    simp at hlt
   have hkp := HT.out.keep
   have q0 : wr.cell? ⟨b, off + n * 6, none⟩ = _ := (hkp.cell hbl).trans (hc n _ hx 0 _ rfl)
   have q1 : wr.cell? ⟨b, off + n * 6 + 1, none⟩ = _ := (hkp.cell hbl).trans (hc n _ hx 1 _ rfl)
   have q2 : wr.cell? ⟨b, off + n * 6 + 2, none⟩ = _ := (hkp.cell hbl).trans (hc n _ hx 2 _ rfl)
   have q3 : wr.cell? ⟨b, off + n * 6 + 3, none⟩ = _ := (hkp.cell hbl).trans (hc n _ hx 3 _ rfl)
   have q4 : wr.cell? ⟨b, off + n * 6 + 4, none⟩ = _ := (hkp.cell hbl).trans (hc n _ hx 4 _ rfl)
   have q5 : wr.cell? ⟨b, off + n * 6 + 5, none⟩ = _ := (hkp.cell hbl).trans (hc n _ hx 5 _ rfl)
   have hbl2 : b < wr.heap.size := Nat.lt_of_lt_of_le hbl hkp.size
   obtain ⟨hnm, hda⟩ := HZ.out _ (List.mem_of_getElem? hx)
   simp only at hnm hda
   have HNx := Lib.hid (take_next hx Cf.newKern)
   have hal := ans_len l Cf.newKern n
   clear hkp hc hx
   generalize (Cf.ranT Cf.newKern (l.take n)).kern = kk at *
   generalize (Cf.ranT Cf.newKern (l.take n)).answers = an at *
   have HGn := Lib.hid (HG.out.next ⟨kd, pp, nn, mm, nm, da⟩)
   have HNt := Lib.hid (show Cf.nextT kk ⟨kd, pp, nn, mm, nm, da⟩ = if (Cf.doT kk ⟨kd, pp, nn, mm, nm, da⟩).err = 0 then ⟨(Cf.doT kk ⟨kd, pp, nn, mm, nm, da⟩).kern, (Cf.doT kk ⟨kd, pp, nn, mm, nm, da⟩).ans⟩ else ⟨kk, ⟨(Cf.doT kk ⟨kd, pp, nn, mm, nm, da⟩).err, 0, []⟩⟩ from rfl)
   go_upto_region 8 with fail
   have hb3 : Below wr.heap.size wr (wr.alloc (.cells #[.int .i64 kd, .int .i64 pp, .int .i64 nn, .int .i64 mm, .string ⟨nm.toArray⟩, .string ⟨da.toArray⟩] tAct)) := (Below.refl _ _).alloc (Nat.le_refl _) _
   have HB3 := Lib.hid (Wb.new wr tAct [.int .i64 kd, .int .i64 pp, .int .i64 nn, .int .i64 mm, .string ⟨nm.toArray⟩, .string ⟨da.toArray⟩])
   have HT3 := Lib.hid (HT.out.below hb3)
   have HR3 := Lib.hid (HR.out.below hb3 HR.out.lt)
   clear hb3 HT HR q0 q1 q2 q3 q4 q5 hbl2
   generalize hgA : wr.heap.size = gA at *
   clear hgA
   generalize wr.alloc (.cells #[.int .i64 kd, .int .i64 pp, .int .i64 nn, .int .i64 mm, .string ⟨nm.toArray⟩, .string ⟨da.toArray⟩] tAct) = w3 at *
   have HDo := Lib.hid (do_any kk ⟨A, ca, M, cm, N, cn, S, cs, Q, cq⟩ kd pp nn mm nm da w3 HT3.out.rows.rd (fit_good HG.out) (HTb.out w3 HT3.out.keep).1 (HTb.out w3 HT3.out.keep).2 hnm hda)
   generalize Cf.doT kk ⟨kd, pp, nn, mm, nm, da⟩ = d at *
   obtain ⟨dk, ⟨dc, dn, ds⟩, de⟩ := d
   have hK := HT3.out.box
   have z0 := hK.cell 0
   have z1 := hK.cell 1
   have z2 := hK.cell 2
   have z3 := hK.cell 3
   have z4 := hK.cell 4
   simp only [kcells, List.getElem?_cons_zero, List.getElem?_cons_succ] at z0 z1 z2 z3 z4
   have zl := hK.lt
   have hB := HB3.out
   have a0 := hB.cell 0
   have a1 := hB.cell 1
   have a2 := hB.cell 2
   have a3 := hB.cell 3
   have a4 := hB.cell 4
   have a5 := hB.cell 5
   simp only [List.getElem?_cons_zero, List.getElem?_cons_succ] at a0 a1 a2 a3 a4 a5
   have al := hB.lt
   clear hK hB HB3
   go_wp2_with fail
   refine HDo.out.mono ?_
   rintro e w4 ⟨⟨A2, ca2, M2, cm2, N2, cn2, S2, cs2, Q2, cq2⟩, rfl, hnew, hb4⟩
   simp only [kcells, encAn]
   go_upto_region 9 with fail
   have hb5 : Below w4.heap.size w4 ((w4.alloc (.cells #[.slice A2 dk.mods.length ca2, .slice M2 dk.mem.length cm2, .slice N2 dk.nodes.length cn2, .slice S2 dk.pipes.length cs2, .slice Q2 dk.procs.length cq2] tKern)).alloc (.cells #[.int .i64 dc, .int .i64 dn, .string ⟨ds.toArray⟩] tAns)) := ((Below.refl _ _).alloc (Nat.le_refl _) _).alloc (by simp) _
   have HN5 := Lib.hid (show Wb ((w4.alloc (.cells #[.slice A2 dk.mods.length ca2, .slice M2 dk.mem.length cm2, .slice N2 dk.nodes.length cn2, .slice S2 dk.pipes.length cs2, .slice Q2 dk.procs.length cq2] tKern)).alloc (.cells #[.int .i64 dc, .int .i64 dn, .string ⟨ds.toArray⟩] tAns)) w4.heap.size tKern [.slice A2 dk.mods.length ca2, .slice M2 dk.mem.length cm2, .slice N2 dk.nodes.length cn2, .slice S2 dk.pipes.length cs2, .slice Q2 dk.procs.length cq2] from (Wb.new w4 tKern [.slice A2 dk.mods.length ca2, .slice M2 dk.mem.length cm2, .slice N2 dk.nodes.length cn2, .slice S2 dk.pipes.length cs2, .slice Q2 dk.procs.length cq2]).alloc _)
   have HA5 := Lib.hid (show Wb ((w4.alloc (.cells #[.slice A2 dk.mods.length ca2, .slice M2 dk.mem.length cm2, .slice N2 dk.nodes.length cn2, .slice S2 dk.pipes.length cs2, .slice Q2 dk.procs.length cq2] tKern)).alloc (.cells #[.int .i64 dc, .int .i64 dn, .string ⟨ds.toArray⟩] tAns)) (w4.heap.size + 1) tAns [.int .i64 dc, .int .i64 dn, .string ⟨ds.toArray⟩] by
    have := Wb.new (w4.alloc (.cells #[.slice A2 dk.mods.length ca2, .slice M2 dk.mem.length cm2, .slice N2 dk.nodes.length cn2, .slice S2 dk.pipes.length cs2, .slice Q2 dk.procs.length cq2] tKern)) tAns [.int .i64 dc, .int .i64 dn, .string ⟨ds.toArray⟩]
    rwa [show (w4.alloc (.cells #[.slice A2 dk.mods.length ca2, .slice M2 dk.mem.length cm2, .slice N2 dk.nodes.length cn2, .slice S2 dk.pipes.length cs2, .slice Q2 dk.procs.length cq2] tKern)).heap.size = w4.heap.size + 1 by simp] at this)
   have Hb35 := Lib.hid (hb4.trans (hb5.mono hb4.size))
   have HT5 := Lib.hid (HT3.out.below Hb35.out)
   have HR5 := Lib.hid (HR3.out.below Hb35.out HR3.out.lt)
   have HK5 := Lib.hid (show KPr (fun b => b ≠ g ∧ u6.ownBlock ≠ some b ∧ w.heap.size < b) ((w4.alloc (.cells #[.slice A2 dk.mods.length ca2, .slice M2 dk.mem.length cm2, .slice N2 dk.nodes.length cn2, .slice S2 dk.pipes.length cs2, .slice Q2 dk.procs.length cq2] tKern)).alloc (.cells #[.int .i64 dc, .int .i64 dn, .string ⟨ds.toArray⟩] tAns)) ⟨A2, ca2, M2, cm2, N2, cn2, S2, cs2, Q2, cq2⟩ dk from
    ((hnew.pr).mono fun b hb => ⟨by have := HT3.out.box.lt; omega, fun he => by have := HT3.out.own_lt he; omega, by have := HT3.out.keep.size; have := HR3.out.lt; omega⟩).kept (KeepP.below hb5))
   have Hs4 := Lib.hid (show w3.heap.size ≤ w4.heap.size from hb4.size)
   clear hnew hb4 hb5 HDo HR3 z0 z1 z2 z3 z4 zl a0 a1 a2 a3 a4 a5 al
   generalize hg4 : w4.heap.size = g4 at *
   clear hg4
   generalize (w4.alloc (.cells #[.slice A2 dk.mods.length ca2, .slice M2 dk.mem.length cm2, .slice N2 dk.nodes.length cn2, .slice S2 dk.pipes.length cs2, .slice Q2 dk.procs.length cq2] tKern)).alloc (.cells #[.int .i64 dc, .int .i64 dn, .string ⟨ds.toArray⟩] tAns) = w5 at *
   have hN5 := HN5.out
   have y0 := hN5.cell 0
   have y1 := hN5.cell 1
   have y2 := hN5.cell 2
   have y3 := hN5.cell 3
   have y4 := hN5.cell 4
   have hA5 := HA5.out
   have t0 := hA5.cell 0
   have t1 := hA5.cell 1
   have t2 := hA5.cell 2
   have hK5 := HT5.out.box
   have z0 := hK5.cell 0
   have z1 := hK5.cell 1
   have z2 := hK5.cell 2
   have z3 := hK5.cell 3
   have z4 := hK5.cell 4
   simp only [kcells, List.getElem?_cons_zero, List.getElem?_cons_succ] at y0 y1 y2 y3 y4 t0 t1 t2 z0 z1 z2 z3 z4
   have yl := hN5.lt
   have tl := hA5.lt
   have tf := hA5.open_
   have zl := hK5.lt
   have zf := hK5.open_
   have n1 : g4 ≠ g := by have := HT3.out.box.lt; have := Hs4.out; omega
   clear hN5 hA5 hK5 HN5
   by_cases he : de = 0
   ·subst he
    rw [if_pos rfl] at HNt
    have n2 : g4 + 1 ≠ g := by have := HT3.out.box.lt; have := Hs4.out; omega
    have n3 : w.heap.size ≠ g := Nat.ne_of_lt Hgl.out
    have HT6 := Lib.hid (show RunT w g dk an u6 ⟨A2, ca2, M2, cm2, N2, cn2, S2, cs2, Q2, cq2⟩ (((((w5.setCell ⟨g, 0, none⟩ (.slice A2 dk.mods.length ca2)).setCell ⟨g, 1, none⟩ (.slice M2 dk.mem.length cm2)).setCell ⟨g, 2, none⟩ (.slice N2 dk.nodes.length cn2)).setCell ⟨g, 3, none⟩ (.slice S2 dk.pipes.length cs2)).setCell ⟨g, 4, none⟩ (.slice Q2 dk.procs.length cq2)) from HT5.out.put HK5.out)
    have HA6 := Lib.hid (show Wb (((((w5.setCell ⟨g, 0, none⟩ (.slice A2 dk.mods.length ca2)).setCell ⟨g, 1, none⟩ (.slice M2 dk.mem.length cm2)).setCell ⟨g, 2, none⟩ (.slice N2 dk.nodes.length cn2)).setCell ⟨g, 3, none⟩ (.slice S2 dk.pipes.length cs2)).setCell ⟨g, 4, none⟩ (.slice Q2 dk.procs.length cq2)) (g4 + 1) tAns [.int .i64 dc, .int .i64 dn, .string ⟨ds.toArray⟩] from (((((HA5.out.off_ (p := ⟨g, 0, none⟩) n2 _).off_ (p := ⟨g, 1, none⟩) n2 _).off_ (p := ⟨g, 2, none⟩) n2 _).off_ (p := ⟨g, 3, none⟩) n2 _).off_ (p := ⟨g, 4, none⟩) n2 _))
    have HR6 := Lib.hid (show Wb (((((w5.setCell ⟨g, 0, none⟩ (.slice A2 dk.mods.length ca2)).setCell ⟨g, 1, none⟩ (.slice M2 dk.mem.length cm2)).setCell ⟨g, 2, none⟩ (.slice N2 dk.nodes.length cn2)).setCell ⟨g, 3, none⟩ (.slice S2 dk.pipes.length cs2)).setCell ⟨g, 4, none⟩ (.slice Q2 dk.procs.length cq2)) w.heap.size tKern [.slice none 0 0, .slice none 0 0, .slice none 0 0, .slice none 0 0, .slice none 0 0] from (((((HR5.out.off_ (p := ⟨g, 0, none⟩) n3 _).off_ (p := ⟨g, 1, none⟩) n3 _).off_ (p := ⟨g, 2, none⟩) n3 _).off_ (p := ⟨g, 3, none⟩) n3 _).off_ (p := ⟨g, 4, none⟩) n3 _))
    clear HT5 HK5 HA5 HR5
    go_upto_region 12 with fail
    clear y0 y1 y2 y3 y4 t0 t1 t2 z0 z1 z2 z3 z4 yl tl tf zl zf n1 n2 n3
    generalize (((((w5.setCell ⟨g, 0, none⟩ (.slice A2 dk.mods.length ca2)).setCell ⟨g, 1, none⟩ (.slice M2 dk.mem.length cm2)).setCell ⟨g, 2, none⟩ (.slice N2 dk.nodes.length cn2)).setCell ⟨g, 3, none⟩ (.slice S2 dk.pipes.length cs2)).setCell ⟨g, 4, none⟩ (.slice Q2 dk.procs.length cq2)) = w6 at *
    have hA9 := HA6.out
    have t0 := hA9.cell 0
    have t1 := hA9.cell 1
    have t2 := hA9.cell 2
    simp only [List.getElem?_cons_zero, List.getElem?_cons_succ] at t0 t1 t2
    have tl := hA9.lt
    have hb9 : Below w6.heap.size w6 (w6.alloc (.cells #[.int .i64 dc, .int .i64 dn, .string ⟨ds.toArray⟩] 34)) := (Below.refl _ _).alloc (Nat.le_refl _) _
    have HT7 := Lib.hid (HT6.out.below hb9)
    have HR7 := Lib.hid (HR6.out.below hb9 HR6.out.lt)
    have Hsz := Lib.hid HT6.out.keep.size
    clear hA9 HA6 HT6 HR6 hb9
    go_wp2_with (at_builtin; refine wpList_append_src rfl _ _ 40 rfl w.heap.size 34 i0 (.agg #[.int .i64 0, .int .i64 0, .string ⟨#[]⟩]) 3 32 Tryz.underlying40 Hi.out H0.out H1.out H2.out rfl (by decide) encAn_len one_an _ an.length (an.flatMap encAn) rfl HT7.out.row (some ⟨w6.heap.size, 0, none⟩) 1 [⟨dc, dn, ds⟩] rfl (an_new w6 _ ⟨dc, dn, ds⟩) (by unfold maxLen; simp; omega) (by simp; omega) (Nat.le_trans Hsz.out (by simp)) ?_)
    intro v' w8 hown hgr hat
    have HT8 := Lib.hid (HT7.out.grow (x := ⟨dc, dn, ds⟩) hown hgr (by simpa using hat))
    have HR8 := Lib.hid (HR7.out.grown hgr (own_off HT7.out.row HR7.out (by decide)))
    have HT9 := Lib.hid (show RunT w g (Cf.ranT Cf.newKern (l.take (n + 1))).kern (Cf.ranT Cf.newKern (l.take (n + 1))).answers v' _ w8 from by rw [HNx.out, HNt.out]; exact HT8.out)
    have HG9 := Lib.hid (show Cf.Good (Cf.ranT Cf.newKern (l.take (n + 1))).kern from by rw [HNx.out]; exact HGn.out)
    clear HT7 HR7 hown hgr hat HT8 t0 t1 t2 tl HNx HNt HGn
    go_wp2
    go_roundw
    case rel => exact ⟨n + 1, _, by omega, by go_num, HT9.out, HR8.out, HG9.out⟩
    case measure => simp [intOf]; omega
   ·have hq : (de == 0) = false := by rw [beq_eq_false_iff_ne]; exact he
    rw [if_neg he] at HNt
    clear he y0 y1 y2 y3 y4 z0 z1 z2 z3 z4 yl zl zf t0 t1 t2 tl tf
    go_wp2_with fail
    refine (refuse_any de _).mono ?_
    rintro e w6 ⟨rfl, hb6⟩
    simp only [encAn]
    have hA6 := HA5.out.below hb6 HA5.out.lt
    have t0 := hA6.cell 0
    have t1 := hA6.cell 1
    have t2 := hA6.cell 2
    simp only [List.getElem?_cons_zero, List.getElem?_cons_succ] at t0 t1 t2
    have tl := hA6.lt
    have tf := hA6.open_
    have n3 : w.heap.size ≠ g4 + 1 := by have := HT3.out.keep.size; have := Hs4.out; omega
    have hb36 := Hb35.out.trans (hb6.mono Hb35.out.size)
    have hg41 : w3.heap.size ≤ g4 + 1 := by have := Hs4.out; omega
    have HT7a := Lib.hid (show RunT w g kk an u6 ⟨A, ca, M, cm, N, cn, S, cs, Q, cq⟩ (((w6.setCell ⟨g4 + 1, 0, none⟩ (.int .i64 de)).setCell ⟨g4 + 1, 1, none⟩ (.int .i64 0)).setCell ⟨g4 + 1, 2, none⟩ (.string ⟨#[]⟩)) from HT3.out.below (((hb36.setCell (p := ⟨g4 + 1, 0, none⟩) hg41 _).setCell (p := ⟨g4 + 1, 1, none⟩) hg41 _).setCell (p := ⟨g4 + 1, 2, none⟩) hg41 _))
    have HA7 := Lib.hid (show Wb (((w6.setCell ⟨g4 + 1, 0, none⟩ (.int .i64 de)).setCell ⟨g4 + 1, 1, none⟩ (.int .i64 0)).setCell ⟨g4 + 1, 2, none⟩ (.string ⟨#[]⟩)) (g4 + 1) tAns [.int .i64 de, .int .i64 0, .string ⟨#[]⟩] from ((hA6.put 0 (.int .i64 de)).put 1 (.int .i64 0)).put 2 (.string ⟨#[]⟩))
    have HR7a := Lib.hid (show Wb (((w6.setCell ⟨g4 + 1, 0, none⟩ (.int .i64 de)).setCell ⟨g4 + 1, 1, none⟩ (.int .i64 0)).setCell ⟨g4 + 1, 2, none⟩ (.string ⟨#[]⟩)) w.heap.size tKern [.slice none 0 0, .slice none 0 0, .slice none 0 0, .slice none 0 0, .slice none 0 0] from (((HR5.out.below hb6 HR5.out.lt).off_ (p := ⟨g4 + 1, 0, none⟩) n3 _).off_ (p := ⟨g4 + 1, 1, none⟩) n3 _).off_ (p := ⟨g4 + 1, 2, none⟩) n3 _)
    clear hA6 hb6 hb36 HT5 HK5 HA5 HR5
    go_upto_region 12 with fail
    clear t0 t1 t2 tl tf
    generalize (((w6.setCell ⟨g4 + 1, 0, none⟩ (.int .i64 de)).setCell ⟨g4 + 1, 1, none⟩ (.int .i64 0)).setCell ⟨g4 + 1, 2, none⟩ (.string ⟨#[]⟩)) = w7 at *
    have hA9 := HA7.out
    have t0 := hA9.cell 0
    have t1 := hA9.cell 1
    have t2 := hA9.cell 2
    simp only [List.getElem?_cons_zero, List.getElem?_cons_succ] at t0 t1 t2
    have tl := hA9.lt
    have hb9 : Below w7.heap.size w7 (w7.alloc (.cells #[.int .i64 de, .int .i64 0, .string ⟨#[]⟩] 34)) := (Below.refl _ _).alloc (Nat.le_refl _) _
    have HT7 := Lib.hid (HT7a.out.below hb9)
    have HR7 := Lib.hid (HR7a.out.below hb9 HR7a.out.lt)
    have Hsz := Lib.hid HT7a.out.keep.size
    clear hA9 HA7 HT7a HR7a hb9
    go_wp2_with (at_builtin; refine wpList_append_src rfl _ _ 40 rfl w.heap.size 34 i0 (.agg #[.int .i64 0, .int .i64 0, .string ⟨#[]⟩]) 3 32 Tryz.underlying40 Hi.out H0.out H1.out H2.out rfl (by decide) encAn_len one_an _ an.length (an.flatMap encAn) rfl HT7.out.row (some ⟨w7.heap.size, 0, none⟩) 1 [⟨de, 0, []⟩] rfl (an_new w7 _ ⟨de, 0, []⟩) (by unfold maxLen; simp; omega) (by simp; omega) (Nat.le_trans Hsz.out (by simp)) ?_)
    intro v' w8 hown hgr hat
    have HT8 := Lib.hid (HT7.out.grow (x := ⟨de, 0, []⟩) hown hgr (by simpa using hat))
    have HR8 := Lib.hid (HR7.out.grown hgr (own_off HT7.out.row HR7.out (by decide)))
    have HT9 := Lib.hid (show RunT w g (Cf.ranT Cf.newKern (l.take (n + 1))).kern (Cf.ranT Cf.newKern (l.take (n + 1))).answers v' _ w8 from by rw [HNx.out, HNt.out]; exact HT8.out)
    have HG9 := Lib.hid (show Cf.Good (Cf.ranT Cf.newKern (l.take (n + 1))).kern from by rw [HNx.out]; exact HGn.out)
    clear HT7 HR7 hown hgr hat HT8 t0 t1 t2 tl HNx HNt HGn
    go_wp2
    go_roundw
    case rel => exact ⟨n + 1, _, by omega, by go_num, HT9.out, HR8.out, HG9.out⟩
    case measure => simp [intOf]; omega
  ·obtain rfl : n = l.length := by omega
   generalize (Cf.ranT Cf.newKern (l.take l.length)).kern = kk at *
   generalize (Cf.ranT Cf.newKern (l.take l.length)).answers = an at *
   obtain ⟨A5, c5, rfl⟩ := own_form HT.out.row
   have hK := HT.out.box
   have z0 := hK.cell 0
   have z1 := hK.cell 1
   have z2 := hK.cell 2
   have z3 := hK.cell 3
   have z4 := hK.cell 4
   have hR9 := HR.out
   have r0 := hR9.cell 0
   have r1 := hR9.cell 1
   have r2 := hR9.cell 2
   have r3 := hR9.cell 3
   have r4 := hR9.cell 4
   simp only [kcells, List.getElem?_cons_zero, List.getElem?_cons_succ] at z0 z1 z2 z3 z4 r0 r1 r2 r3 r4
   have zl := hK.lt
   have rl := hR9.lt
   have rf := hR9.open_
   have n3 : g ≠ w.heap.size := Ne.symm (Nat.ne_of_lt Hgl.out)
   have ho := own_off HT.out.row hR9 (by decide)
   have Ho := Lib.hid ho
   clear hK hR9 ho hlt hn
   go_wp2_with fail
   go_region
   all_goals
    go_wp2
    refine bodyPost_ret (v := .tuple #[.slice A5 an.length c5, .agg #[.slice A kk.mods.length ca, .slice M kk.mem.length cm, .slice N kk.nodes.length cn, .slice S kk.pipes.length cs, .slice Q kk.procs.length cq], .int .i64 0]) (by simp [results, Tryz.results15, go_sem, r0, r1, r2, r3, r4]) rfl ?_
    refine ⟨A5, c5, ⟨A, ca, M, cm, N, cn, S, cs, Q, cq⟩, rfl, ?_, own_cap HT.out.row, ?_, ?_⟩
    ·refine own_rd (base := w.heap.size) (e := tAns) (cap := c5) encAn_len (own_below ?_ (Below.refl _ _).drew)
     iterate 5 refine own_setCell ?_ Ho.out _
     exact HT.out.row
    ·refine ⟨own_at HT.out.row, ?_⟩
     refine KPr.mono (P := fun b => b ≠ g ∧ (Value.slice A5 an.length c5).ownBlock ≠ some b ∧ w.heap.size < b) ?_ (fun b hb => Nat.le_of_lt hb.2.2)
     refine KPr.kept (P := fun b => b ≠ g ∧ (Value.slice A5 an.length c5).ownBlock ≠ some b ∧ w.heap.size < b) ?_ (KeepP.below (Below.refl _ _).drew)
     iterate 5 refine KPr.kept ?_ (KeepP.set (fun b hb => by omega) _ _)
     exact HT.out.rows
    ·refine Below.drew ?_
     refine Below.setCell (p := ⟨w.heap.size, 4, none⟩) ?_ (Nat.le_refl _) _
     refine Below.setCell (p := ⟨w.heap.size, 3, none⟩) ?_ (Nat.le_refl _) _
     refine Below.setCell (p := ⟨w.heap.size, 2, none⟩) ?_ (Nat.le_refl _) _
     refine Below.setCell (p := ⟨w.heap.size, 1, none⟩) ?_ (Nat.le_refl _) _
     refine Below.setCell (p := ⟨w.heap.size, 0, none⟩) ?_ (Nat.le_refl _) _
     exact HT.out.keep
end Go.Proofs.YtnnhhbjbdmgpiaaGreatDoor
/- Walks of the law TopQuiet: its first function value; slices.Index and slices.Contains of actions. -/
namespace Go.Proofs.YtnnhhbjbdmgpiaaGreatDoor
set_option maxRecDepth 100000
open Go.RowKit
theorem keep_eq (kd pp nn mm : Int) (nm da : List UInt8) : Cf.keepB ⟨kd, pp, nn, mm, nm, da⟩ = (decide (pp = 0) && (decide (nn = 0) && (decide (6 ≤ kd) && decide (kd ≤ 8)))) := rfl
set_option maxHeartbeats 1000000 in
theorem keep_any (kd pp nn mm : Int) (nm da : List UInt8) (w : World) :
  Calls Tryz.prog 28 #[.agg #[.int .i64 kd, .int .i64 pp, .int .i64 nn, .int .i64 mm, .string ⟨nm.toArray⟩, .string ⟨da.toArray⟩]] w fun e w' => e = .returned (.bool (Cf.keepB ⟨kd, pp, nn, mm, nm, da⟩)) ∧ Below w.heap.size w w' := by
 rw [keep_eq]
 by_cases h1 : pp = 0
 ·subst h1
  by_cases h2 : nn = 0
  ·subst h2
   by_cases h3 : 6 ≤ kd
   ·by_cases h4 : kd ≤ 8
    ·go_enter Tryz.func28, Tryz.ntmps28
     go_wp2
     go_ret
     exact ⟨by simp [h3, h4], (Below.refl _ _).alloc (Nat.le_refl _) _⟩
    ·go_enter Tryz.func28, Tryz.ntmps28
     go_wp2
     go_ret
     exact ⟨by simp [h3, h4], (Below.refl _ _).alloc (Nat.le_refl _) _⟩
   ·go_enter Tryz.func28, Tryz.ntmps28
    go_wp2
    go_ret
    exact ⟨by simp; omega, (Below.refl _ _).alloc (Nat.le_refl _) _⟩
  ·have hb2 : (nn == 0) = false := by rw [beq_eq_false_iff_ne]; exact h2
   go_enter Tryz.func28, Tryz.ntmps28
   go_wp2
   go_ret
   exact ⟨by simp [h2], (Below.refl _ _).alloc (Nat.le_refl _) _⟩
 ·have hb1 : (pp == 0) = false := by rw [beq_eq_false_iff_ne]; exact h1
  go_enter Tryz.func28, Tryz.ntmps28
  go_wp2
  go_ret
  exact ⟨by simp [h1], (Below.refl _ _).alloc (Nat.le_refl _) _⟩
set_option maxRecDepth 100000 in
set_option maxHeartbeats 1000000 in
theorem index_any (l : List Cf.Actn) (A : Option Addr) (c : Nat) (kd pp nn mm : Int) (nm da : List UInt8) (w : World) (hR : Acts w A l) (hm : l.length ≤ maxLen) :
  Calls Tryz.prog 66 #[.slice A l.length c, .agg #[.int .i64 kd, .int .i64 pp, .int .i64 nn, .int .i64 mm, .string ⟨nm.toArray⟩, .string ⟨da.toArray⟩]] w fun e w' => e = .returned (.int .i64 (Cf.idxT (Cf.sameB ⟨kd, pp, nn, mm, nm, da⟩) l)) ∧ Below w.heap.size w w' := by
 unfold maxLen at hm
 rcases hR with hl | ⟨b, off, rfl, hb, hc⟩
 ·subst hl
  go_enter Tryz.func66, Tryz.ntmps66
  go_wp2
  refine wp_loop_rounds 1 ?_
  rw [rounds_succ]
  go_wp2
  go_ret
  exact ⟨rfl, (Below.refl _ _).alloc (Nat.le_refl _) _⟩
 ·have Hc := Lib.hid hc
  have hb0 : Below w.heap.size w (w.alloc (.cells #[.int .i64 kd, .int .i64 pp, .int .i64 nn, .int .i64 mm, .string ⟨nm.toArray⟩, .string ⟨da.toArray⟩] tAct)) := (Below.refl _ _).alloc (Nat.le_refl _) _
  have hX := Wb.new w tAct [.int .i64 kd, .int .i64 pp, .int .i64 nn, .int .i64 mm, .string ⟨nm.toArray⟩, .string ⟨da.toArray⟩]
  have HX := Lib.hid hX
  have Hb0 := Lib.hid hb0
  clear hc hb0 hX
  go_enter Tryz.func66, Tryz.ntmps66
  go_upto_region 1 with fail
  generalize w.alloc _ = w0 at *
  go_wp2
  go_loopw [8] (fun i wr => ∃ k m : Nat, k ≤ l.length ∧ i = .int .i64 k ∧ (l.take k).any (Cf.sameB ⟨kd, pp, nn, mm, nm, da⟩) = false ∧ wr = w0.drewN m) (fun i _ => l.length - (intOf i).toNat)
  case atStart => exact ⟨0, 0, by omega, rfl, rfl, rfl⟩
  case round =>
   obtain ⟨k, m, hk, rfl, hall, rfl⟩ := hrel
   have Hall := Lib.hid hall
   clear hall
   by_cases hlt : k < l.length
   ·obtain ⟨kd', pp', nn', mm', nm', da', hx⟩ : ∃ kd' pp' nn' mm' nm' da', l[k]? = some ⟨kd', pp', nn', mm', nm', da'⟩ := ⟨_, _, _, _, _, _, List.getElem?_eq_getElem hlt⟩
    have a0 : w0.cell? ⟨b, off + k * 6, none⟩ = some (.int .i64 kd') := (Hb0.out.cell hb).trans (Hc.out k _ hx 0 _ rfl)
    have a1 : w0.cell? ⟨b, off + k * 6 + 1, none⟩ = some (.int .i64 pp') := (Hb0.out.cell hb).trans (Hc.out k _ hx 1 _ rfl)
    have a2 : w0.cell? ⟨b, off + k * 6 + 2, none⟩ = some (.int .i64 nn') := (Hb0.out.cell hb).trans (Hc.out k _ hx 2 _ rfl)
    have a3 : w0.cell? ⟨b, off + k * 6 + 3, none⟩ = some (.int .i64 mm') := (Hb0.out.cell hb).trans (Hc.out k _ hx 3 _ rfl)
    have a4 : w0.cell? ⟨b, off + k * 6 + 4, none⟩ = some (.string ⟨nm'.toArray⟩) := (Hb0.out.cell hb).trans (Hc.out k _ hx 4 _ rfl)
    have a5 : w0.cell? ⟨b, off + k * 6 + 5, none⟩ = some (.string ⟨da'.toArray⟩) := (Hb0.out.cell hb).trans (Hc.out k _ hx 5 _ rfl)
    have hX := HX.out
    have q0 := hX.cell 0
    have q1 := hX.cell 1
    have q2 := hX.cell 2
    have q3 := hX.cell 3
    have q4 := hX.cell 4
    have q5 := hX.cell 5
    simp only [List.getElem?_cons_zero, List.getElem?_cons_succ] at q0 q1 q2 q3 q4 q5
    have ql := hX.lt
    clear hX
    -- MARK
    by_cases h0 : kd = kd'
    ·subst h0
     by_cases h1 : pp = pp'
     ·subst h1
      by_cases h2 : nn = nn'
      ·subst h2
       by_cases h3 : mm = mm'
       ·subst h3
        by_cases h4 : nm = nm'
        ·subst h4
         by_cases h5 : da = da'
         ·subst h5
          have HI := Lib.hid (Cf.idx_at hx (Cf.same_iff.2 rfl) Hall.out)
          clear hx
          go_wp2_with fail
          go_quiet (fail)
          go_wp2
          go_ret
          exact ⟨by rw [HI.out]; rfl, below_drewN (below_drewN Hb0.out _) _⟩
         ·have hb : (da == da') = false := by rw [beq_eq_false_iff_ne]; exact h5
          have HA := Lib.hid (Cf.any_on hx Hall.out (by rw [Bool.eq_false_iff]; intro hh; have := Cf.same_iff.1 hh; injection this; contradiction))
          clear hx
          go_wp2_with fail
          go_quiet (fail)
          go_wp2
          go_roundw
          case rel => exact ⟨k + 1, _, by omega, by go_num, HA.out, rfl⟩
          case measure => simp [intOf]; omega
        ·have hb : (nm == nm') = false := by rw [beq_eq_false_iff_ne]; exact h4
         have HA := Lib.hid (Cf.any_on hx Hall.out (by rw [Bool.eq_false_iff]; intro hh; have := Cf.same_iff.1 hh; injection this; contradiction))
         clear hx
         go_wp2_with fail
         go_quiet (fail)
         go_wp2
         go_roundw
         case rel => exact ⟨k + 1, _, by omega, by go_num, HA.out, rfl⟩
         case measure => simp [intOf]; omega
       ·have hb : (mm == mm') = false := by rw [beq_eq_false_iff_ne]; exact h3
        have HA := Lib.hid (Cf.any_on hx Hall.out (by rw [Bool.eq_false_iff]; intro hh; have := Cf.same_iff.1 hh; injection this; contradiction))
        clear hx
        go_wp2_with fail
        go_quiet (fail)
        go_wp2
        go_roundw
        case rel => exact ⟨k + 1, _, by omega, by go_num, HA.out, rfl⟩
        case measure => simp [intOf]; omega
      ·have hb : (nn == nn') = false := by rw [beq_eq_false_iff_ne]; exact h2
       have HA := Lib.hid (Cf.any_on hx Hall.out (by rw [Bool.eq_false_iff]; intro hh; have := Cf.same_iff.1 hh; injection this; contradiction))
       clear hx
       go_wp2_with fail
       go_quiet (fail)
       go_wp2
       go_roundw
       case rel => exact ⟨k + 1, _, by omega, by go_num, HA.out, rfl⟩
       case measure => simp [intOf]; omega
     ·have hb : (pp == pp') = false := by rw [beq_eq_false_iff_ne]; exact h1
      have HA := Lib.hid (Cf.any_on hx Hall.out (by rw [Bool.eq_false_iff]; intro hh; have := Cf.same_iff.1 hh; injection this; contradiction))
      clear hx
      go_wp2_with fail
      go_quiet (fail)
      go_wp2
      go_roundw
      case rel => exact ⟨k + 1, _, by omega, by go_num, HA.out, rfl⟩
      case measure => simp [intOf]; omega
    ·have hb : (kd == kd') = false := by rw [beq_eq_false_iff_ne]; exact h0
     have HA := Lib.hid (Cf.any_on hx Hall.out (by rw [Bool.eq_false_iff]; intro hh; have := Cf.same_iff.1 hh; injection this; contradiction))
     clear hx
     go_wp2_with fail
     go_quiet (fail)
     go_wp2
     go_roundw
     case rel => exact ⟨k + 1, _, by omega, by go_num, HA.out, rfl⟩
     case measure => simp [intOf]; omega
   ·have HI := Lib.hid (Cf.idx_none (p := Cf.sameB ⟨kd, pp, nn, mm, nm, da⟩) (l := l) (by have := Hall.out; rwa [List.take_of_length_le (by omega)] at this))
    go_wp2
    go_ret
    exact ⟨by rw [HI.out]; rfl, below_drewN Hb0.out _⟩
set_option maxHeartbeats 1000000 in
theorem contains_any (l : List Cf.Actn) (A : Option Addr) (c : Nat) (kd pp nn mm : Int) (nm da : List UInt8) (w : World) (hR : Acts w A l) (hm : l.length ≤ maxLen) :
  Calls Tryz.prog 32 #[.slice A l.length c, .agg #[.int .i64 kd, .int .i64 pp, .int .i64 nn, .int .i64 mm, .string ⟨nm.toArray⟩, .string ⟨da.toArray⟩]] w fun e w' => e = .returned (.bool (Cf.inL l ⟨kd, pp, nn, mm, nm, da⟩)) ∧ Below w.heap.size w w' := by
 have hb0 : Below w.heap.size w (w.alloc (.cells #[.int .i64 kd, .int .i64 pp, .int .i64 nn, .int .i64 mm, .string ⟨nm.toArray⟩, .string ⟨da.toArray⟩] tAct)) := (Below.refl _ _).alloc (Nat.le_refl _) _
 have H := Lib.hid (index_any l A c kd pp nn mm nm da _ (hR.below hb0) hm)
 have HZ := Lib.hid (show decide (0 ≤ Cf.idxT (Cf.sameB ⟨kd, pp, nn, mm, nm, da⟩) l) = Cf.inL l ⟨kd, pp, nn, mm, nm, da⟩ from Cf.idx_pos)
 have Hb0 := Lib.hid hb0
 clear hR hb0
 generalize Cf.idxT (Cf.sameB ⟨kd, pp, nn, mm, nm, da⟩) l = z at *
 go_enter Tryz.func32, Tryz.ntmps32
 go_wp2_with fail
 refine H.out.mono ?_
 rintro e w1 ⟨rfl, hb⟩
 have Hb1 := Lib.hid (Hb0.out.trans (hb.mono Hb0.out.size))
 clear hb
 go_wp2
 go_ret
 exact ⟨by rw [← HZ.out]; rfl, Hb1.out⟩
end Go.Proofs.YtnnhhbjbdmgpiaaGreatDoor
/- Walks of the law TopQuiet: its second function value. -/
namespace Go.Proofs.YtnnhhbjbdmgpiaaGreatDoor
set_option maxRecDepth 100000
open Go.RowKit
abbrev tFn : TypeId := 63
abbrev tActs : TypeId := 39
def keepF : Value := .func (.func 28) #[] #[]
set_option maxHeartbeats 1000000 in
theorem loud_any (acts : List Cf.Actn) (A : Option Addr) (c g1 g2 : Nat) (kd pp nn mm : Int) (nm da : List UInt8) (w : World) (hR : Acts w A acts) (hm : acts.length ≤ 1000) (h1 : Wb w g1 tFn [keepF]) (h2 : Wb w g2 tActs [.slice A acts.length c]) :
  Calls Tryz.prog 31 #[.agg #[.int .i64 kd, .int .i64 pp, .int .i64 nn, .int .i64 mm, .string ⟨nm.toArray⟩, .string ⟨da.toArray⟩], .pointer (some ⟨g1, 0, none⟩), .pointer (some ⟨g2, 0, none⟩)] w fun e w' => e = .returned (.bool (Cf.loudB acts ⟨kd, pp, nn, mm, nm, da⟩)) ∧ Below w.heap.size w w' := by
 have hb0 : Below w.heap.size w (w.alloc (.cells #[.int .i64 kd, .int .i64 pp, .int .i64 nn, .int .i64 mm, .string ⟨nm.toArray⟩, .string ⟨da.toArray⟩] tAct)) := (Below.refl _ _).alloc (Nat.le_refl _) _
 have HX := Lib.hid (Wb.new w tAct [.int .i64 kd, .int .i64 pp, .int .i64 nn, .int .i64 mm, .string ⟨nm.toArray⟩, .string ⟨da.toArray⟩])
 have H1 := Lib.hid (h1.below hb0 h1.lt)
 have H2 := Lib.hid (h2.below hb0 h2.lt)
 have HR := Lib.hid (hR.below hb0)
 have Hb0 := Lib.hid hb0
 have HL := Lib.hid (show Cf.loudB acts ⟨kd, pp, nn, mm, nm, da⟩ = (Cf.keepB ⟨kd, pp, nn, mm, nm, da⟩ && Cf.inL acts ⟨kd, pp, nn, mm, nm, da⟩) from rfl)
 have HK := Lib.hid (fun w => keep_any kd pp nn mm nm da w)
 have HC := Lib.hid (fun w h => contains_any acts A c kd pp nn mm nm da w h (show acts.length ≤ maxLen by unfold maxLen; omega))
 clear hb0 h1 h2 hR
 rw [HL.out]
 generalize Cf.keepB ⟨kd, pp, nn, mm, nm, da⟩ = b1 at *
 generalize Cf.inL acts ⟨kd, pp, nn, mm, nm, da⟩ = b2 at *
 go_enter Tryz.func31, Tryz.ntmps31
 go_upto_region 1 with fail
 generalize w.alloc _ = w0 at *
 have x0 := HX.out.cell 0
 have x1 := HX.out.cell 1
 have x2 := HX.out.cell 2
 have x3 := HX.out.cell 3
 have x4 := HX.out.cell 4
 have x5 := HX.out.cell 5
 have y0 := H1.out.cell 0
 have z0 := H2.out.cell 0
 simp only [List.getElem?_cons_zero, List.getElem?_cons_succ] at x0 x1 x2 x3 x4 x5 y0 z0
 have xl := HX.out.lt
 have yl := H1.out.lt
 have zl := H2.out.lt
 unfold keepF at y0
 go_wp2_with fail
 refine (HK.out _).mono ?_
 rintro e w1 ⟨rfl, hb1⟩
 cases b1
 ·have Hb1 := Lib.hid (Hb0.out.trans (hb1.mono Hb0.out.size))
  clear hb1
  go_wp2
  go_ret
  exact ⟨rfl, Hb1.out⟩
 ·have HX1 := Lib.hid (HX.out.below hb1 HX.out.lt)
  have H21 := Lib.hid (H2.out.below hb1 H2.out.lt)
  have HR1 := Lib.hid (HR.out.below hb1)
  have Hb1 := Lib.hid (Hb0.out.trans (hb1.mono Hb0.out.size))
  clear hb1 x0 x1 x2 x3 x4 x5 y0 z0 xl yl zl HX H1 H2 HR Hb0
  have x0 := HX1.out.cell 0
  have x1 := HX1.out.cell 1
  have x2 := HX1.out.cell 2
  have x3 := HX1.out.cell 3
  have x4 := HX1.out.cell 4
  have x5 := HX1.out.cell 5
  have z0 := H21.out.cell 0
  simp only [List.getElem?_cons_zero, List.getElem?_cons_succ] at x0 x1 x2 x3 x4 x5 z0
  have xl := HX1.out.lt
  have zl := H21.out.lt
  go_wp2_with fail
  refine (HC.out _ HR1.out).mono ?_
  rintro e w2 ⟨rfl, hb2⟩
  have Hb2 := Lib.hid (Hb1.out.trans (hb2.mono Hb1.out.size))
  clear hb2 x0 x1 x2 x3 x4 x5 z0 xl zl
  go_wp2
  go_ret
  exact ⟨by cases b2 <;> rfl, Hb2.out⟩
end Go.Proofs.YtnnhhbjbdmgpiaaGreatDoor
/- Walks of the laws' own helpers: slices.Equal of two slices that read as one list: answers, files, contents of pipes. (tools/gen/eqx.py) -/
namespace Go.Proofs.YtnnhhbjbdmgpiaaGreatDoor
set_option maxRecDepth 100000
open Go.RowKit
set_option maxHeartbeats 1000000 in
theorem equalN_same (l : List Cf.Node) (A B : Option Addr) (ca cb : Nat) (w : World) (hA : RdS 4 encNd w A l) (hB : RdS 4 encNd w B l) (hm : l.length ≤ maxLen) :
  Calls Tryz.prog 23 #[.slice A l.length ca, .slice B l.length cb] w fun e w' => e = .returned (.bool true) ∧ ∃ k, w' = w.drewN k := by
 unfold maxLen at hm
 rcases hA with rfl | ⟨b1, o1, rfl, hb1, hc1⟩
 ·go_enter Tryz.func23, Tryz.ntmps23
  go_wp2
  refine wp_loop_rounds 1 ?_
  rw [rounds_succ]
  go_wp2
  go_ret
  exact ⟨rfl, 0, rfl⟩
 ·rcases hB with rfl | ⟨b2, o2, rfl, hb2, hc2⟩
  ·go_enter Tryz.func23, Tryz.ntmps23
   go_wp2
   refine wp_loop_rounds 1 ?_
   rw [rounds_succ]
   go_wp2
   go_ret
   exact ⟨rfl, 0, rfl⟩
  have H1 := Lib.hid hc1
  have H2 := Lib.hid hc2
  clear hc1 hc2
  go_enter Tryz.func23, Tryz.ntmps23
  go_wp2
  go_loopw [13] (fun i wr => ∃ k m : Nat, k ≤ l.length ∧ i = .int .i64 k ∧ wr = w.drewN m) (fun i _ => l.length - (intOf i).toNat)
  case atStart => exact ⟨0, 0, by omega, rfl, rfl⟩
  case round =>
   obtain ⟨k, m, hk, rfl, rfl⟩ := hrel
   by_cases hlt : k < l.length
   ·obtain ⟨z0, z1, z2, z3, hx⟩ : ∃ z0 z1 z2 z3, l[k]? = some ⟨z0, z1, z2, z3⟩ := ⟨_, _, _, _, List.getElem?_eq_getElem hlt⟩
    have p0 : w.cell? ⟨b1, o1 + k * 4, none⟩ = _ := H1.out k _ hx 0 _ rfl
    have q0 : w.cell? ⟨b2, o2 + k * 4, none⟩ = _ := H2.out k _ hx 0 _ rfl
    have p1 : w.cell? ⟨b1, o1 + k * 4 + 1, none⟩ = _ := H1.out k _ hx 1 _ rfl
    have q1 : w.cell? ⟨b2, o2 + k * 4 + 1, none⟩ = _ := H2.out k _ hx 1 _ rfl
    have p2 : w.cell? ⟨b1, o1 + k * 4 + 2, none⟩ = _ := H1.out k _ hx 2 _ rfl
    have q2 : w.cell? ⟨b2, o2 + k * 4 + 2, none⟩ = _ := H2.out k _ hx 2 _ rfl
    have p3 : w.cell? ⟨b1, o1 + k * 4 + 3, none⟩ = _ := H1.out k _ hx 3 _ rfl
    have q3 : w.cell? ⟨b2, o2 + k * 4 + 3, none⟩ = _ := H2.out k _ hx 3 _ rfl
    clear hx
    go_wp2_with fail
    go_quiet (fail)
    go_wp2
    go_roundw
    case rel => exact ⟨k + 1, _, by omega, by go_num, rfl⟩
    case measure => simp [intOf]; omega
   ·go_wp2
    go_ret
    exact ⟨rfl, m, rfl⟩
set_option maxHeartbeats 1000000 in
theorem equalS_same (l : List (List UInt8)) (A B : Option Addr) (ca cb : Nat) (w : World) (hA : RdS 1 encSt w A l) (hB : RdS 1 encSt w B l) (hm : l.length ≤ maxLen) :
  Calls Tryz.prog 24 #[.slice A l.length ca, .slice B l.length cb] w fun e w' => e = .returned (.bool true) ∧ ∃ k, w' = w.drewN k := by
 unfold maxLen at hm
 rcases hA with rfl | ⟨b1, o1, rfl, hb1, hc1⟩
 ·go_enter Tryz.func24, Tryz.ntmps24
  go_wp2
  refine wp_loop_rounds 1 ?_
  rw [rounds_succ]
  go_wp2
  go_ret
  exact ⟨rfl, 0, rfl⟩
 ·rcases hB with rfl | ⟨b2, o2, rfl, hb2, hc2⟩
  ·go_enter Tryz.func24, Tryz.ntmps24
   go_wp2
   refine wp_loop_rounds 1 ?_
   rw [rounds_succ]
   go_wp2
   go_ret
   exact ⟨rfl, 0, rfl⟩
  have H1 := Lib.hid hc1
  have H2 := Lib.hid hc2
  clear hc1 hc2
  go_enter Tryz.func24, Tryz.ntmps24
  go_wp2
  go_loopw [13] (fun i wr => ∃ k m : Nat, k ≤ l.length ∧ i = .int .i64 k ∧ wr = w.drewN m) (fun i _ => l.length - (intOf i).toNat)
  case atStart => exact ⟨0, 0, by omega, rfl, rfl⟩
  case round =>
   obtain ⟨k, m, hk, rfl, rfl⟩ := hrel
   by_cases hlt : k < l.length
   ·obtain ⟨z0, hx⟩ : ∃ z0, l[k]? = some z0 := ⟨_, List.getElem?_eq_getElem hlt⟩
    have p0 : w.cell? ⟨b1, o1 + k, none⟩ = some (.string ⟨z0.toArray⟩) := by have := H1.out k _ hx 0 _ rfl; simpa using this
    have q0 : w.cell? ⟨b2, o2 + k, none⟩ = some (.string ⟨z0.toArray⟩) := by have := H2.out k _ hx 0 _ rfl; simpa using this
    clear hx
    go_wp2_with fail
    go_quiet (fail)
    go_wp2
    go_roundw
    case rel => exact ⟨k + 1, _, by omega, by go_num, rfl⟩
    case measure => simp [intOf]; omega
   ·go_wp2
    go_ret
    exact ⟨rfl, m, rfl⟩
end Go.Proofs.YtnnhhbjbdmgpiaaGreatDoor
/- Walks of the laws' own helpers: slices.Equal of two slices that read as one list: descriptors. (tools/gen/eqx.py) -/
namespace Go.Proofs.YtnnhhbjbdmgpiaaGreatDoor
set_option maxRecDepth 100000
open Go.RowKit
set_option maxHeartbeats 1000000 in
theorem equalE_same (l : List Cf.End) (A B : Option Addr) (ca cb : Nat) (w : World) (hA : RdS 3 encEn w A l) (hB : RdS 3 encEn w B l) (hm : l.length ≤ maxLen) :
  Calls Tryz.prog 33 #[.slice A l.length ca, .slice B l.length cb] w fun e w' => e = .returned (.bool true) ∧ ∃ k, w' = w.drewN k := by
 unfold maxLen at hm
 rcases hA with rfl | ⟨b1, o1, rfl, hb1, hc1⟩
 ·go_enter Tryz.func33, Tryz.ntmps33
  go_wp2
  refine wp_loop_rounds 1 ?_
  rw [rounds_succ]
  go_wp2
  go_ret
  exact ⟨rfl, 0, rfl⟩
 ·rcases hB with rfl | ⟨b2, o2, rfl, hb2, hc2⟩
  ·go_enter Tryz.func33, Tryz.ntmps33
   go_wp2
   refine wp_loop_rounds 1 ?_
   rw [rounds_succ]
   go_wp2
   go_ret
   exact ⟨rfl, 0, rfl⟩
  have H1 := Lib.hid hc1
  have H2 := Lib.hid hc2
  clear hc1 hc2
  go_enter Tryz.func33, Tryz.ntmps33
  go_wp2
  go_loopw [13] (fun i wr => ∃ k m : Nat, k ≤ l.length ∧ i = .int .i64 k ∧ wr = w.drewN m) (fun i _ => l.length - (intOf i).toNat)
  case atStart => exact ⟨0, 0, by omega, rfl, rfl⟩
  case round =>
   obtain ⟨k, m, hk, rfl, rfl⟩ := hrel
   by_cases hlt : k < l.length
   ·obtain ⟨z0, z1, z2, hx⟩ : ∃ z0 z1 z2, l[k]? = some ⟨z0, z1, z2⟩ := ⟨_, _, _, List.getElem?_eq_getElem hlt⟩
    have p0 : w.cell? ⟨b1, o1 + k * 3, none⟩ = _ := H1.out k _ hx 0 _ rfl
    have q0 : w.cell? ⟨b2, o2 + k * 3, none⟩ = _ := H2.out k _ hx 0 _ rfl
    have p1 : w.cell? ⟨b1, o1 + k * 3 + 1, none⟩ = _ := H1.out k _ hx 1 _ rfl
    have q1 : w.cell? ⟨b2, o2 + k * 3 + 1, none⟩ = _ := H2.out k _ hx 1 _ rfl
    have p2 : w.cell? ⟨b1, o1 + k * 3 + 2, none⟩ = _ := H1.out k _ hx 2 _ rfl
    have q2 : w.cell? ⟨b2, o2 + k * 3 + 2, none⟩ = _ := H2.out k _ hx 2 _ rfl
    clear hx
    go_wp2_with fail
    go_quiet (fail)
    go_wp2
    go_roundw
    case rel => exact ⟨k + 1, _, by omega, by go_num, rfl⟩
    case measure => simp [intOf]; omega
   ·go_wp2
    go_ret
    exact ⟨rfl, m, rfl⟩
end Go.Proofs.YtnnhhbjbdmgpiaaGreatDoor
/- Walks of the library: slices.Grow of no actions. -/
namespace Go.Proofs.YtnnhhbjbdmgpiaaGreatDoor
set_option maxRecDepth 100000
open Go.RowKit
theorem infoAct : (Tryz.prog.info? 30).map (fun i => (i.zero, i.size, i.bytes)) = some (some (.agg #[.int .i64 0, .int .i64 0, .int .i64 0, .int .i64 0, .string ⟨#[]⟩, .string ⟨#[]⟩]), 6, 64) := by kernel_rfl
def GrowPost (w : World) (e : Ending) (w' : World) : Prop := ∃ (A : Option Addr) (c : Nat), e = .returned (.slice A 0 c) ∧ w'.ownsRow w.heap.size tAct 6 (.slice A 0 c) 0 [] ∧ Below w.heap.size w w'
set_option maxHeartbeats 1000000 in
theorem grow_any (n : Nat) (w : World) (h0 : 0 < n) (hn : n ≤ 1000) : Calls Tryz.prog 60 #[.slice none 0 0, .int .i64 n] w (GrowPost w) := by
 obtain ⟨i0, hi, hz0, hz1, hz2⟩ := info_parts infoAct
 have happ := Lib.run_append_nil_zeros (P := Tryz.prog) w 39 3 39 30 i0 _ .i64 .i64 Tryz.underlying39 Tryz.underlying3 hi hz0 n h0 (by omega) (by omega) (by rw [hz2]; omega)
 have hc : n ≤ grownCap w n 0 30 := grownCap_ge w n 0 _
 have hm : grownCap w n 0 30 ≤ maxLen := grownCap_le_maxLen w n 0 _ (by unfold maxLen; omega)
 have hown : (w.drew.alloc (.cells (Builtin.zeroCells (Value.agg #[.int .i64 0, .int .i64 0, .int .i64 0, .int .i64 0, .string ⟨#[]⟩, .string ⟨#[]⟩]).cells n ++ Builtin.zeroCells (Value.agg #[.int .i64 0, .int .i64 0, .int .i64 0, .int .i64 0, .string ⟨#[]⟩, .string ⟨#[]⟩]).cells (grownCap w n 0 30 - n)) 30)).ownsRow w.heap.size tAct 6 (.slice (some ⟨w.heap.size, 0, none⟩) 0 (grownCap w n 0 30)) 0 [] := by
  refine ⟨by simp, .inr ⟨w.heap.size, grownCap w n 0 30, _, rfl, Nat.le_refl _, by simpa using heap_alloc_new w.drew _, Nat.zero_le _, ?_, ?_, ?_⟩⟩
  ·exact hm
  ·rw [Array.size_append, size_zeroCells, size_zeroCells]
   show n * 6 + (grownCap w n 0 30 - n) * 6 = _
   omega
  ·simp
 have hb : Below w.heap.size w (w.drew.alloc (.cells (Builtin.zeroCells (Value.agg #[.int .i64 0, .int .i64 0, .int .i64 0, .int .i64 0, .string ⟨#[]⟩, .string ⟨#[]⟩]).cells n ++ Builtin.zeroCells (Value.agg #[.int .i64 0, .int .i64 0, .int .i64 0, .int .i64 0, .string ⟨#[]⟩, .string ⟨#[]⟩]).cells (grownCap w n 0 30 - n)) 30)) := ((Below.refl _ _).drew).alloc (by simp) _
 have Hown := Lib.hid hown
 have Hb := Lib.hid hb
 clear hown hb hi hz0 hz1 hz2 hm
 generalize grownCap w n 0 30 = c at *
 generalize w.drew.alloc (.cells (Builtin.zeroCells (Value.agg #[.int .i64 0, .int .i64 0, .int .i64 0, .int .i64 0, .string ⟨#[]⟩, .string ⟨#[]⟩]).cells n ++ Builtin.zeroCells (Value.agg #[.int .i64 0, .int .i64 0, .int .i64 0, .int .i64 0, .string ⟨#[]⟩, .string ⟨#[]⟩]).cells (c - n)) 30) = w1 at *
 have Happ := Lib.hid happ
 clear happ
 go_enter Tryz.func60, Tryz.ntmps60
 go_wp2_with (at_builtin; refine Lib.wpList_append_run _ rfl _ _ _ _ rfl _ _ rfl rfl _ _ Happ.out ?_)
 go_wp2
 go_ret
 exact ⟨_, c, rfl, Hown.out, Hb.out⟩
set_option maxHeartbeats 1000000 in
theorem grow_all (n : Nat) (w : World) (hn : n ≤ 1000) : Calls Tryz.prog 60 #[.slice none 0 0, .int .i64 n] w (GrowPost w) := by
 by_cases h0 : n = 0
 ·subst h0
  go_enter Tryz.func60, Tryz.ntmps60
  go_wp2
  go_ret
  exact ⟨none, 0, rfl, World.ownsRow_nil _ _ _ _, Below.refl _ _⟩
 ·exact grow_any n w (by omega) hn
end Go.Proofs.YtnnhhbjbdmgpiaaGreatDoor
/- Walks of the library: slices.Concat of rows of actions. -/
namespace Go.Proofs.YtnnhhbjbdmgpiaaGreatDoor
set_option maxRecDepth 100000
open Go.RowKit
structure SV where
 A : Option Addr
 c : Nat
 l : List Cf.Actn
def encS (x : SV) : List Value := [.slice x.A x.l.length x.c]
def catL (xs : List SV) : List Cf.Actn := xs.flatMap SV.l
theorem cat_take {xs : List SV} {k : Nat} {x : SV} (h : xs[k]? = some x) : catL (xs.take (k + 1)) = catL (xs.take k) ++ x.l := by
 unfold catL
 rw [List.take_add_one, h]
 simp
theorem cat_le (xs : List SV) (k : Nat) : (catL (xs.take k)).length ≤ (catL xs).length := by
 have : catL xs = catL (xs.take k) ++ catL (xs.drop k) := by
  unfold catL
  rw [← List.flatMap_append, List.take_append_drop]
 rw [this, List.length_append]
 omega
def CatPost (l : List Cf.Actn) (w : World) (e : Ending) (w' : World) : Prop := ∃ (A : Option Addr) (c : Nat), e = .returned (.slice A l.length c) ∧ w'.ownsRow w.heap.size tAct 6 (.slice A l.length c) l.length (l.flatMap encAc) ∧ Below w.heap.size w w'
theorem one_ac : ∀ x, ∀ u ∈ encAc x, u.oneCell' = true := by
 intro x u hu
 simp [encAc] at hu
 rcases hu with rfl | rfl | rfl | rfl | rfl | rfl <;> rfl
set_option maxRecDepth 100000 in
set_option maxHeartbeats 1000000 in
theorem concat_any (xs : List SV) (A0 : Option Addr) (c0 : Nat) (w : World) (hR : RdS 1 encS w A0 xs) (hE : ∀ x ∈ xs, Acts w x.A x.l) (hn : xs.length ≤ 100) (ht : (catL xs).length ≤ 1000) :
  Calls Tryz.prog 26 #[.slice A0 xs.length c0] w (CatPost (catL xs) w) := by
 obtain ⟨i0, hi, hz0, hz1, hz2⟩ := info_parts infoAct
 have Hi := Lib.hid hi
 have H0 := Lib.hid hz0
 have H1 := Lib.hid hz1
 have H2 := Lib.hid hz2
 have HR := Lib.hid hR
 have HE := Lib.hid hE
 clear hi hz0 hz1 hz2 hR hE
 go_enter Tryz.func26, Tryz.ntmps26
 go_wp2
 go_loopw [3, 11] (fun sv iv wr => ∃ k : Nat, k ≤ xs.length ∧ sv = .int .i64 ((catL (xs.take k)).length : Nat) ∧ iv = .int .i64 k ∧ w = wr) (fun _ iv _ => xs.length - (intOf iv).toNat)
 case atStart => exact ⟨0, by omega, rfl, rfl, rfl⟩
 case round =>
  obtain ⟨k, hk, rfl, rfl, rfl⟩ := hrel
  by_cases hlt : k < xs.length
  ·obtain ⟨⟨xA, xc, xl⟩, hx⟩ : ∃ x, xs[k]? = some x := ⟨_, List.getElem?_eq_getElem hlt⟩
   obtain ⟨b, off, rfl, q⟩ : ∃ b off, A0 = some ⟨b, off, none⟩ ∧ w.cell? ⟨b, off + k, none⟩ = some (.slice xA xl.length xc) := by
    rcases HR.out with h0 | ⟨b, off, rfl, hb, hc⟩
    ·rw [h0] at hlt; simp at hlt
    ·refine ⟨b, off, rfl, ?_⟩
     have := hc k _ hx 0 _ rfl
     simpa using this
   have Hs := Lib.hid (congrArg List.length (cat_take hx))
   rw [List.length_append] at Hs
   have h1 := cat_le xs (k + 1)
   rw [Hs.out] at h1
   generalize hm : (catL (xs.take k)).length = m at *
   clear hx hm
   simp only at h1
   go_wp2
   go_roundw
   case rel => exact ⟨k + 1, by omega, by rw [Hs.out]; go_num, by go_num, trivial⟩
   case measure => simp [intOf]; omega
  ·obtain rfl : k = xs.length := by omega
   rw [List.take_length]
   go_wp2_with fail
   refine (grow_all _ _ ht).mono ?_
   rintro e w1 ⟨A1, c1, rfl, hown, hb1⟩
   have Hown := Lib.hid hown
   have Hb1 := Lib.hid hb1
   clear hown hb1
   go_wp2
   go_loopw [6, 27] (fun v iv wr => ∃ k : Nat, k ≤ xs.length ∧ iv = .int .i64 k ∧ wr.ownsRow w.heap.size tAct 6 v (catL (xs.take k)).length ((catL (xs.take k)).flatMap encAc) ∧ Below w.heap.size w wr) (fun _ iv _ => xs.length - (intOf iv).toNat)
   case atStart => exact ⟨0, by omega, rfl, Hown.out, Hb1.out⟩
   case round =>
    obtain ⟨k, hk2, rfl, hown, hbw⟩ := hrel
    have Hown := Lib.hid hown
    clear hown Hb1
    by_cases hlt2 : k < xs.length
    ·obtain ⟨⟨xA, xc, xl⟩, hx⟩ : ∃ x, xs[k]? = some x := ⟨_, List.getElem?_eq_getElem hlt2⟩
     obtain ⟨b, off, rfl, q⟩ : ∃ b off, A0 = some ⟨b, off, none⟩ ∧ wr.cell? ⟨b, off + k, none⟩ = some (.slice xA xl.length xc) := by
      rcases HR.out.below hbw with h0 | ⟨b, off, rfl, hb, hc⟩
      ·rw [h0] at hlt2; simp at hlt2
      ·refine ⟨b, off, rfl, ?_⟩
       have := hc k _ hx 0 _ rfl
       simpa using this
     have Hs := Lib.hid (cat_take hx)
     have HX := Lib.hid ((HE.out _ (List.mem_of_getElem? hx)).below hbw)
     have h1 := cat_le xs (k + 1)
     rw [Hs.out, List.length_append] at h1
     generalize hm : catL (xs.take k) = m at *
     clear hx hm
     simp only at h1 HX
     have hsz := hbw.size
     go_wp2_with (at_builtin; refine wpList_append_src rfl _ _ 39 rfl w.heap.size 30 i0 (.agg #[.int .i64 0, .int .i64 0, .int .i64 0, .int .i64 0, .string ⟨#[]⟩, .string ⟨#[]⟩]) 6 64 Tryz.underlying39 Hi.out H0.out H1.out H2.out rfl (by decide) encAc_len one_ac _ m.length (m.flatMap encAc) rfl Hown.out xA xc xl rfl HX.out (by unfold maxLen; omega) (by omega) hsz ?_)
     intro v' w8 hown8 hgr hat
     have HO := Lib.hid (show w8.ownsRow w.heap.size tAct 6 v' (catL (xs.take (k + 1))).length ((catL (xs.take (k + 1))).flatMap encAc) by rw [Hs.out, List.length_append, List.flatMap_append]; exact hown8)
     have HB := Lib.hid (hbw.grown hgr hbw.size (fun r hr => own_blocks Hown.out r hr))
     clear hown8 hgr hat
     go_wp2
     go_roundw
     case rel => exact ⟨k + 1, by omega, by go_num, HO.out, HB.out⟩
     case measure => simp [intOf]; omega
    ·obtain rfl : k = xs.length := by omega
     rw [List.take_length] at Hown
     obtain ⟨A5, c5, hA5⟩ := own_form Hown.out
     subst hA5
     go_wp2
     go_ret
     exact ⟨A5, c5, rfl, Hown.out, hbw⟩
end Go.Proofs.YtnnhhbjbdmgpiaaGreatDoor
/- Walks of the law TopQuiet: slices.Clone and slices.DeleteFunc of actions. -/
namespace Go.Proofs.YtnnhhbjbdmgpiaaGreatDoor
set_option maxRecDepth 100000
open Go.RowKit
set_option maxHeartbeats 1000000 in
theorem cloneA_any (l : List Cf.Actn) (A : Option Addr) (c : Nat) (w : World) (hR : Acts w A l) (hz : A = none → c = 0) (hl : l.length ≤ 1000) :
  Calls Tryz.prog 30 #[.slice A l.length c] w fun e w' => ∃ (A' : Option Addr) (c' : Nat), e = .returned (.slice A' l.length c') ∧ Nw 6 encAc w' tAct w.heap.size A' l ∧ l.length ≤ c' ∧ Below w.heap.size w w' := by
 obtain ⟨i0, hi, hz0, hz1, hz2⟩ := info_parts infoAct
 cases A with
 | none =>
   rcases hR with rfl | ⟨b, off, he, _⟩
   ·obtain rfl := hz rfl
    clear hi hz0 hz1 hz2 hz
    have hnil : ∀ w : World, (binOp BinOp.eql 39 (.slice none 0 0) (.slice none 0 0)).run Tryz.prog w = .ok (.bool true) w := fun _ => by kernel_rfl
    simp only [List.length_nil]
    go_enter Tryz.func30, Tryz.ntmps30
    go_wp2
    go_ret
    exact ⟨none, 0, rfl, .inl rfl, Nat.le_refl _, Below.refl _ _⟩
   ·cases he
 | some ad =>
   have hb0 : Below w.heap.size w (w.alloc (.cells #[] 30)) := (Below.refl _ _).alloc (Nat.le_refl _) _
   obtain ⟨A', c', w', hrun, hN, hb1, hcp⟩ := run_append_nw (P := Tryz.prog) (w.alloc (.cells #[] 30)) 39 39 30 i0 (.agg #[.int .i64 0, .int .i64 0, .int .i64 0, .int .i64 0, .string ⟨#[]⟩, .string ⟨#[]⟩]) 6 64 Tryz.underlying39 hi hz0 hz1 hz2 encAc_len ⟨w.heap.size, 0, none⟩ (some ad) c l (hR.below hb0) (by unfold maxLen; omega) (by omega)
   have Hrun := Lib.hid hrun
   have HN := Lib.hid (hN.mono hb0.size)
   have Hb1 := Lib.hid (hb0.trans (hb1.mono hb0.size))
   clear hi hz0 hz1 hz2 hrun hN hb0 hb1 hR
   have hnil : ∀ w : World, (binOp BinOp.eql 39 (.slice (some ad) l.length c) (.slice none 0 0)).run Tryz.prog w = .ok (.bool false) w := fun _ => by kernel_rfl
   go_enter Tryz.func30, Tryz.ntmps30
   go_wp2_with (at_builtin; refine Lib.wpList_append_run _ rfl _ _ _ _ rfl _ _ rfl rfl _ _ Hrun.out ?_)
   go_wp2
   go_ret
   exact ⟨A', c', rfl, HN.out, hcp, Hb1.out⟩
def clrA (n : Nat) : List Value := (Builtin.zeroCells (Value.agg #[.int .i64 0, .int .i64 0, .int .i64 0, .int .i64 0, .string ⟨#[]⟩, .string ⟨#[]⟩]).cells n).toList
theorem clrA_len (n : Nat) : (clrA n).length = n * 6 := by
 unfold clrA
 rw [Array.length_toList, size_zeroCells]
 rfl
theorem clrA_one (n : Nat) : ∀ v ∈ clrA n, v.oneCell' = true := by
 intro v hv
 unfold clrA Builtin.zeroCells at hv
 simp only [Array.toList_map, Array.toList_range, List.mem_map, List.mem_range] at hv
 obtain ⟨a, _, rfl⟩ := hv
 have hs : (Value.agg #[.int .i64 0, .int .i64 0, .int .i64 0, .int .i64 0, .string ⟨#[]⟩, .string ⟨#[]⟩]).cells.size = 6 := rfl
 rw [hs]
 obtain h | h | h | h | h | h : a % 6 = 0 ∨ a % 6 = 1 ∨ a % 6 = 2 ∨ a % 6 = 3 ∨ a % 6 = 4 ∨ a % 6 = 5 := by omega
 all_goals
  rw [h]
  rfl
theorem run_clearA (w : World) (ty : TypeId) (b o n c : Nat) (h0 : 0 < n) (hc : ∀ j, j < n * 6 → (w.cell? ⟨b, o + j, none⟩).isSome = true) (hf : ∀ j, j < n * 6 → w.frozen? ⟨b, o + j, none⟩ = false) :
  (Builtin.clear_ #[39] ty #[.slice (some ⟨b, o, none⟩) n c]).run Tryz.prog w = .ok (.tuple #[]) (w.setCells b o (clrA n)) := by
 obtain ⟨i0, hi0, hy0, hy1, hy2⟩ := info_parts infoAct
 have hv : ∀ w, (zeroValue 30).run Tryz.prog w = .ok (.agg #[.int .i64 0, .int .i64 0, .int .i64 0, .int .i64 0, .string ⟨#[]⟩, .string ⟨#[]⟩]) w := by
  intro w
  simp [zeroValue, typeInfo, hi0, hy0]
 have hst := run_storeCells_cells (P := Tryz.prog) b o (clrA n) 0 w (by rw [clrA_len]; exact hc) (by rw [clrA_len]; exact hf) (clrA_one n)
 simp only [Nat.add_zero] at hst
 have hzc : (Builtin.zeroCells (Value.agg #[.int .i64 0, .int .i64 0, .int .i64 0, .int .i64 0, .string ⟨#[]⟩, .string ⟨#[]⟩]).cells n).toList = clrA n := rfl
 obtain ⟨m, rfl⟩ : ∃ m, n = m + 1 := ⟨n - 1, by omega⟩
 simp only [Builtin.clear_, Sem.run_bind, run_underlying Tryz.underlying39, hv, hzc, Result.andThen]
 simp [hst, hv, hzc, Result.andThen]
theorem cell_before {b : Nat} : ∀ (vs : List Value) (o : Nat) (w : World) (q : Nat), q < o → (w.setCells b o vs).cell? ⟨b, q, none⟩ = w.cell? ⟨b, q, none⟩
 | [], _, _, _, _ => rfl
 | v :: vs, o, w, q, h => by
   show ((w.setCell ⟨b, o, none⟩ v).setCells b (o + 1) vs).cell? _ = _
   rw [cell_before vs (o + 1) _ q (by omega), World.cell?_setCell_other]
   intro e
   injection e with _ e2
   omega
theorem Bk.putA {w : World} {g i : Nat} {l : List Cf.Actn} {x : Cf.Actn} (h : Bk 6 encAc w g tAct l) (hx : l[i]? = some x) (y : Cf.Actn) :
  Bk 6 encAc ((((((w.setCell ⟨g, i * 6, none⟩ (.int .i64 y.kind)).setCell ⟨g, i * 6 + 1, none⟩ (.int .i64 y.p)).setCell ⟨g, i * 6 + 2, none⟩ (.int .i64 y.n)).setCell ⟨g, i * 6 + 3, none⟩ (.int .i64 y.m)).setCell ⟨g, i * 6 + 4, none⟩ (.string ⟨y.name.toArray⟩)).setCell ⟨g, i * 6 + 5, none⟩ (.string ⟨y.data.toArray⟩)) g tAct (l.set i y) := by
 have hi := (List.getElem?_eq_some_iff.1 hx).1
 have at_ : ∀ (m : List Cf.Actn) (z : Cf.Actn), m.length = l.length → (m.set i z)[i]? = some z := fun m z hm => by rw [List.getElem?_set, if_pos rfl, if_pos (by omega)]
 have h0 := h.put (j := 0) (x' := ⟨y.kind, x.p, x.n, x.m, x.name, x.data⟩) (u := .int .i64 y.kind) hx (by omega) rfl
 have h1 := h0.put (j := 1) (x' := ⟨y.kind, y.p, x.n, x.m, x.name, x.data⟩) (u := .int .i64 y.p) (at_ _ _ rfl) (by omega) rfl
 have h2 := h1.put (j := 2) (x' := ⟨y.kind, y.p, y.n, x.m, x.name, x.data⟩) (u := .int .i64 y.n) (at_ _ _ (by simp)) (by omega) rfl
 have h3 := h2.put (j := 3) (x' := ⟨y.kind, y.p, y.n, y.m, x.name, x.data⟩) (u := .int .i64 y.m) (at_ _ _ (by simp)) (by omega) rfl
 have h4 := h3.put (j := 4) (x' := ⟨y.kind, y.p, y.n, y.m, y.name, x.data⟩) (u := .string ⟨y.name.toArray⟩) (at_ _ _ (by simp)) (by omega) rfl
 have h5 := h4.put (j := 5) (x' := y) (u := .string ⟨y.data.toArray⟩) (at_ _ _ (by simp)) (by omega) rfl
 simp only [List.set_set] at h5
 exact h5
def DelCl (l : List Cf.Actn) (p : Cf.Actn → Bool) (f : Nat) (cs : Array Value) (B : Nat) (w : World) : Prop :=
 ∀ (x : Cf.Actn) (W : World), x ∈ l → Below B w W → Calls Tryz.prog f (#[.agg (encAc x).toArray] ++ cs) W fun e w' => e = .returned (.bool (p x)) ∧ Below W.heap.size W w'
theorem filter_none {p : Cf.Actn → Bool} {l : List Cf.Actn} (h : l.any p = false) : l.filter (fun a => !p a) = l := by
 rw [List.filter_eq_self]
 intro a ha
 cases hp : p a
 ·rfl
 ·rw [List.any_eq_true.2 ⟨a, ha, hp⟩] at h
  cases h
structure DelSt (l : List Cf.Actn) (p : Cf.Actn → Bool) (B : Nat) (w : World) (g i j : Nat) (wr : World) : Prop where
 lt : i < j
 le : j ≤ l.length
 row : ∃ cur : List Cf.Actn, cur.length = l.length ∧ Bk 6 encAc wr g tAct cur ∧ cur.take i = (l.take j).filter (fun a => !p a) ∧ cur.drop j = l.drop j
 keep : Below B w wr
theorem filter_snoc {p : Cf.Actn → Bool} {l : List Cf.Actn} {j : Nat} {x : Cf.Actn} (hx : l[j]? = some x) : (l.take (j + 1)).filter (fun a => !p a) = (l.take j).filter (fun a => !p a) ++ (if p x then [] else [x]) := by
 rw [List.take_add_one, hx, List.filter_append]
 congr 1
 cases hp : p x <;> simp [hp]
end Go.Proofs.YtnnhhbjbdmgpiaaGreatDoor
/- Walks of the law TopQuiet: slices.DeleteFunc of actions, whatever the function that is handed in. -/
namespace Go.Proofs.YtnnhhbjbdmgpiaaGreatDoor
set_option maxRecDepth 100000
open Go.RowKit
def DelPost (l : List Cf.Actn) (B : Nat) (w : World) (e : Ending) (w' : World) : Prop := ∃ (A : Option Addr) (c : Nat), e = .returned (.slice A l.length c) ∧ Acts w' A l ∧ l.length ≤ c ∧ Below B w w'
theorem DelSt.skip {l : List Cf.Actn} {p : Cf.Actn → Bool} {B : Nat} {w : World} {g i j : Nat} {wr w' : World} (h : DelSt l p B w g i j wr) {x : Cf.Actn} (hx : l[j]? = some x) (hp : p x = true) (hb : Below wr.heap.size wr w') (hB : B ≤ wr.heap.size) : DelSt l p B w g i (j + 1) w' := by
 obtain ⟨h1, h2, ⟨cur, h3, h4, h5, h6⟩, h7⟩ := h
 refine ⟨by omega, (List.getElem?_eq_some_iff.1 hx).1, ⟨cur, h3, h4.below hb h4.lt, ?_, ?_⟩, h7.trans (hb.mono hB)⟩
 ·rw [filter_snoc hx, hp, if_pos rfl, List.append_nil]
  exact h5
 ·rw [← List.drop_drop, h6, List.drop_drop]
theorem DelSt.put {l : List Cf.Actn} {p : Cf.Actn → Bool} {B : Nat} {w : World} {g i j : Nat} {wr : World} (h : DelSt l p B w g i j wr) {x : Cf.Actn} (hx : l[j]? = some x) (hp : p x = false) (hB : B ≤ g) :
  DelSt l p B w g (i + 1) (j + 1) ((((((wr.setCell ⟨g, i * 6, none⟩ (.int .i64 x.kind)).setCell ⟨g, i * 6 + 1, none⟩ (.int .i64 x.p)).setCell ⟨g, i * 6 + 2, none⟩ (.int .i64 x.n)).setCell ⟨g, i * 6 + 3, none⟩ (.int .i64 x.m)).setCell ⟨g, i * 6 + 4, none⟩ (.string ⟨x.name.toArray⟩)).setCell ⟨g, i * 6 + 5, none⟩ (.string ⟨x.data.toArray⟩)) := by
 obtain ⟨h1, h2, ⟨cur, h3, h4, h5, h6⟩, h7⟩ := h
 have hj := (List.getElem?_eq_some_iff.1 hx).1
 have hi : cur[i]? = some cur[i] := List.getElem?_eq_getElem (by omega)
 refine ⟨by omega, hj, ⟨cur.set i x, by rw [List.length_set]; exact h3, h4.putA hi x, ?_, ?_⟩, ?_⟩
 ·rw [filter_snoc hx, hp, ← h5, List.take_add_one, List.getElem?_set, if_pos rfl, if_pos (by omega), List.take_set_of_le (Nat.le_refl _)]
  rfl
 ·rw [List.drop_set_of_lt (by omega), ← List.drop_drop, h6, List.drop_drop]
 ·exact (((((h7.setCell (p := ⟨g, i * 6, none⟩) hB _).setCell (p := ⟨g, i * 6 + 1, none⟩) hB _).setCell (p := ⟨g, i * 6 + 2, none⟩) hB _).setCell (p := ⟨g, i * 6 + 3, none⟩) hB _).setCell (p := ⟨g, i * 6 + 4, none⟩) hB _).setCell (p := ⟨g, i * 6 + 5, none⟩) hB _
set_option maxRecDepth 100000 in
set_option maxHeartbeats 2000000 in
theorem delete_any (l : List Cf.Actn) (A : Option Addr) (c B : Nat) (p : Cf.Actn → Bool) (f : Nat) (cs : Array Value) (w : World) (hN : Nw 6 encAc w tAct B A l) (hc : l.length ≤ c) (hB : B ≤ w.heap.size) (hl : l.length ≤ 1000) (hf : DelCl l p f cs B w) (eg : ∀ args w, (callFunc f args).run Tryz.prog w = .ok (.enter f args) w) :
  Calls Tryz.prog 29 #[.slice A l.length c, .func (.func f) #[] cs] w (DelPost (l.filter fun a => !p a) B w) := by
 have HI := Lib.hid (acIdx_any l A c w hN.rd (by unfold maxLen; omega) l rfl p f cs (fun i x y W hx hy hb => by
  rw [hx] at hy
  obtain rfl := Option.some.inj hy
  exact hf x W (List.mem_of_getElem? hx) (hb.mono hB)) eg)
 rcases Cf.idx_cases p l with ⟨hz, hi⟩ | ⟨i0, x0, hi, hx0, hp0, hz⟩
 ·rw [hi] at HI
  rw [filter_none hz]
  have hrd := hN.rd
  clear hz hi hN hf
  go_enter Tryz.func29, Tryz.ntmps29
  go_wp2_with fail
  refine HI.out.mono ?_
  rintro e w1 ⟨rfl, hb1⟩
  go_wp2
  go_ret
  exact ⟨A, c, rfl, hrd.below hb1, hc, hb1.mono hB⟩
 ·rw [hi] at HI
  rcases hN with rfl | ⟨g, rfl, hg, hbk⟩
  ·simp at hx0
  have hi0 := (List.getElem?_eq_some_iff.1 hx0).1
  have HD := Lib.hid (fun w1 (hb1 : Below w.heap.size w w1) => show DelSt l p B w g i0 (i0 + 1) w1 from ⟨by omega, hi0, ⟨l, rfl, hbk.below hb1 hbk.lt, by rw [filter_snoc hx0, hp0, if_pos rfl, List.append_nil, filter_none hz], rfl⟩, hb1.mono hB⟩)
  have HF := Lib.hid hf
  have Heg := Lib.hid eg
  clear hi hx0 hp0 hz hbk hf eg
  go_enter Tryz.func29, Tryz.ntmps29
  go_wp2_with fail
  refine HI.out.mono ?_
  rintro e w1 ⟨rfl, hb1⟩
  have HD1 := Lib.hid (HD.out _ hb1)
  clear HI HD hb1
  go_wp2
  go_loopw [5, 6] (fun iv jv wr => ∃ i j : Nat, iv = .int .i64 i ∧ jv = .int .i64 j ∧ DelSt l p B w g i j wr) (fun _ jv _ => l.length - (intOf jv).toNat)
  case atStart => exact ⟨i0, i0 + 1, rfl, by go_num, HD1.out⟩
  case round =>
   obtain ⟨i, j, rfl, rfl, hst⟩ := hrel
   have hij := hst.lt
   have hjl := hst.le
   have HS := Lib.hid hst
   clear hst HD1
   by_cases hlt : j < l.length
   ·obtain ⟨kd, pp, nn, mm, nm, da, hx⟩ : ∃ kd pp nn mm nm da, l[j]? = some ⟨kd, pp, nn, mm, nm, da⟩ := ⟨_, _, _, _, _, _, List.getElem?_eq_getElem hlt⟩
    obtain ⟨cur, hcl, hbk, ht, hd⟩ := HS.out.row
    have hcx : cur[j]? = some ⟨kd, pp, nn, mm, nm, da⟩ := by
     have := congrArg (·[0]?) hd
     simp only [List.getElem?_drop, Nat.add_zero] at this
     rw [this, hx]
    have a0 : wr.cell? ⟨g, j * 6, none⟩ = some (.int .i64 kd) := hbk.cell hcx (j := 0) rfl
    have a1 : wr.cell? ⟨g, j * 6 + 1, none⟩ = some (.int .i64 pp) := hbk.cell hcx (j := 1) rfl
    have a2 : wr.cell? ⟨g, j * 6 + 2, none⟩ = some (.int .i64 nn) := hbk.cell hcx (j := 2) rfl
    have a3 : wr.cell? ⟨g, j * 6 + 3, none⟩ = some (.int .i64 mm) := hbk.cell hcx (j := 3) rfl
    have a4 : wr.cell? ⟨g, j * 6 + 4, none⟩ = some (.string ⟨nm.toArray⟩) := hbk.cell hcx (j := 4) rfl
    have a5 : wr.cell? ⟨g, j * 6 + 5, none⟩ = some (.string ⟨da.toArray⟩) := hbk.cell hcx (j := 5) rfl
    have hgl := hbk.lt
    clear ht hd hcx hbk hcl
    have hBr : B ≤ wr.heap.size := by omega
    have hbx : ∀ o, Below wr.heap.size wr (wr.alloc o) := fun o => (Below.refl _ _).alloc (Nat.le_refl _) _
    have HC := Lib.hid (fun o => HF.out ⟨kd, pp, nn, mm, nm, da⟩ (wr.alloc o) (List.mem_of_getElem? hx) (HS.out.keep.trans ((hbx o).mono hBr)))
    have HX := Lib.hid hx
    clear hx
    go_wp2_with fail
    first | with_reducible refine (HC.out _).mono ?_ | (rw [Heg.out]; refine (HC.out _).mono ?_)
    rintro e w3 ⟨rfl, hb3⟩
    have hb4 := (hbx _).trans (hb3.mono (hbx _).size)
    cases hp : p ⟨kd, pp, nn, mm, nm, da⟩
    ·have hcap : l.length ≤ c := hc
     have hst3 := HS.out.keep
     have HS3 := Lib.hid (show DelSt l p B w g i j w3 from ⟨hij, hjl, HS.out.row.elim fun cur h => ⟨cur, h.1, h.2.1.below hb4 h.2.1.lt, h.2.2⟩, hst3.trans (hb4.mono hBr)⟩)
     obtain ⟨cur, hcl, hbk, -, -⟩ := HS3.out.row
     have hci : cur[i]? = some cur[i] := List.getElem?_eq_getElem (by omega)
     obtain ⟨z0, z1, z2, z3, z4, z5, hzi⟩ : ∃ z0 z1 z2 z3 z4 z5, cur[i]? = some ⟨z0, z1, z2, z3, z4, z5⟩ := ⟨_, _, _, _, _, _, hci⟩
     have b0 : w3.cell? ⟨g, i * 6, none⟩ = some (.int .i64 z0) := hbk.cell hzi (j := 0) rfl
     have b1 : w3.cell? ⟨g, i * 6 + 1, none⟩ = some (.int .i64 z1) := hbk.cell hzi (j := 1) rfl
     have b2 : w3.cell? ⟨g, i * 6 + 2, none⟩ = some (.int .i64 z2) := hbk.cell hzi (j := 2) rfl
     have b3 : w3.cell? ⟨g, i * 6 + 3, none⟩ = some (.int .i64 z3) := hbk.cell hzi (j := 3) rfl
     have b4 : w3.cell? ⟨g, i * 6 + 4, none⟩ = some (.string ⟨z4.toArray⟩) := hbk.cell hzi (j := 4) rfl
     have b5 : w3.cell? ⟨g, i * 6 + 5, none⟩ = some (.string ⟨z5.toArray⟩) := hbk.cell hzi (j := 5) rfl
     have bf := hbk.open_
     have bl := hbk.lt
     have hX3 := ((Wb.new wr tAct [.int .i64 kd, .int .i64 pp, .int .i64 nn, .int .i64 mm, .string ⟨nm.toArray⟩, .string ⟨da.toArray⟩]).below hb3 (by simp))
     have x0 := hX3.cell 0
     have x1 := hX3.cell 1
     have x2 := hX3.cell 2
     have x3 := hX3.cell 3
     have x4 := hX3.cell 4
     have x5 := hX3.cell 5
     simp only [List.getElem?_cons_zero, List.getElem?_cons_succ] at x0 x1 x2 x3 x4 x5
     have xl := hX3.lt
     have HS2 := Lib.hid (HS3.out.put HX.out hp hg)
     have hil : i < l.length := by omega
     clear hX3 hbk hcl hci hzi hb4 hb3 HC HS hp HS3 hst3 hbx
     go_wp2
     go_roundw
     case rel => (repeat apply Exists.intro); exact ⟨⟨i + 1, j + 1, by go_num, by go_num, HS2.out⟩, rfl⟩
     case measure => simp [intOf]; omega
    ·have HS2 := Lib.hid (HS.out.skip HX.out hp hb4 hBr)
     clear hb4 hb3 HC HS hp
     go_wp2
     go_roundw
     case rel => (repeat apply Exists.intro); exact ⟨⟨i, j + 1, rfl, by go_num, HS2.out⟩, rfl⟩
     case measure => simp [intOf]; omega
   ·obtain rfl : j = l.length := by omega
    obtain ⟨cur, hcl, hbk, ht, -⟩ := HS.out.row
    have hli : (l.filter fun a => !p a).length = i := by
     have := congrArg List.length ht
     rw [List.take_length, List.length_take] at this
     omega
    have hrd : Acts (wr.setCells g (i * 6) (clrA (l.length - i))) (some ⟨g, 0, none⟩) (l.filter fun a => !p a) := by
     refine .inr ⟨g, 0, rfl, ?_, fun k x hx q u hu => ?_⟩
     ·exact Nat.lt_of_lt_of_le hbk.lt (below_setCells (Nat.zero_le g) (clrA (l.length - i)) (i * 6) wr (Below.refl 0 wr)).size
     ·have hk := (List.getElem?_eq_some_iff.1 hx).1
      have hq : q < 6 := by
       have := (List.getElem?_eq_some_iff.1 hu).1
       rwa [encAc_len] at this
      rw [cell_before _ _ _ _ (by omega), Nat.zero_add]
      rw [List.take_length] at ht
      rw [← ht, List.getElem?_take] at hx
      split at hx
      ·exact hbk.cell hx hu
      ·cases hx
    have hcl2 := fun ty C => run_clearA wr ty g (i * 6) (l.length - i) C (by omega) (fun q hq => by
     have := hbk.there (i * 6 + q) (by omega)
     rwa [Nat.zero_add] at this) (fun q _ => hbk.open_ _)
    have hb9 := below_setCells hg (clrA (l.length - i)) (i * 6) wr HS.out.keep
    have gl := hbk.lt
    have hne : ¬ c = i := by omega
    have hic : i ≤ c := by omega
    have hil : i ≤ l.length := by omega
    have HR := Lib.hid hrd
    have HLi := Lib.hid hli
    clear hbk ht HS hrd hli hcl HF
    generalize clrA (l.length - i) = vs at *
    go_wp2
    go_ret
    exact ⟨some ⟨g, 0, none⟩, c, by rw [HLi.out]; rfl, HR.out, by rw [HLi.out]; exact hic, hb9⟩
end Go.Proofs.YtnnhhbjbdmgpiaaGreatDoor
/- A literal of actions. -/
namespace Go.Proofs.YtnnhhbjbdmgpiaaGreatDoor
set_option maxRecDepth 100000
open Go.RowKit
theorem flat_ac (l : List Cf.Actn) : (l.flatMap encAc).length = l.length * 6 := by
 induction l with
 | nil => rfl
 | cons x l ih => rw [List.flatMap_cons, List.length_append, ih, encAc_len, List.length_cons, Nat.add_mul]; omega
theorem own_lit (w : World) (base : Nat) (t : TypeId) (vs : Array Value) (l : List Cf.Actn) (h : vs.toList = l.flatMap encAc) (hb : base ≤ w.heap.size) (hl : l.length ≤ 1000) :
  (w.alloc (.cells vs t)).ownsRow base t 6 (.slice (some ⟨w.heap.size, 0, none⟩) l.length l.length) l.length (l.flatMap encAc) := by
 have hs : vs.size = l.length * 6 := by rw [← Array.length_toList, h, flat_ac]
 refine ⟨flat_ac l, .inr ⟨w.heap.size, l.length, vs, rfl, hb, heap_alloc_new w _, Nat.le_refl _, by unfold maxLen; omega, hs, ?_⟩⟩
 rw [h, List.take_of_length_le (by rw [flat_ac]; exact Nat.le_refl _)]
theorem acts_lit (w : World) (t : TypeId) (vs : Array Value) (l : List Cf.Actn) (h : vs.toList = l.flatMap encAc) : Acts (w.alloc (.cells vs t)) (some ⟨w.heap.size, 0, none⟩) l :=
 .inr ⟨w.heap.size, 0, rfl, by simp, fun k b hb j u hu => by
  have h1 := flat_at 6 encAc encAc_len l k b j u hb hu
  rw [← h] at h1
  simp at h1 ⊢
  exact h1⟩
theorem row_two (w : World) (t : TypeId) (A A' : Option Addr) (c c' : Nat) (l l' : List Cf.Actn) : RdS 1 encS (w.alloc (.cells #[.slice A l.length c, .slice A' l'.length c'] t)) (some ⟨w.heap.size, 0, none⟩) [⟨A, c, l⟩, ⟨A', c', l'⟩] :=
 .inr ⟨w.heap.size, 0, rfl, by simp, fun j b hb i u hu => by
  have hW := Wb.new w t [.slice A l.length c, .slice A' l'.length c']
  match j, hb with
  | 0, hb =>
    simp at hb
    subst hb
    cases i with
    | succ i => simp [encS] at hu
    | zero => exact (hW.cell 0).trans hu
  | 1, hb =>
    simp at hb
    subst hb
    cases i with
    | succ i => simp [encS] at hu
    | zero => exact (hW.cell 1).trans hu
  | j + 2, hb => simp at hb⟩
theorem cat_two (A A' : Option Addr) (c c' : Nat) (l l' : List Cf.Actn) : catL [⟨A, c, l⟩, ⟨A', c', l'⟩] = l ++ l' := by simp [catL]
end Go.Proofs.YtnnhhbjbdmgpiaaGreatDoor
/- Walks of the laws' own helpers: a script run, of rows of actions laid one behind the other. -/
namespace Go.Proofs.YtnnhhbjbdmgpiaaGreatDoor
set_option maxRecDepth 100000
open Go.RowKit
end Go.Proofs.YtnnhhbjbdmgpiaaGreatDoor
