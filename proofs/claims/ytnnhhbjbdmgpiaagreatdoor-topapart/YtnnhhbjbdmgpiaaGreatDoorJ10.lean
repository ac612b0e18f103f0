/- Texts of the proof of TopApart: KRdK, IdxW, SameM. -/
import Derived.Test.YtnnhhbjbdmgpiaaGreatDoorJ08
import Derived.Test.YtnnhhbjbdmgpiaaGreatDoorJ09
import Derived.Test.YtnnhhbjbdmgpiaaGreatDoorJ05
import Derived.Test.YtnnhhbjbdmgpiaaGreatDoorJ00
import Derived.Test.YtnnhhbjbdmgpiaaGreatDoorJ01
/- A kernel as it lies in memory, to be read. -/
namespace Go.Proofs.YtnnhhbjbdmgpiaaGreatDoor
set_option maxRecDepth 100000
open Go.RowKit

/-- A module and a process, as their cells. -/
structure MV where
  name : List UInt8
  A : Option Addr
  lc : Nat
  ca : Nat
  B : Option Addr
  ld : Nat
  cb : Nat
structure PV where
  live : Bool
  A : Option Addr
  le : Nat
  ce : Nat
def encNd (x : Cf.Node) : List Value := [.string ⟨x.name.toArray⟩, .int .i64 x.kind, .string ⟨x.data.toArray⟩, .int .i64 x.unit]
def encEn (x : Cf.End) : List Value := [.int .i64 x.kind, .int .i64 x.node, .int .i64 x.pos]
def encSt (x : List UInt8) : List Value := [.string ⟨x.toArray⟩]
def encMv (x : MV) : List Value := [.string ⟨x.name.toArray⟩, .slice x.A x.lc x.ca, .slice x.B x.ld x.cb]
def encPv (x : PV) : List Value := [.bool x.live, .slice x.A x.le x.ce]
theorem encNd_len (x : Cf.Node) : (encNd x).length = 4 := rfl
theorem encEn_len (x : Cf.End) : (encEn x).length = 3 := rfl
theorem encSt_len (x : List UInt8) : (encSt x).length = 1 := rfl
theorem encMv_len (x : MV) : (encMv x).length = 3 := rfl
theorem encPv_len (x : PV) : (encPv x).length = 2 := rfl
abbrev Nodes (w : World) (A : Option Addr) (l : List Cf.Node) : Prop := RdS 4 encNd w A l
abbrev Ends (w : World) (A : Option Addr) (l : List Cf.End) : Prop := RdS 3 encEn w A l
abbrev Strs (w : World) (A : Option Addr) (l : List (List UInt8)) : Prop := RdS 1 encSt w A l
/-- These cells are this module, this process. -/
def IsM (w : World) (x : MV) (m : Cf.Mod) : Prop := x.name = m.name ∧ x.lc = m.code.length ∧ x.ld = m.data.length ∧ Codes w x.A m.code ∧ Ints w x.B m.data
def IsP (w : World) (x : PV) (p : Cf.Proc) : Prop := x.live = p.live ∧ x.le = p.ends.length ∧ Ends w x.A p.ends
/-- Two lists, one by one. -/
def Each {α β : Type} (R : α → β → Prop) (xs : List α) (ys : List β) : Prop := xs.length = ys.length ∧ ∀ (i : Nat) (x : α) (y : β), xs[i]? = some x → ys[i]? = some y → R x y
theorem Each.mono {α β : Type} {R S : α → β → Prop} {xs : List α} {ys : List β} (h : Each R xs ys) (hRS : ∀ x y, R x y → S x y) : Each S xs ys := ⟨h.1, fun i x y hx hy => hRS x y (h.2 i x y hx hy)⟩
theorem Each.nil {α β : Type} {R : α → β → Prop} : Each R [] [] := ⟨rfl, fun i x y hx => by simp at hx⟩
theorem Each.snoc {α β : Type} {R : α → β → Prop} {xs : List α} {ys : List β} (h : Each R xs ys) {x : α} {y : β} (hr : R x y) : Each R (xs ++ [x]) (ys ++ [y]) := by
  refine ⟨by simp [h.1], fun i a b ha hb => ?_⟩
  rw [List.getElem?_append] at ha hb
  rw [h.1] at ha
  split at ha
  · rename_i hi
    rw [if_pos hi] at hb
    exact h.2 i a b ha hb
  · rename_i hi
    rw [if_neg hi] at hb
    have h0 : i - ys.length = 0 := by
      rcases Nat.eq_zero_or_pos (i - ys.length) with h | h
      · exact h
      · rw [List.getElem?_eq_none (by simp; omega)] at ha; cases ha
    rw [h0] at ha hb
    simp at ha hb
    subst ha hb
    exact hr
theorem Each.set {α β : Type} {R : α → β → Prop} {xs : List α} {ys : List β} (h : Each R xs ys) (k : Nat) {x : α} {y : β} (hr : R x y) : Each R (xs.set k x) (ys.set k y) := by
  refine ⟨by simp [h.1], fun i a b ha hb => ?_⟩
  rw [List.getElem?_set] at ha hb
  split at ha
  · rename_i hi
    rw [if_pos hi] at hb
    split at ha
    · split at hb
      · simp at ha hb
        subst ha hb
        exact hr
      · cases hb
    · cases ha
  · rename_i hi
    rw [if_neg hi] at hb
    exact h.2 i a b ha hb
def Mods (w : World) (A : Option Addr) (l : List Cf.Mod) : Prop := ∃ xs, RdS 3 encMv w A xs ∧ Each (IsM w) xs l
def Procs (w : World) (A : Option Addr) (l : List Cf.Proc) : Prop := ∃ xs, RdS 2 encPv w A xs ∧ Each (IsP w) xs l
theorem IsM.below {w w' : World} {x : MV} {m : Cf.Mod} (h : IsM w x m) (hb : Below w.heap.size w w') : IsM w' x m := ⟨h.1, h.2.1, h.2.2.1, h.2.2.2.1.below hb, h.2.2.2.2.below hb⟩
theorem IsP.below {w w' : World} {x : PV} {m : Cf.Proc} (h : IsP w x m) (hb : Below w.heap.size w w') : IsP w' x m := ⟨h.1, h.2.1, h.2.2.below hb⟩
theorem Mods.below {w w' : World} {A : Option Addr} {l : List Cf.Mod} (h : Mods w A l) (hb : Below w.heap.size w w') : Mods w' A l := by
  obtain ⟨xs, h1, h2⟩ := h
  exact ⟨xs, h1.below hb, h2.mono fun _ _ h => h.below hb⟩
theorem Procs.below {w w' : World} {A : Option Addr} {l : List Cf.Proc} (h : Procs w A l) (hb : Below w.heap.size w w') : Procs w' A l := by
  obtain ⟨xs, h1, h2⟩ := h
  exact ⟨xs, h1.below hb, h2.mono fun _ _ h => h.below hb⟩
/-- The addresses and capacities of a kernel's five lists. -/
structure KA where
  A : Option Addr
  ca : Nat
  M : Option Addr
  cm : Nat
  N : Option Addr
  cn : Nat
  S : Option Addr
  cs : Nat
  Q : Option Addr
  cq : Nat
/-- A kernel's cells. -/
def kcells (a : KA) (k : Cf.Kern) : List Value := [.slice a.A k.mods.length a.ca, .slice a.M k.mem.length a.cm, .slice a.N k.nodes.length a.cn, .slice a.S k.pipes.length a.cs, .slice a.Q k.procs.length a.cq]
structure KRd (w : World) (a : KA) (k : Cf.Kern) : Prop where
  mods : Mods w a.A k.mods
  mem : Ints w a.M k.mem
  nodes : Nodes w a.N k.nodes
  pipes : Strs w a.S k.pipes
  procs : Procs w a.Q k.procs
  capA : k.mods.length ≤ a.ca
theorem KRd.below {w w' : World} {a : KA} {k : Cf.Kern} (h : KRd w a k) (hb : Below w.heap.size w w') : KRd w' a k :=
  ⟨h.mods.below hb, RdS.below h.mem hb, RdS.below h.nodes hb, RdS.below h.pipes hb, h.procs.below hb, h.capA⟩
/-- The same, all of it in memory from B on. -/
structure KNew (B : Nat) (w : World) (a : KA) (k : Cf.Kern) : Prop where
  mods : ∃ xs, (RdS 3 encMv w a.A xs ∧ Fresh B a.A xs) ∧ Each (fun x m => IsM w x m ∧ Fresh B x.A m.code ∧ Fresh B x.B m.data) xs k.mods
  mem : Ints w a.M k.mem ∧ Fresh B a.M k.mem
  nodes : Nodes w a.N k.nodes ∧ Fresh B a.N k.nodes
  pipes : Strs w a.S k.pipes ∧ Fresh B a.S k.pipes
  procs : ∃ xs, (RdS 2 encPv w a.Q xs ∧ Fresh B a.Q xs) ∧ Each (fun x p => IsP w x p ∧ Fresh B x.A p.ends) xs k.procs
  capA : k.mods.length ≤ a.ca
theorem KNew.rd {B : Nat} {w : World} {a : KA} {k : Cf.Kern} (h : KNew B w a k) : KRd w a k := by
  obtain ⟨xs, h1, h2⟩ := h.mods
  obtain ⟨ys, h3, h4⟩ := h.procs
  exact ⟨⟨xs, h1.1, h2.mono fun _ _ h => h.1⟩, h.mem.1, h.nodes.1, h.pipes.1, ⟨ys, h3.1, h4.mono fun _ _ h => h.1⟩, h.capA⟩
theorem KNew.below {B : Nat} {w w' : World} {a : KA} {k : Cf.Kern} (h : KNew B w a k) (hb : Below w.heap.size w w') : KNew B w' a k := by
  obtain ⟨xs, h1, h2⟩ := h.mods
  obtain ⟨ys, h3, h4⟩ := h.procs
  exact ⟨⟨xs, ⟨h1.1.below hb, h1.2⟩, h2.mono fun _ _ h => ⟨h.1.below hb, h.2⟩⟩, ⟨RdS.below h.mem.1 hb, h.mem.2⟩, ⟨RdS.below h.nodes.1 hb, h.nodes.2⟩, ⟨RdS.below h.pipes.1 hb, h.pipes.2⟩, ⟨ys, ⟨h3.1.below hb, h3.2⟩, h4.mono fun _ _ h => ⟨h.1.below hb, h.2⟩⟩, h.capA⟩
theorem KNew.mono {B B' : Nat} {w : World} {a : KA} {k : Cf.Kern} (h : KNew B w a k) (hB : B' ≤ B) : KNew B' w a k := by
  obtain ⟨xs, h1, h2⟩ := h.mods
  obtain ⟨ys, h3, h4⟩ := h.procs
  exact ⟨⟨xs, ⟨h1.1, h1.2.mono hB⟩, h2.mono fun _ _ h => ⟨h.1, h.2.1.mono hB, h.2.2.mono hB⟩⟩, ⟨h.mem.1, h.mem.2.mono hB⟩, ⟨h.nodes.1, h.nodes.2.mono hB⟩, ⟨h.pipes.1, h.pipes.2.mono hB⟩, ⟨ys, ⟨h3.1, h3.2.mono hB⟩, h4.mono fun _ _ h => ⟨h.1, h.2.mono hB⟩⟩, h.capA⟩
theorem KNew.set {B : Nat} {w : World} {a : KA} {k : Cf.Kern} (h : KNew B w a k) {p : Addr} (hp : p.block < B) (u : Value) : KNew B (w.setCell p u) a k := by
  obtain ⟨xs, h1, h2⟩ := h.mods
  obtain ⟨ys, h3, h4⟩ := h.procs
  exact ⟨⟨xs, ⟨rd_set h1.1 h1.2 hp u, h1.2⟩, h2.mono fun _ _ h => ⟨⟨h.1.1, h.1.2.1, h.1.2.2.1, rd_set h.1.2.2.2.1 h.2.1 hp u, rd_set h.1.2.2.2.2 h.2.2 hp u⟩, h.2⟩⟩, ⟨rd_set h.mem.1 h.mem.2 hp u, h.mem.2⟩, ⟨rd_set h.nodes.1 h.nodes.2 hp u, h.nodes.2⟩, ⟨rd_set h.pipes.1 h.pipes.2 hp u, h.pipes.2⟩,
    ⟨ys, ⟨rd_set h3.1 h3.2 hp u, h3.2⟩, h4.mono fun _ _ h => ⟨⟨h.1.1, h.1.2.1, rd_set h.1.2.2 h.2 hp u⟩, h.2⟩⟩, h.capA⟩
/-- A kernel that a call hands back. -/
def KRet (k : Cf.Kern) (w : World) (e : Ending) (w' : World) : Prop := ∃ a : KA, e = .returned (.agg (kcells a k).toArray) ∧ KNew w.heap.size w' a k ∧ Below w.heap.size w w'
/-- What a kernel's lists measure at most. -/
def big : Nat := 140737488355328
structure KFit (k : Cf.Kern) : Prop where
  mods : k.mods.length ≤ big
  each : ∀ m ∈ k.mods, m.name.length ≤ big ∧ m.code.length ≤ big ∧ m.data.length ≤ big
  mem : k.mem.length ≤ big
  nodes : k.nodes.length ≤ big
  node : ∀ n ∈ k.nodes, n.name.length ≤ big ∧ n.data.length ≤ big
  pipes : k.pipes.length ≤ big
  pipe : ∀ s ∈ k.pipes, s.length ≤ big
  procs : k.procs.length ≤ big
  proc : ∀ p ∈ k.procs, p.ends.length ≤ big
  wt : (k.mods.length * 64 ≤ big ∧ k.mem.length * 8 ≤ big ∧ k.nodes.length * 48 ≤ big ∧ k.pipes.length * 16 ≤ big ∧ k.procs.length * 32 ≤ big) ∧ (∀ m ∈ k.mods, m.code.length * 32 ≤ big ∧ m.data.length * 8 ≤ big) ∧ ∀ p ∈ k.procs, p.ends.length * 24 ≤ big
abbrev tKern : TypeId := 28
/-- A kernel at a pointer. -/
def KPtr (w : World) (g : Nat) (a : KA) (k : Cf.Kern) : Prop := Wb w g tKern (kcells a k) ∧ KRd w a k
theorem KPtr.below {w w' : World} {g : Nat} {a : KA} {k : Cf.Kern} (h : KPtr w g a k) (hb : Below w.heap.size w w') : KPtr w' g a k := ⟨h.1.below hb h.1.lt, h.2.below hb⟩
theorem KPtr.c0 {w : World} {g : Nat} {a : KA} {k : Cf.Kern} (h : KPtr w g a k) : w.cell? ⟨g, 0, none⟩ = some (.slice a.A k.mods.length a.ca) := h.1.cell 0
theorem KPtr.c1 {w : World} {g : Nat} {a : KA} {k : Cf.Kern} (h : KPtr w g a k) : w.cell? ⟨g, 1, none⟩ = some (.slice a.M k.mem.length a.cm) := h.1.cell 1
theorem KPtr.c2 {w : World} {g : Nat} {a : KA} {k : Cf.Kern} (h : KPtr w g a k) : w.cell? ⟨g, 2, none⟩ = some (.slice a.N k.nodes.length a.cn) := h.1.cell 2
theorem KPtr.c3 {w : World} {g : Nat} {a : KA} {k : Cf.Kern} (h : KPtr w g a k) : w.cell? ⟨g, 3, none⟩ = some (.slice a.S k.pipes.length a.cs) := h.1.cell 3
theorem KPtr.c4 {w : World} {g : Nat} {a : KA} {k : Cf.Kern} (h : KPtr w g a k) : w.cell? ⟨g, 4, none⟩ = some (.slice a.Q k.procs.length a.cq) := h.1.cell 4
end Go.Proofs.YtnnhhbjbdmgpiaaGreatDoor
/- Walks of the library: slices.IndexFunc and slices.ContainsFunc, whatever the function that is handed in. -/
namespace Go.Proofs.YtnnhhbjbdmgpiaaGreatDoor
set_option maxRecDepth 100000
open Go.RowKit

def mvCl {β : Type} (l : List MV) (ys : List β) (p : β → Bool) (f : Nat) (cs : Array Value) (w : World) : Prop :=
  ∀ (i : Nat) (x : MV) (y : β) (w' : World), l[i]? = some x → ys[i]? = some y → Below w.heap.size w w' → Calls Tryz.prog f (#[.agg (encMv x).toArray] ++ cs) w' fun e w'' => e = .returned (.bool (p y)) ∧ Below w'.heap.size w' w''
set_option maxHeartbeats 1000000 in
theorem mvIdx_any {β : Type} (l : List MV) (A : Option Addr) (cap : Nat) (w : World) (hR : RdS 3 encMv w A l) (hm : l.length ≤ maxLen) (ys : List β) (hy : l.length = ys.length) (p : β → Bool) (f : Nat) (cs : Array Value) (hf : mvCl l ys p f cs w) (eg : ∀ args w, (callFunc f args).run Tryz.prog w = .ok (.enter f args) w) :
    Calls Tryz.prog 122 #[.slice A l.length cap, .func (.func f) #[] cs] w fun e w' => e = .returned (.int .i64 (Cf.idxT p ys)) ∧ Below w.heap.size w w' := by
  unfold maxLen at hm
  rcases hR with hl | ⟨b, off, rfl, hb, hc⟩
  · subst hl
    obtain rfl : ys = [] := List.eq_nil_of_length_eq_zero hy.symm
    clear hf eg hm
    go_enter Tryz.func122, Tryz.ntmps122
    go_wp2
    refine wp_loop_rounds 1 ?_
    rw [rounds_succ]
    go_wp2
    go_ret
    exact ⟨rfl, Below.refl _ _⟩
  · have Hc := Lib.hid hc
    have HF := Lib.hid hf
    have Heg := Lib.hid eg
    have HY := Lib.hid hy
    clear hc hf eg hy
    go_enter Tryz.func122, Tryz.ntmps122
    go_wp2
    go_loopw [8] (fun i wr => ∃ k : Nat, k ≤ l.length ∧ i = .int .i64 k ∧ (ys.take k).any p = false ∧ Below w.heap.size w wr) (fun i _ => l.length - (intOf i).toNat)
    case atStart => exact ⟨0, by omega, rfl, rfl, Below.refl _ _⟩
    case round =>
      obtain ⟨k, hk, rfl, hall, hbw⟩ := hrel
      have Hall := Lib.hid hall
      clear hall
      by_cases hlt : k < l.length
      · obtain ⟨nm, A1, lc, ca, B1, ld, cb, hx⟩ : ∃ nm A1 lc ca B1 ld cb, l[k]? = some ⟨nm, A1, lc, ca, B1, ld, cb⟩ := ⟨_, _, _, _, _, _, _, List.getElem?_eq_getElem hlt⟩
        have c0 : wr.cell? ⟨b, off + k * 3, none⟩ = some (.string ⟨nm.toArray⟩) := (hbw.cell hb).trans (Hc.out k _ hx 0 _ rfl)
        have c1 : wr.cell? ⟨b, off + k * 3 + 1, none⟩ = some (.slice A1 lc ca) := (hbw.cell hb).trans (Hc.out k _ hx 1 _ rfl)
        have c2 : wr.cell? ⟨b, off + k * 3 + 2, none⟩ = some (.slice B1 ld cb) := (hbw.cell hb).trans (Hc.out k _ hx 2 _ rfl)
        obtain ⟨y, hyk⟩ : ∃ y, ys[k]? = some y := ⟨_, List.getElem?_eq_getElem (by rw [← HY.out]; exact hlt)⟩
        have HX := Lib.hid hyk
        have HC := Lib.hid (HF.out k _ y wr hx hyk hbw)
        clear hx hyk
        go_wp2_with fail
        first | with_reducible refine HC.out.mono ?_ | (rw [Heg.out]; refine HC.out.mono ?_)
        rintro e w1 ⟨rfl, hb1⟩
        have hbw1 := hbw.trans (hb1.mono hbw.size)
        clear hb1 HC
        cases hp : p y
        · have HA := Lib.hid (Cf.any_on HX.out Hall.out hp)
          clear hp
          go_wp2
          go_roundw
          case rel => exact ⟨k + 1, by omega, by go_num, HA.out, hbw1⟩
          case measure => simp [intOf]; omega
        · have HI := Lib.hid (Cf.idx_at HX.out hp Hall.out)
          clear hp
          go_wp2
          go_ret
          exact ⟨by rw [HI.out]; first | done | rfl, hbw1⟩
      · have HI := Lib.hid (Cf.idx_none (p := p) (l := ys) (by have := Hall.out; rwa [List.take_of_length_le (by rw [← HY.out]; omega)] at this))
        go_wp2
        go_ret
        exact ⟨by rw [HI.out]; rfl, hbw⟩

def ndCl {β : Type} (l : List Cf.Node) (ys : List β) (p : β → Bool) (f : Nat) (cs : Array Value) (w : World) : Prop :=
  ∀ (i : Nat) (x : Cf.Node) (y : β) (w' : World), l[i]? = some x → ys[i]? = some y → Below w.heap.size w w' → Calls Tryz.prog f (#[.agg (encNd x).toArray] ++ cs) w' fun e w'' => e = .returned (.bool (p y)) ∧ Below w'.heap.size w' w''
set_option maxHeartbeats 1000000 in
theorem ndIdx_any {β : Type} (l : List Cf.Node) (A : Option Addr) (cap : Nat) (w : World) (hR : RdS 4 encNd w A l) (hm : l.length ≤ maxLen) (ys : List β) (hy : l.length = ys.length) (p : β → Bool) (f : Nat) (cs : Array Value) (hf : ndCl l ys p f cs w) (eg : ∀ args w, (callFunc f args).run Tryz.prog w = .ok (.enter f args) w) :
    Calls Tryz.prog 135 #[.slice A l.length cap, .func (.func f) #[] cs] w fun e w' => e = .returned (.int .i64 (Cf.idxT p ys)) ∧ Below w.heap.size w w' := by
  unfold maxLen at hm
  rcases hR with hl | ⟨b, off, rfl, hb, hc⟩
  · subst hl
    obtain rfl : ys = [] := List.eq_nil_of_length_eq_zero hy.symm
    clear hf eg hm
    go_enter Tryz.func135, Tryz.ntmps135
    go_wp2
    refine wp_loop_rounds 1 ?_
    rw [rounds_succ]
    go_wp2
    go_ret
    exact ⟨rfl, Below.refl _ _⟩
  · have Hc := Lib.hid hc
    have HF := Lib.hid hf
    have Heg := Lib.hid eg
    have HY := Lib.hid hy
    clear hc hf eg hy
    go_enter Tryz.func135, Tryz.ntmps135
    go_wp2
    go_loopw [8] (fun i wr => ∃ k : Nat, k ≤ l.length ∧ i = .int .i64 k ∧ (ys.take k).any p = false ∧ Below w.heap.size w wr) (fun i _ => l.length - (intOf i).toNat)
    case atStart => exact ⟨0, by omega, rfl, rfl, Below.refl _ _⟩
    case round =>
      obtain ⟨k, hk, rfl, hall, hbw⟩ := hrel
      have Hall := Lib.hid hall
      clear hall
      by_cases hlt : k < l.length
      · obtain ⟨nm, kd, da, un, hx⟩ : ∃ nm kd da un, l[k]? = some ⟨nm, kd, da, un⟩ := ⟨_, _, _, _, List.getElem?_eq_getElem hlt⟩
        have c0 : wr.cell? ⟨b, off + k * 4, none⟩ = some (.string ⟨nm.toArray⟩) := (hbw.cell hb).trans (Hc.out k _ hx 0 _ rfl)
        have c1 : wr.cell? ⟨b, off + k * 4 + 1, none⟩ = some (.int .i64 kd) := (hbw.cell hb).trans (Hc.out k _ hx 1 _ rfl)
        have c2 : wr.cell? ⟨b, off + k * 4 + 2, none⟩ = some (.string ⟨da.toArray⟩) := (hbw.cell hb).trans (Hc.out k _ hx 2 _ rfl)
        have c3 : wr.cell? ⟨b, off + k * 4 + 3, none⟩ = some (.int .i64 un) := (hbw.cell hb).trans (Hc.out k _ hx 3 _ rfl)
        obtain ⟨y, hyk⟩ : ∃ y, ys[k]? = some y := ⟨_, List.getElem?_eq_getElem (by rw [← HY.out]; exact hlt)⟩
        have HX := Lib.hid hyk
        have HC := Lib.hid (HF.out k _ y wr hx hyk hbw)
        clear hx hyk
        go_wp2_with fail
        first | with_reducible refine HC.out.mono ?_ | (rw [Heg.out]; refine HC.out.mono ?_)
        rintro e w1 ⟨rfl, hb1⟩
        have hbw1 := hbw.trans (hb1.mono hbw.size)
        clear hb1 HC
        cases hp : p y
        · have HA := Lib.hid (Cf.any_on HX.out Hall.out hp)
          clear hp
          go_wp2
          go_roundw
          case rel => exact ⟨k + 1, by omega, by go_num, HA.out, hbw1⟩
          case measure => simp [intOf]; omega
        · have HI := Lib.hid (Cf.idx_at HX.out hp Hall.out)
          clear hp
          go_wp2
          go_ret
          exact ⟨by rw [HI.out]; first | done | rfl, hbw1⟩
      · have HI := Lib.hid (Cf.idx_none (p := p) (l := ys) (by have := Hall.out; rwa [List.take_of_length_le (by rw [← HY.out]; omega)] at this))
        go_wp2
        go_ret
        exact ⟨by rw [HI.out]; rfl, hbw⟩

def enCl {β : Type} (l : List Cf.End) (ys : List β) (p : β → Bool) (f : Nat) (cs : Array Value) (w : World) : Prop :=
  ∀ (i : Nat) (x : Cf.End) (y : β) (w' : World), l[i]? = some x → ys[i]? = some y → Below w.heap.size w w' → Calls Tryz.prog f (#[.agg (encEn x).toArray] ++ cs) w' fun e w'' => e = .returned (.bool (p y)) ∧ Below w'.heap.size w' w''
set_option maxHeartbeats 1000000 in
theorem enIdx_any {β : Type} (l : List Cf.End) (A : Option Addr) (cap : Nat) (w : World) (hR : RdS 3 encEn w A l) (hm : l.length ≤ maxLen) (ys : List β) (hy : l.length = ys.length) (p : β → Bool) (f : Nat) (cs : Array Value) (hf : enCl l ys p f cs w) (eg : ∀ args w, (callFunc f args).run Tryz.prog w = .ok (.enter f args) w) :
    Calls Tryz.prog 124 #[.slice A l.length cap, .func (.func f) #[] cs] w fun e w' => e = .returned (.int .i64 (Cf.idxT p ys)) ∧ Below w.heap.size w w' := by
  unfold maxLen at hm
  rcases hR with hl | ⟨b, off, rfl, hb, hc⟩
  · subst hl
    obtain rfl : ys = [] := List.eq_nil_of_length_eq_zero hy.symm
    clear hf eg hm
    go_enter Tryz.func124, Tryz.ntmps124
    go_wp2
    refine wp_loop_rounds 1 ?_
    rw [rounds_succ]
    go_wp2
    go_ret
    exact ⟨rfl, Below.refl _ _⟩
  · have Hc := Lib.hid hc
    have HF := Lib.hid hf
    have Heg := Lib.hid eg
    have HY := Lib.hid hy
    clear hc hf eg hy
    go_enter Tryz.func124, Tryz.ntmps124
    go_wp2
    go_loopw [8] (fun i wr => ∃ k : Nat, k ≤ l.length ∧ i = .int .i64 k ∧ (ys.take k).any p = false ∧ Below w.heap.size w wr) (fun i _ => l.length - (intOf i).toNat)
    case atStart => exact ⟨0, by omega, rfl, rfl, Below.refl _ _⟩
    case round =>
      obtain ⟨k, hk, rfl, hall, hbw⟩ := hrel
      have Hall := Lib.hid hall
      clear hall
      by_cases hlt : k < l.length
      · obtain ⟨kd, nd, ps, hx⟩ : ∃ kd nd ps, l[k]? = some ⟨kd, nd, ps⟩ := ⟨_, _, _, List.getElem?_eq_getElem hlt⟩
        have c0 : wr.cell? ⟨b, off + k * 3, none⟩ = some (.int .i64 kd) := (hbw.cell hb).trans (Hc.out k _ hx 0 _ rfl)
        have c1 : wr.cell? ⟨b, off + k * 3 + 1, none⟩ = some (.int .i64 nd) := (hbw.cell hb).trans (Hc.out k _ hx 1 _ rfl)
        have c2 : wr.cell? ⟨b, off + k * 3 + 2, none⟩ = some (.int .i64 ps) := (hbw.cell hb).trans (Hc.out k _ hx 2 _ rfl)
        obtain ⟨y, hyk⟩ : ∃ y, ys[k]? = some y := ⟨_, List.getElem?_eq_getElem (by rw [← HY.out]; exact hlt)⟩
        have HX := Lib.hid hyk
        have HC := Lib.hid (HF.out k _ y wr hx hyk hbw)
        clear hx hyk
        go_wp2_with fail
        first | with_reducible refine HC.out.mono ?_ | (rw [Heg.out]; refine HC.out.mono ?_)
        rintro e w1 ⟨rfl, hb1⟩
        have hbw1 := hbw.trans (hb1.mono hbw.size)
        clear hb1 HC
        cases hp : p y
        · have HA := Lib.hid (Cf.any_on HX.out Hall.out hp)
          clear hp
          go_wp2
          go_roundw
          case rel => exact ⟨k + 1, by omega, by go_num, HA.out, hbw1⟩
          case measure => simp [intOf]; omega
        · have HI := Lib.hid (Cf.idx_at HX.out hp Hall.out)
          clear hp
          go_wp2
          go_ret
          exact ⟨by rw [HI.out]; first | done | rfl, hbw1⟩
      · have HI := Lib.hid (Cf.idx_none (p := p) (l := ys) (by have := Hall.out; rwa [List.take_of_length_le (by rw [← HY.out]; omega)] at this))
        go_wp2
        go_ret
        exact ⟨by rw [HI.out]; rfl, hbw⟩
theorem enHas_any {β : Type} (l : List Cf.End) (A : Option Addr) (cap : Nat) (w : World) (hR : RdS 3 encEn w A l) (hm : l.length ≤ maxLen) (ys : List β) (hy : l.length = ys.length) (p : β → Bool) (f : Nat) (cs : Array Value) (hf : enCl l ys p f cs w) (eg : ∀ args w, (callFunc f args).run Tryz.prog w = .ok (.enter f args) w) :
    Calls Tryz.prog 92 #[.slice A l.length cap, .func (.func f) #[] cs] w fun e w' => e = .returned (.bool (ys.any p)) ∧ Below w.heap.size w w' := by
  have H := Lib.hid (enIdx_any l A cap w hR hm ys hy p f cs hf eg)
  have HZ := Lib.hid (Cf.idx_pos (p := p) (l := ys))
  clear hf hR eg hy
  generalize Cf.idxT p ys = z at *
  go_enter Tryz.func92, Tryz.ntmps92
  go_wp2_with fail
  refine H.out.mono ?_
  rintro e w1 ⟨rfl, hb⟩
  go_wp2
  go_ret
  exact ⟨by rw [← HZ.out]; rfl, hb⟩

def pvCl {β : Type} (l : List PV) (ys : List β) (p : β → Bool) (f : Nat) (cs : Array Value) (w : World) : Prop :=
  ∀ (i : Nat) (x : PV) (y : β) (w' : World), l[i]? = some x → ys[i]? = some y → Below w.heap.size w w' → Calls Tryz.prog f (#[.agg (encPv x).toArray] ++ cs) w' fun e w'' => e = .returned (.bool (p y)) ∧ Below w'.heap.size w' w''
set_option maxHeartbeats 1000000 in
theorem pvIdx_any {β : Type} (l : List PV) (A : Option Addr) (cap : Nat) (w : World) (hR : RdS 2 encPv w A l) (hm : l.length ≤ maxLen) (ys : List β) (hy : l.length = ys.length) (p : β → Bool) (f : Nat) (cs : Array Value) (hf : pvCl l ys p f cs w) (eg : ∀ args w, (callFunc f args).run Tryz.prog w = .ok (.enter f args) w) :
    Calls Tryz.prog 125 #[.slice A l.length cap, .func (.func f) #[] cs] w fun e w' => e = .returned (.int .i64 (Cf.idxT p ys)) ∧ Below w.heap.size w w' := by
  unfold maxLen at hm
  rcases hR with hl | ⟨b, off, rfl, hb, hc⟩
  · subst hl
    obtain rfl : ys = [] := List.eq_nil_of_length_eq_zero hy.symm
    clear hf eg hm
    go_enter Tryz.func125, Tryz.ntmps125
    go_wp2
    refine wp_loop_rounds 1 ?_
    rw [rounds_succ]
    go_wp2
    go_ret
    exact ⟨rfl, Below.refl _ _⟩
  · have Hc := Lib.hid hc
    have HF := Lib.hid hf
    have Heg := Lib.hid eg
    have HY := Lib.hid hy
    clear hc hf eg hy
    go_enter Tryz.func125, Tryz.ntmps125
    go_wp2
    go_loopw [8] (fun i wr => ∃ k : Nat, k ≤ l.length ∧ i = .int .i64 k ∧ (ys.take k).any p = false ∧ Below w.heap.size w wr) (fun i _ => l.length - (intOf i).toNat)
    case atStart => exact ⟨0, by omega, rfl, rfl, Below.refl _ _⟩
    case round =>
      obtain ⟨k, hk, rfl, hall, hbw⟩ := hrel
      have Hall := Lib.hid hall
      clear hall
      by_cases hlt : k < l.length
      · obtain ⟨lv, A1, le, ce, hx⟩ : ∃ lv A1 le ce, l[k]? = some ⟨lv, A1, le, ce⟩ := ⟨_, _, _, _, List.getElem?_eq_getElem hlt⟩
        have c0 : wr.cell? ⟨b, off + k * 2, none⟩ = some (.bool lv) := (hbw.cell hb).trans (Hc.out k _ hx 0 _ rfl)
        have c1 : wr.cell? ⟨b, off + k * 2 + 1, none⟩ = some (.slice A1 le ce) := (hbw.cell hb).trans (Hc.out k _ hx 1 _ rfl)
        obtain ⟨y, hyk⟩ : ∃ y, ys[k]? = some y := ⟨_, List.getElem?_eq_getElem (by rw [← HY.out]; exact hlt)⟩
        have HX := Lib.hid hyk
        have HC := Lib.hid (HF.out k _ y wr hx hyk hbw)
        clear hx hyk
        go_wp2_with fail
        first | with_reducible refine HC.out.mono ?_ | (rw [Heg.out]; refine HC.out.mono ?_)
        rintro e w1 ⟨rfl, hb1⟩
        have hbw1 := hbw.trans (hb1.mono hbw.size)
        clear hb1 HC
        cases hp : p y
        · have HA := Lib.hid (Cf.any_on HX.out Hall.out hp)
          clear hp
          go_wp2
          go_roundw
          case rel => exact ⟨k + 1, by omega, by go_num, HA.out, hbw1⟩
          case measure => simp [intOf]; omega
        · have HI := Lib.hid (Cf.idx_at HX.out hp Hall.out)
          clear hp
          go_wp2
          go_ret
          exact ⟨by rw [HI.out]; first | done | rfl, hbw1⟩
      · have HI := Lib.hid (Cf.idx_none (p := p) (l := ys) (by have := Hall.out; rwa [List.take_of_length_le (by rw [← HY.out]; omega)] at this))
        go_wp2
        go_ret
        exact ⟨by rw [HI.out]; rfl, hbw⟩
theorem pvHas_any {β : Type} (l : List PV) (A : Option Addr) (cap : Nat) (w : World) (hR : RdS 2 encPv w A l) (hm : l.length ≤ maxLen) (ys : List β) (hy : l.length = ys.length) (p : β → Bool) (f : Nat) (cs : Array Value) (hf : pvCl l ys p f cs w) (eg : ∀ args w, (callFunc f args).run Tryz.prog w = .ok (.enter f args) w) :
    Calls Tryz.prog 93 #[.slice A l.length cap, .func (.func f) #[] cs] w fun e w' => e = .returned (.bool (ys.any p)) ∧ Below w.heap.size w w' := by
  have H := Lib.hid (pvIdx_any l A cap w hR hm ys hy p f cs hf eg)
  have HZ := Lib.hid (Cf.idx_pos (p := p) (l := ys))
  clear hf hR eg hy
  generalize Cf.idxT p ys = z at *
  go_enter Tryz.func93, Tryz.ntmps93
  go_wp2_with fail
  refine H.out.mono ?_
  rintro e w1 ⟨rfl, hb⟩
  go_wp2
  go_ret
  exact ⟨by rw [← HZ.out]; rfl, hb⟩

def zCl {β : Type} (l : List Int) (ys : List β) (p : β → Bool) (f : Nat) (cs : Array Value) (w : World) : Prop :=
  ∀ (i : Nat) (x : Int) (y : β) (w' : World), l[i]? = some x → ys[i]? = some y → Below w.heap.size w w' → Calls Tryz.prog f (#[.int .i64 x] ++ cs) w' fun e w'' => e = .returned (.bool (p y)) ∧ Below w'.heap.size w' w''
set_option maxHeartbeats 1000000 in
theorem zIdx_any {β : Type} (l : List Int) (A : Option Addr) (cap : Nat) (w : World) (hR : RdS 1 encZ w A l) (hm : l.length ≤ maxLen) (ys : List β) (hy : l.length = ys.length) (p : β → Bool) (f : Nat) (cs : Array Value) (hf : zCl l ys p f cs w) (eg : ∀ args w, (callFunc f args).run Tryz.prog w = .ok (.enter f args) w) :
    Calls Tryz.prog 86 #[.slice A l.length cap, .func (.func f) #[] cs] w fun e w' => e = .returned (.int .i64 (Cf.idxT p ys)) ∧ Below w.heap.size w w' := by
  unfold maxLen at hm
  rcases hR with hl | ⟨b, off, rfl, hb, hc⟩
  · subst hl
    obtain rfl : ys = [] := List.eq_nil_of_length_eq_zero hy.symm
    clear hf eg hm
    go_enter Tryz.func86, Tryz.ntmps86
    go_wp2
    refine wp_loop_rounds 1 ?_
    rw [rounds_succ]
    go_wp2
    go_ret
    exact ⟨rfl, Below.refl _ _⟩
  · have Hc := Lib.hid hc
    have HF := Lib.hid hf
    have Heg := Lib.hid eg
    have HY := Lib.hid hy
    clear hc hf eg hy
    go_enter Tryz.func86, Tryz.ntmps86
    go_wp2
    go_loopw [8] (fun i wr => ∃ k : Nat, k ≤ l.length ∧ i = .int .i64 k ∧ (ys.take k).any p = false ∧ Below w.heap.size w wr) (fun i _ => l.length - (intOf i).toNat)
    case atStart => exact ⟨0, by omega, rfl, rfl, Below.refl _ _⟩
    case round =>
      obtain ⟨k, hk, rfl, hall, hbw⟩ := hrel
      have Hall := Lib.hid hall
      clear hall
      by_cases hlt : k < l.length
      · obtain ⟨z0, hx⟩ : ∃ z0, l[k]? = some z0 := ⟨_, List.getElem?_eq_getElem hlt⟩
        have c0 : wr.cell? ⟨b, off + k, none⟩ = some (.int .i64 z0) := (hbw.cell hb).trans (by have := Hc.out k _ hx 0 _ rfl; simpa using this)
        obtain ⟨y, hyk⟩ : ∃ y, ys[k]? = some y := ⟨_, List.getElem?_eq_getElem (by rw [← HY.out]; exact hlt)⟩
        have HX := Lib.hid hyk
        have HC := Lib.hid (HF.out k _ y wr hx hyk hbw)
        clear hx hyk
        go_wp2_with fail
        first | with_reducible refine HC.out.mono ?_ | (rw [Heg.out]; refine HC.out.mono ?_)
        rintro e w1 ⟨rfl, hb1⟩
        have hbw1 := hbw.trans (hb1.mono hbw.size)
        clear hb1 HC
        cases hp : p y
        · have HA := Lib.hid (Cf.any_on HX.out Hall.out hp)
          clear hp
          go_wp2
          go_roundw
          case rel => exact ⟨k + 1, by omega, by go_num, HA.out, hbw1⟩
          case measure => simp [intOf]; omega
        · have HI := Lib.hid (Cf.idx_at HX.out hp Hall.out)
          clear hp
          go_wp2
          go_ret
          exact ⟨by rw [HI.out]; first | done | rfl, hbw1⟩
      · have HI := Lib.hid (Cf.idx_none (p := p) (l := ys) (by have := Hall.out; rwa [List.take_of_length_le (by rw [← HY.out]; omega)] at this))
        go_wp2
        go_ret
        exact ⟨by rw [HI.out]; rfl, hbw⟩
theorem zHas_any {β : Type} (l : List Int) (A : Option Addr) (cap : Nat) (w : World) (hR : RdS 1 encZ w A l) (hm : l.length ≤ maxLen) (ys : List β) (hy : l.length = ys.length) (p : β → Bool) (f : Nat) (cs : Array Value) (hf : zCl l ys p f cs w) (eg : ∀ args w, (callFunc f args).run Tryz.prog w = .ok (.enter f args) w) :
    Calls Tryz.prog 53 #[.slice A l.length cap, .func (.func f) #[] cs] w fun e w' => e = .returned (.bool (ys.any p)) ∧ Below w.heap.size w w' := by
  have H := Lib.hid (zIdx_any l A cap w hR hm ys hy p f cs hf eg)
  have HZ := Lib.hid (Cf.idx_pos (p := p) (l := ys))
  clear hf hR eg hy
  generalize Cf.idxT p ys = z at *
  go_enter Tryz.func53, Tryz.ntmps53
  go_wp2_with fail
  refine H.out.mono ?_
  rintro e w1 ⟨rfl, hb⟩
  go_wp2
  go_ret
  exact ⟨by rw [← HZ.out]; rfl, hb⟩
end Go.Proofs.YtnnhhbjbdmgpiaaGreatDoor
/- Walks of the law's own helper: two modules that read as one are the same. -/
namespace Go.Proofs.YtnnhhbjbdmgpiaaGreatDoor
set_option maxRecDepth 100000
open Go.RowKit

set_option maxHeartbeats 1000000 in
theorem sameModule_same (n : List UInt8) (l : List Cf.Ins) (d : List Int) (A B A' B' : Option Addr) (ca cb ca' cb' : Nat) (w : World) (hA : Codes w A l) (hB : Ints w B d) (hA' : Codes w A' l) (hB' : Ints w B' d) (hl : l.length ≤ maxLen) (hd : d.length ≤ maxLen) :
    Calls Tryz.prog 46 #[.agg #[.string ⟨n.toArray⟩, .slice A l.length ca, .slice B d.length cb], .agg #[.string ⟨n.toArray⟩, .slice A' l.length ca', .slice B' d.length cb']] w fun e w' => e = .returned (.bool true) ∧ Below w.heap.size w w' := by
  have hb0 := fun (o1 o2 : Obj) => ((Below.refl w.heap.size w).alloc (Nat.le_refl _) o1).alloc (by simp) o2
  go_enter Tryz.func46, Tryz.ntmps46
  go_wp2_with fail
  refine (sameCode_same l A A' ca ca' _ (hA.below (hb0 _ _)) (hA'.below (hb0 _ _)) hl).mono ?_
  rintro e w1 ⟨rfl, hb1⟩
  have hbw := (hb0 _ _).trans (hb1.mono (by simp; omega))
  have r1 := hb1.cell (p := ⟨w.heap.size, 2, none⟩) (by simp; omega)
  have r2 := hb1.cell (p := ⟨w.heap.size + 1, 2, none⟩) (by simp)
  simp at r1 r2
  clear hb1 hb0
  go_wp2_with fail
  refine (sameInts_same d B B' cb cb' _ (hB.below hbw) (hB'.below hbw) hd).mono ?_
  rintro e w2 ⟨rfl, hb2⟩
  have hbx := hbw.trans (hb2.mono hbw.size)
  clear hb2 hbw r1 r2
  go_wp2
  go_ret
  exact ⟨rfl, hbx⟩
end Go.Proofs.YtnnhhbjbdmgpiaaGreatDoor
