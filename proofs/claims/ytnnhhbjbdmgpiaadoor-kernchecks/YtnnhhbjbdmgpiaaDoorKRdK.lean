/- A kernel as it lies in memory, to be read. -/
import Derived.Test.YtnnhhbjbdmgpiaaDoorIntsK
import Derived.Test.YtnnhhbjbdmgpiaaDoorInsK
import Derived.Test.YtnnhhbjbdmgpiaaDoorFreshK
import Derived.Test.YtnnhhbjbdmgpiaaDoorKernP
namespace Go.Proofs.YtnnhhbjbdmgpiaaDoor
set_option maxRecDepth 100000
open Go.RowKit

/-- A module and a process, as their cells. -/
structure MV where
  name : List UInt8
  A : Option Addr
  lc : Nat
  ca : Nat
  B : Option Addr
  ld : Nat
  cb : Nat
structure PV where
  live : Bool
  A : Option Addr
  le : Nat
  ce : Nat
def encNd (x : Cf.Node) : List Value := [.string ⟨x.name.toArray⟩, .int .i64 x.kind, .string ⟨x.data.toArray⟩, .int .i64 x.unit]
def encEn (x : Cf.End) : List Value := [.int .i64 x.kind, .int .i64 x.node, .int .i64 x.pos]
def encSt (x : List UInt8) : List Value := [.string ⟨x.toArray⟩]
def encMv (x : MV) : List Value := [.string ⟨x.name.toArray⟩, .slice x.A x.lc x.ca, .slice x.B x.ld x.cb]
def encPv (x : PV) : List Value := [.bool x.live, .slice x.A x.le x.ce]
theorem encNd_len (x : Cf.Node) : (encNd x).length = 4 := rfl
theorem encEn_len (x : Cf.End) : (encEn x).length = 3 := rfl
theorem encSt_len (x : List UInt8) : (encSt x).length = 1 := rfl
theorem encMv_len (x : MV) : (encMv x).length = 3 := rfl
theorem encPv_len (x : PV) : (encPv x).length = 2 := rfl
abbrev Nodes (w : World) (A : Option Addr) (l : List Cf.Node) : Prop := RdS 4 encNd w A l
abbrev Ends (w : World) (A : Option Addr) (l : List Cf.End) : Prop := RdS 3 encEn w A l
abbrev Strs (w : World) (A : Option Addr) (l : List (List UInt8)) : Prop := RdS 1 encSt w A l
/-- These cells are this module, this process. -/
def IsM (w : World) (x : MV) (m : Cf.Mod) : Prop := x.name = m.name ∧ x.lc = m.code.length ∧ x.ld = m.data.length ∧ Codes w x.A m.code ∧ Ints w x.B m.data
def IsP (w : World) (x : PV) (p : Cf.Proc) : Prop := x.live = p.live ∧ x.le = p.ends.length ∧ Ends w x.A p.ends
/-- Two lists, one by one. -/
def Each {α β : Type} (R : α → β → Prop) (xs : List α) (ys : List β) : Prop := xs.length = ys.length ∧ ∀ (i : Nat) (x : α) (y : β), xs[i]? = some x → ys[i]? = some y → R x y
theorem Each.mono {α β : Type} {R S : α → β → Prop} {xs : List α} {ys : List β} (h : Each R xs ys) (hRS : ∀ x y, R x y → S x y) : Each S xs ys := ⟨h.1, fun i x y hx hy => hRS x y (h.2 i x y hx hy)⟩
theorem Each.nil {α β : Type} {R : α → β → Prop} : Each R [] [] := ⟨rfl, fun i x y hx => by simp at hx⟩
theorem Each.snoc {α β : Type} {R : α → β → Prop} {xs : List α} {ys : List β} (h : Each R xs ys) {x : α} {y : β} (hr : R x y) : Each R (xs ++ [x]) (ys ++ [y]) := by
  refine ⟨by simp [h.1], fun i a b ha hb => ?_⟩
  rw [List.getElem?_append] at ha hb
  rw [h.1] at ha
  split at ha
  · rename_i hi
    rw [if_pos hi] at hb
    exact h.2 i a b ha hb
  · rename_i hi
    rw [if_neg hi] at hb
    have h0 : i - ys.length = 0 := by
      rcases Nat.eq_zero_or_pos (i - ys.length) with h | h
      · exact h
      · rw [List.getElem?_eq_none (by simp; omega)] at ha; cases ha
    rw [h0] at ha hb
    simp at ha hb
    subst ha hb
    exact hr
theorem Each.set {α β : Type} {R : α → β → Prop} {xs : List α} {ys : List β} (h : Each R xs ys) (k : Nat) {x : α} {y : β} (hr : R x y) : Each R (xs.set k x) (ys.set k y) := by
  refine ⟨by simp [h.1], fun i a b ha hb => ?_⟩
  rw [List.getElem?_set] at ha hb
  split at ha
  · rename_i hi
    rw [if_pos hi] at hb
    split at ha
    · split at hb
      · simp at ha hb
        subst ha hb
        exact hr
      · cases hb
    · cases ha
  · rename_i hi
    rw [if_neg hi] at hb
    exact h.2 i a b ha hb
def Mods (w : World) (A : Option Addr) (l : List Cf.Mod) : Prop := ∃ xs, RdS 3 encMv w A xs ∧ Each (IsM w) xs l
def Procs (w : World) (A : Option Addr) (l : List Cf.Proc) : Prop := ∃ xs, RdS 2 encPv w A xs ∧ Each (IsP w) xs l
theorem IsM.below {w w' : World} {x : MV} {m : Cf.Mod} (h : IsM w x m) (hb : Below w.heap.size w w') : IsM w' x m := ⟨h.1, h.2.1, h.2.2.1, h.2.2.2.1.below hb, h.2.2.2.2.below hb⟩
theorem IsP.below {w w' : World} {x : PV} {m : Cf.Proc} (h : IsP w x m) (hb : Below w.heap.size w w') : IsP w' x m := ⟨h.1, h.2.1, h.2.2.below hb⟩
theorem Mods.below {w w' : World} {A : Option Addr} {l : List Cf.Mod} (h : Mods w A l) (hb : Below w.heap.size w w') : Mods w' A l := by
  obtain ⟨xs, h1, h2⟩ := h
  exact ⟨xs, h1.below hb, h2.mono fun _ _ h => h.below hb⟩
theorem Procs.below {w w' : World} {A : Option Addr} {l : List Cf.Proc} (h : Procs w A l) (hb : Below w.heap.size w w') : Procs w' A l := by
  obtain ⟨xs, h1, h2⟩ := h
  exact ⟨xs, h1.below hb, h2.mono fun _ _ h => h.below hb⟩
/-- The addresses and capacities of a kernel's five lists. -/
structure KA where
  A : Option Addr
  ca : Nat
  M : Option Addr
  cm : Nat
  N : Option Addr
  cn : Nat
  S : Option Addr
  cs : Nat
  Q : Option Addr
  cq : Nat
/-- A kernel's cells. -/
def kcells (a : KA) (k : Cf.Kern) : List Value := [.slice a.A k.mods.length a.ca, .slice a.M k.mem.length a.cm, .slice a.N k.nodes.length a.cn, .slice a.S k.pipes.length a.cs, .slice a.Q k.procs.length a.cq]
structure KRd (w : World) (a : KA) (k : Cf.Kern) : Prop where
  mods : Mods w a.A k.mods
  mem : Ints w a.M k.mem
  nodes : Nodes w a.N k.nodes
  pipes : Strs w a.S k.pipes
  procs : Procs w a.Q k.procs
  capA : k.mods.length ≤ a.ca
theorem KRd.below {w w' : World} {a : KA} {k : Cf.Kern} (h : KRd w a k) (hb : Below w.heap.size w w') : KRd w' a k :=
  ⟨h.mods.below hb, RdS.below h.mem hb, RdS.below h.nodes hb, RdS.below h.pipes hb, h.procs.below hb, h.capA⟩
/-- The same, all of it in memory from B on. -/
structure KNew (B : Nat) (w : World) (a : KA) (k : Cf.Kern) : Prop where
  mods : ∃ xs, (RdS 3 encMv w a.A xs ∧ Fresh B a.A xs) ∧ Each (fun x m => IsM w x m ∧ Fresh B x.A m.code ∧ Fresh B x.B m.data) xs k.mods
  mem : Ints w a.M k.mem ∧ Fresh B a.M k.mem
  nodes : Nodes w a.N k.nodes ∧ Fresh B a.N k.nodes
  pipes : Strs w a.S k.pipes ∧ Fresh B a.S k.pipes
  procs : ∃ xs, (RdS 2 encPv w a.Q xs ∧ Fresh B a.Q xs) ∧ Each (fun x p => IsP w x p ∧ Fresh B x.A p.ends) xs k.procs
  capA : k.mods.length ≤ a.ca
theorem KNew.rd {B : Nat} {w : World} {a : KA} {k : Cf.Kern} (h : KNew B w a k) : KRd w a k := by
  obtain ⟨xs, h1, h2⟩ := h.mods
  obtain ⟨ys, h3, h4⟩ := h.procs
  exact ⟨⟨xs, h1.1, h2.mono fun _ _ h => h.1⟩, h.mem.1, h.nodes.1, h.pipes.1, ⟨ys, h3.1, h4.mono fun _ _ h => h.1⟩, h.capA⟩
theorem KNew.below {B : Nat} {w w' : World} {a : KA} {k : Cf.Kern} (h : KNew B w a k) (hb : Below w.heap.size w w') : KNew B w' a k := by
  obtain ⟨xs, h1, h2⟩ := h.mods
  obtain ⟨ys, h3, h4⟩ := h.procs
  exact ⟨⟨xs, ⟨h1.1.below hb, h1.2⟩, h2.mono fun _ _ h => ⟨h.1.below hb, h.2⟩⟩, ⟨RdS.below h.mem.1 hb, h.mem.2⟩, ⟨RdS.below h.nodes.1 hb, h.nodes.2⟩, ⟨RdS.below h.pipes.1 hb, h.pipes.2⟩, ⟨ys, ⟨h3.1.below hb, h3.2⟩, h4.mono fun _ _ h => ⟨h.1.below hb, h.2⟩⟩, h.capA⟩
theorem KNew.mono {B B' : Nat} {w : World} {a : KA} {k : Cf.Kern} (h : KNew B w a k) (hB : B' ≤ B) : KNew B' w a k := by
  obtain ⟨xs, h1, h2⟩ := h.mods
  obtain ⟨ys, h3, h4⟩ := h.procs
  exact ⟨⟨xs, ⟨h1.1, h1.2.mono hB⟩, h2.mono fun _ _ h => ⟨h.1, h.2.1.mono hB, h.2.2.mono hB⟩⟩, ⟨h.mem.1, h.mem.2.mono hB⟩, ⟨h.nodes.1, h.nodes.2.mono hB⟩, ⟨h.pipes.1, h.pipes.2.mono hB⟩, ⟨ys, ⟨h3.1, h3.2.mono hB⟩, h4.mono fun _ _ h => ⟨h.1, h.2.mono hB⟩⟩, h.capA⟩
theorem KNew.set {B : Nat} {w : World} {a : KA} {k : Cf.Kern} (h : KNew B w a k) {p : Addr} (hp : p.block < B) (u : Value) : KNew B (w.setCell p u) a k := by
  obtain ⟨xs, h1, h2⟩ := h.mods
  obtain ⟨ys, h3, h4⟩ := h.procs
  exact ⟨⟨xs, ⟨rd_set h1.1 h1.2 hp u, h1.2⟩, h2.mono fun _ _ h => ⟨⟨h.1.1, h.1.2.1, h.1.2.2.1, rd_set h.1.2.2.2.1 h.2.1 hp u, rd_set h.1.2.2.2.2 h.2.2 hp u⟩, h.2⟩⟩, ⟨rd_set h.mem.1 h.mem.2 hp u, h.mem.2⟩, ⟨rd_set h.nodes.1 h.nodes.2 hp u, h.nodes.2⟩, ⟨rd_set h.pipes.1 h.pipes.2 hp u, h.pipes.2⟩,
    ⟨ys, ⟨rd_set h3.1 h3.2 hp u, h3.2⟩, h4.mono fun _ _ h => ⟨⟨h.1.1, h.1.2.1, rd_set h.1.2.2 h.2 hp u⟩, h.2⟩⟩, h.capA⟩
/-- A kernel that a call hands back. -/
def KRet (k : Cf.Kern) (w : World) (e : Ending) (w' : World) : Prop := ∃ a : KA, e = .returned (.agg (kcells a k).toArray) ∧ KNew w.heap.size w' a k ∧ Below w.heap.size w w'
/-- What a kernel's lists measure at most. -/
def big : Nat := 140737488355328
structure KFit (k : Cf.Kern) : Prop where
  mods : k.mods.length ≤ big
  each : ∀ m ∈ k.mods, m.name.length ≤ big ∧ m.code.length ≤ big ∧ m.data.length ≤ big
  mem : k.mem.length ≤ big
  nodes : k.nodes.length ≤ big
  node : ∀ n ∈ k.nodes, n.name.length ≤ big ∧ n.data.length ≤ big
  pipes : k.pipes.length ≤ big
  pipe : ∀ s ∈ k.pipes, s.length ≤ big
  procs : k.procs.length ≤ big
  proc : ∀ p ∈ k.procs, p.ends.length ≤ big
  wt : (k.mods.length * 64 ≤ big ∧ k.mem.length * 8 ≤ big ∧ k.nodes.length * 48 ≤ big ∧ k.pipes.length * 16 ≤ big ∧ k.procs.length * 32 ≤ big) ∧ (∀ m ∈ k.mods, m.code.length * 32 ≤ big ∧ m.data.length * 8 ≤ big) ∧ ∀ p ∈ k.procs, p.ends.length * 24 ≤ big
abbrev tKern : TypeId := 28
/-- A kernel at a pointer. -/
def KPtr (w : World) (g : Nat) (a : KA) (k : Cf.Kern) : Prop := Wb w g tKern (kcells a k) ∧ KRd w a k
theorem KPtr.below {w w' : World} {g : Nat} {a : KA} {k : Cf.Kern} (h : KPtr w g a k) (hb : Below w.heap.size w w') : KPtr w' g a k := ⟨h.1.below hb h.1.lt, h.2.below hb⟩
theorem KPtr.c0 {w : World} {g : Nat} {a : KA} {k : Cf.Kern} (h : KPtr w g a k) : w.cell? ⟨g, 0, none⟩ = some (.slice a.A k.mods.length a.ca) := h.1.cell 0
theorem KPtr.c1 {w : World} {g : Nat} {a : KA} {k : Cf.Kern} (h : KPtr w g a k) : w.cell? ⟨g, 1, none⟩ = some (.slice a.M k.mem.length a.cm) := h.1.cell 1
theorem KPtr.c2 {w : World} {g : Nat} {a : KA} {k : Cf.Kern} (h : KPtr w g a k) : w.cell? ⟨g, 2, none⟩ = some (.slice a.N k.nodes.length a.cn) := h.1.cell 2
theorem KPtr.c3 {w : World} {g : Nat} {a : KA} {k : Cf.Kern} (h : KPtr w g a k) : w.cell? ⟨g, 3, none⟩ = some (.slice a.S k.pipes.length a.cs) := h.1.cell 3
theorem KPtr.c4 {w : World} {g : Nat} {a : KA} {k : Cf.Kern} (h : KPtr w g a k) : w.cell? ⟨g, 4, none⟩ = some (.slice a.Q k.procs.length a.cq) := h.1.cell 4
end Go.Proofs.YtnnhhbjbdmgpiaaDoor
