/- Slices that read as lists; tables. Of any program. -/
import Derived.Test.YtnnhhbjbdmgpiaaDoorRows
import Derived.Test.YtnnhhbjbdmgpiaaDoorCf
import Derived.WalkKit
import Derived.WalkSpells
import Derived.WalkLawsBesides
import Derived.Outline
import Derived.Deep.RegionHeld3
import Derived.Deep.QuietTactic
import Derived.BigQuiet
import Derived.RowKit3
import Derived.Lib.Hide
namespace Go.Proofs.YtnnhhbjbdmgpiaaDoor
set_option maxRecDepth 100000
open Go.RowKit

/-- A package-level table: block g holds these values. -/
def Tab (g : Nat) (vs : List Value) (w : World) : Prop := g < w.heap.size ∧ ∀ (j : Nat) (v : Value), vs[j]? = some v → w.cell? ⟨g, j, none⟩ = some v
theorem Tab.below {g : Nat} {vs : List Value} {w w' : World} (h : Tab g vs w) (hb : Below w.heap.size w w') : Tab g vs w' :=
  ⟨Nat.lt_of_lt_of_le h.1 hb.size, fun j v hv => (hb.cell (p := ⟨g, j, none⟩) h.1).trans (h.2 j v hv)⟩
def insV (x : Cf.Ins) : Value := .agg #[.int .i64 x.op, .int .i64 x.a, .int .i64 x.b, .int .i64 x.c]
theorem bcell {W w1 : World} (hb : Below W.heap.size W w1) : (∀ b o, b < W.heap.size → w1.cell? ⟨b, o, none⟩ = W.cell? ⟨b, o, none⟩) ∧ (∀ b o, b < W.heap.size → w1.frozen? ⟨b, o, none⟩ = W.frozen? ⟨b, o, none⟩) :=
  ⟨fun b o h => hb.cell (p := ⟨b, o, none⟩) h, fun b o h => hb.frozen (p := ⟨b, o, none⟩) h⟩
/-- A slice that reads as a list: each element is so many cells. -/
def RdS {α : Type} (sz : Nat) (enc : α → List Value) (w : World) (A : Option Addr) (l : List α) : Prop :=
  l = [] ∨ ∃ b off, A = some ⟨b, off, none⟩ ∧ b < w.heap.size ∧ ∀ (k : Nat) (x : α), l[k]? = some x → ∀ (j : Nat) (v : Value), (enc x)[j]? = some v → w.cell? ⟨b, off + k * sz + j, none⟩ = some v
theorem RdS.below {α : Type} {sz : Nat} {enc : α → List Value} {w w' : World} {A : Option Addr} {l : List α} (h : RdS sz enc w A l) (hb : Below w.heap.size w w') : RdS sz enc w' A l := by
  rcases h with h | ⟨b, off, hA, hlt, hc⟩
  · exact .inl h
  · exact .inr ⟨b, off, hA, Nat.lt_of_lt_of_le hlt hb.size, fun k x hx j v hv => (hb.cell (p := ⟨b, off + k * sz + j, none⟩) hlt).trans (hc k x hx j v hv)⟩
def encI (x : Cf.Ins) : List Value := [.int .i64 x.op, .int .i64 x.a, .int .i64 x.b, .int .i64 x.c]
def Codes (w : World) (A : Option Addr) (l : List Cf.Ins) : Prop := RdS 4 encI w A l
theorem Codes.below {w w' : World} {A : Option Addr} {l : List Cf.Ins} (h : Codes w A l) (hb : Below w.heap.size w w') : Codes w' A l := RdS.below h hb
end Go.Proofs.YtnnhhbjbdmgpiaaDoor
