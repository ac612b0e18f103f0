/- Texts of the proof of TopApart: StoreK. -/
import Derived.Deep.MidRow
import Derived.Test.YtnnhhbjbdmgpiaaGreatDoorJ08
/- A block that is known whole, stored into whole. Of any program. -/
namespace Go.Proofs.YtnnhhbjbdmgpiaaGreatDoor
set_option maxRecDepth 100000
open Go.RowKit

theorem below_setCells {B : Nat} {a : World} {b : Nat} (hb : B ≤ b) : ∀ (vs : List Value) (o : Nat) (w : World), Below B a w → Below B a (w.setCells b o vs)
  | [], _, _, h => h
  | v :: vs, o, w, h => below_setCells hb vs (o + 1) (w.setCell ⟨b, o, none⟩ v) (h.setCell (p := ⟨b, o, none⟩) hb v)
theorem Wb.there {w : World} {g : Nat} {t : TypeId} {cs : List Value} (h : Wb w g t cs) : w.there g 0 cs.length := by
  intro j hj
  rw [Nat.zero_add]
  exact ⟨by rw [h.cell, List.getElem?_eq_getElem hj]; rfl, h.open_ j⟩
end Go.Proofs.YtnnhhbjbdmgpiaaGreatDoor
