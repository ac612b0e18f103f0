/- Two rules of lists, each of several parts, that the texts name by one word. -/
import Derived.Lib.Hide
namespace Go.Proofs.YtnnhhbjbdmgpiaaGreatDoor
universe u
theorem gq {α : Type u} : (∀ (a : α) (l : List α), (a :: l)[0]? = some a) ∧ ∀ (a : α) (l : List α) (i : Nat), (a :: l)[i + 1]? = l[i]? :=
  ⟨fun _ _ => List.getElem?_cons_zero, fun _ _ _ => List.getElem?_cons_succ⟩
theorem sq {α : Type u} : (∀ (l : List α) (i : Nat) (a : α), l.toArray.setIfInBounds i a = (l.set i a).toArray) ∧ (∀ (l : List α) (x a : α), (x :: l).set 0 a = a :: l) ∧ ∀ (l : List α) (x a : α) (i : Nat), (x :: l).set (i + 1) a = x :: l.set i a :=
  ⟨fun _ _ _ => List.setIfInBounds_toArray .., fun _ _ _ => List.set_cons_zero, fun _ _ _ _ => List.set_cons_succ⟩
end Go.Proofs.YtnnhhbjbdmgpiaaGreatDoor
