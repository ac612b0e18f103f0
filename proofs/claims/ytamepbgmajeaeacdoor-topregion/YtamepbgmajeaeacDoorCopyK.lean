/- Numbers copied from one row into another. Of any program. -/
import Derived.Test.YtamepbgmajeaeacDoorMachW
import Derived.Laws.IdiomCopy
namespace Go.Proofs.YtamepbgmajeaeacDoor
open Go.RowKit

theorem Row.over {base g n cap : Nat} : ∀ (vs : List Int) (o : Nat) (w : World) (m : List Int), Row w base (.slice (some ⟨g, 0, none⟩) n cap) m → o + vs.length ≤ m.length →
    Row (w.setCells g o (vs.map (Value.int .i64))) base (.slice (some ⟨g, 0, none⟩) n cap) (m.take o ++ (vs ++ m.drop (o + vs.length)))
  | [], o, w, m, h, _ => by simpa [World.setCells] using h
  | v :: vs, o, w, m, h, hl => by
    simp only [List.length_cons] at hl
    have h1 := Row.over vs (o + 1) (w.setCell ⟨g, o, none⟩ (.int .i64 v)) (m.set o v) (h.set v) (by simp; omega)
    have e : (m.set o v).take (o + 1) ++ (vs ++ (m.set o v).drop (o + 1 + vs.length)) = m.take o ++ (v :: vs ++ m.drop (o + (v :: vs).length)) := by
      have ho : o < m.length := by omega
      rw [List.take_add_one, List.getElem?_set_self ho, List.take_set_of_le (Nat.le_refl o), List.drop_set_of_lt (by omega), show o + 1 + vs.length = o + (vs.length + 1) by omega]
      simp
    rw [e] at h1
    exact h1
theorem wp_copy {P : Program} {w : World} {o : Oper} {a : Act} {K : Act → World → Prop} {Q : Exit → Act → World → Prop} (d s : Operand) (t elem : TypeId) (ho : o.op = .call { callee := .builtin .copy, args := #[d, s], argTypes := #[t, t] })
    (b off dLen dCap : Nat) (ad : Addr) (sLen sCap : Nat) (cs : List Value) (hd : a.eval d = .slice (some ⟨b, off, none⟩) dLen dCap) (hs : a.eval s = .slice (some ad) sLen sCap)
    (hu : P.underlying t = some (.slice elem)) (hz : (P.info? elem).map (·.size) = some 1) (hn : cs.length = Nat.min sLen dLen)
    (hsrc : ∀ j v, cs[j]? = some v → w.cell? (ad.add j) = some v) (hc : ∀ j, j < cs.length → (w.cell? ⟨b, off + j, none⟩).isSome = true) (hf : ∀ j, j < cs.length → w.frozen? ⟨b, off + j, none⟩ = false) (h1 : ∀ v ∈ cs, v.oneCell' = true)
    (h : K (a.put o.dst (goInt cs.length)) (w.setCells b off cs)) : o.wp P a w K Q := by
  have hrun := run_copy_cells (P := P) w t t o.type elem b off dLen dCap ad sLen sCap cs hu hz hn hsrc hc hf h1
  unfold Oper.wp
  simp [execOp, ho, resolve, invoke, builtin, hd, hs, hrun, Result.andThen]
  exact h
end Go.Proofs.YtamepbgmajeaeacDoor
