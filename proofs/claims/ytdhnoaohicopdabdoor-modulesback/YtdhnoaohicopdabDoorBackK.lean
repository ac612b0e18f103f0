/- Memory and mathematics behind the law ModulesBack: bytes of a string that are written to. -/
import Derived.Test.YtdhnoaohicopdabDoorRdrW
import Derived.Test.YtdhnoaohicopdabDoorEncP
import Derived.Test.YtdhnoaohicopdabDoorMadeP
namespace Go.Proofs.YtdhnoaohicopdabDoor
open Go.RowKit

/-- A row of bytes that may be written to. -/
def Open (w : World) (g n : Nat) : Prop := g < w.heap.size ∧ ∀ j, j < n → w.frozen? ⟨g, j, none⟩ = false
theorem bytes_open (s : List UInt8) (w : World) : ∃ cap w', (convert 9 49 (.string ⟨s.toArray⟩)).run Tryd.prog w = .ok (.slice (some ⟨w.heap.size, 0, none⟩) s.length cap) w' ∧ (∀ (k : Nat) (c : UInt8), s[k]? = some c → w'.cell? ⟨w.heap.size, k, none⟩ = some (.int .u8 (c.toNat : Int))) ∧ Open w' w.heap.size s.length ∧ Below w.heap.size w w' := by
  have hs : (⟨s.toArray⟩ : ByteArray).size = s.length := by simp [ByteArray.size]
  have h := run_bytes_of_string (P := Tryd.prog) w 9 49 5 ⟨s.toArray⟩ Tryd.underlying9 Tryd.underlying49 Tryd.underlying5
  rw [hs] at h
  have hnew : (w.drew.alloc (.cells (bytesRow ⟨s.toArray⟩ (grownCap w s.length 0 5)) 5 ((bytesRow ⟨s.toArray⟩ (grownCap w s.length 0 5)).size, (bytesRow ⟨s.toArray⟩ (grownCap w s.length 0 5)).size + 1))).heap[w.heap.size]? = _ := heap_alloc_new w.drew _
  have hsz : s.length ≤ (bytesRow ⟨s.toArray⟩ (grownCap w s.length 0 5)).size := by
    simp [bytesRow]
  refine ⟨_, _, h, fun k c hc => ?_, ⟨by simp, fun j hj => ?_⟩, (Below.refl _ _).drew.alloc (Nat.le_refl _) _⟩
  · obtain ⟨hk, rfl⟩ := List.getElem?_eq_some_iff.1 hc
    have h1 := World.cell?_alloc_mark w.drew (bytesRow ⟨s.toArray⟩ (grownCap w s.length 0 5)) 5 ((bytesRow ⟨s.toArray⟩ (grownCap w s.length 0 5)).size, (bytesRow ⟨s.toArray⟩ (grownCap w s.length 0 5)).size + 1) k
    rw [bytesRow_at ⟨s.toArray⟩ _ k (by simpa using hk)] at h1
    simpa using h1
  · simp only [World.frozen?, hnew]
    simp
    omega
theorem byts_set {w : World} {g : Nat} {s : List UInt8} (hg : g < w.heap.size) (h : ∀ (k : Nat) (c : UInt8), s[k]? = some c → w.cell? ⟨g, k, none⟩ = some (.int .u8 (c.toNat : Int))) (k : Nat) (v : UInt8) :
    Byts (w.setCell ⟨g, k, none⟩ (.int .u8 (v.toNat : Int))) (some ⟨g, 0, none⟩) (s.set k v) := by
  refine .inr ⟨g, 0, rfl, by rw [show (w.setCell ⟨g, k, none⟩ (.int .u8 (v.toNat : Int))).heap.size = w.heap.size by simp [World.setCell]]; exact hg, fun j c hc i u hu => ?_⟩
  cases i with
  | succ i => simp [encB] at hu
  | zero =>
    simp [encB] at hu
    subst hu
    rw [show 0 + j * 1 + 0 = j by omega]
    rw [List.getElem?_set] at hc
    split at hc
    · rename_i hjk
      subst hjk
      split at hc
      · simp at hc
        subst hc
        have h0 := h k (s[k]'(by assumption)) (List.getElem?_eq_getElem _)
        exact World.cell?_setCell_same' w _ _ (by rw [h0]; rfl)
      · cases hc
    · rename_i hjk
      have h0 := h j c hc
      rw [World.cell?_setCell_other]
      · exact h0
      · intro e; injection e with _ e2; exact hjk e2
/-- The module of the law. -/
def modName : List UInt8 := [109, 111, 100]
theorem mod_good {c : List Cf.Ins} {d : List Int} (hc : Cf.safeT c = 0) (hd : d.length ≤ 64) (hw : ∀ v ∈ d, 0 ≤ v ∧ v ≤ 65535) : Cf.modT ⟨modName, c, d⟩ = 0 := by
  unfold Cf.modT
  rw [if_pos (show Cf.nameB modName = true by decide), if_pos hd, if_pos ?_]
  · exact hc
  · rw [List.all_eq_true]
    intro v hv
    have := hw v hv
    simp [Cf.wordB, Cf.inB, this]
/-- A byte that another one was added to. -/
theorem add_byte (u b : UInt8) : IntKind.u8.wrap ((u.toNat : Int) + (b.toNat : Int)) = ((u + b).toNat : Int) := by
  rw [IntKind.wrap_u8, UInt8.toNat_add]
  omega
theorem add_ne (u b : UInt8) (h : b ≠ 0) : u + b ≠ u := by
  intro he
  have := congrArg UInt8.toNat he
  rw [UInt8.toNat_add] at this
  have h1 := u.toNat_lt
  have h2 := b.toNat_lt
  have h3 : b.toNat ≠ 0 := fun e => h (UInt8.toNat_inj.1 (by simpa using e))
  omega
end Go.Proofs.YtdhnoaohicopdabDoor
