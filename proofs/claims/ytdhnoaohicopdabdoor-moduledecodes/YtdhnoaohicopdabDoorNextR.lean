/- Walks of chapter 4: the reference's closure that reads a byte; the state that it works on, as it lies in memory. -/
import Derived.Test.YtdhnoaohicopdabDoorModS
import Derived.Test.YtdhnoaohicopdabDoorStrK
import Derived.Test.YtdhnoaohicopdabDoorMachW
import Derived.Test.YtdhnoaohicopdabDoorFreshK
namespace Go.Proofs.YtdhnoaohicopdabDoor
open Go.RowKit

/-- The closure's variables: the place, the text, and whether it was too short. -/
structure NS (w : World) (gi gt gs : Nat) (t : List UInt8) (pos : Nat) (sh : Bool) : Prop where
  i : Wb w gi 3 [.int .i64 (pos : Int)]
  t : Wb w gt 9 [.string ⟨t.toArray⟩]
  s : Wb w gs 4 [.bool sh]
/-- Nothing but two blocks has turned. -/
structure Chg (w w' : World) (gi gs : Nat) : Prop where
  os : w'.os = w.os
  tape : w'.tape = w.tape
  output : w'.output = w.output
  size : w'.heap.size = w.heap.size
  block : ∀ k, k ≠ gi → k ≠ gs → w'.heap[k]? = w.heap[k]?
theorem Chg.wb {w w' : World} {gi gs g : Nat} {ty : TypeId} {cs : List Value} (h : Chg w w' gi gs) (hb : Wb w g ty cs) (h1 : g ≠ gi) (h2 : g ≠ gs) : Wb w' g ty cs := (h.block g h1 h2).trans hb
theorem Chg.own {w w' : World} {gi gs base n size : Nat} {e : TypeId} {v : Value} {xs : List Value} (h : Chg w w' gi gs) (ho : w.ownsRow base e size v n xs) (h1 : gi < base) (h2 : gs < base) : w'.ownsRow base e size v n xs := by
  refine ⟨ho.1, ?_⟩
  rcases ho.2 with h3 | ⟨g, cap, cur, hv, hb, hh, r⟩
  · exact .inl h3
  · exact .inr ⟨g, cap, cur, hv, hb, (h.block g (by omega) (by omega)).trans hh, r⟩
theorem Chg.below {w w' W : World} {gi gs B : Nat} (h : Chg w w' gi gs) (hb : Below B W w) (h1 : B ≤ gi) (h2 : B ≤ gs) : Below B W w' :=
  ⟨h.os.trans hb.os, h.tape.trans hb.tape, h.output.trans hb.output, by rw [h.size]; exact hb.size, fun k hk => (h.block k (by omega) (by omega)).trans (hb.block k hk)⟩
theorem chg_i (w : World) (gi gs : Nat) (v : Value) : Chg w (w.setCell ⟨gi, 0, none⟩ v) gi gs :=
  ⟨rfl, rfl, rfl, by simp [World.setCell], fun k h1 _ => Below.heap_setCell w ⟨gi, 0, none⟩ v k h1⟩
theorem chg_s (w : World) (gi gs : Nat) (v : Value) : Chg w (w.setCell ⟨gs, 0, none⟩ v) gi gs :=
  ⟨rfl, rfl, rfl, by simp [World.setCell], fun k _ h2 => Below.heap_setCell w ⟨gs, 0, none⟩ v k h2⟩
theorem intNeStr : (3 : TypeId) ≠ 9 := by decide
theorem intNeBool : (3 : TypeId) ≠ 4 := by decide
theorem strNeBool : (9 : TypeId) ≠ 4 := by decide
def NextPost (gi gt gs : Nat) (t : List UInt8) (pos : Nat) (sh : Bool) (w : World) (e : Ending) (w' : World) : Prop :=
  e = .returned (.int .i64 ((Cf.numR 1 ⟨t.drop pos, sh⟩).got : Int)) ∧ Chg w w' gi gs ∧ ∃ pos' sh', pos' ≤ t.length ∧ NS w' gi gt gs t pos' sh' ∧ (⟨t.drop pos', sh'⟩ : Cf.Rdr) = (Cf.numR 1 ⟨t.drop pos, sh⟩).rdr
set_option maxHeartbeats 1000000 in
theorem next_any (gi gt gs : Nat) (t : List UInt8) (pos : Nat) (sh : Bool) (w : World) (h : NS w gi gt gs t pos sh) (hp : pos ≤ t.length) (hl : t.length ≤ 100000) :
    Calls Tryd.prog 44 #[.pointer (some ⟨gi, 0, none⟩), .pointer (some ⟨gt, 0, none⟩), .pointer (some ⟨gs, 0, none⟩)] w (NextPost gi gt gs t pos sh w) := by
  have c0 := h.i.cell 0
  have c1 := h.t.cell 0
  have c2 := h.s.cell 0
  have f0 := h.i.open_ 0
  have f2 := h.s.open_ 0
  simp only [List.getElem?_cons_zero] at c0 c1 c2
  have n1 := h.i.other h.t intNeStr
  have n2 := h.i.other h.s intNeBool
  have n3 := h.t.other h.s strNeBool
  have n1' := Ne.symm n1
  have H := Lib.hid h
  clear h
  by_cases hlt : pos < t.length
  · obtain ⟨c, hc⟩ : ∃ c, t[pos]? = some c := ⟨_, List.getElem?_eq_getElem hlt⟩
    have hix := str_index t pos c hc
    have HD := Lib.hid (show t.drop pos = c :: t.drop (pos + 1) by
      rw [List.drop_eq_getElem_cons hlt]
      congr 1
      exact (List.getElem?_eq_some_iff.1 hc).2)
    have hc1 := c.toNat_lt
    clear hc
    go_enter Tryd.func44, Tryd.ntmps44
    go_wp2
    go_ret
    unfold NextPost
    rw [HD.out, Cf.num1_cons]
    refine ⟨rfl, chg_i w gi gs _, pos + 1, sh, by omega, ⟨?_, ?_, ?_⟩, rfl⟩
    · have := H.out.i.put 0 (.int .i64 ((pos : Int) + 1))
      simpa using this
    · exact H.out.t.off_ (p := ⟨gi, 0, none⟩) (Ne.symm n1) _
    · exact H.out.s.off_ (p := ⟨gi, 0, none⟩) (Ne.symm n2) _
  · have HD := Lib.hid (show t.drop pos = [] from List.drop_of_length_le (by omega))
    have hge : (t.length : Int) ≤ (pos : Int) := by omega
    go_enter Tryd.func44, Tryd.ntmps44
    go_wp2
    go_ret
    unfold NextPost
    rw [HD.out, Cf.num1_nil]
    refine ⟨rfl, chg_s w gi gs _, pos, true, hp, ⟨?_, ?_, ?_⟩, by rw [HD.out]; rfl⟩
    · exact H.out.i.off_ (p := ⟨gs, 0, none⟩) n2 _
    · exact H.out.t.off_ (p := ⟨gs, 0, none⟩) n3 _
    · exact H.out.s.put 0 (.bool true)
end Go.Proofs.YtdhnoaohicopdabDoor
