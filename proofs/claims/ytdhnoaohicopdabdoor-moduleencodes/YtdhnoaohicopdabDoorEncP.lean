/- Plain mathematics of chapter 4: an encoding, a piece at a time; and as cells. -/
import Derived.Test.YtdhnoaohicopdabDoorBytW
namespace Go.Proofs.YtdhnoaohicopdabDoor.Cf

def encT (m : Mod) : List UInt8 := if modT m = 0 then encL m else []
/-- What lies ahead of the instructions. -/
def headC (n : List UInt8) (k : Nat) : List UInt8 := [UInt8.ofNat n.length] ++ n ++ [UInt8.ofNat k]
def bodyC (n : List UInt8) (l : List Ins) (k : Nat) : List UInt8 := headC n l.length ++ (l.take k).flatMap encIns
def bodyD (n : List UInt8) (l : List Ins) (d : List Int) (k : Nat) : List UInt8 := headC n l.length ++ l.flatMap encIns ++ [UInt8.ofNat d.length] ++ (d.take k).flatMap encW
theorem bodyD_all (n : List UInt8) (l : List Ins) (d : List Int) (k : Nat) (hk : d.length ≤ k) : bodyD n l d k = bodyL ⟨n, l, d⟩ := by
  unfold bodyD bodyL headC
  rw [List.take_of_length_le hk]
  simp
theorem bodyC_next (n : List UInt8) (l : List Ins) (k : Nat) (x : Ins) (h : l[k]? = some x) : bodyC n l (k + 1) = bodyC n l k ++ [UInt8.ofNat x.op.toNat, UInt8.ofNat (16 * x.a.toNat + x.b.toNat)] ++ encW x.c := by
  unfold bodyC
  rw [take_next l k x h, List.flatMap_append, List.flatMap_cons, List.flatMap_nil, List.append_nil]
  simp [encIns, encW]
theorem bodyC_next4 (n : List UInt8) (l : List Ins) (k : Nat) (x : Ins) (h : l[k]? = some x) : bodyC n l (k + 1) = bodyC n l k ++ encIns x := by
  unfold bodyC
  rw [take_next l k x h, List.flatMap_append, List.flatMap_cons, List.flatMap_nil, List.append_nil, List.append_assoc]
theorem bodyD_next (n : List UInt8) (l : List Ins) (d : List Int) (k : Nat) (v : Int) (h : d[k]? = some v) : bodyD n l d (k + 1) = bodyD n l d k ++ encW v := by
  unfold bodyD
  rw [take_next d k v h, List.flatMap_append, List.flatMap_cons, List.flatMap_nil, List.append_nil, ← List.append_assoc]
theorem headC_len (n : List UInt8) (k : Nat) : (headC n k).length = n.length + 2 := by
  simp [headC]
theorem bodyC_len (n : List UInt8) (l : List Ins) (k : Nat) : (bodyC n l k).length ≤ n.length + 2 + 4 * l.length := by
  unfold bodyC
  rw [List.length_append, headC_len, encIns_len, List.length_take]
  omega
theorem bodyD_len (n : List UInt8) (l : List Ins) (d : List Int) (k : Nat) : (bodyD n l d k).length ≤ n.length + 3 + 4 * l.length + 2 * d.length := by
  unfold bodyD
  simp only [List.length_append, headC_len, encIns_len, encW_len, List.length_take, List.length_cons, List.length_nil]
  omega
theorem good_parts {n : List UInt8} {l : List Ins} {d : List Int} (h : modT ⟨n, l, d⟩ = 0) : n.length ≤ 6 ∧ l.length ≤ 200 ∧ d.length ≤ 64 ∧ (∀ (k : Nat) (x : Ins), l[k]? = some x → chk x = 0) ∧ (∀ (k : Nat) (v : Int), d[k]? = some v → 0 ≤ v ∧ v ≤ 65535) := by
  obtain ⟨hn, hd, hw, hs⟩ := mod_parts h
  dsimp only at hn hd hw hs
  have hf := safe_fault hs
  have hz : faultIn l = 0 ∧ l.length ≤ 200 := by
    unfold fault at hf
    split at hf
    · cases hf
    · exact ⟨hf, by omega⟩
  exact ⟨hn.2, hz.2, hd, fun k x hx => faultIn_mem l hz.1 k x hx, fun k v hv => hw v (List.mem_of_getElem? hv)⟩
end Go.Proofs.YtdhnoaohicopdabDoor.Cf
namespace Go.Proofs.YtdhnoaohicopdabDoor
open Go.RowKit

theorem byts_new_at (w : World) (g : Nat) (hg : w.heap.size = g) (t : TypeId) (vs : Array Value) (l : List UInt8) (h : vs.toList = l.flatMap encB) : Byts (w.alloc (.cells vs t)) (some ⟨g, 0, none⟩) l := hg ▸ byts_new w t vs l h
theorem one_cells (k : Nat) (hk : k ≤ 255) : [Value.int .u8 (k : Int)] = [UInt8.ofNat k].flatMap encB := by
  simp only [List.flatMap_cons, List.flatMap_nil, encB, List.cons_append, List.nil_append]
  rw [Cf.toNat_of _ (by omega)]
theorem two_cells (o a b : Int) (h0 : 0 ≤ o) (h1 : o ≤ 255) (ha : 0 ≤ a) (ha' : a ≤ 7) (hb : 0 ≤ b) (hb' : b ≤ 7) : [Value.int .u8 o, Value.int .u8 (16 * a + b)] = [UInt8.ofNat o.toNat, UInt8.ofNat (16 * a.toNat + b.toNat)].flatMap encB := by
  simp only [List.flatMap_cons, List.flatMap_nil, encB, List.cons_append, List.nil_append]
  rw [Cf.toNat_of _ (by omega), Cf.toNat_of _ (by omega)]
  simp
  omega
theorem four_cells (o a b : Int) (c : Nat) (h0 : 0 ≤ o) (h1 : o ≤ 255) (ha : 0 ≤ a) (ha' : a ≤ 7) (hb : 0 ≤ b) (hb' : b ≤ 7) (hc : c ≤ 65535) : [Value.int .u8 o, Value.int .u8 (16 * a + b), Value.int .u8 ((c : Int) / 256), Value.int .u8 ((c : Int) % 256)] = (Cf.encIns ⟨o, a, b, c⟩).flatMap encB := by
  have h2 := two_cells o a b h0 h1 ha ha' hb hb'
  have h3 := word_cells c hc
  have : Cf.encIns ⟨o, a, b, c⟩ = [UInt8.ofNat o.toNat, UInt8.ofNat (16 * a.toNat + b.toNat)] ++ Cf.encW c := rfl
  rw [this, List.flatMap_append, ← h2, ← h3]
  rfl
theorem str_cells (n : List UInt8) : Lib.strCells ⟨n.toArray⟩ = n.flatMap encB := by
  unfold Lib.strCells
  induction n with
  | nil => rfl
  | cons b n ih => simpa [encB] using ih
end Go.Proofs.YtdhnoaohicopdabDoor
