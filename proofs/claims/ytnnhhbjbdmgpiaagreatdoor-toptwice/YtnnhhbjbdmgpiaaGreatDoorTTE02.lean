/- Texts of the proof of TopTwice: EncP, EncK. -/
import Derived.Test.YtnnhhbjbdmgpiaaGreatDoorJ11
import Derived.Test.YtnnhhbjbdmgpiaaGreatDoorJ13
set_option linter.unusedSimpArgs false
set_option linter.unusedVariables false
/- Plain mathematics of chapter 4: an encoding, a piece at a time; and as cells. -/
namespace Go.Proofs.YtnnhhbjbdmgpiaaGreatDoor.Cf
set_option maxRecDepth 100000
def encT (m : Mod) : List UInt8 := if modT m = 0 then encL m else []
def headC (n : List UInt8) (k : Nat) : List UInt8 := [UInt8.ofNat n.length] ++ n ++ [UInt8.ofNat k]
def bodyC (n : List UInt8) (l : List Ins) (k : Nat) : List UInt8 := headC n l.length ++ (l.take k).flatMap encIns
def bodyD (n : List UInt8) (l : List Ins) (d : List Int) (k : Nat) : List UInt8 := headC n l.length ++ l.flatMap encIns ++ [UInt8.ofNat d.length] ++ (d.take k).flatMap encW
theorem bodyD_all (n : List UInt8) (l : List Ins) (d : List Int) (k : Nat) (hk : d.length ≤ k) : bodyD n l d k = bodyL ⟨n, l, d⟩ := by
 unfold bodyD bodyL headC
 rw [List.take_of_length_le hk]
 simp
theorem bodyC_next (n : List UInt8) (l : List Ins) (k : Nat) (x : Ins) (h : l[k]? = some x) : bodyC n l (k + 1) = bodyC n l k ++ [UInt8.ofNat x.op.toNat, UInt8.ofNat (16 * x.a.toNat + x.b.toNat)] ++ encW x.c := by
 unfold bodyC
 rw [take_next l k x h, List.flatMap_append, List.flatMap_cons, List.flatMap_nil, List.append_nil]
 simp [encIns, encW]
theorem bodyD_next (n : List UInt8) (l : List Ins) (d : List Int) (k : Nat) (v : Int) (h : d[k]? = some v) : bodyD n l d (k + 1) = bodyD n l d k ++ encW v := by
 unfold bodyD
 rw [take_next d k v h, List.flatMap_append, List.flatMap_cons, List.flatMap_nil, List.append_nil, ← List.append_assoc]
theorem headC_len (n : List UInt8) (k : Nat) : (headC n k).length = n.length + 2 := by
 simp [headC]
theorem bodyC_len (n : List UInt8) (l : List Ins) (k : Nat) : (bodyC n l k).length ≤ n.length + 2 + 4 * l.length := by
 unfold bodyC
 rw [List.length_append, headC_len, encIns_len, List.length_take]
 omega
theorem bodyD_len (n : List UInt8) (l : List Ins) (d : List Int) (k : Nat) : (bodyD n l d k).length ≤ n.length + 3 + 4 * l.length + 2 * d.length := by
 unfold bodyD
 simp only [List.length_append, headC_len, encIns_len, encW_len, List.length_take, List.length_cons, List.length_nil]
 omega
theorem good_parts {n : List UInt8} {l : List Ins} {d : List Int} (h : modT ⟨n, l, d⟩ = 0) : n.length ≤ 6 ∧ l.length ≤ 200 ∧ d.length ≤ 64 ∧ (∀ (k : Nat) (x : Ins), l[k]? = some x → chk x = 0) ∧ (∀ (k : Nat) (v : Int), d[k]? = some v → 0 ≤ v ∧ v ≤ 65535) := by
 obtain ⟨hn, hd, hw, hs⟩ := mod_parts h
 dsimp only at hn hd hw hs
 have hf := safe_fault hs
 have hz : faultIn l = 0 ∧ l.length ≤ 200 := by
  unfold fault at hf
  split at hf
  ·cases hf
  ·exact ⟨hf, by omega⟩
 exact ⟨hn.2, hz.2, hd, fun k x hx => faultIn_mem l hz.1 k x hx, fun k v hv => hw v (List.mem_of_getElem? hv)⟩
end Go.Proofs.YtnnhhbjbdmgpiaaGreatDoor.Cf
namespace Go.Proofs.YtnnhhbjbdmgpiaaGreatDoor
open Go.RowKit
theorem byts_new_at (w : World) (g : Nat) (hg : w.heap.size = g) (t : TypeId) (vs : Array Value) (l : List UInt8) (h : vs.toList = l.flatMap encB) : Byts (w.alloc (.cells vs t)) (some ⟨g, 0, none⟩) l := hg ▸ byts_new w t vs l h
theorem one_cells (k : Nat) (hk : k ≤ 255) : [Value.int .u8 (k : Int)] = [UInt8.ofNat k].flatMap encB := by
 simp only [List.flatMap_cons, List.flatMap_nil, encB, List.cons_append, List.nil_append]
 rw [Cf.toNat_of _ (by omega)]
theorem two_cells (o a b : Int) (h0 : 0 ≤ o) (h1 : o ≤ 255) (ha : 0 ≤ a) (ha' : a ≤ 7) (hb : 0 ≤ b) (hb' : b ≤ 7) : [Value.int .u8 o, Value.int .u8 (16 * a + b)] = [UInt8.ofNat o.toNat, UInt8.ofNat (16 * a.toNat + b.toNat)].flatMap encB := by
 simp only [List.flatMap_cons, List.flatMap_nil, encB, List.cons_append, List.nil_append]
 rw [Cf.toNat_of _ (by omega), Cf.toNat_of _ (by omega)]
 simp
 omega
theorem str_cells (n : List UInt8) : Lib.strCells ⟨n.toArray⟩ = n.flatMap encB := by
 unfold Lib.strCells
 induction n with
 | nil => rfl
 | cons b n ih => simpa [encB] using ih
end Go.Proofs.YtnnhhbjbdmgpiaaGreatDoor
/- Rows of bytes that grow beside a module that lies boxed. -/
namespace Go.Proofs.YtnnhhbjbdmgpiaaGreatDoor
set_option maxRecDepth 100000
open Go.RowKit
theorem modNeByte : (5 : TypeId) ≠ 79 := by decide
theorem brow_of {w' : World} {base k : Nat} {v' : Value} {xs : List Value} {l : List UInt8} (h : w'.ownsRow base 5 1 v' k xs) (hk : k = l.length) (hx : xs = l.flatMap encB) : BRow w' base v' l := by
 subst hk
 subst hx
 exact h
def EncRel (w : World) (vs : List Value) (b : Value) (bytes : List UInt8) (wr : World) : Prop := BRow wr w.heap.size b bytes ∧ Below w.heap.size w wr ∧ Wb wr w.heap.size 79 vs
theorem EncRel.alloc {w : World} {vs : List Value} {b : Value} {bytes : List UInt8} {wr : World} (h : EncRel w vs b bytes wr) (o : Obj) : EncRel w vs b bytes (wr.alloc o) :=
 ⟨h.1.alloc o, h.2.1.alloc h.2.1.size o, h.2.2.alloc o⟩
theorem EncRel.drew {w : World} {vs : List Value} {b : Value} {bytes : List UInt8} {wr : World} (h : EncRel w vs b bytes wr) : EncRel w vs b bytes wr.drew := ⟨World.ownsRow.drew h.1, h.2.1.drew, h.2.2⟩
theorem EncRel.app {w : World} {vs : List Value} {b b' : Value} {l l' : List UInt8} {wr w' : World} (h : EncRel w vs b l wr) (hr : BRow w' w.heap.size b' l') (hg : wr.grownBy w' b.ownBlock) : EncRel w vs b' l' w' :=
 ⟨hr, below_own h.2.1 h.1 hg h.2.1.size, h.2.2.grown hg (own_off h.1 h.2.2 modNeByte)⟩
end Go.Proofs.YtnnhhbjbdmgpiaaGreatDoor
