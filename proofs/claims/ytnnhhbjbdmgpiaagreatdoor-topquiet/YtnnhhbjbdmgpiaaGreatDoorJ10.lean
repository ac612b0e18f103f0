/- Texts of the proofs: BytK, BytW, EncP. -/
import Derived.Lib.AppendStr
import Derived.Laws.IdiomStrings
import Derived.Test.YtnnhhbjbdmgpiaaGreatDoorJ07
import Derived.Test.YtnnhhbjbdmgpiaaGreatDoorJ05
import Derived.Test.YtnnhhbjbdmgpiaaGreatDoorJ00
set_option linter.unusedSimpArgs false
set_option linter.unusedVariables false
/- Rows of bytes. -/
namespace Go.Proofs.YtnnhhbjbdmgpiaaGreatDoor
set_option maxRecDepth 100000
open Go.RowKit
def encB (b : UInt8) : List Value := [.int .u8 (b.toNat : Int)]
theorem encB_len (b : UInt8) : (encB b).length = 1 := rfl
theorem one_b : ∀ b, ∀ u ∈ encB b, u.oneCell' = true := by
 intro b u hu
 simp [encB] at hu
 subst hu
 rfl
theorem infoByte : (Tryz.prog.info? 5).map (fun i => (i.zero, i.size, i.bytes)) = some (some (.int .u8 0), 1, 1) := by kernel_rfl
def Byts (w : World) (A : Option Addr) (l : List UInt8) : Prop := RdS 1 encB w A l
def BRow (w : World) (base : Nat) (v : Value) (l : List UInt8) : Prop := w.ownsRow base 5 1 v l.length (l.flatMap encB)
theorem BRow.form {w : World} {base : Nat} {v : Value} {l : List UInt8} (h : BRow w base v l) : ∃ A cap, v = .slice A l.length cap := own_form h
theorem BRow.byts {w : World} {base : Nat} {A : Option Addr} {cap : Nat} {l : List UInt8} (h : BRow w base (.slice A l.length cap) l) : Byts w A l := own_rd encB_len h
theorem BRow.alloc {w : World} {base : Nat} {v : Value} {l : List UInt8} (h : BRow w base v l) (o : Obj) : BRow (w.alloc o) base v l := World.ownsRow.alloc h o
theorem BRow.below {w w' : World} {base : Nat} {v : Value} {l : List UInt8} (h : BRow w base v l) (hb : Below w.heap.size w w') : BRow w' base v l := own_below h hb
theorem byts_new (w : World) (t : TypeId) (vs : Array Value) (l : List UInt8) (h : vs.toList = l.flatMap encB) : Byts (w.alloc (.cells vs t)) (some ⟨w.heap.size, 0, none⟩) l :=
 .inr ⟨w.heap.size, 0, rfl, by simp, fun k b hb j u hu => by
  have h1 := flat_at 1 encB encB_len l k b j u hb hu
  rw [← h, Array.getElem?_toList] at h1
  rw [show 0 + k * 1 + j = k * 1 + j by omega, World.cell?]
  rw [heap_alloc_new w _]
  exact h1⟩
theorem flat_len (l : List UInt8) : (l.flatMap encB).length = l.length := by
 induction l with
 | nil => rfl
 | cons b l ih => rw [List.flatMap_cons, List.length_append, ih, List.length_cons, encB_len]; omega
theorem brow_new (w : World) (base : Nat) (vs : Array Value) (l : List UInt8) (h : vs.toList = l.flatMap encB) (hb : base ≤ w.heap.size) (hl : l.length ≤ 100000) (cap : Nat) (hc : cap = l.length) : BRow (w.alloc (.cells vs 5)) base (.slice (some ⟨w.heap.size, 0, none⟩) l.length cap) l := by
 subst hc
 have hs : vs.size = l.length := by rw [← Array.length_toList, h, flat_len]
 refine ⟨by rw [flat_len]; omega, .inr ⟨w.heap.size, l.length, vs, rfl, hb, heap_alloc_new w _, Nat.le_refl _, by unfold maxLen; omega, by omega, ?_⟩⟩
 rw [h, List.take_of_length_le (by rw [flat_len]; omega)]
def AppPost (base : Nat) (v : Value) (l x : List UInt8) (w : World) (e : Ending) (w' : World) : Prop :=
 ∃ v', e = .returned v' ∧ BRow w' base v' (l ++ x) ∧ w.grownBy w' v.ownBlock
theorem grown_alloc {w w' : World} {o : Obj} {row : Option Nat} (h : (w.alloc o).grownBy w' row) : w.grownBy w' row :=
 ⟨h.1, h.2, h.3, Nat.le_trans (by simp) h.4, fun k hk hr => (h.5 k (by simp; omega) hr).trans (Below.heap_alloc w o k hk)⟩
theorem word_cells (z : Nat) (hz : z ≤ 65535) : [Value.int .u8 ((z : Int) / 256), Value.int .u8 ((z : Int) % 256)] = (Cf.encW z).flatMap encB := by
 simp only [Cf.encW, List.flatMap_cons, List.flatMap_nil, encB, List.cons_append, List.nil_append, List.append_nil, Int.toNat_natCast]
 rw [Cf.toNat_of _ (by omega), Cf.toNat_of _ (by omega)]
 simp
end Go.Proofs.YtnnhhbjbdmgpiaaGreatDoor
/- Walks of chapter 4: the program's appendWord. -/
namespace Go.Proofs.YtnnhhbjbdmgpiaaGreatDoor
set_option maxRecDepth 100000
open Go.RowKit
set_option maxHeartbeats 1000000 in
theorem appendWord_any (v : Value) (l : List UInt8) (z : Nat) (hz : z ≤ 65535) (w : World) (base : Nat) (hr : BRow w base v l) (hbase : base ≤ w.heap.size) (hl : l.length ≤ 100000) :
  Calls Tryz.prog 104 #[v, .int .i64 z] w (AppPost base v l (Cf.encW z) w) := by
 obtain ⟨i0, hi, hz0, hz1, hz2⟩ := info_parts infoByte
 have Hi := Lib.hid hi
 have Hz0 := Lib.hid hz0
 have Hz1 := Lib.hid hz1
 have Hz2 := Lib.hid hz2
 have HR := Lib.hid hr
 have HW := Lib.hid (word_cells z hz)
 have hel : (Cf.encW z).length = 2 := rfl
 have HL := Lib.hid hel
 clear hi hz0 hz1 hz2 hr hel
 go_enter Tryz.func104, Tryz.ntmps104
 go_wp2_with (at_builtin; refine wpList_append_src rfl _ _ 92 rfl base 5 i0 (.int .u8 0) 1 1 Tryz.underlying92 Hi.out Hz0.out Hz1.out Hz2.out rfl (by decide) encB_len one_b v l.length (l.flatMap encB) rfl (HR.out.alloc _) (some ⟨w.heap.size, 0, none⟩) 2 (Cf.encW z) rfl (byts_new w _ _ _ HW.out) (by unfold maxLen; rw [HL.out]; omega) (by rw [HL.out]; omega) (by simp; omega) ?_)
 intro v' w1 hown hgr hat
 have Hown := Lib.hid hown
 have Hgr := Lib.hid hgr
 clear hown hgr hat
 go_wp2
 go_ret
 refine ⟨v', rfl, ?_, grown_alloc Hgr.out⟩
 unfold BRow
 rw [List.length_append, List.flatMap_append]
 exact Hown.out
end Go.Proofs.YtnnhhbjbdmgpiaaGreatDoor
/- Plain mathematics of chapter 4: an encoding, a piece at a time; and as cells. -/
namespace Go.Proofs.YtnnhhbjbdmgpiaaGreatDoor.Cf
set_option maxRecDepth 100000
def encT (m : Mod) : List UInt8 := if modT m = 0 then encL m else []
def headC (n : List UInt8) (k : Nat) : List UInt8 := [UInt8.ofNat n.length] ++ n ++ [UInt8.ofNat k]
def bodyC (n : List UInt8) (l : List Ins) (k : Nat) : List UInt8 := headC n l.length ++ (l.take k).flatMap encIns
def bodyD (n : List UInt8) (l : List Ins) (d : List Int) (k : Nat) : List UInt8 := headC n l.length ++ l.flatMap encIns ++ [UInt8.ofNat d.length] ++ (d.take k).flatMap encW
theorem bodyD_all (n : List UInt8) (l : List Ins) (d : List Int) (k : Nat) (hk : d.length ≤ k) : bodyD n l d k = bodyL ⟨n, l, d⟩ := by
 unfold bodyD bodyL headC
 rw [List.take_of_length_le hk]
 simp
theorem bodyC_next (n : List UInt8) (l : List Ins) (k : Nat) (x : Ins) (h : l[k]? = some x) : bodyC n l (k + 1) = bodyC n l k ++ [UInt8.ofNat x.op.toNat, UInt8.ofNat (16 * x.a.toNat + x.b.toNat)] ++ encW x.c := by
 unfold bodyC
 rw [take_next l k x h, List.flatMap_append, List.flatMap_cons, List.flatMap_nil, List.append_nil]
 simp [encIns, encW]
theorem bodyD_next (n : List UInt8) (l : List Ins) (d : List Int) (k : Nat) (v : Int) (h : d[k]? = some v) : bodyD n l d (k + 1) = bodyD n l d k ++ encW v := by
 unfold bodyD
 rw [take_next d k v h, List.flatMap_append, List.flatMap_cons, List.flatMap_nil, List.append_nil, ← List.append_assoc]
theorem headC_len (n : List UInt8) (k : Nat) : (headC n k).length = n.length + 2 := by
 simp [headC]
theorem bodyC_len (n : List UInt8) (l : List Ins) (k : Nat) : (bodyC n l k).length ≤ n.length + 2 + 4 * l.length := by
 unfold bodyC
 rw [List.length_append, headC_len, encIns_len, List.length_take]
 omega
theorem bodyD_len (n : List UInt8) (l : List Ins) (d : List Int) (k : Nat) : (bodyD n l d k).length ≤ n.length + 3 + 4 * l.length + 2 * d.length := by
 unfold bodyD
 simp only [List.length_append, headC_len, encIns_len, encW_len, List.length_take, List.length_cons, List.length_nil]
 omega
theorem good_parts {n : List UInt8} {l : List Ins} {d : List Int} (h : modT ⟨n, l, d⟩ = 0) : n.length ≤ 6 ∧ l.length ≤ 200 ∧ d.length ≤ 64 ∧ (∀ (k : Nat) (x : Ins), l[k]? = some x → chk x = 0) ∧ (∀ (k : Nat) (v : Int), d[k]? = some v → 0 ≤ v ∧ v ≤ 65535) := by
 obtain ⟨hn, hd, hw, hs⟩ := mod_parts h
 dsimp only at hn hd hw hs
 have hf := safe_fault hs
 have hz : faultIn l = 0 ∧ l.length ≤ 200 := by
  unfold fault at hf
  split at hf
  ·cases hf
  ·exact ⟨hf, by omega⟩
 exact ⟨hn.2, hz.2, hd, fun k x hx => faultIn_mem l hz.1 k x hx, fun k v hv => hw v (List.mem_of_getElem? hv)⟩
end Go.Proofs.YtnnhhbjbdmgpiaaGreatDoor.Cf
namespace Go.Proofs.YtnnhhbjbdmgpiaaGreatDoor
open Go.RowKit
theorem byts_new_at (w : World) (g : Nat) (hg : w.heap.size = g) (t : TypeId) (vs : Array Value) (l : List UInt8) (h : vs.toList = l.flatMap encB) : Byts (w.alloc (.cells vs t)) (some ⟨g, 0, none⟩) l := hg ▸ byts_new w t vs l h
theorem one_cells (k : Nat) (hk : k ≤ 255) : [Value.int .u8 (k : Int)] = [UInt8.ofNat k].flatMap encB := by
 simp only [List.flatMap_cons, List.flatMap_nil, encB, List.cons_append, List.nil_append]
 rw [Cf.toNat_of _ (by omega)]
theorem two_cells (o a b : Int) (h0 : 0 ≤ o) (h1 : o ≤ 255) (ha : 0 ≤ a) (ha' : a ≤ 7) (hb : 0 ≤ b) (hb' : b ≤ 7) : [Value.int .u8 o, Value.int .u8 (16 * a + b)] = [UInt8.ofNat o.toNat, UInt8.ofNat (16 * a.toNat + b.toNat)].flatMap encB := by
 simp only [List.flatMap_cons, List.flatMap_nil, encB, List.cons_append, List.nil_append]
 rw [Cf.toNat_of _ (by omega), Cf.toNat_of _ (by omega)]
 simp
 omega
theorem str_cells (n : List UInt8) : Lib.strCells ⟨n.toArray⟩ = n.flatMap encB := by
 unfold Lib.strCells
 induction n with
 | nil => rfl
 | cons b n ih => simpa [encB] using ih
end Go.Proofs.YtnnhhbjbdmgpiaaGreatDoor
