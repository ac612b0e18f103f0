/- Texts of the proofs: DataK. -/
import Derived.Test.YtnnhhbjbdmgpiaaGreatDoorJ24
import Derived.Test.YtnnhhbjbdmgpiaaGreatDoorJ32
set_option linter.unusedSimpArgs false
set_option linter.unusedVariables false
/- Walks of the laws' own helpers: bytes of a raw thing. -/
namespace Go.Proofs.YtnnhhbjbdmgpiaaGreatDoor
set_option maxRecDepth 100000
open Go.RowKit
def DataPost (n : Nat) (w : World) (e : Ending) (w' : World) : Prop := ∃ l : List UInt8, l.length = n ∧ e = .returned (.string ⟨l.toArray⟩) ∧ Below w.heap.size w w'
theorem byte_of {z : Int} (h1 : 0 ≤ z) (h2 : z ≤ 255) : ((UInt8.ofNat z.toNat).toNat : Int) = z := by
 rw [UInt8.toNat_ofNat']
 omega
theorem bc_get {l : List UInt8} {k : Nat} {c : UInt8} (h : l[k]? = some c) : (bc l)[k]? = some (.int .u8 (c.toNat : Int)) := by simp [bc, h]
theorem bc_set (l : List UInt8) (k : Nat) (c : UInt8) : (bc l).set k (.int .u8 (c.toNat : Int)) = bc (l.set k c) := by simp [bc]
set_option maxRecDepth 100000 in
set_option maxHeartbeats 1000000 in
theorem data_any (kr ra rb rc : Int) (n : Nat) (w : World) (f1 : Fit ra) (f2 : Fit rb) (hn : (n : Int) = 1 + Cf.pick ra 30) :
  Calls Tryz.prog 17 #[.agg #[.int .i64 kr, .int .i64 ra, .int .i64 rb, .int .i64 rc]] w (DataPost n w) := by
 have Hbox := Lib.hid (Wb.new w 45 [.int .i64 kr, .int .i64 ra, .int .i64 rb, .int .i64 rc])
 have hb0 : Below w.heap.size w (w.alloc (.cells #[.int .i64 kr, .int .i64 ra, .int .i64 rb, .int .i64 rc] 45)) := (Below.refl _ _).alloc (Nat.le_refl _) _
 obtain ⟨n1, n2⟩ := Cf.pick_range ra 30 (by omega)
 have hn30 : n ≤ 30 := by omega
 have hn1 : 1 ≤ n := by omega
 have Hn := Lib.hid hn
 clear hn
 go_enter Tryz.func17, Tryz.ntmps17
 go_wp2_with fail
 refine (picked_any ra 30 _ f1 (by omega) (by omega)).mono ?_
 rintro e w' ⟨rfl, rfl⟩
 have hpk : Cf.pick ra 30 = (n : Int) - 1 := by have := Hn.out; omega
 rw [hpk]
 clear hpk n1 n2 Hn
 obtain ⟨cz, hmk, hcz2⟩ := made_bytes (w.alloc (.cells #[.int .i64 kr, .int .i64 ra, .int .i64 rb, .int .i64 rc] 45)) n (by omega)
 go_upto_region 2 with fail
 rw [show (1 : Int) + ((n : Int) - 1) = (n : Int) by omega]
 have HM0 := Lib.hid (show Wb ((w.alloc (.cells #[.int .i64 kr, .int .i64 ra, .int .i64 rb, .int .i64 rc] 45)).alloc (.cells cz tU8)) (w.heap.size + 1) tU8 (bc (List.replicate n 0)) by
  have := Wb.new (w.alloc (.cells #[.int .i64 kr, .int .i64 ra, .int .i64 rb, .int .i64 rc] 45)) tU8 cz.toList
  rw [hcz2] at this
  have e : (bc (List.replicate n 0)).toArray = cz := by rw [← hcz2]
  rw [e] at this
  simpa using this)
 have HB0 := Lib.hid (Hbox.out.alloc (.cells cz tU8))
 have hbw0 := hb0.alloc (by simp) (.cells cz tU8)
 rw [show (w.alloc (.cells #[.int .i64 kr, .int .i64 ra, .int .i64 rb, .int .i64 rc] 45)).heap.size = w.heap.size + 1 by simp] at hmk
 clear hcz2 Hbox hb0
 rw [hmk]
 clear hmk
 go_upto_region 2 with fail
 generalize (w.alloc (.cells #[.int .i64 kr, .int .i64 ra, .int .i64 rb, .int .i64 rc] 45)).alloc (.cells cz tU8) = w1 at *
 go_wp2
 go_loopw [12] (fun iv wr => ∃ (k : Nat) (l : List UInt8), k ≤ n ∧ iv = .int .i64 k ∧ l.length = n ∧ Wb wr (w.heap.size + 1) tU8 (bc l) ∧ Wb wr w.heap.size 45 [.int .i64 kr, .int .i64 ra, .int .i64 rb, .int .i64 rc] ∧ Below w.heap.size w wr) (fun iv _ => n - (intOf iv).toNat)
 case atStart => exact ⟨0, _, by omega, rfl, by simp, HM0.out, HB0.out, hbw0⟩
 case round =>
  obtain ⟨k, l, hk, rfl, hl, hm, hx, hbw⟩ := hrel
  have Hl := Lib.hid hl
  have Hm := Lib.hid hm
  have Hx := Lib.hid hx
  clear hl hm hx HM0 HB0 hbw0
  by_cases hlt : k < n
  ·have q2 := Hx.out.cell 2
   simp at q2
   obtain ⟨p1, p2⟩ := Cf.pick_range rb 26 (by omega)
   obtain ⟨c0, hc0⟩ : ∃ c, l[k]? = some c := ⟨_, List.getElem?_eq_getElem (by rw [Hl.out]; exact hlt)⟩
   have mc : wr.cell? ⟨w.heap.size + 1, k, none⟩ = _ := (Hm.out.cell k).trans (bc_get hc0)
   have mf := Hm.out.open_
   have ml := Hm.out.lt
   go_wp2_with fail
   refine (picked_any rb 26 _ f2 (by omega) (by omega)).mono ?_
   rintro e w' ⟨rfl, rfl⟩
   generalize Cf.pick rb 26 = pb at p1 p2 ⊢
   have hz1 : 0 ≤ ((k : Int) + pb) % 26 := by omega
   have hz2 : ((k : Int) + pb) % 26 < 26 := by omega
   have HM1 := Lib.hid (show Wb (wr.setCell ⟨w.heap.size + 1, k, none⟩ (.int .u8 (97 + ((k : Int) + pb) % 26))) (w.heap.size + 1) tU8 (bc (l.set k (UInt8.ofNat (97 + ((k : Int) + pb) % 26).toNat))) by
    rw [← bc_set, byte_of (by omega) (by omega)]
    exact Hm.out.put k _)
   have HB1 := Lib.hid (Hx.out.off_ (p := ⟨w.heap.size + 1, k, none⟩) (by simp) (.int .u8 (97 + ((k : Int) + pb) % 26)))
   have hbw1 := hbw.setCell (p := ⟨w.heap.size + 1, k, none⟩) (by simp) (.int .u8 (97 + ((k : Int) + pb) % 26))
   clear Hm Hx hc0
   go_wp2
   go_roundw
   case rel => exact ⟨k + 1, _, by omega, by go_num, by rw [List.length_set]; exact Hl.out, HM1.out, HB1.out, hbw1⟩
   case measure => simp [intOf]; omega
  ·have hcv := bytes_back (wb_byts Hm.out) (by intro e; have h8 := Hl.out; rw [e] at h8; simp at h8; omega) n
   rw [Hl.out] at hcv
   go_wp2
   go_ret
   exact ⟨l, Hl.out, rfl, hbw⟩
end Go.Proofs.YtnnhhbjbdmgpiaaGreatDoor
