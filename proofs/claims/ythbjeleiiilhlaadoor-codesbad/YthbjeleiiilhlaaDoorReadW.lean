/- Walks of chapter 1: the program's Read. -/
import Derived.Test.YthbjeleiiilhlaaDoorShow
import Derived.Test.YthbjeleiiilhlaaDoorReadQ
namespace Go.Proofs.YthbjeleiiilhlaaDoor
open Go.RowKit

/-- The library's two sentinels, whatever they hold: an error that is not nil. -/
def SentE (n : String) (g : Nat) (w : World) : Prop := g < w.heap.size ∧ ∃ tp p, w.var? Tryd.prog n = some #[.iface tp p]
theorem gS : Tryd.prog.globalNamed "strconv.ErrSyntax" = some 4 := by kernel_rfl
theorem gR : Tryd.prog.globalNamed "strconv.ErrRange" = some 5 := by kernel_rfl
def SentS (w : World) : Prop := SentE "strconv.ErrSyntax" 4 w
def SentR (w : World) : Prop := SentE "strconv.ErrRange" 5 w
theorem SentS.below {w w' : World} (h : SentS w) (hb : Below w.heap.size w w') : SentS w' := by
  obtain ⟨h1, tp, p, h2⟩ := h
  exact ⟨Nat.lt_of_lt_of_le h1 hb.size, tp, p, var?_below hb gS h1 h2⟩
theorem SentR.below {w w' : World} (h : SentR w) (hb : Below w.heap.size w w') : SentR w' := by
  obtain ⟨h1, tp, p, h2⟩ := h
  exact ⟨Nat.lt_of_lt_of_le h1 hb.size, tp, p, var?_below hb gR h1 h2⟩

def AtoiOk (v : Int) (w : World) (e : Ending) (w' : World) : Prop := e = .returned (.tuple #[.int .i64 v, .nilIface]) ∧ Below w.heap.size w w'
def AtoiBad (w : World) (e : Ending) (w' : World) : Prop := ∃ (n : Int) (a : Addr), e = .returned (.tuple #[.int .i64 n, .iface 106 (.pointer (some a))]) ∧ Below w.heap.size w w'
theorem below_bytes (w : World) (e : TypeId) (t : ByteArray) : Below w.heap.size w (Lib.bytesWorld w e t) := by
  refine ⟨?_, ?_, ?_, ?_, fun k hk => ?_⟩
  all_goals unfold Lib.bytesWorld World.freeze
  all_goals split
  all_goals first | rfl | skip
  · simp
  · simp
  · exact Below.heap_alloc w.drew _ k hk
  · simp only [Array.getElem?_modify]
    rw [if_neg (fun e => by have : w.heap.size = k := e; omega)]
    exact Below.heap_alloc w.drew _ k hk
theorem atoi_ok (s : List UInt8) (v : Int) (h : Lib.atoiAll s = .ok v) (hs : s.length ≤ 4000) (w : World) :
    Calls Tryd.prog 54 #[.string ⟨s.toArray⟩] w (AtoiOk v w) := by
  refine (Any.strconv_Atoi_ok laysC172 ⟨s.toArray⟩ (by simp [ByteArray.size]; omega) v h w).mono ?_
  rintro e w' ⟨rfl, rfl | ⟨t, rfl⟩⟩
  · exact ⟨rfl, Below.refl _ _⟩
  · exact ⟨rfl, below_bytes w _ t⟩
theorem atoi_bad (s : List UInt8) (h : ∀ v, Lib.atoiAll s ≠ .ok v) (hs : s.length ≤ 4000) (w : World) (hS : SentS w) (hR : SentR w) :
    Calls Tryd.prog 54 #[.string ⟨s.toArray⟩] w (AtoiBad w) := by
  obtain ⟨_, tp, p, hS⟩ := hS
  obtain ⟨_, tq, q, hR⟩ := hR
  cases hc : Lib.atoiAll s
  · rename_i v; exact absurd hc (h v)
  · refine (Any.strconv_Atoi_syntax_var laysC172 ⟨s.toArray⟩ (by simp [ByteArray.size]; omega) hc tp p w hS).mono ?_
    rintro e w' ⟨N, rfl, _, _, hb⟩
    exact ⟨_, _, rfl, hb⟩
  · refine (Any.strconv_Atoi_range_var laysC172 ⟨s.toArray⟩ (by simp [ByteArray.size]; omega) hc tq q w hR).mono ?_
    rintro e w' ⟨N, rfl, _, _, hb⟩
    exact ⟨_, _, rfl, hb⟩
theorem trim_any (s p : List UInt8) (w : World) :
    Calls Tryd.prog 55 #[.string ⟨s.toArray⟩, .string ⟨p.toArray⟩] w fun e w' => e = .returned (.string ⟨(Lib.trimPrefix s p).toArray⟩) ∧ w = w' := by
  refine (Any.strings_TrimPrefix lays101 ⟨s.toArray⟩ ⟨p.toArray⟩ w).mono ?_
  rintro e w' ⟨rfl, rfl⟩
  exact ⟨rfl, rfl⟩
/-- What readField answers: whether the word is such a field, and which. -/
def FieldPost (k : Int) (t : List UInt8) (w : World) (e : Ending) (w' : World) : Prop :=
  ∃ v : Int, e = .returned (.tuple #[.int .i64 v, .bool (Cf.fieldOf k t).isSome]) ∧ (∀ u, Cf.fieldOf k t = some u → v = u) ∧ Below w.heap.size w w'
set_option maxHeartbeats 400000 in
theorem readField_any (k : Int) (t : List UInt8) (hk : 0 ≤ k) (hk' : k < 4) (ht : t.length ≤ 4000) (w : World) (hL : TabL w) (hP : TabP w) (hS : SentS w) (hR : SentR w) :
    Calls Tryd.prog 43 #[.int .i64 k, .string ⟨t.toArray⟩] w (FieldPost k t w) := by
  have hlt : (Lib.trimPrefix t [114]).length ≤ 4000 := by
    unfold Lib.trimPrefix
    split
    · rw [List.length_drop]; omega
    · exact ht
  by_cases hex : ∃ v, Lib.atoiAll (Lib.trimPrefix t [114]) = .ok v
  · obtain ⟨v, hv⟩ := hex
    by_cases hf : Cf.fitB k v = true
    · have hr : 0 ≤ v ∧ v ≤ 65535 := by
        simp [Cf.fitB] at hf
        exact ⟨hf.1, Int.le_trans hf.2 (Cf.lar_le _)⟩
      obtain ⟨hv0, hv1⟩ := hr
      have Hfin : Hid ((Cf.fieldOf k t).isSome = (Cf.showF k v == t)) := by
        rw [Bool.eq_iff_iff, ← Cf.field_iff]
        constructor
        · rintro ⟨u, h1, _, h3⟩
          rw [hv] at h1
          injection h1 with h1
          rw [h1]; simpa using h3
        · intro h; exact ⟨v, hv, hf, by simpa using h⟩
      have Hval := Lib.hid (fun u (hu : Cf.fieldOf k t = some u) => (Cf.field_val k t u v hu hv))
      have Hv := Lib.hid hv
      clear hv
      go_enter Tryd.func43, Tryd.ntmps43
      go_wp2_with fail
      refine (trim_any t [114] _).mono ?_
      rintro e w1 ⟨rfl, rfl⟩
      go_wp2_with fail
      refine (atoi_ok _ v Hv.out hlt _).mono ?_
      rintro e w2 ⟨rfl, hb2⟩
      go_wp2_with fail
      refine (fits_any k v _ hk hk' (hL.below hb2)).mono ?_
      rintro e w3 ⟨rfl, rfl⟩
      go_wp2_with fail
      refine (showField_any k v hv0 hv1 _ (hP.below hb2)).mono ?_
      rintro e w4 ⟨rfl, hb4⟩
      have hbw := hb2.trans (hb4.mono hb2.size)
      clear hb2 hb4
      go_wp2
      go_ret2
      refine ⟨v, ?_, Hval.out, hbw⟩
      rw [Hfin.out]
      rfl
    · have hf' : Cf.fitB k v = false := by simpa using hf
      have Hfin : Hid (Cf.fieldOf k t = none) := by
        have : ¬ (Cf.fieldOf k t).isSome = true := by
          rw [← Cf.field_iff]
          rintro ⟨u, h1, h2, _⟩
          rw [hv] at h1
          injection h1 with h1
          rw [← h1] at h2
          exact hf h2
        exact Option.not_isSome_iff_eq_none.1 this
      have Hv := Lib.hid hv
      clear hv hf
      go_enter Tryd.func43, Tryd.ntmps43
      go_wp2_with fail
      refine (trim_any t [114] _).mono ?_
      rintro e w1 ⟨rfl, rfl⟩
      go_wp2_with fail
      refine (atoi_ok _ v Hv.out hlt _).mono ?_
      rintro e w2 ⟨rfl, hb2⟩
      go_wp2_with fail
      refine (fits_any k v _ hk hk' (hL.below hb2)).mono ?_
      rintro e w3 ⟨rfl, rfl⟩
      go_wp2
      go_ret2
      exact ⟨0, by rw [Hfin.out]; rfl, (fun u hu => by rw [Hfin.out] at hu; cases hu), hb2⟩
  · have Hfin : Hid (Cf.fieldOf k t = none) := by
      have : ¬ (Cf.fieldOf k t).isSome = true := by
        rw [← Cf.field_iff]
        rintro ⟨u, h1, _⟩
        exact hex ⟨u, h1⟩
      exact Option.not_isSome_iff_eq_none.1 this
    have Hx := Lib.hid (fun v e => hex ⟨v, e⟩)
    clear hex
    go_enter Tryd.func43, Tryd.ntmps43
    go_wp2_with fail
    refine (trim_any t [114] _).mono ?_
    rintro e w1 ⟨rfl, rfl⟩
    go_wp2_with fail
    refine (atoi_bad _ Hx.out hlt _ hS hR).mono ?_
    rintro e w2 ⟨n, a, rfl, hb2⟩
    go_wp2
    go_ret2
    exact ⟨0, by rw [Hfin.out]; rfl, (fun u hu => by rw [Hfin.out] at hu; cases hu), hb2⟩
def FindPost (nm : List UInt8) (w : World) (e : Ending) (w' : World) : Prop :=
  e = .returned (.tuple #[.int .i64 ((Cf.findK nm).getD 0 : Nat), .bool (Cf.findK nm).isSome]) ∧ w = w'
set_option maxHeartbeats 400000 in
theorem findName_any (nm : List UInt8) (w : World) (hN : TabN w) :
    Calls Tryd.prog 42 #[.string ⟨nm.toArray⟩] w (FindPost nm w) := by
  go_enter Tryd.func42, Tryd.ntmps42
  go_wp2
  go_loop [4] (fun i => ∃ k : Nat, k ≤ 15 ∧ i = .int .i64 ((k + 1 : Nat) : Int) ∧ Cf.findOp nm k = none) (fun i => 16 - (intOf i).toNat)
  case atStart => exact ⟨0, by omega, rfl, rfl⟩
  case round =>
    obtain ⟨k, hk, rfl, hno⟩ := hrel
    have Hno := Lib.hid hno
    clear hno
    by_cases hlt : k + 1 ≤ 15
    · obtain ⟨u, hu⟩ : ∃ u, u = Cf.nameL ((k + 1 : Nat) : Int) := ⟨_, rfl⟩
      have hcn : w.cell? ⟨1, k + 1, none⟩ = some (.string ⟨u.toArray⟩) := by rw [hu]; exact hN.at_ (k + 1) (by omega)
      have Hu := Lib.hid hu
      clear hu
      by_cases heq : u = nm
      · have Hf : Hid (Cf.findK nm = some (k + 1)) := Cf.findOp_mono nm (k + 1) (k + 1) (by
          simp only [Cf.findOp, Hno.out]
          rw [if_pos]
          exact Hu.out.symm.trans heq) 15 hlt
        have heq' : (u == nm) = true := by simpa using heq
        clear heq
        go_wp2
        go_ret2
        exact ⟨by rw [Hf.out]; rfl, rfl⟩
      · have Hf : Hid (Cf.findOp nm (k + 1) = none) := by
          simp only [Hid, Cf.findOp, Hno.out]
          rw [if_neg]
          exact fun e => heq (Hu.out.trans e)
        have heq' : (u == nm) = false := by simpa using heq
        clear heq
        go_wp2
        go_round
        case rel => exact ⟨k + 1, by omega, by go_num, Hf.out⟩
        case measure => simp [intOf]; omega
    · obtain rfl : k = 15 := by omega
      have Hf : Hid (Cf.findK nm = none) := Hno.out
      go_wp2
      go_ret2
      exact ⟨by rw [Hf.out]; rfl, rfl⟩
end Go.Proofs.YthbjeleiiilhlaaDoor
