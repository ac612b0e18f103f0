/- Walks of chapter 1: the reference's numberOf and wordsOf. -/
import Derived.Test.YthbjeleiiilhlaaDoorReadI
import Derived.Test.YthbjeleiiilhlaaDoorOwnK
namespace Go.Proofs.YthbjeleiiilhlaaDoor
open Go.RowKit

theorem ext_of {a b : ByteArray} (h : a.data.toList = b.data.toList) : a = b := by
  apply ByteArray.ext
  exact Array.toList_inj.1 h
theorem str_index (d : List UInt8) (k : Nat) (c : UInt8) (h : d[k]? = some c) : ∀ w, (Instr.index 9 (.string ⟨d.toArray⟩) (.int .i64 (k : Int))).run Tryd.prog w = .ok (.int .u8 (c.toNat : Int)) w := by
  intro w
  have hk : k < d.length := (List.getElem?_eq_some_iff.1 h).1
  have hc : (⟨d.toArray⟩ : ByteArray)[k]? = some c := by
    have hs : (⟨d.toArray⟩ : ByteArray).size = d.length := by simp [ByteArray.size]
    rw [getElem?_pos _ k (by omega)]
    have := (List.getElem?_eq_some_iff.1 h).2
    congr 1
  simp [Instr.index, run_underlying Tryd.underlying9, asIntOf, hc, go_sem]
theorem str_slice (d : List UInt8) (f i : Nat) (hf : f ≤ i) (hi : i ≤ d.length) : ∀ w, (Instr.slice 9 (.string ⟨d.toArray⟩) (some (.int .i64 (f : Int))) (some (.int .i64 (i : Int))) none).run Tryd.prog w = .ok (.string ⟨((d.drop f).take (i - f)).toArray⟩) w := by
  intro w
  have hs : (⟨d.toArray⟩ : ByteArray).size = d.length := by simp [ByteArray.size]
  rw [run_slice_string_if (P := Tryd.prog) (w := w) 9 ⟨d.toArray⟩ .i64 .i64 f i Tryd.underlying9, hs, if_pos (by omega), if_pos (by omega)]
  congr 2
  apply ext_of
  rw [Lib.extract_data]
  simp
theorem str_from (d : List UInt8) (f : Nat) (hf : f ≤ d.length) : ∀ w, (Instr.slice 9 (.string ⟨d.toArray⟩) (some (.int .i64 (f : Int))) none none).run Tryd.prog w = .ok (.string ⟨(d.drop f).toArray⟩) w := by
  intro w
  have hs : (⟨d.toArray⟩ : ByteArray).size = d.length := by simp [ByteArray.size]
  rw [run_slice_string_l (P := Tryd.prog) (w := w) 9 ⟨d.toArray⟩ Tryd.underlying9 .i64 f (by omega) (by rw [hs]; omega), hs]
  congr 2
  apply ext_of
  rw [Lib.extract_data]
  simp only [Int.toNat_natCast]
  exact List.take_of_length_le (by simp)
set_option maxHeartbeats 1000000 in
theorem numberOf_any (d : List UInt8) (hd : d.length ≤ 4000) (w : World) :
    Calls Tryd.prog 45 #[.string ⟨d.toArray⟩] w fun e w' => e = .returned (.int .i64 (Cf.numI d)) ∧ w = w' := by
  go_enter Tryd.func45, Tryd.ntmps45
  go_wp2
  go_loop [3, 4] (fun n i => ∃ k m : Nat, k ≤ d.length ∧ i = .int .i64 k ∧ n = .int .i64 m ∧ m ≤ 1000009 ∧ Cf.numFrom 0 d = Cf.numFrom m (d.drop k)) (fun _ i => d.length - (intOf i).toNat)
  case atStart => exact ⟨0, 0, by omega, rfl, rfl, by omega, rfl⟩
  case round =>
    obtain ⟨k, m, hk, rfl, rfl, hm, hnf⟩ := hrel
    have Hnf := Lib.hid hnf
    clear hnf
    by_cases hlt : k < d.length
    · obtain ⟨c, hc⟩ : ∃ c, d[k]? = some c := ⟨_, List.getElem?_eq_getElem hlt⟩
      have hix := str_index d k c hc
      have hdr : d.drop k = c :: d.drop (k + 1) := by
        rw [List.drop_eq_getElem_cons hlt]
        congr 1
        exact (List.getElem?_eq_some_iff.1 hc).2
      have hc0 : 0 ≤ (c.toNat : Int) := by omega
      have hc1 : (c.toNat : Int) ≤ 255 := by have := c.toNat_lt; omega
      have Hstep := Lib.hid (show Cf.numFrom 0 d = if Cf.dig c && decide (m ≤ 100000) then Cf.numFrom (10 * m + (c.toNat - 48)) (d.drop (k + 1)) else none by rw [Hnf.out, hdr, Cf.numFrom])
      clear hc hdr
      obtain ⟨ci, hci⟩ : ∃ ci : Int, ci = (c.toNat : Int) := ⟨_, rfl⟩
      rw [← hci] at hix hc0 hc1
      have Hci := Lib.hid hci
      clear hci
      by_cases hd1 : 48 ≤ ci ∧ ci ≤ 57
      · obtain ⟨hd48, hd57⟩ := hd1
        have hin : Cf.inB ci 48 57 = true := by simp [Cf.inB, hd48, hd57]
        have hdig : Cf.dig c = true := by have := Hci.out; simp [Cf.dig]; omega
        by_cases hm5 : m ≤ 100000
        · have Hn := Lib.hid (show Cf.numFrom 0 d = Cf.numFrom (10 * m + (c.toNat - 48)) (d.drop (k + 1)) by rw [Hstep.out, if_pos (by simp [hdig, hm5])])
          go_wp2_with (go_at_call 20; refine (in_any _ _ _ _).mono ?_; rintro e w' ⟨rfl, rfl⟩)
          go_round
          case rel => exact ⟨k + 1, 10 * m + (c.toNat - 48), by omega, by go_num, by have := Hci.out; exact congrArg (Value.int .i64) (by omega), by have := Hci.out; omega, Hn.out⟩
          case measure => simp [intOf]; omega
        · have HN := Lib.hid (show Cf.numI d = -1 by unfold Cf.numI; rw [Hstep.out, if_neg (by simp [hdig, hm5])])
          go_wp2_with (go_at_call 20; refine (in_any _ _ _ _).mono ?_; rintro e w' ⟨rfl, rfl⟩)
          go_ret
          exact ⟨by rw [HN.out]; rfl, rfl⟩
      · have hin : Cf.inB ci 48 57 = false := by
          rw [Bool.eq_false_iff]; intro h; simp [Cf.inB] at h; exact hd1 h
        have hdig : Cf.dig c = false := by
          rw [Bool.eq_false_iff]; intro h; simp [Cf.dig] at h; have := Hci.out; exact hd1 (by omega)
        have HN := Lib.hid (show Cf.numI d = -1 by unfold Cf.numI; rw [Hstep.out, if_neg (by simp [hdig])])
        clear hd1
        go_wp2_with (go_at_call 20; refine (in_any _ _ _ _).mono ?_; rintro e w' ⟨rfl, rfl⟩)
        go_ret
        exact ⟨by rw [HN.out]; rfl, rfl⟩
    · obtain rfl : k = d.length := by omega
      have Hm := Lib.hid (show Cf.numFrom 0 d = some m by rw [Hnf.out, List.drop_length, Cf.numFrom])
      by_cases h0 : d.length = 0
      · have HN := Lib.hid (show Cf.numI d = -1 by unfold Cf.numI; rw [Hm.out]; simp only; rw [if_pos (.inl h0)])
        have h0' : ((d.length : Int) == 0) = true := by rw [h0]; rfl
        clear h0
        go_wp2
        go_ret
        exact ⟨by rw [HN.out]; rfl, rfl⟩
      · have h0' : ((d.length : Int) == 0) = false := by rw [beq_eq_false_iff_ne]; omega
        obtain ⟨c, hc⟩ : ∃ c, d[0]? = some c := ⟨_, List.getElem?_eq_getElem (by omega)⟩
        have hix : ∀ w, (Instr.index 9 (.string ⟨d.toArray⟩) (.int .i64 0)).run Tryd.prog w = .ok (.int .u8 (c.toNat : Int)) w := str_index d 0 c hc
        have hhd : d.headD 0 = c := by cases d with
          | nil => simp at hc
          | cons x r => simpa using hc
        by_cases h1 : 1 < d.length
        · by_cases h48 : c.toNat = 48
          · have HN := Lib.hid (show Cf.numI d = -1 by unfold Cf.numI; rw [Hm.out]; simp only; rw [if_pos (.inr ⟨h1, by rw [hhd]; exact h48⟩)])
            have h48' : ((c.toNat : Int) == 48) = true := by rw [h48]; rfl
            clear hhd h48 hc
            go_wp2
            go_ret
            exact ⟨by rw [HN.out]; rfl, rfl⟩
          · have HN := Lib.hid (show Cf.numI d = m by unfold Cf.numI; rw [Hm.out]; simp only; rw [if_neg]; rintro (h | ⟨_, h⟩); exact h0 h; rw [hhd] at h; exact h48 h)
            have h48' : ((c.toNat : Int) == 48) = false := by rw [beq_eq_false_iff_ne]; omega
            clear hhd h48 hc
            go_wp2
            go_ret
            exact ⟨by rw [HN.out]; rfl, rfl⟩
        · have HN := Lib.hid (show Cf.numI d = m by unfold Cf.numI; rw [Hm.out]; simp only; rw [if_neg]; rintro (h | ⟨h, _⟩); exact h0 h; exact h1 h)
          clear hhd hc
          go_wp2
          go_ret
          exact ⟨by rw [HN.out]; rfl, rfl⟩
theorem infoStr : (Tryd.prog.info? 9).map (fun i => (i.zero, i.size, i.bytes)) = some (some (.string ⟨#[]⟩), 1, 16) := by kernel_rfl
def WordsPost (d : List UInt8) (w : World) (e : Ending) (w' : World) : Prop :=
  ∃ (A : Option Addr) (cap : Nat), e = .returned (.slice A (Cf.splitL 32 d).length cap) ∧ Words w' A (Cf.splitL 32 d) ∧ Below w.heap.size w w'
def WoRel (d : List UInt8) (w : World) (ov fv iv : Value) (wr : World) : Prop :=
  ∃ (k f n cap : Nat) (A : Option Addr) (acc : List (List UInt8)), k ≤ d.length + 1 ∧ iv = .int .i64 k ∧ fv = .int .i64 f ∧ f ≤ k ∧ ov = .slice A n cap ∧ acc.length = n ∧ n ≤ k ∧
    wr.ownsRow w.heap.size 9 1 (.slice A n cap) n (acc.flatMap encS) ∧ (k ≤ d.length → f ≤ d.length ∧ acc ++ Cf.splitL 32 (d.drop f) = Cf.splitL 32 d ∧ (32 : UInt8) ∉ (d.drop f).take (k - f)) ∧ (k = d.length + 1 → acc = Cf.splitL 32 d) ∧ Below w.heap.size w wr
theorem encS_len (t : List UInt8) : (encS t).length = 1 := rfl
set_option maxRecDepth 100000 in
set_option maxHeartbeats 2000000 in
theorem wordsOf_any (d : List UInt8) (hd : d.length ≤ 4000) (w : World) :
    Calls Tryd.prog 44 #[.string ⟨d.toArray⟩] w (WordsPost d w) := by
  obtain ⟨i0, hi, hz0, hz1, hz2⟩ := info_parts infoStr
  have Hi := Lib.hid hi
  have Hz0 := Lib.hid hz0
  have Hz1 := Lib.hid hz1
  have Hz2 := Lib.hid hz2
  clear hi hz0 hz1 hz2
  go_enter Tryd.func44, Tryd.ntmps44
  go_wp2
  go_loopw [3, 4, 5] (fun ov fv iv wr => WoRel d w ov fv iv wr) (fun _ _ iv _ => d.length + 1 - (intOf iv).toNat)
  case atStart => exact ⟨0, 0, 0, 0, none, [], by omega, rfl, rfl, by omega, rfl, rfl, by omega, World.ownsRow_nil _ _ _ _, fun _ => ⟨by omega, by simp, by simp⟩, fun h => by omega, Below.refl _ _⟩
  case round =>
    obtain ⟨k, f, n, cap, A, acc, hk, rfl, rfl, hfk, rfl, hacc, hnk, hown, hin, hout, hbw⟩ := hrel
    have Hacc := Lib.hid hacc
    have Hown := Lib.hid hown
    have Hin := Lib.hid hin
    have Hout := Lib.hid hout
    have hwz := hbw.size
    clear hacc hown hin hout
    by_cases hle : k ≤ d.length
    · obtain ⟨hfd, hsp, hfree⟩ := Hin.out hle
      have Hsp := Lib.hid hsp
      have Hfree := Lib.hid hfree
      clear hsp hfree
      have hsl := str_slice d f k hfk hle
      obtain ⟨pc, hpc⟩ : ∃ pc, pc = (d.drop f).take (k - f) := ⟨_, rfl⟩
      rw [← hpc] at hsl
      have Hpc := Lib.hid hpc
      clear hpc
      by_cases hend : k = d.length
      · have hkd : ((k : Int) == (d.length : Int)) = true := by rw [hend]; simp
        have Hp : Hid (acc ++ [pc] = Cf.splitL 32 d) := by
          have h1 : pc = d.drop f := by rw [Hpc.out, hend]; exact List.take_of_length_le (by simp)
          have h2 : Cf.splitL 32 (d.drop f) = [d.drop f] := Cf.split_none 32 _ (by have := Hfree.out; rw [← Hpc.out, h1] at this; exact this)
          have h3 := Hsp.out
          rw [h2, ← h1] at h3
          exact h3
        clear hend
        go_wp2_with (at_builtin; refine wpList_append_own _ rfl _ _ 37 rfl w.heap.size 9 i0 (.string ⟨#[]⟩) 1 16 Tryd.underlying37 Hi.out Hz0.out Hz1.out Hz2.out rfl (by decide) _ n _ rfl (Hown.out.alloc _) ⟨wr.heap.size, 0, none⟩ 1 1 [.string ⟨pc.toArray⟩] rfl rfl ?c1 ?c2 ?c3 ?c4 ?c5 ?_)
        case c1 =>
          intro j u hj
          match j, hj with
          | 0, hj => simp at hj; subst hj; simp [Addr.add]
          | (j + 1), hj => simp at hj
        case c2 => intro u hu; simp at hu; subst hu; rfl
        case c3 => unfold maxLen; omega
        case c4 => omega
        case c5 => simp; omega
        intro v' w3 hown3 hg3 _
        obtain ⟨A', cap', rfl⟩ := own_form hown3
        have hbw3 : Below w.heap.size w w3 := (hbw.alloc hbw.size _).grown hg3 (by simp; omega) (fun k hk => own_blocks Hown.out k hk)
        have Hown3 := Lib.hid hown3
        clear hown3 hg3 Hown
        go_wp2
        go_roundw
        case rel => exact ⟨k + 1, k + 1, n + 1, cap', A', acc ++ [pc], by omega, by go_num, by go_num, by omega, rfl, by simp [Hacc.out], by omega, by rw [List.flatMap_append]; exact Hown3.out, fun h => by have := beq_iff_eq.1 hkd; omega, fun _ => Hp.out, hbw3⟩
        case measure => simp [intOf]; omega
      · have hkd : ((k : Int) == (d.length : Int)) = false := by rw [beq_eq_false_iff_ne]; omega
        obtain ⟨c, hc⟩ : ∃ c, d[k]? = some c := ⟨_, List.getElem?_eq_getElem (by omega)⟩
        have hix := str_index d k c hc
        by_cases h32 : c = 32
        · have Hp : Hid ((acc ++ [pc]) ++ Cf.splitL 32 (d.drop (k + 1)) = Cf.splitL 32 d) := by
            have h1 := Cf.piece_at 32 d f k hfk (by rw [hc, h32]) Hfree.out
            have h3 := Hsp.out
            rw [h1, ← Hpc.out] at h3
            exact (List.append_assoc acc [pc] _).trans h3
          have h32' : ((c.toNat : Int) == 32) = true := by rw [h32]; rfl
          clear hend h32 hc
          go_wp2_with (at_builtin; refine wpList_append_own _ rfl _ _ 37 rfl w.heap.size 9 i0 (.string ⟨#[]⟩) 1 16 Tryd.underlying37 Hi.out Hz0.out Hz1.out Hz2.out rfl (by decide) _ n _ rfl (Hown.out.alloc _) ⟨wr.heap.size, 0, none⟩ 1 1 [.string ⟨pc.toArray⟩] rfl rfl ?d1 ?d2 ?d3 ?d4 ?d5 ?_)
          case d1 =>
            intro j u hj
            match j, hj with
            | 0, hj => simp at hj; subst hj; simp [Addr.add]
            | (j + 1), hj => simp at hj
          case d2 => intro u hu; simp at hu; subst hu; rfl
          case d3 => unfold maxLen; omega
          case d4 => omega
          case d5 => simp; omega
          intro v' w3 hown3 hg3 _
          obtain ⟨A', cap', rfl⟩ := own_form hown3
          have hbw3 : Below w.heap.size w w3 := (hbw.alloc hbw.size _).grown hg3 (by simp; omega) (fun k hk => own_blocks Hown.out k hk)
          have Hown3 := Lib.hid hown3
          clear hown3 hg3 Hown
          go_wp2
          go_roundw
          case rel => exact ⟨k + 1, k + 1, n + 1, cap', A', acc ++ [pc], by omega, by go_num, by go_num, by omega, rfl, by simp [Hacc.out], by omega, by rw [List.flatMap_append]; exact Hown3.out, fun h => ⟨by omega, Hp.out, by simp⟩, fun h => by have := beq_eq_false_iff_ne.1 hkd; omega, hbw3⟩
          case measure => simp [intOf]; omega
        · have Hon := Lib.hid (Cf.piece_on 32 c d f k hfk hc h32 Hfree.out)
          have h32' : ((c.toNat : Int) == 32) = false := by
            rw [beq_eq_false_iff_ne]
            intro e
            exact h32 (UInt8.toNat_inj.1 (show c.toNat = 32 by omega))
          clear hend h32 hc
          go_wp2
          go_roundw
          case rel => exact ⟨k + 1, f, n, cap, A, acc, by omega, by go_num, rfl, by omega, rfl, Hacc.out, by omega, Hown.out, fun h => ⟨hfd, Hsp.out, Hon.out⟩, fun h => by have := beq_eq_false_iff_ne.1 hkd; omega, hbw⟩
          case measure => simp [intOf]; omega
    · have Hp := Lib.hid (Hout.out (by omega))
      go_wp2
      go_ret
      refine ⟨A, cap, ?_, ?_, hbw⟩
      · rw [← Hp.out, Hacc.out]; rfl
      · rw [← Hp.out]; exact own_rd encS_len (by rw [Hacc.out]; exact Hown.out)
end Go.Proofs.YthbjeleiiilhlaaDoor
