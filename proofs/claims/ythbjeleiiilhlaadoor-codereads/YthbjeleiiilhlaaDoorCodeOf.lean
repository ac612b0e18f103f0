/- Walks of chapter 1: the reference's CodeOf, and the law's comparison of two lists. -/
import Derived.Test.YthbjeleiiilhlaaDoorLineS
import Derived.Test.YthbjeleiiilhlaaDoorRead
namespace Go.Proofs.YthbjeleiiilhlaaDoor
open Go.RowKit

def CoRel (s : List UInt8) (w : World) (ov av fv iv : Value) (wr : World) : Prop :=
  ∃ (k f n cap : Nat) (A : Option Addr) (acc : List Cf.Ins), k ≤ s.length ∧ iv = .int .i64 k ∧ fv = .int .i64 f ∧ f ≤ k ∧ av = .int .i64 ((n : Int) + 1) ∧ ov = .slice A n cap ∧ acc.length = n ∧ n ≤ 200 ∧
    wr.ownsRow w.heap.size 35 4 (.slice A n cap) n (acc.flatMap encI) ∧ Cf.readT s = Cf.readP acc (Cf.splitL 10 (s.drop f)) ∧ (10 : UInt8) ∉ (s.drop f).take (k - f) ∧ Below w.heap.size w wr
set_option maxRecDepth 100000 in
set_option maxHeartbeats 4000000 in
theorem codeOf_any (s : List UInt8) (hs : s.length ≤ maxLen) (w : World) :
    Calls Tryd.prog 13 #[.string ⟨s.toArray⟩] w (ReadPost (Cf.readT s) w) := by
  unfold maxLen at hs
  by_cases hlen : 4000 < s.length
  · have HG := Lib.hid (show Cf.readT s = ⟨[], 0, 1⟩ by unfold Cf.readT; rw [if_pos hlen])
    go_enter Tryd.func13, Tryd.ntmps13
    go_wp2
    go_ret3
    exact readPost_bad 0 1 _ _ _ HG.out (Below.refl _ _)
  · obtain ⟨i0, hi, hz0, hz1, hz2⟩ := info_parts infoIns
    have Hi := Lib.hid hi
    have Hz0 := Lib.hid hz0
    have Hz1 := Lib.hid hz1
    have Hz2 := Lib.hid hz2
    clear hi hz0 hz1 hz2
    have HG := Lib.hid (show Cf.readT s = Cf.readP [] (Cf.splitL 10 s) by unfold Cf.readT; rw [if_neg hlen])
    go_enter Tryd.func13, Tryd.ntmps13
    go_wp2
    go_loopw [5, 6, 7, 8] (fun ov av fv iv wr => CoRel s w ov av fv iv wr) (fun _ _ _ iv _ => s.length - (intOf iv).toNat)
    case atStart => exact ⟨0, 0, 0, 0, none, [], by omega, rfl, rfl, by omega, rfl, rfl, rfl, by omega, World.ownsRow_nil _ _ _ _, HG.out, by simp, Below.refl _ _⟩
    case round =>
      obtain ⟨k, f, n, cap, A, acc, hk, rfl, rfl, hfk, rfl, rfl, hacc, hn, hown, hg, hfree, hbw⟩ := hrel
      have Hg := Lib.hid hg
      have Hacc := Lib.hid hacc
      have Hown := Lib.hid hown
      have Hfree := Lib.hid hfree
      have hwz := hbw.size
      clear hg hacc hown hfree HG
      by_cases hlt : k < s.length
      · obtain ⟨c, hc⟩ : ∃ c, s[k]? = some c := ⟨_, List.getElem?_eq_getElem hlt⟩
        have hix := str_index s k c hc
        by_cases h10 : c = 10
        · have h10' : ((c.toNat : Int) != 10) = false := by rw [h10]; rfl
          have hsl := str_slice s f k hfk (by omega)
          obtain ⟨pc, hpc⟩ : ∃ pc, pc = (s.drop f).take (k - f) := ⟨_, rfl⟩
          rw [← hpc] at hsl
          have hpl : pc.length ≤ 4000 := by rw [hpc]; simp; omega
          have Hsp := Lib.hid (Cf.piece_at 10 s f k hfk (by rw [hc, h10]) Hfree.out)
          rw [← hpc] at Hsp
          obtain ⟨q, rest, hq⟩ : ∃ q rest, Cf.splitL 10 (s.drop (k + 1)) = q :: rest := by
            cases h : Cf.splitL 10 (s.drop (k + 1)) with
            | nil => exact absurd h (Cf.split_ne _ _)
            | cons a b => exact ⟨a, b, rfl⟩
          have Hq := Lib.hid hq
          have Hg2 := Lib.hid (show Cf.readT s = Cf.readP acc (pc :: q :: rest) by rw [Hg.out, Hsp.out, hq])
          clear hpc hq h10 hc
          by_cases h200 : n = 200
          · have HZ := Lib.hid (show Cf.readT s = ⟨[], acc.length + 1, 1⟩ by rw [Hg2.out, Cf.readP, if_pos (by rw [Hacc.out]; exact h200)])
            have hge : 200 ≤ n := by omega
            clear h200
            go_wp2
            go_ret3
            exact readPost_bad _ 1 _ _ _ (by rw [HZ.out, Hacc.out]) hbw
          · have hn' : n < 200 := by omega
            clear h200
            go_wp2_with fail
            refine (lineOf_any pc hpl _).mono ?_
            rintro e w2 ⟨x, rfl, hx, hb2⟩
            have hbw2 := hbw.trans (hb2.mono hbw.size)
            have Hown2 := Lib.hid (own_below Hown.out hb2)
            clear hb2 hbw Hown
            cases hp : Cf.parseL pc with
            | none =>
              have HZ := Lib.hid (show Cf.readT s = ⟨[], acc.length + 1, 4⟩ by rw [Hg2.out, Cf.readP, if_neg (by rw [Hacc.out]; omega), hp])
              clear hp hx
              simp only [Option.isSome_none]
              go_wp2
              go_ret3
              exact readPost_bad _ 4 _ _ _ (by rw [HZ.out, Hacc.out]) (hbw2.alloc hbw2.size _)
            | some y =>
              obtain rfl := hx y hp
              have HZ := Lib.hid (show Cf.readT s = Cf.readP (acc ++ [x]) (Cf.splitL 10 (s.drop (k + 1))) by rw [Hg2.out, Cf.readP, if_neg (by rw [Hacc.out]; omega), hp, Hq.out])
              clear hp hx
              simp only [Option.isSome_some]
              obtain ⟨op, a, b, c'⟩ := x
              have hwz2 := hbw2.size
              go_wp2_with (at_builtin; refine wpList_append_own _ rfl _ _ 22 rfl w.heap.size 35 i0 (.agg #[.int .i64 0, .int .i64 0, .int .i64 0, .int .i64 0]) 4 32 Tryd.underlying22 Hi.out Hz0.out Hz1.out Hz2.out rfl (by decide) _ n _ rfl ((Hown2.out.alloc _).alloc _) ⟨w2.heap.size + 1, 0, none⟩ 1 1 [.int .i64 op, .int .i64 a, .int .i64 b, .int .i64 c'] rfl rfl ?c1 ?c2 ?c3 ?c4 ?c5 ?_)
              case c1 =>
                intro j u hj
                match j, hj with
                | 0, hj => simp at hj; subst hj; simp [Addr.add]
                | 1, hj => simp at hj; subst hj; simp [Addr.add]
                | 2, hj => simp at hj; subst hj; simp [Addr.add]
                | 3, hj => simp at hj; subst hj; simp [Addr.add]
                | (j + 4), hj => simp at hj
              case c2 => intro u hu; simp at hu; rcases hu with rfl | rfl | rfl | rfl <;> rfl
              case c3 => unfold maxLen; omega
              case c4 => omega
              case c5 => simp; omega
              intro v' w3 hown3 hg3 _
              obtain ⟨A', cap', rfl⟩ := own_form hown3
              have hbw3 : Below w.heap.size w w3 := ((hbw2.alloc hbw2.size _).alloc (by simp; omega) _).grown hg3 (by simp; omega) (fun k hk => own_blocks Hown2.out k hk)
              have Hown3 := Lib.hid hown3
              clear hown3 hg3 Hown2
              go_wp2
              go_roundw
              case rel => exact ⟨k + 1, k + 1, n + 1, cap', A', acc ++ [⟨op, a, b, c'⟩], by omega, by go_num, by go_num, by omega, by go_num, rfl, by simp [Hacc.out], by omega, by rw [List.flatMap_append]; exact Hown3.out, HZ.out, by simp, hbw3⟩
              case measure => simp [intOf]; omega
        · have h10' : ((c.toNat : Int) != 10) = true := by
            rw [bne_iff_ne]
            intro e
            exact h10 (UInt8.toNat_inj.1 (show c.toNat = 10 by omega))
          have Hon := Lib.hid (Cf.piece_on 10 c s f k hfk hc h10 Hfree.out)
          clear hc h10
          go_wp2
          go_roundw
          case rel => exact ⟨k + 1, f, n, cap, A, acc, by omega, by go_num, rfl, by omega, rfl, rfl, Hacc.out, hn, Hown.out, Hg.out, Hon.out, hbw⟩
          case measure => simp [intOf]; omega
      · obtain rfl : k = s.length := by omega
        have hnone : (10 : UInt8) ∉ s.drop f := by
          have := Hfree.out
          rwa [List.take_of_length_le (by simp)] at this
        have Hg2 := Lib.hid (show Cf.readT s = Cf.readP acc [s.drop f] by rw [Hg.out, Cf.split_none 10 _ hnone])
        clear hnone
        by_cases hf : f < s.length
        · have HZ := Lib.hid (show Cf.readT s = ⟨[], acc.length + 1, 5⟩ by
            rw [Hg2.out, Cf.readP, if_neg]
            intro e
            have := congrArg List.length e
            simp at this
            omega)
          go_wp2
          go_ret3
          exact readPost_bad _ 5 _ _ _ (by rw [HZ.out, Hacc.out]) hbw
        · have HZ := Lib.hid (show Cf.readT s = ⟨acc, 0, 0⟩ by
            rw [Hg2.out, Cf.readP, if_pos (List.drop_eq_nil_of_le (by omega))])
          go_wp2
          go_ret3
          refine ⟨A, cap, by rw [HZ.out]; rw [← Hacc.out]; rfl, ?_, hbw⟩
          rw [HZ.out]
          exact own_rd encI_len (by rw [Hacc.out]; exact Hown.out)
end Go.Proofs.YthbjeleiiilhlaaDoor
