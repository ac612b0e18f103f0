/- Walks of chapter 1: the program's Read. -/
import Derived.Test.YthbjeleiiilhlaaDoorReadJ
import Derived.Test.YthbjeleiiilhlaaDoorOwnK
namespace Go.Proofs.YthbjeleiiilhlaaDoor
open Go.RowKit

def strOf : Value → Nat
  | .string b => b.size
  | _ => 0
theorem cut_hit (u v : List UInt8) (hu : (10 : UInt8) ∉ u) (hs : u.length + v.length ≤ 4000) (w : World) (hm : MaxL w) :
    Calls Tryd.prog 29 #[.string ⟨(u ++ 10 :: v).toArray⟩, .string ⟨#[10]⟩] w fun e w' => e = .returned (.tuple #[.string ⟨u.toArray⟩, .string ⟨v.toArray⟩, .bool true]) ∧ Below w.heap.size w w' := by
  obtain ⟨m, hm⟩ := hm
  refine (Any.strings_Cut lays145 ⟨(u ++ 10 :: v).toArray⟩ ⟨#[10]⟩ m w (by simp [ByteArray.size]; omega) hm).mono ?_
  rintro e w' ⟨rfl, n, rfl⟩
  have hi : Lib.index (u ++ 10 :: v) [10] = u.length := by rw [Lib.index_one, Cf.indexByte_hit 10 u v hu]
  have hc : Lib.cut (u ++ 10 :: v) [10] = (u, v, true) := by
    unfold Lib.cut
    rw [hi, if_pos (by omega)]
    simp [List.drop_append]
  refine ⟨?_, below_drewN (Below.refl _ _) n⟩
  show Ending.returned (.tuple #[.string ⟨(Lib.cut (u ++ 10 :: v) [10]).1.toArray⟩, .string ⟨(Lib.cut (u ++ 10 :: v) [10]).2.1.toArray⟩, .bool (Lib.cut (u ++ 10 :: v) [10]).2.2]) = _
  rw [hc]
theorem cut_miss (u : List UInt8) (hu : (10 : UInt8) ∉ u) (hs : u.length ≤ 4000) (w : World) (hm : MaxL w) :
    Calls Tryd.prog 29 #[.string ⟨u.toArray⟩, .string ⟨#[10]⟩] w fun e w' => e = .returned (.tuple #[.string ⟨u.toArray⟩, .string ⟨#[]⟩, .bool false]) ∧ Below w.heap.size w w' := by
  obtain ⟨m, hm⟩ := hm
  refine (Any.strings_Cut lays145 ⟨u.toArray⟩ ⟨#[10]⟩ m w (by simp [ByteArray.size]; omega) hm).mono ?_
  rintro e w' ⟨rfl, n, rfl⟩
  have hi : Lib.index u [10] = -1 := by rw [Lib.index_one, Cf.indexByte_free 10 u hu]
  have hc : Lib.cut u [10] = (u, [], false) := by
    unfold Lib.cut
    rw [hi, if_neg (by omega)]
  refine ⟨?_, below_drewN (Below.refl _ _) n⟩
  show Ending.returned (.tuple #[.string ⟨(Lib.cut u [10]).1.toArray⟩, .string ⟨(Lib.cut u [10]).2.1.toArray⟩, .bool (Lib.cut u [10]).2.2]) = _
  rw [hc]

def ReadPost (g : Cf.Got) (w : World) (e : Ending) (w' : World) : Prop :=
  ∃ (A : Option Addr) (cap : Nat), e = .returned (.tuple #[.slice A g.code.length cap, .int .i64 g.line, .int .i64 g.err]) ∧ Codes w' A g.code ∧ Below w.heap.size w w'
theorem readPost_bad (n er : Int) (w w' : World) (g : Cf.Got) (hg : g = ⟨[], n, er⟩) (hb : Below w.heap.size w w') : ReadPost g w (.returned (.tuple #[.slice none 0 0, .int .i64 n, .int .i64 er])) w' := by
  subst hg
  exact ⟨none, 0, rfl, .inl rfl, hb⟩
theorem infoIns : (Tryd.prog.info? 35).map (fun i => (i.zero, i.size, i.bytes)) = some (some (.agg #[.int .i64 0, .int .i64 0, .int .i64 0, .int .i64 0]), 4, 32) := by kernel_rfl
/-- What holds at the head of Read's loop. -/
def RdRel (s : List UInt8) (w : World) (sv lv : Value) (wr : World) : Prop :=
  ∃ (ps : List (List UInt8)) (acc : List Cf.Ins) (A : Option Addr) (n cap : Nat), sv = .string ⟨(Cf.joinL 10 ps).toArray⟩ ∧ ps ≠ [] ∧ (∀ p ∈ ps, (10 : UInt8) ∉ p) ∧ (Cf.joinL 10 ps).length ≤ 4000 ∧ Cf.readT s = Cf.readP acc ps ∧
    lv = .slice A n cap ∧ acc.length = n ∧ n ≤ 200 ∧ wr.ownsRow w.heap.size 35 4 (.slice A n cap) n (acc.flatMap encI) ∧ Below w.heap.size w wr
set_option maxRecDepth 100000 in
set_option maxHeartbeats 4000000 in
theorem read_any (s : List UInt8) (hs : s.length ≤ maxLen) (w : World) (hm : MaxL w) (hL : TabL w) (hF : TabF w) (hN : TabN w) (hP : TabP w) (hS : SentS w) (hR : SentR w) :
    Calls Tryd.prog 12 #[.string ⟨s.toArray⟩] w (ReadPost (Cf.readT s) w) := by
  unfold maxLen at hs
  by_cases hlen : 4000 < s.length
  · have HG := Lib.hid (show Cf.readT s = ⟨[], 0, 1⟩ by unfold Cf.readT; rw [if_pos hlen])
    go_enter Tryd.func12, Tryd.ntmps12
    go_wp2
    go_ret3
    exact readPost_bad 0 1 _ _ _ HG.out (Below.refl _ _)
  · obtain ⟨i0, hi, hz0, hz1, hz2⟩ := info_parts infoIns
    have Hi := Lib.hid hi
    have Hz0 := Lib.hid hz0
    have Hz1 := Lib.hid hz1
    have Hz2 := Lib.hid hz2
    clear hi hz0 hz1 hz2
    have HG := Lib.hid (show Cf.readT s = Cf.readP [] (Cf.splitL 10 s) by unfold Cf.readT; rw [if_neg hlen])
    have HJ := Lib.hid (Cf.join_split 10 s)
    go_enter Tryd.func12, Tryd.ntmps12
    go_wp2
    go_loopw [0, 5] (fun sv lv wr => RdRel s w sv lv wr) (fun sv _ _ => strOf sv)
    case atStart => exact ⟨Cf.splitL 10 s, [], none, 0, 0, by rw [HJ.out], Cf.split_ne 10 s, Cf.split_free 10 s, by rw [HJ.out]; omega, HG.out, rfl, rfl, by omega, World.ownsRow_nil _ _ _ _, Below.refl _ _⟩
    case round =>
      obtain ⟨ps, acc, A, n, cap, rfl, hne, hfree, hjl, hg, rfl, hacc, hn, hown, hbw⟩ := hrel
      have Hg := Lib.hid hg
      have Hacc := Lib.hid hacc
      have Hown := Lib.hid hown
      have Hfree := Lib.hid hfree
      clear hg hacc hown hfree HG HJ
      cases ps with
      | nil => exact absurd rfl hne
      | cons line more =>
        cases more with
        | nil =>
          have hl10 := Hfree.out line (by simp)
          have Hl10 := Lib.hid hl10
          clear hl10 hne
          simp only [Cf.joinL] at hjl ⊢
          cases line with
          | nil =>
            have HZ := Lib.hid (show Cf.readT s = ⟨acc, 0, 0⟩ by rw [Hg.out]; rfl)
            go_wp2
            go_ret3
            refine ⟨A, cap, by rw [HZ.out]; rw [← Hacc.out]; rfl, ?_, hbw⟩
            rw [HZ.out]
            exact own_rd encI_len (by rw [Hacc.out]; exact Hown.out)
          | cons c r =>
            have HZ := Lib.hid (show Cf.readT s = ⟨[], acc.length + 1, 5⟩ by rw [Hg.out]; rfl)
            go_wp2_with fail
            refine (cut_miss (c :: r) Hl10.out (by simpa using hjl) _ (hm.below hbw)).mono ?_
            rintro e w1 ⟨rfl, hb1⟩
            have hbw1 := hbw.trans (hb1.mono hbw.size)
            clear hb1
            go_wp2
            go_ret3
            exact readPost_bad _ 5 _ _ _ (by rw [HZ.out, Hacc.out]) hbw1
        | cons q rest =>
          have hl10 := Hfree.out line (by simp)
          have Hl10 := Lib.hid hl10
          have Hfr := Lib.hid (fun p (hp : p ∈ q :: rest) => Hfree.out p (List.mem_cons_of_mem _ hp))
          have hjoin : Cf.joinL 10 (line :: q :: rest) = line ++ 10 :: Cf.joinL 10 (q :: rest) := rfl
          rw [hjoin] at hjl ⊢
          obtain ⟨v, hv⟩ : ∃ v, v = Cf.joinL 10 (q :: rest) := ⟨_, rfl⟩
          rw [← hv] at hjl ⊢
          have Hv := Lib.hid hv
          simp only [List.length_append, List.length_cons] at hjl
          have hie : (line ++ 10 :: v).isEmpty = false := by cases line <;> rfl
          clear hl10 hne hjoin hv
          go_wp2_with fail
          refine (cut_hit line v Hl10.out (by omega) _ (hm.below hbw)).mono ?_
          rintro e w1 ⟨rfl, hb1⟩
          have hbw1 := hbw.trans (hb1.mono hbw.size)
          have Hown1 := Lib.hid (own_below Hown.out hb1)
          clear hb1 hbw Hown
          by_cases h200 : n = 200
          · have HZ := Lib.hid (show Cf.readT s = ⟨[], acc.length + 1, 1⟩ by rw [Hg.out, Cf.readP, if_pos (by rw [Hacc.out]; exact h200)])
            have h200' : ((n : Int) == 200) = true := by rw [h200]; rfl
            clear h200
            go_wp2
            go_ret3
            exact readPost_bad _ 1 _ _ _ (by rw [HZ.out, Hacc.out]) hbw1
          · have hn' : n < 200 := by omega
            have h200' : ((n : Int) == 200) = false := by rw [beq_eq_false_iff_ne]; omega
            clear h200
            go_wp2_with fail
            refine (readInstr_any line (by omega) _ (hm.below hbw1) (hL.below hbw1) (hF.below hbw1) (hN.below hbw1) (hP.below hbw1) (hS.below hbw1) (hR.below hbw1)).mono ?_
            rintro e w2 ⟨x, rfl, hx, hb2⟩
            have hbw2 := hbw1.trans (hb2.mono hbw1.size)
            have Hown2 := Lib.hid (own_below Hown1.out hb2)
            clear hb2 hbw1 Hown1
            cases hp : Cf.parseL line with
            | none =>
              have HZ := Lib.hid (show Cf.readT s = ⟨[], acc.length + 1, 4⟩ by rw [Hg.out, Cf.readP, if_neg (by rw [Hacc.out]; omega), hp])
              clear hp hx
              simp only [Option.isSome_none]
              go_wp2
              go_ret3
              exact readPost_bad _ 4 _ _ _ (by rw [HZ.out, Hacc.out]) (hbw2.alloc hbw2.size _)
            | some y =>
              obtain rfl := hx y hp
              have HZ := Lib.hid (show Cf.readT s = Cf.readP (acc ++ [x]) (q :: rest) by rw [Hg.out, Cf.readP, if_neg (by rw [Hacc.out]; omega), hp])
              clear hp hx
              simp only [Option.isSome_some]
              obtain ⟨op, a, b, c⟩ := x
              have hwz := hbw2.size
              go_wp2_with (at_builtin; refine wpList_append_own _ rfl _ _ 22 rfl w.heap.size 35 i0 (.agg #[.int .i64 0, .int .i64 0, .int .i64 0, .int .i64 0]) 4 32 Tryd.underlying22 Hi.out Hz0.out Hz1.out Hz2.out rfl (by decide) _ n _ rfl ((Hown2.out.alloc _).alloc _) ⟨w2.heap.size + 1, 0, none⟩ 1 1 [.int .i64 op, .int .i64 a, .int .i64 b, .int .i64 c] rfl rfl ?c1 ?c2 ?c3 ?c4 ?c5 ?_)
              case c1 =>
                intro j u hj
                match j, hj with
                | 0, hj => simp at hj; subst hj; simp [Addr.add]
                | 1, hj => simp at hj; subst hj; simp [Addr.add]
                | 2, hj => simp at hj; subst hj; simp [Addr.add]
                | 3, hj => simp at hj; subst hj; simp [Addr.add]
                | (j + 4), hj => simp at hj
              case c2 => intro u hu; simp at hu; rcases hu with rfl | rfl | rfl | rfl <;> rfl
              case c3 => unfold maxLen; omega
              case c4 => omega
              case c5 => simp; omega
              intro v' w3 hown3 hg3 _
              obtain ⟨A', cap', rfl⟩ := own_form hown3
              have hbw3 : Below w.heap.size w w3 := ((hbw2.alloc hbw2.size _).alloc (by simp; omega) _).grown hg3 (by simp; omega) (fun k hk => own_blocks Hown2.out k hk)
              have Hown3 := Lib.hid hown3
              clear hown3 hg3 Hown2
              go_wp2
              go_roundw
              case rel => exact ⟨q :: rest, acc ++ [⟨op, a, b, c⟩], A', n + 1, cap', by rw [Hv.out], by simp, Hfr.out, by rw [← Hv.out]; omega, HZ.out, rfl, by simp [Hacc.out], by omega, by rw [List.flatMap_append]; exact Hown3.out, hbw3⟩
              case measure => simp [strOf, ByteArray.size]; omega
end Go.Proofs.YthbjeleiiilhlaaDoor
