/- Texts of the proof of TopApart: PipeP, NameP. -/
import Derived.Test.YtnnhhbjbdmgpiaaGreatDoorJ01
set_option linter.unusedSimpArgs false
set_option linter.unusedVariables false
/- Plain mathematics of chapter 5: a script one by one; the script of PipesFlow. No Go in it. -/
namespace Go.Proofs.YtnnhhbjbdmgpiaaGreatDoor.Cf
set_option maxRecDepth 100000
theorem ran_at : ∀ (l : List Actn) (k : Kern) (i : Nat) (a : Actn), l[i]? = some a → (ranT k l).answers[i]? = some (nextT (ranT k (l.take i)).kern a).ans ∧ (ranT k (l.take (i + 1))).kern = (nextT (ranT k (l.take i)).kern a).kern
 | [], _, _, _, h => by simp at h
 | b :: r, k, 0, a, h => by
   simp at h
   subst h
   exact ⟨rfl, rfl⟩
 | b :: r, k, i + 1, a, h => by
   have := ran_at r (nextT k b).kern i a (by simpa using h)
   exact this
theorem ran_take (l : List Actn) (k : Kern) (n : Nat) : (ranT k l).answers.take n = (ranT k (l.take n)).answers := by
 have h := congrArg Ran.answers (ran_app (l.take n) (l.drop n) k)
 rw [List.take_append_drop] at h
 rw [h]
 rcases Nat.le_total n l.length with h1 | h1
 ·rw [List.take_append_of_le_length (by rw [ran_len, List.length_take]; omega), List.take_of_length_le (by rw [ran_len, List.length_take]; omega)]
 ·have : l.drop n = [] := List.drop_eq_nil_of_le h1
  rw [this]
  show List.take n ((ranT k (l.take n)).answers ++ []) = _
  rw [List.append_nil, List.take_of_length_le (by rw [ran_len, List.length_take]; omega)]
def pk (c : List UInt8) (e : End) : Kern := ⟨[], List.replicate 1024 0, List.replicate 8 noNode, c :: List.replicate 5 [], ⟨true, ⟨2, 0, 0⟩ :: e :: List.replicate 4 noEnd⟩ :: List.replicate 3 noProc⟩
def wEnd : End := ⟨3, 0, 0⟩
def aPipe : Actn := ⟨9, 0, 0, 0, [], []⟩
def aWrite1 (s : List UInt8) : Actn := ⟨8, 0, 1, 0, [], s⟩
def aClose1 : Actn := ⟨6, 0, 1, 0, [], []⟩
theorem p_pipe : actT newKern aPipe = ⟨pk [] wEnd, ⟨0, 0, []⟩⟩ := by rfl
theorem p_write (c s : List UInt8) (hs : s ≠ []) (hl : s.length ≤ 100) (hc : c.length ≤ 20) :
  actT (pk c wEnd) (aWrite1 s) = if c.length = 20 then ⟨pk c wEnd, ⟨13, 0, []⟩⟩ else ⟨pk (c ++ s.take (20 - c.length)) wEnd, ⟨0, (s.take (20 - c.length)).length, []⟩⟩ := by
 have hpos : 0 < s.length := List.length_pos_iff.2 hs
 rw [act_end (p := 0) (n := 1) ⟨by show (6 : Int) ≤ 8; omega, by show (8 : Int) ≤ 8; omega⟩ rfl (by show 0 < 4; omega) rfl rfl (by show 1 < 6; omega) (by show (3 : Int) ≠ 0; decide)]
 have e0 : byEndT (pk c wEnd) 0 1 (aWrite1 s) = writeT (pk c wEnd) 0 1 s := rfl
 rw [e0]
 unfold writeT
 have e1 : endAt (pk c wEnd) 0 1 = wEnd := rfl
 rw [e1, if_neg (by show ¬ (3 : Int) = 2; decide), if_neg (by simp [inB]; omega), if_pos (by rfl)]
 unfold writePipeT
 have e2 : pipeAt (pk c wEnd) wEnd.node.toNat = c := rfl
 have e3 : hasB (pk c wEnd).procs 2 (wEnd.node.toNat : Int) = true := rfl
 rw [e2, e3, if_neg (by decide)]
 by_cases h : c.length = 20
 ·rw [if_pos h, if_pos (by rw [h]; rfl)]
  rfl
 ·rw [if_neg h, if_neg]
  ·rfl
  ·intro h0
   have := congrArg List.length h0
   rw [List.length_take, List.length_nil] at this
   omega
theorem p_read (c : List UInt8) (e : End) (m : Nat) (h1 : 1 ≤ m) (h2 : m ≤ 100) :
  actT (pk c e) (aRead 0 0 m) = if c = [] then ⟨pk c e, ⟨if hasB (pk c e).procs 3 0 then 13 else 12, 0, []⟩⟩ else ⟨pk (c.drop m) e, ⟨0, (c.take m).length, c.take m⟩⟩ := by
 rw [act_end (p := 0) (n := 0) ⟨by show (6 : Int) ≤ 7; omega, by show (7 : Int) ≤ 8; omega⟩ rfl (by show 0 < 4; omega) rfl rfl (by show 0 < 6; omega) (by show (2 : Int) ≠ 0; decide)]
 have e0 : byEndT (pk c e) 0 0 (aRead 0 0 m) = readT (pk c e) 0 0 m := rfl
 rw [e0]
 unfold readT
 have e1 : endAt (pk c e) 0 0 = ⟨2, 0, 0⟩ := rfl
 rw [e1, if_neg (by decide), if_neg (by simp [inB]; omega), if_pos rfl]
 unfold readPipeT
 show (if pipeAt (pk c e) 0 = [] then _ else _) = _
 have e3 : pipeAt (pk c e) 0 = c := rfl
 rw [e3, Int.toNat_natCast]
 split
 ·rfl
 ·rfl
theorem tidy_pk (c : List UInt8) (e : End) (he : e = noEnd ∨ e = wEnd) : tidyT (pk c e) = pk c e := by
 rcases he with rfl | rfl <;> rfl
theorem p_close (c : List UInt8) : actT (pk c wEnd) aClose1 = ⟨pk c noEnd, noAns⟩ := by
 have h : actT (pk c wEnd) aClose1 = ⟨tidyT (pk c noEnd), noAns⟩ := rfl
 rw [h, tidy_pk c noEnd (.inl rfl)]
theorem has_c (c : List UInt8) : hasB (pk c noEnd).procs 3 0 = false := rfl
inductive FlowAct : Actn → Prop
 | write (s : List UInt8) (h : s ≠ []) (hl : s.length ≤ 30) : FlowAct (aWrite1 s)
 | read (m : Nat) (h : 1 ≤ m) (hl : m ≤ 25) : FlowAct (aRead 0 0 m)
structure Flow (k : Kern) (e : End) (is os : List UInt8) (c : List UInt8) : Prop where
 kern : k = pk c e
 good : Good k
 flow : is = os ++ c
 room : c.length ≤ 20
theorem Flow.write {k : Kern} {is os c s : List UInt8} (h : Flow k wEnd is os c) (hs : s ≠ []) (hl : s.length ≤ 30) :
  (c.length = 20 ∧ (nextT k (aWrite1 s)).ans.code = 13 ∧ Flow (nextT k (aWrite1 s)).kern wEnd is os c) ∨ (c.length < 20 ∧ (nextT k (aWrite1 s)).ans.code = 0 ∧ ∃ n : Nat, (nextT k (aWrite1 s)).ans.n = n ∧ n ≤ s.length ∧ Flow (nextT k (aWrite1 s)).kern wEnd (is ++ s.take n) os (c ++ s.take n)) := by
 obtain ⟨rfl, hg, hf, hr⟩ := h
 have hg' := hg.next (aWrite1 s)
 rw [next_good hg rfl] at hg' ⊢
 rw [p_write c s hs (by omega) hr] at hg' ⊢
 split
 ·rename_i h20
  exact .inl ⟨h20, rfl, rfl, hg, hf, hr⟩
 ·rename_i h20
  rw [if_neg h20] at hg'
  refine .inr ⟨by omega, rfl, (s.take (20 - c.length)).length, rfl, by rw [List.length_take]; omega, ?_⟩
  have : s.take (s.take (20 - c.length)).length = s.take (20 - c.length) := by
   rw [List.length_take]
   rcases Nat.le_total (20 - c.length) s.length with h1 | h1
   ·rw [Nat.min_eq_left h1]
   ·rw [Nat.min_eq_right h1, List.take_length, List.take_of_length_le h1]
  rw [this]
  exact ⟨rfl, hg', by rw [hf, List.append_assoc], by simp; omega⟩
theorem Flow.read {k : Kern} {e : End} {is os c : List UInt8} (h : Flow k e is os c) {m : Nat} (h1 : 1 ≤ m) (h2 : m ≤ 100) :
  (c = [] ∧ (nextT k (aRead 0 0 m)).ans.code = (if hasB (pk c e).procs 3 0 then 13 else 12) ∧ (nextT k (aRead 0 0 m)).ans.data = [] ∧ Flow (nextT k (aRead 0 0 m)).kern e is os c) ∨ (c ≠ [] ∧ (nextT k (aRead 0 0 m)).ans.code = 0 ∧ (nextT k (aRead 0 0 m)).ans.data = c.take m ∧ Flow (nextT k (aRead 0 0 m)).kern e is (os ++ c.take m) (c.drop m)) := by
 obtain ⟨rfl, hg, hf, hr⟩ := h
 have hg' := hg.next (aRead 0 0 m)
 rw [next_good hg rfl] at hg' ⊢
 rw [p_read c e m h1 h2] at hg' ⊢
 split
 ·rename_i h0
  exact .inl ⟨h0, rfl, rfl, rfl, hg, hf, hr⟩
 ·rename_i h0
  rw [if_neg h0] at hg'
  exact .inr ⟨h0, rfl, rfl, rfl, hg', by rw [hf, List.append_assoc, List.take_append_drop], by simp; omega⟩
theorem Flow.close {k : Kern} {is os c : List UInt8} (h : Flow k wEnd is os c) : Flow (nextT k aClose1).kern noEnd is os c := by
 obtain ⟨rfl, hg, hf, hr⟩ := h
 have hg' := hg.next aClose1
 rw [next_good hg rfl] at hg' ⊢
 rw [p_close] at hg' ⊢
 exact ⟨rfl, hg', hf, hr⟩
theorem flow_start : Flow (nextT newKern aPipe).kern wEnd [] [] [] := by
 have hg' := good_new.next aPipe
 rw [next_good good_new rfl] at hg' ⊢
 rw [p_pipe] at hg' ⊢
 exact ⟨rfl, hg', rfl, by decide⟩
end Go.Proofs.YtnnhhbjbdmgpiaaGreatDoor.Cf
/- Plain mathematics of chapter 5: the names and modules that actions leave; the scripts of KernelsGood and TopApart. No Go in it. -/
namespace Go.Proofs.YtnnhhbjbdmgpiaaGreatDoor.Cf
set_option maxRecDepth 100000
def NamesIn (S : List (List UInt8)) (k : Kern) : Prop := ∀ n ∈ k.nodes, n.name ∈ S
section
variable {S : List (List UInt8)} {k : Kern}
theorem NamesIn.at_ (h : NamesIn S k) (h0 : [] ∈ S) (i : Nat) : (nodeAt k i).name ∈ S := by
 rw [nodeAt, List.getD_eq_getElem?_getD]
 cases hn : k.nodes[i]? with
 | none => exact h0
 | some n => exact h n (List.mem_of_getElem? hn)
theorem NamesIn.setNode (h : NamesIn S k) {i : Nat} {n : Node} (hn : n.name ∈ S) : NamesIn S (setNode k i n) := by
 intro m hm
 rcases set_mem hm with hm | rfl
 ·exact h m hm
 ·exact hn
theorem NamesIn.tidy (h : NamesIn S k) (h0 : [] ∈ S) : NamesIn S (tidyT k) := by
 intro m hm
 obtain ⟨i, hi⟩ := List.mem_iff_getElem?.1 (show m ∈ k.nodes.mapIdx (tidyN k.procs) from hm)
 rw [mapIdx_at] at hi
 cases hn : k.nodes[i]? with
 | none => rw [hn] at hi; cases hi
 | some n =>
   rw [hn] at hi
   simp at hi
   subst hi
   rcases tidyN_or k.procs i n with ⟨h1, _⟩ | ⟨h1, _⟩
   ·rw [h1]; exact h n (List.mem_of_getElem? hn)
   ·rw [h1]; exact h0
theorem NamesIn.act (h : NamesIn S k) (h0 : [] ∈ S) {a : Actn} (h1 : a.kind ≠ 1) (h2 : a.kind = 2 ∨ a.kind = 3 → a.name ∈ S) : NamesIn S (actT k a).kern := by
 have hadd : ∀ f : Node, f.name ∈ S → NamesIn S (addT k f).kern := by
  intro f hf
  unfold addT
  repeat' split
  all_goals first | exact h | exact h.setNode hf
 have hset : ∀ p i e, NamesIn S (setEnd k p i e) := fun p i e => h
 unfold actT
 rw [if_neg h1]
 split
 ·rename_i hk; exact hadd _ (h2 (.inl hk))
 ·split
  ·rename_i hk; exact hadd _ (h2 (.inr hk))
  ·split
   ·unfold unlinkT
    split
    ·exact h
    ·exact (h.setNode h0).tidy h0
   ·split
    ·unfold byProcT
     split
     ·unfold openT
      repeat' split
      all_goals exact h
     ·split
      ·unfold pipeT
       repeat' split
       all_goals exact h
      ·split
       ·unfold forkT
        split
        all_goals exact h
       ·split
        ·exact NamesIn.tidy (k := Cf.setProc k _ _) h h0
        ·split
         ·unfold byEndT
          split
          ·unfold readT readPipeT readDevT readFileT gaveT
           repeat' split
           all_goals exact h
          ·split
           ·unfold writeT writePipeT writeDevT writeFileT
            repeat' split
            all_goals first | exact h | exact h.setNode (h.at_ h0 _)
           ·exact NamesIn.tidy (k := Cf.setEnd k _ _ _) h h0
         ·exact h
    ·exact h
theorem act_mods {a : Actn} (h1 : a.kind ≠ 1) : (actT k a).kern.mods = k.mods := by
 have hadd : ∀ f : Node, (addT k f).kern.mods = k.mods := by
  intro f
  unfold addT
  repeat' split
  all_goals rfl
 unfold actT
 rw [if_neg h1]
 split
 ·exact hadd _
 ·split
  ·exact hadd _
  ·split
   ·unfold unlinkT
    split
    all_goals rfl
   ·split
    ·unfold byProcT
     split
     ·unfold openT
      repeat' split
      all_goals rfl
     ·split
      ·unfold pipeT
       repeat' split
       all_goals rfl
      ·split
       ·unfold forkT
        split
        all_goals rfl
       ·split
        ·rfl
        ·split
         ·unfold byEndT
          split
          ·unfold readT readPipeT readDevT readFileT gaveT
           repeat' split
           all_goals rfl
          ·split
           ·unfold writeT writePipeT writeDevT writeFileT
            repeat' split
            all_goals rfl
           ·rfl
         ·rfl
    ·rfl
theorem NamesIn.next (h : NamesIn S k) (h0 : [] ∈ S) {a : Actn} (h1 : a.kind ≠ 1) (h2 : a.kind = 2 ∨ a.kind = 3 → a.name ∈ S) : NamesIn S (nextT k a).kern := by
 have e : (nextT k a).kern = (actT k a).kern ∨ (nextT k a).kern = k := by
  unfold nextT doT
  repeat' split
  all_goals first | exact .inl rfl | exact .inr rfl | (rename_i hh; simp at hh)
 rcases e with e | e
 ·rw [e]; exact h.act h0 h1 h2
 ·rw [e]; exact h
theorem next_mods {a : Actn} (h1 : a.kind ≠ 1) : (nextT k a).kern.mods = k.mods := by
 have e : (nextT k a).kern = (actT k a).kern ∨ (nextT k a).kern = k := by
  unfold nextT doT
  repeat' split
  all_goals first | exact .inl rfl | exact .inr rfl | (rename_i hh; simp at hh)
 rcases e with e | e
 ·rw [e]; exact act_mods h1
 ·rw [e]
end
theorem NamesIn.ran {S : List (List UInt8)} (h0 : [] ∈ S) : ∀ (l : List Actn) (k : Kern), NamesIn S k → (∀ a ∈ l, a.kind ≠ 1 ∧ (a.kind = 2 ∨ a.kind = 3 → a.name ∈ S)) → NamesIn S (ranT k l).kern ∧ (ranT k l).kern.mods = k.mods
 | [], _, h, _ => ⟨h, rfl⟩
 | a :: r, k, h, ha => by
   obtain ⟨h1, h2⟩ := ha a (List.mem_cons_self ..)
   obtain ⟨h3, h4⟩ := NamesIn.ran h0 r (nextT k a).kern (h.next h0 h1 h2) (fun b hb => ha b (List.mem_cons_of_mem _ hb))
   exact ⟨h3, h4.trans (next_mods h1)⟩
theorem NamesIn.no {S : List (List UInt8)} {k : Kern} (h : NamesIn S k) {name : List UInt8} (hn : name ∉ S) : idxT (namedB name) k.nodes = -1 := by
 refine idx_none ?_
 rw [List.any_eq_false]
 intro n hm hh
 exact hn ((named_iff.1 hh).1 ▸ h n hm)
structure ActOk (a : Actn) : Prop where
 kind : 2 ≤ a.kind ∧ a.kind ≤ 11 ∧ a.kind ≠ 3
 name : a.name = [] ∨ a.name = [102] ∨ a.name = [103] ∨ a.name = [100, 101, 118]
 exit : a.kind = 11 → a.p ≠ 0
def okNames : List (List UInt8) := [[], [102], [103], [100, 101, 118]]
theorem ActOk.may {a : Actn} (h : ActOk a) : a.kind ≠ 1 ∧ (a.kind = 2 ∨ a.kind = 3 → a.name ∈ okNames) := by
 refine ⟨by have := h.kind; omega, fun _ => ?_⟩
 rcases h.name with h | h | h | h <;> rw [h] <;> decide
def tailActs (p : Nat) : List Actn := [⟨12 + p, 0, 0, 0, [], []⟩, ⟨7, 4, 0, 0, [], []⟩, ⟨1, 0, 0, 0, [], [97, 98, 99]⟩, ⟨3, 0, 0, 0, [120], []⟩, ⟨4, 0, 0, 0, [122, 122], []⟩]
def tailAns : List Ans := [⟨3, 0, []⟩, ⟨6, 0, []⟩, ⟨5, 0, []⟩, ⟨6, 0, []⟩, ⟨6, 0, []⟩]
theorem new_names : NamesIn okNames newKern := by
 intro n hn
 rw [List.eq_of_mem_replicate hn]
 decide
theorem good_tail (acts : List Actn) (h : ∀ a ∈ acts, ActOk a) (p : Nat) :
  Good (ranT newKern acts).kern ∧ (ranT newKern (acts ++ tailActs p)).answers = (ranT newKern acts).answers ++ tailAns ∧ (ranT newKern (acts ++ tailActs p)).kern = (ranT newKern acts).kern := by
 have hg := Good.ran acts good_new
 obtain ⟨hn, hm⟩ := NamesIn.ran (by decide) acts newKern new_names fun a ha => (h a ha).may
 refine ⟨hg, ?_⟩
 rw [ran_app]
 generalize (ranT newKern acts).kern = k at hg hn hm ⊢
 have hm0 : k.mods = [] := hm
 have e1 : nextT k ⟨12 + p, 0, 0, 0, [], []⟩ = ⟨k, ⟨3, 0, []⟩⟩ := next_bad hg (by simp [inB]; omega)
 have e2 : nextT k ⟨7, 4, 0, 0, [], []⟩ = ⟨k, ⟨6, 0, []⟩⟩ := by
  rw [next_good hg (by rfl)]
  unfold actT
  rw [if_neg (by decide), if_neg (by decide), if_neg (by decide), if_neg (by decide), if_neg]
  ·rfl
  ·rintro ⟨hw, _⟩
   rw [hg.procsL] at hw
   exact absurd hw (by decide)
 have e3 : nextT k ⟨1, 0, 0, 0, [], [97, 98, 99]⟩ = ⟨k, ⟨5, 0, []⟩⟩ := by
  rw [next_good hg (by rfl)]
  unfold actT
  rw [if_pos (by rfl)]
  unfold installT
  have hd : decT [97, 98, 99] = ⟨noMod, 5⟩ := by
   unfold decT
   rw [if_neg (by decide), if_pos (by decide)]
  simp only [hd]
  rw [if_pos (by decide)]
  rfl
 have e4 : nextT k ⟨3, 0, 0, 0, [120], []⟩ = ⟨k, ⟨6, 0, []⟩⟩ := by
  rw [next_good hg (by rfl)]
  unfold actT
  rw [if_neg (by decide), if_neg (by decide), if_pos (by rfl)]
  unfold addT
  rw [if_neg (by decide)]
  simp only [hn.no (show [120] ∉ okNames by decide), hm0]
  rfl
 have e5 : nextT k ⟨4, 0, 0, 0, [122, 122], []⟩ = ⟨k, ⟨6, 0, []⟩⟩ := by
  rw [next_good hg (by rfl)]
  unfold actT
  rw [if_neg (by decide), if_neg (by decide), if_neg (by decide), if_pos (by rfl)]
  unfold unlinkT
  simp only [hn.no (show [122, 122] ∉ okNames by decide)]
  rfl
 unfold tailActs
 simp only [ranT, e1, e2, e3, e4, e5]
 exact ⟨rfl, trivial⟩
def apartActs (s : List UInt8) (a b : Nat) : List Actn := [aCreate, aOpen, aWrite s, aClose, aOpen, aFork, aRead 0 0 a, aRead 1 0 b, aExit, aRead 0 0 b]
theorem f_close (d : List UInt8) (n : Nat) (q : Proc) (hq : q = noProc) : actT (fk (nodeF d) (fe n :: frest 5) q) aClose = ⟨fk (nodeF d) (frest 6) q, noAns⟩ := by subst hq; rfl
theorem f_fork (d : List UInt8) : actT (fk (nodeF d) (fe 0 :: frest 5) noProc) aFork = ⟨fk (nodeF d) (fe 0 :: frest 5) ⟨true, fe 0 :: frest 5⟩, ⟨0, 1, []⟩⟩ := by rfl
theorem f_exit (d : List UInt8) (n m : Nat) : actT (fk (nodeF d) (fe n :: frest 5) ⟨true, fe m :: frest 5⟩) aExit = ⟨fk (nodeF d) (fe n :: frest 5) noProc, noAns⟩ := by rfl
theorem apart_ran (s : List UInt8) (a b : Nat) (h1 : 1 ≤ a) (ha : a ≤ 9) (h2 : 1 ≤ b) (hb : b ≤ 9) (hs : 30 ≤ s.length) (hs2 : s.length ≤ 100) :
  ∃ x0 x1 x2 x3 x4 x5 x6 x7 x8 x9 : Ans, (ranT newKern (apartActs s a b)).answers = [x0, x1, x2, x3, x4, x5, x6, x7, x8, x9] ∧ x6.data = s.take a ∧ x7.data = s.take b ∧ x9.data = (s.drop a).take b := by
 have hne : s ≠ [] := by rintro rfl; simp at hs
 have hlen : ∀ n : Nat, n ≤ 9 → (s.take n).length = n := fun n hn => by rw [List.length_take]; omega
 unfold apartActs
 obtain ⟨q1, g1⟩ := ran_step (r := [aOpen, aWrite s, aClose, aOpen, aFork, aRead 0 0 a, aRead 1 0 b, aExit, aRead 0 0 b]) good_new rfl f_create
 obtain ⟨q2, g2⟩ := ran_step (r := [aWrite s, aClose, aOpen, aFork, aRead 0 0 a, aRead 1 0 b, aExit, aRead 0 0 b]) g1 rfl (f_open0 [] noProc)
 have e3 := f_write [] s (frest 5) noProc hne (by simp; omega)
 rw [List.nil_append] at e3
 simp only [List.length_nil, Nat.zero_add] at e3
 obtain ⟨q3, g3⟩ := ran_step (r := [aClose, aOpen, aFork, aRead 0 0 a, aRead 1 0 b, aExit, aRead 0 0 b]) g2 rfl e3
 obtain ⟨q4, g4⟩ := ran_step (r := [aOpen, aFork, aRead 0 0 a, aRead 1 0 b, aExit, aRead 0 0 b]) g3 rfl (f_close s s.length noProc rfl)
 obtain ⟨q5, g5⟩ := ran_step (r := [aFork, aRead 0 0 a, aRead 1 0 b, aExit, aRead 0 0 b]) g4 rfl (f_open0 s noProc)
 obtain ⟨q6, g6⟩ := ran_step (r := [aRead 0 0 a, aRead 1 0 b, aExit, aRead 0 0 b]) g5 rfl (f_fork s)
 have e7 := f_read (nd := nodeF s) rfl (p := 0) (n := 0) (pos := 0) (m := a) (fk (nodeF s) (fe 0 :: frest 5) ⟨true, fe 0 :: frest 5⟩) rfl (by omega) rfl (by show 0 < 6; omega) rfl h1 (by omega)
 rw [List.drop_zero, if_neg (by exact hne)] at e7
 have e7' : actT (fk (nodeF s) (fe 0 :: frest 5) ⟨true, fe 0 :: frest 5⟩) (aRead 0 0 a) = ⟨fk (nodeF s) (fe a :: frest 5) ⟨true, fe 0 :: frest 5⟩, ⟨0, a, s.take a⟩⟩ := by
  rw [e7]
  show Did.mk (fk (nodeF s) (fe (0 + (s.take a).length) :: frest 5) ⟨true, fe 0 :: frest 5⟩) ⟨0, ((s.take a).length : Nat), s.take a⟩ = _
  rw [Nat.zero_add, hlen a ha]
 obtain ⟨q7, g7⟩ := ran_step (r := [aRead 1 0 b, aExit, aRead 0 0 b]) g6 rfl e7'
 have e8 := f_read (nd := nodeF s) rfl (p := 1) (n := 0) (pos := 0) (m := b) (fk (nodeF s) (fe a :: frest 5) ⟨true, fe 0 :: frest 5⟩) rfl (by omega) rfl (by show 0 < 6; omega) rfl h2 (by omega)
 rw [List.drop_zero, if_neg (by exact hne)] at e8
 have e8' : actT (fk (nodeF s) (fe a :: frest 5) ⟨true, fe 0 :: frest 5⟩) (aRead (1 : Nat) 0 b) = ⟨fk (nodeF s) (fe a :: frest 5) ⟨true, fe b :: frest 5⟩, ⟨0, b, s.take b⟩⟩ := by
  rw [e8]
  show Did.mk (fk (nodeF s) (fe a :: frest 5) ⟨true, fe (0 + (s.take b).length) :: frest 5⟩) ⟨0, ((s.take b).length : Nat), s.take b⟩ = _
  rw [Nat.zero_add, hlen b hb]
 obtain ⟨q8, g8⟩ := ran_step (r := [aExit, aRead 0 0 b]) g7 rfl e8'
 obtain ⟨q9, g9⟩ := ran_step (r := [aRead 0 0 b]) g8 rfl (f_exit s a b)
 have e10 := f_read (nd := nodeF s) rfl (p := 0) (n := 0) (pos := a) (m := b) (fk (nodeF s) (fe a :: frest 5) noProc) rfl (by omega) rfl (by show 0 < 6; omega) rfl h2 (by omega)
 rw [if_neg (by intro h0; have := congrArg List.length h0; rw [List.length_drop, List.length_nil] at this; have : s.length - a = 0 := this; omega)] at e10
 obtain ⟨q10, _⟩ := ran_step (r := []) g9 rfl e10
 rw [q1, q2, q3, q4, q5, q6, q7, q8, q9, q10]
 exact ⟨_, _, _, _, _, _, _, _, _, _, rfl, rfl, rfl, rfl⟩
end Go.Proofs.YtnnhhbjbdmgpiaaGreatDoor.Cf
