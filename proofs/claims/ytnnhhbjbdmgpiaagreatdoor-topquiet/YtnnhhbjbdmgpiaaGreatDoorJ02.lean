/- Texts of the proofs: SafeE, FileP, PipeP, NameP, SafeT, QuietP, QuieQ, LoudP, BitsP. -/
import Derived.Test.YtnnhhbjbdmgpiaaGreatDoorJ01
import Derived.Test.YtnnhhbjbdmgpiaaGreatDoorJ00
import Derived.Laws.BitsLemmas
import Derived.WalkKit
set_option linter.unusedSimpArgs false
set_option linter.unusedVariables false
/- Small words for the walks of chapter 3. No Go in it. -/
namespace Go.Proofs.YtnnhhbjbdmgpiaaGreatDoor
set_option maxRecDepth 100000
theorem eqb {x y : Int} (h : x = y) : (x == y) = true := by rw [beq_iff_eq]; exact h
theorem neb {x y : Int} (h : ¬ x = y) : (x == y) = false := by rw [beq_eq_false_iff_ne]; exact h
theorem eqn {x y : Int} (h : x = y) : (x != y) = false := by simp [h]
theorem nen {x y : Int} (h : ¬ x = y) : (x != y) = true := by simp [h]
def Cf.useB (i : Cf.Ins) : Bool := Cf.inB i.a 4 6 || (Cf.inB i.b 4 6 || (Cf.inB i.op 2 7 && Cf.inB i.c 4 6))
def Cf.trustB (l : List Cf.Ins) (k : Nat) (i : Cf.Ins) : Bool := (!Cf.ldst i || decide (i.b = 4)) && Cf.destB l k i
theorem Cf.okI_eq (l : List Cf.Ins) (k : Nat) (i : Cf.Ins) : Cf.okI l k i = (!(Cf.jumpsB i && decide ((l.length : Int) ≤ i.c)) && Cf.trustB l k i) := by
 unfold Cf.okI Cf.trustB Cf.ldst
 by_cases hd : Cf.destB l k i = true
 ·rw [if_pos hd, hd]
  by_cases h1 : (i.op = 8 ∨ i.op = 9) ∧ i.b ≠ 4 ∨ Cf.jumpsB i = true ∧ (l.length : Int) ≤ i.c
  ·rw [if_pos h1]
   rcases h1 with ⟨h, h'⟩ | ⟨h, h'⟩
   ·rcases h with h | h <;> simp [h, h']
   ·simp [h, h']
  ·rw [if_neg h1]
   simp only [_root_.not_or, Classical.not_and_iff_not_or_not] at h1
   obtain ⟨h2, h3⟩ := h1
   by_cases hj : Cf.jumpsB i = true
   ·have : ¬ (l.length : Int) ≤ i.c := by rcases h3 with h | h; exact absurd hj h; exact h
    by_cases hb : i.b = 4
    ·simp [this, hb]
    ·have hh : ¬ i.op = 8 ∧ ¬ i.op = 9 := by
      rcases h2 with h | h
      ·exact h
      ·exact absurd (fun e => hb e) h
     simp [this, hh.1, hh.2]
   ·have hj' : Cf.jumpsB i = false := by simpa using hj
    by_cases hb : i.b = 4
    ·simp [hj', hb]
    ·have hh : ¬ i.op = 8 ∧ ¬ i.op = 9 := by
      rcases h2 with h | h
      ·exact h
      ·exact absurd (fun e => hb e) h
     simp [hj', hh.1, hh.2]
 ·have hd' : Cf.destB l k i = false := by simpa using hd
  simp [hd']
theorem Cf.plainI_eq (l : List Cf.Ins) (i : Cf.Ins) : Cf.plainI l i = (!(Cf.jumpsB i && decide ((l.length : Int) ≤ i.c)) && !Cf.useB i) := by
 unfold Cf.plainI Cf.useB
 cases Cf.inB i.a 4 6 <;> cases Cf.inB i.b 4 6 <;> cases Cf.inB i.op 2 7 <;> cases Cf.inB i.c 4 6 <;> cases Cf.jumpsB i <;> by_cases h : (l.length : Int) ≤ i.c <;> simp [h]
def Cf.okT (l : List Cf.Ins) (t : Nat → Cf.Ins → Bool) (k : Nat) : Bool :=
 match l[k]? with
 | some i => !(Cf.jumpsB i && decide ((l.length : Int) ≤ i.c)) && t k i
 | none => true
def Cf.chkT (l : List Cf.Ins) (t : Nat → Cf.Ins → Bool) : Int := if Cf.fault l = 0 then (if Cf.lastB l && (List.range l.length).all (Cf.okT l t) then 0 else 10) else Cf.fault l
theorem Cf.chkT_trust (l : List Cf.Ins) : Cf.chkT l (Cf.trustB l) = Cf.safeT l := by
 unfold Cf.chkT Cf.safeT
 have : Cf.okT l (Cf.trustB l) = Cf.okAt l := by
  funext k
  unfold Cf.okT Cf.okAt
  cases l[k]? with
  | none => rfl
  | some i => exact (Cf.okI_eq l k i).symm
 rw [this]
theorem Cf.chkT_plain (l : List Cf.Ins) : Cf.chkT l (fun _ i => !Cf.useB i) = if Cf.fault l = 0 then (if Cf.plainB l then 0 else 10) else Cf.fault l := by
 unfold Cf.chkT Cf.plainB
 have : (List.range l.length).all (Cf.okT l (fun _ i => !Cf.useB i)) = l.all (Cf.plainI l) := by
  rw [Bool.eq_iff_iff, List.all_eq_true, List.all_eq_true]
  constructor
  ·intro h i hi
   obtain ⟨k, hk⟩ := List.getElem?_of_mem hi
   have hlt : k < l.length := (List.getElem?_eq_some_iff.1 hk).1
   have := h k (List.mem_range.2 hlt)
   unfold Cf.okT at this
   rw [hk] at this
   rw [Cf.plainI_eq]
   exact this
  ·intro h k hk
   unfold Cf.okT
   cases hx : l[k]? with
   | none => rfl
   | some i =>
     have := h i (List.mem_of_getElem? hx)
     rw [Cf.plainI_eq] at this
     exact this
 rw [this]
theorem Cf.chkT_bad (l : List Cf.Ins) (t : Nat → Cf.Ins → Bool) (k : Nat) (i : Cf.Ins) (hf : Cf.fault l = 0) (hi : l[k]? = some i) (ho : (!(Cf.jumpsB i && decide ((l.length : Int) ≤ i.c)) && t k i) = false) : Cf.chkT l t = 10 := by
 unfold Cf.chkT
 rw [if_pos hf, if_neg]
 intro hb
 simp only [Bool.and_eq_true] at hb
 have hk : k < l.length := (List.getElem?_eq_some_iff.1 hi).1
 have := List.all_eq_true.1 hb.2 k (List.mem_range.2 hk)
 rw [Cf.okT, hi] at this
 simp only at this
 rw [ho] at this
 cases this
theorem Cf.chkT_end (l : List Cf.Ins) (t : Nat → Cf.Ins → Bool) (hf : Cf.fault l = 0) (hl : Cf.lastB l = true) (h : ∀ j, j < l.length → Cf.okT l t j = true) : Cf.chkT l t = 0 := by
 unfold Cf.chkT
 rw [if_pos hf, if_pos]
 simp only [Bool.and_eq_true]
 exact ⟨hl, List.all_eq_true.2 fun j hj => h j (List.mem_range.1 hj)⟩
theorem Cf.chkT_on (l : List Cf.Ins) (t : Nat → Cf.Ins → Bool) (k : Nat) (i : Cf.Ins) (hi : l[k]? = some i) (h : ∀ j, j < k → Cf.okT l t j = true) (ho : (!(Cf.jumpsB i && decide ((l.length : Int) ≤ i.c)) && t k i) = true) : ∀ j, j < k + 1 → Cf.okT l t j = true := by
 intro j hj
 rcases Nat.lt_succ_iff_lt_or_eq.1 hj with h1 | h1
 ·exact h j h1
 ·subst h1
  rw [Cf.okT, hi]
  exact ho
end Go.Proofs.YtnnhhbjbdmgpiaaGreatDoor
/- Plain mathematics of chapter 5: the scripts of FilesBack and TopApart. No Go in it. -/
namespace Go.Proofs.YtnnhhbjbdmgpiaaGreatDoor.Cf
set_option maxRecDepth 100000
def fk (nd : Node) (es : List End) (q : Proc) : Kern := ⟨[], List.replicate 1024 0, nd :: List.replicate 7 noNode, List.replicate 6 [], ⟨true, es⟩ :: q :: List.replicate 2 noProc⟩
def aRead (p n : Nat) (m : Nat) : Actn := ⟨7, p, n, m, [], []⟩
end Go.Proofs.YtnnhhbjbdmgpiaaGreatDoor.Cf
/- Plain mathematics of chapter 5: a script one by one; the script of PipesFlow. No Go in it. -/
namespace Go.Proofs.YtnnhhbjbdmgpiaaGreatDoor.Cf
set_option maxRecDepth 100000
def pk (c : List UInt8) (e : End) : Kern := ⟨[], List.replicate 1024 0, List.replicate 8 noNode, c :: List.replicate 5 [], ⟨true, ⟨2, 0, 0⟩ :: e :: List.replicate 4 noEnd⟩ :: List.replicate 3 noProc⟩
def wEnd : End := ⟨3, 0, 0⟩
def aWrite1 (s : List UInt8) : Actn := ⟨8, 0, 1, 0, [], s⟩
def aClose1 : Actn := ⟨6, 0, 1, 0, [], []⟩
theorem p_write (c s : List UInt8) (hs : s ≠ []) (hl : s.length ≤ 100) (hc : c.length ≤ 20) :
  actT (pk c wEnd) (aWrite1 s) = if c.length = 20 then ⟨pk c wEnd, ⟨13, 0, []⟩⟩ else ⟨pk (c ++ s.take (20 - c.length)) wEnd, ⟨0, (s.take (20 - c.length)).length, []⟩⟩ := by
 have hpos : 0 < s.length := List.length_pos_iff.2 hs
 rw [act_end (p := 0) (n := 1) ⟨by show (6 : Int) ≤ 8; omega, by show (8 : Int) ≤ 8; omega⟩ rfl (by show 0 < 4; omega) rfl rfl (by show 1 < 6; omega) (by show (3 : Int) ≠ 0; decide)]
 have e0 : byEndT (pk c wEnd) 0 1 (aWrite1 s) = writeT (pk c wEnd) 0 1 s := rfl
 rw [e0]
 unfold writeT
 have e1 : endAt (pk c wEnd) 0 1 = wEnd := rfl
 rw [e1, if_neg (by show ¬ (3 : Int) = 2; decide), if_neg (by simp [inB]; omega), if_pos (by rfl)]
 unfold writePipeT
 have e2 : pipeAt (pk c wEnd) wEnd.node.toNat = c := rfl
 have e3 : hasB (pk c wEnd).procs 2 (wEnd.node.toNat : Int) = true := rfl
 rw [e2, e3, if_neg (by decide)]
 by_cases h : c.length = 20
 ·rw [if_pos h, if_pos (by rw [h]; rfl)]
  rfl
 ·rw [if_neg h, if_neg]
  ·rfl
  ·intro h0
   have := congrArg List.length h0
   rw [List.length_take, List.length_nil] at this
   omega
theorem p_read (c : List UInt8) (e : End) (m : Nat) (h1 : 1 ≤ m) (h2 : m ≤ 100) :
  actT (pk c e) (aRead 0 0 m) = if c = [] then ⟨pk c e, ⟨if hasB (pk c e).procs 3 0 then 13 else 12, 0, []⟩⟩ else ⟨pk (c.drop m) e, ⟨0, (c.take m).length, c.take m⟩⟩ := by
 rw [act_end (p := 0) (n := 0) ⟨by show (6 : Int) ≤ 7; omega, by show (7 : Int) ≤ 8; omega⟩ rfl (by show 0 < 4; omega) rfl rfl (by show 0 < 6; omega) (by show (2 : Int) ≠ 0; decide)]
 have e0 : byEndT (pk c e) 0 0 (aRead 0 0 m) = readT (pk c e) 0 0 m := rfl
 rw [e0]
 unfold readT
 have e1 : endAt (pk c e) 0 0 = ⟨2, 0, 0⟩ := rfl
 rw [e1, if_neg (by decide), if_neg (by simp [inB]; omega), if_pos rfl]
 unfold readPipeT
 show (if pipeAt (pk c e) 0 = [] then _ else _) = _
 have e3 : pipeAt (pk c e) 0 = c := rfl
 rw [e3, Int.toNat_natCast]
 split
 ·rfl
 ·rfl
theorem tidy_pk (c : List UInt8) (e : End) (he : e = noEnd ∨ e = wEnd) : tidyT (pk c e) = pk c e := by
 rcases he with rfl | rfl <;> rfl
theorem p_close (c : List UInt8) : actT (pk c wEnd) aClose1 = ⟨pk c noEnd, noAns⟩ := by
 have h : actT (pk c wEnd) aClose1 = ⟨tidyT (pk c noEnd), noAns⟩ := rfl
 rw [h, tidy_pk c noEnd (.inl rfl)]
structure Flow (k : Kern) (e : End) (is os : List UInt8) (c : List UInt8) : Prop where
 kern : k = pk c e
 good : Good k
 flow : is = os ++ c
 room : c.length ≤ 20
theorem Flow.write {k : Kern} {is os c s : List UInt8} (h : Flow k wEnd is os c) (hs : s ≠ []) (hl : s.length ≤ 30) :
  (c.length = 20 ∧ (nextT k (aWrite1 s)).ans.code = 13 ∧ Flow (nextT k (aWrite1 s)).kern wEnd is os c) ∨ (c.length < 20 ∧ (nextT k (aWrite1 s)).ans.code = 0 ∧ ∃ n : Nat, (nextT k (aWrite1 s)).ans.n = n ∧ n ≤ s.length ∧ Flow (nextT k (aWrite1 s)).kern wEnd (is ++ s.take n) os (c ++ s.take n)) := by
 obtain ⟨rfl, hg, hf, hr⟩ := h
 have hg' := hg.next (aWrite1 s)
 rw [next_good hg rfl] at hg' ⊢
 rw [p_write c s hs (by omega) hr] at hg' ⊢
 split
 ·rename_i h20
  exact .inl ⟨h20, rfl, rfl, hg, hf, hr⟩
 ·rename_i h20
  rw [if_neg h20] at hg'
  refine .inr ⟨by omega, rfl, (s.take (20 - c.length)).length, rfl, by rw [List.length_take]; omega, ?_⟩
  have : s.take (s.take (20 - c.length)).length = s.take (20 - c.length) := by
   rw [List.length_take]
   rcases Nat.le_total (20 - c.length) s.length with h1 | h1
   ·rw [Nat.min_eq_left h1]
   ·rw [Nat.min_eq_right h1, List.take_length, List.take_of_length_le h1]
  rw [this]
  exact ⟨rfl, hg', by rw [hf, List.append_assoc], by simp; omega⟩
theorem Flow.read {k : Kern} {e : End} {is os c : List UInt8} (h : Flow k e is os c) {m : Nat} (h1 : 1 ≤ m) (h2 : m ≤ 100) :
  (c = [] ∧ (nextT k (aRead 0 0 m)).ans.code = (if hasB (pk c e).procs 3 0 then 13 else 12) ∧ (nextT k (aRead 0 0 m)).ans.data = [] ∧ Flow (nextT k (aRead 0 0 m)).kern e is os c) ∨ (c ≠ [] ∧ (nextT k (aRead 0 0 m)).ans.code = 0 ∧ (nextT k (aRead 0 0 m)).ans.data = c.take m ∧ Flow (nextT k (aRead 0 0 m)).kern e is (os ++ c.take m) (c.drop m)) := by
 obtain ⟨rfl, hg, hf, hr⟩ := h
 have hg' := hg.next (aRead 0 0 m)
 rw [next_good hg rfl] at hg' ⊢
 rw [p_read c e m h1 h2] at hg' ⊢
 split
 ·rename_i h0
  exact .inl ⟨h0, rfl, rfl, rfl, hg, hf, hr⟩
 ·rename_i h0
  rw [if_neg h0] at hg'
  exact .inr ⟨h0, rfl, rfl, rfl, hg', by rw [hf, List.append_assoc, List.take_append_drop], by simp; omega⟩
theorem Flow.close {k : Kern} {is os c : List UInt8} (h : Flow k wEnd is os c) : Flow (nextT k aClose1).kern noEnd is os c := by
 obtain ⟨rfl, hg, hf, hr⟩ := h
 have hg' := hg.next aClose1
 rw [next_good hg rfl] at hg' ⊢
 rw [p_close] at hg' ⊢
 exact ⟨rfl, hg', hf, hr⟩
end Go.Proofs.YtnnhhbjbdmgpiaaGreatDoor.Cf
/- Plain mathematics of chapter 5: the names and modules that actions leave; the scripts of KernelsGood and TopApart. No Go in it. -/
namespace Go.Proofs.YtnnhhbjbdmgpiaaGreatDoor.Cf
set_option maxRecDepth 100000
def NamesIn (S : List (List UInt8)) (k : Kern) : Prop := ∀ n ∈ k.nodes, n.name ∈ S
section
variable {S : List (List UInt8)} {k : Kern}
theorem NamesIn.at_ (h : NamesIn S k) (h0 : [] ∈ S) (i : Nat) : (nodeAt k i).name ∈ S := by
 rw [nodeAt, List.getD_eq_getElem?_getD]
 cases hn : k.nodes[i]? with
 | none => exact h0
 | some n => exact h n (List.mem_of_getElem? hn)
theorem NamesIn.setNode (h : NamesIn S k) {i : Nat} {n : Node} (hn : n.name ∈ S) : NamesIn S (setNode k i n) := by
 intro m hm
 rcases set_mem hm with hm | rfl
 ·exact h m hm
 ·exact hn
theorem NamesIn.tidy (h : NamesIn S k) (h0 : [] ∈ S) : NamesIn S (tidyT k) := by
 intro m hm
 obtain ⟨i, hi⟩ := List.mem_iff_getElem?.1 (show m ∈ k.nodes.mapIdx (tidyN k.procs) from hm)
 rw [mapIdx_at] at hi
 cases hn : k.nodes[i]? with
 | none => rw [hn] at hi; cases hi
 | some n =>
   rw [hn] at hi
   simp at hi
   subst hi
   rcases tidyN_or k.procs i n with ⟨h1, _⟩ | ⟨h1, _⟩
   ·rw [h1]; exact h n (List.mem_of_getElem? hn)
   ·rw [h1]; exact h0
theorem NamesIn.act (h : NamesIn S k) (h0 : [] ∈ S) {a : Actn} (h1 : a.kind ≠ 1) (h2 : a.kind = 2 ∨ a.kind = 3 → a.name ∈ S) : NamesIn S (actT k a).kern := by
 have hadd : ∀ f : Node, f.name ∈ S → NamesIn S (addT k f).kern := by
  intro f hf
  unfold addT
  repeat' split
  all_goals first | exact h | exact h.setNode hf
 have hset : ∀ p i e, NamesIn S (setEnd k p i e) := fun p i e => h
 unfold actT
 rw [if_neg h1]
 split
 ·rename_i hk; exact hadd _ (h2 (.inl hk))
 ·split
  ·rename_i hk; exact hadd _ (h2 (.inr hk))
  ·split
   ·unfold unlinkT
    split
    ·exact h
    ·exact (h.setNode h0).tidy h0
   ·split
    ·unfold byProcT
     split
     ·unfold openT
      repeat' split
      all_goals exact h
     ·split
      ·unfold pipeT
       repeat' split
       all_goals exact h
      ·split
       ·unfold forkT
        split
        all_goals exact h
       ·split
        ·exact NamesIn.tidy (k := Cf.setProc k _ _) h h0
        ·split
         ·unfold byEndT
          split
          ·unfold readT readPipeT readDevT readFileT gaveT
           repeat' split
           all_goals exact h
          ·split
           ·unfold writeT writePipeT writeDevT writeFileT
            repeat' split
            all_goals first | exact h | exact h.setNode (h.at_ h0 _)
           ·exact NamesIn.tidy (k := Cf.setEnd k _ _ _) h h0
         ·exact h
    ·exact h
theorem act_mods {a : Actn} (h1 : a.kind ≠ 1) : (actT k a).kern.mods = k.mods := by
 have hadd : ∀ f : Node, (addT k f).kern.mods = k.mods := by
  intro f
  unfold addT
  repeat' split
  all_goals rfl
 unfold actT
 rw [if_neg h1]
 split
 ·exact hadd _
 ·split
  ·exact hadd _
  ·split
   ·unfold unlinkT
    split
    all_goals rfl
   ·split
    ·unfold byProcT
     split
     ·unfold openT
      repeat' split
      all_goals rfl
     ·split
      ·unfold pipeT
       repeat' split
       all_goals rfl
      ·split
       ·unfold forkT
        split
        all_goals rfl
       ·split
        ·rfl
        ·split
         ·unfold byEndT
          split
          ·unfold readT readPipeT readDevT readFileT gaveT
           repeat' split
           all_goals rfl
          ·split
           ·unfold writeT writePipeT writeDevT writeFileT
            repeat' split
            all_goals rfl
           ·rfl
         ·rfl
    ·rfl
theorem NamesIn.next (h : NamesIn S k) (h0 : [] ∈ S) {a : Actn} (h1 : a.kind ≠ 1) (h2 : a.kind = 2 ∨ a.kind = 3 → a.name ∈ S) : NamesIn S (nextT k a).kern := by
 have e : (nextT k a).kern = (actT k a).kern ∨ (nextT k a).kern = k := by
  unfold nextT doT
  repeat' split
  all_goals first | exact .inl rfl | exact .inr rfl | (rename_i hh; simp at hh)
 rcases e with e | e
 ·rw [e]; exact h.act h0 h1 h2
 ·rw [e]; exact h
theorem next_mods {a : Actn} (h1 : a.kind ≠ 1) : (nextT k a).kern.mods = k.mods := by
 have e : (nextT k a).kern = (actT k a).kern ∨ (nextT k a).kern = k := by
  unfold nextT doT
  repeat' split
  all_goals first | exact .inl rfl | exact .inr rfl | (rename_i hh; simp at hh)
 rcases e with e | e
 ·rw [e]; exact act_mods h1
 ·rw [e]
end
theorem NamesIn.ran {S : List (List UInt8)} (h0 : [] ∈ S) : ∀ (l : List Actn) (k : Kern), NamesIn S k → (∀ a ∈ l, a.kind ≠ 1 ∧ (a.kind = 2 ∨ a.kind = 3 → a.name ∈ S)) → NamesIn S (ranT k l).kern ∧ (ranT k l).kern.mods = k.mods
 | [], _, h, _ => ⟨h, rfl⟩
 | a :: r, k, h, ha => by
   obtain ⟨h1, h2⟩ := ha a (List.mem_cons_self ..)
   obtain ⟨h3, h4⟩ := NamesIn.ran h0 r (nextT k a).kern (h.next h0 h1 h2) (fun b hb => ha b (List.mem_cons_of_mem _ hb))
   exact ⟨h3, h4.trans (next_mods h1)⟩
theorem NamesIn.no {S : List (List UInt8)} {k : Kern} (h : NamesIn S k) {name : List UInt8} (hn : name ∉ S) : idxT (namedB name) k.nodes = -1 := by
 refine idx_none ?_
 rw [List.any_eq_false]
 intro n hm hh
 exact hn ((named_iff.1 hh).1 ▸ h n hm)
structure ActOk (a : Actn) : Prop where
 kind : 2 ≤ a.kind ∧ a.kind ≤ 11 ∧ a.kind ≠ 3
 name : a.name = [] ∨ a.name = [102] ∨ a.name = [103] ∨ a.name = [100, 101, 118]
 exit : a.kind = 11 → a.p ≠ 0
def okNames : List (List UInt8) := [[], [102], [103], [100, 101, 118]]
theorem ActOk.may {a : Actn} (h : ActOk a) : a.kind ≠ 1 ∧ (a.kind = 2 ∨ a.kind = 3 → a.name ∈ okNames) := by
 refine ⟨by have := h.kind; omega, fun _ => ?_⟩
 rcases h.name with h | h | h | h <;> rw [h] <;> decide
theorem ActOk.in_ {a : Actn} (h : ActOk a) : inB a.kind 1 11 = true := by
 have := h.kind
 simp [inB]
 omega
end Go.Proofs.YtnnhhbjbdmgpiaaGreatDoor.Cf
/- Plain mathematics of chapter 3: two runs of trusted code that agree in its region. No Go in it. -/
namespace Go.Proofs.YtnnhhbjbdmgpiaaGreatDoor.Cf
set_option maxRecDepth 100000
structure Twin (r : Nat) (a b : Mach) : Prop where
 regs : a.regs = b.regs
 told : a.told = b.told
 back : a.back = b.back
 pc : a.pc = b.pc
 mem : ∀ j : Nat, 64 * r ≤ j → j < 64 * r + 64 → a.mem.getD j 0 = b.mem.getD j 0
def TwinStep (r : Nat) : Step → Step → Prop
 | .on a, .on b => Twin r a b
 | .fin e a, .fin f b => e = f ∧ Twin r a b
 | _, _ => False
theorem step_twin {l : List Ins} {r : Nat} (hs : safeT l = 0) (hr : r ≤ 15) {a b : Mach} (ha : SInv l r a) (hb : SInv l r b) (h : Twin r a b) : TwinStep r (step l a) (step l b) := by
 obtain ⟨i, hi⟩ : ∃ i, l[a.pc]? = some i := ⟨_, List.getElem?_eq_getElem ha.pc⟩
 obtain ⟨s1, s2, s3⟩ := safe_at hs hi
 have hin := fun ho => ha.in_ hi ho
 have hword := getD_word ha.words 4
 obtain ⟨ar, am, at_, ab, ap⟩ := a
 obtain ⟨br, bm, bt, bb, bp⟩ := b
 obtain ⟨rfl, rfl, rfl, rfl, hmem⟩ := h
 have la : am.length = 1024 := ha.mem
 have lb : bm.length = 1024 := hb.mem
 dsimp only at hi hin hword hmem
 unfold step
 simp only [hi]
 unfold exec
 by_cases h7 : i.op ≤ 7
 ·rw [if_pos h7, if_pos h7]
  exact ⟨rfl, rfl, rfl, rfl, hmem⟩
 ·rw [if_neg h7, if_neg h7]
  have hin' := hin (not_or (by omega))
  by_cases h8 : i.op = 8
  ·have hb4 := s2 (.inl h8)
   rw [if_pos h8, if_pos h8, hb4]
   simp only [Mach.rg, show (4 : Int).toNat = 4 from rfl]
   rw [if_pos (by omega), if_pos (by omega)]
   rw [hmem _ (by omega) (by omega)]
   exact ⟨rfl, rfl, rfl, rfl, hmem⟩
  ·rw [if_neg h8, if_neg h8]
   by_cases h9 : i.op = 9
   ·have hb4 := s2 (.inr h9)
    rw [if_pos h9, if_pos h9, hb4]
    simp only [Mach.rg, show (4 : Int).toNat = 4 from rfl]
    rw [if_pos (by omega), if_pos (by omega)]
    refine ⟨rfl, rfl, rfl, rfl, fun j h1 h2 => ?_⟩
    show (am.set _ _).getD j 0 = (bm.set _ _).getD j 0
    rw [getD_set _ _ _ _ (by omega), getD_set _ _ _ _ (by omega), hmem j h1 h2]
   ·rw [if_neg h9, if_neg h9]
    split
    ·exact ⟨rfl, rfl, rfl, rfl, hmem⟩
    ·split
     ·show TwinStep r (if ar.getD i.a.toNat 0 = 0 then _ else _) (if ar.getD i.a.toNat 0 = 0 then _ else _)
      split
      ·exact ⟨rfl, rfl, rfl, rfl, hmem⟩
      ·exact ⟨rfl, rfl, rfl, rfl, hmem⟩
     ·split
      ·split
       ·exact ⟨rfl, rfl, rfl, rfl, rfl, hmem⟩
       ·exact ⟨rfl, rfl, rfl, rfl, hmem⟩
      ·split
       ·split
        ·exact ⟨rfl, rfl, rfl, rfl, rfl, hmem⟩
        ·exact ⟨rfl, rfl, rfl, rfl, hmem⟩
       ·split
        ·split
         ·exact ⟨rfl, rfl, rfl, rfl, rfl, hmem⟩
         ·exact ⟨rfl, rfl, rfl, rfl, hmem⟩
        ·exact ⟨rfl, rfl, rfl, rfl, rfl, hmem⟩
theorem run_twin {l : List Ins} {r : Nat} (hs : safeT l = 0) (hr : r ≤ 15) : ∀ (n : Nat) (a b : Mach), SInv l r a → SInv l r b → MOk a → MOk b → Twin r a b → (runM l n a).1 = (runM l n b).1 ∧ Twin r (runM l n a).2 (runM l n b).2
 | 0, _, _, _, _, _, _, h => ⟨rfl, h⟩
 | n + 1, a, b, ha, hb, ka, kb, h => by
   have hz : faultIn l = 0 ∧ l.length ≤ 200 := by
    have hf := safe_fault hs
    unfold fault at hf
    split at hf
    ·cases hf
    ·exact ⟨hf, by omega⟩
   have h1 := step_safe hs hr ha ka.mem
   have h2 := step_safe hs hr hb kb.mem
   have ht := step_twin hs hr ha hb h
   rw [runM, runM]
   cases hsa : step l a with
   | on a' =>
     cases hsb : step l b with
     | on b' =>
       rw [hsa] at h1 ht
       rw [hsb] at h2 ht
       exact run_twin hs hr n a' b' h1.1 h2.1 (step_ok hz.1 hz.2 ka hsa) (step_ok hz.1 hz.2 kb hsb) ht
     | fin f b' => rw [hsa, hsb] at ht; exact ht.elim
   | fin e a' =>
     cases hsb : step l b with
     | on b' => rw [hsa, hsb] at ht; exact ht.elim
     | fin f b' => rw [hsa, hsb] at ht; exact ht
def enterL (r : Nat) (word : Int) : List Int := [word, 0, 0, 0, 64 * r, 64 * r, 63, 0]
theorem enter_inv {l : List Ins} {r : Nat} {word : Int} {mem : List Int} (hs : safeT l = 0) (hr : r ≤ 15) (hw : 0 ≤ word ∧ word ≤ 65535) (hm : mem.length = 1024) : SInv l r ⟨enterL r word, mem, [], [], 0⟩ := by
 have hne : 0 < l.length := by
  have := (safe_both hs).1
  unfold lastB at this
  cases l with
  | nil => simp at this
  | cons x l => simp
 refine ⟨rfl, rfl, rfl, fun v hv => ?_, hne, (fun b hb => by cases hb), hm, .inl ?_⟩
 ·simp [enterL] at hv
  rcases hv with rfl | rfl | rfl | rfl | rfl <;> omega
 ·show 64 * (r : Int) ≤ 64 * r ∧ (64 * r : Int) < 64 * r + 64
  omega
end Go.Proofs.YtnnhhbjbdmgpiaaGreatDoor.Cf
/- Plain mathematics of chapter 5: what a module does stays in its region; the scripts of TopQuiet. No Go in it. -/
namespace Go.Proofs.YtnnhhbjbdmgpiaaGreatDoor.Cf
set_option maxRecDepth 100000
theorem drop_eq {l m : List Int} {n : Nat} (hl : l.length = m.length) (h : ∀ j, n ≤ j → l.getD j 0 = m.getD j 0) : l.drop n = m.drop n := by
 apply List.ext_getElem?
 intro i
 rw [List.getElem?_drop, List.getElem?_drop]
 have := h (n + i) (by omega)
 rw [List.getD_eq_getElem?_getD, List.getD_eq_getElem?_getD] at this
 by_cases hi : n + i < l.length
 ·rw [List.getElem?_eq_getElem hi, List.getElem?_eq_getElem (hl ▸ hi)] at this ⊢
  simpa using this
 ·rw [List.getElem?_eq_none (by omega), List.getElem?_eq_none (by omega)]
theorem drop_at {l m : List Int} {n j : Nat} (h : l.drop n = m.drop n) (hj : n ≤ j) : l.getD j 0 = m.getD j 0 := by
 have := congrArg (fun x => x[j - n]?) h
 simp only [List.getElem?_drop] at this
 rw [show n + (j - n) = j by omega] at this
 rw [List.getD_eq_getElem?_getD, List.getD_eq_getElem?_getD, this]
theorem ask_run {k : Kern} (h : Good k) {u : Nat} (hu : u < k.mods.length) {x : Int} (hx : 0 ≤ x ∧ x ≤ 65535) :
  ∃ c, (k.mods.getD u noMod).code = c ∧ safeT c = 0 ∧ u ≤ 15 ∧ SInv c u ⟨askR u x, k.mem, [], [], 0⟩ ∧ MOk ⟨askR u x, k.mem, [], [], 0⟩ ∧
    askT k u x = if (runM c 2000 ⟨askR u x, k.mem, [], [], 0⟩).1 = 1 then ⟨(runM c 2000 ⟨askR u x, k.mem, [], [], 0⟩).2.mem, (runM c 2000 ⟨askR u x, k.mem, [], [], 0⟩).2.regs.getD 0 0, true⟩ else ⟨k.mem, 0, false⟩ := by
 have hm : k.mods.getD u noMod ∈ k.mods := by
  rw [List.getD_eq_getElem?_getD, List.getElem?_eq_getElem hu]
  exact List.getElem_mem ..
 obtain ⟨_, _, _, hs⟩ := mod_parts (h.mod _ hm)
 have hu15 : u ≤ 15 := by have := h.modsL; omega
 have hinv : SInv (k.mods.getD u noMod).code u ⟨askR u x, k.mem, [], [], 0⟩ := enter_inv hs hu15 hx h.memL
 have hok : MOk ⟨askR u x, k.mem, [], [], 0⟩ := ⟨rfl, hinv.words, h.memW, by simp, by simp, by simp, by simp, by simp⟩
 refine ⟨_, rfl, hs, hu15, hinv, hok, ?_⟩
 have ho : askO k u x = ⟨(runM (k.mods.getD u noMod).code 2000 ⟨askR u x, k.mem, [], [], 0⟩).1, (runM (k.mods.getD u noMod).code 2000 ⟨askR u x, k.mem, [], [], 0⟩).2.regs, (runM (k.mods.getD u noMod).code 2000 ⟨askR u x, k.mem, [], [], 0⟩).2.told, (runM (k.mods.getD u noMod).code 2000 ⟨askR u x, k.mem, [], [], 0⟩).2.mem, 0⟩ := by
  unfold askO runT
  rw [if_pos (safe_fault hs), if_pos (by rw [h.memL]; omega), if_pos]
  ·rfl
  ·simp only [Bool.and_eq_true, List.all_eq_true, word_iff]
   exact ⟨by decide, hinv.words, h.memW⟩
 unfold askT
 rw [ho]
 simp only [true_and]
theorem ask_out {k : Kern} (h : Good k) {u : Nat} (hu : u < k.mods.length) {x : Int} (hx : 0 ≤ x ∧ x ≤ 65535) (j : Nat) (hj : j < 64 * u ∨ 64 * u + 64 ≤ j) : (askT k u x).mem.getD j 0 = k.mem.getD j 0 := by
 obtain ⟨c, _, hs, hu15, hinv, hok, he⟩ := ask_run h hu hx
 rw [he]
 split
 ·exact (run_safe hs hu15 2000 _ hinv h.memW hok).2 j hj
 ·rfl
theorem ask_twin {k : Kern} (h : Good k) {m : List Int} (hg : Good (Cf.setMem k m)) {u : Nat} (hu : u < k.mods.length) {x : Int} (hx : 0 ≤ x ∧ x ≤ 65535) (he : ∀ j : Nat, 64 * u ≤ j → j < 64 * u + 64 → k.mem.getD j 0 = m.getD j 0) :
  (askT (Cf.setMem k m) u x).ok = (askT k u x).ok ∧ ∀ j : Nat, 64 * u ≤ j → j < 64 * u + 64 → (askT (Cf.setMem k m) u x).mem.getD j 0 = (askT k u x).mem.getD j 0 := by
 obtain ⟨c, hc, hs, hu15, hinv, hok, e1⟩ := ask_run h hu hx
 obtain ⟨c', hc', _, _, hinv', hok', e2⟩ := ask_run hg (u := u) hu hx
 obtain rfl : c = c' := hc.symm.trans hc'
 obtain ⟨t1, t2⟩ := run_twin hs hu15 2000 _ _ hinv hinv' hok hok' ⟨rfl, rfl, rfl, rfl, he⟩
 have hmem : (Cf.setMem k m).mem = m := rfl
 rw [e1, e2]
 rw [hmem] at t1 t2 ⊢
 rw [← t1]
 split
 ·exact ⟨rfl, fun j h1 h2 => (t2.mem j h1 h2).symm⟩
 ·exact ⟨rfl, fun j h1 h2 => (he j h1 h2).symm⟩
structure Quiet (k : Kern) (m : List Int) : Prop where
 good : Good k
 words : ∀ v ∈ m, 0 ≤ v ∧ v ≤ 65535
 len : m.length = 1024
 same : m.drop 64 = k.mem.drop 64
theorem Quiet.good2 {k : Kern} {m : List Int} (h : Quiet k m) : Good (Cf.setMem k m) := h.good.setMem h.len h.words
theorem ask_len {k : Kern} (h : Good k) (u : Nat) (x : Int) : (askT k u x).mem.length = k.mem.length := by rw [(ask_mem h.memL h.memW u x).1, h.memL]
theorem Quiet.ask {k : Kern} {m : List Int} (h : Quiet k m) {u : Nat} (hu : u < k.mods.length) {x : Int} (hx : 0 ≤ x ∧ x ≤ 65535) :
  (askT (Cf.setMem k m) u x).mem.drop 64 = (askT k u x).mem.drop 64 ∧ (u ≠ 0 → (askT (Cf.setMem k m) u x).ok = (askT k u x).ok) := by
 have hl : (askT (Cf.setMem k m) u x).mem.length = (askT k u x).mem.length := by
  rw [ask_len h.good2, ask_len h.good]
  exact h.len.trans h.good.memL.symm
 have hout : ∀ j : Nat, 64 ≤ j → (j < 64 * u ∨ 64 * u + 64 ≤ j) → (askT (Cf.setMem k m) u x).mem.getD j 0 = (askT k u x).mem.getD j 0 := by
  intro j h64 hj
  rw [ask_out h.good2 (u := u) hu hx j hj, ask_out h.good hu hx j hj]
  exact drop_at h.same h64
 by_cases h0 : u = 0
 ·refine ⟨drop_eq hl fun j hj => hout j hj (by omega), fun hn => absurd h0 hn⟩
 ·obtain ⟨t1, t2⟩ := ask_twin h.good h.good2 hu hx (fun j h1 h2 => (drop_at h.same (by omega)).symm)
  refine ⟨drop_eq hl fun j hj => ?_, fun _ => t1⟩
  by_cases hr : 64 * u ≤ j ∧ j < 64 * u + 64
  ·exact t2 j hr.1 hr.2
  ·exact hout j hj (by omega)
theorem ask_zero {k : Kern} (h : Good k) (hu : 0 < k.mods.length) {x : Int} (hx : 0 ≤ x ∧ x ≤ 65535) : (askT k 0 x).mem.drop 64 = k.mem.drop 64 :=
 drop_eq (ask_len h 0 x) fun j hj => ask_out h hu hx j (by omega)
theorem byte_word (b : UInt8) : 0 ≤ ((b.toNat : Nat) : Int) ∧ ((b.toNat : Nat) : Int) ≤ 65535 := by
 have := b.toNat_lt
 omega
theorem feed_zero : ∀ (s : List UInt8) {k : Kern}, Good k → 0 < k.mods.length → (feedT k 0 s).mem.drop 64 = k.mem.drop 64
 | [], _, _, _ => rfl
 | b :: r, k, h, hu => by
   rw [feedT]
   split
   ·obtain ⟨h1, h2, _⟩ := ask_mem h.memL h.memW 0 b.toNat
    have := feed_zero r (h.setMem h1 h2) (show 0 < (Cf.setMem k _).mods.length from hu)
    exact this.trans (ask_zero h hu (byte_word b))
   ·rfl
theorem Quiet.feed {u : Nat} (h0 : u ≠ 0) : ∀ (s : List UInt8) {k : Kern} {m : List Int}, Quiet k m → u < k.mods.length → (feedT (Cf.setMem k m) u s).mem.drop 64 = (feedT k u s).mem.drop 64 ∧ (feedT (Cf.setMem k m) u s).many = (feedT k u s).many
 | [], k, m, h, _ => ⟨h.same, rfl⟩
 | b :: r, k, m, h, hu => by
   obtain ⟨t1, t2⟩ := h.ask hu (byte_word b)
   have t3 := t2 h0
   obtain ⟨h1, h2, _⟩ := ask_mem h.good.memL h.good.memW u b.toNat
   obtain ⟨h3, h4, _⟩ := ask_mem h.good2.memL h.good2.memW u b.toNat
   have hq : Quiet (Cf.setMem k (askT k u b.toNat).mem) (askT (Cf.setMem k m) u b.toNat).mem := ⟨h.good.setMem h1 h2, h4, h3, t1⟩
   obtain ⟨i1, i2⟩ := Quiet.feed h0 r hq (show u < (Cf.setMem k _).mods.length from hu)
   rw [feedT, feedT, t3]
   split
   ·exact ⟨i1, by show _ + 1 = _ + 1; exact congrArg (· + 1) i2⟩
   ·exact ⟨h.same, rfl⟩
def onMem (m : List Int) (d : Did) : Did := ⟨Cf.setMem d.kern m, d.ans⟩
theorem on_ite {c : Prop} [Decidable c] (m : List Int) (a b : Did) : (if c then onMem m a else onMem m b) = onMem m (if c then a else b) := by split <;> rfl
theorem add_mem (k : Kern) (m : List Int) (f : Node) : addT (Cf.setMem k m) f = onMem m (addT k f) := by
 unfold addT
 simp only [← on_ite]
 rfl
theorem unlink_mem (k : Kern) (m : List Int) (s : List UInt8) : unlinkT (Cf.setMem k m) s = onMem m (unlinkT k s) := by
 unfold unlinkT
 simp only [← on_ite]
 rfl
theorem open_mem (k : Kern) (m : List Int) (p : Nat) (s : List UInt8) : openT (Cf.setMem k m) p s = onMem m (openT k p s) := by
 unfold openT
 simp only [← on_ite]
 rfl
theorem pipe_mem (k : Kern) (m : List Int) (p : Nat) : pipeT (Cf.setMem k m) p = onMem m (pipeT k p) := by
 unfold pipeT
 simp only [← on_ite]
 rfl
theorem fork_mem (k : Kern) (m : List Int) (p : Nat) : forkT (Cf.setMem k m) p = onMem m (forkT k p) := by
 unfold forkT
 simp only [← on_ite]
 rfl
theorem readPipe_mem (k : Kern) (m : List Int) (i n : Nat) : readPipeT (Cf.setMem k m) i n = onMem m (readPipeT k i n) := by
 unfold readPipeT
 simp only [← on_ite]
 rfl
theorem readFile_mem (k : Kern) (m : List Int) (p n z : Nat) (d : List UInt8) (e : End) : readFileT (Cf.setMem k m) p n z d e = onMem m (readFileT k p n z d e) := by
 unfold readFileT
 simp only [← on_ite]
 rfl
theorem writePipe_mem (k : Kern) (m : List Int) (i : Nat) (s : List UInt8) : writePipeT (Cf.setMem k m) i s = onMem m (writePipeT k i s) := by
 unfold writePipeT
 simp only [← on_ite]
 rfl
theorem writeFile_mem (k : Kern) (m : List Int) (p n : Nat) (s : List UInt8) (e : End) (f : Node) : writeFileT (Cf.setMem k m) p n s e f = onMem m (writeFileT k p n s e f) := by
 unfold writeFileT
 simp only [← on_ite]
 rfl
theorem setMem_same (k : Kern) : Cf.setMem k k.mem = k := rfl
def Beside (d d' : Did) : Prop := ∃ m, d'.kern = Cf.setMem d.kern m ∧ m.drop 64 = d.kern.mem.drop 64
theorem beside_on {k : Kern} {m : List Int} (h : Quiet k m) {f : Kern → Did} (hf : ∀ m', f (Cf.setMem k m') = onMem m' (f k)) : Beside (f k) (f (Cf.setMem k m)) := by
 refine ⟨m, by rw [hf]; rfl, ?_⟩
 have h1 := hf k.mem
 rw [setMem_same] at h1
 have h2 : (f k).kern.mem = k.mem := by rw [h1]; rfl
 rw [h2]
 exact h.same
theorem Quiet.readDev {k : Kern} {m : List Int} (h : Quiet k m) {u : Nat} (hu : u < k.mods.length) : Beside (readDevT k u) (readDevT (Cf.setMem k m) u) := by
 obtain ⟨t1, t2⟩ := h.ask hu (x := 256) (by omega)
 by_cases h0 : u = 0
 ·subst h0
  have e1 := ask_zero h.good hu (x := 256) (by omega)
  have e2 := ask_zero h.good2 (show 0 < (Cf.setMem k m).mods.length from hu) (x := 256) (by omega)
  unfold readDevT
  split
  ·split
   ·exact ⟨_, rfl, t1⟩
   ·exact ⟨m, rfl, h.same.trans e1.symm⟩
  ·split
   ·exact ⟨_, rfl, e2.trans h.same⟩
   ·exact ⟨m, rfl, h.same⟩
 ·have t3 := t2 h0
  unfold readDevT
  rw [t3]
  split
  ·exact ⟨_, rfl, t1⟩
  ·exact ⟨m, rfl, h.same⟩
theorem Quiet.writeDev {k : Kern} {m : List Int} (h : Quiet k m) {u : Nat} (hu : u < k.mods.length) (s : List UInt8) : Beside (writeDevT k u s) (writeDevT (Cf.setMem k m) u s) := by
 by_cases h0 : u = 0
 ·subst h0
  have e1 := feed_zero s h.good hu
  have e2 := feed_zero s h.good2 (show 0 < (Cf.setMem k m).mods.length from hu)
  unfold writeDevT
  split
  ·split
   ·exact ⟨m, rfl, h.same⟩
   ·exact ⟨_, rfl, e2.trans h.same⟩
  ·split
   ·exact ⟨m, rfl, h.same.trans e1.symm⟩
   ·exact ⟨_, rfl, (e2.trans h.same).trans e1.symm⟩
 ·obtain ⟨t1, t2⟩ := Quiet.feed h0 s h hu
  unfold writeDevT
  rw [t2]
  split
  ·exact ⟨m, rfl, h.same⟩
  ·exact ⟨_, rfl, t1⟩
theorem unit_in {k : Kern} (h : Good k) {i : Nat} (hk : (nodeAt k i).kind = 2) : (nodeAt k i).unit.toNat < k.mods.length := by
 have hx : k.nodes[i]? = some (nodeAt k i) := by
  rw [nodeAt, List.getD_eq_getElem?_getD] at hk ⊢
  cases hn : k.nodes[i]? with
  | none => rw [hn] at hk; exact absurd hk (by decide)
  | some n => rfl
 rcases (h.node _ (List.mem_of_getElem? hx)).kinds with h1 | h1 | h1 <;> omega
theorem Quiet.act {k : Kern} {m : List Int} (h : Quiet k m) (a : Actn) (h1 : a.kind ≠ 1) : Beside (actT k a) (actT (Cf.setMem k m) a) := by
 have hid : Beside (refuseT k 6) (refuseT (Cf.setMem k m) 6) := ⟨m, rfl, h.same⟩
 unfold actT
 rw [if_neg h1, if_neg h1]
 split
 ·exact beside_on h (f := fun k => addT k _) fun m' => add_mem k m' _
 ·split
  ·exact beside_on h (f := fun k => addT k _) fun m' => add_mem k m' _
  ·split
   ·exact beside_on h (f := fun k => unlinkT k _) fun m' => unlink_mem k m' _
   ·have e1 : (Cf.setMem k m).procs = k.procs := rfl
    have e2 : procAt (Cf.setMem k m) a.p.toNat = procAt k a.p.toNat := rfl
    rw [e1, e2]
    split
    ·unfold byProcT
     split
     ·exact beside_on h (f := fun k => openT k _ _) fun m' => open_mem k m' _ _
     ·split
      ·exact beside_on h (f := fun k => pipeT k _) fun m' => pipe_mem k m' _
      ·split
       ·exact beside_on h (f := fun k => forkT k _) fun m' => fork_mem k m' _
       ·split
        ·exact ⟨m, rfl, h.same⟩
        ·have e3 : endAt (Cf.setMem k m) a.p.toNat a.n.toNat = endAt k a.p.toNat a.n.toNat := rfl
         rw [e2, e3]
         split
         ·unfold byEndT
          have e4 : ∀ i, nodeAt (Cf.setMem k m) i = nodeAt k i := fun _ => rfl
          split
          ·unfold readT
           rw [e3, e4]
           split
           ·exact ⟨m, rfl, h.same⟩
           ·split
            ·exact ⟨m, rfl, h.same⟩
            ·split
             ·exact beside_on h (f := fun k => readPipeT k _ _) fun m' => readPipe_mem k m' _ _
             ·split
              ·rename_i hk2
               exact h.readDev (unit_in h.good hk2)
              ·exact beside_on h (f := fun k => readFileT k _ _ _ _ _) fun m' => readFile_mem k m' _ _ _ _ _
          ·split
           ·unfold writeT
            rw [e3, e4]
            split
            ·exact ⟨m, rfl, h.same⟩
            ·split
             ·exact ⟨m, rfl, h.same⟩
             ·split
              ·exact beside_on h (f := fun k => writePipeT k _ _) fun m' => writePipe_mem k m' _ _
              ·split
               ·rename_i hk2
                exact h.writeDev (unit_in h.good hk2) _
               ·exact beside_on h (f := fun k => writeFileT k _ _ _ _ _) fun m' => writeFile_mem k m' _ _ _ _ _
           ·exact ⟨m, rfl, h.same⟩
         ·exact hid
    ·exact hid
theorem Quiet.next {k : Kern} {m : List Int} (h : Quiet k m) (a : Actn) (h1 : a.kind ≠ 1) (hin : inB a.kind 1 11 = true) : ∃ m', (nextT (Cf.setMem k m) a).kern = Cf.setMem (nextT k a).kern m' ∧ Quiet (nextT k a).kern m' := by
 rw [next_good h.good hin, next_good h.good2 hin]
 obtain ⟨m', e1, e2⟩ := h.act a h1
 have hg := h.good2.act a
 rw [e1] at hg
 exact ⟨m', e1, h.good.act a, hg.memW, hg.memL, e2⟩
end Go.Proofs.YtnnhhbjbdmgpiaaGreatDoor.Cf
/- Plain mathematics of chapter 5: the descriptor of a device that nobody closes; two scripts, one of them with more. No Go in it. -/
namespace Go.Proofs.YtnnhhbjbdmgpiaaGreatDoor.Cf
set_option maxRecDepth 100000
def oneN : List UInt8 := [111, 110, 101]
def twoN : List UInt8 := [116, 119, 111]
structure Dev0 (k : Kern) : Prop where
 node : k.nodes[0]? = some ⟨oneN, 2, [], 0⟩
 proc : ∃ p, k.procs[0]? = some p ∧ p.live = true ∧ p.ends[0]? = some ⟨1, 0, 0⟩
 mods : 0 < k.mods.length
theorem idx_ne {α : Type} {p : α → Bool} {l : List α} {x : α} (h0 : l[0]? = some x) (hx : p x = false) (h : ¬ idxT p l < 0) : (idxT p l).toNat ≠ 0 := by
 rcases idx_cases p l with ⟨_, h1⟩ | ⟨k, y, h1, h2, h3, _⟩
 ·omega
 ·rw [h1, Int.toNat_natCast]
  rintro rfl
  rw [h0] at h2
  obtain rfl := Option.some.inj h2
  rw [hx] at h3
  cases h3
section
variable {k : Kern}
theorem Dev0.node0 (h : Dev0 k) : nodeAt k 0 = ⟨oneN, 2, [], 0⟩ := by rw [nodeAt, List.getD_eq_getElem?_getD, h.node]; rfl
theorem Dev0.live (h : Dev0 k) : (procAt k 0).live = true := by
 obtain ⟨p, h1, h2, _⟩ := h.proc
 rw [procAt, List.getD_eq_getElem?_getD, h1]
 exact h2
theorem Dev0.ends0 (h : Dev0 k) : (procAt k 0).ends[0]? = some ⟨1, 0, 0⟩ := by
 obtain ⟨p, h1, _, h3⟩ := h.proc
 rw [procAt, List.getD_eq_getElem?_getD, h1]
 exact h3
theorem Dev0.end0 (h : Dev0 k) : endAt k 0 0 = ⟨1, 0, 0⟩ := by rw [endAt, List.getD_eq_getElem?_getD, h.ends0]; rfl
theorem Dev0.setNode (h : Dev0 k) {i : Nat} {n : Node} (hi : i ≠ 0) : Dev0 (setNode k i n) :=
 ⟨by show (k.nodes.set i n)[0]? = _; rw [List.getElem?_set, if_neg hi]; exact h.node, h.proc, h.mods⟩
theorem Dev0.setProc (h : Dev0 k) {i : Nat} {p : Proc} (hi : i ≠ 0) : Dev0 (setProc k i p) := by
 obtain ⟨q, h1, h2⟩ := h.proc
 exact ⟨h.node, ⟨q, by show (k.procs.set i p)[0]? = _; rw [List.getElem?_set, if_neg hi]; exact h1, h2⟩, h.mods⟩
theorem Dev0.setEnd (h : Dev0 k) {p i : Nat} {e : End} (hi : p = 0 → i ≠ 0) : Dev0 (setEnd k p i e) := by
 by_cases hp : p = 0
 ·subst hp
  obtain ⟨q, h1, h2, h3⟩ := h.proc
  have hq : procAt k 0 = q := by rw [procAt, List.getD_eq_getElem?_getD, h1]; rfl
  refine ⟨h.node, ⟨⟨q.live, q.ends.set i e⟩, ?_, h2, ?_⟩, h.mods⟩
  ·show (k.procs.set 0 ⟨(procAt k 0).live, (procAt k 0).ends.set i e⟩)[0]? = _
   rw [hq, List.getElem?_set, if_pos rfl, if_pos (List.getElem?_eq_some_iff.1 h1).1]
  ·show (q.ends.set i e)[0]? = _
   rw [List.getElem?_set, if_neg (hi rfl)]
   exact h3
 ·exact Dev0.setProc h hp
theorem Dev0.tidy (h : Dev0 k) : Dev0 (tidyT k) := by
 refine ⟨?_, h.proc, h.mods⟩
 show (k.nodes.mapIdx (tidyN k.procs))[0]? = _
 rw [mapIdx_at, h.node]
 rfl
theorem Dev0.setMem (h : Dev0 k) (m : List Int) : Dev0 (setMem k m) := ⟨h.node, h.proc, h.mods⟩
structure NearOk (a : Actn) : Prop where
 ok : ActOk a
 far : ¬ (a.p = 0 ∧ a.n = 0 ∧ 6 ≤ a.kind ∧ a.kind ≤ 8)
theorem Dev0.act (h : Dev0 k) {a : Actn} (ha : NearOk a) : Dev0 (actT k a).kern := by
 have hadd : ∀ f : Node, Dev0 (addT k f).kern := by
  intro f
  unfold addT
  repeat' split
  any_goals exact h
  rename_i hz
  exact h.setNode (idx_ne h.node rfl hz)
 have hone : ¬ a.name = oneN := by
  rcases ha.ok.name with e | e | e | e <;> rw [e] <;> decide
 unfold actT
 rw [if_neg (by have := ha.ok.kind; omega)]
 split
 ·exact hadd _
 ·split
  ·exact hadd _
  ·split
   ·unfold unlinkT
    split
    ·exact h
    ·rename_i hz
     refine (h.setNode (idx_ne h.node ?_ hz)).tidy
     simp only [namedB, Bool.and_eq_false_iff, decide_eq_false_iff_not]
     exact .inl fun e => hone e.symm
   ·split
    ·rename_i hpl
     have hpw := within_iff.1 hpl.1
     have free0 : ∀ {l : List End}, l = (procAt k a.p.toNat).ends → a.p.toNat = 0 → ¬ idxT freeB l < 0 → (idxT freeB l).toNat ≠ 0 := by
      intro l hl hp hz
      rw [hp] at hl
      exact idx_ne (x := ⟨1, 0, 0⟩) (by rw [hl]; exact h.ends0) rfl hz
     unfold byProcT
     split
     ·unfold openT
      repeat' split
      any_goals exact h
      rename_i hz
      exact h.setEnd fun hp => free0 rfl hp hz
     ·split
      ·unfold pipeT
       repeat' split
       any_goals exact h
       rename_i hz _
       exact (h.setEnd fun hp => free0 rfl hp fun hz' => hz (.inr hz')).setEnd fun _ => by omega
      ·split
       ·unfold forkT
        split
        ·exact h
        ·rename_i hz
         obtain ⟨q, h1, h2, _⟩ := h.proc
         exact h.setProc (idx_ne h1 (by simp [deadB, h2]) hz)
       ·split
        ·rename_i he
         have := ha.ok.exit he
         exact (h.setProc (by omega)).tidy
        ·split
         ·rename_i hk5 hk9 hk10 hk11 hnw
          have hnw' := within_iff.1 hnw.1
          have hkk := ha.ok.kind
          have hfar : ∀ j, 6 ≤ a.kind ∧ a.kind ≤ 8 → a.n.toNat = j → (a.p.toNat = 0 → j ≠ 0) := by
           intro j hj hn hp h0
           exact ha.far ⟨by omega, by omega, hj.1, hj.2⟩
          unfold byEndT
          split
          ·unfold readT
           repeat' split
           any_goals exact h
           ·unfold readPipeT
            split
            all_goals exact ⟨h.node, h.proc, h.mods⟩
           ·unfold readDevT
            split
            all_goals exact ⟨h.node, h.proc, h.mods⟩
           ·unfold readFileT
            split
            ·exact h
            ·exact h.setEnd (hfar _ (by omega) rfl)
          ·split
           ·unfold writeT
            repeat' split
            any_goals exact h
            ·unfold writePipeT
             repeat' split
             all_goals exact ⟨h.node, h.proc, h.mods⟩
            ·unfold writeDevT
             split
             all_goals exact ⟨h.node, h.proc, h.mods⟩
            ·rename_i hd
             unfold writeFileT
             split
             ·exact h
             ·refine (h.setNode ?_).setEnd (hfar _ (by omega) rfl)
              intro h0
              rw [h0, h.node0] at hd
              exact hd rfl
           ·exact (h.setEnd (hfar _ (by omega) rfl)).tidy
         ·exact h
    ·exact h
end
structure LoudOk (a : Actn) : Prop where
 kind : a.kind = 7 ∨ a.kind = 8
 p : a.p = 0
 n : a.n = 0
theorem LoudOk.in_ {a : Actn} (h : LoudOk a) : inB a.kind 1 11 = true := by
 have := h.kind
 simp [inB]
 omega
theorem loud_act {k : Kern} (hg : Good k) (h : Dev0 k) {a : Actn} (ha : LoudOk a) : ∃ m, (actT k a).kern = setMem k m ∧ m.drop 64 = k.mem.drop 64 := by
 have e0 : actT k a = byEndT k 0 0 a := act_end (p := 0) (n := 0) (by rcases ha.kind with h | h <;> omega) ha.p (by rw [hg.procsL]; omega) h.live ha.n (by rw [hg.ends _ (hg.toPre.mem_ (by omega))]; omega) (by rw [h.end0]; decide)
 have hid : ∃ m, k = Cf.setMem k m ∧ m.drop 64 = k.mem.drop 64 := ⟨k.mem, rfl, rfl⟩
 rw [e0]
 unfold byEndT
 have e1 : nodeAt k (endAt k 0 0).node.toNat = ⟨oneN, 2, [], 0⟩ := by rw [h.end0]; exact h.node0
 split
 ·unfold readT
  rw [e1, h.end0, if_neg (by decide)]
  split
  ·exact hid
  ·rw [if_neg (by decide), if_pos (by rfl)]
   unfold readDevT
   split
   ·exact ⟨_, rfl, ask_zero hg h.mods (x := 256) (by omega)⟩
   ·exact hid
 ·rw [if_pos (by rcases ha.kind with h | h; · contradiction
                 ·exact h)]
  unfold writeT
  rw [e1, h.end0, if_neg (by decide)]
  split
  ·exact hid
  ·rw [if_neg (by decide), if_pos (by rfl)]
   unfold writeDevT
   split
   ·exact hid
   ·exact ⟨_, rfl, feed_zero _ hg h.mods⟩
inductive Loud : List Actn → List Actn → Prop
 | nil : Loud [] []
 | both (a : Actn) {p l : List Actn} : NearOk a → Loud p l → Loud (a :: p) (a :: l)
 | more (a : Actn) {p l : List Actn} : LoudOk a → Loud p l → Loud p (a :: l)
theorem Loud.app {p l p' l' : List Actn} (h : Loud p l) (h' : Loud p' l') : Loud (p ++ p') (l ++ l') := by
 induction h with
 | nil => exact h'
 | both a ha _ ih => exact .both a ha ih
 | more a ha _ ih => exact .more a ha ih
theorem Loud.len {p l : List Actn} (h : Loud p l) : p.length ≤ l.length := by
 induction h with
 | nil => exact Nat.le_refl _
 | both a ha _ ih => simpa using ih
 | more a ha _ ih => exact Nat.le_succ_of_le ih
theorem Loud.ran {p l : List Actn} (h : Loud p l) : ∀ {k : Kern} {m : List Int}, Quiet k m → Dev0 k → ∃ m', (ranT (Cf.setMem k m) l).kern = Cf.setMem (ranT k p).kern m' ∧ Quiet (ranT k p).kern m' := by
 induction h with
 | nil => intro k m hq _; exact ⟨m, rfl, hq⟩
 | both a ha _ ih =>
   intro k m hq hd
   obtain ⟨m', e1, hq'⟩ := hq.next a (by have := ha.ok.kind; omega) ha.ok.in_
   have hd' : Dev0 (nextT k a).kern := by rw [next_good hq.good ha.ok.in_]; exact hd.act ha
   obtain ⟨m2, e2, hq2⟩ := ih hq' hd'
   refine ⟨m2, ?_, hq2⟩
   show (ranT (nextT (Cf.setMem k m) a).kern _).kern = _
   rw [e1]
   exact e2
 | more a ha _ ih =>
   intro k m hq hd
   obtain ⟨m', e1, e2⟩ := loud_act hq.good2 (hd.setMem m) ha
   have hg := hq.good2.act a
   rw [e1] at hg
   have e3 : (nextT (Cf.setMem k m) a).kern = Cf.setMem k m' := by
    rw [next_good hq.good2 ha.in_, e1]
    rfl
   obtain ⟨m2, e4, hq2⟩ := ih (k := k) (m := m') ⟨hq.good, hg.memW, hg.memL, e2.trans hq.same⟩ hd
   refine ⟨m2, ?_, hq2⟩
   show (ranT (nextT (Cf.setMem k m) a).kern _).kern = _
   rw [e3]
   exact e4
def headActs (s1 s2 : List UInt8) : List Actn := [⟨1, 0, 0, 0, [], s1⟩, ⟨3, 0, 0, 0, oneN, []⟩, ⟨1, 0, 0, 0, [], s2⟩, ⟨3, 0, 1, 0, twoN, []⟩, ⟨5, 0, 0, 0, oneN, []⟩]
theorem head_ran (s1 s2 : List UInt8) (c1 c2 : List Ins) (d1 d2 : List Int) (h1 : decT s1 = ⟨⟨oneN, c1, d1⟩, 0⟩) (h2 : decT s2 = ⟨⟨twoN, c2, d2⟩, 0⟩) : Good (ranT newKern (headActs s1 s2)).kern ∧ Dev0 (ranT newKern (headActs s1 s2)).kern := by
 refine ⟨Good.ran _ good_new, ?_⟩
 have a1 : ∃ m, actT newKern ⟨1, 0, 0, 0, [], s1⟩ = ⟨⟨[⟨oneN, c1, d1⟩], m, List.replicate 8 noNode, List.replicate 6 [], ⟨true, List.replicate 6 noEnd⟩ :: List.replicate 3 noProc⟩, ⟨0, 0, []⟩⟩ := by
  have e : actT newKern ⟨1, 0, 0, 0, [], s1⟩ = installT newKern s1 := by unfold actT; rw [if_pos (by rfl)]
  rw [e]
  unfold installT
  simp only [h1]
  exact ⟨_, rfl⟩
 obtain ⟨m1, a1⟩ := a1
 obtain ⟨q1, g1⟩ := ran_step (r := [⟨3, 0, 0, 0, oneN, []⟩, ⟨1, 0, 0, 0, [], s2⟩, ⟨3, 0, 1, 0, twoN, []⟩, ⟨5, 0, 0, 0, oneN, []⟩]) good_new rfl a1
 have a2 : actT ⟨[⟨oneN, c1, d1⟩], m1, List.replicate 8 noNode, List.replicate 6 [], ⟨true, List.replicate 6 noEnd⟩ :: List.replicate 3 noProc⟩ ⟨3, 0, 0, 0, oneN, []⟩ = ⟨⟨[⟨oneN, c1, d1⟩], m1, ⟨oneN, 2, [], 0⟩ :: List.replicate 7 noNode, List.replicate 6 [], ⟨true, List.replicate 6 noEnd⟩ :: List.replicate 3 noProc⟩, ⟨0, 0, []⟩⟩ := rfl
 obtain ⟨q2, g2⟩ := ran_step (r := [⟨1, 0, 0, 0, [], s2⟩, ⟨3, 0, 1, 0, twoN, []⟩, ⟨5, 0, 0, 0, oneN, []⟩]) g1 rfl a2
 have a3 : ∃ m, actT ⟨[⟨oneN, c1, d1⟩], m1, ⟨oneN, 2, [], 0⟩ :: List.replicate 7 noNode, List.replicate 6 [], ⟨true, List.replicate 6 noEnd⟩ :: List.replicate 3 noProc⟩ ⟨1, 0, 0, 0, [], s2⟩ = ⟨⟨[⟨oneN, c1, d1⟩, ⟨twoN, c2, d2⟩], m, ⟨oneN, 2, [], 0⟩ :: List.replicate 7 noNode, List.replicate 6 [], ⟨true, List.replicate 6 noEnd⟩ :: List.replicate 3 noProc⟩, ⟨0, 1, []⟩⟩ := by
  have e : ∀ k, actT k ⟨1, 0, 0, 0, [], s2⟩ = installT k s2 := fun k => by unfold actT; rw [if_pos (by rfl)]
  rw [e]
  unfold installT
  simp only [h2]
  exact ⟨_, rfl⟩
 obtain ⟨m2, a3⟩ := a3
 obtain ⟨q3, g3⟩ := ran_step (r := [⟨3, 0, 1, 0, twoN, []⟩, ⟨5, 0, 0, 0, oneN, []⟩]) g2 rfl a3
 have a4 : actT ⟨[⟨oneN, c1, d1⟩, ⟨twoN, c2, d2⟩], m2, ⟨oneN, 2, [], 0⟩ :: List.replicate 7 noNode, List.replicate 6 [], ⟨true, List.replicate 6 noEnd⟩ :: List.replicate 3 noProc⟩ ⟨3, 0, 1, 0, twoN, []⟩ = ⟨⟨[⟨oneN, c1, d1⟩, ⟨twoN, c2, d2⟩], m2, ⟨oneN, 2, [], 0⟩ :: ⟨twoN, 2, [], 1⟩ :: List.replicate 6 noNode, List.replicate 6 [], ⟨true, List.replicate 6 noEnd⟩ :: List.replicate 3 noProc⟩, ⟨0, 1, []⟩⟩ := rfl
 obtain ⟨q4, g4⟩ := ran_step (r := [⟨5, 0, 0, 0, oneN, []⟩]) g3 rfl a4
 have a5 : actT ⟨[⟨oneN, c1, d1⟩, ⟨twoN, c2, d2⟩], m2, ⟨oneN, 2, [], 0⟩ :: ⟨twoN, 2, [], 1⟩ :: List.replicate 6 noNode, List.replicate 6 [], ⟨true, List.replicate 6 noEnd⟩ :: List.replicate 3 noProc⟩ ⟨5, 0, 0, 0, oneN, []⟩ = ⟨⟨[⟨oneN, c1, d1⟩, ⟨twoN, c2, d2⟩], m2, ⟨oneN, 2, [], 0⟩ :: ⟨twoN, 2, [], 1⟩ :: List.replicate 6 noNode, List.replicate 6 [], ⟨true, ⟨1, 0, 0⟩ :: List.replicate 5 noEnd⟩ :: List.replicate 3 noProc⟩, ⟨0, 0, []⟩⟩ := rfl
 obtain ⟨q5, g5⟩ := ran_step (r := []) g4 rfl a5
 unfold headActs
 rw [q1, q2, q3, q4, q5]
 exact ⟨rfl, ⟨_, rfl, rfl, rfl⟩, by show 0 < 2; omega⟩
theorem quiet_ran (s1 s2 : List UInt8) (c1 c2 : List Ins) (d1 d2 : List Int) (h1 : decT s1 = ⟨⟨oneN, c1, d1⟩, 0⟩) (h2 : decT s2 = ⟨⟨twoN, c2, d2⟩, 0⟩) {p l : List Actn} (h : Loud p l) :
  ∃ m, (ranT newKern (headActs s1 s2 ++ l)).kern = Cf.setMem (ranT newKern (headActs s1 s2 ++ p)).kern m ∧ Quiet (ranT newKern (headActs s1 s2 ++ p)).kern m := by
 obtain ⟨hg, hd⟩ := head_ran s1 s2 c1 c2 d1 d2 h1 h2
 rw [ran_app, ran_app]
 generalize (ranT newKern (headActs s1 s2)).kern = k at hg hd ⊢
 exact h.ran (k := k) (m := k.mem) ⟨hg, hg.memW, hg.memL, rfl⟩ hd
end Go.Proofs.YtnnhhbjbdmgpiaaGreatDoor.Cf
/- Plain mathematics of TopQuiet: what is deleted of two scripts. No Go in it. -/
namespace Go.Proofs.YtnnhhbjbdmgpiaaGreatDoor.Cf
set_option maxRecDepth 100000
def keepB (a : Actn) : Bool := decide (a.p = 0) && (decide (a.n = 0) && (decide (6 ≤ a.kind) && decide (a.kind ≤ 8)))
theorem keep_iff {a : Actn} : keepB a = true ↔ a.p = 0 ∧ a.n = 0 ∧ 6 ≤ a.kind ∧ a.kind ≤ 8 := by simp [keepB]
def sameB (a b : Actn) : Bool := decide (a.kind = b.kind) && (decide (a.p = b.p) && (decide (a.n = b.n) && (decide (a.m = b.m) && (decide (a.name = b.name) && decide (a.data = b.data)))))
theorem same_iff {a b : Actn} : sameB a b = true ↔ a = b := by
 obtain ⟨a1, a2, a3, a4, a5, a6⟩ := a
 obtain ⟨b1, b2, b3, b4, b5, b6⟩ := b
 simp [sameB]
def inL (l : List Actn) (a : Actn) : Bool := l.any (sameB a)
theorem inL_iff {l : List Actn} {a : Actn} : inL l a = true ↔ a ∈ l := by
 unfold inL
 rw [List.any_eq_true]
 constructor
 ·rintro ⟨x, hx, h⟩
  exact same_iff.1 h ▸ hx
 ·exact fun h => ⟨a, h, same_iff.2 rfl⟩
def loudB (l : List Actn) (a : Actn) : Bool := keepB a && inL l a
inductive Mixed : List Actn → List Actn → Prop
 | nil : Mixed [] []
 | one (a : Actn) {p l : List Actn} : Mixed p l → Mixed (p ++ [a]) (l ++ [a])
 | more (a : Actn) {p l : List Actn} : LoudOk a → Mixed p l → Mixed p (l ++ [a])
theorem Mixed.loud {all p l : List Actn} (h : Mixed p l) (hok : ∀ a ∈ p, ActOk a) (hin : ∀ a ∈ p, a ∈ all) : Loud (p.filter fun a => !keepB a) (l.filter fun a => !loudB all a) := by
 induction h with
 | nil => exact .nil
 | one a _ ih =>
   rename_i p l _
   have ha : a ∈ p ++ [a] := by simp
   have h1 := ih (fun b hb => hok b (List.mem_append_left _ hb)) (fun b hb => hin b (List.mem_append_left _ hb))
   rw [List.filter_append, List.filter_append]
   refine h1.app ?_
   by_cases hk : keepB a = true
   ·have hl : loudB all a = true := by
     unfold loudB
     rw [hk, inL_iff.2 (hin a ha)]
     rfl
    simp only [List.filter_cons, List.filter_nil, hk, hl, Bool.not_true, Bool.false_eq_true, if_false]
    exact .nil
   ·have hl : loudB all a = false := by
     unfold loudB
     rw [Bool.eq_false_iff.2 hk]
     rfl
    simp only [List.filter_cons, List.filter_nil, Bool.eq_false_iff.2 hk, hl, Bool.not_false, if_true]
    refine .both a ⟨hok a ha, fun hh => hk (keep_iff.2 hh)⟩ .nil
 | more a hl _ ih =>
   have h1 := ih hok hin
   rw [List.filter_append]
   rw [show ∀ q : List Actn, Loud q _ = Loud (q ++ []) _ from fun q => by rw [List.append_nil]]
   refine h1.app ?_
   rw [List.filter_cons]
   split
   ·exact .more a hl .nil
   ·exact .nil
end Go.Proofs.YtnnhhbjbdmgpiaaGreatDoor.Cf
/- Bits of words, in the walk's words. Of any program. -/
namespace Go.Proofs.YtnnhhbjbdmgpiaaGreatDoor
set_option maxRecDepth 100000
theorem wrap_small (n : Int) (h0 : 0 ≤ n) (h1 : n < 2 ^ 63) : IntKind.i64.wrap n = n := by
 have : (2 : Int) ^ 63 = 9223372036854775808 := by decide
 rw [this] at h1
 rw [IntKind.wrap_i64]
 omega
theorem bits_and (x y : Int) (hx : 0 ≤ x ∧ x ≤ 65535) (hy : 0 ≤ y ∧ y ≤ 65535) : bits .and .i64 x y = Cf.andI x y := by
 obtain ⟨a, rfl⟩ := Int.eq_ofNat_of_zero_le hx.1
 obtain ⟨b, rfl⟩ := Int.eq_ofNat_of_zero_le hy.1
 rw [(bits_nat .i64 63 (by decide) wrap_small a b (by omega) (by omega)).1]
 simp [Cf.andI]
theorem bits_or (x y : Int) (hx : 0 ≤ x ∧ x ≤ 65535) (hy : 0 ≤ y ∧ y ≤ 65535) : bits .or .i64 x y = Cf.orI x y := by
 obtain ⟨a, rfl⟩ := Int.eq_ofNat_of_zero_le hx.1
 obtain ⟨b, rfl⟩ := Int.eq_ofNat_of_zero_le hy.1
 rw [(bits_nat .i64 63 (by decide) wrap_small a b (by omega) (by omega)).2]
 simp [Cf.orI]
theorem bits_xor (x y : Int) (hx : 0 ≤ x ∧ x ≤ 65535) (hy : 0 ≤ y ∧ y ≤ 65535) : bits .xor .i64 x y = Cf.xorI x y := by
 obtain ⟨a, rfl⟩ := Int.eq_ofNat_of_zero_le hx.1
 obtain ⟨b, rfl⟩ := Int.eq_ofNat_of_zero_le hy.1
 have ha : a < 2 ^ 16 := by omega
 have hb : b < 2 ^ 16 := by omega
 have hr := Nat.xor_lt_two_pow ha hb
 have h2 : IntKind.i64.bits = 64 := rfl
 simp only [bits, h2, BitVec.ofInt_natCast, BitVec.toNat_xor, BitVec.toNat_ofNat]
 rw [Nat.mod_eq_of_lt (show a < 2 ^ 64 by omega), Nat.mod_eq_of_lt (show b < 2 ^ 64 by omega), wrap_small _ (by omega) (by omega)]
 simp [Cf.xorI]
theorem bits_low (x : Int) : bits .and .i64 x 65535 = x % 65536 := by
 have h2 : IntKind.i64.bits = 64 := rfl
 have hm : ((2 ^ 64 : Nat) : Int) = 18446744073709551616 := by decide
 have h3 : ((65535 : Int) % 18446744073709551616).toNat = 2 ^ 16 - 1 := by decide
 simp only [bits, h2, BitVec.toNat_and, BitVec.toNat_ofInt, hm]
 rw [h3, Nat.and_two_pow_sub_one_eq_mod]
 have hlt : ((x % 18446744073709551616).toNat % 2 ^ 16 : Nat) < 65536 := by omega
 rw [wrap_small _ (by omega) (by omega)]
 omega
end Go.Proofs.YtnnhhbjbdmgpiaaGreatDoor
