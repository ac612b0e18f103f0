/- Texts of the proof of PipesFlow: PipeP, FlowP. -/
import Derived.Test.YtnnhhbjbdmgpiaaGreatDoorJ01
set_option linter.unusedSimpArgs false
set_option linter.unusedVariables false
/- Plain mathematics of chapter 5: a script one by one; the script of PipesFlow. No Go in it. -/
namespace Go.Proofs.YtnnhhbjbdmgpiaaGreatDoor.Cf
set_option maxRecDepth 100000
theorem ran_at : ∀ (l : List Actn) (k : Kern) (i : Nat) (a : Actn), l[i]? = some a → (ranT k l).answers[i]? = some (nextT (ranT k (l.take i)).kern a).ans ∧ (ranT k (l.take (i + 1))).kern = (nextT (ranT k (l.take i)).kern a).kern
 | [], _, _, _, h => by simp at h
 | b :: r, k, 0, a, h => by
   simp at h
   subst h
   exact ⟨rfl, rfl⟩
 | b :: r, k, i + 1, a, h => by
   have := ran_at r (nextT k b).kern i a (by simpa using h)
   exact this
theorem ran_take (l : List Actn) (k : Kern) (n : Nat) : (ranT k l).answers.take n = (ranT k (l.take n)).answers := by
 have h := congrArg Ran.answers (ran_app (l.take n) (l.drop n) k)
 rw [List.take_append_drop] at h
 rw [h]
 rcases Nat.le_total n l.length with h1 | h1
 ·rw [List.take_append_of_le_length (by rw [ran_len, List.length_take]; omega), List.take_of_length_le (by rw [ran_len, List.length_take]; omega)]
 ·have : l.drop n = [] := List.drop_eq_nil_of_le h1
  rw [this]
  show List.take n ((ranT k (l.take n)).answers ++ []) = _
  rw [List.append_nil, List.take_of_length_le (by rw [ran_len, List.length_take]; omega)]
def pk (c : List UInt8) (e : End) : Kern := ⟨[], List.replicate 1024 0, List.replicate 8 noNode, c :: List.replicate 5 [], ⟨true, ⟨2, 0, 0⟩ :: e :: List.replicate 4 noEnd⟩ :: List.replicate 3 noProc⟩
def wEnd : End := ⟨3, 0, 0⟩
def aPipe : Actn := ⟨9, 0, 0, 0, [], []⟩
def aWrite1 (s : List UInt8) : Actn := ⟨8, 0, 1, 0, [], s⟩
def aClose1 : Actn := ⟨6, 0, 1, 0, [], []⟩
theorem p_pipe : actT newKern aPipe = ⟨pk [] wEnd, ⟨0, 0, []⟩⟩ := by rfl
theorem p_write (c s : List UInt8) (hs : s ≠ []) (hl : s.length ≤ 100) (hc : c.length ≤ 20) :
  actT (pk c wEnd) (aWrite1 s) = if c.length = 20 then ⟨pk c wEnd, ⟨13, 0, []⟩⟩ else ⟨pk (c ++ s.take (20 - c.length)) wEnd, ⟨0, (s.take (20 - c.length)).length, []⟩⟩ := by
 have hpos : 0 < s.length := List.length_pos_iff.2 hs
 rw [act_end (p := 0) (n := 1) ⟨by show (6 : Int) ≤ 8; omega, by show (8 : Int) ≤ 8; omega⟩ rfl (by show 0 < 4; omega) rfl rfl (by show 1 < 6; omega) (by show (3 : Int) ≠ 0; decide)]
 have e0 : byEndT (pk c wEnd) 0 1 (aWrite1 s) = writeT (pk c wEnd) 0 1 s := rfl
 rw [e0]
 unfold writeT
 have e1 : endAt (pk c wEnd) 0 1 = wEnd := rfl
 rw [e1, if_neg (by show ¬ (3 : Int) = 2; decide), if_neg (by simp [inB]; omega), if_pos (by rfl)]
 unfold writePipeT
 have e2 : pipeAt (pk c wEnd) wEnd.node.toNat = c := rfl
 have e3 : hasB (pk c wEnd).procs 2 (wEnd.node.toNat : Int) = true := rfl
 rw [e2, e3, if_neg (by decide)]
 by_cases h : c.length = 20
 ·rw [if_pos h, if_pos (by rw [h]; rfl)]
  rfl
 ·rw [if_neg h, if_neg]
  ·rfl
  ·intro h0
   have := congrArg List.length h0
   rw [List.length_take, List.length_nil] at this
   omega
theorem p_read (c : List UInt8) (e : End) (m : Nat) (h1 : 1 ≤ m) (h2 : m ≤ 100) :
  actT (pk c e) (aRead 0 0 m) = if c = [] then ⟨pk c e, ⟨if hasB (pk c e).procs 3 0 then 13 else 12, 0, []⟩⟩ else ⟨pk (c.drop m) e, ⟨0, (c.take m).length, c.take m⟩⟩ := by
 rw [act_end (p := 0) (n := 0) ⟨by show (6 : Int) ≤ 7; omega, by show (7 : Int) ≤ 8; omega⟩ rfl (by show 0 < 4; omega) rfl rfl (by show 0 < 6; omega) (by show (2 : Int) ≠ 0; decide)]
 have e0 : byEndT (pk c e) 0 0 (aRead 0 0 m) = readT (pk c e) 0 0 m := rfl
 rw [e0]
 unfold readT
 have e1 : endAt (pk c e) 0 0 = ⟨2, 0, 0⟩ := rfl
 rw [e1, if_neg (by decide), if_neg (by simp [inB]; omega), if_pos rfl]
 unfold readPipeT
 show (if pipeAt (pk c e) 0 = [] then _ else _) = _
 have e3 : pipeAt (pk c e) 0 = c := rfl
 rw [e3, Int.toNat_natCast]
 split
 ·rfl
 ·rfl
theorem tidy_pk (c : List UInt8) (e : End) (he : e = noEnd ∨ e = wEnd) : tidyT (pk c e) = pk c e := by
 rcases he with rfl | rfl <;> rfl
theorem p_close (c : List UInt8) : actT (pk c wEnd) aClose1 = ⟨pk c noEnd, noAns⟩ := by
 have h : actT (pk c wEnd) aClose1 = ⟨tidyT (pk c noEnd), noAns⟩ := rfl
 rw [h, tidy_pk c noEnd (.inl rfl)]
theorem has_c (c : List UInt8) : hasB (pk c noEnd).procs 3 0 = false := rfl
inductive FlowAct : Actn → Prop
 | write (s : List UInt8) (h : s ≠ []) (hl : s.length ≤ 30) : FlowAct (aWrite1 s)
 | read (m : Nat) (h : 1 ≤ m) (hl : m ≤ 25) : FlowAct (aRead 0 0 m)
structure Flow (k : Kern) (e : End) (is os : List UInt8) (c : List UInt8) : Prop where
 kern : k = pk c e
 good : Good k
 flow : is = os ++ c
 room : c.length ≤ 20
theorem Flow.write {k : Kern} {is os c s : List UInt8} (h : Flow k wEnd is os c) (hs : s ≠ []) (hl : s.length ≤ 30) :
  (c.length = 20 ∧ (nextT k (aWrite1 s)).ans.code = 13 ∧ Flow (nextT k (aWrite1 s)).kern wEnd is os c) ∨ (c.length < 20 ∧ (nextT k (aWrite1 s)).ans.code = 0 ∧ ∃ n : Nat, (nextT k (aWrite1 s)).ans.n = n ∧ n ≤ s.length ∧ Flow (nextT k (aWrite1 s)).kern wEnd (is ++ s.take n) os (c ++ s.take n)) := by
 obtain ⟨rfl, hg, hf, hr⟩ := h
 have hg' := hg.next (aWrite1 s)
 rw [next_good hg rfl] at hg' ⊢
 rw [p_write c s hs (by omega) hr] at hg' ⊢
 split
 ·rename_i h20
  exact .inl ⟨h20, rfl, rfl, hg, hf, hr⟩
 ·rename_i h20
  rw [if_neg h20] at hg'
  refine .inr ⟨by omega, rfl, (s.take (20 - c.length)).length, rfl, by rw [List.length_take]; omega, ?_⟩
  have : s.take (s.take (20 - c.length)).length = s.take (20 - c.length) := by
   rw [List.length_take]
   rcases Nat.le_total (20 - c.length) s.length with h1 | h1
   ·rw [Nat.min_eq_left h1]
   ·rw [Nat.min_eq_right h1, List.take_length, List.take_of_length_le h1]
  rw [this]
  exact ⟨rfl, hg', by rw [hf, List.append_assoc], by simp; omega⟩
theorem Flow.read {k : Kern} {e : End} {is os c : List UInt8} (h : Flow k e is os c) {m : Nat} (h1 : 1 ≤ m) (h2 : m ≤ 100) :
  (c = [] ∧ (nextT k (aRead 0 0 m)).ans.code = (if hasB (pk c e).procs 3 0 then 13 else 12) ∧ (nextT k (aRead 0 0 m)).ans.data = [] ∧ Flow (nextT k (aRead 0 0 m)).kern e is os c) ∨ (c ≠ [] ∧ (nextT k (aRead 0 0 m)).ans.code = 0 ∧ (nextT k (aRead 0 0 m)).ans.data = c.take m ∧ Flow (nextT k (aRead 0 0 m)).kern e is (os ++ c.take m) (c.drop m)) := by
 obtain ⟨rfl, hg, hf, hr⟩ := h
 have hg' := hg.next (aRead 0 0 m)
 rw [next_good hg rfl] at hg' ⊢
 rw [p_read c e m h1 h2] at hg' ⊢
 split
 ·rename_i h0
  exact .inl ⟨h0, rfl, rfl, rfl, hg, hf, hr⟩
 ·rename_i h0
  rw [if_neg h0] at hg'
  exact .inr ⟨h0, rfl, rfl, rfl, hg', by rw [hf, List.append_assoc, List.take_append_drop], by simp; omega⟩
theorem Flow.close {k : Kern} {is os c : List UInt8} (h : Flow k wEnd is os c) : Flow (nextT k aClose1).kern noEnd is os c := by
 obtain ⟨rfl, hg, hf, hr⟩ := h
 have hg' := hg.next aClose1
 rw [next_good hg rfl] at hg' ⊢
 rw [p_close] at hg' ⊢
 exact ⟨rfl, hg', hf, hr⟩
theorem flow_start : Flow (nextT newKern aPipe).kern wEnd [] [] [] := by
 have hg' := good_new.next aPipe
 rw [next_good good_new rfl] at hg' ⊢
 rw [p_pipe] at hg' ⊢
 exact ⟨rfl, hg', rfl, by decide⟩
end Go.Proofs.YtnnhhbjbdmgpiaaGreatDoor.Cf
/- Plain mathematics of PipesFlow: what goes into a pipe and what comes out, one action after the other. No Go in it. -/
namespace Go.Proofs.YtnnhhbjbdmgpiaaGreatDoor.Cf
set_option maxRecDepth 100000
def flowActs (body : List Actn) : List Actn := (aPipe :: body) ++ [aClose1, aRead 0 0 100, aRead 0 0 1]
def flowKern (body : List Actn) (j : Nat) : Kern := (ranT newKern ((flowActs body).take j)).kern
structure FlowAt (body : List Actn) (j : Nat) (is os : List UInt8) : Prop where
 st : j = 0 ∧ is = [] ∧ os = [] ∨ 1 ≤ j ∧ ∃ c, Flow (flowKern body j) (if j ≤ body.length + 1 then wEnd else noEnd) is os c ∧ (j = body.length + 3 → c = [])
 len : is.length ≤ 30 * j
theorem flow_at0 (body : List Actn) : FlowAt body 0 [] [] := ⟨.inl ⟨rfl, rfl, rfl⟩, by simp⟩
theorem flow_get {body : List Actn} {j : Nat} : (flowActs body)[j]? = if j = 0 then some aPipe else if j < body.length + 1 then body[j - 1]? else if j = body.length + 1 then some aClose1 else if j = body.length + 2 then some (aRead 0 0 100) else if j = body.length + 3 then some (aRead 0 0 1) else none := by
 unfold flowActs
 rw [List.getElem?_append]
 split
 ·rename_i h
  rw [List.length_cons] at h
  cases j with
  | zero => rfl
  | succ j =>
    rw [if_neg (by omega), if_pos (by omega)]
    rfl
 ·rename_i h
  rw [List.length_cons] at h
  rw [if_neg (by omega), if_neg (by omega), List.length_cons]
  obtain ⟨d, rfl⟩ : ∃ d, j = body.length + 1 + d := ⟨j - (body.length + 1), by omega⟩
  rw [Nat.add_sub_cancel_left]
  match d with
  | 0 => simp
  | 1 => simp
  | 2 => simp
  | d + 3 =>
    rw [if_neg (by omega), if_neg (by omega), if_neg (by omega)]
    rfl
inductive FlowStep (body : List Actn) (j : Nat) (is os : List UInt8) (a : Actn) (x : Ans) : Prop
 | none (hk : a.kind = 9 ∨ a.kind = 6) (h : FlowAt body (j + 1) is os)
 | full (hk : a.kind = 8) (hf : (is.length : Int) - os.length = 20) (hc : x.code = 13) (h : FlowAt body (j + 1) is os)
 | write (hk : a.kind = 8) (hf : (is.length : Int) - os.length ≠ 20) (hc : x.code = 0) (n : Nat) (hn : x.n = n) (hl : n ≤ a.data.length) (hd : a.data.length ≤ 30) (h : FlowAt body (j + 1) (is ++ a.data.take n) os)
 | empty (hk : a.kind = 7) (he : is.length = os.length) (hc : x.code = 13 ∨ x.code = 12) (hd : x.data = []) (h : FlowAt body (j + 1) is os)
 | read (hk : a.kind = 7) (he : is.length ≠ os.length) (hc : x.code = 0) (hl : (os ++ x.data).length ≤ is.length) (h : FlowAt body (j + 1) is (os ++ x.data))
theorem flow_app {k : Kern} {e : End} {is os c : List UInt8} (h : Flow k e is os c) : is.length = os.length + c.length := by rw [h.flow, List.length_append]
theorem flow_step {body : List Actn} (hb : ∀ a ∈ body, FlowAct a) {j : Nat} {is os : List UInt8} (h : FlowAt body j is os) {a : Actn} (ha : (flowActs body)[j]? = some a) (hj : j < body.length + 3) :
  ∃ x, (ranT newKern (flowActs body)).answers[j]? = some x ∧ FlowStep body j is os a x := by
 obtain ⟨h1, h2⟩ := ran_at (flowActs body) newKern j a ha
 have h2 : flowKern body (j + 1) = (nextT (flowKern body j) a).kern := h2
 have h1 : _ = some (nextT (flowKern body j) a).ans := h1
 refine ⟨_, h1, ?_⟩
 rw [flow_get] at ha
 have hlen := h.len
 rcases h.st with ⟨rfl, rfl, rfl⟩ | ⟨hj1, c, hF, hc⟩
 ·rw [if_pos rfl] at ha
  obtain rfl := Option.some.inj ha
  refine .none (.inl rfl) ⟨.inr ⟨by omega, [], ?_, fun _ => rfl⟩, by simp⟩
  rw [if_pos (by omega), h2]
  exact flow_start
 ·rw [if_neg (by omega)] at ha
  have happ := flow_app hF
  by_cases hl : j < body.length + 1
  ·rw [if_pos hl] at ha
   rw [if_pos (by omega)] at hF
   have hFA := hb a (List.mem_of_getElem? ha)
   cases hFA with
   | write s hs hsl =>
     rcases hF.write hs hsl with ⟨c1, c2, c3⟩ | ⟨c1, c2, n, c3, c4, c5⟩
     ·refine .full rfl (by omega) c2 ⟨.inr ⟨by omega, c, ?_, fun he => by omega⟩, by omega⟩
      rw [if_pos (by omega), h2]
      exact c3
     ·refine .write rfl (by omega) c2 n c3 c4 hsl ⟨.inr ⟨by omega, c ++ s.take n, ?_, fun he => by omega⟩, ?_⟩
      ·rw [if_pos (by omega), h2]
       exact c5
      ·show (is ++ s.take n).length ≤ _
       rw [List.length_append, List.length_take]
       omega
   | read m hm1 hm2 =>
     rcases hF.read hm1 (show m ≤ 100 by omega) with ⟨c1, c2, c3, c4⟩ | ⟨c1, c2, c3, c4⟩
     ·refine .empty rfl (by rw [happ, c1]; simp) ?_ c3 ⟨.inr ⟨by omega, c, ?_, fun he => by omega⟩, by omega⟩
      ·rw [c2]
       split <;> simp
      ·rw [if_pos (by omega), h2]
       exact c4
     ·have hc0 : 0 < c.length := List.length_pos_iff.2 c1
      refine .read rfl (by omega) c2 (by rw [c3, List.length_append, List.length_take]; omega) ⟨.inr ⟨by omega, c.drop m, ?_, fun he => by omega⟩, by omega⟩
      rw [if_pos (by omega), h2, c3]
      exact c4
  ·rw [if_neg hl] at ha
   by_cases hl1 : j = body.length + 1
   ·rw [if_pos hl1] at ha
    obtain rfl := Option.some.inj ha
    rw [if_pos (by omega)] at hF
    refine .none (.inr rfl) ⟨.inr ⟨by omega, c, ?_, fun he => by omega⟩, by omega⟩
    rw [if_neg (by omega), h2]
    exact hF.close
   ·rw [if_neg hl1, if_pos (by omega)] at ha
    obtain rfl := Option.some.inj ha
    rw [if_neg (by omega)] at hF
    have hroom := hF.room
    rcases hF.read (m := 100) (by omega) (by omega) with ⟨c1, c2, c3, c4⟩ | ⟨c1, c2, c3, c4⟩
    ·refine .empty rfl (by rw [happ, c1]; simp) ?_ c3 ⟨.inr ⟨by omega, c, ?_, fun _ => c1⟩, by omega⟩
     ·rw [c2]
      split <;> simp
     ·rw [if_neg (by omega), h2]
      exact c4
    ·have hc0 : 0 < c.length := List.length_pos_iff.2 c1
     refine .read rfl (by omega) c2 (by rw [c3, List.length_append, List.length_take]; omega) ⟨.inr ⟨by omega, c.drop 100, ?_, fun _ => List.drop_eq_nil_of_le (by omega)⟩, by omega⟩
     rw [if_neg (by omega), h2, c3]
     exact c4
theorem flow_end {body : List Actn} {is os : List UInt8} (h : FlowAt body (body.length + 3) is os) : is = os ∧ ∃ x, (ranT newKern (flowActs body)).answers[body.length + 3]? = some x ∧ x.code = 12 := by
 rcases h.st with ⟨h0, _⟩ | ⟨_, c, hF, hc⟩
 ·omega
 ·obtain rfl := hc rfl
  rw [if_neg (by omega)] at hF
  refine ⟨by rw [hF.flow, List.append_nil], ?_⟩
  obtain ⟨h1, _⟩ := ran_at (flowActs body) newKern (body.length + 3) (aRead 0 0 1) (by rw [flow_get]; simp)
  refine ⟨_, h1, ?_⟩
  rcases hF.read (m := 1) (by omega) (by omega) with ⟨c1, c2, c3, c4⟩ | ⟨c1, _⟩
  ·have : (nextT (flowKern body (body.length + 3)) (aRead 0 0 1)).ans.code = if hasB (pk [] noEnd).procs 3 0 then 13 else 12 := c2
   rw [has_c] at this
   exact this
  ·exact absurd rfl c1
end Go.Proofs.YtnnhhbjbdmgpiaaGreatDoor.Cf
