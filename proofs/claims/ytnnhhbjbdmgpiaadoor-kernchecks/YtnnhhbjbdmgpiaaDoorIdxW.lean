/- Walks of the library: slices.IndexFunc and slices.ContainsFunc, whatever the function that is handed in. -/
import Derived.Test.YtnnhhbjbdmgpiaaDoorKRdK
import Derived.Test.YtnnhhbjbdmgpiaaDoorKernQ
namespace Go.Proofs.YtnnhhbjbdmgpiaaDoor
set_option maxRecDepth 100000
open Go.RowKit

def mvCl {β : Type} (l : List MV) (ys : List β) (p : β → Bool) (f : Nat) (cs : Array Value) (w : World) : Prop :=
  ∀ (i : Nat) (x : MV) (y : β) (w' : World), l[i]? = some x → ys[i]? = some y → Below w.heap.size w w' → Calls Tryd.prog f (#[.agg (encMv x).toArray] ++ cs) w' fun e w'' => e = .returned (.bool (p y)) ∧ Below w'.heap.size w' w''
set_option maxHeartbeats 1000000 in
theorem mvIdx_any {β : Type} (l : List MV) (A : Option Addr) (cap : Nat) (w : World) (hR : RdS 3 encMv w A l) (hm : l.length ≤ maxLen) (ys : List β) (hy : l.length = ys.length) (p : β → Bool) (f : Nat) (cs : Array Value) (hf : mvCl l ys p f cs w) (eg : ∀ args w, (callFunc f args).run Tryd.prog w = .ok (.enter f args) w) :
    Calls Tryd.prog 36 #[.slice A l.length cap, .func (.func f) #[] cs] w fun e w' => e = .returned (.int .i64 (Cf.idxT p ys)) ∧ Below w.heap.size w w' := by
  unfold maxLen at hm
  rcases hR with hl | ⟨b, off, rfl, hb, hc⟩
  · subst hl
    obtain rfl : ys = [] := List.eq_nil_of_length_eq_zero hy.symm
    clear hf eg hm
    go_enter Tryd.func36, Tryd.ntmps36
    go_wp2
    refine wp_loop_rounds 1 ?_
    rw [rounds_succ]
    go_wp2
    go_ret
    exact ⟨rfl, Below.refl _ _⟩
  · have Hc := Lib.hid hc
    have HF := Lib.hid hf
    have Heg := Lib.hid eg
    have HY := Lib.hid hy
    clear hc hf eg hy
    go_enter Tryd.func36, Tryd.ntmps36
    go_wp2
    go_loopw [8] (fun i wr => ∃ k : Nat, k ≤ l.length ∧ i = .int .i64 k ∧ (ys.take k).any p = false ∧ Below w.heap.size w wr) (fun i _ => l.length - (intOf i).toNat)
    case atStart => exact ⟨0, by omega, rfl, rfl, Below.refl _ _⟩
    case round =>
      obtain ⟨k, hk, rfl, hall, hbw⟩ := hrel
      have Hall := Lib.hid hall
      clear hall
      by_cases hlt : k < l.length
      · obtain ⟨nm, A1, lc, ca, B1, ld, cb, hx⟩ : ∃ nm A1 lc ca B1 ld cb, l[k]? = some ⟨nm, A1, lc, ca, B1, ld, cb⟩ := ⟨_, _, _, _, _, _, _, List.getElem?_eq_getElem hlt⟩
        have c0 : wr.cell? ⟨b, off + k * 3, none⟩ = some (.string ⟨nm.toArray⟩) := (hbw.cell hb).trans (Hc.out k _ hx 0 _ rfl)
        have c1 : wr.cell? ⟨b, off + k * 3 + 1, none⟩ = some (.slice A1 lc ca) := (hbw.cell hb).trans (Hc.out k _ hx 1 _ rfl)
        have c2 : wr.cell? ⟨b, off + k * 3 + 2, none⟩ = some (.slice B1 ld cb) := (hbw.cell hb).trans (Hc.out k _ hx 2 _ rfl)
        obtain ⟨y, hyk⟩ : ∃ y, ys[k]? = some y := ⟨_, List.getElem?_eq_getElem (by rw [← HY.out]; exact hlt)⟩
        have HX := Lib.hid hyk
        have HC := Lib.hid (HF.out k _ y wr hx hyk hbw)
        clear hx hyk
        go_wp2_with fail
        first | with_reducible refine HC.out.mono ?_ | (rw [Heg.out]; refine HC.out.mono ?_)
        rintro e w1 ⟨rfl, hb1⟩
        have hbw1 := hbw.trans (hb1.mono hbw.size)
        clear hb1 HC
        cases hp : p y
        · have HA := Lib.hid (Cf.any_on HX.out Hall.out hp)
          clear hp
          go_wp2
          go_roundw
          case rel => exact ⟨k + 1, by omega, by go_num, HA.out, hbw1⟩
          case measure => simp [intOf]; omega
        · have HI := Lib.hid (Cf.idx_at HX.out hp Hall.out)
          clear hp
          go_wp2
          go_ret
          exact ⟨by rw [HI.out]; first | done | rfl, hbw1⟩
      · have HI := Lib.hid (Cf.idx_none (p := p) (l := ys) (by have := Hall.out; rwa [List.take_of_length_le (by rw [← HY.out]; omega)] at this))
        go_wp2
        go_ret
        exact ⟨by rw [HI.out]; rfl, hbw⟩

def ndCl {β : Type} (l : List Cf.Node) (ys : List β) (p : β → Bool) (f : Nat) (cs : Array Value) (w : World) : Prop :=
  ∀ (i : Nat) (x : Cf.Node) (y : β) (w' : World), l[i]? = some x → ys[i]? = some y → Below w.heap.size w w' → Calls Tryd.prog f (#[.agg (encNd x).toArray] ++ cs) w' fun e w'' => e = .returned (.bool (p y)) ∧ Below w'.heap.size w' w''
set_option maxHeartbeats 1000000 in
theorem ndIdx_any {β : Type} (l : List Cf.Node) (A : Option Addr) (cap : Nat) (w : World) (hR : RdS 4 encNd w A l) (hm : l.length ≤ maxLen) (ys : List β) (hy : l.length = ys.length) (p : β → Bool) (f : Nat) (cs : Array Value) (hf : ndCl l ys p f cs w) (eg : ∀ args w, (callFunc f args).run Tryd.prog w = .ok (.enter f args) w) :
    Calls Tryd.prog 58 #[.slice A l.length cap, .func (.func f) #[] cs] w fun e w' => e = .returned (.int .i64 (Cf.idxT p ys)) ∧ Below w.heap.size w w' := by
  unfold maxLen at hm
  rcases hR with hl | ⟨b, off, rfl, hb, hc⟩
  · subst hl
    obtain rfl : ys = [] := List.eq_nil_of_length_eq_zero hy.symm
    clear hf eg hm
    go_enter Tryd.func58, Tryd.ntmps58
    go_wp2
    refine wp_loop_rounds 1 ?_
    rw [rounds_succ]
    go_wp2
    go_ret
    exact ⟨rfl, Below.refl _ _⟩
  · have Hc := Lib.hid hc
    have HF := Lib.hid hf
    have Heg := Lib.hid eg
    have HY := Lib.hid hy
    clear hc hf eg hy
    go_enter Tryd.func58, Tryd.ntmps58
    go_wp2
    go_loopw [8] (fun i wr => ∃ k : Nat, k ≤ l.length ∧ i = .int .i64 k ∧ (ys.take k).any p = false ∧ Below w.heap.size w wr) (fun i _ => l.length - (intOf i).toNat)
    case atStart => exact ⟨0, by omega, rfl, rfl, Below.refl _ _⟩
    case round =>
      obtain ⟨k, hk, rfl, hall, hbw⟩ := hrel
      have Hall := Lib.hid hall
      clear hall
      by_cases hlt : k < l.length
      · obtain ⟨nm, kd, da, un, hx⟩ : ∃ nm kd da un, l[k]? = some ⟨nm, kd, da, un⟩ := ⟨_, _, _, _, List.getElem?_eq_getElem hlt⟩
        have c0 : wr.cell? ⟨b, off + k * 4, none⟩ = some (.string ⟨nm.toArray⟩) := (hbw.cell hb).trans (Hc.out k _ hx 0 _ rfl)
        have c1 : wr.cell? ⟨b, off + k * 4 + 1, none⟩ = some (.int .i64 kd) := (hbw.cell hb).trans (Hc.out k _ hx 1 _ rfl)
        have c2 : wr.cell? ⟨b, off + k * 4 + 2, none⟩ = some (.string ⟨da.toArray⟩) := (hbw.cell hb).trans (Hc.out k _ hx 2 _ rfl)
        have c3 : wr.cell? ⟨b, off + k * 4 + 3, none⟩ = some (.int .i64 un) := (hbw.cell hb).trans (Hc.out k _ hx 3 _ rfl)
        obtain ⟨y, hyk⟩ : ∃ y, ys[k]? = some y := ⟨_, List.getElem?_eq_getElem (by rw [← HY.out]; exact hlt)⟩
        have HX := Lib.hid hyk
        have HC := Lib.hid (HF.out k _ y wr hx hyk hbw)
        clear hx hyk
        go_wp2_with fail
        first | with_reducible refine HC.out.mono ?_ | (rw [Heg.out]; refine HC.out.mono ?_)
        rintro e w1 ⟨rfl, hb1⟩
        have hbw1 := hbw.trans (hb1.mono hbw.size)
        clear hb1 HC
        cases hp : p y
        · have HA := Lib.hid (Cf.any_on HX.out Hall.out hp)
          clear hp
          go_wp2
          go_roundw
          case rel => exact ⟨k + 1, by omega, by go_num, HA.out, hbw1⟩
          case measure => simp [intOf]; omega
        · have HI := Lib.hid (Cf.idx_at HX.out hp Hall.out)
          clear hp
          go_wp2
          go_ret
          exact ⟨by rw [HI.out]; first | done | rfl, hbw1⟩
      · have HI := Lib.hid (Cf.idx_none (p := p) (l := ys) (by have := Hall.out; rwa [List.take_of_length_le (by rw [← HY.out]; omega)] at this))
        go_wp2
        go_ret
        exact ⟨by rw [HI.out]; rfl, hbw⟩

def enCl {β : Type} (l : List Cf.End) (ys : List β) (p : β → Bool) (f : Nat) (cs : Array Value) (w : World) : Prop :=
  ∀ (i : Nat) (x : Cf.End) (y : β) (w' : World), l[i]? = some x → ys[i]? = some y → Below w.heap.size w w' → Calls Tryd.prog f (#[.agg (encEn x).toArray] ++ cs) w' fun e w'' => e = .returned (.bool (p y)) ∧ Below w'.heap.size w' w''
set_option maxHeartbeats 1000000 in
theorem enIdx_any {β : Type} (l : List Cf.End) (A : Option Addr) (cap : Nat) (w : World) (hR : RdS 3 encEn w A l) (hm : l.length ≤ maxLen) (ys : List β) (hy : l.length = ys.length) (p : β → Bool) (f : Nat) (cs : Array Value) (hf : enCl l ys p f cs w) (eg : ∀ args w, (callFunc f args).run Tryd.prog w = .ok (.enter f args) w) :
    Calls Tryd.prog 40 #[.slice A l.length cap, .func (.func f) #[] cs] w fun e w' => e = .returned (.int .i64 (Cf.idxT p ys)) ∧ Below w.heap.size w w' := by
  unfold maxLen at hm
  rcases hR with hl | ⟨b, off, rfl, hb, hc⟩
  · subst hl
    obtain rfl : ys = [] := List.eq_nil_of_length_eq_zero hy.symm
    clear hf eg hm
    go_enter Tryd.func40, Tryd.ntmps40
    go_wp2
    refine wp_loop_rounds 1 ?_
    rw [rounds_succ]
    go_wp2
    go_ret
    exact ⟨rfl, Below.refl _ _⟩
  · have Hc := Lib.hid hc
    have HF := Lib.hid hf
    have Heg := Lib.hid eg
    have HY := Lib.hid hy
    clear hc hf eg hy
    go_enter Tryd.func40, Tryd.ntmps40
    go_wp2
    go_loopw [8] (fun i wr => ∃ k : Nat, k ≤ l.length ∧ i = .int .i64 k ∧ (ys.take k).any p = false ∧ Below w.heap.size w wr) (fun i _ => l.length - (intOf i).toNat)
    case atStart => exact ⟨0, by omega, rfl, rfl, Below.refl _ _⟩
    case round =>
      obtain ⟨k, hk, rfl, hall, hbw⟩ := hrel
      have Hall := Lib.hid hall
      clear hall
      by_cases hlt : k < l.length
      · obtain ⟨kd, nd, ps, hx⟩ : ∃ kd nd ps, l[k]? = some ⟨kd, nd, ps⟩ := ⟨_, _, _, List.getElem?_eq_getElem hlt⟩
        have c0 : wr.cell? ⟨b, off + k * 3, none⟩ = some (.int .i64 kd) := (hbw.cell hb).trans (Hc.out k _ hx 0 _ rfl)
        have c1 : wr.cell? ⟨b, off + k * 3 + 1, none⟩ = some (.int .i64 nd) := (hbw.cell hb).trans (Hc.out k _ hx 1 _ rfl)
        have c2 : wr.cell? ⟨b, off + k * 3 + 2, none⟩ = some (.int .i64 ps) := (hbw.cell hb).trans (Hc.out k _ hx 2 _ rfl)
        obtain ⟨y, hyk⟩ : ∃ y, ys[k]? = some y := ⟨_, List.getElem?_eq_getElem (by rw [← HY.out]; exact hlt)⟩
        have HX := Lib.hid hyk
        have HC := Lib.hid (HF.out k _ y wr hx hyk hbw)
        clear hx hyk
        go_wp2_with fail
        first | with_reducible refine HC.out.mono ?_ | (rw [Heg.out]; refine HC.out.mono ?_)
        rintro e w1 ⟨rfl, hb1⟩
        have hbw1 := hbw.trans (hb1.mono hbw.size)
        clear hb1 HC
        cases hp : p y
        · have HA := Lib.hid (Cf.any_on HX.out Hall.out hp)
          clear hp
          go_wp2
          go_roundw
          case rel => exact ⟨k + 1, by omega, by go_num, HA.out, hbw1⟩
          case measure => simp [intOf]; omega
        · have HI := Lib.hid (Cf.idx_at HX.out hp Hall.out)
          clear hp
          go_wp2
          go_ret
          exact ⟨by rw [HI.out]; first | done | rfl, hbw1⟩
      · have HI := Lib.hid (Cf.idx_none (p := p) (l := ys) (by have := Hall.out; rwa [List.take_of_length_le (by rw [← HY.out]; omega)] at this))
        go_wp2
        go_ret
        exact ⟨by rw [HI.out]; rfl, hbw⟩
theorem enHas_any {β : Type} (l : List Cf.End) (A : Option Addr) (cap : Nat) (w : World) (hR : RdS 3 encEn w A l) (hm : l.length ≤ maxLen) (ys : List β) (hy : l.length = ys.length) (p : β → Bool) (f : Nat) (cs : Array Value) (hf : enCl l ys p f cs w) (eg : ∀ args w, (callFunc f args).run Tryd.prog w = .ok (.enter f args) w) :
    Calls Tryd.prog 26 #[.slice A l.length cap, .func (.func f) #[] cs] w fun e w' => e = .returned (.bool (ys.any p)) ∧ Below w.heap.size w w' := by
  have H := Lib.hid (enIdx_any l A cap w hR hm ys hy p f cs hf eg)
  have HZ := Lib.hid (Cf.idx_pos (p := p) (l := ys))
  clear hf hR eg hy
  generalize Cf.idxT p ys = z at *
  go_enter Tryd.func26, Tryd.ntmps26
  go_wp2_with fail
  refine H.out.mono ?_
  rintro e w1 ⟨rfl, hb⟩
  go_wp2
  go_ret
  exact ⟨by rw [← HZ.out]; rfl, hb⟩

def pvCl {β : Type} (l : List PV) (ys : List β) (p : β → Bool) (f : Nat) (cs : Array Value) (w : World) : Prop :=
  ∀ (i : Nat) (x : PV) (y : β) (w' : World), l[i]? = some x → ys[i]? = some y → Below w.heap.size w w' → Calls Tryd.prog f (#[.agg (encPv x).toArray] ++ cs) w' fun e w'' => e = .returned (.bool (p y)) ∧ Below w'.heap.size w' w''
set_option maxHeartbeats 1000000 in
theorem pvIdx_any {β : Type} (l : List PV) (A : Option Addr) (cap : Nat) (w : World) (hR : RdS 2 encPv w A l) (hm : l.length ≤ maxLen) (ys : List β) (hy : l.length = ys.length) (p : β → Bool) (f : Nat) (cs : Array Value) (hf : pvCl l ys p f cs w) (eg : ∀ args w, (callFunc f args).run Tryd.prog w = .ok (.enter f args) w) :
    Calls Tryd.prog 41 #[.slice A l.length cap, .func (.func f) #[] cs] w fun e w' => e = .returned (.int .i64 (Cf.idxT p ys)) ∧ Below w.heap.size w w' := by
  unfold maxLen at hm
  rcases hR with hl | ⟨b, off, rfl, hb, hc⟩
  · subst hl
    obtain rfl : ys = [] := List.eq_nil_of_length_eq_zero hy.symm
    clear hf eg hm
    go_enter Tryd.func41, Tryd.ntmps41
    go_wp2
    refine wp_loop_rounds 1 ?_
    rw [rounds_succ]
    go_wp2
    go_ret
    exact ⟨rfl, Below.refl _ _⟩
  · have Hc := Lib.hid hc
    have HF := Lib.hid hf
    have Heg := Lib.hid eg
    have HY := Lib.hid hy
    clear hc hf eg hy
    go_enter Tryd.func41, Tryd.ntmps41
    go_wp2
    go_loopw [8] (fun i wr => ∃ k : Nat, k ≤ l.length ∧ i = .int .i64 k ∧ (ys.take k).any p = false ∧ Below w.heap.size w wr) (fun i _ => l.length - (intOf i).toNat)
    case atStart => exact ⟨0, by omega, rfl, rfl, Below.refl _ _⟩
    case round =>
      obtain ⟨k, hk, rfl, hall, hbw⟩ := hrel
      have Hall := Lib.hid hall
      clear hall
      by_cases hlt : k < l.length
      · obtain ⟨lv, A1, le, ce, hx⟩ : ∃ lv A1 le ce, l[k]? = some ⟨lv, A1, le, ce⟩ := ⟨_, _, _, _, List.getElem?_eq_getElem hlt⟩
        have c0 : wr.cell? ⟨b, off + k * 2, none⟩ = some (.bool lv) := (hbw.cell hb).trans (Hc.out k _ hx 0 _ rfl)
        have c1 : wr.cell? ⟨b, off + k * 2 + 1, none⟩ = some (.slice A1 le ce) := (hbw.cell hb).trans (Hc.out k _ hx 1 _ rfl)
        obtain ⟨y, hyk⟩ : ∃ y, ys[k]? = some y := ⟨_, List.getElem?_eq_getElem (by rw [← HY.out]; exact hlt)⟩
        have HX := Lib.hid hyk
        have HC := Lib.hid (HF.out k _ y wr hx hyk hbw)
        clear hx hyk
        go_wp2_with fail
        first | with_reducible refine HC.out.mono ?_ | (rw [Heg.out]; refine HC.out.mono ?_)
        rintro e w1 ⟨rfl, hb1⟩
        have hbw1 := hbw.trans (hb1.mono hbw.size)
        clear hb1 HC
        cases hp : p y
        · have HA := Lib.hid (Cf.any_on HX.out Hall.out hp)
          clear hp
          go_wp2
          go_roundw
          case rel => exact ⟨k + 1, by omega, by go_num, HA.out, hbw1⟩
          case measure => simp [intOf]; omega
        · have HI := Lib.hid (Cf.idx_at HX.out hp Hall.out)
          clear hp
          go_wp2
          go_ret
          exact ⟨by rw [HI.out]; first | done | rfl, hbw1⟩
      · have HI := Lib.hid (Cf.idx_none (p := p) (l := ys) (by have := Hall.out; rwa [List.take_of_length_le (by rw [← HY.out]; omega)] at this))
        go_wp2
        go_ret
        exact ⟨by rw [HI.out]; rfl, hbw⟩
theorem pvHas_any {β : Type} (l : List PV) (A : Option Addr) (cap : Nat) (w : World) (hR : RdS 2 encPv w A l) (hm : l.length ≤ maxLen) (ys : List β) (hy : l.length = ys.length) (p : β → Bool) (f : Nat) (cs : Array Value) (hf : pvCl l ys p f cs w) (eg : ∀ args w, (callFunc f args).run Tryd.prog w = .ok (.enter f args) w) :
    Calls Tryd.prog 27 #[.slice A l.length cap, .func (.func f) #[] cs] w fun e w' => e = .returned (.bool (ys.any p)) ∧ Below w.heap.size w w' := by
  have H := Lib.hid (pvIdx_any l A cap w hR hm ys hy p f cs hf eg)
  have HZ := Lib.hid (Cf.idx_pos (p := p) (l := ys))
  clear hf hR eg hy
  generalize Cf.idxT p ys = z at *
  go_enter Tryd.func27, Tryd.ntmps27
  go_wp2_with fail
  refine H.out.mono ?_
  rintro e w1 ⟨rfl, hb⟩
  go_wp2
  go_ret
  exact ⟨by rw [← HZ.out]; rfl, hb⟩

def zCl {β : Type} (l : List Int) (ys : List β) (p : β → Bool) (f : Nat) (cs : Array Value) (w : World) : Prop :=
  ∀ (i : Nat) (x : Int) (y : β) (w' : World), l[i]? = some x → ys[i]? = some y → Below w.heap.size w w' → Calls Tryd.prog f (#[.int .i64 x] ++ cs) w' fun e w'' => e = .returned (.bool (p y)) ∧ Below w'.heap.size w' w''
set_option maxHeartbeats 1000000 in
theorem zIdx_any {β : Type} (l : List Int) (A : Option Addr) (cap : Nat) (w : World) (hR : RdS 1 encZ w A l) (hm : l.length ≤ maxLen) (ys : List β) (hy : l.length = ys.length) (p : β → Bool) (f : Nat) (cs : Array Value) (hf : zCl l ys p f cs w) (eg : ∀ args w, (callFunc f args).run Tryd.prog w = .ok (.enter f args) w) :
    Calls Tryd.prog 20 #[.slice A l.length cap, .func (.func f) #[] cs] w fun e w' => e = .returned (.int .i64 (Cf.idxT p ys)) ∧ Below w.heap.size w w' := by
  unfold maxLen at hm
  rcases hR with hl | ⟨b, off, rfl, hb, hc⟩
  · subst hl
    obtain rfl : ys = [] := List.eq_nil_of_length_eq_zero hy.symm
    clear hf eg hm
    go_enter Tryd.func20, Tryd.ntmps20
    go_wp2
    refine wp_loop_rounds 1 ?_
    rw [rounds_succ]
    go_wp2
    go_ret
    exact ⟨rfl, Below.refl _ _⟩
  · have Hc := Lib.hid hc
    have HF := Lib.hid hf
    have Heg := Lib.hid eg
    have HY := Lib.hid hy
    clear hc hf eg hy
    go_enter Tryd.func20, Tryd.ntmps20
    go_wp2
    go_loopw [8] (fun i wr => ∃ k : Nat, k ≤ l.length ∧ i = .int .i64 k ∧ (ys.take k).any p = false ∧ Below w.heap.size w wr) (fun i _ => l.length - (intOf i).toNat)
    case atStart => exact ⟨0, by omega, rfl, rfl, Below.refl _ _⟩
    case round =>
      obtain ⟨k, hk, rfl, hall, hbw⟩ := hrel
      have Hall := Lib.hid hall
      clear hall
      by_cases hlt : k < l.length
      · obtain ⟨z0, hx⟩ : ∃ z0, l[k]? = some z0 := ⟨_, List.getElem?_eq_getElem hlt⟩
        have c0 : wr.cell? ⟨b, off + k, none⟩ = some (.int .i64 z0) := (hbw.cell hb).trans (by have := Hc.out k _ hx 0 _ rfl; simpa using this)
        obtain ⟨y, hyk⟩ : ∃ y, ys[k]? = some y := ⟨_, List.getElem?_eq_getElem (by rw [← HY.out]; exact hlt)⟩
        have HX := Lib.hid hyk
        have HC := Lib.hid (HF.out k _ y wr hx hyk hbw)
        clear hx hyk
        go_wp2_with fail
        first | with_reducible refine HC.out.mono ?_ | (rw [Heg.out]; refine HC.out.mono ?_)
        rintro e w1 ⟨rfl, hb1⟩
        have hbw1 := hbw.trans (hb1.mono hbw.size)
        clear hb1 HC
        cases hp : p y
        · have HA := Lib.hid (Cf.any_on HX.out Hall.out hp)
          clear hp
          go_wp2
          go_roundw
          case rel => exact ⟨k + 1, by omega, by go_num, HA.out, hbw1⟩
          case measure => simp [intOf]; omega
        · have HI := Lib.hid (Cf.idx_at HX.out hp Hall.out)
          clear hp
          go_wp2
          go_ret
          exact ⟨by rw [HI.out]; first | done | rfl, hbw1⟩
      · have HI := Lib.hid (Cf.idx_none (p := p) (l := ys) (by have := Hall.out; rwa [List.take_of_length_le (by rw [← HY.out]; omega)] at this))
        go_wp2
        go_ret
        exact ⟨by rw [HI.out]; rfl, hbw⟩
theorem zHas_any {β : Type} (l : List Int) (A : Option Addr) (cap : Nat) (w : World) (hR : RdS 1 encZ w A l) (hm : l.length ≤ maxLen) (ys : List β) (hy : l.length = ys.length) (p : β → Bool) (f : Nat) (cs : Array Value) (hf : zCl l ys p f cs w) (eg : ∀ args w, (callFunc f args).run Tryd.prog w = .ok (.enter f args) w) :
    Calls Tryd.prog 9 #[.slice A l.length cap, .func (.func f) #[] cs] w fun e w' => e = .returned (.bool (ys.any p)) ∧ Below w.heap.size w w' := by
  have H := Lib.hid (zIdx_any l A cap w hR hm ys hy p f cs hf eg)
  have HZ := Lib.hid (Cf.idx_pos (p := p) (l := ys))
  clear hf hR eg hy
  generalize Cf.idxT p ys = z at *
  go_enter Tryd.func9, Tryd.ntmps9
  go_wp2_with fail
  refine H.out.mono ?_
  rintro e w1 ⟨rfl, hb⟩
  go_wp2
  go_ret
  exact ⟨by rw [← HZ.out]; rfl, hb⟩
end Go.Proofs.YtnnhhbjbdmgpiaaDoor
