/- The state of the reference's ModuleOf, as it lies in memory. -/
import Derived.Test.YtdhnoaohicopdabDoorNextR
import Derived.Test.YtdhnoaohicopdabDoorAppS
import Derived.Test.YtdhnoaohicopdabDoorInsK
namespace Go.Proofs.YtdhnoaohicopdabDoor
open Go.RowKit

theorem codes_one (w : World) (ty : TypeId) (a b c d : Int) : Codes (w.alloc (.cells #[.int .i64 a, .int .i64 b, .int .i64 c, .int .i64 d] ty)) (some ⟨w.heap.size, 0, none⟩) [⟨a, b, c, d⟩] :=
  .inr ⟨w.heap.size, 0, rfl, by simp, fun k y hy j u hu => by
    cases k with
    | succ k => simp at hy
    | zero =>
      simp at hy
      subst hy
      rw [show 0 + 0 * 4 + j = j by omega]
      exact ((Wb.new w ty (encI ⟨a, b, c, d⟩)).cell j).trans hu⟩
theorem ints_one (w : World) (ty : TypeId) (z : Int) : Ints (w.alloc (.cells #[.int .i64 z] ty)) (some ⟨w.heap.size, 0, none⟩) [z] :=
  .inr ⟨w.heap.size, 0, rfl, by simp, fun k y hy j u hu => by
    cases k with
    | succ k => simp at hy
    | zero =>
      simp at hy
      subst hy
      rw [show 0 + 0 * 1 + j = j by omega]
      exact ((Wb.new w ty (encZ z)).cell j).trans hu⟩
theorem oneIns : ∀ x, ∀ u ∈ encI x, u.oneCell' = true := by
  intro x u hu
  simp [encI] at hu
  rcases hu with rfl | rfl | rfl | rfl <;> rfl
theorem oneInt : ∀ x, ∀ u ∈ encZ x, u.oneCell' = true := by
  intro x u hu
  simp [encZ] at hu
  subst hu
  rfl
theorem infoInt8 : (Tryd.prog.info? 3).map (fun i => (i.zero, i.size, i.bytes)) = some (some (.int .i64 0), 1, 8) := by kernel_rfl
structure OSt (w : World) (gi : Nat) (t : List UInt8) (pos : Nat) (sh : Bool) (nv cv : Value) (code : List Cf.Ins) (dv : Value) (data : List Int) (wr : World) : Prop where
  ns : NS wr gi (w.heap.size + 1) (gi + 1) t pos sh
  hp : pos ≤ t.length
  box : Wb wr (gi + 1 + 1) 37 [nv, cv, dv]
  res : Wb wr w.heap.size 37 [.string ⟨#[]⟩, .slice none 0 0, .slice none 0 0]
  code : wr.ownsRow (gi + 1 + 1 + 1) 30 4 cv code.length (code.flatMap encI)
  data : wr.ownsRow (gi + 1 + 1 + 1) 3 1 dv data.length (data.flatMap encZ)
  below : Below w.heap.size w wr
  lt : w.heap.size + 1 < gi
section
variable {w : World} {gi : Nat} {t : List UInt8} {pos pos' : Nat} {sh sh' : Bool} {nv cv dv : Value} {code : List Cf.Ins} {data : List Int} {wr w' : World}
theorem OSt.next (h : OSt w gi t pos sh nv cv code dv data wr) (hc : Chg wr w' gi (gi + 1)) (hn : NS w' gi (w.heap.size + 1) (gi + 1) t pos' sh') (hp : pos' ≤ t.length) : OSt w gi t pos' sh' nv cv code dv data w' := by
  have hlt := h.lt
  exact ⟨hn, hp, hc.wb h.box (by omega) (by omega), hc.wb h.res (by omega) (by omega), hc.own h.code (by omega) (by omega), hc.own h.data (by omega) (by omega), hc.below h.below (by omega) (by omega), h.lt⟩
theorem OSt.more (h : OSt w gi t pos sh nv cv code dv data wr) (hb : Below wr.heap.size wr w') : OSt w gi t pos sh nv cv code dv data w' :=
  ⟨⟨h.ns.i.below hb h.ns.i.lt, h.ns.t.below hb h.ns.t.lt, h.ns.s.below hb h.ns.s.lt⟩, h.hp, h.box.below hb h.box.lt, h.res.below hb h.res.lt, own_below h.code hb, own_below h.data hb, h.below.trans (hb.mono h.below.size), h.lt⟩
theorem OSt.alloc (h : OSt w gi t pos sh nv cv code dv data wr) (o : Obj) : OSt w gi t pos sh nv cv code dv data (wr.alloc o) := h.more ((Below.refl _ _).alloc (Nat.le_refl _) o)
theorem own_lt {base n size : Nat} {e : TypeId} {v : Value} {xs : List Value} (h : wr.ownsRow base e size v n xs) {g : Nat} (hg : g < base) : v.ownBlock ≠ some g := fun e => by
  have := own_blocks h _ e
  omega
/-- A store into a block that is none of the state's own. -/
theorem OSt.far (h : OSt w gi t pos sh nv cv code dv data wr) {gx : Nat} (hg : gi + 1 + 1 + 1 ≤ gx) (h1 : cv.ownBlock ≠ some gx) (h2 : dv.ownBlock ≠ some gx) (k : Nat) (v : Value) : OSt w gi t pos sh nv cv code dv data (wr.setCell ⟨gx, k, none⟩ v) := by
  have hlt := h.lt
  exact ⟨⟨h.ns.i.off_ (p := ⟨gx, k, none⟩) (by show gi ≠ gx; omega) _, h.ns.t.off_ (p := ⟨gx, k, none⟩) (by show w.heap.size + 1 ≠ gx; omega) _, h.ns.s.off_ (p := ⟨gx, k, none⟩) (by show gi + 1 ≠ gx; omega) _⟩, h.hp,
    h.box.off_ (p := ⟨gx, k, none⟩) (by show gi + 1 + 1 ≠ gx; omega) _, h.res.off_ (p := ⟨gx, k, none⟩) (by show w.heap.size ≠ gx; omega) _, own_setCell h.code h1 _, own_setCell h.data h2 _, h.below.setCell (by show w.heap.size ≤ gx; omega) _, h.lt⟩
theorem OSt.putName (h : OSt w gi t pos sh nv cv code dv data wr) (v : Value) : OSt w gi t pos sh v cv code dv data (wr.setCell ⟨gi + 1 + 1, 0, none⟩ v) := by
  have hlt := h.lt
  exact ⟨⟨h.ns.i.off_ (p := ⟨gi + 1 + 1, 0, none⟩) (by show gi ≠ gi + 1 + 1; omega) _, h.ns.t.off_ (p := ⟨gi + 1 + 1, 0, none⟩) (by show w.heap.size + 1 ≠ gi + 1 + 1; omega) _, h.ns.s.off_ (p := ⟨gi + 1 + 1, 0, none⟩) (by show gi + 1 ≠ gi + 1 + 1; omega) _⟩, h.hp,
    h.box.put 0 v, h.res.off_ (p := ⟨gi + 1 + 1, 0, none⟩) (by show w.heap.size ≠ gi + 1 + 1; omega) _, own_setCell h.code (own_lt h.code (g := gi + 1 + 1) (by omega)) _, own_setCell h.data (own_lt h.data (g := gi + 1 + 1) (by omega)) _, h.below.setCell (by show w.heap.size ≤ gi + 1 + 1; omega) _, h.lt⟩
theorem OSt.putPos (h : OSt w gi t pos sh nv cv code dv data wr) (n : Nat) (hn : pos + n ≤ t.length) (v : Value) (hv : v = .int .i64 ((pos + n : Nat) : Int)) : OSt w gi t (pos + n) sh nv cv code dv data (wr.setCell ⟨gi, 0, none⟩ v) := by
  subst hv
  have hlt := h.lt
  exact ⟨⟨h.ns.i.put 0 _, h.ns.t.off_ (p := ⟨gi, 0, none⟩) (by show w.heap.size + 1 ≠ gi; omega) _, h.ns.s.off_ (p := ⟨gi, 0, none⟩) (by show gi + 1 ≠ gi; omega) _⟩, hn,
    h.box.off_ (p := ⟨gi, 0, none⟩) (by show gi + 1 + 1 ≠ gi; omega) _, h.res.off_ (p := ⟨gi, 0, none⟩) (by show w.heap.size ≠ gi; omega) _, own_setCell h.code (own_lt h.code (g := gi) (by omega)) _, own_setCell h.data (own_lt h.data (g := gi) (by omega)) _, h.below.setCell (by show w.heap.size ≤ gi; omega) _, h.lt⟩
theorem OSt.putCode {v' : Value} {code' : List Cf.Ins} (h : OSt w gi t pos sh nv cv code dv data wr) (hown : w'.ownsRow (gi + 1 + 1 + 1) 30 4 v' code'.length (code'.flatMap encI)) (hg : wr.grownBy w' cv.ownBlock) (hne : ∀ k, dv.ownBlock = some k → cv.ownBlock ≠ some k) :
    OSt w gi t pos sh nv v' code' dv data (w'.setCell ⟨gi + 1 + 1, 1, none⟩ v') := by
  have hlt := h.lt
  have hbox := h.box.grown hg (own_lt h.code (by omega))
  have hdat : w'.ownsRow (gi + 1 + 1 + 1) 3 1 dv data.length (data.flatMap encZ) := by
    refine World.ownsRow.kept h.data hg ?_
    cases hv : dv.ownBlock with
    | none => exact .inl rfl
    | some k => exact .inr (Ne.symm (hne k hv))
  exact ⟨⟨(h.ns.i.grown hg (own_lt h.code (by omega))).off_ (p := ⟨gi + 1 + 1, 1, none⟩) (by show gi ≠ gi + 1 + 1; omega) _, (h.ns.t.grown hg (own_lt h.code (by omega))).off_ (p := ⟨gi + 1 + 1, 1, none⟩) (by show w.heap.size + 1 ≠ gi + 1 + 1; omega) _, (h.ns.s.grown hg (own_lt h.code (by omega))).off_ (p := ⟨gi + 1 + 1, 1, none⟩) (by show gi + 1 ≠ gi + 1 + 1; omega) _⟩, h.hp,
    hbox.put 1 v', (h.res.grown hg (own_lt h.code (by omega))).off_ (p := ⟨gi + 1 + 1, 1, none⟩) (by show w.heap.size ≠ gi + 1 + 1; omega) _, own_setCell hown (own_lt hown (g := gi + 1 + 1) (by omega)) _, own_setCell hdat (own_lt hdat (g := gi + 1 + 1) (by omega)) _,
    (h.below.grown hg h.below.size (fun k hk => by have := own_blocks h.code k hk; omega)).setCell (by show w.heap.size ≤ gi + 1 + 1; omega) _, h.lt⟩
theorem OSt.putData {v' : Value} {data' : List Int} (h : OSt w gi t pos sh nv cv code dv data wr) (hown : w'.ownsRow (gi + 1 + 1 + 1) 3 1 v' data'.length (data'.flatMap encZ)) (hg : wr.grownBy w' dv.ownBlock) (hne : ∀ k, cv.ownBlock = some k → dv.ownBlock ≠ some k) :
    OSt w gi t pos sh nv cv code v' data' (w'.setCell ⟨gi + 1 + 1, 2, none⟩ v') := by
  have hlt := h.lt
  have hbox := h.box.grown hg (own_lt h.data (by omega))
  have hcod : w'.ownsRow (gi + 1 + 1 + 1) 30 4 cv code.length (code.flatMap encI) := by
    refine World.ownsRow.kept h.code hg ?_
    cases hv : cv.ownBlock with
    | none => exact .inl rfl
    | some k => exact .inr (Ne.symm (hne k hv))
  exact ⟨⟨(h.ns.i.grown hg (own_lt h.data (by omega))).off_ (p := ⟨gi + 1 + 1, 2, none⟩) (by show gi ≠ gi + 1 + 1; omega) _, (h.ns.t.grown hg (own_lt h.data (by omega))).off_ (p := ⟨gi + 1 + 1, 2, none⟩) (by show w.heap.size + 1 ≠ gi + 1 + 1; omega) _, (h.ns.s.grown hg (own_lt h.data (by omega))).off_ (p := ⟨gi + 1 + 1, 2, none⟩) (by show gi + 1 ≠ gi + 1 + 1; omega) _⟩, h.hp,
    hbox.put 2 v', (h.res.grown hg (own_lt h.data (by omega))).off_ (p := ⟨gi + 1 + 1, 2, none⟩) (by show w.heap.size ≠ gi + 1 + 1; omega) _, own_setCell hcod (own_lt hcod (g := gi + 1 + 1) (by omega)) _, own_setCell hown (own_lt hown (g := gi + 1 + 1) (by omega)) _,
    (h.below.grown hg h.below.size (fun k hk => by have := own_blocks h.data k hk; omega)).setCell (by show w.heap.size ≤ gi + 1 + 1; omega) _, h.lt⟩
theorem insNeInt2 : (30 : TypeId) ≠ 3 := by decide
/-- The two rows share nothing. -/
theorem rows_apart {base base' n n' size size' : Nat} {e e' : TypeId} {v v' : Value} {xs xs' : List Value} (h : wr.ownsRow base e size v n xs) (h' : wr.ownsRow base' e' size' v' n' xs') (hne : e ≠ e') : ∀ k, v.ownBlock = some k → v'.ownBlock ≠ some k := by
  intro k hk hk'
  rcases h.2 with ⟨rfl, _⟩ | ⟨g, cap, cur, rfl, _, hh, _⟩
  · cases hk
  · rcases h'.2 with ⟨rfl, _⟩ | ⟨g', cap', cur', rfl, _, hh', _⟩
    · cases hk'
    · simp [Value.ownBlock] at hk hk'
      subst hk
      subst hk'
      have h2 := Option.some.inj (Eq.trans (Eq.symm hh) hh')
      injection h2 with _ ht
      exact hne ht
theorem OSt.boxC (h : OSt w gi t pos sh nv cv code dv data wr) (hg : wr.grownBy w' cv.ownBlock) : Wb w' (gi + 1 + 1) 37 [nv, cv, dv] := h.box.grown hg (own_lt h.code (by omega))
theorem OSt.boxD (h : OSt w gi t pos sh nv cv code dv data wr) (hg : wr.grownBy w' dv.ownBlock) : Wb w' (gi + 1 + 1) 37 [nv, cv, dv] := h.box.grown hg (own_lt h.data (by omega))
theorem OSt.out {A B : Option Addr} {ca cb : Nat} (h : OSt w gi t pos sh nv (.slice A code.length ca) code (.slice B data.length cb) data wr) : Codes wr A code ∧ Ints wr B data ∧ Fresh (gi + 1 + 1 + 1) A code ∧ Fresh (gi + 1 + 1 + 1) B data :=
  ⟨own_rd encI_len h.code, own_rd encZ_len h.data, own_fresh h.code rfl, own_fresh h.data rfl⟩
end
/-- The state, and an instruction that is being read. -/
structure OX (w : World) (gi : Nat) (t : List UInt8) (pos : Nat) (sh : Bool) (nv cv : Value) (code : List Cf.Ins) (dv : Value) (data : List Int) (gx : Nat) (xs : List Value) (wr : World) : Prop where
  st : OSt w gi t pos sh nv cv code dv data wr
  x : Wb wr gx 30 xs
  hx : gi + 1 + 1 + 1 ≤ gx
  hc : cv.ownBlock ≠ some gx
  hd : dv.ownBlock ≠ some gx
section
variable {w : World} {gi : Nat} {t : List UInt8} {pos pos' : Nat} {sh sh' : Bool} {nv cv dv : Value} {code : List Cf.Ins} {data : List Int} {gx : Nat} {xs : List Value} {wr w' : World}
theorem OX.new (h : OSt w gi t pos sh nv cv code dv data wr) (xs : List Value) : OX w gi t pos sh nv cv code dv data wr.heap.size xs (wr.alloc (.cells xs.toArray 30)) := by
  have hlt := h.box.lt
  exact ⟨h.alloc _, Wb.new wr _ xs, by omega, fun e => by have := (World.ownsRow.lt h.code _ e).2; omega, fun e => by have := (World.ownsRow.lt h.data _ e).2; omega⟩
theorem OX.next (h : OX w gi t pos sh nv cv code dv data gx xs wr) (hc : Chg wr w' gi (gi + 1)) (hn : NS w' gi (w.heap.size + 1) (gi + 1) t pos' sh') (hp : pos' ≤ t.length) : OX w gi t pos' sh' nv cv code dv data gx xs w' := by
  have hx := h.hx
  exact ⟨h.st.next hc hn hp, hc.wb h.x (by omega) (by omega), h.hx, h.hc, h.hd⟩
theorem OX.put (h : OX w gi t pos sh nv cv code dv data gx xs wr) (k : Nat) (v : Value) : OX w gi t pos sh nv cv code dv data gx (xs.set k v) (wr.setCell ⟨gx, k, none⟩ v) :=
  ⟨h.st.far h.hx h.hc h.hd k v, h.x.put k v, h.hx, h.hc, h.hd⟩
theorem OX.drew (h : OX w gi t pos sh nv cv code dv data gx xs wr) : OX w gi t pos sh nv cv code dv data gx xs wr.drew :=
  ⟨h.st.more (Below.refl _ _).drew, h.x, h.hx, h.hc, h.hd⟩
end
/-- A call through a function value without arguments, as one step of a region that draws. -/
theorem step_callF {P : Program} {ops : Array Oper} {o : Oper} {a : Act} {w : World} {K : Act → World → Prop} {Q : Exit → Act → World → Prop} {E : Prop} {R : Ending → World → Prop}
    (hg : o.guard = none) (f : FuncId) (x : Operand) (tys : Array TypeId) (ho : o.op = .call { callee := .value x, args := #[], argTypes := tys }) (caps : Array Value) (hv : a.eval x = .func (.func f) #[] caps)
    (eg : ∀ args w, (callFunc f args).run P w = .ok (.enter f args) w) (hc : Calls P f caps w R) (h : ∀ e w', R e w' → ∃ v, e = .returned v ∧ K (a.put o.dst v) w') :
    if Region.wanted o (yielded ops a.tmps) = true then Oper.wp P o a w K Q else E := by
  rw [if_pos (by simp [Region.wanted, hg])]
  have hex : (execOp a.eval o).run P w = .ok (.enter f caps) w := by
    simp [execOp, ho, resolve, invoke, hv, eg, Deferred.ofValue]
  unfold Oper.wp
  rw [hex]
  refine hc.mono fun e w' hr => ?_
  obtain ⟨v, rfl, hk⟩ := h e w' hr
  exact hk
end Go.Proofs.YtdhnoaohicopdabDoor
