/- The state of the program's parse, as it lies in memory; steps of regions that draw their order. -/
import Derived.Test.YtdhnoaohicopdabDoorInsW
import Derived.Test.YtdhnoaohicopdabDoorCloneS
import Derived.Test.YtdhnoaohicopdabDoorInsK
import Derived.Test.YtdhnoaohicopdabDoorFreshK
import Derived.Deep.RegionLaw
namespace Go.Proofs.YtdhnoaohicopdabDoor
open Go.RowKit

/-- A call of a Go function, as one step of a region that draws. -/
theorem step_call1 {P : Program} {ops : Array Oper} {o : Oper} {a : Act} {w : World} {K : Act → World → Prop} {Q : Exit → Act → World → Prop} {E : Prop} {R : Ending → World → Prop}
    (hg : o.guard = none) (f : FuncId) (x : Operand) (tys : Array TypeId) (ho : o.op = .call { callee := .value (.func f), args := #[x], argTypes := tys }) (v : Value) (hv : a.eval x = v)
    (eg : ∀ args w, (callFunc f args).run P w = .ok (.enter f args) w) (hc : Calls P f #[v] w R) (h : ∀ e w', R e w' → ∃ v, e = .returned v ∧ K (a.put o.dst v) w') :
    if Region.wanted o (yielded ops a.tmps) = true then Oper.wp P o a w K Q else E := by
  rw [if_pos (by simp [Region.wanted, hg])]
  have hex : (execOp a.eval o).run P w = .ok (.enter f #[v]) w := by
    have hfn : a.eval (.func f) = .func (.func f) #[] #[] := rfl
    simp [execOp, ho, resolve, invoke, hv, eg, hfn, Deferred.ofValue]
  unfold Oper.wp
  rw [hex]
  refine hc.mono fun e w' hr => ?_
  obtain ⟨v, rfl, hk⟩ := h e w' hr
  exact hk
theorem step_call2 {P : Program} {ops : Array Oper} {o : Oper} {a : Act} {w : World} {K : Act → World → Prop} {Q : Exit → Act → World → Prop} {E : Prop} {R : Ending → World → Prop}
    (hg : o.guard = none) (f : FuncId) (x y : Operand) (tys : Array TypeId) (ho : o.op = .call { callee := .value (.func f), args := #[x, y], argTypes := tys }) (v u : Value) (hv : a.eval x = v) (hu : a.eval y = u)
    (eg : ∀ args w, (callFunc f args).run P w = .ok (.enter f args) w) (hc : Calls P f #[v, u] w R) (h : ∀ e w', R e w' → ∃ v, e = .returned v ∧ K (a.put o.dst v) w') :
    if Region.wanted o (yielded ops a.tmps) = true then Oper.wp P o a w K Q else E := by
  rw [if_pos (by simp [Region.wanted, hg])]
  have hex : (execOp a.eval o).run P w = .ok (.enter f #[v, u]) w := by
    have hfn : a.eval (.func f) = .func (.func f) #[] #[] := rfl
    simp [execOp, ho, resolve, invoke, hv, hu, eg, hfn, Deferred.ofValue]
  unfold Oper.wp
  rw [hex]
  refine hc.mono fun e w' hr => ?_
  obtain ⟨v, rfl, hk⟩ := h e w' hr
  exact hk
theorem codes_new (w : World) (t : TypeId) (x : Cf.Ins) : Codes (w.alloc (.cells #[.int .i64 x.op, .int .i64 x.a, .int .i64 x.b, .int .i64 x.c] t)) (some ⟨w.heap.size, 0, none⟩) [x] :=
  .inr ⟨w.heap.size, 0, rfl, by simp, fun k y hy j u hu => by
    cases k with
    | succ k => simp at hy
    | zero =>
      simp at hy
      subst hy
      rw [show 0 + 0 * 4 + j = j by omega]
      exact ((Wb.new w t (encI x)).cell j).trans hu⟩
theorem ints_new (w : World) (t : TypeId) (z : Int) : Ints (w.alloc (.cells #[.int .i64 z] t)) (some ⟨w.heap.size, 0, none⟩) [z] :=
  .inr ⟨w.heap.size, 0, rfl, by simp, fun k y hy j u hu => by
    cases k with
    | succ k => simp at hy
    | zero =>
      simp at hy
      subst hy
      rw [show 0 + 0 * 1 + j = j by omega]
      exact ((Wb.new w t (encZ z)).cell j).trans hu⟩
theorem one_ins : ∀ x, ∀ u ∈ encI x, u.oneCell' = true := by
  intro x u hu
  simp [encI] at hu
  rcases hu with rfl | rfl | rfl | rfl <;> rfl
theorem one_int : ∀ x, ∀ u ∈ encZ x, u.oneCell' = true := by
  intro x u hu
  simp [encZ] at hu
  subst hu
  rfl
theorem infoInt64 : (Tryd.prog.info? 3).map (fun i => (i.zero, i.size, i.bytes)) = some (some (.int .i64 0), 1, 8) := by kernel_rfl
theorem own_kept {w w' : World} {base n size : Nat} {e : TypeId} {v : Value} {xs : List Value} {row : Option Nat} (h : w.ownsRow base e size v n xs) (hg : w.grownBy w' row) (hne : ∀ k, v.ownBlock = some k → row ≠ some k) : w'.ownsRow base e size v n xs := by
  refine World.ownsRow.kept h hg ?_
  cases hv : v.ownBlock with
  | none => exact .inl rfl
  | some k => exact .inr (Ne.symm (hne k hv))
/-- A row that the call owns is no row of another element type. -/
theorem own_apart {w : World} {base base' n n' size size' : Nat} {e e' : TypeId} {v v' : Value} {xs xs' : List Value} (h : w.ownsRow base e size v n xs) (h' : w.ownsRow base' e' size' v' n' xs') (hne : e ≠ e') : ∀ k, v.ownBlock = some k → v'.ownBlock ≠ some k := by
  intro k hk hk'
  rcases h.2 with ⟨rfl, _⟩ | ⟨g, cap, cur, rfl, _, hh, _⟩
  · cases hk
  · rcases h'.2 with ⟨rfl, _⟩ | ⟨g', cap', cur', rfl, _, hh', _⟩
    · cases hk'
    · simp [Value.ownBlock] at hk hk'
      subst hk
      subst hk'
      have h2 := Option.some.inj (Eq.trans (Eq.symm hh) hh')
      injection h2 with _ ht
      exact hne ht
theorem insNeMod : (30 : TypeId) ≠ 37 := by decide
theorem insNeRdr : (30 : TypeId) ≠ 71 := by decide
theorem intNeMod : (3 : TypeId) ≠ 37 := by decide
theorem intNeRdr : (3 : TypeId) ≠ 71 := by decide
theorem insNeInt : (30 : TypeId) ≠ 3 := by decide
structure PSt (w : World) (r : Cf.Rdr) (nv cv : Value) (code : List Cf.Ins) (dv : Value) (data : List Int) (wr : World) : Prop where
  rd : RB wr (w.heap.size + 1) r
  box : Wb wr (w.heap.size + 1 + 1) 37 [nv, cv, dv]
  res : Wb wr w.heap.size 37 [.string ⟨#[]⟩, .slice none 0 0, .slice none 0 0]
  code : wr.ownsRow w.heap.size 30 4 cv code.length (code.flatMap encI)
  data : Row wr w.heap.size dv data
  below : Below w.heap.size w wr
section
variable {w : World} {r r' : Cf.Rdr} {nv cv dv : Value} {code : List Cf.Ins} {data : List Int} {wr w' : World}
theorem PSt.read (h : PSt w r nv cv code dv data wr) (hr : RB w' (w.heap.size + 1) r') (hg : wr.grownBy w' (some (w.heap.size + 1))) : PSt w r' nv cv code dv data w' :=
  ⟨hr, h.box.grown hg (by intro e; injection e with e; omega), h.res.grown hg (by intro e; injection e with e; omega),
    own_kept h.code hg (fun k hk e => own_off h.code h.rd insNeRdr (hk.trans e.symm)), own_kept h.data hg (fun k hk e => own_off h.data h.rd intNeRdr (hk.trans e.symm)),
    h.below.grown hg h.below.size (fun k hk => by injection hk with hk; omega)⟩
theorem PSt.more (h : PSt w r nv cv code dv data wr) (hb : Below wr.heap.size wr w') : PSt w r nv cv code dv data w' :=
  ⟨h.rd.below hb h.rd.lt, h.box.below hb h.box.lt, h.res.below hb h.res.lt, own_below h.code hb, own_below h.data hb, h.below.trans (hb.mono h.below.size)⟩
theorem PSt.alloc (h : PSt w r nv cv code dv data wr) (o : Obj) : PSt w r nv cv code dv data (wr.alloc o) := h.more ((Below.refl _ _).alloc (Nat.le_refl _) o)
theorem PSt.drew (h : PSt w r nv cv code dv data wr) : PSt w r nv cv code dv data wr.drew := h.more (Below.refl _ _).drew
theorem PSt.putName (h : PSt w r nv cv code dv data wr) (v : Value) : PSt w r v cv code dv data (wr.setCell ⟨w.heap.size + 1 + 1, 0, none⟩ v) :=
  ⟨h.rd.off_ (p := ⟨w.heap.size + 1 + 1, 0, none⟩) (by show w.heap.size + 1 ≠ w.heap.size + 1 + 1; omega) _, h.box.put 0 v, h.res.off_ (p := ⟨w.heap.size + 1 + 1, 0, none⟩) (by show w.heap.size ≠ w.heap.size + 1 + 1; omega) _,
    own_setCell h.code (own_off h.code h.box insNeMod) _, own_setCell h.data (own_off h.data h.box intNeMod) _, h.below.setCell (by show w.heap.size ≤ w.heap.size + 1 + 1; omega) _⟩
theorem PSt.putCode {v' : Value} {code' : List Cf.Ins} (h : PSt w r nv cv code dv data wr) (hown : w'.ownsRow w.heap.size 30 4 v' code'.length (code'.flatMap encI)) (hg : wr.grownBy w' cv.ownBlock) : PSt w r nv v' code' dv data (w'.setCell ⟨w.heap.size + 1 + 1, 1, none⟩ v') := by
  have hbox := h.box.grown hg (own_off h.code h.box insNeMod)
  have hrd : RB w' (w.heap.size + 1) r := h.rd.grown hg (own_off h.code h.rd insNeRdr)
  have hdat : Row w' w.heap.size dv data := own_kept h.data hg (fun k hk => own_apart h.data h.code (Ne.symm insNeInt) k hk)
  exact ⟨hrd.off_ (p := ⟨w.heap.size + 1 + 1, 1, none⟩) (by show w.heap.size + 1 ≠ w.heap.size + 1 + 1; omega) _, hbox.put 1 v', (h.res.grown hg (own_off h.code h.res insNeMod)).off_ (p := ⟨w.heap.size + 1 + 1, 1, none⟩) (by show w.heap.size ≠ w.heap.size + 1 + 1; omega) _,
    own_setCell hown (own_off hown hbox insNeMod) _, own_setCell hdat (own_off hdat hbox intNeMod) _, (h.below.grown hg h.below.size (fun k hk => own_blocks h.code k hk)).setCell (by show w.heap.size ≤ w.heap.size + 1 + 1; omega) _⟩
theorem PSt.putData {v' : Value} {data' : List Int} (h : PSt w r nv cv code dv data wr) (hown : Row w' w.heap.size v' data') (hg : wr.grownBy w' dv.ownBlock) : PSt w r nv cv code v' data' (w'.setCell ⟨w.heap.size + 1 + 1, 2, none⟩ v') := by
  have hbox := h.box.grown hg (own_off h.data h.box intNeMod)
  have hrd : RB w' (w.heap.size + 1) r := h.rd.grown hg (own_off h.data h.rd intNeRdr)
  have hcod := own_kept h.code hg (fun k hk => own_apart h.code h.data insNeInt k hk)
  exact ⟨hrd.off_ (p := ⟨w.heap.size + 1 + 1, 2, none⟩) (by show w.heap.size + 1 ≠ w.heap.size + 1 + 1; omega) _, hbox.put 2 v', (h.res.grown hg (own_off h.data h.res intNeMod)).off_ (p := ⟨w.heap.size + 1 + 1, 2, none⟩) (by show w.heap.size ≠ w.heap.size + 1 + 1; omega) _,
    own_setCell hcod (own_off hcod hbox insNeMod) _, own_setCell hown (own_off hown hbox intNeMod) _, (h.below.grown hg h.below.size (fun k hk => own_blocks h.data k hk)).setCell (by show w.heap.size ≤ w.heap.size + 1 + 1; omega) _⟩
theorem PSt.dataZ (h : PSt w r nv cv code dv data wr) : wr.ownsRow w.heap.size 3 1 dv data.length (data.flatMap encZ) := by
  have := h.data
  unfold Row at this
  rwa [map_flat] at this
theorem PSt.out {A B : Option Addr} {ca cb : Nat} (h : PSt w r nv (.slice A code.length ca) code (.slice B data.length cb) data wr) (a b c : Value) :
    Codes (((wr.setCell ⟨w.heap.size, 0, none⟩ a).setCell ⟨w.heap.size, 1, none⟩ b).setCell ⟨w.heap.size, 2, none⟩ c) A code ∧ Ints (((wr.setCell ⟨w.heap.size, 0, none⟩ a).setCell ⟨w.heap.size, 1, none⟩ b).setCell ⟨w.heap.size, 2, none⟩ c) B data ∧
      Below w.heap.size w (((wr.setCell ⟨w.heap.size, 0, none⟩ a).setCell ⟨w.heap.size, 1, none⟩ b).setCell ⟨w.heap.size, 2, none⟩ c) ∧ Fresh w.heap.size A code ∧ Fresh w.heap.size B data := by
  have h1 := own_off h.code h.res insNeMod
  have h2 := own_off h.dataZ h.res intNeMod
  exact ⟨own_rd encI_len (own_setCell (own_setCell (own_setCell h.code h1 a) h1 b) h1 c), own_rd encZ_len (own_setCell (own_setCell (own_setCell h.dataZ h2 a) h2 b) h2 c),
    ((h.below.setCell (Nat.le_refl _) a).setCell (Nat.le_refl _) b).setCell (Nat.le_refl _) c, own_fresh h.code rfl, own_fresh h.dataZ rfl⟩
theorem PSt.boxC (h : PSt w r nv cv code dv data wr) (hg : wr.grownBy w' cv.ownBlock) : Wb w' (w.heap.size + 1 + 1) 37 [nv, cv, dv] := h.box.grown hg (own_off h.code h.box insNeMod)
theorem PSt.boxD (h : PSt w r nv cv code dv data wr) (hg : wr.grownBy w' dv.ownBlock) : Wb w' (w.heap.size + 1 + 1) 37 [nv, cv, dv] := h.box.grown hg (own_off h.data h.box intNeMod)
end
end Go.Proofs.YtdhnoaohicopdabDoor
