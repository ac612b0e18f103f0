/- Texts of the proofs: ActN, ActM, ActL, DoW. -/
import Derived.Test.YtnnhhbjbdmgpiaaGreatDoorJ34
import Derived.Test.YtnnhhbjbdmgpiaaGreatDoorJ30
import Derived.Test.YtnnhhbjbdmgpiaaGreatDoorJ26
set_option linter.unusedSimpArgs false
set_option linter.unusedVariables false
/- Walks of chapter 5: the program's install. (tools/gen/acti.py) -/
namespace Go.Proofs.YtnnhhbjbdmgpiaaGreatDoor
set_option maxRecDepth 100000
open Go.RowKit
structure KI (B H : Nat) (wb : World) (g : Nat) (a : KA) (xs : List MV) (x : MV) (m : Cf.Mod) (ps : List PV) (k : Cf.Kern) (mem : List Int) (w : World) : Prop where
 box : Wb w g tKern (kcells a ⟨k.mods ++ [m], mem, k.nodes, k.pipes, k.procs⟩)
 row : w.ownsRow B tMod 3 (.slice a.A (xs.length + 1) a.ca) (xs.length + 1) ((xs ++ [x]).flatMap encMv)
 each : Each (OwM B w) xs k.mods
 new_ : IsM w x m
 frA : Fresh H x.A m.code
 frB : Fresh H x.B m.data
 mem_ : Nw 1 encZ w tInt B a.M mem
 memH : ∀ gM, a.M = some ⟨gM, 0, none⟩ → gM < H
 nodes : Nw 4 encNd w tNode B a.N k.nodes
 pipes : Nw 1 encSt w tStr B a.S k.pipes
 procs : Nw 2 encPv w tProc B a.Q ps
 ends : Each (OwP B w) ps k.procs
 dat : ∀ y ∈ xs, y.ld = 0 ∨ mem = [] ∨ y.B ≠ a.M
 lo : B ≤ g
 hH : B ≤ H
 keep : Below B wb w
 capM : mem.length ≤ a.cm
section
variable {B H : Nat} {wb : World} {g : Nat} {a : KA} {xs : List MV} {x : MV} {m : Cf.Mod} {ps : List PV} {k : Cf.Kern} {mem : List Int} {w : World}
theorem KI.putM (h : KI B H wb g a xs x m ps k mem w) {gM : Nat} (ha : a.M = some ⟨gM, 0, none⟩) {i : Nat} (hi : i < mem.length) (v : Int) : KI B H wb g a xs x m ps k (mem.set i v) (w.setCell ⟨gM, i, none⟩ (.int .i64 v)) := by
 have hx := List.getElem?_eq_getElem hi
 have hn := h.mem_
 rw [ha] at hn
 obtain ⟨hB, cs, hw⟩ := hn.box_ hx
 have hgH := h.memH gM ha
 refine ⟨?_, own_setCell h.row (own_off h.row hw (by decide)) _, ?_, ?_, h.frA, h.frB, ?_, h.memH, h.nodes.offW hw (by decide) _ _, h.pipes.offW hw (by decide) _ _, h.procs.offW hw (by decide) _ _, h.ends.offE hw (by decide) _ _, ?_, h.lo, h.hH, h.keep.setCell hB _, by rw [List.length_set]; exact h.capM⟩
 ·have : kcells a ⟨k.mods ++ [m], mem.set i v, k.nodes, k.pipes, k.procs⟩ = kcells a ⟨k.mods ++ [m], mem, k.nodes, k.pipes, k.procs⟩ := by unfold kcells; simp
  rw [this]
  exact h.box.off_ (h.box.other hw (by decide)) _
 ·refine ⟨h.each.1, fun j y n hy hn' => ?_⟩
  obtain ⟨e1, e2, e3, e4, e5⟩ := h.each.2 j y n hy hn'
  refine ⟨e1, e2, e3, e4.offW hw (by decide) _ _, ?_⟩
  by_cases hd : n.data = []
  ·exact .inl hd
  rcases e5 with e5 | ⟨g', f1, f2, f3⟩
  ·exact .inl e5
  ·refine .inr ⟨g', f1, f2, f3.off_ (p := ⟨gM, i, none⟩) ?_ _⟩
   intro he
   have he' : g' = gM := he
   rcases h.dat y (List.mem_of_getElem? hy) with d | d | d
   ·rw [e3] at d
    exact hd (List.eq_nil_of_length_eq_zero d)
   ·rw [d] at hi
    simp at hi
   ·rw [f1, ha, he'] at d
    exact d rfl
 ·exact ⟨h.new_.1, h.new_.2.1, h.new_.2.2.1, rd_set h.new_.2.2.2.1 h.frA (p := ⟨gM, i, none⟩) hgH _, rd_set h.new_.2.2.2.2 h.frB (p := ⟨gM, i, none⟩) hgH _⟩
 ·rw [ha]
  have := hn.put hx Nat.zero_lt_one (x' := v) (u := .int .i64 v) rfl
  rw [Nat.mul_one, Nat.add_zero] at this
  exact this
 ·intro y hy
  rcases h.dat y hy with d | d | d
  ·exact .inl d
  ·exact .inr (.inl (by rw [d]; rfl))
  ·exact .inr (.inr d)
theorem KI.lay : ∀ (vs : List Int) (o : Nat) {mem : List Int} {w : World}, KI B H wb g a xs x m ps k mem w → ∀ {gM : Nat}, a.M = some ⟨gM, 0, none⟩ → o + vs.length ≤ mem.length →
  KI B H wb g a xs x m ps k (mem.take o ++ vs ++ mem.drop (o + vs.length)) (w.setCells gM o (vs.map (Value.int .i64)))
 | [], o, mem, w, h, gM, _, _ => by simpa [World.setCells] using h
 | v :: vs, o, mem, w, h, gM, ha, hl => by
   simp only [List.length_cons] at hl
   have h1 := KI.lay vs (o + 1) (h.putM ha (i := o) (by omega) v) ha (by rw [List.length_set]; omega)
   have e : (mem.set o v).take (o + 1) ++ vs ++ (mem.set o v).drop (o + 1 + vs.length) = mem.take o ++ (v :: vs) ++ mem.drop (o + (v :: vs).length) := by
    have ho : o < mem.length := by omega
    rw [List.take_add_one, List.getElem?_set_self ho, List.take_set_of_le (Nat.le_refl o), List.drop_set_of_lt (by omega), List.length_cons, show o + 1 + vs.length = o + (vs.length + 1) by omega]
    simp
   rw [e] at h1
   exact h1
theorem KI.bk (h : KI B H wb g a xs x m ps k mem w) {gM : Nat} (ha : a.M = some ⟨gM, 0, none⟩) (h0 : 0 < mem.length) : Bk 1 encZ w gM tInt mem := by
 obtain ⟨g', h1, _, _, h2⟩ := h.mem_.at_ (i := 0) (List.getElem?_eq_getElem h0)
 rw [ha] at h1
 cases h1
 exact h2
theorem KI.aft (h : KI B H wb g a xs x m ps k mem w) : KAft B wb g ⟨k.mods ++ [m], mem, k.nodes, k.pipes, k.procs⟩ w := by
 refine ⟨a, h.box, ⟨⟨xs ++ [x], ⟨own_rd (l := xs ++ [x]) encMv_len (by rw [List.length_append]; exact h.row), own_fresh h.row (by simp)⟩, ?_⟩, ⟨h.mem_.rd, h.mem_.fresh⟩, ⟨h.nodes.rd, h.nodes.fresh⟩, ⟨h.pipes.rd, h.pipes.fresh⟩, ⟨ps, ⟨h.procs.rd, h.procs.fresh⟩, h.ends.mono fun _ _ h => h.is⟩, ?_, h.capM⟩, h.keep⟩
 ·exact (h.each.mono fun _ _ h => h.is).snoc ⟨h.new_, h.frA.mono h.hH, h.frB.mono h.hH⟩
 ·show (k.mods ++ [m]).length ≤ a.ca
  have := own_cap h.row
  rw [List.length_append, ← h.each.1]
  exact this
theorem rd_grown {α : Type} {sz : Nat} {enc : α → List Value} {w w' : World} {A : Option Addr} {l : List α} {row : Option Nat} (h : RdS sz enc w A l) (hf : Fresh H A l) (hg : w.grownBy w' row) (hr : ∀ r, row = some r → r < H) : RdS sz enc w' A l := by
 rcases h with h | ⟨b, off, rfl, hb, hc⟩
 ·exact .inl h
 ·rcases hf with hf | ⟨b', off', he, hle⟩
  ·exact .inl hf
  ·cases he
   refine .inr ⟨b, off, rfl, Nat.lt_of_lt_of_le hb hg.size, fun i y hy j v hv => ?_⟩
   refine hg.cell (hc i y hy j v hv) ?_
   intro he
   have := hr b he.symm
   omega
theorem KSt.grow {w1 w2 : World} (h : KSt B wb g a xs ps k w) (hb : Below w.heap.size w w1) (hrow : ∀ r, (Value.slice a.A xs.length a.ca).ownBlock = some r → r < H) (hMH : ∀ gM, a.M = some ⟨gM, 0, none⟩ → gM < H) (hH : B ≤ H) (hgH : g < H)
  (hx : IsM w1 x m) (fA : Fresh H x.A m.code) (fB : Fresh H x.B m.data) {A' : Option Addr} {c' : Nat} (hg : w1.grownBy w2 (Value.slice a.A xs.length a.ca).ownBlock)
  (hown : w2.ownsRow B tMod 3 (.slice A' (xs.length + 1) c') (xs.length + 1) (xs.flatMap encMv ++ [x].flatMap encMv)) :
  KI B H wb g { a with A := A', ca := c' } xs x m ps k k.mem (w2.setCell ⟨g, 0, none⟩ (.slice A' (xs.length + 1) c')) := by
 have h1 := h.below hb
 have hbox := h1.box.grown hg (own_off h1.own.row h1.box (by decide))
 have key : ∀ {α : Type} {sz : Nat} {enc : α → List Value} {t : TypeId} {A : Option Addr} {l : List α}, Nw sz enc w1 t B A l → tMod ≠ t → t ≠ tKern → Nw sz enc (w2.setCell ⟨g, 0, none⟩ (.slice A' (xs.length + 1) c')) t B A l := fun hN h2 h3 => (hN.grownR h1.own.row h2 hg).offW hbox h3 0 _
 have hM : ∀ y n, OwM B w1 y n → OwM B (w2.setCell ⟨g, 0, none⟩ (.slice A' (xs.length + 1) c')) y n := fun y n hy => ⟨hy.1, hy.2.1, hy.2.2.1, key hy.2.2.2.1 (by decide) (by decide), key hy.2.2.2.2 (by decide) (by decide)⟩
 have hP : ∀ y n, OwP B w1 y n → OwP B (w2.setCell ⟨g, 0, none⟩ (.slice A' (xs.length + 1) c')) y n := fun y n hy => ⟨hy.1, hy.2.1, key hy.2.2.1 (by decide) (by decide), hy.2.2.2⟩
 have hR : ∀ {α : Type} {sz : Nat} {enc : α → List Value} {A : Option Addr} {l : List α}, RdS sz enc w1 A l → Fresh H A l → RdS sz enc (w2.setCell ⟨g, 0, none⟩ (.slice A' (xs.length + 1) c')) A l := fun hR hF => rd_set (rd_grown hR hF hg hrow) hF (p := ⟨g, 0, none⟩) hgH _
 refine ⟨?_, ?_, h1.own.each.mono hM, ⟨hx.1, hx.2.1, hx.2.2.1, hR hx.2.2.2.1 fA, hR hx.2.2.2.2 fB⟩, fA, fB, key h1.own.mem (by decide) (by decide), hMH, key h1.own.nodes (by decide) (by decide), key h1.own.pipes (by decide) (by decide), key h1.own.procs (by decide) (by decide), h1.own.ends.mono hP, h1.own.dat, h.lo, hH, (h1.keep.grown hg h1.room (fun r hr => own_blocks h1.own.row r hr)).setCell h.lo _, h.own.capM⟩
 ·have := hbox.put 0 (.slice A' (xs.length + 1) c')
  have e : kcells { a with A := A', ca := c' } ⟨k.mods ++ [m], k.mem, k.nodes, k.pipes, k.procs⟩ = (kcells a k).set 0 (.slice A' (xs.length + 1) c') := by
   unfold kcells
   simp [h.own.each.1]
  rw [e]
  exact this
 ·rw [List.flatMap_append]
  exact own_setCell hown (own_off hown hbox (by decide)) _
end
end Go.Proofs.YtnnhhbjbdmgpiaaGreatDoor
/- Walks of chapter 5: the program's install, walked. (tools/gen/actm.py) -/
namespace Go.Proofs.YtnnhhbjbdmgpiaaGreatDoor
set_option maxRecDepth 100000
open Go.RowKit
def EndSt (B : Nat) (wb : World) (g lim : Nat) (k : Cf.Kern) (w : World) : Prop := (∃ a xs ps, KSt B wb g a xs ps k w) ∨ ∃ (H : Nat) (a : KA) (xs : List MV) (x : MV) (m : Cf.Mod) (ps : List PV) (k0 : Cf.Kern) (mem : List Int), KI B H wb g a xs x m ps k0 mem w ∧ lim ≤ H ∧ k = ⟨k0.mods ++ [m], mem, k0.nodes, k0.pipes, k0.procs⟩
def EndFin (B : Nat) (wb : World) (g : Nat) (w : World) (k : Cf.Kern) (w' : World) : Prop := EndSt B wb g w.heap.size k w' ∧ KpA w w'
def ActEnd (B : Nat) (wb : World) (g : Nat) (w : World) (d : Cf.Did) (e : Ending) (w' : World) : Prop := e = .returned (.agg (encAn d.ans).toArray) ∧ EndFin B wb g w d.kern w'
theorem ActFin.fin {B : Nat} {wb : World} {g : Nat} {w w' : World} {k : Cf.Kern} (h : ActFin B wb g w k w') : EndFin B wb g w k w' := ⟨.inl h.1, h.2⟩
theorem ActPost.end_ {B : Nat} {wb : World} {g : Nat} {w w' : World} {d : Cf.Did} {e : Ending} (h : ActPost B wb g w d e w') : ActEnd B wb g w d e w' := ⟨h.1, h.2.fin⟩
theorem KpA.cells {w0 : World} {g : Nat} {t : TypeId} (hne : tAns ≠ t) : ∀ (vs : List Value) (o : Nat) (w : World), KpA w0 w → (∃ ds, Wb w g t ds) → KpA w0 (w.setCells g o vs)
 | [], _, _, h, _ => h
 | v :: vs, o, w, h, ⟨ds, hg⟩ => KpA.cells hne vs (o + 1) (w.setCell ⟨g, o, none⟩ v) (h.offX ⟨ds, hg⟩ hne o v) ⟨_, hg.put o v⟩
theorem box_cells {g b : Nat} {t : TypeId} : ∀ (vs : List Value) (o : Nat) (w : World), (∃ ds, Wb w b t ds) → ∃ ds, Wb (w.setCells g o vs) b t ds
 | [], _, _, h => h
 | v :: vs, o, w, ⟨ds, h⟩ => box_cells vs (o + 1) (w.setCell ⟨g, o, none⟩ v) (by
   by_cases hb : b = g
   ·subst hb
    exact ⟨_, h.put o v⟩
   ·exact ⟨ds, h.off_ (p := ⟨g, o, none⟩) hb v⟩)
theorem KpA.grown {B : Nat} {w0 w w' : World} {A : Option Addr} {n c : Nat} {vs : List Value} (h : KpA w0 w) (hr : w.ownsRow B tMod 3 (.slice A n c) n vs) (hg : w.grownBy w' (Value.slice A n c).ownBlock) : KpA w0 w' := fun b cs hb => (h b cs hb).grown hg (own_off hr (h b cs hb) (by decide))
section
variable {B H : Nat} {wb : World} {g : Nat} {a : KA} {xs : List MV} {x : MV} {m : Cf.Mod} {ps : List PV} {k : Cf.Kern} {mem : List Int} {w : World}
theorem KI.offA (h : KI B H wb g a xs x m ps k mem w) {b : Nat} {cs : List Value} (hb : Wb w b tAns cs) (hB : B ≤ b) (hH : b < H) (i : Nat) (u : Value) : KI B H wb g a xs x m ps k mem (w.setCell ⟨b, i, none⟩ u) :=
 ⟨h.box.off_ (p := ⟨b, i, none⟩) (h.box.other hb (by decide)) u, own_setCell h.row (own_off h.row hb (by decide)) u, h.each.offM hb (by decide) (by decide) i u, ⟨h.new_.1, h.new_.2.1, h.new_.2.2.1, rd_set h.new_.2.2.2.1 h.frA (p := ⟨b, i, none⟩) hH u, rd_set h.new_.2.2.2.2 h.frB (p := ⟨b, i, none⟩) hH u⟩, h.frA, h.frB, h.mem_.offW hb (by decide) i u, h.memH, h.nodes.offW hb (by decide) i u, h.pipes.offW hb (by decide) i u, h.procs.offW hb (by decide) i u, h.ends.offE hb (by decide) i u, h.dat, h.lo, h.hH, h.keep.setCell hB u, h.capM⟩
theorem fin_inst {w0 wo W : World} {b : Nat} {cs : List Value} (h : KI B H wb g a xs x m ps k mem W) (hA : KpA w0 W) (hw : KpA wo w0) (hb : Wb w0 b tAns cs) (hl : wo.heap.size ≤ b) (hB : B ≤ b) (hH : b < H) (v0 v1 v2 : Value) :
  EndFin B wb g wo ⟨k.mods ++ [m], mem, k.nodes, k.pipes, k.procs⟩ (((W.setCell ⟨b, 0, none⟩ v0).setCell ⟨b, 1, none⟩ v1).setCell ⟨b, 2, none⟩ v2) := by
 have hb0 := hA b cs hb
 refine ⟨.inr ⟨H, a, xs, x, m, ps, k, mem, ((h.offA hb0 hB hH 0 v0).offA (hb0.put 0 v0) hB hH 1 v1).offA ((hb0.put 0 v0).put 1 v1) hB hH 2 v2, by omega, rfl⟩, fun b' cs' hb' => ?_⟩
 have hne : b' ≠ b := by have := hb'.lt; omega
 exact (((hA b' cs' (hw b' cs' hb')).off_ (p := ⟨b, 0, none⟩) hne v0).off_ (p := ⟨b, 1, none⟩) hne v1).off_ (p := ⟨b, 2, none⟩) hne v2
end
theorem EndSt.aft {lim : Nat} {B : Nat} {wb : World} {g : Nat} {k : Cf.Kern} {w : World} (h : EndSt B wb g lim k w) : KAft B wb g k w := by
 rcases h with ⟨a, xs, ps, h⟩ | ⟨H, a, xs, x, m, ps, k0, mem, h, _, rfl⟩
 ·exact h.aft
 ·exact h.aft
theorem EndSt.lower {lim lim' : Nat} {B : Nat} {wb : World} {g : Nat} {k : Cf.Kern} {w : World} (h : EndSt B wb g lim k w) (hl : lim' ≤ lim) : EndSt B wb g lim' k w := by
 rcases h with h | ⟨H, a, xs, x, m, ps, k0, mem, h, h2, h3⟩
 ·exact .inl h
 ·exact .inr ⟨H, a, xs, x, m, ps, k0, mem, h, Nat.le_trans hl h2, h3⟩
theorem EndSt.ans {lim : Nat} {B : Nat} {wb : World} {g : Nat} {k : Cf.Kern} {w : World} (h : EndSt B wb g lim k w) {b : Nat} {cs : List Value} (hb : Wb w b tAns cs) (hB : B ≤ b) (hl : b < lim) (v0 v1 v2 : Value) : EndSt B wb g lim k (((w.setCell ⟨b, 0, none⟩ v0).setCell ⟨b, 1, none⟩ v1).setCell ⟨b, 2, none⟩ v2) := by
 rcases h with ⟨a, xs, ps, h⟩ | ⟨H, a, xs, x, m, ps, k0, mem, h, h2, h3⟩
 ·exact .inl ⟨a, xs, ps, h.ans hb hB v0 v1 v2⟩
 ·exact .inr ⟨H, a, xs, x, m, ps, k0, mem, ((h.offA hb hB (Nat.lt_of_lt_of_le hl h2) 0 v0).offA (hb.put 0 v0) hB (Nat.lt_of_lt_of_le hl h2) 1 v1).offA ((hb.put 0 v0).put 1 v1) hB (Nat.lt_of_lt_of_le hl h2) 2 v2, h2, h3⟩
theorem fin_end {B : Nat} {wb : World} {g : Nat} {k : Cf.Kern} {wo w0 W : World} {lim b : Nat} {cs : List Value} (h : EndSt B wb g lim k W) (hA : KpA w0 W) (hw : KpA wo w0) (hb : Wb w0 b tAns cs) (hl : wo.heap.size ≤ b) (hB : B ≤ b) (hlim : b < lim) (v0 v1 v2 : Value) :
  EndFin B wb g wo k (((W.setCell ⟨b, 0, none⟩ v0).setCell ⟨b, 1, none⟩ v1).setCell ⟨b, 2, none⟩ v2) := by
 have hb0 := hA b cs hb
 refine ⟨(h.ans hb0 hB hlim v0 v1 v2).lower (by omega), fun b' cs' hb' => ?_⟩
 have hne : b' ≠ b := by have := hb'.lt; omega
 exact (((hA b' cs' (hw b' cs' hb')).off_ (p := ⟨b, 0, none⟩) hne v0).off_ (p := ⟨b, 1, none⟩) hne v1).off_ (p := ⟨b, 2, none⟩) hne v2
theorem lay_two {mem data : List Int} {n : Nat} (hm : mem.length = 1024) (hn : n < 8) (hd : data.length ≤ 64) :
  (mem.take (n * 64) ++ data ++ mem.drop (n * 64 + data.length)).take (n * 64 + data.length) ++ List.replicate (64 - data.length) 0 ++ (mem.take (n * 64) ++ data ++ mem.drop (n * 64 + data.length)).drop (n * 64 + data.length + (List.replicate (64 - data.length) (0 : Int)).length) = Cf.layT mem data (64 * n) := by
 have h1 : (mem.take (n * 64) ++ data).length = n * 64 + data.length := by rw [List.length_append, List.length_take]; omega
 rw [List.take_append_of_le_length (by omega), List.take_of_length_le (by omega), List.length_replicate, List.drop_append, List.drop_eq_nil_of_le (by omega), List.nil_append, List.drop_drop, h1]
 unfold Cf.layT
 rw [show n * 64 + data.length + (n * 64 + data.length + (64 - data.length) - (n * 64 + data.length)) = 64 * n + 64 by omega, Nat.mul_comm n 64]
 simp
theorem copy_ints {w : World} {gM L C o d : Nat} {Bd : Option Addr} {data mem : List Int} (hb : Bk 1 encZ w gM tInt mem) (hr : Ints w Bd data) (hl : o + data.length ≤ mem.length) (hL : data.length ≤ L) (ty : TypeId) :
  (Builtin.copy_ #[23, 23] ty #[.slice (some ⟨gM, o, none⟩) L C, .slice Bd data.length d]).run Tryz.prog w = .ok (goInt data.length) (w.setCells gM o (data.map (Value.int .i64))) := by
 have hsz : (Tryz.prog.info? tInt).map (·.size) = some 1 := by kernel_rfl
 rcases hr with h0 | ⟨b, off, rfl, hbl, hc⟩
 ·subst h0
  have := run_copy_none (P := Tryz.prog) w 23 23 ty tInt (some ⟨gM, o, none⟩) Bd L C 0 d Tryz.underlying23 hsz (Nat.zero_min L)
  exact this
 ·have := run_copy_cells (P := Tryz.prog) w 23 23 ty tInt gM o L C ⟨b, off, none⟩ data.length d (data.map (Value.int .i64)) Tryz.underlying23 hsz (by rw [List.length_map]; exact (Nat.min_eq_left hL).symm)
   (fun j v hv => by
     rw [List.getElem?_map, Option.map_eq_some_iff] at hv
     obtain ⟨z, hz, rfl⟩ := hv
     have := hc j z hz 0 _ rfl
     rw [show off + j * 1 + 0 = off + j by omega] at this
     have e : (⟨b, off, none⟩ : Addr).add j = ⟨b, off + j, none⟩ := by
      unfold Addr.add
      split
      ·subst_vars; rfl
      ·rfl
     rw [e]
     exact this)
   (fun j hj => by
     have := hb.there (o + j) (by rw [List.length_map] at hj; omega)
     rwa [Nat.zero_add] at this)
   (fun j _ => hb.open_ _) (fun v hv => by
     obtain ⟨z, _, rfl⟩ := List.mem_map.1 hv
     rfl)
  rw [List.length_map] at this
  exact this
theorem clear_ints {w : World} {gM o n C : Nat} {mem : List Int} (hb : Bk 1 encZ w gM tInt mem) (hl : o + n ≤ mem.length) (ty : TypeId) :
  (Builtin.clear_ #[23] ty #[.slice (some ⟨gM, o, none⟩) n C]).run Tryz.prog w = .ok (.tuple #[]) (w.setCells gM o ((List.replicate n (0 : Int)).map (Value.int .i64))) := by
 rcases Nat.eq_zero_or_pos n with h0 | h0
 ·subst h0
  simp [Builtin.clear_, run_underlying Tryz.underlying23, World.setCells]
 ·obtain ⟨i1, hi1, hy0, hy1, hy2⟩ := info_parts infoInt64
  have hv : ∀ w, (zeroValue tInt).run Tryz.prog w = .ok (.int .i64 0) w := by
   intro w
   simp [zeroValue, typeInfo, hi1, hy0]
  have := Lib.run_clear_slice (P := Tryz.prog) w 23 tInt ty (.int .i64 0) Tryz.underlying23 hv rfl rfl gM o n C h0 (fun j hj => by
    have := hb.there (o + j) (by omega)
    rwa [Nat.zero_add] at this) (fun j _ => hb.open_ _)
  rw [List.map_replicate]
  exact this
set_option maxHeartbeats 2000000 in
theorem install_any {B : Nat} {wb : World} {g : Nat} {a : KA} {xs : List MV} {ps : List PV} (k : Cf.Kern) (s : List UInt8) (w : World) (h : KSt B wb g a xs ps k w) (hG : Cf.Good k) (hs : s.length ≤ maxLen) (hT : Tabs B wb) :
  Calls Tryz.prog 67 #[.pointer (some ⟨g, 0, none⟩), .string ⟨s.toArray⟩] w (ActEnd B wb g w (Cf.installT k s)) := by
 obtain ⟨i5, hi5, hz5, hs5, hy5⟩ := info_parts infoM
 have Hi5 := Lib.hid hi5
 have Hz5 := Lib.hid hz5
 have Hs5 := Lib.hid hs5
 have Hy5 := Lib.hid hy5
 clear hi5 hz5 hs5 hy5
 obtain ⟨A, ca, M, cm, N, cn, S, cs, Q, cq⟩ := a
 obtain ⟨gM, hgM, hMB, hMlt, _⟩ := h.own.mem.at_ (i := 0) (List.getElem?_eq_getElem (by rw [hG.memL]; omega))
 simp only at hgM
 subst hgM
 obtain ⟨w0, hw0⟩ : ∃ w0 : World, w0 = w.alloc (.cells #[.int .i64 0, .int .i64 0, .string ⟨#[]⟩] tAns) := ⟨_, rfl⟩
 have HXB := Lib.hid (show Wb w0 w.heap.size tAns [.int .i64 0, .int .i64 0, .string ⟨#[]⟩] by rw [hw0]; exact Wb.new w tAns [.int .i64 0, .int .i64 0, .string ⟨#[]⟩])
 have HXw := Lib.hid (show KpA w w0 by rw [hw0]; exact KpA.alloc w _)
 have HX0 := Lib.hid (KpA.refl w0)
 have hb0 : Below w.heap.size w w0 := by rw [hw0]; exact (Below.refl _ _).alloc (Nat.le_refl _) _
 have hH : w.heap.size < w0.heap.size := by rw [hw0]; simp
 have H := Lib.hid h
 have HK0 := Lib.hid (h.below hb0)
 have Hw0 := Lib.hid hw0
 have hroom := h.room
 have hlow : w.heap.size ≤ w.heap.size := Nat.le_refl _
 have hcap := h.own.capM
 have HRow := Lib.hid (show ∀ r, (Value.slice A xs.length ca).ownBlock = some r → r < w0.heap.size from fun r hr => by
  rcases h.own.row.2 with ⟨hv, _⟩ | ⟨g', cap, cur, hv, _, hh, _⟩
  ·rw [hv] at hr
   cases hr
  ·rw [hv] at hr
   cases hr
   have := (Array.getElem?_eq_some_iff.1 hh).1
   exact Nat.lt_trans this hH)
 have HgH := Lib.hid (show g < w0.heap.size from Nat.lt_trans h.box.lt hH)
 have hxl : xs.length = k.mods.length := h.own.each.1
 have HT := Lib.hid (show Cf.installT k s = if (Cf.decT s).err ≠ 0 then Cf.refuseT k (Cf.decT s).err else if k.mods.any (Cf.modIs (Cf.decT s).mod.name) then Cf.refuseT k 7 else if k.mods.length = 8 then Cf.refuseT k 8
  else ⟨⟨k.mods ++ [(Cf.decT s).mod], Cf.layT k.mem (Cf.decT s).mod.data (64 * k.mods.length), k.nodes, k.pipes, k.procs⟩, ⟨0, k.mods.length, []⟩⟩ from rfl)
 have HDc := Lib.hid (decode_any s w0 (hT w0 (h.below hb0).keep).1 (hT w0 (h.below hb0).keep).2 hs)
 have HMd := Lib.hid (Cf.dec_mod s)
 have HFm := Lib.hid (fun (name : List UInt8) W (hW : KSt B wb g ⟨A, ca, some ⟨gM, 0, none⟩, cm, N, cn, S, cs, Q, cq⟩ xs ps k W) => findModule_any xs k.mods A ca name W (own_rd encMv_len hW.own.row) (hW.own.each.mono fun _ _ h => h.is.1) (lim_max (by have := hG.modsL; omega)))
 have Heg := Lib.hid (fun args w => show (callFunc 85 args).run Tryz.prog w = .ok (.enter 85 args) w by simp [go_sem])
 have hm8 : k.mods.length ≤ 8 := hG.modsL
 have HmL := Lib.hid hG.memL
 rw [HT.out]
 clear h hG hT hs hw0 hb0 HT
 generalize Cf.decT s = dm at *
 obtain ⟨⟨nm, code, data⟩, er⟩ := dm
 simp only at *
 by_cases he : er = 0
 ·subst he
  rw [if_neg (by simp)]
  have hdl : data.length ≤ 64 := (Cf.mod_parts (HMd.out rfl)).2.1
  have HPos := Lib.hid (Cf.idx_pos (p := Cf.modIs nm) (l := k.mods))
  have HFn := Lib.hid (HFm.out nm)
  clear HFm HMd
  generalize Cf.idxT (Cf.modIs nm) k.mods = z1 at *
  generalize k.mods.any (Cf.modIs nm) = bb at *
  cases bb
  ·skip
   have hz1 : ¬ 0 ≤ z1 := by have := HPos.out; simpa using this
   rw [if_neg (by decide)]
   by_cases h8 : k.mods.length = 8
   ·rw [if_pos h8]
    have H8 := Lib.hid h8
    have h8I : (k.mods.length : Int) = 8 := by omega
    clear h8
    go_enter Tryz.func67, Tryz.ntmps67
    go_upto_region 1 with fail
    rw [← Hw0.out]
    clear Hw0
    go_wp2_with fail
    refine HDc.out.mono ?_
    rintro e w1 ⟨A2, B2, c2, d2, rfl, hC, hD, hb1, hFA, hFB⟩
    simp only at hC hD hFA hFB
    go_upto_region 2 with fail
    have hb2 : Below w1.heap.size w1 (w1.alloc (.cells #[.string ⟨nm.toArray⟩, .slice A2 code.length c2, .slice B2 data.length d2] 79)) := (Below.refl _ _).alloc (Nat.le_refl _) _
    have HB2 := Lib.hid (show Wb (w1.alloc (.cells #[.string ⟨nm.toArray⟩, .slice A2 code.length c2, .slice B2 data.length d2] 79)) w1.heap.size tMod [.string ⟨nm.toArray⟩, .slice A2 code.length c2, .slice B2 data.length d2] from Wb.new w1 tMod [.string ⟨nm.toArray⟩, .slice A2 code.length c2, .slice B2 data.length d2])
    have HgB := Lib.hid (show w0.heap.size ≤ w1.heap.size from hb1.size)
    have HK2 := Lib.hid ((HK0.out.below hb1).below hb2)
    have HX2 := Lib.hid ((HX0.out.below hb1).below hb2)
    have HC2 := Lib.hid (hC.below hb2)
    have HD2 := Lib.hid (hD.below hb2)
    have HFA := Lib.hid hFA
    have HFB := Lib.hid hFB
    clear hC hD hb1 hFA hFB HK0 HX0 HDc hb2
    generalize w1.heap.size = gB at *
    generalize w1.alloc (.cells #[.string ⟨nm.toArray⟩, .slice A2 code.length c2, .slice B2 data.length d2] 79) = w2 at *
    have hK2 := HK2.out
    have k0 := hK2.ptr.c0
    have kl := hK2.box.lt
    have hB2 := HB2.out
    have b0 := hB2.cell 0
    simp only [List.getElem?_cons_zero] at b0
    have bl := hB2.lt
    clear hK2 hB2
    go_wp2_with fail
    go_region_law (first
     | (refine step_call2 (by rfl) 85 (.tmp 21) (.tmp 23) #[22, 9] (by rfl) (.slice A k.mods.length ca) (.string ⟨nm.toArray⟩) (by rfl) (by rfl) Heg.out (HFn.out _ HK2.out.draw) ?_
        rintro e w3 ⟨rfl, hb3⟩
        refine ⟨_, rfl, ?_⟩
        have Hb23 := Lib.hid (show Below w2.heap.size w2 w3 from (Below.refl _ _).drew.trans hb3)
        have HK3 := Lib.hid (HK2.out.draw.below hb3)
        have HX3 := Lib.hid ((HX2.out.draw 1).below hb3)
        have HB3 := Lib.hid ((HB2.out.draw 1).below hb3 HB2.out.lt)
        clear hb3 k0 kl b0 bl)
     | fail)
    all_goals
     have hK3 := HK3.out
     have k0 := hK3.ptr.c0
     have kl := hK3.box.lt
     clear hK3
     go_wp2_with fail
     refine (refuse_any 8 _).mono ?_
     rintro e w4 ⟨rfl, hb4⟩
     have HK4 := Lib.hid (HK3.out.below hb4)
     have HX4 := Lib.hid (HX3.out.below hb4)
     simp only [encAn]
     clear hb4 HK3 HX3
     have hX9 := HX4.out _ _ HXB.out
     have HFin := Lib.hid (fin_ans HK4.out HX4.out HXw.out HXB.out hlow hroom)
     have p0 := hX9.cell 0
     have p1 := hX9.cell 1
     have p2 := hX9.cell 2
     simp only [List.getElem?_cons_zero, List.getElem?_cons_succ] at p0 p1 p2
     have f0 := hX9.open_
     have hl9 := hX9.lt
     clear hX9 HK4 HX4 HXw HXB
     go_wp2
     refine bodyPost_ret (v := .agg #[.int .i64 8, .int .i64 0, .string ⟨#[]⟩]) (by simp [results, Tryz.results67, go_sem, p0, p1, p2]) rfl ?_
     exact ⟨rfl, ActFin.fin (by (show ActFin _ _ _ _ k _); with_reducible exact HFin.out _ _ _)⟩
   ·skip
    rw [if_neg h8]
    have hn8 : k.mods.length < 8 := by omega
    have hI8 : ¬ (k.mods.length : Int) = 8 := by omega
    clear h8
    go_enter Tryz.func67, Tryz.ntmps67
    go_upto_region 1 with fail
    rw [← Hw0.out]
    clear Hw0
    go_wp2_with fail
    refine HDc.out.mono ?_
    rintro e w1 ⟨A2, B2, c2, d2, rfl, hC, hD, hb1, hFA, hFB⟩
    simp only at hC hD hFA hFB
    go_upto_region 2 with fail
    have hb2 : Below w1.heap.size w1 (w1.alloc (.cells #[.string ⟨nm.toArray⟩, .slice A2 code.length c2, .slice B2 data.length d2] 79)) := (Below.refl _ _).alloc (Nat.le_refl _) _
    have HB2 := Lib.hid (show Wb (w1.alloc (.cells #[.string ⟨nm.toArray⟩, .slice A2 code.length c2, .slice B2 data.length d2] 79)) w1.heap.size tMod [.string ⟨nm.toArray⟩, .slice A2 code.length c2, .slice B2 data.length d2] from Wb.new w1 tMod [.string ⟨nm.toArray⟩, .slice A2 code.length c2, .slice B2 data.length d2])
    have HgB := Lib.hid (show w0.heap.size ≤ w1.heap.size from hb1.size)
    have HK2 := Lib.hid ((HK0.out.below hb1).below hb2)
    have HX2 := Lib.hid ((HX0.out.below hb1).below hb2)
    have HC2 := Lib.hid (hC.below hb2)
    have HD2 := Lib.hid (hD.below hb2)
    have HFA := Lib.hid hFA
    have HFB := Lib.hid hFB
    clear hC hD hb1 hFA hFB HK0 HX0 HDc hb2
    generalize w1.heap.size = gB at *
    generalize w1.alloc (.cells #[.string ⟨nm.toArray⟩, .slice A2 code.length c2, .slice B2 data.length d2] 79) = w2 at *
    have hK2 := HK2.out
    have k0 := hK2.ptr.c0
    have kl := hK2.box.lt
    have hB2 := HB2.out
    have b0 := hB2.cell 0
    simp only [List.getElem?_cons_zero] at b0
    have bl := hB2.lt
    clear hK2 hB2
    go_wp2_with fail
    go_region_law (first
     | (refine step_call2 (by rfl) 85 (.tmp 21) (.tmp 23) #[22, 9] (by rfl) (.slice A k.mods.length ca) (.string ⟨nm.toArray⟩) (by rfl) (by rfl) Heg.out (HFn.out _ HK2.out.draw) ?_
        rintro e w3 ⟨rfl, hb3⟩
        refine ⟨_, rfl, ?_⟩
        have Hb23 := Lib.hid (show Below w2.heap.size w2 w3 from (Below.refl _ _).drew.trans hb3)
        have HK3 := Lib.hid (HK2.out.draw.below hb3)
        have HX3 := Lib.hid ((HX2.out.draw 1).below hb3)
        have HB3 := Lib.hid ((HB2.out.draw 1).below hb3 HB2.out.lt)
        clear hb3 k0 kl b0 bl)
     | fail)
    all_goals
     have HC3 := Lib.hid (HC2.out.below Hb23.out)
     have HD3 := Lib.hid (HD2.out.below Hb23.out)
     clear HC2 HD2 HK2 HX2 HB2 Hb23
     have HOWN := Lib.hid (fun W (hW : Below w3.heap.size w3 W) => show W.ownsRow B tMod 3 (.slice A k.mods.length ca) k.mods.length (xs.flatMap encMv) from by
      have := (HK3.out.below hW).own.row
      rw [hxl] at this
      exact this)
     have HNEW := Lib.hid (RdS.below (mv_new w3 79 ⟨nm, A2, code.length, c2, B2, data.length, d2⟩) ((Below.refl _ _).drew))
     have hd3 : Below w3.heap.size w3 w3 := Below.refl _ _
     have hK3 := HK3.out
     have k0 := hK3.ptr.c0
     have kl := hK3.box.lt
     have hB3 := HB3.out
     have b0 := hB3.cell 0
     have b1 := hB3.cell 1
     have b2 := hB3.cell 2
     simp only [List.getElem?_cons_zero, List.getElem?_cons_succ] at b0 b1 b2
     have bl := hB3.lt
     have HRm := Lib.hid hK3.room
     clear hK3 hB3
     go_wp2_with fail
     go_region_law (first
      | (refine step_append_src (by rfl) (.tmp 39) (.tmp 41) 22 (by rfl) B 79 i5 (.agg #[.string ⟨#[]⟩, .slice none 0 0, .slice none 0 0]) 3 64 Tryz.underlying22 Hi5.out Hz5.out Hs5.out Hy5.out rfl (by decide) encMv_len one_mv (.slice A k.mods.length ca) k.mods.length (xs.flatMap encMv) (by rfl) (HOWN.out _ (by repeat (first | assumption | apply below_more | apply below_turn))) (some ⟨w3.heap.size, 0, none⟩) 1 [⟨nm, A2, code.length, c2, B2, data.length, d2⟩] (by rfl) HNEW.out (by unfold maxLen; simp; omega) (by simp; omega) (Nat.le_trans HRm.out (by simp)) ?_
         intro v5 w5 hown hgr hat
         obtain ⟨A5, c5, rfl⟩ := own_form hown
         have hbW : Below w3.heap.size w3 ((w3.alloc (.cells #[.string ⟨nm.toArray⟩, .slice A2 code.length c2, .slice B2 data.length d2] 79)).drew) := ((Below.refl _ _).alloc (Nat.le_refl _) _).drew
         have HI6 := Lib.hid (HK3.out.grow (m := ⟨nm, code, data⟩) (x := ⟨nm, A2, code.length, c2, B2, data.length, d2⟩) (A' := A5) (c' := c5) hbW HRow.out (fun g' hg' => by cases hg'; exact Nat.lt_trans hMlt hH) (by omega) HgH.out ⟨rfl, rfl, rfl, HC3.out.below hbW, HD3.out.below hbW⟩ HFA.out HFB.out (by rw [hxl]; exact hgr) (by rw [hxl]; exact hown))
         rw [hxl] at HI6
         have hbx5 := (HK3.out.below hbW).box.grown hgr (by have := own_off (HK3.out.below hbW).own.row (HK3.out.below hbW).box (by decide); rw [hxl] at this; exact this)
         have y0 : w5.cell? ⟨g, 0, none⟩ = some (.slice A k.mods.length ca) := hbx5.cell 0
         have yf := hbx5.open_ 0
         have yl := hbx5.lt
         have HX6 := Lib.hid ((((HX3.out.trans (KpA.alloc w3 (.cells #[.string ⟨nm.toArray⟩, .slice A2 code.length c2, .slice B2 data.length d2] 79))).draw 1).grown (HOWN.out _ hbW) hgr).offX ⟨_, hbx5⟩ (by decide) 0 (.slice A5 (k.mods.length + 1) c5))
         have HB6 := Lib.hid ((((HB3.out.below hbW HB3.out.lt).grown hgr (fun he => by rw [← hxl] at he; have h1 := HRow.out _ he; have h2 := HgB.out; omega)).off_ (p := ⟨g, 0, none⟩) (by have := HB3.out.other HK3.out.box (by decide); exact this) (.slice A5 (k.mods.length + 1) c5)))
         clear hbx5 hown hgr hat hbW)
      | fail)
     all_goals
      clear HNEW HOWN k0 kl b0 b1 b2 bl HK3 HX3 HB3
      go_upto_region 10 with fail
      clear y0 yf yl
      generalize w5.setCell ⟨g, 0, none⟩ (.slice A5 (k.mods.length + 1) c5) = w6 at *
      have hI6 := HI6.out
      have k1 := hI6.box.cell 1
      simp only [kcells, List.getElem?_cons_zero, List.getElem?_cons_succ, HmL.out] at k1
      have kl := hI6.box.lt
      have hB6 := HB6.out
      have b2 := hB6.cell 2
      simp only [List.getElem?_cons_zero, List.getElem?_cons_succ] at b2
      have bl := hB6.lt
      have hb6 := hI6.bk rfl (by rw [HmL.out]; omega)
      have hcm : 1024 ≤ cm := by rw [← HmL.out]; exact hcap
      have hnc : ¬ cm = k.mods.length * 64 := by omega
      have hnc2 : ¬ cm - k.mods.length * 64 = data.length := by omega
      have hcI : ((k.mods.length : Int) + 1) * 64 ≤ (cm : Int) := by omega
      have ht1 : ((k.mods.length : Int) * 64).toNat = k.mods.length * 64 := by omega
      have ht2 : (((k.mods.length : Int) + 1) * 64).toNat = k.mods.length * 64 + 64 := by omega
      have hcp := fun ty => copy_ints (data := data) (Bd := B2) (L := 64) (C := cm - k.mods.length * 64) (o := k.mods.length * 64) (d := d2) hb6 hI6.new_.2.2.2.2 (by rw [HmL.out]; omega) hdl ty
      have HI7 := Lib.hid (KI.lay data (k.mods.length * 64) hI6 rfl (by rw [HmL.out]; omega))
      have hb7 := HI7.out.bk rfl (by simp only [List.length_append, List.length_take, List.length_drop, HmL.out]; omega)
      have hcl := fun C ty => clear_ints (C := C) (n := 64 - data.length) (o := k.mods.length * 64 + data.length) hb7 (by simp only [List.length_append, List.length_take, List.length_drop, HmL.out]; omega) ty
      have HI8 := Lib.hid (KI.lay (List.replicate (64 - data.length) 0) (k.mods.length * 64 + data.length) HI7.out rfl (by simp only [List.length_append, List.length_take, List.length_drop, List.length_replicate, HmL.out]; omega))
      rw [lay_two HmL.out hn8 hdl] at HI8
      have HX8 := Lib.hid (KpA.cells (t := tInt) (by decide) ((List.replicate (64 - data.length) (0 : Int)).map (Value.int .i64)) (k.mods.length * 64 + data.length) _ (KpA.cells (t := tInt) (by decide) (data.map (Value.int .i64)) (k.mods.length * 64) w6 HX6.out hb6.box) (box_cells _ _ _ hb6.box))
      clear hI6 hB6 hb6 hb7 HI7 HX6 HI6 HB6
      go_upto_region 12 with fail
      simp only [List.map_replicate] at HI8 HX8
      generalize (w6.setCells gM (k.mods.length * 64) (data.map (Value.int .i64))).setCells gM (k.mods.length * 64 + data.length) (List.replicate (64 - data.length) (Value.int .i64 0)) = w8 at *
      clear hcp hcl k1 kl b2 bl hcm hnc hnc2 hcI ht1 ht2
      have hX9 := HX8.out _ _ HXB.out
      have HFin := Lib.hid (fin_inst HI8.out HX8.out HXw.out HXB.out hlow hroom hH)
      have p0 := hX9.cell 0
      have p1 := hX9.cell 1
      have p2 := hX9.cell 2
      simp only [List.getElem?_cons_zero, List.getElem?_cons_succ] at p0 p1 p2
      have f0 := hX9.open_
      have hl9 := hX9.lt
      clear hX9 HI8 HX8 HXw HXB
      go_wp2
      refine bodyPost_ret (v := .agg #[.int .i64 0, .int .i64 k.mods.length, .string ⟨#[]⟩]) (by simp [results, Tryz.results67, go_sem, p0, p1, p2]) rfl ?_
      exact ⟨rfl, by (show EndFin _ _ _ _ ⟨_, _, _, _, _⟩ _); with_reducible exact HFin.out _ _ _⟩
  ·skip
   have hz1 : 0 ≤ z1 := by have := HPos.out; simpa using this
   rw [if_pos rfl]
   go_enter Tryz.func67, Tryz.ntmps67
   go_upto_region 1 with fail
   rw [← Hw0.out]
   clear Hw0
   go_wp2_with fail
   refine HDc.out.mono ?_
   rintro e w1 ⟨A2, B2, c2, d2, rfl, hC, hD, hb1, hFA, hFB⟩
   simp only at hC hD hFA hFB
   go_upto_region 2 with fail
   have hb2 : Below w1.heap.size w1 (w1.alloc (.cells #[.string ⟨nm.toArray⟩, .slice A2 code.length c2, .slice B2 data.length d2] 79)) := (Below.refl _ _).alloc (Nat.le_refl _) _
   have HB2 := Lib.hid (show Wb (w1.alloc (.cells #[.string ⟨nm.toArray⟩, .slice A2 code.length c2, .slice B2 data.length d2] 79)) w1.heap.size tMod [.string ⟨nm.toArray⟩, .slice A2 code.length c2, .slice B2 data.length d2] from Wb.new w1 tMod [.string ⟨nm.toArray⟩, .slice A2 code.length c2, .slice B2 data.length d2])
   have HgB := Lib.hid (show w0.heap.size ≤ w1.heap.size from hb1.size)
   have HK2 := Lib.hid ((HK0.out.below hb1).below hb2)
   have HX2 := Lib.hid ((HX0.out.below hb1).below hb2)
   have HC2 := Lib.hid (hC.below hb2)
   have HD2 := Lib.hid (hD.below hb2)
   have HFA := Lib.hid hFA
   have HFB := Lib.hid hFB
   clear hC hD hb1 hFA hFB HK0 HX0 HDc hb2
   generalize w1.heap.size = gB at *
   generalize w1.alloc (.cells #[.string ⟨nm.toArray⟩, .slice A2 code.length c2, .slice B2 data.length d2] 79) = w2 at *
   have hK2 := HK2.out
   have k0 := hK2.ptr.c0
   have kl := hK2.box.lt
   have hB2 := HB2.out
   have b0 := hB2.cell 0
   simp only [List.getElem?_cons_zero] at b0
   have bl := hB2.lt
   clear hK2 hB2
   go_wp2_with fail
   go_region_law (first
    | (refine step_call2 (by rfl) 85 (.tmp 21) (.tmp 23) #[22, 9] (by rfl) (.slice A k.mods.length ca) (.string ⟨nm.toArray⟩) (by rfl) (by rfl) Heg.out (HFn.out _ HK2.out.draw) ?_
       rintro e w3 ⟨rfl, hb3⟩
       refine ⟨_, rfl, ?_⟩
       have Hb23 := Lib.hid (show Below w2.heap.size w2 w3 from (Below.refl _ _).drew.trans hb3)
       have HK3 := Lib.hid (HK2.out.draw.below hb3)
       have HX3 := Lib.hid ((HX2.out.draw 1).below hb3)
       have HB3 := Lib.hid ((HB2.out.draw 1).below hb3 HB2.out.lt)
       clear hb3 k0 kl b0 bl)
    | fail)
   all_goals
    go_wp2_with fail
    refine (refuse_any 7 _).mono ?_
    rintro e w4 ⟨rfl, hb4⟩
    have HK4 := Lib.hid (HK3.out.below hb4)
    have HX4 := Lib.hid (HX3.out.below hb4)
    simp only [encAn]
    clear hb4 HK3 HX3
    have hX9 := HX4.out _ _ HXB.out
    have HFin := Lib.hid (fin_ans HK4.out HX4.out HXw.out HXB.out hlow hroom)
    have p0 := hX9.cell 0
    have p1 := hX9.cell 1
    have p2 := hX9.cell 2
    simp only [List.getElem?_cons_zero, List.getElem?_cons_succ] at p0 p1 p2
    have f0 := hX9.open_
    have hl9 := hX9.lt
    clear hX9 HK4 HX4 HXw HXB
    go_wp2
    refine bodyPost_ret (v := .agg #[.int .i64 7, .int .i64 0, .string ⟨#[]⟩]) (by simp [results, Tryz.results67, go_sem, p0, p1, p2]) rfl ?_
    exact ⟨rfl, ActFin.fin (by (show ActFin _ _ _ _ k _); with_reducible exact HFin.out _ _ _)⟩
 ·rw [if_pos he]
  have hq : (er != 0) = true := by rw [bne_iff_ne]; exact he
  clear he
  go_enter Tryz.func67, Tryz.ntmps67
  go_upto_region 1 with fail
  rw [← Hw0.out]
  clear Hw0
  go_wp2_with fail
  refine HDc.out.mono ?_
  rintro e w1 ⟨A2, B2, c2, d2, rfl, hC, hD, hb1, hFA, hFB⟩
  simp only at hC hD hFA hFB
  go_upto_region 2 with fail
  have hb2 : Below w1.heap.size w1 (w1.alloc (.cells #[.string ⟨nm.toArray⟩, .slice A2 code.length c2, .slice B2 data.length d2] 79)) := (Below.refl _ _).alloc (Nat.le_refl _) _
  have HB2 := Lib.hid (show Wb (w1.alloc (.cells #[.string ⟨nm.toArray⟩, .slice A2 code.length c2, .slice B2 data.length d2] 79)) w1.heap.size tMod [.string ⟨nm.toArray⟩, .slice A2 code.length c2, .slice B2 data.length d2] from Wb.new w1 tMod [.string ⟨nm.toArray⟩, .slice A2 code.length c2, .slice B2 data.length d2])
  have HgB := Lib.hid (show w0.heap.size ≤ w1.heap.size from hb1.size)
  have HK2 := Lib.hid ((HK0.out.below hb1).below hb2)
  have HX2 := Lib.hid ((HX0.out.below hb1).below hb2)
  have HC2 := Lib.hid (hC.below hb2)
  have HD2 := Lib.hid (hD.below hb2)
  have HFA := Lib.hid hFA
  have HFB := Lib.hid hFB
  clear hC hD hb1 hFA hFB HK0 HX0 HDc hb2
  generalize w1.heap.size = gB at *
  generalize w1.alloc (.cells #[.string ⟨nm.toArray⟩, .slice A2 code.length c2, .slice B2 data.length d2] 79) = w2 at *
  go_wp2_with fail
  refine (refuse_any er _).mono ?_
  rintro e w3 ⟨rfl, hb3⟩
  have HK3 := Lib.hid (HK2.out.below hb3)
  have HX3 := Lib.hid (HX2.out.below hb3)
  simp only [encAn]
  clear hb3 HK2 HX2
  have hX9 := HX3.out _ _ HXB.out
  have HFin := Lib.hid (fin_ans HK3.out HX3.out HXw.out HXB.out hlow hroom)
  have p0 := hX9.cell 0
  have p1 := hX9.cell 1
  have p2 := hX9.cell 2
  simp only [List.getElem?_cons_zero, List.getElem?_cons_succ] at p0 p1 p2
  have f0 := hX9.open_
  have hl9 := hX9.lt
  clear hX9 HK3 HX3 HXw HXB
  go_wp2
  refine bodyPost_ret (v := .agg #[.int .i64 er, .int .i64 0, .string ⟨#[]⟩]) (by simp [results, Tryz.results67, go_sem, p0, p1, p2]) rfl ?_
  exact ⟨rfl, ActFin.fin (by (show ActFin _ _ _ _ k _); with_reducible exact HFin.out _ _ _)⟩
end Go.Proofs.YtnnhhbjbdmgpiaaGreatDoor
/- Walks of chapter 5: the program's perform. (tools/gen/actk.py) -/
namespace Go.Proofs.YtnnhhbjbdmgpiaaGreatDoor
set_option maxRecDepth 100000
open Go.RowKit
theorem step_call3 {P : Program} {ops : Array Oper} {o : Oper} {a : Act} {w : World} {K : Act → World → Prop} {Q : Exit → Act → World → Prop} {E : Prop} {R : Ending → World → Prop}
  (hg : o.guard = none) (f : FuncId) (x y z : Operand) (tys : Array TypeId) (ho : o.op = .call { callee := .value (.func f), args := #[x, y, z], argTypes := tys }) (vx vy vz : Value) (hx : a.eval x = vx) (hy : a.eval y = vy) (hz : a.eval z = vz)
  (eg : ∀ args w, (callFunc f args).run P w = .ok (.enter f args) w) (hc : Calls P f #[vx, vy, vz] w R) (h : ∀ e w', R e w' → ∃ v, e = .returned v ∧ K (a.put o.dst v) w') :
  if Region.wanted o (yielded ops a.tmps) = true then Oper.wp P o a w K Q else E := by
 rw [if_pos (by simp [Region.wanted, hg])]
 have hex : (execOp a.eval o).run P w = .ok (.enter f #[vx, vy, vz]) w := by
  have hfn : a.eval (.func f) = .func (.func f) #[] #[] := rfl
  simp [execOp, ho, resolve, invoke, hx, hy, hz, eg, hfn, Deferred.ofValue]
 unfold Oper.wp
 rw [hex]
 refine hc.mono fun e w' hr => ?_
 obtain ⟨v, rfl, hk⟩ := h e w' hr
 exact hk
set_option maxHeartbeats 2000000 in
theorem perform_any {B : Nat} {wb : World} {g : Nat} {a : KA} {xs : List MV} {ps : List PV} (k : Cf.Kern) (kd pp nn mm : Int) (nm da : List UInt8) (w : World) (h : KSt B wb g a xs ps k w) (hG : Cf.Good k) (hnl : nm.length ≤ maxLen) (hdl : da.length ≤ maxLen) (hT : Tabs B wb) (hk : 1 ≤ kd ∧ kd ≤ 11) :
  Calls Tryz.prog 37 #[.pointer (some ⟨g, 0, none⟩), .agg #[.int .i64 kd, .int .i64 pp, .int .i64 nn, .int .i64 mm, .string ⟨nm.toArray⟩, .string ⟨da.toArray⟩]] w (ActEnd B wb g w (Cf.actT k ⟨kd, pp, nn, mm, nm, da⟩)) := by
 obtain ⟨A, ca, M, cm, N, cn, S, cs, Q, cq⟩ := a
 obtain ⟨gQ, hgQ, _⟩ := h.own.procs.at_ (i := 0) (List.getElem?_eq_getElem (by rw [h.own.ends.1, hG.procsL]; omega))
 simp only at hgQ
 subst hgQ
 obtain ⟨w0, hw0⟩ : ∃ w0 : World, w0 = (w.alloc (.cells #[.int .i64 kd, .int .i64 pp, .int .i64 nn, .int .i64 mm, .string ⟨nm.toArray⟩, .string ⟨da.toArray⟩] tAct)).alloc (.cells #[.int .i64 0, .int .i64 0, .string ⟨#[]⟩] tAns) := ⟨_, rfl⟩
 have HAc := Lib.hid (show Wb w0 w.heap.size tAct [.int .i64 kd, .int .i64 pp, .int .i64 nn, .int .i64 mm, .string ⟨nm.toArray⟩, .string ⟨da.toArray⟩] by rw [hw0]; exact (Wb.new w tAct [.int .i64 kd, .int .i64 pp, .int .i64 nn, .int .i64 mm, .string ⟨nm.toArray⟩, .string ⟨da.toArray⟩]).alloc _)
 have HXB := Lib.hid (show Wb w0 (w.heap.size + 1) tAns [.int .i64 0, .int .i64 0, .string ⟨#[]⟩] by
  rw [hw0]
  have := Wb.new (w.alloc (.cells #[.int .i64 kd, .int .i64 pp, .int .i64 nn, .int .i64 mm, .string ⟨nm.toArray⟩, .string ⟨da.toArray⟩] tAct)) tAns [.int .i64 0, .int .i64 0, .string ⟨#[]⟩]
  rwa [show (w.alloc (.cells #[.int .i64 kd, .int .i64 pp, .int .i64 nn, .int .i64 mm, .string ⟨nm.toArray⟩, .string ⟨da.toArray⟩] tAct)).heap.size = w.heap.size + 1 by simp] at this)
 have HXw := Lib.hid (show KpA w w0 by rw [hw0]; exact (KpA.alloc w _).trans (KpA.alloc _ _))
 have HX0 := Lib.hid (KpA.refl w0)
 have HK0 := Lib.hid (show KSt B wb g ⟨A, ca, M, cm, N, cn, S, cs, some ⟨gQ, 0, none⟩, cq⟩ xs ps k w0 by rw [hw0]; exact h.below (((Below.refl _ _).alloc (Nat.le_refl _) (.cells #[.int .i64 kd, .int .i64 pp, .int .i64 nn, .int .i64 mm, .string ⟨nm.toArray⟩, .string ⟨da.toArray⟩] tAct)).alloc (by simp) (.cells #[.int .i64 0, .int .i64 0, .string ⟨#[]⟩] tAns)))
 have Hw0 := Lib.hid hw0
 have hroom : B ≤ w.heap.size + 1 := Nat.le_succ_of_le h.room
 have hlow : w.heap.size ≤ w.heap.size + 1 := Nat.le_succ _
 have hlim : w.heap.size + 1 < w0.heap.size := by rw [hw0]; simp
 clear hw0
 by_cases h1 : kd = 1
 ·skip
  subst h1
  have HT := Lib.hid (show Cf.actT k ⟨1, pp, nn, mm, nm, da⟩ = Cf.installT k da from rfl)
  have HC := Lib.hid (fun W (hW : KSt B wb g ⟨A, ca, M, cm, N, cn, S, cs, some ⟨gQ, 0, none⟩, cq⟩ xs ps k W) => show Calls _ _ _ _ (ActEnd B wb g W (Cf.installT k da)) from install_any k da W hW hG hdl hT)
  rw [HT.out]
  clear h hG HT hT hnl hdl hk
  go_enter Tryz.func37, Tryz.ntmps37
  go_upto_region 1 with fail
  rw [← Hw0.out]
  clear Hw0
  have hA0 := HAc.out
  have a0 := hA0.cell 0
  have a1 := hA0.cell 1
  have a2 := hA0.cell 2
  have a3 := hA0.cell 3
  have a4 := hA0.cell 4
  have a5 := hA0.cell 5
  simp only [List.getElem?_cons_zero, List.getElem?_cons_succ] at a0 a1 a2 a3 a4 a5
  have al := hA0.lt
  clear hA0
  go_wp2_with fail
  refine (HC.out _ HK0.out).mono ?_
  rintro e w1 ⟨rfl, he9, hx9⟩
  have HE1 := Lib.hid he9
  have HX1 := Lib.hid (KpA.trans (w1 := _) (by repeat (first | exact HX0.out | apply KpA.draw1 | apply KpA.draw)) hx9)
  clear he9 hx9 HK0 HX0 a0 a1 a2 a3 a4 a5 al HAc
  simp only [encAn]
  generalize Cf.installT k da = dd at *
  obtain ⟨dk, dc, dn, ds⟩ := dd
  have hX9 := HX1.out _ _ HXB.out
  have HFin := Lib.hid (fin_end HE1.out HX1.out HXw.out HXB.out hlow hroom hlim)
  have p0 := hX9.cell 0
  have p1 := hX9.cell 1
  have p2 := hX9.cell 2
  simp only [List.getElem?_cons_zero, List.getElem?_cons_succ] at p0 p1 p2
  have f0 := hX9.open_
  have hl9 := hX9.lt
  clear hX9 HE1 HX1 HXw HXB
  go_wp2
  refine bodyPost_ret (v := .agg #[.int .i64 dc, .int .i64 dn, .string ⟨ds.toArray⟩]) (by simp [results, Tryz.results37, go_sem, p0, p1, p2]) rfl ?_
  exact ⟨rfl, by (show EndFin _ _ _ _ dk _); with_reducible exact HFin.out _ _ _⟩
 by_cases h2 : kd = 2
 ·skip
  subst h2
  have HT := Lib.hid (show Cf.actT k ⟨2, pp, nn, mm, nm, da⟩ = Cf.addT k ⟨nm, 1, [], 0⟩ from rfl)
  have HC := Lib.hid (fun W (hW : KSt B wb g ⟨A, ca, M, cm, N, cn, S, cs, some ⟨gQ, 0, none⟩, cq⟩ xs ps k W) => show Calls _ _ _ _ (ActEnd B wb g W (Cf.addT k ⟨nm, 1, [], 0⟩)) from (addFile_any k W nm 1 0 hW hG hnl (.inl rfl)).mono fun _ _ h => h.end_)
  rw [HT.out]
  clear h hG HT hT hnl hdl hk
  go_enter Tryz.func37, Tryz.ntmps37
  go_upto_region 1 with fail
  rw [← Hw0.out]
  clear Hw0
  have hA0 := HAc.out
  have a0 := hA0.cell 0
  have a1 := hA0.cell 1
  have a2 := hA0.cell 2
  have a3 := hA0.cell 3
  have a4 := hA0.cell 4
  have a5 := hA0.cell 5
  simp only [List.getElem?_cons_zero, List.getElem?_cons_succ] at a0 a1 a2 a3 a4 a5
  have al := hA0.lt
  clear hA0
  go_wp2_with fail
  refine (HC.out _ HK0.out).mono ?_
  rintro e w1 ⟨rfl, he9, hx9⟩
  have HE1 := Lib.hid he9
  have HX1 := Lib.hid (KpA.trans (w1 := _) (by repeat (first | exact HX0.out | apply KpA.draw1 | apply KpA.draw)) hx9)
  clear he9 hx9 HK0 HX0 a0 a1 a2 a3 a4 a5 al HAc
  simp only [encAn]
  generalize Cf.addT k ⟨nm, 1, [], 0⟩ = dd at *
  obtain ⟨dk, dc, dn, ds⟩ := dd
  have hX9 := HX1.out _ _ HXB.out
  have HFin := Lib.hid (fin_end HE1.out HX1.out HXw.out HXB.out hlow hroom hlim)
  have p0 := hX9.cell 0
  have p1 := hX9.cell 1
  have p2 := hX9.cell 2
  simp only [List.getElem?_cons_zero, List.getElem?_cons_succ] at p0 p1 p2
  have f0 := hX9.open_
  have hl9 := hX9.lt
  clear hX9 HE1 HX1 HXw HXB
  go_wp2
  refine bodyPost_ret (v := .agg #[.int .i64 dc, .int .i64 dn, .string ⟨ds.toArray⟩]) (by simp [results, Tryz.results37, go_sem, p0, p1, p2]) rfl ?_
  exact ⟨rfl, by (show EndFin _ _ _ _ dk _); with_reducible exact HFin.out _ _ _⟩
 by_cases h3 : kd = 3
 ·skip
  subst h3
  have HT := Lib.hid (show Cf.actT k ⟨3, pp, nn, mm, nm, da⟩ = Cf.addT k ⟨nm, 2, [], nn⟩ from rfl)
  have HC := Lib.hid (fun W (hW : KSt B wb g ⟨A, ca, M, cm, N, cn, S, cs, some ⟨gQ, 0, none⟩, cq⟩ xs ps k W) => show Calls _ _ _ _ (ActEnd B wb g W (Cf.addT k ⟨nm, 2, [], nn⟩)) from (addFile_any k W nm 2 nn hW hG hnl (.inr rfl)).mono fun _ _ h => h.end_)
  rw [HT.out]
  clear h hG HT hT hnl hdl hk
  go_enter Tryz.func37, Tryz.ntmps37
  go_upto_region 1 with fail
  rw [← Hw0.out]
  clear Hw0
  have hA0 := HAc.out
  have a0 := hA0.cell 0
  have a1 := hA0.cell 1
  have a2 := hA0.cell 2
  have a3 := hA0.cell 3
  have a4 := hA0.cell 4
  have a5 := hA0.cell 5
  simp only [List.getElem?_cons_zero, List.getElem?_cons_succ] at a0 a1 a2 a3 a4 a5
  have al := hA0.lt
  clear hA0
  go_wp2_with fail
  refine (HC.out _ HK0.out).mono ?_
  rintro e w1 ⟨rfl, he9, hx9⟩
  have HE1 := Lib.hid he9
  have HX1 := Lib.hid (KpA.trans (w1 := _) (by repeat (first | exact HX0.out | apply KpA.draw1 | apply KpA.draw)) hx9)
  clear he9 hx9 HK0 HX0 a0 a1 a2 a3 a4 a5 al HAc
  simp only [encAn]
  generalize Cf.addT k ⟨nm, 2, [], nn⟩ = dd at *
  obtain ⟨dk, dc, dn, ds⟩ := dd
  have hX9 := HX1.out _ _ HXB.out
  have HFin := Lib.hid (fin_end HE1.out HX1.out HXw.out HXB.out hlow hroom hlim)
  have p0 := hX9.cell 0
  have p1 := hX9.cell 1
  have p2 := hX9.cell 2
  simp only [List.getElem?_cons_zero, List.getElem?_cons_succ] at p0 p1 p2
  have f0 := hX9.open_
  have hl9 := hX9.lt
  clear hX9 HE1 HX1 HXw HXB
  go_wp2
  refine bodyPost_ret (v := .agg #[.int .i64 dc, .int .i64 dn, .string ⟨ds.toArray⟩]) (by simp [results, Tryz.results37, go_sem, p0, p1, p2]) rfl ?_
  exact ⟨rfl, by (show EndFin _ _ _ _ dk _); with_reducible exact HFin.out _ _ _⟩
 by_cases h4 : kd = 4
 ·skip
  subst h4
  have HT := Lib.hid (show Cf.actT k ⟨4, pp, nn, mm, nm, da⟩ = Cf.unlinkT k nm from rfl)
  have HC := Lib.hid (fun W (hW : KSt B wb g ⟨A, ca, M, cm, N, cn, S, cs, some ⟨gQ, 0, none⟩, cq⟩ xs ps k W) => show Calls _ _ _ _ (ActEnd B wb g W (Cf.unlinkT k nm)) from (unlink_any k W nm hW hG).mono fun _ _ h => h.end_)
  rw [HT.out]
  clear h hG HT hT hnl hdl hk
  go_enter Tryz.func37, Tryz.ntmps37
  go_upto_region 1 with fail
  rw [← Hw0.out]
  clear Hw0
  have hA0 := HAc.out
  have a0 := hA0.cell 0
  have a1 := hA0.cell 1
  have a2 := hA0.cell 2
  have a3 := hA0.cell 3
  have a4 := hA0.cell 4
  have a5 := hA0.cell 5
  simp only [List.getElem?_cons_zero, List.getElem?_cons_succ] at a0 a1 a2 a3 a4 a5
  have al := hA0.lt
  clear hA0
  go_wp2_with fail
  refine (HC.out _ HK0.out).mono ?_
  rintro e w1 ⟨rfl, he9, hx9⟩
  have HE1 := Lib.hid he9
  have HX1 := Lib.hid (KpA.trans (w1 := _) (by repeat (first | exact HX0.out | apply KpA.draw1 | apply KpA.draw)) hx9)
  clear he9 hx9 HK0 HX0 a0 a1 a2 a3 a4 a5 al HAc
  simp only [encAn]
  generalize Cf.unlinkT k nm = dd at *
  obtain ⟨dk, dc, dn, ds⟩ := dd
  have hX9 := HX1.out _ _ HXB.out
  have HFin := Lib.hid (fin_end HE1.out HX1.out HXw.out HXB.out hlow hroom hlim)
  have p0 := hX9.cell 0
  have p1 := hX9.cell 1
  have p2 := hX9.cell 2
  simp only [List.getElem?_cons_zero, List.getElem?_cons_succ] at p0 p1 p2
  have f0 := hX9.open_
  have hl9 := hX9.lt
  clear hX9 HE1 HX1 HXw HXB
  go_wp2
  refine bodyPost_ret (v := .agg #[.int .i64 dc, .int .i64 dn, .string ⟨ds.toArray⟩]) (by simp [results, Tryz.results37, go_sem, p0, p1, p2]) rfl ?_
  exact ⟨rfl, by (show EndFin _ _ _ _ dk _); with_reducible exact HFin.out _ _ _⟩
 have HPl := Lib.hid hG.procsL
 have HT0 := Lib.hid (show Cf.actT k ⟨kd, pp, nn, mm, nm, da⟩ = if Cf.withinB pp 4 = true ∧ (Cf.procAt k pp.toNat).live = true then Cf.byProcT k pp.toNat ⟨kd, pp, nn, mm, nm, da⟩ else Cf.refuseT k 6 by
  unfold Cf.actT
  rw [if_neg (by exact h1), if_neg (by exact h2), if_neg (by exact h3), if_neg (by exact h4), hG.procsL])
 have HWi := Lib.hid (fun W => within_any pp 4 W)
 by_cases hw : Cf.withinB pp 4 = false
 ·skip
  rw [HT0.out, if_neg (fun hh => by rw [hw] at hh; exact absurd hh.1 (by decide))]
  rw [hw] at HWi
  clear h hG HT0 hT hnl hdl hk
  go_enter Tryz.func37, Tryz.ntmps37
  go_upto_region 1 with fail
  rw [← Hw0.out]
  clear Hw0
  have hA0 := HAc.out
  have a0 := hA0.cell 0
  have a1 := hA0.cell 1
  have a2 := hA0.cell 2
  have a3 := hA0.cell 3
  have a4 := hA0.cell 4
  have a5 := hA0.cell 5
  simp only [List.getElem?_cons_zero, List.getElem?_cons_succ] at a0 a1 a2 a3 a4 a5
  have al := hA0.lt
  clear hA0
  have hK0 := HK0.out
  have c4 := hK0.ptr.c4
  simp only [HPl.out] at c4
  have kl := hK0.box.lt
  clear hK0
  go_wp2_with fail
  go_quiet ((go_at_call 70; exact quietE (HWi.out _)))
  clear c4 kl
  go_wp2_with fail
  refine (refuse_any 6 _).mono ?_
  rintro e w1 ⟨rfl, hb1⟩
  have HE1 := Lib.hid (show EndSt B wb g w0.heap.size k w1 from .inl ⟨_, _, _, KSt.below (w := _) (by repeat (first | exact HK0.out | apply KSt.draw | apply KSt.drawN)) hb1⟩)
  have HX1 := Lib.hid (KpA.below (w1 := _) (by repeat (first | exact HX0.out | apply KpA.draw1 | apply KpA.draw)) hb1)
  simp only [encAn]
  clear hb1 HK0 HX0 a0 a1 a2 a3 a4 a5 al HAc
  have hX9 := HX1.out _ _ HXB.out
  have HFin := Lib.hid (fin_end HE1.out HX1.out HXw.out HXB.out hlow hroom hlim)
  have p0 := hX9.cell 0
  have p1 := hX9.cell 1
  have p2 := hX9.cell 2
  simp only [List.getElem?_cons_zero, List.getElem?_cons_succ] at p0 p1 p2
  have f0 := hX9.open_
  have hl9 := hX9.lt
  clear hX9 HE1 HX1 HXw HXB
  go_wp2
  refine bodyPost_ret (v := .agg #[.int .i64 6, .int .i64 0, .string ⟨#[]⟩]) (by simp [results, Tryz.results37, go_sem, p0, p1, p2]) rfl ?_
  exact ⟨rfl, by (show EndFin _ _ _ _ k _); with_reducible exact HFin.out _ _ _⟩
 rw [Bool.not_eq_false] at hw
 rw [hw] at HWi
 obtain ⟨hn0, hn4⟩ := Cf.within_iff.1 hw
 obtain ⟨q, hi⟩ := Int.eq_ofNat_of_zero_le hn0
 subst hi
 have hq4 : q < 4 := by omega
 have hqI : (q : Int) < 4 := by omega
 obtain ⟨gE, ce, lv, es, hP⟩ := h.pat hG.toPre hq4 rfl
 have HP := Lib.hid hP
 rw [Int.toNat_natCast, hw, hP.is_] at HT0
 cases lv
 ·skip
  rw [HT0.out, if_neg (by simp)]
  clear h hG hP HT0 hT hnl hdl hk hw
  go_enter Tryz.func37, Tryz.ntmps37
  go_upto_region 1 with fail
  rw [← Hw0.out]
  clear Hw0
  have hA0 := HAc.out
  have a0 := hA0.cell 0
  have a1 := hA0.cell 1
  have a2 := hA0.cell 2
  have a3 := hA0.cell 3
  have a4 := hA0.cell 4
  have a5 := hA0.cell 5
  simp only [List.getElem?_cons_zero, List.getElem?_cons_succ] at a0 a1 a2 a3 a4 a5
  have al := hA0.lt
  clear hA0
  have hK0 := HK0.out
  have c4 := hK0.ptr.c4
  simp only [HPl.out] at c4
  have kl := hK0.box.lt
  clear hK0
  have l0 := HK0.out.p0 HP.out
  have ql := (HK0.out.Bp HP.out).lt
  go_wp2_with fail
  go_quiet ((go_at_call 70; exact quietE (HWi.out _)))
  clear c4 kl l0 ql
  go_wp2_with fail
  refine (refuse_any 6 _).mono ?_
  rintro e w1 ⟨rfl, hb1⟩
  have HE1 := Lib.hid (show EndSt B wb g w0.heap.size k w1 from .inl ⟨_, _, _, KSt.below (w := _) (by repeat (first | exact HK0.out | apply KSt.draw | apply KSt.drawN)) hb1⟩)
  have HX1 := Lib.hid (KpA.below (w1 := _) (by repeat (first | exact HX0.out | apply KpA.draw1 | apply KpA.draw)) hb1)
  simp only [encAn]
  clear hb1 HK0 HX0 a0 a1 a2 a3 a4 a5 al HAc
  have hX9 := HX1.out _ _ HXB.out
  have HFin := Lib.hid (fin_end HE1.out HX1.out HXw.out HXB.out hlow hroom hlim)
  have p0 := hX9.cell 0
  have p1 := hX9.cell 1
  have p2 := hX9.cell 2
  simp only [List.getElem?_cons_zero, List.getElem?_cons_succ] at p0 p1 p2
  have f0 := hX9.open_
  have hl9 := hX9.lt
  clear hX9 HE1 HX1 HXw HXB
  go_wp2
  refine bodyPost_ret (v := .agg #[.int .i64 6, .int .i64 0, .string ⟨#[]⟩]) (by simp [results, Tryz.results37, go_sem, p0, p1, p2]) rfl ?_
  exact ⟨rfl, by (show EndFin _ _ _ _ k _); with_reducible exact HFin.out _ _ _⟩
 ·skip
  rw [HT0.out, if_pos ⟨rfl, rfl⟩]
  have HC := Lib.hid (fun W (hW : KSt B wb g ⟨A, ca, M, cm, N, cn, S, cs, some ⟨gQ, 0, none⟩, cq⟩ xs ps k W) => performOf_any k q gQ kd q nn mm nm da W hW hG hq4 rfl hnl hT (by omega))
  have Heg := Lib.hid (fun args w => show (callFunc 71 args).run Tryz.prog w = .ok (.enter 71 args) w by simp [go_sem])
  clear h hG hP HT0 hT hnl hdl hk hw
  go_enter Tryz.func37, Tryz.ntmps37
  go_upto_region 1 with fail
  rw [← Hw0.out]
  clear Hw0
  have hA0 := HAc.out
  have a0 := hA0.cell 0
  have a1 := hA0.cell 1
  have a2 := hA0.cell 2
  have a3 := hA0.cell 3
  have a4 := hA0.cell 4
  have a5 := hA0.cell 5
  simp only [List.getElem?_cons_zero, List.getElem?_cons_succ] at a0 a1 a2 a3 a4 a5
  have al := hA0.lt
  clear hA0
  have hK0 := HK0.out
  have c4 := hK0.ptr.c4
  simp only [HPl.out] at c4
  have kl := hK0.box.lt
  clear hK0
  have l0 := HK0.out.p0 HP.out
  have ql := (HK0.out.Bp HP.out).lt
  go_wp2_with fail
  go_quiet ((go_at_call 70; exact quietE (HWi.out _)))
  go_wp2_with fail
  go_region_law (first
   | (refine step_call3 (by rfl) 71 (.tmp 57) (.tmp 64) (.tmp 65) _ (by rfl) (.pointer (some ⟨g, 0, none⟩)) (.pointer (some ⟨gQ, q * 2, none⟩)) (.agg #[.int .i64 kd, .int .i64 q, .int .i64 nn, .int .i64 mm, .string ⟨nm.toArray⟩, .string ⟨da.toArray⟩]) (by rfl) (by rfl) (by rfl) Heg.out (HC.out _ (by repeat (first | exact HK0.out | apply KSt.draw | apply KSt.drawN))) ?_
      rintro e w1 ⟨rfl, hf9, hx9⟩
      refine ⟨_, rfl, ?_⟩
      have HE1 := Lib.hid (show EndSt B wb g w0.heap.size _ w1 from .inl hf9)
      have HX1 := Lib.hid (KpA.trans (w1 := _) (by repeat (first | exact HX0.out | apply KpA.draw1 | apply KpA.draw)) hx9)
      clear hf9 hx9
      simp only [encAn]
      have hX9 := HX1.out _ _ HXB.out
      have HFin := Lib.hid (fin_end HE1.out HX1.out HXw.out HXB.out hlow hroom hlim)
      have p0 := hX9.cell 0
      have p1 := hX9.cell 1
      have p2 := hX9.cell 2
      simp only [List.getElem?_cons_zero, List.getElem?_cons_succ] at p0 p1 p2
      have f0 := hX9.open_
      have hl9 := hX9.lt
      clear hX9 HE1 HX1 HXw HXB)
   | fail)
  all_goals
   clear HK0 HX0 a0 a1 a2 a3 a4 a5 al HAc c4 kl l0 ql
   go_wp2
   refine bodyPost_ret (v := .agg #[.int .i64 (Cf.byProcT k q ⟨kd, q, nn, mm, nm, da⟩).ans.code, .int .i64 (Cf.byProcT k q ⟨kd, q, nn, mm, nm, da⟩).ans.n, .string ⟨(Cf.byProcT k q ⟨kd, q, nn, mm, nm, da⟩).ans.data.toArray⟩]) (by simp [results, Tryz.results37, go_sem, p0, p1, p2]) rfl ?_
   exact ⟨rfl, by (show EndFin _ _ _ _ (Cf.byProcT k q ⟨kd, q, nn, mm, nm, da⟩).kern _); with_reducible exact HFin.out _ _ _⟩
end Go.Proofs.YtnnhhbjbdmgpiaaGreatDoor
/- Walks of chapter 5: the program's Do. (tools/gen/dow.py) -/
namespace Go.Proofs.YtnnhhbjbdmgpiaaGreatDoor
set_option maxRecDepth 100000
open Go.RowKit
def DoPost (d : Cf.DidE) (w : World) (e : Ending) (w' : World) : Prop := ∃ a : KA, e = .returned (.tuple #[.agg (kcells a d.kern).toArray, .agg (encAn d.ans).toArray, .int .i64 d.err]) ∧ KNew w.heap.size w' a d.kern ∧ Below w.heap.size w w'
theorem no_new (B : Nat) (w : World) : KNew B w ⟨none, 0, none, 0, none, 0, none, 0, none, 0⟩ Cf.noKern :=
 ⟨⟨[], ⟨.inl rfl, .inl rfl⟩, Each.nil⟩, ⟨.inl rfl, .inl rfl⟩, ⟨.inl rfl, .inl rfl⟩, ⟨.inl rfl, .inl rfl⟩, ⟨[], ⟨.inl rfl, .inl rfl⟩, Each.nil⟩, Nat.le_refl _, Nat.le_refl _⟩
theorem fit_good {k : Cf.Kern} (h : Cf.Good k) : KFit k := by
 have hm : ∀ m ∈ k.mods, m.name.length ≤ 6 ∧ m.code.length ≤ 200 ∧ m.data.length ≤ 64 := fun m hm => by
  obtain ⟨h1, h2, _, h4⟩ := Cf.mod_parts (h.mod m hm)
  exact ⟨h1.2, Cf.fault_len _ (Cf.safe_fault h4), h2⟩
 have hn : ∀ n ∈ k.nodes, n.name.length ≤ 6 ∧ n.data.length ≤ 100 := fun n hn => by
  refine ⟨?_, ?_⟩
  ·by_cases h0 : n.name = []
   ·rw [h0]; simp
   ·have := h.name n hn h0
    rw [name_len] at this
    simp only [Bool.and_eq_true, decide_eq_true_eq] at this
    omega
  ·rcases (h.node n hn).kinds with h1 | h1 | h1
   ·rw [h1.2]; simp [Cf.noNode]
   ·exact h1.2.2
   ·rw [h1.2.1]; simp
 have b : ∀ n : Nat, n ≤ 100000 → n ≤ big := fun n h => by unfold big; omega
 have e1 := h.modsL
 have e2 := h.memL
 have e3 := h.nodesL
 have e4 := h.pipesL
 have e5 := h.procsL
 refine ⟨b _ (by omega), fun m hmm => ⟨b _ (by have := hm m hmm; omega), b _ (by have := hm m hmm; omega), b _ (by have := hm m hmm; omega)⟩, b _ (by omega), b _ (by omega), fun n hnn => ⟨b _ (by have := hn n hnn; omega), b _ (by have := hn n hnn; omega)⟩, b _ (by omega), fun s hs => b _ (by have := h.pipe s hs; omega), b _ (by omega), fun p hp => b _ (by have := h.ends p hp; omega), ⟨b _ (by omega), b _ (by omega), b _ (by omega), b _ (by omega), b _ (by omega)⟩, fun m hmm => ⟨b _ (by have := hm m hmm; omega), b _ (by have := hm m hmm; omega)⟩, fun p hp => b _ (by have := h.ends p hp; omega)⟩
set_option maxHeartbeats 4000000 in
theorem do_any (k : Cf.Kern) (a : KA) (kd pp nn mm : Int) (nm da : List UInt8) (w : World) (hR : KRd w a k) (hf : KFit k) (hL : TabL w) (hF : TabF w) (hnl : nm.length ≤ maxLen) (hdl : da.length ≤ maxLen) :
  Calls Tryz.prog 12 #[.agg (kcells a k).toArray, .agg #[.int .i64 kd, .int .i64 pp, .int .i64 nn, .int .i64 mm, .string ⟨nm.toArray⟩, .string ⟨da.toArray⟩]] w (DoPost (Cf.doT k ⟨kd, pp, nn, mm, nm, da⟩) w) := by
 obtain ⟨A, ca, M, cm, N, cn, S, cs, Q, cq⟩ := a
 show Calls Tryz.prog 12 #[.agg #[.slice A k.mods.length ca, .slice M k.mem.length cm, .slice N k.nodes.length cn, .slice S k.pipes.length cs, .slice Q k.procs.length cq], _] w _
 obtain ⟨w0, hw0⟩ : ∃ w0 : World, w0 = (((w.alloc (.cells #[.slice A k.mods.length ca, .slice M k.mem.length cm, .slice N k.nodes.length cn, .slice S k.pipes.length cs, .slice Q k.procs.length cq] tKern)).alloc (.cells #[.int .i64 kd, .int .i64 pp, .int .i64 nn, .int .i64 mm, .string ⟨nm.toArray⟩, .string ⟨da.toArray⟩] tAct)).alloc (.cells #[.slice none 0 0, .slice none 0 0, .slice none 0 0, .slice none 0 0, .slice none 0 0] tKern)).alloc (.cells #[.int .i64 0, .int .i64 0, .string ⟨#[]⟩] tAns) := ⟨_, rfl⟩
 have hz0 : w0.heap.size = w.heap.size + 4 := by rw [hw0]; simp
 have hb0 : Below w.heap.size w w0 := by rw [hw0]; exact ((((Below.refl _ _).alloc (Nat.le_refl _) _).alloc (by simp) _).alloc (by simp; omega) _).alloc (by simp; omega) _
 have HKB0 := Lib.hid (show Wb w0 w.heap.size tKern [.slice A k.mods.length ca, .slice M k.mem.length cm, .slice N k.nodes.length cn, .slice S k.pipes.length cs, .slice Q k.procs.length cq] by rw [hw0]; exact (((Wb.new w tKern [.slice A k.mods.length ca, .slice M k.mem.length cm, .slice N k.nodes.length cn, .slice S k.pipes.length cs, .slice Q k.procs.length cq]).alloc _).alloc _).alloc _)
 have HAc0 := Lib.hid (show Wb w0 (w.heap.size + 1) tAct [.int .i64 kd, .int .i64 pp, .int .i64 nn, .int .i64 mm, .string ⟨nm.toArray⟩, .string ⟨da.toArray⟩] by
  rw [hw0]
  have := Wb.new (w.alloc (.cells #[.slice A k.mods.length ca, .slice M k.mem.length cm, .slice N k.nodes.length cn, .slice S k.pipes.length cs, .slice Q k.procs.length cq] tKern)) tAct [.int .i64 kd, .int .i64 pp, .int .i64 nn, .int .i64 mm, .string ⟨nm.toArray⟩, .string ⟨da.toArray⟩]
  rw [show (w.alloc (.cells #[.slice A k.mods.length ca, .slice M k.mem.length cm, .slice N k.nodes.length cn, .slice S k.pipes.length cs, .slice Q k.procs.length cq] tKern)).heap.size = w.heap.size + 1 by simp] at this
  exact (this.alloc _).alloc _)
 have HRK0 := Lib.hid (show Wb w0 (w.heap.size + 2) tKern [.slice none 0 0, .slice none 0 0, .slice none 0 0, .slice none 0 0, .slice none 0 0] by
  rw [hw0]
  have := Wb.new ((w.alloc (.cells #[.slice A k.mods.length ca, .slice M k.mem.length cm, .slice N k.nodes.length cn, .slice S k.pipes.length cs, .slice Q k.procs.length cq] tKern)).alloc (.cells #[.int .i64 kd, .int .i64 pp, .int .i64 nn, .int .i64 mm, .string ⟨nm.toArray⟩, .string ⟨da.toArray⟩] tAct)) tKern [.slice none 0 0, .slice none 0 0, .slice none 0 0, .slice none 0 0, .slice none 0 0]
  rw [show ((w.alloc (.cells #[.slice A k.mods.length ca, .slice M k.mem.length cm, .slice N k.nodes.length cn, .slice S k.pipes.length cs, .slice Q k.procs.length cq] tKern)).alloc (.cells #[.int .i64 kd, .int .i64 pp, .int .i64 nn, .int .i64 mm, .string ⟨nm.toArray⟩, .string ⟨da.toArray⟩] tAct)).heap.size = w.heap.size + 2 by simp] at this
  exact this.alloc _)
 have HRA0 := Lib.hid (show Wb w0 (w.heap.size + 3) tAns [.int .i64 0, .int .i64 0, .string ⟨#[]⟩] by
  rw [hw0]
  have := Wb.new (((w.alloc (.cells #[.slice A k.mods.length ca, .slice M k.mem.length cm, .slice N k.nodes.length cn, .slice S k.pipes.length cs, .slice Q k.procs.length cq] tKern)).alloc (.cells #[.int .i64 kd, .int .i64 pp, .int .i64 nn, .int .i64 mm, .string ⟨nm.toArray⟩, .string ⟨da.toArray⟩] tAct)).alloc (.cells #[.slice none 0 0, .slice none 0 0, .slice none 0 0, .slice none 0 0, .slice none 0 0] tKern)) tAns [.int .i64 0, .int .i64 0, .string ⟨#[]⟩]
  rw [show (((w.alloc (.cells #[.slice A k.mods.length ca, .slice M k.mem.length cm, .slice N k.nodes.length cn, .slice S k.pipes.length cs, .slice Q k.procs.length cq] tKern)).alloc (.cells #[.int .i64 kd, .int .i64 pp, .int .i64 nn, .int .i64 mm, .string ⟨nm.toArray⟩, .string ⟨da.toArray⟩] tAct)).alloc (.cells #[.slice none 0 0, .slice none 0 0, .slice none 0 0, .slice none 0 0, .slice none 0 0] tKern)).heap.size = w.heap.size + 3 by simp] at this
  exact this)
 have Hw0 := Lib.hid hw0
 have Hz0 := Lib.hid hz0
 have HCk := Lib.hid (check_kern k ⟨A, ca, M, cm, N, cn, S, cs, Q, cq⟩ w0 (hR.below hb0) hf (hL.below hb0) (hF.below hb0))
 have Hb0 := Lib.hid hb0
 have HR := Lib.hid hR
 have Hf := Lib.hid hf
 have HTb := Lib.hid (show ∀ W, Below w.heap.size w W → TabL W ∧ TabF W from fun W h => ⟨hL.below h, hF.below h⟩)
 have HDo := Lib.hid (show Cf.doT k ⟨kd, pp, nn, mm, nm, da⟩ = if Cf.kernT k ≠ 0 then ⟨Cf.noKern, Cf.noAns, Cf.kernT k⟩ else if Cf.inB kd 1 11 = false then ⟨Cf.noKern, Cf.noAns, 3⟩ else ⟨(Cf.actT k ⟨kd, pp, nn, mm, nm, da⟩).kern, (Cf.actT k ⟨kd, pp, nn, mm, nm, da⟩).ans, 0⟩ from rfl)
 have HGd := Lib.hid (fun h => (Cf.good_iff (k := k)).1 h)
 rw [HDo.out]
 clear hw0 hz0 hR hf hL hF HDo hb0
 generalize Cf.kernT k = er at *
 by_cases he : er = 0
 ·subst he
  have hG : Cf.Good k := HGd.out rfl
  rw [if_neg (by simp)]
  by_cases h1 : kd < 1
  ·skip
   rw [if_pos (by simp [Cf.inB]; omega)]
   clear hG HGd
   go_enter Tryz.func12, Tryz.ntmps12
   go_upto_region 1 with fail
   rw [← Hw0.out]
   clear Hw0
   have hB := HKB0.out
   have c0 := hB.cell 0
   have c1 := hB.cell 1
   have c2 := hB.cell 2
   have c3 := hB.cell 3
   have c4 := hB.cell 4
   simp only [List.getElem?_cons_zero, List.getElem?_cons_succ] at c0 c1 c2 c3 c4
   have cl := hB.lt
   clear hB
   go_wp2_with fail
   refine HCk.out.mono ?_
   rintro e w1 ⟨rfl, hb1⟩
   have Hb1 := Lib.hid (Hb0.out.trans (hb1.mono Hb0.out.size))
   have Hs1 := Lib.hid (show w.heap.size + 4 ≤ w1.heap.size by have := hb1.size; rw [Hz0.out] at this; exact this)
   have HKB1 := Lib.hid (HKB0.out.below hb1 HKB0.out.lt)
   have HAc1 := Lib.hid (HAc0.out.below hb1 HAc0.out.lt)
   have HRK1 := Lib.hid (HRK0.out.below hb1 HRK0.out.lt)
   have HRA1 := Lib.hid (HRA0.out.below hb1 HRA0.out.lt)
   clear HKB0 HAc0 HRK0 HRA0
   clear hb1 c0 c1 c2 c3 c4 cl HCk Hb0
   have a0 := HAc1.out.cell 0
   simp only [List.getElem?_cons_zero] at a0
   have al := HAc1.out.lt
   have hRK := HRK1.out
   have r0 := hRK.cell 0
   have r1 := hRK.cell 1
   have r2 := hRK.cell 2
   have r3 := hRK.cell 3
   have r4 := hRK.cell 4
   have hRA := HRA1.out
   have t0 := hRA.cell 0
   have t1 := hRA.cell 1
   have t2 := hRA.cell 2
   simp only [List.getElem?_cons_zero, List.getElem?_cons_succ] at r0 r1 r2 r3 r4 t0 t1 t2
   have rf := hRK.open_
   have rl := hRK.lt
   have tf := hRA.open_
   have tl := hRA.lt
   clear hRK hRA
   clear HKB1 HAc1 HRK1 HRA1
   go_wp2
   refine bodyPost_ret (v := .tuple #[.agg #[.slice none 0 0, .slice none 0 0, .slice none 0 0, .slice none 0 0, .slice none 0 0], .agg #[.int .i64 0, .int .i64 0, .string ⟨#[]⟩], .int .i64 3]) (by simp [results, Tryz.results12, go_sem, r0, r1, r2, r3, r4, t0, t1, t2]) rfl ?_
   exact ⟨_, rfl, no_new _ _, ((((((((Hb1.out.setCell (p := ⟨w.heap.size + 2, 0, none⟩) (by show w.heap.size ≤ w.heap.size + 2; omega) _).setCell (p := ⟨w.heap.size + 2, 1, none⟩) (by show w.heap.size ≤ w.heap.size + 2; omega) _).setCell (p := ⟨w.heap.size + 2, 2, none⟩) (by show w.heap.size ≤ w.heap.size + 2; omega) _).setCell (p := ⟨w.heap.size + 2, 3, none⟩) (by show w.heap.size ≤ w.heap.size + 2; omega) _).setCell (p := ⟨w.heap.size + 2, 4, none⟩) (by show w.heap.size ≤ w.heap.size + 2; omega) _).setCell (p := ⟨w.heap.size + 3, 0, none⟩) (by show w.heap.size ≤ w.heap.size + 3; omega) _).setCell (p := ⟨w.heap.size + 3, 1, none⟩) (by show w.heap.size ≤ w.heap.size + 3; omega) _).setCell (p := ⟨w.heap.size + 3, 2, none⟩) (by show w.heap.size ≤ w.heap.size + 3; omega) _)⟩
  by_cases h2 : 11 < kd
  ·skip
   rw [if_pos (by simp [Cf.inB]; omega)]
   clear hG HGd
   go_enter Tryz.func12, Tryz.ntmps12
   go_upto_region 1 with fail
   rw [← Hw0.out]
   clear Hw0
   have hB := HKB0.out
   have c0 := hB.cell 0
   have c1 := hB.cell 1
   have c2 := hB.cell 2
   have c3 := hB.cell 3
   have c4 := hB.cell 4
   simp only [List.getElem?_cons_zero, List.getElem?_cons_succ] at c0 c1 c2 c3 c4
   have cl := hB.lt
   clear hB
   go_wp2_with fail
   refine HCk.out.mono ?_
   rintro e w1 ⟨rfl, hb1⟩
   have Hb1 := Lib.hid (Hb0.out.trans (hb1.mono Hb0.out.size))
   have Hs1 := Lib.hid (show w.heap.size + 4 ≤ w1.heap.size by have := hb1.size; rw [Hz0.out] at this; exact this)
   have HKB1 := Lib.hid (HKB0.out.below hb1 HKB0.out.lt)
   have HAc1 := Lib.hid (HAc0.out.below hb1 HAc0.out.lt)
   have HRK1 := Lib.hid (HRK0.out.below hb1 HRK0.out.lt)
   have HRA1 := Lib.hid (HRA0.out.below hb1 HRA0.out.lt)
   clear HKB0 HAc0 HRK0 HRA0
   clear hb1 c0 c1 c2 c3 c4 cl HCk Hb0
   have a0 := HAc1.out.cell 0
   simp only [List.getElem?_cons_zero] at a0
   have al := HAc1.out.lt
   have hRK := HRK1.out
   have r0 := hRK.cell 0
   have r1 := hRK.cell 1
   have r2 := hRK.cell 2
   have r3 := hRK.cell 3
   have r4 := hRK.cell 4
   have hRA := HRA1.out
   have t0 := hRA.cell 0
   have t1 := hRA.cell 1
   have t2 := hRA.cell 2
   simp only [List.getElem?_cons_zero, List.getElem?_cons_succ] at r0 r1 r2 r3 r4 t0 t1 t2
   have rf := hRK.open_
   have rl := hRK.lt
   have tf := hRA.open_
   have tl := hRA.lt
   clear hRK hRA
   clear HKB1 HAc1 HRK1 HRA1
   go_wp2
   refine bodyPost_ret (v := .tuple #[.agg #[.slice none 0 0, .slice none 0 0, .slice none 0 0, .slice none 0 0, .slice none 0 0], .agg #[.int .i64 0, .int .i64 0, .string ⟨#[]⟩], .int .i64 3]) (by simp [results, Tryz.results12, go_sem, r0, r1, r2, r3, r4, t0, t1, t2]) rfl ?_
   exact ⟨_, rfl, no_new _ _, ((((((((Hb1.out.setCell (p := ⟨w.heap.size + 2, 0, none⟩) (by show w.heap.size ≤ w.heap.size + 2; omega) _).setCell (p := ⟨w.heap.size + 2, 1, none⟩) (by show w.heap.size ≤ w.heap.size + 2; omega) _).setCell (p := ⟨w.heap.size + 2, 2, none⟩) (by show w.heap.size ≤ w.heap.size + 2; omega) _).setCell (p := ⟨w.heap.size + 2, 3, none⟩) (by show w.heap.size ≤ w.heap.size + 2; omega) _).setCell (p := ⟨w.heap.size + 2, 4, none⟩) (by show w.heap.size ≤ w.heap.size + 2; omega) _).setCell (p := ⟨w.heap.size + 3, 0, none⟩) (by show w.heap.size ≤ w.heap.size + 3; omega) _).setCell (p := ⟨w.heap.size + 3, 1, none⟩) (by show w.heap.size ≤ w.heap.size + 3; omega) _).setCell (p := ⟨w.heap.size + 3, 2, none⟩) (by show w.heap.size ≤ w.heap.size + 3; omega) _)⟩
  rw [if_neg (by simp [Cf.inB]; omega)]
  have HG := Lib.hid hG
  have HPf := Lib.hid (fun (B : Nat) (wb : World) (g : Nat) (a : KA) (xs : List MV) (ps : List PV) W (hW : KSt B wb g a xs ps k W) (hT : Tabs B wb) => perform_any k kd pp nn mm nm da W hW hG hnl hdl hT (by omega))
  clear hG HGd hnl hdl
  generalize Cf.actT k ⟨kd, pp, nn, mm, nm, da⟩ = dd at *
  obtain ⟨dk, dc, dn, ds⟩ := dd
  simp only
  go_enter Tryz.func12, Tryz.ntmps12
  go_upto_region 1 with fail
  rw [← Hw0.out]
  clear Hw0
  have hB := HKB0.out
  have c0 := hB.cell 0
  have c1 := hB.cell 1
  have c2 := hB.cell 2
  have c3 := hB.cell 3
  have c4 := hB.cell 4
  simp only [List.getElem?_cons_zero, List.getElem?_cons_succ] at c0 c1 c2 c3 c4
  have cl := hB.lt
  clear hB
  go_wp2_with fail
  refine HCk.out.mono ?_
  rintro e w1 ⟨rfl, hb1⟩
  have Hb1 := Lib.hid (Hb0.out.trans (hb1.mono Hb0.out.size))
  have Hs1 := Lib.hid (show w.heap.size + 4 ≤ w1.heap.size by have := hb1.size; rw [Hz0.out] at this; exact this)
  have HKB1 := Lib.hid (HKB0.out.below hb1 HKB0.out.lt)
  have HAc1 := Lib.hid (HAc0.out.below hb1 HAc0.out.lt)
  have HRK1 := Lib.hid (HRK0.out.below hb1 HRK0.out.lt)
  have HRA1 := Lib.hid (HRA0.out.below hb1 HRA0.out.lt)
  clear HKB0 HAc0 HRK0 HRA0
  clear hb1 c0 c1 c2 c3 c4 cl HCk Hb0
  have HCp := Lib.hid (kcopy_any k ⟨A, ca, M, cm, N, cn, S, cs, Q, cq⟩ w1 (HR.out.below Hb1.out) Hf.out)
  have a0 := HAc1.out.cell 0
  simp only [List.getElem?_cons_zero] at a0
  have al := HAc1.out.lt
  have hB := HKB1.out
  have c0 := hB.cell 0
  have c1 := hB.cell 1
  have c2 := hB.cell 2
  have c3 := hB.cell 3
  have c4 := hB.cell 4
  simp only [List.getElem?_cons_zero, List.getElem?_cons_succ] at c0 c1 c2 c3 c4
  have cl := hB.lt
  clear hB
  go_wp2_with fail
  refine HCp.out.mono ?_
  rintro e w2 ⟨⟨A2, ca2, M2, cm2, N2, cn2, S2, cs2, Q2, cq2⟩, xs, ps, rfl, hown, hb2⟩
  simp only [kcells]
  go_upto_region 7 with fail
  have Hw3 := Lib.hid (show KSt w1.heap.size w1 w2.heap.size ⟨A2, ca2, M2, cm2, N2, cn2, S2, cs2, Q2, cq2⟩ xs ps k (w2.alloc (.cells #[.slice A2 k.mods.length ca2, .slice M2 k.mem.length cm2, .slice N2 k.nodes.length cn2, .slice S2 k.pipes.length cs2, .slice Q2 k.procs.length cq2] tKern)) from ⟨Wb.new w2 tKern _, hown.below ((Below.refl _ _).alloc (Nat.le_refl _) _), hb2.size, hb2.alloc hb2.size _⟩)
  have hb3 : Below w1.heap.size w1 (w2.alloc (.cells #[.slice A2 k.mods.length ca2, .slice M2 k.mem.length cm2, .slice N2 k.nodes.length cn2, .slice S2 k.pipes.length cs2, .slice Q2 k.procs.length cq2] tKern)) := hb2.alloc hb2.size _
  have hs2 := hb2.size
  have Hs2 := Lib.hid hs2
  clear hown hb2 c0 c1 c2 c3 c4 cl a0 al HCp hs2
  generalize hg2 : w2.heap.size = g2 at *
  clear hg2
  generalize w2.alloc (.cells #[.slice A2 k.mods.length ca2, .slice M2 k.mem.length cm2, .slice N2 k.nodes.length cn2, .slice S2 k.pipes.length cs2, .slice Q2 k.procs.length cq2] tKern) = w3 at *
  have hA := HAc1.out.below hb3 HAc1.out.lt
  have a0 := hA.cell 0
  have a1 := hA.cell 1
  have a2 := hA.cell 2
  have a3 := hA.cell 3
  have a4 := hA.cell 4
  have a5 := hA.cell 5
  simp only [List.getElem?_cons_zero, List.getElem?_cons_succ] at a0 a1 a2 a3 a4 a5
  have al := hA.lt
  clear hA hb3
  go_wp2_with fail
  refine (HPf.out _ _ _ _ _ _ _ Hw3.out (fun W hW => HTb.out W (Hb1.out.trans (hW.mono Hb1.out.size)))).mono ?_
  rintro e w4 ⟨rfl, he4, _⟩
  obtain ⟨⟨A4, ca4, M4, cm4, N4, cn4, S4, cs4, Q4, cq4⟩, hbx4, hnew4, hkp4⟩ := he4.aft
  simp only [encAn]
  go_upto_region 8 with fail
  have hb5 : Below w4.heap.size w4 (w4.alloc (.cells #[.int .i64 dc, .int .i64 dn, .string ⟨ds.toArray⟩] tAns)) := (Below.refl _ _).alloc (Nat.le_refl _) _
  have HA5 := Lib.hid (show Wb (w4.alloc (.cells #[.int .i64 dc, .int .i64 dn, .string ⟨ds.toArray⟩] tAns)) w4.heap.size tAns [.int .i64 dc, .int .i64 dn, .string ⟨ds.toArray⟩] from Wb.new w4 tAns _)
  have Hbx5 := Lib.hid (hbx4.below hb5 hbx4.lt)
  have Hnew5 := Lib.hid (hnew4.below hb5)
  have hkp5 := hkp4.alloc hkp4.size (.cells #[.int .i64 dc, .int .i64 dn, .string ⟨ds.toArray⟩] tAns)
  have HRK5 := Lib.hid (HRK1.out.below hkp5 HRK1.out.lt)
  have HRA5 := Lib.hid (HRA1.out.below hkp5 HRA1.out.lt)
  have Hb5 := Lib.hid (Hb1.out.trans (hkp5.mono Hb1.out.size))
  have Hs4 := Lib.hid (show w1.heap.size ≤ w4.heap.size from hkp4.size)
  clear he4 hbx4 hnew4 hkp4 hb5 hkp5 HPf Hw3 HKB1 HAc1 HRK1 HRA1 a0 a1 a2 a3 a4 a5 al
  generalize hg4 : w4.heap.size = g4 at *
  clear hg4
  generalize w4.alloc (.cells #[.int .i64 dc, .int .i64 dn, .string ⟨ds.toArray⟩] tAns) = w5 at *
  have hRK := HRK5.out
  have r0 := hRK.cell 0
  have r1 := hRK.cell 1
  have r2 := hRK.cell 2
  have r3 := hRK.cell 3
  have r4 := hRK.cell 4
  have hRA := HRA5.out
  have t0 := hRA.cell 0
  have t1 := hRA.cell 1
  have t2 := hRA.cell 2
  simp only [List.getElem?_cons_zero, List.getElem?_cons_succ] at r0 r1 r2 r3 r4 t0 t1 t2
  have rf := hRK.open_
  have rl := hRK.lt
  have tf := hRA.open_
  have tl := hRA.lt
  clear hRK hRA
  have hK5 := Hbx5.out
  have z0 := hK5.cell 0
  have z1 := hK5.cell 1
  have z2 := hK5.cell 2
  have z3 := hK5.cell 3
  have z4 := hK5.cell 4
  simp only [kcells, List.getElem?_cons_zero, List.getElem?_cons_succ] at z0 z1 z2 z3 z4
  have zl := hK5.lt
  have hA5 := HA5.out
  have y0 := hA5.cell 0
  have y1 := hA5.cell 1
  have y2 := hA5.cell 2
  simp only [List.getElem?_cons_zero, List.getElem?_cons_succ] at y0 y1 y2
  have yl := hA5.lt
  have n1 : g2 ≠ w.heap.size + 2 := by have := Hs1.out; have := Hs2.out; omega
  have n2 : g2 ≠ w.heap.size + 3 := by have := Hs1.out; have := Hs2.out; omega
  have n3 : g4 ≠ w.heap.size + 2 := by have := Hs1.out; have := Hs4.out; omega
  have n4 : g4 ≠ w.heap.size + 3 := by have := Hs1.out; have := Hs4.out; omega
  clear hK5 hA5 Hbx5 HA5 HRK5 HRA5
  go_region
  all_goals
   go_wp2
   have x0 : w5.cell? ⟨w.heap.size + 1 + 1, 0, none⟩ = _ := r0
   have x1 : w5.cell? ⟨w.heap.size + 1 + 1, 1, none⟩ = _ := r1
   have x2 : w5.cell? ⟨w.heap.size + 1 + 1, 2, none⟩ = _ := r2
   have x3 : w5.cell? ⟨w.heap.size + 1 + 1, 3, none⟩ = _ := r3
   have x4 : w5.cell? ⟨w.heap.size + 1 + 1, 4, none⟩ = _ := r4
   have u0 : w5.cell? ⟨w.heap.size + 1 + 1 + 1, 0, none⟩ = _ := t0
   have u1 : w5.cell? ⟨w.heap.size + 1 + 1 + 1, 1, none⟩ = _ := t1
   have u2 : w5.cell? ⟨w.heap.size + 1 + 1 + 1, 2, none⟩ = _ := t2
   refine bodyPost_ret (v := .tuple #[.agg #[.slice A4 dk.mods.length ca4, .slice M4 dk.mem.length cm4, .slice N4 dk.nodes.length cn4, .slice S4 dk.pipes.length cs4, .slice Q4 dk.procs.length cq4], .agg #[.int .i64 dc, .int .i64 dn, .string ⟨ds.toArray⟩], .int .i64 0]) (by simp [results, Tryz.results12, go_sem, x0, x1, x2, x3, x4, u0, u1, u2]) rfl ?_
   refine ⟨⟨A4, ca4, M4, cm4, N4, cn4, S4, cs4, Q4, cq4⟩, rfl, ?_, ?_⟩
   ·refine KNew.mono (B := w1.heap.size) ?_ (by have := Hs1.out; omega)
    refine KNew.below ?_ ((Below.refl _ _).drew)
    iterate 8 refine KNew.set ?_ (by have := Hs1.out; show _ < w1.heap.size; simp only; omega) _
    exact Hnew5.out
   ·refine Below.drew ?_
    iterate 8 refine Below.setCell ?_ (by simp only; omega) _
    exact Hb5.out
 ·rw [if_pos he]
  have hq : (er != 0) = true := by rw [bne_iff_ne]; exact he
  clear he HGd
  go_enter Tryz.func12, Tryz.ntmps12
  go_upto_region 1 with fail
  rw [← Hw0.out]
  clear Hw0
  have hB := HKB0.out
  have c0 := hB.cell 0
  have c1 := hB.cell 1
  have c2 := hB.cell 2
  have c3 := hB.cell 3
  have c4 := hB.cell 4
  simp only [List.getElem?_cons_zero, List.getElem?_cons_succ] at c0 c1 c2 c3 c4
  have cl := hB.lt
  clear hB
  go_wp2_with fail
  refine HCk.out.mono ?_
  rintro e w1 ⟨rfl, hb1⟩
  have Hb1 := Lib.hid (Hb0.out.trans (hb1.mono Hb0.out.size))
  have Hs1 := Lib.hid (show w.heap.size + 4 ≤ w1.heap.size by have := hb1.size; rw [Hz0.out] at this; exact this)
  have HKB1 := Lib.hid (HKB0.out.below hb1 HKB0.out.lt)
  have HAc1 := Lib.hid (HAc0.out.below hb1 HAc0.out.lt)
  have HRK1 := Lib.hid (HRK0.out.below hb1 HRK0.out.lt)
  have HRA1 := Lib.hid (HRA0.out.below hb1 HRA0.out.lt)
  clear HKB0 HAc0 HRK0 HRA0
  clear hb1 c0 c1 c2 c3 c4 cl HCk Hb0
  have hRK := HRK1.out
  have r0 := hRK.cell 0
  have r1 := hRK.cell 1
  have r2 := hRK.cell 2
  have r3 := hRK.cell 3
  have r4 := hRK.cell 4
  have hRA := HRA1.out
  have t0 := hRA.cell 0
  have t1 := hRA.cell 1
  have t2 := hRA.cell 2
  simp only [List.getElem?_cons_zero, List.getElem?_cons_succ] at r0 r1 r2 r3 r4 t0 t1 t2
  have rf := hRK.open_
  have rl := hRK.lt
  have tf := hRA.open_
  have tl := hRA.lt
  clear hRK hRA
  clear HKB1 HAc1 HRK1 HRA1
  go_wp2
  refine bodyPost_ret (v := .tuple #[.agg #[.slice none 0 0, .slice none 0 0, .slice none 0 0, .slice none 0 0, .slice none 0 0], .agg #[.int .i64 0, .int .i64 0, .string ⟨#[]⟩], .int .i64 er]) (by simp [results, Tryz.results12, go_sem, r0, r1, r2, r3, r4, t0, t1, t2]) rfl ?_
  exact ⟨_, rfl, no_new _ _, ((((((((Hb1.out.setCell (p := ⟨w.heap.size + 2, 0, none⟩) (by show w.heap.size ≤ w.heap.size + 2; omega) _).setCell (p := ⟨w.heap.size + 2, 1, none⟩) (by show w.heap.size ≤ w.heap.size + 2; omega) _).setCell (p := ⟨w.heap.size + 2, 2, none⟩) (by show w.heap.size ≤ w.heap.size + 2; omega) _).setCell (p := ⟨w.heap.size + 2, 3, none⟩) (by show w.heap.size ≤ w.heap.size + 2; omega) _).setCell (p := ⟨w.heap.size + 2, 4, none⟩) (by show w.heap.size ≤ w.heap.size + 2; omega) _).setCell (p := ⟨w.heap.size + 3, 0, none⟩) (by show w.heap.size ≤ w.heap.size + 3; omega) _).setCell (p := ⟨w.heap.size + 3, 1, none⟩) (by show w.heap.size ≤ w.heap.size + 3; omega) _).setCell (p := ⟨w.heap.size + 3, 2, none⟩) (by show w.heap.size ≤ w.heap.size + 3; omega) _)⟩
end Go.Proofs.YtnnhhbjbdmgpiaaGreatDoor
