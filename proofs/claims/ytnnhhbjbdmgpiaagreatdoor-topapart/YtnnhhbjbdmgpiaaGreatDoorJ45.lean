/- Texts of the proof of TopApart: ActS. -/
import Derived.Lib.LazyBuf
import Derived.Test.YtnnhhbjbdmgpiaaGreatDoorJ44
import Derived.Test.YtnnhhbjbdmgpiaaGreatDoorJ18
import Derived.Test.YtnnhhbjbdmgpiaaGreatDoorJ20
/- Walks of chapter 5: the program's writeFile. (tools/gen/acts.py) -/
namespace Go.Proofs.YtnnhhbjbdmgpiaaGreatDoor
set_option maxRecDepth 100000
open Go.RowKit

theorem max_run (x y : Nat) (ats : Array TypeId) (ty : TypeId) (w : World) : (Builtin.max_ ats ty #[.int .i64 (x : Int), .int .i64 (y : Int)]).run Tryz.prog w = .ok (.int .i64 ((max x y : Nat) : Int)) w := by
  simp only [Builtin.max_]
  simp [Builtin.max2]
  split <;> omega
abbrev tU8 : TypeId := 5
def bc (l : List UInt8) : List Value := l.map fun x => .int .u8 (x.toNat : Int)
theorem bc_len (l : List UInt8) : (bc l).length = l.length := by simp [bc]
theorem bc_app (a b : List UInt8) : bc (a ++ b) = bc a ++ bc b := by simp [bc]
theorem bc_take (l : List UInt8) (n : Nat) : (bc l).take n = bc (l.take n) := by simp [bc, List.map_take]
theorem bc_drop (l : List UInt8) (n : Nat) : (bc l).drop n = bc (l.drop n) := by simp [bc, List.map_drop]
theorem Wb.lay {g : Nat} {t : TypeId} : ∀ (vs : List Value) (o : Nat) (w : World) (cs : List Value), Wb w g t cs → o + vs.length ≤ cs.length → Wb (w.setCells g o vs) g t (cs.take o ++ vs ++ cs.drop (o + vs.length))
  | [], o, w, cs, h, _ => by simpa [World.setCells] using h
  | v :: vs, o, w, cs, h, hl => by
    simp only [List.length_cons] at hl
    have h1 := Wb.lay vs (o + 1) (w.setCell ⟨g, o, none⟩ v) (cs.set o v) (h.put o v) (by simp; omega)
    have e : (cs.set o v).take (o + 1) ++ vs ++ (cs.set o v).drop (o + 1 + vs.length) = cs.take o ++ (v :: vs) ++ cs.drop (o + (v :: vs).length) := by
      have ho : o < cs.length := by omega
      rw [List.take_add_one, List.getElem?_set_self ho, List.take_set_of_le (Nat.le_refl o), List.drop_set_of_lt (by omega), List.length_cons, show o + 1 + vs.length = o + (vs.length + 1) by omega]
      simp
    rw [e] at h1
    exact h1
theorem Wb.is_there {w : World} {g : Nat} {t : TypeId} {cs : List Value} (h : Wb w g t cs) {j : Nat} (hj : j < cs.length) : (w.cell? ⟨g, j, none⟩).isSome = true := by
  rw [h.cell, List.getElem?_eq_getElem hj]
  rfl
theorem wb_byts {w : World} {g : Nat} {l : List UInt8} (h : Wb w g tU8 (bc l)) : Byts w (some ⟨g, 0, none⟩) l :=
  .inr ⟨g, 0, rfl, h.lt, fun k x hx j v hv => by
    have h0 : j = 0 := by
      cases j with
      | zero => rfl
      | succ j => simp [encB] at hv
    subst h0
    simp [encB] at hv
    subst hv
    rw [show 0 + k * 1 + 0 = k by omega, h.cell]
    simp [bc, hx]⟩
theorem size1 : ∀ w, (Go.sizeOf tU8).run Tryz.prog w = .ok 1 w := by
  obtain ⟨i1, hi1, hy0, hy1, hy2⟩ := info_parts infoByte
  intro w
  simp [sizeOf, typeInfo, hi1, hy1]
/-- copy(dst, s) into a block of bytes that is known. -/
theorem copy_bytes {w : World} {g n c o : Nat} {l s : List UInt8} (h : Wb w g tU8 (bc l)) (hl : o + s.length ≤ l.length) (hn : s.length ≤ n) (ty : TypeId) :
    (Builtin.copy_ #[92, 9] ty #[.slice (some ⟨g, o, none⟩) n c, .string ⟨s.toArray⟩]).run Tryz.prog w = .ok (goInt s.length) (w.setCells g o (bc s)) := by
  have hs : (⟨s.toArray⟩ : ByteArray).size = s.length := by simp [ByteArray.size]
  have := run_copy_string (P := Tryz.prog) w 92 9 ty tU8 g o n c ⟨s.toArray⟩ Tryz.underlying92 size1 (by rw [hs]; exact hn) (fun j hj => h.is_there (by rw [hs] at hj; rw [bc_len]; omega)) (fun j _ => h.open_ _)
  rw [hs] at this
  exact this
theorem made_bytes (w : World) (n : Nat) (hn : n ≤ 100) : ∃ c, (Instr.makeSlice 92 (.int .i64 (n : Int)) (.int .i64 (n : Int))).run Tryz.prog w = .ok (.slice (some ⟨w.heap.size, 0, none⟩) n n) (w.alloc (.cells c tU8)) ∧ c.toList = bc (List.replicate n 0) := by
  obtain ⟨i1, hi1, hy0, hy1, hy2⟩ := info_parts infoByte
  have := run_make (P := Tryz.prog) w 92 tU8 i1 _ Tryz.underlying92 hi1 hy0 .i64 .i64 (n : Int) (n : Int) (by omega) (by omega) (by rw [hy2]; omega) (by omega)
  rw [Int.toNat_natCast] at this
  refine ⟨_, this, ?_⟩
  have h1 := made_flat (Value.int .u8 0).cells (0 : UInt8) (enc := encB) rfl n
  have hsz : (Value.int .u8 0).cells.size = 1 := rfl
  rw [hsz] at h1
  rw [hy1, h1]
  simp [bc, encB, List.flatMap_replicate]
theorem over_is (d t : List UInt8) (po : Nat) : (d ++ List.replicate (max d.length (po + t.length) - d.length) 0).take po ++ t ++ (d ++ List.replicate (max d.length (po + t.length) - d.length) 0).drop (po + t.length) = Cf.overT d t po := by
  unfold Cf.overT
  have h1 : (d ++ List.replicate (max d.length (po + t.length) - d.length) (0 : UInt8)).take po = (d ++ List.replicate (po - d.length) 0).take po := by
    rw [List.take_append, List.take_append, List.take_replicate, List.take_replicate]
    congr 2
    omega
  have h2 : (d ++ List.replicate (max d.length (po + t.length) - d.length) (0 : UInt8)).drop (po + t.length) = d.drop (po + t.length) := by
    rw [List.drop_append, List.drop_replicate]
    rw [show max d.length (po + t.length) - d.length - (po + t.length - d.length) = 0 by omega]
    simp
  rw [h1, h2]
theorem PAt.node {a : KA} {ps : List PV} {k : Cf.Kern} {q gQ gE ce : Nat} {lv : Bool} {es : List Cf.End} (h : PAt a ps k q gQ gE ce lv es) (ns : List Cf.Node) : PAt a ps ⟨k.mods, k.mem, ns, k.pipes, k.procs⟩ q gQ gE ce lv es := ⟨h.Q, h.pv, h.proc, h.len, h.is_, h.cap⟩
set_option maxHeartbeats 1000000 in
theorem writeFile_any {B : Nat} {wb : World} {g : Nat} {a : KA} {xs : List MV} {ps : List PV} (k : Cf.Kern) (q gQ gE ce gN j : Nat) (lv : Bool) (es : List Cf.End) (i : Nat) (e : Cf.End) (f : Cf.Node) (c : List UInt8) (w : World) (h : KSt B wb g a xs ps k w) (hP : PAt a ps k q gQ gE ce lv es) (he : es[i]? = some e) (hN : a.N = some ⟨gN, 0, none⟩) (hf : k.nodes[j]? = some f) (hj : e.node.toNat = j) (hd : f.data.length ≤ 100) (hc : c.length ≤ 100) (hp : 0 ≤ e.pos ∧ e.pos ≤ 100) :
    Calls Tryz.prog 145 #[.pointer (some ⟨gN, j * 4, none⟩), .pointer (some ⟨gE, i * 3, none⟩), .string ⟨c.toArray⟩] w (ActPost B wb g w (Cf.writeFileT k q i c e f)) := by
  have HXB := Lib.hid (Wb.new w tAns [.int .i64 0, .int .i64 0, .string ⟨#[]⟩])
  have HXw := Lib.hid (KpA.alloc w (.cells #[.int .i64 0, .int .i64 0, .string ⟨#[]⟩] tAns))
  have HX0 := Lib.hid (KpA.refl (w.alloc (.cells #[.int .i64 0, .int .i64 0, .string ⟨#[]⟩] tAns)))
  have HK0 := Lib.hid (h.below ((Below.refl _ _).alloc (Nat.le_refl _) (.cells #[.int .i64 0, .int .i64 0, .string ⟨#[]⟩] tAns)))
  have hroom := h.room
  have hlow : w.heap.size ≤ w.heap.size := Nat.le_refl _
  have HP := Lib.hid hP
  have HE := Lib.hid he
  have HN := Lib.hid hN
  have HF := Lib.hid hf
  obtain ⟨po, hpo⟩ := Int.eq_ofNat_of_zero_le hp.1
  obtain ⟨ek, en, ep⟩ := e
  obtain ⟨fn, fk, d, fu⟩ := f
  simp only at hpo hp hd hj
  subst hpo
  have hmin : ∀ ats ty w, (Builtin.min_ ats ty #[.int .i64 c.length, .int .i64 (100 - (po : Int))]).run Tryz.prog w = .ok (.int .i64 ((min c.length (100 - po) : Nat) : Int)) w := by
    intro ats ty w
    have := min_run c.length (100 - po) ats ty w
    rwa [show ((100 - po : Nat) : Int) = 100 - (po : Int) by omega] at this
  have s2 := str_upto c (min c.length (100 - po)) (Nat.min_le_left _ _)
  have hcz : (⟨c.toArray⟩ : ByteArray).size = c.length := by simp [ByteArray.size]
  have hdz : (⟨d.toArray⟩ : ByteArray).size = d.length := by simp [ByteArray.size]
  have htl : po + (c.take (min c.length (100 - po))).length ≤ 100 := by rw [List.length_take]; omega
  have HT := Lib.hid (show Cf.writeFileT k q i c ⟨ek, en, po⟩ ⟨fn, fk, d, fu⟩ = if c.take (min c.length (100 - po)) = [] then Cf.refuseT k 8 else ⟨⟨k.mods, k.mem, k.nodes.set j ⟨fn, fk, Cf.overT d (c.take (min c.length (100 - po))) po, fu⟩, k.pipes, k.procs.set q ⟨lv, es.set i ⟨ek, en, (po : Int) + (c.take (min c.length (100 - po))).length⟩⟩⟩, ⟨0, (c.take (min c.length (100 - po))).length, []⟩⟩ by
    have e : c.take (min c.length (100 - po)) = c.take (100 - po) := by rw [Nat.min_comm, take_min]
    have e2 : ∀ n : Cf.Node, Cf.procAt (Cf.setNode k j n) q = ⟨lv, es⟩ := fun n => hP.is_
    unfold Cf.writeFileT Cf.setEnd
    simp only [Int.toNat_natCast, hj, e2, e]
    rfl)
  rw [HT.out]
  clear h hP he hN hf hj HT
  generalize c.take (min c.length (100 - po)) = t at *
  generalize min c.length (100 - po) = m at *
  by_cases h0 : t = []
  · rw [if_pos h0]
    subst h0
    go_enter Tryz.func145, Tryz.ntmps145
    go_upto_region 1 with fail
    generalize w.alloc (.cells #[.int .i64 0, .int .i64 0, .string ⟨#[]⟩] tAns) = w0 at *
    have hBe := HK0.out.Be HP.out
    have r2 : w0.cell? ⟨gE, i * 3 + 2, none⟩ = _ := hBe.cell HE.out (j := 2) rfl
    have rf := hBe.open_
    have rl := hBe.lt
    have hBn := HK0.out.Bn HN.out HF.out
    have n2 : w0.cell? ⟨gN, j * 4 + 2, none⟩ = _ := hBn.cell HF.out (j := 2) rfl
    have nf := hBn.open_
    have nl := hBn.lt
    have hne2 : gN ≠ gE := hBn.other hBe (by decide)
    clear hBe hBn
    go_wp2_with fail
    refine (refuse_any 8 _).mono ?_
    rintro e w1 ⟨rfl, hb1⟩
    have HK1 := Lib.hid (HK0.out.below hb1)
    have HX1 := Lib.hid (HX0.out.below hb1)
    simp only [encAn]
    clear hb1 HK0 HX0 
    have hX9 := HX1.out _ _ HXB.out
    have HFin := Lib.hid (fin_ans HK1.out HX1.out HXw.out HXB.out hlow hroom)
    have p0 := hX9.cell 0
    have p1 := hX9.cell 1
    have p2 := hX9.cell 2
    simp only [List.getElem?_cons_zero, List.getElem?_cons_succ] at p0 p1 p2
    have f0 := hX9.open_
    have hl9 := hX9.lt
    clear hX9 HK1 HX1 HXw HXB 
    go_wp2
    refine bodyPost_ret (v := .agg #[.int .i64 8, .int .i64 0, .string ⟨#[]⟩]) (by simp [results, Tryz.results145, go_sem, p0, p1, p2]) rfl ?_
    exact ⟨rfl, by (show ActFin _ _ _ _ k _); with_reducible exact HFin.out _ _ _⟩
  · rw [if_neg h0]
    have hne : ¬ t.isEmpty = true := by simpa using h0
    have htz : (⟨t.toArray⟩ : ByteArray).size = t.length := by simp [ByteArray.size]
    have htp : 0 < t.length := List.length_pos_iff.2 h0
    have hmax : ∀ ats ty w, (Builtin.max_ ats ty #[.int .i64 d.length, .int .i64 ((po : Int) + (t.length : Int))]).run Tryz.prog w = .ok (.int .i64 ((max d.length (po + t.length) : Nat) : Int)) w := by
      intro ats ty w
      have := max_run d.length (po + t.length) ats ty w
      rwa [show ((po + t.length : Nat) : Int) = (po : Int) + (t.length : Int) by omega] at this
    have hnp : ¬ max d.length (po + t.length) = po := by omega
    have hpm : po ≤ max d.length (po + t.length) := by omega
    have hR := over_is d t po
    have hRl : (Cf.overT d t po).length = max d.length (po + t.length) := by rw [← hR]; simp; omega
    have hRn : Cf.overT d t po ≠ [] := by intro h; rw [h] at hRl; simp at hRl; omega
    have hmx : max d.length (po + t.length) ≤ 100 := by omega
    have hL1 : d.length ≤ max d.length (po + t.length) := by omega
    have hL2 : po + t.length ≤ max d.length (po + t.length) := by omega
    generalize max d.length (po + t.length) = mx at *
    have HR := Lib.hid hR
    have HRl := Lib.hid hRl
    have HRn := Lib.hid hRn
    generalize Cf.overT d t po = R at *
    clear h0 hR hRl hRn
    go_enter Tryz.func145, Tryz.ntmps145
    go_upto_region 1 with fail
    generalize w.alloc (.cells #[.int .i64 0, .int .i64 0, .string ⟨#[]⟩] tAns) = w0 at *
    have hBe := HK0.out.Be HP.out
    have r2 : w0.cell? ⟨gE, i * 3 + 2, none⟩ = _ := hBe.cell HE.out (j := 2) rfl
    have rf := hBe.open_
    have rl := hBe.lt
    have hBn := HK0.out.Bn HN.out HF.out
    have n2 : w0.cell? ⟨gN, j * 4 + 2, none⟩ = _ := hBn.cell HF.out (j := 2) rfl
    have nf := hBn.open_
    have nl := hBn.lt
    have hne2 : gN ≠ gE := hBn.other hBe (by decide)
    clear hBe hBn
    obtain ⟨cz, hmk, hcz2⟩ := made_bytes w0 mx hmx
    go_upto_region 6 with fail
    have HM1 := Lib.hid (show Wb (w0.alloc (.cells cz tU8)) w0.heap.size tU8 (bc (List.replicate mx 0)) by
      have := Wb.new w0 tU8 cz.toList
      rw [hcz2] at this
      have e : (bc (List.replicate mx 0)).toArray = cz := by rw [← hcz2]
      rwa [e] at this)
    have hb1 : Below w0.heap.size w0 (w0.alloc (.cells cz tU8)) := (Below.refl _ _).alloc (Nat.le_refl _) _
    clear hmk hcz2 r2 rf rl n2 nf nl hne2
    generalize w0.alloc (.cells cz tU8) = w1 at *
    have HK1 := Lib.hid (HK0.out.below hb1)
    have HX1 := Lib.hid (HX0.out.below hb1)
    have Hb1 := Lib.hid hb1
    clear hb1
    have hBe := HK1.out.Be HP.out
    have r2 : w1.cell? ⟨gE, i * 3 + 2, none⟩ = _ := hBe.cell HE.out (j := 2) rfl
    have rf := hBe.open_
    have rl := hBe.lt
    have hBn := HK1.out.Bn HN.out HF.out
    have n2 : w1.cell? ⟨gN, j * 4 + 2, none⟩ = _ := hBn.cell HF.out (j := 2) rfl
    have nf := hBn.open_
    have nl := hBn.lt
    have hne2 : gN ≠ gE := hBn.other hBe (by decide)
    clear hBe hBn
    have hcp := fun ty => copy_bytes (o := 0) (n := mx) (c := mx) (s := d) HM1.out (by rw [List.length_replicate]; omega) (by omega) ty
    go_upto_region 7 with fail
    have HM2 := Lib.hid (show Wb (w1.setCells w0.heap.size 0 (bc d)) w0.heap.size tU8 (bc (d ++ List.replicate (mx - d.length) 0)) by
      have := Wb.lay (bc d) 0 w1 _ HM1.out (by rw [bc_len, bc_len, List.length_replicate]; omega)
      rw [bc_take, bc_drop, bc_len, ← bc_app, ← bc_app] at this
      simpa using this)
    have Hb2 := Lib.hid (Go.below_setCells (B := w0.heap.size) (Nat.le_refl _) (bc d) 0 w1 Hb1.out)
    clear HK1 HX1 hcp HM1 Hb1 r2 rf rl n2 nf nl hne2
    generalize w1.setCells w0.heap.size 0 (bc d) = w2 at *
    have HK2 := Lib.hid (HK0.out.below Hb2.out)
    have hBe := HK2.out.Be HP.out
    have r2 : w2.cell? ⟨gE, i * 3 + 2, none⟩ = _ := hBe.cell HE.out (j := 2) rfl
    have rf := hBe.open_
    have rl := hBe.lt
    have hBn := HK2.out.Bn HN.out HF.out
    have n2 : w2.cell? ⟨gN, j * 4 + 2, none⟩ = _ := hBn.cell HF.out (j := 2) rfl
    have nf := hBn.open_
    have nl := hBn.lt
    have hne2 : gN ≠ gE := hBn.other hBe (by decide)
    clear hBe hBn
    have hcp := fun ty => copy_bytes (o := po) (n := mx - po) (c := mx - po) (s := t) HM2.out (by rw [List.length_append, List.length_replicate]; omega) (by omega) ty
    go_upto_region 8 with fail
    have HM3 := Lib.hid (show Wb (w2.setCells w0.heap.size po (bc t)) w0.heap.size tU8 (bc R) by
      have := Wb.lay (bc t) po w2 _ HM2.out (by rw [bc_len, bc_len, List.length_append, List.length_replicate]; omega)
      rw [bc_take, bc_drop, bc_len, ← bc_app, ← bc_app, HR.out] at this
      exact this)
    have Hb3 := Lib.hid (Go.below_setCells (B := w0.heap.size) (Nat.le_refl _) (bc t) po w2 Hb2.out)
    clear HK2 hcp HM2 Hb2 r2 rf rl n2 nf nl hne2
    generalize w2.setCells w0.heap.size po (bc t) = w3 at *
    have HK3 := Lib.hid (HK0.out.below Hb3.out)
    have HX3 := Lib.hid (HX0.out.below Hb3.out)
    have hBe := HK3.out.Be HP.out
    have r2 : w3.cell? ⟨gE, i * 3 + 2, none⟩ = _ := hBe.cell HE.out (j := 2) rfl
    have rf := hBe.open_
    have rl := hBe.lt
    have hBn := HK3.out.Bn HN.out HF.out
    have n2 : w3.cell? ⟨gN, j * 4 + 2, none⟩ = _ := hBn.cell HF.out (j := 2) rfl
    have nf := hBn.open_
    have nl := hBn.lt
    have hne2 : gN ≠ gE := hBn.other hBe (by decide)
    clear hBe hBn
    have hcv := bytes_back (wb_byts HM3.out) HRn.out mx
    rw [HRl.out] at hcv
    have HK4 := Lib.hid (HK3.out.putN HN.out (i := j) (j := 2) (x' := ⟨fn, fk, R, fu⟩) (u := .string ⟨R.toArray⟩) HF.out (by omega) rfl)
    have HX4 := Lib.hid (HX3.out.offX (HK3.out.Bn HN.out HF.out).box (by decide) (j * 4 + 2) (.string ⟨R.toArray⟩))
    have HP4 := Lib.hid (HP.out.node (k.nodes.set j ⟨fn, fk, R, fu⟩))
    clear HK0 HX0 HK3 HX3 Hb3 HM3
    go_upto_region 9 with fail
    clear hcv r2 rf rl n2 nf nl hne2
    generalize w3.setCell ⟨gN, j * 4 + 2, none⟩ (.string ⟨R.toArray⟩) = w4 at *
    have hBe := HK4.out.Be HP4.out
    have r2 : w4.cell? ⟨gE, i * 3 + 2, none⟩ = _ := hBe.cell HE.out (j := 2) rfl
    have rf := hBe.open_
    have rl := hBe.lt
    clear hBe
    have HK5 := Lib.hid (HK4.out.putE HP4.out.pv HP4.out.proc rfl (i := i) (j := 2) (e' := ⟨ek, en, (po : Int) + t.length⟩) (u := .int .i64 ((po : Int) + t.length)) HE.out (by omega) rfl)
    have HX5 := Lib.hid (HX4.out.offX (HK4.out.Be HP4.out).box (by decide) (i * 3 + 2) (.int .i64 ((po : Int) + t.length)))
    clear HK4 HX4
    go_upto_region 10 with fail
    clear r2 rf rl
    generalize w4.setCell ⟨gE, i * 3 + 2, none⟩ (.int .i64 ((po : Int) + t.length)) = w5 at *
    have hX9 := HX5.out _ _ HXB.out
    have HFin := Lib.hid (fin_ans HK5.out HX5.out HXw.out HXB.out hlow hroom)
    have p0 := hX9.cell 0
    have p1 := hX9.cell 1
    have p2 := hX9.cell 2
    simp only [List.getElem?_cons_zero, List.getElem?_cons_succ] at p0 p1 p2
    have f0 := hX9.open_
    have hl9 := hX9.lt
    clear hX9 HK5 HX5 HXw HXB 
    go_wp2
    refine bodyPost_ret (v := .agg #[.int .i64 0, .int .i64 t.length, .string ⟨#[]⟩]) (by simp [results, Tryz.results145, go_sem, p0, p1, p2]) rfl ?_
    exact ⟨rfl, by (show ActFin _ _ _ _ ⟨_, _, _, _, _⟩ _); with_reducible exact HFin.out _ _ _⟩
end Go.Proofs.YtnnhhbjbdmgpiaaGreatDoor
