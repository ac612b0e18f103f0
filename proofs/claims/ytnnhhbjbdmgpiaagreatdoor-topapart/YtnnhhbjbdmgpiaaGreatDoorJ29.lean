/- Texts of the proofs: ActX. -/
import Derived.Test.YtnnhhbjbdmgpiaaGreatDoorJ28
import Derived.Test.YtnnhhbjbdmgpiaaGreatDoorJ07
set_option linter.unusedSimpArgs false
set_option linter.unusedVariables false
/- Walks of chapter 5: the program's openFile. (tools/gen/actx.py) -/
namespace Go.Proofs.YtnnhhbjbdmgpiaaGreatDoor
set_option maxRecDepth 100000
open Go.RowKit
section
variable {B : Nat} {wb : World} {g : Nat} {a : KA} {xs : List MV} {ps : List PV} {k : Cf.Kern} {w : World}
theorem KSt.putEnd (h : KSt B wb g a xs ps k w) {q i : Nat} {x : PV} {p : Cf.Proc} (hx : ps[q]? = some x) (hp : k.procs[q]? = some p) {gE : Nat} (ha : x.A = some ⟨gE, 0, none⟩) {e : Cf.End} (e' : Cf.End) (he : p.ends[i]? = some e) :
  KSt B wb g a xs ps ⟨k.mods, k.mem, k.nodes, k.pipes, k.procs.set q ⟨p.live, p.ends.set i e'⟩⟩ (((w.setCell ⟨gE, i * 3, none⟩ (.int .i64 e'.kind)).setCell ⟨gE, i * 3 + 1, none⟩ (.int .i64 e'.node)).setCell ⟨gE, i * 3 + 2, none⟩ (.int .i64 e'.pos)) := by
 have hq := (List.getElem?_eq_some_iff.1 hp).1
 have hi := (List.getElem?_eq_some_iff.1 he).1
 have atP : ∀ (l : List Cf.Proc) (y : Cf.Proc), l.length = k.procs.length → (l.set q y)[q]? = some y := fun l y hl => by rw [List.getElem?_set, if_pos rfl, if_pos (by omega)]
 have atE : ∀ (l : List Cf.End) (y : Cf.End), l.length = p.ends.length → (l.set i y)[i]? = some y := fun l y hl => by rw [List.getElem?_set, if_pos rfl, if_pos (by omega)]
 have h1 := h.putE hx hp ha (j := 0) (e' := ⟨e'.kind, e.node, e.pos⟩) (u := .int .i64 e'.kind) he (by omega) rfl
 have h2 := h1.putE hx (atP _ _ rfl) ha (j := 1) (e' := ⟨e'.kind, e'.node, e.pos⟩) (u := .int .i64 e'.node) (atE _ _ rfl) (by omega) rfl
 have h3 := h2.putE hx (atP _ _ (by simp)) ha (j := 2) (e' := ⟨e'.kind, e'.node, e'.pos⟩) (u := .int .i64 e'.pos) (atE _ _ (by simp)) (by omega) rfl
 simp only [List.set_set] at h3
 exact h3
structure PAt (a : KA) (ps : List PV) (k : Cf.Kern) (q gQ gE ce : Nat) (lv : Bool) (es : List Cf.End) : Prop where
 Q : a.Q = some ⟨gQ, 0, none⟩
 pv : ps[q]? = some ⟨lv, some ⟨gE, 0, none⟩, 6, ce⟩
 proc : k.procs[q]? = some ⟨lv, es⟩
 len : es.length = 6
 is_ : Cf.procAt k q = ⟨lv, es⟩
 cap : 6 ≤ ce
theorem KSt.pat (h : KSt B wb g a xs ps k w) (hG : Cf.Pre k) {q gQ : Nat} (hq : q < 4) (hQ : a.Q = some ⟨gQ, 0, none⟩) : ∃ gE ce lv es, PAt a ps k q gQ gE ce lv es := by
 have hl : q < ps.length := by rw [h.own.ends.1, hG.procsL]; exact hq
 have hx : ps[q]? = some ps[q] := List.getElem?_eq_getElem hl
 obtain ⟨e1, e2, e3, e4⟩ := h.own.ends.2 q _ _ hx (hG.at_ hq)
 have h6 := hG.ends _ (hG.mem_ hq)
 obtain ⟨gE, hE, _, _, _⟩ := e3.at_ (i := 0) (List.getElem?_eq_getElem (by rw [h6]; omega))
 rw [h6] at e2
 refine ⟨gE, ps[q].ce, (Cf.procAt k q).live, (Cf.procAt k q).ends, hQ, ?_, hG.at_ hq, h6, rfl, by rw [e2] at e4; exact e4⟩
 rw [hx, ← e1, ← hE, ← e2]
theorem KSt.Bp (h : KSt B wb g a xs ps k w) {q gQ gE ce : Nat} {lv : Bool} {es : List Cf.End} (hP : PAt a ps k q gQ gE ce lv es) : Bk 2 encPv w gQ tProc ps := by
 obtain ⟨g', h1, _, _, h2⟩ := h.own.procs.at_ hP.pv
 rw [hP.Q] at h1
 cases h1
 exact h2
theorem KSt.Be (h : KSt B wb g a xs ps k w) {q gQ gE ce : Nat} {lv : Bool} {es : List Cf.End} (hP : PAt a ps k q gQ gE ce lv es) : Bk 3 encEn w gE tEnd es := by
 obtain ⟨_, _, e3, _⟩ := h.own.ends.2 q _ _ hP.pv hP.proc
 obtain ⟨g', h1, _, _, h2⟩ := e3.at_ (i := 0) (List.getElem?_eq_getElem (by show 0 < es.length; rw [hP.len]; omega))
 cases h1
 exact h2
theorem KSt.p1 (h : KSt B wb g a xs ps k w) {q gQ gE ce : Nat} {lv : Bool} {es : List Cf.End} (hP : PAt a ps k q gQ gE ce lv es) : w.cell? ⟨gQ, q * 2 + 1, none⟩ = some (.slice (some ⟨gE, 0, none⟩) 6 ce) := (h.Bp hP).cell hP.pv rfl
theorem KSt.Bn (h : KSt B wb g a xs ps k w) {gN i : Nat} {x : Cf.Node} (hN : a.N = some ⟨gN, 0, none⟩) (hx : k.nodes[i]? = some x) : Bk 4 encNd w gN tNode k.nodes := by
 obtain ⟨g', h1, _, _, h2⟩ := h.own.nodes.at_ hx
 rw [hN] at h1
 cases h1
 exact h2
theorem KSt.Bs (h : KSt B wb g a xs ps k w) {gS i : Nat} {x : List UInt8} (hS : a.S = some ⟨gS, 0, none⟩) (hx : k.pipes[i]? = some x) : Bk 1 encSt w gS tStr k.pipes := by
 obtain ⟨g', h1, _, _, h2⟩ := h.own.pipes.at_ hx
 rw [hS] at h1
 cases h1
 exact h2
theorem Bk.box {α : Type} {sz : Nat} {enc : α → List Value} {w : World} {g : Nat} {t : TypeId} {l : List α} (h : Bk sz enc w g t l) : ∃ ds, Wb w g t ds := h.2.elim fun q hq => ⟨_, hq⟩
end
set_option maxHeartbeats 1000000 in
theorem openFile_any {B : Nat} {wb : World} {g : Nat} {a : KA} {xs : List MV} {ps : List PV} (k : Cf.Kern) (q gQ : Nat) (w : World) (name : List UInt8) (h : KSt B wb g a xs ps k w) (hG : Cf.Good k) (hq : q < 4) (hQ : a.Q = some ⟨gQ, 0, none⟩) (hnl : name.length ≤ maxLen) :
  Calls Tryz.prog 111 #[.pointer (some ⟨g, 0, none⟩), .pointer (some ⟨gQ, q * 2, none⟩), .string ⟨name.toArray⟩] w (ActPost B wb g w (Cf.openT k q name)) := by
 obtain ⟨A, ca, M, cm, N, cn, S, cs, Q, cq⟩ := a
 simp only at hQ
 subst hQ
 obtain ⟨gE, ce, lv, es, hP⟩ := h.pat hG.toPre hq rfl
 have hb0 : ∀ o : Obj, Below w.heap.size w (w.alloc o) := fun o => (Below.refl _ _).alloc (Nat.le_refl _) _
 have HXB := Lib.hid (Wb.new w tAns [.int .i64 0, .int .i64 0, .string ⟨#[]⟩])
 have HXw := Lib.hid (KpA.alloc w (.cells #[.int .i64 0, .int .i64 0, .string ⟨#[]⟩] tAns))
 have HX0 := Lib.hid (KpA.refl (w.alloc (.cells #[.int .i64 0, .int .i64 0, .string ⟨#[]⟩] tAns)))
 have HK0 := Lib.hid (h.below (hb0 (.cells #[.int .i64 0, .int .i64 0, .string ⟨#[]⟩] tAns)))
 have hroom := h.room
 have hlow : w.heap.size ≤ w.heap.size := Nat.le_refl _
 have HG := Lib.hid hG
 have HP := Lib.hid hP
 have HNm := Lib.hid (fun W => pname_any name hnl W)
 have HFf := Lib.hid (fun W (hW : KSt B wb g ⟨A, ca, M, cm, N, cn, S, cs, some ⟨gQ, 0, none⟩, cq⟩ xs ps k W) => findFile_any k _ g name W hW.ptr (lim_max (by rw [hG.nodesL]; omega)))
 have HFr := Lib.hid (fun W (hW : KSt B wb g ⟨A, ca, M, cm, N, cn, S, cs, some ⟨gQ, 0, none⟩, cq⟩ xs ps k W) => show Calls Tryz.prog 137 #[.slice (some ⟨gE, 0, none⟩) 6 ce] W (fun e w' => e = .returned (.int .i64 (Cf.idxT Cf.freeB es)) ∧ Below W.heap.size W w') by
  have := findFree_any es (some ⟨gE, 0, none⟩) ce W (hW.Be hP).rd (by rw [hP.len]; unfold maxLen; omega)
  rw [hP.len] at this
  exact this)
 have HT := Lib.hid (show Cf.openT k q name = if Cf.nameB name = false then Cf.refuseT k 4 else if Cf.idxT (Cf.namedB name) k.nodes < 0 then Cf.refuseT k 6 else if Cf.idxT Cf.freeB es < 0 then Cf.refuseT k 8
  else ⟨⟨k.mods, k.mem, k.nodes, k.pipes, k.procs.set q ⟨lv, es.set (Cf.idxT Cf.freeB es).toNat ⟨1, Cf.idxT (Cf.namedB name) k.nodes, 0⟩⟩⟩, ⟨0, Cf.idxT Cf.freeB es, []⟩⟩ by
  unfold Cf.openT Cf.setEnd Cf.setProc
  rw [hP.is_])
 have HI := Lib.hid (Cf.idx_cases Cf.freeB es)
 clear h hG hP hb0 hnl
 generalize Cf.nameB name = b at *
 generalize Cf.idxT (Cf.namedB name) k.nodes = z1 at *
 generalize Cf.idxT Cf.freeB es = z2 at *
 cases b
 ·rw [HT.out, if_pos rfl]
  clear HT HFf HFr HI HG HP
  go_enter Tryz.func111, Tryz.ntmps111
  go_wp2_with fail
  refine (HNm.out _).mono ?_
  rintro e w1 ⟨rfl, hb1⟩
  have HK1 := Lib.hid (HK0.out.below hb1)
  have HX1 := Lib.hid (HX0.out.below hb1)
  clear hb1 HK0 HX0 HNm
  go_wp2_with fail
  refine (refuse_any 4 _).mono ?_
  rintro e w2 ⟨rfl, hb2⟩
  have HK2 := Lib.hid (HK1.out.below hb2)
  have HX2 := Lib.hid (HX1.out.below hb2)
  simp only [encAn]
  clear hb2 HK1 HX1
  have hX9 := HX2.out _ _ HXB.out
  have HFin := Lib.hid (fin_ans HK2.out HX2.out HXw.out HXB.out hlow hroom)
  have p0 := hX9.cell 0
  have p1 := hX9.cell 1
  have p2 := hX9.cell 2
  simp only [List.getElem?_cons_zero, List.getElem?_cons_succ] at p0 p1 p2
  have f0 := hX9.open_
  have hl9 := hX9.lt
  clear hX9 HK2 HX2 HXw HXB
  go_wp2
  refine bodyPost_ret (v := .agg #[.int .i64 4, .int .i64 0, .string ⟨#[]⟩]) (by simp [results, Tryz.results111, go_sem, p0, p1, p2]) rfl ?_
  exact ⟨rfl, by (show ActFin _ _ _ _ k _); with_reducible exact HFin.out _ _ _⟩
 ·rw [HT.out, if_neg (by decide)]
  by_cases hz1 : z1 < 0
  ·rw [if_pos hz1]
   clear HT HFr HI HG HP
   go_enter Tryz.func111, Tryz.ntmps111
   go_wp2_with fail
   refine (HNm.out _).mono ?_
   rintro e w1 ⟨rfl, hb1⟩
   have HK1 := Lib.hid (HK0.out.below hb1)
   have HX1 := Lib.hid (HX0.out.below hb1)
   clear hb1 HK0 HX0 HNm
   go_wp2_with fail
   refine (HFf.out _ HK1.out).mono ?_
   rintro e w2 ⟨rfl, hb2⟩
   have HK2 := Lib.hid (HK1.out.below hb2)
   have HX2 := Lib.hid (HX1.out.below hb2)
   clear hb2 HK1 HX1 HFf
   go_wp2_with fail
   refine (refuse_any 6 _).mono ?_
   rintro e w3 ⟨rfl, hb3⟩
   have HK3 := Lib.hid (HK2.out.below hb3)
   have HX3 := Lib.hid (HX2.out.below hb3)
   simp only [encAn]
   clear hb3 HK2 HX2
   have hX9 := HX3.out _ _ HXB.out
   have HFin := Lib.hid (fin_ans HK3.out HX3.out HXw.out HXB.out hlow hroom)
   have p0 := hX9.cell 0
   have p1 := hX9.cell 1
   have p2 := hX9.cell 2
   simp only [List.getElem?_cons_zero, List.getElem?_cons_succ] at p0 p1 p2
   have f0 := hX9.open_
   have hl9 := hX9.lt
   clear hX9 HK3 HX3 HXw HXB
   go_wp2
   refine bodyPost_ret (v := .agg #[.int .i64 6, .int .i64 0, .string ⟨#[]⟩]) (by simp [results, Tryz.results111, go_sem, p0, p1, p2]) rfl ?_
   exact ⟨rfl, by (show ActFin _ _ _ _ k _); with_reducible exact HFin.out _ _ _⟩
  ·rw [if_neg hz1]
   by_cases hz2 : z2 < 0
   ·rw [if_pos hz2]
    clear HT HI HG
    go_enter Tryz.func111, Tryz.ntmps111
    go_wp2_with fail
    refine (HNm.out _).mono ?_
    rintro e w1 ⟨rfl, hb1⟩
    have HK1 := Lib.hid (HK0.out.below hb1)
    have HX1 := Lib.hid (HX0.out.below hb1)
    clear hb1 HK0 HX0 HNm
    go_wp2_with fail
    refine (HFf.out _ HK1.out).mono ?_
    rintro e w2 ⟨rfl, hb2⟩
    have HK2 := Lib.hid (HK1.out.below hb2)
    have HX2 := Lib.hid (HX1.out.below hb2)
    clear hb2 HK1 HX1 HFf
    have q1 := HK2.out.p1 HP.out
    have ql := (HK2.out.Bp HP.out).lt
    go_wp2_with fail
    refine (HFr.out _ HK2.out).mono ?_
    rintro e w3 ⟨rfl, hb3⟩
    have HK3 := Lib.hid (HK2.out.below hb3)
    have HX3 := Lib.hid (HX2.out.below hb3)
    clear hb3 HK2 HX2 HFr q1 ql
    go_wp2_with fail
    refine (refuse_any 8 _).mono ?_
    rintro e w4 ⟨rfl, hb4⟩
    have HK4 := Lib.hid (HK3.out.below hb4)
    have HX4 := Lib.hid (HX3.out.below hb4)
    simp only [encAn]
    clear hb4 HK3 HX3 HP
    have hX9 := HX4.out _ _ HXB.out
    have HFin := Lib.hid (fin_ans HK4.out HX4.out HXw.out HXB.out hlow hroom)
    have p0 := hX9.cell 0
    have p1 := hX9.cell 1
    have p2 := hX9.cell 2
    simp only [List.getElem?_cons_zero, List.getElem?_cons_succ] at p0 p1 p2
    have f0 := hX9.open_
    have hl9 := hX9.lt
    clear hX9 HK4 HX4 HXw HXB
    go_wp2
    refine bodyPost_ret (v := .agg #[.int .i64 8, .int .i64 0, .string ⟨#[]⟩]) (by simp [results, Tryz.results111, go_sem, p0, p1, p2]) rfl ?_
    exact ⟨rfl, by (show ActFin _ _ _ _ k _); with_reducible exact HFin.out _ _ _⟩
   ·rw [if_neg hz2]
    obtain ⟨_, hzz⟩ | ⟨i, x, hzi, hxi, hfr, _⟩ := HI.out
    ·omega
    have hi6 : i < 6 := by rw [← HP.out.len]; exact (List.getElem?_eq_some_iff.1 hxi).1
    have HXi := Lib.hid hxi
    subst hzi
    rw [Int.toNat_natCast]
    clear HT HI HG hxi hfr hz2
    go_enter Tryz.func111, Tryz.ntmps111
    go_wp2_with fail
    refine (HNm.out _).mono ?_
    rintro e w1 ⟨rfl, hb1⟩
    have HK1 := Lib.hid (HK0.out.below hb1)
    have HX1 := Lib.hid (HX0.out.below hb1)
    clear hb1 HK0 HX0 HNm
    go_wp2_with fail
    refine (HFf.out _ HK1.out).mono ?_
    rintro e w2 ⟨rfl, hb2⟩
    have HK2 := Lib.hid (HK1.out.below hb2)
    have HX2 := Lib.hid (HX1.out.below hb2)
    clear hb2 HK1 HX1 HFf
    have q1 := HK2.out.p1 HP.out
    have ql := (HK2.out.Bp HP.out).lt
    go_wp2_with fail
    refine (HFr.out _ HK2.out).mono ?_
    rintro e w3 ⟨rfl, hb3⟩
    have HK3 := Lib.hid (HK2.out.below hb3)
    have HX3 := Lib.hid (HX2.out.below hb3)
    clear hb3 HK2 HX2 HFr q1 ql
    have q1 := HK3.out.p1 HP.out
    have ql := (HK3.out.Bp HP.out).lt
    have hBe := HK3.out.Be HP.out
    have r0 : w3.cell? ⟨gE, i * 3, none⟩ = _ := hBe.cell HXi.out (j := 0) rfl
    have r1 : w3.cell? ⟨gE, i * 3 + 1, none⟩ = _ := hBe.cell HXi.out (j := 1) rfl
    have r2 : w3.cell? ⟨gE, i * 3 + 2, none⟩ = _ := hBe.cell HXi.out (j := 2) rfl
    have rf := hBe.open_
    have rl := hBe.lt
    have HK4 := Lib.hid (HK3.out.putEnd HP.out.pv HP.out.proc rfl ⟨1, z1, 0⟩ HXi.out)
    have HX4 := Lib.hid (HX3.out.offX3 hBe.box (by decide) (i * 3) (i * 3 + 1) (i * 3 + 2) (.int .i64 1) (.int .i64 z1) (.int .i64 0))
    have HX3' := HX3.out _ _ HXB.out
    have s0 := HX3'.cell 0
    have s1 := HX3'.cell 1
    have s2 := HX3'.cell 2
    simp only [List.getElem?_cons_zero, List.getElem?_cons_succ] at s0 s1 s2
    have sf := HX3'.open_
    have sl := HX3'.lt
    have hne : gE ≠ w.heap.size := Ne.symm (hBe.box.elim fun ds hd => HX3'.other hd (by decide))
    clear hBe HX3' HK3 HX3
    have hX9 := HX4.out _ _ HXB.out
    have HFin := Lib.hid (fin_ans HK4.out HX4.out HXw.out HXB.out hlow hroom)
    have p0 := hX9.cell 0
    have p1 := hX9.cell 1
    have p2 := hX9.cell 2
    simp only [List.getElem?_cons_zero, List.getElem?_cons_succ] at p0 p1 p2
    have f0 := hX9.open_
    have hl9 := hX9.lt
    clear hX9 HK4 HX4 HXw HXB
    go_wp2
    refine bodyPost_ret (v := .agg #[.int .i64 0, .int .i64 i, .string ⟨#[]⟩]) (by simp [results, Tryz.results111, go_sem, p0, p1, p2]) rfl ?_
    exact ⟨rfl, by (show ActFin _ _ _ _ ⟨_, _, _, _, _⟩ _); with_reducible exact HFin.out _ _ _⟩
end Go.Proofs.YtnnhhbjbdmgpiaaGreatDoor
