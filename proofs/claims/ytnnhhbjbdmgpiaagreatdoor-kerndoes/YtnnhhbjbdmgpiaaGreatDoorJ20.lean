/- Texts of the proofs: CopyW. -/
import Derived.Test.YtnnhhbjbdmgpiaaGreatDoorJ18
set_option linter.unusedSimpArgs false
set_option linter.unusedVariables false
namespace Go.Proofs.YtnnhhbjbdmgpiaaGreatDoor
set_option maxRecDepth 100000
set_option maxHeartbeats 4000000
open Lib (hid)
section
open Go.RowKit
section
variable {P:Program} {α:Type} {enc:α→List Value}
theorem tY(w:World)(t ty e:TypeId)(i:TypeInfo)(z:Value)(size bytes:Nat)(ht:P.underlying t=some (.slice e))(hi:P.info? e=some i)(hz:i.zero=some z)
  (hsize:i.size=size) (hby:i.bytes=bytes) (henc:∀x,(enc x).length=size)
  (b:Addr) (A:Option Addr) (c:Nat) (l:List α) (hr:RdS size enc w A l)
  (h63:l.length≤maxLen) (hbytes:l.length*bytes≤140737488355328):
  ∃A' c' w',(Builtin.append_ #[t,t] ty #[.slice (some b) 0 0,.slice A l.length c]).run P w = .ok (.slice A' l.length c') w'∧RdS size enc w' A' l∧Below w.heap.size w w'∧dN w.heap.size A' l:=by
 rcases Nat.eq_zero_or_pos l.length with h0|h0
 ·have hl:l=[]:=List.eq_nil_of_length_eq_zero h0
  subst hl
  refine⟨some b,0,w,?_,.inl rfl,Below.refl _ _,.inl rfl⟩
  cases A with
  | none=>simp[Builtin.append_,run_underlying ht,sizeOf,typeInfo,Builtin.lenOf,Builtin.firstCells,storeCells,hi]
  | some a=>
    have h:=run_loadCells_list (P:=P) w a [] (by simp)
    simp only[List.length_nil]at h
    simp[Builtin.append_,run_underlying ht,sizeOf,typeInfo,Builtin.lenOf,Builtin.firstCells,hi,h,storeCells]
 ·rcases hr with rfl|⟨bb,off,rfl,hbb,hc⟩
  ·simp at h0
  have hR:RdS size enc w (some ⟨bb,off,none⟩) l:=.inr ⟨bb,off,rfl,hbb,hc⟩
  have hfl:(l.flatMap enc).length=l.length*size:=by
   clear h63 hbytes hc hR h0
   induction l with
   | nil=>simp
   | cons x l ih=>rw[List.flatMap_cons,List.length_append,ih,henc,List.length_cons,Nat.add_mul];omega
  have h:=run_append_grow (P:=P) w t ty e i z ht hi hz b 0 0 [] (by simp) (by simp) ⟨bb,off,none⟩ l.length c (l.flatMap enc) (by rw[hsize];exact hfl) (hR.flat henc) (by omega) (by unfold maxLen at h63;omega) (by rw[hby];exact growslice_fits (by omega) (by rw[Nat.zero_add];exact hbytes))
  rw[Nat.zero_add]at h
  refine⟨_,_,_,h,.inr ⟨w.heap.size,0,rfl,by simp,fun k x hx j v hv=>?_⟩,(Below.refl _ _).drew.alloc (Nat.le_refl _) _,.inr ⟨_,_,rfl,Nat.le_refl _⟩⟩
  have h1:=ul size enc henc l k x j v hx hv
  have hlt:=(List.getElem?_eq_some_iff.1 h1).1
  rw[show 0+k*size+j=k*size+j by omega,World.cell?]
  rw[show w.heap.size=w.drew.heap.size from rfl,heap_alloc_new w.drew _]
  show(_:Array Value)[k*size+j]?=some v
  rw[Array.getElem?_append_left (by simpa using hlt),← Array.getElem?_toList]
  simpa using h1
end
theorem DN:(Tryz.prog.info? 3).map (fun i=>(i.zero,i.size,i.bytes))=some (some (.int .i64 0),1,8):=by kernel_rfl
theorem aA{a w:World}(h:Below a.heap.size a w)(o:Obj):Below a.heap.size a (w.alloc o):=h.alloc h.size o
theorem aB{a w:World}(h:Below a.heap.size a w):Below a.heap.size a w.drew:=h.drew
theorem bY{a w w':World}(h:Below a.heap.size a w)(k:Below w.heap.size w w'):Below a.heap.size a w':=h.trans (k.mono h.size)
theorem ji{a w:World}(h:Below a.heap.size a w):a.heap.size≤w.heap.size:=h.size
end
end Go.Proofs.YtnnhhbjbdmgpiaaGreatDoor
