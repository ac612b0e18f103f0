/- Texts of the proof of KernRuns: OpenC. -/
import Derived.Test.YtnnhhbjbdmgpiaaGreatDoorJ21
import Derived.Test.YtnnhhbjbdmgpiaaGreatDoorJ37
set_option linter.unusedSimpArgs false
set_option linter.unusedVariables false
namespace Go.Proofs.YtnnhhbjbdmgpiaaGreatDoor
set_option maxRecDepth 100000
set_option maxHeartbeats 4000000
open Lib (hid)
section
open Go.ChangeShapes Go.WideShapes Go.ChangeAt Go.RowKit Go.Deep
theorem qN:Tryz.prog.cellsOf 30=6:=by kernel_rfl
theorem rP{cs:List Value}(h:cs.length=6):∃a b c d e f,cs=[a,b,c,d,e,f]:=by
 match cs,h with
 | [a,b,c,d,e,f],_=>exact⟨a,b,c,d,e,f,rfl⟩
theorem Iu:Tryz.prog.bytesOf 30=64:=by kernel_rfl
theorem LP:(Tryz.prog.info? 30).map (fun i=>(i.zero,i.size,i.bytes))=some (some (.agg #[.int .i64 0,.int .i64 0,.int .i64 0,.int .i64 0,.string ⟨#[]⟩,.string ⟨#[]⟩]),6,64):=by kernel_rfl
theorem JU:∀x,∀u∈qA x,u.oneCell'=true:=by
 intro x u hu
 simp[qA]at hu
 rcases hu with rfl|rfl|rfl|rfl|rfl|rfl<;>rfl
section
variable {H:Type} {enc:TypeId × Value→H} {w:World} {N:Nat}
theorem uz{fuel:Nat}{cs:List Value}{x:DataW H × List MemPlace}(h:DataW.trod enc Tryz.prog w 0 (fun _=>true) true fuel 30 cs=some x)(hN:Light Tryz.prog 30 N x.1):
  ∃n:Cf.jo,cs=qA n∧n.name.length≤N∧n.data.length≤N:=by
 obtain⟨c0,c1,c2,c3,c4,c5,rfl⟩:=rP ((kC Tryz.underlying30 h).trans qN)
 obtain⟨_,_,h0,_⟩:=open_cell Tryz.underlying30 h hN 0 (ft:=3) (off:=0) rfl intCells rfl
 obtain⟨_,_,h1,_⟩:=open_cell Tryz.underlying30 h hN 1 (ft:=3) (off:=1) rfl intCells rfl
 obtain⟨_,_,h2,_⟩:=open_cell Tryz.underlying30 h hN 2 (ft:=3) (off:=2) rfl intCells rfl
 obtain⟨_,_,h3,_⟩:=open_cell Tryz.underlying30 h hN 3 (ft:=3) (off:=3) rfl intCells rfl
 obtain⟨_,_,h4,l4⟩:=open_cell Tryz.underlying30 h hN 4 (ft:=9) (off:=4) rfl nY rfl
 obtain⟨_,_,h5,l5⟩:=open_cell Tryz.underlying30 h hN 5 (ft:=9) (off:=5) rfl nY rfl
 obtain⟨a,e0,_⟩:=dZ Tryz.underlying3 h0
 obtain⟨b,e1,_⟩:=dZ Tryz.underlying3 h1
 obtain⟨c,e2,_⟩:=dZ Tryz.underlying3 h2
 obtain⟨d,e3,_⟩:=dZ Tryz.underlying3 h3
 obtain⟨s,e4,_,hs⟩:=jy Tryz.underlying9 h4 l4
 obtain⟨u,e5,_,hu⟩:=jy Tryz.underlying9 h5 l5
 simp at e0 e1 e2 e3 e4 e5
 exact⟨⟨a,b,c,d,s,u⟩,by rw[e0,e1,e2,e3,e4,e5];rfl,hs,hu⟩
theorem wH{r:Reach}{b0:Nat}{v:Value}{d:DataW H}{ps:List MemPlace}
  (hv:Value.okWide Tryz.prog w r b0 39 v) (h:DataW.Trod enc Tryz.prog w 0 (fun _=>true) true 39 v d ps) (hN:Light Tryz.prog 39 N d):
  ∃(A:Option Addr) (cap:Nat) (l:List Cf.jo),v = .slice A l.length cap∧l.length*64≤N∧He w A l∧∀x∈l,x.name.length≤N∧x.data.length≤N:=by
 obtain⟨A,len,cap,rfl⟩:=okWide_slice Tryz.underlying39 hv
 obtain⟨fuel,h⟩:=h
 obtain⟨A',cap',l,l',e,_,hl,hR,hE,hF⟩:=open_pair qA (fun x y=>x=y) (fun n=>n.name.length≤N∧n.data.length≤N) Tryz.underlying39 qN (by omega) h hN (fun n cs' y hy hl=>by
  obtain⟨v,hv,hf⟩:=uz hy hl
  exact⟨(v,v),hv,rfl,hf⟩)
 have hsame:l=l':=by
  apply List.ext_getElem?
  intro i
  rcases Nat.lt_or_ge i l.length with hi|hi
  ·rw[List.getElem?_eq_getElem hi,List.getElem?_eq_getElem (by rw[← hE.1];exact hi)]
   exact congrArg some (hE.2 i _ _ (List.getElem?_eq_getElem hi) (List.getElem?_eq_getElem (by rw[← hE.1];exact hi)))
  ·rw[List.getElem?_eq_none hi,List.getElem?_eq_none (by rw[← hE.1];exact hi)]
 subst hsame
 rw[Iu]at hl
 simp[Value.cells]at e
 obtain⟨rfl,rfl,rfl⟩:=e
 exact⟨A,cap,l,rfl,hl,hR,hF⟩
end
end
end Go.Proofs.YtnnhhbjbdmgpiaaGreatDoor
