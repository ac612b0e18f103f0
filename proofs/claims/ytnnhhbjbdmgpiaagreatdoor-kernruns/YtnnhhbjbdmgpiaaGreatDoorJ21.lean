/- Texts of the proofs: OpenK. -/
import Derived.Test.YtnnhhbjbdmgpiaaGreatDoorJ17
import Derived.Test.YtnnhhbjbdmgpiaaGreatDoorJ06
set_option linter.unusedSimpArgs false
set_option linter.unusedVariables false
namespace Go.Proofs.YtnnhhbjbdmgpiaaGreatDoor
set_option maxRecDepth 100000
set_option maxHeartbeats 4000000
open Lib (hid)
section
open Go.ChangeShapes Go.WideShapes Go.ChangeAt Go.RowKit Go.Deep
theorem zg{cs:List Value}(h:cs.length=2):∃a b,cs=[a,b]:=by
 match cs,h with
 | [a,b],_=>exact⟨a,b,rfl⟩
theorem Em:Tryz.prog.cellsOf 28=5:=by kernel_rfl
theorem yt:Tryz.prog.cellsOf 57=4:=by kernel_rfl
theorem Ar:Tryz.prog.cellsOf 72=3:=by kernel_rfl
theorem yu:Tryz.prog.cellsOf 69=2:=by kernel_rfl
theorem Jy:Tryz.prog.cellsOf 4=1:=by kernel_rfl
theorem J7:Tryz.prog.cellsOf 22=1:=by kernel_rfl
theorem G5:Tryz.prog.cellsOf 24=1:=by kernel_rfl
theorem Ht:Tryz.prog.cellsOf 25=1:=by kernel_rfl
theorem Gl:Tryz.prog.cellsOf 26=1:=by kernel_rfl
theorem Jt:Tryz.prog.cellsOf 67=1:=by kernel_rfl
theorem Iy:Tryz.prog.bytesOf 79=64:=by kernel_rfl
theorem EM:Tryz.prog.bytesOf 57=48:=by kernel_rfl
theorem IY:Tryz.prog.bytesOf 9=16:=by kernel_rfl
theorem EG:Tryz.prog.bytesOf 69=32:=by kernel_rfl
theorem I4:Tryz.prog.bytesOf 72=24:=by kernel_rfl
section
variable {H:Type} {enc:TypeId × Value→H} {w:World} {N:Nat}
theorem open_bool{fuel:Nat}{cs:List Value}{x:DataW H × List MemPlace}(h:DataW.trod enc Tryz.prog w 0 (fun _=>true) true fuel 4 cs=some x):∃b:Bool,cs=[.bool b]:=by
 obtain⟨b,rfl,_⟩:=DataW.trod_bool Tryz.underlying4 h
 exact⟨b,rfl⟩
theorem open_node{fuel:Nat}{cs:List Value}{x:DataW H × List MemPlace}(h:DataW.trod enc Tryz.prog w 0 (fun _=>true) true fuel 57 cs=some x)(hN:Light Tryz.prog 57 N x.1):
  ∃n:Cf.Node,cs=dA n∧n.name.length≤N∧n.data.length≤N:=by
 obtain⟨c0,c1,c2,c3,rfl⟩:=DJ ((kC Tryz.underlying57 h).trans yt)
 obtain⟨_,_,h0,l0⟩:=open_cell Tryz.underlying57 h hN 0 (ft:=9) (off:=0) rfl nY rfl
 obtain⟨_,_,h1,_⟩:=open_cell Tryz.underlying57 h hN 1 (ft:=3) (off:=1) rfl intCells rfl
 obtain⟨_,_,h2,l2⟩:=open_cell Tryz.underlying57 h hN 2 (ft:=9) (off:=2) rfl nY rfl
 obtain⟨_,_,h3,_⟩:=open_cell Tryz.underlying57 h hN 3 (ft:=3) (off:=3) rfl intCells rfl
 obtain⟨n,e0,_,hn⟩:=jy Tryz.underlying9 h0 l0
 obtain⟨kd,e1,_⟩:=dZ Tryz.underlying3 h1
 obtain⟨d,e2,_,hd⟩:=jy Tryz.underlying9 h2 l2
 obtain⟨un,e3,_⟩:=dZ Tryz.underlying3 h3
 simp at e0 e1 e2 e3
 exact⟨⟨n,kd,d,un⟩,by rw[e0,e1,e2,e3];rfl,hn,hd⟩
theorem Gv{fuel:Nat}{cs:List Value}{x:DataW H × List MemPlace}(h:DataW.trod enc Tryz.prog w 0 (fun _=>true) true fuel 72 cs=some x)(hN:Light Tryz.prog 72 N x.1):∃n:Cf.End,cs=bH n:=by
 obtain⟨c0,c1,c2,rfl⟩:=AV ((kC Tryz.underlying72 h).trans Ar)
 obtain⟨_,_,h0,_⟩:=open_cell Tryz.underlying72 h hN 0 (ft:=3) (off:=0) rfl intCells rfl
 obtain⟨_,_,h1,_⟩:=open_cell Tryz.underlying72 h hN 1 (ft:=3) (off:=1) rfl intCells rfl
 obtain⟨_,_,h2,_⟩:=open_cell Tryz.underlying72 h hN 2 (ft:=3) (off:=2) rfl intCells rfl
 obtain⟨a,e0,_⟩:=dZ Tryz.underlying3 h0
 obtain⟨b,e1,_⟩:=dZ Tryz.underlying3 h1
 obtain⟨c,e2,_⟩:=dZ Tryz.underlying3 h2
 simp at e0 e1 e2
 exact⟨⟨a,b,c⟩,by rw[e0,e1,e2];rfl⟩
theorem Ff{fuel:Nat}{cs:List Value}{x:DataW H × List MemPlace}(h:DataW.trod enc Tryz.prog w 0 (fun _=>true) true fuel 69 cs=some x)(hN:Light Tryz.prog 69 N x.1):
  ∃(v:PV × Cf.dR),cs=bG v.1∧IsP w v.1 v.2∧v.2.ends.length*24≤N:=by
 obtain⟨c0,c1,rfl⟩:=zg ((kC Tryz.underlying69 h).trans yu)
 obtain⟨_,_,h0,_⟩:=open_cell Tryz.underlying69 h hN 0 (ft:=4) (off:=0) rfl Jy rfl
 obtain⟨_,_,h1,l1⟩:=open_cell Tryz.underlying69 h hN 1 (ft:=67) (off:=1) rfl Jt rfl
 obtain⟨b,e0⟩:=open_bool h0
 obtain⟨A,ca,l,e1,_,hl2,hR⟩:=yG bH Tryz.underlying67 Ar (by omega) h1 l1 (fun n cs' y hy hl=>Gv hy hl)
 rw[I4]at hl2
 simp at e0 e1
 exact⟨(⟨b,A,l.length,ca⟩,⟨b,l⟩),by rw[e0,e1];rfl,⟨rfl,rfl,hR⟩,hl2⟩
theorem Aw{fuel:Nat}{cs:List Value}{x:DataW H × List MemPlace}(h:DataW.trod enc Tryz.prog w 0 (fun _=>true) true fuel 79 cs=some x)(hN:Light Tryz.prog 79 N x.1):
  ∃(v:MV × Cf.Mod),cs=eG v.1∧IsM w v.1 v.2∧v.2.name.length≤N∧v.2.code.length*32≤N∧v.2.data.length*8≤N:=by
 obtain⟨n,l,d,A,ca,B,cb,rfl,hC,hD,⟨_,hn⟩,⟨_,hl⟩,⟨_,hd⟩⟩:=Gj h hN
 exact⟨(⟨n,A,l.length,ca,B,d.length,cb⟩,⟨n,l,d⟩),rfl,⟨rfl,rfl,rfl,hC,hD⟩,hn,hl,hd⟩
theorem open_pair{α β:Type}{sz:Nat}(en:α→List Value)(R:α→β→Prop)(F:β→Prop){t e:TypeId}{fuel:Nat}{cs:List Value}{x:DataW H × List MemPlace}(ht:Tryz.prog.underlying t=some (.slice e))(hsz:Tryz.prog.cellsOf e=sz)(hpos:0<sz)
  (h:DataW.trod enc Tryz.prog w 0 (fun _=>true) true fuel t cs=some x) (hN:Light Tryz.prog t N x.1)
  (hel:∀n cs' (y:DataW H × List MemPlace),DataW.trod enc Tryz.prog w 0 (fun _=>true) true n e cs'=some y→Light Tryz.prog e N y.1→∃v:α × β,cs'=en v.1∧R v.1 v.2∧F v.2):
  ∃(A:Option Addr) (cap:Nat) (xs:List α) (ys:List β),cs=[.slice A ys.length cap]∧ys.length≤cap∧ys.length*Tryz.prog.bytesOf e≤N∧RdS sz en w A xs∧Each R xs ys∧∀y∈ys,F y:=by
 obtain⟨A,cap,l,h1,h2,h3,h4⟩:=open_list (fun(v:α × β) cs'=>cs'=en v.1∧R v.1 v.2∧F v.2) ht (by omega) h hN hel
 refine⟨A,cap,l.map Prod.fst,l.map Prod.snd,by rw[List.length_map];exact h1,by rw[List.length_map];exact h2.2,by rw[List.length_map];exact h3,?_,?_,?_⟩
 ·rcases h4 with rfl|⟨b,off,hA,hb,hc⟩
  ·exact .inl rfl
  ·refine .inr ⟨b,off,hA,hb,fun k a ha j u hu=>?_⟩
   rw[List.getElem?_map,Option.map_eq_some_iff]at ha
   obtain⟨v,hv,rfl⟩:=ha
   obtain⟨cs',⟨rfl,_⟩,_,hcell⟩:=hc k v hv
   have:=hcell j u hu
   rwa [hsz]at this
 ·refine⟨by simp,fun i a b ha hb=>?_⟩
  rw[List.getElem?_map,Option.map_eq_some_iff]at ha hb
  obtain⟨v,hv,rfl⟩:=ha
  obtain⟨v',hv',rfl⟩:=hb
  rw[hv]at hv'
  cases hv'
  rcases h4 with rfl|⟨b,off,hA,hb,hc⟩
  ·simp at hv
  ·obtain⟨_,⟨_,hr,_⟩,_⟩:=hc i v hv
   exact hr
 ·intro y hy
  obtain⟨v,hv,rfl⟩:=List.mem_map.1 hy
  obtain⟨i,hi⟩:=List.mem_iff_getElem?.1 hv
  rcases h4 with rfl|⟨b,off,hA,hb,hc⟩
  ·simp at hi
  ·obtain⟨_,⟨_,_,hf⟩,_⟩:=hc i v hi
   exact hf
theorem Es{fuel:Nat}{cs:List Value}{x:DataW H × List MemPlace}(hNb:N≤big)(h:DataW.trod enc Tryz.prog w 0 (fun _=>true) true fuel 28 cs=some x)(hN:Light Tryz.prog 28 N x.1):
  ∃a k,cs=af a k∧KRd w a k∧kU k:=by
 obtain⟨c0,c1,c2,c3,c4,rfl⟩:=uo ((kC Tryz.underlying28 h).trans Em)
 obtain⟨_,_,h0,l0⟩:=open_cell Tryz.underlying28 h hN 0 (ft:=22) (off:=0) rfl J7 rfl
 obtain⟨_,_,h1,l1⟩:=open_cell Tryz.underlying28 h hN 1 (ft:=23) (off:=1) rfl D5 rfl
 obtain⟨_,_,h2,l2⟩:=open_cell Tryz.underlying28 h hN 2 (ft:=24) (off:=2) rfl G5 rfl
 obtain⟨_,_,h3,l3⟩:=open_cell Tryz.underlying28 h hN 3 (ft:=25) (off:=3) rfl Ht rfl
 obtain⟨_,_,h4,l4⟩:=open_cell Tryz.underlying28 h hN 4 (ft:=26) (off:=4) rfl Gl rfl
 obtain⟨A0,a0,xs,ms,e0,k0,b0,hR0,hE0,hF0⟩:=open_pair eG (IsM w) (fun m=>m.name.length≤N∧m.code.length*32≤N∧m.data.length*8≤N) Tryz.underlying22 zX (by omega) h0 l0 (fun n cs' y hy hl=>Aw hy hl)
 obtain⟨A1,a1,me,e1,_,b1,hR1⟩:=qE Tryz.underlying23 Tryz.underlying3 intCells h1 l1
 obtain⟨A2,a2,nd,nd',e2,_,b2,hR2,hE2,hF2⟩:=open_pair dA (fun x y=>x=y) (fun n=>n.name.length≤N∧n.data.length≤N) Tryz.underlying24 yt (by omega) h2 l2 (fun n cs' y hy hl=>by
  obtain⟨v,hv,hf⟩:=open_node hy hl
  exact⟨(v,v),hv,rfl,hf⟩)
 obtain⟨A3,a3,ss,ss',e3,_,b3,hR3,hE3,hF3⟩:=open_pair iC (fun x y=>x=y) (fun n=>n.length≤N) Tryz.underlying25 nY (by omega) h3 l3 (fun n cs' y hy hl=>by
  obtain⟨v,hv,_,hf⟩:=jy Tryz.underlying9 hy hl
  exact⟨(v,v),hv,rfl,hf⟩)
 obtain⟨A4,a4,ps,pr,e4,_,b4,hR4,hE4,hF4⟩:=open_pair bG (IsP w) (fun p=>p.ends.length*24≤N) Tryz.underlying26 yu (by omega) h4 l4 (fun n cs' y hy hl=>Ff hy hl)
 rw[Iy]at b0
 rw[Bi]at b1
 rw[EM]at b2
 rw[IY]at b3
 rw[EG]at b4
 have hsame:∀ {α:Type} {l l':List α},Each (fun x y=>x=y) l l'→l=l':=by
  intro α l l' he
  apply List.ext_getElem?
  intro i
  rcases Nat.lt_or_ge i l.length with hi|hi
  ·rw[List.getElem?_eq_getElem hi,List.getElem?_eq_getElem (by rw[← he.1];exact hi)]
   exact congrArg some (he.2 i _ _ (List.getElem?_eq_getElem hi) (List.getElem?_eq_getElem (by rw[← he.1];exact hi)))
  ·rw[List.getElem?_eq_none hi,List.getElem?_eq_none (by rw[← he.1];exact hi)]
 obtain rfl:=hsame hE2
 obtain rfl:=hsame hE3
 simp at e0 e1 e2 e3 e4
 refine⟨⟨A0,a0,A1,a1,A2,a2,A3,a3,A4,a4⟩,⟨ms,me,nd,ss,pr⟩,by rw[e0,e1,e2,e3,e4];rfl,⟨⟨xs,hR0,hE0⟩,hR1,hR2,hR3,⟨ps,hR4,hE4⟩,k0⟩,?_⟩
 refine⟨by show ms.length≤big;omega,fun m hm=>?_,by show me.length≤big;omega,by show nd.length≤big;omega,fun n hn=>?_,by show ss.length≤big;omega,fun s hs=>?_,by show pr.length≤big;omega,fun p hp=>?_,⟨?_,?_,?_,?_,?_⟩,fun m hm=>?_,fun p hp=>?_⟩
 ·obtain⟨f1,f2,f3⟩:=hF0 m hm
  exact⟨by omega,by omega,by omega⟩
 ·obtain⟨f1,f2⟩:=hF2 n hn
  exact⟨by omega,by omega⟩
 ·have:=hF3 s hs
  omega
 ·have:=hF4 p hp
  omega
 ·show ms.length*64≤big;omega
 ·show me.length*8≤big;omega
 ·show nd.length*48≤big;omega
 ·show ss.length*16≤big;omega
 ·show pr.length*32≤big;omega
 ·obtain⟨f1,f2,f3⟩:=hF0 m hm
  exact⟨by omega,by omega⟩
 ·have:=hF4 p hp
  omega
theorem wP{r:Reach}{b0:Nat}{v:Value}{d:DataW H}{ps:List MemPlace}(hNb:N≤big)
  (hv:Value.okWide Tryz.prog w r b0 28 v) (h:DataW.Trod enc Tryz.prog w 0 (fun _=>true) true 28 v d ps) (hN:Light Tryz.prog 28 N d):∃a k,v = .agg (af a k).toArray∧KRd w a k∧kU k:=by
 simp only[Value.okWide,Tryz.underlying28]at hv
 obtain⟨cs,rfl,_,_⟩:=hv
 obtain⟨fuel,h⟩:=h
 obtain⟨a,k,he,h1,h2⟩:=Es hNb h hN
 refine⟨a,k,?_,h1,h2⟩
 obtain⟨cl⟩:=cs
 have he':cl=af a k:=he
 rw[he']
end
end
end Go.Proofs.YtnnhhbjbdmgpiaaGreatDoor
