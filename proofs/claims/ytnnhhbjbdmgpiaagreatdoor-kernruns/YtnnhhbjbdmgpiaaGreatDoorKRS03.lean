/- Texts of the proof of KernRuns: RefS. -/
import Derived.Test.YtnnhhbjbdmgpiaaGreatDoorKRS01
import Derived.Test.YtnnhhbjbdmgpiaaGreatDoorKRS00
import Derived.Test.YtnnhhbjbdmgpiaaGreatDoorJ41
set_option linter.unusedSimpArgs false
set_option linter.unusedVariables false
namespace Go.Proofs.YtnnhhbjbdmgpiaaGreatDoor
set_option maxRecDepth 100000
set_option maxHeartbeats 4000000
open Lib (hid)
section
open Go.RowKit
theorem GI{P:Program}{o:Oper}{a:Act}{w:World}{K:Act→World→Prop}{Q:Exit→Act→World→Prop}{R:Ending→World→Prop}
  (f:FuncId) (x y:Operand) (tys:Array TypeId) (ho:o.op = .call { callee:=.value (.func f),args:=#[x,y],argTypes:=tys }) (v u:Value) (hv:a.eval x=v) (hu:a.eval y=u)
  (eg:∀args w,(callFunc f args).run P w = .ok (.enter f args) w) (hc:Calls P f #[v,u] w R) (h:∀e w',R e w'→∃v,e = .returned v∧K (a.put o.dst v) w'):Oper.wp P o a w K Q:=by
 have hex:(execOp a.eval o).run P w = .ok (.enter f #[v,u]) w:=by
  have hfn:a.eval (.func f) = .func (.func f) #[] #[]:=rfl
  simp[execOp,ho,resolve,invoke,hv,hu,eg,hfn,Deferred.ofValue]
 unfold Oper.wp
 rw[hex]
 refine hc.mono fun e w' hr=>?_
 obtain⟨v,rfl,hk⟩:=h e w' hr
 exact hk
def uy(w:World)(g:Nat)(v0 v1 v2 v3 v4:Value):World:=((((w.setCell ⟨g,0,none⟩ v0).setCell ⟨g,1,none⟩ v1).setCell ⟨g,2,none⟩ v2).setCell ⟨g,3,none⟩ v3).setCell ⟨g,4,none⟩ v4
def vH(w:World)(g:Nat)(v0 v1 v2:Value):World:=((w.setCell ⟨g,0,none⟩ v0).setCell ⟨g,1,none⟩ v1).setCell ⟨g,2,none⟩ v2
theorem sG(w:World)(g:Nat)(v0 v1 v2 v3 v4:Value):(uy w g v0 v1 v2 v3 v4).heap.size=w.heap.size:=by simp[uy,World.setCell]
theorem xU(w:World)(g:Nat)(v0 v1 v2:Value):(vH w g v0 v1 v2).heap.size=w.heap.size:=by simp[vH,World.setCell]
theorem Gx(o:Oper)(a:Act)(w:World)(g:Nat)(x:Operand)(c0 c1 c2 c3 c4:Value)(ho:o.op = .load ae x)(ev:a.eval x = .pointer (some ⟨g,0,none⟩))(hg:Wb w g ae [c0,c1,c2,c3,c4]):(execOp a.eval o).run Tryz.prog w = .ok (.value (.agg #[c0,c1,c2,c3,c4])) w:=by
 obtain⟨q0,q1,q2,q3,q4, -, -⟩:=kY hg
 clear hg
 simp[execOp,ho,ev]
 go_simp
theorem Iz(o:Oper)(a:Act)(w:World)(b p:Nat)(x:Operand)(c0 c1 c2 c3 c4 c5:Value)(ho:o.op = .load gJ x)(ev:a.eval x = .pointer (some ⟨b,p,none⟩))(q0:w.cell? ⟨b,p,none⟩=some c0)(q1:w.cell? ⟨b,p+1,none⟩=some c1)(q2:w.cell? ⟨b,p+2,none⟩=some c2)(q3:w.cell? ⟨b,p+3,none⟩=some c3)(q4:w.cell? ⟨b,p+4,none⟩=some c4)(q5:w.cell? ⟨b,p+5,none⟩=some c5):(execOp a.eval o).run Tryz.prog w = .ok (.value (.agg #[c0,c1,c2,c3,c4,c5])) w:=by
 simp[execOp,ho,ev]
 go_simp
theorem I5(o:Oper)(a:Act)(w:World)(x y:Operand)(b off len cap n:Nat)(hn:n<len)(ho:o.op = .indexAddr 39 x y)(ex:a.eval x = .slice (some ⟨b,off,none⟩) len cap)(ey:a.eval y = .int .i64 n):(execOp a.eval o).run Tryz.prog w = .ok (.value (.pointer (some ⟨b,off+n*6,none⟩))) w:=by
 simp[execOp,ho,ex,ey]
 go_simp
theorem zt(o:Oper)(a:Act)(w:World)(x:Operand)(v0 v1 v2 v:Value)(i:Nat)(hi:#[v0,v1,v2][i]?=some v)(ho:o.op = .extract x i)(ev:a.eval x = .tuple #[v0,v1,v2]):(execOp a.eval o).run Tryz.prog w = .ok (.value v) w:=by
 match i,hi with
 | 0,hi|1,hi|2,hi=>
   simp at hi
   simp[execOp,ho,ev,hi]
   try go_simp
 | n+3,hi=>simp at hi
theorem Kt(o:Oper)(a:Act)(w:World)(ho:o.op = .alloc ae):(execOp a.eval o).run Tryz.prog w = .ok (.value (.pointer (some ⟨w.heap.size,0,none⟩))) (w.alloc (.cells #[.slice none 0 0,.slice none 0 0,.slice none 0 0,.slice none 0 0,.slice none 0 0] ae)):=by
 simp[execOp,ho]
 go_simp
theorem JL(o:Oper)(a:Act)(w:World)(ho:o.op = .alloc au):(execOp a.eval o).run Tryz.prog w = .ok (.value (.pointer (some ⟨w.heap.size,0,none⟩))) (w.alloc (.cells #[.int .i64 0,.int .i64 0,.string ⟨#[]⟩] au)):=by
 simp[execOp,ho]
 go_simp
theorem Jz(o:Oper)(a:Act)(w:World)(g:Nat)(x y:Operand)(c0 c1 c2 c3 c4:Value)(A M N S Q:Option Addr)(n0 m0 n1 m1 n2 m2 n3 m3 n4 m4:Nat)(ho:o.op = .store ae x y)(ex:a.eval x = .pointer (some ⟨g,0,none⟩))(ey:a.eval y = .agg #[.slice A n0 m0,.slice M n1 m1,.slice N n2 m2,.slice S n3 m3,.slice Q n4 m4])(hg:Wb w g ae [c0,c1,c2,c3,c4]):
  (execOp a.eval o).run Tryz.prog w = .ok .skip (uy w g (.slice A n0 m0) (.slice M n1 m1) (.slice N n2 m2) (.slice S n3 m3) (.slice Q n4 m4)):=by
 obtain⟨q0,q1,q2,q3,q4,f, -⟩:=kY hg
 have f0:=f 0
 have f1:=f 1
 have f2:=f 2
 have f3:=f 3
 have f4:=f 4
 clear hg f
 simp[execOp,ho,ex,ey,uy]
 go_simp
theorem JE(o:Oper)(a:Act)(w:World)(g:Nat)(x y:Operand)(c0 c1 c2:Value)(z0 z1:Int)(s:ByteArray)(ho:o.op = .store au x y)(ex:a.eval x = .pointer (some ⟨g,0,none⟩))(ey:a.eval y = .agg #[.int .i64 z0,.int .i64 z1,.string s])(hg:Wb w g au [c0,c1,c2]):
  (execOp a.eval o).run Tryz.prog w = .ok .skip (vH w g (.int .i64 z0) (.int .i64 z1) (.string s)):=by
 obtain⟨q0,q1,q2,f, -⟩:=aS hg
 have f0:=f 0
 have f1:=f 1
 have f2:=f 2
 clear hg f
 simp[execOp,ho,ex,ey,vH]
 go_simp
theorem Wb.pK{w:World}{g:Nat}{t:TypeId}{c0 c1 c2 c3 c4:Value}(h:Wb w g t [c0,c1,c2,c3,c4])(v0 v1 v2 v3 v4:Value):Wb (uy w g v0 v1 v2 v3 v4) g t [v0,v1,v2,v3,v4]:=
 ((((h.put 0 v0).put 1 v1).put 2 v2).put 3 v3).put 4 v4
theorem Wb.pA{w:World}{g:Nat}{t:TypeId}{c0 c1 c2:Value}(h:Wb w g t [c0,c1,c2])(v0 v1 v2:Value):Wb (vH w g v0 v1 v2) g t [v0,v1,v2]:=
 ((h.put 0 v0).put 1 v1).put 2 v2
theorem Wb.offK{w:World}{g g':Nat}{t:TypeId}{cs:List Value}(h:Wb w g' t cs)(hne:g'≠g)(v0 v1 v2 v3 v4:Value):Wb (uy w g v0 v1 v2 v3 v4) g' t cs:=
 ((((h.off_ (p:=⟨g,0,none⟩) hne v0).off_ (p:=⟨g,1,none⟩) hne v1).off_ (p:=⟨g,2,none⟩) hne v2).off_ (p:=⟨g,3,none⟩) hne v3).off_ (p:=⟨g,4,none⟩) hne v4
theorem Wb.offA{w:World}{g g':Nat}{t:TypeId}{cs:List Value}(h:Wb w g' t cs)(hne:g'≠g)(v0 v1 v2:Value):Wb (vH w g v0 v1 v2) g' t cs:=
 ((h.off_ (p:=⟨g,0,none⟩) hne v0).off_ (p:=⟨g,1,none⟩) hne v1).off_ (p:=⟨g,2,none⟩) hne v2
theorem pJ{B g:Nat}{w w':World}(h:Below B w w')(hB:B≤g)(v0 v1 v2 v3 v4:Value):Below B w (uy w' g v0 v1 v2 v3 v4):=
 ((((h.setCell (p:=⟨g,0,none⟩) hB v0).setCell (p:=⟨g,1,none⟩) hB v1).setCell (p:=⟨g,2,none⟩) hB v2).setCell (p:=⟨g,3,none⟩) hB v3).setCell (p:=⟨g,4,none⟩) hB v4
theorem Di{B g:Nat}{w w':World}(h:Below B w w')(hB:B≤g)(v0 v1 v2:Value):Below B w (vH w' g v0 v1 v2):=
 ((h.setCell (p:=⟨g,0,none⟩) hB v0).setCell (p:=⟨g,1,none⟩) hB v1).setCell (p:=⟨g,2,none⟩) hB v2
theorem KPr.pK{P:Nat→Prop}{w:World}{a:KA}{k:Cf.ag}(h:KPr P w a k){g:Nat}(hP:∀b,P b→b≠g)(v0 v1 v2 v3 v4:Value):KPr P (uy w g v0 v1 v2 v3 v4) a k:=
 ((((h.kept (fO.set hP 0 v0)).kept (fO.set hP 1 v1)).kept (fO.set hP 2 v2)).kept (fO.set hP 3 v3)).kept (fO.set hP 4 v4)
theorem KPr.pA{P:Nat→Prop}{w:World}{a:KA}{k:Cf.ag}(h:KPr P w a k){g:Nat}(hP:∀b,P b→b≠g)(v0 v1 v2:Value):KPr P (vH w g v0 v1 v2) a k:=
 ((h.kept (fO.set hP 0 v0)).kept (fO.set hP 1 v1)).kept (fO.set hP 2 v2)
abbrev ptr(g:Nat):Value:=.pointer (some ⟨g,0,none⟩)
def Boxed(u:Nat→Value)(g:Nat):Prop:=u 8=ptr g∨u 9=ptr g
def wI(B:Nat)(u:Nat→Value)(w:World)(b:Nat):Prop:=B≤b∧b<w.heap.size∧∀g,Boxed u g→b≠g
def SoJ(wb:World)(u:Nat→Value)(w:World):Prop:=Below wb.heap.size wb w∧∀g,Boxed u g→g<w.heap.size
def SoV(B:Nat)(kv sv cv:Value)(b p n:Nat)(dk:Cf.ag)(x:Cf.Ans)(de:Int)(i:Nat)(u:Nat→Value)(w:World):Prop:=match i with
 | 0=>u 23=kv
 | 1=>u 24=sv
 | 2=>u 25 = .int .i64 n
 | 3=>u 26 = .pointer (some ⟨b,p,none⟩)
 | 4=>u 27=cv
 | 5=>∃a:KA,u 28 = .tuple #[.agg (af a dk).toArray,.agg (aF x).toArray,.int .i64 de]∧KPr (wI B u w) w a dk
 | 6=>∃a:KA,u 22 = .tuple #[.agg (af a dk).toArray,.agg (aF x).toArray,.int .i64 de]∧KPr (wI B u w) w a dk
 | 7=>∃a:KA,u 29 = .agg (af a dk).toArray∧KPr (wI B u w) w a dk
 | 8=>u 30 = .agg (aF x).toArray
 | 9=>u 31 = .int .i64 de
 | 10=>∃g,u 8=ptr g∧(∃c0 c1 c2 c3 c4,Wb w g ae [c0,c1,c2,c3,c4])∧B≤g
 | 11=>∃g,u 9=ptr g∧(∃c0 c1 c2,Wb w g au [c0,c1,c2])∧B≤g
 | 12=>∃g a,u 8=ptr g∧Wb w g ae (af a dk)∧B≤g∧KPr (wI B u w) w a dk
 | 13=>∃g,u 9=ptr g∧Wb w g au (aF x)∧B≤g
 | 14=>u 10 = .int .i64 de
 | _=>True
def uD:Nat→Nat
 | 0=>23
 | 1=>24
 | 2=>25
 | 3=>26
 | 4=>27
 | 5=>28
 | 6=>22
 | 7=>29
 | 8=>30
 | 9=>31
 | 10=>8
 | 11=>9
 | 12=>8
 | 13=>9
 | _=>10
section
variable {B:Nat} {kv sv cv:Value} {b p n:Nat} {dk:Cf.ag} {x:Cf.Ans} {de:Int} {i:Nat} {u:Nat→Value} {w w':World}
theorem SoV.keep{j:Nat}(h0:SoV B kv sv cv b p n dk x de j u w)(hb:Below w.heap.size w w'){d:Nat}{v:Value}(hd:uD j≠d)(hA:∀g,Boxed (upd u d v) g→Boxed u g∨w.heap.size≤g):SoV B kv sv cv b p n dk x de j (upd u d v) w':=by
 have hk:∀a,KPr (wI B u w) w a dk→KPr (wI B (upd u d v) w') w' a dk:=fun a h=>(h.kept (fO.below hb)).mono fun b ⟨h1,h2,h3⟩=>⟨h1,Nat.lt_of_lt_of_le h2 hb.size,fun g hg=>by
  rcases hA g hg with h|h
  ·exact h3 g h
  ·omega⟩
 have hu:upd u d v (uD j)=u (uD j):=if_neg hd
 match j,h0,hu with
 | 0,h,hu|1,h,hu|2,h,hu|3,h,hu|4,h,hu|8,h,hu|9,h,hu|14,h,hu=>exact hu.trans h
 | 5,⟨a,h1,h2⟩,hu|6,⟨a,h1,h2⟩,hu|7,⟨a,h1,h2⟩,hu=>exact⟨a,hu.trans h1,hk a h2⟩
 | 10,⟨g,h1,⟨c0,c1,c2,c3,c4,h2⟩,h3⟩,hu=>exact⟨g,hu.trans h1,⟨c0,c1,c2,c3,c4,h2.below hb h2.lt⟩,h3⟩
 | 11,⟨g,h1,⟨c0,c1,c2,h2⟩,h3⟩,hu=>exact⟨g,hu.trans h1,⟨c0,c1,c2,h2.below hb h2.lt⟩,h3⟩
 | 12,⟨g,a,h1,h2,h3,h4⟩,hu=>exact⟨g,a,hu.trans h1,h2.below hb h2.lt,h3,hk a h4⟩
 | 13,⟨g,h1,h2,h3⟩,hu=>exact⟨g,hu.trans h1,h2.below hb h2.lt,h3⟩
 | _+15,_,_=>exact trivial
theorem SoV.put8{j:Nat}(h0:SoV B kv sv cv b p n dk x de j u w)(hj:j≠12){g:Nat}{cs:List Value}(hu:u 8=ptr g)(hg:Wb w g ae cs)(v0 v1 v2 v3 v4:Value):SoV B kv sv cv b p n dk x de j u (uy w g v0 v1 v2 v3 v4):=by
 have hk:∀a,KPr (wI B u w) w a dk→KPr (wI B u (uy w g v0 v1 v2 v3 v4)) (uy w g v0 v1 v2 v3 v4) a dk:=fun a h=>(h.pK (fun b hb=>hb.2.2 g (.inl hu)) _ _ _ _ _).mono fun b ⟨h1,h2,h3⟩=>⟨h1,by rw[sG];exact h2,h3⟩
 match j,h0,hj with
 | 0,h,_|1,h,_|2,h,_|3,h,_|4,h,_|8,h,_|9,h,_|14,h,_=>
   simp only[SoV]at h ⊢
   exact h
 | 5,⟨a,h1,h2⟩,_|6,⟨a,h1,h2⟩,_|7,⟨a,h1,h2⟩,_=>exact⟨a,h1,hk a h2⟩
 | 10,⟨g',h1,⟨c0,c1,c2,c3,c4,h2⟩,h3⟩,_=>
   rw[hu]at h1
   cases h1
   exact⟨g,hu,⟨_,_,_,_,_,h2.pK _ _ _ _ _⟩,h3⟩
 | 11,⟨g',h1,⟨c0,c1,c2,h2⟩,h3⟩,_=>exact⟨g',h1,⟨c0,c1,c2,h2.offK (h2.other hg (by decide)) _ _ _ _ _⟩,h3⟩
 | 12,_,hj=>exact absurd rfl hj
 | 13,⟨g',h1,h2,h3⟩,_=>exact⟨g',h1,h2.offK (h2.other hg (by decide)) _ _ _ _ _,h3⟩
 | _+15,_,_=>exact trivial
theorem SoV.put9{j:Nat}(h0:SoV B kv sv cv b p n dk x de j u w)(hj:j≠13){g:Nat}{cs:List Value}(hu:u 9=ptr g)(hg:Wb w g au cs)(v0 v1 v2:Value):SoV B kv sv cv b p n dk x de j u (vH w g v0 v1 v2):=by
 have hk:∀a,KPr (wI B u w) w a dk→KPr (wI B u (vH w g v0 v1 v2)) (vH w g v0 v1 v2) a dk:=fun a h=>(h.pA (fun b hb=>hb.2.2 g (.inr hu)) _ _ _).mono fun b ⟨h1,h2,h3⟩=>⟨h1,by rw[xU];exact h2,h3⟩
 match j,h0,hj with
 | 0,h,_|1,h,_|2,h,_|3,h,_|4,h,_|8,h,_|9,h,_|14,h,_=>
   simp only[SoV]at h ⊢
   exact h
 | 5,⟨a,h1,h2⟩,_|6,⟨a,h1,h2⟩,_|7,⟨a,h1,h2⟩,_=>exact⟨a,h1,hk a h2⟩
 | 10,⟨g',h1,⟨c0,c1,c2,c3,c4,h2⟩,h3⟩,_=>exact⟨g',h1,⟨c0,c1,c2,c3,c4,h2.offA (h2.other hg (by decide)) _ _ _⟩,h3⟩
 | 11,⟨g',h1,⟨c0,c1,c2,h2⟩,h3⟩,_=>
   rw[hu]at h1
   cases h1
   exact⟨g,hu,⟨_,_,_,h2.pA _ _ _⟩,h3⟩
 | 12,⟨g',a,h1,h2,h3,h4⟩,_=>exact⟨g',a,h1,h2.offA (h2.other hg (by decide)) _ _ _,h3,hk a h4⟩
 | 13,_,hj=>exact absurd rfl hj
 | _+15,_,_=>exact trivial
end
theorem mJ{u:Nat→Value}{d g:Nat}{v:Value}(h8:8≠d)(h9:9≠d)(h:Boxed (upd u d v) g):Boxed u g:=by
 unfold Boxed upd at h
 rwa [if_neg h8,if_neg h9]at h
theorem upd_same(u:Nat→Value)(d:Nat)(v:Value):upd u d v d=v:=if_pos rfl
section
variable {wb:World} {kv sv cv:Value} {b p n:Nat} {dk:Cf.ag} {x:Cf.Ans} {de:Int} {i:Nat} {u:Nat→Value} {w w':World} {ops:Array Oper} {o:Oper} {ds:List Nat} {l0:List Value} {df:List Deferred} {K:Act→World→Prop}
theorem D9(hs:vY ops uD=true)(ho:ops[i]?=some o){d:Nat}(hd:o.dst=some d){v:Value}(hJ:SoJ wb u w)(hb:Below w.heap.size w w')(hA:∀g,Boxed (upd u d v) g→Boxed u g∨(w.heap.size≤g∧g<w'.heap.size))(hv:SoV wb.heap.size kv sv cv b p n dk x de i (upd u d v) w')
  (hK:∀(v:Value) (w':World),SoV wb.heap.size kv sv cv b p n dk x de i (mG u o v) w'→SoJ wb (mG u o v) w'→(∀(j:Nat) (q:Oper),ops[j]?=some q→j≠i→needs q i=false→SoV wb.heap.size kv sv cv b p n dk x de j u w→SoV wb.heap.size kv sv cv b p n dk x de j (mG u o v) w')→K (Act.put ⟨(bJ ds u 0 l0).toArray,df⟩ o.dst v) w'):K (Act.put ⟨(bJ ds u 0 l0).toArray,df⟩ o.dst v) w':=by
 have hu:mG u o v=upd u d v:=by simp only[mG,hd]
 refine hK v w' (by rw[hu];exact hv) ?_ ?_
 ·rw[hu]
  refine⟨hJ.1.trans (hb.mono hJ.1.size),fun g hg=>?_⟩
  rcases hA g hg with h|h
  ·exact Nat.lt_of_lt_of_le (hJ.2 g h) hb.size
  ·exact h.2
 ·intro j q hq hj hn h
  rw[hu]
  exact h.keep hb ((sO hs ho hd).2 j q hq hj hn) (fun g hg=>(hA g hg).imp id (·.1))
theorem jf(hs:vY ops uD=true)(ho:ops[i]?=some o){d:Nat}(hd:o.dst=some d)(h8:8≠d)(h9:9≠d){v:Value}(hJ:SoJ wb u w)(hv:SoV wb.heap.size kv sv cv b p n dk x de i (upd u d v) w)
  (hr:(execOp (Act.eval ⟨(bJ ds u 0 l0).toArray,df⟩) o).run Tryz.prog w = .ok (.value v) w) {Q:Exit→Act→World→Prop}
  (hK:∀(v:Value) (w':World),SoV wb.heap.size kv sv cv b p n dk x de i (mG u o v) w'→SoJ wb (mG u o v) w'→(∀(j:Nat) (q:Oper),ops[j]?=some q→j≠i→needs q i=false→SoV wb.heap.size kv sv cv b p n dk x de j u w→SoV wb.heap.size kv sv cv b p n dk x de j (mG u o v) w')→K (Act.put ⟨(bJ ds u 0 l0).toArray,df⟩ o.dst v) w'):Oper.wp Tryz.prog o ⟨(bJ ds u 0 l0).toArray,df⟩ w K Q:=
 dD hr (D9 hs ho hd hJ (Below.refl _ _) (fun _ hg=>.inl (mJ h8 h9 hg)) hv hK)
end
theorem zx(o:Oper)(a:Act)(w:World)(x:Operand)(v:Value)(ho:o.op = .move x)(ev:a.eval x=v):(execOp a.eval o).run Tryz.prog w = .ok (.value v) w:=by
 simp[execOp,ho,ev]
 try go_simp
theorem Le(o:Oper)(a:Act)(w:World)(x:Operand)(v:Value)(ho:o.op = .assign x)(ev:a.eval x=v):(execOp a.eval o).run Tryz.prog w = .ok (.value v) w:=by
 simp[execOp,ho,ev]
 try go_simp
def Kv(wb:World)(dk:Cf.ag)(x:Cf.Ans)(de:Int)(x8 x9 x10:Value)(wx:World):Prop:=∃g8 g9 a,x8=ptr g8∧x9=ptr g9∧x10 = .int .i64 de∧(wb.heap.size≤g8∧wb.heap.size≤g9∧g8≠g9)∧Wb wx g8 ae (af a dk)∧Wb wx g9 au (aF x)∧KPr (fun b=>wb.heap.size≤b∧b≠g8∧b≠g9) wx a dk∧Below wb.heap.size wb wx
theorem zo(l:List Cf.jo)(Al:Option Addr)(cap:Nat)(w:World)(hA:He w Al l)(hl:l.length≤maxLen)(hz:∀x∈l,x.name.length≤maxLen∧x.data.length≤maxLen):
  Calls Tryz.prog 16 #[.slice Al l.length cap] w (Ns (Cf.ik l) w):=by
 obtain⟨i0,hi0,hy0,hy1,hy2⟩:=info_parts Kw
 have Hi:=hid hi0
 have H0:=hid hy0
 have H1:=hid hy1
 have H2:=hid hy2
 unfold maxLen at hl
 obtain⟨w0,hw0⟩:∃w0:World,w0=w.alloc (.cells #[.slice none 0 0,.slice none 0 0,.slice none 0 0,.slice none 0 0,.slice none 0 0] ae):=⟨_,rfl⟩
 have hb0:Below w.heap.size w w0:=by rw[hw0];exact(Below.refl _ _).alloc (Nat.le_refl _) _
 have HR0:=hid (show Wb w0 w.heap.size ae [.slice none 0 0,.slice none 0 0,.slice none 0 0,.slice none 0 0,.slice none 0 0] by rw[hw0];exact Wb.new w ae [.slice none 0 0,.slice none 0 0,.slice none 0 0,.slice none 0 0,.slice none 0 0])
 have Hw0:=hid hw0
 have Hb0:=hid hb0
 have HA:=hid hA
 have HZ:=hid hz
 have Hs0:=hid (show w0.heap.size=w.heap.size+1 by rw[hw0];simp)
 clear hi0 hy0 hy1 hy2 hw0 hb0 hA hz
 by_cases h2:200<l.length
 ·have HSc:=hid (show Cf.ik l=⟨[],Cf.jR,1⟩ by unfold Cf.ik;rw[if_pos h2])
  rw[HSc.out]
  go_enter Tryz.func16,Tryz.ntmps16
  go_upto_region 1 with fail
  rw[← Hw0.out]
  clear Hw0
  obtain⟨r0,r1,r2,r3,r4,rf,rl⟩:=kY HR0.out
  go_wp2
  refine bodyPost_ret (v:=.tuple #[.slice none 0 0,.agg #[.slice none 0 0,.slice none 0 0,.slice none 0 0,.slice none 0 0,.slice none 0 0],.int .i64 1]) (by simp[results,Tryz.results16,go_sem,r0,r1,r2,r3,r4]) rfl ?_
  exact⟨none,0,_,rfl,.inl rfl,Nat.le_refl _,⟨.inl rfl,((pz w.heap.size _).pr).mono fun b hb=>hb.1⟩,pJ Hb0.out (Nat.le_refl _) _ _ _ _ _⟩
 have HSc:=hid (show Cf.ik l=⟨(Cf.dS Cf.ak (l.take l.length)).answers,(Cf.dS Cf.ak (l.take l.length)).kern,0⟩ by unfold Cf.ik;rw[if_neg h2,List.take_length])
 have HNw:=hid (yH w0)
 rw[HSc.out]
 clear HSc
 go_enter Tryz.func16,Tryz.ntmps16
 go_upto_region 1 with fail
 rw[← Hw0.out]
 clear Hw0
 go_wp2_with fail
 refine HNw.out.mono ?_
 rintro e w1 ⟨⟨A1,ca1,M1,cm1,N1,cn1,S1,cs1,Q1,cq1⟩,rfl,hnew,hb1⟩
 simp only[af]
 go_upto_region 4 with fail
 have HT0:=hid (show RunT w w1.heap.size Cf.ak [] (.slice none 0 0) ⟨A1,ca1,M1,cm1,N1,cn1,S1,cs1,Q1,cq1⟩ (w1.alloc (.cells #[.slice A1 Cf.ak.mods.length ca1,.slice M1 Cf.ak.mem.length cm1,.slice N1 Cf.ak.nodes.length cn1,.slice S1 Cf.ak.pipes.length cs1,.slice Q1 Cf.ak.procs.length cq1] ae)) from⟨Wb.new w1 ae _,World.ownsRow_nil _ _ _ _,((hnew.pr).mono fun b hb=>⟨by omega,by simp[Value.ownBlock],by have:=Hs0.out;omega⟩).kept (fO.below ((Below.refl _ _).alloc (Nat.le_refl _) _)),(Hb0.out.trans (hb1.mono Hb0.out.size)).alloc (Nat.le_trans Hb0.out.size hb1.size) _,Nat.le_trans Hb0.out.size hb1.size⟩)
 have HR1:=hid ((HR0.out.below hb1 HR0.out.lt).alloc (.cells #[.slice A1 Cf.ak.mods.length ca1,.slice M1 Cf.ak.mem.length cm1,.slice N1 Cf.ak.nodes.length cn1,.slice S1 Cf.ak.pipes.length cs1,.slice Q1 Cf.ak.procs.length cq1] ae))
 have Hgl:=hid (show w.heap.size<w1.heap.size by have:=hb1.size;have:=Hs0.out;omega)
 clear hnew hb1 HNw HR0 Hb0
 generalize hgg:w1.heap.size=g at *
 clear hgg
 generalize w1.alloc (.cells #[.slice A1 Cf.ak.mods.length ca1,.slice M1 Cf.ak.mem.length cm1,.slice N1 Cf.ak.nodes.length cn1,.slice S1 Cf.ak.pipes.length cs1,.slice Q1 Cf.ak.procs.length cq1] ae)=w2 at *
 go_wp2
 go_loopw [6,7,8,9] (fun v i x8 x9 wr=>∃(n:Nat) (a:KA),n≤l.length∧i = .int .i64 n∧RunT w g (Cf.dS Cf.ak (l.take n)).kern (Cf.dS Cf.ak (l.take n)).answers v a wr∧Wb wr w.heap.size ae [.slice none 0 0,.slice none 0 0,.slice none 0 0,.slice none 0 0,.slice none 0 0]∧Cf.Good (Cf.dS Cf.ak (l.take n)).kern∧∀q,(x8=ptr q∨x9=ptr q)→q<wr.heap.size) (fun _ i _ _ _=>l.length-(intOf i).toNat)
 case atStart=>exact⟨0,_,by omega,rfl,HT0.out,HR1.out,Cf.uN,fun q hq=>by rcases hq with h|h<;>cases h⟩
 case round=>
  obtain⟨n,⟨A,ca,M,cm,N,cn,S,cs,Q,cq⟩,hn,rfl,hT,hR,hG,hO⟩:=hrel
  have HT:=hid hT
  have HR:=hid hR
  have HG:=hid hG
  have HO:=hid hO
  clear hT hR hG HT0 HR1 hO
  by_cases hlt:n<l.length
  ·obtain⟨kd,pp,nn,mm,nm,da,hx⟩:∃kd pp nn mm nm da,l[n]?=some ⟨kd,pp,nn,mm,nm,da⟩:=⟨_,_,_,_,_,_,List.getElem?_eq_getElem hlt⟩
   rcases HA.out with h0|⟨b,off,rfl,hbl,hc⟩
   ·rw[h0]at hlt
    simp at hlt
   have hkp:=HT.out.keep
   have Hq:=hid (show wr.cell? ⟨b,off+n*6,none⟩=some (.int .i64 kd)∧wr.cell? ⟨b,off+n*6+1,none⟩=some (.int .i64 pp)∧wr.cell? ⟨b,off+n*6+2,none⟩=some (.int .i64 nn)∧wr.cell? ⟨b,off+n*6+3,none⟩=some (.int .i64 mm)∧wr.cell? ⟨b,off+n*6+4,none⟩=some (.string ⟨nm.toArray⟩)∧wr.cell? ⟨b,off+n*6+5,none⟩=some (.string ⟨da.toArray⟩) from
    ⟨(hkp.cell hbl).trans (hc n _ hx 0 _ rfl),(hkp.cell hbl).trans (hc n _ hx 1 _ rfl),(hkp.cell hbl).trans (hc n _ hx 2 _ rfl),(hkp.cell hbl).trans (hc n _ hx 3 _ rfl),(hkp.cell hbl).trans (hc n _ hx 4 _ rfl),(hkp.cell hbl).trans (hc n _ hx 5 _ rfl)⟩)
   have Hbl:=hid (Nat.lt_of_lt_of_le hbl hkp.size)
   obtain⟨hnm,hda⟩:=HZ.out _ (List.mem_of_getElem? hx)
   simp only at hnm hda
   have HNx:=hid (vN hx Cf.ak)
   have hal:=DT l Cf.ak n
   clear hkp hc hx hbl
   generalize (Cf.dS Cf.ak (l.take n)).kern=kk at *
   generalize (Cf.dS Cf.ak (l.take n)).answers=an at *
   have HGn:=hid (HG.out.next ⟨kd,pp,nn,mm,nm,da⟩)
   have HNt:=hid (show Cf.mD kk ⟨kd,pp,nn,mm,nm,da⟩=if (Cf.doT kk ⟨kd,pp,nn,mm,nm,da⟩).err=0 then⟨(Cf.doT kk ⟨kd,pp,nn,mm,nm,da⟩).kern,(Cf.doT kk ⟨kd,pp,nn,mm,nm,da⟩).ans⟩ else⟨kk,⟨(Cf.doT kk ⟨kd,pp,nn,mm,nm,da⟩).err,0,[]⟩⟩ from rfl)
   have HDi:=hid (fun(W:World) (hb:Below wr.heap.size wr W)=>xA kk ⟨A,ca,M,cm,N,cn,S,cs,Q,cq⟩ kd pp nn mm nm da W (HT.out.below hb).rows.rd (rG HG.out) hnm hda)
   generalize Cf.doT kk ⟨kd,pp,nn,mm,nm,da⟩=d at *
   obtain⟨dk,⟨dc,dn,ds⟩,de⟩:=d
   have Heg:=hid (fun args w=>show(callFunc 13 args).run Tryz.prog w = .ok (.enter 13 args) w by simp[go_sem])
   clear hnm hda
   go_upto_region 8 with fail
   go_cut [8,9,10] from 22 to 32 (fun x8 x9 x10 wx=>Kv wr dk ⟨dc,dn,ds⟩ de x8 x9 x10 wx)
   case first=>
    refine Eh (ds:=[8,9,10,22,23,24,25,26,27,28,29,30,31]) (SoJ wr) (SoV wr.heap.size (.agg #[.slice A kk.mods.length ca,.slice M kk.mem.length cm,.slice N kk.nodes.length cn,.slice S kk.pipes.length cs,.slice Q kk.procs.length cq]) (.slice (some ⟨b,off,none⟩) l.length cap) (.agg #[.int .i64 kd,.int .i64 pp,.int .i64 nn,.int .i64 mm,.string ⟨nm.toArray⟩,.string ⟨da.toArray⟩]) b (off+n*6) n dk ⟨dc,dn,ds⟩ de) (by kernel_rfl) (by kernel_rfl) ⟨(Below.refl _ _).drew,fun q hq=>HO.out q hq⟩ ?_ ?_
    ·intro i hi
     match i,hi with
     | 0,_=>
       intro o u w1 ho hJ aT K hK
       have ho2:=ho
       obtain rfl:=Option.some.inj ho
       exact jf (by kernel_rfl) ho2 rfl (by decide) (by decide) hJ (upd_same _ _ _) (Gx _ _ _ g _ _ _ _ _ _ rfl (lC rfl rfl) (HT.out.box.below hJ.1 HT.out.box.lt)) hK
     | 1,_=>
       intro o u w1 ho hJ aT K hK
       have ho2:=ho
       obtain rfl:=Option.some.inj ho
       exact jf (by kernel_rfl) ho2 rfl (by decide) (by decide) hJ (upd_same _ _ _) (zx _ _ _ _ _ rfl (lC rfl rfl)) hK
     | 2,_=>
       intro o u w1 ho hJ aT K hK
       have ho2:=ho
       obtain rfl:=Option.some.inj ho
       exact jf (by kernel_rfl) ho2 rfl (by decide) (by decide) hJ (upd_same _ _ _) (zx _ _ _ _ _ rfl (lC rfl rfl)) hK
     | 3,_=>
       intro o u w1 ho hJ aT K hK
       have ho2:=ho
       obtain rfl:=Option.some.inj ho
       have e1:u 24 = .slice (some ⟨b,off,none⟩) l.length cap:=aT 1 (by decide +kernel)
       have e2:u 25 = .int .i64 n:=aT 2 (by decide +kernel)
       exact jf (by kernel_rfl) ho2 rfl (by decide) (by decide) hJ (upd_same _ _ _) (I5 _ _ _ _ _ b off l.length cap n hlt rfl ((bi rfl rfl).trans e1) ((bi rfl rfl).trans e2)) hK
     | 4,_=>
       intro o u w1 ho hJ aT K hK
       have ho2:=ho
       obtain rfl:=Option.some.inj ho
       have e1:u 26 = .pointer (some ⟨b,off+n*6,none⟩):=aT 3 (by decide +kernel)
       exact jf (by kernel_rfl) ho2 rfl (by decide) (by decide) hJ (upd_same _ _ _) (Iz _ _ _ b (off+n*6) _ _ _ _ _ _ _ rfl ((bi rfl rfl).trans e1) ((hJ.1.cell Hbl.out).trans Hq.out.1) ((hJ.1.cell Hbl.out).trans Hq.out.2.1) ((hJ.1.cell Hbl.out).trans Hq.out.2.2.1) ((hJ.1.cell Hbl.out).trans Hq.out.2.2.2.1) ((hJ.1.cell Hbl.out).trans Hq.out.2.2.2.2.1) ((hJ.1.cell Hbl.out).trans Hq.out.2.2.2.2.2)) hK
     | 5,_=>
       intro o u w1 ho hJ aT K hK
       have ho2:=ho
       obtain rfl:=Option.some.inj ho
       have e1:u 23 = .agg #[.slice A kk.mods.length ca,.slice M kk.mem.length cm,.slice N kk.nodes.length cn,.slice S kk.pipes.length cs,.slice Q kk.procs.length cq]:=aT 0 (by decide +kernel)
       have e2:u 27 = .agg #[.int .i64 kd,.int .i64 pp,.int .i64 nn,.int .i64 mm,.string ⟨nm.toArray⟩,.string ⟨da.toArray⟩]:=aT 4 (by decide +kernel)
       refine GI 13 _ _ _ rfl _ _ ((bi rfl rfl).trans e1) ((bi rfl rfl).trans e2) Heg.out (HDi.out w1 hJ.1) ?_
       rintro e w' ⟨a2,rfl,hnew,hb⟩
       exact⟨_,rfl,D9 (by kernel_rfl) ho2 rfl hJ hb (fun _ hg=>.inl (mJ (by decide) (by decide) hg)) ⟨a2,upd_same _ _ _,hnew.pr.mono fun b hb=>⟨Nat.le_trans hJ.1.size hb.1,hb.2,fun g hg=>by have:=hJ.2 g (mJ (by decide) (by decide) hg);omega⟩⟩ hK⟩
     | 6,_=>
       intro o u w1 ho hJ aT K hK
       have ho2:=ho
       obtain rfl:=Option.some.inj ho
       obtain⟨a2,e1,h1⟩:=aT 5 (by decide +kernel)
       exact jf (by kernel_rfl) ho2 rfl (by decide) (by decide) hJ ⟨a2,upd_same _ _ _,h1.mono fun b hb=>⟨hb.1,hb.2.1,fun g hg=>hb.2.2 g (mJ (by decide) (by decide) hg)⟩⟩ (zx _ _ _ _ _ rfl ((bi rfl rfl).trans e1)) hK
     | 7,_=>
       intro o u w1 ho hJ aT K hK
       have ho2:=ho
       obtain rfl:=Option.some.inj ho
       obtain⟨a2,e1,h1⟩:=aT 6 (by decide +kernel)
       exact jf (by kernel_rfl) ho2 rfl (by decide) (by decide) hJ ⟨a2,upd_same _ _ _,h1.mono fun b hb=>⟨hb.1,hb.2.1,fun g hg=>hb.2.2 g (mJ (by decide) (by decide) hg)⟩⟩ (zt _ _ _ _ _ _ _ _ 0 rfl rfl ((bi rfl rfl).trans e1)) hK
     | 8,_=>
       intro o u w1 ho hJ aT K hK
       have ho2:=ho
       obtain rfl:=Option.some.inj ho
       obtain⟨a2,e1,_⟩:=aT 6 (by decide +kernel)
       exact jf (by kernel_rfl) ho2 rfl (by decide) (by decide) hJ (upd_same _ _ _) (zt _ _ _ _ _ _ _ _ 1 rfl rfl ((bi rfl rfl).trans e1)) hK
     | 9,_=>
       intro o u w1 ho hJ aT K hK
       have ho2:=ho
       obtain rfl:=Option.some.inj ho
       obtain⟨a2,e1,_⟩:=aT 6 (by decide +kernel)
       exact jf (by kernel_rfl) ho2 rfl (by decide) (by decide) hJ (upd_same _ _ _) (zt _ _ _ _ _ _ _ _ 2 rfl rfl ((bi rfl rfl).trans e1)) hK
     | 10,_=>
       intro o u w1 ho hJ aT K hK
       have ho2:=ho
       obtain rfl:=Option.some.inj ho
       exact dD (Kt _ _ _ rfl) (D9 (by kernel_rfl) ho2 rfl hJ ((Below.refl _ _).alloc (Nat.le_refl _) _) (fun g hg=>by
        rcases hg with hg|hg
        ·cases hg;exact .inr ⟨Nat.le_refl _,by simp⟩
        ·exact .inl (.inr hg)) ⟨_,upd_same _ _ _,⟨_,_,_,_,_,Wb.new w1 ae [.slice none 0 0,.slice none 0 0,.slice none 0 0,.slice none 0 0,.slice none 0 0]⟩,hJ.1.size⟩ hK)
     | 11,_=>
       intro o u w1 ho hJ aT K hK
       have ho2:=ho
       obtain rfl:=Option.some.inj ho
       exact dD (JL _ _ _ rfl) (D9 (by kernel_rfl) ho2 rfl hJ ((Below.refl _ _).alloc (Nat.le_refl _) _) (fun g hg=>by
        rcases hg with hg|hg
        ·exact .inl (.inl hg)
        ·cases hg;exact .inr ⟨Nat.le_refl _,by simp⟩) ⟨_,upd_same _ _ _,⟨_,_,_,Wb.new w1 au [.int .i64 0,.int .i64 0,.string ⟨#[]⟩]⟩,hJ.1.size⟩ hK)
     | 12,_=>
       intro o u w1 ho hJ aT K hK
       have ho2:=ho
       obtain rfl:=Option.some.inj ho
       obtain⟨⟨A2,ca2,M2,cm2,N2,cn2,S2,cs2,Q2,cq2⟩,e1,h1⟩:=aT 7 (by decide +kernel)
       obtain⟨g8,e2,⟨c0,c1,c2,c3,c4,h2⟩,hB⟩:=aT 10 (by decide +kernel)
       exact rE (Jz _ _ _ g8 _ _ c0 c1 c2 c3 c4 A2 M2 N2 S2 Q2 _ _ _ _ _ _ _ _ _ _ rfl ((bi rfl rfl).trans e2) ((bi rfl rfl).trans e1) h2) (hK undef _ ⟨g8,_,e2,h2.pK _ _ _ _ _,hB,(h1.pK (fun b hb=>hb.2.2 g8 (.inl e2)) _ _ _ _ _).mono fun b hb=>⟨hb.1,by rw[sG];exact hb.2.1,hb.2.2⟩⟩ ⟨pJ hJ.1 hB _ _ _ _ _,fun g hg=>by rw[sG];exact hJ.2 g hg⟩ (fun j q _ hj _ h=>h.put8 hj e2 h2 _ _ _ _ _))
     | 13,_=>
       intro o u w1 ho hJ aT K hK
       have ho2:=ho
       obtain rfl:=Option.some.inj ho
       have e1:u 30 = .agg #[.int .i64 dc,.int .i64 dn,.string ⟨ds.toArray⟩]:=aT 8 (by decide +kernel)
       obtain⟨g9,e2,⟨c0,c1,c2,h2⟩,hB⟩:=aT 11 (by decide +kernel)
       exact rE (JE _ _ _ g9 _ _ c0 c1 c2 _ _ _ rfl ((bi rfl rfl).trans e2) ((bi rfl rfl).trans e1) h2) (hK undef _ ⟨g9,e2,h2.pA _ _ _,hB⟩ ⟨Di hJ.1 hB _ _ _,fun g hg=>by rw[xU];exact hJ.2 g hg⟩ (fun j q _ hj _ h=>h.put9 hj e2 h2 _ _ _))
     | 14,_=>
       intro o u w1 ho hJ aT K hK
       have ho2:=ho
       obtain rfl:=Option.some.inj ho
       have e1:u 31 = .int .i64 de:=aT 9 (by decide +kernel)
       exact jf (by kernel_rfl) ho2 rfl (by decide) (by decide) hJ (upd_same _ _ _) (Le _ _ _ _ _ rfl ((bi rfl rfl).trans e1)) hK
     | i+15,hi=>exact absurd hi (by show ¬(i+15<15);omega)
    ·intro u w1 hJ hV
     obtain⟨g8,a2,e8,h8,hB8,hk8⟩:=hV 12 (by decide)
     obtain⟨g9,e9,h9,hB9⟩:=hV 13 (by decide)
     have e10:u 10 = .int .i64 de:=hV 14 (by decide)
     have hcut:Kv wr dk ⟨dc,dn,ds⟩ de (u 8) (u 9) (u 10) w1:=⟨g8,g9,a2,e8,e9,e10,⟨hB8,hB9,h8.other h9 (by decide)⟩,h8,h9,hk8.mono fun b hb=>⟨hb.1,hb.2.2 _ (.inl e8),hb.2.2 _ (.inr e9)⟩,hJ.1⟩
     simp only[bJ,List.contains_cons,List.contains_nil,Nat.reduceAdd,Nat.reduceBEq,Bool.or_false,Bool.or_true,cond_true,cond_false,Nat.zero_add]
     clear e8 e9 e10
     go_wp2_with fail
     go_meet
     exact hcut
   case rest=>
    obtain⟨g8,g9,⟨A2,ca2,M2,cm2,N2,cn2,S2,cs2,Q2,cq2⟩,rfl,rfl,rfl,⟨hB8,hB9,hne⟩,hN5,hA5,hk5,hb5⟩:=hcut
    have n1:g8≠g:=by have:=HT.out.box.lt;omega
    have n2:g9≠g:=by have:=HT.out.box.lt;omega
    have n3:w.heap.size≠g:=Nat.ne_of_lt Hgl.out
    have n4:w.heap.size≠g9:=by have:=HR.out.lt;omega
    have HB:=hid (And.intro hB8 hB9)
    have HK5:=hid (show KPr (fun b=>b≠g∧u6.ownBlock≠some b∧w.heap.size<b) wc ⟨A2,ca2,M2,cm2,N2,cn2,S2,cs2,Q2,cq2⟩ dk from hk5.mono fun b hb=>⟨by have:=HT.out.box.lt;omega,fun he=>by have:=HT.out.own_lt he;omega,by have:=HR.out.lt;omega⟩)
    have HT5:=hid (HT.out.below hb5)
    have HR5:=hid (HR.out.below hb5 HR.out.lt)
    have HN5:=hid (show Wb wc g8 ae [.slice A2 dk.mods.length ca2,.slice M2 dk.mem.length cm2,.slice N2 dk.nodes.length cn2,.slice S2 dk.pipes.length cs2,.slice Q2 dk.procs.length cq2] from hN5)
    have HA5:=hid (show Wb wc g9 au [.int .i64 dc,.int .i64 dn,.string ⟨ds.toArray⟩] from hA5)
    have Hb5:=hid hb5
    have Hne:=hid hne
    clear hN5 hA5 hk5 hb5 HDi Heg HR HO Hq Hbl hne hB8 hB9
    obtain⟨y0,y1,y2,y3,y4,yf,yl⟩:=kY HN5.out
    obtain⟨z0,z1,z2,z3,z4,zf,zl⟩:=kY (show Wb wc g ae [.slice A kk.mods.length ca,.slice M kk.mem.length cm,.slice N kk.nodes.length cn,.slice S kk.pipes.length cs,.slice Q kk.procs.length cq] from HT5.out.box)
    obtain⟨t0,t1,t2,tf,tl⟩:=aS HA5.out
    by_cases he:de=0
    ·subst he
     rw[if_pos rfl]at HNt
     have HT6:=hid (show RunT w g dk an u6 ⟨A2,ca2,M2,cm2,N2,cn2,S2,cs2,Q2,cq2⟩ (((((wc.setCell ⟨g,0,none⟩ (.slice A2 dk.mods.length ca2)).setCell ⟨g,1,none⟩ (.slice M2 dk.mem.length cm2)).setCell ⟨g,2,none⟩ (.slice N2 dk.nodes.length cn2)).setCell ⟨g,3,none⟩ (.slice S2 dk.pipes.length cs2)).setCell ⟨g,4,none⟩ (.slice Q2 dk.procs.length cq2)) from HT5.out.put HK5.out)
     have HA6:=hid (show Wb (((((wc.setCell ⟨g,0,none⟩ (.slice A2 dk.mods.length ca2)).setCell ⟨g,1,none⟩ (.slice M2 dk.mem.length cm2)).setCell ⟨g,2,none⟩ (.slice N2 dk.nodes.length cn2)).setCell ⟨g,3,none⟩ (.slice S2 dk.pipes.length cs2)).setCell ⟨g,4,none⟩ (.slice Q2 dk.procs.length cq2)) g9 au [.int .i64 dc,.int .i64 dn,.string ⟨ds.toArray⟩] from(((((HA5.out.off_ (p:=⟨g,0,none⟩) n2 _).off_ (p:=⟨g,1,none⟩) n2 _).off_ (p:=⟨g,2,none⟩) n2 _).off_ (p:=⟨g,3,none⟩) n2 _).off_ (p:=⟨g,4,none⟩) n2 _))
     have HN6:=hid (show Wb (((((wc.setCell ⟨g,0,none⟩ (.slice A2 dk.mods.length ca2)).setCell ⟨g,1,none⟩ (.slice M2 dk.mem.length cm2)).setCell ⟨g,2,none⟩ (.slice N2 dk.nodes.length cn2)).setCell ⟨g,3,none⟩ (.slice S2 dk.pipes.length cs2)).setCell ⟨g,4,none⟩ (.slice Q2 dk.procs.length cq2)) g8 ae [.slice A2 dk.mods.length ca2,.slice M2 dk.mem.length cm2,.slice N2 dk.nodes.length cn2,.slice S2 dk.pipes.length cs2,.slice Q2 dk.procs.length cq2] from(((((HN5.out.off_ (p:=⟨g,0,none⟩) n1 _).off_ (p:=⟨g,1,none⟩) n1 _).off_ (p:=⟨g,2,none⟩) n1 _).off_ (p:=⟨g,3,none⟩) n1 _).off_ (p:=⟨g,4,none⟩) n1 _))
     have HR6:=hid (show Wb (((((wc.setCell ⟨g,0,none⟩ (.slice A2 dk.mods.length ca2)).setCell ⟨g,1,none⟩ (.slice M2 dk.mem.length cm2)).setCell ⟨g,2,none⟩ (.slice N2 dk.nodes.length cn2)).setCell ⟨g,3,none⟩ (.slice S2 dk.pipes.length cs2)).setCell ⟨g,4,none⟩ (.slice Q2 dk.procs.length cq2)) w.heap.size ae [.slice none 0 0,.slice none 0 0,.slice none 0 0,.slice none 0 0,.slice none 0 0] from(((((HR5.out.off_ (p:=⟨g,0,none⟩) n3 _).off_ (p:=⟨g,1,none⟩) n3 _).off_ (p:=⟨g,2,none⟩) n3 _).off_ (p:=⟨g,3,none⟩) n3 _).off_ (p:=⟨g,4,none⟩) n3 _))
     clear HT5 HK5 HA5 HR5 HN5 HT Hb5 HB
     go_upto_region 12 with fail
     clear y0 y1 y2 y3 y4 yf yl t0 t1 t2 z0 z1 z2 z3 z4 tl tf zl zf n1 n2 n3 n4
     generalize (((((wc.setCell ⟨g,0,none⟩ (.slice A2 dk.mods.length ca2)).setCell ⟨g,1,none⟩ (.slice M2 dk.mem.length cm2)).setCell ⟨g,2,none⟩ (.slice N2 dk.nodes.length cn2)).setCell ⟨g,3,none⟩ (.slice S2 dk.pipes.length cs2)).setCell ⟨g,4,none⟩ (.slice Q2 dk.procs.length cq2))=w6 at *
     obtain⟨t0,t1,t2,tf,tl⟩:=aS HA6.out
     have hb9:Below w6.heap.size w6 (w6.alloc (.cells #[.int .i64 dc,.int .i64 dn,.string ⟨ds.toArray⟩] 34)):=(Below.refl _ _).alloc (Nat.le_refl _) _
     have HT7:=hid (HT6.out.below hb9)
     have HR7:=hid (HR6.out.below hb9 HR6.out.lt)
     have Hsz:=hid HT6.out.keep.size
     have HO7:=hid (show ∀q,(ptr g8=ptr q∨ptr g9=ptr q)→q<(w6.alloc (.cells #[.int .i64 dc,.int .i64 dn,.string ⟨ds.toArray⟩] 34)).heap.size from fun q hq=>by
      have h1:=HN6.out.lt
      have h2:=HA6.out.lt
      rcases hq with h|h<;>cases h<;>simp<;>omega)
     clear HA6 HT6 HR6 hb9 HN6
     go_wp2_with (at_builtin;refine bg rfl _ _ 40 rfl w.heap.size 34 i0 (.agg #[.int .i64 0,.int .i64 0,.string ⟨#[]⟩]) 3 32 Tryz.underlying40 Hi.out H0.out H1.out H2.out rfl (by decide) lh zy _ an.length (an.flatMap aF) rfl HT7.out.row (some ⟨w6.heap.size,0,none⟩) 1 [⟨dc,dn,ds⟩] rfl (yK w6 _ ⟨dc,dn,ds⟩) (by unfold maxLen;simp;omega) (by simp;omega) (Nat.le_trans Hsz.out (by simp)) ?_)
     intro v' w8 hown hgr hat
     have HT8:=hid (HT7.out.grow (x:=⟨dc,dn,ds⟩) hown hgr (by simpa using hat))
     have HR8:=hid (HR7.out.grown hgr (ax HT7.out.row HR7.out (by decide)))
     have HT9:=hid (show RunT w g (Cf.dS Cf.ak (l.take (n+1))).kern (Cf.dS Cf.ak (l.take (n+1))).answers v' _ w8 from by rw[HNx.out,HNt.out];exact HT8.out)
     have HG9:=hid (show Cf.Good (Cf.dS Cf.ak (l.take (n+1))).kern from by rw[HNx.out];exact HGn.out)
     have HO9:=hid (fun q hq=>Nat.lt_of_lt_of_le (HO7.out q hq) hgr.size)
     clear HT7 HR7 hown hgr hat HT8 t0 t1 t2 tf tl HNx HNt HGn HO7
     go_wp2
     go_roundw
     case rel=>exact⟨n+1,_,by omega,by go_num,HT9.out,HR8.out,HG9.out,HO9.out⟩
     case measure=>simp[intOf];omega
    ·have hq:(de == 0)=false:=by rw[beq_eq_false_iff_ne];exact he
     rw[if_neg he]at HNt
     have HT6:=hid (show RunT w g kk an u6 ⟨A,ca,M,cm,N,cn,S,cs,Q,cq⟩ (((wc.setCell ⟨g9,0,none⟩ (.int .i64 de)).setCell ⟨g9,1,none⟩ (.int .i64 0)).setCell ⟨g9,2,none⟩ (.string ⟨#[]⟩)) from HT.out.below (((Hb5.out.setCell (p:=⟨g9,0,none⟩) HB.out.2 _).setCell (p:=⟨g9,1,none⟩) HB.out.2 _).setCell (p:=⟨g9,2,none⟩) HB.out.2 _))
     have HA6:=hid (show Wb (((wc.setCell ⟨g9,0,none⟩ (.int .i64 de)).setCell ⟨g9,1,none⟩ (.int .i64 0)).setCell ⟨g9,2,none⟩ (.string ⟨#[]⟩)) g9 au [.int .i64 de,.int .i64 0,.string ⟨#[]⟩] from((HA5.out.put 0 (.int .i64 de)).put 1 (.int .i64 0)).put 2 (.string ⟨#[]⟩))
     have HN6:=hid (show Wb (((wc.setCell ⟨g9,0,none⟩ (.int .i64 de)).setCell ⟨g9,1,none⟩ (.int .i64 0)).setCell ⟨g9,2,none⟩ (.string ⟨#[]⟩)) g8 ae [.slice A2 dk.mods.length ca2,.slice M2 dk.mem.length cm2,.slice N2 dk.nodes.length cn2,.slice S2 dk.pipes.length cs2,.slice Q2 dk.procs.length cq2] from(((HN5.out.off_ (p:=⟨g9,0,none⟩) Hne.out _).off_ (p:=⟨g9,1,none⟩) Hne.out _).off_ (p:=⟨g9,2,none⟩) Hne.out _))
     have HR6:=hid (show Wb (((wc.setCell ⟨g9,0,none⟩ (.int .i64 de)).setCell ⟨g9,1,none⟩ (.int .i64 0)).setCell ⟨g9,2,none⟩ (.string ⟨#[]⟩)) w.heap.size ae [.slice none 0 0,.slice none 0 0,.slice none 0 0,.slice none 0 0,.slice none 0 0] from(((HR5.out.off_ (p:=⟨g9,0,none⟩) n4 _).off_ (p:=⟨g9,1,none⟩) n4 _).off_ (p:=⟨g9,2,none⟩) n4 _))
     clear HT5 HK5 HA5 HR5 HN5 HT Hb5 HB he y0 y1 y2 y3 y4 yf yl z0 z1 z2 z3 z4 zl zf
     go_upto_region 12 with fail
     clear t0 t1 t2 tl tf n1 n2 n3 n4
     generalize (((wc.setCell ⟨g9,0,none⟩ (.int .i64 de)).setCell ⟨g9,1,none⟩ (.int .i64 0)).setCell ⟨g9,2,none⟩ (.string ⟨#[]⟩))=w6 at *
     obtain⟨t0,t1,t2,tf,tl⟩:=aS HA6.out
     have hb9:Below w6.heap.size w6 (w6.alloc (.cells #[.int .i64 de,.int .i64 0,.string ⟨#[]⟩] 34)):=(Below.refl _ _).alloc (Nat.le_refl _) _
     have HT7:=hid (HT6.out.below hb9)
     have HR7:=hid (HR6.out.below hb9 HR6.out.lt)
     have Hsz:=hid HT6.out.keep.size
     have HO7:=hid (show ∀q,(ptr g8=ptr q∨ptr g9=ptr q)→q<(w6.alloc (.cells #[.int .i64 de,.int .i64 0,.string ⟨#[]⟩] 34)).heap.size from fun q hq=>by
      have h1:=HN6.out.lt
      have h2:=HA6.out.lt
      rcases hq with h|h<;>cases h<;>simp<;>omega)
     clear HA6 HT6 HR6 hb9 HN6
     go_wp2_with (at_builtin;refine bg rfl _ _ 40 rfl w.heap.size 34 i0 (.agg #[.int .i64 0,.int .i64 0,.string ⟨#[]⟩]) 3 32 Tryz.underlying40 Hi.out H0.out H1.out H2.out rfl (by decide) lh zy _ an.length (an.flatMap aF) rfl HT7.out.row (some ⟨w6.heap.size,0,none⟩) 1 [⟨de,0,[]⟩] rfl (yK w6 _ ⟨de,0,[]⟩) (by unfold maxLen;simp;omega) (by simp;omega) (Nat.le_trans Hsz.out (by simp)) ?_)
     intro v' w8 hown hgr hat
     have HT8:=hid (HT7.out.grow (x:=⟨de,0,[]⟩) hown hgr (by simpa using hat))
     have HR8:=hid (HR7.out.grown hgr (ax HT7.out.row HR7.out (by decide)))
     have HT9:=hid (show RunT w g (Cf.dS Cf.ak (l.take (n+1))).kern (Cf.dS Cf.ak (l.take (n+1))).answers v' _ w8 from by rw[HNx.out,HNt.out];exact HT8.out)
     have HG9:=hid (show Cf.Good (Cf.dS Cf.ak (l.take (n+1))).kern from by rw[HNx.out];exact HGn.out)
     have HO9:=hid (fun q hq=>Nat.lt_of_lt_of_le (HO7.out q hq) hgr.size)
     clear HT7 HR7 hown hgr hat HT8 t0 t1 t2 tf tl HNx HNt HGn HO7
     go_wp2
     go_roundw
     case rel=>exact⟨n+1,_,by omega,by go_num,HT9.out,HR8.out,HG9.out,HO9.out⟩
     case measure=>simp[intOf];omega
  ·obtain rfl:n=l.length:=by omega
   generalize (Cf.dS Cf.ak (l.take l.length)).kern=kk at *
   generalize (Cf.dS Cf.ak (l.take l.length)).answers=an at *
   obtain⟨A5,c5,rfl⟩:=aP HT.out.row
   obtain⟨z0,z1,z2,z3,z4,zf,zl⟩:=kY (show Wb wr g ae [.slice A kk.mods.length ca,.slice M kk.mem.length cm,.slice N kk.nodes.length cn,.slice S kk.pipes.length cs,.slice Q kk.procs.length cq] from HT.out.box)
   obtain⟨r0,r1,r2,r3,r4,rf,rl⟩:=kY HR.out
   have n3:g≠w.heap.size:=Ne.symm (Nat.ne_of_lt Hgl.out)
   have Ho:=hid (ax HT.out.row HR.out (by decide))
   clear hlt hn HO
   go_wp2_with fail
   go_region
   all_goals
    go_wp2
    refine bodyPost_ret (v:=.tuple #[.slice A5 an.length c5,.agg #[.slice A kk.mods.length ca,.slice M kk.mem.length cm,.slice N kk.nodes.length cn,.slice S kk.pipes.length cs,.slice Q kk.procs.length cq],.int .i64 0]) (by simp[results,Tryz.results16,go_sem,r0,r1,r2,r3,r4]) rfl ?_
    refine⟨A5,c5,⟨A,ca,M,cm,N,cn,S,cs,Q,cq⟩,rfl,?_,rC HT.out.row,?_,?_⟩
    ·refine jm (base:=w.heap.size) (e:=au) (cap:=c5) lh (own_below ?_ (Below.refl _ _).drew)
     iterate 5 refine aj ?_ Ho.out _
     exact HT.out.row
    ·refine⟨Io HT.out.row,?_⟩
     refine KPr.mono (P:=fun b=>b≠g∧(Value.slice A5 an.length c5).ownBlock≠some b∧w.heap.size<b) ?_ (fun b hb=>Nat.le_of_lt hb.2.2)
     refine KPr.kept (P:=fun b=>b≠g∧(Value.slice A5 an.length c5).ownBlock≠some b∧w.heap.size<b) ?_ (fO.below (Below.refl _ _).drew)
     iterate 5 refine KPr.kept ?_ (fO.set (fun b hb=>by omega) _ _)
     exact HT.out.rows
    ·exact(pJ HT.out.keep (Nat.le_refl _) _ _ _ _ _).drew
end
end Go.Proofs.YtnnhhbjbdmgpiaaGreatDoor
