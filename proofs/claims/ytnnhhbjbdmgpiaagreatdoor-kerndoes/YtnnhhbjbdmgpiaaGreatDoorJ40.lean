/- Texts of the proofs: RefG. -/
import Derived.Test.YtnnhhbjbdmgpiaaGreatDoorJ39
set_option linter.unusedSimpArgs false
set_option linter.unusedVariables false
namespace Go.Proofs.YtnnhhbjbdmgpiaaGreatDoor
set_option maxRecDepth 100000
set_option maxHeartbeats 4000000
open Lib (hid)
section
open Go.RowKit
def gpo(i:Nat):Oper:=match i with
 | 0=>⟨some 41,.fieldAddr 28 (Operand.tmp 3) 4,0, "kern.go:109",#[],none⟩
 | 1=>⟨some 42,.load 26 (Operand.tmp 41),26, "kern.go:109",#[⟨0,.data⟩],none⟩
 | 2=>⟨some 43,.fieldAddr 28 (Operand.tmp 1) 4,0, "kern.go:109",#[],none⟩
 | 3=>⟨some 44,.load 26 (Operand.tmp 43),26, "kern.go:109",#[⟨2,.data⟩],none⟩
 | 4=>⟨some 45,.move (Operand.tmp 5),3, "kern.go:109",#[],none⟩
 | 5=>⟨some 46,.indexAddr 26 (Operand.tmp 44) (Operand.tmp 45),0, "kern.go:109",#[⟨3,.data⟩,⟨4,.data⟩],none⟩
 | 6=>⟨some 47,.fieldAddr 69 (Operand.tmp 46) 0,0, "kern.go:109",#[⟨5,.data⟩],none⟩
 | 7=>⟨some 48,.load 4 (Operand.tmp 47),4, "kern.go:109",#[⟨6,.data⟩],none⟩
 | 8=>⟨some 49,.fieldAddr 28 (Operand.tmp 1) 4,0, "kern.go:109",#[],none⟩
 | 9=>⟨some 50,.load 26 (Operand.tmp 49),26, "kern.go:109",#[⟨8,.data⟩],none⟩
 | 10=>⟨some 51,.move (Operand.tmp 5),3, "kern.go:109",#[],none⟩
 | 11=>⟨some 52,.indexAddr 26 (Operand.tmp 50) (Operand.tmp 51),0, "kern.go:109",#[⟨9,.data⟩,⟨10,.data⟩],none⟩
 | 12=>⟨some 53,.fieldAddr 69 (Operand.tmp 52) 1,0, "kern.go:109",#[⟨11,.data⟩],none⟩
 | 13=>⟨some 54,.load 67 (Operand.tmp 53),67, "kern.go:109",#[⟨12,.data⟩],none⟩
 | 14=>⟨some 55,.call { callee:=Callee.builtin Builtin.append,args:=#[Operand.const (Value.slice none 0 0),Operand.tmp 54],argTypes:=#[67,67] },67, "kern.go:109",#[⟨13,.data⟩],none⟩
 | 15=>⟨some 56,.build 69 #[(0,Operand.tmp 48),(1,Operand.tmp 55)],69, "kern.go:109",#[⟨7,.data⟩,⟨14,.data⟩],none⟩
 | 16=>⟨some 57,.buildSlice 26 1 #[(0,Operand.tmp 56)],26, "kern.go:109",#[⟨15,.data⟩],none⟩
 | 17=>⟨some 58,.call { callee:=Callee.builtin Builtin.append,args:=#[Operand.tmp 42,Operand.tmp 57],argTypes:=#[26,26] },26, "kern.go:109",#[⟨1,.data⟩,⟨16,.data⟩,⟨14,.chain⟩],none⟩
 | 18=>⟨some 59,.fieldAddr 28 (Operand.tmp 3) 4,0, "kern.go:109",#[⟨0,.phase⟩,⟨1,.phase⟩,⟨2,.phase⟩,⟨3,.phase⟩,⟨4,.phase⟩,⟨5,.phase⟩,⟨6,.phase⟩,⟨7,.phase⟩,⟨8,.phase⟩,⟨9,.phase⟩,⟨10,.phase⟩,⟨11,.phase⟩,⟨12,.phase⟩,⟨13,.phase⟩,⟨14,.phase⟩,⟨15,.phase⟩,⟨16,.phase⟩,⟨17,.phase⟩],none⟩
 | _=>⟨none,.store 26 (Operand.tmp 59) (Operand.tmp 58),0, "kern.go:109",#[⟨18,.data⟩,⟨17,.data⟩,⟨17,.chain⟩,⟨0,.phase⟩,⟨1,.phase⟩,⟨2,.phase⟩,⟨3,.phase⟩,⟨4,.phase⟩,⟨5,.phase⟩,⟨6,.phase⟩,⟨7,.phase⟩,⟨8,.phase⟩,⟨9,.phase⟩,⟨10,.phase⟩,⟨11,.phase⟩,⟨12,.phase⟩,⟨13,.phase⟩,⟨14,.phase⟩,⟨15,.phase⟩,⟨16,.phase⟩,⟨17,.phase⟩],none⟩
theorem iE{α:Type}{enc:α→List Value}{P:Program}{w:World}{ops:Array Oper}{o:Oper}{a:Act}{K:Act→World→Prop}{Q:Exit→Act→World→Prop}{E:Prop}(hgd:o.guard=none)(x:Operand)(t:TypeId)(ho:o.op = .call { callee:=.builtin .append,args:=#[.const (.slice none 0 0),x],argTypes:=#[t,t] })
  (e:TypeId) (i:TypeInfo) (z:Value) (size bytes:Nat) (ht:P.underlying t=some (.slice e)) (hi:P.info? e=some i) (hz:i.zero=some z)
  (hsize:i.size=size) (hby:i.bytes=bytes) (hzs:z.cells.size=size) (hsz:0<size) (henc:∀x,(enc x).length=size) (hone:∀x,∀u∈enc x,u.oneCell'=true)
  (A:Option Addr) (c:Nat) (l:List α) (hx:a.eval x = .slice A l.length c) (hr:RdS size enc w A l) (h63:l.length≤maxLen) (hbytes:l.length*bytes≤140737488355328)
  (h:∀A' c' w',Nw size enc w' e w.heap.size A' l→Below w.heap.size w w'→l.length≤c'→K (a.put o.dst (.slice A' l.length c')) w'):
  if Region.wanted o (yielded ops a.tmps)=true then Oper.wp P o a w K Q else E:=by
 obtain⟨A',c',w',hrun,h2,h3,h4⟩:=uU (P:=P) w t o.type e i z size bytes ht hi hz hsize hby hzs hsz henc hone A c l hr h63 hbytes
 exact ng hgd (.const (.slice none 0 0)) x t ho _ _ rfl hx _ _ hrun (h A' c' w' h2 h3 h4)
theorem KQ(x:Cf.Node):∀u∈dA x,u.oneCell'=true:=by
 intro u hu
 simp[dA]at hu
 rcases hu with rfl|rfl|rfl|rfl<;>rfl
theorem LJ(x:List UInt8):∀u∈iC x,u.oneCell'=true:=by
 intro u hu
 simp[iC]at hu
 subst hu
 rfl
theorem Ja(n:List UInt8)(l:List Cf.Ins)(d:List Int)(A B:Option Addr)(ca cb:Nat)(w:World)(hC:bP w A l)(hD:Ints w B d)(hl:l.length≤maxLen)(hd:d.length≤maxLen)(hlb:l.length*32≤140737488355328)(hdb:d.length*8≤140737488355328):
  Calls Tryz.prog 36 #[.agg #[.string ⟨n.toArray⟩,.slice A l.length ca,.slice B d.length cb]] w (CG n l d w):=by
 obtain⟨i1,hi1,hy0,hy1,hy2⟩:=info_parts DN
 obtain⟨i0,hi,hz0,hz1,hz2⟩:=info_parts uk
 have Hi:=hid hi
 have Hz0:=hid hz0
 have Hz1:=hid hz1
 have Hz2:=hid hz2
 have Hi1:=hid hi1
 have Hy0:=hid hy0
 have Hy1:=hid hy1
 have Hy2:=hid hy2
 have HC:=hid hC
 have HD:=hid hD
 clear hi hz0 hz1 hz2 hi1 hy0 hy1 hy2 hC hD
 go_enter Tryz.func36,Tryz.ntmps36
 go_wp2_with fail
 have hb0:Below w.heap.size w ((w.alloc (.cells #[.string ⟨n.toArray⟩,.slice A l.length ca,.slice B d.length cb] 79)).alloc (.cells #[.string ⟨#[]⟩,.slice none 0 0,.slice none 0 0] 79)):=((Below.refl _ _).alloc (Nat.le_refl _) _).alloc (by simp) _
 have hx0:=(Wb.new w 79 [.string ⟨n.toArray⟩,.slice A l.length ca,.slice B d.length cb]).alloc (.cells #[.string ⟨#[]⟩,.slice none 0 0,.slice none 0 0] 79)
 have hx1:Wb ((w.alloc (.cells #[.string ⟨n.toArray⟩,.slice A l.length ca,.slice B d.length cb] 79)).alloc (.cells #[.string ⟨#[]⟩,.slice none 0 0,.slice none 0 0] 79)) (w.heap.size+1) 79 [.string ⟨#[]⟩,.slice none 0 0,.slice none 0 0]:=by
  have:=Wb.new (w.alloc (.cells #[.string ⟨n.toArray⟩,.slice A l.length ca,.slice B d.length cb] 79)) 79 [.string ⟨#[]⟩,.slice none 0 0,.slice none 0 0]
  simpa using this
 have HCB:=hid (HC.out.below hb0)
 have HDB:=hid (HD.out.below hb0)
 have HB0:=hid hb0
 have Hx0:=hid hx0
 have Hx1:=hid hx1
 clear hb0 HC HD hx0 hx1
 generalize (w.alloc (.cells #[.string ⟨n.toArray⟩,.slice A l.length ca,.slice B d.length cb] 79)).alloc (.cells #[.string ⟨#[]⟩,.slice none 0 0,.slice none 0 0] 79)=wb at *
 obtain⟨c0,c1,c2, -, -⟩:=aS Hx0.out
 have HSk:Hid (∀W:World,Below wb.heap.size wb W→W.cell? ⟨w.heap.size,0,none⟩=some (.string ⟨n.toArray⟩)∧W.cell? ⟨w.heap.size,1,none⟩=some (.slice A l.length ca)∧W.cell? ⟨w.heap.size,2,none⟩=some (.slice B d.length cb)):=
  hid (fun W hW=>⟨((Hx0.out.below hW Hx0.out.lt).cell 0),((Hx0.out.below hW Hx0.out.lt).cell 1),((Hx0.out.below hW Hx0.out.lt).cell 2)⟩)
 have hBr:Below wb.heap.size wb wb:=Below.refl _ _
 go_region_held3 (fun W=>W.cell? ⟨w.heap.size,0,none⟩=some (.string ⟨n.toArray⟩)∧W.cell? ⟨w.heap.size,1,none⟩=some (.slice A l.length ca)∧W.cell? ⟨w.heap.size,2,none⟩=some (.slice B d.length cb))
  (first|go_keep|exact HSk.out _ (by repeat (first|assumption|apply aA|apply aB)))
  (first
    | (refine iE (by rfl) (.tmp 6) 77 (by rfl) 121 i0 (.agg #[.int .i64 0,.int .i64 0,.int .i64 0,.int .i64 0]) 4 32 Tryz.underlying77 Hi.out Hz0.out Hz1.out Hz2.out rfl (by decide) lZ DU A ca l (by rfl) (HCB.out.below (by repeat (first|assumption|apply aA|apply aB))) hl hlb ?_
       intro A2 c2' w2 hR2 hb2 _
       have hF2:=hR2.mono (ji (a:=wb) (by repeat (first|assumption|apply aA|apply aB)))
       have hB2:=bY (a:=wb) (by repeat (first|assumption|apply aA|apply aB)) hb2)
    | (refine iE (by rfl) (.tmp 9) 23 (by rfl) 3 i1 (.int .i64 0) 1 8 Tryz.underlying23 Hi1.out Hy0.out Hy1.out Hy2.out rfl (by decide) dL uG B cb d (by rfl) (HDB.out.below (by repeat (first|assumption|apply aA|apply aB))) hd hdb ?_
       intro A3 c3' w3 hR3 hb3 _
       have hF3:=hR3.mono (ji (a:=wb) (by repeat (first|assumption|apply aA|apply aB)))
       have hB3:=bY (a:=wb) (by repeat (first|assumption|apply aA|apply aB)) hb3
       have hx3:=Hx1.out.below hB3 Hx1.out.lt
       obtain⟨k0,k1,k2, -, -⟩:=aS hx3
       have f0:=hx3.open_ 0
       have f1:=hx3.open_ 1
       have f2:=hx3.open_ 2
       obtain⟨m0,m1,m2⟩:=HSk.out _ hB3
       clear hx3)
    | fail)
 all_goals
  go_wp2
  refine bodyPost_ret (v:=.agg #[.string ⟨n.toArray⟩,.slice A2 l.length c2',.slice A3 d.length c3']) (by simp[results,Tryz.results36,go_sem,k0,k1,k2]) rfl ?_
  exact vV c2' c3' _ _ _ HB0.out Hx1.out.lt (hF2.below (bY (a:=w2) (by repeat (first|exact Below.refl _ _|apply aA|apply aB)) hb3)) hF3 hB3
def KBx(wb:World)(g:Nat)(w:World):Prop:=Wb w g ae kz∧wb.heap.size≤g
theorem KBx.next{wb w w':World}{g:Nat}(h:KBx wb g w)(hb:Below w.heap.size w w'):KBx wb g w':=⟨h.1.below hb h.1.lt,h.2⟩
theorem KBx.a{wb w0 w':World}(hb:Below (w0.alloc (.cells #[.slice none 0 0,.slice none 0 0,.slice none 0 0,.slice none 0 0,.slice none 0 0] ae)).heap.size (w0.alloc (.cells #[.slice none 0 0,.slice none 0 0,.slice none 0 0,.slice none 0 0,.slice none 0 0] ae)) w')(hB:Below wb.heap.size wb w0):KBx wb w0.heap.size w':=⟨(Wb.new w0 ae kz).below hb (by simp),hB.size⟩
theorem KBx.d{wb w0 w':World}(hb:Below (w0.alloc (.cells #[.slice none 0 0,.slice none 0 0,.slice none 0 0,.slice none 0 0,.slice none 0 0] ae)).drew.heap.size (w0.alloc (.cells #[.slice none 0 0,.slice none 0 0,.slice none 0 0,.slice none 0 0,.slice none 0 0] ae)).drew w')(hB:Below wb.heap.size wb w0):KBx wb w0.heap.size w':=⟨((Wb.new w0 ae kz).draw 1).below hb (by simp),hB.size⟩
theorem KBx.put5{wb w:World}{g:Nat}(h:KBx wb g w)(hB:Below wb.heap.size wb w)(v0 v1 v2 v3 v4:Value):Below wb.heap.size wb (((((w.setCell ⟨g,0,none⟩ v0).setCell ⟨g,1,none⟩ v1).setCell ⟨g,2,none⟩ v2).setCell ⟨g,3,none⟩ v3).setCell ⟨g,4,none⟩ v4):=
 ((((hB.setCell (p:=⟨g,0,none⟩) h.2 _).setCell (p:=⟨g,1,none⟩) h.2 _).setCell (p:=⟨g,2,none⟩) h.2 _).setCell (p:=⟨g,3,none⟩) h.2 _).setCell (p:=⟨g,4,none⟩) h.2 _
def CpG(wb:World)(mem:List Int)(nodes:List Cf.Node)(pipes:List (List UInt8))(v:Value)(w:World):Prop:=∃g M c2 N c3 S c4,v = .pointer (some ⟨g,0,none⟩)∧CpS wb.heap.size wb g ⟨none,0,M,c2,N,c3,S,c4,none,0⟩ [] [] mem nodes pipes [] w
section
variable {wb w:World} {mem:List Int} {nodes:List Cf.Node} {pipes:List (List UInt8)} {M N S:Option Addr} {c2 c3 c4:Nat}
theorem JF(h2:Nw 1 encZ w fD wb.heap.size M mem)(h3:Nw 4 dA w bu wb.heap.size N nodes)(h4:Nw 1 iC w lX wb.heap.size S pipes)(hB:Below wb.heap.size wb w)(hc:mem.length≤c2):
  CpG wb mem nodes pipes (.pointer (some ⟨w.heap.size,0,none⟩)) (w.alloc (.cells #[.slice none 0 0,.slice M mem.length c2,.slice N nodes.length c3,.slice S pipes.length c4,.slice none 0 0] ae)):=by
 have hb:=(Below.refl w.heap.size w).alloc (Nat.le_refl _) (.cells #[.slice none 0 0,.slice M mem.length c2,.slice N nodes.length c3,.slice S pipes.length c4,.slice none 0 0] ae)
 exact⟨w.heap.size,M,c2,N,c3,S,c4,rfl,⟨Wb.new w ae [.slice none 0 0,.slice M mem.length c2,.slice N nodes.length c3,.slice S pipes.length c4,.slice none 0 0],World.ownsRow_nil _ _ _ _,Each.nil,h2.below hb,h3.below hb,h4.below hb,.inl rfl,hB.size,by have:=hB.size;simp;omega,hB.trans (hb.mono hB.size),(fun x hx=>by cases hx),hc⟩⟩
theorem JZ{g:Nat}(hx:KBx wb g w)(h2:Nw 1 encZ w fD wb.heap.size M mem)(h3:Nw 4 dA w bu wb.heap.size N nodes)(h4:Nw 1 iC w lX wb.heap.size S pipes)(hB:Below wb.heap.size wb w)(hc:mem.length≤c2):
  CpG wb mem nodes pipes (.pointer (some ⟨g,0,none⟩)) (((((w.setCell ⟨g,0,none⟩ (.slice none 0 0)).setCell ⟨g,1,none⟩ (.slice M mem.length c2)).setCell ⟨g,2,none⟩ (.slice N nodes.length c3)).setCell ⟨g,3,none⟩ (.slice S pipes.length c4)).setCell ⟨g,4,none⟩ (.slice none 0 0)):=by
 obtain⟨hg,hlo⟩:=hx
 exact⟨g,M,c2,N,c3,S,c4,rfl,⟨((((hg.put 0 (.slice none 0 0)).put 1 (.slice M mem.length c2)).put 2 (.slice N nodes.length c3)).put 3 (.slice S pipes.length c4)).put 4 (.slice none 0 0),World.ownsRow_nil _ _ _ _,Each.nil,h2.five hg (by decide) _ _ _ _ _,h3.five hg (by decide) _ _ _ _ _,h4.five hg (by decide) _ _ _ _ _,.inl rfl,hlo,by simpa [World.setCell] using hB.size,((((hB.setCell (p:=⟨g,0,none⟩) hlo _).setCell (p:=⟨g,1,none⟩) hlo _).setCell (p:=⟨g,2,none⟩) hlo _).setCell (p:=⟨g,3,none⟩) hlo _).setCell (p:=⟨g,4,none⟩) hlo _,(fun x hx=>by cases hx),hc⟩⟩
end
theorem vk(w:World)(t:TypeId)(x:PV):RdS 2 bG (w.alloc (.cells #[.bool x.live,.slice x.A x.le x.ce] t)) (some ⟨w.heap.size,0,none⟩) [x]:=
 .inr ⟨w.heap.size,0,rfl,by simp,fun k y hy j u hu=>by
  cases k with
  | succ k=>simp at hy
  | zero=>
    simp at hy
    subst hy
    have h:=(Wb.new w t (bG x)).cell j
    rw[hu]at h
    simpa [bG] using h⟩
theorem wB(x:PV):∀u∈bG x,u.oneCell'=true:=by
 intro u hu
 simp[bG]at hu
 rcases hu with rfl|rfl<;>rfl
theorem wz{w:World}{B1 B2:Nat}{e1 e2:TypeId}{s1 s2 n1 n2:Nat}{v1 v2:Value}{l1 l2:List Value}(h1:w.ownsRow B1 e1 s1 v1 n1 l1)(h2:w.ownsRow B2 e2 s2 v2 n2 l2)(hne:e1≠e2):v1.ownBlock=none∨v1.ownBlock≠v2.ownBlock:=by
 rcases h1.2 with ⟨rfl,_⟩|⟨g,cap,cur,rfl,_,hh,_⟩
 ·exact .inl rfl
 ·exact .inr (fun he=>ax h2 (show Wb w g e1 cur.toList by unfold Wb;simpa using hh) (Ne.symm hne) (he.symm.trans rfl))
def ApP(qs:List PV):Prop:=∀(i j:Nat) (x y:PV),qs[i]?=some x→qs[j]?=some y→i≠j→x.le=0∨y.le=0∨x.A≠y.A
structure CpP(B:Nat)(wb:World)(g:Nat)(a:KA)(ys:List MV)(mods:List Cf.Mod)(mem:List Int)(nodes:List Cf.Node)(pipes:List (List UInt8))(procs:List Cf.dR)(qs:List PV)(w:World):Prop where
 st:CpS B wb g a ys mods mem nodes pipes qs w
 row:w.ownsRow B jL 2 (.slice a.Q qs.length a.cq) qs.length (qs.flatMap bG)
 each:Each (OwP B w) qs procs
 ap:ApP qs
section
variable {B:Nat} {wb:World} {g:Nat} {a:KA} {ys:List MV} {mods:List Cf.Mod} {mem:List Int} {nodes:List Cf.Node} {pipes:List (List UInt8)} {procs:List Cf.dR} {qs:List PV} {w w1 w':World}
theorem CpP.below(h:CpP B wb g a ys mods mem nodes pipes procs qs w)(hb:Below w.heap.size w w'):CpP B wb g a ys mods mem nodes pipes procs qs w':=⟨h.st.below hb,own_below h.row hb,h.each.mono fun _ _ h=>h.below hb,h.ap⟩
theorem CpP.own{k:Cf.ag}(h:CpP B wb g a ys k.mods k.mem k.nodes k.pipes k.procs qs w):nU B a ys qs k w:=⟨h.st.row,h.st.each,h.st.mem,h.st.nodes,h.st.pipes,h.st.procs,h.each,h.ap,h.st.dat,h.st.capM⟩
theorem CpP.ap_new(h:CpP B wb g a ys mods mem nodes pipes procs qs w){A2:Option Addr}{es:List Cf.End}{lv:Bool}{c:Nat}(hN:Nw 3 bH w1 fP w.heap.size A2 es):ApP (qs++[⟨lv,A2,es.length,c⟩]):=by
 have key:∀(j:Nat) (y:PV),qs[j]?=some y→y.le=0∨es.length=0∨y.A≠A2:=by
  intro j y hy
  obtain⟨r,hr⟩:∃r,procs[j]?=some r:=⟨_,List.getElem?_eq_getElem (by rw[← h.each.1];exact(List.getElem?_eq_some_iff.1 hy).1)⟩
  obtain⟨_,f2,f3,_⟩:=h.each.2 j y r hy hr
  rcases f3 with f3|⟨b1,f3,_,f4⟩
  ·exact .inl (by rw[f2,f3];rfl)
  ·rcases hN with hN|⟨b',hN,hb',_⟩
   ·exact .inr (.inl (by rw[hN];rfl))
   ·refine .inr (.inr ?_)
    rw[f3,hN]
    intro he
    cases he
    have:=f4.lt
    omega
 have part:∀(i:Nat) (x:PV),(qs++[⟨lv,A2,es.length,c⟩])[i]?=some x→(i<qs.length∧qs[i]?=some x)∨(i=qs.length∧x=⟨lv,A2,es.length,c⟩):=by
  intro i x hx
  by_cases hi:i<qs.length
  ·rw[List.getElem?_append_left hi]at hx
   exact .inl ⟨hi,hx⟩
  ·have hl:=(List.getElem?_eq_some_iff.1 hx).1
   rw[List.length_append,List.length_singleton]at hl
   obtain rfl:i=qs.length:=by omega
   rw[List.getElem?_append_right (Nat.le_refl _),Nat.sub_self]at hx
   exact .inr ⟨rfl,(Option.some.inj hx).symm⟩
 intro i j x y hx hy hij
 rcases part i x hx with ⟨_,hx⟩|⟨hi,rfl⟩<;>rcases part j y hy with ⟨_,hy⟩|⟨hj,rfl⟩
 ·exact h.ap i j x y hx hy hij
 ·rcases key i x hx with h0|h0|h0
  ·exact .inl h0
  ·exact .inr (.inl h0)
  ·exact .inr (.inr h0)
 ·rcases key j y hy with h0|h0|h0
  ·exact .inr (.inl h0)
  ·exact .inl h0
  ·exact .inr (.inr (Ne.symm h0))
 ·omega
theorem CpP.add(h:CpP B wb g a ys mods mem nodes pipes procs qs w){x:PV}{p:Cf.dR}(hx:OwP B w x p)(hap:ApP (qs++[x])){A':Option Addr}{c':Nat}(hg:w.grownBy w' (Value.slice a.Q qs.length a.cq).ownBlock)
  (hown:w'.ownsRow B jL 2 (.slice A' (qs.length+1) c') (qs.length+1) (qs.flatMap bG++[x].flatMap bG)):CpP B wb g { a with Q:=A',cq:=c' } ys mods mem nodes pipes (procs++[p]) (qs++[x]) (w'.setCell ⟨g,4,none⟩ (.slice A' (qs.length+1) c')):=by
 have hbox:=h.st.box.grown hg (ax h.row h.st.box (by decide))
 have key:∀ {α:Type} {sz:Nat} {enc:α→List Value} {t:TypeId} {A:Option Addr} {l:List α},Nw sz enc w t B A l→jL≠t→t≠ae→Nw sz enc (w'.setCell ⟨g,4,none⟩ (.slice A' (qs.length+1) c')) t B A l:=fun hN h1 h2=>(hN.grownR h.row h1 hg).offW hbox h2 4 _
 have hM:∀y n,OwM B w y n→OwM B (w'.setCell ⟨g,4,none⟩ (.slice A' (qs.length+1) c')) y n:=fun y n hy=>⟨hy.1,hy.2.1,hy.2.2.1,key hy.2.2.2.1 (by decide) (by decide),key hy.2.2.2.2 (by decide) (by decide)⟩
 have hP:∀y n,OwP B w y n→OwP B (w'.setCell ⟨g,4,none⟩ (.slice A' (qs.length+1) c')) y n:=fun y n hy=>⟨hy.1,hy.2.1,key hy.2.2.1 (by decide) (by decide),hy.2.2.2⟩
 have hrow:(w'.setCell ⟨g,4,none⟩ (.slice A' (qs.length+1) c')).ownsRow B jL 2 (.slice A' (qs++[x]).length c') (qs++[x]).length ((qs++[x]).flatMap bG):=by
  rw[List.length_append,List.flatMap_append]
  exact aj hown (ax hown hbox (by decide)) _
 refine⟨⟨?_,aj (World.ownsRow.kept h.st.row hg (wz h.st.row h.row (by decide))) (ax (World.ownsRow.kept h.st.row hg (wz h.st.row h.row (by decide))) hbox (by decide)) _,h.st.each.mono hM,key h.st.mem (by decide) (by decide),key h.st.nodes (by decide) (by decide),key h.st.pipes (by decide) (by decide),IG jw hrow,h.st.lo,?_,(h.st.keep.grown hg h.st.room (fun k hk=>bZ h.row k hk)).setCell h.st.lo _,h.st.dat,h.st.capM⟩,hrow,(h.each.mono hP).snoc (hP _ _ hx),hap⟩
 ·have:=hbox.put 4 (.slice A' (qs.length+1) c')
  rw[List.length_append]
  exact this
 ·have h1:=hg.size
  have h2:=h.st.room
  simp
  omega
end
theorem nK(k:Cf.ag)(a:KA)(w:World)(hA:KRd w a k)(hf:kU k):
  Calls Tryz.prog 11 #[.agg (af a k).toArray] w (KCp k w):=by
 obtain⟨i1,hi1,hz1,hs1,hy1⟩:=info_parts DZ
 obtain⟨i2,hi2,hz2,hs2,hy2⟩:=info_parts DR
 obtain⟨i3,hi3,hz3,hs3,hy3⟩:=info_parts Eg
 obtain⟨i4,hi4,hz4,hs4,hy4⟩:=info_parts Ec
 obtain⟨i5,hi5,hz5,hs5,hy5⟩:=info_parts D8
 obtain⟨i6,hi6,hz6,hs6,hy6⟩:=info_parts vP
 have Hi1:=hid hi1
 have Hz1:=hid hz1
 have Hs1:=hid hs1
 have Hy1:=hid hy1
 have Hi2:=hid hi2
 have Hz2:=hid hz2
 have Hs2:=hid hs2
 have Hy2:=hid hy2
 have Hi3:=hid hi3
 have Hz3:=hid hz3
 have Hs3:=hid hs3
 have Hy3:=hid hy3
 have Hi4:=hid hi4
 have Hz4:=hid hz4
 have Hs4:=hid hs4
 have Hy4:=hid hy4
 have Hi5:=hid hi5
 have Hz5:=hid hz5
 have Hs5:=hid hs5
 have Hy5:=hid hy5
 have Hi6:=hid hi6
 have Hz6:=hid hz6
 have Hs6:=hid hs6
 have Hy6:=hid hy6
 clear hi6 hz6 hs6 hy6 hi1 hz1 hs1 hy1 hi2 hz2 hs2 hy2 hi3 hz3 hs3 hy3 hi4 hz4 hs4 hy4 hi5 hz5 hs5 hy5
 have HF:=hid hf
 obtain⟨A,ca,M,cm,N,cn,S,cs,Q,cq⟩:=a
 obtain⟨mods,mem,nodes,pipes,procs⟩:=k
 obtain⟨⟨xs,hxs,hxm⟩,hmem,hnodes,hpipes,⟨ps,hps,hpp⟩,_⟩:=hA
 simp only at hxs hxm hmem hnodes hpipes hps hpp
 have f0:mods.length≤big:=hf.mods
 have f1:mem.length≤big:=hf.mem
 have f2:nodes.length≤big:=hf.nodes
 have f3:pipes.length≤big:=hf.pipes
 have f4:ps.length≤big:=by rw[hpp.1];exact hf.procs
 have g0:mods.length*64≤140737488355328:=hf.wt.1.1
 have g1:mem.length*8≤140737488355328:=hf.wt.1.2.1
 have g2:nodes.length*48≤140737488355328:=hf.wt.1.2.2.1
 have g3:pipes.length*16≤140737488355328:=hf.wt.1.2.2.2.1
 have g4:ps.length*32≤140737488355328:=by rw[hpp.1];exact hf.wt.1.2.2.2.2
 clear hf
 have hk0:af ⟨A,ca,M,cm,N,cn,S,cs,Q,cq⟩ ⟨mods,mem,nodes,pipes,procs⟩=[.slice A mods.length ca,.slice M mem.length cm,.slice N nodes.length cn,.slice S pipes.length cs,.slice Q ps.length cq]:=by
  unfold af
  rw[hpp.1]
 rw[hk0]
 clear hk0
 have hx0:=(Wb.new w ae [.slice A mods.length ca,.slice M mem.length cm,.slice N nodes.length cn,.slice S pipes.length cs,.slice Q ps.length cq]).alloc (.cells #[.slice none 0 0,.slice none 0 0,.slice none 0 0,.slice none 0 0,.slice none 0 0] ae)
 have hx1:Wb ((w.alloc (.cells #[.slice A mods.length ca,.slice M mem.length cm,.slice N nodes.length cn,.slice S pipes.length cs,.slice Q ps.length cq] ae)).alloc (.cells #[.slice none 0 0,.slice none 0 0,.slice none 0 0,.slice none 0 0,.slice none 0 0] ae)) (w.heap.size+1) ae kz:=by
  have:=Wb.new (w.alloc (.cells #[.slice A mods.length ca,.slice M mem.length cm,.slice N nodes.length cn,.slice S pipes.length cs,.slice Q ps.length cq] ae)) ae kz
  simpa [kz] using this
 have hb0:Below w.heap.size w ((w.alloc (.cells #[.slice A mods.length ca,.slice M mem.length cm,.slice N nodes.length cn,.slice S pipes.length cs,.slice Q ps.length cq] ae)).alloc (.cells #[.slice none 0 0,.slice none 0 0,.slice none 0 0,.slice none 0 0,.slice none 0 0] ae)):=((Below.refl _ _).alloc (Nat.le_refl _) _).alloc (by simp) _
 have HX:=hid hx0
 have HX1:=hid hx1
 have HB0:=hid hb0
 have HXS:=hid (hxs.below hb0)
 have HXM:=hid (hxm.mono fun _ _ h=>h.below hb0)
 have HR1:=hid (RdS.below hmem hb0)
 have HR2:=hid (RdS.below hnodes hb0)
 have HR3:=hid (RdS.below hpipes hb0)
 have HR4:=hid (RdS.below hps hb0)
 have HPM:=hid (hpp.mono fun _ _ h=>h.below hb0)
 clear hxs hxm hmem hnodes hpipes hps hpp hb0 hx0 hx1
 go_enter Tryz.func11,Tryz.ntmps11
 go_upto_region 1 with fail
 generalize (w.alloc (.cells #[.slice A mods.length ca,.slice M mem.length cm,.slice N nodes.length cn,.slice S pipes.length cs,.slice Q ps.length cq] ae)).alloc (.cells #[.slice none 0 0,.slice none 0 0,.slice none 0 0,.slice none 0 0,.slice none 0 0] ae)=wb at *
 have HSk:Hid (∀W:World,Below wb.heap.size wb W→W.cell? ⟨w.heap.size,1,none⟩=some (.slice M mem.length cm)∧W.cell? ⟨w.heap.size,2,none⟩=some (.slice N nodes.length cn)∧W.cell? ⟨w.heap.size,3,none⟩=some (.slice S pipes.length cs)):=hid (fun W hW=>⟨((HX.out.below hW HX.out.lt).cell 1),((HX.out.below hW HX.out.lt).cell 2),((HX.out.below hW HX.out.lt).cell 3)⟩)
 go_upto_region 1 with fail
 go_cut [3] from 6 to 16 (fun x wx=>CpG wb mem nodes pipes x wx)
 case first=>
  have hBr:Below wb.heap.size wb wb:=Below.refl _ _
  obtain⟨c1,c2,c3⟩:=HSk.out wb hBr
  go_region_held3 (fun W=>W.cell? ⟨w.heap.size,1,none⟩=some (.slice M mem.length cm)∧W.cell? ⟨w.heap.size,2,none⟩=some (.slice N nodes.length cn)∧W.cell? ⟨w.heap.size,3,none⟩=some (.slice S pipes.length cs))
   (first|go_keep|exact HSk.out _ (Hbx.out.put5 (by repeat (first|assumption|apply aA|apply aB)) _ _ _ _ _)|exact HSk.out _ (by repeat (first|assumption|apply aA|apply aB)))
   (first
     | (refine iE (by rfl) (.tmp 7) 23 (by rfl) 3 i1 (.int .i64 0) 1 8 Tryz.underlying23 Hi1.out Hz1.out Hs1.out Hy1.out rfl (by decide) dL uG M cm mem (by rfl) (HR1.out.below (by repeat (first|assumption|apply aA|apply aB))) (iI f1) g1 ?_
        intro A2 c2' w2 hR2 hb2 hcp2
        have hF2:=hR2.mono (ji (a:=wb) (by repeat (first|assumption|apply aA|apply aB)))
        have hB2:=bY (a:=wb) (by repeat (first|assumption|apply aA|apply aB)) hb2
        (first|have Hbx:=hid (KBx.a hb2 (by repeat (first|assumption|apply aA|apply aB)))|have Hbx:=hid (KBx.d hb2 (by repeat (first|assumption|apply aA|apply aB)))|skip))
     | (refine iE (by rfl) (.tmp 10) 24 (by rfl) 57 i2 (.agg #[.string ⟨#[]⟩,.int .i64 0,.string ⟨#[]⟩,.int .i64 0]) 4 48 Tryz.underlying24 Hi2.out Hz2.out Hs2.out Hy2.out rfl (by decide) oK KQ N cn nodes (by rfl) (HR2.out.below (by repeat (first|assumption|apply aA|apply aB))) (iI f2) g2 ?_
        intro A3 c3' w3 hR3 hb3 Oz
        have hF3:=hR3.mono (ji (a:=wb) (by repeat (first|assumption|apply aA|apply aB)))
        have hB3:=bY (a:=wb) (by repeat (first|assumption|apply aA|apply aB)) hb3
        have hF2:=hF2.below (bY (a:=w2) (by repeat (first|exact Below.refl _ _|apply aA|apply aB)) hb3)
        (first|have Hbx:=hid (Hbx.out.next (bY (a:=w2) (by repeat (first|exact Below.refl _ _|apply aA|apply aB)) hb3))|have Hbx:=hid (KBx.a hb3 (by repeat (first|assumption|apply aA|apply aB)))|have Hbx:=hid (KBx.d hb3 (by repeat (first|assumption|apply aA|apply aB)))|skip))
     | (refine iE (by rfl) (.tmp 13) 25 (by rfl) 9 i3 (.string ⟨#[]⟩) 1 16 Tryz.underlying25 Hi3.out Hz3.out Hs3.out Hy3.out rfl (by decide) oI LJ S cs pipes (by rfl) (HR3.out.below (by repeat (first|assumption|apply aA|apply aB))) (iI f3) g3 ?_
        intro A4 c4' w4 hR4 hb4 Ov
        have hF4:=hR4.mono (ji (a:=wb) (by repeat (first|assumption|apply aA|apply aB)))
        have hB4:=bY (a:=wb) (by repeat (first|assumption|apply aA|apply aB)) hb4
        have hF2:=hF2.below (bY (a:=w3) (by repeat (first|exact Below.refl _ _|apply aA|apply aB)) hb4)
        have hF3:=hF3.below (bY (a:=w3) (by repeat (first|exact Below.refl _ _|apply aA|apply aB)) hb4)
        (first|have Hbx:=hid (Hbx.out.next (bY (a:=w3) (by repeat (first|exact Below.refl _ _|apply aA|apply aB)) hb4))|have Hbx:=hid (KBx.a hb4 (by repeat (first|assumption|apply aA|apply aB)))|have Hbx:=hid (KBx.d hb4 (by repeat (first|assumption|apply aA|apply aB)))|skip)
        (try (have k0:=Hbx.out.1.cell 0;have k1:=Hbx.out.1.cell 1;have k2:=Hbx.out.1.cell 2;have k3:=Hbx.out.1.cell 3;have k4:=Hbx.out.1.cell 4;have kf:=Hbx.out.1.open_;have kl:=Hbx.out.1.lt;simp only[kz,gq]at k0 k1 k2 k3 k4)))
     | fail)
  all_goals
   go_wp2_with fail
   go_meet
   first
    | exact JF hF2 hF3 hF4 hB4 hcp2
    | exact JZ Hbx.out hF2 hF3 hF4 hB4 hcp2
 case rest=>
  obtain⟨g,M0,m0,N0,n0,S0,s0,rfl,hS0⟩:=hcut
  have HS0:=hid hS0
  clear hS0
  have Heg:=hid (fun args w=>show(callFunc 36 args).run Tryz.prog w = .ok (.enter 36 args) w by simp[go_sem])
  unfold big at f0 f1 f2 f3 f4
  go_wp2
  go_loopw [4] (fun i wr=>∃(n:Nat) (Aa:Option Addr) (cA:Nat) (Am:Option Addr) (cM:Nat) (An:Option Addr) (cN:Nat) (As:Option Addr) (cS:Nat) (ys:List MV),n≤mods.length∧i = .int .i64 n∧ys.length=n∧CpS wb.heap.size wb g ⟨Aa,cA,Am,cM,An,cN,As,cS,none,0⟩ ys (mods.take n) mem nodes pipes [] wr) (fun i _=>mods.length-(intOf i).toNat)
  case atStart=>exact⟨0,_,_,_,_,_,_,_,_,[],by omega,rfl,rfl,HS0.out⟩
  case round=>
   obtain⟨n,Aa,cA,Am,cM,An,cN,As,cS,ys,hn,rfl,hlen,hS⟩:=hrel
   clear HS0
   have Hlen:=hid hlen
   have HS:=hid hS
   have yU:=hS.box.lt
   have hsz:=hS.keep.size
   have z0:=(HX.out.below hS.keep HX.out.lt).cell 0
   simp only[List.getElem?_cons_zero]at z0
   have hgl:=(HX.out.below hS.keep HX.out.lt).lt
   by_cases hlt:n<mods.length
   ·obtain⟨nm,code,data,hm⟩:∃nm code data,mods[n]?=some ⟨nm,code,data⟩:=⟨_,_,_,List.getElem?_eq_getElem hlt⟩
    obtain⟨nm1,A1,l1,c1,B1,d1,e1,hx⟩:∃nm1 A1 l1 c1 B1 d1 e1,xs[n]?=some ⟨nm1,A1,l1,c1,B1,d1,e1⟩:=⟨_,_,_,_,_,_,_,List.getElem?_eq_getElem (by rw[HXM.out.1];exact hlt)⟩
    obtain⟨h1,h2,h3,hC1,hD1⟩:=HXM.out.2 n _ _ hx hm
    obtain⟨hnl,hcl,hdl⟩:=HF.out.each _ (List.mem_of_getElem? hm)
    obtain⟨hcg,hdg⟩:=HF.out.wt.2.1 _ (List.mem_of_getElem? hm)
    simp only at h1 h2 h3 hC1 hD1 hnl hcl hdl hcg hdg
    subst h1 h2 h3
    rcases HXS.out with h|⟨b1,o1,rfl,hb1,hc1⟩
    ·rw[h]at hx;cases hx
    have r0:wr.cell? ⟨b1,o1+n*3,none⟩=_:=(hS.keep.cell hb1).trans (hc1 n _ hx 0 _ rfl)
    have r1:wr.cell? ⟨b1,o1+n*3+1,none⟩=_:=(hS.keep.cell hb1).trans (hc1 n _ hx 1 _ rfl)
    have r2:wr.cell? ⟨b1,o1+n*3+2,none⟩=_:=(hS.keep.cell hb1).trans (hc1 n _ hx 2 _ rfl)
    have q0:=hS.box.cell 0
    simp only[List.getElem?_cons_zero,hlen]at q0
    have HTk:=hid (show mods.take (n+1)=mods.take n++[⟨nm1,code,data⟩] by rw[List.take_add_one,hm];rfl)
    have hbb:Below wr.heap.size wr wr.drew:=(Below.refl _ _).drew
    have HI:=hid (Ja nm1 code data A1 B1 c1 e1 wr.drew ((RdS.below hC1 (hS.keep.trans (hbb.mono hsz)))) ((RdS.below hD1 (hS.keep.trans (hbb.mono hsz)))) (iI hcl) (iI hdl) hcg hdg)
    have HS2:=hid (hS.below hbb)
    have HMl:=hid (show ∀b o,Am=some ⟨b,o,none⟩→mem≠[]→b<wr.heap.size from fun b o he hne=>by
     rcases hS.mem with h|⟨g',h1,_,h3⟩
     ·exact absurd h hne
     ·rw[he]at h1
      cases h1
      exact h3.lt)
    clear hc1 hx hm hC1 hD1 hbb hnl hcl hdl hcg hdg hlen hS
    go_wp2_with fail
    go_region_law (first
     | (refine aG (by rfl) 36 (.tmp 29) #[79] (by rfl) (.agg #[.string ⟨nm1.toArray⟩,.slice A1 code.length c1,.slice B1 data.length e1]) (by rfl) Heg.out HI.out ?_
        rintro e w1 ⟨A2,B2,c2,d2,rfl,hNc,hNd,aO⟩
        refine⟨_,rfl,?_⟩
        have HS3:=hid (fun o=>(HS2.out.below aO).below ((Below.refl _ w1).alloc (Nat.le_refl _) o))
        have HOw:=hid (show ∀o,OwM wb.heap.size (w1.alloc o) ⟨nm1,A2,code.length,c2,B2,data.length,d2⟩ ⟨nm1,code,data⟩ from fun o=>(show OwM wb.heap.size w1 ⟨nm1,A2,code.length,c2,B2,data.length,d2⟩ ⟨nm1,code,data⟩ from⟨rfl,rfl,rfl,hNc.mono hsz,hNd.mono hsz⟩).below ((Below.refl _ w1).alloc (Nat.le_refl _) o))
        have HDt:=hid (show data.length=0∨mem=[]∨B2≠Am from by
         rcases hNd with h|⟨b',h1,h2,_⟩
         ·exact .inl (by rw[h];rfl)
         ·by_cases hmm:mem=[]
          ·exact .inr (.inl hmm)
          ·refine .inr (.inr fun he=>?_)
           have:=HMl.out b' 0 (he▸h1) hmm
           simp at h2
           omega)
        have kb:=(HS2.out.below aO).box
        have k1:=kb.cell 0
        have kf1:=kb.open_ 0
        have kl1:=kb.lt
        simp only[List.getElem?_cons_zero,Hlen.out]at k1
        clear kb hNc hNd aO)
     | (refine aU (by rfl) (.tmp 24) (.tmp 31) 22 (by rfl) wb.heap.size 79 i5 (.agg #[.string ⟨#[]⟩,.slice none 0 0,.slice none 0 0]) 3 64 Tryz.underlying22 Hi5.out Hz5.out Hs5.out Hy5.out rfl (by decide) iT zh (.slice Aa n cA) n (ys.flatMap eG) (by rfl) (by have:=(HS3.out (.cells #[.string ⟨nm1.toArray⟩,.slice A2 code.length c2,.slice B2 data.length d2] 79)).row;rw[Hlen.out]at this;exact this) (some ⟨w1.heap.size,0,none⟩) 1 [⟨nm1,A2,code.length,c2,B2,data.length,d2⟩] (by rfl) (yZ w1 79 ⟨nm1,A2,code.length,c2,B2,data.length,d2⟩) (by unfold maxLen;simp;omega) (by simp;omega) (HS3.out _).room ?_
        intro v2 w2 hown hgr hat
        obtain⟨A5,c5,rfl⟩:=aP hown
        have hbx:=(HS3.out _).box.grown hgr (by have:=ax (HS3.out (.cells #[.string ⟨nm1.toArray⟩,.slice A2 code.length c2,.slice B2 data.length d2] 79)).row (HS3.out _).box (by decide);rw[Hlen.out]at this;exact this)
        have k2:=hbx.cell 0
        have kf2:=hbx.open_ 0
        simp only[List.getElem?_cons_zero]at k2
        have HX2:=hid ((HS3.out _).putMod (HOw.out _) HDt.out (by rw[Hlen.out];exact hgr) (A':=A5) (c':=c5) (by rw[Hlen.out];exact hown))
        rw[Hlen.out]at HX2
        clear hbx hown hgr hat)
     | fail)
    all_goals
     go_wp2
     go_roundw
     case rel=>exact⟨n+1,_,_,_,_,_,_,_,_,ys++[⟨nm1,A2,code.length,c2,B2,data.length,d2⟩],by omega,by go_num,by rw[List.length_append,Hlen.out];rfl,by rw[HTk.out];exact HX2.out⟩
     case measure=>simp[intOf];omega
   ·obtain rfl:n=mods.length:=by omega
    have HQ0:=hid (show CpP wb.heap.size wb g ⟨Aa,cA,Am,cM,An,cN,As,cS,none,0⟩ ys mods mem nodes pipes [] [] wr from⟨by have:=hS;rw[List.take_length]at this;exact this,World.ownsRow_nil _ _ _ _,Each.nil,fun i j x y hx=>by simp at hx⟩)
    clear hS HS hlen hlt hn yU hsz Heg
    go_wp2
    clear z0 hgl
    go_loopw [5] (fun i wr=>∃(n:Nat) (Aq:Option Addr) (cQ:Nat) (qs:List PV),n≤procs.length∧i = .int .i64 n∧qs.length=n∧CpP wb.heap.size wb g ⟨Aa,cA,Am,cM,An,cN,As,cS,Aq,cQ⟩ ys mods mem nodes pipes (procs.take n) qs wr) (fun i _=>procs.length-(intOf i).toNat)
    case atStart=>exact⟨0,_,_,[],by omega,rfl,rfl,HQ0.out⟩
    case round=>
     obtain⟨n,Aq,cQ,qs,hn,rfl,hlen,hQ⟩:=hrel
     clear HQ0
     have Hlen:=hid hlen
     have HQ:=hid hQ
     have Hpl:=hid HPM.out.1
     have hpl:=HPM.out.1
     have z4:=(HX.out.below hQ.st.keep HX.out.lt).cell 4
     simp only[gq]at z4
     have hgl:=(HX.out.below hQ.st.keep HX.out.lt).lt
     have yU:=hQ.st.box.lt
     have hsz:=hQ.st.keep.size
     by_cases hlt:n<procs.length
     ·obtain⟨lv,es,hp⟩:∃lv es,procs[n]?=some ⟨lv,es⟩:=⟨_,_,List.getElem?_eq_getElem hlt⟩
      obtain⟨lv1,A1,l1,c1,hx⟩:∃lv1 A1 l1 c1,ps[n]?=some ⟨lv1,A1,l1,c1⟩:=⟨_,_,_,_,List.getElem?_eq_getElem (by rw[hpl];exact hlt)⟩
      obtain⟨h1,h2,hE1⟩:=HPM.out.2 n _ _ hx hp
      have hel:=HF.out.proc _ (List.mem_of_getElem? hp)
      have hew:=HF.out.wt.2.2 _ (List.mem_of_getElem? hp)
      simp only at h1 h2 hE1 hel hew
      subst h1 h2
      rcases HR4.out with h|⟨b4,o4,hQe,hb4,hc4⟩
      ·rw[h]at hx;cases hx
      have HPc:=hid (show ∀W,Below wb.heap.size wb W→W.cell? ⟨b4,o4+n*2,none⟩=some (.bool lv1)∧W.cell? ⟨b4,o4+n*2+1,none⟩=some (.slice A1 es.length c1) from fun W hW=>⟨(hW.cell hb4).trans (hc4 n _ hx 0 _ rfl),(hW.cell hb4).trans (hc4 n _ hx 1 _ rfl)⟩)
      obtain⟨r0,r1⟩:=HPc.out wr hQ.st.keep
      have q4:=hQ.st.box.cell 4
      simp only[gq,hlen]at q4
      have HTk:=hid (show procs.take (n+1)=procs.take n++[⟨lv1,es⟩] by rw[List.take_add_one,hp];rfl)
      have hbb:Below wr.heap.size wr wr.drew:=(Below.refl _ _).drew
      have HE:=hid (RdS.below hE1 (hQ.st.keep.trans (hbb.mono hsz)))
      have hnp:(n:Int)<(ps.length:Int):=by omega
      have hz1:n+1≤maxLen:=by unfold maxLen;omega
      have hz2:(n+1)*32≤140737488355328:=by omega
      have LW:=hid hz1
      have Lr:=hid hz2
      clear hc4 hx hp hE1 hlen hz1 hz2
      go_wp2_with fail
      have X4:=HX.out.cell 4
      simp only[gq]at X4
      rw[hQe]at X4
      clear hQe r0 r1 q4 z4 hgl
      refine wp_region_noPanic ?_
      refine wp_region_held_drew (S:=fun W=>Below wb.heap.size wb W) (by kernel_rfl) (HQ.out.st.keep.drew) (fun hHeld=>?_)
      refine ffy (i:=0) (oi:=gpo 0) (v:=.pointer (some ⟨g,4,none⟩)) rfl (by kernel_rfl) (fun _ _ _ h=>h) hHeld (fun wq hSw=>by simp only[gpo];go_simp) ?_
      (try simp only[gpo,Act.put,sq])
      refine ffy (i:=2) (oi:=gpo 2) (v:=.pointer (some ⟨w.heap.size,4,none⟩)) rfl (by kernel_rfl) (fun _ _ _ h=>h) hHeld (fun wq hSw=>by simp only[gpo];go_simp) ?_
      (try simp only[gpo,Act.put,sq])
      refine ffy (i:=3) (oi:=gpo 3) (v:=.slice (some ⟨b4,o4,none⟩) ps.length cq) rfl (by kernel_rfl) (fun _ _ _ h=>h) hHeld (fun wq hSw=>by simp only[gpo];have kk:=(hSw.cell (p:=⟨w.heap.size,4,none⟩) HX.out.lt).trans X4;clear hSw;go_simp) ?_
      (try simp only[gpo,Act.put,sq])
      refine ffy (i:=4) (oi:=gpo 4) (v:=.int .i64 n) rfl (by kernel_rfl) (fun _ _ _ h=>h) hHeld (fun wq hSw=>by simp only[gpo];go_simp) ?_
      (try simp only[gpo,Act.put,sq])
      refine ffy (i:=5) (oi:=gpo 5) (v:=.pointer (some ⟨b4,o4+n*2,none⟩)) rfl (by kernel_rfl) (fun _ _ _ h=>h) hHeld (fun wq hSw=>by simp only[gpo];go_simp) ?_
      (try simp only[gpo,Act.put,sq])
      refine ffy (i:=6) (oi:=gpo 6) (v:=.pointer (some ⟨b4,o4+n*2,none⟩)) rfl (by kernel_rfl) (fun _ _ _ h=>h) hHeld (fun wq hSw=>by simp only[gpo];go_simp) ?_
      (try simp only[gpo,Act.put,sq])
      refine ffy (i:=7) (oi:=gpo 7) (v:=.bool lv1) rfl (by kernel_rfl) (fun _ _ _ h=>h) hHeld (fun wq hSw=>by simp only[gpo];have kk:=(HPc.out wq hSw).1;clear hSw;go_simp) ?_
      (try simp only[gpo,Act.put,sq])
      refine ffy (i:=8) (oi:=gpo 8) (v:=.pointer (some ⟨w.heap.size,4,none⟩)) rfl (by kernel_rfl) (fun _ _ _ h=>h) hHeld (fun wq hSw=>by simp only[gpo];go_simp) ?_
      (try simp only[gpo,Act.put,sq])
      refine ffy (i:=9) (oi:=gpo 9) (v:=.slice (some ⟨b4,o4,none⟩) ps.length cq) rfl (by kernel_rfl) (fun _ _ _ h=>h) hHeld (fun wq hSw=>by simp only[gpo];have kk:=(hSw.cell (p:=⟨w.heap.size,4,none⟩) HX.out.lt).trans X4;clear hSw;go_simp) ?_
      (try simp only[gpo,Act.put,sq])
      refine ffy (i:=10) (oi:=gpo 10) (v:=.int .i64 n) rfl (by kernel_rfl) (fun _ _ _ h=>h) hHeld (fun wq hSw=>by simp only[gpo];go_simp) ?_
      (try simp only[gpo,Act.put,sq])
      refine ffy (i:=11) (oi:=gpo 11) (v:=.pointer (some ⟨b4,o4+n*2,none⟩)) rfl (by kernel_rfl) (fun _ _ _ h=>h) hHeld (fun wq hSw=>by simp only[gpo];go_simp) ?_
      (try simp only[gpo,Act.put,sq])
      refine ffy (i:=12) (oi:=gpo 12) (v:=.pointer (some ⟨b4,o4+n*2+1,none⟩)) rfl (by kernel_rfl) (fun _ _ _ h=>h) hHeld (fun wq hSw=>by simp only[gpo];go_simp) ?_
      (try simp only[gpo,Act.put,sq])
      refine ffy (i:=13) (oi:=gpo 13) (v:=.slice A1 es.length c1) rfl (by kernel_rfl) (fun _ _ _ h=>h) hHeld (fun wq hSw=>by simp only[gpo];have kk:=(HPc.out wq hSw).2;clear hSw;go_simp) ?_
      (try simp only[gpo,Act.put,sq])
      refine wpAnyH_ready (rs:=[1,14]) (by kernel_rfl) (by simp) ?_
      refine AllReadyH.cons (o:=gpo 1) rfl (fun K hK=>?_) (AllReadyH.cons (o:=gpo 14) rfl (fun K hK=>?_) AllReadyH.nil)
      ·simp only[gpo]
       have q4:=(HQ.out.below hbb).st.box.cell 4
       simp only[gq,Hlen.out]at q4
       go_simp
       refine hK.out _ _ hHeld (fun hHeld=>?_)
       clear hK K q4
       (try simp only[gpo,Act.put,sq])
       refine wpAnyH_ready (rs:=[14]) (by kernel_rfl) (by simp) ?_
       refine AllReadyH.cons (o:=gpo 14) rfl (fun K hK=>?_) AllReadyH.nil
       refine iE (by rfl) (.tmp 54) 67 (by rfl) 72 i6 (.agg #[.int .i64 0,.int .i64 0,.int .i64 0]) 3 24 Tryz.underlying67 Hi6.out Hz6.out Hs6.out Hy6.out rfl (by decide) jU CZ A1 c1 es (by rfl) HE.out (iI hel) hew ?_
       intro A2 c2 w1 hN hb1 hc2
       have hbw:=hbb.trans hb1
       have HQ2:=hid (fun o=>(HQ.out.below hbw).below ((Below.refl _ w1).alloc (Nat.le_refl _) o))
       have HOw:=hid (fun o=>(show OwP wb.heap.size w1 ⟨lv1,A2,es.length,c2⟩ ⟨lv1,es⟩ from⟨rfl,rfl,hN.mono hsz,hc2⟩).below ((Below.refl _ w1).alloc (Nat.le_refl _) o))
       have mi:=hid (show(w1.alloc (.cells #[.bool lv1,.slice A2 es.length c2] 69)).ownsRow wb.heap.size 69 2 (.slice Aq n cQ) n (qs.flatMap bG) by have:=(HQ2.out (.cells #[.bool lv1,.slice A2 es.length c2] 69)).row;rw[Hlen.out]at this;exact this)
       have HRm:=hid (show wb.heap.size≤(w1.alloc (.cells #[.bool lv1,.slice A2 es.length c2] 69)).heap.size from(HQ2.out (.cells #[.bool lv1,.slice A2 es.length c2] 69)).st.room)
       have HAp:=hid (HQ.out.ap_new (lv:=lv1) (c:=c2) hN)
       refine hK.out _ _ (hHeld.trans (hb1.mono hHeld.size)) (fun hHeld=>?_)
       clear hK K hN hb1 hc2
       (try simp only[gpo,Act.put,sq])
       refine ffy (i:=15) (oi:=gpo 15) (v:=.agg #[.bool lv1,.slice A2 es.length c2]) rfl (by kernel_rfl) (fun _ _ _ h=>h) hHeld (fun wq hSw=>by simp only[gpo];go_simp) ?_
       (try simp only[gpo,Act.put,sq])
       refine wpAnyH_ready (rs:=[16]) (by kernel_rfl) (by simp) ?_
       refine AllReadyH.cons (o:=gpo 16) rfl (fun K hK=>?_) AllReadyH.nil
       simp only[gpo]
       go_simp
       refine hK.out _ _ (hHeld.alloc hHeld.size _) (fun hHeld=>?_)
       clear hK K
       (try simp only[gpo,Act.put,sq])
       refine wpAnyH_ready (rs:=[17]) (by kernel_rfl) (by simp) ?_
       refine AllReadyH.cons (o:=gpo 17) rfl (fun K hK=>?_) AllReadyH.nil
       refine aU (by rfl) (.tmp 42) (.tmp 57) 26 (by rfl) wb.heap.size 69 i4 (.agg #[.bool false,.slice none 0 0]) 2 32 Tryz.underlying26 Hi4.out Hz4.out Hs4.out Hy4.out rfl (by decide) jw wB (.slice Aq n cQ) n (qs.flatMap bG) (by rfl) mi.out (some ⟨w1.heap.size,0,none⟩) 1 [⟨lv1,A2,es.length,c2⟩] (by rfl) (vk w1 69 ⟨lv1,A2,es.length,c2⟩) LW.out Lr.out HRm.out ?_
       intro v2 w2 hown hgr hat
       obtain⟨A5,c5,rfl⟩:=aP hown
       have hbx:=(HQ2.out _).st.box.grown hgr (by have:=ax (HQ2.out (.cells #[.bool lv1,.slice A2 es.length c2] 69)).row (HQ2.out _).st.box (by decide);rw[Hlen.out]at this;exact this)
       have k5:=hbx.cell 4
       have kf5:=hbx.open_ 4
       simp only[gq]at k5
       have HX2:=hid ((HQ2.out _).add (HOw.out _) HAp.out (by rw[Hlen.out];exact hgr) (A':=A5) (c':=c5) (by rw[Hlen.out];exact hown))
       rw[Hlen.out]at HX2
       refine hK.out _ _ (hHeld.grown hgr HRm.out (fun k hk=>bZ mi.out k hk)) (fun hHeld=>?_)
       clear hK K hbx hown hgr hat
       (try simp only[gpo,Act.put,sq])
       refine ffy (i:=18) (oi:=gpo 18) (v:=.pointer (some ⟨g,4,none⟩)) rfl (by kernel_rfl) (fun _ _ _ h=>h) hHeld (fun wq hSw=>by simp only[gpo];go_simp) ?_
       (try simp only[gpo,Act.put,sq])
       refine wpAnyH_ready (rs:=[19]) (by kernel_rfl) (by simp) ?_
       refine AllReadyH.cons (o:=gpo 19) rfl (fun K hK=>?_) AllReadyH.nil
       simp only[gpo]
       go_simp
       refine hK.out _ _ HX2.out.st.keep (fun hHeld=>?_)
       clear hK K
       (try simp only[gpo,Act.put,sq])
       refine wpAnyH_done (by kernel_rfl) ?_ _
       refine NoPanic.normal ?_
       go_wp2
       go_roundw
       case rel=>exact⟨n+1,by omega,by go_num,_,_,qs++[(⟨lv1,A2,es.length,c2⟩:PV)],by rw[List.length_append,Hlen.out];rfl,by rw[HTk.out];exact HX2.out⟩
       case measure=>simp[intOf];omega
      ·refine iE (by rfl) (.tmp 54) 67 (by rfl) 72 i6 (.agg #[.int .i64 0,.int .i64 0,.int .i64 0]) 3 24 Tryz.underlying67 Hi6.out Hz6.out Hs6.out Hy6.out rfl (by decide) jU CZ A1 c1 es (by rfl) HE.out (iI hel) hew ?_
       intro A2 c2 w1 hN hb1 hc2
       have hbw:=hbb.trans hb1
       have HQ2:=hid (fun o=>(HQ.out.below hbw).below ((Below.refl _ w1).alloc (Nat.le_refl _) o))
       have HOw:=hid (fun o=>(show OwP wb.heap.size w1 ⟨lv1,A2,es.length,c2⟩ ⟨lv1,es⟩ from⟨rfl,rfl,hN.mono hsz,hc2⟩).below ((Below.refl _ w1).alloc (Nat.le_refl _) o))
       have mi:=hid (show(w1.alloc (.cells #[.bool lv1,.slice A2 es.length c2] 69)).ownsRow wb.heap.size 69 2 (.slice Aq n cQ) n (qs.flatMap bG) by have:=(HQ2.out (.cells #[.bool lv1,.slice A2 es.length c2] 69)).row;rw[Hlen.out]at this;exact this)
       have HRm:=hid (show wb.heap.size≤(w1.alloc (.cells #[.bool lv1,.slice A2 es.length c2] 69)).heap.size from(HQ2.out (.cells #[.bool lv1,.slice A2 es.length c2] 69)).st.room)
       have HAp:=hid (HQ.out.ap_new (lv:=lv1) (c:=c2) hN)
       refine hK.out _ _ (hHeld.trans (hb1.mono hHeld.size)) (fun hHeld=>?_)
       clear hK K hN hb1 hc2
       (try simp only[gpo,Act.put,sq])
       refine ffy (i:=15) (oi:=gpo 15) (v:=.agg #[.bool lv1,.slice A2 es.length c2]) rfl (by kernel_rfl) (fun _ _ _ h=>h) hHeld (fun wq hSw=>by simp only[gpo];go_simp) ?_
       (try simp only[gpo,Act.put,sq])
       refine wpAnyH_ready (rs:=[1,16]) (by kernel_rfl) (by simp) ?_
       refine AllReadyH.cons (o:=gpo 1) rfl (fun K hK=>?_) (AllReadyH.cons (o:=gpo 16) rfl (fun K hK=>?_) AllReadyH.nil)
       ·simp only[gpo]
        have q4:=(HQ.out.below hbw).st.box.cell 4
        simp only[gq,Hlen.out]at q4
        go_simp
        refine hK.out _ _ hHeld (fun hHeld=>?_)
        clear hK K q4
        (try simp only[gpo,Act.put,sq])
        refine wpAnyH_ready (rs:=[16]) (by kernel_rfl) (by simp) ?_
        refine AllReadyH.cons (o:=gpo 16) rfl (fun K hK=>?_) AllReadyH.nil
        simp only[gpo]
        go_simp
        refine hK.out _ _ (hHeld.alloc hHeld.size _) (fun hHeld=>?_)
        clear hK K
        (try simp only[gpo,Act.put,sq])
        refine wpAnyH_ready (rs:=[17]) (by kernel_rfl) (by simp) ?_
        refine AllReadyH.cons (o:=gpo 17) rfl (fun K hK=>?_) AllReadyH.nil
        refine aU (by rfl) (.tmp 42) (.tmp 57) 26 (by rfl) wb.heap.size 69 i4 (.agg #[.bool false,.slice none 0 0]) 2 32 Tryz.underlying26 Hi4.out Hz4.out Hs4.out Hy4.out rfl (by decide) jw wB (.slice Aq n cQ) n (qs.flatMap bG) (by rfl) mi.out (some ⟨w1.heap.size,0,none⟩) 1 [⟨lv1,A2,es.length,c2⟩] (by rfl) (vk w1 69 ⟨lv1,A2,es.length,c2⟩) LW.out Lr.out HRm.out ?_
        intro v2 w2 hown hgr hat
        obtain⟨A5,c5,rfl⟩:=aP hown
        have hbx:=(HQ2.out _).st.box.grown hgr (by have:=ax (HQ2.out (.cells #[.bool lv1,.slice A2 es.length c2] 69)).row (HQ2.out _).st.box (by decide);rw[Hlen.out]at this;exact this)
        have k5:=hbx.cell 4
        have kf5:=hbx.open_ 4
        simp only[gq]at k5
        have HX2:=hid ((HQ2.out _).add (HOw.out _) HAp.out (by rw[Hlen.out];exact hgr) (A':=A5) (c':=c5) (by rw[Hlen.out];exact hown))
        rw[Hlen.out]at HX2
        refine hK.out _ _ (hHeld.grown hgr HRm.out (fun k hk=>bZ mi.out k hk)) (fun hHeld=>?_)
        clear hK K hbx hown hgr hat
        (try simp only[gpo,Act.put,sq])
        refine ffy (i:=18) (oi:=gpo 18) (v:=.pointer (some ⟨g,4,none⟩)) rfl (by kernel_rfl) (fun _ _ _ h=>h) hHeld (fun wq hSw=>by simp only[gpo];go_simp) ?_
        (try simp only[gpo,Act.put,sq])
        refine wpAnyH_ready (rs:=[19]) (by kernel_rfl) (by simp) ?_
        refine AllReadyH.cons (o:=gpo 19) rfl (fun K hK=>?_) AllReadyH.nil
        simp only[gpo]
        go_simp
        refine hK.out _ _ HX2.out.st.keep (fun hHeld=>?_)
        clear hK K
        (try simp only[gpo,Act.put,sq])
        refine wpAnyH_done (by kernel_rfl) ?_ _
        refine NoPanic.normal ?_
        go_wp2
        go_roundw
        case rel=>exact⟨n+1,by omega,by go_num,_,_,qs++[(⟨lv1,A2,es.length,c2⟩:PV)],by rw[List.length_append,Hlen.out];rfl,by rw[HTk.out];exact HX2.out⟩
        case measure=>simp[intOf];omega
       ·simp only[gpo]
        go_simp
        refine hK.out _ _ (hHeld.alloc hHeld.size _) (fun hHeld=>?_)
        clear hK K
        (try simp only[gpo,Act.put,sq])
        refine wpAnyH_ready (rs:=[1]) (by kernel_rfl) (by simp) ?_
        refine AllReadyH.cons (o:=gpo 1) rfl (fun K hK=>?_) AllReadyH.nil
        simp only[gpo]
        have q4:=(HQ.out.below (hbw.alloc hbw.size (.cells #[.bool lv1,.slice A2 es.length c2] 69))).st.box.cell 4
        simp only[gq,Hlen.out]at q4
        go_simp
        refine hK.out _ _ hHeld (fun hHeld=>?_)
        clear hK K q4
        (try simp only[gpo,Act.put,sq])
        refine wpAnyH_ready (rs:=[17]) (by kernel_rfl) (by simp) ?_
        refine AllReadyH.cons (o:=gpo 17) rfl (fun K hK=>?_) AllReadyH.nil
        refine aU (by rfl) (.tmp 42) (.tmp 57) 26 (by rfl) wb.heap.size 69 i4 (.agg #[.bool false,.slice none 0 0]) 2 32 Tryz.underlying26 Hi4.out Hz4.out Hs4.out Hy4.out rfl (by decide) jw wB (.slice Aq n cQ) n (qs.flatMap bG) (by rfl) mi.out (some ⟨w1.heap.size,0,none⟩) 1 [⟨lv1,A2,es.length,c2⟩] (by rfl) (vk w1 69 ⟨lv1,A2,es.length,c2⟩) LW.out Lr.out HRm.out ?_
        intro v2 w2 hown hgr hat
        obtain⟨A5,c5,rfl⟩:=aP hown
        have hbx:=(HQ2.out _).st.box.grown hgr (by have:=ax (HQ2.out (.cells #[.bool lv1,.slice A2 es.length c2] 69)).row (HQ2.out _).st.box (by decide);rw[Hlen.out]at this;exact this)
        have k5:=hbx.cell 4
        have kf5:=hbx.open_ 4
        simp only[gq]at k5
        have HX2:=hid ((HQ2.out _).add (HOw.out _) HAp.out (by rw[Hlen.out];exact hgr) (A':=A5) (c':=c5) (by rw[Hlen.out];exact hown))
        rw[Hlen.out]at HX2
        refine hK.out _ _ (hHeld.grown hgr HRm.out (fun k hk=>bZ mi.out k hk)) (fun hHeld=>?_)
        clear hK K hbx hown hgr hat
        (try simp only[gpo,Act.put,sq])
        refine ffy (i:=18) (oi:=gpo 18) (v:=.pointer (some ⟨g,4,none⟩)) rfl (by kernel_rfl) (fun _ _ _ h=>h) hHeld (fun wq hSw=>by simp only[gpo];go_simp) ?_
        (try simp only[gpo,Act.put,sq])
        refine wpAnyH_ready (rs:=[19]) (by kernel_rfl) (by simp) ?_
        refine AllReadyH.cons (o:=gpo 19) rfl (fun K hK=>?_) AllReadyH.nil
        simp only[gpo]
        go_simp
        refine hK.out _ _ HX2.out.st.keep (fun hHeld=>?_)
        clear hK K
        (try simp only[gpo,Act.put,sq])
        refine wpAnyH_done (by kernel_rfl) ?_ _
        refine NoPanic.normal ?_
        go_wp2
        go_roundw
        case rel=>exact⟨n+1,by omega,by go_num,_,_,qs++[(⟨lv1,A2,es.length,c2⟩:PV)],by rw[List.length_append,Hlen.out];rfl,by rw[HTk.out];exact HX2.out⟩
        case measure=>simp[intOf];omega
     ·obtain rfl:n=procs.length:=by omega
      have hQ:=(show CpP _ _ _ _ _ _ _ _ _ procs _ _ by have:=hQ;rw[List.take_length]at this;exact this)
      have hlt':¬(procs.length:Int)<(ps.length:Int):=by omega
      have y4:=z4
      clear z4
      have hx:=HX1.out.below hQ.st.keep HX1.out.lt
      have HOw:=hid (show nU wb.heap.size ⟨Aa,cA,Am,cM,An,cN,As,cS,Aq,cQ⟩ ys qs ⟨mods,mem,nodes,pipes,procs⟩ wr from hQ.own)
      have b0:=hQ.st.box.cell 0
      have b1:=hQ.st.box.cell 1
      have b2:=hQ.st.box.cell 2
      have b3:=hQ.st.box.cell 3
      have b4:=hQ.st.box.cell 4
      have z0:=hx.cell 0
      have z1:=hx.cell 1
      have z2:=hx.cell 2
      have z3:=hx.cell 3
      have z4:=hx.cell 4
      simp only[kz,gq]at b0 b1 b2 b3 b4 z0 z1 z2 z3 z4
      have zf:=hx.open_
      have zl:=hx.lt
      have Hkp:=hid hQ.st.keep
      have HyL:=hid (show ys.length=mods.length from HOw.out.each.1)
      have HqL:=hid (show qs.length=procs.length from HOw.out.ends.1)
      have hne:g≠w.heap.size+1:=by
       have:=hQ.st.lo
       have:=HX1.out.lt
       omega
      have HlB:=hid HX1.out.lt
      clear hQ HQ hx
      go_wp2
      refine bodyPost_ret (v:=.agg #[.slice Aa ys.length cA,.slice Am mem.length cM,.slice An nodes.length cN,.slice As pipes.length cS,.slice Aq qs.length cQ]) (by simp[results,Tryz.results11,go_sem,z0,z1,z2,z3,z4,HqL.out,HyL.out]) rfl ?_
      refine⟨⟨Aa,cA,Am,cM,An,cN,As,cS,Aq,cQ⟩,ys,qs,by unfold af;rw[HyL.out,HqL.out],((((((HOw.out.old (p:=⟨w.heap.size+1,0,none⟩) HlB.out _).old (p:=⟨w.heap.size+1,1,none⟩) HlB.out _).old (p:=⟨w.heap.size+1,2,none⟩) HlB.out _).old (p:=⟨w.heap.size+1,3,none⟩) HlB.out _).old (p:=⟨w.heap.size+1,4,none⟩) HlB.out _).mono HB0.out.size),?_⟩
      exact(((((HB0.out.trans (Hkp.out.mono HB0.out.size)).setCell (p:=⟨w.heap.size+1,0,none⟩) (Nat.le_succ _) _).setCell (p:=⟨w.heap.size+1,1,none⟩) (Nat.le_succ _) _).setCell (p:=⟨w.heap.size+1,2,none⟩) (Nat.le_succ _) _).setCell (p:=⟨w.heap.size+1,3,none⟩) (Nat.le_succ _) _).setCell (p:=⟨w.heap.size+1,4,none⟩) (Nat.le_succ _) _
end
end Go.Proofs.YtnnhhbjbdmgpiaaGreatDoor
