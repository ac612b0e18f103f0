/- Texts of the proofs: TrustW, TruO, TrustX, TrustY, TrustZ, CheckW, OpenG, OpenM. -/
import Derived.Test.YtnnhhbjbdmgpiaaGreatDoorJ02
import Derived.Test.YtnnhhbjbdmgpiaaGreatDoorJ11
set_option linter.unusedSimpArgs false
set_option linter.unusedVariables false
namespace Go.Proofs.YtnnhhbjbdmgpiaaGreatDoor
set_option maxRecDepth 100000
set_option maxHeartbeats 4000000
open Lib (hid)
section
open Go.RowKit
theorem jZ{w W W':World}{br gl:Nat}{v0 v1 v2 v3 s:Value}(h:Below w.heap.size w W∧W.cell? ⟨br,0,none⟩=some v0∧W.cell? ⟨br,1,none⟩=some v1∧W.cell? ⟨br,2,none⟩=some v2∧W.cell? ⟨br,3,none⟩=some v3∧W.cell? ⟨gl,0,none⟩=some s)(hb:Below W.heap.size W W'):
  Below w.heap.size w W'∧W'.cell? ⟨br,0,none⟩=some v0∧W'.cell? ⟨br,1,none⟩=some v1∧W'.cell? ⟨br,2,none⟩=some v2∧W'.cell? ⟨br,3,none⟩=some v3∧W'.cell? ⟨gl,0,none⟩=some s:=by
 obtain⟨h0,h1,h2,h3,h4,h5⟩:=h
 exact⟨h0.trans (hb.mono h0.size),(hb.cell (lt_of_cell h1)).trans h1,(hb.cell (lt_of_cell h2)).trans h2,(hb.cell (lt_of_cell h3)).trans h3,(hb.cell (lt_of_cell h4)).trans h4,(hb.cell (lt_of_cell h5)).trans h5⟩
theorem yc{w W W':World}{br gl g o0 o1 o2 o3:Nat}{v0 v1 v2 v3 s u0 u1 u2 u3:Value}(h:Below w.heap.size w W∧W.cell? ⟨br,0,none⟩=some v0∧W.cell? ⟨br,1,none⟩=some v1∧W.cell? ⟨br,2,none⟩=some v2∧W.cell? ⟨br,3,none⟩=some v3∧W.cell? ⟨gl,0,none⟩=some s∧W.cell? ⟨g,o0,none⟩=some u0∧W.cell? ⟨g,o1,none⟩=some u1∧W.cell? ⟨g,o2,none⟩=some u2∧W.cell? ⟨g,o3,none⟩=some u3)(hb:Below W.heap.size W W'):
  Below w.heap.size w W'∧W'.cell? ⟨br,0,none⟩=some v0∧W'.cell? ⟨br,1,none⟩=some v1∧W'.cell? ⟨br,2,none⟩=some v2∧W'.cell? ⟨br,3,none⟩=some v3∧W'.cell? ⟨gl,0,none⟩=some s∧W'.cell? ⟨g,o0,none⟩=some u0∧W'.cell? ⟨g,o1,none⟩=some u1∧W'.cell? ⟨g,o2,none⟩=some u2∧W'.cell? ⟨g,o3,none⟩=some u3:=by
 obtain⟨h0,h1,h2,h3,h4,h5,h6,h7,h8,h9⟩:=h
 exact⟨h0.trans (hb.mono h0.size),(hb.cell (lt_of_cell h1)).trans h1,(hb.cell (lt_of_cell h2)).trans h2,(hb.cell (lt_of_cell h3)).trans h3,(hb.cell (lt_of_cell h4)).trans h4,(hb.cell (lt_of_cell h5)).trans h5,(hb.cell (lt_of_cell h6)).trans h6,(hb.cell (lt_of_cell h7)).trans h7,(hb.cell (lt_of_cell h8)).trans h8,(hb.cell (lt_of_cell h9)).trans h9⟩
theorem yD(k:Nat)(h:k+1≤2 ^ 63-1):IntKind.i64.wrap ((k:Int)+1)=(k:Int)+1:=by
 rw[IntKind.wrap_i64]
 omega
theorem xG{l:List Cf.Ins}{k:Nat}{op a b c:Int}(hr:Cf.inB a 4 6=false)(hb:(!Cf.lF ⟨op,a,b,c⟩ || decide (b=4))=true):Cf.trustB l k ⟨op,a,b,c⟩=true:=by
 have h:a<4∨6<a:=by simp[Cf.inB]at hr;omega
 unfold Cf.trustB
 rw[show(!Cf.lF ⟨op,a,b,c⟩ || decide ((⟨op,a,b,c⟩:Cf.Ins).b=4))=true from hb]
 unfold Cf.gp
 split
 ·rw[if_neg (by dsimp only;omega),if_neg (by dsimp only;omega)];rfl
 ·rfl
theorem BG{l:List Cf.Ins}{k:Nat}{op a b c:Int}(hs:Cf.inB op 1 8=true)(hr:Cf.inB a 4 6=true)(n1:¬(op=5∧a=4∧b=4∧c=5))(n2:¬(op=4∧a=4∧c=6)):Cf.trustB l k ⟨op,a,b,c⟩=false:=by
 have h:4≤a∧a≤6:=by simpa [Cf.inB] using hr
 unfold Cf.trustB
 have hd:Cf.gp l k ⟨op,a,b,c⟩=false:=by
  unfold Cf.gp
  rw[if_pos hs]
  by_cases h56:a=5∨a=6
  ·rw[if_pos h56]
  ·rw[if_neg h56]
   have h4:a=4:=by omega
   have ho:Cf.dh ⟨op,a,b,c⟩=false:=by
    cases hq:Cf.dh ⟨op,a,b,c⟩ with
    | false=>rfl
    | true=>exact absurd (Cf.y7 hq) n1
   rw[if_pos ⟨h4,ho⟩]
   cases hq:(decide (op=4) && (decide (c=6) && Cf.qC l k)) with
   | false=>rfl
   | true=>
     simp only[Bool.and_eq_true,decide_eq_true_eq]at hq
     exact absurd ⟨hq.1,h4,hq.2.1⟩ n2
 rw[hd,Bool.and_false]
theorem pY{l:List Cf.Ins}{k:Nat}{b:Int}:Cf.trustB l k ⟨4,4,b,6⟩=Cf.qC l k:=by
 simp[Cf.trustB,Cf.lF,Cf.gp,Cf.inB,Cf.dh]
theorem Jh(l:List Cf.Ins)(A:Option Addr)(cap k gl:Nat)(op a b c:Int)(w:World)(hR:bP w A l)(hm:l.length≤maxLen)(hx:l[k]?=some ⟨op,a,b,c⟩)(hg:w.cell? ⟨gl,0,none⟩=some (.slice A l.length cap))(hl:Cf.lF ⟨op,a,b,c⟩=true)(hb:¬b=4):
  Calls Tryz.prog 152 #[.int .i64 k,.pointer (some ⟨gl,0,none⟩)] w fun e w'=>e = .returned (.bool (Cf.trustB l k ⟨op,a,b,c⟩))∧Below w.heap.size w w':=by
 have hmx:l.length≤2 ^ 63-1:=hm
 clear hm
 have hk:k<l.length:=(List.getElem?_eq_some_iff.1 hx).1
 obtain⟨g,off,rfl,hgl,hc⟩:=hR.at_ (by intro e;rw[e]at hk;simp at hk)
 obtain⟨p0,p1,p2,p3⟩:=hc k op a b c hx
 have HT:=hid (show Cf.trustB l k ⟨op,a,b,c⟩=false by simp[Cf.trustB,hl,hb])
 have eb:=nen hb
 have C1:=hid (fun w=>bU op a b c w)
 rw[hl]at C1
 clear hl hx hc hb
 go_enter Tryz.func152,Tryz.ntmps152
 go_wp2_with fail
 refine(C1.out _).mono ?_
 rintro e w1 ⟨rfl,hb1⟩
 have aO:Below w.heap.size w w1:=((Below.refl _ _).alloc (Nat.le_refl _) _).trans (hb1.mono (by simp))
 have q0:=hb1.cell (p:=⟨w.heap.size,0,none⟩) (by simp)
 have q1:=hb1.cell (p:=⟨w.heap.size,1,none⟩) (by simp)
 have q2:=hb1.cell (p:=⟨w.heap.size,2,none⟩) (by simp)
 have q3:=hb1.cell (p:=⟨w.heap.size,3,none⟩) (by simp)
 simp at q0 q1 q2 q3
 have qg:w1.cell? ⟨gl,0,none⟩=_:=(aO.cell (lt_of_cell hg)).trans hg
 clear hb1 hg p0 p1 p2 p3 C1
 go_wp2
 go_ret
 exact⟨by rw[HT.out];rfl,aO⟩
theorem GR(l:List Cf.Ins)(A:Option Addr)(cap k gl:Nat)(op a b c:Int)(w:World)(hR:bP w A l)(hm:l.length≤maxLen)(hx:l[k]?=some ⟨op,a,b,c⟩)(hg:w.cell? ⟨gl,0,none⟩=some (.slice A l.length cap))(hl:Cf.lF ⟨op,a,b,c⟩=true)(hb:b=4)(hs:Cf.inB op 1 8=false):
  Calls Tryz.prog 152 #[.int .i64 k,.pointer (some ⟨gl,0,none⟩)] w fun e w'=>e = .returned (.bool (Cf.trustB l k ⟨op,a,b,c⟩))∧Below w.heap.size w w':=by
 have hmx:l.length≤2 ^ 63-1:=hm
 clear hm
 have hk:k<l.length:=(List.getElem?_eq_some_iff.1 hx).1
 obtain⟨g,off,rfl,hgl,hc⟩:=hR.at_ (by intro e;rw[e]at hk;simp at hk)
 obtain⟨p0,p1,p2,p3⟩:=hc k op a b c hx
 have HT:=hid (show Cf.trustB l k ⟨op,a,b,c⟩=true by simp[Cf.trustB,Cf.gp,hb,hs])
 have eb:=eqn hb
 have C1:=hid (fun w=>bU op a b c w)
 rw[hl]at C1
 have C2:=hid (fun w=>gV op a b c w)
 rw[hs]at C2
 clear hl hx hc hs hb
 go_enter Tryz.func152,Tryz.ntmps152
 go_wp2_with fail
 refine(C1.out _).mono ?_
 rintro e w1 ⟨rfl,hb1⟩
 have aO:Below w.heap.size w w1:=((Below.refl _ _).alloc (Nat.le_refl _) _).trans (hb1.mono (by simp))
 have q0:=hb1.cell (p:=⟨w.heap.size,0,none⟩) (by simp)
 have q1:=hb1.cell (p:=⟨w.heap.size,1,none⟩) (by simp)
 have q2:=hb1.cell (p:=⟨w.heap.size,2,none⟩) (by simp)
 have q3:=hb1.cell (p:=⟨w.heap.size,3,none⟩) (by simp)
 simp at q0 q1 q2 q3
 have qg:w1.cell? ⟨gl,0,none⟩=_:=(aO.cell (lt_of_cell hg)).trans hg
 clear hb1 hg p0 p1 p2 p3 C1
 go_wp2_with fail
 refine(C2.out _).mono ?_
 rintro e w2 ⟨rfl,hb2⟩
 obtain⟨hbw2,r0,r1,r2,r3,rg⟩:=jZ ⟨aO,q0,q1,q2,q3,qg⟩ hb2
 clear hb2 aO q0 q1 q2 q3 qg C2
 go_wp2
 go_ret
 exact⟨by rw[HT.out];rfl,hbw2⟩
theorem Ig(l:List Cf.Ins)(A:Option Addr)(cap k gl:Nat)(op a b c:Int)(w:World)(hR:bP w A l)(hm:l.length≤maxLen)(hx:l[k]?=some ⟨op,a,b,c⟩)(hg:w.cell? ⟨gl,0,none⟩=some (.slice A l.length cap))(hl:Cf.lF ⟨op,a,b,c⟩=true)(hb:b=4)(hs:Cf.inB op 1 8=true)(hr:Cf.inB a 4 6=false):
  Calls Tryz.prog 152 #[.int .i64 k,.pointer (some ⟨gl,0,none⟩)] w fun e w'=>e = .returned (.bool (Cf.trustB l k ⟨op,a,b,c⟩))∧Below w.heap.size w w':=by
 have hmx:l.length≤2 ^ 63-1:=hm
 clear hm
 have hk:k<l.length:=(List.getElem?_eq_some_iff.1 hx).1
 obtain⟨g,off,rfl,hgl,hc⟩:=hR.at_ (by intro e;rw[e]at hk;simp at hk)
 obtain⟨p0,p1,p2,p3⟩:=hc k op a b c hx
 have HT:=hid (show Cf.trustB l k ⟨op,a,b,c⟩=true by exact xG hr (by simp[hb]))
 have eb:=eqn hb
 have C1:=hid (fun w=>bU op a b c w)
 rw[hl]at C1
 have C2:=hid (fun w=>gV op a b c w)
 rw[hs]at C2
 have C3:=hid (fun w=>dV a w)
 rw[hr]at C3
 clear hl hx hc hs hr hb
 go_enter Tryz.func152,Tryz.ntmps152
 go_wp2_with fail
 refine(C1.out _).mono ?_
 rintro e w1 ⟨rfl,hb1⟩
 have aO:Below w.heap.size w w1:=((Below.refl _ _).alloc (Nat.le_refl _) _).trans (hb1.mono (by simp))
 have q0:=hb1.cell (p:=⟨w.heap.size,0,none⟩) (by simp)
 have q1:=hb1.cell (p:=⟨w.heap.size,1,none⟩) (by simp)
 have q2:=hb1.cell (p:=⟨w.heap.size,2,none⟩) (by simp)
 have q3:=hb1.cell (p:=⟨w.heap.size,3,none⟩) (by simp)
 simp at q0 q1 q2 q3
 have qg:w1.cell? ⟨gl,0,none⟩=_:=(aO.cell (lt_of_cell hg)).trans hg
 clear hb1 hg p0 p1 p2 p3 C1
 go_wp2_with fail
 refine(C2.out _).mono ?_
 rintro e w2 ⟨rfl,hb2⟩
 obtain⟨hbw2,r0,r1,r2,r3,rg⟩:=jZ ⟨aO,q0,q1,q2,q3,qg⟩ hb2
 clear hb2 aO q0 q1 q2 q3 qg C2
 go_wp2_with fail
 refine(C3.out _).mono ?_
 rintro e w' ⟨rfl,rfl⟩
 clear C3
 go_wp2
 go_ret
 exact⟨by rw[HT.out];rfl,hbw2⟩
theorem I8(l:List Cf.Ins)(A:Option Addr)(cap k gl:Nat)(op a b c:Int)(w:World)(hR:bP w A l)(hm:l.length≤maxLen)(hx:l[k]?=some ⟨op,a,b,c⟩)(hg:w.cell? ⟨gl,0,none⟩=some (.slice A l.length cap))(hl:Cf.lF ⟨op,a,b,c⟩=false)(hs:Cf.inB op 1 8=false):
  Calls Tryz.prog 152 #[.int .i64 k,.pointer (some ⟨gl,0,none⟩)] w fun e w'=>e = .returned (.bool (Cf.trustB l k ⟨op,a,b,c⟩))∧Below w.heap.size w w':=by
 have hmx:l.length≤2 ^ 63-1:=hm
 clear hm
 have hk:k<l.length:=(List.getElem?_eq_some_iff.1 hx).1
 obtain⟨g,off,rfl,hgl,hc⟩:=hR.at_ (by intro e;rw[e]at hk;simp at hk)
 obtain⟨p0,p1,p2,p3⟩:=hc k op a b c hx
 have HT:=hid (show Cf.trustB l k ⟨op,a,b,c⟩=true by simp[Cf.trustB,Cf.gp,hl,hs])
 have C1:=hid (fun w=>bU op a b c w)
 rw[hl]at C1
 have C2:=hid (fun w=>gV op a b c w)
 rw[hs]at C2
 clear hl hx hc hs
 go_enter Tryz.func152,Tryz.ntmps152
 go_wp2_with fail
 refine(C1.out _).mono ?_
 rintro e w1 ⟨rfl,hb1⟩
 have aO:Below w.heap.size w w1:=((Below.refl _ _).alloc (Nat.le_refl _) _).trans (hb1.mono (by simp))
 have q0:=hb1.cell (p:=⟨w.heap.size,0,none⟩) (by simp)
 have q1:=hb1.cell (p:=⟨w.heap.size,1,none⟩) (by simp)
 have q2:=hb1.cell (p:=⟨w.heap.size,2,none⟩) (by simp)
 have q3:=hb1.cell (p:=⟨w.heap.size,3,none⟩) (by simp)
 simp at q0 q1 q2 q3
 have qg:w1.cell? ⟨gl,0,none⟩=_:=(aO.cell (lt_of_cell hg)).trans hg
 clear hb1 hg p0 p1 p2 p3 C1
 go_wp2_with fail
 refine(C2.out _).mono ?_
 rintro e w2 ⟨rfl,hb2⟩
 obtain⟨hbw2,r0,r1,r2,r3,rg⟩:=jZ ⟨aO,q0,q1,q2,q3,qg⟩ hb2
 clear hb2 aO q0 q1 q2 q3 qg C2
 go_wp2
 go_ret
 exact⟨by rw[HT.out];rfl,hbw2⟩
theorem H7(l:List Cf.Ins)(A:Option Addr)(cap k gl:Nat)(op a b c:Int)(w:World)(hR:bP w A l)(hm:l.length≤maxLen)(hx:l[k]?=some ⟨op,a,b,c⟩)(hg:w.cell? ⟨gl,0,none⟩=some (.slice A l.length cap))(hl:Cf.lF ⟨op,a,b,c⟩=false)(hs:Cf.inB op 1 8=true)(hr:Cf.inB a 4 6=false):
  Calls Tryz.prog 152 #[.int .i64 k,.pointer (some ⟨gl,0,none⟩)] w fun e w'=>e = .returned (.bool (Cf.trustB l k ⟨op,a,b,c⟩))∧Below w.heap.size w w':=by
 have hmx:l.length≤2 ^ 63-1:=hm
 clear hm
 have hk:k<l.length:=(List.getElem?_eq_some_iff.1 hx).1
 obtain⟨g,off,rfl,hgl,hc⟩:=hR.at_ (by intro e;rw[e]at hk;simp at hk)
 obtain⟨p0,p1,p2,p3⟩:=hc k op a b c hx
 have HT:=hid (show Cf.trustB l k ⟨op,a,b,c⟩=true by exact xG hr (by simp[hl]))
 have C1:=hid (fun w=>bU op a b c w)
 rw[hl]at C1
 have C2:=hid (fun w=>gV op a b c w)
 rw[hs]at C2
 have C3:=hid (fun w=>dV a w)
 rw[hr]at C3
 clear hl hx hc hs hr
 go_enter Tryz.func152,Tryz.ntmps152
 go_wp2_with fail
 refine(C1.out _).mono ?_
 rintro e w1 ⟨rfl,hb1⟩
 have aO:Below w.heap.size w w1:=((Below.refl _ _).alloc (Nat.le_refl _) _).trans (hb1.mono (by simp))
 have q0:=hb1.cell (p:=⟨w.heap.size,0,none⟩) (by simp)
 have q1:=hb1.cell (p:=⟨w.heap.size,1,none⟩) (by simp)
 have q2:=hb1.cell (p:=⟨w.heap.size,2,none⟩) (by simp)
 have q3:=hb1.cell (p:=⟨w.heap.size,3,none⟩) (by simp)
 simp at q0 q1 q2 q3
 have qg:w1.cell? ⟨gl,0,none⟩=_:=(aO.cell (lt_of_cell hg)).trans hg
 clear hb1 hg p0 p1 p2 p3 C1
 go_wp2_with fail
 refine(C2.out _).mono ?_
 rintro e w2 ⟨rfl,hb2⟩
 obtain⟨hbw2,r0,r1,r2,r3,rg⟩:=jZ ⟨aO,q0,q1,q2,q3,qg⟩ hb2
 clear hb2 aO q0 q1 q2 q3 qg C2
 go_wp2_with fail
 refine(C3.out _).mono ?_
 rintro e w' ⟨rfl,rfl⟩
 clear C3
 go_wp2
 go_ret
 exact⟨by rw[HT.out];rfl,hbw2⟩
end
section
open Go.RowKit
def tro(i:Nat):Oper:=match i with
 | 0=>⟨some 25,.load 121 (Operand.tmp 4),121, "safe.go:20",#[],none⟩
 | 1=>⟨some 26,.call { callee:=Callee.value (Operand.func 102),args:=#[],argTypes:=#[] },121, "safe.go:20",#[],none⟩
 | 2=>⟨some 27,.binOp BinOp.eql 121 (Operand.tmp 25) (Operand.tmp 26) 121,4, "safe.go:20",#[⟨0,.data⟩,⟨1,.data⟩],none⟩
 | 3=>⟨some 28,.move (Operand.tmp 27),4, "safe.go:20",#[⟨2,.data⟩,⟨1,.chain⟩],none⟩
 | 4=>⟨some 29,.load 121 (Operand.tmp 4),121, "safe.go:20",#[⟨3,.guard⟩],some (3,false)⟩
 | 5=>⟨some 30,.fieldAddr 121 (Operand.tmp 4) 2,0, "safe.go:20",#[⟨3,.guard⟩],some (3,false)⟩
 | 6=>⟨some 31,.load 3 (Operand.tmp 30),3, "safe.go:20",#[⟨5,.data⟩,⟨3,.guard⟩],some (3,false)⟩
 | 7=>⟨some 32,.call { callee:=Callee.value (Operand.func 101),args:=#[Operand.tmp 31],argTypes:=#[3] },121, "safe.go:20",#[⟨6,.data⟩,⟨3,.chain⟩,⟨3,.guard⟩],some (3,false)⟩
 | 8=>⟨some 33,.binOp BinOp.eql 121 (Operand.tmp 29) (Operand.tmp 32) 121,4, "safe.go:20",#[⟨4,.data⟩,⟨7,.data⟩,⟨3,.guard⟩],some (3,false)⟩
 | 9=>⟨some 34,.move (Operand.tmp 33),4, "safe.go:20",#[⟨8,.data⟩,⟨7,.chain⟩,⟨3,.guard⟩],some (3,false)⟩
 | 10=>⟨some 35,.move (Operand.tmp 0),3, "safe.go:20",#[⟨9,.guard⟩],some (9,true)⟩
 | 11=>⟨some 36,.binOp BinOp.add 3 (Operand.tmp 35) (Operand.const (Value.int IntKind.i64 1)) 3,3, "safe.go:20",#[⟨10,.data⟩,⟨9,.guard⟩],some (9,true)⟩
 | 12=>⟨some 37,.load 77 (Operand.tmp 1),77, "safe.go:20",#[⟨9,.guard⟩],some (9,true)⟩
 | 13=>⟨some 38,.call { callee:=Callee.builtin Builtin.len,args:=#[Operand.tmp 37],argTypes:=#[77] },3, "safe.go:20",#[⟨12,.data⟩,⟨9,.guard⟩],some (9,true)⟩
 | 14=>⟨some 39,.binOp BinOp.lss 3 (Operand.tmp 36) (Operand.tmp 38) 3,4, "safe.go:20",#[⟨11,.data⟩,⟨13,.data⟩,⟨9,.guard⟩],some (9,true)⟩
 | 15=>⟨some 40,.pick (Operand.tmp 34) (Operand.tmp 39) (Operand.const (Value.bool false)),4, "safe.go:20",#[⟨9,.data⟩,⟨14,.data⟩,⟨3,.guard⟩],some (3,false)⟩
 | 16=>⟨some 41,.move (Operand.tmp 40),4, "safe.go:20",#[⟨15,.data⟩,⟨9,.chain⟩,⟨3,.guard⟩],some (3,false)⟩
 | 17=>⟨some 42,.load 77 (Operand.tmp 1),77, "safe.go:20",#[⟨16,.guard⟩],some (16,true)⟩
 | 18=>⟨some 43,.move (Operand.tmp 0),3, "safe.go:20",#[⟨16,.guard⟩],some (16,true)⟩
 | 19=>⟨some 44,.binOp BinOp.add 3 (Operand.tmp 43) (Operand.const (Value.int IntKind.i64 1)) 3,3, "safe.go:20",#[⟨18,.data⟩,⟨16,.guard⟩],some (16,true)⟩
 | 20=>⟨some 45,.indexAddr 77 (Operand.tmp 42) (Operand.tmp 44),0, "safe.go:20",#[⟨17,.data⟩,⟨19,.data⟩,⟨16,.guard⟩],some (16,true)⟩
 | 21=>⟨some 46,.load 121 (Operand.tmp 45),121, "safe.go:20",#[⟨20,.data⟩,⟨16,.guard⟩],some (16,true)⟩
 | 22=>⟨some 47,.call { callee:=Callee.value (Operand.func 102),args:=#[],argTypes:=#[] },121, "safe.go:20",#[⟨16,.chain⟩,⟨16,.guard⟩],some (16,true)⟩
 | 23=>⟨some 48,.binOp BinOp.eql 121 (Operand.tmp 46) (Operand.tmp 47) 121,4, "safe.go:20",#[⟨21,.data⟩,⟨22,.data⟩,⟨16,.guard⟩],some (16,true)⟩
 | 24=>⟨some 49,.pick (Operand.tmp 41) (Operand.tmp 48) (Operand.const (Value.bool false)),4, "safe.go:20",#[⟨16,.data⟩,⟨23,.data⟩,⟨3,.guard⟩],some (3,false)⟩
 | 25=>⟨some 50,.pick (Operand.tmp 28) (Operand.const (Value.bool true)) (Operand.tmp 49),4, "safe.go:20",#[⟨3,.data⟩,⟨24,.data⟩],none⟩
 | _=>⟨some 3,.assign (Operand.tmp 50),4, "safe.go:20",#[⟨25,.data⟩,⟨22,.chain⟩,⟨0,.phase⟩,⟨1,.phase⟩,⟨2,.phase⟩,⟨3,.phase⟩,⟨4,.phase⟩,⟨5,.phase⟩,⟨6,.phase⟩,⟨7,.phase⟩,⟨8,.phase⟩,⟨9,.phase⟩,⟨10,.phase⟩,⟨11,.phase⟩,⟨12,.phase⟩,⟨13,.phase⟩,⟨14,.phase⟩,⟨15,.phase⟩,⟨16,.phase⟩,⟨17,.phase⟩,⟨18,.phase⟩,⟨19,.phase⟩,⟨20,.phase⟩,⟨21,.phase⟩,⟨22,.phase⟩,⟨23,.phase⟩,⟨24,.phase⟩,⟨25,.phase⟩],none⟩
theorem tky{P:Program}{ops:Array Oper}{Q:Exit→Act→World→Prop}{md:Region.Mode}{S:World→Prop}{i:Nat}{oi:Oper}{v:Value}{fuel:Nat}{listed:Array Bool}{a:Act}{w:World}(hi:ops[i]?=some oi)(hb:(Region.noSelect ops && Region.free md ops listed i && (Region.ready md ops listed).contains i && Region.wanted oi (yielded ops a.tmps))=true)
  (hQ:∀c a w,Q (.panic c) (a.put oi.dst v) w→Q (.panic c) a w) (hS:S w) (hy:∀w,S w→(execOp a.eval oi).run P w = .ok (.value v) w)
  (h:wpAnyH P md ops Q S fuel (listed.setIfInBounds i true) (a.put oi.dst v) w):wpAnyH P md ops Q S (fuel+1) listed a w:=by
 simp only[Bool.and_eq_true]at hb
 exact wpAnyH_take hi hb.1.1.1 hb.1.1.2 hb.1.2 hQ (.inl ⟨hb.2,hy⟩) hS h
theorem tkn{P:Program}{ops:Array Oper}{Q:Exit→Act→World→Prop}{md:Region.Mode}{S:World→Prop}{i:Nat}{oi:Oper}{fuel:Nat}{listed:Array Bool}{a:Act}{w:World}(hi:ops[i]?=some oi)(hb:(Region.noSelect ops && Region.free md ops listed i && (Region.ready md ops listed).contains i && !Region.wanted oi (yielded ops a.tmps))=true)
  (hQ:∀c a w,Q (.panic c) (a.put oi.dst undef) w→Q (.panic c) a w) (hS:S w)
  (h:wpAnyH P md ops Q S fuel (listed.setIfInBounds i true) (a.put oi.dst undef) w):wpAnyH P md ops Q S (fuel+1) listed a w:=by
 simp only[Bool.and_eq_true,Bool.not_eq_true']at hb
 exact wpAnyH_take hi hb.1.1.1 hb.1.1.2 hb.1.2 hQ (.inr ⟨hb.2,rfl⟩) hS h
end
section
open Go.RowKit
theorem G9(l:List Cf.Ins)(A:Option Addr)(cap k gl:Nat)(op a b c:Int)(w:World)(hR:bP w A l)(hm:l.length≤maxLen)(hx:l[k]?=some ⟨op,a,b,c⟩)(hg:w.cell? ⟨gl,0,none⟩=some (.slice A l.length cap))(hl:Cf.lF ⟨op,a,b,c⟩=false)(hs:Cf.inB op 1 8=true)(hr:Cf.inB a 4 6=true)(n1:¬(op=5∧a=4∧b=4∧c=5))(n2:¬(op=4∧a=4∧c=6)):
  Calls Tryz.prog 152 #[.int .i64 k,.pointer (some ⟨gl,0,none⟩)] w fun e w'=>e = .returned (.bool (Cf.trustB l k ⟨op,a,b,c⟩))∧Below w.heap.size w w':=by
 have hmx:l.length≤2 ^ 63-1:=hm
 clear hm
 have hk:k<l.length:=(List.getElem?_eq_some_iff.1 hx).1
 obtain⟨g,off,rfl,hgl,hc⟩:=hR.at_ (by intro e;rw[e]at hk;simp at hk)
 obtain⟨p0,p1,p2,p3⟩:=hc k op a b c hx
 have HT:=hid (show Cf.trustB l k ⟨op,a,b,c⟩=false by exact BG hs hr n1 n2)
 have N1:=hid n1
 have N2:=hid n2
 have C1:=hid (fun w=>bU op a b c w)
 rw[hl]at C1
 have C2:=hid (fun w=>gV op a b c w)
 rw[hs]at C2
 have C3:=hid (fun w=>dV a w)
 rw[hr]at C3
 clear hl hx hs hr n1 n2 hc
 go_enter Tryz.func152,Tryz.ntmps152
 go_wp2_with fail
 refine(C1.out _).mono ?_
 rintro e w1 ⟨rfl,hb1⟩
 have aO:Below w.heap.size w w1:=((Below.refl _ _).alloc (Nat.le_refl _) _).trans (hb1.mono (by simp))
 have q0:=hb1.cell (p:=⟨w.heap.size,0,none⟩) (by simp)
 have q1:=hb1.cell (p:=⟨w.heap.size,1,none⟩) (by simp)
 have q2:=hb1.cell (p:=⟨w.heap.size,2,none⟩) (by simp)
 have q3:=hb1.cell (p:=⟨w.heap.size,3,none⟩) (by simp)
 simp at q0 q1 q2 q3
 have qg:w1.cell? ⟨gl,0,none⟩=_:=(aO.cell (lt_of_cell hg)).trans hg
 clear hb1 hg p0 p1 p2 p3 C1
 go_wp2_with fail
 refine(C2.out _).mono ?_
 rintro e w2 ⟨rfl,hb2⟩
 obtain⟨hbw2,r0,r1,r2,r3,rg⟩:=jZ ⟨aO,q0,q1,q2,q3,qg⟩ hb2
 clear hb2 aO q0 q1 q2 q3 qg C2
 go_wp2_with fail
 refine(C3.out _).mono ?_
 rintro e w' ⟨rfl,rfl⟩
 clear C3
 go_upto_region 6 with fail
 refine wp_region_noPanic ?_
 refine wp_region_held_drew (S:=fun W=>Below w.heap.size w W∧W.cell? ⟨w.heap.size,0,none⟩=some (.int .i64 op)∧W.cell? ⟨w.heap.size,1,none⟩=some (.int .i64 a)∧W.cell? ⟨w.heap.size,2,none⟩=some (.int .i64 b)∧W.cell? ⟨w.heap.size,3,none⟩=some (.int .i64 c)∧W.cell? ⟨gl,0,none⟩=some (.slice (some ⟨g,off,none⟩) l.length cap)) (by kernel_rfl) ⟨hbw2.drew,r0,r1,r2,r3,rg⟩ (fun hHeld=>?_)
 refine tky (i:=0) (oi:=tro 0) (v:=.agg #[.int .i64 op,.int .i64 a,.int .i64 b,.int .i64 c]) rfl (by kernel_rfl) (fun _ _ _ h=>h) hHeld (fun w hSw=>by simp only[tro];(try dsimp only at hSw);go_simp) ?_
 (try simp only[tro,Act.put,sq])
 refine wpAnyH_ready (rs:=[1]) (by kernel_rfl) (by simp) ?_
 refine AllReadyH.cons (o:=tro 1) rfl (fun K hK=>?_) AllReadyH.nil
 simp only[tro]
 go_simp
 go_at_call 102;refine(fQ _).mono ?_;rintro e w' ⟨rfl,hb'⟩
 go_wp2_with fail
 refine hK.out _ _ (jZ hHeld hb') (fun hHeld=>?_)
 clear hK K hb'
 (try simp only[tro,Act.put,sq])
 refine tky (i:=2) (oi:=tro 2) (v:=.bool false) rfl (by kernel_rfl) (fun _ _ _ h=>h) hHeld (fun w hSw=>by simp only[tro];(try dsimp only at hSw);go_simp;exact fun e1 e2 e3 e4=>N1.out ⟨e1,e2,e3,e4⟩) ?_
 (try simp only[tro,Act.put,sq])
 refine tky (i:=3) (oi:=tro 3) (v:=.bool false) rfl (by kernel_rfl) (fun _ _ _ h=>h) hHeld (fun w hSw=>by simp only[tro];(try dsimp only at hSw);go_simp) ?_
 (try simp only[tro,Act.put,sq])
 refine tky (i:=4) (oi:=tro 4) (v:=.agg #[.int .i64 op,.int .i64 a,.int .i64 b,.int .i64 c]) rfl (by kernel_rfl) (fun _ _ _ h=>h) hHeld (fun w hSw=>by simp only[tro];(try dsimp only at hSw);go_simp) ?_
 (try simp only[tro,Act.put,sq])
 refine tky (i:=5) (oi:=tro 5) (v:=.pointer (some ⟨w.heap.size,2,none⟩)) rfl (by kernel_rfl) (fun _ _ _ h=>h) hHeld (fun w hSw=>by simp only[tro];(try dsimp only at hSw);go_simp) ?_
 (try simp only[tro,Act.put,sq])
 refine tky (i:=6) (oi:=tro 6) (v:=.int .i64 b) rfl (by kernel_rfl) (fun _ _ _ h=>h) hHeld (fun w hSw=>by simp only[tro];(try dsimp only at hSw);go_simp) ?_
 (try simp only[tro,Act.put,sq])
 refine wpAnyH_ready (rs:=[7]) (by kernel_rfl) (by simp) ?_
 refine AllReadyH.cons (o:=tro 7) rfl (fun K hK=>?_) AllReadyH.nil
 simp only[tro]
 go_simp
 go_at_call 101;refine(mF _ _).mono ?_;rintro e w' ⟨rfl,hb'⟩
 go_wp2_with fail
 refine hK.out _ _ (jZ hHeld hb') (fun hHeld=>?_)
 clear hK K hb'
 (try simp only[tro,Act.put,sq])
 refine tky (i:=8) (oi:=tro 8) (v:=.bool false) rfl (by kernel_rfl) (fun _ _ _ h=>h) hHeld (fun w hSw=>by simp only[tro];(try dsimp only at hSw);go_simp;exact fun e1 e2 e3=>N2.out ⟨e1,e2,e3⟩) ?_
 (try simp only[tro,Act.put,sq])
 refine tky (i:=9) (oi:=tro 9) (v:=.bool false) rfl (by kernel_rfl) (fun _ _ _ h=>h) hHeld (fun w hSw=>by simp only[tro];(try dsimp only at hSw);go_simp) ?_
 (try simp only[tro,Act.put,sq])
 refine tkn (i:=10) (oi:=tro 10) rfl (by kernel_rfl) (fun _ _ _ h=>h) hHeld ?_
 (try simp only[tro,Act.put,sq])
 refine tkn (i:=11) (oi:=tro 11) rfl (by kernel_rfl) (fun _ _ _ h=>h) hHeld ?_
 (try simp only[tro,Act.put,sq])
 refine tkn (i:=12) (oi:=tro 12) rfl (by kernel_rfl) (fun _ _ _ h=>h) hHeld ?_
 (try simp only[tro,Act.put,sq])
 refine tkn (i:=13) (oi:=tro 13) rfl (by kernel_rfl) (fun _ _ _ h=>h) hHeld ?_
 (try simp only[tro,Act.put,sq])
 refine tkn (i:=14) (oi:=tro 14) rfl (by kernel_rfl) (fun _ _ _ h=>h) hHeld ?_
 (try simp only[tro,Act.put,sq])
 refine tky (i:=15) (oi:=tro 15) (v:=.bool false) rfl (by kernel_rfl) (fun _ _ _ h=>h) hHeld (fun w hSw=>by simp only[tro];(try dsimp only at hSw);go_simp) ?_
 (try simp only[tro,Act.put,sq])
 refine tky (i:=16) (oi:=tro 16) (v:=.bool false) rfl (by kernel_rfl) (fun _ _ _ h=>h) hHeld (fun w hSw=>by simp only[tro];(try dsimp only at hSw);go_simp) ?_
 (try simp only[tro,Act.put,sq])
 refine tkn (i:=17) (oi:=tro 17) rfl (by kernel_rfl) (fun _ _ _ h=>h) hHeld ?_
 (try simp only[tro,Act.put,sq])
 refine tkn (i:=18) (oi:=tro 18) rfl (by kernel_rfl) (fun _ _ _ h=>h) hHeld ?_
 (try simp only[tro,Act.put,sq])
 refine tkn (i:=19) (oi:=tro 19) rfl (by kernel_rfl) (fun _ _ _ h=>h) hHeld ?_
 (try simp only[tro,Act.put,sq])
 refine tkn (i:=20) (oi:=tro 20) rfl (by kernel_rfl) (fun _ _ _ h=>h) hHeld ?_
 (try simp only[tro,Act.put,sq])
 refine tkn (i:=21) (oi:=tro 21) rfl (by kernel_rfl) (fun _ _ _ h=>h) hHeld ?_
 (try simp only[tro,Act.put,sq])
 refine tkn (i:=22) (oi:=tro 22) rfl (by kernel_rfl) (fun _ _ _ h=>h) hHeld ?_
 (try simp only[tro,Act.put,sq])
 refine tkn (i:=23) (oi:=tro 23) rfl (by kernel_rfl) (fun _ _ _ h=>h) hHeld ?_
 (try simp only[tro,Act.put,sq])
 refine tky (i:=24) (oi:=tro 24) (v:=.bool false) rfl (by kernel_rfl) (fun _ _ _ h=>h) hHeld (fun w hSw=>by simp only[tro];(try dsimp only at hSw);go_simp) ?_
 (try simp only[tro,Act.put,sq])
 refine tky (i:=25) (oi:=tro 25) (v:=.bool false) rfl (by kernel_rfl) (fun _ _ _ h=>h) hHeld (fun w hSw=>by simp only[tro];(try dsimp only at hSw);go_simp) ?_
 (try simp only[tro,Act.put,sq])
 refine tky (i:=26) (oi:=tro 26) (v:=.bool false) rfl (by kernel_rfl) (fun _ _ _ h=>h) hHeld (fun w hSw=>by simp only[tro];(try dsimp only at hSw);go_simp) ?_
 (try simp only[tro,Act.put,sq])
 refine wpAnyH_done (by kernel_rfl) ?_ _
 refine NoPanic.normal ?_
 obtain⟨hend,_⟩:=hHeld
 go_wp2
 go_ret
 exact⟨by rw[HT.out];rfl,hend⟩
theorem Gh(l:List Cf.Ins)(A:Option Addr)(cap k gl:Nat)(op a b c:Int)(w:World)(hR:bP w A l)(hm:l.length≤maxLen)(hx:l[k]?=some ⟨op,a,b,c⟩)(hg:w.cell? ⟨gl,0,none⟩=some (.slice A l.length cap))(hl:Cf.lF ⟨op,a,b,c⟩=true)(hb:b=4)(hs:Cf.inB op 1 8=true)(hr:Cf.inB a 4 6=true)(n1:¬(op=5∧a=4∧b=4∧c=5))(n2:¬(op=4∧a=4∧c=6)):
  Calls Tryz.prog 152 #[.int .i64 k,.pointer (some ⟨gl,0,none⟩)] w fun e w'=>e = .returned (.bool (Cf.trustB l k ⟨op,a,b,c⟩))∧Below w.heap.size w w':=by
 have hmx:l.length≤2 ^ 63-1:=hm
 clear hm
 have hk:k<l.length:=(List.getElem?_eq_some_iff.1 hx).1
 obtain⟨g,off,rfl,hgl,hc⟩:=hR.at_ (by intro e;rw[e]at hk;simp at hk)
 obtain⟨p0,p1,p2,p3⟩:=hc k op a b c hx
 have HT:=hid (show Cf.trustB l k ⟨op,a,b,c⟩=false by exact BG hs hr n1 n2)
 have N1:=hid n1
 have N2:=hid n2
 have eb:=eqn hb
 have C1:=hid (fun w=>bU op a b c w)
 rw[hl]at C1
 have C2:=hid (fun w=>gV op a b c w)
 rw[hs]at C2
 have C3:=hid (fun w=>dV a w)
 rw[hr]at C3
 clear hl hx hs hr n1 n2 hc hb
 go_enter Tryz.func152,Tryz.ntmps152
 go_wp2_with fail
 refine(C1.out _).mono ?_
 rintro e w1 ⟨rfl,hb1⟩
 have aO:Below w.heap.size w w1:=((Below.refl _ _).alloc (Nat.le_refl _) _).trans (hb1.mono (by simp))
 have q0:=hb1.cell (p:=⟨w.heap.size,0,none⟩) (by simp)
 have q1:=hb1.cell (p:=⟨w.heap.size,1,none⟩) (by simp)
 have q2:=hb1.cell (p:=⟨w.heap.size,2,none⟩) (by simp)
 have q3:=hb1.cell (p:=⟨w.heap.size,3,none⟩) (by simp)
 simp at q0 q1 q2 q3
 have qg:w1.cell? ⟨gl,0,none⟩=_:=(aO.cell (lt_of_cell hg)).trans hg
 clear hb1 hg p0 p1 p2 p3 C1
 go_wp2_with fail
 refine(C2.out _).mono ?_
 rintro e w2 ⟨rfl,hb2⟩
 obtain⟨hbw2,r0,r1,r2,r3,rg⟩:=jZ ⟨aO,q0,q1,q2,q3,qg⟩ hb2
 clear hb2 aO q0 q1 q2 q3 qg C2
 go_wp2_with fail
 refine(C3.out _).mono ?_
 rintro e w' ⟨rfl,rfl⟩
 clear C3
 go_upto_region 6 with fail
 refine wp_region_noPanic ?_
 refine wp_region_held_drew (S:=fun W=>Below w.heap.size w W∧W.cell? ⟨w.heap.size,0,none⟩=some (.int .i64 op)∧W.cell? ⟨w.heap.size,1,none⟩=some (.int .i64 a)∧W.cell? ⟨w.heap.size,2,none⟩=some (.int .i64 b)∧W.cell? ⟨w.heap.size,3,none⟩=some (.int .i64 c)∧W.cell? ⟨gl,0,none⟩=some (.slice (some ⟨g,off,none⟩) l.length cap)) (by kernel_rfl) ⟨hbw2.drew,r0,r1,r2,r3,rg⟩ (fun hHeld=>?_)
 refine tky (i:=0) (oi:=tro 0) (v:=.agg #[.int .i64 op,.int .i64 a,.int .i64 b,.int .i64 c]) rfl (by kernel_rfl) (fun _ _ _ h=>h) hHeld (fun w hSw=>by simp only[tro];(try dsimp only at hSw);go_simp) ?_
 (try simp only[tro,Act.put,sq])
 refine wpAnyH_ready (rs:=[1]) (by kernel_rfl) (by simp) ?_
 refine AllReadyH.cons (o:=tro 1) rfl (fun K hK=>?_) AllReadyH.nil
 simp only[tro]
 go_simp
 go_at_call 102;refine(fQ _).mono ?_;rintro e w' ⟨rfl,hb'⟩
 go_wp2_with fail
 refine hK.out _ _ (jZ hHeld hb') (fun hHeld=>?_)
 clear hK K hb'
 (try simp only[tro,Act.put,sq])
 refine tky (i:=2) (oi:=tro 2) (v:=.bool false) rfl (by kernel_rfl) (fun _ _ _ h=>h) hHeld (fun w hSw=>by simp only[tro];(try dsimp only at hSw);go_simp;exact fun e1 e2 e3 e4=>N1.out ⟨e1,e2,e3,e4⟩) ?_
 (try simp only[tro,Act.put,sq])
 refine tky (i:=3) (oi:=tro 3) (v:=.bool false) rfl (by kernel_rfl) (fun _ _ _ h=>h) hHeld (fun w hSw=>by simp only[tro];(try dsimp only at hSw);go_simp) ?_
 (try simp only[tro,Act.put,sq])
 refine tky (i:=4) (oi:=tro 4) (v:=.agg #[.int .i64 op,.int .i64 a,.int .i64 b,.int .i64 c]) rfl (by kernel_rfl) (fun _ _ _ h=>h) hHeld (fun w hSw=>by simp only[tro];(try dsimp only at hSw);go_simp) ?_
 (try simp only[tro,Act.put,sq])
 refine tky (i:=5) (oi:=tro 5) (v:=.pointer (some ⟨w.heap.size,2,none⟩)) rfl (by kernel_rfl) (fun _ _ _ h=>h) hHeld (fun w hSw=>by simp only[tro];(try dsimp only at hSw);go_simp) ?_
 (try simp only[tro,Act.put,sq])
 refine tky (i:=6) (oi:=tro 6) (v:=.int .i64 b) rfl (by kernel_rfl) (fun _ _ _ h=>h) hHeld (fun w hSw=>by simp only[tro];(try dsimp only at hSw);go_simp) ?_
 (try simp only[tro,Act.put,sq])
 refine wpAnyH_ready (rs:=[7]) (by kernel_rfl) (by simp) ?_
 refine AllReadyH.cons (o:=tro 7) rfl (fun K hK=>?_) AllReadyH.nil
 simp only[tro]
 go_simp
 go_at_call 101;refine(mF _ _).mono ?_;rintro e w' ⟨rfl,hb'⟩
 go_wp2_with fail
 refine hK.out _ _ (jZ hHeld hb') (fun hHeld=>?_)
 clear hK K hb'
 (try simp only[tro,Act.put,sq])
 refine tky (i:=8) (oi:=tro 8) (v:=.bool false) rfl (by kernel_rfl) (fun _ _ _ h=>h) hHeld (fun w hSw=>by simp only[tro];(try dsimp only at hSw);go_simp;exact fun e1 e2 e3=>N2.out ⟨e1,e2,e3⟩) ?_
 (try simp only[tro,Act.put,sq])
 refine tky (i:=9) (oi:=tro 9) (v:=.bool false) rfl (by kernel_rfl) (fun _ _ _ h=>h) hHeld (fun w hSw=>by simp only[tro];(try dsimp only at hSw);go_simp) ?_
 (try simp only[tro,Act.put,sq])
 refine tkn (i:=10) (oi:=tro 10) rfl (by kernel_rfl) (fun _ _ _ h=>h) hHeld ?_
 (try simp only[tro,Act.put,sq])
 refine tkn (i:=11) (oi:=tro 11) rfl (by kernel_rfl) (fun _ _ _ h=>h) hHeld ?_
 (try simp only[tro,Act.put,sq])
 refine tkn (i:=12) (oi:=tro 12) rfl (by kernel_rfl) (fun _ _ _ h=>h) hHeld ?_
 (try simp only[tro,Act.put,sq])
 refine tkn (i:=13) (oi:=tro 13) rfl (by kernel_rfl) (fun _ _ _ h=>h) hHeld ?_
 (try simp only[tro,Act.put,sq])
 refine tkn (i:=14) (oi:=tro 14) rfl (by kernel_rfl) (fun _ _ _ h=>h) hHeld ?_
 (try simp only[tro,Act.put,sq])
 refine tky (i:=15) (oi:=tro 15) (v:=.bool false) rfl (by kernel_rfl) (fun _ _ _ h=>h) hHeld (fun w hSw=>by simp only[tro];(try dsimp only at hSw);go_simp) ?_
 (try simp only[tro,Act.put,sq])
 refine tky (i:=16) (oi:=tro 16) (v:=.bool false) rfl (by kernel_rfl) (fun _ _ _ h=>h) hHeld (fun w hSw=>by simp only[tro];(try dsimp only at hSw);go_simp) ?_
 (try simp only[tro,Act.put,sq])
 refine tkn (i:=17) (oi:=tro 17) rfl (by kernel_rfl) (fun _ _ _ h=>h) hHeld ?_
 (try simp only[tro,Act.put,sq])
 refine tkn (i:=18) (oi:=tro 18) rfl (by kernel_rfl) (fun _ _ _ h=>h) hHeld ?_
 (try simp only[tro,Act.put,sq])
 refine tkn (i:=19) (oi:=tro 19) rfl (by kernel_rfl) (fun _ _ _ h=>h) hHeld ?_
 (try simp only[tro,Act.put,sq])
 refine tkn (i:=20) (oi:=tro 20) rfl (by kernel_rfl) (fun _ _ _ h=>h) hHeld ?_
 (try simp only[tro,Act.put,sq])
 refine tkn (i:=21) (oi:=tro 21) rfl (by kernel_rfl) (fun _ _ _ h=>h) hHeld ?_
 (try simp only[tro,Act.put,sq])
 refine tkn (i:=22) (oi:=tro 22) rfl (by kernel_rfl) (fun _ _ _ h=>h) hHeld ?_
 (try simp only[tro,Act.put,sq])
 refine tkn (i:=23) (oi:=tro 23) rfl (by kernel_rfl) (fun _ _ _ h=>h) hHeld ?_
 (try simp only[tro,Act.put,sq])
 refine tky (i:=24) (oi:=tro 24) (v:=.bool false) rfl (by kernel_rfl) (fun _ _ _ h=>h) hHeld (fun w hSw=>by simp only[tro];(try dsimp only at hSw);go_simp) ?_
 (try simp only[tro,Act.put,sq])
 refine tky (i:=25) (oi:=tro 25) (v:=.bool false) rfl (by kernel_rfl) (fun _ _ _ h=>h) hHeld (fun w hSw=>by simp only[tro];(try dsimp only at hSw);go_simp) ?_
 (try simp only[tro,Act.put,sq])
 refine tky (i:=26) (oi:=tro 26) (v:=.bool false) rfl (by kernel_rfl) (fun _ _ _ h=>h) hHeld (fun w hSw=>by simp only[tro];(try dsimp only at hSw);go_simp) ?_
 (try simp only[tro,Act.put,sq])
 refine wpAnyH_done (by kernel_rfl) ?_ _
 refine NoPanic.normal ?_
 obtain⟨hend,_⟩:=hHeld
 go_wp2
 go_ret
 exact⟨by rw[HT.out];rfl,hend⟩
theorem IC(l:List Cf.Ins)(A:Option Addr)(cap k gl:Nat)(w:World)(hR:bP w A l)(hm:l.length≤maxLen)(hx:l[k]?=some ⟨5,4,4,5⟩)(hg:w.cell? ⟨gl,0,none⟩=some (.slice A l.length cap))  :
  Calls Tryz.prog 152 #[.int .i64 k,.pointer (some ⟨gl,0,none⟩)] w fun e w'=>e = .returned (.bool (Cf.trustB l k ⟨5,4,4,5⟩))∧Below w.heap.size w w':=by
 have hmx:l.length≤2 ^ 63-1:=hm
 clear hm
 have hk:k<l.length:=(List.getElem?_eq_some_iff.1 hx).1
 obtain⟨g,off,rfl,hgl,hc⟩:=hR.at_ (by intro e;rw[e]at hk;simp at hk)
 obtain⟨p0,p1,p2,p3⟩:=hc k 5 4 4 5 hx
 have HT:=hid (show Cf.trustB l k ⟨5,4,4,5⟩=true by simp[Cf.trustB,Cf.lF,Cf.gp,Cf.inB,Cf.dh])
 have hl:Cf.lF ⟨5,4,4,5⟩=false:=rfl
 have hs:Cf.inB 5 1 8=true:=rfl
 have hr:Cf.inB 4 4 6=true:=rfl
 have C1:=hid (fun w=>bU 5 4 4 5 w)
 rw[hl]at C1
 have C2:=hid (fun w=>gV 5 4 4 5 w)
 rw[hs]at C2
 have C3:=hid (fun w=>dV 4 w)
 rw[hr]at C3
 clear hl hx hs hr hc
 go_enter Tryz.func152,Tryz.ntmps152
 go_wp2_with fail
 refine(C1.out _).mono ?_
 rintro e w1 ⟨rfl,hb1⟩
 have aO:Below w.heap.size w w1:=((Below.refl _ _).alloc (Nat.le_refl _) _).trans (hb1.mono (by simp))
 have q0:=hb1.cell (p:=⟨w.heap.size,0,none⟩) (by simp)
 have q1:=hb1.cell (p:=⟨w.heap.size,1,none⟩) (by simp)
 have q2:=hb1.cell (p:=⟨w.heap.size,2,none⟩) (by simp)
 have q3:=hb1.cell (p:=⟨w.heap.size,3,none⟩) (by simp)
 simp at q0 q1 q2 q3
 have qg:w1.cell? ⟨gl,0,none⟩=_:=(aO.cell (lt_of_cell hg)).trans hg
 clear hb1 hg p0 p1 p2 p3 C1
 go_wp2_with fail
 refine(C2.out _).mono ?_
 rintro e w2 ⟨rfl,hb2⟩
 obtain⟨hbw2,r0,r1,r2,r3,rg⟩:=jZ ⟨aO,q0,q1,q2,q3,qg⟩ hb2
 clear hb2 aO q0 q1 q2 q3 qg C2
 go_wp2_with fail
 refine(C3.out _).mono ?_
 rintro e w' ⟨rfl,rfl⟩
 clear C3
 go_upto_region 6 with fail
 refine wp_region_noPanic ?_
 refine wp_region_held_drew (S:=fun W=>Below w.heap.size w W∧W.cell? ⟨w.heap.size,0,none⟩=some (.int .i64 5)∧W.cell? ⟨w.heap.size,1,none⟩=some (.int .i64 4)∧W.cell? ⟨w.heap.size,2,none⟩=some (.int .i64 4)∧W.cell? ⟨w.heap.size,3,none⟩=some (.int .i64 5)∧W.cell? ⟨gl,0,none⟩=some (.slice (some ⟨g,off,none⟩) l.length cap)) (by kernel_rfl) ⟨hbw2.drew,r0,r1,r2,r3,rg⟩ (fun hHeld=>?_)
 refine tky (i:=0) (oi:=tro 0) (v:=.agg #[.int .i64 5,.int .i64 4,.int .i64 4,.int .i64 5]) rfl (by kernel_rfl) (fun _ _ _ h=>h) hHeld (fun w hSw=>by simp only[tro];(try dsimp only at hSw);go_simp) ?_
 (try simp only[tro,Act.put,sq])
 refine wpAnyH_ready (rs:=[1]) (by kernel_rfl) (by simp) ?_
 refine AllReadyH.cons (o:=tro 1) rfl (fun K hK=>?_) AllReadyH.nil
 simp only[tro]
 go_simp
 go_at_call 102;refine(fQ _).mono ?_;rintro e w' ⟨rfl,hb'⟩
 go_wp2_with fail
 refine hK.out _ _ (jZ hHeld hb') (fun hHeld=>?_)
 clear hK K hb'
 (try simp only[tro,Act.put,sq])
 refine tky (i:=2) (oi:=tro 2) (v:=.bool true) rfl (by kernel_rfl) (fun _ _ _ h=>h) hHeld (fun w hSw=>by simp only[tro];(try dsimp only at hSw);go_simp) ?_
 (try simp only[tro,Act.put,sq])
 refine tky (i:=3) (oi:=tro 3) (v:=.bool true) rfl (by kernel_rfl) (fun _ _ _ h=>h) hHeld (fun w hSw=>by simp only[tro];(try dsimp only at hSw);go_simp) ?_
 (try simp only[tro,Act.put,sq])
 refine tkn (i:=4) (oi:=tro 4) rfl (by kernel_rfl) (fun _ _ _ h=>h) hHeld ?_
 (try simp only[tro,Act.put,sq])
 refine tkn (i:=5) (oi:=tro 5) rfl (by kernel_rfl) (fun _ _ _ h=>h) hHeld ?_
 (try simp only[tro,Act.put,sq])
 refine tkn (i:=6) (oi:=tro 6) rfl (by kernel_rfl) (fun _ _ _ h=>h) hHeld ?_
 (try simp only[tro,Act.put,sq])
 refine tkn (i:=7) (oi:=tro 7) rfl (by kernel_rfl) (fun _ _ _ h=>h) hHeld ?_
 (try simp only[tro,Act.put,sq])
 refine tkn (i:=8) (oi:=tro 8) rfl (by kernel_rfl) (fun _ _ _ h=>h) hHeld ?_
 (try simp only[tro,Act.put,sq])
 refine tkn (i:=9) (oi:=tro 9) rfl (by kernel_rfl) (fun _ _ _ h=>h) hHeld ?_
 (try simp only[tro,Act.put,sq])
 refine tkn (i:=10) (oi:=tro 10) rfl (by kernel_rfl) (fun _ _ _ h=>h) hHeld ?_
 (try simp only[tro,Act.put,sq])
 refine tkn (i:=11) (oi:=tro 11) rfl (by kernel_rfl) (fun _ _ _ h=>h) hHeld ?_
 (try simp only[tro,Act.put,sq])
 refine tkn (i:=12) (oi:=tro 12) rfl (by kernel_rfl) (fun _ _ _ h=>h) hHeld ?_
 (try simp only[tro,Act.put,sq])
 refine tkn (i:=13) (oi:=tro 13) rfl (by kernel_rfl) (fun _ _ _ h=>h) hHeld ?_
 (try simp only[tro,Act.put,sq])
 refine tkn (i:=14) (oi:=tro 14) rfl (by kernel_rfl) (fun _ _ _ h=>h) hHeld ?_
 (try simp only[tro,Act.put,sq])
 refine tkn (i:=15) (oi:=tro 15) rfl (by kernel_rfl) (fun _ _ _ h=>h) hHeld ?_
 (try simp only[tro,Act.put,sq])
 refine tkn (i:=16) (oi:=tro 16) rfl (by kernel_rfl) (fun _ _ _ h=>h) hHeld ?_
 (try simp only[tro,Act.put,sq])
 refine tkn (i:=17) (oi:=tro 17) rfl (by kernel_rfl) (fun _ _ _ h=>h) hHeld ?_
 (try simp only[tro,Act.put,sq])
 refine tkn (i:=18) (oi:=tro 18) rfl (by kernel_rfl) (fun _ _ _ h=>h) hHeld ?_
 (try simp only[tro,Act.put,sq])
 refine tkn (i:=19) (oi:=tro 19) rfl (by kernel_rfl) (fun _ _ _ h=>h) hHeld ?_
 (try simp only[tro,Act.put,sq])
 refine tkn (i:=20) (oi:=tro 20) rfl (by kernel_rfl) (fun _ _ _ h=>h) hHeld ?_
 (try simp only[tro,Act.put,sq])
 refine tkn (i:=21) (oi:=tro 21) rfl (by kernel_rfl) (fun _ _ _ h=>h) hHeld ?_
 (try simp only[tro,Act.put,sq])
 refine tkn (i:=22) (oi:=tro 22) rfl (by kernel_rfl) (fun _ _ _ h=>h) hHeld ?_
 (try simp only[tro,Act.put,sq])
 refine tkn (i:=23) (oi:=tro 23) rfl (by kernel_rfl) (fun _ _ _ h=>h) hHeld ?_
 (try simp only[tro,Act.put,sq])
 refine tkn (i:=24) (oi:=tro 24) rfl (by kernel_rfl) (fun _ _ _ h=>h) hHeld ?_
 (try simp only[tro,Act.put,sq])
 refine tky (i:=25) (oi:=tro 25) (v:=.bool true) rfl (by kernel_rfl) (fun _ _ _ h=>h) hHeld (fun w hSw=>by simp only[tro];(try dsimp only at hSw);go_simp) ?_
 (try simp only[tro,Act.put,sq])
 refine tky (i:=26) (oi:=tro 26) (v:=.bool true) rfl (by kernel_rfl) (fun _ _ _ h=>h) hHeld (fun w hSw=>by simp only[tro];(try dsimp only at hSw);go_simp) ?_
 (try simp only[tro,Act.put,sq])
 refine wpAnyH_done (by kernel_rfl) ?_ _
 refine NoPanic.normal ?_
 obtain⟨hend,_⟩:=hHeld
 go_wp2
 go_ret
 exact⟨by rw[HT.out];rfl,hend⟩
end
section
open Go.RowKit
theorem Ir(l:List Cf.Ins)(A:Option Addr)(cap k gl:Nat)(b:Int)(w:World)(hR:bP w A l)(hm:l.length≤maxLen)(hx:l[k]?=some ⟨4,4,b,6⟩)(hg:w.cell? ⟨gl,0,none⟩=some (.slice A l.length cap))(hk1:¬k+1<l.length):
  Calls Tryz.prog 152 #[.int .i64 k,.pointer (some ⟨gl,0,none⟩)] w fun e w'=>e = .returned (.bool (Cf.trustB l k ⟨4,4,b,6⟩))∧Below w.heap.size w w':=by
 have hmx:l.length≤2 ^ 63-1:=hm
 clear hm
 have hk:k<l.length:=(List.getElem?_eq_some_iff.1 hx).1
 obtain⟨g,off,rfl,hgl,hc⟩:=hR.at_ (by intro e;rw[e]at hk;simp at hk)
 obtain⟨p0,p1,p2,p3⟩:=hc k 4 4 b 6 hx
 have HT:=hid (show Cf.trustB l k ⟨4,4,b,6⟩=false by rw[pY,Cf.qC,List.getElem?_eq_none (by omega)])
 have hk2:¬(k:Int)+1<l.length:=by omega
 have hl:Cf.lF ⟨4,4,b,6⟩=false:=rfl
 have hs:Cf.inB 4 1 8=true:=rfl
 have hr:Cf.inB 4 4 6=true:=rfl
 have C1:=hid (fun w=>bU 4 4 b 6 w)
 rw[hl]at C1
 have C2:=hid (fun w=>gV 4 4 b 6 w)
 rw[hs]at C2
 have C3:=hid (fun w=>dV 4 w)
 rw[hr]at C3
 clear hl hx hs hr hc
 go_enter Tryz.func152,Tryz.ntmps152
 go_wp2_with fail
 refine(C1.out _).mono ?_
 rintro e w1 ⟨rfl,hb1⟩
 have aO:Below w.heap.size w w1:=((Below.refl _ _).alloc (Nat.le_refl _) _).trans (hb1.mono (by simp))
 have q0:=hb1.cell (p:=⟨w.heap.size,0,none⟩) (by simp)
 have q1:=hb1.cell (p:=⟨w.heap.size,1,none⟩) (by simp)
 have q2:=hb1.cell (p:=⟨w.heap.size,2,none⟩) (by simp)
 have q3:=hb1.cell (p:=⟨w.heap.size,3,none⟩) (by simp)
 simp at q0 q1 q2 q3
 have qg:w1.cell? ⟨gl,0,none⟩=_:=(aO.cell (lt_of_cell hg)).trans hg
 clear hb1 hg p0 p1 p2 p3 C1
 go_wp2_with fail
 refine(C2.out _).mono ?_
 rintro e w2 ⟨rfl,hb2⟩
 obtain⟨hbw2,r0,r1,r2,r3,rg⟩:=jZ ⟨aO,q0,q1,q2,q3,qg⟩ hb2
 clear hb2 aO q0 q1 q2 q3 qg C2
 go_wp2_with fail
 refine(C3.out _).mono ?_
 rintro e w' ⟨rfl,rfl⟩
 clear C3
 go_upto_region 6 with fail
 have haf:=yD k (by omega)
 refine wp_region_noPanic ?_
 refine wp_region_held_drew (S:=fun W=>Below w.heap.size w W∧W.cell? ⟨w.heap.size,0,none⟩=some (.int .i64 4)∧W.cell? ⟨w.heap.size,1,none⟩=some (.int .i64 4)∧W.cell? ⟨w.heap.size,2,none⟩=some (.int .i64 b)∧W.cell? ⟨w.heap.size,3,none⟩=some (.int .i64 6)∧W.cell? ⟨gl,0,none⟩=some (.slice (some ⟨g,off,none⟩) l.length cap)) (by kernel_rfl) ⟨hbw2.drew,r0,r1,r2,r3,rg⟩ (fun hHeld=>?_)
 refine tky (i:=0) (oi:=tro 0) (v:=.agg #[.int .i64 4,.int .i64 4,.int .i64 b,.int .i64 6]) rfl (by kernel_rfl) (fun _ _ _ h=>h) hHeld (fun w hSw=>by simp only[tro];(try dsimp only at hSw);go_simp) ?_
 (try simp only[tro,Act.put,sq])
 refine wpAnyH_ready (rs:=[1]) (by kernel_rfl) (by simp) ?_
 refine AllReadyH.cons (o:=tro 1) rfl (fun K hK=>?_) AllReadyH.nil
 simp only[tro]
 go_simp
 go_at_call 102;refine(fQ _).mono ?_;rintro e w' ⟨rfl,hb'⟩
 go_wp2_with fail
 refine hK.out _ _ (jZ hHeld hb') (fun hHeld=>?_)
 clear hK K hb'
 (try simp only[tro,Act.put,sq])
 refine tky (i:=2) (oi:=tro 2) (v:=.bool false) rfl (by kernel_rfl) (fun _ _ _ h=>h) hHeld (fun w hSw=>by simp only[tro];(try dsimp only at hSw);go_simp) ?_
 (try simp only[tro,Act.put,sq])
 refine tky (i:=3) (oi:=tro 3) (v:=.bool false) rfl (by kernel_rfl) (fun _ _ _ h=>h) hHeld (fun w hSw=>by simp only[tro];(try dsimp only at hSw);go_simp) ?_
 (try simp only[tro,Act.put,sq])
 refine tky (i:=4) (oi:=tro 4) (v:=.agg #[.int .i64 4,.int .i64 4,.int .i64 b,.int .i64 6]) rfl (by kernel_rfl) (fun _ _ _ h=>h) hHeld (fun w hSw=>by simp only[tro];(try dsimp only at hSw);go_simp) ?_
 (try simp only[tro,Act.put,sq])
 refine tky (i:=5) (oi:=tro 5) (v:=.pointer (some ⟨w.heap.size,2,none⟩)) rfl (by kernel_rfl) (fun _ _ _ h=>h) hHeld (fun w hSw=>by simp only[tro];(try dsimp only at hSw);go_simp) ?_
 (try simp only[tro,Act.put,sq])
 refine tky (i:=6) (oi:=tro 6) (v:=.int .i64 b) rfl (by kernel_rfl) (fun _ _ _ h=>h) hHeld (fun w hSw=>by simp only[tro];(try dsimp only at hSw);go_simp) ?_
 (try simp only[tro,Act.put,sq])
 refine wpAnyH_ready (rs:=[7]) (by kernel_rfl) (by simp) ?_
 refine AllReadyH.cons (o:=tro 7) rfl (fun K hK=>?_) AllReadyH.nil
 simp only[tro]
 go_simp
 go_at_call 101;refine(mF _ _).mono ?_;rintro e w' ⟨rfl,hb'⟩
 go_wp2_with fail
 refine hK.out _ _ (jZ hHeld hb') (fun hHeld=>?_)
 clear hK K hb'
 (try simp only[tro,Act.put,sq])
 refine tky (i:=8) (oi:=tro 8) (v:=.bool true) rfl (by kernel_rfl) (fun _ _ _ h=>h) hHeld (fun w hSw=>by simp only[tro];(try dsimp only at hSw);go_simp) ?_
 (try simp only[tro,Act.put,sq])
 refine tky (i:=9) (oi:=tro 9) (v:=.bool true) rfl (by kernel_rfl) (fun _ _ _ h=>h) hHeld (fun w hSw=>by simp only[tro];(try dsimp only at hSw);go_simp) ?_
 (try simp only[tro,Act.put,sq])
 refine tky (i:=10) (oi:=tro 10) (v:=.int .i64 k) rfl (by kernel_rfl) (fun _ _ _ h=>h) hHeld (fun w hSw=>by simp only[tro];(try dsimp only at hSw);go_simp) ?_
 (try simp only[tro,Act.put,sq])
 refine tky (i:=11) (oi:=tro 11) (v:=.int .i64 (k+1)) rfl (by kernel_rfl) (fun _ _ _ h=>h) hHeld (fun w hSw=>by simp only[tro];(try dsimp only at hSw);go_simp) ?_
 (try simp only[tro,Act.put,sq])
 refine tky (i:=12) (oi:=tro 12) (v:=.slice (some ⟨g,off,none⟩) l.length cap) rfl (by kernel_rfl) (fun _ _ _ h=>h) hHeld (fun w hSw=>by simp only[tro];(try dsimp only at hSw);go_simp) ?_
 (try simp only[tro,Act.put,sq])
 refine tky (i:=13) (oi:=tro 13) (v:=.int .i64 l.length) rfl (by kernel_rfl) (fun _ _ _ h=>h) hHeld (fun w hSw=>by simp only[tro];(try dsimp only at hSw);go_simp) ?_
 (try simp only[tro,Act.put,sq])
 refine tky (i:=14) (oi:=tro 14) (v:=.bool false) rfl (by kernel_rfl) (fun _ _ _ h=>h) hHeld (fun w hSw=>by simp only[tro];(try dsimp only at hSw);go_simp) ?_
 (try simp only[tro,Act.put,sq])
 refine tky (i:=15) (oi:=tro 15) (v:=.bool false) rfl (by kernel_rfl) (fun _ _ _ h=>h) hHeld (fun w hSw=>by simp only[tro];(try dsimp only at hSw);go_simp) ?_
 (try simp only[tro,Act.put,sq])
 refine tky (i:=16) (oi:=tro 16) (v:=.bool false) rfl (by kernel_rfl) (fun _ _ _ h=>h) hHeld (fun w hSw=>by simp only[tro];(try dsimp only at hSw);go_simp) ?_
 (try simp only[tro,Act.put,sq])
 refine tkn (i:=17) (oi:=tro 17) rfl (by kernel_rfl) (fun _ _ _ h=>h) hHeld ?_
 (try simp only[tro,Act.put,sq])
 refine tkn (i:=18) (oi:=tro 18) rfl (by kernel_rfl) (fun _ _ _ h=>h) hHeld ?_
 (try simp only[tro,Act.put,sq])
 refine tkn (i:=19) (oi:=tro 19) rfl (by kernel_rfl) (fun _ _ _ h=>h) hHeld ?_
 (try simp only[tro,Act.put,sq])
 refine tkn (i:=20) (oi:=tro 20) rfl (by kernel_rfl) (fun _ _ _ h=>h) hHeld ?_
 (try simp only[tro,Act.put,sq])
 refine tkn (i:=21) (oi:=tro 21) rfl (by kernel_rfl) (fun _ _ _ h=>h) hHeld ?_
 (try simp only[tro,Act.put,sq])
 refine tkn (i:=22) (oi:=tro 22) rfl (by kernel_rfl) (fun _ _ _ h=>h) hHeld ?_
 (try simp only[tro,Act.put,sq])
 refine tkn (i:=23) (oi:=tro 23) rfl (by kernel_rfl) (fun _ _ _ h=>h) hHeld ?_
 (try simp only[tro,Act.put,sq])
 refine tky (i:=24) (oi:=tro 24) (v:=.bool false) rfl (by kernel_rfl) (fun _ _ _ h=>h) hHeld (fun w hSw=>by simp only[tro];(try dsimp only at hSw);go_simp) ?_
 (try simp only[tro,Act.put,sq])
 refine tky (i:=25) (oi:=tro 25) (v:=.bool false) rfl (by kernel_rfl) (fun _ _ _ h=>h) hHeld (fun w hSw=>by simp only[tro];(try dsimp only at hSw);go_simp) ?_
 (try simp only[tro,Act.put,sq])
 refine tky (i:=26) (oi:=tro 26) (v:=.bool false) rfl (by kernel_rfl) (fun _ _ _ h=>h) hHeld (fun w hSw=>by simp only[tro];(try dsimp only at hSw);go_simp) ?_
 (try simp only[tro,Act.put,sq])
 refine wpAnyH_done (by kernel_rfl) ?_ _
 refine NoPanic.normal ?_
 obtain⟨hend,_⟩:=hHeld
 go_wp2
 go_ret
 exact⟨by rw[HT.out];rfl,hend⟩
theorem Hl(l:List Cf.Ins)(A:Option Addr)(cap k gl:Nat)(b:Int)(w:World)(hR:bP w A l)(hm:l.length≤maxLen)(hx:l[k]?=some ⟨4,4,b,6⟩)(hg:w.cell? ⟨gl,0,none⟩=some (.slice A l.length cap))(op2 a2 b2 c2:Int)(hx2:l[k+1]?=some ⟨op2,a2,b2,c2⟩)(n3:¬(op2=5∧a2=4∧b2=4∧c2=5)):
  Calls Tryz.prog 152 #[.int .i64 k,.pointer (some ⟨gl,0,none⟩)] w fun e w'=>e = .returned (.bool (Cf.trustB l k ⟨4,4,b,6⟩))∧Below w.heap.size w w':=by
 have hmx:l.length≤2 ^ 63-1:=hm
 clear hm
 have hk:k<l.length:=(List.getElem?_eq_some_iff.1 hx).1
 obtain⟨g,off,rfl,hgl,hc⟩:=hR.at_ (by intro e;rw[e]at hk;simp at hk)
 obtain⟨p0,p1,p2,p3⟩:=hc k 4 4 b 6 hx
 have HT:=hid (show Cf.trustB l k ⟨4,4,b,6⟩=false by rw[pY,Cf.qC,hx2];simp[Cf.dh];exact fun e1 e2 e3 e4=>n3 ⟨e1,e2,e3,e4⟩)
 have hk1:k+1<l.length:=(List.getElem?_eq_some_iff.1 hx2).1
 have hk2:(k:Int)+1<l.length:=by omega
 have N3:=hid n3
 have Hx2:=hid hx2
 have Hc:=hid hc
 have hl:Cf.lF ⟨4,4,b,6⟩=false:=rfl
 have hs:Cf.inB 4 1 8=true:=rfl
 have hr:Cf.inB 4 4 6=true:=rfl
 have C1:=hid (fun w=>bU 4 4 b 6 w)
 rw[hl]at C1
 have C2:=hid (fun w=>gV 4 4 b 6 w)
 rw[hs]at C2
 have C3:=hid (fun w=>dV 4 w)
 rw[hr]at C3
 clear hl hx hs hr hc n3 hx2
 go_enter Tryz.func152,Tryz.ntmps152
 go_wp2_with fail
 refine(C1.out _).mono ?_
 rintro e w1 ⟨rfl,hb1⟩
 have aO:Below w.heap.size w w1:=((Below.refl _ _).alloc (Nat.le_refl _) _).trans (hb1.mono (by simp))
 have q0:=hb1.cell (p:=⟨w.heap.size,0,none⟩) (by simp)
 have q1:=hb1.cell (p:=⟨w.heap.size,1,none⟩) (by simp)
 have q2:=hb1.cell (p:=⟨w.heap.size,2,none⟩) (by simp)
 have q3:=hb1.cell (p:=⟨w.heap.size,3,none⟩) (by simp)
 simp at q0 q1 q2 q3
 have qg:w1.cell? ⟨gl,0,none⟩=_:=(aO.cell (lt_of_cell hg)).trans hg
 clear hb1 hg p0 p1 p2 p3 C1
 go_wp2_with fail
 refine(C2.out _).mono ?_
 rintro e w2 ⟨rfl,hb2⟩
 obtain⟨hbw2,r0,r1,r2,r3,rg⟩:=jZ ⟨aO,q0,q1,q2,q3,qg⟩ hb2
 clear hb2 aO q0 q1 q2 q3 qg C2
 go_wp2_with fail
 refine(C3.out _).mono ?_
 rintro e w' ⟨rfl,rfl⟩
 clear C3
 obtain⟨n0,n1,n2,n3⟩:=Hc.out (k+1) op2 a2 b2 c2 Hx2.out
 have m0:=(hbw2.cell hgl).trans n0
 have m1:=(hbw2.cell hgl).trans n1
 have m2:=(hbw2.cell hgl).trans n2
 have m3:=(hbw2.cell hgl).trans n3
 clear n0 n1 n2 n3
 go_upto_region 6 with fail
 have haf:=yD k (by omega)
 have hk0:¬(k:Int)+1<0:=by omega
 refine wp_region_noPanic ?_
 refine wp_region_held_drew (S:=fun W=>Below w.heap.size w W∧W.cell? ⟨w.heap.size,0,none⟩=some (.int .i64 4)∧W.cell? ⟨w.heap.size,1,none⟩=some (.int .i64 4)∧W.cell? ⟨w.heap.size,2,none⟩=some (.int .i64 b)∧W.cell? ⟨w.heap.size,3,none⟩=some (.int .i64 6)∧W.cell? ⟨gl,0,none⟩=some (.slice (some ⟨g,off,none⟩) l.length cap)∧W.cell? ⟨g,off+(k+1)*4,none⟩=some (.int .i64 op2)∧W.cell? ⟨g,off+(k+1)*4+1,none⟩=some (.int .i64 a2)∧W.cell? ⟨g,off+(k+1)*4+2,none⟩=some (.int .i64 b2)∧W.cell? ⟨g,off+(k+1)*4+3,none⟩=some (.int .i64 c2)) (by kernel_rfl) ⟨hbw2.drew,r0,r1,r2,r3,rg,m0,m1,m2,m3⟩ (fun hHeld=>?_)
 refine tky (i:=0) (oi:=tro 0) (v:=.agg #[.int .i64 4,.int .i64 4,.int .i64 b,.int .i64 6]) rfl (by kernel_rfl) (fun _ _ _ h=>h) hHeld (fun w hSw=>by simp only[tro];(try dsimp only at hSw);go_simp) ?_
 (try simp only[tro,Act.put,sq])
 refine wpAnyH_ready (rs:=[1]) (by kernel_rfl) (by simp) ?_
 refine AllReadyH.cons (o:=tro 1) rfl (fun K hK=>?_) AllReadyH.nil
 simp only[tro]
 go_simp
 go_at_call 102;refine(fQ _).mono ?_;rintro e w' ⟨rfl,hb'⟩
 go_wp2_with fail
 refine hK.out _ _ (yc hHeld hb') (fun hHeld=>?_)
 clear hK K hb'
 (try simp only[tro,Act.put,sq])
 refine tky (i:=2) (oi:=tro 2) (v:=.bool false) rfl (by kernel_rfl) (fun _ _ _ h=>h) hHeld (fun w hSw=>by simp only[tro];(try dsimp only at hSw);go_simp) ?_
 (try simp only[tro,Act.put,sq])
 refine tky (i:=3) (oi:=tro 3) (v:=.bool false) rfl (by kernel_rfl) (fun _ _ _ h=>h) hHeld (fun w hSw=>by simp only[tro];(try dsimp only at hSw);go_simp) ?_
 (try simp only[tro,Act.put,sq])
 refine tky (i:=4) (oi:=tro 4) (v:=.agg #[.int .i64 4,.int .i64 4,.int .i64 b,.int .i64 6]) rfl (by kernel_rfl) (fun _ _ _ h=>h) hHeld (fun w hSw=>by simp only[tro];(try dsimp only at hSw);go_simp) ?_
 (try simp only[tro,Act.put,sq])
 refine tky (i:=5) (oi:=tro 5) (v:=.pointer (some ⟨w.heap.size,2,none⟩)) rfl (by kernel_rfl) (fun _ _ _ h=>h) hHeld (fun w hSw=>by simp only[tro];(try dsimp only at hSw);go_simp) ?_
 (try simp only[tro,Act.put,sq])
 refine tky (i:=6) (oi:=tro 6) (v:=.int .i64 b) rfl (by kernel_rfl) (fun _ _ _ h=>h) hHeld (fun w hSw=>by simp only[tro];(try dsimp only at hSw);go_simp) ?_
 (try simp only[tro,Act.put,sq])
 refine wpAnyH_ready (rs:=[7]) (by kernel_rfl) (by simp) ?_
 refine AllReadyH.cons (o:=tro 7) rfl (fun K hK=>?_) AllReadyH.nil
 simp only[tro]
 go_simp
 go_at_call 101;refine(mF _ _).mono ?_;rintro e w' ⟨rfl,hb'⟩
 go_wp2_with fail
 refine hK.out _ _ (yc hHeld hb') (fun hHeld=>?_)
 clear hK K hb'
 (try simp only[tro,Act.put,sq])
 refine tky (i:=8) (oi:=tro 8) (v:=.bool true) rfl (by kernel_rfl) (fun _ _ _ h=>h) hHeld (fun w hSw=>by simp only[tro];(try dsimp only at hSw);go_simp) ?_
 (try simp only[tro,Act.put,sq])
 refine tky (i:=9) (oi:=tro 9) (v:=.bool true) rfl (by kernel_rfl) (fun _ _ _ h=>h) hHeld (fun w hSw=>by simp only[tro];(try dsimp only at hSw);go_simp) ?_
 (try simp only[tro,Act.put,sq])
 refine tky (i:=10) (oi:=tro 10) (v:=.int .i64 k) rfl (by kernel_rfl) (fun _ _ _ h=>h) hHeld (fun w hSw=>by simp only[tro];(try dsimp only at hSw);go_simp) ?_
 (try simp only[tro,Act.put,sq])
 refine tky (i:=11) (oi:=tro 11) (v:=.int .i64 (k+1)) rfl (by kernel_rfl) (fun _ _ _ h=>h) hHeld (fun w hSw=>by simp only[tro];(try dsimp only at hSw);go_simp) ?_
 (try simp only[tro,Act.put,sq])
 refine tky (i:=12) (oi:=tro 12) (v:=.slice (some ⟨g,off,none⟩) l.length cap) rfl (by kernel_rfl) (fun _ _ _ h=>h) hHeld (fun w hSw=>by simp only[tro];(try dsimp only at hSw);go_simp) ?_
 (try simp only[tro,Act.put,sq])
 refine tky (i:=13) (oi:=tro 13) (v:=.int .i64 l.length) rfl (by kernel_rfl) (fun _ _ _ h=>h) hHeld (fun w hSw=>by simp only[tro];(try dsimp only at hSw);go_simp) ?_
 (try simp only[tro,Act.put,sq])
 refine tky (i:=14) (oi:=tro 14) (v:=.bool true) rfl (by kernel_rfl) (fun _ _ _ h=>h) hHeld (fun w hSw=>by simp only[tro];(try dsimp only at hSw);go_simp) ?_
 (try simp only[tro,Act.put,sq])
 refine tky (i:=15) (oi:=tro 15) (v:=.bool true) rfl (by kernel_rfl) (fun _ _ _ h=>h) hHeld (fun w hSw=>by simp only[tro];(try dsimp only at hSw);go_simp) ?_
 (try simp only[tro,Act.put,sq])
 refine tky (i:=16) (oi:=tro 16) (v:=.bool true) rfl (by kernel_rfl) (fun _ _ _ h=>h) hHeld (fun w hSw=>by simp only[tro];(try dsimp only at hSw);go_simp) ?_
 (try simp only[tro,Act.put,sq])
 refine tky (i:=17) (oi:=tro 17) (v:=.slice (some ⟨g,off,none⟩) l.length cap) rfl (by kernel_rfl) (fun _ _ _ h=>h) hHeld (fun w hSw=>by simp only[tro];(try dsimp only at hSw);go_simp) ?_
 (try simp only[tro,Act.put,sq])
 refine tky (i:=18) (oi:=tro 18) (v:=.int .i64 k) rfl (by kernel_rfl) (fun _ _ _ h=>h) hHeld (fun w hSw=>by simp only[tro];(try dsimp only at hSw);go_simp) ?_
 (try simp only[tro,Act.put,sq])
 refine tky (i:=19) (oi:=tro 19) (v:=.int .i64 (k+1)) rfl (by kernel_rfl) (fun _ _ _ h=>h) hHeld (fun w hSw=>by simp only[tro];(try dsimp only at hSw);go_simp) ?_
 (try simp only[tro,Act.put,sq])
 refine tky (i:=20) (oi:=tro 20) (v:=.pointer (some ⟨g,off+(k+1)*4,none⟩)) rfl (by kernel_rfl) (fun _ _ _ h=>h) hHeld (fun w hSw=>by simp only[tro];(try dsimp only at hSw);go_simp) ?_
 (try simp only[tro,Act.put,sq])
 refine tky (i:=21) (oi:=tro 21) (v:=.agg #[.int .i64 op2,.int .i64 a2,.int .i64 b2,.int .i64 c2]) rfl (by kernel_rfl) (fun _ _ _ h=>h) hHeld (fun w hSw=>by simp only[tro];(try dsimp only at hSw);go_simp) ?_
 (try simp only[tro,Act.put,sq])
 refine wpAnyH_ready (rs:=[22]) (by kernel_rfl) (by simp) ?_
 refine AllReadyH.cons (o:=tro 22) rfl (fun K hK=>?_) AllReadyH.nil
 simp only[tro]
 go_simp
 go_at_call 102;refine(fQ _).mono ?_;rintro e w' ⟨rfl,hb'⟩
 go_wp2_with fail
 refine hK.out _ _ (yc hHeld hb') (fun hHeld=>?_)
 clear hK K hb'
 (try simp only[tro,Act.put,sq])
 refine tky (i:=23) (oi:=tro 23) (v:=.bool false) rfl (by kernel_rfl) (fun _ _ _ h=>h) hHeld (fun w hSw=>by simp only[tro];(try dsimp only at hSw);go_simp;exact fun e1 e2 e3 e4=>N3.out ⟨e1,e2,e3,e4⟩) ?_
 (try simp only[tro,Act.put,sq])
 refine tky (i:=24) (oi:=tro 24) (v:=.bool false) rfl (by kernel_rfl) (fun _ _ _ h=>h) hHeld (fun w hSw=>by simp only[tro];(try dsimp only at hSw);go_simp) ?_
 (try simp only[tro,Act.put,sq])
 refine tky (i:=25) (oi:=tro 25) (v:=.bool false) rfl (by kernel_rfl) (fun _ _ _ h=>h) hHeld (fun w hSw=>by simp only[tro];(try dsimp only at hSw);go_simp) ?_
 (try simp only[tro,Act.put,sq])
 refine tky (i:=26) (oi:=tro 26) (v:=.bool false) rfl (by kernel_rfl) (fun _ _ _ h=>h) hHeld (fun w hSw=>by simp only[tro];(try dsimp only at hSw);go_simp) ?_
 (try simp only[tro,Act.put,sq])
 refine wpAnyH_done (by kernel_rfl) ?_ _
 refine NoPanic.normal ?_
 obtain⟨hend,_⟩:=hHeld
 go_wp2
 go_ret
 exact⟨by rw[HT.out];rfl,hend⟩
theorem Gu(l:List Cf.Ins)(A:Option Addr)(cap k gl:Nat)(b:Int)(w:World)(hR:bP w A l)(hm:l.length≤maxLen)(hx:l[k]?=some ⟨4,4,b,6⟩)(hg:w.cell? ⟨gl,0,none⟩=some (.slice A l.length cap))(hx2:l[k+1]?=some ⟨5,4,4,5⟩):
  Calls Tryz.prog 152 #[.int .i64 k,.pointer (some ⟨gl,0,none⟩)] w fun e w'=>e = .returned (.bool (Cf.trustB l k ⟨4,4,b,6⟩))∧Below w.heap.size w w':=by
 have hmx:l.length≤2 ^ 63-1:=hm
 clear hm
 have hk:k<l.length:=(List.getElem?_eq_some_iff.1 hx).1
 obtain⟨g,off,rfl,hgl,hc⟩:=hR.at_ (by intro e;rw[e]at hk;simp at hk)
 obtain⟨p0,p1,p2,p3⟩:=hc k 4 4 b 6 hx
 have HT:=hid (show Cf.trustB l k ⟨4,4,b,6⟩=true by rw[pY,Cf.qC,hx2];rfl)
 have hk1:k+1<l.length:=(List.getElem?_eq_some_iff.1 hx2).1
 have hk2:(k:Int)+1<l.length:=by omega
 have Hx2:=hid hx2
 have Hc:=hid hc
 have hl:Cf.lF ⟨4,4,b,6⟩=false:=rfl
 have hs:Cf.inB 4 1 8=true:=rfl
 have hr:Cf.inB 4 4 6=true:=rfl
 have C1:=hid (fun w=>bU 4 4 b 6 w)
 rw[hl]at C1
 have C2:=hid (fun w=>gV 4 4 b 6 w)
 rw[hs]at C2
 have C3:=hid (fun w=>dV 4 w)
 rw[hr]at C3
 clear hl hx hs hr hc hx2
 go_enter Tryz.func152,Tryz.ntmps152
 go_wp2_with fail
 refine(C1.out _).mono ?_
 rintro e w1 ⟨rfl,hb1⟩
 have aO:Below w.heap.size w w1:=((Below.refl _ _).alloc (Nat.le_refl _) _).trans (hb1.mono (by simp))
 have q0:=hb1.cell (p:=⟨w.heap.size,0,none⟩) (by simp)
 have q1:=hb1.cell (p:=⟨w.heap.size,1,none⟩) (by simp)
 have q2:=hb1.cell (p:=⟨w.heap.size,2,none⟩) (by simp)
 have q3:=hb1.cell (p:=⟨w.heap.size,3,none⟩) (by simp)
 simp at q0 q1 q2 q3
 have qg:w1.cell? ⟨gl,0,none⟩=_:=(aO.cell (lt_of_cell hg)).trans hg
 clear hb1 hg p0 p1 p2 p3 C1
 go_wp2_with fail
 refine(C2.out _).mono ?_
 rintro e w2 ⟨rfl,hb2⟩
 obtain⟨hbw2,r0,r1,r2,r3,rg⟩:=jZ ⟨aO,q0,q1,q2,q3,qg⟩ hb2
 clear hb2 aO q0 q1 q2 q3 qg C2
 go_wp2_with fail
 refine(C3.out _).mono ?_
 rintro e w' ⟨rfl,rfl⟩
 clear C3
 obtain⟨n0,n1,n2,n3⟩:=Hc.out (k+1) 5 4 4 5 Hx2.out
 have m0:=(hbw2.cell hgl).trans n0
 have m1:=(hbw2.cell hgl).trans n1
 have m2:=(hbw2.cell hgl).trans n2
 have m3:=(hbw2.cell hgl).trans n3
 clear n0 n1 n2 n3
 go_upto_region 6 with fail
 have haf:=yD k (by omega)
 have hk0:¬(k:Int)+1<0:=by omega
 refine wp_region_noPanic ?_
 refine wp_region_held_drew (S:=fun W=>Below w.heap.size w W∧W.cell? ⟨w.heap.size,0,none⟩=some (.int .i64 4)∧W.cell? ⟨w.heap.size,1,none⟩=some (.int .i64 4)∧W.cell? ⟨w.heap.size,2,none⟩=some (.int .i64 b)∧W.cell? ⟨w.heap.size,3,none⟩=some (.int .i64 6)∧W.cell? ⟨gl,0,none⟩=some (.slice (some ⟨g,off,none⟩) l.length cap)∧W.cell? ⟨g,off+(k+1)*4,none⟩=some (.int .i64 5)∧W.cell? ⟨g,off+(k+1)*4+1,none⟩=some (.int .i64 4)∧W.cell? ⟨g,off+(k+1)*4+2,none⟩=some (.int .i64 4)∧W.cell? ⟨g,off+(k+1)*4+3,none⟩=some (.int .i64 5)) (by kernel_rfl) ⟨hbw2.drew,r0,r1,r2,r3,rg,m0,m1,m2,m3⟩ (fun hHeld=>?_)
 refine tky (i:=0) (oi:=tro 0) (v:=.agg #[.int .i64 4,.int .i64 4,.int .i64 b,.int .i64 6]) rfl (by kernel_rfl) (fun _ _ _ h=>h) hHeld (fun w hSw=>by simp only[tro];(try dsimp only at hSw);go_simp) ?_
 (try simp only[tro,Act.put,sq])
 refine wpAnyH_ready (rs:=[1]) (by kernel_rfl) (by simp) ?_
 refine AllReadyH.cons (o:=tro 1) rfl (fun K hK=>?_) AllReadyH.nil
 simp only[tro]
 go_simp
 go_at_call 102;refine(fQ _).mono ?_;rintro e w' ⟨rfl,hb'⟩
 go_wp2_with fail
 refine hK.out _ _ (yc hHeld hb') (fun hHeld=>?_)
 clear hK K hb'
 (try simp only[tro,Act.put,sq])
 refine tky (i:=2) (oi:=tro 2) (v:=.bool false) rfl (by kernel_rfl) (fun _ _ _ h=>h) hHeld (fun w hSw=>by simp only[tro];(try dsimp only at hSw);go_simp) ?_
 (try simp only[tro,Act.put,sq])
 refine tky (i:=3) (oi:=tro 3) (v:=.bool false) rfl (by kernel_rfl) (fun _ _ _ h=>h) hHeld (fun w hSw=>by simp only[tro];(try dsimp only at hSw);go_simp) ?_
 (try simp only[tro,Act.put,sq])
 refine tky (i:=4) (oi:=tro 4) (v:=.agg #[.int .i64 4,.int .i64 4,.int .i64 b,.int .i64 6]) rfl (by kernel_rfl) (fun _ _ _ h=>h) hHeld (fun w hSw=>by simp only[tro];(try dsimp only at hSw);go_simp) ?_
 (try simp only[tro,Act.put,sq])
 refine tky (i:=5) (oi:=tro 5) (v:=.pointer (some ⟨w.heap.size,2,none⟩)) rfl (by kernel_rfl) (fun _ _ _ h=>h) hHeld (fun w hSw=>by simp only[tro];(try dsimp only at hSw);go_simp) ?_
 (try simp only[tro,Act.put,sq])
 refine tky (i:=6) (oi:=tro 6) (v:=.int .i64 b) rfl (by kernel_rfl) (fun _ _ _ h=>h) hHeld (fun w hSw=>by simp only[tro];(try dsimp only at hSw);go_simp) ?_
 (try simp only[tro,Act.put,sq])
 refine wpAnyH_ready (rs:=[7]) (by kernel_rfl) (by simp) ?_
 refine AllReadyH.cons (o:=tro 7) rfl (fun K hK=>?_) AllReadyH.nil
 simp only[tro]
 go_simp
 go_at_call 101;refine(mF _ _).mono ?_;rintro e w' ⟨rfl,hb'⟩
 go_wp2_with fail
 refine hK.out _ _ (yc hHeld hb') (fun hHeld=>?_)
 clear hK K hb'
 (try simp only[tro,Act.put,sq])
 refine tky (i:=8) (oi:=tro 8) (v:=.bool true) rfl (by kernel_rfl) (fun _ _ _ h=>h) hHeld (fun w hSw=>by simp only[tro];(try dsimp only at hSw);go_simp) ?_
 (try simp only[tro,Act.put,sq])
 refine tky (i:=9) (oi:=tro 9) (v:=.bool true) rfl (by kernel_rfl) (fun _ _ _ h=>h) hHeld (fun w hSw=>by simp only[tro];(try dsimp only at hSw);go_simp) ?_
 (try simp only[tro,Act.put,sq])
 refine tky (i:=10) (oi:=tro 10) (v:=.int .i64 k) rfl (by kernel_rfl) (fun _ _ _ h=>h) hHeld (fun w hSw=>by simp only[tro];(try dsimp only at hSw);go_simp) ?_
 (try simp only[tro,Act.put,sq])
 refine tky (i:=11) (oi:=tro 11) (v:=.int .i64 (k+1)) rfl (by kernel_rfl) (fun _ _ _ h=>h) hHeld (fun w hSw=>by simp only[tro];(try dsimp only at hSw);go_simp) ?_
 (try simp only[tro,Act.put,sq])
 refine tky (i:=12) (oi:=tro 12) (v:=.slice (some ⟨g,off,none⟩) l.length cap) rfl (by kernel_rfl) (fun _ _ _ h=>h) hHeld (fun w hSw=>by simp only[tro];(try dsimp only at hSw);go_simp) ?_
 (try simp only[tro,Act.put,sq])
 refine tky (i:=13) (oi:=tro 13) (v:=.int .i64 l.length) rfl (by kernel_rfl) (fun _ _ _ h=>h) hHeld (fun w hSw=>by simp only[tro];(try dsimp only at hSw);go_simp) ?_
 (try simp only[tro,Act.put,sq])
 refine tky (i:=14) (oi:=tro 14) (v:=.bool true) rfl (by kernel_rfl) (fun _ _ _ h=>h) hHeld (fun w hSw=>by simp only[tro];(try dsimp only at hSw);go_simp) ?_
 (try simp only[tro,Act.put,sq])
 refine tky (i:=15) (oi:=tro 15) (v:=.bool true) rfl (by kernel_rfl) (fun _ _ _ h=>h) hHeld (fun w hSw=>by simp only[tro];(try dsimp only at hSw);go_simp) ?_
 (try simp only[tro,Act.put,sq])
 refine tky (i:=16) (oi:=tro 16) (v:=.bool true) rfl (by kernel_rfl) (fun _ _ _ h=>h) hHeld (fun w hSw=>by simp only[tro];(try dsimp only at hSw);go_simp) ?_
 (try simp only[tro,Act.put,sq])
 refine tky (i:=17) (oi:=tro 17) (v:=.slice (some ⟨g,off,none⟩) l.length cap) rfl (by kernel_rfl) (fun _ _ _ h=>h) hHeld (fun w hSw=>by simp only[tro];(try dsimp only at hSw);go_simp) ?_
 (try simp only[tro,Act.put,sq])
 refine tky (i:=18) (oi:=tro 18) (v:=.int .i64 k) rfl (by kernel_rfl) (fun _ _ _ h=>h) hHeld (fun w hSw=>by simp only[tro];(try dsimp only at hSw);go_simp) ?_
 (try simp only[tro,Act.put,sq])
 refine tky (i:=19) (oi:=tro 19) (v:=.int .i64 (k+1)) rfl (by kernel_rfl) (fun _ _ _ h=>h) hHeld (fun w hSw=>by simp only[tro];(try dsimp only at hSw);go_simp) ?_
 (try simp only[tro,Act.put,sq])
 refine tky (i:=20) (oi:=tro 20) (v:=.pointer (some ⟨g,off+(k+1)*4,none⟩)) rfl (by kernel_rfl) (fun _ _ _ h=>h) hHeld (fun w hSw=>by simp only[tro];(try dsimp only at hSw);go_simp) ?_
 (try simp only[tro,Act.put,sq])
 refine tky (i:=21) (oi:=tro 21) (v:=.agg #[.int .i64 5,.int .i64 4,.int .i64 4,.int .i64 5]) rfl (by kernel_rfl) (fun _ _ _ h=>h) hHeld (fun w hSw=>by simp only[tro];(try dsimp only at hSw);go_simp) ?_
 (try simp only[tro,Act.put,sq])
 refine wpAnyH_ready (rs:=[22]) (by kernel_rfl) (by simp) ?_
 refine AllReadyH.cons (o:=tro 22) rfl (fun K hK=>?_) AllReadyH.nil
 simp only[tro]
 go_simp
 go_at_call 102;refine(fQ _).mono ?_;rintro e w' ⟨rfl,hb'⟩
 go_wp2_with fail
 refine hK.out _ _ (yc hHeld hb') (fun hHeld=>?_)
 clear hK K hb'
 (try simp only[tro,Act.put,sq])
 refine tky (i:=23) (oi:=tro 23) (v:=.bool true) rfl (by kernel_rfl) (fun _ _ _ h=>h) hHeld (fun w hSw=>by simp only[tro];(try dsimp only at hSw);go_simp) ?_
 (try simp only[tro,Act.put,sq])
 refine tky (i:=24) (oi:=tro 24) (v:=.bool true) rfl (by kernel_rfl) (fun _ _ _ h=>h) hHeld (fun w hSw=>by simp only[tro];(try dsimp only at hSw);go_simp) ?_
 (try simp only[tro,Act.put,sq])
 refine tky (i:=25) (oi:=tro 25) (v:=.bool true) rfl (by kernel_rfl) (fun _ _ _ h=>h) hHeld (fun w hSw=>by simp only[tro];(try dsimp only at hSw);go_simp) ?_
 (try simp only[tro,Act.put,sq])
 refine tky (i:=26) (oi:=tro 26) (v:=.bool true) rfl (by kernel_rfl) (fun _ _ _ h=>h) hHeld (fun w hSw=>by simp only[tro];(try dsimp only at hSw);go_simp) ?_
 (try simp only[tro,Act.put,sq])
 refine wpAnyH_done (by kernel_rfl) ?_ _
 refine NoPanic.normal ?_
 obtain⟨hend,_⟩:=hHeld
 go_wp2
 go_ret
 exact⟨by rw[HT.out];rfl,hend⟩
end
section
open Go.RowKit
theorem Et(l:List Cf.Ins)(A:Option Addr)(cap k gl:Nat)(op a b c:Int)(w:World)(hR:bP w A l)(hm:l.length≤maxLen)(hx:l[k]?=some ⟨op,a,b,c⟩)(hg:w.cell? ⟨gl,0,none⟩=some (.slice A l.length cap)):
  Calls Tryz.prog 152 #[.int .i64 k,.pointer (some ⟨gl,0,none⟩)] w fun e w'=>e = .returned (.bool (Cf.trustB l k ⟨op,a,b,c⟩))∧Below w.heap.size w w':=by
 cases hl:Cf.lF ⟨op,a,b,c⟩ with
 | true=>
   by_cases hb:b=4
   ·cases hs:Cf.inB op 1 8 with
    | false=>exact GR l A cap k gl op a b c w hR hm hx hg hl hb hs
    | true=>
      cases hr:Cf.inB a 4 6 with
      | false=>exact Ig l A cap k gl op a b c w hR hm hx hg hl hb hs hr
      | true=>
        have h8:op=8∨op=9:=by simpa [Cf.lF] using hl
        exact Gh l A cap k gl op a b c w hR hm hx hg hl hb hs hr (fun h=>by omega) (fun h=>by omega)
   ·exact Jh l A cap k gl op a b c w hR hm hx hg hl hb
 | false=>
   cases hs:Cf.inB op 1 8 with
   | false=>exact I8 l A cap k gl op a b c w hR hm hx hg hl hs
   | true=>
     cases hr:Cf.inB a 4 6 with
     | false=>exact H7 l A cap k gl op a b c w hR hm hx hg hl hs hr
     | true=>
       by_cases n1:op=5∧a=4∧b=4∧c=5
       ·obtain⟨rfl,rfl,rfl,rfl⟩:=n1
        exact IC l A cap k gl w hR hm hx hg
       ·by_cases n2:op=4∧a=4∧c=6
        ·obtain⟨rfl,rfl,rfl⟩:=n2
         by_cases hk1:k+1<l.length
         ·obtain⟨op2,a2,b2,c2,hx2⟩:∃op a b' c',l[k+1]?=some ⟨op,a,b',c'⟩:=⟨_,_,_,_,List.getElem?_eq_getElem hk1⟩
          by_cases n3:op2=5∧a2=4∧b2=4∧c2=5
          ·obtain⟨rfl,rfl,rfl,rfl⟩:=n3
           exact Gu l A cap k gl b w hR hm hx hg hx2
          ·exact Hl l A cap k gl b w hR hm hx hg op2 a2 b2 c2 hx2 n3
         ·exact Ir l A cap k gl b w hR hm hx hg hk1
        ·exact G9 l A cap k gl op a b c w hR hm hx hg hl hs hr n1 n2
end
section
open Go.RowKit
theorem BP(l:List Cf.Ins)(A:Option Addr)(cap cap' gl:Nat)(w:World)(hR:bP w A l)(hL:jW w)(hF:kL w)(hm:l.length≤maxLen)(hg:w.cell? ⟨gl,0,none⟩=some (.slice A l.length cap')):
  Calls Tryz.prog 98 #[.slice A l.length cap,.func (.func 152) #[] #[.pointer (some ⟨gl,0,none⟩)]] w fun e w'=>e = .returned (.int .i64 (Cf.chkT l (Cf.trustB l)))∧Below w.heap.size w w':=by
 have HC:=hid (check_any l A cap w hR hL hF hm)
 have HM:=hid hm
 unfold maxLen at hm
 have hgl:=lt_of_cell hg
 have Hg:=hid hg
 have HR:=hid hR
 clear hL hF hg
 by_cases hf:Cf.fault l=0
 ·rw[hf]at HC
  by_cases hn:l=[]
  ·subst hn
   have HS:=hid (show Cf.chkT [] (Cf.trustB [])=10 from rfl)
   clear hR
   go_enter Tryz.func98,Tryz.ntmps98
   go_wp2_with fail
   refine HC.out.mono ?_
   rintro e w1 ⟨rfl,hb1⟩
   go_wp2
   go_ret
   exact⟨by rw[HS.out];rfl,hb1⟩
  ·obtain⟨n,hnl⟩:∃n,l.length=n+1:=⟨l.length-1,by have:=List.length_pos_iff.2 hn;omega⟩
   obtain⟨lop,la,lb,lc,hlast⟩:∃op a b c,l[n]?=some ⟨op,a,b,c⟩:=⟨_,_,_,_,List.getElem?_eq_getElem (by omega)⟩
   have hlB:Cf.lastB l=Cf.ja ⟨lop,la,lb,lc⟩:=by
    unfold Cf.lastB
    rw[List.getLast?_eq_getElem?,hnl,show n+1-1=n by omega,hlast]
   rcases hR with h0|⟨b,off,rfl,hb,hc⟩
   ·exact absurd h0 hn
   have Hc:=hid hc
   have qG:=hid hlast
   have Hf:=hid hf
   have Hnl:=hid hnl
   have HlB:=hid hlB
   have hnm:n+1≤2 ^ 63-1:=by omega
   clear hc hlast hf hn hnl hlB
   go_enter Tryz.func98,Tryz.ntmps98
   go_wp2_with fail
   refine HC.out.mono ?_
   rintro e w1 ⟨rfl,hb1⟩
   have d0:w1.cell? ⟨b,off+n*4,none⟩=some (.int .i64 lop):=(hb1.cell hb).trans (Hc.out n _ qG.out 0 _ rfl)
   have d1:w1.cell? ⟨b,off+n*4+1,none⟩=some (.int .i64 la):=(hb1.cell hb).trans (Hc.out n _ qG.out 1 _ rfl)
   have d2:w1.cell? ⟨b,off+n*4+2,none⟩=some (.int .i64 lb):=(hb1.cell hb).trans (Hc.out n _ qG.out 2 _ rfl)
   have d3:w1.cell? ⟨b,off+n*4+3,none⟩=some (.int .i64 lc):=(hb1.cell hb).trans (Hc.out n _ qG.out 3 _ rfl)
   rw[Hnl.out]
   clear HC hm
   go_wp2_with fail
   refine(zL lop la lb lc _).mono ?_
   rintro e w2 ⟨rfl,hb2⟩
   have hbw2:=hb1.trans (hb2.mono hb1.size)
   clear d0 d1 d2 d3 hb1 hb2
   cases hst:Cf.ja ⟨lop,la,lb,lc⟩
   ·have HS:=hid (show Cf.chkT l (Cf.trustB l)=10 by unfold Cf.chkT;rw[if_pos Hf.out,HlB.out,hst];rfl)
    go_wp2
    go_ret
    exact⟨by rw[HS.out];rfl,hbw2⟩
   ·have HL:=hid (HlB.out.trans hst)
    clear HlB hst
    go_wp2
    go_loopw [28] (fun i wr=>∃k:Nat,k≤n+1∧i = .int .i64 k∧(∀j,j<k→Cf.okT l (Cf.trustB l) j=true)∧Below w.heap.size w wr) (fun i _=>n+1-(intOf i).toNat)
    case atStart=>exact⟨0,by omega,rfl,fun j hj=>by omega,hbw2⟩
    case round=>
     obtain⟨k,hk,rfl,hz,hbw⟩:=hrel
     have Hz:=hid hz
     clear hz hbw2
     by_cases hlt:k<n+1
     ·obtain⟨op,a,b',c',hx⟩:∃op a b' c',l[k]?=some ⟨op,a,b',c'⟩:=⟨_,_,_,_,List.getElem?_eq_getElem (by rw[Hnl.out];omega)⟩
      have hc0:wr.cell? ⟨b,off+k*4,none⟩=some (.int .i64 op):=(hbw.cell hb).trans (Hc.out k _ hx 0 _ rfl)
      have hc1:wr.cell? ⟨b,off+k*4+1,none⟩=some (.int .i64 a):=(hbw.cell hb).trans (Hc.out k _ hx 1 _ rfl)
      have hc2:wr.cell? ⟨b,off+k*4+2,none⟩=some (.int .i64 b'):=(hbw.cell hb).trans (Hc.out k _ hx 2 _ rfl)
      have hc3:wr.cell? ⟨b,off+k*4+3,none⟩=some (.int .i64 c'):=(hbw.cell hb).trans (Hc.out k _ hx 3 _ rfl)
      have Hx:=hid hx
      clear hx
      go_wp2_with fail
      refine(CY op a b' c' _).mono ?_
      rintro e w3 ⟨rfl,hb3⟩
      have hbw3:Below w.heap.size w w3:=(hbw.alloc hbw.size _).trans (hb3.mono (by have:=hbw.size;simp;omega))
      have x3:=hb3.cell (p:=⟨wr.heap.size,3,none⟩) (by simp)
      simp at x3
      have HG3:=hid (show w3.cell? ⟨gl,0,none⟩=some (.slice (some ⟨b,off,none⟩) l.length cap') from(hbw3.cell hgl).trans Hg.out)
      have HR3:=hid (HR.out.below hbw3)
      have HT:=hid (Et l (some ⟨b,off,none⟩) cap' k gl op a b' c' w3 HR3.out HM.out Hx.out HG3.out)
      clear hb3 hc0 hc1 hc2 hc3 hbw
      cases hj:Cf.dK ⟨op,a,b',c'⟩
      ·have HO:=hid (show(!(Cf.dK ⟨op,a,b',c'⟩ && decide ((l.length:Int)≤c')) && Cf.trustB l k ⟨op,a,b',c'⟩)=Cf.trustB l k ⟨op,a,b',c'⟩ by simp[hj])
       clear hj
       go_wp2_with fail
       refine HT.out.mono ?_
       rintro e w4 ⟨rfl,hb4⟩
       have lw:=hbw3.trans (hb4.mono hbw3.size)
       clear HT hb4 hbw3 HG3 HR3 x3
       cases ht:Cf.trustB l k ⟨op,a,b',c'⟩
       ·have HS:=hid (Cf.chkT_bad l (Cf.trustB l) k _ Hf.out Hx.out (HO.out.trans ht))
        clear ht
        go_wp2
        go_ret
        exact⟨by rw[HS.out];rfl,lw⟩
       ·have HZ:=hid (Cf.chkT_on l (Cf.trustB l) k _ Hx.out Hz.out (HO.out.trans ht))
        clear ht
        go_wp2
        go_roundw
        case rel=>(repeat apply Exists.intro);exact⟨⟨k+1,by omega,by go_num,HZ.out,lw⟩,rfl⟩
        case measure=>simp[intOf];omega
      ·by_cases hcl:(l.length:Int)≤c'
       ·have HS:=hid (Cf.chkT_bad l (Cf.trustB l) k _ Hf.out Hx.out (by simp[hj,hcl]))
        clear hj
        rw[Hnl.out]at hcl
        go_wp2
        go_ret
        exact⟨by rw[HS.out];rfl,hbw3⟩
       ·have HO:=hid (show(!(Cf.dK ⟨op,a,b',c'⟩ && decide ((l.length:Int)≤c')) && Cf.trustB l k ⟨op,a,b',c'⟩)=Cf.trustB l k ⟨op,a,b',c'⟩ by simp[hcl])
        clear hj
        rw[Hnl.out]at hcl
        go_wp2_with fail
        refine HT.out.mono ?_
        rintro e w4 ⟨rfl,hb4⟩
        have lw:=hbw3.trans (hb4.mono hbw3.size)
        clear HT hb4 hbw3 HG3 HR3 x3
        cases ht:Cf.trustB l k ⟨op,a,b',c'⟩
        ·have HS:=hid (Cf.chkT_bad l (Cf.trustB l) k _ Hf.out Hx.out (HO.out.trans ht))
         clear ht
         go_wp2
         go_ret
         exact⟨by rw[HS.out];rfl,lw⟩
        ·have HZ:=hid (Cf.chkT_on l (Cf.trustB l) k _ Hx.out Hz.out (HO.out.trans ht))
         clear ht
         go_wp2
         go_roundw
         case rel=>(repeat apply Exists.intro);exact⟨⟨k+1,by omega,by go_num,HZ.out,lw⟩,rfl⟩
         case measure=>simp[intOf];omega
     ·have HS:=hid (Cf.chkT_end l (Cf.trustB l) Hf.out HL.out (fun j hj=>Hz.out j (by rw[Hnl.out]at hj;omega)))
      go_wp2
      go_ret
      exact⟨by rw[HS.out];rfl,hbw⟩
 ·have hf':(Cf.fault l != 0)=true:=by simp[hf]
  have HS:=hid (show Cf.chkT l (Cf.trustB l)=Cf.fault l by unfold Cf.chkT;rw[if_neg hf])
  clear hf
  go_enter Tryz.func98,Tryz.ntmps98
  go_wp2_with fail
  refine HC.out.mono ?_
  rintro e w1 ⟨rfl,hb1⟩
  go_wp2
  go_ret
  exact⟨by rw[HS.out];rfl,hb1⟩
theorem Dw(l:List Cf.Ins)(A:Option Addr)(cap:Nat)(w:World)(hR:bP w A l)(hL:jW w)(hF:kL w)(hm:l.length≤maxLen):
  Calls Tryz.prog 121 #[.slice A l.length cap] w fun e w'=>e = .returned (.int .i64 (Cf.jC l))∧Below w.heap.size w w':=by
 have hb0:Below w.heap.size w (w.alloc (.cells #[.slice A l.length cap] 77)):=(Below.refl _ _).alloc (Nat.le_refl _) _
 have HV:=hid (BP l A cap cap w.heap.size _ (hR.below hb0) (hL.below hb0) (hF.below hb0) hm (by simp))
 rw[Cf.chkT_trust]at HV
 have hmf:∀(fn:Fn) (first cap:Array Value) (w:World),(Instr.makeFunc fn first cap).run Tryz.prog w = .ok (.func fn first cap) w:=fun _ _ _ _=>rfl
 clear hR hL hF
 go_enter Tryz.func121,Tryz.ntmps121
 go_wp2_with fail
 refine HV.out.mono ?_
 rintro e w1 ⟨rfl,hb1⟩
 go_wp2
 go_ret
 exact⟨rfl,hb0.trans (hb1.mono (by simp))⟩
end
section
open Go.ChangeShapes Go.WideShapes Go.ChangeAt Go.RowKit Go.Deep
theorem weightsAll_mem{H:Type}{P:Program}{e:TypeId}:∀ {l:List (DataW H)} {d:DataW H} {n:Nat},d∈l→n∈d.weights P e→n∈DataW.weightsAll P e l
 | d0 :: l,d,n,hd,hn=>by
   simp only[DataW.weightsAll,List.mem_append]
   rcases List.mem_cons.1 hd with rfl|h
   ·exact .inl hn
   ·exact .inr (weightsAll_mem h hn)
theorem yR{H:Type}{P:Program}{t:TypeId}{fs:Array Field}(ht:P.underlying t=some (.struct fs)){xs:List (DataW H)}{i:Nat}{f:Field}{d:DataW H}(hf:fs[i]?=some f)(hd:xs[i]?=some d):
  ∀n∈d.weights P f.type,n∈(DataW.agg xs).weights P t:=by
 intro n hn
 simp only[DataW.weights,ht]
 exact DataW.weights_mem_each (by simp[hf]) hd n hn
section
variable {H:Type} {enc:TypeId × Value→H} {P:Program} {w:World}
def Light(P:Program)(t:TypeId)(N:Nat)(d:DataW H):Prop:=∀n∈d.weights P t,n≤N
theorem rX{ts:List TypeId}{ds:List (DataW H)}(h:(DataW.weightsEach P ts ds).all (· ≤ reachBytes)=true){j:Nat}{t:TypeId}{d:DataW H}(ht:ts[j]?=some t)(hd:ds[j]?=some d):Light P t reachBytes d:=by
 intro n hn
 have:=List.all_eq_true.1 h _ (DataW.weights_mem_each ht hd n hn)
 simpa using this
theorem vO{t:TypeId}{fs:Array Field}{fuel:Nat}{cs:List Value}{x:DataW H × List MemPlace}{N:Nat}(ht:P.underlying t=some (.struct fs))(h:DataW.trod enc P w 0 (fun _=>true) true fuel t cs=some x)(hN:Light P t N x.1)
  (i:Nat) (f:Field) (hf:fs[i]?=some f):∃n y,DataW.trod enc P w 0 (fun _=>true) true n f.type ((cs.drop f.offset).take (P.cellsOf f.type))=some y∧Light P f.type N y.1:=by
 obtain⟨xs,n,_,rfl,_,hxl,hg⟩:=DataW.trod_struct ht h
 have hi:i<xs.length:=by rw[hxl];exact(Array.getElem?_eq_some_iff.1 hf).1
 have hys:xs[i]?=some xs[i]:=List.getElem?_eq_getElem hi
 exact⟨n,xs[i],(hg i f hf).trans hys,fun k hk=>hN k (yR ht hf (by simp[hys]) k hk)⟩
theorem open_cell{t:TypeId}{fs:Array Field}{fuel:Nat}{cs:List Value}{x:DataW H × List MemPlace}{N:Nat}(ht:P.underlying t=some (.struct fs))(h:DataW.trod enc P w 0 (fun _=>true) true fuel t cs=some x)(hN:Light P t N x.1)
  (i:Nat) {ft:TypeId} {off:Nat} (hf:(fs[i]?).map (fun f=>(f.type,f.offset))=some (ft,off)) (hc:P.cellsOf ft=1) {v:Value} (hv:cs[off]?=some v):∃n y,DataW.trod enc P w 0 (fun _=>true) true n ft [v]=some y∧Light P ft N y.1:=by
 rw[Option.map_eq_some_iff]at hf
 obtain⟨f,hf,he⟩:=hf
 simp only[Prod.mk.injEq]at he
 obtain⟨rfl,rfl⟩:=he
 obtain⟨n,y,h1,h2⟩:=vO ht h hN i f hf
 refine⟨n,y,?_,h2⟩
 rw[hc]at h1
 rw[← h1]
 congr 1
 obtain⟨hlt,rfl⟩:=List.getElem?_eq_some_iff.1 hv
 rw[List.drop_eq_getElem_cons hlt]
 rfl
theorem kC{t:TypeId}{fs:Array Field}{fuel:Nat}{cs:List Value}{x:DataW H × List MemPlace}(ht:P.underlying t=some (.struct fs))(h:DataW.trod enc P w 0 (fun _=>true) true fuel t cs=some x):cs.length=P.cellsOf t:=by
 obtain⟨xs,n,_,_,hl,_⟩:=DataW.trod_struct ht h
 exact hl
theorem jy{t:TypeId}{fuel:Nat}{cs:List Value}{x:DataW H × List MemPlace}{N:Nat}(ht:P.underlying t=some .string)(h:DataW.trod enc P w 0 (fun _=>true) true fuel t cs=some x)(hN:Light P t N x.1):
  ∃s:List UInt8,cs=[.string ⟨s.toArray⟩]∧s.length≤maxLen∧s.length≤N:=by
 obtain⟨s,rfl,rfl,hs⟩:=DataW.trod_string ht h
 obtain⟨⟨sl⟩⟩:=s
 refine⟨sl,rfl,by simpa [ByteArray.size] using hs,hN _ ?_⟩
 simp[DataW.weights]
theorem dZ{t:TypeId}{fuel:Nat}{cs:List Value}{x:DataW H × List MemPlace}(ht:P.underlying t=some (.int .i64))(h:DataW.trod enc P w 0 (fun _=>true) true fuel t cs=some x):
  ∃z:Int,cs=[.int .i64 z]∧(Lit.int .i64 z).wf=true:=by
 obtain⟨z,rfl,_,hz⟩:=DataW.trod_int ht h
 exact⟨z,rfl,hz⟩
theorem open_list{α:Type}(Q:α→List Value→Prop){t e:TypeId}{fuel:Nat}{cs:List Value}{x:DataW H × List MemPlace}{N:Nat}(ht:P.underlying t=some (.slice e))(hpos:0<P.cellsOf e)
  (h:DataW.trod enc P w 0 (fun _=>true) true fuel t cs=some x) (hN:Light P t N x.1)
  (hel:∀n cs' (y:DataW H × List MemPlace),DataW.trod enc P w 0 (fun _=>true) true n e cs'=some y→Light P e N y.1→∃a,Q a cs'):
  ∃(A:Option Addr) (cap:Nat) (l:List α),cs=[.slice A l.length cap]∧(l.length≤maxLen∧l.length≤cap)∧l.length*P.bytesOf e≤N∧(l=[]∨∃b off,A=some ⟨b,off,none⟩∧b<w.heap.size ∧
   ∀k a,l[k]?=some a→∃cs',Q a cs'∧cs'.length=P.cellsOf e∧∀j u,cs'[j]?=some u→w.cell? ⟨b,off+k*P.cellsOf e+j,none⟩=some u):=by
 rcases DataW.trod_slice ht h with ⟨rfl,_⟩|⟨ad,len,cap,elems,rest,n,_,rfl,rfl,_,hl,hm,hlen,hat,_,_⟩
 ·exact⟨none,0,[],rfl,⟨by simp,by simp⟩,by simp,.inl rfl⟩
 have hby:(elems.length+rest.length)*P.bytesOf e≤N:=hN _ (by simp[DataW.weights,ht])
 have hone:∀i,i<len→∃a cs',Q a cs'∧cs'.length=P.cellsOf e∧∀j u,cs'[j]?=some u→w.cell? (ad.add (i*P.cellsOf e+j))=some u:=by
  intro i hi
  have h1:=hat i hi
  have hys:elems[i]?=some (elems[i]'(by omega)):=List.getElem?_eq_getElem (by omega)
  rw[hys,Option.bind_eq_some_iff]at h1
  obtain⟨cs',hc,h2⟩:=h1
  obtain⟨a,ha⟩:=hel n cs' _ h2 (fun k hk=>hN k (by
   simp only[DataW.weights,ht,List.mem_cons,List.mem_append]
   exact .inr (.inl (weightsAll_mem (List.mem_map_of_mem (List.getElem_mem (by omega))) hk))))
  obtain⟨_,hcl,hcell⟩:=World.cells?_some hc
  refine⟨a,cs',ha,hcl,fun j u hu=>?_⟩
  have hj:j<P.cellsOf e:=by rw[← hcl];exact(List.getElem?_eq_some_iff.1 hu).1
  rw[← Go.Deep.add_add,hcell j hj,hu]
 have hex:∀k,k≤len→∃l:List α,l.length=k∧∀i a,l[i]?=some a→∃cs',Q a cs'∧cs'.length=P.cellsOf e∧∀j u,cs'[j]?=some u→w.cell? (ad.add (i*P.cellsOf e+j))=some u:=by
  intro k
  induction k with
  | zero=>intro _;exact⟨[],rfl,fun i a ha=>by simp at ha⟩
  | succ k ih=>
    intro hk
    obtain⟨l,hll,hall⟩:=ih (by omega)
    obtain⟨a,ha⟩:=hone k (by omega)
    refine⟨l++[a],by simp[hll],fun i y hy=>?_⟩
    rw[List.getElem?_append]at hy
    split at hy
    ·exact hall i y hy
    ·have h0:i-l.length=0:=by
      rcases Nat.eq_zero_or_pos (i-l.length) with h|h
      ·exact h
      ·rw[List.getElem?_eq_none (by simp;omega)]at hy;cases hy
     rw[h0]at hy
     simp at hy
     subst hy
     have:i=k:=by omega
     subst this
     exact ha
 obtain⟨l,rfl,hall⟩:=hex len (Nat.le_refl _)
 refine⟨some ad,cap,l,rfl,⟨by omega,by omega⟩,Nat.le_trans (Nat.mul_le_mul_right _ (by omega)) hby,?_⟩
 cases l with
 | nil=>exact .inl rfl
 | cons a l=>
   obtain⟨cs0,_,hcl0,hc0⟩:=hall 0 a rfl
   have h0:=hc0 0 (cs0[0]'(by omega)) (List.getElem?_eq_getElem (by omega))
   obtain⟨b,off,spot⟩:=ad
   have hspot:spot=none:=by simpa [Addr.add] using World.cell?_spot h0
   subst hspot
   refine .inr ⟨b,off,rfl,?_,fun k y hy=>?_⟩
   ·have:=lt_of_cell h0
    simpa [Addr.add] using this
   ·obtain⟨cs',hq,hcl,hc⟩:=hall k y hy
    refine⟨cs',hq,hcl,fun j u hu=>?_⟩
    have:=hc j u hu
    rw[Go.WideShapes.add_plain]at this
    rwa [Nat.add_assoc]
theorem yG{α:Type}{sz:Nat}(en:α→List Value){t e:TypeId}{fuel:Nat}{cs:List Value}{x:DataW H × List MemPlace}{N:Nat}(ht:P.underlying t=some (.slice e))(hsz:P.cellsOf e=sz)(hpos:0<sz)
  (h:DataW.trod enc P w 0 (fun _=>true) true fuel t cs=some x) (hN:Light P t N x.1)
  (hel:∀n cs' (y:DataW H × List MemPlace),DataW.trod enc P w 0 (fun _=>true) true n e cs'=some y→Light P e N y.1→∃a,cs'=en a):
  ∃(A:Option Addr) (cap:Nat) (l:List α),cs=[.slice A l.length cap]∧l.length≤maxLen∧l.length*P.bytesOf e≤N∧RdS sz en w A l:=by
 obtain⟨A,cap,l,h1,⟨h2,_⟩,h3,h4⟩:=open_list (fun a cs'=>cs'=en a) ht (by omega) h hN hel
 refine⟨A,cap,l,h1,h2,h3,?_⟩
 rcases h4 with h4|⟨b,off,hA,hb,hc⟩
 ·exact .inl h4
 ·refine .inr ⟨b,off,hA,hb,fun k a ha j u hu=>?_⟩
  obtain⟨cs',rfl,_,hcell⟩:=hc k a ha
  have:=hcell j u hu
  rwa [hsz]at this
theorem AV{cs:List Value}(h:cs.length=3):∃a b c,cs=[a,b,c]:=by
 match cs,h with
 | [a,b,c],_=>exact⟨a,b,c,rfl⟩
theorem DJ{cs:List Value}(h:cs.length=4):∃a b c d,cs=[a,b,c,d]:=by
 match cs,h with
 | [a,b,c,d],_=>exact⟨a,b,c,d,rfl⟩
theorem zH{t e:TypeId}{fuel:Nat}{cs:List Value}{x:DataW H × List MemPlace}{N:Nat}(ht:P.underlying t=some (.slice e))(h4:qY P e=true)
  (h:DataW.trod enc P w 0 (fun _=>true) true fuel t cs=some x) (hN:Light P t N x.1):
  ∃(A:Option Addr) (cap:Nat) (l:List Cf.Ins),cs=[.slice A l.length cap]∧l.length≤maxLen∧l.length*P.bytesOf e≤N∧bP w A l:=by
 obtain⟨fs,he,hn,hC,hf⟩:=Bv h4
 refine yG encI ht hC (by omega) h hN fun n cs' y hy hNy=>?_
 have hl:=kC he hy
 have one:∀j,j<4→∃z:Int,cs'[j]?=some (.int .i64 z):=by
  intro j hj
  have hj':=hf j hj
  rw[Option.map_eq_some_iff]at hj'
  obtain⟨f,hfj,hfe⟩:=hj'
  simp only[Prod.mk.injEq]at hfe
  obtain⟨ho,hu,hk⟩:=hfe
  obtain⟨n',y',h1,_⟩:=vO he hy hNy j f hfj
  rw[ho,hk]at h1
  obtain⟨z,hz,_⟩:=dZ hu h1
  refine⟨z,?_⟩
  have h0:=congrArg (·[0]?) hz
  simpa [List.getElem?_drop] using h0
 rw[hC]at hl
 obtain⟨c0,c1,c2,c3,rfl⟩:=DJ hl
 obtain⟨z0,e0⟩:=one 0 (by omega)
 obtain⟨z1,e1⟩:=one 1 (by omega)
 obtain⟨z2,e2⟩:=one 2 (by omega)
 obtain⟨z3,e3⟩:=one 3 (by omega)
 simp at e0 e1 e2 e3
 exact⟨⟨z0,z1,z2,z3⟩,by rw[e0,e1,e2,e3];rfl⟩
theorem qE{t e:TypeId}{fuel:Nat}{cs:List Value}{x:DataW H × List MemPlace}{N:Nat}(ht:P.underlying t=some (.slice e))(he:P.underlying e=some (.int .i64))(hce:P.cellsOf e=1)
  (h:DataW.trod enc P w 0 (fun _=>true) true fuel t cs=some x) (hN:Light P t N x.1):
  ∃(A:Option Addr) (cap:Nat) (l:List Int),cs=[.slice A l.length cap]∧l.length≤maxLen∧l.length*P.bytesOf e≤N∧Ints w A l:=
 yG encZ ht hce (by omega) h hN fun n cs' y hy _=>by
  obtain⟨z,rfl,_⟩:=dZ he hy
  exact⟨z,rfl⟩
end
end
section
open Go.ChangeShapes Go.WideShapes Go.ChangeAt Go.RowKit Go.Deep
theorem J4:qY Tryz.prog 121=true:=by kernel_rfl
theorem Gs:Tryz.prog.bytesOf 121=32:=by kernel_rfl
theorem Bi:Tryz.prog.bytesOf 3=8:=by kernel_rfl
theorem intCells:Tryz.prog.cellsOf 3=1:=by kernel_rfl
theorem zX:Tryz.prog.cellsOf 79=3:=by kernel_rfl
theorem nY:Tryz.prog.cellsOf 9=1:=by kernel_rfl
theorem LQ:Tryz.prog.cellsOf 77=1:=by kernel_rfl
theorem D5:Tryz.prog.cellsOf 23=1:=by kernel_rfl
def Nu(w:World)(N:Nat)(cs:List Value)(n:List UInt8)(l:List Cf.Ins)(d:List Int)(A:Option Addr)(ca:Nat)(B:Option Addr)(cb:Nat):Prop:=
 cs=[.string ⟨n.toArray⟩,.slice A l.length ca,.slice B d.length cb]∧bP w A l∧Ints w B d∧(n.length≤maxLen∧n.length≤N)∧(l.length≤maxLen∧l.length*32≤N)∧(d.length≤maxLen∧d.length*8≤N)
theorem Gj{H:Type}{enc:TypeId × Value→H}{w:World}{fuel:Nat}{cs:List Value}{x:DataW H × List MemPlace}{N:Nat}
  (h:DataW.trod enc Tryz.prog w 0 (fun _=>true) true fuel 79 cs=some x) (hN:Light Tryz.prog 79 N x.1):∃n l d A ca B cb,Nu w N cs n l d A ca B cb:=by
 obtain⟨c0,c1,c2,rfl⟩:=AV ((kC Tryz.underlying79 h).trans zX)
 obtain⟨_,_,h0,l0⟩:=open_cell Tryz.underlying79 h hN 0 (ft:=9) (off:=0) rfl nY rfl
 obtain⟨_,_,h1,l1⟩:=open_cell Tryz.underlying79 h hN 1 (ft:=77) (off:=1) rfl LQ rfl
 obtain⟨_,_,h2,l2⟩:=open_cell Tryz.underlying79 h hN 2 (ft:=23) (off:=2) rfl D5 rfl
 obtain⟨n,e0,hn1,hn2⟩:=jy Tryz.underlying9 h0 l0
 obtain⟨A,ca,l,e1,hl1,hl2,hC⟩:=zH Tryz.underlying77 J4 h1 l1
 obtain⟨B,cb,d,e2,hd1,hd2,hD⟩:=qE Tryz.underlying23 Tryz.underlying3 intCells h2 l2
 rw[Gs]at hl2
 rw[Bi]at hd2
 simp at e0 e1 e2
 exact⟨n,l,d,A,ca,B,cb,by rw[e0,e1,e2],hC,hD,⟨hn1,hn2⟩,⟨hl1,hl2⟩,⟨hd1,hd2⟩⟩
end
end Go.Proofs.YtnnhhbjbdmgpiaaGreatDoor
