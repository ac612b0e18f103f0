/- Texts of the proofs: ModR, NewK, OfK. -/
import Derived.Test.YtnnhhbjbdmgpiaaGreatDoorJ04
set_option linter.unusedSimpArgs false
set_option linter.unusedVariables false
namespace Go.Proofs.YtnnhhbjbdmgpiaaGreatDoor
set_option maxRecDepth 100000
set_option maxHeartbeats 4000000
open Lib (hid)
section
open Go.RowKit
theorem kJ(n:List UInt8)(l:List Cf.Ins)(d:List Int)(A B:Option Addr)(ca cb:Nat)(w:World)(hC:bP w A l)(hD:Ints w B d)(hn:n.length≤maxLen)(hl:l.length≤maxLen)(hd:d.length≤maxLen):
  Calls Tryz.prog 72 #[.agg #[.string ⟨n.toArray⟩,.slice A l.length ca,.slice B d.length cb]] w fun e w'=>e = .returned (.int .i64 (Cf.cZ ⟨n,l,d⟩))∧Below w.heap.size w w':=by
 have hb0:Below w.heap.size w (w.alloc (.cells #[.string ⟨n.toArray⟩,.slice A l.length ca,.slice B d.length cb] 79)):=(Below.refl _ _).alloc (Nat.le_refl _) _
 have hbox:Wb (w.alloc (.cells #[.string ⟨n.toArray⟩,.slice A l.length ca,.slice B d.length cb] 79)) w.heap.size 79 [.string ⟨n.toArray⟩,.slice A l.length ca,.slice B d.length cb]:=Wb.new w 79 [.string ⟨n.toArray⟩,.slice A l.length ca,.slice B d.length cb]
 have HN:=hid (kD n hn (w.alloc (.cells #[.string ⟨n.toArray⟩,.slice A l.length ca,.slice B d.length cb] 79)))
 have HC:=hid hC
 have HD:=hid hD
 have HMl:=hid hl
 have HMd:=hid hd
 have p1:=hbox.cell 1
 have p2:=hbox.cell 2
 simp only[gq]at p1 p2
 unfold maxLen at hd
 clear hC hD hl hbox
 go_enter Tryz.func72,Tryz.ntmps72
 go_wp2_with fail
 refine HN.out.mono ?_
 rintro e w1 ⟨rfl,rfl⟩
 generalize hw1:w.alloc _=w1 at *
 clear HN hw1
 cases hnb:Cf.nameB n
 ·have HS:=hid (show Cf.cZ ⟨n,l,d⟩=4 by unfold Cf.cZ;rw[if_neg (by simp[hnb])])
  clear hnb
  go_wp2
  go_ret
  exact⟨by rw[HS.out];rfl,hb0⟩
 ·by_cases h64:d.length≤64
  ·have HCF:=hid (iP d B cb w1 (HD.out.below hb0) HMd.out)
   cases hw:d.all Cf.aV
   ·have HS:=hid (show Cf.cZ ⟨n,l,d⟩=2 by unfold Cf.cZ;rw[if_pos hnb,if_pos h64,if_neg (by simp[hw])])
    rw[hw]at HCF
    clear hnb hw
    go_wp2_with fail
    refine HCF.out.mono ?_
    rintro e w2 ⟨rfl,rfl⟩
    go_wp2
    go_ret
    exact⟨by rw[HS.out];rfl,hb0⟩
   ·have HS:=hid (show Cf.cZ ⟨n,l,d⟩=Cf.jC l by unfold Cf.cZ;rw[if_pos hnb,if_pos h64,if_pos hw])
    rw[hw]at HCF
    have HV:=hid (wQ l A ca w1 (HC.out.below hb0) HMl.out)
    clear hnb hw
    go_wp2_with fail
    refine HCF.out.mono ?_
    rintro e w2 ⟨rfl,rfl⟩
    go_wp2_with fail
    refine HV.out.mono ?_
    rintro e w3 ⟨rfl,hb3⟩
    have hbw3:=hb0.trans (hb3.mono hb0.size)
    go_wp2
    go_ret
    exact⟨by rw[HS.out];rfl,hbw3⟩
  ·have HS:=hid (show Cf.cZ ⟨n,l,d⟩=1 by unfold Cf.cZ;rw[if_pos hnb,if_neg h64])
   clear hnb
   go_wp2
   go_ret
   exact⟨by rw[HS.out];rfl,hb0⟩
end
section
open Go.RowKit
theorem DZ:(Tryz.prog.info? 3).map (fun i=>(i.zero,i.size,i.bytes))=some (some (.int .i64 0),1,8):=by kernel_rfl
theorem Eg:(Tryz.prog.info? 9).map (fun i=>(i.zero,i.size,i.bytes))=some (some (.string ⟨#[]⟩),1,16):=by kernel_rfl
theorem DR:(Tryz.prog.info? 57).map (fun i=>(i.zero,i.size,i.bytes))=some (some (.agg #[.string ⟨#[]⟩,.int .i64 0,.string ⟨#[]⟩,.int .i64 0]),4,48):=by kernel_rfl
theorem vP:(Tryz.prog.info? 72).map (fun i=>(i.zero,i.size,i.bytes))=some (some (.agg #[.int .i64 0,.int .i64 0,.int .i64 0]),3,24):=by kernel_rfl
theorem Ec:(Tryz.prog.info? 69).map (fun i=>(i.zero,i.size,i.bytes))=some (some (.agg #[.bool false,.slice none 0 0]),2,32):=by kernel_rfl
abbrev bu:TypeId:=57
abbrev fP:TypeId:=72
abbrev jL:TypeId:=69
abbrev lX:TypeId:=9
def Fe:PV:=⟨false,none,0,0⟩
def kz:List Value:=[.slice none 0 0,.slice none 0 0,.slice none 0 0,.slice none 0 0,.slice none 0 0]
theorem FV{w:World}{p:Addr}(h:p.block<w.heap.size){o:Obj}{u:Value}:(w.alloc o).setCell p u=(w.setCell p u).alloc o:=by
 simp only[World.alloc,World.setCell]
 congr 1
 apply Array.ext_getElem?
 intro i
 rw[Array.getElem?_modify,Array.getElem?_push,Array.getElem?_push,Array.getElem?_modify,Array.size_modify]
 by_cases h1:i=w.heap.size
 ·subst h1
  simp[show ¬p.block=w.heap.size by omega]
 ·simp[h1]
theorem uo{cs:List Value}(h:cs.length=5):∃a b c d e,cs=[a,b,c,d,e]:=by
 match cs,h with
 | [a,b,c,d,e],_=>exact⟨a,b,c,d,e,rfl⟩
end
section
open Go.RowKit
theorem Fh(w:World)(ty:TypeId)(a b c d:Int):bP (w.alloc (.cells #[.int .i64 a,.int .i64 b,.int .i64 c,.int .i64 d] ty)) (some ⟨w.heap.size,0,none⟩) [⟨a,b,c,d⟩]:=
 .inr ⟨w.heap.size,0,rfl,by simp,fun k y hy j u hu=>by
  cases k with
  | succ k=>simp at hy
  | zero=>
    simp at hy
    subst hy
    rw[show 0+0*4+j=j by omega]
    exact((Wb.new w ty (encI ⟨a,b,c,d⟩)).cell j).trans hu⟩
theorem Ae(w:World)(ty:TypeId)(z:Int):Ints (w.alloc (.cells #[.int .i64 z] ty)) (some ⟨w.heap.size,0,none⟩) [z]:=
 .inr ⟨w.heap.size,0,rfl,by simp,fun k y hy j u hu=>by
  cases k with
  | succ k=>simp at hy
  | zero=>
    simp at hy
    subst hy
    rw[show 0+0*1+j=j by omega]
    exact((Wb.new w ty (encZ z)).cell j).trans hu⟩
theorem LZ:∀x,∀u∈encI x,u.oneCell'=true:=by
 intro x u hu
 simp[encI]at hu
 rcases hu with rfl|rfl|rfl|rfl<;>rfl
theorem Iw:∀x,∀u∈encZ x,u.oneCell'=true:=by
 intro x u hu
 simp[encZ]at hu
 subst hu
 rfl
theorem Ii:(Tryz.prog.info? 3).map (fun i=>(i.zero,i.size,i.bytes))=some (some (.int .i64 0),1,8):=by kernel_rfl
structure OSt(w:World)(gi:Nat)(t:List UInt8)(pos:Nat)(sh:Bool)(nv cv:Value)(code:List Cf.Ins)(dv:Value)(data:List Int)(wr:World):Prop where
 ns:NS wr gi (w.heap.size+1) (gi+1) t pos sh
 hp:pos≤t.length
 box:Wb wr (gi+1+1) 79 [nv,cv,dv]
 res:Wb wr w.heap.size 79 [.string ⟨#[]⟩,.slice none 0 0,.slice none 0 0]
 code:wr.ownsRow (gi+1+1+1) 121 4 cv code.length (code.flatMap encI)
 data:wr.ownsRow (gi+1+1+1) 3 1 dv data.length (data.flatMap encZ)
 below:Below w.heap.size w wr
 lt:w.heap.size+1<gi
section
variable {w:World} {gi:Nat} {t:List UInt8} {pos pos':Nat} {sh sh':Bool} {nv cv dv:Value} {code:List Cf.Ins} {data:List Int} {wr w':World}
theorem OSt.next(h:OSt w gi t pos sh nv cv code dv data wr)(hc:Chg wr w' gi (gi+1))(hn:NS w' gi (w.heap.size+1) (gi+1) t pos' sh')(hp:pos'≤t.length):OSt w gi t pos' sh' nv cv code dv data w':=by
 have hlt:=h.lt
 exact⟨hn,hp,hc.wb h.box (by omega) (by omega),hc.wb h.res (by omega) (by omega),hc.own h.code (by omega) (by omega),hc.own h.data (by omega) (by omega),hc.below h.below (by omega) (by omega),h.lt⟩
theorem OSt.more(h:OSt w gi t pos sh nv cv code dv data wr)(hb:Below wr.heap.size wr w'):OSt w gi t pos sh nv cv code dv data w':=
 ⟨⟨h.ns.i.below hb h.ns.i.lt,h.ns.t.below hb h.ns.t.lt,h.ns.s.below hb h.ns.s.lt⟩,h.hp,h.box.below hb h.box.lt,h.res.below hb h.res.lt,own_below h.code hb,own_below h.data hb,h.below.trans (hb.mono h.below.size),h.lt⟩
theorem OSt.alloc(h:OSt w gi t pos sh nv cv code dv data wr)(o:Obj):OSt w gi t pos sh nv cv code dv data (wr.alloc o):=h.more ((Below.refl _ _).alloc (Nat.le_refl _) o)
theorem own_lt{base n size:Nat}{e:TypeId}{v:Value}{xs:List Value}(h:wr.ownsRow base e size v n xs){g:Nat}(hg:g<base):v.ownBlock≠some g:=fun e=>by
 have:=bZ h _ e
 omega
theorem OSt.far(h:OSt w gi t pos sh nv cv code dv data wr){gx:Nat}(hg:gi+1+1+1≤gx)(h1:cv.ownBlock≠some gx)(h2:dv.ownBlock≠some gx)(k:Nat)(v:Value):OSt w gi t pos sh nv cv code dv data (wr.setCell ⟨gx,k,none⟩ v):=by
 have hlt:=h.lt
 exact⟨⟨h.ns.i.off_ (p:=⟨gx,k,none⟩) (by show gi≠gx;omega) _,h.ns.t.off_ (p:=⟨gx,k,none⟩) (by show w.heap.size+1≠gx;omega) _,h.ns.s.off_ (p:=⟨gx,k,none⟩) (by show gi+1≠gx;omega) _⟩,h.hp,
  h.box.off_ (p:=⟨gx,k,none⟩) (by show gi+1+1≠gx;omega) _,h.res.off_ (p:=⟨gx,k,none⟩) (by show w.heap.size≠gx;omega) _,aj h.code h1 _,aj h.data h2 _,h.below.setCell (by show w.heap.size≤gx;omega) _,h.lt⟩
theorem OSt.putName(h:OSt w gi t pos sh nv cv code dv data wr)(v:Value):OSt w gi t pos sh v cv code dv data (wr.setCell ⟨gi+1+1,0,none⟩ v):=by
 have hlt:=h.lt
 exact⟨⟨h.ns.i.off_ (p:=⟨gi+1+1,0,none⟩) (by show gi≠gi+1+1;omega) _,h.ns.t.off_ (p:=⟨gi+1+1,0,none⟩) (by show w.heap.size+1≠gi+1+1;omega) _,h.ns.s.off_ (p:=⟨gi+1+1,0,none⟩) (by show gi+1≠gi+1+1;omega) _⟩,h.hp,
  h.box.put 0 v,h.res.off_ (p:=⟨gi+1+1,0,none⟩) (by show w.heap.size≠gi+1+1;omega) _,aj h.code (own_lt h.code (g:=gi+1+1) (by omega)) _,aj h.data (own_lt h.data (g:=gi+1+1) (by omega)) _,h.below.setCell (by show w.heap.size≤gi+1+1;omega) _,h.lt⟩
theorem OSt.putPos(h:OSt w gi t pos sh nv cv code dv data wr)(n:Nat)(hn:pos+n≤t.length)(v:Value)(hv:v = .int .i64 ((pos+n:Nat):Int)):OSt w gi t (pos+n) sh nv cv code dv data (wr.setCell ⟨gi,0,none⟩ v):=by
 subst hv
 have hlt:=h.lt
 exact⟨⟨h.ns.i.put 0 _,h.ns.t.off_ (p:=⟨gi,0,none⟩) (by show w.heap.size+1≠gi;omega) _,h.ns.s.off_ (p:=⟨gi,0,none⟩) (by show gi+1≠gi;omega) _⟩,hn,
  h.box.off_ (p:=⟨gi,0,none⟩) (by show gi+1+1≠gi;omega) _,h.res.off_ (p:=⟨gi,0,none⟩) (by show w.heap.size≠gi;omega) _,aj h.code (own_lt h.code (g:=gi) (by omega)) _,aj h.data (own_lt h.data (g:=gi) (by omega)) _,h.below.setCell (by show w.heap.size≤gi;omega) _,h.lt⟩
theorem OSt.putCode{v':Value}{code':List Cf.Ins}(h:OSt w gi t pos sh nv cv code dv data wr)(hown:w'.ownsRow (gi+1+1+1) 121 4 v' code'.length (code'.flatMap encI))(hg:wr.grownBy w' cv.ownBlock)(hne:∀k,dv.ownBlock=some k→cv.ownBlock≠some k):
  OSt w gi t pos sh nv v' code' dv data (w'.setCell ⟨gi+1+1,1,none⟩ v'):=by
 have hlt:=h.lt
 have hbox:=h.box.grown hg (own_lt h.code (by omega))
 have hdat:w'.ownsRow (gi+1+1+1) 3 1 dv data.length (data.flatMap encZ):=by
  refine World.ownsRow.kept h.data hg ?_
  cases hv:dv.ownBlock with
  | none=>exact .inl rfl
  | some k=>exact .inr (Ne.symm (hne k hv))
 exact⟨⟨(h.ns.i.grown hg (own_lt h.code (by omega))).off_ (p:=⟨gi+1+1,1,none⟩) (by show gi≠gi+1+1;omega) _,(h.ns.t.grown hg (own_lt h.code (by omega))).off_ (p:=⟨gi+1+1,1,none⟩) (by show w.heap.size+1≠gi+1+1;omega) _,(h.ns.s.grown hg (own_lt h.code (by omega))).off_ (p:=⟨gi+1+1,1,none⟩) (by show gi+1≠gi+1+1;omega) _⟩,h.hp,
  hbox.put 1 v',(h.res.grown hg (own_lt h.code (by omega))).off_ (p:=⟨gi+1+1,1,none⟩) (by show w.heap.size≠gi+1+1;omega) _,aj hown (own_lt hown (g:=gi+1+1) (by omega)) _,aj hdat (own_lt hdat (g:=gi+1+1) (by omega)) _,
  (h.below.grown hg h.below.size (fun k hk=>by have:=bZ h.code k hk;omega)).setCell (by show w.heap.size≤gi+1+1;omega) _,h.lt⟩
theorem OSt.putData{v':Value}{data':List Int}(h:OSt w gi t pos sh nv cv code dv data wr)(hown:w'.ownsRow (gi+1+1+1) 3 1 v' data'.length (data'.flatMap encZ))(hg:wr.grownBy w' dv.ownBlock)(hne:∀k,cv.ownBlock=some k→dv.ownBlock≠some k):
  OSt w gi t pos sh nv cv code v' data' (w'.setCell ⟨gi+1+1,2,none⟩ v'):=by
 have hlt:=h.lt
 have hbox:=h.box.grown hg (own_lt h.data (by omega))
 have GH:w'.ownsRow (gi+1+1+1) 121 4 cv code.length (code.flatMap encI):=by
  refine World.ownsRow.kept h.code hg ?_
  cases hv:cv.ownBlock with
  | none=>exact .inl rfl
  | some k=>exact .inr (Ne.symm (hne k hv))
 exact⟨⟨(h.ns.i.grown hg (own_lt h.data (by omega))).off_ (p:=⟨gi+1+1,2,none⟩) (by show gi≠gi+1+1;omega) _,(h.ns.t.grown hg (own_lt h.data (by omega))).off_ (p:=⟨gi+1+1,2,none⟩) (by show w.heap.size+1≠gi+1+1;omega) _,(h.ns.s.grown hg (own_lt h.data (by omega))).off_ (p:=⟨gi+1+1,2,none⟩) (by show gi+1≠gi+1+1;omega) _⟩,h.hp,
  hbox.put 2 v',(h.res.grown hg (own_lt h.data (by omega))).off_ (p:=⟨gi+1+1,2,none⟩) (by show w.heap.size≠gi+1+1;omega) _,aj GH (own_lt GH (g:=gi+1+1) (by omega)) _,aj hown (own_lt hown (g:=gi+1+1) (by omega)) _,
  (h.below.grown hg h.below.size (fun k hk=>by have:=bZ h.data k hk;omega)).setCell (by show w.heap.size≤gi+1+1;omega) _,h.lt⟩
theorem xM:(121:TypeId)≠3:=by decide
theorem rows_apart{base base' n n' size size':Nat}{e e':TypeId}{v v':Value}{xs xs':List Value}(h:wr.ownsRow base e size v n xs)(h':wr.ownsRow base' e' size' v' n' xs')(hne:e≠e'):∀k,v.ownBlock=some k→v'.ownBlock≠some k:=by
 intro k hk hk'
 rcases h.2 with ⟨rfl,_⟩|⟨g,cap,cur,rfl,_,hh,_⟩
 ·cases hk
 ·rcases h'.2 with ⟨rfl,_⟩|⟨g',cap',cur',rfl,_,hh',_⟩
  ·cases hk'
  ·simp[Value.ownBlock]at hk hk'
   subst hk
   subst hk'
   have h2:=Option.some.inj (Eq.trans (Eq.symm hh) hh')
   injection h2 with _ ht
   exact hne ht
theorem OSt.boxC(h:OSt w gi t pos sh nv cv code dv data wr)(hg:wr.grownBy w' cv.ownBlock):Wb w' (gi+1+1) 79 [nv,cv,dv]:=h.box.grown hg (own_lt h.code (by omega))
theorem OSt.boxD(h:OSt w gi t pos sh nv cv code dv data wr)(hg:wr.grownBy w' dv.ownBlock):Wb w' (gi+1+1) 79 [nv,cv,dv]:=h.box.grown hg (own_lt h.data (by omega))
theorem OSt.out{A B:Option Addr}{ca cb:Nat}(h:OSt w gi t pos sh nv (.slice A code.length ca) code (.slice B data.length cb) data wr):bP wr A code∧Ints wr B data∧dN (gi+1+1+1) A code∧dN (gi+1+1+1) B data:=
 ⟨jm lZ h.code,jm dL h.data,iQ h.code rfl,iQ h.data rfl⟩
end
structure OX(w:World)(gi:Nat)(t:List UInt8)(pos:Nat)(sh:Bool)(nv cv:Value)(code:List Cf.Ins)(dv:Value)(data:List Int)(gx:Nat)(xs:List Value)(wr:World):Prop where
 st:OSt w gi t pos sh nv cv code dv data wr
 x:Wb wr gx 121 xs
 hx:gi+1+1+1≤gx
 hc:cv.ownBlock≠some gx
 hd:dv.ownBlock≠some gx
section
variable {w:World} {gi:Nat} {t:List UInt8} {pos pos':Nat} {sh sh':Bool} {nv cv dv:Value} {code:List Cf.Ins} {data:List Int} {gx:Nat} {xs:List Value} {wr w':World}
theorem OX.new(h:OSt w gi t pos sh nv cv code dv data wr)(xs:List Value):OX w gi t pos sh nv cv code dv data wr.heap.size xs (wr.alloc (.cells xs.toArray 121)):=by
 have hlt:=h.box.lt
 exact⟨h.alloc _,Wb.new wr _ xs,by omega,fun e=>by have:=(World.ownsRow.lt h.code _ e).2;omega,fun e=>by have:=(World.ownsRow.lt h.data _ e).2;omega⟩
theorem OX.next(h:OX w gi t pos sh nv cv code dv data gx xs wr)(hc:Chg wr w' gi (gi+1))(hn:NS w' gi (w.heap.size+1) (gi+1) t pos' sh')(hp:pos'≤t.length):OX w gi t pos' sh' nv cv code dv data gx xs w':=by
 have hx:=h.hx
 exact⟨h.st.next hc hn hp,hc.wb h.x (by omega) (by omega),h.hx,h.hc,h.hd⟩
theorem OX.put(h:OX w gi t pos sh nv cv code dv data gx xs wr)(k:Nat)(v:Value):OX w gi t pos sh nv cv code dv data gx (xs.set k v) (wr.setCell ⟨gx,k,none⟩ v):=
 ⟨h.st.far h.hx h.hc h.hd k v,h.x.put k v,h.hx,h.hc,h.hd⟩
theorem OX.drew(h:OX w gi t pos sh nv cv code dv data gx xs wr):OX w gi t pos sh nv cv code dv data gx xs wr.drew:=
 ⟨h.st.more (Below.refl _ _).drew,h.x,h.hx,h.hc,h.hd⟩
end
theorem BR{P:Program}{ops:Array Oper}{o:Oper}{a:Act}{w:World}{K:Act→World→Prop}{Q:Exit→Act→World→Prop}{E:Prop}{R:Ending→World→Prop}
  (hg:o.guard=none) (f:FuncId) (x:Operand) (tys:Array TypeId) (ho:o.op = .call { callee:=.value x,args:=#[],argTypes:=tys }) (caps:Array Value) (hv:a.eval x = .func (.func f) #[] caps)
  (eg:∀args w,(callFunc f args).run P w = .ok (.enter f args) w) (hc:Calls P f caps w R) (h:∀e w',R e w'→∃v,e = .returned v∧K (a.put o.dst v) w'):
  if Region.wanted o (yielded ops a.tmps)=true then Oper.wp P o a w K Q else E:=by
 rw[if_pos (by simp[Region.wanted,hg])]
 have hex:(execOp a.eval o).run P w = .ok (.enter f caps) w:=by
  simp[execOp,ho,resolve,invoke,hv,eg,Deferred.ofValue]
 unfold Oper.wp
 rw[hex]
 refine hc.mono fun e w' hr=>?_
 obtain⟨v,rfl,hk⟩:=h e w' hr
 exact hk
end
end Go.Proofs.YtnnhhbjbdmgpiaaGreatDoor
