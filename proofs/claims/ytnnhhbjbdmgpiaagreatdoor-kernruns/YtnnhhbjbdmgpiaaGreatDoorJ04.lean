/- Texts of the proofs: AppS, NextR, StoreK. -/
import Derived.Deep.AppendLies
import Derived.Test.YtnnhhbjbdmgpiaaGreatDoorJ02
set_option linter.unusedSimpArgs false
set_option linter.unusedVariables false
namespace Go.Proofs.YtnnhhbjbdmgpiaaGreatDoor
set_option maxRecDepth 100000
set_option maxHeartbeats 4000000
open Lib (hid)
section
open Go.RowKit
theorem EU{α:Type}(sz:Nat)(enc:α→List Value)(hsz:∀x,(enc x).length=sz):∀(l:List α) (j:Nat) (v:Value),(l.flatMap enc)[j]?=some v→∃k x i,l[k]?=some x∧(enc x)[i]?=some v∧j=k*sz+i:=by
 intro l
 induction l with
 | nil=>intro j v h;simp at h
 | cons y l ih=>
   intro j v h
   rw[List.flatMap_cons,List.getElem?_append,hsz]at h
   split at h
   ·exact⟨0,y,j,rfl,h,by omega⟩
   ·rename_i hj
    obtain⟨k,x,i,h1,h2,h3⟩:=ih _ _ h
    exact⟨k+1,x,i,by simpa using h1,h2,by rw[Nat.add_mul];omega⟩
theorem RdS.flat{α:Type}{sz:Nat}{enc:α→List Value}(hsz:∀x,(enc x).length=sz){w:World}{ad:Addr}{l:List α}(h:RdS sz enc w (some ad) l):∀j u,(l.flatMap enc)[j]?=some u→w.cell? (ad.add j)=some u:=by
 intro j u hu
 obtain⟨k,x,i,h1,h2,rfl⟩:=EU sz enc hsz l j u hu
 rcases h with rfl|⟨b,off,hA,_,hc⟩
 ·simp at h1
 ·cases hA
  have:=hc k x h1 i u h2
  rw[Go.WideShapes.add_plain,← Nat.add_assoc]
  exact this
section
variable {P:Program} {α:Type} {enc:α→List Value}
theorem nN(w:World)(base:Nat)(t ty e:TypeId)(i:TypeInfo)(z:Value)(size bytes:Nat)(ht:P.underlying t=some (.slice e))(hi:P.info? e=some i)(hz:i.zero=some z)
  (hsize:i.size=size) (hby:i.bytes=bytes) (hzs:z.cells.size=size) (hsz:0<size) (henc:∀x,(enc x).length=size) (hone:∀x,∀u∈enc x,u.oneCell'=true)
  (v:Value) (n:Nat) (xs:List Value) (hown:w.ownsRow base e size v n xs) (A:Option Addr) (c:Nat) (l:List α) (hr:RdS size enc w A l)
  (h63:n+l.length≤maxLen) (hbytes:(n+l.length)*bytes≤140737488355328) (hbase:base≤w.heap.size):
  ∃v' w',(Builtin.append_ #[t,t] ty #[v,.slice A l.length c]).run P w = .ok v' w'∧w'.ownsRow base e size v' (n+l.length) (xs++l.flatMap enc)∧w.grownBy w' v.ownBlock∧(v'.ownBlock=v.ownBlock∨v'.ownBlock=some w.heap.size):=by
 cases A with
 | none=>
   rcases hr with rfl|⟨b,off,h,_⟩
   ·refine⟨v,w,?_,by simpa using hown,⟨rfl,rfl,rfl,Nat.le_refl _,fun _ _ _=>rfl⟩,.inl rfl⟩
    rcases hown.2 with ⟨rfl,rfl⟩|⟨g,cap,cur,rfl,_,_,hcap,_⟩<;>simp[Builtin.append_,run_underlying ht,sizeOf,typeInfo,Builtin.lenOf,Builtin.firstCells,storeCells, *]
   ·cases h
 | some ad=>
   have hl:(l.flatMap enc).length=l.length*size:=by
    clear h63 hbytes hr
    induction l with
    | nil=>simp
    | cons x l ih=>rw[List.flatMap_cons,List.length_append,ih,henc,List.length_cons,Nat.add_mul];omega
   obtain⟨v',w',h1,h2,h3,_,h5⟩:=run_append_own_at (P:=P) w base t ty e i z size bytes ht hi hz hsize hby hzs hsz v n xs hown ad l.length c (l.flatMap enc) hl (hr.flat henc)
    (fun u hu=>by obtain⟨x,_,hx⟩:=List.mem_flatMap.1 hu;exact hone x u hx) h63 hbytes hbase
   exact⟨v',w',h1,h2,h3,h5⟩
theorem o9{w:World}{o:Oper}{a:Act}{K:Act→World→Prop}{Q:Exit→Act→World→Prop}(s x:Operand)(t:TypeId)(ho:o.op = .call { callee:=.builtin .append,args:=#[s,x],argTypes:=#[t,t] })
  (base:Nat) (e:TypeId) (i:TypeInfo) (z:Value) (size bytes:Nat) (ht:P.underlying t=some (.slice e)) (hi:P.info? e=some i) (hz:i.zero=some z)
  (hsize:i.size=size) (hby:i.bytes=bytes) (hzs:z.cells.size=size) (hsz:0<size) (henc:∀x,(enc x).length=size) (hone:∀x,∀u∈enc x,u.oneCell'=true)
  (v:Value) (n:Nat) (xs:List Value) (hs:a.eval s=v) (hown:w.ownsRow base e size v n xs) (A:Option Addr) (c:Nat) (l:List α) (hx:a.eval x = .slice A l.length c) (hr:RdS size enc w A l)
  (h63:n+l.length≤maxLen) (hbytes:(n+l.length)*bytes≤140737488355328) (hbase:base≤w.heap.size)
  (h:∀v' w',w'.ownsRow base e size v' (n+l.length) (xs++l.flatMap enc)→w.grownBy w' v.ownBlock→(v'.ownBlock=v.ownBlock∨v'.ownBlock=some w.heap.size)→K (a.put o.dst v') w'):o.wp P a w K Q:=by
 obtain⟨v',w',hrun,h2,h3,h4⟩:=nN (P:=P) w base t o.type e i z size bytes ht hi hz hsize hby hzs hsz henc hone v n xs hown A c l hr h63 hbytes hbase
 unfold Oper.wp
 simp[execOp,ho,resolve,invoke,builtin,hs,hx,hrun,Result.andThen]
 exact h v' w' h2 h3 h4
theorem bg{w:World}{ops:Array Oper}{rest:List Oper}{o:Oper}{a:Act}{Q:Exit→Act→World→Prop}(hgd:o.guard=none)(s x:Operand)(t:TypeId)(ho:o.op = .call { callee:=.builtin .append,args:=#[s,x],argTypes:=#[t,t] })
  (base:Nat) (e:TypeId) (i:TypeInfo) (z:Value) (size bytes:Nat) (ht:P.underlying t=some (.slice e)) (hi:P.info? e=some i) (hz:i.zero=some z)
  (hsize:i.size=size) (hby:i.bytes=bytes) (hzs:z.cells.size=size) (hsz:0<size) (henc:∀x,(enc x).length=size) (hone:∀x,∀u∈enc x,u.oneCell'=true)
  (v:Value) (n:Nat) (xs:List Value) (hs:a.eval s=v) (hown:w.ownsRow base e size v n xs) (A:Option Addr) (c:Nat) (l:List α) (hx:a.eval x = .slice A l.length c) (hr:RdS size enc w A l)
  (h63:n+l.length≤maxLen) (hbytes:(n+l.length)*bytes≤140737488355328) (hbase:base≤w.heap.size)
  (h:∀v' w',w'.ownsRow base e size v' (n+l.length) (xs++l.flatMap enc)→w.grownBy w' v.ownBlock→(v'.ownBlock=v.ownBlock∨v'.ownBlock=some w.heap.size)→wpList P ops Q rest (a.put o.dst v') w'):wpList P ops Q (o :: rest) a w:=
 wpList_plain hgd fun _ hK=>o9 s x t ho base e i z size bytes ht hi hz hsize hby hzs hsz henc hone v n xs hs hown A c l hx hr h63 hbytes hbase fun v' w' h2 h3 h4=>hK _ _ (h v' w' h2 h3 h4)
theorem aU{w:World}{ops:Array Oper}{o:Oper}{a:Act}{K:Act→World→Prop}{Q:Exit→Act→World→Prop}{E:Prop}(hgd:o.guard=none)(s x:Operand)(t:TypeId)(ho:o.op = .call { callee:=.builtin .append,args:=#[s,x],argTypes:=#[t,t] })
  (base:Nat) (e:TypeId) (i:TypeInfo) (z:Value) (size bytes:Nat) (ht:P.underlying t=some (.slice e)) (hi:P.info? e=some i) (hz:i.zero=some z)
  (hsize:i.size=size) (hby:i.bytes=bytes) (hzs:z.cells.size=size) (hsz:0<size) (henc:∀x,(enc x).length=size) (hone:∀x,∀u∈enc x,u.oneCell'=true)
  (v:Value) (n:Nat) (xs:List Value) (hs:a.eval s=v) (hown:w.ownsRow base e size v n xs) (A:Option Addr) (c:Nat) (l:List α) (hx:a.eval x = .slice A l.length c) (hr:RdS size enc w A l)
  (h63:n+l.length≤maxLen) (hbytes:(n+l.length)*bytes≤140737488355328) (hbase:base≤w.heap.size)
  (h:∀v' w',w'.ownsRow base e size v' (n+l.length) (xs++l.flatMap enc)→w.grownBy w' v.ownBlock→(v'.ownBlock=v.ownBlock∨v'.ownBlock=some w.heap.size)→K (a.put o.dst v') w'):
  if Region.wanted o (yielded ops a.tmps)=true then Oper.wp P o a w K Q else E:=by
 rw[if_pos (by simp[Region.wanted,hgd])]
 exact o9 s x t ho base e i z size bytes ht hi hz hsize hby hzs hsz henc hone v n xs hs hown A c l hx hr h63 hbytes hbase h
end
end
section
open Go.RowKit
structure NS(w:World)(gi gt gs:Nat)(t:List UInt8)(pos:Nat)(sh:Bool):Prop where
 i:Wb w gi 3 [.int .i64 (pos:Int)]
 t:Wb w gt 9 [.string ⟨t.toArray⟩]
 s:Wb w gs 4 [.bool sh]
structure Chg(w w':World)(gi gs:Nat):Prop where
 os:w'.os=w.os
 tape:w'.tape=w.tape
 output:w'.output=w.output
 size:w'.heap.size=w.heap.size
 block:∀k,k≠gi→k≠gs→w'.heap[k]?=w.heap[k]?
theorem Chg.wb{w w':World}{gi gs g:Nat}{ty:TypeId}{cs:List Value}(h:Chg w w' gi gs)(hb:Wb w g ty cs)(h1:g≠gi)(h2:g≠gs):Wb w' g ty cs:=(h.block g h1 h2).trans hb
theorem Chg.own{w w':World}{gi gs base n size:Nat}{e:TypeId}{v:Value}{xs:List Value}(h:Chg w w' gi gs)(ho:w.ownsRow base e size v n xs)(h1:gi<base)(h2:gs<base):w'.ownsRow base e size v n xs:=by
 refine⟨ho.1,?_⟩
 rcases ho.2 with h3|⟨g,cap,cur,hv,hb,hh,r⟩
 ·exact .inl h3
 ·exact .inr ⟨g,cap,cur,hv,hb,(h.block g (by omega) (by omega)).trans hh,r⟩
theorem Chg.below{w w' W:World}{gi gs B:Nat}(h:Chg w w' gi gs)(hb:Below B W w)(h1:B≤gi)(h2:B≤gs):Below B W w':=
 ⟨h.os.trans hb.os,h.tape.trans hb.tape,h.output.trans hb.output,by rw[h.size];exact hb.size,fun k hk=>(h.block k (by omega) (by omega)).trans (hb.block k hk)⟩
theorem Nl(w:World)(gi gs:Nat)(v:Value):Chg w (w.setCell ⟨gi,0,none⟩ v) gi gs:=
 ⟨rfl,rfl,rfl,by simp[World.setCell],fun k h1 _=>Below.heap_setCell w ⟨gi,0,none⟩ v k h1⟩
theorem MK(w:World)(gi gs:Nat)(v:Value):Chg w (w.setCell ⟨gs,0,none⟩ v) gi gs:=
 ⟨rfl,rfl,rfl,by simp[World.setCell],fun k _ h2=>Below.heap_setCell w ⟨gs,0,none⟩ v k h2⟩
theorem Iq:(3:TypeId)≠9:=by decide
theorem Gg:(3:TypeId)≠4:=by decide
theorem FC:(9:TypeId)≠4:=by decide
def ww(gi gt gs:Nat)(t:List UInt8)(pos:Nat)(sh:Bool)(w:World)(e:Ending)(w':World):Prop:=
 e = .returned (.int .i64 ((Cf.aC 1 ⟨t.drop pos,sh⟩).got:Int))∧Chg w w' gi gs∧∃pos' sh',pos'≤t.length∧NS w' gi gt gs t pos' sh'∧(⟨t.drop pos',sh'⟩:Cf.Rdr)=(Cf.aC 1 ⟨t.drop pos,sh⟩).rdr
theorem next_any(gi gt gs:Nat)(t:List UInt8)(pos:Nat)(sh:Bool)(w:World)(h:NS w gi gt gs t pos sh)(hp:pos≤t.length)(hl:t.length≤100000):
  Calls Tryz.prog 78 #[.pointer (some ⟨gi,0,none⟩),.pointer (some ⟨gt,0,none⟩),.pointer (some ⟨gs,0,none⟩)] w (ww gi gt gs t pos sh w):=by
 have c0:=h.i.cell 0
 have c1:=h.t.cell 0
 have c2:=h.s.cell 0
 have f0:=h.i.open_ 0
 have f2:=h.s.open_ 0
 simp only[List.getElem?_cons_zero]at c0 c1 c2
 have n1:=h.i.other h.t Iq
 have n2:=h.i.other h.s Gg
 have n3:=h.t.other h.s FC
 have n1':=Ne.symm n1
 have H:=hid h
 clear h
 by_cases hlt:pos<t.length
 ·obtain⟨c,hc⟩:∃c,t[pos]?=some c:=⟨_,List.getElem?_eq_getElem hlt⟩
  have hix:=lY t pos c hc
  have HD:=hid (show t.drop pos=c :: t.drop (pos+1) by
   rw[List.drop_eq_getElem_cons hlt]
   congr 1
   exact(List.getElem?_eq_some_iff.1 hc).2)
  have hc1:=c.toNat_lt
  clear hc
  go_enter Tryz.func78,Tryz.ntmps78
  go_wp2
  go_ret
  unfold ww
  rw[HD.out,Cf.bT]
  refine⟨rfl,Nl w gi gs _,pos+1,sh,by omega,⟨?_,?_,?_⟩,rfl⟩
  ·have:=H.out.i.put 0 (.int .i64 ((pos:Int)+1))
   simpa using this
  ·exact H.out.t.off_ (p:=⟨gi,0,none⟩) (Ne.symm n1) _
  ·exact H.out.s.off_ (p:=⟨gi,0,none⟩) (Ne.symm n2) _
 ·have HD:=hid (show t.drop pos=[] from List.drop_of_length_le (by omega))
  have hge:(t.length:Int)≤(pos:Int):=by omega
  go_enter Tryz.func78,Tryz.ntmps78
  go_wp2
  go_ret
  unfold ww
  rw[HD.out,Cf.ed]
  refine⟨rfl,MK w gi gs _,pos,true,hp,⟨?_,?_,?_⟩,by rw[HD.out];rfl⟩
  ·exact H.out.i.off_ (p:=⟨gs,0,none⟩) n2 _
  ·exact H.out.t.off_ (p:=⟨gs,0,none⟩) n3 _
  ·exact H.out.s.put 0 (.bool true)
end
section
open Go.RowKit
theorem below_setCells{B:Nat}{a:World}{b:Nat}(hb:B≤b):∀(vs:List Value) (o:Nat) (w:World),Below B a w→Below B a (w.setCells b o vs)
 | [],_,_,h=>h
 | v :: vs,o,w,h=>below_setCells hb vs (o+1) (w.setCell ⟨b,o,none⟩ v) (h.setCell (p:=⟨b,o,none⟩) hb v)
theorem Wb.there{w:World}{g:Nat}{t:TypeId}{cs:List Value}(h:Wb w g t cs):w.there g 0 cs.length:=by
 intro j hj
 rw[Nat.zero_add]
 exact⟨by rw[h.cell,List.getElem?_eq_getElem hj];rfl,h.open_ j⟩
end
end Go.Proofs.YtnnhhbjbdmgpiaaGreatDoor
