/- Texts of the proofs: BytK, BytW. -/
import Derived.Test.YtnnhhbjbdmgpiaaGreatDoorJ04
set_option linter.unusedSimpArgs false
set_option linter.unusedVariables false
namespace Go.Proofs.YtnnhhbjbdmgpiaaGreatDoor
set_option maxRecDepth 100000
set_option maxHeartbeats 4000000
open Lib (hid)
section
open Go.RowKit
def nH(b:UInt8):List Value:=[.int .u8 (b.toNat:Int)]
theorem uY(b:UInt8):(nH b).length=1:=rfl
theorem Nr:∀b,∀u∈nH b,u.oneCell'=true:=by
 intro b u hu
 simp[nH]at hu
 subst hu
 rfl
theorem infoByte:(Tryz.prog.info? 5).map (fun i=>(i.zero,i.size,i.bytes))=some (some (.int .u8 0),1,1):=by kernel_rfl
def IB(w:World)(A:Option Addr)(l:List UInt8):Prop:=RdS 1 nH w A l
def qM(w:World)(base:Nat)(v:Value)(l:List UInt8):Prop:=w.ownsRow base 5 1 v l.length (l.flatMap nH)
theorem qM.form{w:World}{base:Nat}{v:Value}{l:List UInt8}(h:qM w base v l):∃A cap,v = .slice A l.length cap:=aP h
theorem qM.byts{w:World}{base:Nat}{A:Option Addr}{cap:Nat}{l:List UInt8}(h:qM w base (.slice A l.length cap) l):IB w A l:=jm uY h
theorem qM.alloc{w:World}{base:Nat}{v:Value}{l:List UInt8}(h:qM w base v l)(o:Obj):qM (w.alloc o) base v l:=World.ownsRow.alloc h o
theorem qM.below{w w':World}{base:Nat}{v:Value}{l:List UInt8}(h:qM w base v l)(hb:Below w.heap.size w w'):qM w' base v l:=own_below h hb
theorem uT(w:World)(t:TypeId)(vs:Array Value)(l:List UInt8)(h:vs.toList=l.flatMap nH):IB (w.alloc (.cells vs t)) (some ⟨w.heap.size,0,none⟩) l:=
 .inr ⟨w.heap.size,0,rfl,by simp,fun k b hb j u hu=>by
  have h1:=ul 1 nH uY l k b j u hb hu
  rw[← h,Array.getElem?_toList]at h1
  rw[show 0+k*1+j=k*1+j by omega,World.cell?]
  rw[heap_alloc_new w _]
  exact h1⟩
def JS(base:Nat)(v:Value)(l x:List UInt8)(w:World)(e:Ending)(w':World):Prop:=
 ∃v',e = .returned v'∧qM w' base v' (l++x)∧w.grownBy w' v.ownBlock
theorem zJ{w w':World}{o:Obj}{row:Option Nat}(h:(w.alloc o).grownBy w' row):w.grownBy w' row:=
 ⟨h.1,h.2,h.3,Nat.le_trans (by simp) h.4,fun k hk hr=>(h.5 k (by simp;omega) hr).trans (Below.heap_alloc w o k hk)⟩
theorem pR(z:Nat)(hz:z≤65535):[Value.int .u8 ((z:Int) / 256),Value.int .u8 ((z:Int) % 256)]=(Cf.vT z).flatMap nH:=by
 simp only[Cf.vT,List.flatMap_cons,List.flatMap_nil,nH,List.cons_append,List.nil_append,List.append_nil,Int.toNat_natCast]
 rw[Cf.zO _ (by omega),Cf.zO _ (by omega)]
 simp
end
section
open Go.RowKit
theorem nX(v:Value)(l:List UInt8)(z:Nat)(hz:z≤65535)(w:World)(base:Nat)(hr:qM w base v l)(hbase:base≤w.heap.size)(hl:l.length≤100000):
  Calls Tryz.prog 104 #[v,.int .i64 z] w (JS base v l (Cf.vT z) w):=by
 obtain⟨i0,hi,hz0,hz1,hz2⟩:=info_parts infoByte
 have Hi:=hid hi
 have Hz0:=hid hz0
 have Hz1:=hid hz1
 have Hz2:=hid hz2
 have HR:=hid hr
 have HW:=hid (pR z hz)
 have hel:(Cf.vT z).length=2:=rfl
 have HL:=hid hel
 clear hi hz0 hz1 hz2 hr hel
 go_enter Tryz.func104,Tryz.ntmps104
 go_wp2_with (at_builtin;refine bg rfl _ _ 92 rfl base 5 i0 (.int .u8 0) 1 1 Tryz.underlying92 Hi.out Hz0.out Hz1.out Hz2.out rfl (by decide) uY Nr v l.length (l.flatMap nH) rfl (HR.out.alloc _) (some ⟨w.heap.size,0,none⟩) 2 (Cf.vT z) rfl (uT w _ _ _ HW.out) (by unfold maxLen;rw[HL.out];omega) (by rw[HL.out];omega) (by simp;omega) ?_)
 intro v' w1 hown hgr hat
 have Ob:=hid hown
 have Hgr:=hid hgr
 clear hown hgr hat
 go_wp2
 go_ret
 refine⟨v',rfl,?_,zJ Hgr.out⟩
 unfold qM
 rw[List.length_append,List.flatMap_append]
 exact Ob.out
end
end Go.Proofs.YtnnhhbjbdmgpiaaGreatDoor
