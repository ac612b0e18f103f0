/- Texts of the proofs: Cf, CpuP, SafeP, ModP, ModQ, KernP, KernQ, KernG, KernH, CpuL, RefP, MadeP, SafeE, ModS, BitsP. -/
import Derived.WalkKit
import Derived.Test.YtnnhhbjbdmgpiaaGreatDoorSq
set_option linter.unusedSimpArgs false
set_option linter.unusedVariables false
namespace Go.Proofs.YtnnhhbjbdmgpiaaGreatDoor
set_option maxRecDepth 100000
set_option maxHeartbeats 4000000
open Lib (hid)
namespace Cf
structure Ins where
 op:Int
 a:Int
 b:Int
 c:Int
def lH:List (List Int):=[[0,0,0],[1,0,2],[1,1,1],[1,1,1],[1,1,1],[1,1,1],[1,1,1],[1,1,1],[1,1,0],[1,1,0],[0,0,3],[1,0,3],[0,0,3],[0,0,0],[1,0,0],[0,0,0]]
def fmt(op i:Nat):Int:=(lH.getD op []).getD i 0
def sS:List Int:=[0,7,65535,199]
def lar(k:Nat):Int:=sS.getD k 0
def uZ(k v:Int):Bool:=decide (0≤v) && decide (v≤lar k.toNat)
def fld(x:Ins)(i:Nat):Int:=[x.a,x.b,x.c].getD i 0
def yA(x:Ins)(i:Nat):Bool:=uZ (fmt x.op.toNat i) (fld x i)
def opB(x:Ins):Bool:=decide (1≤x.op) && decide (x.op≤15)
def chk(x:Ins):Int:=if opB x then(if yA x 0 && (yA x 1 && yA x 2) then 0 else 2) else 3
def bD:List Ins→Int
 | []=>0
 | x :: r=>if chk x=0 then bD r else chk x
def fault(l:List Ins):Int:=if 200<l.length then 1 else bD l
def nZ(op:Int):List UInt8:=
 if op=1 then[114,45,119] else if op=8∨op=9 then[114,114,45] else if op=10∨op=12 then[45,45,112] else if op=11 then[114,45,112]
 else if op=14 then[114,45,45] else if op=13∨op=15 then[45,45,45] else[114,114,114]
def shape(op:Int):ByteArray:=⟨(nZ op).toArray⟩
def most(c:Int):Int:=if c=114 then 7 else if c=119 then 65535 else if c=112 then 199 else 0
def inB(n lo hi:Int):Bool:=decide (lo≤n) && decide (n≤hi)
theorem jG(l:List Ins)(r:List Ins):bD (l++r)=if bD l=0 then bD r else bD l:=by
 induction l with
 | nil=>simp[bD]
 | cons x l ih=>
   simp only[List.cons_append,bD]
   by_cases h:chk x=0
   ·simp only[h,if_true];exact ih
   ·simp only[h,if_false]
theorem oz(x:Ins)(k:Nat)(hk:k<3)(h1:1≤x.op)(h2:x.op≤15)(h:yA x k=false):chk x=2:=by
 have:k=0∨k=1∨k=2:=by omega
 rcases this with rfl|rfl|rfl<;>simp[chk,opB,h1,h2,h]
theorem AL(x:Ins)(h1:1≤x.op)(h2:x.op≤15)(h:∀j,j<3→yA x j=true):chk x=0:=by
 simp[chk,opB,h1,h2,h]
theorem IX(op:Int)(h1:1≤op)(h2:op≤15)(i:Nat)(hi:i<3):most ((((nZ op).getD i 0).toNat:Nat):Int)=lar (fmt op.toNat i).toNat:=by
 have:op=1∨op=2∨op=3∨op=4∨op=5∨op=6∨op=7∨op=8∨op=9∨op=10∨op=11∨op=12∨op=13∨op=14∨op=15:=by omega
 have hi':i=0∨i=1∨i=2:=by omega
 rcases this with h|h|h|h|h|h|h|h|h|h|h|h|h|h|h<;>rcases hi' with h' | h' | h'<;>subst h<;>subst h'<;>decide
theorem AU(op:Int):∃x y z,nZ op=[x,y,z]:=by
 unfold nZ
 repeat' split
 all_goals exact⟨_,_,_,rfl⟩
theorem rM(l:List Ins)(k:Nat)(x:Ins)(hlen:¬200<l.length)(hlt:k<l.length)(hx:l[k]?=some x)(hz:bD (l.take k)=0)(e:Int)(he:e≠0)(hc:chk x=e):fault l=e:=by
 have hl:l=l.take k++x :: l.drop (k+1):=by
  have hd:=List.drop_eq_getElem_cons hlt
  rw[List.getElem?_eq_getElem hlt]at hx
  rw[Option.some.inj hx]at hd
  rw[← hd,List.take_append_drop]
 unfold fault
 rw[if_neg hlen,hl,jG,hz,if_pos rfl,bD,hc,if_neg he]
theorem Jf(l:List Ins)(k:Nat)(x:Ins)(hx:l[k]?=some x)(hz:bD (l.take k)=0)(hc:chk x=0):bD (l.take (k+1))=0:=by
 rw[List.take_add_one,hx,jG,hz];simp[bD,hc]
theorem F5(l:List Ins)(k:Nat)(hlen:¬200<l.length)(hk:¬k<l.length)(hz:bD (l.take k)=0):fault l=0:=by
 have:l.take k=l:=List.take_of_length_le (by omega)
 unfold fault
 rw[if_neg hlen,← this,hz]
theorem Fj(x:Ins)(h:inB x.op 1 15=false):chk x=3:=by
 have h':opB x=false:=h
 simp[chk,h']
theorem ui(x:Ins)(h:inB x.op 1 15=true)(i:Nat)(hi:i<3):yA x i=inB (fld x i) 0 (most ((((nZ x.op).getD i 0).toNat:Nat):Int)):=by
 simp[inB]at h
 rw[IX x.op h.1 h.2 i hi]
 rfl
theorem vM(x:Ins)(h:inB x.op 1 15=true){p q r:UInt8}(hs:nZ x.op=[p,q,r])
  (hf:inB x.a 0 (most p.toNat)=false∨inB x.b 0 (most q.toNat)=false∨inB x.c 0 (most r.toNat)=false):chk x=2:=by
 have h':=h
 simp[inB]at h'
 rcases hf with hf|hf|hf
 ·exact oz x 0 (by omega) h'.1 h'.2 (by rw[ui x h 0 (by omega),hs];exact hf)
 ·exact oz x 1 (by omega) h'.1 h'.2 (by rw[ui x h 1 (by omega),hs];exact hf)
 ·exact oz x 2 (by omega) h'.1 h'.2 (by rw[ui x h 2 (by omega),hs];exact hf)
theorem Eu(x:Ins)(h:inB x.op 1 15=true){p q r:UInt8}(hs:nZ x.op=[p,q,r])
  (h0:inB x.a 0 (most p.toNat)=true) (h1:inB x.b 0 (most q.toNat)=true) (h2:inB x.c 0 (most r.toNat)=true):chk x=0:=by
 have h':=h
 simp[inB]at h'
 refine AL x h'.1 h'.2 (fun j hj=>?_)
 rw[ui x h j hj,hs]
 have:j=0∨j=1∨j=2:=by omega
 rcases this with rfl|rfl|rfl
 ·exact h0
 ·exact h1
 ·exact h2
theorem lQ:∀(l:List Ins),bD l=0→∀(k:Nat) (x:Ins),l[k]?=some x→chk x=0
 | [],_,k,x,h=>by simp at h
 | y :: l,hz,k,x,h=>by
   have hy:chk y=0:=by
    by_cases hy:chk y=0
    ·exact hy
    ·simp[bD,hy]at hz
   cases k with
   | zero=>simp at h;rw[← h];exact hy
   | succ k=>
     simp[bD,hy]at hz
     exact lQ l hz k x (by simpa using h)
theorem gU(l:List Ins)(hf:fault l=0):l.length≤200:=by
 unfold fault at hf
 split at hf
 ·cases hf
 ·omega
end Cf
namespace Cf
structure aZ where
 regs:List Int
 mem:List Int
 told:List Int
 back:List Nat
 pc:Nat
def FQ(x y:Int):Int:=((x.toNat &&& y.toNat:Nat):Int)
def orI(x y:Int):Int:=((x.toNat ||| y.toNat:Nat):Int)
def EI(x y:Int):Int:=((x.toNat ^^^ y.toNat:Nat):Int)
def aZ.rg(m:aZ)(i:Int):Int:=m.regs.getD i.toNat 0
def aZ.setR(m:aZ)(i v:Int):aZ:=⟨m.regs.set i.toNat v,m.mem,m.told,m.back,m.pc⟩
inductive Step where
 | on (m:aZ)
 | fin (why:Int) (m:aZ)
def alu(op:Int)(x y c:Int):Int:=
 if op=1 then c else if op=2 then(x+y) % 65536 else if op=3 then(x+65536-y) % 65536 else if op=4 then FQ x y else if op=5 then orI x y else if op=6 then EI x y else if x<y then 1 else 0
def exec(i:Ins)(m:aZ):Step:=
 if i.op≤7 then .on (m.setR i.a (alu i.op (m.rg i.b) (m.rg i.c) i.c))
 else if i.op=8 then(if (m.rg i.b).toNat<m.mem.length then .on (m.setR i.a (m.mem.getD (m.rg i.b).toNat 0)) else .fin 3 m)
 else if i.op=9 then(if (m.rg i.b).toNat<m.mem.length then .on ⟨m.regs,m.mem.set (m.rg i.b).toNat (m.rg i.a),m.told,m.back,m.pc⟩ else .fin 3 m)
 else if i.op=10 then .on ⟨m.regs,m.mem,m.told,m.back,i.c.toNat⟩
 else if i.op=11 then(if m.rg i.a=0 then .on ⟨m.regs,m.mem,m.told,m.back,i.c.toNat⟩ else .on m)
 else if i.op=12 then(if 16≤m.back.length then .fin 4 m else .on ⟨m.regs,m.mem,m.told,m.back++[m.pc],i.c.toNat⟩)
 else if i.op=13 then(if m.back=[] then .fin 1 m else .on ⟨m.regs,m.mem,m.told,m.back.dropLast,m.back.getLastD 0⟩)
 else if i.op=14 then(if 100≤m.told.length then .fin 5 m else .on ⟨m.regs,m.mem,m.told++[m.rg i.a],m.back,m.pc⟩)
 else .fin 1 m
def step(l:List Ins)(m:aZ):Step:=
 match l[m.pc]? with
 | none=>.fin 3 m
 | some i=>exec i ⟨m.regs,m.mem,m.told,m.back,m.pc+1⟩
def gY(l:List Ins):Nat→aZ→Int × aZ
 | 0,m=>(2,m)
 | n+1,m=>match step l m with
   | .on m'=>gY l n m'
   | .fin e m'=>(e,m')
structure Out where
 fin:Int
 regs:List Int
 told:List Int
 mem:List Int
 err:Int
def sV(e:Int):Out:=⟨0,[0,0,0,0,0,0,0,0],[],[],e⟩
def aV(v:Int):Bool:=inB v 0 65535
def runT(l:List Ins)(regs mem:List Int)(fuel:Int):Out:=
 if fault l=0 then
  (if mem.length≤1024 then
    (if inB fuel 0 20000 && (regs.all aV && mem.all aV) then⟨(gY l fuel.toNat ⟨regs,mem,[],[],0⟩).1,(gY l fuel.toNat ⟨regs,mem,[],[],0⟩).2.regs,(gY l fuel.toNat ⟨regs,mem,[],[],0⟩).2.told,(gY l fuel.toNat ⟨regs,mem,[],[],0⟩).2.mem,0⟩
    else sV 2) else sV 1) else sV (fault l)
theorem eY(l:List Ins)(n:Nat)(m m':aZ)(h:step l m = .on m'):gY l (n+1) m=gY l n m':=by rw[gY,h]
theorem kZ(l:List Ins)(n:Nat)(m m':aZ)(e:Int)(h:step l m = .fin e m'):gY l (n+1) m=(e,m'):=by rw[gY,h]
structure MOk(m:aZ):Prop where
 regs:m.regs.length=8
 words:∀v∈m.regs,0≤v∧v≤65535
 mem:∀v∈m.mem,0≤v∧v≤65535
 told:m.told.length≤100
 toldW:∀v∈m.told,0≤v∧v≤65535
 back:m.back.length≤16
 backs:∀b∈m.back,b≤200
 pc:m.pc≤200
theorem sH{l:List Int}(h:∀v∈l,0≤v∧v≤65535)(j:Nat):0≤l.getD j 0∧l.getD j 0≤65535:=by
 rw[List.getD_eq_getElem?_getD]
 cases hj:l[j]? with
 | none=>simp
 | some v=>exact h v (List.mem_of_getElem? hj)
theorem MOk.rg{m:aZ}(h:MOk m)(i:Int):0≤m.rg i∧m.rg i≤65535:=sH h.words _
theorem FW{x y:Int}(hx:0≤x∧x≤65535)(hy:0≤y∧y≤65535):(0≤FQ x y∧FQ x y≤65535)∧(0≤orI x y∧orI x y≤65535)∧(0≤EI x y∧EI x y≤65535):=by
 have h1:x.toNat<2 ^ 16:=by omega
 have h2:y.toNat<2 ^ 16:=by omega
 have a1:=Nat.and_lt_two_pow (x:=x.toNat) (n:=16) h2
 have a2:=Nat.or_lt_two_pow h1 h2
 have a3:=Nat.xor_lt_two_pow h1 h2
 unfold FQ orI EI
 omega
theorem IL{op x y c:Int}(hx:0≤x∧x≤65535)(hy:0≤y∧y≤65535)(hc:op=1→0≤c∧c≤65535):0≤alu op x y c∧alu op x y c≤65535:=by
 obtain⟨b1,b2,b3⟩:=FW hx hy
 unfold alu
 split
 ·exact hc (by assumption)
 ·split
  ·omega
  ·split
   ·omega
   ·split
    ·exact b1
    ·split
     ·exact b2
     ·split
      ·exact b3
      ·split<;>omega
theorem DL{l:List Int}{j:Nat}{v u:Int}(hl:∀z∈l,0≤z∧z≤65535)(hv:0≤v∧v≤65535)(hu:u∈l.set j v):0≤u∧u≤65535:=by
 rcases List.mem_or_eq_of_mem_set hu with h|h
 ·exact hl u h
 ·rw[h];exact hv
theorem MOk.setR{m:aZ}(h:MOk m)(i v:Int)(hv:0≤v∧v≤65535):MOk (m.setR i v):=
 ⟨by simp[aZ.setR,h.regs],fun u hu=>DL h.words hv hu,h.mem,h.told,h.toldW,h.back,h.backs,h.pc⟩
theorem oO(x:Ins)(h:chk x=0):(1≤x.op∧x.op≤15)∧(0≤x.a∧x.a≤7)∧(0≤x.b∧x.b≤7)∧(0≤x.c∧x.c≤65535)∧(x.op=10∨x.op=11∨x.op=12→x.c≤199)∧(2≤x.op∧x.op≤9→x.c≤7):=by
 obtain⟨op,a,b,c⟩:=x
 have hop:1≤op∧op≤15:=by
  unfold chk at h
  split at h
  ·rename_i ho
   simpa [opB] using ho
  ·simp at h
 have h15:op=1∨op=2∨op=3∨op=4∨op=5∨op=6∨op=7∨op=8∨op=9∨op=10∨op=11∨op=12∨op=13∨op=14∨op=15:=by omega
 refine⟨hop,?_⟩
 rcases h15 with h' | h' | h' | h' | h' | h' | h' | h' | h' | h' | h' | h' | h' | h' | h'<;>subst h' <;>
  simp[chk,opB,yA,uZ,fmt,lH,fld,lar,sS]at h<;>dsimp only<;>omega
theorem step_ok{l:List Ins}(hz:bD l=0)(hl:l.length≤200){m m':aZ}(hm:MOk m)(h:step l m = .on m'):MOk m':=by
 unfold step at h
 cases hi:l[m.pc]? with
 | none=>rw[hi]at h;simp at h
 | some x=>
   rw[hi]at h
   have hpc:m.pc<l.length:=(List.getElem?_eq_some_iff.1 hi).1
   obtain⟨ho,ha,hb,hc,hj,h7⟩:=oO x (lQ l hz m.pc x hi)
   have hm1:MOk ⟨m.regs,m.mem,m.told,m.back,m.pc+1⟩:=⟨hm.regs,hm.words,hm.mem,hm.told,hm.toldW,hm.back,hm.backs,by show m.pc+1≤200;omega⟩
   simp only at h
   generalize aZ.mk m.regs m.mem m.told m.back (m.pc+1)=q at hm1 h
   unfold exec at h
   split at h
   ·injection h with h
    subst h
    exact hm1.setR _ _ (IL (hm1.rg _) (hm1.rg _) (fun _=>hc))
   ·split at h
    ·split at h
     ·injection h with h
      subst h
      exact hm1.setR _ _ (sH hm1.mem _)
     ·simp at h
    ·split at h
     ·split at h
      ·injection h with h
       subst h
       exact⟨hm1.regs,hm1.words,fun u hu=>DL hm1.mem (hm1.rg _) hu,hm1.told,hm1.toldW,hm1.back,hm1.backs,hm1.pc⟩
      ·simp at h
     ·split at h
      ·injection h with h
       subst h
       exact⟨hm1.regs,hm1.words,hm1.mem,hm1.told,hm1.toldW,hm1.back,hm1.backs,by show x.c.toNat≤200;have:=hj (by omega);omega⟩
      ·split at h
       ·split at h
        ·injection h with h
         subst h
         exact⟨hm1.regs,hm1.words,hm1.mem,hm1.told,hm1.toldW,hm1.back,hm1.backs,by show x.c.toNat≤200;have:=hj (by omega);omega⟩
        ·injection h with h
         subst h
         exact hm1
       ·split at h
        ·split at h
         ·simp at h
         ·injection h with h
          subst h
          refine⟨hm1.regs,hm1.words,hm1.mem,hm1.told,hm1.toldW,by simp;omega,fun b hb'=>?_,by show x.c.toNat≤200;have:=hj (by omega);omega⟩
          rcases List.mem_append.1 hb' with h1|h1
          ·exact hm1.backs b h1
          ·simp at h1
           rw[h1]
           exact hm1.pc
        ·split at h
         ·split at h
          ·simp at h
          ·rename_i hne
           injection h with h
           subst h
           refine⟨hm1.regs,hm1.words,hm1.mem,hm1.told,hm1.toldW,?_,fun b hb'=>hm1.backs b (List.dropLast_subset _ hb'),?_⟩
           ·have:=hm1.back
            simp;omega
           ·show q.back.getLastD 0≤200
            rw[List.getLastD_eq_getLast?,List.getLast?_eq_some_getLast hne]
            exact hm1.backs _ (List.getLast_mem hne)
         ·split at h
          ·split at h
           ·simp at h
           ·injection h with h
            subst h
            refine⟨hm1.regs,hm1.words,hm1.mem,by simp;omega,fun v hv=>?_,hm1.back,hm1.backs,hm1.pc⟩
            rcases List.mem_append.1 hv with h1|h1
            ·exact hm1.toldW v h1
            ·simp at h1
             rw[h1]
             exact hm1.rg _
          ·simp at h
end Cf
namespace Cf
def ja(i:Ins):Bool:=decide (i.op=10) || (decide (i.op=13) || decide (i.op=15))
def dK(i:Ins):Bool:=decide (i.op=10) || (decide (i.op=11) || decide (i.op=12))
def dh(i:Ins):Bool:=decide (i.op=5) && (decide (i.a=4) && (decide (i.b=4) && decide (i.c=5)))
def qC(l:List Ins)(k:Nat):Bool:=
 match l[k+1]? with
 | some i=>dh i
 | none=>false
def gp(l:List Ins)(k:Nat)(i:Ins):Bool:=
 if inB i.op 1 8 then(if i.a=5∨i.a=6 then false else if i.a=4∧dh i=false then decide (i.op=4) && (decide (i.c=6) && qC l k) else true) else true
def okI(l:List Ins)(k:Nat)(i:Ins):Bool:=
 if gp l k i then(if (i.op=8∨i.op=9)∧i.b≠4∨dK i=true∧(l.length:Int)≤i.c then false else true) else false
def zq(l:List Ins)(k:Nat):Bool:=
 match l[k]? with
 | some i=>okI l k i
 | none=>true
def lastB(l:List Ins):Bool:=
 match l.getLast? with
 | some i=>ja i
 | none=>false
def jC(l:List Ins):Int:=if fault l=0 then(if lastB l && (List.range l.length).all (zq l) then 0 else 10) else fault l
theorem pG{l:List Ins}(h:jC l=0):fault l=0:=by
 unfold jC at h
 split at h
 ·assumption
 ·exact h
theorem y7{i:Ins}(h:dh i=true):i.op=5∧i.a=4∧i.b=4∧i.c=5:=by
 simpa [dh] using h
theorem not_or{i:Ins}(h:i.op≠5):dh i=false:=by simp[dh,h]
end Cf
namespace Cf
structure Mod where
 name:List UInt8
 code:List Ins
 data:List Int
def bz:Mod:=⟨[],[],[]⟩
def bW(c:UInt8):Bool:=inB c.toNat 97 122
def nameB(s:List UInt8):Bool:=s.all bW && inB s.length 1 6
def cZ(m:Mod):Int:=if nameB m.name then(if m.data.length≤64 then(if m.data.all aV then jC m.code else 2) else 1) else 4
def iZ(x:Nat):List UInt8→Nat
 | []=>x
 | c :: r=>iZ ((x+c.toNat) % 65521) r
def jM(x y:Nat):List UInt8→Nat
 | []=>y
 | c :: r=>jM ((x+c.toNat) % 65521) ((y+(x+c.toNat) % 65521) % 65521) r
def kG(s:List UInt8):List UInt8:=[UInt8.ofNat (jM 1 0 s / 256),UInt8.ofNat (jM 1 0 s % 256),UInt8.ofNat (iZ 1 s / 256),UInt8.ofNat (iZ 1 s % 256)]
def vT(v:Int):List UInt8:=[UInt8.ofNat (v.toNat / 256),UInt8.ofNat (v.toNat % 256)]
def jl:List UInt8→Option (Ins × List UInt8)
 | o :: ab :: c1 :: c0 :: r=>some (⟨o.toNat,ab.toNat / 16,ab.toNat % 16,256*c1.toNat+c0.toNat⟩,r)
 | _=>none
def dG:Nat→List UInt8→Option (List Ins × List UInt8)
 | 0,t=>some ([],t)
 | n+1,t=>match jl t with
   | none=>none
   | some (x,r)=>match dG n r with
     | none=>none
     | some (xs,r')=>some (x :: xs,r')
def di:Nat→List UInt8→Option (List Int × List UInt8)
 | 0,t=>some ([],t)
 | n+1,c1 :: c0 :: r=>match di n r with
   | none=>none
   | some (xs,r')=>some ((256*c1.toNat+c0.toNat:Int) :: xs,r')
 | _+1,_=>none
def mY:List UInt8→Option (Mod × List UInt8)
 | []=>none
 | n :: r=>if r.length<n.toNat then none else match r.drop n.toNat with
   | []=>none
   | k :: r2=>match dG k.toNat r2 with
     | none=>none
     | some (_,[])=>none
     | some (code,d :: r4)=>match di d.toNat r4 with
       | none=>none
       | some (data,r5)=>some (⟨r.take n.toNat,code,data⟩,r5)
structure JI where
 mod:Mod
 err:Int
def fC(s:List UInt8):JI:=
 if 4000<s.length then⟨bz,1⟩ else if s.length<4 then⟨bz,5⟩ else if kG (s.drop 4)≠s.take 4 then⟨bz,11⟩ else match mY (s.drop 4) with
  | none=>⟨bz,5⟩
  | some (_,_ :: _)=>⟨bz,4⟩
  | some (m,[])=>if cZ m=0 then⟨m,0⟩ else⟨bz,cZ m⟩
theorem zO(n:Nat)(h:n<256):(UInt8.ofNat n).toNat=n:=by
 simp[UInt8.toNat_ofNat']
 omega
theorem lg{m:Mod}(h:cZ m=0):(1≤m.name.length∧m.name.length≤6)∧m.data.length≤64∧(∀v∈m.data,0≤v∧v≤65535)∧jC m.code=0:=by
 unfold cZ at h
 split at h
 ·rename_i hn
  split at h
  ·rename_i hd
   split at h
   ·rename_i hw
    simp only[nameB,Bool.and_eq_true,inB,decide_eq_true_eq]at hn
    refine⟨⟨by omega,by omega⟩,hd,fun v hv=>?_,h⟩
    have:=List.all_eq_true.1 hw v hv
    simpa [aV,inB] using this
   ·cases h
  ·cases h
 ·cases h
def LM(s:List UInt8):Nat:=(s.map UInt8.toNat).sum
theorem xP:∀(s:List UInt8) (x:Nat),x<65521→iZ x s=(x+LM s) % 65521
 | [],x,h=>by simp[iZ,LM];omega
 | c :: r,x,h=>by
   rw[iZ,xP r _ (Nat.mod_lt _ (by omega))]
   simp only[LM,List.map_cons,List.sum_cons]
   omega
end Cf
namespace Cf
theorem AY(s:List UInt8):iZ 1 s<65521:=by
 rw[xP _ _ (by omega)]
 exact Nat.mod_lt _ (by omega)
theorem pX:∀(s:List UInt8) (x:Nat) (c:UInt8),iZ x (s++[c])=(iZ x s+c.toNat) % 65521
 | [],_,_=>rfl
 | d :: r,x,c=>by rw[List.cons_append,iZ,iZ,pX r]
theorem pM:∀(s:List UInt8) (x y:Nat) (c:UInt8),jM x y (s++[c])=(jM x y s+(iZ x s+c.toNat) % 65521) % 65521
 | [],_,_,_=>rfl
 | d :: r,x,y,c=>by rw[List.cons_append,jM,jM,iZ,pM r]
theorem vJ:∀(s:List UInt8) (x y:Nat),y<65521→jM x y s<65521
 | [],_,_,h=>h
 | d :: r,x,y,h=>by rw[jM];exact vJ r _ _ (Nat.mod_lt _ (by omega))
theorem jv{α:Type}(s:List α)(k:Nat)(c:α)(h:s[k]?=some c):s.take (k+1)=s.take k++[c]:=by
 rw[List.take_add_one,h];rfl
def ny(l:List UInt8):Nat:=l.foldl (fun v b=>256*v+b.toNat) 0
theorem Ey(l:List UInt8)(c:UInt8):ny (l++[c])=256*ny l+c.toNat:=by
 simp[ny]
theorem IZ(l:List UInt8)(h:l.length≤2):ny l≤65535:=by
 match l,h with
 | [],_=>simp[ny]
 | [a],_=>have:=a.toNat_lt;simp[ny];omega
 | [a,b],_=>have:=a.toNat_lt;have:=b.toNat_lt;simp[ny];omega
structure Rdr where
 rest:List UInt8
 short:Bool
structure KH where
 got:List UInt8
 rdr:Rdr
structure Gp where
 got:Nat
 rdr:Rdr
structure KJ where
 got:Ins
 rdr:Rdr
structure Ba where
 got:List Ins
 rdr:Rdr
structure Ag where
 got:List Int
 rdr:Rdr
def fF(n:Nat)(r:Rdr):KH:=if r.rest.length<n then⟨[],⟨[],true⟩⟩ else⟨r.rest.take n,⟨r.rest.drop n,r.short⟩⟩
def aC(n:Nat)(r:Rdr):Gp:=⟨ny (fF n r).got,(fF n r).rdr⟩
def iG(r:Rdr):KJ:=⟨⟨(aC 1 r).got,(aC 1 (aC 1 r).rdr).got / 16,(aC 1 (aC 1 r).rdr).got % 16,(aC 2 (aC 1 (aC 1 r).rdr).rdr).got⟩,(aC 2 (aC 1 (aC 1 r).rdr).rdr).rdr⟩
def bC:Nat→Rdr→Ba
 | 0,r=>⟨[],r⟩
 | n+1,r=>⟨(bC n r).got++[(iG (bC n r).rdr).got],(iG (bC n r).rdr).rdr⟩
def bV:Nat→Rdr→Ag
 | 0,r=>⟨[],r⟩
 | n+1,r=>⟨(bV n r).got++[((aC 2 (bV n r).rdr).got:Int)],(aC 2 (bV n r).rdr).rdr⟩
theorem oJ(n:Nat)(r:Rdr):(fF n r).got.length≤n:=by
 unfold fF
 split
 ·simp
 ·simp only[List.length_take];omega
theorem uK(n:Nat)(r:Rdr):(fF n r).rdr.rest.length≤r.rest.length:=by
 unfold fF
 split
 ·simp
 ·simp
theorem cO(r:Rdr):(aC 1 r).got≤255:=by
 have:=oJ 1 r
 unfold aC
 generalize (fF 1 r).got=l at *
 match l,this with
 | [],_=>simp[ny]
 | [a],_=>have:=a.toNat_lt;simp[ny];omega
theorem sN:∀(n:Nat) (r:Rdr),(bC n r).got.length=n
 | 0,_=>rfl
 | n+1,r=>by simp[bC,sN n r]
theorem rQ:∀(n:Nat) (r:Rdr),(bV n r).got.length=n
 | 0,_=>rfl
 | n+1,r=>by simp[bV,rQ n r]
def iw(body:List UInt8):KH:=fF (aC 1 ⟨body,false⟩).got (aC 1 ⟨body,false⟩).rdr
def jb(body:List UInt8):Ba:=bC (aC 1 (iw body).rdr).got (aC 1 (iw body).rdr).rdr
def je(body:List UInt8):Ag:=bV (aC 1 (jb body).rdr).got (aC 1 (jb body).rdr).rdr
def eH(body:List UInt8):JI:=
 if (je body).rdr.short then⟨bz,5⟩ else if (je body).rdr.rest=[] then⟨⟨(iw body).got,(jb body).got,(je body).got⟩,0⟩ else⟨bz,4⟩
def stuck:Rdr:=⟨[],true⟩
theorem uP(n:Nat):fF n stuck=⟨[],stuck⟩:=by
 unfold fF stuck
 split
 ·rfl
 ·simp
theorem dC(n:Nat):aC n stuck=⟨0,stuck⟩:=by
 unfold aC
 rw[uP]
 rfl
theorem ed(b:Bool):aC 1 ⟨[],b⟩=⟨0,stuck⟩:=by
 unfold aC fF
 simp[ny,stuck]
theorem bT(c:UInt8)(t:List UInt8)(b:Bool):aC 1 ⟨c :: t,b⟩=⟨c.toNat,⟨t,b⟩⟩:=by
 unfold aC fF
 simp[ny]
theorem Ak(c d:UInt8)(t:List UInt8)(b:Bool):aC 2 ⟨c :: d :: t,b⟩=⟨256*c.toNat+d.toNat,⟨t,b⟩⟩:=by
 unfold aC fF
 rw[if_neg (by simp)]
 simp[ny]
theorem mQ(l:List UInt8)(h:l.length<2)(b:Bool):aC 2 ⟨l,b⟩=⟨0,stuck⟩:=by
 unfold aC fF
 rw[if_pos h]
 rfl
theorem EN:(iG stuck).rdr=stuck:=by
 simp[iG,dC]
theorem Ia{t:List UInt8}{x:Ins}{r:List UInt8}(h:jl t=some (x,r)):iG ⟨t,false⟩=⟨x,⟨r,false⟩⟩:=by
 unfold jl at h
 split at h
 ·simp only[Option.some.injEq,Prod.mk.injEq]at h
  obtain⟨rfl,rfl⟩:=h
  simp only[iG,bT,Ak]
  simp
 ·cases h
theorem Gm{t:List UInt8}(h:jl t=none):(iG ⟨t,false⟩).rdr=stuck:=by
 unfold jl at h
 split at h
 ·cases h
 ·rename_i hn
  match t with
  | []=>simp[iG,ed,dC]
  | [a]=>simp[iG,ed,bT,dC]
  | [a,b]=>simp[iG,bT,mQ]
  | [a,b,c]=>simp[iG,bT,mQ]
  | a :: b :: c :: d :: r=>exact absurd rfl (hn a b c d r)
theorem qO:∀(n:Nat) (t:List UInt8),dG (n+1) t=(dG n t).bind fun p=>(jl p.2).map fun q=>(p.1++[q.1],q.2)
 | 0,t=>by
   simp only[dG,Option.bind_some]
   cases jl t with
   | none=>rfl
   | some q=>rfl
 | n+1,t=>by
   have ih:=fun r=>qO n r
   rw[dG]
   conv=>rhs;rw[dG]
   cases hd:jl t with
   | none=>rfl
   | some q=>
     obtain⟨x,r⟩:=q
     simp only
     rw[ih r]
     cases dG n r with
     | none=>rfl
     | some p=>
       obtain⟨xs,r'⟩:=p
       simp only[Option.bind_some]
       cases jl r' with
       | none=>rfl
       | some q'=>rfl
theorem qH:∀(n:Nat) (t:List UInt8),di (n+1) t=(di n t).bind fun p=>match p.2 with
  | c1 :: c0 :: r=>some (p.1++[(256*c1.toNat+c0.toNat:Int)],r)
  | _=>none
 | 0,t=>by
   match t with
   | []=>rfl
   | [_]=>rfl
   | a :: b :: r=>rfl
 | n+1,t=>by
   match t with
   | []=>rfl
   | [_]=>rfl
   | a :: b :: r=>
     have ih:=qH n r
     rw[di,ih]
     conv=>rhs;rw[di]
     cases di n r with
     | none=>rfl
     | some p=>
       obtain⟨xs,r'⟩:=p
       simp only[Option.bind_some]
       match r' with
       | []=>rfl
       | [_]=>rfl
       | c :: d :: r''=>rfl
theorem BF:∀(n:Nat) (t:List UInt8),(∀xs r,dG n t=some (xs,r)→bC n ⟨t,false⟩=⟨xs,⟨r,false⟩⟩)∧(dG n t=none→(bC n ⟨t,false⟩).rdr=stuck)
 | 0,t=>⟨fun xs r h=>by simp[dG]at h;obtain⟨rfl,rfl⟩:=h;rfl,fun h=>by simp[dG]at h⟩
 | n+1,t=>by
   obtain⟨h1,h2⟩:=BF n t
   rw[qO]
   cases hd:dG n t with
   | none=>
     refine⟨fun xs r h=>by simp at h,fun _=>?_⟩
     rw[bC]
     show(iG (bC n ⟨t,false⟩).rdr).rdr=stuck
     rw[h2 hd,EN]
   | some p=>
     obtain⟨ys,r'⟩:=p
     have e:=h1 ys r' hd
     simp only[Option.bind_some]
     cases hi:jl r' with
     | none=>
       refine⟨fun xs r h=>by simp at h,fun _=>?_⟩
       rw[bC,e]
       exact Gm hi
     | some q=>
       obtain⟨x,r''⟩:=q
       refine⟨fun xs r h=>?_,fun h=>by simp at h⟩
       simp at h
       obtain⟨rfl,rfl⟩:=h
       rw[bC,e,Ia hi]
theorem BD:∀(n:Nat) (t:List UInt8),(∀xs r,di n t=some (xs,r)→bV n ⟨t,false⟩=⟨xs,⟨r,false⟩⟩)∧(di n t=none→(bV n ⟨t,false⟩).rdr=stuck)
 | 0,t=>⟨fun xs r h=>by simp[di]at h;obtain⟨rfl,rfl⟩:=h;rfl,fun h=>by simp[di]at h⟩
 | n+1,t=>by
   obtain⟨h1,h2⟩:=BD n t
   rw[qH]
   cases hd:di n t with
   | none=>
     refine⟨fun xs r h=>by simp at h,fun _=>?_⟩
     rw[bV]
     show(aC 2 (bV n ⟨t,false⟩).rdr).rdr=stuck
     rw[h2 hd,dC]
   | some p=>
     obtain⟨ys,r'⟩:=p
     have e:=h1 ys r' hd
     simp only[Option.bind_some]
     match r' with
     | []=>
       refine⟨fun xs r h=>by simp at h,fun _=>?_⟩
       rw[bV,e]
       show(aC 2 ⟨[],false⟩).rdr=stuck
       rw[mQ _ (by simp)]
     | [a]=>
       refine⟨fun xs r h=>by simp at h,fun _=>?_⟩
       rw[bV,e]
       show(aC 2 ⟨[a],false⟩).rdr=stuck
       rw[mQ _ (by simp)]
     | c :: d :: r''=>
       refine⟨fun xs r h=>?_,fun h=>by simp at h⟩
       simp at h
       obtain⟨rfl,rfl⟩:=h
       rw[bV,e]
       simp only[Ak]
       simp
theorem Ew(body:List UInt8):eH body=match mY body with
  | none=>⟨bz,5⟩
  | some (_,_ :: _)=>⟨bz,4⟩
  | some (m,[])=>⟨m,0⟩:=by
 have kQ:(je body).rdr=stuck→eH body=⟨bz,5⟩:=by
  intro h
  unfold eH
  rw[h]
  rfl
 cases body with
 | nil=>
   refine(kQ ?_).trans rfl
   simp[je,jb,iw,ed,uP,dC,bC,bV]
 | cons n r=>
   simp only[mY]
   by_cases hn:r.length<n.toNat
   ·rw[if_pos hn,kQ]
    have:iw (n :: r)=⟨[],stuck⟩:=by
     unfold iw
     rw[bT]
     unfold fF
     rw[if_pos hn]
     rfl
    simp[je,jb,this,dC,bC,bV]
   ·rw[if_neg hn]
    have hN:iw (n :: r)=⟨r.take n.toNat,⟨r.drop n.toNat,false⟩⟩:=by
     unfold iw
     rw[bT]
     unfold fF
     rw[if_neg hn]
    cases hd:r.drop n.toNat with
    | nil=>
      rw[hd]at hN
      rw[kQ]
      simp[je,jb,hN,ed,dC,bC,bV]
    | cons k r2=>
      rw[hd]at hN
      simp only
      obtain⟨c1,c2⟩:=BF k.toNat r2
      have hC:jb (n :: r)=bC k.toNat ⟨r2,false⟩:=by
       unfold jb
       rw[hN,bT]
      cases hc:dG k.toNat r2 with
      | none=>
        rw[kQ]
        have:=c2 hc
        simp[je,hC,this,dC,bV]
      | some p=>
        obtain⟨code,r3⟩:=p
        have hC':=hC.trans (c1 _ _ hc)
        match r3 with
        | []=>
          rw[kQ]
          simp[je,hC',ed,bV]
        | d :: r4=>
          simp only
          obtain⟨d1,d2⟩:=BD d.toNat r4
          have hD:je (n :: r)=bV d.toNat ⟨r4,false⟩:=by
           unfold je
           rw[hC',bT]
          cases hx:di d.toNat r4 with
          | none=>
            rw[kQ]
            rw[hD]
            exact d2 hx
          | some q=>
            obtain⟨data,r5⟩:=q
            have hD':=hD.trans (d1 _ _ hx)
            unfold eH
            rw[hD',hC',hN]
            cases r5 with
            | nil=>rfl
            | cons a b=>rfl
theorem BI(s:List UInt8):fC s=if 4000<s.length then⟨bz,1⟩ else if s.length<4 then⟨bz,5⟩ else if kG (s.drop 4)≠s.take 4 then⟨bz,11⟩ else
  if (eH (s.drop 4)).err=0 then(if cZ (eH (s.drop 4)).mod=0 then⟨(eH (s.drop 4)).mod,0⟩ else⟨bz,cZ (eH (s.drop 4)).mod⟩) else⟨bz,(eH (s.drop 4)).err⟩:=by
 unfold fC
 rw[Ew]
 cases mY (s.drop 4) with
 | none=>rfl
 | some p=>
   obtain⟨m,r⟩:=p
   cases r with
   | nil=>rfl
   | cons a b=>rfl
end Cf
namespace Cf
structure Node where
 name:List UInt8
 kind:Int
 data:List UInt8
 unit:Int
deriving DecidableEq
structure End where
 kind:Int
 node:Int
 pos:Int
deriving DecidableEq
structure dR where
 live:Bool
 ends:List End
deriving DecidableEq
structure ag where
 mods:List Mod
 mem:List Int
 nodes:List Node
 pipes:List (List UInt8)
 procs:List dR
structure jo where
 kind:Int
 p:Int
 n:Int
 m:Int
 name:List UInt8
 data:List UInt8
structure Ans where
 code:Int
 n:Int
 data:List UInt8
deriving DecidableEq
def bM:Node:=⟨[],0,[],0⟩
def noEnd:End:=⟨0,0,0⟩
def lD:dR:=⟨false,List.replicate 6 noEnd⟩
def jR:ag:=⟨[],[],[],[],[]⟩
def kS:Ans:=⟨0,0,[]⟩
def ak:ag:=⟨[],List.replicate 1024 0,List.replicate 8 bM,List.replicate 6 [],⟨true,List.replicate 6 noEnd⟩ :: List.replicate 3 lD⟩
def aJ{α:Type}(p:α→Bool)(l:List α):Int:=if l.any p then(l.findIdx p:Int) else -1
def endOf(kind node:Int)(e:End):Bool:=decide (e.kind=kind) && decide (e.node=node)
def holdsB(kind node:Int)(p:dR):Bool:=p.ends.any (endOf kind node)
def hasB(ps:List dR)(kind node:Int):Bool:=ps.any (holdsB kind node)
def aI(v:Int)(size:Nat):Bool:=decide (0≤v) && decide (v<size)
def aQ(name:List UInt8)(n:Node):Bool:=decide (n.name=name) && decide (name≠[])
def eF(name:List UInt8)(m:Mod):Bool:=decide (m.name=name)
def aW(n:Node):Bool:=decide (n.kind=0)
def aK(e:End):Bool:=decide (e.kind=0)
def jr(p:dR):Bool:=!p.live
def sizedB(k:ag):Bool:=decide (k.mods.length≤8) && (decide (k.mem.length=1024) && (decide (k.nodes.length=8) && (decide (k.pipes.length=6) && decide (k.procs.length=4))))
def pU(l:List Mod)(i:Nat):Int:=
 match l[i]? with
 | some m=>if cZ m=0 then(if (l.take i).any (eF m.name) then 7 else 0) else cZ m
 | none=>0
def mP(f:Nat→Int):Nat→Int
 | 0=>0
 | n+1=>if mP f n=0 then f n else mP f n
def gG(l:List Mod):Int:=mP (pU l) l.length
def bI(mods:Nat)(n:Node):Bool:=
 if n.kind=1 then decide (n.unit=0) && decide (n.data.length≤100) else if n.kind=2 then decide (n.data=[]) && aI n.unit mods else decide (n=bM)
def bK(k:ag)(name:List UInt8)(i:Nat):Bool:=if name=[] then hasB k.procs 1 i else nameB name && decide (aJ (aQ name) k.nodes=i)
def lu(k:ag)(i:Nat):Bool:=
 match k.nodes[i]? with
 | some n=>bI k.mods.length n && (aW n || bK k n.name i)
 | none=>true
def iK(k:ag):Bool:=(List.range k.nodes.length).all (lu k)
def fM(ns:List Node)(i:Int):Bool:=
 match ns[i.toNat]? with
 | some n=>!aW n
 | none=>false
def fZ(k:ag)(e:End):Bool:=
 if e.kind=1 then aI e.node k.nodes.length && (fM k.nodes e.node && aI e.pos 101) else if e.kind=2∨e.kind=3 then aI e.node k.pipes.length && decide (e.pos=0) else decide (e=noEnd)
def kE(k:ag)(p:dR):Bool:=decide (p.ends.length=6) && p.ends.all (fun e=>fZ k e && (p.live || aK e))
def jT(k:ag):Bool:=k.procs.all (kE k)
def jJ(k:ag)(i:Nat):Bool:=
 match k.pipes[i]? with
 | some s=>decide (s.length≤20) && (decide (s=[]) || hasB k.procs 2 i)
 | none=>true
def iF(k:ag):Bool:=(List.range k.pipes.length).all (jJ k)
def iq(k:ag):Int:=
 if sizedB k then(if gG k.mods=0 then(if k.mem.all aV then(if iK k && (jT k && iF k) then 0 else 9) else 2) else gG k.mods) else 1
structure Did where
 kern:ag
 ans:Ans
def ai(k:ag)(e:Int):Did:=⟨k,⟨e,0,[]⟩⟩
def gK(ps:List dR)(i:Nat)(n:Node):Node:=if n.name=[]∧hasB ps 1 i=false then bM else n
def ni(ps:List dR)(i:Nat)(s:List UInt8):List UInt8:=if hasB ps 2 i=false then[] else s
def iY(k:ag):ag:=⟨k.mods,k.mem,k.nodes.mapIdx (gK k.procs),k.pipes.mapIdx (ni k.procs),k.procs⟩
def setNode(k:ag)(i:Nat)(n:Node):ag:=⟨k.mods,k.mem,k.nodes.set i n,k.pipes,k.procs⟩
def setPipe(k:ag)(i:Nat)(s:List UInt8):ag:=⟨k.mods,k.mem,k.nodes,k.pipes.set i s,k.procs⟩
def setProc(k:ag)(i:Nat)(p:dR):ag:=⟨k.mods,k.mem,k.nodes,k.pipes,k.procs.set i p⟩
def setMem(k:ag)(m:List Int):ag:=⟨k.mods,m,k.nodes,k.pipes,k.procs⟩
def nodeAt(k:ag)(i:Nat):Node:=k.nodes.getD i bM
def kP(k:ag)(i:Nat):List UInt8:=k.pipes.getD i []
def aN(k:ag)(i:Nat):dR:=k.procs.getD i lD
def aH(k:ag)(p i:Nat):End:=(aN k p).ends.getD i noEnd
def setEnd(k:ag)(p i:Nat)(e:End):ag:=setProc k p ⟨(aN k p).live,(aN k p).ends.set i e⟩
def qV(mem data:List Int)(at_:Nat):List Int:=mem.take at_++(data++List.replicate (64-data.length) 0)++mem.drop (at_+64)
def iL(k:ag)(s:List UInt8):Did:=
 if (fC s).err≠0 then ai k (fC s).err else if k.mods.any (eF (fC s).mod.name) then ai k 7 else if k.mods.length=8 then ai k 8
 else⟨⟨k.mods++[(fC s).mod],qV k.mem (fC s).mod.data (64*k.mods.length),k.nodes,k.pipes,k.procs⟩,⟨0,k.mods.length,[]⟩⟩
def nG(k:ag)(f:Node):Did:=
 if nameB f.name=false then ai k 4 else if 0≤aJ (aQ f.name) k.nodes then ai k 7 else if f.kind=2∧aI f.unit k.mods.length=false then ai k 6
 else if aJ aW k.nodes<0 then ai k 8 else⟨setNode k (aJ aW k.nodes).toNat f,⟨0,aJ aW k.nodes,[]⟩⟩
def fV(k:ag)(name:List UInt8):Did:=
 if aJ (aQ name) k.nodes<0 then ai k 6
 else⟨iY (setNode k (aJ (aQ name) k.nodes).toNat ⟨[],(nodeAt k (aJ (aQ name) k.nodes).toNat).kind,(nodeAt k (aJ (aQ name) k.nodes).toNat).data,(nodeAt k (aJ (aQ name) k.nodes).toNat).unit⟩),kS⟩
def qj(k:ag)(p:Nat)(name:List UInt8):Did:=
 if nameB name=false then ai k 4 else if aJ (aQ name) k.nodes<0 then ai k 6 else if aJ aK (aN k p).ends<0 then ai k 8
 else⟨setEnd k p (aJ aK (aN k p).ends).toNat ⟨1,aJ (aQ name) k.nodes,0⟩,⟨0,aJ aK (aN k p).ends,[]⟩⟩
def lU(ps:List dR)(i:Nat):Bool:=!hasB ps 2 i && !hasB ps 3 i
def eX(k:ag):Int:=aJ (lU k.procs) (List.range k.pipes.length)
def sU(k:ag)(p:Nat):Did:=
 if eX k<0∨aJ aK (aN k p).ends<0 then ai k 8
 else if aJ aK ((aN k p).ends.drop ((aJ aK (aN k p).ends).toNat+1))<0 then ai k 8
 else⟨setEnd (setEnd k p (aJ aK (aN k p).ends).toNat ⟨2,eX k,0⟩) p ((aJ aK (aN k p).ends).toNat+1+(aJ aK ((aN k p).ends.drop ((aJ aK (aN k p).ends).toNat+1))).toNat) ⟨3,eX k,0⟩,⟨0,aJ aK (aN k p).ends,[]⟩⟩
def qB(k:ag)(p:Nat):Did:=
 if aJ jr k.procs<0 then ai k 8 else⟨setProc k (aJ jr k.procs).toNat ⟨true,(aN k p).ends⟩,⟨0,aJ jr k.procs,[]⟩⟩
def sW(k:ag)(p:Nat):Did:=⟨iY (setProc k p ⟨false,(aN k p).ends.map (fun _=>noEnd)⟩),kS⟩
def yQ(k:ag)(p i:Nat):Did:=⟨iY (setEnd k p i noEnd),kS⟩
structure Asked where
 mem:List Int
 word:Int
 ok:Bool
def Ko(unit:Nat)(word:Int):List Int:=[word,0,0,0,64*(unit:Int),64*(unit:Int),63,0]
def A7(k:ag)(unit:Nat)(word:Int):Out:=runT (k.mods.getD unit bz).code (Ko unit word) k.mem 2000
def fK(k:ag)(unit:Nat)(word:Int):Asked:=
 if (A7 k unit word).err=0∧(A7 k unit word).fin=1 then⟨(A7 k unit word).mem,(A7 k unit word).regs.getD 0 0,true⟩ else⟨k.mem,0,false⟩
def xE(k:ag)(s:List UInt8):Did:=⟨k,⟨0,s.length,s⟩⟩
def dB(k:ag)(i size:Nat):Did:=
 if kP k i=[] then ai k (if hasB k.procs 3 i then 13 else 12) else xE (setPipe k i ((kP k i).drop size)) ((kP k i).take size)
def fG(k:ag)(p n size:Nat)(data:List UInt8)(e:End):Did:=
 if data.drop e.pos.toNat=[] then ai k 12
 else xE (setEnd k p n ⟨e.kind,e.node,e.pos+((data.drop e.pos.toNat).take size).length⟩) ((data.drop e.pos.toNat).take size)
def gz(k:ag)(unit:Nat):Did:=
 if (fK k unit 256).ok then xE (setMem k (fK k unit 256).mem) [UInt8.ofNat (fK k unit 256).word.toNat] else ai k 14
def gI(k:ag)(p n:Nat)(size:Int):Did:=
 if (aH k p n).kind=3 then ai k 3 else if inB size 1 100=false then ai k 2 else if (aH k p n).kind=2 then dB k (aH k p n).node.toNat size.toNat
 else if (nodeAt k (aH k p n).node.toNat).kind=2 then gz k (nodeAt k (aH k p n).node.toNat).unit.toNat
 else fG k p n size.toNat (nodeAt k (aH k p n).node.toNat).data (aH k p n)
def dP(k:ag)(i:Nat)(s:List UInt8):Did:=
 if hasB k.procs 2 i=false then ai k 12 else if s.take (20-(kP k i).length)=[] then ai k 13
 else⟨setPipe k i (kP k i++s.take (20-(kP k i).length)),⟨0,(s.take (20-(kP k i).length)).length,[]⟩⟩
def kT(d s:List UInt8)(pos:Nat):List UInt8:=(d++List.replicate (pos-d.length) 0).take pos++s++d.drop (pos+s.length)
def dO(k:ag)(p n:Nat)(s:List UInt8)(e:End)(f:Node):Did:=
 if s.take (100-e.pos.toNat)=[] then ai k 8
 else⟨setEnd (setNode k e.node.toNat ⟨f.name,f.kind,kT f.data (s.take (100-e.pos.toNat)) e.pos.toNat,f.unit⟩) p n ⟨e.kind,e.node,e.pos+(s.take (100-e.pos.toNat)).length⟩,⟨0,(s.take (100-e.pos.toNat)).length,[]⟩⟩
structure Fed where
 mem:List Int
 many:Nat
def jK(k:ag)(unit:Nat):List UInt8→Fed
 | []=>⟨k.mem,0⟩
 | b :: r=>if (fK k unit b.toNat).ok then⟨(jK (setMem k (fK k unit b.toNat).mem) unit r).mem,(jK (setMem k (fK k unit b.toNat).mem) unit r).many+1⟩ else⟨k.mem,0⟩
def dE(k:ag)(unit:Nat)(s:List UInt8):Did:=
 if (jK k unit s).many=0 then ai k 14 else⟨setMem k (jK k unit s).mem,⟨0,(jK k unit s).many,[]⟩⟩
def writeT(k:ag)(p n:Nat)(s:List UInt8):Did:=
 if (aH k p n).kind=2 then ai k 3 else if inB s.length 1 100=false then ai k 2 else if (aH k p n).kind=3 then dP k (aH k p n).node.toNat s
 else if (nodeAt k (aH k p n).node.toNat).kind=2 then dE k (nodeAt k (aH k p n).node.toNat).unit.toNat s
 else dO k p n s (aH k p n) (nodeAt k (aH k p n).node.toNat)
def lV(k:ag)(p n:Nat)(a:jo):Did:=if a.kind=7 then gI k p n a.m else if a.kind=8 then writeT k p n a.data else yQ k p n
def dI(k:ag)(p:Nat)(a:jo):Did:=
 if a.kind=5 then qj k p a.name else if a.kind=9 then sU k p else if a.kind=10 then qB k p else if a.kind=11 then sW k p
 else if aI a.n (aN k p).ends.length=true∧(aH k p a.n.toNat).kind≠0 then lV k p a.n.toNat a else ai k 6
def lJ(k:ag)(a:jo):Did:=
 if a.kind=1 then iL k a.data else if a.kind=2 then nG k ⟨a.name,1,[],0⟩ else if a.kind=3 then nG k ⟨a.name,2,[],a.n⟩ else if a.kind=4 then fV k a.name
 else if aI a.p k.procs.length=true∧(aN k a.p.toNat).live=true then dI k a.p.toNat a else ai k 6
structure BQ where
 kern:ag
 ans:Ans
 err:Int
def doT(k:ag)(a:jo):BQ:=
 if iq k≠0 then⟨jR,kS,iq k⟩ else if inB a.kind 1 11=false then⟨jR,kS,3⟩ else⟨(lJ k a).kern,(lJ k a).ans,0⟩
def mD(k:ag)(a:jo):Did:=if (doT k a).err=0 then⟨(doT k a).kern,(doT k a).ans⟩ else⟨k,⟨(doT k a).err,0,[]⟩⟩
structure Ran where
 answers:List Ans
 kern:ag
def dS:ag→List jo→Ran
 | k,[]=>⟨[],k⟩
 | k,a :: r=>⟨(mD k a).ans :: (dS (mD k a).kern r).answers,(dS (mD k a).kern r).kern⟩
structure MR where
 answers:List Ans
 kern:ag
 err:Int
def ik(l:List jo):MR:=if 200<l.length then⟨[],jR,1⟩ else⟨(dS ak l).answers,(dS ak l).kern,0⟩
end Cf
namespace Cf
section
variable {α β:Type} {p:α→Bool} {l:List α}
theorem fJ(h:l.any p=false):aJ p l = -1:=by unfold aJ;rw[h];rfl
theorem jI{k:Nat}{x:α}(hx:l[k]?=some x)(hp:p x=true)(h:(l.take k).any p=false):aJ p l=k:=by
 have ha:l.any p=true:=List.any_eq_true.2 ⟨x,List.mem_of_getElem? hx,hp⟩
 unfold aJ
 rw[ha,if_pos rfl]
 obtain⟨hk,hx'⟩:=List.getElem?_eq_some_iff.1 hx
 have:l.findIdx p=k:=by
  rw[List.findIdx_eq hk]
  refine⟨by rw[hx'];exact hp,fun j hj=>?_⟩
  have:=List.any_eq_false.1 h l[j] (List.mem_take_iff_getElem.2 ⟨j,by omega,rfl⟩)
  simpa using this
 rw[this]
theorem fU{k:Nat}{x:α}(hx:l[k]?=some x)(h:(l.take k).any p=false)(hp:p x=false):(l.take (k+1)).any p=false:=by
 rw[List.take_add_one,hx,List.any_append,h]
 simp[hp]
theorem zi{k:Nat}{x:α}(hx:l[k]?=some x)(hp:p x=true):l.any p=true:=List.any_eq_true.2 ⟨x,List.mem_of_getElem? hx,hp⟩
theorem qQ:decide (0≤aJ p l)=l.any p:=by
 unfold aJ
 cases l.any p
 ·simp
 ·simp
theorem uj:aJ p l<0↔l.any p=false:=by
 unfold aJ
 cases l.any p
 ·simp
 ·simp
theorem bQ(p:α→Bool)(l:List α):(l.any p=false∧aJ p l = -1)∨∃(k:Nat) (x:α),aJ p l=k∧l[k]?=some x∧p x=true∧(l.take k).any p=false:=by
 cases h:l.any p
 ·exact .inl ⟨rfl,fJ h⟩
 ·refine .inr ?_
  obtain⟨y,hy,hpy⟩:=List.any_eq_true.1 h
  have hlt:l.findIdx p<l.length:=List.findIdx_lt_length_of_exists ⟨y,hy,hpy⟩
  refine⟨l.findIdx p,l[l.findIdx p],by unfold aJ;rw[h,if_pos rfl],List.getElem?_eq_getElem hlt,List.findIdx_getElem,?_⟩
  rw[List.any_eq_false]
  intro z hz
  obtain⟨j,hj,rfl⟩:=List.mem_take_iff_getElem.1 hz
  have:=List.not_of_lt_findIdx (p:=p) (xs:=l) (i:=j) (by omega)
  simpa using this
end
theorem mg{f:Nat→Int}:∀ {n:Nat},(∀j,j<n→f j=0)→mP f n=0
 | 0,_=>rfl
 | n+1,h=>by rw[mP,if_pos (mg fun j hj=>h j (by omega))];exact h n (by omega)
theorem nD{f:Nat→Int}{k:Nat}(hz:∀j,j<k→f j=0)(hk:f k≠0):∀ {n:Nat},k<n→mP f n=f k
 | n+1,h=>by
   rw[mP]
   rcases Nat.lt_or_ge k n with h1|h1
   ·rw[nD hz hk h1,if_neg hk]
   ·obtain rfl:k=n:=by omega
    rw[if_pos (mg hz)]
theorem pq{f:Nat→Int}:∀ {n:Nat},mP f n=0→∀j,j<n→f j=0
 | n+1,h,j,hj=>by
   rw[mP]at h
   split at h
   ·rename_i h0
    rcases Nat.lt_or_ge j n with h1|h1
    ·exact pq h0 j h1
    ·obtain rfl:j=n:=by omega
     exact h
   ·rename_i h0
    exact absurd h h0
theorem oC{f:Nat→Bool}{n k:Nat}(hk:k<n)(hf:f k=false):(List.range n).all f=false:=by
 rw[List.all_eq_false]
 exact⟨k,List.mem_range.2 hk,by simp[hf]⟩
theorem yh{f:Nat→Bool}{n:Nat}(h:∀j,j<n→f j=true):(List.range n).all f=true:=List.all_eq_true.2 fun j hj=>h j (List.mem_range.1 hj)
theorem qF{f:Nat→Bool}{k:Nat}(h:∀j,j<k→f j=true)(hk:f k=true):∀j,j<k+1→f j=true:=by
 intro j hj
 rcases Nat.lt_succ_iff_lt_or_eq.1 hj with h1|h1
 ·exact h j h1
 ·exact h1▸hk
theorem yV{α:Type}{q:α→Bool}{l:List α}:l.any (fun x=>!q x) = !l.all q:=by
 rw[Bool.eq_iff_iff]
 simp
end Cf
namespace Cf
structure pO(mods:Nat)(n:Node):Prop where
 kinds:n.kind=0∧n=bM∨n.kind=1∧n.unit=0∧n.data.length≤100∨n.kind=2∧n.data=[]∧0≤n.unit∧n.unit<mods
structure xW(ns:List Node)(e:End):Prop where
 kinds:e=noEnd∨(e.kind=1∧0≤e.node∧e.node<ns.length∧fM ns e.node=true∧0≤e.pos∧e.pos≤100)∨((e.kind=2∨e.kind=3)∧0≤e.node∧e.node<6∧e.pos=0)
structure Pre(k:ag):Prop where
 modsL:k.mods.length≤8
 mod:∀m∈k.mods,cZ m=0
 modU:gG k.mods=0
 memL:k.mem.length=1024
 memW:∀v∈k.mem,0≤v∧v≤65535
 nodesL:k.nodes.length=8
 node:∀n∈k.nodes,pO k.mods.length n
 name:∀n∈k.nodes,n.name≠[]→nameB n.name=true
 uniq:∀(i j:Nat) (a b:Node),k.nodes[i]?=some a→k.nodes[j]?=some b→a.name=b.name→a.name≠[]→i=j
 pipesL:k.pipes.length=6
 pipe:∀s∈k.pipes,s.length≤20
 procsL:k.procs.length=4
 ends:∀p∈k.procs,p.ends.length=6
 ende:∀p∈k.procs,∀e∈p.ends,xW k.nodes e
 dead:∀p∈k.procs,p.live=false→∀e∈p.ends,e=noEnd
structure Good(k:ag):Prop extends Pre k where
 open_:∀(i:Nat) (n:Node),k.nodes[i]?=some n→n.kind≠0→n.name=[]→hasB k.procs 1 i=true
 reader:∀(i:Nat) (s:List UInt8),k.pipes[i]?=some s→s≠[]→hasB k.procs 2 i=true
theorem within_iff{v:Int}{n:Nat}:aI v n=true↔0≤v∧v<n:=by simp[aI]
theorem qR{v:Int}:aV v=true↔0≤v∧v≤65535:=by simp[aV,inB]
theorem nT{m:Nat}{n:Node}:bI m n=true↔pO m n:=by
 unfold bI
 constructor
 ·intro h
  split at h
  ·rename_i h1
   simp only[Bool.and_eq_true,decide_eq_true_eq]at h
   exact⟨.inr (.inl ⟨h1,h.1,h.2⟩)⟩
  ·split at h
   ·rename_i h2
    simp only[Bool.and_eq_true,decide_eq_true_eq,within_iff]at h
    exact⟨.inr (.inr ⟨h2,h.1,h.2⟩)⟩
   ·simp only[decide_eq_true_eq]at h
    exact⟨.inl ⟨by rw[h];rfl,h⟩⟩
 ·rintro ⟨h|h|h⟩
  ·rw[if_neg (by omega),if_neg (by omega)]
   simpa using h.2
  ·rw[if_pos h.1]
   simpa using h.2
  ·rw[if_neg (by omega),if_pos h.1]
   simp only[Bool.and_eq_true,decide_eq_true_eq,within_iff]
   exact h.2
theorem yF{k:ag}(hp:k.pipes.length=6){e:End}:fZ k e=true↔xW k.nodes e:=by
 unfold fZ
 rw[hp]
 constructor
 ·intro h
  split at h
  ·rename_i h1
   simp only[Bool.and_eq_true,within_iff]at h
   exact⟨.inr (.inl ⟨h1,h.1.1,h.1.2,h.2.1,h.2.2.1,by have:=h.2.2.2;omega⟩)⟩
  ·split at h
   ·rename_i h2
    simp only[Bool.and_eq_true,within_iff,decide_eq_true_eq]at h
    exact⟨.inr (.inr ⟨h2,h.1.1,by have:=h.1.2;omega,h.2⟩)⟩
   ·simp only[decide_eq_true_eq]at h
    exact⟨.inl h⟩
 ·rintro ⟨h|h|h⟩
  ·subst h
   rfl
  ·rw[if_pos h.1]
   simp only[Bool.and_eq_true,within_iff]
   exact⟨⟨h.2.1,h.2.2.1⟩,h.2.2.2.1,h.2.2.2.2.1,by have:=h.2.2.2.2.2;omega⟩
  ·rw[if_neg (by omega),if_pos h.1]
   simp only[Bool.and_eq_true,within_iff,decide_eq_true_eq]
   exact⟨⟨h.2.1,by have:=h.2.2.1;omega⟩,h.2.2.2⟩
theorem oM{s:List UInt8}{n:Node}:aQ s n=true↔n.name=s∧s≠[]:=by simp[aQ]
theorem Fv{k:ag}(hu:∀(i j:Nat) (a b:Node),k.nodes[i]?=some a→k.nodes[j]?=some b→a.name=b.name→a.name≠[]→i=j){i:Nat}{n:Node}(hi:k.nodes[i]?=some n)(hn:n.name≠[]):aJ (aQ n.name) k.nodes=i:=by
 refine jI hi (oM.2 ⟨rfl,hn⟩) ?_
 rw[List.any_eq_false]
 intro b hb hnb
 obtain⟨j,hj,hjb⟩:=List.mem_take_iff_getElem.1 hb
 have:=hu i j n b hi (by rw[List.getElem?_eq_some_iff];exact⟨by omega,hjb⟩) (oM.1 hnb).1.symm hn
 omega
theorem oL{f:Nat→Bool}{n:Nat}:(List.range n).all f=true↔∀j,j<n→f j=true:=by
 rw[List.all_eq_true]
 exact⟨fun h j hj=>h j (List.mem_range.2 hj),fun h j hj=>h j (List.mem_range.1 hj)⟩
theorem FY{l:List Mod}(h:gG l=0):∀m∈l,cZ m=0:=by
 intro m hm
 obtain⟨i,hi⟩:=List.getElem?_of_mem hm
 have:=pq h i (List.getElem?_eq_some_iff.1 hi).1
 unfold pU at this
 rw[hi]at this
 simp only at this
 split at this
 ·assumption
 ·exact this
theorem nS{k:ag}:iq k=0↔Good k:=by
 constructor
 ·intro h
  unfold iq at h
  split at h
  ·rename_i hs
   split at h
   ·rename_i hm
    split at h
    ·rename_i hw
     split at h
     ·rename_i hb
      simp only[sizedB,Bool.and_eq_true,decide_eq_true_eq]at hs
      simp only[Bool.and_eq_true]at hb
      obtain⟨hf,hp,hq⟩:=hb
      have Jn:∀(i:Nat) (n:Node),k.nodes[i]?=some n→bI k.mods.length n=true∧(aW n || bK k n.name i)=true:=by
       intro i n hi
       have:=oL.1 hf i (List.getElem?_eq_some_iff.1 hi).1
       unfold lu at this
       rw[hi]at this
       simpa only[Bool.and_eq_true] using this
      have hno:∀(i:Nat) (n:Node),k.nodes[i]?=some n→n.name≠[]→nameB n.name=true∧aJ (aQ n.name) k.nodes=i:=by
       intro i n hi hne
       obtain⟨h1,h2⟩:=Jn i n hi
       simp only[Bool.or_eq_true,aW,decide_eq_true_eq]at h2
       rcases h2 with h2|h2
       ·rcases(nT.1 h1).kinds with h3|h3|h3
        ·exact absurd (by rw[h3.2];rfl) hne
        ·omega
        ·omega
       ·unfold bK at h2
        rw[if_neg hne]at h2
        simpa only[Bool.and_eq_true,decide_eq_true_eq] using h2
      have IW:∀p∈k.procs,p.ends.length=6∧∀e∈p.ends,fZ k e=true∧(p.live=true∨e.kind=0):=by
       intro p hpm
       have:=List.all_eq_true.1 hp p hpm
       simp only[kE,Bool.and_eq_true,decide_eq_true_eq,List.all_eq_true,Bool.or_eq_true,aK]at this
       exact this
      have Ai:∀(i:Nat) (s:List UInt8),k.pipes[i]?=some s→s.length≤20∧(s=[]∨hasB k.procs 2 i=true):=by
       intro i s hi
       have:=oL.1 hq i (List.getElem?_eq_some_iff.1 hi).1
       unfold jJ at this
       rw[hi]at this
       simpa only[Bool.and_eq_true,decide_eq_true_eq,Bool.or_eq_true] using this
      refine{ modsL:=hs.1,mod:=FY hm,modU:=hm,memL:=hs.2.1,memW:=fun v hv=>qR.1 (List.all_eq_true.1 hw v hv),nodesL:=hs.2.2.1,node:=?_,name:=?_,uniq:=?_,pipesL:=hs.2.2.2.1,pipe:=?_,procsL:=hs.2.2.2.2,ends:=fun p hpm=>(IW p hpm).1,ende:=fun p hpm e he=>(yF hs.2.2.2.1).1 ((IW p hpm).2 e he).1,dead:=?_,open_:=?_,reader:=?_ }
      ·intro n hn
       obtain⟨i,hi⟩:=List.getElem?_of_mem hn
       exact nT.1 (Jn i n hi).1
      ·intro n hn hne
       obtain⟨i,hi⟩:=List.getElem?_of_mem hn
       exact(hno i n hi hne).1
      ·intro i j a b ha hb hab hne
       have h1:=(hno i a ha hne).2
       have h2:=(hno j b hb (hab▸hne)).2
       rw[← hab,h1]at h2
       omega
      ·intro s hs'
       obtain⟨i,hi⟩:=List.getElem?_of_mem hs'
       exact(Ai i s hi).1
      ·intro p hpm hl e he
       have:=(IW p hpm).2 e he
       rw[hl]at this
       rcases this.2 with h|h
       ·cases h
       ·rcases((yF hs.2.2.2.1).1 this.1).kinds with h' | h' | h'
        ·exact h'
        ·omega
        ·omega
      ·intro i n hi hk hn
       obtain⟨h1,h2⟩:=Jn i n hi
       simp only[Bool.or_eq_true,aW,decide_eq_true_eq]at h2
       rcases h2 with h2|h2
       ·exact absurd h2 hk
       ·unfold bK at h2
        rwa [if_pos hn]at h2
      ·intro i s hi hne
       rcases(Ai i s hi).2 with h|h
       ·exact absurd h hne
       ·exact h
     ·cases h
    ·cases h
   ·rename_i hm
    exact absurd h hm
  ·cases h
 ·intro h
  have h1:sizedB k=true:=by
   simp only[sizedB,Bool.and_eq_true,decide_eq_true_eq]
   exact⟨h.modsL,h.memL,h.nodesL,h.pipesL,h.procsL⟩
  have h3:k.mem.all aV=true:=List.all_eq_true.2 fun v hv=>qR.2 (h.memW v hv)
  have h4:iK k=true:=by
   unfold iK
   rw[oL]
   intro i hi
   obtain⟨n,hn⟩:∃n,k.nodes[i]?=some n:=⟨_,List.getElem?_eq_getElem hi⟩
   unfold lu
   rw[hn]
   simp only[Bool.and_eq_true,Bool.or_eq_true]
   refine⟨nT.2 (h.node n (List.mem_of_getElem? hn)),?_⟩
   by_cases hk:n.kind=0
   ·exact .inl (by simp[aW,hk])
   ·refine .inr ?_
    unfold bK
    by_cases hm:n.name=[]
    ·rw[if_pos hm]
     exact h.open_ i n hn hk hm
    ·rw[if_neg hm,h.name n (List.mem_of_getElem? hn) hm,Fv h.uniq hn hm]
     simp
  have h5:jT k=true:=by
   unfold jT
   rw[List.all_eq_true]
   intro p hp
   simp only[kE,Bool.and_eq_true,decide_eq_true_eq,List.all_eq_true,Bool.or_eq_true,aK]
   refine⟨h.ends p hp,fun e he=>⟨(yF h.pipesL).2 (h.ende p hp e he),?_⟩⟩
   cases hl:p.live
   ·exact .inr (by rw[h.dead p hp hl e he];rfl)
   ·exact .inl rfl
  have h6:iF k=true:=by
   unfold iF
   rw[oL]
   intro i hi
   obtain⟨s,hs⟩:∃s,k.pipes[i]?=some s:=⟨_,List.getElem?_eq_getElem hi⟩
   unfold jJ
   rw[hs]
   simp only[Bool.and_eq_true,decide_eq_true_eq,Bool.or_eq_true]
   refine⟨h.pipe s (List.mem_of_getElem? hs),?_⟩
   by_cases hm:s=[]
   ·exact .inl hm
   ·exact .inr (h.reader i s hs hm)
  unfold iq
  rw[if_pos h1,if_pos h.modU,if_pos h3,if_pos]
  rw[h4,h5,h6]
  rfl
end Cf
namespace Cf
theorem JW{ps:List dR}{kind node:Int}:hasB ps kind node=true↔∃p∈ps,∃e∈p.ends,e.kind=kind∧e.node=node:=by
 simp[hasB,holdsB,endOf,List.any_eq_true]
theorem rU{α β:Type}(f:Nat→α→β)(l:List α)(i:Nat):(l.mapIdx f)[i]?=(l[i]?).map (f i):=List.getElem?_mapIdx
theorem zZ(ps:List dR)(i:Nat)(n:Node):gK ps i n=n∧(n.name≠[]∨hasB ps 1 i=true)∨gK ps i n=bM∧n.name=[]∧hasB ps 1 i=false:=by
 unfold gK
 split
 ·rename_i h
  exact .inr ⟨rfl,h⟩
 ·rename_i h
  refine .inl ⟨rfl,?_⟩
  cases hh:hasB ps 1 i
  ·exact .inl fun h0=>h ⟨h0,hh⟩
  ·exact .inr rfl
theorem xg(m:Nat):pO m bM:=⟨.inl ⟨rfl,rfl⟩⟩
theorem EH{ps:List dR}{ns:List Node}{p:dR}(hp:p∈ps){e:End}(he:e∈p.ends)(hk:e.kind=1)(h0:0≤e.node)(hf:fM ns e.node=true):fM (ns.mapIdx (gK ps)) e.node=true:=by
 unfold fM at hf ⊢
 rw[rU]
 cases hn:ns[e.node.toNat]? with
 | none=>rw[hn]at hf;exact hf
 | some n=>
   rw[hn]at hf
   have hh:hasB ps 1 (e.node.toNat:Int)=true:=JW.2 ⟨p,hp,e,he,hk,by omega⟩
   rcases zZ ps e.node.toNat n with ⟨h1,_⟩|⟨_,_,h2⟩
   ·simp only[Option.map_some,h1]
    exact hf
   ·rw[hh]at h2
    cases h2
theorem Pre.tidy{k:ag}(h:Pre k):Good (iY k):=by
 have MM:∀(i:Nat) (n':Node),(k.nodes.mapIdx (gK k.procs))[i]?=some n'→∃n,k.nodes[i]?=some n∧n'=gK k.procs i n:=by
  intro i n' hi
  rw[rU]at hi
  cases hn:k.nodes[i]? with
  | none=>rw[hn]at hi;cases hi
  | some n=>
    rw[hn]at hi
    simp at hi
    exact⟨n,rfl,hi.symm⟩
 have Ai:∀(i:Nat) (s':List UInt8),(k.pipes.mapIdx (ni k.procs))[i]?=some s'→∃s,k.pipes[i]?=some s∧s'=ni k.procs i s:=by
  intro i n' hi
  rw[rU]at hi
  cases hn:k.pipes[i]? with
  | none=>rw[hn]at hi;cases hi
  | some n=>
    rw[hn]at hi
    simp at hi
    exact⟨n,rfl,hi.symm⟩
 have hor:∀(i:Nat) (n':Node),(k.nodes.mapIdx (gK k.procs))[i]?=some n'→n'=bM∨(k.nodes[i]?=some n'∧(n'.name≠[]∨hasB k.procs 1 i=true)):=by
  intro i n' hi
  obtain⟨n,hn,rfl⟩:=MM i n' hi
  rcases zZ k.procs i n with ⟨h1,h2⟩|⟨h1,_⟩
  ·rw[h1]
   exact .inr ⟨hn,h2⟩
  ·exact .inl h1
 refine⟨⟨h.modsL,h.mod,h.modU,h.memL,h.memW,?_,?_,?_,?_,?_,?_,h.procsL,h.ends,?_,h.dead⟩,?_,?_⟩
 ·show(k.nodes.mapIdx (gK k.procs)).length=8
  rw[List.length_mapIdx]
  exact h.nodesL
 ·intro n' hn'
  obtain⟨i,hi⟩:=List.mem_iff_getElem?.1 hn'
  rcases hor i n' hi with rfl|⟨hn,_⟩
  ·exact xg _
  ·exact h.node n' (List.mem_of_getElem? hn)
 ·intro n' hn' hne
  obtain⟨i,hi⟩:=List.mem_iff_getElem?.1 hn'
  rcases hor i n' hi with rfl|⟨hn,_⟩
  ·exact absurd rfl hne
  ·exact h.name n' (List.mem_of_getElem? hn) hne
 ·intro i j a b ha hb hab hne
  rcases hor i a ha with rfl|⟨hn,_⟩
  ·exact absurd rfl hne
  ·rcases hor j b hb with rfl|⟨hm,_⟩
   ·exact absurd hab hne
   ·exact h.uniq i j a b hn hm hab hne
 ·show(k.pipes.mapIdx (ni k.procs)).length=6
  rw[List.length_mapIdx]
  exact h.pipesL
 ·intro s' hs'
  obtain⟨i,hi⟩:=List.mem_iff_getElem?.1 hs'
  obtain⟨s,hs,rfl⟩:=Ai i s' hi
  unfold ni
  split
  ·simp
  ·exact h.pipe s (List.mem_of_getElem? hs)
 ·intro p hp e he
  rcases(h.ende p hp e he).kinds with h1|⟨h1,h2,h3,h4,h5⟩|h1
  ·exact⟨.inl h1⟩
  ·refine⟨.inr (.inl ⟨h1,h2,?_,EH hp he h1 h2 h4,h5⟩)⟩
   show e.node<((k.nodes.mapIdx (gK k.procs)).length:Nat)
   rw[List.length_mapIdx]
   exact h3
  ·exact⟨.inr (.inr h1)⟩
 ·intro i n' hi hk hne
  rcases hor i n' hi with rfl|⟨_,h2⟩
  ·exact absurd rfl hk
  ·rcases h2 with h2|h2
   ·exact absurd hne h2
   ·exact h2
 ·intro i s' hi hne
  obtain⟨s,hs,rfl⟩:=Ai i s' hi
  unfold ni at hne
  split at hne
  ·exact absurd rfl hne
  ·rename_i hh
   show hasB k.procs 2 i=true
   simpa using hh
theorem jV{α:Type}{l:List α}{i:Nat}{x y:α}(h:y∈l.set i x):y∈l∨y=x:=List.mem_or_eq_of_mem_set h
theorem su{α:Type}{l:List α}{i j:Nat}{x y:α}(h:(l.set i x)[j]?=some y):(i≠j∧l[j]?=some y)∨(i=j∧i<l.length∧y=x):=by
 rw[List.getElem?_set]at h
 split at h
 ·rename_i hij
  split at h
  ·rename_i hl
   exact .inr ⟨hij,hl,(Option.some.inj h).symm⟩
  ·cases h
 ·rename_i hij
  exact .inl ⟨hij,h⟩
theorem AZ{ns:List Node}{i:Nat}{n:Node}(hn:n.kind≠0){x:Int}(h:fM ns x=true):fM (ns.set i n) x=true:=by
 unfold fM at h ⊢
 rw[List.getElem?_set]
 by_cases hij:i=x.toNat
 ·rw[if_pos hij]
  by_cases hl:i<ns.length
  ·rw[if_pos hl]
   simp[aW,hn]
  ·rw[List.getElem?_eq_none (by omega)]at h
   cases h
 ·rw[if_neg hij]
  exact h
theorem Pre.setNode{k:ag}(h:Pre k){i:Nat}{n:Node}(hk:n.kind≠0)(hok:pO k.mods.length n)(hname:n.name≠[]→nameB n.name=true)(hu:n.name≠[]→∀(j:Nat) (b:Node),k.nodes[j]?=some b→b.name=n.name→j=i):Pre (setNode k i n):=by
 refine⟨h.modsL,h.mod,h.modU,h.memL,h.memW,?_,?_,?_,?_,h.pipesL,h.pipe,h.procsL,h.ends,?_,h.dead⟩
 ·show(k.nodes.set i n).length=8
  rw[List.length_set]
  exact h.nodesL
 ·intro m hm
  rcases jV hm with hm|rfl
  ·exact h.node m hm
  ·exact hok
 ·intro m hm hne
  rcases jV hm with hm|rfl
  ·exact h.name m hm hne
  ·exact hname hne
 ·intro x y a b ha hb hab hne
  rcases su ha with ⟨h1,ha⟩|⟨h1,h2,rfl⟩
  ·rcases su hb with ⟨h3,hb⟩|⟨h3,_,rfl⟩
   ·exact h.uniq x y a b ha hb hab hne
   ·exact absurd (hu (fun h0=>hne (hab.trans h0)) x a (by assumption) hab).symm h1
  ·rcases su hb with ⟨h3,hb⟩|⟨h3,_,rfl⟩
   ·exact absurd (hu hne y b hb hab.symm).symm h3
   ·exact h1.symm.trans h3
 ·intro p hp e he
  rcases(h.ende p hp e he).kinds with h1|⟨h1,h2,h3,h4,h5⟩|h1
  ·exact⟨.inl h1⟩
  ·refine⟨.inr (.inl ⟨h1,h2,?_,AZ hk h4,h5⟩)⟩
   show e.node<((k.nodes.set i n).length:Nat)
   rw[List.length_set]
   exact h3
  ·exact⟨.inr (.inr h1)⟩
theorem Pre.setProc{k:ag}(h:Pre k){i:Nat}{p:dR}(hl:p.ends.length=6)(he:∀e∈p.ends,xW k.nodes e)(hd:p.live=false→∀e∈p.ends,e=noEnd):Pre (setProc k i p):=by
 refine⟨h.modsL,h.mod,h.modU,h.memL,h.memW,h.nodesL,h.node,h.name,h.uniq,h.pipesL,h.pipe,?_,?_,?_,?_⟩
 ·show(k.procs.set i p).length=4
  rw[List.length_set]
  exact h.procsL
 ·intro q hq
  rcases jV hq with hq|rfl
  ·exact h.ends q hq
  ·exact hl
 ·intro q hq
  rcases jV hq with hq|rfl
  ·exact h.ende q hq
  ·exact he
 ·intro q hq
  rcases jV hq with hq|rfl
  ·exact h.dead q hq
  ·exact hd
theorem Pre.at_{k:ag}(h:Pre k){i:Nat}(hi:i<4):k.procs[i]?=some (aN k i):=by
 have hl:i<k.procs.length:=by rw[h.procsL];exact hi
 rw[aN,List.getD_eq_getElem?_getD,List.getElem?_eq_getElem hl]
 rfl
theorem Pre.mem_{k:ag}(h:Pre k){i:Nat}(hi:i<4):aN k i∈k.procs:=List.mem_of_getElem? (h.at_ hi)
theorem Pre.end_{k:ag}(h:Pre k){i j:Nat}(hi:i<4)(hj:j<6):(aN k i).ends[j]?=some (aH k i j):=by
 have hl:j<(aN k i).ends.length:=by rw[h.ends _ (h.mem_ hi)];exact hj
 rw[aH,List.getD_eq_getElem?_getD,List.getElem?_eq_getElem hl]
 rfl
theorem Pre.endM{k:ag}(h:Pre k){i j:Nat}(hi:i<4)(hj:j<6):aH k i j∈(aN k i).ends:=List.mem_of_getElem? (h.end_ hi hj)
theorem Pre.setEnd{k:ag}(h:Pre k){i j:Nat}{e:End}(hi:i<4)(he:xW k.nodes e)(hd:(aN k i).live=false→e=noEnd):Pre (setEnd k i j e):=by
 refine Pre.setProc h ?_ ?_ ?_
 ·show((aN k i).ends.set j e).length=6
  rw[List.length_set]
  exact h.ends _ (h.mem_ hi)
 ·intro x hx
  rcases jV hx with hx|rfl
  ·exact h.ende _ (h.mem_ hi) x hx
  ·exact he
 ·intro hl x hx
  rcases jV hx with hx|rfl
  ·exact h.dead _ (h.mem_ hi) hl x hx
  ·exact hd hl
theorem has_set{ps:List dR}{i:Nat}{p q:dR}(hp:ps[i]?=some p){kind node:Int}(h:holdsB kind node p=true→holdsB kind node q=true)(hh:hasB ps kind node=true):hasB (ps.set i q) kind node=true:=by
 unfold hasB at hh ⊢
 rw[List.any_eq_true]at hh ⊢
 obtain⟨x,hx,hb⟩:=hh
 obtain⟨j,hj⟩:=List.mem_iff_getElem?.1 hx
 by_cases hij:i=j
 ·subst hij
  obtain rfl:=Option.some.inj (hp.symm.trans hj)
  exact⟨q,List.mem_of_getElem? (i:=i) (by rw[List.getElem?_set,if_pos rfl,if_pos (List.getElem?_eq_some_iff.1 hp).1]),h hb⟩
 ·exact⟨x,List.mem_of_getElem? (i:=j) (by rw[List.getElem?_set,if_neg hij];exact hj),hb⟩
theorem FN{p:dR}{j:Nat}{e0 e:End}(h0:p.ends[j]?=some e0){kind node:Int}(he:e0.kind=kind→e0.node=node→e.kind=kind∧e.node=node)(hh:holdsB kind node p=true):holdsB kind node ⟨p.live,p.ends.set j e⟩=true:=by
 unfold holdsB at hh ⊢
 rw[List.any_eq_true]at hh ⊢
 obtain⟨x,hx,hb⟩:=hh
 simp only[endOf,Bool.and_eq_true,decide_eq_true_eq]at hb
 obtain⟨i,hi⟩:=List.mem_iff_getElem?.1 hx
 by_cases hij:j=i
 ·subst hij
  obtain rfl:=Option.some.inj (h0.symm.trans hi)
  obtain⟨h1,h2⟩:=he hb.1 hb.2
  exact⟨e,List.mem_of_getElem? (i:=j) (by rw[List.getElem?_set,if_pos rfl,if_pos (List.getElem?_eq_some_iff.1 h0).1]),by simp[endOf,h1,h2]⟩
 ·exact⟨x,List.mem_of_getElem? (i:=i) (by rw[List.getElem?_set,if_neg hij];exact hi),by simp[endOf,hb]⟩
theorem Good.setEnd{k:ag}(h:Good k){i j:Nat}{e:End}(hi:i<4)(hj:j<6)(he:xW k.nodes e)(hd:(aN k i).live=false→e=noEnd)(h0:(aH k i j).kind=0∨(aH k i j).kind=e.kind∧(aH k i j).node=e.node):Good (setEnd k i j e):=by
 have key:∀kind node:Int,kind≠0→hasB k.procs kind node=true→hasB (Cf.setEnd k i j e).procs kind node=true:=by
  intro kind node hk
  refine has_set (h.at_ hi) (FN (h.end_ hi hj) fun h1 h2=>?_)
  rcases h0 with h0|h0
  ·exact absurd (h1.symm.trans h0) hk
  ·exact⟨h0.1▸h1,h0.2▸h2⟩
 exact⟨h.toPre.setEnd hi he hd,fun a n hn hk he=>key _ _ (by decide) (h.open_ a n hn hk he),fun a s hs hne=>key _ _ (by decide) (h.reader a s hs hne)⟩
theorem Fq{ns:List Node}{i:Nat}{n:Node}(h:ns[i]?=some n)(hk:n.kind≠0):fM ns i=true:=by
 unfold fM
 rw[Int.toNat_natCast,h]
 simp[aW,hk]
theorem Pre.named{k:ag}(h:Pre k){n:Node}(hn:n∈k.nodes)(hne:n.name≠[]):n.kind≠0:=by
 intro h0
 rcases(h.node n hn).kinds with h1|h1|h1
 ·exact hne (by rw[h1.2];rfl)
 ·omega
 ·omega
theorem yC(s:List UInt8)(h:(fC s).err=0):cZ (fC s).mod=0:=by
 have h0:∀d:JI,d=fC s→d.err=0→cZ d.mod=0:=by
  intro d hd
  unfold fC at hd
  split at hd
  ·subst hd;intro h;simp at h
  ·split at hd
   ·subst hd;intro h;simp at h
   ·split at hd
    ·subst hd;intro h;simp at h
    ·split at hd
     ·subst hd;intro h;simp at h
     ·subst hd;intro h;simp at h
     ·split at hd
      ·rename_i hm
       subst hd
       intro _
       exact hm
      ·rename_i hm
       subst hd
       intro h
       exact absurd h hm
 exact h0 _ rfl h
theorem Jd{l:List Mod}{m:Mod}{i:Nat}(h:i<l.length):pU (l++[m]) i=pU l i:=by
 unfold pU
 rw[List.getElem?_append_left h,List.take_append_of_le_length (by omega)]
theorem FU{l:List Mod}{m:Mod}(h:gG l=0)(hm:cZ m=0)(hu:l.any (eF m.name)=false):gG (l++[m])=0:=by
 unfold gG at h ⊢
 refine mg fun j hj=>?_
 rw[List.length_append]at hj
 simp at hj
 rcases Nat.lt_or_ge j l.length with h1|h1
 ·rw[Jd h1]
  exact pq h j h1
 ·obtain rfl:j=l.length:=by omega
  unfold pU
  rw[List.getElem?_append_right (Nat.le_refl _),List.take_append_of_le_length (Nat.le_refl _),List.take_length]
  simp[hm,hu]
theorem JR{mem data:List Int}{n:Nat}(hm:n+64≤mem.length)(hd:data.length≤64):(qV mem data n).length=mem.length:=by
 unfold qV
 simp
 omega
theorem I7{mem data:List Int}{n:Nat}(hm:∀v∈mem,0≤v∧v≤65535)(hd:∀v∈data,0≤v∧v≤65535):∀v∈qV mem data n,0≤v∧v≤65535:=by
 intro v hv
 unfold qV at hv
 simp only[List.mem_append]at hv
 rcases hv with (h|h|h)|h
 ·exact hm v (List.mem_of_mem_take h)
 ·exact hd v h
 ·rw[List.eq_of_mem_replicate h];decide
 ·exact hm v (List.mem_of_mem_drop h)
theorem pO.more{a b:Nat}{n:Node}(h:pO a n)(hab:a≤b):pO b n:=by
 rcases h.kinds with h|h|h
 ·exact⟨.inl h⟩
 ·exact⟨.inr (.inl h)⟩
 ·exact⟨.inr (.inr ⟨h.1,h.2.1,h.2.2.1,by have:=h.2.2.2;omega⟩)⟩
theorem Good.install{k:ag}(h:Good k)(s:List UInt8):Good (iL k s).kern:=by
 unfold iL
 split
 ·exact h
 ·rename_i h0
  split
  ·exact h
  ·rename_i h1
   split
   ·exact h
   ·rename_i h2
    have hm:=yC s (by simpa using h0)
    obtain⟨_,hd,hw,_⟩:=lg hm
    have h8:=h.modsL
    have hL:=h.memL
    refine⟨⟨?_,?_,FU h.modU hm (by simpa using h1),?_,I7 h.memW hw,h.nodesL,fun n hn=>(h.node n hn).more ?_,h.name,h.uniq,h.pipesL,h.pipe,h.procsL,h.ends,h.ende,h.dead⟩,h.open_,h.reader⟩
    ·show(k.mods++[(fC s).mod]).length≤8
     simp
     omega
    ·intro m hmm
     rcases List.mem_append.1 hmm with h3|h3
     ·exact h.mod m h3
     ·rw[List.mem_singleton.1 h3]
      exact hm
    ·show(qV k.mem (fC s).mod.data (64*k.mods.length)).length=1024
     rw[JR (by omega) hd,hL]
    ·show k.mods.length≤(k.mods++[(fC s).mod]).length
     simp
theorem Good.add{k:ag}(h:Good k){f:Node}(hf:f.kind=1∧f.unit=0∧f.data=[]∨f.kind=2∧f.data=[]):Good (nG k f).kern:=by
 unfold nG
 split
 ·exact h
 ·rename_i h0
  split
  ·exact h
  ·rename_i h1
   split
   ·exact h
   ·rename_i h2
    split
    ·exact h
    ·rename_i h3
     have hnm:nameB f.name=true:=by simpa using h0
     have hno:k.nodes.any (aQ f.name)=false:=by
      rw[← uj]
      omega
     rcases bQ aW k.nodes with ⟨_,he⟩|⟨i,x,hi,hx,hb,_⟩
     ·omega
     ·rw[hi,Int.toNat_natCast]
      have hk0:f.kind≠0:=by omega
      have hx0:x=bM:=by
       have:x.kind=0:=by simpa [aW] using hb
       rcases(h.node x (List.mem_of_getElem? hx)).kinds with h4|h4|h4
       ·exact h4.2
       ·omega
       ·omega
      refine⟨h.toPre.setNode hk0 ?_ (fun _=>hnm) ?_,?_,h.reader⟩
      ·rcases hf with ⟨h4,h5,h6⟩|⟨h4,h6⟩
       ·exact⟨.inr (.inl ⟨h4,h5,by rw[h6];simp⟩)⟩
       ·refine⟨.inr (.inr ⟨h4,h6,?_⟩)⟩
        have:aI f.unit k.mods.length=true:=by
         cases hw:aI f.unit k.mods.length
         ·exact absurd ⟨h4,hw⟩ h2
         ·rfl
        exact within_iff.1 this
      ·intro hne j b hb hbn
       have:=List.any_eq_false.1 hno b (List.mem_of_getElem? hb)
       simp[aQ,hbn,hne]at this
      ·intro j n hn hk hne
       rcases su hn with ⟨_,hn⟩|⟨_,_,rfl⟩
       ·exact h.open_ j n hn hk hne
       ·rw[hne]at hnm
        cases hnm
theorem Good.unlink{k:ag}(h:Good k)(name:List UInt8):Good (fV k name).kern:=by
 unfold fV
 split
 ·exact h
 ·rename_i h0
  rcases bQ (aQ name) k.nodes with ⟨_,he⟩|⟨i,x,hi,hx,hb,_⟩
  ·omega
  ·obtain⟨h1,h2⟩:=oM.1 hb
   rw[hi,Int.toNat_natCast]
   have hn:nodeAt k i=x:=by
    rw[nodeAt,List.getD_eq_getElem?_getD,hx]
    rfl
   rw[hn]
   have hk:=h.toPre.named (List.mem_of_getElem? hx) (h1▸h2)
   refine Pre.tidy (h.toPre.setNode hk ?_ (fun h=>absurd rfl h) (fun h=>absurd rfl h))
   rcases(h.node x (List.mem_of_getElem? hx)).kinds with h4|h4|h4
   ·exact absurd h4.1 hk
   ·exact⟨.inr (.inl h4)⟩
   ·exact⟨.inr (.inr h4)⟩
theorem Pre.free{k:ag}(h:Pre k){p:Nat}(hp:p<4)(h0:¬aJ aK (aN k p).ends<0):∃i:Nat,aJ aK (aN k p).ends=i∧i<6∧(aH k p i).kind=0:=by
 rcases bQ aK (aN k p).ends with ⟨_,he⟩|⟨i,x,hi,hx,hb,_⟩
 ·omega
 ·have hl:i<6:=by
   rw[← h.ends _ (h.mem_ hp)]
   exact(List.getElem?_eq_some_iff.1 hx).1
  refine⟨i,hi,hl,?_⟩
  rw[← Option.some.inj (hx.symm.trans (h.end_ hp hl))]
  simpa [aK] using hb
theorem Good.opens{k:ag}(h:Good k){p:Nat}(hp:p<4)(hl:(aN k p).live=true)(name:List UInt8):Good (qj k p name).kern:=by
 unfold qj
 split
 ·exact h
 ·split
  ·exact h
  ·rename_i h0
   split
   ·exact h
   ·rename_i h1
    obtain⟨i,hi,hi6,hk⟩:=h.toPre.free hp h1
    rcases bQ (aQ name) k.nodes with ⟨_,he⟩|⟨j,x,hj,hx,hb,_⟩
    ·omega
    ·obtain⟨h2,h3⟩:=oM.1 hb
     rw[hi,Int.toNat_natCast,hj]
     have hjl:=(List.getElem?_eq_some_iff.1 hx).1
     refine h.setEnd hp hi6 ⟨.inr (.inl ⟨rfl,?_,?_,?_,?_⟩)⟩ (fun h=>by rw[hl]at h;cases h) (.inl hk)
     ·show(0:Int)≤j
      omega
     ·show(j:Int)<(k.nodes.length:Nat)
      omega
     ·exact Fq hx (h.toPre.named (List.mem_of_getElem? hx) (h2▸h3))
     ·show(0:Int)≤0∧(0:Int)≤100
      omega
theorem ED{k:ag}(h:Pre k){p i j:Nat}{e:End}(hp:p<4)(hij:i≠j):aH (setEnd k p i e) p j=aH k p j:=by
 have h1:aN (setEnd k p i e) p=⟨(aN k p).live,(aN k p).ends.set i e⟩:=by
  show(k.procs.set p ⟨(aN k p).live,(aN k p).ends.set i e⟩).getD p lD=_
  rw[List.getD_eq_getElem?_getD,List.getElem?_set,if_pos rfl,if_pos (by rw[h.procsL];exact hp)]
  rfl
 rw[aH,h1]
 show((aN k p).ends.set i e).getD j noEnd=_
 rw[List.getD_eq_getElem?_getD,List.getElem?_set,if_neg hij,aH,List.getD_eq_getElem?_getD]
theorem Jo{k:ag}(h:Pre k){p i:Nat}{e:End}(hp:p<4):(aN (setEnd k p i e) p).live=(aN k p).live:=by
 show((k.procs.set p ⟨(aN k p).live,(aN k p).ends.set i e⟩).getD p lD).live=_
 rw[List.getD_eq_getElem?_getD,List.getElem?_set,if_pos rfl,if_pos (by rw[h.procsL];exact hp)]
 rfl
theorem oP{k:ag}(h:¬eX k<0):∃i:Nat,eX k=i∧i<k.pipes.length∧lU k.procs i=true:=by
 unfold eX at h ⊢
 rcases bQ (lU k.procs) (List.range k.pipes.length) with ⟨_,he⟩|⟨i,x,hi,hx,hb,_⟩
 ·omega
 ·obtain⟨h1,h2⟩:=List.getElem?_eq_some_iff.1 hx
  rw[List.getElem_range]at h2
  subst h2
  rw[List.length_range]at h1
  exact⟨i,hi,h1,hb⟩
theorem Good.pipes_{k:ag}(h:Good k){p:Nat}(hp:p<4)(hl:(aN k p).live=true):Good (sU k p).kern:=by
 unfold sU
 split
 ·exact h
 ·rename_i h0
  split
  ·exact h
  ·rename_i h1
   rw[_root_.not_or]at h0
   obtain⟨i,hi,hi6,hk⟩:=h.toPre.free hp h0.2
   obtain⟨n,hn,hn6,_⟩:=oP h0.1
   rw[h.pipesL]at hn6
   rw[hi,Int.toNat_natCast]at h1 ⊢
   rcases bQ aK ((aN k p).ends.drop (i+1)) with ⟨_,he⟩|⟨j,x,hj,hx,hb,_⟩
   ·omega
   ·rw[hj,Int.toNat_natCast,hn]
    rw[List.getElem?_drop]at hx
    have hl6:i+1+j<6:=by
     rw[← h.ends _ (h.toPre.mem_ hp)]
     exact(List.getElem?_eq_some_iff.1 hx).1
    have hxk:(aH k p (i+1+j)).kind=0:=by
     rw[← Option.some.inj (hx.symm.trans (h.toPre.end_ hp hl6))]
     simpa [aK] using hb
    have hok:∀kd:Int,kd=2∨kd=3→∀ns,xW ns ⟨kd,n,0⟩:=fun kd hkd ns=>⟨.inr (.inr ⟨hkd,by show(0:Int)≤n;omega,by show(n:Int)<6;omega,rfl⟩)⟩
    have hg:=h.setEnd (e:=⟨2,n,0⟩) hp hi6 (hok 2 (.inl rfl) _) (fun h=>by rw[hl]at h;cases h) (.inl hk)
    refine hg.setEnd hp hl6 (hok 3 (.inr rfl) _) (fun h'=>?_) (.inl ?_)
    ·rw[Jo h.toPre hp,hl]at h'
     cases h'
    ·rw[ED h.toPre hp (by omega)]
     exact hxk
theorem Good.fork{k:ag}(h:Good k){p:Nat}(hp:p<4):Good (qB k p).kern:=by
 unfold qB
 split
 ·exact h
 ·rename_i h0
  rcases bQ jr k.procs with ⟨_,he⟩|⟨i,x,hi,hx,hb,_⟩
  ·omega
  ·rw[hi,Int.toNat_natCast]
   have hd:x.live=false:=by simpa [jr] using hb
   have key:∀kind node:Int,kind≠0→hasB k.procs kind node=true→hasB (Cf.setProc k i ⟨true,(aN k p).ends⟩).procs kind node=true:=by
    intro kind node hk
    refine has_set hx fun hh=>?_
    exfalso
    unfold holdsB at hh
    rw[List.any_eq_true]at hh
    obtain⟨e,he,hb⟩:=hh
    rw[h.dead x (List.mem_of_getElem? hx) hd e he]at hb
    simp only[endOf,noEnd,Bool.and_eq_true]at hb
    exact hk (of_decide_eq_true hb.1).symm
   refine⟨h.toPre.setProc (h.ends (aN k p) (h.toPre.mem_ hp)) (h.ende (aN k p) (h.toPre.mem_ hp)) (fun h=>by cases h),fun a n hn hk he=>key _ _ (by decide) (h.open_ a n hn hk he),fun a s hs hne=>key _ _ (by decide) (h.reader a s hs hne)⟩
theorem Good.exit{k:ag}(h:Good k){p:Nat}(hp:p<4):Good (sW k p).kern:=by
 have hm:∀e∈(aN k p).ends.map (fun _=>noEnd),e=noEnd:=by
  intro e he
  obtain⟨_,_,rfl⟩:=List.mem_map.1 he
  rfl
 refine Pre.tidy (h.toPre.setProc ?_ (fun e he=>⟨.inl (hm e he)⟩) (fun _=>hm))
 show((aN k p).ends.map (fun _=>noEnd)).length=6
 rw[List.length_map]
 exact h.ends _ (h.toPre.mem_ hp)
theorem Good.close{k:ag}(h:Good k){p i:Nat}(hp:p<4):Good (yQ k p i).kern:=Pre.tidy (h.toPre.setEnd hp ⟨.inl rfl⟩ (fun _=>rfl))
theorem Dt{l:List Ins}(hf:fault l=0):∀(n:Nat) (m:aZ),MOk m→(∀v∈(gY l n m).2.mem,0≤v∧v≤65535)∧(gY l n m).2.mem.length=m.mem.length∧MOk (gY l n m).2:=by
 have hz:bD l=0:=by have:=hf;unfold fault at this;rwa [if_neg (by have:=gU l hf;omega)]at this
 have hlen:∀(x:Ins) (m:aZ),(∀m',exec x m = .on m'→m'.mem.length=m.mem.length)∧(∀e m',exec x m = .fin e m'→m'.mem=m.mem∧m'.regs=m.regs∧m'.told=m.told∧m'.back=m.back∧m'.pc=m.pc):=by
  intro x m
  constructor
  ·intro m' h
   unfold exec at h
   repeat' split at h
   all_goals first|(injection h with h;subst h;first|rfl|simp)|(simp at h)
  ·intro e m' h
   unfold exec at h
   repeat' split at h
   all_goals first|(injection h with _ h;subst h;exact⟨rfl,rfl,rfl,rfl,rfl⟩)|(simp at h)
 intro n
 induction n with
 | zero=>intro m hm;exact⟨hm.mem,rfl,hm⟩
 | succ n ih=>
   intro m hm
   rw[gY]
   cases hs:step l m with
   | on m'=>
     have h1:=ih m' (step_ok hz (gU l hf) hm hs)
     refine⟨h1.1,h1.2.1.trans ?_,h1.2.2⟩
     unfold step at hs
     split at hs
     ·cases hs
     ·exact(hlen _ ⟨m.regs,m.mem,m.told,m.back,m.pc+1⟩).1 m' hs
   | fin e m'=>
     unfold step at hs
     split at hs
     ·injection hs with _ hs
      subst hs
      exact⟨hm.mem,rfl,hm⟩
     ·rename_i x hx
      obtain⟨h1,h2,h3,h4,h5⟩:=(hlen _ _).2 e m' hs
      have hpc:m.pc<l.length:=(List.getElem?_eq_some_iff.1 hx).1
      have hl2:=gU l hf
      refine⟨by rw[h1];exact hm.mem,by rw[h1],?_⟩
      exact⟨by rw[h2];exact hm.regs,by rw[h2];exact hm.words,by rw[h1];exact hm.mem,by rw[h3];exact hm.told,by rw[h3];exact hm.toldW,by rw[h4];exact hm.back,by rw[h4];exact hm.backs,by rw[h5];show m.pc+1≤200;omega⟩
theorem pV{l:List Ins}{regs mem:List Int}{fuel:Int}(h8:regs.length=8)(he:(runT l regs mem fuel).err=0):(∀v∈(runT l regs mem fuel).mem,0≤v∧v≤65535)∧(runT l regs mem fuel).mem.length=mem.length∧(∀v∈(runT l regs mem fuel).regs,0≤v∧v≤65535)∧(runT l regs mem fuel).regs.length=8:=by
 unfold runT at he ⊢
 split at he
 ·rename_i hf
  rw[if_pos hf]
  split at he
  ·rename_i hl
   rw[if_pos hl]
   split at he
   ·rename_i hw
    rw[if_pos hw]
    simp only[Bool.and_eq_true,List.all_eq_true]at hw
    have hm:MOk ⟨regs,mem,[],[],0⟩:=⟨h8,fun v hv=>qR.1 (hw.2.1 v hv),fun v hv=>qR.1 (hw.2.2 v hv),by simp,by simp,by simp,by simp,by simp⟩
    have h:=Dt hf fuel.toNat _ hm
    exact⟨h.1,h.2.1,h.2.2.words,h.2.2.regs⟩
   ·simp[sV]at he
  ·simp[sV]at he
 ·rename_i hf
  exact absurd he hf
theorem qI{k:ag}(hL:k.mem.length=1024)(hW:∀v∈k.mem,0≤v∧v≤65535)(u:Nat)(x:Int):(fK k u x).mem.length=1024∧(∀v∈(fK k u x).mem,0≤v∧v≤65535)∧0≤(fK k u x).word∧(fK k u x).word≤65535:=by
 unfold fK
 split
 ·rename_i h
  obtain⟨h1,h2,h3,_⟩:=pV (show(Ko u x).length=8 from rfl) h.1
  exact⟨h2.trans hL,h1,sH h3 0⟩
 ·exact⟨hL,hW,by show(0:Int)≤0;omega,by show(0:Int)≤65535;omega⟩
theorem Good.setMem{k:ag}(h:Good k){m:List Int}(hL:m.length=1024)(hW:∀v∈m,0≤v∧v≤65535):Good (setMem k m):=
 ⟨⟨h.modsL,h.mod,h.modU,hL,hW,h.nodesL,h.node,h.name,h.uniq,h.pipesL,h.pipe,h.procsL,h.ends,h.ende,h.dead⟩,h.open_,h.reader⟩
theorem BB(u:Nat):∀(s:List UInt8) (k:ag),k.mem.length=1024→(∀v∈k.mem,0≤v∧v≤65535)→(jK k u s).mem.length=1024∧∀v∈(jK k u s).mem,0≤v∧v≤65535
 | [],k,hL,hW=>⟨hL,hW⟩
 | b :: r,k,hL,hW=>by
   rw[jK]
   obtain⟨h1,h2,_⟩:=qI hL hW u b.toNat
   split
   ·exact BB u r (Cf.setMem k (fK k u b.toNat).mem) h1 h2
   ·exact⟨hL,hW⟩
theorem Good.setPipe{k:ag}(h:Good k){i:Nat}{s:List UInt8}(hs:s.length≤20)(hr:s≠[]→hasB k.procs 2 i=true):Good (setPipe k i s):=by
 refine⟨⟨h.modsL,h.mod,h.modU,h.memL,h.memW,h.nodesL,h.node,h.name,h.uniq,?_,?_,h.procsL,h.ends,h.ende,h.dead⟩,h.open_,?_⟩
 ·show(k.pipes.set i s).length=6
  rw[List.length_set]
  exact h.pipesL
 ·intro t ht
  rcases jV ht with ht|rfl
  ·exact h.pipe t ht
  ·exact hs
 ·intro j t ht hne
  rcases su ht with ⟨_,ht⟩|⟨rfl,_,rfl⟩
  ·exact h.reader j t ht hne
  ·exact hr hne
theorem zC{k:ag}(h:Good k)(i:Nat):(kP k i).length≤20∧(kP k i≠[]→hasB k.procs 2 i=true):=by
 rw[kP,List.getD_eq_getElem?_getD]
 cases hi:k.pipes[i]? with
 | none=>simp
 | some s=>exact⟨h.pipe s (List.mem_of_getElem? hi),h.reader i s hi⟩
theorem Good.readPipe{k:ag}(h:Good k)(i size:Nat):Good (dB k i size).kern:=by
 unfold dB
 split
 ·exact h
 ·rename_i h0
  obtain⟨h1,h2⟩:=zC h i
  exact h.setPipe (by simp;omega) (fun _=>h2 h0)
theorem Good.writePipe{k:ag}(h:Good k)(i:Nat)(s:List UInt8):Good (dP k i s).kern:=by
 unfold dP
 split
 ·exact h
 ·rename_i h0
  split
  ·exact h
  ·obtain⟨h1,_⟩:=zC h i
   exact h.setPipe (by simp;omega) (fun _=>by simpa using h0)
theorem Good.readFile{k:ag}(h:Good k){p n:Nat}(hp:p<4)(hn:n<6)(size:Nat){data:List UInt8}(hd:data.length≤100)(h1:(aH k p n).kind=1):Good (fG k p n size data (aH k p n)).kern:=by
 unfold fG
 split
 ·exact h
 ·rename_i h0
  have hlt:(aH k p n).pos.toNat<data.length:=by
   rcases Nat.lt_or_ge (aH k p n).pos.toNat data.length with h2|h2
   ·exact h2
   ·exact absurd (List.drop_eq_nil_of_le h2) h0
  have hok:=h.ende _ (h.toPre.mem_ hp) _ (h.toPre.endM hp hn)
  rcases hok.kinds with h2|⟨_,h3,h4,h5,h6,h7⟩|h2
  ·rw[h2]at h1;cases h1
  ·refine h.setEnd hp hn ⟨.inr (.inl ⟨h1,h3,h4,h5,?_,?_⟩)⟩ (fun hl=>?_) (.inr ⟨rfl,rfl⟩)
   ·show 0≤(aH k p n).pos+_
    omega
   ·show(aH k p n).pos+_≤100
    simp
    omega
   ·have:=h.dead _ (h.toPre.mem_ hp) hl _ (h.toPre.endM hp hn)
    rw[this]at h1
    cases h1
  ·omega
theorem Pre.nodeM{k:ag}(h:Pre k){i:Nat}(hi:i<8):k.nodes[i]?=some (nodeAt k i):=by
 have hl:i<k.nodes.length:=by rw[h.nodesL];exact hi
 rw[nodeAt,List.getD_eq_getElem?_getD,List.getElem?_eq_getElem hl]
 rfl
theorem GN(d s:List UInt8)(pos:Nat):(kT d s pos).length=max (pos+s.length) d.length:=by
 unfold kT
 simp
 omega
theorem Good.writeFile{k:ag}(h:Good k){p n:Nat}(hp:p<4)(hn:n<6)(s:List UInt8)(h1:(aH k p n).kind=1)(h2:(nodeAt k (aH k p n).node.toNat).kind≠2):Good (dO k p n s (aH k p n) (nodeAt k (aH k p n).node.toNat)).kern:=by
 unfold dO
 split
 ·exact h
 ·rename_i h0
  have hlen:(s.take (100-(aH k p n).pos.toNat)).length≤100-(aH k p n).pos.toNat:=by simp;omega
  have hpos:0<(s.take (100-(aH k p n).pos.toNat)).length:=List.length_pos_iff.2 h0
  generalize s.take (100-(aH k p n).pos.toNat)=t at *
  have hok:=h.ende _ (h.toPre.mem_ hp) _ (h.toPre.endM hp hn)
  rcases hok.kinds with h2|⟨_,h3,h4,h5,h6,h7⟩|h2
  ·rw[h2]at h1;cases h1
  ·rw[h.nodesL]at h4
   generalize hj:(aH k p n).node.toNat=j at *
   have hj8:j<8:=by omega
   have hx:=h.toPre.nodeM hj8
   have hk:(nodeAt k j).kind≠0:=by
    unfold fM at h5
    rw[hj,hx]at h5
    simpa [aW] using h5
   have hok2:=h.node _ (List.mem_of_getElem? hx)
   have hk1:(nodeAt k j).kind=1∧(nodeAt k j).unit=0∧(nodeAt k j).data.length≤100:=by
    rcases hok2.kinds with h8|h8|h8
    ·exact absurd h8.1 hk
    ·exact h8
    ·exact absurd h8.1 h2
   have hg:Good (Cf.setNode k j ⟨(nodeAt k j).name,(nodeAt k j).kind,kT (nodeAt k j).data t (aH k p n).pos.toNat,(nodeAt k j).unit⟩):=by
    refine⟨h.toPre.setNode hk ⟨.inr (.inl ⟨hk1.1,hk1.2.1,?_⟩)⟩ (fun hne=>h.name (nodeAt k j) (List.mem_of_getElem? hx) hne) (fun hne b x hb hbn=>h.uniq b j x _ hb hx hbn (by rw[hbn];exact hne)),?_,h.reader⟩
    ·show(kT (nodeAt k j).data t (aH k p n).pos.toNat).length≤100
     rw[GN]
     omega
    ·intro a x hx' hkx hnx
     rcases su hx' with ⟨_,hx'⟩|⟨rfl,_,rfl⟩
     ·exact h.open_ a x hx' hkx hnx
     ·exact h.open_ j _ hx hk hnx
   have he:aH (Cf.setNode k j ⟨(nodeAt k j).name,(nodeAt k j).kind,kT (nodeAt k j).data t (aH k p n).pos.toNat,(nodeAt k j).unit⟩) p n=aH k p n:=rfl
   refine hg.setEnd hp hn ⟨.inr (.inl ⟨h1,h3,?_,AZ (n:=⟨(nodeAt k j).name,(nodeAt k j).kind,kT (nodeAt k j).data t (aH k p n).pos.toNat,(nodeAt k j).unit⟩) hk h5,?_,?_⟩)⟩ (fun hl=>?_) (.inr ⟨by rw[he],by rw[he]⟩)
   ·show(aH k p n).node<((k.nodes.set j _).length:Nat)
    rw[List.length_set,h.nodesL]
    omega
   ·show 0≤(aH k p n).pos+_
    omega
   ·show(aH k p n).pos+(t.length:Int)≤100
    omega
   ·have:=h.dead _ (h.toPre.mem_ hp) hl _ (h.toPre.endM hp hn)
    rw[this]at h1
    cases h1
  ·omega
theorem Good.readDev{k:ag}(h:Good k)(u:Nat):Good (gz k u).kern:=by
 unfold gz
 split
 ·obtain⟨h1,h2,_⟩:=qI h.memL h.memW u 256
  exact h.setMem h1 h2
 ·exact h
theorem Good.writeDev{k:ag}(h:Good k)(u:Nat)(s:List UInt8):Good (dE k u s).kern:=by
 unfold dE
 split
 ·exact h
 ·obtain⟨h1,h2⟩:=BB u s k h.memL h.memW
  exact h.setMem h1 h2
theorem Good.kinds{k:ag}(h:Good k){p n:Nat}(hp:p<4)(hn:n<6)(h0:(aH k p n).kind≠0):(aH k p n).kind=1∧0≤(aH k p n).node∧(aH k p n).node<8∧fM k.nodes (aH k p n).node=true∧0≤(aH k p n).pos∧(aH k p n).pos≤100∨((aH k p n).kind=2∨(aH k p n).kind=3)∧0≤(aH k p n).node∧(aH k p n).node<6∧(aH k p n).pos=0:=by
 rcases(h.ende _ (h.toPre.mem_ hp) _ (h.toPre.endM hp hn)).kinds with h1|h1|h1
 ·rw[h1]at h0;exact absurd rfl h0
 ·rw[h.nodesL]at h1
  exact .inl h1
 ·exact .inr h1
theorem Good.nodeK{k:ag}(h:Good k){j:Int}(h0:0≤j)(h8:j<8)(hf:fM k.nodes j=true):(nodeAt k j.toNat).kind=1∧(nodeAt k j.toNat).unit=0∧(nodeAt k j.toNat).data.length≤100∨(nodeAt k j.toNat).kind=2∧(nodeAt k j.toNat).data=[]∧0≤(nodeAt k j.toNat).unit∧(nodeAt k j.toNat).unit<k.mods.length:=by
 have hx:=h.toPre.nodeM (i:=j.toNat) (by omega)
 rcases(h.node _ (List.mem_of_getElem? hx)).kinds with h1|h1|h1
 ·unfold fM at hf
  rw[hx]at hf
  simp[aW,h1.1]at hf
 ·exact .inl h1
 ·exact .inr h1
theorem Good.byEnd{k:ag}(h:Good k){p n:Nat}(hp:p<4)(hn:n<6)(h0:(aH k p n).kind≠0)(a:jo):Good (lV k p n a).kern:=by
 unfold lV
 split
 ·unfold gI
  split
  ·exact h
  ·split
   ·exact h
   ·split
    ·exact h.readPipe _ _
    ·split
     ·exact h.readDev _
     ·rename_i h3 _ h2 hk2
      rcases h.kinds hp hn h0 with h1|h1
      ·rcases h.nodeK h1.2.1 h1.2.2.1 h1.2.2.2.1 with h4|h4
       ·exact h.readFile hp hn _ h4.2.2 h1.1
       ·exact absurd h4.1 hk2
      ·omega
 ·split
  ·unfold writeT
   split
   ·exact h
   ·split
    ·exact h
    ·split
     ·exact h.writePipe _ _
     ·split
      ·exact h.writeDev _ _
      ·rename_i h3 _ h2 hk2
       rcases h.kinds hp hn h0 with h1|h1
       ·exact h.writeFile hp hn _ h1.1 hk2
       ·omega
  ·exact h.close hp
theorem Good.byProc{k:ag}(h:Good k){p:Nat}(hp:p<4)(hl:(aN k p).live=true)(a:jo):Good (dI k p a).kern:=by
 unfold dI
 split
 ·exact h.opens hp hl _
 ·split
  ·exact h.pipes_ hp hl
  ·split
   ·exact h.fork hp
   ·split
    ·exact h.exit hp
    ·split
     ·rename_i hw
      have:=within_iff.1 hw.1
      rw[h.ends _ (h.toPre.mem_ hp)]at this
      exact h.byEnd hp (by omega) hw.2 a
     ·exact h
theorem Good.act{k:ag}(h:Good k)(a:jo):Good (lJ k a).kern:=by
 unfold lJ
 split
 ·exact h.install _
 ·split
  ·exact h.add (.inl ⟨rfl,rfl,rfl⟩)
  ·split
   ·exact h.add (.inr ⟨rfl,rfl⟩)
   ·split
    ·exact h.unlink _
    ·split
     ·rename_i hw
      have:=within_iff.1 hw.1
      rw[h.procsL]at this
      exact h.byProc (by omega) hw.2 a
     ·exact h
theorem uN:Good ak:=by
 have hp:∀p∈ak.procs,p.ends=List.replicate 6 noEnd:=by
  intro p hp
  rcases List.mem_cons.1 hp with rfl|hp
  ·rfl
  ·rw[List.eq_of_mem_replicate hp]
   rfl
 refine⟨⟨by decide,fun m hm=>(by cases hm),rfl,List.length_replicate,?_,rfl,?_,?_,?_,rfl,?_,rfl,?_,?_,?_⟩,?_,?_⟩
 ·intro v hv
  rw[List.eq_of_mem_replicate hv]
  decide
 ·intro n hn
  rw[List.eq_of_mem_replicate hn]
  exact xg _
 ·intro n hn h
  rw[List.eq_of_mem_replicate hn]at h
  exact absurd rfl h
 ·intro i j a b ha hb hab hne
  rw[List.eq_of_mem_replicate (List.mem_of_getElem? ha)]at hne
  exact absurd rfl hne
 ·intro s hs
  rw[List.eq_of_mem_replicate hs]
  decide
 ·intro p h
  rw[hp p h]
  rfl
 ·intro p h e he
  rw[hp p h]at he
  exact⟨.inl (List.eq_of_mem_replicate he)⟩
 ·intro p h _ e he
  rw[hp p h]at he
  exact List.eq_of_mem_replicate he
 ·intro i n hn hk
  rw[List.eq_of_mem_replicate (List.mem_of_getElem? hn)]at hk
  exact absurd rfl hk
 ·intro i s hs hne
  rw[List.eq_of_mem_replicate (List.mem_of_getElem? hs)]at hne
  exact absurd rfl hne
theorem Fz{k:ag}(h:Good k){a:jo}(ha:inB a.kind 1 11=true):mD k a=lJ k a:=by
 have h0:iq k=0:=nS.2 h
 have hd:doT k a=⟨(lJ k a).kern,(lJ k a).ans,0⟩:=by
  unfold doT
  rw[if_neg (by simp[h0]),if_neg (by simp[ha])]
 unfold mD
 rw[hd]
 rfl
theorem Hy{k:ag}(h:Good k){a:jo}(ha:inB a.kind 1 11=false):mD k a=⟨k,⟨3,0,[]⟩⟩:=by
 have h0:iq k=0:=nS.2 h
 have hd:doT k a=⟨jR,kS,3⟩:=by
  unfold doT
  rw[if_neg (by simp[h0]),if_pos ha]
 unfold mD
 rw[hd]
 rfl
theorem Good.next{k:ag}(h:Good k)(a:jo):Good (mD k a).kern:=by
 cases ha:inB a.kind 1 11
 ·rw[Hy h ha]
  exact h
 ·rw[Fz h ha]
  exact h.act a
theorem yN:∀(l:List jo) (k:ag),(dS k l).answers.length=l.length
 | [],_=>rfl
 | a :: r,k=>by
   show((dS (mD k a).kern r).answers.length)+1=_
   rw[yN r]
   rfl
theorem D6:∀(l m:List jo) (k:ag),dS k (l++m)=⟨(dS k l).answers++(dS (dS k l).kern m).answers,(dS (dS k l).kern m).kern⟩
 | [],m,k=>rfl
 | a :: r,m,k=>by
   rw[List.cons_append,dS,D6 r m]
   rfl
end Cf
namespace Cf
end Cf
namespace Cf
section
variable {α:Type} {p:α→Bool} {l:List α}
theorem count_none(h:l.any p=false):l.countP p=0:=by
 rw[List.countP_eq_zero]
 intro a ha hp
 rw[List.any_eq_true.2 ⟨a,ha,hp⟩]at h
 cases h
theorem oN(h:0≤aJ p l):∃(i:Nat) (x:α) (a b:List α),aJ p l=i∧l=a++x :: b∧a.length=i∧p x=true∧a.any p=false:=by
 rcases bQ p l with ⟨_,h1⟩|⟨k,x,h1,h2,h3,h4⟩
 ·omega
 ·obtain⟨hk,h5⟩:=List.getElem?_eq_some_iff.1 h2
  refine⟨k,x,l.take k,l.drop (k+1),h1,?_,by rw[List.length_take];omega,h3,h4⟩
  rw[← h5,← List.drop_eq_getElem_cons hk,List.take_append_drop]
theorem JP{a b:List α}(ha:a.any p=false):aJ p (a++b)=if aJ p b<0 then -1 else a.length+aJ p b:=by
 split
 ·rename_i h
  refine fJ ?_
  rw[List.any_append,ha,uj.1 h]
  rfl
 ·rename_i h
  obtain⟨i,x,c,d,h1,rfl,h3,h4,h5⟩:=oN (Int.not_lt.1 h)
  rw[h1]
  have:=jI (p:=p) (l:=a++(c++x :: d)) (k:=a.length+i) (x:=x) (by
   rw[List.getElem?_append_right (by omega),List.getElem?_append_right (by omega),show a.length+i-a.length-c.length=0 by omega]
   rfl) h4 (by
   rw[← List.append_assoc,List.take_append_of_le_length (by simp;omega),List.take_of_length_le (by simp;omega),List.any_append,ha,h5]
   rfl)
  rw[this]
  omega
theorem zg:(0≤aJ p l∧0≤aJ p (l.drop ((aJ p l).toNat+1)))↔2≤l.countP p:=by
 by_cases h:0≤aJ p l
 ·obtain⟨i,x,a,b,h1,rfl,h3,h4,h5⟩:=oN h
  rw[h1,Int.toNat_natCast]
  have hd:(a++x :: b).drop (i+1)=b:=by
   rw[← h3,show a.length+1=a.length+1 from rfl,List.drop_append,List.drop_eq_nil_of_le (by omega),show a.length+1-a.length=1 by omega]
   rfl
  rw[hd,List.countP_append,count_none h5,List.countP_cons_of_pos h4]
  constructor
  ·rintro ⟨_,hb⟩
   obtain⟨_,y,c,d,_,rfl,_,h6,_⟩:=oN hb
   rw[List.countP_append,List.countP_cons_of_pos h6]
   omega
  ·intro hc
   refine⟨by omega,Int.not_lt.1 fun hb=>?_⟩
   rw[count_none (uj.1 hb)]at hc
   omega
 ·rw[count_none (uj.1 (Int.not_le.1 h))]
  constructor
  ·exact fun hh=>absurd hh.1 h
  ·omega
theorem JV{i:Nat}(h:aJ p l=i){y:α}(hy:p y=false):aJ p (l.set i y)=if aJ p (l.drop (i+1))<0 then -1 else i+1+aJ p (l.drop (i+1)):=by
 obtain⟨j,x,a,b,h1,rfl,h3,h4,h5⟩:=oN (p:=p) (l:=l) (by omega)
 obtain rfl:i=j:=by omega
 have hd:(a++x :: b).drop (i+1)=b:=by
  rw[← h3,List.drop_append,List.drop_eq_nil_of_le (by omega),show a.length+1-a.length=1 by omega]
  rfl
 have hs:(a++x :: b).set i y=(a++[y])++b:=by
  rw[← h3,List.set_append,if_neg (by omega),Nat.sub_self]
  simp
 rw[hd,hs,JP (by rw[List.any_append,h5];simp[hy]),List.length_append,h3]
 simp
theorem BH{k:Nat}{x:α}(hx:l[k]?=some x):(l.take (k+1)).countP p=(l.take k).countP p+if p x=true then 1 else 0:=by
 rw[List.take_add_one,hx,List.countP_append]
 simp[List.countP_cons]
end
theorem Cc{ps:List dR}{i:Nat}{n:Node}(h:n.kind=0→n=bM):gK ps i n=if n.kind≠0∧n.name=[]∧hasB ps 1 i=false then bM else n:=by
 unfold gK
 by_cases hk:n.kind=0
 ·rw[if_neg (fun hh:n.kind≠0∧_=>hh.1 hk),h hk]
  split<;>rfl
 ·simp[hk]
theorem Pre.empty{k:ag}(h:Pre k):∀n∈k.nodes,n.kind=0→n=bM:=by
 intro n hn hk
 rcases(h.node n hn).kinds with ⟨_,h1⟩|⟨h1,_⟩|⟨h1,_⟩
 ·exact h1
 ·omega
 ·omega
theorem GU(d s:List UInt8)(pos:Nat):kT d s pos=(d++List.replicate (pos-d.length) 0).take pos++s++(if pos+s.length<(d++List.replicate (pos-d.length) 0).length then(d++List.replicate (pos-d.length) 0).drop (pos+s.length) else[]):=by
 unfold kT
 congr 1
 split
 ·rename_i h
  rw[List.length_append,List.length_replicate]at h
  rw[show pos-d.length=0 by omega]
  simp
 ·rename_i h
  rw[List.length_append,List.length_replicate]at h
  exact List.drop_eq_nil_of_le (by omega)
end Cf
namespace Cf
def lF(i:Ins):Bool:=decide (i.op=8) || decide (i.op=9)
end Cf
section
theorem eqb{x y:Int}(h:x=y):(x == y)=true:=by rw[beq_iff_eq];exact h
theorem neb{x y:Int}(h:¬x=y):(x == y)=false:=by rw[beq_eq_false_iff_ne];exact h
theorem eqn{x y:Int}(h:x=y):(x != y)=false:=by simp[h]
theorem nen{x y:Int}(h:¬x=y):(x != y)=true:=by simp[h]
def Cf.trustB(l:List Cf.Ins)(k:Nat)(i:Cf.Ins):Bool:=(!Cf.lF i || decide (i.b=4)) && Cf.gp l k i
theorem Cf.okI_eq(l:List Cf.Ins)(k:Nat)(i:Cf.Ins):Cf.okI l k i=(!(Cf.dK i && decide ((l.length:Int)≤i.c)) && Cf.trustB l k i):=by
 unfold Cf.okI Cf.trustB Cf.lF
 by_cases hd:Cf.gp l k i=true
 ·rw[if_pos hd,hd]
  by_cases h1:(i.op=8∨i.op=9)∧i.b≠4∨Cf.dK i=true∧(l.length:Int)≤i.c
  ·rw[if_pos h1]
   rcases h1 with ⟨h,h'⟩|⟨h,h'⟩
   ·rcases h with h|h<;>simp[h,h']
   ·simp[h,h']
  ·rw[if_neg h1]
   simp only[_root_.not_or,Classical.not_and_iff_not_or_not]at h1
   obtain⟨h2,h3⟩:=h1
   by_cases hj:Cf.dK i=true
   ·have:¬(l.length:Int)≤i.c:=by rcases h3 with h|h;exact absurd hj h;exact h
    by_cases hb:i.b=4
    ·simp[this,hb]
    ·have hh:¬i.op=8∧¬i.op=9:=by
      rcases h2 with h|h
      ·exact h
      ·exact absurd (fun e=>hb e) h
     simp[this,hh.1,hh.2]
   ·have hj':Cf.dK i=false:=by simpa using hj
    by_cases hb:i.b=4
    ·simp[hj',hb]
    ·have hh:¬i.op=8∧¬i.op=9:=by
      rcases h2 with h|h
      ·exact h
      ·exact absurd (fun e=>hb e) h
     simp[hj',hh.1,hh.2]
 ·have hd':Cf.gp l k i=false:=by simpa using hd
  simp[hd']
def Cf.okT(l:List Cf.Ins)(t:Nat→Cf.Ins→Bool)(k:Nat):Bool:=
 match l[k]? with
 | some i=>!(Cf.dK i && decide ((l.length:Int)≤i.c)) && t k i
 | none=>true
def Cf.chkT(l:List Cf.Ins)(t:Nat→Cf.Ins→Bool):Int:=if Cf.fault l=0 then(if Cf.lastB l && (List.range l.length).all (Cf.okT l t) then 0 else 10) else Cf.fault l
theorem Cf.chkT_trust(l:List Cf.Ins):Cf.chkT l (Cf.trustB l)=Cf.jC l:=by
 unfold Cf.chkT Cf.jC
 have:Cf.okT l (Cf.trustB l)=Cf.zq l:=by
  funext k
  unfold Cf.okT Cf.zq
  cases l[k]? with
  | none=>rfl
  | some i=>exact(Cf.okI_eq l k i).symm
 rw[this]
theorem Cf.chkT_bad(l:List Cf.Ins)(t:Nat→Cf.Ins→Bool)(k:Nat)(i:Cf.Ins)(hf:Cf.fault l=0)(hi:l[k]?=some i)(ho:(!(Cf.dK i && decide ((l.length:Int)≤i.c)) && t k i)=false):Cf.chkT l t=10:=by
 unfold Cf.chkT
 rw[if_pos hf,if_neg]
 intro hb
 simp only[Bool.and_eq_true]at hb
 have hk:k<l.length:=(List.getElem?_eq_some_iff.1 hi).1
 have:=List.all_eq_true.1 hb.2 k (List.mem_range.2 hk)
 rw[Cf.okT,hi]at this
 simp only at this
 rw[ho]at this
 cases this
theorem Cf.chkT_end(l:List Cf.Ins)(t:Nat→Cf.Ins→Bool)(hf:Cf.fault l=0)(hl:Cf.lastB l=true)(h:∀j,j<l.length→Cf.okT l t j=true):Cf.chkT l t=0:=by
 unfold Cf.chkT
 rw[if_pos hf,if_pos]
 simp only[Bool.and_eq_true]
 exact⟨hl,List.all_eq_true.2 fun j hj=>h j (List.mem_range.1 hj)⟩
theorem Cf.chkT_on(l:List Cf.Ins)(t:Nat→Cf.Ins→Bool)(k:Nat)(i:Cf.Ins)(hi:l[k]?=some i)(h:∀j,j<k→Cf.okT l t j=true)(ho:(!(Cf.dK i && decide ((l.length:Int)≤i.c)) && t k i)=true):∀j,j<k+1→Cf.okT l t j=true:=by
 intro j hj
 rcases Nat.lt_succ_iff_lt_or_eq.1 hj with h1|h1
 ·exact h j h1
 ·subst h1
  rw[Cf.okT,hi]
  exact ho
end
namespace Cf
def ig(r:Rdr):Gp:=⟨256*(aC 1 r).got+(aC 1 (aC 1 r).rdr).got,(aC 1 (aC 1 r).rdr).rdr⟩
def qZ(r:Rdr):KJ:=⟨⟨(aC 1 r).got,(aC 1 (aC 1 r).rdr).got / 16,(aC 1 (aC 1 r).rdr).got % 16,(ig (aC 1 (aC 1 r).rdr).rdr).got⟩,(ig (aC 1 (aC 1 r).rdr).rdr).rdr⟩
def iW:Nat→Rdr→Ba
 | 0,r=>⟨[],r⟩
 | n+1,r=>if r.short then⟨[],r⟩ else⟨(qZ r).got :: (iW n (qZ r).rdr).got,(iW n (qZ r).rdr).rdr⟩
def fE:Nat→Rdr→Ag
 | 0,r=>⟨[],r⟩
 | n+1,r=>if r.short then⟨[],r⟩ else⟨((ig r).got:Int) :: (fE n (ig r).rdr).got,(fE n (ig r).rdr).rdr⟩
theorem tu{r:Rdr}(h:r.short=true)(n:Nat):iW n r=⟨[],r⟩:=by
 cases n with
 | zero=>rfl
 | succ n=>rw[iW,if_pos h]
theorem lM{r:Rdr}(h:r.short=true)(n:Nat):fE n r=⟨[],r⟩:=by
 cases n with
 | zero=>rfl
 | succ n=>rw[fE,if_pos h]
theorem FK{t:List UInt8}{x:Ins}{r:List UInt8}(h:jl t=some (x,r)):qZ ⟨t,false⟩=⟨x,⟨r,false⟩⟩:=by
 unfold jl at h
 split at h
 ·simp only[Option.some.injEq,Prod.mk.injEq]at h
  obtain⟨rfl,rfl⟩:=h
  simp only[qZ,ig,bT]
  simp
 ·cases h
theorem EY{t:List UInt8}(h:jl t=none):(qZ ⟨t,false⟩).rdr=stuck:=by
 unfold jl at h
 split at h
 ·cases h
 ·rename_i hn
  match t with
  | []=>simp[qZ,ig,ed,dC]
  | [a]=>simp[qZ,ig,ed,bT,dC]
  | [a,b]=>simp[qZ,ig,ed,bT,dC]
  | [a,b,c]=>simp[qZ,ig,ed,bT]
  | a :: b :: c :: d :: r=>exact absurd rfl (hn a b c d r)
theorem xw:∀(n:Nat) (t:List UInt8),(∀xs r,dG n t=some (xs,r)→iW n ⟨t,false⟩=⟨xs,⟨r,false⟩⟩)∧(dG n t=none→(iW n ⟨t,false⟩).rdr=stuck)
 | 0,t=>⟨fun xs r h=>by simp[dG]at h;obtain⟨rfl,rfl⟩:=h;rfl,fun h=>by simp[dG]at h⟩
 | n+1,t=>by
   rw[dG,iW,if_neg (by simp)]
   cases hd:jl t with
   | none=>
     refine⟨fun xs r h=>by simp at h,fun _=>?_⟩
     show(iW n (qZ ⟨t,false⟩).rdr).rdr=stuck
     rw[EY hd,tu rfl]
   | some q=>
     obtain⟨x,r⟩:=q
     obtain⟨h1,h2⟩:=xw n r
     rw[FK hd]
     simp only
     cases hc:dG n r with
     | none=>exact⟨fun xs r' h=>by simp at h,fun _=>h2 hc⟩
     | some p=>
       obtain⟨ys,r'⟩:=p
       refine⟨fun xs r'' h=>?_,fun h=>by simp at h⟩
       simp at h
       obtain⟨rfl,rfl⟩:=h
       rw[h1 _ _ hc]
theorem xZ:∀(n:Nat) (t:List UInt8),(∀xs r,di n t=some (xs,r)→fE n ⟨t,false⟩=⟨xs,⟨r,false⟩⟩)∧(di n t=none→(fE n ⟨t,false⟩).rdr=stuck)
 | 0,t=>⟨fun xs r h=>by simp[di]at h;obtain⟨rfl,rfl⟩:=h;rfl,fun h=>by simp[di]at h⟩
 | n+1,t=>by
   rw[fE,if_neg (by simp)]
   match t with
   | []=>
     refine⟨fun xs r h=>by simp[di]at h,fun _=>?_⟩
     have:(ig ⟨[],false⟩).rdr=stuck:=by simp[ig,ed,dC]
     show(fE n (ig ⟨[],false⟩).rdr).rdr=stuck
     rw[this,lM rfl]
   | [a]=>
     refine⟨fun xs r h=>by simp[di]at h,fun _=>?_⟩
     have:(ig ⟨[a],false⟩).rdr=stuck:=by simp[ig,ed,bT]
     show(fE n (ig ⟨[a],false⟩).rdr).rdr=stuck
     rw[this,lM rfl]
   | c :: d :: r=>
     obtain⟨h1,h2⟩:=xZ n r
     have hw:ig ⟨c :: d :: r,false⟩=⟨256*c.toNat+d.toNat,⟨r,false⟩⟩:=by simp[ig,bT]
     rw[hw,di]
     simp only
     cases hc:di n r with
     | none=>exact⟨fun xs r' h=>by simp at h,fun _=>h2 hc⟩
     | some p=>
       obtain⟨ys,r'⟩:=p
       refine⟨fun xs r'' h=>?_,fun h=>by simp at h⟩
       simp at h
       obtain⟨rfl,rfl⟩:=h
       rw[h1 _ _ hc]
       simp
def dU(t:List UInt8):Gp:=aC 1 ⟨t,false⟩
def dM(t:List UInt8):List UInt8:=(dU t).rdr.rest.take (dU t).got
def kR(t:List UInt8):Rdr:=⟨(dU t).rdr.rest.drop (dU t).got,(dU t).rdr.short⟩
def fH(t:List UInt8):Ba:=iW (aC 1 (kR t)).got (aC 1 (kR t)).rdr
def iH(t:List UInt8):Ag:=fE (aC 1 (fH t).rdr).got (aC 1 (fH t).rdr).rdr
def tN(t:List UInt8):Mod:=⟨dM t,(fH t).got,(iH t).got⟩
def kF(t:List UInt8):JI:=
 if (dU t).rdr.rest.length<(dU t).got then⟨bz,5⟩ else if (iH t).rdr.short then⟨bz,5⟩ else if (iH t).rdr.rest≠[] then⟨bz,4⟩ else if cZ (tN t)=0 then⟨tN t,0⟩ else⟨bz,cZ (tN t)⟩
theorem Jp(t:List UInt8):kF t=match mY t with
  | none=>⟨bz,5⟩
  | some (_,_ :: _)=>⟨bz,4⟩
  | some (m,[])=>if cZ m=0 then⟨m,0⟩ else⟨bz,cZ m⟩:=by
 have kQ:(iH t).rdr=stuck→kF t=⟨bz,5⟩:=by
  intro h
  unfold kF
  by_cases h1:(dU t).rdr.rest.length<(dU t).got
  ·rw[if_pos h1]
  ·rw[if_neg h1,if_pos (by rw[h];rfl)]
 cases t with
 | nil=>
   refine(kQ ?_).trans rfl
   have h1:dU []=⟨0,stuck⟩:=ed false
   have h2:kR []=stuck:=by unfold kR;rw[h1];rfl
   simp[iH,fH,h2,dC,iW,fE]
 | cons n r=>
   have h1:dU (n :: r)=⟨n.toNat,⟨r,false⟩⟩:=bT n r false
   simp only[mY]
   by_cases hn:r.length<n.toNat
   ·rw[if_pos hn]
    unfold kF
    rw[h1,if_pos hn]
   ·rw[if_neg hn]
    have hA:kR (n :: r)=⟨r.drop n.toNat,false⟩:=by unfold kR;rw[h1]
    have hNm:dM (n :: r)=r.take n.toNat:=by unfold dM;rw[h1]
    cases hd:r.drop n.toNat with
    | nil=>
      rw[hd]at hA
      rw[kQ]
      simp[iH,fH,hA,ed,dC,iW,fE]
    | cons k r2=>
      rw[hd]at hA
      simp only
      obtain⟨c1,c2⟩:=xw k.toNat r2
      have hC:fH (n :: r)=iW k.toNat ⟨r2,false⟩:=by
       unfold fH
       rw[hA,bT]
      cases hc:dG k.toNat r2 with
      | none=>
        rw[kQ]
        have:=c2 hc
        simp[iH,hC,this,dC,fE]
      | some p=>
        obtain⟨code,r3⟩:=p
        have hC':=hC.trans (c1 _ _ hc)
        match r3 with
        | []=>
          rw[kQ]
          simp[iH,hC',ed,fE]
        | d :: r4=>
          simp only
          obtain⟨d1,d2⟩:=xZ d.toNat r4
          have hD:iH (n :: r)=fE d.toNat ⟨r4,false⟩:=by
           unfold iH
           rw[hC',bT]
          cases hx:di d.toNat r4 with
          | none=>
            rw[kQ]
            rw[hD]
            exact d2 hx
          | some q=>
            obtain⟨data,r5⟩:=q
            have hD':=hD.trans (d1 _ _ hx)
            have hM:tN (n :: r)=⟨r.take n.toNat,code,data⟩:=by unfold tN;rw[hNm,hC',hD']
            unfold kF
            rw[h1,if_neg hn,hD',hM]
            cases r5 with
            | nil=>rfl
            | cons a b=>rfl
theorem G6(s:List UInt8):fC s=if 4000<s.length then⟨bz,1⟩ else if s.length<4 then⟨bz,5⟩ else if kG (s.drop 4)≠s.take 4 then⟨bz,11⟩ else kF (s.drop 4):=by
 unfold fC
 rw[Jp]
 all_goals
  cases mY (s.drop 4) with
  | none=>rfl
  | some p=>
    obtain⟨m,r⟩:=p
    cases r with
    | nil=>rfl
    | cons a b=>rfl
end Cf
section
theorem wrap_small(n:Int)(h0:0≤n)(h1:n<2 ^ 63):IntKind.i64.wrap n=n:=by
 have:(2:Int) ^ 63=9223372036854775808:=by decide
 rw[this]at h1
 rw[IntKind.wrap_i64]
 omega
theorem Ah(x y:Int)(hx:0≤x∧x≤65535)(hy:0≤y∧y≤65535):bits .and .i64 x y=Cf.FQ x y:=by
 obtain⟨a,rfl⟩:=Int.eq_ofNat_of_zero_le hx.1
 obtain⟨b,rfl⟩:=Int.eq_ofNat_of_zero_le hy.1
 rw[(bits_nat .i64 63 (by decide) wrap_small a b (by omega) (by omega)).1]
 simp[Cf.FQ]
theorem Ee(x y:Int)(hx:0≤x∧x≤65535)(hy:0≤y∧y≤65535):bits .or .i64 x y=Cf.orI x y:=by
 obtain⟨a,rfl⟩:=Int.eq_ofNat_of_zero_le hx.1
 obtain⟨b,rfl⟩:=Int.eq_ofNat_of_zero_le hy.1
 rw[(bits_nat .i64 63 (by decide) wrap_small a b (by omega) (by omega)).2]
 simp[Cf.orI]
theorem zD(x y:Int)(hx:0≤x∧x≤65535)(hy:0≤y∧y≤65535):bits .xor .i64 x y=Cf.EI x y:=by
 obtain⟨a,rfl⟩:=Int.eq_ofNat_of_zero_le hx.1
 obtain⟨b,rfl⟩:=Int.eq_ofNat_of_zero_le hy.1
 have ha:a<2 ^ 16:=by omega
 have hb:b<2 ^ 16:=by omega
 have hr:=Nat.xor_lt_two_pow ha hb
 have h2:IntKind.i64.bits=64:=rfl
 simp only[bits,h2,BitVec.ofInt_natCast,BitVec.toNat_xor,BitVec.toNat_ofNat]
 rw[Nat.mod_eq_of_lt (show a<2 ^ 64 by omega),Nat.mod_eq_of_lt (show b<2 ^ 64 by omega),wrap_small _ (by omega) (by omega)]
 simp[Cf.EI]
theorem Af(x:Int):bits .and .i64 x 65535=x % 65536:=by
 have h2:IntKind.i64.bits=64:=rfl
 have hm:((2 ^ 64:Nat):Int)=18446744073709551616:=by decide
 have h3:((65535:Int) % 18446744073709551616).toNat=2 ^ 16-1:=by decide
 simp only[bits,h2,BitVec.toNat_and,BitVec.toNat_ofInt,hm]
 rw[h3,Nat.and_two_pow_sub_one_eq_mod]
 have hlt:((x % 18446744073709551616).toNat % 2 ^ 16:Nat)<65536:=by omega
 rw[wrap_small _ (by omega) (by omega)]
 omega
end
end Go.Proofs.YtnnhhbjbdmgpiaaGreatDoor
