/- Texts of the proofs: CpuO, CpuQ. -/
import Derived.Test.YtnnhhbjbdmgpiaaGreatDoorJ14
import Derived.Test.YtnnhhbjbdmgpiaaGreatDoorJ13
set_option linter.unusedSimpArgs false
set_option linter.unusedVariables false
namespace Go.Proofs.YtnnhhbjbdmgpiaaGreatDoor
set_option maxRecDepth 100000
set_option maxHeartbeats 4000000
open Lib (hid)
section
open Go.RowKit
theorem Ep(l:List Cf.Ins)(hz:Cf.bD l=0)(hl:l.length≤200):∀(n:Nat) (m:Cf.aZ),Cf.MOk m→Cf.MOk (Cf.gY l n m).2:=by
 intro n
 induction n with
 | zero=>intro m hm;exact hm
 | succ n ih=>
   intro m hm
   rw[Cf.gY]
   cases hs:Cf.step l m with
   | on m'=>exact ih m' (Cf.step_ok hz hl hm hs)
   | fin r m'=>exact(step_end hl hm hs).1
end
section
theorem GK(x:Cf.Ins)(m:Cf.aZ):(Cf.exec x m).mach.mem.length=m.mem.length:=by
 unfold Cf.exec
 repeat' split
 all_goals simp[Cf.Step.mach,Cf.aZ.setR]
theorem Ip(l:List Cf.Ins)(m:Cf.aZ):(Cf.step l m).mach.mem.length=m.mem.length:=by
 unfold Cf.step
 split
 ·rfl
 ·rw[GK]
theorem Gn(l:List Cf.Ins):∀(n:Nat) (m:Cf.aZ),(Cf.gY l n m).2.mem.length=m.mem.length:=by
 intro n
 induction n with
 | zero=>intro m;rfl
 | succ n ih=>
   intro m
   have h:=Ip l m
   rw[Cf.gY]
   cases hs:Cf.step l m with
   | on m'=>rw[hs]at h;exact(ih m').trans h
   | fin r m'=>rw[hs]at h;exact h
theorem IP(l:List Cf.Ins)(r0 r1 r2 r3 r4 r5 r6 r7:Int)(mem:List Int)(fuel:Int):∃z s0 s1 s2 s3 s4 s5 s6 s7 told mem' er,Cf.runT l [r0,r1,r2,r3,r4,r5,r6,r7] mem fuel=⟨z,[s0,s1,s2,s3,s4,s5,s6,s7],told,mem',er⟩∧told.length≤100∧mem'.length≤mem.length:=by
 by_cases he:Cf.jA l [r0,r1,r2,r3,r4,r5,r6,r7] mem fuel=0
 ·obtain⟨hf,_,hfu,hrw,hmw,hT⟩:=oH l _ mem fuel he
  have hz:Cf.bD l=0:=by have:=hf;unfold Cf.fault at this;rwa [if_neg (by have:=Cf.gU l hf;omega)]at this
  have hm:Cf.MOk ⟨[r0,r1,r2,r3,r4,r5,r6,r7],mem,[],[],0⟩:=⟨rfl,hrw,hmw,by simp,by simp,by simp,by simp,by simp⟩
  have hk:=Ep l hz (Cf.gU l hf) fuel.toNat _ hm
  have hml:=Gn l fuel.toNat ⟨[r0,r1,r2,r3,r4,r5,r6,r7],mem,[],[],0⟩
  rw[hT]
  have h8:=hk.regs
  have ht:=hk.told
  match hr:(Cf.gY l fuel.toNat ⟨[r0,r1,r2,r3,r4,r5,r6,r7],mem,[],[],0⟩).2.regs,h8 with
  | [s0,s1,s2,s3,s4,s5,s6,s7],_=>exact⟨_,s0,s1,s2,s3,s4,s5,s6,s7,_,_,_,rfl,ht,by rw[hml];exact Nat.le_refl _⟩
 ·rw[rD l _ mem fuel he]
  exact⟨_,_,_,_,_,_,_,_,_,_,_,_,rfl,by simp,by simp⟩
end
end Go.Proofs.YtnnhhbjbdmgpiaaGreatDoor
