/- Texts of the proofs: CpuM. -/
import Derived.Test.YtnnhhbjbdmgpiaaGreatDoorJ15
set_option linter.unusedSimpArgs false
set_option linter.unusedVariables false
namespace Go.Proofs.YtnnhhbjbdmgpiaaGreatDoor
set_option maxRecDepth 100000
set_option maxHeartbeats 4000000
open Lib (hid)
section
open Go.RowKit
theorem qP{w W:World}{er:Int}(h:Below w.heap.size w W):nP (Cf.sV er) w (.returned (.tuple #[.agg #[.int .i64 0,.int .i64 0,.int .i64 0,.int .i64 0,.int .i64 0,.int .i64 0,.int .i64 0,.int .i64 0,.int .i64 0,.slice none 0 0,.slice none 0 0],.int .i64 er])) (((((((((((W.setCell ⟨w.heap.size+1,0,none⟩ (.int .i64 0)).setCell ⟨w.heap.size+1,1,none⟩ (.int .i64 0)).setCell ⟨w.heap.size+1,2,none⟩ (.int .i64 0)).setCell ⟨w.heap.size+1,3,none⟩ (.int .i64 0)).setCell ⟨w.heap.size+1,4,none⟩ (.int .i64 0)).setCell ⟨w.heap.size+1,5,none⟩ (.int .i64 0)).setCell ⟨w.heap.size+1,6,none⟩ (.int .i64 0)).setCell ⟨w.heap.size+1,7,none⟩ (.int .i64 0)).setCell ⟨w.heap.size+1,8,none⟩ (.int .i64 0)).setCell ⟨w.heap.size+1,9,none⟩ (.slice none 0 0)).setCell ⟨w.heap.size+1,10,none⟩ (.slice none 0 0)):=by
 refine⟨none,none,0,0,rfl,.inl rfl,.inl rfl,?_,Nat.le_refl _,.inl rfl,⟨rfl,.inl ⟨rfl,rfl⟩⟩⟩
 iterate 11 refine Below.setCell ?_ (by simp) _
 exact h
set_option maxHeartbeats 40000000 in
theorem FD(l:List Cf.Ins)(A:Option Addr)(cl:Nat)(r0 r1 r2 r3 r4 r5 r6 r7:Int)(mem:List Int)(M:Option Addr)(cm:Nat)(fuel:Int)(w:World)
  (hC:bP w A l) (hl:l.length≤maxLen) (hI:Ints w M mem) (hm:mem.length≤maxLen):
  Calls Tryz.prog 151 #[.slice A l.length cl,.agg #[.int .i64 r0,.int .i64 r1,.int .i64 r2,.int .i64 r3,.int .i64 r4,.int .i64 r5,.int .i64 r6,.int .i64 r7],.slice M mem.length cm,.int .i64 fuel] w
   (nP (Cf.runT l [r0,r1,r2,r3,r4,r5,r6,r7] mem fuel) w):=by
 by_cases hg:Cf.fault l=0∧¬1024<mem.length∧Cf.inB fuel 0 20000=true∧[r0,r1,r2,r3,r4,r5,r6,r7].all Cf.aV=true∧mem.all Cf.aV=true
 ·obtain⟨hf,hml,hIn,hr,hma⟩:=hg
  exact Dy l A cl r0 r1 r2 r3 r4 r5 r6 r7 mem M cm fuel w hC hl hI hm hf hml hIn hr hma
 have Hg:=hid hg
 have HB:=hid (fun e (h:Cf.jA l [r0,r1,r2,r3,r4,r5,r6,r7] mem fuel=e) (h':e≠0)=>(by rw[← h];exact rD l [r0,r1,r2,r3,r4,r5,r6,r7] mem fuel (by rw[h];exact h'):Cf.runT l [r0,r1,r2,r3,r4,r5,r6,r7] mem fuel=Cf.sV e))
 have hm':=hm
 unfold maxLen at hm'
 obtain⟨w2,hw2⟩:∃w2:World,w2=(w.alloc (.cells #[.int .i64 r0,.int .i64 r1,.int .i64 r2,.int .i64 r3,.int .i64 r4,.int .i64 r5,.int .i64 r6,.int .i64 r7] 171)).alloc (.cells #[.int .i64 0,.int .i64 0,.int .i64 0,.int .i64 0,.int .i64 0,.int .i64 0,.int .i64 0,.int .i64 0,.int .i64 0,.slice none 0 0,.slice none 0 0] 175):=⟨_,rfl⟩
 have hz2:w2.heap.size=w.heap.size+2:=by rw[hw2];simp
 have hb2:Below w.heap.size w w2:=by rw[hw2];exact((Below.refl _ _).alloc (Nat.le_refl _) _).alloc (by simp) _
 have k5:Wb w2 w.heap.size 171 [.int .i64 r0,.int .i64 r1,.int .i64 r2,.int .i64 r3,.int .i64 r4,.int .i64 r5,.int .i64 r6,.int .i64 r7]:=by rw[hw2];exact(Wb.new w _ [_,_,_,_,_,_,_,_]).alloc _
 have k8:Wb w2 (w.heap.size+1) 175 [.int .i64 0,.int .i64 0,.int .i64 0,.int .i64 0,.int .i64 0,.int .i64 0,.int .i64 0,.int .i64 0,.int .i64 0,.slice none 0 0,.slice none 0 0]:=by
  rw[hw2]
  have:=Wb.new (w.alloc (.cells #[.int .i64 r0,.int .i64 r1,.int .i64 r2,.int .i64 r3,.int .i64 r4,.int .i64 r5,.int .i64 r6,.int .i64 r7] 171)) 175 [.int .i64 0,.int .i64 0,.int .i64 0,.int .i64 0,.int .i64 0,.int .i64 0,.int .i64 0,.int .i64 0,.int .i64 0,.slice none 0 0,.slice none 0 0]
  simpa using this
 have Hw2:=hid hw2
 have Hz2:=hid hz2
 have HCk:=hid (lS l A cl w2 (hC.below hb2) hl)
 clear hw2 hz2 hg
 go_enter Tryz.func151,Tryz.ntmps151
 go_wp2_with fail
 rw[← Hw2.out]
 refine HCk.out.mono ?_
 rintro e w3 ⟨rfl,hb3⟩
 have Hb4:=hid (hb2.trans (hb3.mono hb2.size))
 have hz3:w.heap.size+2≤w3.heap.size:=by have:=hb3.size;rw[Hz2.out]at this;exact this
 obtain⟨q0,q1,q2,q3,q4,q5,q6,q7,q8,q9,q10,qf⟩:=jF (k8.below hb3 (by rw[Hz2.out];omega))
 have HA8:=hid (iP [r0,r1,r2,r3,r4,r5,r6,r7] (some ⟨w.heap.size,0,none⟩) 8 w3 (Wb.ints (l:=[r0,r1,r2,r3,r4,r5,r6,r7]) (k5.below hb3 (by rw[Hz2.out];omega))) (by unfold maxLen;simp))
 have HAm:=hid (iP mem M cm w3 (hI.below Hb4.out) hm)
 clear k5 k8 hb3 hb2 HCk hI hC hl
 by_cases hf:Cf.fault l=0
 ·have Hf:=hid hf
  rw[hf]
  clear hf
  by_cases hml:1024<mem.length
  ·go_wp2
   refine bodyPost_ret (v:=.tuple #[.agg #[.int .i64 0,.int .i64 0,.int .i64 0,.int .i64 0,.int .i64 0,.int .i64 0,.int .i64 0,.int .i64 0,.int .i64 0,.slice none 0 0,.slice none 0 0],.int .i64 1]) (by simp[results,Tryz.results151,go_sem,q0,q1,q2,q3,q4,q5,q6,q7,q8,q9,q10]) rfl ?_
   rw[HB.out 1 (by unfold Cf.jA;rw[if_pos Hf.out,if_neg (by omega)]) (by decide)]
   exact qP Hb4.out
  ·go_wp2_with fail
   refine(dY fuel 0 20000 _).mono ?_
   rintro e w' ⟨rfl,rfl⟩
   cases hIn:Cf.inB fuel 0 20000
   ·have HIn:=hid hIn
    clear hIn
    go_wp2
    refine bodyPost_ret (v:=.tuple #[.agg #[.int .i64 0,.int .i64 0,.int .i64 0,.int .i64 0,.int .i64 0,.int .i64 0,.int .i64 0,.int .i64 0,.int .i64 0,.slice none 0 0,.slice none 0 0],.int .i64 2]) (by simp[results,Tryz.results151,go_sem,q0,q1,q2,q3,q4,q5,q6,q7,q8,q9,q10]) rfl ?_
    rw[HB.out 2 (by unfold Cf.jA;rw[if_pos Hf.out,if_pos (by omega),HIn.out];simp) (by decide)]
    exact qP Hb4.out
   ·have HIn:=hid hIn
    clear hIn
    go_wp2_with fail
    refine HA8.out.mono ?_
    rintro e w' ⟨rfl,rfl⟩
    cases hr:[r0,r1,r2,r3,r4,r5,r6,r7].all Cf.aV
    ·have Hr:=hid hr
     clear hr
     go_wp2
     refine bodyPost_ret (v:=.tuple #[.agg #[.int .i64 0,.int .i64 0,.int .i64 0,.int .i64 0,.int .i64 0,.int .i64 0,.int .i64 0,.int .i64 0,.int .i64 0,.slice none 0 0,.slice none 0 0],.int .i64 2]) (by simp[results,Tryz.results151,go_sem,q0,q1,q2,q3,q4,q5,q6,q7,q8,q9,q10]) rfl ?_
     rw[HB.out 2 (by unfold Cf.jA;rw[if_pos Hf.out,if_pos (by omega),HIn.out,Hr.out];simp) (by decide)]
     exact qP Hb4.out
    ·have Hr:=hid hr
     clear hr
     go_wp2_with fail
     refine HAm.out.mono ?_
     rintro e w' ⟨rfl,rfl⟩
     cases hma:mem.all Cf.aV
     ·have Hma:=hid hma
      clear hma
      go_wp2
      refine bodyPost_ret (v:=.tuple #[.agg #[.int .i64 0,.int .i64 0,.int .i64 0,.int .i64 0,.int .i64 0,.int .i64 0,.int .i64 0,.int .i64 0,.int .i64 0,.slice none 0 0,.slice none 0 0],.int .i64 2]) (by simp[results,Tryz.results151,go_sem,q0,q1,q2,q3,q4,q5,q6,q7,q8,q9,q10]) rfl ?_
      rw[HB.out 2 (by unfold Cf.jA;rw[if_pos Hf.out,if_pos (by omega),HIn.out,Hr.out,Hma.out];simp) (by decide)]
      exact qP Hb4.out
     ·exact absurd ⟨Hf.out,hml,HIn.out,Hr.out,hma⟩ Hg.out
 ·have hq:(Cf.fault l == 0)=false:=by rw[beq_eq_false_iff_ne];exact hf
  have hq':(Cf.fault l != 0)=true:=by rw[bne_iff_ne];exact hf
  have HB:=hid (HB.out _ (by unfold Cf.jA;rw[if_neg hf]) hf)
  generalize Cf.fault l=er at *
  go_wp2
  refine bodyPost_ret (v:=.tuple #[.agg #[.int .i64 0,.int .i64 0,.int .i64 0,.int .i64 0,.int .i64 0,.int .i64 0,.int .i64 0,.int .i64 0,.int .i64 0,.slice none 0 0,.slice none 0 0],.int .i64 er]) (by simp[results,Tryz.results151,go_sem,q0,q1,q2,q3,q4,q5,q6,q7,q8,q9,q10]) rfl ?_
  rw[HB.out]
  exact qP Hb4.out
end
end Go.Proofs.YtnnhhbjbdmgpiaaGreatDoor
