/- Texts of the proofs: ModW. -/
import Derived.Test.YtnnhhbjbdmgpiaaGreatDoorJ03
import Derived.Test.YtnnhhbjbdmgpiaaGreatDoorJ17
set_option linter.unusedSimpArgs false
set_option linter.unusedVariables false
namespace Go.Proofs.YtnnhhbjbdmgpiaaGreatDoor
set_option maxRecDepth 100000
set_option maxHeartbeats 4000000
open Lib (hid)
section
open Go.RowKit
theorem rF(n:List UInt8)(l:List Cf.Ins)(d:List Int)(A B:Option Addr)(ca cb:Nat)(w:World)(hC:bP w A l)(hD:Ints w B d)(hL:jW w)(hF:kL w)(hn:n.length≤maxLen)(hl:l.length≤maxLen)(hd:d.length≤maxLen):
  Calls Tryz.prog 84 #[.agg #[.string ⟨n.toArray⟩,.slice A l.length ca,.slice B d.length cb]] w fun e w'=>e = .returned (.int .i64 (Cf.cZ ⟨n,l,d⟩))∧Below w.heap.size w w':=by
 have hmf:∀(fn:Fn) (first cap:Array Value) (w:World),(Instr.makeFunc fn first cap).run Tryz.prog w = .ok (.func fn first cap) w:=fun _ _ _ _=>rfl
 have hb0:Below w.heap.size w (w.alloc (.cells #[.string ⟨n.toArray⟩,.slice A l.length ca,.slice B d.length cb] 79)):=(Below.refl _ _).alloc (Nat.le_refl _) _
 have hbox:Wb (w.alloc (.cells #[.string ⟨n.toArray⟩,.slice A l.length ca,.slice B d.length cb] 79)) w.heap.size 79 [.string ⟨n.toArray⟩,.slice A l.length ca,.slice B d.length cb]:=Wb.new w 79 [.string ⟨n.toArray⟩,.slice A l.length ca,.slice B d.length cb]
 have HN:=hid (oG n hn (w.alloc (.cells #[.string ⟨n.toArray⟩,.slice A l.length ca,.slice B d.length cb] 79)))
 have HC:=hid hC
 have HD:=hid hD
 have HL:=hid hL
 have HF:=hid hF
 have HMl:=hid hl
 have HMd:=hid hd
 have HB0:=hid hb0
 have Nh:=hid hbox
 unfold maxLen at hd
 clear hC hD hL hF hl hbox hb0
 go_enter Tryz.func84,Tryz.ntmps84
 go_wp2_with fail
 refine HN.out.mono ?_
 rintro e w1 ⟨rfl,hb1⟩
 have aO:=HB0.out.trans (hb1.mono (by simp))
 have KG:=Nh.out.below hb1 (by simp)
 clear HN hb1 Nh HB0
 cases hnb:Cf.nameB n
 ·have HS:=hid (show Cf.cZ ⟨n,l,d⟩=4 by unfold Cf.cZ;rw[if_neg (by simp[hnb])])
  clear hnb
  go_wp2
  go_ret
  exact⟨by rw[HS.out];rfl,aO⟩
 ·have p1:=KG.cell 1
  have p2:=KG.cell 2
  simp only[gq]at p1 p2
  by_cases h64:d.length≤64
  ·have HCF:=hid (qy d B cb w1 (HD.out.below aO) HMd.out)
   cases hw:d.all Cf.aV
   ·have HS:=hid (show Cf.cZ ⟨n,l,d⟩=2 by unfold Cf.cZ;rw[if_pos hnb,if_pos h64,if_neg (by simp[hw])])
    rw[hw]at HCF
    clear hnb hw
    go_wp2_with fail
    refine HCF.out.mono ?_
    rintro e w2 ⟨rfl,rfl⟩
    go_wp2
    go_ret
    exact⟨by rw[HS.out];rfl,aO⟩
   ·have HS:=hid (show Cf.cZ ⟨n,l,d⟩=Cf.jC l by unfold Cf.cZ;rw[if_pos hnb,if_pos h64,if_pos hw])
    rw[hw]at HCF
    have HV:=hid (Dw l A ca w1 (HC.out.below aO) (HL.out.below aO) (HF.out.below aO) HMl.out)
    clear hnb hw
    go_wp2_with fail
    refine HCF.out.mono ?_
    rintro e w2 ⟨rfl,rfl⟩
    go_wp2_with fail
    refine HV.out.mono ?_
    rintro e w3 ⟨rfl,hb3⟩
    have hbw3:=aO.trans (hb3.mono aO.size)
    go_wp2
    go_ret
    exact⟨by rw[HS.out];rfl,hbw3⟩
  ·have HS:=hid (show Cf.cZ ⟨n,l,d⟩=1 by unfold Cf.cZ;rw[if_pos hnb,if_neg h64])
   clear hnb
   go_wp2
   go_ret
   exact⟨by rw[HS.out];rfl,aO⟩
end
end Go.Proofs.YtnnhhbjbdmgpiaaGreatDoor
