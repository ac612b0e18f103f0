/- Texts of the proofs: PickC. -/
import Derived.Test.YtnnhhbjbdmgpiaaGreatDoorJ11
set_option linter.unusedSimpArgs false
set_option linter.unusedVariables false
namespace Go.Proofs.YtnnhhbjbdmgpiaaGreatDoor
set_option maxRecDepth 100000
set_option maxHeartbeats 4000000
open Lib (hid)
section
open Go.RowKit
def Cf.pick(n m:Int):Int:=(if n<0 then -(n+1) else n).tmod m
end
end Go.Proofs.YtnnhhbjbdmgpiaaGreatDoor
