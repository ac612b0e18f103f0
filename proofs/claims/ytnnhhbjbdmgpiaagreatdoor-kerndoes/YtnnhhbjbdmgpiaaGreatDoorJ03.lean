/- Texts of the proofs: NameW. -/
import Derived.Lib.DecodeN
import Derived.Test.YtnnhhbjbdmgpiaaGreatDoorJ01
set_option linter.unusedSimpArgs false
set_option linter.unusedVariables false
namespace Go.Proofs.YtnnhhbjbdmgpiaaGreatDoor
set_option maxRecDepth 100000
set_option maxHeartbeats 4000000
open Lib (hid)
namespace Cf
theorem BC(s:List UInt8)(k:Nat)(c:UInt8)(h:s[k]?=some c):(⟨s.toArray⟩:ByteArray).get! k=c:=by
 simp[ByteArray.get!,h]
theorem JC(s:List UInt8)(k:Nat)(c:UInt8)(h:s[k]?=some c)(hc:bW c=true):Utf8.decode ⟨s.toArray⟩ k=(c.toNat,1):=by
 simp only[bW,inB,Bool.and_eq_true,decide_eq_true_eq]at hc
 rw[Lib.decode_at,BC s k c h]
 unfold Lib.decodeN
 rw[if_pos (by omega)]
theorem KU(s:List UInt8)(k:Nat)(c:UInt8)(h:s[k]?=some c)(hc:bW c=false):inB ((Utf8.decode ⟨s.toArray⟩ k).1:Nat) 97 122=false:=by
 have hc':¬(97≤c.toNat∧c.toNat≤122):=by
  intro ⟨h1,h2⟩
  have:bW c=true:=by
   simp only[bW,inB,Bool.and_eq_true,decide_eq_true_eq]
   omega
  rw[this]at hc
  cases hc
 rw[Lib.decode_at,BC s k c h]
 have hlt:=c.toNat_lt
 generalize c.toNat=b0 at *
 generalize (ByteArray.get! _ (k+1)).toNat=b1
 generalize (ByteArray.get! _ (k+2)).toNat=b2
 generalize (ByteArray.get! _ (k+3)).toNat=b3
 have:∀r:Nat,¬(97≤r∧r≤122)→inB (r:Int) 97 122=false:=by
  intro r hr
  simp only[inB,Bool.and_eq_false_iff,decide_eq_false_iff_not]
  omega
 apply this
 unfold Lib.decodeN
 repeat' split
 all_goals (dsimp only;omega)
theorem wL(s:List UInt8)(k:Nat)(c:UInt8)(hc:s[k]?=some c)(h:(s.take k).all bW=true)(hl:bW c=true):(s.take (k+1)).all bW=true:=by
 rw[List.take_add_one,hc,List.all_append,h];simp[hl]
theorem wu(s:List UInt8)(k:Nat)(c:UInt8)(hc:s[k]?=some c)(hl:bW c=false):s.all bW=false:=by
 rw[List.all_eq_false]
 exact⟨c,List.mem_of_getElem? hc,by simp[hl]⟩
end Cf
section
open Go.RowKit
theorem qx(r:Int)(w:World):
  Calls Tryz.prog 132 #[.int .i32 r] w fun e w'=>e = .returned (.bool (!Cf.inB r 97 122))∧w=w':=by
 by_cases h1:r<97
 ·go_enter Tryz.func132,Tryz.ntmps132
  go_wp2
  go_ret
  exact⟨by simp[Cf.inB,h1],rfl⟩
 ·by_cases h2:122<r
  ·go_enter Tryz.func132,Tryz.ntmps132
   go_wp2
   go_ret
   exact⟨by simp[Cf.inB,h2],rfl⟩
  ·go_enter Tryz.func132,Tryz.ntmps132
   go_wp2
   go_ret
   exact⟨by simp[Cf.inB,h1,h2],rfl⟩
def zV(s:List UInt8)(w:World)(e:Ending)(w':World):Prop:=∃z:Int,e = .returned (.int .i64 z)∧decide (0≤z) = !s.all Cf.bW∧Below w.heap.size w w'
theorem uu(s:List UInt8)(w:World):
  Calls Tryz.prog 167 #[.string ⟨s.toArray⟩,.func (.func 132) #[] #[],.bool true] w (zV s w):=by
 have HSZ:=hid (show(⟨s.toArray⟩:ByteArray).size=s.length by simp[ByteArray.size])
 go_enter Tryz.func167,Tryz.ntmps167
 go_wp2
 go_loopg [] s.length (fun gf wx=>∃k:Nat,k≤s.length∧s.length≤k+gf∧wx.heap[w.heap.size]?=some (.stringIter ⟨s.toArray⟩ k)∧Below w.heap.size w wx∧(s.take k).all Cf.bW=true)
 case atStart=>exact⟨0,by omega,by omega,World.iter_heap w _ 0,(Below.refl _ w).alloc (Nat.le_refl _) _,rfl⟩
 case round=>
  obtain⟨k,hk,hg,hit,hbw,hall⟩:=hrel
  have aX:=hid hall
  clear hall
  by_cases hlt:k<s.length
  ·obtain⟨g',rfl⟩:∃g',gk=g'+1:=⟨gk-1,by omega⟩
   obtain⟨c,hc⟩:∃c,s[k]?=some c:=⟨_,List.getElem?_eq_getElem hlt⟩
   have hnx:∀ty,(Instr.next (.pointer (some ⟨w.heap.size,0,none⟩)) true ty).run Tryz.prog wr=_:=fun ty=>Lib.run_next_any_at wr w.heap.size ⟨s.toArray⟩ k ty hit (by rw[HSZ.out];exact hlt)
   cases hl:Cf.bW c
   ·have HB:=hid (Cf.wu s k c hc hl)
    have hno:=Cf.KU s k c hc hl
    obtain⟨R,hR⟩:∃R,(Utf8.decode ⟨s.toArray⟩ k).1=R:=⟨_,rfl⟩
    obtain⟨K,hK⟩:∃K,(Utf8.decode ⟨s.toArray⟩ k).2=K:=⟨_,rfl⟩
    rw[hR]at hno
    rw[hR,hK]at hnx
    have hbw2:=Lib.below_iterAt hbw (k:=w.heap.size) (Nat.le_refl _) ⟨s.toArray⟩ (k+K)
    clear hR hK hc hl hit
    go_wp2_with fail
    refine(qx _ _).mono ?_
    rintro e w1 ⟨rfl,rfl⟩
    rw[hno]
    go_wp2
    go_ret
    exact⟨k,rfl,by rw[HB.out];simp,hbw2⟩
   ·have HA:=hid (Cf.wL s k c hc aX.out hl)
    rw[Cf.JC s k c hc hl]at hnx
    have hit2:=Lib.iterAt_heap wr w.heap.size ⟨s.toArray⟩ k (k+1) hit
    have hbw2:=Lib.below_iterAt hbw (k:=w.heap.size) (Nat.le_refl _) ⟨s.toArray⟩ (k+1)
    have hin:Cf.inB (c.toNat:Int) 97 122=true:=hl
    clear hc hl hit
    go_wp2_with fail
    refine(qx _ _).mono ?_
    rintro e w1 ⟨rfl,rfl⟩
    rw[hin]
    go_wp2
    go_roundg g'
    case measure=>omega
    case rel=>exact⟨k+1,by omega,by omega,hit2,hbw2,HA.out⟩
  ·have hnx:∀ty,(Instr.next (.pointer (some ⟨w.heap.size,0,none⟩)) true ty).run Tryz.prog wr=_:=fun ty=>Lib.run_next_end_at wr w.heap.size ⟨s.toArray⟩ k ty hit (by rw[HSZ.out];exact hlt)
   have HA:=hid (show s.all Cf.bW=true by have:=aX.out;rwa [List.take_of_length_le (by omega)]at this)
   go_wp2
   go_ret
   exact⟨-1,rfl,by rw[HA.out];rfl,hbw⟩
theorem Dn(s:List UInt8)(w:World):
  Calls Tryz.prog 158 #[.string ⟨s.toArray⟩,.func (.func 132) #[] #[]] w (zV s w):=by
 go_enter Tryz.func158,Tryz.ntmps158
 go_wp2_with fail
 refine(uu s _).mono ?_
 rintro e w1 ⟨z,rfl,hz,hb⟩
 have HZ:=hid hz
 clear hz
 go_wp2
 go_ret
 exact⟨z,rfl,HZ.out,hb⟩
theorem wJ(s:List UInt8)(w:World):
  Calls Tryz.prog 133 #[.string ⟨s.toArray⟩,.func (.func 132) #[] #[]] w fun e w'=>e = .returned (.bool (!s.all Cf.bW))∧Below w.heap.size w w':=by
 go_enter Tryz.func133,Tryz.ntmps133
 go_wp2_with fail
 refine(Dn s _).mono ?_
 rintro e w1 ⟨z,rfl,hz,hb⟩
 have HZ:=hid hz
 clear hz
 go_wp2
 go_ret
 exact⟨by rw[← HZ.out];rfl,hb⟩
theorem vS(s:List UInt8):Cf.nameB s=(s.all Cf.bW && decide (1≤s.length∧s.length≤6)):=by
 simp only[Cf.nameB,Cf.inB]
 congr 1
 rw[Bool.eq_iff_iff]
 simp only[Bool.and_eq_true,decide_eq_true_eq]
 omega
theorem oG(s:List UInt8)(hs:s.length≤maxLen)(w:World):
  Calls Tryz.prog 107 #[.string ⟨s.toArray⟩] w fun e w'=>e = .returned (.bool (Cf.nameB s))∧Below w.heap.size w w':=by
 have hmf:∀(fn:Fn) (first cap:Array Value) (w:World),(Instr.makeFunc fn first cap).run Tryz.prog w = .ok (.func fn first cap) w:=fun _ _ _ _=>rfl
 have HN:=hid (vS s)
 have HC:=hid (fun w=>wJ s w)
 unfold maxLen at hs
 have hsz:(⟨s.toArray⟩:ByteArray).size=s.length:=by simp[ByteArray.size]
 by_cases h0:s=[]
 ·subst h0
  clear hsz
  go_enter Tryz.func107,Tryz.ntmps107
  go_wp2
  go_ret
  exact⟨rfl,Below.refl _ _⟩
 ·have hpos:=List.length_pos_iff.2 h0
  by_cases h6:s.length≤6
  ·have HS:=hid (show Cf.nameB s=s.all Cf.bW by rw[HN.out,decide_eq_true (by omega:1≤s.length∧s.length≤6),Bool.and_true])
   go_enter Tryz.func107,Tryz.ntmps107
   go_wp2_with fail
   refine(HC.out _).mono ?_
   rintro e w1 ⟨rfl,hb⟩
   go_wp2
   go_ret
   exact⟨by rw[HS.out];simp[h0],hb⟩
  ·have HS:=hid (show Cf.nameB s=false by rw[HN.out,decide_eq_false (by omega),Bool.and_false])
   go_enter Tryz.func107,Tryz.ntmps107
   go_wp2
   go_ret
   exact⟨by rw[HS.out];rfl,Below.refl _ _⟩
end
end Go.Proofs.YtnnhhbjbdmgpiaaGreatDoor
