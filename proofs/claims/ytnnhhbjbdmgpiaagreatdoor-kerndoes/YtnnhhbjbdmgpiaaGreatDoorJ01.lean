/- Texts of the proofs: RdK, QuietK, CodeW, InR, CodeV, OwnK, FreshK, CodeR, SafeW, FreeK, StepK, StrK, NameR, SafeR. -/
import Derived.WalkSpells
import Derived.WalkLawsBesides
import Derived.Deep.RegionHeld3
import Derived.BigQuiet
import Derived.Test.YtnnhhbjbdmgpiaaGreatDoorRows
import Derived.Test.YtnnhhbjbdmgpiaaGreatDoorJ00
import Derived.Deep.RegionLaw
import Derived.Lib.Strings
import Derived.Deep.CutRange
set_option linter.unusedSimpArgs false
set_option linter.unusedVariables false
namespace Go.Proofs.YtnnhhbjbdmgpiaaGreatDoor
set_option maxRecDepth 100000
set_option maxHeartbeats 4000000
open Lib (hid)
section
open Go.RowKit
def Tab(g:Nat)(vs:List Value)(w:World):Prop:=g<w.heap.size∧∀(j:Nat) (v:Value),vs[j]?=some v→w.cell? ⟨g,j,none⟩=some v
theorem Tab.below{g:Nat}{vs:List Value}{w w':World}(h:Tab g vs w)(hb:Below w.heap.size w w'):Tab g vs w':=
 ⟨Nat.lt_of_lt_of_le h.1 hb.size,fun j v hv=>(hb.cell (p:=⟨g,j,none⟩) h.1).trans (h.2 j v hv)⟩
def RdS{α:Type}(sz:Nat)(enc:α→List Value)(w:World)(A:Option Addr)(l:List α):Prop:=
 l=[]∨∃b off,A=some ⟨b,off,none⟩∧b<w.heap.size∧∀(k:Nat) (x:α),l[k]?=some x→∀(j:Nat) (v:Value),(enc x)[j]?=some v→w.cell? ⟨b,off+k*sz+j,none⟩=some v
theorem RdS.below{α:Type}{sz:Nat}{enc:α→List Value}{w w':World}{A:Option Addr}{l:List α}(h:RdS sz enc w A l)(hb:Below w.heap.size w w'):RdS sz enc w' A l:=by
 rcases h with h|⟨b,off,hA,hlt,hc⟩
 ·exact .inl h
 ·exact .inr ⟨b,off,hA,Nat.lt_of_lt_of_le hlt hb.size,fun k x hx j v hv=>(hb.cell (p:=⟨b,off+k*sz+j,none⟩) hlt).trans (hc k x hx j v hv)⟩
def encI(x:Cf.Ins):List Value:=[.int .i64 x.op,.int .i64 x.a,.int .i64 x.b,.int .i64 x.c]
def bP(w:World)(A:Option Addr)(l:List Cf.Ins):Prop:=RdS 4 encI w A l
theorem bP.below{w w':World}{A:Option Addr}{l:List Cf.Ins}(h:bP w A l)(hb:Below w.heap.size w w'):bP w' A l:=RdS.below h hb
end
section
open Go.RowKit
theorem dJ{P:Program}{f:FuncId}{args:Array Value}{w:World}{n:Nat}{v:Value}(h:Calls P f args (w.drewN n) fun e w'=>e = .returned v∧w.drewN n=w'):Calls P f args (w.drewN n) fun e w'=>e = .returned v∧∃m,w'=w.drewN m:=
 h.mono fun _ _ ⟨h1,h2⟩=>⟨h1,n,h2.symm⟩
end
section
open Go.RowKit
def jW(w:World):Prop:=Tab 1 (Cf.sS.map (Value.int .i64)) w
def kL(w:World):Prop:=Tab 0 (Cf.lH.flatten.map (Value.int .i64)) w
theorem jW.below{w w':World}(h:jW w)(hb:Below w.heap.size w w'):jW w':=Tab.below h hb
theorem kL.below{w w':World}(h:kL w)(hb:Below w.heap.size w w'):kL w':=Tab.below h hb
theorem jW.at_{w:World}(h:jW w)(j:Nat)(hj:j<4):w.cell? ⟨1,j,none⟩=some (.int .i64 (Cf.lar j)):=by
 refine h.2 j _ ?_
 have:j=0∨j=1∨j=2∨j=3:=by omega
 rcases this with rfl|rfl|rfl|rfl<;>rfl
theorem kL.at_{w:World}(h:kL w)(p i:Nat)(hp:p<16)(hi:i<3):w.cell? ⟨0,p*3+i,none⟩=some (.int .i64 (Cf.fmt p i)):=by
 refine h.2 _ _ ?_
 have:p=0∨p=1∨p=2∨p=3∨p=4∨p=5∨p=6∨p=7∨p=8∨p=9∨p=10∨p=11∨p=12∨p=13∨p=14∨p=15:=by omega
 have hi':i=0∨i=1∨i=2:=by omega
 rcases this with rfl|rfl|rfl|rfl|rfl|rfl|rfl|rfl|rfl|rfl|rfl|rfl|rfl|rfl|rfl|rfl<;>rcases hi' with rfl|rfl|rfl<;>rfl
theorem eP(p i:Nat):0≤Cf.fmt p i∧Cf.fmt p i<4:=by
 by_cases hp:p<16
 ·by_cases hi:i<3
  ·have:p=0∨p=1∨p=2∨p=3∨p=4∨p=5∨p=6∨p=7∨p=8∨p=9∨p=10∨p=11∨p=12∨p=13∨p=14∨p=15:=by omega
   have hi':i=0∨i=1∨i=2:=by omega
   rcases this with rfl|rfl|rfl|rfl|rfl|rfl|rfl|rfl|rfl|rfl|rfl|rfl|rfl|rfl|rfl|rfl<;>rcases hi' with rfl|rfl|rfl<;>decide
  ·have:∀l∈Cf.lH,l.length=3:=by decide
   have h0:Cf.fmt p i=0:=by
    unfold Cf.fmt
    have hl:p<Cf.lH.length:=hp
    rw[List.getD_eq_getElem?_getD (l:=Cf.lH),List.getElem?_eq_getElem hl,Option.getD_some,List.getD_eq_getElem?_getD,List.getElem?_eq_none (by rw[this _ (List.getElem_mem hl)];omega)]
    rfl
   omega
 ·have h0:Cf.fmt p i=0:=by
   unfold Cf.fmt
   rw[List.getD_eq_getElem?_getD (l:=Cf.lH),List.getElem?_eq_none (by show 16≤p;omega)]
   rfl
  omega
theorem fits_any(k v:Int)(w:World)(hk:0≤k)(hk':k<4)(ht:jW w):
  Calls Tryz.prog 166 #[.int .i64 k,.int .i64 v] w fun e w'=>e = .returned (.bool (Cf.uZ k v))∧w=w':=by
 obtain⟨j,rfl⟩:=Int.eq_ofNat_of_zero_le hk
 have hc:=ht.at_ j (by omega)
 clear ht
 by_cases h1:0≤v<;>by_cases h2:v≤Cf.lar j
 all_goals
  go_enter Tryz.func166,Tryz.ntmps166
  go_wp2
  go_ret
  exact⟨by simp[Cf.uZ,h1,h2],rfl⟩
theorem DD(op a b c:Int)(w:World):
  Calls Tryz.prog 165 #[.agg #[.int .i64 op,.int .i64 a,.int .i64 b,.int .i64 c]] w fun e w'=>e = .returned (.agg #[.int .i64 a,.int .i64 b,.int .i64 c])∧Below w.heap.size w w':=by
 go_enter Tryz.func165,Tryz.ntmps165
 go_wp2
 exact bodyPost_ret (v:=.agg #[.int .i64 a,.int .i64 b,.int .i64 c]) (by simp[results,Tryz.results165,go_sem]) rfl ⟨rfl,((Below.refl _ _).alloc (by simp) _).alloc (by simp) _⟩
theorem Ef(op a b c:Int)(w:World)(hL:jW w)(hF:kL w):
  Calls Tryz.prog 154 #[.agg #[.int .i64 op,.int .i64 a,.int .i64 b,.int .i64 c]] w fun e w'=>e = .returned (.int .i64 (Cf.chk ⟨op,a,b,c⟩))∧Below w.heap.size w w':=by
 by_cases h1:1≤op
 ·by_cases h2:op≤15
  ·obtain⟨p,rfl⟩:=Int.eq_ofNat_of_zero_le (show 0≤op by omega)
   go_enter Tryz.func154,Tryz.ntmps154
   go_wp2_with fail
   refine(DD _ _ _ _ _).mono ?_
   rintro e w1 ⟨rfl,hb⟩
   have hb0:Below w.heap.size w w1:=((Below.refl _ _).alloc (by simp) _).trans (hb.mono (by simp))
   have hL1:=hL.below hb0
   have hF1:=hF.below hb0
   have hc0:=hb.cell (p:=⟨w.heap.size,0,none⟩) (by simp)
   simp at hc0
   clear hL hF hb
   go_wp2
   go_loop [15] (fun i=>∃k:Nat,k≤3∧i = .int .i64 k∧∀j,j<k→Cf.yA ⟨p,a,b,c⟩ j=true) (fun i=>3-(intOf i).toNat)
   case atStart=>exact⟨0,by omega,rfl,by intro j hj;omega⟩
   case round=>
    obtain⟨k,hk,rfl,hall⟩:=hrel
    have aX:=hid hall
    clear hall
    have h30:k=0∨k=1∨k=2∨k=3:=by omega
    rcases h30 with rfl|rfl|rfl|rfl
    ·have hcf:w1.cell? ⟨0,p*3,none⟩=some (.int .i64 (Cf.fmt p 0)):=hF1.at_ p 0 (by omega) (by omega)
     have hix:∀w,(Instr.index 186 (.agg #[.int .i64 a,.int .i64 b,.int .i64 c]) (.int .i64 0)).run Tryz.prog w = .ok (.int .i64 a) w:=fun _=>by kernel_rfl
     by_cases hf:Cf.uZ (Cf.fmt p 0) a=true
     ·go_wp2_with (go_at_call 166;refine(fits_any _ _ _ (eP _ _).1 (eP _ _).2 hL1).mono ?_;rintro e w' ⟨rfl,rfl⟩)
      go_round
      case rel=>exact⟨0+1,by omega,by go_num,fun j hj=>by
       rcases Nat.lt_succ_iff_lt_or_eq.1 hj with h|h
       ·exact aX.out j h
       ·subst h;exact hf⟩
      case measure=>simp[intOf]
     ·have hf':Cf.uZ (Cf.fmt p 0) a=false:=by simpa using hf
      clear hf
      have H2:=hid (show Cf.chk ⟨p,a,b,c⟩=2 from Cf.oz ⟨p,a,b,c⟩ 0 (by omega) h1 h2 hf')
      go_wp2_with (go_at_call 166;refine(fits_any _ _ _ (eP _ _).1 (eP _ _).2 hL1).mono ?_;rintro e w' ⟨rfl,rfl⟩)
      go_ret
      exact⟨by rw[H2.out];rfl,hb0⟩
    ·have hcf:w1.cell? ⟨0,p*3+1,none⟩=some (.int .i64 (Cf.fmt p 1)):=hF1.at_ p 1 (by omega) (by omega)
     have hix:∀w,(Instr.index 186 (.agg #[.int .i64 a,.int .i64 b,.int .i64 c]) (.int .i64 1)).run Tryz.prog w = .ok (.int .i64 b) w:=fun _=>by kernel_rfl
     by_cases hf:Cf.uZ (Cf.fmt p 1) b=true
     ·go_wp2_with (go_at_call 166;refine(fits_any _ _ _ (eP _ _).1 (eP _ _).2 hL1).mono ?_;rintro e w' ⟨rfl,rfl⟩)
      go_round
      case rel=>exact⟨1+1,by omega,by go_num,fun j hj=>by
       rcases Nat.lt_succ_iff_lt_or_eq.1 hj with h|h
       ·exact aX.out j h
       ·subst h;exact hf⟩
      case measure=>simp[intOf]
     ·have hf':Cf.uZ (Cf.fmt p 1) b=false:=by simpa using hf
      clear hf
      have H2:=hid (show Cf.chk ⟨p,a,b,c⟩=2 from Cf.oz ⟨p,a,b,c⟩ 1 (by omega) h1 h2 hf')
      go_wp2_with (go_at_call 166;refine(fits_any _ _ _ (eP _ _).1 (eP _ _).2 hL1).mono ?_;rintro e w' ⟨rfl,rfl⟩)
      go_ret
      exact⟨by rw[H2.out];rfl,hb0⟩
    ·have hcf:w1.cell? ⟨0,p*3+2,none⟩=some (.int .i64 (Cf.fmt p 2)):=hF1.at_ p 2 (by omega) (by omega)
     have hix:∀w,(Instr.index 186 (.agg #[.int .i64 a,.int .i64 b,.int .i64 c]) (.int .i64 2)).run Tryz.prog w = .ok (.int .i64 c) w:=fun _=>by kernel_rfl
     by_cases hf:Cf.uZ (Cf.fmt p 2) c=true
     ·go_wp2_with (go_at_call 166;refine(fits_any _ _ _ (eP _ _).1 (eP _ _).2 hL1).mono ?_;rintro e w' ⟨rfl,rfl⟩)
      go_round
      case rel=>exact⟨2+1,by omega,by go_num,fun j hj=>by
       rcases Nat.lt_succ_iff_lt_or_eq.1 hj with h|h
       ·exact aX.out j h
       ·subst h;exact hf⟩
      case measure=>simp[intOf]
     ·have hf':Cf.uZ (Cf.fmt p 2) c=false:=by simpa using hf
      clear hf
      have H2:=hid (show Cf.chk ⟨p,a,b,c⟩=2 from Cf.oz ⟨p,a,b,c⟩ 2 (by omega) h1 h2 hf')
      go_wp2_with (go_at_call 166;refine(fits_any _ _ _ (eP _ _).1 (eP _ _).2 hL1).mono ?_;rintro e w' ⟨rfl,rfl⟩)
      go_ret
      exact⟨by rw[H2.out];rfl,hb0⟩
    ·have H0:=hid (show Cf.chk ⟨p,a,b,c⟩=0 from Cf.AL ⟨p,a,b,c⟩ h1 h2 aX.out)
     go_wp2_with fail
     go_ret
     exact⟨by rw[H0.out];rfl,hb0⟩
  ·have H3:=hid (show Cf.chk ⟨op,a,b,c⟩=3 by simp[Cf.chk,Cf.opB];omega)
   go_enter Tryz.func154,Tryz.ntmps154
   go_wp2_with fail
   go_ret
   exact⟨by rw[H3.out];rfl,(Below.refl _ _).alloc (by simp) _⟩
 ·have H3:=hid (show Cf.chk ⟨op,a,b,c⟩=3 by simp[Cf.chk,Cf.opB];omega)
  go_enter Tryz.func154,Tryz.ntmps154
  go_wp2_with fail
  go_ret
  exact⟨by rw[H3.out];rfl,(Below.refl _ _).alloc (by simp) _⟩
theorem check_any(l:List Cf.Ins)(A:Option Addr)(cap:Nat)(w:World)(hR:bP w A l)(hL:jW w)(hF:kL w)(hm:l.length≤maxLen):
  Calls Tryz.prog 129 #[.slice A l.length cap] w fun e w'=>e = .returned (.int .i64 (Cf.fault l))∧Below w.heap.size w w':=by
 unfold maxLen at hm
 by_cases hlen:200<l.length
 ·have H1:=hid (show Cf.fault l=1 by simp[Cf.fault,hlen])
  go_enter Tryz.func129,Tryz.ntmps129
  go_wp2
  go_ret
  exact⟨by rw[H1.out];rfl,Below.refl _ _⟩
 ·rcases hR with rfl|⟨b,off,rfl,hb,hc⟩
  ·go_enter Tryz.func129,Tryz.ntmps129
   go_wp2
   refine wp_loop_rounds 1 ?_
   rw[rounds_succ]
   go_wp2
   go_ret
   exact⟨rfl,Below.refl _ _⟩
  ·have Hc:=hid hc
   clear hc
   go_enter Tryz.func129,Tryz.ntmps129
   go_wp2
   go_loopw [11] (fun i wr=>∃k:Nat,k≤l.length∧i = .int .i64 k∧Cf.bD (l.take k)=0∧Below w.heap.size w wr) (fun i _=>l.length-(intOf i).toNat)
   case atStart=>exact⟨0,by omega,rfl,rfl,Below.refl _ _⟩
   case round=>
    obtain⟨k,hk,rfl,hz,hbw⟩:=hrel
    have Hz:=hid hz
    clear hz
    by_cases hlt:k<l.length
    ·obtain⟨op,a,b',c',hx⟩:∃op a b' c',l[k]?=some ⟨op,a,b',c'⟩:=⟨_,_,_,_,List.getElem?_eq_getElem hlt⟩
     have hc0:wr.cell? ⟨b,off+k*4,none⟩=some (.int .i64 op):=(hbw.cell hb).trans (Hc.out k _ hx 0 _ rfl)
     have hc1:wr.cell? ⟨b,off+k*4+1,none⟩=some (.int .i64 a):=(hbw.cell hb).trans (Hc.out k _ hx 1 _ rfl)
     have hc2:wr.cell? ⟨b,off+k*4+2,none⟩=some (.int .i64 b'):=(hbw.cell hb).trans (Hc.out k _ hx 2 _ rfl)
     have hc3:wr.cell? ⟨b,off+k*4+3,none⟩=some (.int .i64 c'):=(hbw.cell hb).trans (Hc.out k _ hx 3 _ rfl)
     have Hx:=hid hx
     clear hx
     by_cases hq:Cf.chk ⟨op,a,b',c'⟩=0
     ·have HZ:=hid (show Cf.bD (l.take (k+1))=0 by
       rw[List.take_add_one,Hx.out,Cf.jG,Hz.out];simp[Cf.bD,hq])
      have hq':(Cf.chk ⟨op,a,b',c'⟩ != 0)=false:=by simp[hq]
      clear hq
      go_wp2_with fail
      refine(Ef op a b' c' _ (hL.below (hbw.alloc hbw.size _)) (hF.below (hbw.alloc hbw.size _))).mono ?_
      rintro e w1 ⟨rfl,hb1⟩
      have aO:Below w.heap.size w w1:=(hbw.alloc hbw.size _).trans (hb1.mono (by have:=hbw.size;simp;omega))
      clear hc0 hc1 hc2 hc3 hb1
      go_wp2
      go_roundw
      case rel=>exact⟨k+1,by omega,by go_num,HZ.out,aO⟩
      case measure=>simp[intOf];omega
     ·have HZ:=hid (show Cf.fault l=Cf.chk ⟨op,a,b',c'⟩ by
       have hl:l=l.take k ++ ⟨op,a,b',c'⟩ :: l.drop (k+1):=by
        have hd:=List.drop_eq_getElem_cons hlt
        rw[List.getElem?_eq_getElem hlt]at Hx
        have:=Option.some.inj Hx.out
        rw[this]at hd
        rw[← hd,List.take_append_drop]
       unfold Cf.fault
       rw[if_neg hlen,hl,Cf.jG,Hz.out,if_pos rfl,Cf.bD,if_neg hq])
      have hq':(Cf.chk ⟨op,a,b',c'⟩ != 0)=true:=by simp[hq]
      clear hq
      go_wp2_with fail
      refine(Ef op a b' c' _ (hL.below (hbw.alloc hbw.size _)) (hF.below (hbw.alloc hbw.size _))).mono ?_
      rintro e w1 ⟨rfl,hb1⟩
      have aO:Below w.heap.size w w1:=(hbw.alloc hbw.size _).trans (hb1.mono (by have:=hbw.size;simp;omega))
      clear hc0 hc1 hc2 hc3 hb1
      go_wp2
      go_ret
      exact⟨by rw[HZ.out];rfl,aO⟩
    ·have HZ:=hid (show Cf.fault l=0 by
      have:l.take k=l:=List.take_of_length_le (by omega)
      unfold Cf.fault
      rw[if_neg hlen,← this,Hz.out])
     go_wp2
     go_ret
     exact⟨by rw[HZ.out];rfl,hbw⟩
end
section
open Go.RowKit
theorem dY(n lo hi:Int)(w:World):
  Calls Tryz.prog 39 #[.int .i64 n,.int .i64 lo,.int .i64 hi] w fun e w'=>e = .returned (.bool (Cf.inB n lo hi))∧w=w':=by
 by_cases h1:lo≤n<;>by_cases h2:n≤hi
 all_goals
  go_enter Tryz.func39,Tryz.ntmps39
  go_wp2
  go_ret
  exact⟨by simp[Cf.inB,h1,h2],rfl⟩
end
section
open Go.RowKit
theorem EE(op:Int)(w:World):
  Calls Tryz.prog 163 #[.int .i64 op] w fun e w'=>e = .returned (.string (Cf.shape op))∧w=w':=by
 go_enter Tryz.func163,Tryz.ntmps163
 go_wp2
 all_goals (go_ret;refine⟨?_,rfl⟩;simp_all [Cf.shape,Cf.nZ])
theorem qp(c:Int)(w:World):
  Calls Tryz.prog 164 #[.int .u8 c] w fun e w'=>e = .returned (.int .i64 (Cf.most c))∧w=w':=by
 go_enter Tryz.func164,Tryz.ntmps164
 go_wp2
 all_goals (go_ret;refine⟨?_,rfl⟩;simp_all [Cf.most])
end
section
open Go.RowKit
theorem aP{w:World}{base:Nat}{e:TypeId}{size:Nat}{v:Value}{n:Nat}{xs:List Value}(h:w.ownsRow base e size v n xs):∃A cap,v = .slice A n cap:=by
 rcases h.2 with ⟨rfl,rfl⟩|⟨g,cap,cur,rfl,_⟩
 ·exact⟨_,_,rfl⟩
 ·exact⟨_,_,rfl⟩
theorem own_below{w w':World}{base:Nat}{e:TypeId}{size:Nat}{v:Value}{n:Nat}{xs:List Value}(h:w.ownsRow base e size v n xs)(hb:Below w.heap.size w w'):w'.ownsRow base e size v n xs:=by
 refine⟨h.1,?_⟩
 rcases h.2 with h2|⟨g,cap,cur,hv,hg,hh,r⟩
 ·exact .inl h2
 ·have hlt:g<w.heap.size:=(Array.getElem?_eq_some_iff.1 hh).1
  exact .inr ⟨g,cap,cur,hv,hg,(hb.block g hlt).trans hh,r⟩
theorem bZ{w:World}{base:Nat}{e:TypeId}{size:Nat}{v:Value}{n:Nat}{xs:List Value}(h:w.ownsRow base e size v n xs):∀k,v.ownBlock=some k→base≤k:=by
 intro k hk
 rcases h.2 with ⟨rfl,_⟩|⟨g,cap,cur,rfl,hg,_⟩
 ·cases hk
 ·simp[Value.ownBlock]at hk;omega
theorem ul{α:Type}(sz:Nat)(enc:α→List Value)(hsz:∀x,(enc x).length=sz):∀(l:List α) (k:Nat) (x:α) (j:Nat) (v:Value),l[k]?=some x→(enc x)[j]?=some v→(l.flatMap enc)[k*sz+j]?=some v:=by
 intro l
 induction l with
 | nil=>intro k x j v h;simp at h
 | cons y l ih=>
   intro k x j v h hv
   have hj:j<sz:=by rw[← hsz x];exact(List.getElem?_eq_some_iff.1 hv).1
   rw[List.flatMap_cons]
   cases k with
   | zero=>
     simp at h
     subst h
     rw[List.getElem?_append_left (by rw[hsz];omega),Nat.zero_mul,Nat.zero_add]
     exact hv
   | succ k=>
     rw[List.getElem?_append_right (by rw[hsz,Nat.add_mul];omega),hsz,show(k+1)*sz+j-sz=k*sz+j by rw[Nat.add_mul];omega]
     exact ih k x j v (by simpa using h) hv
theorem jm{α:Type}{sz:Nat}{enc:α→List Value}(hsz:∀x,(enc x).length=sz){w:World}{base:Nat}{e:TypeId}{A:Option Addr}{cap:Nat}{l:List α}(h:w.ownsRow base e sz (.slice A l.length cap) l.length (l.flatMap enc)):RdS sz enc w A l:=by
 rcases h.2 with ⟨hv,hn⟩|⟨g,cap',cur,hv,hg,hh,hnc,hcm,hcs,ht⟩
 ·exact .inl (List.eq_nil_of_length_eq_zero hn)
 ·injection hv with hA _ _
  refine .inr ⟨g,0,hA,(Array.getElem?_eq_some_iff.1 hh).1,fun k x hx j v hj=>?_⟩
  have h1:=ul sz enc hsz l k x j v hx hj
  rw[← ht,List.getElem?_take]at h1
  split at h1
  ·rw[show 0+k*sz+j=k*sz+j by omega,World.cell?]
   simp only[hh]
   rw[← Array.getElem?_toList]
   exact h1
  ·cases h1
theorem lZ(x:Cf.Ins):(encI x).length=4:=rfl
end
section
open Go.RowKit
def dN{α:Type}(B:Nat)(A:Option Addr)(l:List α):Prop:=l=[]∨∃b off,A=some ⟨b,off,none⟩∧B≤b
theorem bF{α:Type}{sz:Nat}{enc:α→List Value}{w:World}{A:Option Addr}{l:List α}{B:Nat}(h:RdS sz enc w A l)(hf:dN B A l){p:Addr}(hp:p.block<B)(u:Value):RdS sz enc (w.setCell p u) A l:=by
 rcases h with h|⟨b,off,rfl,hb,hc⟩
 ·exact .inl h
 ·rcases hf with hf|⟨b',off',he,hle⟩
  ·exact .inl hf
  ·cases he
   refine .inr ⟨b,off,rfl,by rw[show(w.setCell p u).heap.size=w.heap.size by simp[World.setCell]];exact hb,fun k x hx j v hv=>?_⟩
   rw[World.cell?_of_block (w:=w) (Below.heap_setCell w p u b (by omega))]
   exact hc k x hx j v hv
theorem dN.mono{α:Type}{B B':Nat}{A:Option Addr}{l:List α}(h:dN B A l)(hB:B'≤B):dN B' A l:=by
 rcases h with h|⟨b,off,he,hle⟩
 ·exact .inl h
 ·exact .inr ⟨b,off,he,Nat.le_trans hB hle⟩
theorem iQ{α:Type}{w:World}{base n size:Nat}{e:TypeId}{A:Option Addr}{cap:Nat}{xs:List Value}{l:List α}(h:w.ownsRow base e size (.slice A n cap) n xs)(hl:l.length=n):dN base A l:=by
 rcases h.2 with ⟨_,h0⟩|⟨g,cap',cur,hv,hb,_⟩
 ·exact .inl (List.eq_nil_of_length_eq_zero (hl.trans h0))
 ·injection hv with hA _ _
  exact .inr ⟨g,0,hA,hb⟩
end
section
open Go.RowKit
theorem jX{P:Program}{f:FuncId}{args:Array Value}{w:World}{n:Nat}{v:Value}
  (h:Calls P f args (w.drewN n) fun e w'=>e = .returned v∧w.drewN n=w'):Calls P f args (w.drewN n) fun e w''=>e = .returned v∧∃m,w''=w.drewN m:=
 h.mono fun _ _ ⟨he,hm⟩=>⟨he,n,hm.symm⟩
theorem lS(l:List Cf.Ins)(A:Option Addr)(cap:Nat)(w:World)(hR:bP w A l)(hm:l.length≤maxLen):
  Calls Tryz.prog 146 #[.slice A l.length cap] w fun e w'=>e = .returned (.int .i64 (Cf.fault l))∧Below w.heap.size w w':=by
 unfold maxLen at hm
 by_cases hlen:200<l.length
 ·have H1:=hid (show Cf.fault l=1 by simp[Cf.fault,hlen])
  go_enter Tryz.func146,Tryz.ntmps146
  go_wp2
  go_ret
  exact⟨by rw[H1.out];rfl,Below.refl _ _⟩
 ·rcases hR with rfl|⟨b,off,rfl,hb,hc⟩
  ·go_enter Tryz.func146,Tryz.ntmps146
   go_wp2
   refine wp_loop_rounds 1 ?_
   rw[rounds_succ]
   go_wp2
   go_ret
   exact⟨rfl,Below.refl _ _⟩
  ·have Hc:=hid hc
   clear hc
   go_enter Tryz.func146,Tryz.ntmps146
   go_wp2
   go_loopw [3] (fun i wr=>∃k:Nat,k≤l.length∧i = .int .i64 k∧Cf.bD (l.take k)=0∧Below w.heap.size w wr) (fun i _=>l.length-(intOf i).toNat)
   case atStart=>exact⟨0,by omega,rfl,rfl,Below.refl _ _⟩
   case round=>
    obtain⟨k,hk,rfl,hz,hbw⟩:=hrel
    have Hz:=hid hz
    clear hz
    by_cases hlt:k<l.length
    ·obtain⟨op,a,b',c',hx⟩:∃op a b' c',l[k]?=some ⟨op,a,b',c'⟩:=⟨_,_,_,_,List.getElem?_eq_getElem hlt⟩
     have hc0:wr.cell? ⟨b,off+k*4,none⟩=some (.int .i64 op):=(hbw.cell hb).trans (Hc.out k _ hx 0 _ rfl)
     have hc1:wr.cell? ⟨b,off+k*4+1,none⟩=some (.int .i64 a):=(hbw.cell hb).trans (Hc.out k _ hx 1 _ rfl)
     have hc2:wr.cell? ⟨b,off+k*4+2,none⟩=some (.int .i64 b'):=(hbw.cell hb).trans (Hc.out k _ hx 2 _ rfl)
     have hc3:wr.cell? ⟨b,off+k*4+3,none⟩=some (.int .i64 c'):=(hbw.cell hb).trans (Hc.out k _ hx 3 _ rfl)
     have Hx:=hid hx
     clear hx
     go_wp2_with fail
     refine(dY op 1 15 _).mono ?_
     rintro e w1 ⟨rfl,rfl⟩
     cases hq:Cf.inB op 1 15
     ·have HZ:=hid (Cf.rM l k _ hlen hlt Hx.out Hz.out 3 (by decide) (Cf.Fj _ hq))
      go_wp2
      go_ret
      exact⟨by rw[HZ.out];rfl,hbw.alloc hbw.size _⟩
     ·obtain⟨x,y,z,hs⟩:=Cf.AU op
      go_wp2_with fail
      refine(EE op _).mono ?_
      rintro e w1 ⟨rfl,rfl⟩
      rw[show Cf.shape op=⟨#[x,y,z]⟩ by rw[Cf.shape,hs]]
      have hi0:∀w,(Instr.index 9 (.string ⟨#[x,y,z]⟩) (.int .i64 0)).run Tryz.prog w = .ok (.int .u8 (x.toNat:Int)) w:=fun _=>by kernel_rfl
      have hi1:∀w,(Instr.index 9 (.string ⟨#[x,y,z]⟩) (.int .i64 1)).run Tryz.prog w = .ok (.int .u8 (y.toNat:Int)) w:=fun _=>by kernel_rfl
      have hi2:∀w,(Instr.index 9 (.string ⟨#[x,y,z]⟩) (.int .i64 2)).run Tryz.prog w = .ok (.int .u8 (z.toNat:Int)) w:=fun _=>by kernel_rfl
      have Hs:=hid hs
      clear hs
      clear hc0 hc1 hc2 hc3
      cases g0:Cf.inB a 0 (Cf.most x.toNat)
      ·have HZ:=hid (Cf.rM l k _ hlen hlt Hx.out Hz.out 2 (by decide) (Cf.vM _ hq Hs.out (Or.inl g0)))
       go_wp2_with fail
       go_quiet ((first|(go_at_call 164;exact jX (qp _ _))|(go_at_call 39;exact jX (dY _ _ _ _))))
       go_wp2
       go_ret
       exact⟨by rw[HZ.out];rfl,below_drewN (hbw.alloc hbw.size _) _⟩
      ·cases g1:Cf.inB b' 0 (Cf.most y.toNat)
       ·have HZ:=hid (Cf.rM l k _ hlen hlt Hx.out Hz.out 2 (by decide) (Cf.vM _ hq Hs.out (Or.inr (Or.inl g1))))
        go_wp2_with fail
        go_quiet ((first|(go_at_call 164;exact jX (qp _ _))|(go_at_call 39;exact jX (dY _ _ _ _))))
        go_wp2
        go_ret
        exact⟨by rw[HZ.out];rfl,below_drewN (hbw.alloc hbw.size _) _⟩
       ·cases g2:Cf.inB c' 0 (Cf.most z.toNat)
        ·have HZ:=hid (Cf.rM l k _ hlen hlt Hx.out Hz.out 2 (by decide) (Cf.vM _ hq Hs.out (Or.inr (Or.inr g2))))
         go_wp2_with fail
         go_quiet ((first|(go_at_call 164;exact jX (qp _ _))|(go_at_call 39;exact jX (dY _ _ _ _))))
         go_wp2
         go_ret
         exact⟨by rw[HZ.out];rfl,below_drewN (hbw.alloc hbw.size _) _⟩
        ·have HZ:=hid (Cf.Jf l k _ Hx.out Hz.out (Cf.Eu _ hq Hs.out g0 g1 g2))
         go_wp2_with fail
         go_quiet ((first|(go_at_call 164;exact jX (qp _ _))|(go_at_call 39;exact jX (dY _ _ _ _))))
         go_wp2
         go_roundw
         case rel=>exact⟨k+1,by omega,by go_num,HZ.out,below_drewN (hbw.alloc hbw.size _) _⟩
         case measure=>simp[intOf];omega
    ·have HZ:=hid (Cf.F5 l k hlen hlt Hz.out)
     go_wp2
     go_ret
     exact⟨by rw[HZ.out];rfl,hbw⟩
end
section
open Go.RowKit
theorem zL(op a b c:Int)(w:World):
  Calls Tryz.prog 130 #[.agg #[.int .i64 op,.int .i64 a,.int .i64 b,.int .i64 c]] w fun e w'=>e = .returned (.bool (Cf.ja ⟨op,a,b,c⟩))∧Below w.heap.size w w':=by
 by_cases h1:op=10
 ·have e1:=eqb h1
  go_enter Tryz.func130,Tryz.ntmps130
  go_wp2
  go_ret
  exact⟨by simp[Cf.ja,h1],(Below.refl _ _).alloc (Nat.le_refl _) _⟩
 ·have e1:=neb h1
  by_cases h2:op=13
  ·have e2:=eqb h2
   go_enter Tryz.func130,Tryz.ntmps130
   go_wp2
   go_ret
   exact⟨by simp[Cf.ja,h2],(Below.refl _ _).alloc (Nat.le_refl _) _⟩
  ·have e2:=neb h2
   by_cases h3:op=15
   ·have e3:=eqb h3
    go_enter Tryz.func130,Tryz.ntmps130
    go_wp2
    go_ret
    exact⟨by simp[Cf.ja,h3],(Below.refl _ _).alloc (Nat.le_refl _) _⟩
   ·have e3:=neb h3
    go_enter Tryz.func130,Tryz.ntmps130
    go_wp2
    go_ret
    exact⟨by simp[Cf.ja,h1,h2,h3],(Below.refl _ _).alloc (Nat.le_refl _) _⟩
theorem CY(op a b c:Int)(w:World):
  Calls Tryz.prog 103 #[.agg #[.int .i64 op,.int .i64 a,.int .i64 b,.int .i64 c]] w fun e w'=>e = .returned (.bool (Cf.dK ⟨op,a,b,c⟩))∧Below w.heap.size w w':=by
 by_cases h1:op=10
 ·have e1:=eqb h1
  go_enter Tryz.func103,Tryz.ntmps103
  go_wp2
  go_ret
  exact⟨by simp[Cf.dK,h1],(Below.refl _ _).alloc (Nat.le_refl _) _⟩
 ·have e1:=neb h1
  by_cases h2:op=11
  ·have e2:=eqb h2
   go_enter Tryz.func103,Tryz.ntmps103
   go_wp2
   go_ret
   exact⟨by simp[Cf.dK,h2],(Below.refl _ _).alloc (Nat.le_refl _) _⟩
  ·have e2:=neb h2
   by_cases h3:op=12
   ·have e3:=eqb h3
    go_enter Tryz.func103,Tryz.ntmps103
    go_wp2
    go_ret
    exact⟨by simp[Cf.dK,h3],(Below.refl _ _).alloc (Nat.le_refl _) _⟩
   ·have e3:=neb h3
    go_enter Tryz.func103,Tryz.ntmps103
    go_wp2
    go_ret
    exact⟨by simp[Cf.dK,h1,h2,h3],(Below.refl _ _).alloc (Nat.le_refl _) _⟩
theorem bU(op a b c:Int)(w:World):
  Calls Tryz.prog 100 #[.agg #[.int .i64 op,.int .i64 a,.int .i64 b,.int .i64 c]] w fun e w'=>e = .returned (.bool (Cf.lF ⟨op,a,b,c⟩))∧Below w.heap.size w w':=by
 by_cases h1:op=8
 ·have e1:=eqb h1
  go_enter Tryz.func100,Tryz.ntmps100
  go_wp2
  go_ret
  exact⟨by simp[Cf.lF,h1],(Below.refl _ _).alloc (Nat.le_refl _) _⟩
 ·have e1:=neb h1
  by_cases h2:op=9
  ·have e2:=eqb h2
   go_enter Tryz.func100,Tryz.ntmps100
   go_wp2
   go_ret
   exact⟨by simp[Cf.lF,h2],(Below.refl _ _).alloc (Nat.le_refl _) _⟩
  ·have e2:=neb h2
   go_enter Tryz.func100,Tryz.ntmps100
   go_wp2
   go_ret
   exact⟨by simp[Cf.lF,h1,h2],(Below.refl _ _).alloc (Nat.le_refl _) _⟩
theorem gV(op a b c:Int)(w:World):
  Calls Tryz.prog 153 #[.agg #[.int .i64 op,.int .i64 a,.int .i64 b,.int .i64 c]] w fun e w'=>e = .returned (.bool (Cf.inB op 1 8))∧Below w.heap.size w w':=by
 by_cases h1:1≤op
 ·by_cases h2:op≤8
  all_goals
   go_enter Tryz.func153,Tryz.ntmps153
   go_wp2
   go_ret
   exact⟨by simp[Cf.inB,h1,h2],(Below.refl _ _).alloc (Nat.le_refl _) _⟩
 ·have HI:=hid (show Cf.inB op 1 8=false by simp[Cf.inB,h1])
  go_enter Tryz.func153,Tryz.ntmps153
  go_wp2
  go_ret
  exact⟨by rw[HI.out];rfl,(Below.refl _ _).alloc (Nat.le_refl _) _⟩
theorem dV(r:Int)(w:World):
  Calls Tryz.prog 128 #[.int .i64 r] w fun e w'=>e = .returned (.bool (Cf.inB r 4 6))∧w=w':=by
 by_cases h1:r=4
 ·have e1:=eqb h1
  go_enter Tryz.func128,Tryz.ntmps128
  go_wp2
  go_ret
  exact⟨by simp[Cf.inB,h1],rfl⟩
 ·have e1:=neb h1
  by_cases h2:r=5
  ·have e2:=eqb h2
   go_enter Tryz.func128,Tryz.ntmps128
   go_wp2
   go_ret
   exact⟨by simp[Cf.inB,h2],rfl⟩
  ·have e2:=neb h2
   by_cases h3:r=6
   ·have e3:=eqb h3
    go_enter Tryz.func128,Tryz.ntmps128
    go_wp2
    go_ret
    exact⟨by simp[Cf.inB,h3],rfl⟩
   ·have e3:=neb h3
    have HI:=hid (show Cf.inB r 4 6=false by simp[Cf.inB];omega)
    go_enter Tryz.func128,Tryz.ntmps128
    go_wp2
    go_ret
    exact⟨by rw[HI.out];rfl,rfl⟩
theorem mF(b:Int)(w:World):
  Calls Tryz.prog 101 #[.int .i64 b] w fun e w'=>e = .returned (.agg #[.int .i64 4,.int .i64 4,.int .i64 b,.int .i64 6])∧Below w.heap.size w w':=by
 go_enter Tryz.func101,Tryz.ntmps101
 go_wp2
 exact bodyPost_ret (v:=.agg #[.int .i64 4,.int .i64 4,.int .i64 b,.int .i64 6]) (by simp[results,Tryz.results101,go_sem]) rfl ⟨rfl,(Below.refl _ _).alloc (by simp) _⟩
theorem fQ(w:World):
  Calls Tryz.prog 102 #[] w fun e w'=>e = .returned (.agg #[.int .i64 5,.int .i64 4,.int .i64 4,.int .i64 5])∧Below w.heap.size w w':=by
 go_enter Tryz.func102,Tryz.ntmps102
 go_wp2
 exact bodyPost_ret (v:=.agg #[.int .i64 5,.int .i64 4,.int .i64 4,.int .i64 5]) (by simp[results,Tryz.results102,go_sem]) rfl ⟨rfl,(Below.refl _ _).alloc (by simp) _⟩
end
section
open Go.RowKit
def bJ(ds:List Nat)(u:Nat→Value):Nat→List Value→List Value
 | _,[]=>[]
 | k,x :: r=>(bif ds.contains k then u k else x) :: bJ ds u (k+1) r
def upd(u:Nat→Value)(d:Nat)(v:Value):Nat→Value:=fun k=>if k=d then v else u k
def mG(u:Nat→Value)(o:Oper)(v:Value):Nat→Value:=match o.dst with
 | some d=>upd u d v
 | none=>u
theorem xK(ds:List Nat)(l0:List Value):∀(l:List Value) (k:Nat),(∀j x,l[j]?=some x→l0[k+j]?=some x)→bJ ds (fun d=>(l0[d]?).getD undef) k l=l
 | [],_,_=>rfl
 | x :: r,k,h=>by
   have h0:=h 0 x rfl
   rw[Nat.add_zero]at h0
   rw[bJ,xK ds l0 r (k+1) (fun j y hy=>by have:=h (j+1) y (by simpa using hy);rwa [show k+(j+1)=k+1+j by omega]at this)]
   simp only[h0,Option.getD_some]
   cases ds.contains k<;>rfl
theorem xy(ds:List Nat)(u:Nat→Value)(d:Nat)(v:Value):∀(l:List Value) (k:Nat),d<k→bJ ds (upd u d v) k l=bJ ds u k l
 | [],_,_=>rfl
 | x :: r,k,h=>by
   rw[bJ,bJ,xy ds u d v r (k+1) (by omega)]
   simp only[upd,show k≠d by omega,if_false]
theorem zF(ds:List Nat)(u:Nat→Value)(d:Nat)(v:Value):∀(l:List Value) (k:Nat),ds.contains (k+d)=true→(bJ ds u k l).set d v=bJ ds (upd u (k+d) v) k l
 | [],_,_=>rfl
 | x :: r,k,h=>by
   cases d with
   | zero=>
     rw[Nat.add_zero]at h ⊢
     rw[bJ,bJ,List.set_cons_zero,xy ds u k v r (k+1) (by omega),h]
     simp[upd]
   | succ d=>
     rw[bJ,bJ,List.set_cons_succ,zF ds u d v r (k+1) (by rwa [show k+1+d=k+(d+1) by omega])]
     rw[show k+1+d=k+(d+1) by omega]
     simp only[upd,show k≠k+(d+1) by omega,if_false]
def zS(x y:Option Nat):Bool:=match x,y with
 | some a,some b=>a != b
 | _,_=>true
def vW(ops:Array Oper)(ds:List Nat):Bool:=
 (List.range ops.size).all fun i=>match ops[i]? with
   | none=>true
   | some o=>o.guard.isNone && (o.after.all (fun e=>!Region.binds .any e || decide (e.on<i)) && ((match o.dst with|some d=>ds.contains d|none=>true) &&
     (List.range ops.size).all fun j=>match ops[j]? with
       | none=>true
       | some q=>i == j || zS o.dst q.dst))
theorem xh{ops:Array Oper}{ds:List Nat}(h:vW ops ds=true){i:Nat}{o:Oper}(hi:ops[i]?=some o):
  o.guard=none∧(∀e∈o.after,Region.binds .any e=true→e.on<i)∧(∀d,o.dst=some d→ds.contains d=true)∧∀(j:Nat) (q:Oper) (d:Nat),ops[j]?=some q→i≠j→o.dst=some d→q.dst≠some d:=by
 have hlt:i<ops.size:=(Array.getElem?_eq_some_iff.1 hi).1
 have h1:=List.all_eq_true.1 h i (List.mem_range.2 hlt)
 rw[hi]at h1
 simp only[Bool.and_eq_true,Array.all_eq_true_iff_forall_mem,Bool.or_eq_true,Bool.not_eq_true',decide_eq_true_eq]at h1
 obtain⟨h1,h2,h3,h4⟩:=h1
 refine⟨by simpa using h1,fun e he hb=>(h2 e he).resolve_left (by rw[hb];simp),fun d hd=>by rw[hd]at h3;exact h3,fun j q d hq hij hd hqd=>?_⟩
 have h5:=List.all_eq_true.1 h4 j (List.mem_range.2 (Array.getElem?_eq_some_iff.1 hq).1)
 rw[hq]at h5
 simp only[hd,hqd]at h5
 simp[zS,hij]at h5
section
variable {P:Program} {ops:Array Oper} {Q:Exit→Act→World→Prop} {ds:List Nat} {l0:List Value} {df:List Deferred} {J:(Nat→Value)→World→Prop} {V:Nat→(Nat→Value)→World→Prop}
def needs(o:Oper)(j:Nat):Bool:=o.after.any fun e=>e.on == j && Region.binds .any e
def Ky(P:Program)(ops:Array Oper)(Q:Exit→Act→World→Prop)(ds:List Nat)(l0:List Value)(df:List Deferred)(J:(Nat→Value)→World→Prop)(V:Nat→(Nat→Value)→World→Prop)(i:Nat):Prop:=
 ∀(o:Oper) (u:Nat→Value) (w:World),ops[i]?=some o→J u w→(∀(j:Nat),needs o j=true→V j u w) →
  ∀K:Act→World→Prop,(∀(v:Value) (w':World),V i (mG u o v) w'→J (mG u o v) w'→(∀(j:Nat) (q:Oper),ops[j]?=some q→j≠i→needs q i=false→V j u w→V j (mG u o v) w')→K (Act.put ⟨(bJ ds u 0 l0).toArray,df⟩ o.dst v) w')→Oper.wp P o ⟨(bJ ds u 0 l0).toArray,df⟩ w K Q
theorem Oi(hok:vW ops ds=true)(hstep:∀i,i<ops.size→Ky P ops Q ds l0 df J V i)
  (hend:∀(u:Nat→Value) (w:World),J u w→(∀i,i<ops.size→V i u w)→Q .normal ⟨(bJ ds u 0 l0).toArray,df⟩ w):
  ∀(fuel:Nat) (R:List Nat) (listed:Array Bool) (u:Nat→Value) (w:World),listed.size=ops.size→R.length≤fuel→(∀i,i<ops.size→listed.getD i false=false→i∈R)→J u w →
   (∀(i:Nat) (o:Oper),ops[i]?=some o→listed.getD i false=true→V i u w∧∀j,needs o j=true→listed.getD j false=true)→wpAny P .any ops Q fuel listed ⟨(bJ ds u 0 l0).toArray,df⟩ w:=by
 have hall:∀(listed:Array Bool),listed.size=ops.size→Region.ready .any ops listed=[]→∀i,i<ops.size→listed.getD i false=true:=by
  intro listed hs hr i
  induction i using Nat.strongRecOn with
  | ind i ih=>
    intro hi
    cases hg:listed.getD i false with
    | true=>rfl
    | false=>
      exfalso
      have ho:ops[i]?=some ops[i]:=Array.getElem?_eq_getElem hi
      obtain⟨_,hb,_⟩:=xh hok ho
      have:i∈Region.ready .any ops listed:=by
       rw[mem_ready]
       refine⟨?_,ops[i],ho,fun e he hbd=>ih e.on (hb e he hbd) (by have:=hb e he hbd;omega)⟩
       have hl:i<listed.size:=by omega
       simpa [hl] using hg
      rw[hr]at this
      cases this
 intro fuel
 induction fuel with
 | zero=>
   intro R listed u w hs hR hun hJ hV
   obtain rfl:R=[]:=List.eq_nil_of_length_eq_zero (by omega)
   have hl:∀i,i<ops.size→listed.getD i false=true:=fun i hi=>by
    cases hg:listed.getD i false with
    | true=>rfl
    | false=>exact absurd (hun i hi hg) (by simp)
   refine⟨?_,hend u w hJ fun i hi=>(hV i ops[i] (Array.getElem?_eq_getElem hi) (hl i hi)).1⟩
   apply List.eq_nil_iff_forall_not_mem.2
   intro i hi
   obtain⟨h0,o,ho,_⟩:=mem_ready.1 hi
   have hlt:=(Array.getElem?_eq_some_iff.1 ho).1
   have h1:=hl i hlt
   have h2:i<listed.size:=by omega
   simp[h2]at h0 h1
   rw[h0]at h1
   cases h1
 | succ fuel ih=>
   intro R listed u w hs hR hun hJ hV
   refine⟨fun hr=>hend u w hJ fun i hi=>(hV i ops[i] (Array.getElem?_eq_getElem hi) (hall listed hs hr i hi)).1,fun i hi=>?_⟩
   obtain⟨h0,o,ho,aT⟩:=mem_ready.1 hi
   have hlt:=(Array.getElem?_eq_some_iff.1 ho).1
   have hl:i<listed.size:=by omega
   obtain⟨hgd,hbk,hds,hap⟩:=xh hok ho
   have Kz:∀j,needs o j=true→listed.getD j false=true:=by
    intro j hdj
    unfold needs at hdj
    rw[← Array.any_toList,List.any_eq_true]at hdj
    obtain⟨e,he,hej⟩:=hdj
    rw[Array.mem_toList_iff]at he
    simp only[Bool.and_eq_true,beq_iff_eq]at hej
    rw[← hej.1]
    exact aT e he hej.2
   have MN:listed.getD i false=false:=by
    simp[hl]at h0
    simp[hl,h0]
   unfold wpOp
   rw[ho]
   simp only
   rw[if_pos (by simp[Region.wanted,hgd])]
   refine .inl (hstep i hlt o u w ho hJ (fun j hdj=>?_) _ fun v w' hv hJ' hkeep=>?_)
   ·have hlj:=Kz j hdj
    have hjs:j<ops.size:=by
     rcases Nat.lt_or_ge j ops.size with h|h
     ·exact h
     ·simp[Array.getElem?_eq_none (show listed.size≤j by omega)]at hlj
    exact(hV j ops[j] (Array.getElem?_eq_getElem hjs) hlj).1
   ·have N8:i∈R:=hun i hlt MN
    have hRl:(R.erase i).length≤fuel:=by
     rw[List.length_erase_of_mem N8]
     omega
    have hun':∀j,j<ops.size→(listed.setIfInBounds i true).getD j false=false→j∈R.erase i:=by
     intro j hj hg
     have hji:i≠j:=by
      intro he
      subst he
      simp[hl]at hg
     rw[getD_set_ne false hji]at hg
     exact(List.mem_erase_of_ne (Ne.symm hji)).2 (hun j hj hg)
    have hput:Act.put ⟨(bJ ds u 0 l0).toArray,df⟩ o.dst v=⟨(bJ ds (mG u o v) 0 l0).toArray,df⟩:=by
     unfold mG
     cases hd:o.dst with
     | none=>rfl
     | some d=>
       have:=zF ds u d v l0 0 (by rw[Nat.zero_add];exact hds d hd)
       rw[Nat.zero_add]at this
       simp only[Act.put,List.setIfInBounds_toArray,this]
    rw[hput]
    refine ih (R.erase i) (listed.setIfInBounds i true) (mG u o v) w' (by simp[hs]) hRl hun' hJ' fun j q hq hg=>?_
    by_cases hji:i=j
    ·subst hji
     obtain rfl:=Option.some.inj (ho.symm.trans hq)
     exact⟨hv,fun k hk=>getD_set_true (Kz k hk)⟩
    ·rw[getD_set_ne false hji]at hg
     obtain⟨h1,h2⟩:=hV j q hq hg
     refine⟨hkeep j q hq (Ne.symm hji) ?_ h1,fun k hk=>getD_set_true (h2 k hk)⟩
     cases hn:needs q i with
     | false=>rfl
     | true=>
       have:=h2 i hn
       rw[MN]at this
       cases this
theorem Eh{id:Nat}{w:World}(ds:List Nat)(J:(Nat→Value)→World→Prop)(V:Nat→(Nat→Value)→World→Prop)(hok:vW ops ds=true)(hm:P.follows .mixedOrders=true)(hJ:J (fun d=>(l0[d]?).getD undef) w.drew)
  (hstep:∀i,i<ops.size→Ky P ops Q ds l0 df J V i)
  (hend:∀(u:Nat→Value) (w:World),J u w→(∀i,i<ops.size→V i u w)→Q .normal ⟨(bJ ds u 0 l0).toArray,df⟩ w):
  (Code.region id ops true).wp P Q ⟨l0.toArray,df⟩ w:=by
 refine wp_region_any hm ?_
 have h:=Oi hok hstep hend ops.size (List.range ops.size) (Array.replicate ops.size false) (fun d=>(l0[d]?).getD undef) w.drew (by simp) (by simp) (fun i hi _=>List.mem_range.2 hi) hJ
  (fun i o ho hg=>by
    have hlt:=(Array.getElem?_eq_some_iff.1 ho).1
    simp[hlt]at hg)
 rw[xK ds l0 l0 0 (fun j x hx=>by rwa [Nat.zero_add])]at h
 exact h
end
section
variable {P:Program} {ops:Array Oper} {Q:Exit→Act→World→Prop} {ds:List Nat} {l0:List Value} {df:List Deferred} {J:World→Prop} {V:Nat→(Nat→Value)→World→Prop}
def IE(P:Program)(ops:Array Oper)(Q:Exit→Act→World→Prop)(ds:List Nat)(l0:List Value)(df:List Deferred)(J:World→Prop)(V:Nat→(Nat→Value)→World→Prop)(i:Nat):Prop:=
 ∀(o:Oper) (u:Nat→Value) (w:World),ops[i]?=some o→J w→(∀(j:Nat),needs o j=true→V j u w) →
  ∀K:Act→World→Prop,(∀(v:Value) (w':World),V i (mG u o v) w'→J w'→(∀(j:Nat) (q:Oper),ops[j]?=some q→j≠i→needs q i=false→V j u w→V j (mG u o v) w')→K (Act.put ⟨(bJ ds u 0 l0).toArray,df⟩ o.dst v) w')→Oper.wp P o ⟨(bJ ds u 0 l0).toArray,df⟩ w K Q
theorem nM{id:Nat}{w:World}(ds:List Nat)(J:World→Prop)(V:Nat→(Nat→Value)→World→Prop)(hok:vW ops ds=true)(hm:P.follows .mixedOrders=true)(hJ:J w.drew)
  (hstep:∀i,i<ops.size→IE P ops Q ds l0 df J V i)
  (hend:∀(u:Nat→Value) (w:World),J w→(∀i,i<ops.size→V i u w)→Q .normal ⟨(bJ ds u 0 l0).toArray,df⟩ w):
  (Code.region id ops true).wp P Q ⟨l0.toArray,df⟩ w:=
 Eh ds (fun _=>J) V hok hm hJ hstep hend
end
end
section
open Go.RowKit
theorem aG{P:Program}{ops:Array Oper}{o:Oper}{a:Act}{w:World}{K:Act→World→Prop}{Q:Exit→Act→World→Prop}{E:Prop}{R:Ending→World→Prop}
  (hg:o.guard=none) (f:FuncId) (x:Operand) (tys:Array TypeId) (ho:o.op = .call { callee:=.value (.func f),args:=#[x],argTypes:=tys }) (v:Value) (hv:a.eval x=v)
  (eg:∀args w,(callFunc f args).run P w = .ok (.enter f args) w) (hc:Calls P f #[v] w R) (h:∀e w',R e w'→∃v,e = .returned v∧K (a.put o.dst v) w'):
  if Region.wanted o (yielded ops a.tmps)=true then Oper.wp P o a w K Q else E:=by
 rw[if_pos (by simp[Region.wanted,hg])]
 have hex:(execOp a.eval o).run P w = .ok (.enter f #[v]) w:=by
  have hfn:a.eval (.func f) = .func (.func f) #[] #[]:=rfl
  simp[execOp,ho,resolve,invoke,hv,eg,hfn,Deferred.ofValue]
 unfold Oper.wp
 rw[hex]
 refine hc.mono fun e w' hr=>?_
 obtain⟨v,rfl,hk⟩:=h e w' hr
 exact hk
theorem jh{P:Program}{ops:Array Oper}{o:Oper}{a:Act}{w:World}{K:Act→World→Prop}{Q:Exit→Act→World→Prop}{E:Prop}{R:Ending→World→Prop}
  (hg:o.guard=none) (f:FuncId) (x y:Operand) (tys:Array TypeId) (ho:o.op = .call { callee:=.value (.func f),args:=#[x,y],argTypes:=tys }) (v u:Value) (hv:a.eval x=v) (hu:a.eval y=u)
  (eg:∀args w,(callFunc f args).run P w = .ok (.enter f args) w) (hc:Calls P f #[v,u] w R) (h:∀e w',R e w'→∃v,e = .returned v∧K (a.put o.dst v) w'):
  if Region.wanted o (yielded ops a.tmps)=true then Oper.wp P o a w K Q else E:=by
 rw[if_pos (by simp[Region.wanted,hg])]
 have hex:(execOp a.eval o).run P w = .ok (.enter f #[v,u]) w:=by
  have hfn:a.eval (.func f) = .func (.func f) #[] #[]:=rfl
  simp[execOp,ho,resolve,invoke,hv,hu,eg,hfn,Deferred.ofValue]
 unfold Oper.wp
 rw[hex]
 refine hc.mono fun e w' hr=>?_
 obtain⟨v,rfl,hk⟩:=h e w' hr
 exact hk
end
section
open Go.RowKit
theorem yI{a b:ByteArray}(h:a.data.toList=b.data.toList):a=b:=by
 apply ByteArray.ext
 exact Array.toList_inj.1 h
theorem lY(d:List UInt8)(k:Nat)(c:UInt8)(h:d[k]?=some c):∀w,(Instr.index 9 (.string ⟨d.toArray⟩) (.int .i64 (k:Int))).run Tryz.prog w = .ok (.int .u8 (c.toNat:Int)) w:=by
 intro w
 have hk:k<d.length:=(List.getElem?_eq_some_iff.1 h).1
 have hc:(⟨d.toArray⟩:ByteArray)[k]?=some c:=by
  have hs:(⟨d.toArray⟩:ByteArray).size=d.length:=by simp[ByteArray.size]
  rw[getElem?_pos _ k (by omega)]
  have:=(List.getElem?_eq_some_iff.1 h).2
  congr 1
 simp[Instr.index,run_underlying Tryz.underlying9,asIntOf,hc,go_sem]
theorem EP(d:List UInt8)(f i:Nat)(hf:f≤i)(hi:i≤d.length):∀w,(Instr.slice 9 (.string ⟨d.toArray⟩) (some (.int .i64 (f:Int))) (some (.int .i64 (i:Int))) none).run Tryz.prog w = .ok (.string ⟨((d.drop f).take (i-f)).toArray⟩) w:=by
 intro w
 have hs:(⟨d.toArray⟩:ByteArray).size=d.length:=by simp[ByteArray.size]
 rw[run_slice_string_if (P:=Tryz.prog) (w:=w) 9 ⟨d.toArray⟩ .i64 .i64 f i Tryz.underlying9,hs,if_pos (by omega),if_pos (by omega)]
 congr 2
 apply yI
 rw[Lib.extract_data]
 simp
theorem ku(d:List UInt8)(f:Nat)(hf:f≤d.length):∀w,(Instr.slice 9 (.string ⟨d.toArray⟩) (some (.int .i64 (f:Int))) none none).run Tryz.prog w = .ok (.string ⟨(d.drop f).toArray⟩) w:=by
 intro w
 have hs:(⟨d.toArray⟩:ByteArray).size=d.length:=by simp[ByteArray.size]
 rw[run_slice_string_l (P:=Tryz.prog) (w:=w) 9 ⟨d.toArray⟩ Tryz.underlying9 .i64 f (by omega) (by rw[hs];omega),hs]
 congr 2
 apply yI
 rw[Lib.extract_data]
 simp only[Int.toNat_natCast]
 exact List.take_of_length_le (by simp)
end
section
open Go.RowKit
theorem BO(s:List UInt8)(k:Nat)(c:UInt8)(hc:s[k]?=some c)(h:(s.take k).all Cf.bW=true)(hl:Cf.bW c=true):(s.take (k+1)).all Cf.bW=true:=by
 rw[List.take_add_one,hc,List.all_append,h];simp[hl]
theorem zM(s:List UInt8)(k:Nat)(c:UInt8)(hc:s[k]?=some c)(hl:Cf.bW c=false):s.all Cf.bW=false:=by
 rw[List.all_eq_false]
 exact⟨c,List.mem_of_getElem? hc,by simp[hl]⟩
theorem kD(s:List UInt8)(hs:s.length≤maxLen)(w:World):
  Calls Tryz.prog 79 #[.string ⟨s.toArray⟩] w fun e w'=>e = .returned (.bool (Cf.nameB s))∧w=w':=by
 unfold maxLen at hs
 go_enter Tryz.func79,Tryz.ntmps79
 go_wp2
 go_loop [3] (fun i=>∃k:Nat,k≤s.length∧i = .int .i64 k∧(s.take k).all Cf.bW=true) (fun i=>s.length-(intOf i).toNat)
 case atStart=>exact⟨0,by omega,rfl,rfl⟩
 case round=>
  obtain⟨k,hk,rfl,hall⟩:=hrel
  have aX:=hid hall
  clear hall
  by_cases hlt:k<s.length
  ·obtain⟨c,hc⟩:∃c,s[k]?=some c:=⟨_,List.getElem?_eq_getElem hlt⟩
   have hix:=lY s k c hc
   have Hc:=hid hc
   have hc1:=c.toNat_lt
   clear hc
   cases hl:Cf.bW c
   ·have HB:=hid (show Cf.nameB s=false by rw[Cf.nameB,zM s k c Hc.out hl];rfl)
    have hin:Cf.inB (c.toNat:Int) 97 122=false:=hl
    clear hl
    go_wp2_with fail
    refine(dY _ 97 122 _).mono ?_
    rintro e w1 ⟨rfl,rfl⟩
    rw[hin]
    go_wp2
    go_ret
    exact⟨by rw[HB.out];rfl,rfl⟩
   ·have HA:=hid (BO s k c Hc.out aX.out hl)
    have hin:Cf.inB (c.toNat:Int) 97 122=true:=hl
    clear hl
    go_wp2_with fail
    refine(dY _ 97 122 _).mono ?_
    rintro e w1 ⟨rfl,rfl⟩
    rw[hin]
    go_wp2
    go_round
    case rel=>exact⟨k+1,by omega,by go_num,HA.out⟩
    case measure=>simp[intOf];omega
  ·have HA:=hid (show Cf.nameB s=Cf.inB s.length 1 6 by have:=aX.out;rw[List.take_of_length_le (by omega)]at this;rw[Cf.nameB,this];rfl)
   go_wp2_with fail
   refine(dY _ 1 6 _).mono ?_
   rintro e w1 ⟨rfl,rfl⟩
   go_wp2
   go_ret
   exact⟨by rw[HA.out];rfl,rfl⟩
end
section
open Go.RowKit
theorem FZ(op a b c:Int)(w:World):
  Calls Tryz.prog 147 #[.agg #[.int .i64 op,.int .i64 a,.int .i64 b,.int .i64 c]] w fun e w'=>e = .returned (.bool (Cf.ja ⟨op,a,b,c⟩))∧Below w.heap.size w w':=by
 by_cases h1:op=10
 ·have e1:=eqb h1
  go_enter Tryz.func147,Tryz.ntmps147
  go_wp2
  go_ret
  exact⟨by simp[Cf.ja,h1],(Below.refl _ _).alloc (Nat.le_refl _) _⟩
 ·have e1:=neb h1
  by_cases h2:op=13
  ·have e2:=eqb h2
   go_enter Tryz.func147,Tryz.ntmps147
   go_wp2
   go_ret
   exact⟨by simp[Cf.ja,h2],(Below.refl _ _).alloc (Nat.le_refl _) _⟩
  ·have e2:=neb h2
   by_cases h3:op=15
   ·have e3:=eqb h3
    go_enter Tryz.func147,Tryz.ntmps147
    go_wp2
    go_ret
    exact⟨by simp[Cf.ja,h3],(Below.refl _ _).alloc (Nat.le_refl _) _⟩
   ·have e3:=neb h3
    go_enter Tryz.func147,Tryz.ntmps147
    go_wp2
    go_ret
    exact⟨by simp[Cf.ja,h1,h2,h3],(Below.refl _ _).alloc (Nat.le_refl _) _⟩
theorem rZ(op a b c:Int)(w:World):
  Calls Tryz.prog 149 #[.agg #[.int .i64 op,.int .i64 a,.int .i64 b,.int .i64 c]] w fun e w'=>e = .returned (.bool (Cf.dK ⟨op,a,b,c⟩))∧Below w.heap.size w w':=by
 by_cases h1:op=10
 ·have e1:=eqb h1
  go_enter Tryz.func149,Tryz.ntmps149
  go_wp2
  go_ret
  exact⟨by simp[Cf.dK,h1],(Below.refl _ _).alloc (Nat.le_refl _) _⟩
 ·have e1:=neb h1
  by_cases h2:op=11
  ·have e2:=eqb h2
   go_enter Tryz.func149,Tryz.ntmps149
   go_wp2
   go_ret
   exact⟨by simp[Cf.dK,h2],(Below.refl _ _).alloc (Nat.le_refl _) _⟩
  ·have e2:=neb h2
   by_cases h3:op=12
   ·have e3:=eqb h3
    go_enter Tryz.func149,Tryz.ntmps149
    go_wp2
    go_ret
    exact⟨by simp[Cf.dK,h3],(Below.refl _ _).alloc (Nat.le_refl _) _⟩
   ·have e3:=neb h3
    go_enter Tryz.func149,Tryz.ntmps149
    go_wp2
    go_ret
    exact⟨by simp[Cf.dK,h1,h2,h3],(Below.refl _ _).alloc (Nat.le_refl _) _⟩
theorem vw(op a b c:Int)(w:World):
  Calls Tryz.prog 148 #[.agg #[.int .i64 op,.int .i64 a,.int .i64 b,.int .i64 c]] w fun e w'=>e = .returned (.bool (Cf.dh ⟨op,a,b,c⟩))∧Below w.heap.size w w':=by
 by_cases h1:op=5
 ·have e1:=eqb h1
  by_cases h2:a=4
  ·have e2:=eqb h2
   by_cases h3:b=4
   ·have e3:=eqb h3
    by_cases h4:c=5
    ·have e4:=eqb h4
     go_enter Tryz.func148,Tryz.ntmps148
     go_wp2
     go_ret
     exact⟨by simp[Cf.dh,h1,h2,h3,h4],(Below.refl _ _).alloc (Nat.le_refl _) _⟩
    ·have e4:=neb h4
     go_enter Tryz.func148,Tryz.ntmps148
     go_wp2
     go_ret
     exact⟨by simp[Cf.dh,h4],(Below.refl _ _).alloc (Nat.le_refl _) _⟩
   ·have e3:=neb h3
    go_enter Tryz.func148,Tryz.ntmps148
    go_wp2
    go_ret
    exact⟨by simp[Cf.dh,h3],(Below.refl _ _).alloc (Nat.le_refl _) _⟩
  ·have e2:=neb h2
   go_enter Tryz.func148,Tryz.ntmps148
   go_wp2
   go_ret
   exact⟨by simp[Cf.dh,h2],(Below.refl _ _).alloc (Nat.le_refl _) _⟩
 ·have e1:=neb h1
  go_enter Tryz.func148,Tryz.ntmps148
  go_wp2
  go_ret
  exact⟨by simp[Cf.dh,h1],(Below.refl _ _).alloc (Nat.le_refl _) _⟩
theorem ut(l:List Cf.Ins)(k:Nat)(i:Cf.Ins)(hi:l[k]?=some i)(h:∀j,j<k→Cf.zq l j=true)(ho:Cf.okI l k i=true):∀j,j<k+1→Cf.zq l j=true:=by
 intro j hj
 rcases Nat.lt_succ_iff_lt_or_eq.1 hj with h1|h1
 ·exact h j h1
 ·subst h1
  rw[Cf.zq,hi]
  exact ho
theorem lG(l:List Cf.Ins)(k:Nat)(i:Cf.Ins)(hf:Cf.fault l=0)(hi:l[k]?=some i)(ho:Cf.okI l k i=false):Cf.jC l=10:=by
 unfold Cf.jC
 rw[if_pos hf,if_neg]
 intro hb
 simp only[Bool.and_eq_true]at hb
 have hk:k<l.length:=(List.getElem?_eq_some_iff.1 hi).1
 have:=List.all_eq_true.1 hb.2 k (List.mem_range.2 hk)
 rw[Cf.zq,hi]at this
 simp only at this
 rw[ho]at this
 cases this
theorem I9(l:List Cf.Ins)(hf:Cf.fault l=0)(hl:Cf.lastB l=true)(h:∀j,j<l.length→Cf.zq l j=true):Cf.jC l=0:=by
 unfold Cf.jC
 rw[if_pos hf,if_pos]
 simp only[Bool.and_eq_true]
 exact⟨hl,List.all_eq_true.2 fun j hj=>h j (List.mem_range.1 hj)⟩
theorem sD{l:List Cf.Ins}{k:Nat}{op a b c:Int}(hq:Cf.inB op 1 8=true)(h4:a=4)(ho:Cf.dh ⟨op,a,b,c⟩=false):Cf.gp l k ⟨op,a,b,c⟩=(decide (op=4) && (decide (c=6) && Cf.qC l k)):=by
 unfold Cf.gp
 rw[if_pos hq,if_neg (by dsimp only;omega),if_pos ⟨h4,ho⟩]
theorem JH{l:List Cf.Ins}{k:Nat}{op a b c:Int}(h4:a=4)(ho:Cf.dh ⟨op,a,b,c⟩=true):Cf.gp l k ⟨op,a,b,c⟩=true:=by
 unfold Cf.gp
 split
 ·rw[if_neg (by dsimp only;omega),if_neg (by rw[ho];simp)]
 ·rfl
theorem qK{l:List Cf.Ins}{k:Nat}{i:Cf.Ins}(h:Cf.gp l k i=false):Cf.okI l k i=false:=by simp[Cf.okI,h]
def JX(l:List Cf.Ins)(k:Nat)(op a b c:Int)(w:World)(br:Nat)(wx:World):Prop:=
 Cf.gp l k ⟨op,a,b,c⟩=true∧Below w.heap.size w wx∧w.heap.size≤br∧br<wx.heap.size∧wx.cell? ⟨br,0,none⟩=some (.int .i64 op)∧wx.cell? ⟨br,1,none⟩=some (.int .i64 a)∧wx.cell? ⟨br,2,none⟩=some (.int .i64 b)∧wx.cell? ⟨br,3,none⟩=some (.int .i64 c)
set_option maxHeartbeats 8000000 in
theorem wQ(l:List Cf.Ins)(A:Option Addr)(cap:Nat)(w:World)(hR:bP w A l)(hm:l.length≤maxLen):
  Calls Tryz.prog 117 #[.slice A l.length cap] w fun e w'=>e = .returned (.int .i64 (Cf.jC l))∧Below w.heap.size w w':=by
 have HC:=hid (lS l A cap w hR hm)
 unfold maxLen at hm
 by_cases hf:Cf.fault l=0
 ·rw[hf]at HC
  by_cases hn:l=[]
  ·subst hn
   have HS:=hid (show Cf.jC []=10 by decide)
   go_enter Tryz.func117,Tryz.ntmps117
   go_wp2_with fail
   refine HC.out.mono ?_
   rintro e w1 ⟨rfl,hb1⟩
   go_wp2
   go_ret
   exact⟨by rw[HS.out];rfl,hb1⟩
  ·obtain⟨n,hnl⟩:∃n,l.length=n+1:=⟨l.length-1,by have:=List.length_pos_iff.2 hn;omega⟩
   obtain⟨lop,la,lb,lc,hlast⟩:∃op a b c,l[n]?=some ⟨op,a,b,c⟩:=⟨_,_,_,_,List.getElem?_eq_getElem (by omega)⟩
   have hlB:Cf.lastB l=Cf.ja ⟨lop,la,lb,lc⟩:=by
    unfold Cf.lastB
    rw[List.getLast?_eq_getElem?,hnl,show n+1-1=n by omega,hlast]
   rcases hR with h0|⟨b,off,rfl,hb,hc⟩
   ·exact absurd h0 hn
   have Hc:=hid hc
   have qG:=hid hlast
   have Hf:=hid hf
   have Hnl:=hid hnl
   have HlB:=hid hlB
   have hnm:n+1≤2 ^ 63-1:=by omega
   clear hc hlast hf hn hnl hlB
   go_enter Tryz.func117,Tryz.ntmps117
   go_wp2_with fail
   refine HC.out.mono ?_
   rintro e w1 ⟨rfl,hb1⟩
   have d0:w1.cell? ⟨b,off+n*4,none⟩=some (.int .i64 lop):=(hb1.cell hb).trans (Hc.out n _ qG.out 0 _ rfl)
   have d1:w1.cell? ⟨b,off+n*4+1,none⟩=some (.int .i64 la):=(hb1.cell hb).trans (Hc.out n _ qG.out 1 _ rfl)
   have d2:w1.cell? ⟨b,off+n*4+2,none⟩=some (.int .i64 lb):=(hb1.cell hb).trans (Hc.out n _ qG.out 2 _ rfl)
   have d3:w1.cell? ⟨b,off+n*4+3,none⟩=some (.int .i64 lc):=(hb1.cell hb).trans (Hc.out n _ qG.out 3 _ rfl)
   rw[Hnl.out]
   clear HC hm
   go_wp2_with fail
   refine(FZ lop la lb lc _).mono ?_
   rintro e w2 ⟨rfl,hb2⟩
   have hbw2:=hb1.trans (hb2.mono hb1.size)
   clear d0 d1 d2 d3 hb1 hb2
   cases hst:Cf.ja ⟨lop,la,lb,lc⟩
   ·have HS:=hid (show Cf.jC l=10 by unfold Cf.jC;rw[if_pos Hf.out,HlB.out,hst];rfl)
    go_wp2
    go_ret
    exact⟨by rw[HS.out];rfl,hbw2⟩
   ·have HL:=hid (HlB.out.trans hst)
    clear HlB hst
    go_wp2
    go_loopw [4] (fun i wr=>∃k:Nat,k≤n+1∧i = .int .i64 k∧(∀j,j<k→Cf.zq l j=true)∧Below w.heap.size w wr) (fun i _=>n+1-(intOf i).toNat)
    case atStart=>exact⟨0,by omega,rfl,fun j hj=>by omega,hbw2⟩
    case round=>
     obtain⟨k,hk,rfl,hz,hbw⟩:=hrel
     have Hz:=hid hz
     clear hz hbw2
     by_cases hlt:k<n+1
     ·obtain⟨op,a,b',c',hx⟩:∃op a b' c',l[k]?=some ⟨op,a,b',c'⟩:=⟨_,_,_,_,List.getElem?_eq_getElem (by rw[Hnl.out];omega)⟩
      have hc0:wr.cell? ⟨b,off+k*4,none⟩=some (.int .i64 op):=(hbw.cell hb).trans (Hc.out k _ hx 0 _ rfl)
      have hc1:wr.cell? ⟨b,off+k*4+1,none⟩=some (.int .i64 a):=(hbw.cell hb).trans (Hc.out k _ hx 1 _ rfl)
      have hc2:wr.cell? ⟨b,off+k*4+2,none⟩=some (.int .i64 b'):=(hbw.cell hb).trans (Hc.out k _ hx 2 _ rfl)
      have hc3:wr.cell? ⟨b,off+k*4+3,none⟩=some (.int .i64 c'):=(hbw.cell hb).trans (Hc.out k _ hx 3 _ rfl)
      have Hx:=hid hx
      clear hx
      go_wp2_with fail
      refine(dY op 1 8 _).mono ?_
      rintro e w' ⟨rfl,rfl⟩
      go_upto_if 36 with fail
      have hb1:Below w.heap.size w (wr.alloc (.cells #[.int .i64 op,.int .i64 a,.int .i64 b',.int .i64 c'] 121)):=hbw.alloc hbw.size _
      have hbr:w.heap.size≤wr.heap.size:=hbw.size
      have zu:wr.heap.size<(wr.alloc (.cells #[.int .i64 op,.int .i64 a,.int .i64 b',.int .i64 c'] 121)).heap.size:=by simp
      have p0:(wr.alloc (.cells #[.int .i64 op,.int .i64 a,.int .i64 b',.int .i64 c'] 121)).cell? ⟨wr.heap.size,0,none⟩=some (.int .i64 op):=by simp
      have p1:(wr.alloc (.cells #[.int .i64 op,.int .i64 a,.int .i64 b',.int .i64 c'] 121)).cell? ⟨wr.heap.size,1,none⟩=some (.int .i64 a):=by simp
      have p2:(wr.alloc (.cells #[.int .i64 op,.int .i64 a,.int .i64 b',.int .i64 c'] 121)).cell? ⟨wr.heap.size,2,none⟩=some (.int .i64 b'):=by simp
      have p3:(wr.alloc (.cells #[.int .i64 op,.int .i64 a,.int .i64 b',.int .i64 c'] 121)).cell? ⟨wr.heap.size,3,none⟩=some (.int .i64 c'):=by simp
      generalize (wr.alloc (.cells #[.int .i64 op,.int .i64 a,.int .i64 b',.int .i64 c'] 121))=w3 at *
      go_cut [] from 24 to 93 (fun wx=>JX l k op a b' c' w wr.heap.size wx)
      case first=>
       cases hq:Cf.inB op 1 8
       ·have HD:=hid (show Cf.gp l k ⟨op,a,b',c'⟩=true by simp[Cf.gp,hq])
        clear hq
        go_wp2_with fail
        go_meet
        exact⟨HD.out,hb1,hbr,zu,p0,p1,p2,p3⟩
       ·have hop:1≤op∧op≤8:=by simpa [Cf.inB] using hq
        by_cases h5:a=5
        ·have HS:=hid (lG l k _ Hf.out Hx.out (qK (by simp[Cf.gp,hq,h5])))
         have e5:=eqb h5
         clear hq h5
         go_wp2
         go_ret
         exact⟨by rw[HS.out];rfl,hb1⟩
        ·have e5:=neb h5
         by_cases h6:a=6
         ·have HS:=hid (lG l k _ Hf.out Hx.out (qK (by simp[Cf.gp,hq,h6])))
          have e6:=eqb h6
          clear hq h6 h5
          go_wp2
          go_ret
          exact⟨by rw[HS.out];rfl,hb1⟩
         ·have e6:=neb h6
          by_cases h4:a=4
          ·have e4:=eqb h4
           have H4:=hid h4
           clear h4
           go_wp2_with fail
           refine(vw op a b' c' _).mono ?_
           rintro e w4 ⟨rfl,hb4⟩
           have lw:=hb1.trans (hb4.mono hb1.size)
           have r0:=(hb4.cell (p:=⟨wr.heap.size,0,none⟩) zu).trans p0
           have r1:=(hb4.cell (p:=⟨wr.heap.size,1,none⟩) zu).trans p1
           have r2:=(hb4.cell (p:=⟨wr.heap.size,2,none⟩) zu).trans p2
           have r3:=(hb4.cell (p:=⟨wr.heap.size,3,none⟩) zu).trans p3
           have CO:wr.heap.size<w4.heap.size:=Nat.lt_of_lt_of_le zu hb4.size
           clear hb4 hb1 zu p0 p1 p2 p3
           cases ho:Cf.dh ⟨op,a,b',c'⟩
           ·by_cases h44:op=4
            ·have e44:=eqn h44
             by_cases hc6:c'=6
             ·have ec6:=eqn hc6
              have hkn:k+1<n+1:=by
               rcases Nat.lt_or_ge (k+1) (n+1) with h|h
               ·exact h
               ·exfalso
                have hkk:k=n:=by omega
                have hl2:=HL.out
                unfold Cf.lastB at hl2
                rw[List.getLast?_eq_getElem?,Hnl.out,show n+1-1=k by omega,Hx.out]at hl2
                simp[Cf.ja,h44]at hl2
              obtain⟨op2,a2,b2,c2,hx2⟩:∃op a b' c',l[k+1]?=some ⟨op,a,b',c'⟩:=⟨_,_,_,_,List.getElem?_eq_getElem (by rw[Hnl.out];omega)⟩
              have t0:w4.cell? ⟨b,off+(k+1)*4,none⟩=some (.int .i64 op2):=(lw.cell hb).trans (Hc.out (k+1) _ hx2 0 _ rfl)
              have t1:w4.cell? ⟨b,off+(k+1)*4+1,none⟩=some (.int .i64 a2):=(lw.cell hb).trans (Hc.out (k+1) _ hx2 1 _ rfl)
              have t2:w4.cell? ⟨b,off+(k+1)*4+2,none⟩=some (.int .i64 b2):=(lw.cell hb).trans (Hc.out (k+1) _ hx2 2 _ rfl)
              have t3:w4.cell? ⟨b,off+(k+1)*4+3,none⟩=some (.int .i64 c2):=(lw.cell hb).trans (Hc.out (k+1) _ hx2 3 _ rfl)
              have HN:=hid (show Cf.qC l k=Cf.dh ⟨op2,a2,b2,c2⟩ by unfold Cf.qC;rw[hx2])
              have HD:=hid (show Cf.gp l k ⟨op,a,b',c'⟩=Cf.dh ⟨op2,a2,b2,c2⟩ by rw[← HN.out,sD hq H4.out ho];simp[h44,hc6])
              clear hx2 ho h44 hc6 hq h5 h6
              go_wp2_with fail
              refine(vw op2 a2 b2 c2 _).mono ?_
              rintro e w5 ⟨rfl,hb5⟩
              have qh:=lw.trans (hb5.mono lw.size)
              have q0:=(hb5.cell (p:=⟨wr.heap.size,0,none⟩) CO).trans r0
              have q1:=(hb5.cell (p:=⟨wr.heap.size,1,none⟩) CO).trans r1
              have q2:=(hb5.cell (p:=⟨wr.heap.size,2,none⟩) CO).trans r2
              have q3:=(hb5.cell (p:=⟨wr.heap.size,3,none⟩) CO).trans r3
              have Oc:wr.heap.size<w5.heap.size:=Nat.lt_of_lt_of_le CO hb5.size
              clear hb5 lw CO r0 r1 r2 r3 t0 t1 t2 t3
              cases ho2:Cf.dh ⟨op2,a2,b2,c2⟩
              ·have HS:=hid (lG l k _ Hf.out Hx.out (qK (HD.out.trans ho2)))
               clear ho2
               go_wp2
               go_ret
               exact⟨by rw[HS.out];rfl,qh⟩
              ·have HD2:=hid (HD.out.trans ho2)
               clear ho2
               go_wp2_with fail
               go_meet
               exact⟨HD2.out,qh,hbr,Oc,q0,q1,q2,q3⟩
             ·have ec6:=nen hc6
              have HS:=hid (lG l k _ Hf.out Hx.out (qK (by rw[sD hq H4.out ho];simp[hc6])))
              clear hq ho h44 hc6 h5 h6
              go_wp2
              go_ret
              exact⟨by rw[HS.out];rfl,lw⟩
            ·have e44:=nen h44
             have HS:=hid (lG l k _ Hf.out Hx.out (qK (by rw[sD hq H4.out ho];simp[h44])))
             clear hq ho h44 h5 h6
             go_wp2
             go_ret
             exact⟨by rw[HS.out];rfl,lw⟩
           ·have HD:=hid (show Cf.gp l k ⟨op,a,b',c'⟩=true from JH H4.out ho)
            clear hq ho h5 h6
            go_wp2_with fail
            go_meet
            exact⟨HD.out,lw,hbr,CO,r0,r1,r2,r3⟩
          ·have e4:=neb h4
           have HD:=hid (show Cf.gp l k ⟨op,a,b',c'⟩=true by simp[Cf.gp,h4,h5,h6])
           clear hq h4 h5 h6
           go_wp2_with fail
           go_meet
           exact⟨HD.out,hb1,hbr,zu,p0,p1,p2,p3⟩
      case rest=>
       obtain⟨hd,hbx,_,hbr3,s0,s1,s2,s3⟩:=hcut
       have Hd:=hid hd
       clear hd hb1 zu p0 p1 p2 p3 hc0 hc1 hc2 hc3
       by_cases h89:op=8∨op=9
       ·by_cases hb4:b'=4
        ·have HO:=hid (show Cf.okI l k ⟨op,a,b',c'⟩=true by
          have hj:Cf.dK ⟨op,a,b',c'⟩=false:=by rcases h89 with h|h<;>simp[Cf.dK,h]
          unfold Cf.okI
          rw[if_pos Hd.out,if_neg]
          rintro (⟨_,h⟩|⟨h,_⟩)
          ·exact h hb4
          ·rw[hj]at h
           cases h)
         have hj:Cf.dK ⟨op,a,b',c'⟩=false:=by rcases h89 with h|h<;>simp[Cf.dK,h]
         have eb:=eqn hb4
         clear hb4
         rcases h89 with h8|h8
         ·have e8:=eqb h8
          clear h8
          go_wp2_with fail
          refine(rZ op a b' c' _).mono ?_
          rintro e w6 ⟨rfl,hb6⟩
          rw[hj]
          have Dh:=hbx.trans (hb6.mono hbx.size)
          clear hb6 hbx hj s0 s1 s2 s3
          go_wp2
          go_roundw
          case rel=>(repeat apply Exists.intro);exact⟨⟨k+1,by omega,by go_num,ut l k _ Hx.out Hz.out HO.out,Dh⟩,rfl⟩
          case measure=>simp[intOf];omega
         ·have e9:=eqb h8
          have e8:=neb (show ¬op=8 by omega)
          clear h8
          go_wp2_with fail
          refine(rZ op a b' c' _).mono ?_
          rintro e w6 ⟨rfl,hb6⟩
          rw[hj]
          have Dh:=hbx.trans (hb6.mono hbx.size)
          clear hb6 hbx hj s0 s1 s2 s3
          go_wp2
          go_roundw
          case rel=>(repeat apply Exists.intro);exact⟨⟨k+1,by omega,by go_num,ut l k _ Hx.out Hz.out HO.out,Dh⟩,rfl⟩
          case measure=>simp[intOf];omega
        ·have HS:=hid (lG l k _ Hf.out Hx.out (show Cf.okI l k ⟨op,a,b',c'⟩=false by unfold Cf.okI;rw[if_pos Hd.out,if_pos (.inl ⟨h89,hb4⟩)]))
         have eb:=nen hb4
         clear hb4
         rcases h89 with h8|h8
         ·have e8:=eqb h8
          clear h8
          go_wp2
          go_ret
          exact⟨by rw[HS.out];rfl,hbx⟩
         ·have e9:=eqb h8
          have e8:=neb (show ¬op=8 by omega)
          clear h8
          go_wp2
          go_ret
          exact⟨by rw[HS.out];rfl,hbx⟩
       ·have e8:=neb (show ¬op=8 by omega)
        have e9:=neb (show ¬op=9 by omega)
        go_wp2_with fail
        refine(rZ op a b' c' _).mono ?_
        rintro e w6 ⟨rfl,hb6⟩
        have Dh:=hbx.trans (hb6.mono hbx.size)
        have s36:=(hb6.cell (p:=⟨wr.heap.size,3,none⟩) hbr3).trans s3
        clear hb6 hbx s0 s1 s2 s3
        cases hj:Cf.dK ⟨op,a,b',c'⟩
        ·have HO:=hid (show Cf.okI l k ⟨op,a,b',c'⟩=true by
          unfold Cf.okI
          rw[if_pos Hd.out,if_neg]
          simp[hj,h89])
         clear hj h89
         go_wp2
         go_roundw
         case rel=>(repeat apply Exists.intro);exact⟨⟨k+1,by omega,by go_num,ut l k _ Hx.out Hz.out HO.out,Dh⟩,rfl⟩
         case measure=>simp[intOf];omega
        ·by_cases hcl:(n:Int)+1≤c'
         ·have HS:=hid (lG l k _ Hf.out Hx.out (show Cf.okI l k ⟨op,a,b',c'⟩=false by unfold Cf.okI;rw[if_pos Hd.out,if_pos (.inr ⟨hj,by rw[Hnl.out];simp;omega⟩)]))
          clear hj h89
          go_wp2
          go_ret
          exact⟨by rw[HS.out];rfl,Dh⟩
         ·have HO:=hid (show Cf.okI l k ⟨op,a,b',c'⟩=true by
           unfold Cf.okI
           rw[if_pos Hd.out,if_neg]
           rw[Hnl.out]
           simp[h89]
           intro _
           omega)
          clear hj h89
          go_wp2
          go_roundw
          case rel=>(repeat apply Exists.intro);exact⟨⟨k+1,by omega,by go_num,ut l k _ Hx.out Hz.out HO.out,Dh⟩,rfl⟩
          case measure=>simp[intOf];omega
     ·have HS:=hid (I9 l Hf.out HL.out (fun j hj=>Hz.out j (by rw[Hnl.out]at hj;omega)))
      go_wp2
      go_ret
      exact⟨by rw[HS.out];rfl,hbw⟩
 ·have HS:=hid (show Cf.jC l=Cf.fault l by unfold Cf.jC;rw[if_neg hf])
  have hq:(Cf.fault l != 0)=true:=by rw[bne_iff_ne];exact hf
  clear hf
  go_enter Tryz.func117,Tryz.ntmps117
  go_wp2_with fail
  refine HC.out.mono ?_
  rintro e w1 ⟨rfl,hb1⟩
  go_wp2
  go_ret
  exact⟨by rw[HS.out];rfl,hb1⟩
end
end Go.Proofs.YtnnhhbjbdmgpiaaGreatDoor
