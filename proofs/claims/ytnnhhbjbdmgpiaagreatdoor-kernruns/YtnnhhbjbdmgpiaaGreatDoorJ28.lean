/- Texts of the proofs: RefA. -/
import Derived.Test.YtnnhhbjbdmgpiaaGreatDoorJ23
set_option linter.unusedSimpArgs false
set_option linter.unusedVariables false
namespace Go.Proofs.YtnnhhbjbdmgpiaaGreatDoor
set_option maxRecDepth 100000
set_option maxHeartbeats 4000000
open Lib (hid)
section
open Go.RowKit
theorem rW(k:Cf.ag)(a:KA)(name:List UInt8)(w:World)(hR:KRd w a k)(hl:k.nodes.length=8):
  Calls Tryz.prog 42 #[.agg (af a k).toArray,.string ⟨name.toArray⟩] w fun e w'=>e = .returned (.int .i64 (Cf.aJ (Cf.aQ name) k.nodes))∧Below w.heap.size w w':=by
 have hK0:mV w w.heap.size (af a k) (w.alloc (.cells (af a k).toArray ae)):=⟨Wb.new w ae (af a k),(Below.refl _ _).alloc (Nat.le_refl _) _⟩
 obtain⟨A,ca,M,cm,N,cn,S,cs,Q,cq⟩:=a
 have hN:Ed w N k.nodes:=hR.nodes
 rcases hN with h0|⟨b,off,rfl,hb,hc⟩
 ·rw[h0]at hl;simp at hl
 have HK0:=hid hK0
 have HC:=hid hc
 have HL:=hid hl
 obtain⟨KC,hKC⟩:∃KC,KC=af ⟨A,ca,M,cm,some ⟨b,off,none⟩,cn,S,cs,Q,cq⟩ k:=⟨_,rfl⟩
 have HKC:=hid hKC
 have HQ:=hid (show ∀W,Wb W w.heap.size ae KC→W.cell? ⟨w.heap.size,2,none⟩=some (.slice (some ⟨b,off,none⟩) 8 cn) from fun W hW=>by rw[hKC]at hW;have:=hW.cell 2;simp only[af,hl]at this;exact this)
 rw[← hKC]at HK0
 clear hK0 hR hc hKC hl
 simp only[af]
 go_enter Tryz.func42,Tryz.ntmps42
 go_wp2
 go_loopw [5] (fun i wr=>∃n:Nat,n≤8∧i = .int .i64 n∧(k.nodes.take n).any (Cf.aQ name)=false∧mV w w.heap.size KC wr) (fun i _=>8-(intOf i).toNat)
 case atStart=>exact⟨0,by omega,rfl,rfl,by have:=HK0.out;rw[HKC.out]at this ⊢;exact this⟩
 case round=>
  obtain⟨n,hn,rfl,hall,hK⟩:=hrel
  clear HK0
  have aX:=hid hall
  have HK:=hid hK
  have c2:=HQ.out _ hK.1
  have hlt0:=hK.1.lt
  clear hall hK
  by_cases hlt:n<8
  ·obtain⟨nm,kd,da,un,hx⟩:∃nm kd da un,k.nodes[n]?=some ⟨nm,kd,da,un⟩:=⟨_,_,_,_,List.getElem?_eq_getElem (by rw[HL.out];exact hlt)⟩
   have d0:wr.cell? ⟨b,off+n*4,none⟩=some (.string ⟨nm.toArray⟩):=(HK.out.2.cell hb).trans (HC.out n _ hx 0 _ rfl)
   have hn8:(n:Int)<8:=by omega
   have HX:=hid hx
   have hbl:=Nat.lt_of_lt_of_le hb HK.out.2.size
   clear hx
   by_cases h1:name=[]
   ·have HA:=hid (Cf.fU HX.out aX.out (show Cf.aQ name ⟨nm,kd,da,un⟩=false by simp[Cf.aQ,h1]))
    subst h1
    go_wp2
    go_roundw
    case rel=>exact⟨n+1,by omega,by go_num,HA.out,HK.out⟩
    case measure=>simp[intOf];omega
   ·have he:name.isEmpty=false:=by cases name<;>simp_all
    by_cases h2:nm=name
    ·have HI:=hid (Cf.jI HX.out (show Cf.aQ name ⟨nm,kd,da,un⟩=true by simp[Cf.aQ,h1,h2]) aX.out)
     subst h2
     go_wp2
     go_ret
     exact⟨by rw[HI.out];rfl,HK.out.2⟩
    ·have HA:=hid (Cf.fU HX.out aX.out (show Cf.aQ name ⟨nm,kd,da,un⟩=false by simp[Cf.aQ,h2]))
     have hb2:(nm == name)=false:=by rw[beq_eq_false_iff_ne];exact h2
     go_wp2
     go_roundw
     case rel=>exact⟨n+1,by omega,by go_num,HA.out,HK.out⟩
     case measure=>simp[intOf];omega
  ·have HI:=hid (Cf.fJ (p:=Cf.aQ name) (l:=k.nodes) (Cf.any_take aX.out (by rw[HL.out];omega)))
   have hn8:¬(n:Int)<8:=by omega
   go_wp2
   go_ret
   exact⟨by rw[HI.out];rfl,HK.out.2⟩
theorem xe(lv:Bool)(es:List Cf.End)(A:Option Addr)(ce:Nat)(w:World)(hE:Ends w A es)(hl:es.length=6):
  Calls Tryz.prog 80 #[.agg #[.bool lv,.slice A 6 ce]] w fun e w'=>e = .returned (.int .i64 (Cf.aJ Cf.aK es))∧Below w.heap.size w w':=by
 rcases hE with h0|⟨b,off,rfl,hb,hc⟩
 ·rw[h0]at hl;simp at hl
 have HC:=hid hc
 have HL:=hid hl
 have hb0:Below w.heap.size w (w.alloc (.cells #[.bool lv,.slice (some ⟨b,off,none⟩) 6 ce] 69)):=(Below.refl _ _).alloc (Nat.le_refl _) _
 have HX:=hid (Wb.new w 69 [.bool lv,.slice (some ⟨b,off,none⟩) 6 ce])
 have Hb0:=hid hb0
 clear hc hl hb0
 go_enter Tryz.func80,Tryz.ntmps80
 go_upto_region 1 with fail
 generalize w.alloc _=w0 at *
 have x1:=HX.out.cell 1
 simp only[gq]at x1
 have xl:=HX.out.lt
 go_wp2
 go_loopw [3] (fun i wr=>∃n:Nat,n≤6∧i = .int .i64 n∧(es.take n).any Cf.aK=false∧w0=wr) (fun i _=>6-(intOf i).toNat)
 case atStart=>exact⟨0,by omega,rfl,rfl,rfl⟩
 case round=>
  obtain⟨n,hn,rfl,hall,rfl⟩:=hrel
  have aX:=hid hall
  clear hall
  by_cases hlt:n<6
  ·obtain⟨kd,nd,po,hx⟩:∃kd nd po,es[n]?=some ⟨kd,nd,po⟩:=⟨_,_,_,List.getElem?_eq_getElem (by rw[HL.out];exact hlt)⟩
   have d0:w0.cell? ⟨b,off+n*3,none⟩=some (.int .i64 kd):=(Hb0.out.cell hb).trans (HC.out n _ hx 0 _ rfl)
   have hn8:(n:Int)<6:=by omega
   have HX2:=hid hx
   have hbl:=Nat.lt_of_lt_of_le hb Hb0.out.size
   clear hx
   by_cases h2:kd=0
   ·have HI:=hid (Cf.jI HX2.out (show Cf.aK ⟨kd,nd,po⟩=true by simp[Cf.aK,h2]) aX.out)
    subst h2
    go_wp2
    go_ret
    exact⟨by rw[HI.out];rfl,Hb0.out⟩
   ·have HA:=hid (Cf.fU HX2.out aX.out (show Cf.aK ⟨kd,nd,po⟩=false by simp[Cf.aK,h2]))
    have hb2:(kd == 0)=false:=by rw[beq_eq_false_iff_ne];exact h2
    go_wp2
    go_roundw
    case rel=>exact⟨n+1,by omega,by go_num,HA.out,by trivial⟩
    case measure=>simp[intOf];omega
  ·have HI:=hid (Cf.fJ (p:=Cf.aK) (l:=es) (Cf.any_take aX.out (by rw[HL.out];omega)))
   have hn8:¬(n:Int)<6:=by omega
   go_wp2
   go_ret
   exact⟨by rw[HI.out];rfl,Hb0.out⟩
end
end Go.Proofs.YtnnhhbjbdmgpiaaGreatDoor
