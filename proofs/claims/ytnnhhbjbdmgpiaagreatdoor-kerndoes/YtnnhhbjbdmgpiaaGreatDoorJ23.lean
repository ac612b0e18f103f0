/- Texts of the proofs: RefK. -/
import Derived.Test.YtnnhhbjbdmgpiaaGreatDoorJ19
set_option linter.unusedSimpArgs false
set_option linter.unusedVariables false
namespace Go.Proofs.YtnnhhbjbdmgpiaaGreatDoor
set_option maxRecDepth 100000
set_option maxHeartbeats 4000000
open Lib (hid)
section
open Go.RowKit
theorem uJ{n:Nat}(h:n≤big):n≤maxLen:=Nat.le_trans h (by unfold big maxLen;omega)
theorem Cf.any_take{α:Type}{p:α→Bool}{l:List α}{n:Nat}(h:(l.take n).any p=false)(hn:l.length≤n):l.any p=false:=by rwa [List.take_of_length_le hn]at h
def mV(w:World)(g:Nat)(cs:List Value)(w':World):Prop:=Wb w' g ae cs∧Below w.heap.size w w'
theorem mV.next{w:World}{g:Nat}{cs:List Value}{w' w2:World}(h:mV w g cs w')(hb:Below w'.heap.size w' w2):mV w g cs w2:=⟨h.1.below hb h.1.lt,h.2.trans (hb.mono h.2.size)⟩
theorem nV(k:Cf.ag)(a:KA)(kind node:Int)(w:World)(hR:KRd w a k)(hml:k.procs.length≤big)(hmp:∀p∈k.procs,p.ends.length≤big):
  Calls Tryz.prog 76 #[.agg (af a k).toArray,.int .i64 kind,.int .i64 node] w fun e w'=>e = .returned (.bool (Cf.hasB k.procs kind node))∧Below w.heap.size w w':=by
 obtain⟨A,ca,M,cm,N,cn,S,cs,Q,cq⟩:=a
 obtain⟨ps,hps,hpp⟩:=hR.procs
 simp only at hps
 rcases hps with h|⟨b,off,rfl,hb,hc⟩
 ·have h0:k.procs=[]:=List.eq_nil_of_length_eq_zero (by rw[← hpp.1,h];rfl)
  have HT:=hid (show Cf.hasB k.procs kind node=false by rw[h0];rfl)
  rw[HT.out]
  clear hR hml hmp hpp HT
  simp only[af,h0,List.length_nil]
  go_enter Tryz.func76,Tryz.ntmps76
  go_wp2
  refine wp_loop_rounds 1 ?_
  rw[rounds_succ]
  go_wp2
  go_ret
  exact⟨rfl,(Below.refl _ _).alloc (Nat.le_refl _) _⟩
 have HZ:=hid (show Cf.hasB k.procs kind node=k.procs.any (Cf.holdsB kind node) from rfl)
 have hlen:=hpp.1
 have HPP:=hid hpp
 have HC:=hid hc
 have hK0:mV w w.heap.size (af ⟨A,ca,M,cm,N,cn,S,cs,some ⟨b,off,none⟩,cq⟩ k) (w.alloc (.cells (af ⟨A,ca,M,cm,N,cn,S,cs,some ⟨b,off,none⟩,cq⟩ k).toArray ae)):=⟨Wb.new w ae (af ⟨A,ca,M,cm,N,cn,S,cs,some ⟨b,off,none⟩,cq⟩ k),(Below.refl _ _).alloc (Nat.le_refl _) _⟩
 have HK0:=hid hK0
 have HE:=hid hmp
 unfold big at hml
 have Hpl:=hid hlen
 clear hR hmp hc hpp hK0 hlen
 obtain⟨KC,hKC⟩:∃KC,KC=af ⟨A,ca,M,cm,N,cn,S,cs,some ⟨b,off,none⟩,cq⟩ k:=⟨_,rfl⟩
 have HKC:=hid hKC
 have HQ:=hid (show ∀W,Wb W w.heap.size ae KC→W.cell? ⟨w.heap.size,4,none⟩=some (.slice (some ⟨b,off,none⟩) k.procs.length cq) from fun W hW=>by rw[hKC]at hW;exact hW.cell 4)
 rw[← hKC]at HK0
 clear hKC
 simp only[af]
 go_enter Tryz.func76,Tryz.ntmps76
 go_wp2
 go_loopw [7] (fun i wr=>∃n:Nat,n≤k.procs.length∧i = .int .i64 n∧(k.procs.take n).any (Cf.holdsB kind node)=false∧mV w w.heap.size KC wr) (fun i _=>k.procs.length-(intOf i).toNat)
 case atStart=>exact⟨0,by omega,rfl,rfl,by have:=HK0.out;rw[HKC.out]at this ⊢;exact this⟩
 case round=>
  obtain⟨n,hn,rfl,hall,hK⟩:=hrel
  clear HK0
  have aX:=hid hall
  have HK:=hid hK
  have c4:=HQ.out _ hK.1
  have hl:=hK.1.lt
  clear hall hK
  by_cases hlt:n<k.procs.length
  ·obtain⟨lv,A1,le,c1,hx⟩:∃lv A1 le c1,ps[n]?=some ⟨lv,A1,le,c1⟩:=⟨_,_,_,_,List.getElem?_eq_getElem (by rw[Hpl.out];exact hlt)⟩
   obtain⟨p,hp⟩:∃p,k.procs[n]?=some p:=⟨_,List.getElem?_eq_getElem hlt⟩
   obtain⟨_,h2,h3⟩:=HPP.out.2 n _ _ hx hp
   simp only at h2 h3
   subst h2
   have r1:=fun W (hW:mV w w.heap.size KC W)=>show W.cell? ⟨b,off+n*2+1,none⟩=some (.slice A1 p.ends.length c1) from(hW.2.cell hb).trans (HC.out n _ hx 1 _ rfl)
   have HR1:=hid r1
   have d1:=r1 _ HK.out
   have HP:=hid hp
   have hel:=HE.out p (List.mem_of_getElem? hp)
   unfold big at hel
   have hzz:w.heap.size≤wr.heap.size:=HK.out.2.size
   clear hx hp
   rcases h3 with h3|⟨b2,o2,rfl,hb2,hc2⟩
   ·have HA:=hid (Cf.fU HP.out aX.out (show Cf.holdsB kind node p=false by simp[Cf.holdsB,h3]))
    rw[h3]at d1
    clear r1 HR1 h3 hel
    go_wp2_with fail
    refine wp_loop_rounds 1 ?_
    rw[rounds_succ]
    go_wp2
    go_roundw
    case rel=>exact⟨n+1,by omega,by go_num,HA.out,HK.out⟩
    case measure=>simp[intOf];omega
   have HEn:=hid (And.intro hb2 hc2)
   clear r1 hc2
   go_wp2_with fail
   clear d1 c4
   go_loopw [8] (fun i wr=>∃m:Nat,m≤p.ends.length∧i = .int .i64 m∧(p.ends.take m).any (Cf.endOf kind node)=false∧mV w w.heap.size KC wr) (fun i _=>p.ends.length-(intOf i).toNat)
   case atStart=>exact⟨0,by omega,rfl,rfl,HK.out⟩
   case round=>
    obtain⟨m,hm,rfl,hall2,hK2⟩:=hrel
    have Ik:=hid hall2
    have HK2:=hid hK2
    have c4:=HQ.out _ hK2.1
    have d1:=HR1.out _ hK2
    have hl2:=hK2.1.lt
    have hsz2:=hK2.2.size
    clear hall2 hK2
    by_cases hlt2:m<p.ends.length
    ·obtain⟨kd,nd,po,hy⟩:∃kd nd po,p.ends[m]?=some ⟨kd,nd,po⟩:=⟨_,_,_,List.getElem?_eq_getElem hlt2⟩
     have hc2:=HEn.out.2
     have s0:wr.cell? ⟨b2,o2+m*3,none⟩=some (.int .i64 kd):=(HK2.out.2.cell hb2).trans (hc2 m _ hy 0 _ rfl)
     have s1:wr.cell? ⟨b2,o2+m*3+1,none⟩=some (.int .i64 nd):=(HK2.out.2.cell hb2).trans (hc2 m _ hy 1 _ rfl)
     have s2:wr.cell? ⟨b2,o2+m*3+2,none⟩=some (.int .i64 po):=(HK2.out.2.cell hb2).trans (hc2 m _ hy 2 _ rfl)
     have HY:=hid hy
     have HK3:=hid (fun o=>HK2.out.next ((Below.refl _ _).alloc (Nat.le_refl _) o))
     clear hc2 hy
     by_cases hk:kd=kind
     ·by_cases hd:nd=node
      ·have HT:=hid (show Cf.hasB k.procs kind node=true by
        rw[HZ.out]
        exact Cf.zi HP.out (Cf.zi HY.out (by simp[Cf.endOf,hk,hd])))
       subst hk hd
       go_wp2
       go_ret
       exact⟨dX HT.out.symm,(HK3.out _).2⟩
      ·have HA:=hid (Cf.fU HY.out Ik.out (show Cf.endOf kind node ⟨kd,nd,po⟩=false by simp[Cf.endOf,hd]))
       subst hk
       have hd':¬(nd == node)=true:=by simpa using hd
       go_wp2
       go_roundw
       case rel=>exact⟨m+1,by omega,by go_num,HA.out,HK3.out _⟩
       case measure=>simp[intOf];omega
     ·have HA:=hid (Cf.fU HY.out Ik.out (show Cf.endOf kind node ⟨kd,nd,po⟩=false by simp[Cf.endOf,hk]))
      go_wp2
      go_roundw
      case rel=>exact⟨m+1,by omega,by go_num,HA.out,HK3.out _⟩
      case measure=>simp[intOf];omega
    ·have HA:=hid (Cf.fU HP.out aX.out (show Cf.holdsB kind node p=false from Cf.any_take Ik.out (by omega)))
     go_wp2
     go_roundw
     case rel=>exact⟨n+1,by omega,by go_num,HA.out,HK2.out⟩
     case measure=>simp[intOf];omega
  ·have HT:=hid (show Cf.hasB k.procs kind node=false by rw[HZ.out];exact Cf.any_take aX.out (by omega))
   go_wp2
   go_ret
   exact⟨dX HT.out.symm,HK.out.2⟩
theorem ve(k:Cf.ag)(a:KA)(kind node:Int)(w:World)(hR:KRd w a k)(hf:kU k):
  Calls Tryz.prog 76 #[.agg (af a k).toArray,.int .i64 kind,.int .i64 node] w fun e w'=>e = .returned (.bool (Cf.hasB k.procs kind node))∧Below w.heap.size w w':=nV k a kind node w hR hf.procs hf.proc
end
end Go.Proofs.YtnnhhbjbdmgpiaaGreatDoor
