/- Texts of the proofs: RefL, RefN. -/
import Derived.Test.YtnnhhbjbdmgpiaaGreatDoorJ23
set_option linter.unusedSimpArgs false
set_option linter.unusedVariables false
namespace Go.Proofs.YtnnhhbjbdmgpiaaGreatDoor
set_option maxRecDepth 100000
set_option maxHeartbeats 4000000
open Lib (hid)
section
open Go.RowKit
theorem Cf.within_in(v:Int)(n:Nat):Cf.aI v (n+1)=Cf.inB v 0 n:=by
 rw[Bool.eq_iff_iff]
 simp[Cf.aI,Cf.inB]
 omega
theorem Dj(k:Cf.ag)(a:KA)(x:Cf.End)(w:World)(hR:KRd w a k)(h8:k.nodes.length=8)(h6:k.pipes.length=6):
  Calls Tryz.prog 75 #[.agg (af a k).toArray,.agg (bH x).toArray] w fun e w'=>e = .returned (.bool (Cf.fZ k x))∧Below w.heap.size w w':=by
 obtain⟨kd,nd,po⟩:=x
 obtain⟨A,ca,M,cm,N,cn,S,cs,Q,cq⟩:=a
 have hb0:∀o o':Obj,Below w.heap.size w ((w.alloc o).alloc o'):=fun o o'=>((Below.refl _ _).alloc (Nat.le_refl _) o).alloc (by simp) o'
 have HW:=hid (fun v lo hi W=>dY v lo hi W)
 rcases hR.nodes with h|⟨b,off,hA,hb,hc⟩
 ·rw[h]at h8;simp at h8
 simp only at hA
 subst hA
 have HC:=hid hc
 simp only[af,bH,h8,h6]
 clear hR hc
 by_cases h0:kd=0
 ·have HZ:=hid (show Cf.fZ k ⟨kd,nd,po⟩=(decide (nd=0) && decide (po=0)) by
   unfold Cf.fZ
   rw[if_neg (by show ¬kd=1;omega),if_neg (by show ¬(kd=2∨kd=3);omega)]
   simp[Cf.noEnd,h0])
  rw[HZ.out]
  subst h0
  by_cases hn:nd=0
  ·subst hn
   go_enter Tryz.func75,Tryz.ntmps75
   go_wp2
   go_ret
   exact⟨dX (by rw[Bool.eq_iff_iff];simp),hb0 _ _⟩
  ·go_enter Tryz.func75,Tryz.ntmps75
   go_wp2
   go_ret
   exact⟨dX (by simp[hn]),hb0 _ _⟩
 ·by_cases h1:kd=1
  ·have HZ:=hid (show Cf.fZ k ⟨kd,nd,po⟩=(Cf.inB nd 0 7 && (Cf.fM k.nodes nd && Cf.inB po 0 100)) by
    unfold Cf.fZ
    rw[if_pos h1,h8,Cf.within_in nd 7,Cf.within_in po 100]
    rfl)
   rw[HZ.out]
   subst h1
   cases hw:Cf.inB nd 0 7
   ·have HW1:=hid (fun W=>HW.out nd 0 7 W)
    rw[hw]at HW1
    clear hw HZ HW
    go_enter Tryz.func75,Tryz.ntmps75
    go_wp2_with fail
    refine(HW1.out _).mono ?_
    rintro e w' ⟨rfl,rfl⟩
    go_wp2
    go_ret
    exact⟨rfl,hb0 _ _⟩
   ·have HW1:=hid (fun W=>HW.out nd 0 7 W)
    rw[hw]at HW1
    have HW2:=hid (fun W=>HW.out po 0 100 W)
    obtain⟨hw0,hw1⟩:0≤nd∧nd≤7:=by simpa [Cf.inB] using hw
    obtain⟨m,rfl⟩:∃m:Nat,nd=m:=⟨nd.toNat,by omega⟩
    obtain⟨n,hx⟩:∃n,k.nodes[m]?=some n:=⟨_,List.getElem?_eq_getElem (by omega)⟩
    have HU:=hid (show Cf.fM k.nodes (m:Int) = !decide (n.kind=0) by unfold Cf.fM;rw[Int.toNat_natCast,hx];rfl)
    rw[HU.out]
    have r1:∀o o':Obj,((w.alloc o).alloc o').cell? ⟨b,off+m*4+1,none⟩=some (.int .i64 n.kind):=fun o o'=>((hb0 o o').cell (p:=⟨b,off+m*4+1,none⟩) hb).trans (HC.out m n hx 1 _ rfl)
    clear hw HZ HU hx HW HC
    generalize n.kind=nk at *
    generalize Cf.inB po 0 100=q at *
    by_cases hk:nk=0
    ·subst hk
     go_enter Tryz.func75,Tryz.ntmps75
     go_wp2_with fail
     refine(HW1.out _).mono ?_
     rintro e w' ⟨rfl,rfl⟩
     go_wp2
     go_ret
     exact⟨rfl,hb0 _ _⟩
    ·go_enter Tryz.func75,Tryz.ntmps75
     go_wp2_with fail
     refine(HW1.out _).mono ?_
     rintro e w' ⟨rfl,rfl⟩
     go_wp2_with fail
     refine(HW2.out _).mono ?_
     rintro e w' ⟨rfl,rfl⟩
     go_wp2
     go_ret
     exact⟨dX (by simp[hk]),hb0 _ _⟩
  ·by_cases h2:kd=2∨kd=3
   ·have HZ:=hid (show Cf.fZ k ⟨kd,nd,po⟩=(Cf.inB nd 0 5 && decide (po=0)) by
     unfold Cf.fZ
     rw[if_neg (by show ¬kd=1;omega),if_pos h2,h6,Cf.within_in nd 5]
     rfl)
    rw[HZ.out]
    clear HZ h0 h1
    have HW1:=hid (fun W=>HW.out nd 0 5 W)
    generalize Cf.inB nd 0 5=q at *
    have key:∀kk:Int,kk=2∨kk=3→kd=kk→Calls Tryz.prog 75 #[.agg #[.slice A k.mods.length ca,.slice M k.mem.length cm,.slice (some ⟨b,off,none⟩) 8 cn,.slice S 6 cs,.slice Q k.procs.length cq],.agg #[.int .i64 kd,.int .i64 nd,.int .i64 po]] w fun e w'=>e = .returned (.bool (q && decide (po=0)))∧Below w.heap.size w w':=by
     rintro kk (rfl|rfl) rfl
     all_goals
      clear h2 HW
      cases q
      ·go_enter Tryz.func75,Tryz.ntmps75
       go_wp2_with fail
       refine(HW1.out _).mono ?_
       rintro e w' ⟨rfl,rfl⟩
       go_wp2
       go_ret
       exact⟨rfl,hb0 _ _⟩
      ·go_enter Tryz.func75,Tryz.ntmps75
       go_wp2_with fail
       refine(HW1.out _).mono ?_
       rintro e w' ⟨rfl,rfl⟩
       go_wp2
       go_ret
       exact⟨dX (by rw[Bool.true_and,Bool.eq_iff_iff];simp),hb0 _ _⟩
    exact key kd h2 rfl
   ·have HZ:=hid (show Cf.fZ k ⟨kd,nd,po⟩=false by
     unfold Cf.fZ
     rw[if_neg (by show ¬kd=1;omega),if_neg h2]
     simp[Cf.noEnd,h0])
    rw[HZ.out]
    have h3:¬kd=2:=fun h=>h2 (.inl h)
    have h4:¬kd=3:=fun h=>h2 (.inr h)
    clear h2 HZ
    go_enter Tryz.func75,Tryz.ntmps75
    go_wp2
    go_ret
    exact⟨rfl,hb0 _ _⟩
end
section
open Go.RowKit
theorem Cf.within_sub(v:Int)(n:Nat):Cf.aI v n=Cf.inB v 0 ((n:Int)-1):=by
 rw[Bool.eq_iff_iff]
 simp[Cf.aI,Cf.inB]
 omega
theorem Cf.name_first{k:Cf.ag}{i:Nat}{n:Cf.Node}(hi:k.nodes[i]?=some n)(hn:n.name≠[])(h:∀j m,j<i→k.nodes[j]?=some m→m.name≠n.name):Cf.bK k n.name i=Cf.nameB n.name:=by
 have h1:Cf.aJ (Cf.aQ n.name) k.nodes=i:=by
  refine Cf.jI hi (by simp[Cf.aQ,hn]) ?_
  rw[List.any_eq_false]
  intro m hm
  obtain⟨j,hj⟩:=List.mem_iff_getElem?.1 hm
  rw[List.getElem?_take]at hj
  split at hj
  ·rename_i hji
   simp[Cf.aQ,h j m hji hj]
  ·cases hj
 simp[Cf.bK,hn,h1]
theorem Cf.name_twice{k:Cf.ag}{i j:Nat}{n m:Cf.Node}(hn:n.name≠[])(hj:j<i)(hm:k.nodes[j]?=some m)(he:m.name=n.name):Cf.bK k n.name i=false:=by
 have h1:Cf.aJ (Cf.aQ n.name) k.nodes≠i:=by
  rcases Cf.bQ (Cf.aQ n.name) k.nodes with ⟨_,h⟩|⟨q,x,hq,hx,hb,hall⟩
  ·omega
  ·rw[hq]
   intro h
   have hqi:q=i:=by omega
   subst hqi
   have:=List.any_eq_false.1 hall m (List.mem_of_getElem? (i:=j) (by rw[List.getElem?_take,if_pos hj];exact hm))
   simp[Cf.aQ,he,hn]at this
 simp[Cf.bK,hn,h1]
def sZ(w:World)(cs ns:List Value)(w':World):Prop:=Wb w' w.heap.size ae cs∧Wb w' (w.heap.size+1) 57 ns∧Below w.heap.size w w'
theorem sZ.next{w:World}{cs ns:List Value}{w' w2:World}(h:sZ w cs ns w')(hb:Below w'.heap.size w' w2):sZ w cs ns w2:=⟨h.1.below hb h.1.lt,h.2.1.below hb h.2.1.lt,h.2.2.trans (hb.mono h.2.2.size)⟩
theorem jq(w:World)(n:Nat):Below w.heap.size w (w.drewN n):=below_drewN (Below.refl _ _) n
theorem Bf(k:Cf.ag)(a:KA)(i:Nat)(n:Cf.Node)(w:World)(hR:KRd w a k)(hf:kU k)(hi:k.nodes[i]?=some n):
  Calls Tryz.prog 74 #[.agg (af a k).toArray,.int .i64 i] w fun e w'=>e = .returned (.bool (Cf.bI k.mods.length n && (Cf.aW n || Cf.bK k n.name i)))∧Below w.heap.size w w':=by
 obtain⟨A,ca,M,cm,N,cn,S,cs,Q,cq⟩:=a
 have HRd:=hid hR
 have HF:=hid hf
 have HI:=hid hi
 have hil:=(List.getElem?_eq_some_iff.1 hi).1
 have hml:=hf.nodes
 have hmm:=hf.mods
 unfold big at hml hmm
 rcases hR.nodes with h|⟨b,off,hA,hb,hc⟩
 ·rw[h]at hi;simp at hi
 simp only at hA
 subst hA
 obtain⟨nm,kd,da,un⟩:=n
 have HC:=hid hc
 have r0:w.cell? ⟨b,off+i*4,none⟩=some (.string ⟨nm.toArray⟩):=hc i _ hi 0 _ rfl
 have r1:w.cell? ⟨b,off+i*4+1,none⟩=some (.int .i64 kd):=hc i _ hi 1 _ rfl
 have r2:w.cell? ⟨b,off+i*4+2,none⟩=some (.string ⟨da.toArray⟩):=hc i _ hi 2 _ rfl
 have r3:w.cell? ⟨b,off+i*4+3,none⟩=some (.int .i64 un):=hc i _ hi 3 _ rfl
 have hnl:=uJ (hf.node _ (List.mem_of_getElem? hi)).1
 simp only at hnl
 have HW:=hid (fun v lo hi W=>dY v lo hi W)
 obtain⟨KC,hKC⟩:∃KC,KC=af ⟨A,ca,M,cm,some ⟨b,off,none⟩,cn,S,cs,Q,cq⟩ k:=⟨_,rfl⟩
 have HKC:=hid hKC
 have hK0:sZ w KC [.string ⟨nm.toArray⟩,.int .i64 kd,.string ⟨da.toArray⟩,.int .i64 un] ((w.alloc (.cells KC.toArray ae)).alloc (.cells #[.string ⟨nm.toArray⟩,.int .i64 kd,.string ⟨da.toArray⟩,.int .i64 un] 57)):=
  ⟨(Wb.new w ae KC).alloc _,by have:=Wb.new (w.alloc (.cells KC.toArray ae)) 57 [.string ⟨nm.toArray⟩,.int .i64 kd,.string ⟨da.toArray⟩,.int .i64 un];simpa using this,((Below.refl _ _).alloc (Nat.le_refl _) _).alloc (by simp) _⟩
 have HK0:=hid hK0
 have HQ:=hid (show ∀W,Wb W w.heap.size ae KC→W.cell? ⟨w.heap.size,2,none⟩=some (.slice (some ⟨b,off,none⟩) k.nodes.length cn) from fun W hW=>by rw[hKC]at hW;exact hW.cell 2)
 have HB0:=hid hK0.2.2
 rw[hKC]at HB0
 clear hR hf hi hc hK0 hKC
 simp only[af]at HB0 ⊢
 by_cases h0:kd=0
 ·have HZ:=hid (show(Cf.bI k.mods.length ⟨nm,kd,da,un⟩ && (Cf.aW ⟨nm,kd,da,un⟩ || Cf.bK k nm i))=((decide (nm=[]) && decide (da=[])) && decide (un=0)) by
   unfold Cf.bI
   rw[if_neg (by show ¬kd=1;omega),if_neg (by show ¬kd=2;omega)]
   simp[Cf.aW,Cf.bM,h0,Bool.and_assoc])
  rw[HZ.out]
  subst h0
  clear HW HQ HK0 HC
  by_cases hn:nm=[]
  ·subst hn
   by_cases hd:da=[]
   ·subst hd
    go_enter Tryz.func74,Tryz.ntmps74
    go_wp2
    go_ret
    exact⟨dX (by rw[Bool.eq_iff_iff];simp),HB0.out⟩
   ·go_enter Tryz.func74,Tryz.ntmps74
    go_wp2
    go_ret
    exact⟨dX (by simp),HB0.out⟩
  ·go_enter Tryz.func74,Tryz.ntmps74
   go_wp2
   go_ret
   exact⟨dX (by simp[hn]),HB0.out⟩
 ·have HW1:=hid (fun W=>HW.out kd 1 2 W)
  by_cases h1:kd=1
  ·have HZ:=hid (show(Cf.bI k.mods.length ⟨nm,kd,da,un⟩ && (Cf.aW ⟨nm,kd,da,un⟩ || Cf.bK k nm i))=((decide (un=0) && decide (da.length≤100)) && Cf.bK k nm i) by
    unfold Cf.bI
    rw[if_pos h1]
    simp[Cf.aW,h0])
   rw[HZ.out]
   have hin:Cf.inB kd 1 2=true:=by simp[Cf.inB,h1]
   rw[hin]at HW1
   subst h1
   clear h0 hin HZ HW
   by_cases hu:un=0
   ·subst hu
    by_cases hd:da.length≤100
    ·rw[decide_eq_true rfl,decide_eq_true hd,Bool.true_and,Bool.true_and]
     have DC:=hid (show sZ w KC [.string ⟨nm.toArray⟩,.int .i64 1,.string ⟨da.toArray⟩,.int .i64 0] ((w.alloc (.cells #[.slice A k.mods.length ca,.slice M k.mem.length cm,.slice (some ⟨b,off,none⟩) k.nodes.length cn,.slice S k.pipes.length cs,.slice Q k.procs.length cq] ae)).alloc (.cells #[.string ⟨nm.toArray⟩,.int .i64 1,.string ⟨da.toArray⟩,.int .i64 0] 57)) by have:=HK0.out;rw[HKC.out]at this ⊢;exact this)
     by_cases hn:nm=[]
     ·have HZ2:=hid (show Cf.bK k nm i=Cf.hasB k.procs 1 i by simp[Cf.bK,hn])
      rw[HZ2.out]
      have HH:=hid (fun W (hW:Below w.heap.size w W)=>ve k ⟨A,ca,M,cm,some ⟨b,off,none⟩,cn,S,cs,Q,cq⟩ 1 i W (HRd.out.below hW) HF.out)
      simp only[af]at HH
      generalize Cf.hasB k.procs 1 i=z at *
      subst hn
      clear HC HK0 DC HQ HI HZ2
      go_enter Tryz.func74,Tryz.ntmps74
      go_wp2_with fail
      refine(HW1.out _).mono ?_
      rintro e w' ⟨rfl,rfl⟩
      go_wp2_with fail
      refine(HH.out _ HB0.out).mono ?_
      rintro e w2 ⟨rfl,hb2⟩
      have hbw:=HB0.out.trans (hb2.mono HB0.out.size)
      clear hb2 HH HB0
      go_wp2
      go_ret
      exact⟨rfl,hbw⟩
     ·have hs:¬nm.isEmpty=true:=by simpa using hn
      have HnN:=hid hn
      clear hn
      have HN:=hid (fun W=>kD nm hnl W)
      go_enter Tryz.func74,Tryz.ntmps74
      go_wp2_with fail
      refine(HW1.out _).mono ?_
      rintro e w' ⟨rfl,rfl⟩
      go_wp2
      go_loopw [6] (fun x wr=>∃j:Nat,j≤i∧x = .int .i64 j∧(∀q m,q<j→k.nodes[q]?=some m→m.name≠nm)∧sZ w KC [.string ⟨nm.toArray⟩,.int .i64 1,.string ⟨da.toArray⟩,.int .i64 0] wr) (fun x _=>i-(intOf x).toNat)
      case atStart=>exact⟨0,by omega,rfl,(fun q m hq=>by omega),DC.out⟩
      case round=>
       obtain⟨j,hj,rfl,hall,hK⟩:=hrel
       clear DC HK0 r0 r1 r2 r3
       have aX:=hid hall
       have HK:=hid hK
       have c2:=HQ.out _ hK.1
       have p0:=hK.2.1.cell 0
       simp only[List.getElem?_cons_zero]at p0
       have hl1:=hK.1.lt
       have hl2:=hK.2.1.lt
       clear hall hK
       by_cases hlt:j<i
       ·obtain⟨m,hm⟩:∃m,k.nodes[j]?=some m:=⟨_,List.getElem?_eq_getElem (by omega)⟩
        have s0:wr.cell? ⟨b,off+j*4,none⟩=some (.string ⟨m.name.toArray⟩):=(HK.out.2.2.cell hb).trans (HC.out j _ hm 0 _ rfl)
        by_cases he:m.name=nm
        ·have HT:=hid (show Cf.bK k nm i=false from Cf.name_twice (n:=⟨nm,1,da,0⟩) HnN.out hlt hm he)
         rw[he]at s0
         clear hm he
         go_wp2_with fail
         go_quiet (fail)
         go_wp2
         go_ret
         exact⟨dX HT.out.symm,below_drewN HK.out.2.2 _⟩
        ·have he':¬(m.name == nm)=true:=by simpa using he
         have HOn:=hid (show ∀q m,q<j+1→k.nodes[q]?=some m→m.name≠nm from fun q m' hq hm'=>by
          rcases Nat.lt_succ_iff_lt_or_eq.1 hq with h|h
          ·exact aX.out q m' h hm'
          ·rw[h,hm]at hm'
           cases hm'
           exact he)
         clear hm he
         generalize m.name=s2 at *
         go_wp2_with fail
         go_quiet (fail)
         go_wp2
         go_roundw
         case rel=>exact⟨j+1,by omega,by go_num,HOn.out,HK.out.next (jq _ _)⟩
         case measure=>simp[intOf];omega
       ·have HT:=hid (show Cf.bK k nm i=Cf.nameB nm from Cf.name_first (n:=⟨nm,1,da,0⟩) HI.out HnN.out fun q m hq=>aX.out q m (by omega))
        go_wp2_with fail
        refine(HN.out _).mono ?_
        rintro e w' ⟨rfl,rfl⟩
        go_wp2
        go_ret
        exact⟨dX HT.out.symm,HK.out.2.2⟩
    ·rw[decide_eq_false hd,Bool.and_false,Bool.false_and]
     clear HQ HK0 HC
     go_enter Tryz.func74,Tryz.ntmps74
     go_wp2_with fail
     refine(HW1.out _).mono ?_
     rintro e w' ⟨rfl,rfl⟩
     go_wp2
     go_ret
     exact⟨rfl,HB0.out⟩
   ·rw[decide_eq_false hu,Bool.false_and,Bool.false_and]
    clear HQ HK0 HC
    go_enter Tryz.func74,Tryz.ntmps74
    go_wp2_with fail
    refine(HW1.out _).mono ?_
    rintro e w' ⟨rfl,rfl⟩
    go_wp2
    go_ret
    exact⟨rfl,HB0.out⟩
  ·by_cases h2:kd=2
   ·have HZ:=hid (show(Cf.bI k.mods.length ⟨nm,kd,da,un⟩ && (Cf.aW ⟨nm,kd,da,un⟩ || Cf.bK k nm i))=((decide (da=[]) && Cf.inB un 0 ((k.mods.length:Int)-1)) && Cf.bK k nm i) by
     unfold Cf.bI
     rw[if_neg h1,if_pos h2,Cf.within_sub]
     simp[Cf.aW,h0])
    rw[HZ.out]
    have hin:Cf.inB kd 1 2=true:=by simp[Cf.inB,h2]
    rw[hin]at HW1
    have HW2:=hid (fun W=>HW.out un 0 ((k.mods.length:Int)-1) W)
    subst h2
    clear h0 h1 hin HZ HW
    by_cases hd:da=[]
    ·subst hd
     cases hq:Cf.inB un 0 ((k.mods.length:Int)-1)
     ·rw[hq]at HW2
      rw[Bool.and_false,Bool.false_and]
      clear HQ HK0 HC hq
      go_enter Tryz.func74,Tryz.ntmps74
      go_wp2_with fail
      refine(HW1.out _).mono ?_
      rintro e w' ⟨rfl,rfl⟩
      go_wp2_with fail
      refine(HW2.out _).mono ?_
      rintro e w' ⟨rfl,rfl⟩
      go_wp2
      go_ret
      exact⟨rfl,HB0.out⟩
     ·rw[hq]at HW2
      rw[decide_eq_true rfl,Bool.true_and,Bool.true_and]
      clear hq
      have DC:=hid (show sZ w KC [.string ⟨nm.toArray⟩,.int .i64 2,.string ⟨#[]⟩,.int .i64 un] ((w.alloc (.cells #[.slice A k.mods.length ca,.slice M k.mem.length cm,.slice (some ⟨b,off,none⟩) k.nodes.length cn,.slice S k.pipes.length cs,.slice Q k.procs.length cq] ae)).alloc (.cells #[.string ⟨nm.toArray⟩,.int .i64 2,.string ⟨#[]⟩,.int .i64 un] 57)) by have:=HK0.out;rw[HKC.out]at this ⊢;exact this)
      by_cases hn:nm=[]
      ·have HZ2:=hid (show Cf.bK k nm i=Cf.hasB k.procs 1 i by simp[Cf.bK,hn])
       rw[HZ2.out]
       have HH:=hid (fun W (hW:Below w.heap.size w W)=>ve k ⟨A,ca,M,cm,some ⟨b,off,none⟩,cn,S,cs,Q,cq⟩ 1 i W (HRd.out.below hW) HF.out)
       simp only[af]at HH
       generalize Cf.hasB k.procs 1 i=z at *
       subst hn
       clear HC HK0 DC HQ HI HZ2
       go_enter Tryz.func74,Tryz.ntmps74
       go_wp2_with fail
       refine(HW1.out _).mono ?_
       rintro e w' ⟨rfl,rfl⟩
       go_wp2_with fail
       refine(HW2.out _).mono ?_
       rintro e w' ⟨rfl,rfl⟩
       go_wp2_with fail
       refine(HH.out _ HB0.out).mono ?_
       rintro e w2 ⟨rfl,hb2⟩
       have hbw:=HB0.out.trans (hb2.mono HB0.out.size)
       clear hb2 HH HB0
       go_wp2
       go_ret
       exact⟨rfl,hbw⟩
      ·have hs:¬nm.isEmpty=true:=by simpa using hn
       have HnN:=hid hn
       clear hn
       have HN:=hid (fun W=>kD nm hnl W)
       go_enter Tryz.func74,Tryz.ntmps74
       go_wp2_with fail
       refine(HW1.out _).mono ?_
       rintro e w' ⟨rfl,rfl⟩
       go_wp2_with fail
       refine(HW2.out _).mono ?_
       rintro e w' ⟨rfl,rfl⟩
       go_wp2
       go_loopw [6] (fun x wr=>∃j:Nat,j≤i∧x = .int .i64 j∧(∀q m,q<j→k.nodes[q]?=some m→m.name≠nm)∧sZ w KC [.string ⟨nm.toArray⟩,.int .i64 2,.string ⟨#[]⟩,.int .i64 un] wr) (fun x _=>i-(intOf x).toNat)
       case atStart=>exact⟨0,by omega,rfl,(fun q m hq=>by omega),DC.out⟩
       case round=>
        obtain⟨j,hj,rfl,hall,hK⟩:=hrel
        clear DC HK0 r0 r1 r2 r3
        have aX:=hid hall
        have HK:=hid hK
        have c2:=HQ.out _ hK.1
        have p0:=hK.2.1.cell 0
        simp only[List.getElem?_cons_zero]at p0
        have hl1:=hK.1.lt
        have hl2:=hK.2.1.lt
        clear hall hK
        by_cases hlt:j<i
        ·obtain⟨m,hm⟩:∃m,k.nodes[j]?=some m:=⟨_,List.getElem?_eq_getElem (by omega)⟩
         have s0:wr.cell? ⟨b,off+j*4,none⟩=some (.string ⟨m.name.toArray⟩):=(HK.out.2.2.cell hb).trans (HC.out j _ hm 0 _ rfl)
         by_cases he:m.name=nm
         ·have HT:=hid (show Cf.bK k nm i=false from Cf.name_twice (n:=⟨nm,2,[],un⟩) HnN.out hlt hm he)
          rw[he]at s0
          clear hm he
          go_wp2_with fail
          go_quiet (fail)
          go_wp2
          go_ret
          exact⟨dX HT.out.symm,below_drewN HK.out.2.2 _⟩
         ·have he':¬(m.name == nm)=true:=by simpa using he
          have HOn:=hid (show ∀q m,q<j+1→k.nodes[q]?=some m→m.name≠nm from fun q m' hq hm'=>by
           rcases Nat.lt_succ_iff_lt_or_eq.1 hq with h|h
           ·exact aX.out q m' h hm'
           ·rw[h,hm]at hm'
            cases hm'
            exact he)
          clear hm he
          generalize m.name=s2 at *
          go_wp2_with fail
          go_quiet (fail)
          go_wp2
          go_roundw
          case rel=>exact⟨j+1,by omega,by go_num,HOn.out,HK.out.next (jq _ _)⟩
          case measure=>simp[intOf];omega
        ·have HT:=hid (show Cf.bK k nm i=Cf.nameB nm from Cf.name_first (n:=⟨nm,2,[],un⟩) HI.out HnN.out fun q m hq=>aX.out q m (by omega))
         go_wp2_with fail
         refine(HN.out _).mono ?_
         rintro e w' ⟨rfl,rfl⟩
         go_wp2
         go_ret
         exact⟨dX HT.out.symm,HK.out.2.2⟩
    ·have hd':¬da.isEmpty=true:=by simpa using hd
     rw[decide_eq_false hd,Bool.false_and,Bool.false_and]
     clear HQ HK0 HC
     go_enter Tryz.func74,Tryz.ntmps74
     go_wp2_with fail
     refine(HW1.out _).mono ?_
     rintro e w' ⟨rfl,rfl⟩
     go_wp2
     go_ret
     exact⟨rfl,HB0.out⟩
   ·have HZ:=hid (show(Cf.bI k.mods.length ⟨nm,kd,da,un⟩ && (Cf.aW ⟨nm,kd,da,un⟩ || Cf.bK k nm i))=false by
     unfold Cf.bI
     rw[if_neg h1,if_neg h2]
     simp[Cf.bM,h0])
    rw[HZ.out]
    have hin:Cf.inB kd 1 2=false:=by
     cases hq:Cf.inB kd 1 2
     ·rfl
     ·have:1≤kd∧kd≤2:=by simpa [Cf.inB] using hq
      omega
    rw[hin]at HW1
    clear hin HZ HW HQ HK0 HC h1 h2
    go_enter Tryz.func74,Tryz.ntmps74
    go_wp2_with fail
    refine(HW1.out _).mono ?_
    rintro e w' ⟨rfl,rfl⟩
    go_wp2
    go_ret
    exact⟨rfl,HB0.out⟩
end
end Go.Proofs.YtnnhhbjbdmgpiaaGreatDoor
