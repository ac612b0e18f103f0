/- Texts of the proofs: OfR. -/
import Derived.Test.YtnnhhbjbdmgpiaaGreatDoorJ22
set_option linter.unusedSimpArgs false
set_option linter.unusedVariables false
namespace Go.Proofs.YtnnhhbjbdmgpiaaGreatDoor
set_option maxRecDepth 100000
set_option maxHeartbeats 4000000
open Lib (hid)
section
open Go.RowKit
theorem Dl{n k:Nat}(hk:k<n){r r':Cf.Rdr}{x:Cf.Ins}(hs:r.short=false)(hi:Cf.qZ r=⟨x,r'⟩){acc:List Cf.Ins}{g:Cf.Ba}(h:g=⟨acc++(Cf.iW (n-k) r).got,(Cf.iW (n-k) r).rdr⟩):
  g=⟨(acc++[x])++(Cf.iW (n-(k+1)) r').got,(Cf.iW (n-(k+1)) r').rdr⟩:=by
 rw[h,show n-k=(n-(k+1))+1 by omega,Cf.iW,if_neg (by simp[hs]),hi]
 simp
theorem uQ{n k:Nat}(hk:k<n){r r':Cf.Rdr}{v:Nat}(hs:r.short=false)(hi:Cf.ig r=⟨v,r'⟩){acc:List Int}{g:Cf.Ag}(h:g=⟨acc++(Cf.fE (n-k) r).got,(Cf.fE (n-k) r).rdr⟩):
  g=⟨(acc++[(v:Int)])++(Cf.fE (n-(k+1)) r').got,(Cf.fE (n-(k+1)) r').rdr⟩:=by
 rw[h,show n-k=(n-(k+1))+1 by omega,Cf.fE,if_neg (by simp[hs]),hi]
 simp
def Jw(w:World)(gi:Nat)(t:List UInt8)(nv:Value)(n:Nat)(s:Value)(wr:World):Prop:=
 ∃(k pos:Nat) (sh:Bool) (cv:Value) (acc:List Cf.Ins),k≤n∧s = .int .i64 (k:Int)∧OSt w gi t pos sh nv cv acc (.slice none 0 0) [] wr∧acc.length≤k∧Cf.fH t=⟨acc++(Cf.iW (n-k) ⟨t.drop pos,sh⟩).got,(Cf.iW (n-k) ⟨t.drop pos,sh⟩).rdr⟩
def DataRel(w:World)(gi:Nat)(t:List UInt8)(nv cv:Value)(code:List Cf.Ins)(n:Nat)(s:Value)(wr:World):Prop:=
 ∃(k pos:Nat) (sh:Bool) (dv:Value) (acc:List Int),k≤n∧s = .int .i64 (k:Int)∧OSt w gi t pos sh nv cv code dv acc wr∧acc.length≤k∧Cf.iH t=⟨acc++(Cf.fE (n-k) ⟨t.drop pos,sh⟩).got,(Cf.fE (n-k) ⟨t.drop pos,sh⟩).rdr⟩
set_option maxHeartbeats 20000000 in
theorem zB(s:List UInt8)(w:World)(hs:s.length≤maxLen):
  Calls Tryz.prog 40 #[.string ⟨s.toArray⟩] w (zk (Cf.fC s).mod (Cf.fC s).err w):=by
 unfold maxLen at hs
 have HT:=hid (Cf.G6 s)
 obtain⟨i1,hi1,hy0,hy1,hy2⟩:=info_parts Ii
 obtain⟨i0,hi,hz0,hz1,hz2⟩:=info_parts uk
 have Hi:=hid hi
 have Hz0:=hid hz0
 have Hz1:=hid hz1
 have Hz2:=hid hz2
 have Hi1:=hid hi1
 have Hy0:=hid hy0
 have Hy1:=hid hy1
 have Hy2:=hid hy2
 clear hi hz0 hz1 hz2 hi1 hy0 hy1 hy2
 have hmf:∀(fn:Fn) (first cap:Array Value) (w:World),(Instr.makeFunc fn first cap).run Tryz.prog w = .ok (.func fn first cap) w:=fun _ _ _ _=>rfl
 have hb0:Below w.heap.size w (w.alloc (.cells #[.string ⟨#[]⟩,.slice none 0 0,.slice none 0 0] 79)):=(Below.refl _ _).alloc (Nat.le_refl _) _
 by_cases h1:4000<s.length
 ·rw[if_pos h1]at HT
  go_enter Tryz.func40,Tryz.ntmps40
  go_wp2
  refine bodyPost_ret (v:=.tuple #[.agg #[.string ⟨#[]⟩,.slice none 0 0,.slice none 0 0],.int .i64 1]) (by simp[results,Tryz.results40,go_sem]) rfl ?_
  rw[HT.out]
  exact⟨none,none,0,0,rfl,.inl rfl,.inl rfl,hb0,.inl rfl,.inl rfl⟩
 ·rw[if_neg h1]at HT
  by_cases h2:s.length<4
  ·rw[if_pos h2]at HT
   go_enter Tryz.func40,Tryz.ntmps40
   go_wp2
   refine bodyPost_ret (v:=.tuple #[.agg #[.string ⟨#[]⟩,.slice none 0 0,.slice none 0 0],.int .i64 5]) (by simp[results,Tryz.results40,go_sem]) rfl ?_
   rw[HT.out]
   exact⟨none,none,0,0,rfl,.inl rfl,.inl rfl,hb0,.inl rfl,.inl rfl⟩
  ·rw[if_neg h2]at HT
   have s1:∀w,(Instr.slice 9 (.string ⟨s.toArray⟩) (some (.int .i64 4)) none none).run Tryz.prog w = .ok (.string ⟨(s.drop 4).toArray⟩) w:=ku s 4 (by omega)
   have s2:∀w,(Instr.slice 9 (.string ⟨s.toArray⟩) none (some (.int .i64 4)) none).run Tryz.prog w = .ok (.string ⟨(s.take 4).toArray⟩) w:=gu s 4 (by omega)
   have hbl:(s.drop 4).length≤4000:=by rw[List.length_drop];omega
   have HCk:=hid (fun W=>BN (s.drop 4) (by unfold maxLen;omega) W)
   generalize s.drop 4=t at *
   generalize s.take 4=tk at *
   have hx0:=(Wb.new w 79 [.string ⟨#[]⟩,.slice none 0 0,.slice none 0 0]).alloc (.cells #[.string ⟨t.toArray⟩] 9)
   have ht0:Wb ((w.alloc (.cells #[.string ⟨#[]⟩,.slice none 0 0,.slice none 0 0] 79)).alloc (.cells #[.string ⟨t.toArray⟩] 9)) (w.heap.size+1) 9 [.string ⟨t.toArray⟩]:=by
    have:=Wb.new (w.alloc (.cells #[.string ⟨#[]⟩,.slice none 0 0,.slice none 0 0] 79)) 9 [.string ⟨t.toArray⟩]
    simpa using this
   have MB:=hb0.alloc (by simp) (.cells #[.string ⟨t.toArray⟩] 9)
   have ct:=ht0.cell 0
   simp only[List.getElem?_cons_zero]at ct
   have Hx0:=hid hx0
   have Ht0:=hid ht0
   have Hb0:=hid MB
   clear hx0 ht0 MB hb0
   go_enter Tryz.func40,Tryz.ntmps40
   go_wp2_with fail
   generalize hwb:(w.alloc (.cells #[.string ⟨#[]⟩,.slice none 0 0,.slice none 0 0] 79)).alloc (.cells #[.string ⟨t.toArray⟩] 9)=wb at *
   clear hwb
   go_region_held3 (fun W=>W.cell? ⟨w.heap.size+1,0,none⟩=some (.string ⟨t.toArray⟩))
    (first|go_keep|exact(Wb.below (w:=wb.drew) (show Wb wb _ _ _ from Ht0.out) hb1 Ht0.out.lt).cell 0)
    (first|(go_at_call 77;(with_reducible refine(HCk.out _).mono ?_);rintro e w1 ⟨rfl,hb1⟩)|fail)
   have aO:Below w.heap.size w w1:=Hb0.out.drew.trans (hb1.mono Hb0.out.size)
   have Hx1:=hid (Wb.below (w:=wb.drew) (show Wb wb _ _ _ from Hx0.out) hb1 Hx0.out.lt)
   have Ht1:=hid (Wb.below (w:=wb.drew) (show Wb wb _ _ _ from Ht0.out) hb1 Ht0.out.lt)
   have hlt1:=Ht1.out.lt
   clear ct Hx0 Ht0 Hb0 hb1 HCk s1 s2
   by_cases hq:Cf.kG t=tk
   ·rw[if_neg (fun h=>h hq)]at HT
    have hq':(!(Cf.kG t == tk))=false:=by simp[hq]
    clear hq
    rw[hq']
    clear hq'
    generalize Cf.kG t=sl at *
    have MW:Wb (((w1.alloc (.cells #[.int .i64 0] 3)).alloc (.cells #[.bool false] 4)).alloc (.cells #[.string ⟨#[]⟩,.slice none 0 0,.slice none 0 0] 79)) (w1.heap.size+1) 4 [.bool false]:=by
     have:=(Wb.new (w1.alloc (.cells #[.int .i64 0] 3)) 4 [.bool false]).alloc (.cells #[.string ⟨#[]⟩,.slice none 0 0,.slice none 0 0] 79)
     simpa using this
    have ND:Wb (((w1.alloc (.cells #[.int .i64 0] 3)).alloc (.cells #[.bool false] 4)).alloc (.cells #[.string ⟨#[]⟩,.slice none 0 0,.slice none 0 0] 79)) (w1.heap.size+1+1) 79 [.string ⟨#[]⟩,.slice none 0 0,.slice none 0 0]:=by
     have:=Wb.new ((w1.alloc (.cells #[.int .i64 0] 3)).alloc (.cells #[.bool false] 4)) 79 [.string ⟨#[]⟩,.slice none 0 0,.slice none 0 0]
     simpa using this
    have HO:=hid (show OSt w w1.heap.size t 0 false (.string ⟨#[]⟩) (.slice none 0 0) [] (.slice none 0 0) [] (((w1.alloc (.cells #[.int .i64 0] 3)).alloc (.cells #[.bool false] 4)).alloc (.cells #[.string ⟨#[]⟩,.slice none 0 0,.slice none 0 0] 79)) from
     ⟨⟨((Wb.new w1 3 [.int .i64 0]).alloc _).alloc _,((Ht1.out.alloc _).alloc _).alloc _,MW⟩,by omega,ND,((Hx1.out.alloc _).alloc _).alloc _,World.ownsRow_nil _ _ _ _,World.ownsRow_nil _ _ _ _,((aO.alloc aO.size _).alloc (by have:=aO.size;simp;omega) _).alloc (by have:=aO.size;simp;omega) _,hlt1⟩)
    have HN:=hid (next_any w1.heap.size (w.heap.size+1) (w1.heap.size+1) t 0 false _ HO.out.ns (by omega) (by omega))
    clear MW ND Hx1 Ht1 aO
    go_wp2_with fail
    refine HN.out.mono ?_
    rintro e w2 ⟨rfl,hc2,wO,sh2,hp2,hn2,hr2⟩
    have HO2:=hid (HO.out.next hc2 hn2 hp2)
    have hF:Cf.dU t=Cf.aC 1 ⟨t.drop 0,false⟩:=by rw[List.drop_zero];rfl
    rw[← hF]at hr2 ⊢
    have hN1:(Cf.dU t).got≤255:=Cf.cO _
    have HAf:=hid (show Cf.kR t=⟨t.drop (wO+(Cf.dU t).got),sh2⟩ by unfold Cf.kR;rw[← hr2,List.drop_drop])
    have HNq:=hid (show Cf.dM t=(t.drop wO).take (Cf.dU t).got by unfold Cf.dM;rw[← hr2])
    have HRl:=hid (show(Cf.dU t).rdr.rest.length=t.length-wO by rw[← hr2,List.length_drop])
    have HRT:=hid (show Cf.kF t=_ from rfl)
    clear HN HO hc2 hn2 hF hr2 HRT
    have c0:=HO2.out.ns.i.cell 0
    have c1:=HO2.out.ns.t.cell 0
    obtain⟨z0,z1,z2, -, -⟩:=aS HO2.out.res
    have f0:=HO2.out.res.open_ 0
    have f1:=HO2.out.res.open_ 1
    have f2:=HO2.out.res.open_ 2
    simp only[gq]at c0 c1
    have hbw2:=HO2.out.below
    by_cases hsh:t.length<wO+(Cf.dU t).got
    ·have HR:=hid (show Cf.kF t=⟨Cf.bz,5⟩ by unfold Cf.kF;rw[if_pos (by rw[HRl.out];omega)])
     rw[HR.out]at HT
     generalize (Cf.dU t).got=N at *
     go_wp2
     refine bodyPost_ret (v:=.tuple #[.agg #[.string ⟨#[]⟩,.slice none 0 0,.slice none 0 0],.int .i64 5]) (by simp[results,Tryz.results40,go_sem,z0,z1,z2]) rfl ?_
     rw[HT.out]
     exact⟨none,none,0,0,rfl,.inl rfl,.inl rfl,((hbw2.setCell (Nat.le_refl _) _).setCell (Nat.le_refl _) _).setCell (Nat.le_refl _) _,.inl rfl,.inl rfl⟩
    ·have HRF:=hid (show Cf.kF t=if (Cf.iH t).rdr.short then⟨Cf.bz,5⟩ else if (Cf.iH t).rdr.rest≠[] then⟨Cf.bz,4⟩ else if Cf.cZ (Cf.tN t)=0 then⟨Cf.tN t,0⟩ else⟨Cf.bz,Cf.cZ (Cf.tN t)⟩ by unfold Cf.kF;rw[if_neg (by rw[HRl.out];omega)])
     have s3:∀w,(Instr.slice 9 (.string ⟨t.toArray⟩) (some (.int .i64 (wO:Int))) (some (.int .i64 ((wO:Int)+((Cf.dU t).got:Int)))) none).run Tryz.prog w = .ok (.string ⟨(Cf.dM t).toArray⟩) w:=by
      have:=EP t wO (wO+(Cf.dU t).got) (by omega) (by omega)
      rw[HNq.out]
      simpa using this
     have hnl:(Cf.dM t).length≤255:=by rw[HNq.out,List.length_take];omega
     have y0:=HO2.out.box.cell 0
     have g0:=HO2.out.box.open_ 0
     have fi:=HO2.out.ns.i.open_ 0
     simp only[List.getElem?_cons_zero]at y0
     have hz2:=HO2.out.box.lt
     have HO3:=hid ((HO2.out.putName (.string ⟨(Cf.dM t).toArray⟩)).putPos (Cf.dU t).got (by omega) (.int .i64 ((wO:Int)+((Cf.dU t).got:Int))) (by simp))
     have HN4:=hid (next_any w1.heap.size (w.heap.size+1) (w1.heap.size+1) t _ sh2 _ HO3.out.ns HO3.out.hp (by omega))
     have hgN:w1.heap.size≠w1.heap.size+1+1:=by omega
     have hle:(wO:Int)+((Cf.dU t).got:Int)≤(t.length:Int):=by omega
     clear HO2 HNq z0 z1 z2 f0 f1 f2 hbw2 HRl
     generalize (Cf.dU t).got=N at *
     go_wp2_with fail
     refine HN4.out.mono ?_
     rintro e w4 ⟨rfl,hc4,pos4,sh4,hp4,hn4,hr4⟩
     have HO4:=hid (HO3.out.next hc4 hn4 hp4)
     rw[← HAf.out]at hr4 ⊢
     have hN4:(Cf.aC 1 (Cf.kR t)).got≤255:=Cf.cO _
     have HRC:=hid (show Cf.fH t=⟨[]++(Cf.iW ((Cf.aC 1 (Cf.kR t)).got-0) ⟨t.drop pos4,sh4⟩).got,(Cf.iW ((Cf.aC 1 (Cf.kR t)).got-0) ⟨t.drop pos4,sh4⟩).rdr⟩ by rw[hr4];rfl)
     clear HN4 HO3 hc4 hn4 hr4 HAf c0 c1 y0 g0 fi hz2 s3 hgN hp2
     generalize (Cf.aC 1 (Cf.kR t)).got=n at *
     go_wp2
     go_loopw [10] (fun i wr=>Jw w w1.heap.size t (.string ⟨(Cf.dM t).toArray⟩) n i wr) (fun i _=>n-(intOf i).toNat)
     case atStart=>exact⟨0,pos4,sh4,_,[],by omega,rfl,HO4.out,by simp,HRC.out⟩
     case round=>
      obtain⟨k,pos,sh,cv,acc,hk,rfl,hO,hal,hQ⟩:=hrel
      have HO:=hid hO
      have HQ:=hid hQ
      clear hO hQ HO4 HRC
      have c2:=HO.out.ns.s.cell 0
      simp only[List.getElem?_cons_zero]at c2
      by_cases hgo:k<n∧sh=false
      ·obtain⟨hlt,rfl⟩:=hgo
       have HX0:=hid (OX.new HO.out [.int .i64 0,.int .i64 0,.int .i64 0,.int .i64 0])
       have HNa:=hid (next_any w1.heap.size (w.heap.size+1) (w1.heap.size+1) t pos false _ HX0.out.st.ns HO.out.hp (by omega))
       clear HO
       go_wp2_with fail
       refine HNa.out.mono ?_
       rintro e wa ⟨rfl,hca,posa,sha,hpa,hna,hra⟩
       have HXa:=hid (HX0.out.next hca hna hpa)
       have hva:=Cf.cO ⟨t.drop pos,false⟩
       have Hra:=hid hra
       clear HNa HX0 hca hna hra c2
       have x0:=HXa.out.x.cell 0
       have e0:=HXa.out.x.open_ 0
       simp only[List.getElem?_cons_zero]at x0
       have LG:=hid (HXa.out.put 0 (.int .i64 ((Cf.aC 1 ⟨t.drop pos,false⟩).got:Int)))
       have HNb:=hid (next_any w1.heap.size (w.heap.size+1) (w1.heap.size+1) t posa sha _ LG.out.st.ns hpa (by omega))
       clear HXa
       go_wp2_with fail
       refine HNb.out.mono ?_
       rintro e wb ⟨rfl,hcb,posb,shb,hpb,hnb,hrb⟩
       have HXb:=hid (LG.out.next hcb hnb hpb)
       have hvb:=Cf.cO ⟨t.drop posa,sha⟩
       have Hrb:=hid hrb
       clear HNb LG hcb hnb hrb x0 e0
       have x1:=HXb.out.x.cell 1
       have x2:=HXb.out.x.cell 2
       have e1:=HXb.out.x.open_ 1
       have e2:=HXb.out.x.open_ 2
       simp only[List.set_cons_zero,gq]at x1 x2
       have La:=hid ((HXb.out.put 1 (.int .i64 (((Cf.aC 1 ⟨t.drop posa,sha⟩).got:Int) / 16))).put 2 (.int .i64 (((Cf.aC 1 ⟨t.drop posa,sha⟩).got:Int) % 16)))
       have HNc:=hid (next_any w1.heap.size (w.heap.size+1) (w1.heap.size+1) t posb shb _ La.out.st.ns hpb (by omega))
       clear HXb
       go_wp2_with fail
       refine HNc.out.mono ?_
       rintro e wc ⟨rfl,hcc,posc,shc,hpc,hnc,hrc⟩
       have HXc:=hid (La.out.next hcc hnc hpc)
       have hvc:=Cf.cO ⟨t.drop posb,shb⟩
       have Hrc:=hid hrc
       clear HNc La hcc hnc hrc x1 x2 e1 e2
       have x3:=HXc.out.x.cell 3
       have e3:=HXc.out.x.open_ 3
       simp only[List.set_cons_zero,List.set_cons_succ,gq]at x3
       have Jq:=hid (HXc.out.put 3 (.int .i64 (256*((Cf.aC 1 ⟨t.drop posb,shb⟩).got:Int))))
       clear HXc
       go_wp2_with fail
       generalize hwd:wc.setCell _ _=wd at *
       clear hwd x3 e3
       have x3:=Jq.out.x.cell 3
       simp only[List.set_cons_zero,List.set_cons_succ,gq]at x3
       have HNd:=hid (next_any w1.heap.size (w.heap.size+1) (w1.heap.size+1) t posc shc wd.drew Jq.out.drew.st.ns hpc (by omega))
       have Heg:Hid (∀args w,(callFunc 78 args).run Tryz.prog w = .ok (.enter 78 args) w):=hid (fun args w=>by simp[go_sem])
       have hvd:=Cf.cO ⟨t.drop posc,shc⟩
       have hwr:IntKind.i64.wrap (256*((Cf.aC 1 ⟨t.drop posb,shb⟩).got:Int)+((Cf.aC 1 ⟨t.drop posc,shc⟩).got:Int))=256*((Cf.aC 1 ⟨t.drop posb,shb⟩).got:Int)+((Cf.aC 1 ⟨t.drop posc,shc⟩).got:Int):=IntWalk.i64_in _ (by omega)
       go_region_law (first
        | (refine BR (by rfl) 78 (.tmp 82) #[] (by rfl) #[.pointer (some ⟨w1.heap.size,0,none⟩),.pointer (some ⟨w.heap.size+1,0,none⟩),.pointer (some ⟨w1.heap.size+1,0,none⟩)] (by rfl) Heg.out HNd.out ?_
           rintro e we ⟨rfl,hce,pose,she,hpe,hne,hre⟩
           refine⟨_,rfl,?_⟩
           have HXe:=hid (Jq.out.drew.next hce hne hpe)
           have Hre:=hid hre
           have k3:=HXe.out.x.cell 3
           have kf3:=HXe.out.x.open_ 3
           simp only[List.set_cons_zero,List.set_cons_succ,gq]at k3
           clear hce hne hre)
        | fail)
       all_goals
        have HXf:=hid (HXe.out.put 3 (.int .i64 (256*((Cf.aC 1 ⟨t.drop posb,shb⟩).got:Int)+((Cf.aC 1 ⟨t.drop posc,shc⟩).got:Int))))
        have HI:=hid (show Cf.qZ ⟨t.drop pos,false⟩=⟨⟨((Cf.aC 1 ⟨t.drop pos,false⟩).got:Int),((Cf.aC 1 ⟨t.drop posa,sha⟩).got:Int) / 16,((Cf.aC 1 ⟨t.drop posa,sha⟩).got:Int) % 16,256*((Cf.aC 1 ⟨t.drop posb,shb⟩).got:Int)+((Cf.aC 1 ⟨t.drop posc,shc⟩).got:Int)⟩,⟨t.drop pose,she⟩⟩ by
         unfold Cf.qZ Cf.ig
         rw[← Hra.out,← Hrb.out,← Hrc.out,← Hre.out]
         simp)
        have HQ2:=hid (Dl hlt rfl HI.out HQ.out)
        clear HNd Heg hwr HXe k3 kf3 x3 Jq HI HQ Hra Hrb Hrc Hre
        try rw[show IntKind.i64.wrap (256*((Cf.aC 1 ⟨t.drop posb,shb⟩).got:Int)+((Cf.aC 1 ⟨t.drop posc,shc⟩).got:Int))=256*((Cf.aC 1 ⟨t.drop posb,shb⟩).got:Int)+((Cf.aC 1 ⟨t.drop posc,shc⟩).got:Int) from IntWalk.i64_in _ (by omega)]
        generalize hwf:we.setCell _ _=wf at *
        clear hwf
        generalize ((Cf.aC 1 ⟨t.drop pos,false⟩).got:Int)=v1 at *
        generalize ((Cf.aC 1 ⟨t.drop posa,sha⟩).got:Int)=v2 at *
        generalize ((Cf.aC 1 ⟨t.drop posb,shb⟩).got:Int)=v3 at *
        generalize ((Cf.aC 1 ⟨t.drop posc,shc⟩).got:Int)=v4 at *
        have x0:=HXf.out.x.cell 0
        have x1:=HXf.out.x.cell 1
        have x2:=HXf.out.x.cell 2
        have x3:=HXf.out.x.cell 3
        have b1:=HXf.out.st.box.cell 1
        have bl:=HXf.out.st.box.lt
        simp only[List.set_cons_zero,List.set_cons_succ,gq]at x0 x1 x2 x3 b1
        obtain⟨Ac,cc,rfl⟩:=aP HXf.out.st.code
        have HSt:=hid HXf.out.st
        clear HXf
        go_wp2_with (at_builtin;refine bg rfl _ _ 77 rfl (w1.heap.size+1+1+1) 121 i0 (.agg #[.int .i64 0,.int .i64 0,.int .i64 0,.int .i64 0]) 4 32 Tryz.underlying77 Hi.out Hz0.out Hz1.out Hz2.out rfl (by decide) lZ LZ _ _ _ rfl (HSt.out.alloc _).code (some ⟨wf.heap.size,0,none⟩) 1 [⟨v1,v2 / 16,v2 % 16,256*v3+v4⟩] rfl (Fh wf _ _ _ _ _) (by unfold maxLen;simp;omega) (by simp;omega) (by have:=HSt.out.box.lt;simp;omega) ?_)
        intro v5 w5 hown hgr _
        obtain⟨A5,c5,rfl⟩:=aP hown
        have hbx:=OSt.boxC (HSt.out.alloc _) hgr
        have k1:=hbx.cell 1
        have kf1:=hbx.open_ 1
        simp only[gq]at k1
        have Ap:=hid (OSt.putCode (code':=acc++[⟨v1,v2 / 16,v2 % 16,256*v3+v4⟩]) (HSt.out.alloc _) (by rw[List.length_append,List.flatMap_append];exact hown) hgr (fun k hk=>by cases hk))
        clear hbx hown hgr HSt x0 x1 x2 x3 b1
        go_wp2
        go_roundw
        case rel=>exact⟨k+1,pose,she,_,acc++[⟨v1,v2 / 16,v2 % 16,256*v3+v4⟩],by omega,by go_num,Ap.out,by simp;omega,HQ2.out⟩
        case measure=>simp[intOf];omega
      ·have HC:=hid (show Cf.fH t=⟨acc,⟨t.drop pos,sh⟩⟩ by
        rw[HQ.out]
        by_cases hlt:k<n
        ·have hs:sh=true:=by
          cases sh
          ·exact absurd ⟨hlt,rfl⟩ hgo
          ·rfl
         rw[Cf.tu (by exact hs)]
         simp
        ·rw[show n-k=0 by omega]
         simp[Cf.iW])
       have HNg:=hid (next_any w1.heap.size (w.heap.size+1) (w1.heap.size+1) t pos sh wr HO.out.ns HO.out.hp (by omega))
       have hcl:acc.length≤255:=by omega
       clear HQ
       by_cases hlt:k<n
       ·have hs:sh=true:=by
         cases sh
         ·exact absurd ⟨hlt,rfl⟩ hgo
         ·rfl
        rw[hs]at c2
        clear hgo hs
        go_wp2_with fail
        refine HNg.out.mono ?_
        rintro e w6 ⟨rfl,hc6,pos6,sh6,hp6,hn6,hr6⟩
        have HO6:=hid (HO.out.next hc6 hn6 hp6)
        have HCr:=hid (show(Cf.fH t).rdr=⟨t.drop pos,sh⟩ by rw[HC.out])
        rw[← HCr.out]at hr6 ⊢
        have hN6:(Cf.aC 1 (Cf.fH t).rdr).got≤255:=Cf.cO _
        have HRD:=hid (show Cf.iH t=⟨[]++(Cf.fE ((Cf.aC 1 (Cf.fH t).rdr).got-0) ⟨t.drop pos6,sh6⟩).got,(Cf.fE ((Cf.aC 1 (Cf.fH t).rdr).got-0) ⟨t.drop pos6,sh6⟩).rdr⟩ by rw[hr6];rfl)
        clear HNg HO hc6 hn6 hr6 HCr c2 hk hal hlt
        generalize (Cf.aC 1 (Cf.fH t).rdr).got=m at *
        go_wp2
        go_loopw [13] (fun i wr=>DataRel w w1.heap.size t (.string ⟨(Cf.dM t).toArray⟩) cv acc m i wr) (fun i _=>m-(intOf i).toNat)
        case atStart=>exact⟨0,pos6,sh6,_,[],by omega,rfl,HO6.out,by simp,HRD.out⟩
        case round=>
         obtain⟨k,pos,sh,dv,da,hk,rfl,hO,hal,hQ⟩:=hrel
         have HO:=hid hO
         have HQ:=hid hQ
         clear hO hQ HO6 HRD
         have c2:=HO.out.ns.s.cell 0
         simp only[List.getElem?_cons_zero]at c2
         by_cases hgo:k<m∧sh=false
         ·obtain⟨hlt,rfl⟩:=hgo
          have HNa:=hid (next_any w1.heap.size (w.heap.size+1) (w1.heap.size+1) t pos false wr HO.out.ns HO.out.hp (by omega))
          go_wp2_with fail
          refine HNa.out.mono ?_
          rintro e wa ⟨rfl,hca,posa,sha,hpa,hna,hra⟩
          have HOa:=hid (HO.out.next hca hna hpa)
          have hva:=Cf.cO ⟨t.drop pos,false⟩
          have Hra:=hid hra
          have HNb:=hid (next_any w1.heap.size (w.heap.size+1) (w1.heap.size+1) t posa sha wa HOa.out.ns hpa (by omega))
          clear HNa HO hca hna hra c2
          go_wp2_with fail
          refine HNb.out.mono ?_
          rintro e wb ⟨rfl,hcb,posb,shb,hpb,hnb,hrb⟩
          have HOb:=hid (HOa.out.next hcb hnb hpb)
          have hvb:=Cf.cO ⟨t.drop posa,sha⟩
          have HI:=hid (show Cf.ig ⟨t.drop pos,false⟩=⟨256*(Cf.aC 1 ⟨t.drop pos,false⟩).got+(Cf.aC 1 ⟨t.drop posa,sha⟩).got,⟨t.drop posb,shb⟩⟩ by
           unfold Cf.ig
           rw[← Hra.out,hrb])
          have HQ2:=hid (uQ hlt rfl HI.out HQ.out)
          clear HNb HOa hcb hnb hrb Hra HI HQ
          generalize (Cf.aC 1 ⟨t.drop pos,false⟩).got=v1 at *
          generalize (Cf.aC 1 ⟨t.drop posa,sha⟩).got=v2 at *
          have b1:=HOb.out.box.cell 2
          have bl:=HOb.out.box.lt
          simp only[gq]at b1
          obtain⟨Ac,cc,rfl⟩:=aP HOb.out.data
          go_wp2_with (at_builtin;refine bg rfl _ _ 23 rfl (w1.heap.size+1+1+1) 3 i1 (.int .i64 0) 1 8 Tryz.underlying23 Hi1.out Hy0.out Hy1.out Hy2.out rfl (by decide) dL Iw _ _ _ rfl (HOb.out.alloc _).data (some ⟨wb.heap.size,0,none⟩) 1 [256*(v1:Int)+(v2:Int)] rfl (Ae wb _ _) (by unfold maxLen;simp;omega) (by simp;omega) (by have:=HOb.out.box.lt;simp;omega) ?_)
          intro v5 w5 hown hgr _
          obtain⟨A5,c5,rfl⟩:=aP hown
          have hbx:=OSt.boxD (HOb.out.alloc _) hgr
          have k1:=hbx.cell 2
          have kf1:=hbx.open_ 2
          simp only[gq]at k1
          have Ap:=hid (OSt.putData (data':=da++[((256*v1+v2:Nat):Int)]) (HOb.out.alloc _) (by rw[List.length_append,List.flatMap_append];exact hown) hgr (rows_apart HOb.out.code HOb.out.data xM))
          clear hbx hown hgr HOb b1
          go_wp2
          go_roundw
          case rel=>exact⟨k+1,posb,shb,_,da++[((256*v1+v2:Nat):Int)],by omega,by go_num,Ap.out,by simp;omega,HQ2.out⟩
          case measure=>simp[intOf];omega
         ·have HD:=hid (show Cf.iH t=⟨da,⟨t.drop pos,sh⟩⟩ by
           rw[HQ.out]
           by_cases hlt:k<m
           ·have hs:sh=true:=by
             cases sh
             ·exact absurd ⟨hlt,rfl⟩ hgo
             ·rfl
            rw[Cf.lM (by exact hs)]
            simp
           ·rw[show m-k=0 by omega]
            simp[Cf.fE])
          have HM:=hid (show Cf.tN t=⟨Cf.dM t,acc,da⟩ by unfold Cf.tN;rw[HC.out,HD.out])
          have HFin:=hid (show Cf.fC s=if sh then⟨Cf.bz,5⟩ else if t.drop pos≠[] then⟨Cf.bz,4⟩ else if Cf.cZ ⟨Cf.dM t,acc,da⟩=0 then⟨⟨Cf.dM t,acc,da⟩,0⟩ else⟨Cf.bz,Cf.cZ ⟨Cf.dM t,acc,da⟩⟩ by rw[HT.out,HRF.out,HD.out,HM.out])
          clear HQ HD HM
          have hdl:da.length≤255:=by omega
          have hbr:=HO.out.below
          have c0:=HO.out.ns.i.cell 0
          have c1:=HO.out.ns.t.cell 0
          obtain⟨z0,z1,z2, -, -⟩:=aS HO.out.res
          have f0:=HO.out.res.open_ 0
          have f1:=HO.out.res.open_ 1
          have f2:=HO.out.res.open_ 2
          have y0:=HO.out.box.cell 0
          have y1:=HO.out.box.cell 1
          have y2:=HO.out.box.cell 2
          simp only[gq]at c0 c1 y0 y1 y2
          by_cases hlt:k<m
          ·obtain rfl:sh=true:=by
            cases sh
            ·exact absurd ⟨hlt,rfl⟩ hgo
            ·rfl
           have HE:=hid (show Cf.fC s=⟨Cf.bz,5⟩ by rw[HFin.out,if_pos rfl])
           clear hgo
           go_wp2
           refine bodyPost_ret (v:=.tuple #[.agg #[.string ⟨#[]⟩,.slice none 0 0,.slice none 0 0],.int .i64 5]) (by simp[results,Tryz.results40,go_sem,z0,z1,z2]) rfl ?_
           rw[HE.out]
           exact⟨none,none,0,0,rfl,.inl rfl,.inl rfl,((hbr.setCell (Nat.le_refl _) _).setCell (Nat.le_refl _) _).setCell (Nat.le_refl _) _,.inl rfl,.inl rfl⟩
          ·clear hgo
           cases sh
           ·have hpp:=HO.out.hp
            by_cases hpl:pos<t.length
            ·have HE:=hid (show Cf.fC s=⟨Cf.bz,4⟩ by rw[HFin.out,if_neg (by simp),if_pos (by intro e;have:=congrArg List.length e;rw[List.length_drop,List.length_nil]at this;omega)])
             go_wp2
             refine bodyPost_ret (v:=.tuple #[.agg #[.string ⟨#[]⟩,.slice none 0 0,.slice none 0 0],.int .i64 4]) (by simp[results,Tryz.results40,go_sem,z0,z1,z2]) rfl ?_
             rw[HE.out]
             exact⟨none,none,0,0,rfl,.inl rfl,.inl rfl,((hbr.setCell (Nat.le_refl _) _).setCell (Nat.le_refl _) _).setCell (Nat.le_refl _) _,.inl rfl,.inl rfl⟩
            ·have HE0:=hid (show Cf.fC s=if Cf.cZ ⟨Cf.dM t,acc,da⟩=0 then⟨⟨Cf.dM t,acc,da⟩,0⟩ else⟨Cf.bz,Cf.cZ ⟨Cf.dM t,acc,da⟩⟩ by rw[HFin.out,if_neg (by simp),if_neg (fun h=>h (List.drop_of_length_le (by omega)))])
             obtain⟨Ac,cc,rfl⟩:=aP HO.out.code
             obtain⟨Ad,cd,rfl⟩:=aP HO.out.data
             obtain⟨hoC,hoD,hfC,hfD⟩:=HO.out.out
             have HoC:=hid hoC
             have HoD:=hid hoD
             have HfC:=hid hfC
             have HfD:=hid hfD
             have HFt:=hid (kJ (Cf.dM t) acc da Ac Ad cc cd wr hoC hoD (by unfold maxLen;omega) (by unfold maxLen;omega) (by unfold maxLen;omega))
             clear hoC hoD hfC hfD HFin
             go_wp2_with fail
             refine HFt.out.mono ?_
             rintro e w9 ⟨rfl,hb9⟩
             have NJ:=HO.out.lt
             have HO9:=hid (HO.out.more hb9)
             have KX:=hid (HoC.out.below hb9)
             have LC:=hid (HoD.out.below hb9)
             clear HFt HO HoC HoD hb9 hbr c0 c1 z0 z1 z2 f0 f1 f2 y0 y1 y2
             have hbr:=HO9.out.below
             obtain⟨z0,z1,z2, -, -⟩:=aS HO9.out.res
             have f0:=HO9.out.res.open_ 0
             have f1:=HO9.out.res.open_ 1
             have f2:=HO9.out.res.open_ 2
             have y0:=HO9.out.box.cell 0
             have y1:=HO9.out.box.cell 1
             have y2:=HO9.out.box.cell 2
             simp only[gq]at y0 y1 y2
             by_cases hm:Cf.cZ ⟨Cf.dM t,acc,da⟩=0
             ·have HE:=hid (HE0.out.trans (if_pos hm))
              rw[hm]
              clear hm HE0
              go_wp2
              refine bodyPost_ret (v:=.tuple #[.agg #[.string ⟨(Cf.dM t).toArray⟩,.slice Ac acc.length cc,.slice Ad da.length cd],.int .i64 0]) (by simp[results,Tryz.results40,go_sem,z0,z1,z2]) rfl ?_
              rw[HE.out]
              exact⟨Ac,Ad,cc,cd,rfl,bF (bF (bF KX.out HfC.out (p:=⟨w.heap.size,0,none⟩) (by show w.heap.size<_;omega) _) HfC.out (p:=⟨w.heap.size,1,none⟩) (by show w.heap.size<_;omega) _) HfC.out (p:=⟨w.heap.size,2,none⟩) (by show w.heap.size<_;omega) _,
               bF (bF (bF LC.out HfD.out (p:=⟨w.heap.size,0,none⟩) (by show w.heap.size<_;omega) _) HfD.out (p:=⟨w.heap.size,1,none⟩) (by show w.heap.size<_;omega) _) HfD.out (p:=⟨w.heap.size,2,none⟩) (by show w.heap.size<_;omega) _,
               ((hbr.setCell (Nat.le_refl _) _).setCell (Nat.le_refl _) _).setCell (Nat.le_refl _) _,HfC.out.mono (by omega),HfD.out.mono (by omega)⟩
             ·have HE:=hid (HE0.out.trans (if_neg hm))
              have hm':(Cf.cZ ⟨Cf.dM t,acc,da⟩ != 0)=true:=by simp[hm]
              clear hm HE0
              generalize Cf.cZ ⟨Cf.dM t,acc,da⟩=em at *
              go_wp2
              refine bodyPost_ret (v:=.tuple #[.agg #[.string ⟨#[]⟩,.slice none 0 0,.slice none 0 0],.int .i64 em]) (by simp[results,Tryz.results40,go_sem,z0,z1,z2]) rfl ?_
              rw[HE.out]
              exact⟨none,none,0,0,rfl,.inl rfl,.inl rfl,((hbr.setCell (Nat.le_refl _) _).setCell (Nat.le_refl _) _).setCell (Nat.le_refl _) _,.inl rfl,.inl rfl⟩
           ·have HE:=hid (show Cf.fC s=⟨Cf.bz,5⟩ by rw[HFin.out,if_pos rfl])
            go_wp2
            refine bodyPost_ret (v:=.tuple #[.agg #[.string ⟨#[]⟩,.slice none 0 0,.slice none 0 0],.int .i64 5]) (by simp[results,Tryz.results40,go_sem,z0,z1,z2]) rfl ?_
            rw[HE.out]
            exact⟨none,none,0,0,rfl,.inl rfl,.inl rfl,((hbr.setCell (Nat.le_refl _) _).setCell (Nat.le_refl _) _).setCell (Nat.le_refl _) _,.inl rfl,.inl rfl⟩
       ·clear hgo
        go_wp2_with fail
        refine HNg.out.mono ?_
        rintro e w6 ⟨rfl,hc6,pos6,sh6,hp6,hn6,hr6⟩
        have HO6:=hid (HO.out.next hc6 hn6 hp6)
        have HCr:=hid (show(Cf.fH t).rdr=⟨t.drop pos,sh⟩ by rw[HC.out])
        rw[← HCr.out]at hr6 ⊢
        have hN6:(Cf.aC 1 (Cf.fH t).rdr).got≤255:=Cf.cO _
        have HRD:=hid (show Cf.iH t=⟨[]++(Cf.fE ((Cf.aC 1 (Cf.fH t).rdr).got-0) ⟨t.drop pos6,sh6⟩).got,(Cf.fE ((Cf.aC 1 (Cf.fH t).rdr).got-0) ⟨t.drop pos6,sh6⟩).rdr⟩ by rw[hr6];rfl)
        clear HNg HO hc6 hn6 hr6 HCr c2 hk hal hlt
        generalize (Cf.aC 1 (Cf.fH t).rdr).got=m at *
        go_wp2
        go_loopw [13] (fun i wr=>DataRel w w1.heap.size t (.string ⟨(Cf.dM t).toArray⟩) cv acc m i wr) (fun i _=>m-(intOf i).toNat)
        case atStart=>exact⟨0,pos6,sh6,_,[],by omega,rfl,HO6.out,by simp,HRD.out⟩
        case round=>
         obtain⟨k,pos,sh,dv,da,hk,rfl,hO,hal,hQ⟩:=hrel
         have HO:=hid hO
         have HQ:=hid hQ
         clear hO hQ HO6 HRD
         have c2:=HO.out.ns.s.cell 0
         simp only[List.getElem?_cons_zero]at c2
         by_cases hgo:k<m∧sh=false
         ·obtain⟨hlt,rfl⟩:=hgo
          have HNa:=hid (next_any w1.heap.size (w.heap.size+1) (w1.heap.size+1) t pos false wr HO.out.ns HO.out.hp (by omega))
          go_wp2_with fail
          refine HNa.out.mono ?_
          rintro e wa ⟨rfl,hca,posa,sha,hpa,hna,hra⟩
          have HOa:=hid (HO.out.next hca hna hpa)
          have hva:=Cf.cO ⟨t.drop pos,false⟩
          have Hra:=hid hra
          have HNb:=hid (next_any w1.heap.size (w.heap.size+1) (w1.heap.size+1) t posa sha wa HOa.out.ns hpa (by omega))
          clear HNa HO hca hna hra c2
          go_wp2_with fail
          refine HNb.out.mono ?_
          rintro e wb ⟨rfl,hcb,posb,shb,hpb,hnb,hrb⟩
          have HOb:=hid (HOa.out.next hcb hnb hpb)
          have hvb:=Cf.cO ⟨t.drop posa,sha⟩
          have HI:=hid (show Cf.ig ⟨t.drop pos,false⟩=⟨256*(Cf.aC 1 ⟨t.drop pos,false⟩).got+(Cf.aC 1 ⟨t.drop posa,sha⟩).got,⟨t.drop posb,shb⟩⟩ by
           unfold Cf.ig
           rw[← Hra.out,hrb])
          have HQ2:=hid (uQ hlt rfl HI.out HQ.out)
          clear HNb HOa hcb hnb hrb Hra HI HQ
          generalize (Cf.aC 1 ⟨t.drop pos,false⟩).got=v1 at *
          generalize (Cf.aC 1 ⟨t.drop posa,sha⟩).got=v2 at *
          have b1:=HOb.out.box.cell 2
          have bl:=HOb.out.box.lt
          simp only[gq]at b1
          obtain⟨Ac,cc,rfl⟩:=aP HOb.out.data
          go_wp2_with (at_builtin;refine bg rfl _ _ 23 rfl (w1.heap.size+1+1+1) 3 i1 (.int .i64 0) 1 8 Tryz.underlying23 Hi1.out Hy0.out Hy1.out Hy2.out rfl (by decide) dL Iw _ _ _ rfl (HOb.out.alloc _).data (some ⟨wb.heap.size,0,none⟩) 1 [256*(v1:Int)+(v2:Int)] rfl (Ae wb _ _) (by unfold maxLen;simp;omega) (by simp;omega) (by have:=HOb.out.box.lt;simp;omega) ?_)
          intro v5 w5 hown hgr _
          obtain⟨A5,c5,rfl⟩:=aP hown
          have hbx:=OSt.boxD (HOb.out.alloc _) hgr
          have k1:=hbx.cell 2
          have kf1:=hbx.open_ 2
          simp only[gq]at k1
          have Ap:=hid (OSt.putData (data':=da++[((256*v1+v2:Nat):Int)]) (HOb.out.alloc _) (by rw[List.length_append,List.flatMap_append];exact hown) hgr (rows_apart HOb.out.code HOb.out.data xM))
          clear hbx hown hgr HOb b1
          go_wp2
          go_roundw
          case rel=>exact⟨k+1,posb,shb,_,da++[((256*v1+v2:Nat):Int)],by omega,by go_num,Ap.out,by simp;omega,HQ2.out⟩
          case measure=>simp[intOf];omega
         ·have HD:=hid (show Cf.iH t=⟨da,⟨t.drop pos,sh⟩⟩ by
           rw[HQ.out]
           by_cases hlt:k<m
           ·have hs:sh=true:=by
             cases sh
             ·exact absurd ⟨hlt,rfl⟩ hgo
             ·rfl
            rw[Cf.lM (by exact hs)]
            simp
           ·rw[show m-k=0 by omega]
            simp[Cf.fE])
          have HM:=hid (show Cf.tN t=⟨Cf.dM t,acc,da⟩ by unfold Cf.tN;rw[HC.out,HD.out])
          have HFin:=hid (show Cf.fC s=if sh then⟨Cf.bz,5⟩ else if t.drop pos≠[] then⟨Cf.bz,4⟩ else if Cf.cZ ⟨Cf.dM t,acc,da⟩=0 then⟨⟨Cf.dM t,acc,da⟩,0⟩ else⟨Cf.bz,Cf.cZ ⟨Cf.dM t,acc,da⟩⟩ by rw[HT.out,HRF.out,HD.out,HM.out])
          clear HQ HD HM
          have hdl:da.length≤255:=by omega
          have hbr:=HO.out.below
          have c0:=HO.out.ns.i.cell 0
          have c1:=HO.out.ns.t.cell 0
          obtain⟨z0,z1,z2, -, -⟩:=aS HO.out.res
          have f0:=HO.out.res.open_ 0
          have f1:=HO.out.res.open_ 1
          have f2:=HO.out.res.open_ 2
          have y0:=HO.out.box.cell 0
          have y1:=HO.out.box.cell 1
          have y2:=HO.out.box.cell 2
          simp only[gq]at c0 c1 y0 y1 y2
          by_cases hlt:k<m
          ·obtain rfl:sh=true:=by
            cases sh
            ·exact absurd ⟨hlt,rfl⟩ hgo
            ·rfl
           have HE:=hid (show Cf.fC s=⟨Cf.bz,5⟩ by rw[HFin.out,if_pos rfl])
           clear hgo
           go_wp2
           refine bodyPost_ret (v:=.tuple #[.agg #[.string ⟨#[]⟩,.slice none 0 0,.slice none 0 0],.int .i64 5]) (by simp[results,Tryz.results40,go_sem,z0,z1,z2]) rfl ?_
           rw[HE.out]
           exact⟨none,none,0,0,rfl,.inl rfl,.inl rfl,((hbr.setCell (Nat.le_refl _) _).setCell (Nat.le_refl _) _).setCell (Nat.le_refl _) _,.inl rfl,.inl rfl⟩
          ·clear hgo
           cases sh
           ·have hpp:=HO.out.hp
            by_cases hpl:pos<t.length
            ·have HE:=hid (show Cf.fC s=⟨Cf.bz,4⟩ by rw[HFin.out,if_neg (by simp),if_pos (by intro e;have:=congrArg List.length e;rw[List.length_drop,List.length_nil]at this;omega)])
             go_wp2
             refine bodyPost_ret (v:=.tuple #[.agg #[.string ⟨#[]⟩,.slice none 0 0,.slice none 0 0],.int .i64 4]) (by simp[results,Tryz.results40,go_sem,z0,z1,z2]) rfl ?_
             rw[HE.out]
             exact⟨none,none,0,0,rfl,.inl rfl,.inl rfl,((hbr.setCell (Nat.le_refl _) _).setCell (Nat.le_refl _) _).setCell (Nat.le_refl _) _,.inl rfl,.inl rfl⟩
            ·have HE0:=hid (show Cf.fC s=if Cf.cZ ⟨Cf.dM t,acc,da⟩=0 then⟨⟨Cf.dM t,acc,da⟩,0⟩ else⟨Cf.bz,Cf.cZ ⟨Cf.dM t,acc,da⟩⟩ by rw[HFin.out,if_neg (by simp),if_neg (fun h=>h (List.drop_of_length_le (by omega)))])
             obtain⟨Ac,cc,rfl⟩:=aP HO.out.code
             obtain⟨Ad,cd,rfl⟩:=aP HO.out.data
             obtain⟨hoC,hoD,hfC,hfD⟩:=HO.out.out
             have HoC:=hid hoC
             have HoD:=hid hoD
             have HfC:=hid hfC
             have HfD:=hid hfD
             have HFt:=hid (kJ (Cf.dM t) acc da Ac Ad cc cd wr hoC hoD (by unfold maxLen;omega) (by unfold maxLen;omega) (by unfold maxLen;omega))
             clear hoC hoD hfC hfD HFin
             go_wp2_with fail
             refine HFt.out.mono ?_
             rintro e w9 ⟨rfl,hb9⟩
             have NJ:=HO.out.lt
             have HO9:=hid (HO.out.more hb9)
             have KX:=hid (HoC.out.below hb9)
             have LC:=hid (HoD.out.below hb9)
             clear HFt HO HoC HoD hb9 hbr c0 c1 z0 z1 z2 f0 f1 f2 y0 y1 y2
             have hbr:=HO9.out.below
             obtain⟨z0,z1,z2, -, -⟩:=aS HO9.out.res
             have f0:=HO9.out.res.open_ 0
             have f1:=HO9.out.res.open_ 1
             have f2:=HO9.out.res.open_ 2
             have y0:=HO9.out.box.cell 0
             have y1:=HO9.out.box.cell 1
             have y2:=HO9.out.box.cell 2
             simp only[gq]at y0 y1 y2
             by_cases hm:Cf.cZ ⟨Cf.dM t,acc,da⟩=0
             ·have HE:=hid (HE0.out.trans (if_pos hm))
              rw[hm]
              clear hm HE0
              go_wp2
              refine bodyPost_ret (v:=.tuple #[.agg #[.string ⟨(Cf.dM t).toArray⟩,.slice Ac acc.length cc,.slice Ad da.length cd],.int .i64 0]) (by simp[results,Tryz.results40,go_sem,z0,z1,z2]) rfl ?_
              rw[HE.out]
              exact⟨Ac,Ad,cc,cd,rfl,bF (bF (bF KX.out HfC.out (p:=⟨w.heap.size,0,none⟩) (by show w.heap.size<_;omega) _) HfC.out (p:=⟨w.heap.size,1,none⟩) (by show w.heap.size<_;omega) _) HfC.out (p:=⟨w.heap.size,2,none⟩) (by show w.heap.size<_;omega) _,
               bF (bF (bF LC.out HfD.out (p:=⟨w.heap.size,0,none⟩) (by show w.heap.size<_;omega) _) HfD.out (p:=⟨w.heap.size,1,none⟩) (by show w.heap.size<_;omega) _) HfD.out (p:=⟨w.heap.size,2,none⟩) (by show w.heap.size<_;omega) _,
               ((hbr.setCell (Nat.le_refl _) _).setCell (Nat.le_refl _) _).setCell (Nat.le_refl _) _,HfC.out.mono (by omega),HfD.out.mono (by omega)⟩
             ·have HE:=hid (HE0.out.trans (if_neg hm))
              have hm':(Cf.cZ ⟨Cf.dM t,acc,da⟩ != 0)=true:=by simp[hm]
              clear hm HE0
              generalize Cf.cZ ⟨Cf.dM t,acc,da⟩=em at *
              go_wp2
              refine bodyPost_ret (v:=.tuple #[.agg #[.string ⟨#[]⟩,.slice none 0 0,.slice none 0 0],.int .i64 em]) (by simp[results,Tryz.results40,go_sem,z0,z1,z2]) rfl ?_
              rw[HE.out]
              exact⟨none,none,0,0,rfl,.inl rfl,.inl rfl,((hbr.setCell (Nat.le_refl _) _).setCell (Nat.le_refl _) _).setCell (Nat.le_refl _) _,.inl rfl,.inl rfl⟩
           ·have HE:=hid (show Cf.fC s=⟨Cf.bz,5⟩ by rw[HFin.out,if_pos rfl])
            go_wp2
            refine bodyPost_ret (v:=.tuple #[.agg #[.string ⟨#[]⟩,.slice none 0 0,.slice none 0 0],.int .i64 5]) (by simp[results,Tryz.results40,go_sem,z0,z1,z2]) rfl ?_
            rw[HE.out]
            exact⟨none,none,0,0,rfl,.inl rfl,.inl rfl,((hbr.setCell (Nat.le_refl _) _).setCell (Nat.le_refl _) _).setCell (Nat.le_refl _) _,.inl rfl,.inl rfl⟩
   ·rw[if_pos hq]at HT
    have hq':(!(Cf.kG t == tk))=true:=by simp[hq]
    clear hq
    rw[hq']
    clear hq'
    obtain⟨z0,z1,z2, -, -⟩:=aS Hx1.out
    have f0:=Hx1.out.open_ 0
    have f1:=Hx1.out.open_ 1
    have f2:=Hx1.out.open_ 2
    generalize Cf.kG t=sl at *
    go_wp2
    refine bodyPost_ret (v:=.tuple #[.agg #[.string ⟨#[]⟩,.slice none 0 0,.slice none 0 0],.int .i64 11]) (by simp[results,Tryz.results40,go_sem,z0,z1,z2]) rfl ?_
    rw[HT.out]
    exact⟨none,none,0,0,rfl,.inl rfl,.inl rfl,((aO.setCell (Nat.le_refl _) _).setCell (Nat.le_refl _) _).setCell (Nat.le_refl _) _,.inl rfl,.inl rfl⟩
end
end Go.Proofs.YtnnhhbjbdmgpiaaGreatDoor
