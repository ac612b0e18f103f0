/- Texts of the proofs: ParK, ParW, NwK, CpyK, CopyX. -/
import Derived.Test.YtnnhhbjbdmgpiaaGreatDoorJ10
import Derived.Test.YtnnhhbjbdmgpiaaGreatDoorJ20
import Derived.Test.YtnnhhbjbdmgpiaaGreatDoorJ06
set_option linter.unusedSimpArgs false
set_option linter.unusedVariables false
namespace Go.Proofs.YtnnhhbjbdmgpiaaGreatDoor
set_option maxRecDepth 100000
set_option maxHeartbeats 4000000
open Lib (hid)
section
open Go.RowKit
theorem F8(w:World)(t:TypeId)(x:Cf.Ins):bP (w.alloc (.cells #[.int .i64 x.op,.int .i64 x.a,.int .i64 x.b,.int .i64 x.c] t)) (some ⟨w.heap.size,0,none⟩) [x]:=
 .inr ⟨w.heap.size,0,rfl,by simp,fun k y hy j u hu=>by
  cases k with
  | succ k=>simp at hy
  | zero=>
    simp at hy
    subst hy
    rw[show 0+0*4+j=j by omega]
    exact((Wb.new w t (encI x)).cell j).trans hu⟩
theorem Jj(w:World)(t:TypeId)(z:Int):Ints (w.alloc (.cells #[.int .i64 z] t)) (some ⟨w.heap.size,0,none⟩) [z]:=
 .inr ⟨w.heap.size,0,rfl,by simp,fun k y hy j u hu=>by
  cases k with
  | succ k=>simp at hy
  | zero=>
    simp at hy
    subst hy
    rw[show 0+0*1+j=j by omega]
    exact((Wb.new w t (encZ z)).cell j).trans hu⟩
theorem DU:∀x,∀u∈encI x,u.oneCell'=true:=by
 intro x u hu
 simp[encI]at hu
 rcases hu with rfl|rfl|rfl|rfl<;>rfl
theorem J9:∀x,∀u∈encZ x,u.oneCell'=true:=by
 intro x u hu
 simp[encZ]at hu
 subst hu
 rfl
theorem xu:(Tryz.prog.info? 3).map (fun i=>(i.zero,i.size,i.bytes))=some (some (.int .i64 0),1,8):=by kernel_rfl
theorem rH{w w':World}{base n size:Nat}{e:TypeId}{v:Value}{xs:List Value}{row:Option Nat}(h:w.ownsRow base e size v n xs)(hg:w.grownBy w' row)(hne:∀k,v.ownBlock=some k→row≠some k):w'.ownsRow base e size v n xs:=by
 refine World.ownsRow.kept h hg ?_
 cases hv:v.ownBlock with
 | none=>exact .inl rfl
 | some k=>exact .inr (Ne.symm (hne k hv))
theorem xY{w:World}{base base' n n' size size':Nat}{e e':TypeId}{v v':Value}{xs xs':List Value}(h:w.ownsRow base e size v n xs)(h':w.ownsRow base' e' size' v' n' xs')(hne:e≠e'):∀k,v.ownBlock=some k→v'.ownBlock≠some k:=by
 intro k hk hk'
 rcases h.2 with ⟨rfl,_⟩|⟨g,cap,cur,rfl,_,hh,_⟩
 ·cases hk
 ·rcases h'.2 with ⟨rfl,_⟩|⟨g',cap',cur',rfl,_,hh',_⟩
  ·cases hk'
  ·simp[Value.ownBlock]at hk hk'
   subst hk
   subst hk'
   have h2:=Option.some.inj (Eq.trans (Eq.symm hh) hh')
   injection h2 with _ ht
   exact hne ht
theorem lm:(121:TypeId)≠79:=by decide
theorem AA:(121:TypeId)≠180:=by decide
theorem lK:(3:TypeId)≠79:=by decide
theorem zK:(3:TypeId)≠180:=by decide
theorem AB:(121:TypeId)≠3:=by decide
structure PSt(w:World)(r:Cf.Rdr)(nv cv:Value)(code:List Cf.Ins)(dv:Value)(data:List Int)(wr:World):Prop where
 rd:RB wr (w.heap.size+1) r
 box:Wb wr (w.heap.size+1+1) 79 [nv,cv,dv]
 res:Wb wr w.heap.size 79 [.string ⟨#[]⟩,.slice none 0 0,.slice none 0 0]
 code:wr.ownsRow w.heap.size 121 4 cv code.length (code.flatMap encI)
 data:Row wr w.heap.size dv data
 below:Below w.heap.size w wr
section
variable {w:World} {r r':Cf.Rdr} {nv cv dv:Value} {code:List Cf.Ins} {data:List Int} {wr w':World}
theorem PSt.read(h:PSt w r nv cv code dv data wr)(hr:RB w' (w.heap.size+1) r')(hg:wr.grownBy w' (some (w.heap.size+1))):PSt w r' nv cv code dv data w':=
 ⟨hr,h.box.grown hg (by intro e;injection e with e;omega),h.res.grown hg (by intro e;injection e with e;omega),
   rH h.code hg (fun k hk e=>ax h.code h.rd AA (hk.trans e.symm)),rH h.data hg (fun k hk e=>ax h.data h.rd zK (hk.trans e.symm)),
   h.below.grown hg h.below.size (fun k hk=>by injection hk with hk;omega)⟩
theorem PSt.more(h:PSt w r nv cv code dv data wr)(hb:Below wr.heap.size wr w'):PSt w r nv cv code dv data w':=
 ⟨h.rd.below hb h.rd.lt,h.box.below hb h.box.lt,h.res.below hb h.res.lt,own_below h.code hb,own_below h.data hb,h.below.trans (hb.mono h.below.size)⟩
theorem PSt.alloc(h:PSt w r nv cv code dv data wr)(o:Obj):PSt w r nv cv code dv data (wr.alloc o):=h.more ((Below.refl _ _).alloc (Nat.le_refl _) o)
theorem PSt.drew(h:PSt w r nv cv code dv data wr):PSt w r nv cv code dv data wr.drew:=h.more (Below.refl _ _).drew
theorem PSt.putName(h:PSt w r nv cv code dv data wr)(v:Value):PSt w r v cv code dv data (wr.setCell ⟨w.heap.size+1+1,0,none⟩ v):=
 ⟨h.rd.off_ (p:=⟨w.heap.size+1+1,0,none⟩) (by show w.heap.size+1≠w.heap.size+1+1;omega) _,h.box.put 0 v,h.res.off_ (p:=⟨w.heap.size+1+1,0,none⟩) (by show w.heap.size≠w.heap.size+1+1;omega) _,
   aj h.code (ax h.code h.box lm) _,aj h.data (ax h.data h.box lK) _,h.below.setCell (by show w.heap.size≤w.heap.size+1+1;omega) _⟩
theorem PSt.putCode{v':Value}{code':List Cf.Ins}(h:PSt w r nv cv code dv data wr)(hown:w'.ownsRow w.heap.size 121 4 v' code'.length (code'.flatMap encI))(hg:wr.grownBy w' cv.ownBlock):PSt w r nv v' code' dv data (w'.setCell ⟨w.heap.size+1+1,1,none⟩ v'):=by
 have hbox:=h.box.grown hg (ax h.code h.box lm)
 have hrd:RB w' (w.heap.size+1) r:=h.rd.grown hg (ax h.code h.rd AA)
 have hdat:Row w' w.heap.size dv data:=rH h.data hg (fun k hk=>xY h.data h.code (Ne.symm AB) k hk)
 exact⟨hrd.off_ (p:=⟨w.heap.size+1+1,1,none⟩) (by show w.heap.size+1≠w.heap.size+1+1;omega) _,hbox.put 1 v',(h.res.grown hg (ax h.code h.res lm)).off_ (p:=⟨w.heap.size+1+1,1,none⟩) (by show w.heap.size≠w.heap.size+1+1;omega) _,
  aj hown (ax hown hbox lm) _,aj hdat (ax hdat hbox lK) _,(h.below.grown hg h.below.size (fun k hk=>bZ h.code k hk)).setCell (by show w.heap.size≤w.heap.size+1+1;omega) _⟩
theorem PSt.putData{v':Value}{data':List Int}(h:PSt w r nv cv code dv data wr)(hown:Row w' w.heap.size v' data')(hg:wr.grownBy w' dv.ownBlock):PSt w r nv cv code v' data' (w'.setCell ⟨w.heap.size+1+1,2,none⟩ v'):=by
 have hbox:=h.box.grown hg (ax h.data h.box lK)
 have hrd:RB w' (w.heap.size+1) r:=h.rd.grown hg (ax h.data h.rd zK)
 have GH:=rH h.code hg (fun k hk=>xY h.code h.data AB k hk)
 exact⟨hrd.off_ (p:=⟨w.heap.size+1+1,2,none⟩) (by show w.heap.size+1≠w.heap.size+1+1;omega) _,hbox.put 2 v',(h.res.grown hg (ax h.data h.res lK)).off_ (p:=⟨w.heap.size+1+1,2,none⟩) (by show w.heap.size≠w.heap.size+1+1;omega) _,
  aj GH (ax GH hbox lm) _,aj hown (ax hown hbox lK) _,(h.below.grown hg h.below.size (fun k hk=>bZ h.data k hk)).setCell (by show w.heap.size≤w.heap.size+1+1;omega) _⟩
theorem PSt.dataZ(h:PSt w r nv cv code dv data wr):wr.ownsRow w.heap.size 3 1 dv data.length (data.flatMap encZ):=by
 have:=h.data
 unfold Row at this
 rwa [qX]at this
theorem PSt.out{A B:Option Addr}{ca cb:Nat}(h:PSt w r nv (.slice A code.length ca) code (.slice B data.length cb) data wr)(a b c:Value):
  bP (((wr.setCell ⟨w.heap.size,0,none⟩ a).setCell ⟨w.heap.size,1,none⟩ b).setCell ⟨w.heap.size,2,none⟩ c) A code∧Ints (((wr.setCell ⟨w.heap.size,0,none⟩ a).setCell ⟨w.heap.size,1,none⟩ b).setCell ⟨w.heap.size,2,none⟩ c) B data ∧
   Below w.heap.size w (((wr.setCell ⟨w.heap.size,0,none⟩ a).setCell ⟨w.heap.size,1,none⟩ b).setCell ⟨w.heap.size,2,none⟩ c)∧dN w.heap.size A code∧dN w.heap.size B data:=by
 have h1:=ax h.code h.res lm
 have h2:=ax h.dataZ h.res lK
 exact⟨jm lZ (aj (aj (aj h.code h1 a) h1 b) h1 c),jm dL (aj (aj (aj h.dataZ h2 a) h2 b) h2 c),
  ((h.below.setCell (Nat.le_refl _) a).setCell (Nat.le_refl _) b).setCell (Nat.le_refl _) c,iQ h.code rfl,iQ h.dataZ rfl⟩
theorem PSt.boxC(h:PSt w r nv cv code dv data wr)(hg:wr.grownBy w' cv.ownBlock):Wb w' (w.heap.size+1+1) 79 [nv,cv,dv]:=h.box.grown hg (ax h.code h.box lm)
theorem PSt.boxD(h:PSt w r nv cv code dv data wr)(hg:wr.grownBy w' dv.ownBlock):Wb w' (w.heap.size+1+1) 79 [nv,cv,dv]:=h.box.grown hg (ax h.data h.box lK)
end
end
section
open Go.RowKit
def zk(m:Cf.Mod)(er:Int)(w:World)(e:Ending)(w':World):Prop:=
 ∃(A B:Option Addr) (ca cb:Nat),e = .returned (.tuple #[.agg #[.string ⟨m.name.toArray⟩,.slice A m.code.length ca,.slice B m.data.length cb],.int .i64 er])∧bP w' A m.code∧Ints w' B m.data∧Below w.heap.size w w'∧dN w.heap.size A m.code∧dN w.heap.size B m.data
theorem uS:∀(k:Nat) (r:Cf.Rdr),(Cf.bC k r).rdr.rest.length≤r.rest.length
 | 0,r=>Nat.le_refl _
 | k+1,r=>by
   have h:=uS k r
   have h1:=iU 1 (Cf.bC k r).rdr
   have h2:=iU 1 (Cf.aC 1 (Cf.bC k r).rdr).rdr
   have h3:=iU 2 (Cf.aC 1 (Cf.aC 1 (Cf.bC k r).rdr).rdr).rdr
   show(Cf.iG (Cf.bC k r).rdr).rdr.rest.length≤_
   unfold Cf.iG
   dsimp only
   omega
theorem wC:∀(k:Nat) (r:Cf.Rdr),(Cf.bV k r).rdr.rest.length≤r.rest.length
 | 0,r=>Nat.le_refl _
 | k+1,r=>by
   have h:=wC k r
   have h1:=iU 2 (Cf.bV k r).rdr
   show(Cf.aC 2 (Cf.bV k r).rdr).rdr.rest.length≤_
   omega
theorem parse_any(body:List UInt8)(w:World)(hl:body.length≤maxLen):
  Calls Tryz.prog 131 #[.string ⟨body.toArray⟩] w (zk (Cf.eH body).mod (Cf.eH body).err w):=by
 obtain⟨i1,hi1,hy0,hy1,hy2⟩:=info_parts xu
 obtain⟨i0,hi,hz0,hz1,hz2⟩:=info_parts uk
 have Hi:=hid hi
 have Hz0:=hid hz0
 have Hz1:=hid hz1
 have Hz2:=hid hz2
 have Hi1:=hid hi1
 have Hy0:=hid hy0
 have Hy1:=hid hy1
 have Hy2:=hid hy2
 have hn1:=iU 1 ⟨body,false⟩
 have hv1:=Cf.cO ⟨body,false⟩
 have hn2:=Cf.uK (Cf.aC 1 ⟨body,false⟩).got (Cf.aC 1 ⟨body,false⟩).rdr
 have N7:=Cf.oJ (Cf.aC 1 ⟨body,false⟩).got (Cf.aC 1 ⟨body,false⟩).rdr
 have HNm:=hid (show Cf.iw body=Cf.fF (Cf.aC 1 ⟨body,false⟩).got (Cf.aC 1 ⟨body,false⟩).rdr from rfl)
 have HSt:Hid (PSt w ⟨body,false⟩ (.string ⟨#[]⟩) (.slice none 0 0) [] (.slice none 0 0) [] (((w.alloc (.cells #[.string ⟨#[]⟩,.slice none 0 0,.slice none 0 0] 79)).alloc (.cells #[.string ⟨body.toArray⟩,.bool false] 180)).alloc (.cells #[.string ⟨#[]⟩,.slice none 0 0,.slice none 0 0] 79))):=Lib.hid
  (by
    have b0:Below w.heap.size w (((w.alloc (.cells #[.string ⟨#[]⟩,.slice none 0 0,.slice none 0 0] 79)).alloc (.cells #[.string ⟨body.toArray⟩,.bool false] 180)).alloc (.cells #[.string ⟨#[]⟩,.slice none 0 0,.slice none 0 0] 79)):=(((Below.refl _ _).alloc (Nat.le_refl _) _).alloc (by simp) _).alloc (by simp;try omega) _
    refine⟨?_,?_,?_,World.ownsRow_nil _ _ _ _,World.ownsRow_nil _ _ _ _,b0⟩
    ·have:=(Wb.new (w.alloc (.cells #[.string ⟨#[]⟩,.slice none 0 0,.slice none 0 0] 79)) 180 [.string ⟨body.toArray⟩,.bool false]).alloc (.cells #[.string ⟨#[]⟩,.slice none 0 0,.slice none 0 0] 79)
     unfold RB
     simpa using this
    ·have:=Wb.new ((w.alloc (.cells #[.string ⟨#[]⟩,.slice none 0 0,.slice none 0 0] 79)).alloc (.cells #[.string ⟨body.toArray⟩,.bool false] 180)) 79 [.string ⟨#[]⟩,.slice none 0 0,.slice none 0 0]
     simpa using this
    ·exact((Wb.new w 79 [.string ⟨#[]⟩,.slice none 0 0,.slice none 0 0]).alloc _).alloc _)
 clear hi hz0 hz1 hz2 hi1 hy0 hy1 hy2
 go_enter Tryz.func131,Tryz.ntmps131
 go_wp2_with fail
 refine(jg (w.heap.size+1) 1 ⟨body,false⟩ _ (by omega) HSt.out.rd hl).mono ?_
 rintro e w1 ⟨rfl,hr1,hg1⟩
 have LX:=hid (HSt.out.read hr1 hg1)
 clear hr1 hg1 HSt
 unfold maxLen at hl
 generalize Cf.aC 1 ⟨body,false⟩=n1 at *
 go_wp2_with fail
 refine(take_any (w.heap.size+1) n1.got n1.rdr _ (by omega) LX.out.rd (by unfold maxLen;omega)).mono ?_
 rintro e w2 ⟨rfl,hr2,hg2⟩
 have KY:=hid (LX.out.read hr2 hg2)
 clear hr2 hg2 LX
 rw[← HNm.out]at KY hn2 N7 ⊢
 clear HNm
 go_wp2_with fail
 refine(iy (Cf.iw body).got _ (by omega)).mono ?_
 rintro e w3 ⟨rfl,hb3⟩
 have JA:=hid (KY.out.more hb3)
 clear hb3 KY
 have q0:=JA.out.box.cell 0
 have f0:=JA.out.box.open_ 0
 simp only[List.getElem?_cons_zero]at q0
 have KL:=hid (JA.out.putName (.string ⟨(Cf.iw body).got.toArray⟩))
 clear JA
 go_wp2_with fail
 refine(jg (w.heap.size+1) 1 _ _ (by omega) KL.out.rd (by unfold maxLen;omega)).mono ?_
 rintro e w5 ⟨rfl,hr5,hg5⟩
 have Ap:=hid (KL.out.read hr5 hg5)
 have hk5:=Cf.cO (Cf.iw body).rdr
 have hl5:=iU 1 (Cf.iw body).rdr
 have HC:=hid (show Cf.jb body=Cf.bC (Cf.aC 1 (Cf.iw body).rdr).got (Cf.aC 1 (Cf.iw body).rdr).rdr from rfl)
 clear hr5 hg5 KL q0 f0
 generalize Cf.aC 1 (Cf.iw body).rdr=n5 at *
 go_wp2
 go_loopw [13] (fun i wr=>∃(k:Nat) (cv:Value),k≤n5.got∧i = .int .i64 k∧PSt w (Cf.bC k n5.rdr).rdr (.string ⟨(Cf.iw body).got.toArray⟩) cv (Cf.bC k n5.rdr).got (.slice none 0 0) [] wr) (fun i _=>n5.got-(intOf i).toNat)
 case atStart=>exact⟨0,_,by omega,rfl,Ap.out⟩
 case round=>
  obtain⟨k,cv,hk,rfl,hS⟩:=hrel
  have HS:=hid hS
  clear hS Ap
  have hcl:=Cf.sN k n5.rdr
  have HCl:=hid hcl
  have hrl:=uS k n5.rdr
  clear hcl
  by_cases hlt:k<n5.got
  ·obtain⟨A4,c4,rfl⟩:=aP HS.out.code
   have q1:=HS.out.box.cell 1
   simp only[gq]at q1
   have HX:=hid (show Cf.bC (k+1) n5.rdr=⟨(Cf.bC k n5.rdr).got++[(Cf.iG (Cf.bC k n5.rdr).rdr).got],(Cf.iG (Cf.bC k n5.rdr).rdr).rdr⟩ from rfl)
   have HB1:=hid (show(Cf.bC k n5.rdr).got.length + [(Cf.iG (Cf.bC k n5.rdr).rdr).got].length≤maxLen by rw[HCl.out];show k+1≤maxLen;unfold maxLen;omega)
   have HB2:=hid (show((Cf.bC k n5.rdr).got.length + [(Cf.iG (Cf.bC k n5.rdr).rdr).got].length)*32≤140737488355328 by rw[HCl.out];show(k+1)*32≤140737488355328;omega)
   have HI:=hid (EW (w.heap.size+1) (Cf.bC k n5.rdr).rdr wr.drew HS.out.drew.rd (by unfold maxLen;omega))
   have eg:∀args w,(callFunc 157 args).run Tryz.prog w = .ok (.enter 157 args) w:=fun args w=>by simp[go_sem]
   have Heg:=hid eg
   clear eg
   go_wp2_with fail
   go_region_law (first
    | (refine aU (by rfl) (.tmp 16) (.tmp 18) 77 (by rfl) w.heap.size 121 i0 (.agg #[.int .i64 0,.int .i64 0,.int .i64 0,.int .i64 0]) 4 32 Tryz.underlying77 Hi.out Hz0.out Hz1.out Hz2.out rfl (by decide) lZ DU (.slice A4 (Cf.bC k n5.rdr).got.length c4) (Cf.bC k n5.rdr).got.length ((Cf.bC k n5.rdr).got.flatMap encI) (by rfl) (HS1.out.alloc (.cells #[.int .i64 (Cf.iG (Cf.bC k n5.rdr).rdr).got.op,.int .i64 (Cf.iG (Cf.bC k n5.rdr).rdr).got.a,.int .i64 (Cf.iG (Cf.bC k n5.rdr).rdr).got.b,.int .i64 (Cf.iG (Cf.bC k n5.rdr).rdr).got.c] 121)).code (some ⟨w1.heap.size,0,none⟩) 1 [(Cf.iG (Cf.bC k n5.rdr).rdr).got] (by rfl) (F8 w1 121 (Cf.iG (Cf.bC k n5.rdr).rdr).got) HB1.out HB2.out (HS1.out.alloc (.cells #[.int .i64 (Cf.iG (Cf.bC k n5.rdr).rdr).got.op,.int .i64 (Cf.iG (Cf.bC k n5.rdr).rdr).got.a,.int .i64 (Cf.iG (Cf.bC k n5.rdr).rdr).got.b,.int .i64 (Cf.iG (Cf.bC k n5.rdr).rdr).got.c] 121)).below.size ?_
       intro v2 w2 hown hgr hat
       obtain⟨A5,c5,rfl⟩:=aP hown
       have hbx:=PSt.boxC (HS1.out.alloc _) hgr
       have k2:=hbx.cell 1
       have kf2:=hbx.open_ 1
       simp only[gq]at k2
       have HX2:=hid (PSt.putCode (code':=(Cf.bC k n5.rdr).got++[(Cf.iG (Cf.bC k n5.rdr).rdr).got]) (HS1.out.alloc _) (by rw[List.length_append,List.flatMap_append];exact hown) hgr)
       clear hbx hown hgr hat)
    | (refine aG (by rfl) 157 (.tmp 4) #[180] (by rfl) (.pointer (some ⟨w.heap.size+1,0,none⟩)) (by rfl) Heg.out HI.out ?_
       rintro e w1 ⟨rfl,hr1,hg1⟩
       refine⟨_,rfl,?_⟩
       have HS1:=hid (HS.out.drew.read hr1 hg1)
       have k1:=HS1.out.box.cell 1
       have kf1:=HS1.out.box.open_ 1
       have kl1:=HS1.out.box.lt
       simp only[gq]at k1
       clear hr1 hg1))
   all_goals
    go_wp2
    go_roundw
    case rel=>exact⟨k+1,_,by omega,by go_num,by rw[HX.out];exact HX2.out⟩
    case measure=>simp[intOf];omega
  ·obtain rfl:k=n5.got:=by omega
   rw[← HC.out]at HS HCl hrl
   have hcl:(Cf.jb body).got.length≤255:=by rw[HCl.out];omega
   clear HC hlt hk
   go_wp2_with fail
   refine(jg (w.heap.size+1) 1 _ _ (by omega) HS.out.rd (by unfold maxLen;omega)).mono ?_
   rintro e w6 ⟨rfl,hr6,hg6⟩
   have HS6:=hid (HS.out.read hr6 hg6)
   have hk6:=Cf.cO (Cf.jb body).rdr
   have hl6:=iU 1 (Cf.jb body).rdr
   have HD:=hid (show Cf.je body=Cf.bV (Cf.aC 1 (Cf.jb body).rdr).got (Cf.aC 1 (Cf.jb body).rdr).rdr from rfl)
   clear hr6 hg6 HS
   generalize Cf.aC 1 (Cf.jb body).rdr=n6 at *
   go_wp2
   go_loopw [23] (fun i wr=>∃(k:Nat) (dv:Value),k≤n6.got∧i = .int .i64 k∧PSt w (Cf.bV k n6.rdr).rdr (.string ⟨(Cf.iw body).got.toArray⟩) cv (Cf.jb body).got dv (Cf.bV k n6.rdr).got wr) (fun i _=>n6.got-(intOf i).toNat)
   case atStart=>exact⟨0,_,by omega,rfl,HS6.out⟩
   case round=>
    obtain⟨k,dv,hk,rfl,hS⟩:=hrel
    have HS:=hid hS
    clear hS HS6
    have hdl:=Cf.rQ k n6.rdr
    have HDl:=hid hdl
    have hdr:=wC k n6.rdr
    clear hdl
    by_cases hlt:k<n6.got
    ·obtain⟨A4,c4,rfl⟩:=aP HS.out.data
     have q1:=HS.out.box.cell 2
     simp only[gq]at q1
     have HX:=hid (show Cf.bV (k+1) n6.rdr=⟨(Cf.bV k n6.rdr).got++[((Cf.aC 2 (Cf.bV k n6.rdr).rdr).got:Int)],(Cf.aC 2 (Cf.bV k n6.rdr).rdr).rdr⟩ from rfl)
     have HB1:=hid (show(Cf.bV k n6.rdr).got.length + [((Cf.aC 2 (Cf.bV k n6.rdr).rdr).got:Int)].length≤maxLen by rw[HDl.out];show k+1≤maxLen;unfold maxLen;omega)
     have HB2:=hid (show((Cf.bV k n6.rdr).got.length + [((Cf.aC 2 (Cf.bV k n6.rdr).rdr).got:Int)].length)*8≤140737488355328 by rw[HDl.out];show(k+1)*8≤140737488355328;omega)
     have HI:=hid (jg (w.heap.size+1) 2 (Cf.bV k n6.rdr).rdr wr.drew (by omega) HS.out.drew.rd (by unfold maxLen;omega))
     have eg:∀args w,(callFunc 156 args).run Tryz.prog w = .ok (.enter 156 args) w:=fun args w=>by simp[go_sem]
     have Heg:=hid eg
     clear eg
     go_wp2_with fail
     go_region_law (first
      | (refine aU (by rfl) (.tmp 26) (.tmp 28) 23 (by rfl) w.heap.size 3 i1 (.int .i64 0) 1 8 Tryz.underlying23 Hi1.out Hy0.out Hy1.out Hy2.out rfl (by decide) dL J9 (.slice A4 (Cf.bV k n6.rdr).got.length c4) (Cf.bV k n6.rdr).got.length ((Cf.bV k n6.rdr).got.flatMap encZ) (by rfl) (HS1.out.alloc (.cells #[.int .i64 ((Cf.aC 2 (Cf.bV k n6.rdr).rdr).got:Int)] 3)).dataZ (some ⟨w1.heap.size,0,none⟩) 1 [((Cf.aC 2 (Cf.bV k n6.rdr).rdr).got:Int)] (by rfl) (Jj w1 3 ((Cf.aC 2 (Cf.bV k n6.rdr).rdr).got:Int)) HB1.out HB2.out (HS1.out.alloc (.cells #[.int .i64 ((Cf.aC 2 (Cf.bV k n6.rdr).rdr).got:Int)] 3)).below.size ?_
         intro v2 w2 hown hgr hat
         obtain⟨A5,c5,rfl⟩:=aP hown
         have hbx:=PSt.boxD (HS1.out.alloc _) hgr
         have k2:=hbx.cell 2
         have kf2:=hbx.open_ 2
         simp only[gq]at k2
         have HX2:=hid (PSt.putData (data':=(Cf.bV k n6.rdr).got++[((Cf.aC 2 (Cf.bV k n6.rdr).rdr).got:Int)]) (HS1.out.alloc _) (by unfold Row;rw[qX,List.length_append,List.flatMap_append];exact hown) hgr)
         clear hbx hown hgr hat)
      | (refine jh (by rfl) 156 (.tmp 4) (.const (.int .i64 2)) #[180,3] (by rfl) (.pointer (some ⟨w.heap.size+1,0,none⟩)) (.int .i64 2) (by rfl) (by rfl) Heg.out HI.out ?_
         rintro e w1 ⟨rfl,hr1,hg1⟩
         refine⟨_,rfl,?_⟩
         have HS1:=hid (HS.out.drew.read hr1 hg1)
         have k1:=HS1.out.box.cell 2
         have kf1:=HS1.out.box.open_ 2
         have kl1:=HS1.out.box.lt
         simp only[gq]at k1
         clear hr1 hg1))
     all_goals
      go_wp2
      go_roundw
      case rel=>exact⟨k+1,_,by omega,by go_num,by rw[HX.out];exact HX2.out⟩
      case measure=>simp[intOf];omega
    ·obtain rfl:k=n6.got:=by omega
     rw[← HD.out]at HS HDl hdr
     clear hlt hk HD
     obtain⟨x0,x1, -, -⟩:=JM HS.out.rd
     have y0:=HS.out.box.cell 0
     have y1:=HS.out.box.cell 1
     have y2:=HS.out.box.cell 2
     have z0:=HS.out.res.cell 0
     have z1:=HS.out.res.cell 1
     have z2:=HS.out.res.cell 2
     have f0:=HS.out.res.open_ 0
     have f1:=HS.out.res.open_ 1
     have f2:=HS.out.res.open_ 2
     simp only[gq]at y0 y1 y2 z0 z1 z2
     obtain⟨A4,c4,rfl⟩:=aP HS.out.code
     obtain⟨B4,d4,rfl⟩:=aP HS.out.data
     have HO:=hid (fun a b c=>HS.out.out a b c)
     cases hsh:(Cf.je body).rdr.short
     ·by_cases hre:(Cf.je body).rdr.rest=[]
      ·have HP:=hid (show Cf.eH body=⟨⟨(Cf.iw body).got,(Cf.jb body).got,(Cf.je body).got⟩,0⟩ by unfold Cf.eH;rw[hsh,if_neg (by simp),if_pos hre])
       rw[hsh]at x1
       rw[hre]at x0
       clear hsh hre HS
       go_wp2
       refine bodyPost_ret (v:=.tuple #[.agg #[.string ⟨(Cf.iw body).got.toArray⟩,.slice A4 (Cf.jb body).got.length c4,.slice B4 (Cf.je body).got.length d4],.int .i64 0]) (by simp[results,Tryz.results131,go_sem,z0,z1,z2]) rfl ?_
       rw[HP.out]
       exact⟨A4,B4,c4,d4,rfl,HO.out _ _ _⟩
      ·have HP:=hid (show Cf.eH body=⟨Cf.bz,4⟩ by unfold Cf.eH;rw[hsh,if_neg (by simp),if_neg hre])
       rw[hsh]at x1
       obtain⟨c,t,hct⟩:=List.exists_cons_of_ne_nil hre
       rw[hct]at x0
       clear hsh hre HS hct
       go_wp2
       refine bodyPost_ret (v:=.tuple #[.agg #[.string ⟨#[]⟩,.slice none 0 0,.slice none 0 0],.int .i64 4]) (by simp[results,Tryz.results131,go_sem,z0,z1,z2]) rfl ?_
       rw[HP.out]
       exact⟨none,none,0,0,rfl,.inl rfl,.inl rfl,(HO.out _ _ _).2.2.1,.inl rfl,.inl rfl⟩
     ·have HP:=hid (show Cf.eH body=⟨Cf.bz,5⟩ by unfold Cf.eH;rw[hsh,if_pos rfl])
      rw[hsh]at x1
      clear hsh HS
      go_wp2
      refine bodyPost_ret (v:=.tuple #[.agg #[.string ⟨#[]⟩,.slice none 0 0,.slice none 0 0],.int .i64 5]) (by simp[results,Tryz.results131,go_sem,z0,z1,z2]) rfl ?_
      rw[HP.out]
      exact⟨none,none,0,0,rfl,.inl rfl,.inl rfl,(HO.out _ _ _).2.2.1,.inl rfl,.inl rfl⟩
end
section
open Go.RowKit
section
variable {α:Type} {sz:Nat} {enc:α→List Value} {w w':World} {t:TypeId} {B:Nat} {A:Option Addr} {l:List α}
def Nw(sz:Nat)(enc:α→List Value)(w:World)(t:TypeId)(B:Nat)(A:Option Addr)(l:List α):Prop:=l=[]∨∃g,A=some ⟨g,0,none⟩∧B≤g∧Bk sz enc w g t l
theorem Nw.rd(h:Nw sz enc w t B A l):RdS sz enc w A l:=by
 rcases h with h|⟨g,rfl,_,h⟩
 ·exact .inl h
 ·exact h.rd
theorem Nw.fresh(h:Nw sz enc w t B A l):dN B A l:=by
 rcases h with h|⟨g,rfl,hB,_⟩
 ·exact .inl h
 ·exact .inr ⟨_,_,rfl,hB⟩
theorem Nw.below(h:Nw sz enc w t B A l)(hb:Below w.heap.size w w'):Nw sz enc w' t B A l:=by
 rcases h with h|⟨g,rfl,hB,h⟩
 ·exact .inl h
 ·exact .inr ⟨g,rfl,hB,h.below hb h.lt⟩
theorem Nw.mono(h:Nw sz enc w t B A l){B':Nat}(hB':B'≤B):Nw sz enc w t B' A l:=by
 rcases h with h|⟨g,rfl,hB,h⟩
 ·exact .inl h
 ·exact .inr ⟨g,rfl,Nat.le_trans hB' hB,h⟩
theorem Nw.offW(h:Nw sz enc w t B A l){g:Nat}{cs:List Value}{t':TypeId}(hg:Wb w g t' cs)(hne:t≠t')(i:Nat)(u:Value):Nw sz enc (w.setCell ⟨g,i,none⟩ u) t B A l:=by
 rcases h with h|⟨g',rfl,hB,h⟩
 ·exact .inl h
 ·exact .inr ⟨g',rfl,hB,h.off_ (p:=⟨g,i,none⟩) (h.wb hg hne) u⟩
theorem Nw.old(h:Nw sz enc w t B A l){p:Addr}(hp:p.block<B)(u:Value):Nw sz enc (w.setCell p u) t B A l:=by
 rcases h with h|⟨g',rfl,hB,h⟩
 ·exact .inl h
 ·exact .inr ⟨g',rfl,hB,h.off_ (by omega) u⟩
theorem Nw.grown_(h:Nw sz enc w t B A l){row:Option Nat}(hb:w.grownBy w' row)(hne:∀g cs,Wb w g t cs→row≠some g):Nw sz enc w' t B A l:=by
 rcases h with h|⟨g',rfl,hB,h⟩
 ·exact .inl h
 ·exact .inr ⟨g',rfl,hB,⟨h.1,h.2.elim fun q h=>⟨q,h.grown hb (hne _ _ h)⟩⟩⟩
theorem gW{P:Program}(w:World)(t ty e:TypeId)(i:TypeInfo)(z:Value)(size bytes:Nat)(ht:P.underlying t=some (.slice e))(hi:P.info? e=some i)(hz:i.zero=some z)
  (hsize:i.size=size) (hby:i.bytes=bytes) (henc:∀x,(enc x).length=size)
  (b:Addr) (A:Option Addr) (c:Nat) (l:List α) (hr:RdS size enc w A l)
  (h63:l.length≤maxLen) (hbytes:l.length*bytes≤140737488355328):
  ∃A' c' w',(Builtin.append_ #[t,t] ty #[.slice (some b) 0 0,.slice A l.length c]).run P w = .ok (.slice A' l.length c') w'∧Nw size enc w' e w.heap.size A' l∧Below w.heap.size w w'∧l.length≤c':=by
 rcases Nat.eq_zero_or_pos l.length with h0|h0
 ·obtain⟨A',c',w',h1,_,h3,_⟩:=tY (P:=P) w t ty e i z size bytes ht hi hz hsize hby henc b A c l hr h63 hbytes
  exact⟨A',c',w',h1,.inl (List.eq_nil_of_length_eq_zero h0),h3,by omega⟩
 ·rcases hr with rfl|⟨bb,off,rfl,hbb,hc⟩
  ·simp at h0
  have hR:RdS size enc w (some ⟨bb,off,none⟩) l:=.inr ⟨bb,off,rfl,hbb,hc⟩
  have hfl:(l.flatMap enc).length=l.length*size:=by
   clear h63 hbytes hc hR h0
   induction l with
   | nil=>simp
   | cons x l ih=>rw[List.flatMap_cons,List.length_append,ih,henc,List.length_cons,Nat.add_mul];omega
  have h:=run_append_grow (P:=P) w t ty e i z ht hi hz b 0 0 [] (by simp) (by simp) ⟨bb,off,none⟩ l.length c (l.flatMap enc) (by rw[hsize];exact hfl) (hR.flat henc) (by omega) (by unfold maxLen at h63;omega) (by rw[hby];exact growslice_fits (by omega) (by rw[Nat.zero_add];exact hbytes))
  rw[Nat.zero_add]at h
  refine⟨_,_,_,h,.inr ⟨w.heap.size,rfl,Nat.le_refl _,henc,(Builtin.zeroCells z.cells (grownCap w l.length 0 e-l.length)).toList,?_⟩,(Below.refl _ _).drew.alloc (Nat.le_refl _) _,grownCap_ge _ _ _ _⟩
  unfold Wb
  rw[show w.heap.size=w.drew.heap.size from rfl,heap_alloc_new w.drew _]
  simp
theorem nO{P:Program}{w:World}{ops:Array Oper}{o:Oper}{a:Act}{K:Act→World→Prop}{Q:Exit→Act→World→Prop}{E:Prop}(hgd:o.guard=none)(s x:Operand)(t:TypeId)(ho:o.op = .call { callee:=.builtin .append,args:=#[s,x],argTypes:=#[t,t] })
  (e:TypeId) (i:TypeInfo) (z:Value) (size bytes:Nat) (ht:P.underlying t=some (.slice e)) (hi:P.info? e=some i) (hz:i.zero=some z)
  (hsize:i.size=size) (hby:i.bytes=bytes) (henc:∀x,(enc x).length=size)
  (b:Addr) (hs:a.eval s = .slice (some b) 0 0) (A:Option Addr) (c:Nat) (l:List α) (hx:a.eval x = .slice A l.length c) (hr:RdS size enc w A l)
  (h63:l.length≤maxLen) (hbytes:l.length*bytes≤140737488355328)
  (h:∀A' c' w',Nw size enc w' e w.heap.size A' l→Below w.heap.size w w'→K (a.put o.dst (.slice A' l.length c')) w'):
  if Region.wanted o (yielded ops a.tmps)=true then Oper.wp P o a w K Q else E:=by
 rw[if_pos (by simp[Region.wanted,hgd])]
 obtain⟨A',c',w',hrun,h2,h3,_⟩:=gW (P:=P) w t o.type e i z size bytes ht hi hz hsize hby henc b A c l hr h63 hbytes
 unfold Oper.wp
 simp[execOp,ho,resolve,invoke,builtin,hs,hx,hrun,Result.andThen]
 exact h A' c' w' h2 h3
end
def vY(ops:Array Oper)(s:Nat→Nat):Bool:=(List.range ops.size).all fun i=>match ops[i]? with
 | none=>false
 | some o=>(match o.dst with|none=>true|some d=>d == s i && (List.range ops.size).all fun j=>j == i || s j != d || (match ops[j]? with|none=>false|some q=>needs q i))
theorem sO{ops:Array Oper}{s:Nat→Nat}(h:vY ops s=true){i:Nat}{o:Oper}(ho:ops[i]?=some o){d:Nat}(hd:o.dst=some d):d=s i∧∀(j:Nat) (q:Oper),ops[j]?=some q→j≠i→needs q i=false→s j≠d:=by
 unfold vY at h
 have hlt:=(Array.getElem?_eq_some_iff.1 ho).1
 have h1:=List.all_eq_true.1 h i (List.mem_range.2 hlt)
 rw[ho]at h1
 simp only[hd,Bool.and_eq_true,beq_iff_eq]at h1
 refine⟨h1.1,fun j q hq hj hn hs=>?_⟩
 have hlj:=(Array.getElem?_eq_some_iff.1 hq).1
 have h2:=List.all_eq_true.1 h1.2 j (List.mem_range.2 hlj)
 simp[hq,hn,hj,hs]at h2
section
variable {P:Program} {ops:Array Oper} {Q:Exit→Act→World→Prop} {ds:List Nat} {l0:List Value} {df:List Deferred} {J:World→Prop} {R:Nat→Value→World→Prop} {s:Nat→Nat}
def JG(P:Program)(ops:Array Oper)(Q:Exit→Act→World→Prop)(ds:List Nat)(l0:List Value)(df:List Deferred)(J:World→Prop)(R:Nat→Value→World→Prop)(s:Nat→Nat)(i:Nat):Prop:=
 ∀(o:Oper) (u:Nat→Value) (w:World),ops[i]?=some o→J w→(∀(j:Nat),needs o j=true→R j (u (s j)) w) →
  ∀K:Act→World→Prop,(∀(v:Value) (w':World),(o.dst=none→R i (u (s i)) w')→(o.dst≠none→R i v w')→J w'→(∀j v,j≠i→R j v w→R j v w')→K (Act.put ⟨(bJ ds u 0 l0).toArray,df⟩ o.dst v) w')→Oper.wp P o ⟨(bJ ds u 0 l0).toArray,df⟩ w K Q
theorem CV{id:Nat}{w:World}(ds:List Nat)(s:Nat→Nat)(J:World→Prop)(R:Nat→Value→World→Prop)(hok:vW ops ds=true)(hs:vY ops s=true)(hm:P.follows .mixedOrders=true)(hJ:J w.drew)
  (hstep:∀i,i<ops.size→JG P ops Q ds l0 df J R s i)
  (hend:∀(u:Nat→Value) (w:World),J w→(∀i,i<ops.size→R i (u (s i)) w)→Q .normal ⟨(bJ ds u 0 l0).toArray,df⟩ w):
  (Code.region id ops true).wp P Q ⟨l0.toArray,df⟩ w:=by
 refine nM ds J (fun i u w=>R i (u (s i)) w) hok hm hJ ?_ hend
 intro i hi o u w ho hJ aT K hK
 refine hstep i hi o u w ho hJ aT K fun v w' h0 h1 hJ' hk=>hK v w' ?_ hJ' fun j q hq hj hn hv=>?_
 ·cases hd:o.dst with
  | none=>simp only[mG,hd];exact h0 hd
  | some d=>
    obtain⟨h2,_⟩:=sO hs ho hd
    simp only[mG,hd,upd,h2,if_true]
    exact h1 (by rw[hd];simp)
 ·cases hd:o.dst with
  | none=>simp only[mG,hd];exact hk j _ hj hv
  | some d=>
    obtain⟨_,h2⟩:=sO hs ho hd
    simp only[mG,hd,upd,if_neg (h2 j q hq hj hn)]
    exact hk j _ hj hv
end
end
section
open Go.RowKit
theorem uM(ds:List Nat)(u:Nat→Value):∀(l:List Value) (k d:Nat),(bJ ds u k l)[d]?=(l[d]?).map fun x=>if ds.contains (k+d) then u (k+d) else x
 | [],k,d=>by simp[bJ]
 | x :: l,k,0=>by simp[bJ]
 | x :: l,k,d+1=>by
   have h:=uM ds u l (k+1) d
   simp only[bJ,List.getElem?_cons_succ,h,show k+1+d=k+(d+1) by omega]
theorem bi{ds:List Nat}{u:Nat→Value}{l0:List Value}{df:List Deferred}{k:Nat}{x:Value}(h:ds.contains k=true)(hk:l0[k]?=some x):Act.eval ⟨(bJ ds u 0 l0).toArray,df⟩ (.tmp k)=u k:=by
 have h1:=uM ds u l0 0 k
 rw[hk]at h1
 simp only[Nat.zero_add,h,if_true,Option.map_some]at h1
 simp[Act.eval,h1]
theorem lC{ds:List Nat}{u:Nat→Value}{l0:List Value}{df:List Deferred}{k:Nat}{v:Value}(h:ds.contains k=false)(hk:l0[k]?=some v):Act.eval ⟨(bJ ds u 0 l0).toArray,df⟩ (.tmp k)=v:=by
 have h1:=uM ds u l0 0 k
 rw[hk]at h1
 simp only[Nat.zero_add,h,Option.map_some,Bool.false_eq_true,if_false]at h1
 simp[Act.eval,h1]
theorem Dc(o:Oper)(a:Act)(w:World)(h:Nat)(x:Operand)(ho:o.op = .fieldAddr ae x 1)(ev:a.eval x = .pointer (some ⟨h,0,none⟩))(_hb:(w.heap[h]?).isSome=true):(execOp a.eval o).run Tryz.prog w = .ok (.value (.pointer (some ⟨h,1,none⟩))) w:=by
 simp[execOp,ho,ev]
 go_simp
theorem CB(o:Oper)(a:Act)(w:World)(h:Nat)(x:Operand)(ho:o.op = .fieldAddr ae x 2)(ev:a.eval x = .pointer (some ⟨h,0,none⟩))(_hb:(w.heap[h]?).isSome=true):(execOp a.eval o).run Tryz.prog w = .ok (.value (.pointer (some ⟨h,2,none⟩))) w:=by
 simp[execOp,ho,ev]
 go_simp
theorem BZ(o:Oper)(a:Act)(w:World)(h:Nat)(x:Operand)(ho:o.op = .fieldAddr ae x 3)(ev:a.eval x = .pointer (some ⟨h,0,none⟩))(_hb:(w.heap[h]?).isSome=true):(execOp a.eval o).run Tryz.prog w = .ok (.value (.pointer (some ⟨h,3,none⟩))) w:=by
 simp[execOp,ho,ev]
 go_simp
theorem CJ(o:Oper)(a:Act)(w:World)(h:Nat)(x:Operand)(ho:o.op = .fieldAddr ae x 4)(ev:a.eval x = .pointer (some ⟨h,0,none⟩))(_hb:(w.heap[h]?).isSome=true):(execOp a.eval o).run Tryz.prog w = .ok (.value (.pointer (some ⟨h,4,none⟩))) w:=by
 simp[execOp,ho,ev]
 go_simp
theorem EZ(o:Oper)(a:Act)(w:World)(p:Addr)(x:Operand)(v:Value)(ho:o.op = .load 23 x)(ev:a.eval x = .pointer (some p))(hc:w.cell? p=some v):(execOp a.eval o).run Tryz.prog w = .ok (.value v) w:=by
 simp[execOp,ho,ev]
 go_simp
theorem Fb(o:Oper)(a:Act)(w:World)(p:Addr)(x:Operand)(v:Value)(ho:o.op = .load 24 x)(ev:a.eval x = .pointer (some p))(hc:w.cell? p=some v):(execOp a.eval o).run Tryz.prog w = .ok (.value v) w:=by
 simp[execOp,ho,ev]
 go_simp
theorem E8(o:Oper)(a:Act)(w:World)(p:Addr)(x:Operand)(v:Value)(ho:o.op = .load 25 x)(ev:a.eval x = .pointer (some p))(hc:w.cell? p=some v):(execOp a.eval o).run Tryz.prog w = .ok (.value v) w:=by
 simp[execOp,ho,ev]
 go_simp
theorem Eo(o:Oper)(a:Act)(w:World)(p:Addr)(x:Operand)(v:Value)(ho:o.op = .load 26 x)(ev:a.eval x = .pointer (some p))(hc:w.cell? p=some v):(execOp a.eval o).run Tryz.prog w = .ok (.value v) w:=by
 simp[execOp,ho,ev]
 go_simp
theorem E5(o:Oper)(a:Act)(w:World)(ho:o.op = .buildSlice 23 0 #[]):(execOp a.eval o).run Tryz.prog w = .ok (.value (.slice (some ⟨w.heap.size,0,none⟩) 0 0)) (w.alloc (.cells #[] 3)):=by
 simp[execOp,ho]
 go_simp
theorem Fg(o:Oper)(a:Act)(w:World)(ho:o.op = .buildSlice 24 0 #[]):(execOp a.eval o).run Tryz.prog w = .ok (.value (.slice (some ⟨w.heap.size,0,none⟩) 0 0)) (w.alloc (.cells #[] 57)):=by
 simp[execOp,ho]
 go_simp
theorem ER(o:Oper)(a:Act)(w:World)(ho:o.op = .buildSlice 25 0 #[]):(execOp a.eval o).run Tryz.prog w = .ok (.value (.slice (some ⟨w.heap.size,0,none⟩) 0 0)) (w.alloc (.cells #[] 9)):=by
 simp[execOp,ho]
 go_simp
theorem F6(o:Oper)(a:Act)(w:World)(ho:o.op = .buildSlice 26 0 #[]):(execOp a.eval o).run Tryz.prog w = .ok (.value (.slice (some ⟨w.heap.size,0,none⟩) 0 0)) (w.alloc (.cells #[] 69)):=by
 simp[execOp,ho]
 go_simp
theorem GV(o:Oper)(a:Act)(w:World)(x1 x2 x3 x4:Operand)(v1 v2 v3 v4:Value)(ho:o.op = .build ae #[(1,x1),(2,x2),(3,x3),(4,x4)])(e1:a.eval x1=v1)(e2:a.eval x2=v2)(e3:a.eval x3=v3)(e4:a.eval x4=v4)(A1 A2 A3 A4:Option Addr)(n1 n2 n3 n4 c1 c2 c3 c4:Nat)(h1:v1 = .slice A1 n1 c1)(h2:v2 = .slice A2 n2 c2)(h3:v3 = .slice A3 n3 c3)(h4:v4 = .slice A4 n4 c4):(execOp a.eval o).run Tryz.prog w = .ok (.value (.agg #[.slice none 0 0,.slice A1 n1 c1,.slice A2 n2 c2,.slice A3 n3 c3,.slice A4 n4 c4])) w:=by
 subst h1 h2 h3 h4
 simp[execOp,ho,e1,e2,e3,e4]
 go_simp
theorem um(o:Oper)(a:Act)(w w':World)(x y:Operand)(t:TypeId)(vx vy v:Value)(ho:o.op = .call { callee:=.builtin .append,args:=#[x,y],argTypes:=#[t,t] })(ex:a.eval x=vx)(ey:a.eval y=vy)(hrun:(Builtin.append_ #[t,t] o.type #[vx,vy]).run Tryz.prog w = .ok v w'):(execOp a.eval o).run Tryz.prog w = .ok (.value v) w':=by
 simp[execOp,ho,resolve,invoke,builtin,ex,ey,hrun,Result.andThen]
theorem JO(o:Oper)(a:Act)(w:World)(ho:o.op = .alloc ae):(execOp a.eval o).run Tryz.prog w = .ok (.value (.pointer (some ⟨w.heap.size,0,none⟩))) (w.alloc (.cells #[.slice none 0 0,.slice none 0 0,.slice none 0 0,.slice none 0 0,.slice none 0 0] ae)):=by
 simp[execOp,ho]
 go_simp
theorem IJ(o:Oper)(a:Act)(w:World)(g:Nat)(x y:Operand)(s1 s2 s3 s4:Value)(A1 A2 A3 A4:Option Addr)(n1 n2 n3 n4 k1 k2 k3 k4:Nat)(h1:s1 = .slice A1 n1 k1)(h2:s2 = .slice A2 n2 k2)(h3:s3 = .slice A3 n3 k3)(h4:s4 = .slice A4 n4 k4)(c0 c1 c2 c3 c4:Value)(ho:o.op = .store ae x y)(ex:a.eval x = .pointer (some ⟨g,0,none⟩))(ey:a.eval y = .agg #[.slice none 0 0,s1,s2,s3,s4])(hg:Wb w g ae [c0,c1,c2,c3,c4]):
  (execOp a.eval o).run Tryz.prog w = .ok .skip (((((w.setCell ⟨g,0,none⟩ (.slice none 0 0)).setCell ⟨g,1,none⟩ s1).setCell ⟨g,2,none⟩ s2).setCell ⟨g,3,none⟩ s3).setCell ⟨g,4,none⟩ s4):=by
 subst h1 h2 h3 h4
 obtain⟨q0,q1,q2,q3,q4, -, -⟩:=kY hg
 have f0:=hg.open_ 0
 have f1:=hg.open_ 1
 have f2:=hg.open_ 2
 have f3:=hg.open_ 3
 have f4:=hg.open_ 4
 clear hg
 simp[execOp,ho,ex,ey]
 go_simp
def CpR(B h:Nat)(M N S Q:Option Addr)(cm cn cs cq:Nat)(mem:List Int)(nodes:List Cf.Node)(pipes:List (List UInt8))(ps:List PV)(i:Nat)(v:Value)(w:World):Prop:=match i with
 | 0=>∃b,v = .slice (some b) 0 0
 | 1=>v = .pointer (some ⟨h,1,none⟩)
 | 2=>v = .slice M mem.length cm
 | 3=>∃A c,v = .slice A mem.length c∧Nw 1 encZ w fD B A mem∧mem.length≤c
 | 4=>∃b,v = .slice (some b) 0 0
 | 5=>v = .pointer (some ⟨h,2,none⟩)
 | 6=>v = .slice N nodes.length cn
 | 7=>∃A c,v = .slice A nodes.length c∧Nw 4 dA w bu B A nodes∧nodes.length≤c
 | 8=>∃b,v = .slice (some b) 0 0
 | 9=>v = .pointer (some ⟨h,3,none⟩)
 | 10=>v = .slice S pipes.length cs
 | 11=>∃A c,v = .slice A pipes.length c∧Nw 1 iC w lX B A pipes∧pipes.length≤c
 | 12=>∃b,v = .slice (some b) 0 0
 | 13=>v = .pointer (some ⟨h,4,none⟩)
 | 14=>v = .slice Q ps.length cq
 | 15=>∃A c,v = .slice A ps.length c∧Nw 2 bG w jL B A ps∧ps.length≤c
 | 16=>∃A1 c1 A2 c2 A3 c3 A4 c4,v = .agg #[.slice none 0 0,.slice A1 mem.length c1,.slice A2 nodes.length c2,.slice A3 pipes.length c3,.slice A4 ps.length c4]∧Nw 1 encZ w fD B A1 mem∧Nw 4 dA w bu B A2 nodes∧Nw 1 iC w lX B A3 pipes∧Nw 2 bG w jL B A4 ps∧mem.length≤c1
 | 17=>∃g,v = .pointer (some ⟨g,0,none⟩)∧(∃cs,cs.length=5∧Wb w g ae cs)∧B≤g
 | 18=>∃g A1 c1 A2 c2 A3 c3 A4 c4,v = .pointer (some ⟨g,0,none⟩)∧B≤g∧Wb w g ae [.slice none 0 0,.slice A1 mem.length c1,.slice A2 nodes.length c2,.slice A3 pipes.length c3,.slice A4 ps.length c4]∧Nw 1 encZ w fD B A1 mem∧Nw 4 dA w bu B A2 nodes∧Nw 1 iC w lX B A3 pipes∧Nw 2 bG w jL B A4 ps∧mem.length≤c1
 | _=>True
theorem CpR.keep{B h:Nat}{M N S Q:Option Addr}{cm cn cs cq:Nat}{mem:List Int}{nodes:List Cf.Node}{pipes:List (List UInt8)}{ps:List PV}{i:Nat}{v:Value}{w w':World}(h0:CpR B h M N S Q cm cn cs cq mem nodes pipes ps i v w)(hb:Below w.heap.size w w'):CpR B h M N S Q cm cn cs cq mem nodes pipes ps i v w':=by
 match i,h0 with
 | 0,h=>exact h
 | 1,h=>exact h
 | 2,h=>exact h
 | 3,⟨A,c,h1,h2,h9⟩=>exact⟨A,c,h1,h2.below hb,h9⟩
 | 4,h=>exact h
 | 5,h=>exact h
 | 6,h=>exact h
 | 7,⟨A,c,h1,h2,h9⟩=>exact⟨A,c,h1,h2.below hb,h9⟩
 | 8,h=>exact h
 | 9,h=>exact h
 | 10,h=>exact h
 | 11,⟨A,c,h1,h2,h9⟩=>exact⟨A,c,h1,h2.below hb,h9⟩
 | 12,h=>exact h
 | 13,h=>exact h
 | 14,h=>exact h
 | 15,⟨A,c,h1,h2,h9⟩=>exact⟨A,c,h1,h2.below hb,h9⟩
 | 16,⟨A1,c1,A2,c2,A3,c3,A4,c4,h1,h2,h3,h4,h5,h9⟩=>exact⟨A1,c1,A2,c2,A3,c3,A4,c4,h1,h2.below hb,h3.below hb,h4.below hb,h5.below hb,h9⟩
 | 17,⟨g,h1,⟨cs,h2,h3⟩,h4⟩=>exact⟨g,h1,⟨cs,h2,h3.below hb h3.lt⟩,h4⟩
 | 18,⟨g,A1,c1,A2,c2,A3,c3,A4,c4,h0,h1,hw,h2,h3,h4,h5,h9⟩=>exact⟨g,A1,c1,A2,c2,A3,c3,A4,c4,h0,h1,hw.below hb hw.lt,h2.below hb,h3.below hb,h4.below hb,h5.below hb,h9⟩
 | _+19,_=>exact trivial
def Lm(i:Nat):Nat:=if i≤16 then i+12 else 3
end
section
open Go.RowKit
abbrev ET:TypeId:=121
def CG(n:List UInt8)(l:List Cf.Ins)(d:List Int)(w:World)(e:Ending)(w':World):Prop:=
 ∃(A B:Option Addr) (ca cb:Nat),e = .returned (.agg #[.string ⟨n.toArray⟩,.slice A l.length ca,.slice B d.length cb])∧Nw 4 encI w' ET w.heap.size A l∧Nw 1 encZ w' fD w.heap.size B d∧Below w.heap.size w w'
theorem vV{n:List UInt8}{l:List Cf.Ins}{d:List Int}{w wb w3:World}{A2 A3:Option Addr}(c2 c3:Nat)(v0 v1 v2:Value)(hb0:Below w.heap.size w wb)(hlt:w.heap.size+1<wb.heap.size)(h2:Nw 4 encI w3 ET wb.heap.size A2 l)(h3:Nw 1 encZ w3 fD wb.heap.size A3 d)(hB:Below wb.heap.size wb w3):
  CG n l d w (.returned (.agg #[.string ⟨n.toArray⟩,.slice A2 l.length c2,.slice A3 d.length c3])) (((w3.setCell ⟨w.heap.size+1,0,none⟩ v0).setCell ⟨w.heap.size+1,1,none⟩ v1).setCell ⟨w.heap.size+1,2,none⟩ v2):=
 ⟨A2,A3,c2,c3,rfl,(((h2.old (p:=⟨w.heap.size+1,0,none⟩) hlt v0).old (p:=⟨w.heap.size+1,1,none⟩) hlt v1).old (p:=⟨w.heap.size+1,2,none⟩) hlt v2).mono hb0.size,
   (((h3.old (p:=⟨w.heap.size+1,0,none⟩) hlt v0).old (p:=⟨w.heap.size+1,1,none⟩) hlt v1).old (p:=⟨w.heap.size+1,2,none⟩) hlt v2).mono hb0.size,
   (((hb0.trans (hB.mono hb0.size)).setCell (p:=⟨w.heap.size+1,0,none⟩) (by show w.heap.size≤w.heap.size+1;omega) v0).setCell (p:=⟨w.heap.size+1,1,none⟩) (by show w.heap.size≤w.heap.size+1;omega) v1).setCell (p:=⟨w.heap.size+1,2,none⟩) (by show w.heap.size≤w.heap.size+1;omega) v2⟩
theorem JY(n:List UInt8)(l:List Cf.Ins)(d:List Int)(A B:Option Addr)(ca cb:Nat)(w:World)(hC:bP w A l)(hD:Ints w B d)(hn:n.length≤140737488355328)(hl:l.length≤maxLen)(hd:d.length≤maxLen)(hlb:l.length*32≤140737488355328)(hdb:d.length*8≤140737488355328):
  Calls Tryz.prog 57 #[.agg #[.string ⟨n.toArray⟩,.slice A l.length ca,.slice B d.length cb]] w (CG n l d w):=by
 obtain⟨i1,hi1,hy0,hy1,hy2⟩:=info_parts DN
 obtain⟨i0,hi,hz0,hz1,hz2⟩:=info_parts uk
 have Hi:=hid hi
 have Hz0:=hid hz0
 have Hz1:=hid hz1
 have Hz2:=hid hz2
 have Hi1:=hid hi1
 have Hy0:=hid hy0
 have Hy1:=hid hy1
 have Hy2:=hid hy2
 have HCl:=hid (fun W=>iy n W (by omega))
 have HC:=hid hC
 have HD:=hid hD
 clear hi hz0 hz1 hz2 hi1 hy0 hy1 hy2 hC hD
 go_enter Tryz.func57,Tryz.ntmps57
 go_wp2_with fail
 have hb0:Below w.heap.size w ((w.alloc (.cells #[.string ⟨n.toArray⟩,.slice A l.length ca,.slice B d.length cb] 79)).alloc (.cells #[.string ⟨#[]⟩,.slice none 0 0,.slice none 0 0] 79)):=((Below.refl _ _).alloc (Nat.le_refl _) _).alloc (by simp) _
 have hx0:=(Wb.new w 79 [.string ⟨n.toArray⟩,.slice A l.length ca,.slice B d.length cb]).alloc (.cells #[.string ⟨#[]⟩,.slice none 0 0,.slice none 0 0] 79)
 have hx1:Wb ((w.alloc (.cells #[.string ⟨n.toArray⟩,.slice A l.length ca,.slice B d.length cb] 79)).alloc (.cells #[.string ⟨#[]⟩,.slice none 0 0,.slice none 0 0] 79)) (w.heap.size+1) 79 [.string ⟨#[]⟩,.slice none 0 0,.slice none 0 0]:=by
  have:=Wb.new (w.alloc (.cells #[.string ⟨n.toArray⟩,.slice A l.length ca,.slice B d.length cb] 79)) 79 [.string ⟨#[]⟩,.slice none 0 0,.slice none 0 0]
  simpa using this
 have HCB:=hid (HC.out.below hb0)
 have HDB:=hid (HD.out.below hb0)
 have HB0:=hid hb0
 have Hx0:=hid hx0
 have Hx1:=hid hx1
 clear hb0 HC HD hx0 hx1
 generalize (w.alloc (.cells #[.string ⟨n.toArray⟩,.slice A l.length ca,.slice B d.length cb] 79)).alloc (.cells #[.string ⟨#[]⟩,.slice none 0 0,.slice none 0 0] 79)=wb at *
 obtain⟨c0,c1,c2, -, -⟩:=aS Hx0.out
 have HSk:Hid (∀W:World,Below wb.heap.size wb W→W.cell? ⟨w.heap.size,0,none⟩=some (.string ⟨n.toArray⟩)∧W.cell? ⟨w.heap.size,1,none⟩=some (.slice A l.length ca)∧W.cell? ⟨w.heap.size,2,none⟩=some (.slice B d.length cb)):=
  hid (fun W hW=>⟨((Hx0.out.below hW Hx0.out.lt).cell 0),((Hx0.out.below hW Hx0.out.lt).cell 1),((Hx0.out.below hW Hx0.out.lt).cell 2)⟩)
 have hBr:Below wb.heap.size wb wb:=Below.refl _ _
 go_region_held3 (fun W=>W.cell? ⟨w.heap.size,0,none⟩=some (.string ⟨n.toArray⟩)∧W.cell? ⟨w.heap.size,1,none⟩=some (.slice A l.length ca)∧W.cell? ⟨w.heap.size,2,none⟩=some (.slice B d.length cb))
  (first|go_keep|exact HSk.out _ (by repeat (first|assumption|apply aA|apply aB)))
  (first
    | (go_at_call 58
       refine(HCl.out _).mono ?_
       rintro e w1 ⟨rfl,hb1⟩
       have hB1:=bY (a:=wb) (by repeat (first|assumption|apply aA|apply aB)) hb1)
    | (refine nO (by rfl) (.tmp 6) (.tmp 8) 77 (by rfl) 121 i0 (.agg #[.int .i64 0,.int .i64 0,.int .i64 0,.int .i64 0]) 4 32 Tryz.underlying77 Hi.out Hz0.out Hz1.out Hz2.out lZ _ (by rfl) A ca l (by rfl) (HCB.out.below (by repeat (first|assumption|apply aA|apply aB))) hl hlb ?_
       intro A2 c2' w2 hR2 hb2
       have hF2:=hR2.mono (ji (a:=wb) (by repeat (first|assumption|apply aA|apply aB)))
       have hB2:=bY (a:=wb) (by repeat (first|assumption|apply aA|apply aB)) hb2)
    | (refine nO (by rfl) (.tmp 10) (.tmp 12) 23 (by rfl) 3 i1 (.int .i64 0) 1 8 Tryz.underlying23 Hi1.out Hy0.out Hy1.out Hy2.out dL _ (by rfl) B cb d (by rfl) (HDB.out.below (by repeat (first|assumption|apply aA|apply aB))) hd hdb ?_
       intro A3 c3' w3 hR3 hb3
       have hF3:=hR3.mono (ji (a:=wb) (by repeat (first|assumption|apply aA|apply aB)))
       have hB3:=bY (a:=wb) (by repeat (first|assumption|apply aA|apply aB)) hb3
       have hx3:=Hx1.out.below hB3 Hx1.out.lt
       obtain⟨k0,k1,k2, -, -⟩:=aS hx3
       have f0:=hx3.open_ 0
       have f1:=hx3.open_ 1
       have f2:=hx3.open_ 2
       obtain⟨m0,m1,m2⟩:=HSk.out _ hB3
       clear hx3)
    | fail)
 all_goals
  go_wp2
  refine bodyPost_ret (v:=.agg #[.string ⟨n.toArray⟩,.slice A2 l.length c2',.slice A3 d.length c3']) (by simp[results,Tryz.results57,go_sem,k0,k1,k2]) rfl ?_
  exact vV c2' c3' _ _ _ HB0.out Hx1.out.lt (hF2.below (bY (a:=w2) (by repeat (first|exact Below.refl _ _|apply aA|apply aB)) hb3)) hF3 hB3
end
end Go.Proofs.YtnnhhbjbdmgpiaaGreatDoor
