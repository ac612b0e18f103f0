/- Texts of the proofs: ActN, ActM, ActL, DoW, RunK. -/
import Derived.Test.YtnnhhbjbdmgpiaaGreatDoorJ36
import Derived.Test.YtnnhhbjbdmgpiaaGreatDoorJ31
import Derived.Test.YtnnhhbjbdmgpiaaGreatDoorJ09
set_option linter.unusedSimpArgs false
set_option linter.unusedVariables false
namespace Go.Proofs.YtnnhhbjbdmgpiaaGreatDoor
set_option maxRecDepth 100000
set_option maxHeartbeats 4000000
open Lib (hid)
section
open Go.RowKit
structure KI(B H:Nat)(wb:World)(g:Nat)(a:KA)(xs:List MV)(x:MV)(m:Cf.Mod)(ps:List PV)(k:Cf.ag)(mem:List Int)(w:World):Prop where
 box:Wb w g ae (af a ⟨k.mods++[m],mem,k.nodes,k.pipes,k.procs⟩)
 row:w.ownsRow B jk 3 (.slice a.A (xs.length+1) a.ca) (xs.length+1) ((xs++[x]).flatMap eG)
 each:Each (OwM B w) xs k.mods
 new_:IsM w x m
 frA:dN H x.A m.code
 frB:dN H x.B m.data
 mem_:Nw 1 encZ w fD B a.M mem
 memH:∀gM,a.M=some ⟨gM,0,none⟩→gM<H
 nodes:Nw 4 dA w bu B a.N k.nodes
 pipes:Nw 1 iC w lX B a.S k.pipes
 procs:Nw 2 bG w jL B a.Q ps
 ends:Each (OwP B w) ps k.procs
 dat:∀y∈xs,y.ld=0∨mem=[]∨y.B≠a.M
 lo:B≤g
 hH:B≤H
 keep:Below B wb w
 capM:mem.length≤a.cm
section
variable {B H:Nat} {wb:World} {g:Nat} {a:KA} {xs:List MV} {x:MV} {m:Cf.Mod} {ps:List PV} {k:Cf.ag} {mem:List Int} {w:World}
theorem KI.putM(h:KI B H wb g a xs x m ps k mem w){gM:Nat}(ha:a.M=some ⟨gM,0,none⟩){i:Nat}(hi:i<mem.length)(v:Int):KI B H wb g a xs x m ps k (mem.set i v) (w.setCell ⟨gM,i,none⟩ (.int .i64 v)):=by
 have hx:=List.getElem?_eq_getElem hi
 have hn:=h.mem_
 rw[ha]at hn
 obtain⟨hB,cs,hw⟩:=hn.box_ hx
 have hgH:=h.memH gM ha
 refine⟨?_,aj h.row (ax h.row hw (by decide)) _,?_,?_,h.frA,h.frB,?_,h.memH,h.nodes.offW hw (by decide) _ _,h.pipes.offW hw (by decide) _ _,h.procs.offW hw (by decide) _ _,h.ends.offE hw (by decide) _ _,?_,h.lo,h.hH,h.keep.setCell hB _,by rw[List.length_set];exact h.capM⟩
 ·have:af a ⟨k.mods++[m],mem.set i v,k.nodes,k.pipes,k.procs⟩=af a ⟨k.mods++[m],mem,k.nodes,k.pipes,k.procs⟩:=by unfold af;simp
  rw[this]
  exact h.box.off_ (h.box.other hw (by decide)) _
 ·refine⟨h.each.1,fun j y n hy hn'=>?_⟩
  obtain⟨e1,e2,e3,e4,e5⟩:=h.each.2 j y n hy hn'
  refine⟨e1,e2,e3,e4.offW hw (by decide) _ _,?_⟩
  by_cases hd:n.data=[]
  ·exact .inl hd
  rcases e5 with e5|⟨g',f1,f2,f3⟩
  ·exact .inl e5
  ·refine .inr ⟨g',f1,f2,f3.off_ (p:=⟨gM,i,none⟩) ?_ _⟩
   intro he
   have he':g'=gM:=he
   rcases h.dat y (List.mem_of_getElem? hy) with d|d|d
   ·rw[e3]at d
    exact hd (List.eq_nil_of_length_eq_zero d)
   ·rw[d]at hi
    simp at hi
   ·rw[f1,ha,he']at d
    exact d rfl
 ·exact⟨h.new_.1,h.new_.2.1,h.new_.2.2.1,bF h.new_.2.2.2.1 h.frA (p:=⟨gM,i,none⟩) hgH _,bF h.new_.2.2.2.2 h.frB (p:=⟨gM,i,none⟩) hgH _⟩
 ·rw[ha]
  have:=hn.put hx Nat.zero_lt_one (x':=v) (u:=.int .i64 v) rfl
  rw[Nat.mul_one,Nat.add_zero]at this
  exact this
 ·intro y hy
  rcases h.dat y hy with d|d|d
  ·exact .inl d
  ·exact .inr (.inl (by rw[d];rfl))
  ·exact .inr (.inr d)
theorem KI.lay:∀(vs:List Int) (o:Nat) {mem:List Int} {w:World},KI B H wb g a xs x m ps k mem w→∀ {gM:Nat},a.M=some ⟨gM,0,none⟩→o+vs.length≤mem.length →
  KI B H wb g a xs x m ps k (mem.take o++vs++mem.drop (o+vs.length)) (w.setCells gM o (vs.map (Value.int .i64)))
 | [],o,mem,w,h,gM,_,_=>by simpa [World.setCells] using h
 | v :: vs,o,mem,w,h,gM,ha,hl=>by
   simp only[List.length_cons]at hl
   have h1:=KI.lay vs (o+1) (h.putM ha (i:=o) (by omega) v) ha (by rw[List.length_set];omega)
   have e:(mem.set o v).take (o+1)++vs++(mem.set o v).drop (o+1+vs.length)=mem.take o++(v :: vs)++mem.drop (o+(v :: vs).length):=by
    have ho:o<mem.length:=by omega
    rw[List.take_add_one,List.getElem?_set_self ho,List.take_set_of_le (Nat.le_refl o),List.drop_set_of_lt (by omega),List.length_cons,show o+1+vs.length=o+(vs.length+1) by omega]
    simp
   rw[e]at h1
   exact h1
theorem KI.bk(h:KI B H wb g a xs x m ps k mem w){gM:Nat}(ha:a.M=some ⟨gM,0,none⟩)(h0:0<mem.length):Bk 1 encZ w gM fD mem:=by
 obtain⟨g',h1,_,_,h2⟩:=h.mem_.at_ (i:=0) (List.getElem?_eq_getElem h0)
 rw[ha]at h1
 cases h1
 exact h2
theorem KI.aft(h:KI B H wb g a xs x m ps k mem w):A8 B wb g ⟨k.mods++[m],mem,k.nodes,k.pipes,k.procs⟩ w:=by
 refine⟨a,h.box,⟨⟨xs++[x],⟨jm (l:=xs++[x]) iT (by rw[List.length_append];exact h.row),iQ h.row (by simp)⟩,?_⟩,⟨h.mem_.rd,h.mem_.fresh⟩,⟨h.nodes.rd,h.nodes.fresh⟩,⟨h.pipes.rd,h.pipes.fresh⟩,⟨ps,⟨h.procs.rd,h.procs.fresh⟩,h.ends.mono fun _ _ h=>h.is⟩,?_,h.capM⟩,h.keep⟩
 ·exact(h.each.mono fun _ _ h=>h.is).snoc ⟨h.new_,h.frA.mono h.hH,h.frB.mono h.hH⟩
 ·show(k.mods++[m]).length≤a.ca
  have:=rC h.row
  rw[List.length_append,← h.each.1]
  exact this
theorem GG{α:Type}{sz:Nat}{enc:α→List Value}{w w':World}{A:Option Addr}{l:List α}{row:Option Nat}(h:RdS sz enc w A l)(hf:dN H A l)(hg:w.grownBy w' row)(hr:∀r,row=some r→r<H):RdS sz enc w' A l:=by
 rcases h with h|⟨b,off,rfl,hb,hc⟩
 ·exact .inl h
 ·rcases hf with hf|⟨b',off',he,hle⟩
  ·exact .inl hf
  ·cases he
   refine .inr ⟨b,off,rfl,Nat.lt_of_lt_of_le hb hg.size,fun i y hy j v hv=>?_⟩
   refine hg.cell (hc i y hy j v hv) ?_
   intro he
   have:=hr b he.symm
   omega
theorem KSt.grow{w1 w2:World}(h:KSt B wb g a xs ps k w)(hb:Below w.heap.size w w1)(hrow:∀r,(Value.slice a.A xs.length a.ca).ownBlock=some r→r<H)(hMH:∀gM,a.M=some ⟨gM,0,none⟩→gM<H)(hH:B≤H)(hgH:g<H)
  (hx:IsM w1 x m) (fA:dN H x.A m.code) (fB:dN H x.B m.data) {A':Option Addr} {c':Nat} (hg:w1.grownBy w2 (Value.slice a.A xs.length a.ca).ownBlock)
  (hown:w2.ownsRow B jk 3 (.slice A' (xs.length+1) c') (xs.length+1) (xs.flatMap eG++[x].flatMap eG)):
  KI B H wb g { a with A:=A',ca:=c' } xs x m ps k k.mem (w2.setCell ⟨g,0,none⟩ (.slice A' (xs.length+1) c')):=by
 have h1:=h.below hb
 have hbox:=h1.box.grown hg (ax h1.own.row h1.box (by decide))
 have key:∀ {α:Type} {sz:Nat} {enc:α→List Value} {t:TypeId} {A:Option Addr} {l:List α},Nw sz enc w1 t B A l→jk≠t→t≠ae→Nw sz enc (w2.setCell ⟨g,0,none⟩ (.slice A' (xs.length+1) c')) t B A l:=fun hN h2 h3=>(hN.grownR h1.own.row h2 hg).offW hbox h3 0 _
 have hM:∀y n,OwM B w1 y n→OwM B (w2.setCell ⟨g,0,none⟩ (.slice A' (xs.length+1) c')) y n:=fun y n hy=>⟨hy.1,hy.2.1,hy.2.2.1,key hy.2.2.2.1 (by decide) (by decide),key hy.2.2.2.2 (by decide) (by decide)⟩
 have hP:∀y n,OwP B w1 y n→OwP B (w2.setCell ⟨g,0,none⟩ (.slice A' (xs.length+1) c')) y n:=fun y n hy=>⟨hy.1,hy.2.1,key hy.2.2.1 (by decide) (by decide),hy.2.2.2⟩
 have hR:∀ {α:Type} {sz:Nat} {enc:α→List Value} {A:Option Addr} {l:List α},RdS sz enc w1 A l→dN H A l→RdS sz enc (w2.setCell ⟨g,0,none⟩ (.slice A' (xs.length+1) c')) A l:=fun hR hF=>bF (GG hR hF hg hrow) hF (p:=⟨g,0,none⟩) hgH _
 refine⟨?_,?_,h1.own.each.mono hM,⟨hx.1,hx.2.1,hx.2.2.1,hR hx.2.2.2.1 fA,hR hx.2.2.2.2 fB⟩,fA,fB,key h1.own.mem (by decide) (by decide),hMH,key h1.own.nodes (by decide) (by decide),key h1.own.pipes (by decide) (by decide),key h1.own.procs (by decide) (by decide),h1.own.ends.mono hP,h1.own.dat,h.lo,hH,(h1.keep.grown hg h1.room (fun r hr=>bZ h1.own.row r hr)).setCell h.lo _,h.own.capM⟩
 ·have:=hbox.put 0 (.slice A' (xs.length+1) c')
  have e:af { a with A:=A',ca:=c' } ⟨k.mods++[m],k.mem,k.nodes,k.pipes,k.procs⟩=(af a k).set 0 (.slice A' (xs.length+1) c'):=by
   unfold af
   simp[h.own.each.1]
  rw[e]
  exact this
 ·rw[List.flatMap_append]
  exact aj hown (ax hown hbox (by decide)) _
end
end
section
open Go.RowKit
def l9(B:Nat)(wb:World)(g lim:Nat)(k:Cf.ag)(w:World):Prop:=(∃a xs ps,KSt B wb g a xs ps k w)∨∃(H:Nat) (a:KA) (xs:List MV) (x:MV) (m:Cf.Mod) (ps:List PV) (k0:Cf.ag) (mem:List Int),KI B H wb g a xs x m ps k0 mem w∧lim≤H∧k=⟨k0.mods++[m],mem,k0.nodes,k0.pipes,k0.procs⟩
def kM(B:Nat)(wb:World)(g:Nat)(w:World)(k:Cf.ag)(w':World):Prop:=l9 B wb g w.heap.size k w'∧KpA w w'
def pI(B:Nat)(wb:World)(g:Nat)(w:World)(d:Cf.Did)(e:Ending)(w':World):Prop:=e = .returned (.agg (aF d.ans).toArray)∧kM B wb g w d.kern w'
theorem ah.fin{B:Nat}{wb:World}{g:Nat}{w w':World}{k:Cf.ag}(h:ah B wb g w k w'):kM B wb g w k w':=⟨.inl h.1,h.2⟩
theorem dF.end_{B:Nat}{wb:World}{g:Nat}{w w':World}{d:Cf.Did}{e:Ending}(h:dF B wb g w d e w'):pI B wb g w d e w':=⟨h.1,h.2.fin⟩
theorem KpA.cells{w0:World}{g:Nat}{t:TypeId}(hne:au≠t):∀(vs:List Value) (o:Nat) (w:World),KpA w0 w→(∃ds,Wb w g t ds)→KpA w0 (w.setCells g o vs)
 | [],_,_,h,_=>h
 | v :: vs,o,w,h,⟨ds,hg⟩=>KpA.cells hne vs (o+1) (w.setCell ⟨g,o,none⟩ v) (h.offX ⟨ds,hg⟩ hne o v) ⟨_,hg.put o v⟩
theorem xX{g b:Nat}{t:TypeId}:∀(vs:List Value) (o:Nat) (w:World),(∃ds,Wb w b t ds)→∃ds,Wb (w.setCells g o vs) b t ds
 | [],_,_,h=>h
 | v :: vs,o,w,⟨ds,h⟩=>xX vs (o+1) (w.setCell ⟨g,o,none⟩ v) (by
   by_cases hb:b=g
   ·subst hb
    exact⟨_,h.put o v⟩
   ·exact⟨ds,h.off_ (p:=⟨g,o,none⟩) hb v⟩)
theorem KpA.grown{B:Nat}{w0 w w':World}{A:Option Addr}{n c:Nat}{vs:List Value}(h:KpA w0 w)(hr:w.ownsRow B jk 3 (.slice A n c) n vs)(hg:w.grownBy w' (Value.slice A n c).ownBlock):KpA w0 w':=fun b cs hb=>(h b cs hb).grown hg (ax hr (h b cs hb) (by decide))
section
variable {B H:Nat} {wb:World} {g:Nat} {a:KA} {xs:List MV} {x:MV} {m:Cf.Mod} {ps:List PV} {k:Cf.ag} {mem:List Int} {w:World}
theorem KI.offA(h:KI B H wb g a xs x m ps k mem w){b:Nat}{cs:List Value}(hb:Wb w b au cs)(hB:B≤b)(hH:b<H)(i:Nat)(u:Value):KI B H wb g a xs x m ps k mem (w.setCell ⟨b,i,none⟩ u):=
 ⟨h.box.off_ (p:=⟨b,i,none⟩) (h.box.other hb (by decide)) u,aj h.row (ax h.row hb (by decide)) u,h.each.offM hb (by decide) (by decide) i u,⟨h.new_.1,h.new_.2.1,h.new_.2.2.1,bF h.new_.2.2.2.1 h.frA (p:=⟨b,i,none⟩) hH u,bF h.new_.2.2.2.2 h.frB (p:=⟨b,i,none⟩) hH u⟩,h.frA,h.frB,h.mem_.offW hb (by decide) i u,h.memH,h.nodes.offW hb (by decide) i u,h.pipes.offW hb (by decide) i u,h.procs.offW hb (by decide) i u,h.ends.offE hb (by decide) i u,h.dat,h.lo,h.hH,h.keep.setCell hB u,h.capM⟩
theorem Ib{w0 wo W:World}{b:Nat}{cs:List Value}(h:KI B H wb g a xs x m ps k mem W)(hA:KpA w0 W)(hw:KpA wo w0)(hb:Wb w0 b au cs)(hl:wo.heap.size≤b)(hB:B≤b)(hH:b<H)(v0 v1 v2:Value):
  kM B wb g wo ⟨k.mods++[m],mem,k.nodes,k.pipes,k.procs⟩ (((W.setCell ⟨b,0,none⟩ v0).setCell ⟨b,1,none⟩ v1).setCell ⟨b,2,none⟩ v2):=by
 have hb0:=hA b cs hb
 refine⟨.inr ⟨H,a,xs,x,m,ps,k,mem,((h.offA hb0 hB hH 0 v0).offA (hb0.put 0 v0) hB hH 1 v1).offA ((hb0.put 0 v0).put 1 v1) hB hH 2 v2,by omega,rfl⟩,fun b' cs' hb'=>?_⟩
 have hne:b'≠b:=by have:=hb'.lt;omega
 exact(((hA b' cs' (hw b' cs' hb')).off_ (p:=⟨b,0,none⟩) hne v0).off_ (p:=⟨b,1,none⟩) hne v1).off_ (p:=⟨b,2,none⟩) hne v2
end
theorem l9.aft{lim:Nat}{B:Nat}{wb:World}{g:Nat}{k:Cf.ag}{w:World}(h:l9 B wb g lim k w):A8 B wb g k w:=by
 rcases h with ⟨a,xs,ps,h⟩|⟨H,a,xs,x,m,ps,k0,mem,h,_,rfl⟩
 ·exact h.aft
 ·exact h.aft
theorem l9.lower{lim lim':Nat}{B:Nat}{wb:World}{g:Nat}{k:Cf.ag}{w:World}(h:l9 B wb g lim k w)(hl:lim'≤lim):l9 B wb g lim' k w:=by
 rcases h with h|⟨H,a,xs,x,m,ps,k0,mem,h,h2,h3⟩
 ·exact .inl h
 ·exact .inr ⟨H,a,xs,x,m,ps,k0,mem,h,Nat.le_trans hl h2,h3⟩
theorem l9.ans{lim:Nat}{B:Nat}{wb:World}{g:Nat}{k:Cf.ag}{w:World}(h:l9 B wb g lim k w){b:Nat}{cs:List Value}(hb:Wb w b au cs)(hB:B≤b)(hl:b<lim)(v0 v1 v2:Value):l9 B wb g lim k (((w.setCell ⟨b,0,none⟩ v0).setCell ⟨b,1,none⟩ v1).setCell ⟨b,2,none⟩ v2):=by
 rcases h with ⟨a,xs,ps,h⟩|⟨H,a,xs,x,m,ps,k0,mem,h,h2,h3⟩
 ·exact .inl ⟨a,xs,ps,h.ans hb hB v0 v1 v2⟩
 ·exact .inr ⟨H,a,xs,x,m,ps,k0,mem,((h.offA hb hB (Nat.lt_of_lt_of_le hl h2) 0 v0).offA (hb.put 0 v0) hB (Nat.lt_of_lt_of_le hl h2) 1 v1).offA ((hb.put 0 v0).put 1 v1) hB (Nat.lt_of_lt_of_le hl h2) 2 v2,h2,h3⟩
theorem mW{B:Nat}{wb:World}{g:Nat}{k:Cf.ag}{wo w0 W:World}{lim b:Nat}{cs:List Value}(h:l9 B wb g lim k W)(hA:KpA w0 W)(hw:KpA wo w0)(hb:Wb w0 b au cs)(hl:wo.heap.size≤b)(hB:B≤b)(hlim:b<lim)(v0 v1 v2:Value):
  kM B wb g wo k (((W.setCell ⟨b,0,none⟩ v0).setCell ⟨b,1,none⟩ v1).setCell ⟨b,2,none⟩ v2):=by
 have hb0:=hA b cs hb
 refine⟨(h.ans hb0 hB hlim v0 v1 v2).lower (by omega),fun b' cs' hb'=>?_⟩
 have hne:b'≠b:=by have:=hb'.lt;omega
 exact(((hA b' cs' (hw b' cs' hb')).off_ (p:=⟨b,0,none⟩) hne v0).off_ (p:=⟨b,1,none⟩) hne v1).off_ (p:=⟨b,2,none⟩) hne v2
theorem Ku{mem data:List Int}{n:Nat}(hm:mem.length=1024)(hn:n<8)(hd:data.length≤64):
  (mem.take (n*64)++data++mem.drop (n*64+data.length)).take (n*64+data.length)++List.replicate (64-data.length) 0++(mem.take (n*64)++data++mem.drop (n*64+data.length)).drop (n*64+data.length+(List.replicate (64-data.length) (0:Int)).length)=Cf.qV mem data (64*n):=by
 have h1:(mem.take (n*64)++data).length=n*64+data.length:=by rw[List.length_append,List.length_take];omega
 rw[List.take_append_of_le_length (by omega),List.take_of_length_le (by omega),List.length_replicate,List.drop_append,List.drop_eq_nil_of_le (by omega),List.nil_append,List.drop_drop,h1]
 unfold Cf.qV
 rw[show n*64+data.length+(n*64+data.length+(64-data.length)-(n*64+data.length))=64*n+64 by omega,Nat.mul_comm n 64]
 simp
theorem FM{w:World}{gM L C o d:Nat}{Bd:Option Addr}{data mem:List Int}(hb:Bk 1 encZ w gM fD mem)(hr:Ints w Bd data)(hl:o+data.length≤mem.length)(hL:data.length≤L)(ty:TypeId):
  (Builtin.copy_ #[23,23] ty #[.slice (some ⟨gM,o,none⟩) L C,.slice Bd data.length d]).run Tryz.prog w = .ok (goInt data.length) (w.setCells gM o (data.map (Value.int .i64))):=by
 have hsz:(Tryz.prog.info? fD).map (·.size)=some 1:=by kernel_rfl
 rcases hr with h0|⟨b,off,rfl,hbl,hc⟩
 ·subst h0
  have:=run_copy_none (P:=Tryz.prog) w 23 23 ty fD (some ⟨gM,o,none⟩) Bd L C 0 d Tryz.underlying23 hsz (Nat.zero_min L)
  exact this
 ·have:=run_copy_cells (P:=Tryz.prog) w 23 23 ty fD gM o L C ⟨b,off,none⟩ data.length d (data.map (Value.int .i64)) Tryz.underlying23 hsz (by rw[List.length_map];exact(Nat.min_eq_left hL).symm)
   (fun j v hv=>by
     rw[List.getElem?_map,Option.map_eq_some_iff]at hv
     obtain⟨z,hz,rfl⟩:=hv
     have:=hc j z hz 0 _ rfl
     rw[show off+j*1+0=off+j by omega]at this
     have e:(⟨b,off,none⟩:Addr).add j=⟨b,off+j,none⟩:=by
      unfold Addr.add
      split
      ·subst_vars;rfl
      ·rfl
     rw[e]
     exact this)
   (fun j hj=>by
     have:=hb.there (o+j) (by rw[List.length_map]at hj;omega)
     rwa [Nat.zero_add]at this)
   (fun j _=>hb.open_ _) (fun v hv=>by
     obtain⟨z,_,rfl⟩:=List.mem_map.1 hv
     rfl)
  rw[List.length_map]at this
  exact this
theorem CU{w:World}{gM o n C:Nat}{mem:List Int}(hb:Bk 1 encZ w gM fD mem)(hl:o+n≤mem.length)(ty:TypeId):
  (Builtin.clear_ #[23] ty #[.slice (some ⟨gM,o,none⟩) n C]).run Tryz.prog w = .ok (.tuple #[]) (w.setCells gM o ((List.replicate n (0:Int)).map (Value.int .i64))):=by
 rcases Nat.eq_zero_or_pos n with h0|h0
 ·subst h0
  simp[Builtin.clear_,run_underlying Tryz.underlying23,World.setCells]
 ·obtain⟨i1,hi1,hy0,hy1,hy2⟩:=info_parts xu
  have hv:∀w,(zeroValue fD).run Tryz.prog w = .ok (.int .i64 0) w:=by
   intro w
   simp[zeroValue,typeInfo,hi1,hy0]
  have:=Lib.run_clear_slice (P:=Tryz.prog) w 23 fD ty (.int .i64 0) Tryz.underlying23 hv rfl rfl gM o n C h0 (fun j hj=>by
    have:=hb.there (o+j) (by omega)
    rwa [Nat.zero_add]at this) (fun j _=>hb.open_ _)
  rw[List.map_replicate]
  exact this
theorem AQ{B:Nat}{wb:World}{g:Nat}{a:KA}{xs:List MV}{ps:List PV}(k:Cf.ag)(s:List UInt8)(w:World)(h:KSt B wb g a xs ps k w)(hG:Cf.Good k)(hs:s.length≤maxLen)(hT:Tabs B wb):
  Calls Tryz.prog 67 #[.pointer (some ⟨g,0,none⟩),.string ⟨s.toArray⟩] w (pI B wb g w (Cf.iL k s)):=by
 obtain⟨i5,hi5,hz5,hs5,hy5⟩:=info_parts D8
 have Hi5:=hid hi5
 have Hz5:=hid hz5
 have Hs5:=hid hs5
 have Hy5:=hid hy5
 clear hi5 hz5 hs5 hy5
 obtain⟨A,ca,M,cm,N,cn,S,cs,Q,cq⟩:=a
 obtain⟨gM,hgM,hMB,hMlt,_⟩:=h.own.mem.at_ (i:=0) (List.getElem?_eq_getElem (by rw[hG.memL];omega))
 simp only at hgM
 subst hgM
 obtain⟨w0,hw0⟩:∃w0:World,w0=w.alloc (.cells #[.int .i64 0,.int .i64 0,.string ⟨#[]⟩] au):=⟨_,rfl⟩
 have HXB:=hid (show Wb w0 w.heap.size au [.int .i64 0,.int .i64 0,.string ⟨#[]⟩] by rw[hw0];exact Wb.new w au [.int .i64 0,.int .i64 0,.string ⟨#[]⟩])
 have HXw:=hid (show KpA w w0 by rw[hw0];exact KpA.alloc w _)
 have HX0:=hid (KpA.refl w0)
 have hb0:Below w.heap.size w w0:=by rw[hw0];exact(Below.refl _ _).alloc (Nat.le_refl _) _
 have hH:w.heap.size<w0.heap.size:=by rw[hw0];simp
 have H:=hid h
 have HK0:=hid (h.below hb0)
 have Hw0:=hid hw0
 have hroom:=h.room
 have hlow:w.heap.size≤w.heap.size:=Nat.le_refl _
 have hcap:=h.own.capM
 have mi:=hid (show ∀r,(Value.slice A xs.length ca).ownBlock=some r→r<w0.heap.size from fun r hr=>by
  rcases h.own.row.2 with ⟨hv,_⟩|⟨g',cap,cur,hv,_,hh,_⟩
  ·rw[hv]at hr
   cases hr
  ·rw[hv]at hr
   cases hr
   have:=(Array.getElem?_eq_some_iff.1 hh).1
   exact Nat.lt_trans this hH)
 have HgH:=hid (show g<w0.heap.size from Nat.lt_trans h.box.lt hH)
 have hxl:xs.length=k.mods.length:=h.own.each.1
 have HT:=hid (show Cf.iL k s=if (Cf.fC s).err≠0 then Cf.ai k (Cf.fC s).err else if k.mods.any (Cf.eF (Cf.fC s).mod.name) then Cf.ai k 7 else if k.mods.length=8 then Cf.ai k 8
  else⟨⟨k.mods++[(Cf.fC s).mod],Cf.qV k.mem (Cf.fC s).mod.data (64*k.mods.length),k.nodes,k.pipes,k.procs⟩,⟨0,k.mods.length,[]⟩⟩ from rfl)
 have HDc:=hid (decode_any s w0 (hT w0 (h.below hb0).keep).1 (hT w0 (h.below hb0).keep).2 hs)
 have HMd:=hid (Cf.yC s)
 have HFm:=hid (fun(name:List UInt8) W (hW:KSt B wb g ⟨A,ca,some ⟨gM,0,none⟩,cm,N,cn,S,cs,Q,cq⟩ xs ps k W)=>nJ xs k.mods A ca name W (jm iT hW.own.row) (hW.own.each.mono fun _ _ h=>h.is.1) (iO (by have:=hG.modsL;omega)))
 have Heg:=hid (fun args w=>show(callFunc 85 args).run Tryz.prog w = .ok (.enter 85 args) w by simp[go_sem])
 have hm8:k.mods.length≤8:=hG.modsL
 have HmL:=hid hG.memL
 rw[HT.out]
 clear h hG hT hs hw0 hb0 HT
 generalize Cf.fC s=dm at *
 obtain⟨⟨nm,code,data⟩,er⟩:=dm
 simp only at *
 by_cases he:er=0
 ·subst he
  rw[if_neg (by simp)]
  have hdl:data.length≤64:=(Cf.lg (HMd.out rfl)).2.1
  have Nz:=hid (Cf.qQ (p:=Cf.eF nm) (l:=k.mods))
  have HFn:=hid (HFm.out nm)
  clear HFm HMd
  generalize Cf.aJ (Cf.eF nm) k.mods=z1 at *
  generalize k.mods.any (Cf.eF nm)=bb at *
  cases bb
  ·skip
   have hz1:¬0≤z1:=by have:=Nz.out;simpa using this
   rw[if_neg (by decide)]
   by_cases h8:k.mods.length=8
   ·rw[if_pos h8]
    have H8:=hid h8
    have h8I:(k.mods.length:Int)=8:=by omega
    clear h8
    go_enter Tryz.func67,Tryz.ntmps67
    go_upto_region 1 with fail
    rw[← Hw0.out]
    clear Hw0
    go_wp2_with fail
    refine HDc.out.mono ?_
    rintro e w1 ⟨A2,B2,c2,d2,rfl,hC,hD,hb1,hFA,hFB⟩
    simp only at hC hD hFA hFB
    go_upto_region 2 with fail
    have hb2:Below w1.heap.size w1 (w1.alloc (.cells #[.string ⟨nm.toArray⟩,.slice A2 code.length c2,.slice B2 data.length d2] 79)):=(Below.refl _ _).alloc (Nat.le_refl _) _
    have HB2:=hid (show Wb (w1.alloc (.cells #[.string ⟨nm.toArray⟩,.slice A2 code.length c2,.slice B2 data.length d2] 79)) w1.heap.size jk [.string ⟨nm.toArray⟩,.slice A2 code.length c2,.slice B2 data.length d2] from Wb.new w1 jk [.string ⟨nm.toArray⟩,.slice A2 code.length c2,.slice B2 data.length d2])
    have HgB:=hid (show w0.heap.size≤w1.heap.size from hb1.size)
    have HK2:=hid ((HK0.out.below hb1).below hb2)
    have HX2:=hid ((HX0.out.below hb1).below hb2)
    have HC2:=hid (hC.below hb2)
    have HD2:=hid (hD.below hb2)
    have HFA:=hid hFA
    have HFB:=hid hFB
    clear hC hD hb1 hFA hFB HK0 HX0 HDc hb2
    generalize w1.heap.size=gB at *
    generalize w1.alloc (.cells #[.string ⟨nm.toArray⟩,.slice A2 code.length c2,.slice B2 data.length d2] 79)=w2 at *
    have hK2:=HK2.out
    have k0:=hK2.ptr.c0
    have kl:=hK2.box.lt
    have hB2:=HB2.out
    have b0:=hB2.cell 0
    simp only[List.getElem?_cons_zero]at b0
    have bl:=hB2.lt
    clear hK2 hB2
    go_wp2_with fail
    go_region_law (first
     | (refine jh (by rfl) 85 (.tmp 21) (.tmp 23) #[22,9] (by rfl) (.slice A k.mods.length ca) (.string ⟨nm.toArray⟩) (by rfl) (by rfl) Heg.out (HFn.out _ HK2.out.draw) ?_
        rintro e w3 ⟨rfl,hb3⟩
        refine⟨_,rfl,?_⟩
        have GX:=hid (show Below w2.heap.size w2 w3 from(Below.refl _ _).drew.trans hb3)
        have HK3:=hid (HK2.out.draw.below hb3)
        have HX3:=hid ((HX2.out.draw 1).below hb3)
        have HB3:=hid ((HB2.out.draw 1).below hb3 HB2.out.lt)
        clear hb3 k0 kl b0 bl)
     | fail)
    all_goals
     have hK3:=HK3.out
     have k0:=hK3.ptr.c0
     have kl:=hK3.box.lt
     clear hK3
     go_wp2_with fail
     refine(az 8 _).mono ?_
     rintro e w4 ⟨rfl,hb4⟩
     have HK4:=hid (HK3.out.below hb4)
     have HX4:=hid (HX3.out.below hb4)
     simp only[aF]
     clear hb4 HK3 HX3
     have hX9:=HX4.out _ _ HXB.out
     have HFin:=hid (ay HK4.out HX4.out HXw.out HXB.out hlow hroom)
     obtain⟨p0,p1,p2,f0,hl9⟩:=aS hX9
     clear hX9 HK4 HX4 HXw HXB
     go_wp2
     refine bodyPost_ret (v:=.agg #[.int .i64 8,.int .i64 0,.string ⟨#[]⟩]) (by simp[results,Tryz.results67,go_sem,p0,p1,p2]) rfl ?_
     exact⟨rfl,ah.fin (by(show ah _ _ _ _ k _);with_reducible exact HFin.out _ _ _)⟩
   ·skip
    rw[if_neg h8]
    have hn8:k.mods.length<8:=by omega
    have hI8:¬(k.mods.length:Int)=8:=by omega
    clear h8
    go_enter Tryz.func67,Tryz.ntmps67
    go_upto_region 1 with fail
    rw[← Hw0.out]
    clear Hw0
    go_wp2_with fail
    refine HDc.out.mono ?_
    rintro e w1 ⟨A2,B2,c2,d2,rfl,hC,hD,hb1,hFA,hFB⟩
    simp only at hC hD hFA hFB
    go_upto_region 2 with fail
    have hb2:Below w1.heap.size w1 (w1.alloc (.cells #[.string ⟨nm.toArray⟩,.slice A2 code.length c2,.slice B2 data.length d2] 79)):=(Below.refl _ _).alloc (Nat.le_refl _) _
    have HB2:=hid (show Wb (w1.alloc (.cells #[.string ⟨nm.toArray⟩,.slice A2 code.length c2,.slice B2 data.length d2] 79)) w1.heap.size jk [.string ⟨nm.toArray⟩,.slice A2 code.length c2,.slice B2 data.length d2] from Wb.new w1 jk [.string ⟨nm.toArray⟩,.slice A2 code.length c2,.slice B2 data.length d2])
    have HgB:=hid (show w0.heap.size≤w1.heap.size from hb1.size)
    have HK2:=hid ((HK0.out.below hb1).below hb2)
    have HX2:=hid ((HX0.out.below hb1).below hb2)
    have HC2:=hid (hC.below hb2)
    have HD2:=hid (hD.below hb2)
    have HFA:=hid hFA
    have HFB:=hid hFB
    clear hC hD hb1 hFA hFB HK0 HX0 HDc hb2
    generalize w1.heap.size=gB at *
    generalize w1.alloc (.cells #[.string ⟨nm.toArray⟩,.slice A2 code.length c2,.slice B2 data.length d2] 79)=w2 at *
    have hK2:=HK2.out
    have k0:=hK2.ptr.c0
    have kl:=hK2.box.lt
    have hB2:=HB2.out
    have b0:=hB2.cell 0
    simp only[List.getElem?_cons_zero]at b0
    have bl:=hB2.lt
    clear hK2 hB2
    go_wp2_with fail
    go_region_law (first
     | (refine jh (by rfl) 85 (.tmp 21) (.tmp 23) #[22,9] (by rfl) (.slice A k.mods.length ca) (.string ⟨nm.toArray⟩) (by rfl) (by rfl) Heg.out (HFn.out _ HK2.out.draw) ?_
        rintro e w3 ⟨rfl,hb3⟩
        refine⟨_,rfl,?_⟩
        have GX:=hid (show Below w2.heap.size w2 w3 from(Below.refl _ _).drew.trans hb3)
        have HK3:=hid (HK2.out.draw.below hb3)
        have HX3:=hid ((HX2.out.draw 1).below hb3)
        have HB3:=hid ((HB2.out.draw 1).below hb3 HB2.out.lt)
        clear hb3 k0 kl b0 bl)
     | fail)
    all_goals
     have HC3:=hid (HC2.out.below GX.out)
     have HD3:=hid (HD2.out.below GX.out)
     clear HC2 HD2 HK2 HX2 HB2 GX
     have HOWN:=hid (fun W (hW:Below w3.heap.size w3 W)=>show W.ownsRow B jk 3 (.slice A k.mods.length ca) k.mods.length (xs.flatMap eG) from by
      have:=(HK3.out.below hW).own.row
      rw[hxl]at this
      exact this)
     have L9:=hid (RdS.below (yZ w3 79 ⟨nm,A2,code.length,c2,B2,data.length,d2⟩) ((Below.refl _ _).drew))
     have hd3:Below w3.heap.size w3 w3:=Below.refl _ _
     have hK3:=HK3.out
     have k0:=hK3.ptr.c0
     have kl:=hK3.box.lt
     have hB3:=HB3.out
     obtain⟨b0,b1,b2, -,bl⟩:=aS hB3
     have HRm:=hid hK3.room
     clear hK3 hB3
     go_wp2_with fail
     go_region_law (first
      | (refine aU (by rfl) (.tmp 39) (.tmp 41) 22 (by rfl) B 79 i5 (.agg #[.string ⟨#[]⟩,.slice none 0 0,.slice none 0 0]) 3 64 Tryz.underlying22 Hi5.out Hz5.out Hs5.out Hy5.out rfl (by decide) iT zh (.slice A k.mods.length ca) k.mods.length (xs.flatMap eG) (by rfl) (HOWN.out _ (by repeat (first|assumption|apply aA|apply aB))) (some ⟨w3.heap.size,0,none⟩) 1 [⟨nm,A2,code.length,c2,B2,data.length,d2⟩] (by rfl) L9.out (by unfold maxLen;simp;omega) (by simp;omega) (Nat.le_trans HRm.out (by simp)) ?_
         intro v5 w5 hown hgr hat
         obtain⟨A5,c5,rfl⟩:=aP hown
         have hbW:Below w3.heap.size w3 ((w3.alloc (.cells #[.string ⟨nm.toArray⟩,.slice A2 code.length c2,.slice B2 data.length d2] 79)).drew):=((Below.refl _ _).alloc (Nat.le_refl _) _).drew
         have HI6:=hid (HK3.out.grow (m:=⟨nm,code,data⟩) (x:=⟨nm,A2,code.length,c2,B2,data.length,d2⟩) (A':=A5) (c':=c5) hbW mi.out (fun g' hg'=>by cases hg';exact Nat.lt_trans hMlt hH) (by omega) HgH.out ⟨rfl,rfl,rfl,HC3.out.below hbW,HD3.out.below hbW⟩ HFA.out HFB.out (by rw[hxl];exact hgr) (by rw[hxl];exact hown))
         rw[hxl]at HI6
         have Hu:=(HK3.out.below hbW).box.grown hgr (by have:=ax (HK3.out.below hbW).own.row (HK3.out.below hbW).box (by decide);rw[hxl]at this;exact this)
         have y0:w5.cell? ⟨g,0,none⟩=some (.slice A k.mods.length ca):=Hu.cell 0
         have yf:=Hu.open_ 0
         have yl:=Hu.lt
         have HX6:=hid ((((HX3.out.trans (KpA.alloc w3 (.cells #[.string ⟨nm.toArray⟩,.slice A2 code.length c2,.slice B2 data.length d2] 79))).draw 1).grown (HOWN.out _ hbW) hgr).offX ⟨_,Hu⟩ (by decide) 0 (.slice A5 (k.mods.length+1) c5))
         have HB6:=hid ((((HB3.out.below hbW HB3.out.lt).grown hgr (fun he=>by rw[← hxl]at he;have h1:=mi.out _ he;have h2:=HgB.out;omega)).off_ (p:=⟨g,0,none⟩) (by have:=HB3.out.other HK3.out.box (by decide);exact this) (.slice A5 (k.mods.length+1) c5)))
         clear Hu hown hgr hat hbW)
      | fail)
     all_goals
      clear L9 HOWN k0 kl b0 b1 b2 bl HK3 HX3 HB3
      go_upto_region 10 with fail
      clear y0 yf yl
      generalize w5.setCell ⟨g,0,none⟩ (.slice A5 (k.mods.length+1) c5)=w6 at *
      have hI6:=HI6.out
      have k1:=hI6.box.cell 1
      simp only[af,gq,HmL.out]at k1
      have kl:=hI6.box.lt
      have hB6:=HB6.out
      have b2:=hB6.cell 2
      simp only[gq]at b2
      have bl:=hB6.lt
      have hb6:=hI6.bk rfl (by rw[HmL.out];omega)
      have hcm:1024≤cm:=by rw[← HmL.out];exact hcap
      have hnc:¬cm=k.mods.length*64:=by omega
      have NU:¬cm-k.mods.length*64=data.length:=by omega
      have hcI:((k.mods.length:Int)+1)*64≤(cm:Int):=by omega
      have ht1:((k.mods.length:Int)*64).toNat=k.mods.length*64:=by omega
      have ht2:(((k.mods.length:Int)+1)*64).toNat=k.mods.length*64+64:=by omega
      have hcp:=fun ty=>FM (data:=data) (Bd:=B2) (L:=64) (C:=cm-k.mods.length*64) (o:=k.mods.length*64) (d:=d2) hb6 hI6.new_.2.2.2.2 (by rw[HmL.out];omega) hdl ty
      have HI7:=hid (KI.lay data (k.mods.length*64) hI6 rfl (by rw[HmL.out];omega))
      have hb7:=HI7.out.bk rfl (by simp only[List.length_append,List.length_take,List.length_drop,HmL.out];omega)
      have hcl:=fun C ty=>CU (C:=C) (n:=64-data.length) (o:=k.mods.length*64+data.length) hb7 (by simp only[List.length_append,List.length_take,List.length_drop,HmL.out];omega) ty
      have HI8:=hid (KI.lay (List.replicate (64-data.length) 0) (k.mods.length*64+data.length) HI7.out rfl (by simp only[List.length_append,List.length_take,List.length_drop,List.length_replicate,HmL.out];omega))
      rw[Ku HmL.out hn8 hdl]at HI8
      have HX8:=hid (KpA.cells (t:=fD) (by decide) ((List.replicate (64-data.length) (0:Int)).map (Value.int .i64)) (k.mods.length*64+data.length) _ (KpA.cells (t:=fD) (by decide) (data.map (Value.int .i64)) (k.mods.length*64) w6 HX6.out hb6.box) (xX _ _ _ hb6.box))
      clear hI6 hB6 hb6 hb7 HI7 HX6 HI6 HB6
      go_upto_region 12 with fail
      simp only[List.map_replicate]at HI8 HX8
      generalize (w6.setCells gM (k.mods.length*64) (data.map (Value.int .i64))).setCells gM (k.mods.length*64+data.length) (List.replicate (64-data.length) (Value.int .i64 0))=w8 at *
      clear hcp hcl k1 kl b2 bl hcm hnc NU hcI ht1 ht2
      have hX9:=HX8.out _ _ HXB.out
      have HFin:=hid (Ib HI8.out HX8.out HXw.out HXB.out hlow hroom hH)
      obtain⟨p0,p1,p2,f0,hl9⟩:=aS hX9
      clear hX9 HI8 HX8 HXw HXB
      go_wp2
      refine bodyPost_ret (v:=.agg #[.int .i64 0,.int .i64 k.mods.length,.string ⟨#[]⟩]) (by simp[results,Tryz.results67,go_sem,p0,p1,p2]) rfl ?_
      exact⟨rfl,by(show kM _ _ _ _ ⟨_,_,_,_,_⟩ _);with_reducible exact HFin.out _ _ _⟩
  ·skip
   have hz1:0≤z1:=by have:=Nz.out;simpa using this
   rw[if_pos rfl]
   go_enter Tryz.func67,Tryz.ntmps67
   go_upto_region 1 with fail
   rw[← Hw0.out]
   clear Hw0
   go_wp2_with fail
   refine HDc.out.mono ?_
   rintro e w1 ⟨A2,B2,c2,d2,rfl,hC,hD,hb1,hFA,hFB⟩
   simp only at hC hD hFA hFB
   go_upto_region 2 with fail
   have hb2:Below w1.heap.size w1 (w1.alloc (.cells #[.string ⟨nm.toArray⟩,.slice A2 code.length c2,.slice B2 data.length d2] 79)):=(Below.refl _ _).alloc (Nat.le_refl _) _
   have HB2:=hid (show Wb (w1.alloc (.cells #[.string ⟨nm.toArray⟩,.slice A2 code.length c2,.slice B2 data.length d2] 79)) w1.heap.size jk [.string ⟨nm.toArray⟩,.slice A2 code.length c2,.slice B2 data.length d2] from Wb.new w1 jk [.string ⟨nm.toArray⟩,.slice A2 code.length c2,.slice B2 data.length d2])
   have HgB:=hid (show w0.heap.size≤w1.heap.size from hb1.size)
   have HK2:=hid ((HK0.out.below hb1).below hb2)
   have HX2:=hid ((HX0.out.below hb1).below hb2)
   have HC2:=hid (hC.below hb2)
   have HD2:=hid (hD.below hb2)
   have HFA:=hid hFA
   have HFB:=hid hFB
   clear hC hD hb1 hFA hFB HK0 HX0 HDc hb2
   generalize w1.heap.size=gB at *
   generalize w1.alloc (.cells #[.string ⟨nm.toArray⟩,.slice A2 code.length c2,.slice B2 data.length d2] 79)=w2 at *
   have hK2:=HK2.out
   have k0:=hK2.ptr.c0
   have kl:=hK2.box.lt
   have hB2:=HB2.out
   have b0:=hB2.cell 0
   simp only[List.getElem?_cons_zero]at b0
   have bl:=hB2.lt
   clear hK2 hB2
   go_wp2_with fail
   go_region_law (first
    | (refine jh (by rfl) 85 (.tmp 21) (.tmp 23) #[22,9] (by rfl) (.slice A k.mods.length ca) (.string ⟨nm.toArray⟩) (by rfl) (by rfl) Heg.out (HFn.out _ HK2.out.draw) ?_
       rintro e w3 ⟨rfl,hb3⟩
       refine⟨_,rfl,?_⟩
       have GX:=hid (show Below w2.heap.size w2 w3 from(Below.refl _ _).drew.trans hb3)
       have HK3:=hid (HK2.out.draw.below hb3)
       have HX3:=hid ((HX2.out.draw 1).below hb3)
       have HB3:=hid ((HB2.out.draw 1).below hb3 HB2.out.lt)
       clear hb3 k0 kl b0 bl)
    | fail)
   all_goals
    go_wp2_with fail
    refine(az 7 _).mono ?_
    rintro e w4 ⟨rfl,hb4⟩
    have HK4:=hid (HK3.out.below hb4)
    have HX4:=hid (HX3.out.below hb4)
    simp only[aF]
    clear hb4 HK3 HX3
    have hX9:=HX4.out _ _ HXB.out
    have HFin:=hid (ay HK4.out HX4.out HXw.out HXB.out hlow hroom)
    obtain⟨p0,p1,p2,f0,hl9⟩:=aS hX9
    clear hX9 HK4 HX4 HXw HXB
    go_wp2
    refine bodyPost_ret (v:=.agg #[.int .i64 7,.int .i64 0,.string ⟨#[]⟩]) (by simp[results,Tryz.results67,go_sem,p0,p1,p2]) rfl ?_
    exact⟨rfl,ah.fin (by(show ah _ _ _ _ k _);with_reducible exact HFin.out _ _ _)⟩
 ·rw[if_pos he]
  have hq:(er != 0)=true:=by rw[bne_iff_ne];exact he
  clear he
  go_enter Tryz.func67,Tryz.ntmps67
  go_upto_region 1 with fail
  rw[← Hw0.out]
  clear Hw0
  go_wp2_with fail
  refine HDc.out.mono ?_
  rintro e w1 ⟨A2,B2,c2,d2,rfl,hC,hD,hb1,hFA,hFB⟩
  simp only at hC hD hFA hFB
  go_upto_region 2 with fail
  have hb2:Below w1.heap.size w1 (w1.alloc (.cells #[.string ⟨nm.toArray⟩,.slice A2 code.length c2,.slice B2 data.length d2] 79)):=(Below.refl _ _).alloc (Nat.le_refl _) _
  have HB2:=hid (show Wb (w1.alloc (.cells #[.string ⟨nm.toArray⟩,.slice A2 code.length c2,.slice B2 data.length d2] 79)) w1.heap.size jk [.string ⟨nm.toArray⟩,.slice A2 code.length c2,.slice B2 data.length d2] from Wb.new w1 jk [.string ⟨nm.toArray⟩,.slice A2 code.length c2,.slice B2 data.length d2])
  have HgB:=hid (show w0.heap.size≤w1.heap.size from hb1.size)
  have HK2:=hid ((HK0.out.below hb1).below hb2)
  have HX2:=hid ((HX0.out.below hb1).below hb2)
  have HC2:=hid (hC.below hb2)
  have HD2:=hid (hD.below hb2)
  have HFA:=hid hFA
  have HFB:=hid hFB
  clear hC hD hb1 hFA hFB HK0 HX0 HDc hb2
  generalize w1.heap.size=gB at *
  generalize w1.alloc (.cells #[.string ⟨nm.toArray⟩,.slice A2 code.length c2,.slice B2 data.length d2] 79)=w2 at *
  go_wp2_with fail
  refine(az er _).mono ?_
  rintro e w3 ⟨rfl,hb3⟩
  have HK3:=hid (HK2.out.below hb3)
  have HX3:=hid (HX2.out.below hb3)
  simp only[aF]
  clear hb3 HK2 HX2
  have hX9:=HX3.out _ _ HXB.out
  have HFin:=hid (ay HK3.out HX3.out HXw.out HXB.out hlow hroom)
  obtain⟨p0,p1,p2,f0,hl9⟩:=aS hX9
  clear hX9 HK3 HX3 HXw HXB
  go_wp2
  refine bodyPost_ret (v:=.agg #[.int .i64 er,.int .i64 0,.string ⟨#[]⟩]) (by simp[results,Tryz.results67,go_sem,p0,p1,p2]) rfl ?_
  exact⟨rfl,ah.fin (by(show ah _ _ _ _ k _);with_reducible exact HFin.out _ _ _)⟩
end
section
open Go.RowKit
theorem BL{P:Program}{ops:Array Oper}{o:Oper}{a:Act}{w:World}{K:Act→World→Prop}{Q:Exit→Act→World→Prop}{E:Prop}{R:Ending→World→Prop}
  (hg:o.guard=none) (f:FuncId) (x y z:Operand) (tys:Array TypeId) (ho:o.op = .call { callee:=.value (.func f),args:=#[x,y,z],argTypes:=tys }) (vx vy vz:Value) (hx:a.eval x=vx) (hy:a.eval y=vy) (hz:a.eval z=vz)
  (eg:∀args w,(callFunc f args).run P w = .ok (.enter f args) w) (hc:Calls P f #[vx,vy,vz] w R) (h:∀e w',R e w'→∃v,e = .returned v∧K (a.put o.dst v) w'):
  if Region.wanted o (yielded ops a.tmps)=true then Oper.wp P o a w K Q else E:=by
 rw[if_pos (by simp[Region.wanted,hg])]
 have hex:(execOp a.eval o).run P w = .ok (.enter f #[vx,vy,vz]) w:=by
  have hfn:a.eval (.func f) = .func (.func f) #[] #[]:=rfl
  simp[execOp,ho,resolve,invoke,hx,hy,hz,eg,hfn,Deferred.ofValue]
 unfold Oper.wp
 rw[hex]
 refine hc.mono fun e w' hr=>?_
 obtain⟨v,rfl,hk⟩:=h e w' hr
 exact hk
theorem zT{B:Nat}{wb:World}{g:Nat}{a:KA}{xs:List MV}{ps:List PV}(k:Cf.ag)(kd pp nn mm:Int)(nm da:List UInt8)(w:World)(h:KSt B wb g a xs ps k w)(hG:Cf.Good k)(hnl:nm.length≤maxLen)(hdl:da.length≤maxLen)(hT:Tabs B wb)(hk:1≤kd∧kd≤11):
  Calls Tryz.prog 37 #[.pointer (some ⟨g,0,none⟩),.agg #[.int .i64 kd,.int .i64 pp,.int .i64 nn,.int .i64 mm,.string ⟨nm.toArray⟩,.string ⟨da.toArray⟩]] w (pI B wb g w (Cf.lJ k ⟨kd,pp,nn,mm,nm,da⟩)):=by
 obtain⟨A,ca,M,cm,N,cn,S,cs,Q,cq⟩:=a
 obtain⟨gQ,hgQ,_⟩:=h.own.procs.at_ (i:=0) (List.getElem?_eq_getElem (by rw[h.own.ends.1,hG.procsL];omega))
 simp only at hgQ
 subst hgQ
 obtain⟨w0,hw0⟩:∃w0:World,w0=(w.alloc (.cells #[.int .i64 kd,.int .i64 pp,.int .i64 nn,.int .i64 mm,.string ⟨nm.toArray⟩,.string ⟨da.toArray⟩] gJ)).alloc (.cells #[.int .i64 0,.int .i64 0,.string ⟨#[]⟩] au):=⟨_,rfl⟩
 have HAc:=hid (show Wb w0 w.heap.size gJ [.int .i64 kd,.int .i64 pp,.int .i64 nn,.int .i64 mm,.string ⟨nm.toArray⟩,.string ⟨da.toArray⟩] by rw[hw0];exact(Wb.new w gJ [.int .i64 kd,.int .i64 pp,.int .i64 nn,.int .i64 mm,.string ⟨nm.toArray⟩,.string ⟨da.toArray⟩]).alloc _)
 have HXB:=hid (show Wb w0 (w.heap.size+1) au [.int .i64 0,.int .i64 0,.string ⟨#[]⟩] by
  rw[hw0]
  have:=Wb.new (w.alloc (.cells #[.int .i64 kd,.int .i64 pp,.int .i64 nn,.int .i64 mm,.string ⟨nm.toArray⟩,.string ⟨da.toArray⟩] gJ)) au [.int .i64 0,.int .i64 0,.string ⟨#[]⟩]
  rwa [show(w.alloc (.cells #[.int .i64 kd,.int .i64 pp,.int .i64 nn,.int .i64 mm,.string ⟨nm.toArray⟩,.string ⟨da.toArray⟩] gJ)).heap.size=w.heap.size+1 by simp]at this)
 have HXw:=hid (show KpA w w0 by rw[hw0];exact(KpA.alloc w _).trans (KpA.alloc _ _))
 have HX0:=hid (KpA.refl w0)
 have HK0:=hid (show KSt B wb g ⟨A,ca,M,cm,N,cn,S,cs,some ⟨gQ,0,none⟩,cq⟩ xs ps k w0 by rw[hw0];exact h.below (((Below.refl _ _).alloc (Nat.le_refl _) (.cells #[.int .i64 kd,.int .i64 pp,.int .i64 nn,.int .i64 mm,.string ⟨nm.toArray⟩,.string ⟨da.toArray⟩] gJ)).alloc (by simp) (.cells #[.int .i64 0,.int .i64 0,.string ⟨#[]⟩] au)))
 have Hw0:=hid hw0
 have hroom:B≤w.heap.size+1:=Nat.le_succ_of_le h.room
 have hlow:w.heap.size≤w.heap.size+1:=Nat.le_succ _
 have hlim:w.heap.size+1<w0.heap.size:=by rw[hw0];simp
 clear hw0
 by_cases h1:kd=1
 ·skip
  subst h1
  have HT:=hid (show Cf.lJ k ⟨1,pp,nn,mm,nm,da⟩=Cf.iL k da from rfl)
  have HC:=hid (fun W (hW:KSt B wb g ⟨A,ca,M,cm,N,cn,S,cs,some ⟨gQ,0,none⟩,cq⟩ xs ps k W)=>show Calls _ _ _ _ (pI B wb g W (Cf.iL k da)) from AQ k da W hW hG hdl hT)
  rw[HT.out]
  clear h hG HT hT hnl hdl hk
  go_enter Tryz.func37,Tryz.ntmps37
  go_upto_region 1 with fail
  rw[← Hw0.out]
  clear Hw0
  have hA0:=HAc.out
  obtain⟨a0,a1,a2,a3,a4,a5, -,al⟩:=yS hA0
  clear hA0
  go_wp2_with fail
  refine(HC.out _ HK0.out).mono ?_
  rintro e w1 ⟨rfl,he9,hx9⟩
  have HE1:=hid he9
  have HX1:=hid (KpA.trans (w1:=_) (by repeat (first|exact HX0.out|apply KpA.draw1|apply KpA.draw)) hx9)
  clear he9 hx9 HK0 HX0 a0 a1 a2 a3 a4 a5 al HAc
  simp only[aF]
  generalize Cf.iL k da=dd at *
  obtain⟨dk,dc,dn,ds⟩:=dd
  have hX9:=HX1.out _ _ HXB.out
  have HFin:=hid (mW HE1.out HX1.out HXw.out HXB.out hlow hroom hlim)
  obtain⟨p0,p1,p2,f0,hl9⟩:=aS hX9
  clear hX9 HE1 HX1 HXw HXB
  go_wp2
  refine bodyPost_ret (v:=.agg #[.int .i64 dc,.int .i64 dn,.string ⟨ds.toArray⟩]) (by simp[results,Tryz.results37,go_sem,p0,p1,p2]) rfl ?_
  exact⟨rfl,by(show kM _ _ _ _ dk _);with_reducible exact HFin.out _ _ _⟩
 by_cases h2:kd=2
 ·skip
  subst h2
  have HT:=hid (show Cf.lJ k ⟨2,pp,nn,mm,nm,da⟩=Cf.nG k ⟨nm,1,[],0⟩ from rfl)
  have HC:=hid (fun W (hW:KSt B wb g ⟨A,ca,M,cm,N,cn,S,cs,some ⟨gQ,0,none⟩,cq⟩ xs ps k W)=>show Calls _ _ _ _ (pI B wb g W (Cf.nG k ⟨nm,1,[],0⟩)) from(tH k W nm 1 0 hW hG hnl (.inl rfl)).mono fun _ _ h=>h.end_)
  rw[HT.out]
  clear h hG HT hT hnl hdl hk
  go_enter Tryz.func37,Tryz.ntmps37
  go_upto_region 1 with fail
  rw[← Hw0.out]
  clear Hw0
  have hA0:=HAc.out
  obtain⟨a0,a1,a2,a3,a4,a5, -,al⟩:=yS hA0
  clear hA0
  go_wp2_with fail
  refine(HC.out _ HK0.out).mono ?_
  rintro e w1 ⟨rfl,he9,hx9⟩
  have HE1:=hid he9
  have HX1:=hid (KpA.trans (w1:=_) (by repeat (first|exact HX0.out|apply KpA.draw1|apply KpA.draw)) hx9)
  clear he9 hx9 HK0 HX0 a0 a1 a2 a3 a4 a5 al HAc
  simp only[aF]
  generalize Cf.nG k ⟨nm,1,[],0⟩=dd at *
  obtain⟨dk,dc,dn,ds⟩:=dd
  have hX9:=HX1.out _ _ HXB.out
  have HFin:=hid (mW HE1.out HX1.out HXw.out HXB.out hlow hroom hlim)
  obtain⟨p0,p1,p2,f0,hl9⟩:=aS hX9
  clear hX9 HE1 HX1 HXw HXB
  go_wp2
  refine bodyPost_ret (v:=.agg #[.int .i64 dc,.int .i64 dn,.string ⟨ds.toArray⟩]) (by simp[results,Tryz.results37,go_sem,p0,p1,p2]) rfl ?_
  exact⟨rfl,by(show kM _ _ _ _ dk _);with_reducible exact HFin.out _ _ _⟩
 by_cases h3:kd=3
 ·skip
  subst h3
  have HT:=hid (show Cf.lJ k ⟨3,pp,nn,mm,nm,da⟩=Cf.nG k ⟨nm,2,[],nn⟩ from rfl)
  have HC:=hid (fun W (hW:KSt B wb g ⟨A,ca,M,cm,N,cn,S,cs,some ⟨gQ,0,none⟩,cq⟩ xs ps k W)=>show Calls _ _ _ _ (pI B wb g W (Cf.nG k ⟨nm,2,[],nn⟩)) from(tH k W nm 2 nn hW hG hnl (.inr rfl)).mono fun _ _ h=>h.end_)
  rw[HT.out]
  clear h hG HT hT hnl hdl hk
  go_enter Tryz.func37,Tryz.ntmps37
  go_upto_region 1 with fail
  rw[← Hw0.out]
  clear Hw0
  have hA0:=HAc.out
  obtain⟨a0,a1,a2,a3,a4,a5, -,al⟩:=yS hA0
  clear hA0
  go_wp2_with fail
  refine(HC.out _ HK0.out).mono ?_
  rintro e w1 ⟨rfl,he9,hx9⟩
  have HE1:=hid he9
  have HX1:=hid (KpA.trans (w1:=_) (by repeat (first|exact HX0.out|apply KpA.draw1|apply KpA.draw)) hx9)
  clear he9 hx9 HK0 HX0 a0 a1 a2 a3 a4 a5 al HAc
  simp only[aF]
  generalize Cf.nG k ⟨nm,2,[],nn⟩=dd at *
  obtain⟨dk,dc,dn,ds⟩:=dd
  have hX9:=HX1.out _ _ HXB.out
  have HFin:=hid (mW HE1.out HX1.out HXw.out HXB.out hlow hroom hlim)
  obtain⟨p0,p1,p2,f0,hl9⟩:=aS hX9
  clear hX9 HE1 HX1 HXw HXB
  go_wp2
  refine bodyPost_ret (v:=.agg #[.int .i64 dc,.int .i64 dn,.string ⟨ds.toArray⟩]) (by simp[results,Tryz.results37,go_sem,p0,p1,p2]) rfl ?_
  exact⟨rfl,by(show kM _ _ _ _ dk _);with_reducible exact HFin.out _ _ _⟩
 by_cases h4:kd=4
 ·skip
  subst h4
  have HT:=hid (show Cf.lJ k ⟨4,pp,nn,mm,nm,da⟩=Cf.fV k nm from rfl)
  have HC:=hid (fun W (hW:KSt B wb g ⟨A,ca,M,cm,N,cn,S,cs,some ⟨gQ,0,none⟩,cq⟩ xs ps k W)=>show Calls _ _ _ _ (pI B wb g W (Cf.fV k nm)) from(BK k W nm hW hG).mono fun _ _ h=>h.end_)
  rw[HT.out]
  clear h hG HT hT hnl hdl hk
  go_enter Tryz.func37,Tryz.ntmps37
  go_upto_region 1 with fail
  rw[← Hw0.out]
  clear Hw0
  have hA0:=HAc.out
  obtain⟨a0,a1,a2,a3,a4,a5, -,al⟩:=yS hA0
  clear hA0
  go_wp2_with fail
  refine(HC.out _ HK0.out).mono ?_
  rintro e w1 ⟨rfl,he9,hx9⟩
  have HE1:=hid he9
  have HX1:=hid (KpA.trans (w1:=_) (by repeat (first|exact HX0.out|apply KpA.draw1|apply KpA.draw)) hx9)
  clear he9 hx9 HK0 HX0 a0 a1 a2 a3 a4 a5 al HAc
  simp only[aF]
  generalize Cf.fV k nm=dd at *
  obtain⟨dk,dc,dn,ds⟩:=dd
  have hX9:=HX1.out _ _ HXB.out
  have HFin:=hid (mW HE1.out HX1.out HXw.out HXB.out hlow hroom hlim)
  obtain⟨p0,p1,p2,f0,hl9⟩:=aS hX9
  clear hX9 HE1 HX1 HXw HXB
  go_wp2
  refine bodyPost_ret (v:=.agg #[.int .i64 dc,.int .i64 dn,.string ⟨ds.toArray⟩]) (by simp[results,Tryz.results37,go_sem,p0,p1,p2]) rfl ?_
  exact⟨rfl,by(show kM _ _ _ _ dk _);with_reducible exact HFin.out _ _ _⟩
 have HPl:=hid hG.procsL
 have HT0:=hid (show Cf.lJ k ⟨kd,pp,nn,mm,nm,da⟩=if Cf.aI pp 4=true∧(Cf.aN k pp.toNat).live=true then Cf.dI k pp.toNat ⟨kd,pp,nn,mm,nm,da⟩ else Cf.ai k 6 by
  unfold Cf.lJ
  rw[if_neg (by exact h1),if_neg (by exact h2),if_neg (by exact h3),if_neg (by exact h4),hG.procsL])
 have HWi:=hid (fun W=>iJ pp 4 W)
 by_cases hw:Cf.aI pp 4=false
 ·skip
  rw[HT0.out,if_neg (fun hh=>by rw[hw]at hh;exact absurd hh.1 (by decide))]
  rw[hw]at HWi
  clear h hG HT0 hT hnl hdl hk
  go_enter Tryz.func37,Tryz.ntmps37
  go_upto_region 1 with fail
  rw[← Hw0.out]
  clear Hw0
  have hA0:=HAc.out
  obtain⟨a0,a1,a2,a3,a4,a5, -,al⟩:=yS hA0
  clear hA0
  have hK0:=HK0.out
  have c4:=hK0.ptr.c4
  simp only[HPl.out]at c4
  have kl:=hK0.box.lt
  clear hK0
  go_wp2_with fail
  go_quiet ((go_at_call 70;exact dJ (HWi.out _)))
  clear c4 kl
  go_wp2_with fail
  refine(az 6 _).mono ?_
  rintro e w1 ⟨rfl,hb1⟩
  have HE1:=hid (show l9 B wb g w0.heap.size k w1 from .inl ⟨_,_,_,KSt.below (w:=_) (by repeat (first|exact HK0.out|apply KSt.draw|apply KSt.drawN)) hb1⟩)
  have HX1:=hid (KpA.below (w1:=_) (by repeat (first|exact HX0.out|apply KpA.draw1|apply KpA.draw)) hb1)
  simp only[aF]
  clear hb1 HK0 HX0 a0 a1 a2 a3 a4 a5 al HAc
  have hX9:=HX1.out _ _ HXB.out
  have HFin:=hid (mW HE1.out HX1.out HXw.out HXB.out hlow hroom hlim)
  obtain⟨p0,p1,p2,f0,hl9⟩:=aS hX9
  clear hX9 HE1 HX1 HXw HXB
  go_wp2
  refine bodyPost_ret (v:=.agg #[.int .i64 6,.int .i64 0,.string ⟨#[]⟩]) (by simp[results,Tryz.results37,go_sem,p0,p1,p2]) rfl ?_
  exact⟨rfl,by(show kM _ _ _ _ k _);with_reducible exact HFin.out _ _ _⟩
 rw[Bool.not_eq_false]at hw
 rw[hw]at HWi
 obtain⟨hn0,hn4⟩:=Cf.within_iff.1 hw
 obtain⟨q,hi⟩:=Int.eq_ofNat_of_zero_le hn0
 subst hi
 have hq4:q<4:=by omega
 have hqI:(q:Int)<4:=by omega
 obtain⟨gE,ce,lv,es,hP⟩:=h.pat hG.toPre hq4 rfl
 have HP:=hid hP
 rw[Int.toNat_natCast,hw,hP.is_]at HT0
 cases lv
 ·skip
  rw[HT0.out,if_neg (by simp)]
  clear h hG hP HT0 hT hnl hdl hk hw
  go_enter Tryz.func37,Tryz.ntmps37
  go_upto_region 1 with fail
  rw[← Hw0.out]
  clear Hw0
  have hA0:=HAc.out
  obtain⟨a0,a1,a2,a3,a4,a5, -,al⟩:=yS hA0
  clear hA0
  have hK0:=HK0.out
  have c4:=hK0.ptr.c4
  simp only[HPl.out]at c4
  have kl:=hK0.box.lt
  clear hK0
  have l0:=HK0.out.p0 HP.out
  have ql:=(HK0.out.Bp HP.out).lt
  go_wp2_with fail
  go_quiet ((go_at_call 70;exact dJ (HWi.out _)))
  clear c4 kl l0 ql
  go_wp2_with fail
  refine(az 6 _).mono ?_
  rintro e w1 ⟨rfl,hb1⟩
  have HE1:=hid (show l9 B wb g w0.heap.size k w1 from .inl ⟨_,_,_,KSt.below (w:=_) (by repeat (first|exact HK0.out|apply KSt.draw|apply KSt.drawN)) hb1⟩)
  have HX1:=hid (KpA.below (w1:=_) (by repeat (first|exact HX0.out|apply KpA.draw1|apply KpA.draw)) hb1)
  simp only[aF]
  clear hb1 HK0 HX0 a0 a1 a2 a3 a4 a5 al HAc
  have hX9:=HX1.out _ _ HXB.out
  have HFin:=hid (mW HE1.out HX1.out HXw.out HXB.out hlow hroom hlim)
  obtain⟨p0,p1,p2,f0,hl9⟩:=aS hX9
  clear hX9 HE1 HX1 HXw HXB
  go_wp2
  refine bodyPost_ret (v:=.agg #[.int .i64 6,.int .i64 0,.string ⟨#[]⟩]) (by simp[results,Tryz.results37,go_sem,p0,p1,p2]) rfl ?_
  exact⟨rfl,by(show kM _ _ _ _ k _);with_reducible exact HFin.out _ _ _⟩
 ·skip
  rw[HT0.out,if_pos ⟨rfl,rfl⟩]
  have HC:=hid (fun W (hW:KSt B wb g ⟨A,ca,M,cm,N,cn,S,cs,some ⟨gQ,0,none⟩,cq⟩ xs ps k W)=>wS k q gQ kd q nn mm nm da W hW hG hq4 rfl hnl hT (by omega))
  have Heg:=hid (fun args w=>show(callFunc 71 args).run Tryz.prog w = .ok (.enter 71 args) w by simp[go_sem])
  clear h hG hP HT0 hT hnl hdl hk hw
  go_enter Tryz.func37,Tryz.ntmps37
  go_upto_region 1 with fail
  rw[← Hw0.out]
  clear Hw0
  have hA0:=HAc.out
  obtain⟨a0,a1,a2,a3,a4,a5, -,al⟩:=yS hA0
  clear hA0
  have hK0:=HK0.out
  have c4:=hK0.ptr.c4
  simp only[HPl.out]at c4
  have kl:=hK0.box.lt
  clear hK0
  have l0:=HK0.out.p0 HP.out
  have ql:=(HK0.out.Bp HP.out).lt
  go_wp2_with fail
  go_quiet ((go_at_call 70;exact dJ (HWi.out _)))
  go_wp2_with fail
  go_region_law (first
   | (refine BL (by rfl) 71 (.tmp 57) (.tmp 64) (.tmp 65) _ (by rfl) (.pointer (some ⟨g,0,none⟩)) (.pointer (some ⟨gQ,q*2,none⟩)) (.agg #[.int .i64 kd,.int .i64 q,.int .i64 nn,.int .i64 mm,.string ⟨nm.toArray⟩,.string ⟨da.toArray⟩]) (by rfl) (by rfl) (by rfl) Heg.out (HC.out _ (by repeat (first|exact HK0.out|apply KSt.draw|apply KSt.drawN))) ?_
      rintro e w1 ⟨rfl,hf9,hx9⟩
      refine⟨_,rfl,?_⟩
      have HE1:=hid (show l9 B wb g w0.heap.size _ w1 from .inl hf9)
      have HX1:=hid (KpA.trans (w1:=_) (by repeat (first|exact HX0.out|apply KpA.draw1|apply KpA.draw)) hx9)
      clear hf9 hx9
      simp only[aF]
      have hX9:=HX1.out _ _ HXB.out
      have HFin:=hid (mW HE1.out HX1.out HXw.out HXB.out hlow hroom hlim)
      obtain⟨p0,p1,p2,f0,hl9⟩:=aS hX9
      clear hX9 HE1 HX1 HXw HXB)
   | fail)
  all_goals
   clear HK0 HX0 a0 a1 a2 a3 a4 a5 al HAc c4 kl l0 ql
   go_wp2
   refine bodyPost_ret (v:=.agg #[.int .i64 (Cf.dI k q ⟨kd,q,nn,mm,nm,da⟩).ans.code,.int .i64 (Cf.dI k q ⟨kd,q,nn,mm,nm,da⟩).ans.n,.string ⟨(Cf.dI k q ⟨kd,q,nn,mm,nm,da⟩).ans.data.toArray⟩]) (by simp[results,Tryz.results37,go_sem,p0,p1,p2]) rfl ?_
   exact⟨rfl,by(show kM _ _ _ _ (Cf.dI k q ⟨kd,q,nn,mm,nm,da⟩).kern _);with_reducible exact HFin.out _ _ _⟩
end
section
open Go.RowKit
def sJ(d:Cf.BQ)(w:World)(e:Ending)(w':World):Prop:=∃a:KA,e = .returned (.tuple #[.agg (af a d.kern).toArray,.agg (aF d.ans).toArray,.int .i64 d.err])∧kW w.heap.size w' a d.kern∧Below w.heap.size w w'
theorem pz(B:Nat)(w:World):kW B w ⟨none,0,none,0,none,0,none,0,none,0⟩ Cf.jR:=
 ⟨⟨[],⟨.inl rfl,.inl rfl⟩,Each.nil⟩,⟨.inl rfl,.inl rfl⟩,⟨.inl rfl,.inl rfl⟩,⟨.inl rfl,.inl rfl⟩,⟨[],⟨.inl rfl,.inl rfl⟩,Each.nil⟩,Nat.le_refl _,Nat.le_refl _⟩
theorem rG{k:Cf.ag}(h:Cf.Good k):kU k:=by
 have hm:∀m∈k.mods,m.name.length≤6∧m.code.length≤200∧m.data.length≤64:=fun m hm=>by
  obtain⟨h1,h2,_,h4⟩:=Cf.lg (h.mod m hm)
  exact⟨h1.2,Cf.gU _ (Cf.pG h4),h2⟩
 have hn:∀n∈k.nodes,n.name.length≤6∧n.data.length≤100:=fun n hn=>by
  refine⟨?_,?_⟩
  ·by_cases h0:n.name=[]
   ·rw[h0];simp
   ·have:=h.name n hn h0
    rw[vS]at this
    simp only[Bool.and_eq_true,decide_eq_true_eq]at this
    omega
  ·rcases(h.node n hn).kinds with h1|h1|h1
   ·rw[h1.2];simp[Cf.bM]
   ·exact h1.2.2
   ·rw[h1.2.1];simp
 have b:∀n:Nat,n≤100000→n≤big:=fun n h=>by unfold big;omega
 have e1:=h.modsL
 have e2:=h.memL
 have e3:=h.nodesL
 have e4:=h.pipesL
 have e5:=h.procsL
 refine⟨b _ (by omega),fun m hmm=>⟨b _ (by have:=hm m hmm;omega),b _ (by have:=hm m hmm;omega),b _ (by have:=hm m hmm;omega)⟩,b _ (by omega),b _ (by omega),fun n hnn=>⟨b _ (by have:=hn n hnn;omega),b _ (by have:=hn n hnn;omega)⟩,b _ (by omega),fun s hs=>b _ (by have:=h.pipe s hs;omega),b _ (by omega),fun p hp=>b _ (by have:=h.ends p hp;omega),⟨b _ (by omega),b _ (by omega),b _ (by omega),b _ (by omega),b _ (by omega)⟩,fun m hmm=>⟨b _ (by have:=hm m hmm;omega),b _ (by have:=hm m hmm;omega)⟩,fun p hp=>b _ (by have:=h.ends p hp;omega)⟩
theorem GY(k:Cf.ag)(a:KA)(kd pp nn mm:Int)(nm da:List UInt8)(w:World)(hR:KRd w a k)(hf:kU k)(hL:jW w)(hF:kL w)(hnl:nm.length≤maxLen)(hdl:da.length≤maxLen):
  Calls Tryz.prog 12 #[.agg (af a k).toArray,.agg #[.int .i64 kd,.int .i64 pp,.int .i64 nn,.int .i64 mm,.string ⟨nm.toArray⟩,.string ⟨da.toArray⟩]] w (sJ (Cf.doT k ⟨kd,pp,nn,mm,nm,da⟩) w):=by
 obtain⟨A,ca,M,cm,N,cn,S,cs,Q,cq⟩:=a
 show Calls Tryz.prog 12 #[.agg #[.slice A k.mods.length ca,.slice M k.mem.length cm,.slice N k.nodes.length cn,.slice S k.pipes.length cs,.slice Q k.procs.length cq],_] w _
 obtain⟨w0,hw0⟩:∃w0:World,w0=(((w.alloc (.cells #[.slice A k.mods.length ca,.slice M k.mem.length cm,.slice N k.nodes.length cn,.slice S k.pipes.length cs,.slice Q k.procs.length cq] ae)).alloc (.cells #[.int .i64 kd,.int .i64 pp,.int .i64 nn,.int .i64 mm,.string ⟨nm.toArray⟩,.string ⟨da.toArray⟩] gJ)).alloc (.cells #[.slice none 0 0,.slice none 0 0,.slice none 0 0,.slice none 0 0,.slice none 0 0] ae)).alloc (.cells #[.int .i64 0,.int .i64 0,.string ⟨#[]⟩] au):=⟨_,rfl⟩
 have hz0:w0.heap.size=w.heap.size+4:=by rw[hw0];simp
 have hb0:Below w.heap.size w w0:=by rw[hw0];exact((((Below.refl _ _).alloc (Nat.le_refl _) _).alloc (by simp) _).alloc (by simp;omega) _).alloc (by simp;omega) _
 have lT:=hid (show Wb w0 w.heap.size ae [.slice A k.mods.length ca,.slice M k.mem.length cm,.slice N k.nodes.length cn,.slice S k.pipes.length cs,.slice Q k.procs.length cq] by rw[hw0];exact(((Wb.new w ae [.slice A k.mods.length ca,.slice M k.mem.length cm,.slice N k.nodes.length cn,.slice S k.pipes.length cs,.slice Q k.procs.length cq]).alloc _).alloc _).alloc _)
 have oV:=hid (show Wb w0 (w.heap.size+1) gJ [.int .i64 kd,.int .i64 pp,.int .i64 nn,.int .i64 mm,.string ⟨nm.toArray⟩,.string ⟨da.toArray⟩] by
  rw[hw0]
  have:=Wb.new (w.alloc (.cells #[.slice A k.mods.length ca,.slice M k.mem.length cm,.slice N k.nodes.length cn,.slice S k.pipes.length cs,.slice Q k.procs.length cq] ae)) gJ [.int .i64 kd,.int .i64 pp,.int .i64 nn,.int .i64 mm,.string ⟨nm.toArray⟩,.string ⟨da.toArray⟩]
  rw[show(w.alloc (.cells #[.slice A k.mods.length ca,.slice M k.mem.length cm,.slice N k.nodes.length cn,.slice S k.pipes.length cs,.slice Q k.procs.length cq] ae)).heap.size=w.heap.size+1 by simp]at this
  exact(this.alloc _).alloc _)
 have oZ:=hid (show Wb w0 (w.heap.size+2) ae [.slice none 0 0,.slice none 0 0,.slice none 0 0,.slice none 0 0,.slice none 0 0] by
  rw[hw0]
  have:=Wb.new ((w.alloc (.cells #[.slice A k.mods.length ca,.slice M k.mem.length cm,.slice N k.nodes.length cn,.slice S k.pipes.length cs,.slice Q k.procs.length cq] ae)).alloc (.cells #[.int .i64 kd,.int .i64 pp,.int .i64 nn,.int .i64 mm,.string ⟨nm.toArray⟩,.string ⟨da.toArray⟩] gJ)) ae [.slice none 0 0,.slice none 0 0,.slice none 0 0,.slice none 0 0,.slice none 0 0]
  rw[show((w.alloc (.cells #[.slice A k.mods.length ca,.slice M k.mem.length cm,.slice N k.nodes.length cn,.slice S k.pipes.length cs,.slice Q k.procs.length cq] ae)).alloc (.cells #[.int .i64 kd,.int .i64 pp,.int .i64 nn,.int .i64 mm,.string ⟨nm.toArray⟩,.string ⟨da.toArray⟩] gJ)).heap.size=w.heap.size+2 by simp]at this
  exact this.alloc _)
 have oW:=hid (show Wb w0 (w.heap.size+3) au [.int .i64 0,.int .i64 0,.string ⟨#[]⟩] by
  rw[hw0]
  have:=Wb.new (((w.alloc (.cells #[.slice A k.mods.length ca,.slice M k.mem.length cm,.slice N k.nodes.length cn,.slice S k.pipes.length cs,.slice Q k.procs.length cq] ae)).alloc (.cells #[.int .i64 kd,.int .i64 pp,.int .i64 nn,.int .i64 mm,.string ⟨nm.toArray⟩,.string ⟨da.toArray⟩] gJ)).alloc (.cells #[.slice none 0 0,.slice none 0 0,.slice none 0 0,.slice none 0 0,.slice none 0 0] ae)) au [.int .i64 0,.int .i64 0,.string ⟨#[]⟩]
  rw[show(((w.alloc (.cells #[.slice A k.mods.length ca,.slice M k.mem.length cm,.slice N k.nodes.length cn,.slice S k.pipes.length cs,.slice Q k.procs.length cq] ae)).alloc (.cells #[.int .i64 kd,.int .i64 pp,.int .i64 nn,.int .i64 mm,.string ⟨nm.toArray⟩,.string ⟨da.toArray⟩] gJ)).alloc (.cells #[.slice none 0 0,.slice none 0 0,.slice none 0 0,.slice none 0 0,.slice none 0 0] ae)).heap.size=w.heap.size+3 by simp]at this
  exact this)
 have Hw0:=hid hw0
 have Hz0:=hid hz0
 have HCk:=hid (BM k ⟨A,ca,M,cm,N,cn,S,cs,Q,cq⟩ w0 (hR.below hb0) hf (hL.below hb0) (hF.below hb0))
 have Hb0:=hid hb0
 have HR:=hid hR
 have Hf:=hid hf
 have HTb:=hid (show ∀W,Below w.heap.size w W→jW W∧kL W from fun W h=>⟨hL.below h,hF.below h⟩)
 have HDo:=hid (show Cf.doT k ⟨kd,pp,nn,mm,nm,da⟩=if Cf.iq k≠0 then⟨Cf.jR,Cf.kS,Cf.iq k⟩ else if Cf.inB kd 1 11=false then⟨Cf.jR,Cf.kS,3⟩ else⟨(Cf.lJ k ⟨kd,pp,nn,mm,nm,da⟩).kern,(Cf.lJ k ⟨kd,pp,nn,mm,nm,da⟩).ans,0⟩ from rfl)
 have HGd:=hid (fun h=>(Cf.nS (k:=k)).1 h)
 rw[HDo.out]
 clear hw0 hz0 hR hf hL hF HDo hb0
 generalize Cf.iq k=er at *
 by_cases he:er=0
 ·subst he
  have hG:Cf.Good k:=HGd.out rfl
  rw[if_neg (by simp)]
  by_cases h1:kd<1
  ·skip
   rw[if_pos (by simp[Cf.inB];omega)]
   clear hG HGd
   go_enter Tryz.func12,Tryz.ntmps12
   go_upto_region 1 with fail
   rw[← Hw0.out]
   clear Hw0
   have hB:=lT.out
   obtain⟨c0,c1,c2,c3,c4, -,cl⟩:=kY hB
   clear hB
   go_wp2_with fail
   refine HCk.out.mono ?_
   rintro e w1 ⟨rfl,hb1⟩
   have Hb1:=hid (Hb0.out.trans (hb1.mono Hb0.out.size))
   have Hs1:=hid (show w.heap.size+4≤w1.heap.size by have:=hb1.size;rw[Hz0.out]at this;exact this)
   have HKB1:=hid (lT.out.below hb1 lT.out.lt)
   have jB:=hid (oV.out.below hb1 oV.out.lt)
   have eU:=hid (oZ.out.below hb1 oZ.out.lt)
   have eQ:=hid (oW.out.below hb1 oW.out.lt)
   clear lT oV oZ oW
   clear hb1 c0 c1 c2 c3 c4 cl HCk Hb0
   have a0:=jB.out.cell 0
   simp only[List.getElem?_cons_zero]at a0
   have al:=jB.out.lt
   have hRK:=eU.out
   obtain⟨r0,r1,r2,r3,r4,rf,rl⟩:=kY hRK
   have hRA:=eQ.out
   have t0:=hRA.cell 0
   have t1:=hRA.cell 1
   have t2:=hRA.cell 2
   simp only[gq]at t0 t1 t2
   have tf:=hRA.open_
   have tl:=hRA.lt
   clear hRK hRA
   clear HKB1 jB eU eQ
   go_wp2
   refine bodyPost_ret (v:=.tuple #[.agg #[.slice none 0 0,.slice none 0 0,.slice none 0 0,.slice none 0 0,.slice none 0 0],.agg #[.int .i64 0,.int .i64 0,.string ⟨#[]⟩],.int .i64 3]) (by simp[results,Tryz.results12,go_sem,r0,r1,r2,r3,r4,t0,t1,t2]) rfl ?_
   exact⟨_,rfl,pz _ _,((((((((Hb1.out.setCell (p:=⟨w.heap.size+2,0,none⟩) (by show w.heap.size≤w.heap.size+2;omega) _).setCell (p:=⟨w.heap.size+2,1,none⟩) (by show w.heap.size≤w.heap.size+2;omega) _).setCell (p:=⟨w.heap.size+2,2,none⟩) (by show w.heap.size≤w.heap.size+2;omega) _).setCell (p:=⟨w.heap.size+2,3,none⟩) (by show w.heap.size≤w.heap.size+2;omega) _).setCell (p:=⟨w.heap.size+2,4,none⟩) (by show w.heap.size≤w.heap.size+2;omega) _).setCell (p:=⟨w.heap.size+3,0,none⟩) (by show w.heap.size≤w.heap.size+3;omega) _).setCell (p:=⟨w.heap.size+3,1,none⟩) (by show w.heap.size≤w.heap.size+3;omega) _).setCell (p:=⟨w.heap.size+3,2,none⟩) (by show w.heap.size≤w.heap.size+3;omega) _)⟩
  by_cases h2:11<kd
  ·skip
   rw[if_pos (by simp[Cf.inB];omega)]
   clear hG HGd
   go_enter Tryz.func12,Tryz.ntmps12
   go_upto_region 1 with fail
   rw[← Hw0.out]
   clear Hw0
   have hB:=lT.out
   obtain⟨c0,c1,c2,c3,c4, -,cl⟩:=kY hB
   clear hB
   go_wp2_with fail
   refine HCk.out.mono ?_
   rintro e w1 ⟨rfl,hb1⟩
   have Hb1:=hid (Hb0.out.trans (hb1.mono Hb0.out.size))
   have Hs1:=hid (show w.heap.size+4≤w1.heap.size by have:=hb1.size;rw[Hz0.out]at this;exact this)
   have HKB1:=hid (lT.out.below hb1 lT.out.lt)
   have jB:=hid (oV.out.below hb1 oV.out.lt)
   have eU:=hid (oZ.out.below hb1 oZ.out.lt)
   have eQ:=hid (oW.out.below hb1 oW.out.lt)
   clear lT oV oZ oW
   clear hb1 c0 c1 c2 c3 c4 cl HCk Hb0
   have a0:=jB.out.cell 0
   simp only[List.getElem?_cons_zero]at a0
   have al:=jB.out.lt
   have hRK:=eU.out
   obtain⟨r0,r1,r2,r3,r4,rf,rl⟩:=kY hRK
   have hRA:=eQ.out
   have t0:=hRA.cell 0
   have t1:=hRA.cell 1
   have t2:=hRA.cell 2
   simp only[gq]at t0 t1 t2
   have tf:=hRA.open_
   have tl:=hRA.lt
   clear hRK hRA
   clear HKB1 jB eU eQ
   go_wp2
   refine bodyPost_ret (v:=.tuple #[.agg #[.slice none 0 0,.slice none 0 0,.slice none 0 0,.slice none 0 0,.slice none 0 0],.agg #[.int .i64 0,.int .i64 0,.string ⟨#[]⟩],.int .i64 3]) (by simp[results,Tryz.results12,go_sem,r0,r1,r2,r3,r4,t0,t1,t2]) rfl ?_
   exact⟨_,rfl,pz _ _,((((((((Hb1.out.setCell (p:=⟨w.heap.size+2,0,none⟩) (by show w.heap.size≤w.heap.size+2;omega) _).setCell (p:=⟨w.heap.size+2,1,none⟩) (by show w.heap.size≤w.heap.size+2;omega) _).setCell (p:=⟨w.heap.size+2,2,none⟩) (by show w.heap.size≤w.heap.size+2;omega) _).setCell (p:=⟨w.heap.size+2,3,none⟩) (by show w.heap.size≤w.heap.size+2;omega) _).setCell (p:=⟨w.heap.size+2,4,none⟩) (by show w.heap.size≤w.heap.size+2;omega) _).setCell (p:=⟨w.heap.size+3,0,none⟩) (by show w.heap.size≤w.heap.size+3;omega) _).setCell (p:=⟨w.heap.size+3,1,none⟩) (by show w.heap.size≤w.heap.size+3;omega) _).setCell (p:=⟨w.heap.size+3,2,none⟩) (by show w.heap.size≤w.heap.size+3;omega) _)⟩
  rw[if_neg (by simp[Cf.inB];omega)]
  have HG:=hid hG
  have HPf:=hid (fun(B:Nat) (wb:World) (g:Nat) (a:KA) (xs:List MV) (ps:List PV) W (hW:KSt B wb g a xs ps k W) (hT:Tabs B wb)=>zT k kd pp nn mm nm da W hW hG hnl hdl hT (by omega))
  clear hG HGd hnl hdl
  generalize Cf.lJ k ⟨kd,pp,nn,mm,nm,da⟩=dd at *
  obtain⟨dk,dc,dn,ds⟩:=dd
  simp only
  go_enter Tryz.func12,Tryz.ntmps12
  go_upto_region 1 with fail
  rw[← Hw0.out]
  clear Hw0
  have hB:=lT.out
  obtain⟨c0,c1,c2,c3,c4, -,cl⟩:=kY hB
  clear hB
  go_wp2_with fail
  refine HCk.out.mono ?_
  rintro e w1 ⟨rfl,hb1⟩
  have Hb1:=hid (Hb0.out.trans (hb1.mono Hb0.out.size))
  have Hs1:=hid (show w.heap.size+4≤w1.heap.size by have:=hb1.size;rw[Hz0.out]at this;exact this)
  have HKB1:=hid (lT.out.below hb1 lT.out.lt)
  have jB:=hid (oV.out.below hb1 oV.out.lt)
  have eU:=hid (oZ.out.below hb1 oZ.out.lt)
  have eQ:=hid (oW.out.below hb1 oW.out.lt)
  clear lT oV oZ oW
  clear hb1 c0 c1 c2 c3 c4 cl HCk Hb0
  have HCp:=hid (FP k ⟨A,ca,M,cm,N,cn,S,cs,Q,cq⟩ w1 (HR.out.below Hb1.out) Hf.out)
  have a0:=jB.out.cell 0
  simp only[List.getElem?_cons_zero]at a0
  have al:=jB.out.lt
  have hB:=HKB1.out
  obtain⟨c0,c1,c2,c3,c4, -,cl⟩:=kY hB
  clear hB
  go_wp2_with fail
  refine HCp.out.mono ?_
  rintro e w2 ⟨⟨A2,ca2,M2,cm2,N2,cn2,S2,cs2,Q2,cq2⟩,xs,ps,rfl,hown,hb2⟩
  simp only[af]
  go_upto_region 7 with fail
  have Hw3:=hid (show KSt w1.heap.size w1 w2.heap.size ⟨A2,ca2,M2,cm2,N2,cn2,S2,cs2,Q2,cq2⟩ xs ps k (w2.alloc (.cells #[.slice A2 k.mods.length ca2,.slice M2 k.mem.length cm2,.slice N2 k.nodes.length cn2,.slice S2 k.pipes.length cs2,.slice Q2 k.procs.length cq2] ae)) from⟨Wb.new w2 ae _,hown.below ((Below.refl _ _).alloc (Nat.le_refl _) _),hb2.size,hb2.alloc hb2.size _⟩)
  have hb3:Below w1.heap.size w1 (w2.alloc (.cells #[.slice A2 k.mods.length ca2,.slice M2 k.mem.length cm2,.slice N2 k.nodes.length cn2,.slice S2 k.pipes.length cs2,.slice Q2 k.procs.length cq2] ae)):=hb2.alloc hb2.size _
  have hs2:=hb2.size
  have Hs2:=hid hs2
  clear hown hb2 c0 c1 c2 c3 c4 cl a0 al HCp hs2
  generalize hg2:w2.heap.size=g2 at *
  clear hg2
  generalize w2.alloc (.cells #[.slice A2 k.mods.length ca2,.slice M2 k.mem.length cm2,.slice N2 k.nodes.length cn2,.slice S2 k.pipes.length cs2,.slice Q2 k.procs.length cq2] ae)=w3 at *
  have hA:=jB.out.below hb3 jB.out.lt
  obtain⟨a0,a1,a2,a3,a4,a5, -,al⟩:=yS hA
  clear hA hb3
  go_wp2_with fail
  refine(HPf.out _ _ _ _ _ _ _ Hw3.out (fun W hW=>HTb.out W (Hb1.out.trans (hW.mono Hb1.out.size)))).mono ?_
  rintro e w4 ⟨rfl,he4,_⟩
  obtain⟨⟨A4,ca4,M4,cm4,N4,cn4,S4,cs4,Q4,cq4⟩,hbx4,hnew4,hkp4⟩:=he4.aft
  simp only[aF]
  go_upto_region 8 with fail
  have hb5:Below w4.heap.size w4 (w4.alloc (.cells #[.int .i64 dc,.int .i64 dn,.string ⟨ds.toArray⟩] au)):=(Below.refl _ _).alloc (Nat.le_refl _) _
  have HA5:=hid (show Wb (w4.alloc (.cells #[.int .i64 dc,.int .i64 dn,.string ⟨ds.toArray⟩] au)) w4.heap.size au [.int .i64 dc,.int .i64 dn,.string ⟨ds.toArray⟩] from Wb.new w4 au _)
  have NC:=hid (hbx4.below hb5 hbx4.lt)
  have L8:=hid (hnew4.below hb5)
  have Kr:=hkp4.alloc hkp4.size (.cells #[.int .i64 dc,.int .i64 dn,.string ⟨ds.toArray⟩] au)
  have Nc:=hid (eU.out.below Kr eU.out.lt)
  have Nb:=hid (eQ.out.below Kr eQ.out.lt)
  have Hb5:=hid (Hb1.out.trans (Kr.mono Hb1.out.size))
  have Hs4:=hid (show w1.heap.size≤w4.heap.size from hkp4.size)
  clear he4 hbx4 hnew4 hkp4 hb5 Kr HPf Hw3 HKB1 jB eU eQ a0 a1 a2 a3 a4 a5 al
  generalize hg4:w4.heap.size=g4 at *
  clear hg4
  generalize w4.alloc (.cells #[.int .i64 dc,.int .i64 dn,.string ⟨ds.toArray⟩] au)=w5 at *
  have hRK:=Nc.out
  obtain⟨r0,r1,r2,r3,r4,rf,rl⟩:=kY hRK
  have hRA:=Nb.out
  have t0:=hRA.cell 0
  have t1:=hRA.cell 1
  have t2:=hRA.cell 2
  simp only[gq]at t0 t1 t2
  have tf:=hRA.open_
  have tl:=hRA.lt
  clear hRK hRA
  have hK5:=NC.out
  have z0:=hK5.cell 0
  have z1:=hK5.cell 1
  have z2:=hK5.cell 2
  have z3:=hK5.cell 3
  have z4:=hK5.cell 4
  simp only[af,gq]at z0 z1 z2 z3 z4
  have zl:=hK5.lt
  have hA5:=HA5.out
  obtain⟨y0,y1,y2, -,yl⟩:=aS hA5
  have n1:g2≠w.heap.size+2:=by have:=Hs1.out;have:=Hs2.out;omega
  have n2:g2≠w.heap.size+3:=by have:=Hs1.out;have:=Hs2.out;omega
  have n3:g4≠w.heap.size+2:=by have:=Hs1.out;have:=Hs4.out;omega
  have n4:g4≠w.heap.size+3:=by have:=Hs1.out;have:=Hs4.out;omega
  clear hK5 hA5 NC HA5 Nc Nb
  go_region
  all_goals
   go_wp2
   have x0:w5.cell? ⟨w.heap.size+1+1,0,none⟩=_:=r0
   have x1:w5.cell? ⟨w.heap.size+1+1,1,none⟩=_:=r1
   have x2:w5.cell? ⟨w.heap.size+1+1,2,none⟩=_:=r2
   have x3:w5.cell? ⟨w.heap.size+1+1,3,none⟩=_:=r3
   have x4:w5.cell? ⟨w.heap.size+1+1,4,none⟩=_:=r4
   have u0:w5.cell? ⟨w.heap.size+1+1+1,0,none⟩=_:=t0
   have u1:w5.cell? ⟨w.heap.size+1+1+1,1,none⟩=_:=t1
   have u2:w5.cell? ⟨w.heap.size+1+1+1,2,none⟩=_:=t2
   refine bodyPost_ret (v:=.tuple #[.agg #[.slice A4 dk.mods.length ca4,.slice M4 dk.mem.length cm4,.slice N4 dk.nodes.length cn4,.slice S4 dk.pipes.length cs4,.slice Q4 dk.procs.length cq4],.agg #[.int .i64 dc,.int .i64 dn,.string ⟨ds.toArray⟩],.int .i64 0]) (by simp[results,Tryz.results12,go_sem,x0,x1,x2,x3,x4,u0,u1,u2]) rfl ?_
   refine⟨⟨A4,ca4,M4,cm4,N4,cn4,S4,cs4,Q4,cq4⟩,rfl,?_,?_⟩
   ·refine kW.mono (B:=w1.heap.size) ?_ (by have:=Hs1.out;omega)
    refine kW.below ?_ ((Below.refl _ _).drew)
    iterate 8 refine kW.set ?_ (by have:=Hs1.out;show _<w1.heap.size;simp only;omega) _
    exact L8.out
   ·refine Below.drew ?_
    iterate 8 refine Below.setCell ?_ (by simp only;omega) _
    exact Hb5.out
 ·rw[if_pos he]
  have hq:(er != 0)=true:=by rw[bne_iff_ne];exact he
  clear he HGd
  go_enter Tryz.func12,Tryz.ntmps12
  go_upto_region 1 with fail
  rw[← Hw0.out]
  clear Hw0
  have hB:=lT.out
  obtain⟨c0,c1,c2,c3,c4, -,cl⟩:=kY hB
  clear hB
  go_wp2_with fail
  refine HCk.out.mono ?_
  rintro e w1 ⟨rfl,hb1⟩
  have Hb1:=hid (Hb0.out.trans (hb1.mono Hb0.out.size))
  have Hs1:=hid (show w.heap.size+4≤w1.heap.size by have:=hb1.size;rw[Hz0.out]at this;exact this)
  have HKB1:=hid (lT.out.below hb1 lT.out.lt)
  have jB:=hid (oV.out.below hb1 oV.out.lt)
  have eU:=hid (oZ.out.below hb1 oZ.out.lt)
  have eQ:=hid (oW.out.below hb1 oW.out.lt)
  clear lT oV oZ oW
  clear hb1 c0 c1 c2 c3 c4 cl HCk Hb0
  have hRK:=eU.out
  obtain⟨r0,r1,r2,r3,r4,rf,rl⟩:=kY hRK
  have hRA:=eQ.out
  have t0:=hRA.cell 0
  have t1:=hRA.cell 1
  have t2:=hRA.cell 2
  simp only[gq]at t0 t1 t2
  have tf:=hRA.open_
  have tl:=hRA.lt
  clear hRK hRA
  clear HKB1 jB eU eQ
  go_wp2
  refine bodyPost_ret (v:=.tuple #[.agg #[.slice none 0 0,.slice none 0 0,.slice none 0 0,.slice none 0 0,.slice none 0 0],.agg #[.int .i64 0,.int .i64 0,.string ⟨#[]⟩],.int .i64 er]) (by simp[results,Tryz.results12,go_sem,r0,r1,r2,r3,r4,t0,t1,t2]) rfl ?_
  exact⟨_,rfl,pz _ _,((((((((Hb1.out.setCell (p:=⟨w.heap.size+2,0,none⟩) (by show w.heap.size≤w.heap.size+2;omega) _).setCell (p:=⟨w.heap.size+2,1,none⟩) (by show w.heap.size≤w.heap.size+2;omega) _).setCell (p:=⟨w.heap.size+2,2,none⟩) (by show w.heap.size≤w.heap.size+2;omega) _).setCell (p:=⟨w.heap.size+2,3,none⟩) (by show w.heap.size≤w.heap.size+2;omega) _).setCell (p:=⟨w.heap.size+2,4,none⟩) (by show w.heap.size≤w.heap.size+2;omega) _).setCell (p:=⟨w.heap.size+3,0,none⟩) (by show w.heap.size≤w.heap.size+3;omega) _).setCell (p:=⟨w.heap.size+3,1,none⟩) (by show w.heap.size≤w.heap.size+3;omega) _).setCell (p:=⟨w.heap.size+3,2,none⟩) (by show w.heap.size≤w.heap.size+3;omega) _)⟩
end
section
open Go.RowKit
def AtP{α:Type}(P:Nat→Prop)(A:Option Addr)(l:List α):Prop:=l=[]∨∃b off,A=some ⟨b,off,none⟩∧P b
theorem AtP.mono{α:Type}{P R:Nat→Prop}{A:Option Addr}{l:List α}(h:AtP P A l)(hPR:∀b,P b→R b):AtP R A l:=by
 rcases h with h|⟨b,off,he,hp⟩
 ·exact .inl h
 ·exact .inr ⟨b,off,he,hPR b hp⟩
theorem ou{α:Type}{sz:Nat}{enc:α→List Value}{w:World}{B:Nat}{A:Option Addr}{l:List α}(h:RdS sz enc w A l)(hf:dN B A l):AtP (fun b=>B≤b∧b<w.heap.size) A l:=by
 rcases h with h|⟨b,off,rfl,hb,hc⟩
 ·exact .inl h
 ·rcases hf with hf|⟨b',off',he,hle⟩
  ·exact .inl hf
  ·cases he
   exact .inr ⟨b,off,rfl,hle,hb⟩
def fO(P:Nat→Prop)(w w':World):Prop:=w.heap.size≤w'.heap.size∧∀b,P b→b<w.heap.size→w'.heap[b]?=w.heap[b]?
theorem RdS.kept{α:Type}{sz:Nat}{enc:α→List Value}{w w':World}{P:Nat→Prop}{A:Option Addr}{l:List α}(h:RdS sz enc w A l)(hp:AtP P A l)(hk:fO P w w'):RdS sz enc w' A l:=by
 rcases h with h|⟨b,off,rfl,hb,hc⟩
 ·exact .inl h
 ·rcases hp with hp|⟨b',off',he,hle⟩
  ·exact .inl hp
  ·cases he
   refine .inr ⟨b,off,rfl,Nat.lt_of_lt_of_le hb hk.1,fun k x hx j v hv=>?_⟩
   rw[World.cell?_of_block (w:=w) (hk.2 b hle hb)]
   exact hc k x hx j v hv
structure KPr(P:Nat→Prop)(w:World)(a:KA)(k:Cf.ag):Prop where
 mods:∃xs,(RdS 3 eG w a.A xs∧AtP P a.A xs)∧Each (fun x m=>IsM w x m∧AtP P x.A m.code∧AtP P x.B m.data) xs k.mods
 mem:Ints w a.M k.mem∧AtP P a.M k.mem
 nodes:Ed w a.N k.nodes∧AtP P a.N k.nodes
 pipes:Strs w a.S k.pipes∧AtP P a.S k.pipes
 procs:∃xs,(RdS 2 bG w a.Q xs∧AtP P a.Q xs)∧Each (fun x p=>IsP w x p∧AtP P x.A p.ends) xs k.procs
 capA:k.mods.length≤a.ca
 capM:k.mem.length≤a.cm
section
variable {P R:Nat→Prop} {w w':World} {a:KA} {k:Cf.ag} {B:Nat}
theorem kW.pr(h:kW B w a k):KPr (fun b=>B≤b∧b<w.heap.size) w a k:=by
 obtain⟨xs,h1,h2⟩:=h.mods
 obtain⟨ys,h3,h4⟩:=h.procs
 exact⟨⟨xs,⟨h1.1,ou h1.1 h1.2⟩,h2.mono fun _ _ h=>⟨h.1,ou h.1.2.2.2.1 h.2.1,ou h.1.2.2.2.2 h.2.2⟩⟩,⟨h.mem.1,ou h.mem.1 h.mem.2⟩,⟨h.nodes.1,ou h.nodes.1 h.nodes.2⟩,⟨h.pipes.1,ou h.pipes.1 h.pipes.2⟩,⟨ys,⟨h3.1,ou h3.1 h3.2⟩,h4.mono fun _ _ h=>⟨h.1,ou h.1.2.2 h.2⟩⟩,h.capA,h.capM⟩
theorem KPr.rd(h:KPr P w a k):KRd w a k:=by
 obtain⟨xs,h1,h2⟩:=h.mods
 obtain⟨ys,h3,h4⟩:=h.procs
 exact⟨⟨xs,h1.1,h2.mono fun _ _ h=>h.1⟩,h.mem.1,h.nodes.1,h.pipes.1,⟨ys,h3.1,h4.mono fun _ _ h=>h.1⟩,h.capA⟩
theorem KPr.mono(h:KPr P w a k)(hPR:∀b,P b→R b):KPr R w a k:=by
 obtain⟨xs,h1,h2⟩:=h.mods
 obtain⟨ys,h3,h4⟩:=h.procs
 exact⟨⟨xs,⟨h1.1,h1.2.mono hPR⟩,h2.mono fun _ _ h=>⟨h.1,h.2.1.mono hPR,h.2.2.mono hPR⟩⟩,⟨h.mem.1,h.mem.2.mono hPR⟩,⟨h.nodes.1,h.nodes.2.mono hPR⟩,⟨h.pipes.1,h.pipes.2.mono hPR⟩,⟨ys,⟨h3.1,h3.2.mono hPR⟩,h4.mono fun _ _ h=>⟨h.1,h.2.mono hPR⟩⟩,h.capA,h.capM⟩
theorem KPr.kept(h:KPr P w a k)(hk:fO P w w'):KPr P w' a k:=by
 obtain⟨xs,h1,h2⟩:=h.mods
 obtain⟨ys,h3,h4⟩:=h.procs
 exact⟨⟨xs,⟨h1.1.kept h1.2 hk,h1.2⟩,h2.mono fun _ _ h=>⟨⟨h.1.1,h.1.2.1,h.1.2.2.1,RdS.kept h.1.2.2.2.1 h.2.1 hk,RdS.kept h.1.2.2.2.2 h.2.2 hk⟩,h.2⟩⟩,⟨RdS.kept h.mem.1 h.mem.2 hk,h.mem.2⟩,⟨RdS.kept h.nodes.1 h.nodes.2 hk,h.nodes.2⟩,⟨RdS.kept h.pipes.1 h.pipes.2 hk,h.pipes.2⟩,⟨ys,⟨h3.1.kept h3.2 hk,h3.2⟩,h4.mono fun _ _ h=>⟨⟨h.1.1,h.1.2.1,RdS.kept h.1.2.2 h.2 hk⟩,h.2⟩⟩,h.capA,h.capM⟩
theorem fO.below(hb:Below w.heap.size w w'):fO P w w':=⟨hb.size,fun b _ hl=>hb.block b hl⟩
theorem fO.set{g:Nat}(hP:∀b,P b→b≠g)(i:Nat)(u:Value):fO P w (w.setCell ⟨g,i,none⟩ u):=⟨by simp[World.setCell],fun b hb _=>Below.heap_setCell w ⟨g,i,none⟩ u b (fun he=>hP b hb he)⟩
theorem fO.grown{row:Option Nat}(hg:w.grownBy w' row)(hP:∀b,P b→row≠some b):fO P w w':=⟨hg.size,fun b hb hl=>hg.block b hl (fun he=>hP b hb he.symm)⟩
end
theorem Kw:(Tryz.prog.info? 34).map (fun i=>(i.zero,i.size,i.bytes))=some (some (.agg #[.int .i64 0,.int .i64 0,.string ⟨#[]⟩]),3,32):=by kernel_rfl
theorem lh(x:Cf.Ans):(aF x).length=3:=rfl
theorem zy:∀x,∀u∈aF x,u.oneCell'=true:=by
 intro x u hu
 simp[aF]at hu
 rcases hu with rfl|rfl|rfl<;>rfl
theorem xq(x:Cf.jo):(qA x).length=6:=rfl
abbrev He(w:World)(A:Option Addr)(l:List Cf.jo):Prop:=RdS 6 qA w A l
def Ns(r:Cf.MR)(w:World)(e:Ending)(w':World):Prop:=
 ∃(A:Option Addr) (c:Nat) (a:KA),e = .returned (.tuple #[.slice A r.answers.length c,.agg (af a r.kern).toArray,.int .i64 r.err])∧RdS 3 aF w' A r.answers∧r.answers.length≤c∧(AtP (fun b=>w.heap.size≤b) A r.answers∧KPr (fun b=>w.heap.size≤b) w' a r.kern)∧Below w.heap.size w w'
theorem nR{α:Type}{sz:Nat}{enc:α→List Value}{w:World}{P:Nat→Prop}{A:Option Addr}{l:List α}(h:RdS sz enc w A l)(hp:AtP P A l):AtP (fun b=>P b∧b<w.heap.size) A l:=by
 rcases h with h|⟨b,off,rfl,hb,hc⟩
 ·exact .inl h
 ·rcases hp with hp|⟨b',off',he,hle⟩
  ·exact .inl hp
  ·cases he
   exact .inr ⟨b,off,rfl,hle,hb⟩
theorem KPr.lt{P:Nat→Prop}{w:World}{a:KA}{k:Cf.ag}(h:KPr P w a k):KPr (fun b=>P b∧b<w.heap.size) w a k:=by
 obtain⟨xs,h1,h2⟩:=h.mods
 obtain⟨ys,h3,h4⟩:=h.procs
 exact⟨⟨xs,⟨h1.1,nR h1.1 h1.2⟩,h2.mono fun _ _ h=>⟨h.1,nR h.1.2.2.2.1 h.2.1,nR h.1.2.2.2.2 h.2.2⟩⟩,⟨h.mem.1,nR h.mem.1 h.mem.2⟩,⟨h.nodes.1,nR h.nodes.1 h.nodes.2⟩,⟨h.pipes.1,nR h.pipes.1 h.pipes.2⟩,⟨ys,⟨h3.1,nR h3.1 h3.2⟩,h4.mono fun _ _ h=>⟨h.1,nR h.1.2.2 h.2⟩⟩,h.capA,h.capM⟩
structure RunT(w:World)(g:Nat)(k:Cf.ag)(ans:List Cf.Ans)(v:Value)(a:KA)(wr:World):Prop where
 box:Wb wr g ae (af a k)
 row:wr.ownsRow w.heap.size au 3 v ans.length (ans.flatMap aF)
 rows:KPr (fun b=>b≠g∧v.ownBlock≠some b∧w.heap.size<b) wr a k
 keep:Below w.heap.size w wr
 lo:w.heap.size≤g
section
variable {w:World} {g:Nat} {k:Cf.ag} {ans:List Cf.Ans} {v:Value} {a:KA} {wr wr':World}
theorem RunT.below(h:RunT w g k ans v a wr)(hb:Below wr.heap.size wr wr'):RunT w g k ans v a wr':=⟨h.box.below hb h.box.lt,own_below h.row hb,h.rows.kept (fO.below hb),h.keep.trans (hb.mono h.keep.size),h.lo⟩
theorem RunT.own_lt(h:RunT w g k ans v a wr){b:Nat}(hb:v.ownBlock=some b):b<wr.heap.size:=by
 rcases h.row.2 with ⟨hv,_⟩|⟨g',cap,cur,hv,_,hh,_⟩
 ·rw[hv]at hb
  cases hb
 ·rw[hv]at hb
  cases hb
  exact(Array.getElem?_eq_some_iff.1 hh).1
theorem RunT.put(h:RunT w g k ans v a wr){a2:KA}{k2:Cf.ag}(hr:KPr (fun b=>b≠g∧v.ownBlock≠some b∧w.heap.size<b) wr a2 k2):
  RunT w g k2 ans v a2 (((((wr.setCell ⟨g,0,none⟩ (.slice a2.A k2.mods.length a2.ca)).setCell ⟨g,1,none⟩ (.slice a2.M k2.mem.length a2.cm)).setCell ⟨g,2,none⟩ (.slice a2.N k2.nodes.length a2.cn)).setCell ⟨g,3,none⟩ (.slice a2.S k2.pipes.length a2.cs)).setCell ⟨g,4,none⟩ (.slice a2.Q k2.procs.length a2.cq)):=by
 have ho:∀(W:World) (ds:List Value),W.ownsRow w.heap.size au 3 v ans.length (ans.flatMap aF)→Wb W g ae ds→v.ownBlock≠some g:=fun W ds hr hw=>ax hr hw (by decide)
 have hk:∀(W:World) (i:Nat) (u:Value),KPr (fun b=>b≠g∧v.ownBlock≠some b∧w.heap.size<b) W a2 k2→KPr (fun b=>b≠g∧v.ownBlock≠some b∧w.heap.size<b) (W.setCell ⟨g,i,none⟩ u) a2 k2:=fun W i u h=>h.kept (fO.set (fun b hb=>hb.1) i u)
 have hg:=ho _ _ h.row h.box
 refine⟨((((h.box.put 0 _).put 1 _).put 2 _).put 3 _).put 4 _,?_,hk _ 4 _ (hk _ 3 _ (hk _ 2 _ (hk _ 1 _ (hk _ 0 _ hr)))),((((h.keep.setCell h.lo _).setCell h.lo _).setCell h.lo _).setCell h.lo _).setCell h.lo _,h.lo⟩
 exact aj (aj (aj (aj (aj h.row hg _) hg _) hg _) hg _) hg _
theorem RunT.grow(h:RunT w g k ans v a wr){x:Cf.Ans}{v':Value}(hown:wr'.ownsRow w.heap.size au 3 v' (ans.length+1) (ans.flatMap aF++[x].flatMap aF))(hg:wr.grownBy wr' v.ownBlock)(hat:v'.ownBlock=v.ownBlock∨v'.ownBlock=some wr.heap.size):RunT w g k (ans++[x]) v' a wr':=by
 refine⟨h.box.grown hg (ax h.row h.box (by decide)),by rw[List.length_append,List.flatMap_append];exact hown,?_,h.keep.grown hg h.keep.size (fun r hr=>bZ h.row r hr),h.lo⟩
 refine((h.rows.lt).kept (fO.grown hg fun b hb=>hb.1.2.1)).mono fun b hb=>⟨hb.1.1,?_,hb.1.2.2⟩
 rcases hat with hat|hat
 ·rw[hat];exact hb.1.2.1
 ·rw[hat]
  intro he
  have:=Option.some.inj he
  omega
end
theorem vN{l:List Cf.jo}{n:Nat}{x:Cf.jo}(hx:l[n]?=some x)(k:Cf.ag):Cf.dS k (l.take (n+1))=⟨(Cf.dS k (l.take n)).answers++[(Cf.mD (Cf.dS k (l.take n)).kern x).ans],(Cf.mD (Cf.dS k (l.take n)).kern x).kern⟩:=by
 rw[List.take_add_one,hx,Option.toList_some,Cf.D6]
 rfl
end
end Go.Proofs.YtnnhhbjbdmgpiaaGreatDoor
