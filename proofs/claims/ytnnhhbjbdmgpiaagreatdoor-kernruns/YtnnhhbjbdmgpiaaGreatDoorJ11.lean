/- Texts of the proofs: Kit, EntW, TabsL. -/
import Derived.ProofKit
import Derived.OpenShut
import Derived.Deep.Slices
import Derived.Deep.DeepHandedRow
import Derived.Lib.LaidTab
import Derived.LaidSub
import Derived.Test.YtnnhhbjbdmgpiaaGreatDoorJ01
set_option linter.unusedSimpArgs false
set_option linter.unusedVariables false
namespace Go.Proofs.YtnnhhbjbdmgpiaaGreatDoor
set_option maxRecDepth 100000
set_option maxHeartbeats 4000000
open Lib (hid)
section
open Go.ChangeShapes Go.WideShapes Go.ChangeAt Go.RowKit Go.Deep
theorem lt_of_cell{w:World}{a:Addr}{v:Value}(h:w.cell? a=some v):a.block<w.heap.size:=by
 rcases Nat.lt_or_ge a.block w.heap.size with h' | h'
 ·exact h'
 ·simp[World.cell?,Array.getElem?_eq_none h']at h
theorem o7{H:Type}{enc:TypeId × Value→H}{P:Program}(hl:laidOutB P=true){W W':World}(hb:Below W.heap.size W W'):
  ∀(ts:List TypeId) (vs:List Value) (ds:List (DataW H)) (ps:List MemPlace),(ts.all fun t=>P.readableRec t && decide (t<P.types.size))=true →
   DataW.TrodAll enc P W 0 (fun _=>true) true ts vs ds ps→(∀x∈ps,x.block<W.heap.size)→DataW.TrodAll enc P W' 0 (fun b=>decide (b<W.heap.size)) true ts vs ds ps
 | [],[],[],_,_,h,_=>h
 | t :: ts,v :: vs,d :: ds,ps,hr,h,hlt=>by
   obtain⟨p,q,h1,h2,rfl⟩:=h
   simp only[List.all_cons,Bool.and_eq_true,decide_eq_true_eq]at hr
   exact⟨p,q,Below.trod hl hr.1.1 hr.1.2 h1 hb (fun x hx=>hlt x (List.mem_append_left _ hx)),
    o7 hl hb ts vs ds q hr.2 h2 (fun x hx=>hlt x (List.mem_append_right _ hx)),rfl⟩
 | [],[],_ :: _,_,_,h,_=>h.elim
 | [],_ :: _,_,_,_,h,_=>h.elim
 | _ :: _,[],_,_,_,h,_=>h.elim
 | _ :: _,_ :: _,[],_,_,h,_=>h.elim
theorem Bo{H:Type}{enc:TypeId × Value→H}{P:Program}{f:Func}{s:ChangeSpec}{apart:Bool}{W W':World}{args:Array Value}{tb:TypeId}{ds gs:List (DataW H)}{before:List MemPlace}
  (hl:laidOutB P=true) (htb:f.resultTypes=#[tb]) (Mc:P.underlying tb=some .bool) (hvars:s.vars=[]) (hr:(f.params.toList.all fun t=>P.readableRec t && decide (t<P.types.size))=true)
  (hs:∀ds:List (DataW H),ds.length=f.params.size→s.fn H ds = { results:=[.lit (.bool true)],args:=ds })
  (hW:DataW.Whole enc P f.params.toList s.vars apart W args.toList ds gs before) (hb:Below W.heap.size W W'):
  s.post enc P f apart true false false W args (.bool true) W':=by
 have hlt:=hW.lt
 obtain⟨p,q,hA,hV,rfl,hz,hn⟩:=hW
 rw[hvars]at hV
 have hlen:∀(ts:List TypeId) (vs:List Value) (ds:List (DataW H)) (ps:List MemPlace),DataW.TrodAll enc P W 0 (fun _=>true) true ts vs ds ps→ds.length=ts.length:=by
  intro ts
  induction ts with
  | nil=>intro vs ds ps h;cases vs<;>cases ds<;>first|rfl|exact h.elim
  | cons t ts ih=>
    intro vs ds ps h
    cases vs with
    | nil=>exact h.elim
    | cons v vs=>
      cases ds with
      | nil=>exact h.elim
      | cons d ds=>
        obtain⟨_,q,_,h2,_⟩:=h
        simp[ih vs ds q h2]
 obtain⟨rfl,rfl⟩:gs=[]∧q=[]:=by cases gs with|nil=>exact⟨rfl,hV⟩|cons g gs=>exact hV.elim
 have hfn:=hs ds (by have:=hlen _ _ _ _ hA;simpa using this)
 refine⟨ds,[],p++[],[],p,[],⟨p,[],hA,by rw[hvars];exact rfl,rfl,hz,hn⟩,?_,?_,?_,World.keptBut_mono (fun x hx=>?_) (hb.frame (fun x=>x∈p)),fun h=>by cases h⟩
 ·rw[List.append_nil,hfn,htb]
  exact trodAll_cons_mk (shut_bool Mc _) trodAll_mk0
 ·rw[List.append_nil,hfn]
  exact o7 hl hb _ _ _ _ hr hA (fun x hx=>hlt x (by simpa using hx))
 ·rw[hvars,List.append_nil,hfn]
  exact rfl
 ·exact⟨by simpa using hx,.inr (.inl hx)⟩
theorem BA{P:Program}{W:World}:∀ {laid:List (String × DataW Unit)} {ps:List MemPlace},DataW.LaidVars P W laid ps→∀ {n:String} {d:DataW Unit},(n,d)∈laid →
  ∃g t cs fuel p,P.globalNamed n=some g∧(P.globals[g]?).map (·.type)=some t∧W.var? P n=some cs∧DataW.trod (fun _=>()) P W 0 (fun _=>true) false fuel t cs.toList=some (d,p)
 | [],_,_,_,_,hm=>by cases hm
 | (n',d') :: r,ps,h,n,d,hm=>by
   obtain⟨g,t,cs,fuel,p,q,h1,h2,h3,h4,h5,_⟩:=h
   rcases List.mem_cons.1 hm with e|e
   ·cases e;exact⟨g,t,cs,fuel,p,h1,h2,h3,h4⟩
   ·exact BA h5 e
theorem xC{P:Program}{W:World}{laid:List (String × DataW Unit)}(h:laidMetH P laid W){n:String}{d:DataW Unit}(hm:(n,d)∈laid)(hd:d.handleName?.isNone=true):
  ∃g t cs fuel p,P.globalNamed n=some g∧(P.globals[g]?).map (·.type)=some t∧W.var? P n=some cs∧DataW.trod (fun _=>()) P W 0 (fun _=>true) false fuel t cs.toList=some (d,p):=by
 obtain⟨ps,hv,_⟩:=(laidMetH_iff.1 h).1
 exact BA hv (List.mem_filter.2 ⟨hm,hd⟩)
theorem Gw{P:Program}{W:World}{laid:List (String × DataW Unit)}(h:laidMetH P laid W){n:String}{k:IntKind}{z:Int}{zs:List Int}{g:Nat}{t e:TypeId}{m:Nat}(hm:(n,Lib.tabData k (z :: zs))∈laid)
  (hg:P.globalNamed n=some g) (hty:(P.globals[g]?).map (·.type)=some t) (ht:P.underlying t=some (.array m e)) (he:P.underlying e=some (.int k)) (hce:P.cellsOf e=1) (hct:P.cellsOf t=m):
  Tab g ((z :: zs).map (Value.int k)) W:=by
 obtain⟨g',t',cs,fuel,p,hg',ht',hvar,hd⟩:=xC h hm rfl
 obtain rfl:=Option.some.inj (hg.symm.trans hg')
 obtain rfl:=Option.some.inj (hty.symm.trans ht')
 have hcs:=Lib.cells_of_tab ht he hce hct hd
 have hc:∀j v,((z :: zs).map (Value.int k))[j]?=some v→W.cell? ⟨g,j,none⟩=some v:=by
  intro j v hv
  rw[World.var?_cell hg hvar,← Array.getElem?_toList,hcs]
  exact hv
 exact⟨lt_of_cell (hc 0 _ rfl),hc⟩
theorem Ic{P:Program}{W:World}{laid:List (String × DataW Unit)}(h:laidMetH P laid W){n:String}{k:IntKind}{zss:List (List Int)}{g:Nat}{t r e:TypeId}{m c:Nat}(hm:(n,.agg (zss.map (Lib.tabData k)))∈laid)
  (hg:P.globalNamed n=some g) (hty:(P.globals[g]?).map (·.type)=some t) (ht:P.underlying t=some (.array m r)) (hr:P.underlying r=some (.array c e)) (he:P.underlying e=some (.int k)) (hce:P.cellsOf e=1) (hcr:P.cellsOf r=c)
  (hrl:∀zs∈zss,zs.length=c) (hne:zss.flatten≠[]):Tab g (zss.flatten.map (Value.int k)) W:=by
 obtain⟨g',t',cs,fuel,p,hg',ht',hvar,hd⟩:=xC h hm rfl
 obtain rfl:=Option.some.inj (hg.symm.trans hg')
 obtain rfl:=Option.some.inj (hty.symm.trans ht')
 obtain⟨xs,f',_,hx,hlen,hxl,hrow⟩:=DataW.trod_array ht hd
 have hx1:zss.map (Lib.tabData k)=xs.map (·.1):=by
  have:=congrArg Prod.fst hx
  simpa using this
 have hzl:zss.length=m:=by
  have:=congrArg List.length hx1
  simp at this
  omega
 have hrows:∀i (zs:List Int),zss[i]?=some zs→(cs.toList.drop (i*c)).take c=zs.map (Value.int k):=by
  intro i zs hz
  have hi:i<m:=by rw[← hzl];exact(List.getElem?_eq_some_iff.1 hz).1
  have h1:=hrow i hi
  rw[hcr]at h1
  have h2:(xs.map (·.1))[i]?=some (Lib.tabData k zs):=by rw[← hx1];simp[hz]
  rw[List.getElem?_map,Option.map_eq_some_iff]at h2
  obtain⟨⟨d,p'⟩,hxi,hd'⟩:=h2
  rw[hxi]at h1
  simp at hd'
  subst hd'
  exact Lib.cells_of_tab hr he hce hcr h1
 have Nv:∀(l:List (List Int)) (i0:Nat),(∀zs∈l,zs.length=c)→(∀i zs,l[i]?=some zs→(cs.toList.drop ((i0+i)*c)).take c=zs.map (Value.int k))→∀j v,(l.flatten.map (Value.int k))[j]?=some v→cs.toList[i0*c+j]?=some v:=by
  intro l
  induction l with
  | nil=>intro _ _ _ j v hv;simp at hv
  | cons zs l ih=>
    intro i0 hl hall j v hv
    have h0:=hall 0 zs rfl
    have hz:∀j,(zs.map (Value.int k))[j]?=if j<c then cs.toList[i0*c+j]? else none:=by
     intro j
     rw[← h0,List.getElem?_take]
     simp[List.getElem?_drop]
    have hlz:=hl zs (List.mem_cons_self ..)
    rw[List.flatten_cons,List.map_append,List.getElem?_append]at hv
    split at hv
    ·rw[hz j]at hv
     split at hv
     ·exact hv
     ·cases hv
    ·rename_i hj
     simp at hj
     have:=ih (i0+1) (fun zs' hm'=>hl zs' (List.mem_cons_of_mem _ hm')) (fun i zs' hi=>by
      have:=hall (i+1) zs' (by simpa using hi)
      rwa [show i0+(i+1)=i0+1+i by omega]at this) (j-zs.length) v (by simpa using hv)
     rw[show i0*c+j=(i0+1)*c+(j-zs.length) by rw[Nat.add_mul,Nat.one_mul];omega]
     exact this
 have hc:∀j v,(zss.flatten.map (Value.int k))[j]?=some v→W.cell? ⟨g,j,none⟩=some v:=by
  intro j v hv
  rw[World.var?_cell hg hvar,← Array.getElem?_toList]
  have:=Nv zss 0 hrl (fun i zs hz=>by rw[Nat.zero_add];exact hrows i zs hz) j v hv
  simpa using this
 cases hz:zss.flatten with
 | nil=>exact absurd hz hne
 | cons z zs=>exact⟨lt_of_cell (hc 0 (.int k z) (by rw[hz];rfl)),by rw[← hz];exact hc⟩
def l7(P:Program)(o:Option Field)(j:Nat):Bool:=
 match o with
 | some f=>(f.offset == j) && ((P.cellsOf f.type == 1) && (match P.underlying f.type with|some (.int .i64)=>true|_=>false))
 | none=>false
def qY(P:Program)(e:TypeId):Bool:=
 match P.underlying e with
 | some (.struct fs)=>(fs.size == 4) && ((P.cellsOf e == 4) && (l7 P fs[0]? 0 && (l7 P fs[1]? 1 && (l7 P fs[2]? 2 && l7 P fs[3]? 3))))
 | _=>false
theorem lL{P:Program}{o:Option Field}{j:Nat}(h:l7 P o j=true):o.map (fun f=>(f.offset,P.underlying f.type,P.cellsOf f.type))=some (j,some (.int .i64),1):=by
 unfold l7 at h
 cases o with
 | none=>cases h
 | some f=>
   simp only[Bool.and_eq_true,beq_iff_eq]at h
   obtain⟨h1,h2,h3⟩:=h
   simp only[Option.map_some,Option.some.injEq,Prod.mk.injEq]
   refine⟨h1,?_,h2⟩
   split at h3
   ·assumption
   ·cases h3
theorem Bv{P:Program}{e:TypeId}(h:qY P e=true):∃fs:Array Field,P.underlying e=some (.struct fs)∧fs.size=4∧P.cellsOf e=4 ∧
  ∀j,j<4→(fs[j]?).map (fun f=>(f.offset,P.underlying f.type,P.cellsOf f.type))=some (j,some (.int .i64),1):=by
 unfold qY at h
 split at h
 ·rename_i fs hfs
  simp only[Bool.and_eq_true,beq_iff_eq]at h
  obtain⟨h1,h2,h3,h4,h5,h6⟩:=h
  refine⟨fs,hfs,h1,h2,fun j hj=>?_⟩
  have:j=0∨j=1∨j=2∨j=3:=by omega
  rcases this with rfl|rfl|rfl|rfl
  ·exact lL h3
  ·exact lL h4
  ·exact lL h5
  ·exact lL h6
 ·cases h
def oU(vs:List Value):Obj→Obj
 | .cells _ t frozen=>.cells vs.toArray t frozen
 | o=>o
end
section
open Go.RowKit
theorem Cb(r x:Int)(w:World)(h0:0≤r)(h1:r≤15)(h2:0≤x)(h3:x≤65535):
  Calls Tryz.prog 168 #[.int .i64 r,.int .i64 x] w fun e w'=>e = .returned (.tuple #[.agg #[.int .i64 x,.int .i64 0,.int .i64 0,.int .i64 0,.int .i64 (64*r),.int .i64 (64*r),.int .i64 63,.int .i64 0],.int .i64 0])∧Below w.heap.size w w':=by
 go_enter Tryz.func168,Tryz.ntmps168
 go_wp2
 exact bodyPost_ret (v:=.tuple #[.agg #[.int .i64 x,.int .i64 0,.int .i64 0,.int .i64 0,.int .i64 (64*r),.int .i64 (64*r),.int .i64 63,.int .i64 0],.int .i64 0]) (by simp[results,Tryz.results168,go_sem,Int.mul_comm]) rfl ⟨rfl,(Below.refl _ _).alloc (Nat.le_refl _) _⟩
end
section
open Go.ChangeShapes Go.WideShapes Go.ChangeAt Go.RowKit
theorem zI:Tryz.prog.cellsOf 3=1:=by kernel_rfl
theorem KP:Tryz.prog.cellsOf 191=4:=by kernel_rfl
theorem Lc:Tryz.prog.cellsOf 186=3:=by kernel_rfl
theorem gL:Tryz.prog.globalNamed "curfew/code.largest" = some 1:=by kernel_rfl
theorem gLt:(Tryz.prog.globals[1]?).map (·.type)=some 191:=by kernel_rfl
theorem gF:Tryz.prog.globalNamed "curfew/code.formats" = some 0:=by kernel_rfl
theorem gFt:(Tryz.prog.globals[0]?).map (·.type)=some 188:=by kernel_rfl
section
variable {W:World} {laid:List (String × DataW Unit)} (h:laidMetH Tryz.prog laid W)
include h
theorem KE(hm:("curfew/code.largest",Rows.laid_curfew_code_largest)∈laid):jW W:=Gw h hm gL gLt Tryz.underlying191 Tryz.underlying3 zI KP
theorem KD(hm:("curfew/code.formats",Rows.laid_curfew_code_formats)∈laid):kL W:=
 Ic (zss:=Cf.lH) h hm gF gFt Tryz.underlying188 Tryz.underlying186 Tryz.underlying3 zI Lc (by decide) (by decide)
end
end
end Go.Proofs.YtnnhhbjbdmgpiaaGreatDoor
