/- Texts of the proofs: CpuB, CpuC, CpuE, CpuF, CpuG, CpuH, CpuI, CpuK. -/
import Derived.Deep.AppendLies
import Derived.Test.YtnnhhbjbdmgpiaaGreatDoorJ07
import Derived.StillTailTactics
set_option linter.unusedSimpArgs false
set_option linter.unusedVariables false
namespace Go.Proofs.YtnnhhbjbdmgpiaaGreatDoor
set_option maxRecDepth 100000
set_option maxHeartbeats 4000000
open Lib (hid)
section
open Go.RowKit
theorem Row.cap_{w:World}{base n cap:Nat}{A:Option Addr}{l:List Int}(h:Row w base (.slice A n cap) l):l.length≤cap:=by
 rcases h.2 with ⟨hv,h0⟩|⟨g,cap',cur,hv,_,_,hn,_⟩
 ·omega
 ·injection hv with _ _ hc
  omega
def wF(m:Cf.aZ):Cf.Step:=if m.back=[] then .fin 1 m else .on ⟨m.regs,m.mem,m.told,m.back.dropLast,m.back.getLastD 0⟩
theorem Jl(m:Cf.aZ)(hok:Cf.MOk m)(w:World)(base g:Nat)(A:Option Addr)(n cp:Nat)(fuel:Int)(hP:PM w base g A n cp m fuel):
  Calls Tryz.prog 176 #[.pointer (some ⟨g,0,none⟩)] w (dw (wF m) base g A n cp fuel w):=by
 obtain⟨vm,vt,vr,hs⟩:=hP
 obtain⟨R,cr,hvr⟩:=hs.back.form
 rw[jE]at hvr
 subst hvr
 have c11:w.cell? ⟨g,11,none⟩=some (.slice R m.back.length cr):=(hs.blk.cell 11).trans (dQ hok.regs 2)
 have hbl:=hok.back
 have hlo:=hs.lo
 by_cases hl:m.back=[]
 ·have HS:=hid (show wF m = .fin 1 m by unfold wF;rw[if_pos hl])
  have h0:m.back.length=0:=by rw[hl];rfl
  rw[h0]at c11
  have Hs:=hid hs
  clear hs hl h0 hbl
  go_enter Tryz.func176,Tryz.ntmps176
  go_wp2
  go_ret
  rw[HS.out]
  exact⟨rfl,⟨_,_,_,Hs.out⟩,Below.refl _ _⟩
 ·have HS:=hid (show wF m = .on ⟨m.regs,m.mem,m.told,m.back.dropLast,m.back.getLastD 0⟩ by unfold wF;rw[if_neg hl])
  obtain⟨k,hk⟩:∃k,m.back.length=k+1:=⟨m.back.length-1,by have:=List.length_pos_iff.2 hl;omega⟩
  obtain⟨gr,rfl,hgr,hgr2,hfr,hcr⟩:=hs.back.cells (by intro h;exact hl (by simpa [kK] using h))
  have hcap:=hs.back.cap_
  rw[jE]at hcap
  obtain⟨b,hb⟩:∃b,m.back[k]?=some b:=⟨_,List.getElem?_eq_getElem (by omega)⟩
  have JB:m.back.getLastD 0=b:=by
   rw[List.getLastD_eq_getLast?,List.getLast?_eq_getElem?,hk]
   simp[hb]
  have cb:w.cell? ⟨gr,k,none⟩=some (.int .i64 (b:Int)):=hcr k b (by simp[kK,hb])
  have c12:w.cell? ⟨g,12,none⟩=some (.int .i64 (m.pc:Int)):=(hs.blk.cell 12).trans (dQ hok.regs 3)
  have f11:=hs.blk.open_ 11
  have f12:=hs.blk.open_ 12
  have hne:gr≠g:=fun he=>ax hs.back hs.blk aY (by simp[Value.ownBlock,he])
  rw[hk]at c11 hcap hbl
  have h1:=(hs.pop hl rfl).put aY 12 (.int .i64 (b:Int))
  have h2:=h1.put aY 11 (.slice (some ⟨gr,0,none⟩) k cr)
  have Hk:=hid hk
  have Hb:=hid JB
  have H2:=hid h2
  clear hs hl hk hcr hfr hb JB h1 h2
  go_enter Tryz.func176,Tryz.ntmps176
  go_wp2
  go_ret
  rw[HS.out]
  refine⟨rfl,⟨vm,vt,.slice (some ⟨gr,0,none⟩) k cr,?_⟩,((Below.refl base w).setCell (p:=⟨g,12,none⟩) hlo _).setCell (p:=⟨g,11,none⟩) hlo _⟩
  have h2:=H2.out
  rw[Hk.out]at h2
  rw[show(12:Nat)=9+3 from rfl,jS hok.regs 3,show(11:Nat)=9+2 from rfl,jS hok.regs 2]at h2
  simp only[Cf.Step.mach]
  rw[Hb.out]
  exact h2
def uB(m:Cf.aZ)(c:Nat):Cf.Step:=if 16≤m.back.length then .fin 4 m else .on ⟨m.regs,m.mem,m.told,m.back++[m.pc],c⟩
theorem xx(l:List Nat)(b:Nat):kK (l++[b])=kK l++[(b:Int)]:=by simp[kK]
theorem EK{m:Cf.aZ}(hr:m.regs.length=8){w w1:World}{base g:Nat}{A:Option Addr}{n cp:Nat}{fuel:Int}{vm vt:Value}{R:Option Addr}{cr gg cap c:Nat}{o:Obj}
  (hs:St w base g 194 (tJ A n cp m.regs vm vt (.slice R m.back.length cr) m.pc fuel) m.mem m.told m.back vm vt (.slice R m.back.length cr))
  (hown:w1.ownsRow base 3 1 (.slice (some ⟨gg,0,none⟩) (m.back.length+1) cap) (m.back.length+1) ((kK m.back).map (Value.int .i64)++[.int .i64 (m.pc:Int)]))
  (hgr:(w.alloc o).drew.grownBy w1 (Value.slice R m.back.length cr).ownBlock) (hat:(Value.slice R m.back.length cr).ownBlock=some gg∨gg=w.heap.size+1):
  PM ((w1.setCell ⟨g,11,none⟩ (.slice (some ⟨gg,0,none⟩) (m.back.length+1) cap)).setCell ⟨g,12,none⟩ (.int .i64 (c:Int))) base g A n cp ⟨m.regs,m.mem,m.told,m.back++[m.pc],c⟩ fuel ∧
  Below base w ((w1.setCell ⟨g,11,none⟩ (.slice (some ⟨gg,0,none⟩) (m.back.length+1) cap)).setCell ⟨g,12,none⟩ (.int .i64 (c:Int))):=by
 have hlo:=hs.lo
 have hwz:=hs.blk.lt
 have hrow:Row w1 base (.slice (some ⟨gg,0,none⟩) (m.back.length+1) cap) (kK (m.back++[m.pc])):=by
  unfold Row
  rw[xx,List.length_append,jE,List.map_append]
  exact hown
 have h0:St (w.alloc o).drew base g 194 (tJ A n cp m.regs vm vt (.slice R m.back.length cr) m.pc fuel) m.mem m.told m.back vm vt (.slice R m.back.length cr):=(hs.alloc o).draw 1
 have h1:=h0.call aY hrow hgr (hat.imp (fun h=>h.symm) fun h=>⟨gg,rfl,by simp;omega⟩)
 have h2:=(h1.put aY 11 (.slice (some ⟨gg,0,none⟩) (m.back.length+1) cap)).put aY 12 (.int .i64 (c:Int))
 rw[show(11:Nat)=9+2 from rfl,jS hr 2,show(12:Nat)=9+3 from rfl,jS hr 3]at h2
 refine⟨⟨_,_,_,h2⟩,?_⟩
 have hb0:Below base w (w.alloc o).drew:=((Below.refl base w).alloc (by omega) o).drew
 exact((hb0.grown hgr (by simp;omega) (fun k hk=>(hs.back.lt k hk).1)).setCell (p:=⟨g,11,none⟩) hlo _).setCell (p:=⟨g,12,none⟩) hlo _
theorem Je(m:Cf.aZ)(hok:Cf.MOk m)(c:Nat)(w:World)(base g:Nat)(A:Option Addr)(n cp:Nat)(fuel:Int)(hP:PM w base g A n cp m fuel):
  Calls Tryz.prog 175 #[.pointer (some ⟨g,0,none⟩),.int .i64 (c:Int)] w (dw (uB m c) base g A n cp fuel w):=by
 obtain⟨vm,vt,vr,hs⟩:=hP
 obtain⟨R,cr,hvr⟩:=hs.back.form
 rw[jE]at hvr
 subst hvr
 have c11:w.cell? ⟨g,11,none⟩=some (.slice R m.back.length cr):=(hs.blk.cell 11).trans (dQ hok.regs 2)
 have c12:w.cell? ⟨g,12,none⟩=some (.int .i64 (m.pc:Int)):=(hs.blk.cell 12).trans (dQ hok.regs 3)
 have hbl:=hok.back
 have hlo:=hs.lo
 have hwz:=hs.blk.lt
 obtain⟨i0,hi,hz0,hz1,hz2⟩:=info_parts uq
 have Hi:=hid hi
 have Hz0:=hid hz0
 have Hz1:=hid hz1
 have Hz2:=hid hz2
 clear hi hz0 hz1 hz2
 by_cases hl:16≤m.back.length
 ·have HS:=hid (show uB m c = .fin 4 m by unfold uB;rw[if_pos hl])
  have h16:((m.back.length:Int) == 16)=true:=by rw[beq_iff_eq];omega
  go_enter Tryz.func175,Tryz.ntmps175
  go_wp2
  go_ret
  rw[HS.out]
  exact⟨rfl,⟨_,_,_,hs⟩,Below.refl _ _⟩
 ·have HS:=hid (show uB m c = .on ⟨m.regs,m.mem,m.told,m.back++[m.pc],c⟩ by unfold uB;rw[if_neg hl])
  have h16:((m.back.length:Int) == 16)=false:=by rw[beq_eq_false_iff_ne];omega
  have Hs:=hid hs
  clear hs
  go_enter Tryz.func175,Tryz.ntmps175
  go_wp2_with fail
  have MP:(w.alloc (.cells #[.int .i64 (m.pc:Int)] 3)).drew.ownsRow base 3 1 (.slice R m.back.length cr) m.back.length ((kK m.back).map (Value.int .i64)):=by
   have:=(World.ownsRow.alloc Hs.out.back (.cells #[.int .i64 (m.pc:Int)] 3)).drew
   rw[jE]at this
   exact this
  have hoff:=hid (ax Hs.out.back Hs.out.blk aY)
  have Lh:=hid MP
  clear MP
  have HF:=hid (show(w.alloc (.cells #[.int .i64 (m.pc:Int)] 3)).drew.frozen? ⟨g,11,none⟩=false from(Hs.out.alloc (.cells #[.int .i64 (m.pc:Int)] 3)).blk.open_ 11)
  have HF2:=hid (show(w.alloc (.cells #[.int .i64 (m.pc:Int)] 3)).drew.frozen? ⟨g,12,none⟩=false from(Hs.out.alloc (.cells #[.int .i64 (m.pc:Int)] 3)).blk.open_ 12)
  have HC:=hid (show(w.alloc (.cells #[.int .i64 (m.pc:Int)] 3)).drew.cell? ⟨g,11,none⟩=some (.slice R m.back.length cr) from((Hs.out.alloc (.cells #[.int .i64 (m.pc:Int)] 3)).blk.cell 11).trans (dQ hok.regs 2))
  have HC2:=hid (show(w.alloc (.cells #[.int .i64 (m.pc:Int)] 3)).drew.cell? ⟨g,12,none⟩=some (.int .i64 (m.pc:Int)) from((Hs.out.alloc (.cells #[.int .i64 (m.pc:Int)] 3)).blk.cell 12).trans (dQ hok.regs 3))
  have HW:=hid (show g<(w.alloc (.cells #[.int .i64 (m.pc:Int)] 3)).drew.heap.size by simp;omega)
  go_region_law ((refine step_append_lies _ (by rfl) _ _ _ (by rfl) base 3 i0 (.int .i64 0) 1 8 Tryz.underlying23 Hi.out Hz0.out Hz1.out Hz2.out rfl (by omega) (.slice R m.back.length cr) m.back.length ((kK m.back).map (Value.int .i64)) (by rfl) Lh.out ⟨w.heap.size,0,none⟩ 1 1 [.int .i64 (m.pc:Int)] (by rfl) (by rfl) (World.news_of_block (cs:=#[.int .i64 (m.pc:Int)]) (t:=3) (fr:=(0,0)) (heap_alloc_new w _)) (by simp[Value.oneCell']) (by omega) (by unfold maxLen;omega) (by omega) (by simp;omega) (w.heap.size+1) (by simp) ?_;intro gg cap w1 hown1 hgrow hat hlt;have kf:=(hgrow.frozen_far ⟨g,11,none⟩ HW.out (Ne.symm hoff.out)).trans HF.out;have kf2:=(hgrow.frozen_far ⟨g,12,none⟩ HW.out (Ne.symm hoff.out)).trans HF2.out;have k11:=(hgrow.cell_far ⟨g,11,none⟩ HW.out (Ne.symm hoff.out)).trans HC.out;have k12:=(hgrow.cell_far ⟨g,12,none⟩ HW.out (Ne.symm hoff.out)).trans HC2.out;have HX1:=hid hown1;have HX2:=hid hgrow;have HX3:=hid hat;clear hown1 hgrow hat))
  all_goals go_wp2
  all_goals go_ret
  all_goals
   rw[HS.out]
   exact⟨rfl,EK hok.regs Hs.out HX1.out HX2.out HX3.out⟩
end
section
open Go.RowKit
theorem oq(m:Cf.aZ)(i:Nat):m.rg (i:Int)=m.regs.getD i 0:=by simp[Cf.aZ.rg]
theorem PM.alloc{w:World}{base g:Nat}{A:Option Addr}{n cp:Nat}{m:Cf.aZ}{fuel:Int}(h:PM w base g A n cp m fuel)(o:Obj):PM (w.alloc o) base g A n cp m fuel:=by
 obtain⟨vm,vt,vr,h⟩:=h
 exact⟨vm,vt,vr,h.alloc o⟩
theorem PM.draw{w:World}{base g:Nat}{A:Option Addr}{n cp:Nat}{m:Cf.aZ}{fuel:Int}(h:PM w base g A n cp m fuel)(k:Nat):PM (w.drewN k) base g A n cp m fuel:=by
 obtain⟨vm,vt,vr,h⟩:=h
 exact⟨vm,vt,vr,h.draw k⟩
theorem PM.setR{w:World}{base g:Nat}{A:Option Addr}{n cp:Nat}{m:Cf.aZ}{fuel:Int}{vm vt vr:Value}(hr:m.regs.length=8)
  (hs:St w base g 194 (tJ A n cp m.regs vm vt vr m.pc fuel) m.mem m.told m.back vm vt vr) (i:Nat) (hi:i<8) (z:Int):
  PM (w.setCell ⟨g,1+i,none⟩ (.int .i64 z)) base g A n cp (m.setR (i:Int) z) fuel:=by
 have h:=hs.put aY (1+i) (.int .i64 z)
 rw[Dz hr i hi]at h
 refine⟨vm,vt,vr,?_⟩
 simpa [Cf.aZ.setR] using h
theorem EJ(m:Cf.aZ)(hok:Cf.MOk m)(a b:Nat)(c:Int)(ha:a<8)(hb:b<8)(w:World)(base g:Nat)(A:Option Addr)(n cp:Nat)(fuel:Int)(hP:PM w base g A n cp m fuel):
  Calls Tryz.prog 174 #[.pointer (some ⟨g,0,none⟩),.agg #[.int .i64 8,.int .i64 (a:Int),.int .i64 (b:Int),.int .i64 c]] w (dw (Cf.exec ⟨8,a,b,c⟩ m) base g A n cp fuel w):=by
 obtain⟨vm,vt,vr,hs⟩:=hP
 obtain⟨M,cm,rfl⟩:=hs.mem.form
 obtain⟨ad,had⟩:=Int.eq_ofNat_of_zero_le (hok.rg (b:Int)).1
 have h65:=(hok.rg (b:Int)).2
 rw[had]at h65
 have c9:w.cell? ⟨g,9,none⟩=some (.slice M m.mem.length cm):=(hs.blk.cell 9).trans (dQ hok.regs 0)
 have cb:w.cell? ⟨g,1+b,none⟩=some (.int .i64 (ad:Int)):=by
  rw[← had,oq]
  exact(hs.blk.cell (1+b)).trans (gX hok.regs b hb)
 have ca:w.cell? ⟨g,1+a,none⟩=some (.int .i64 (m.regs.getD a 0)):=(hs.blk.cell (1+a)).trans (gX hok.regs a ha)
 have fa:=hs.blk.open_ (1+a)
 have hlo:=hs.lo
 have hwz:=hs.blk.lt
 by_cases hlt:ad<m.mem.length
 ·have HS:=hid (show Cf.exec ⟨8,a,b,c⟩ m = .on (m.setR a (m.mem.getD ad 0)) by simp[Cf.exec,had,hlt])
  obtain⟨gm,rfl,hgm,hgm2,_,hcm⟩:=hs.mem.cells (by intro h;rw[h]at hlt;simp at hlt)
  have cx:w.cell? ⟨gm,ad,none⟩=some (.int .i64 (m.mem.getD ad 0)):=hcm ad _ (by rw[List.getD_eq_getElem?_getD,List.getElem?_eq_getElem hlt];rfl)
  obtain⟨z,hz⟩:∃z,z=m.mem.getD ad 0:=⟨_,rfl⟩
  rw[← hz]at cx HS
  have Hs:=hid hs
  clear hs hcm had hz
  go_enter Tryz.func174,Tryz.ntmps174
  go_wp2_with fail
  go_quiet (fail)
  go_wp2_with fail
  go_region
  all_goals go_wp2
  all_goals go_ret
  all_goals
   rw[HS.out]
   exact⟨rfl,PM.setR hok.regs ((Hs.out.alloc _).draw _) a ha z,(below_drewN ((Below.refl base w).alloc (by omega) _) _).setCell (p:=⟨g,1+a,none⟩) hlo _⟩
 ·have HS:=hid (show Cf.exec ⟨8,a,b,c⟩ m = .fin 3 m by simp[Cf.exec,had,hlt])
  have Hs:=hid hs
  clear hs had
  go_enter Tryz.func174,Tryz.ntmps174
  go_wp2_with fail
  go_quiet (fail)
  go_wp2
  go_ret
  rw[HS.out]
  exact⟨rfl,⟨_,_,_,(Hs.out.alloc _).draw _⟩,below_drewN ((Below.refl base w).alloc (by omega) _) _⟩
theorem FB(m:Cf.aZ)(hok:Cf.MOk m)(a b:Nat)(c:Int)(ha:a<8)(hb:b<8)(w:World)(base g:Nat)(A:Option Addr)(n cp:Nat)(fuel:Int)(hP:PM w base g A n cp m fuel):
  Calls Tryz.prog 174 #[.pointer (some ⟨g,0,none⟩),.agg #[.int .i64 9,.int .i64 (a:Int),.int .i64 (b:Int),.int .i64 c]] w (dw (Cf.exec ⟨9,a,b,c⟩ m) base g A n cp fuel w):=by
 obtain⟨vm,vt,vr,hs⟩:=hP
 obtain⟨M,cm,rfl⟩:=hs.mem.form
 obtain⟨ad,had⟩:=Int.eq_ofNat_of_zero_le (hok.rg (b:Int)).1
 have h65:=(hok.rg (b:Int)).2
 rw[had]at h65
 have c9:w.cell? ⟨g,9,none⟩=some (.slice M m.mem.length cm):=(hs.blk.cell 9).trans (dQ hok.regs 0)
 have cb:w.cell? ⟨g,1+b,none⟩=some (.int .i64 (ad:Int)):=by
  rw[← had,oq]
  exact(hs.blk.cell (1+b)).trans (gX hok.regs b hb)
 obtain⟨z,hz⟩:∃z,z=m.rg (a:Int):=⟨_,rfl⟩
 have ca:w.cell? ⟨g,1+a,none⟩=some (.int .i64 z):=by
  rw[hz,oq]
  exact(hs.blk.cell (1+a)).trans (gX hok.regs a ha)
 have hlo:=hs.lo
 have hwz:=hs.blk.lt
 by_cases hlt:ad<m.mem.length
 ·have HS:=hid (show Cf.exec ⟨9,a,b,c⟩ m = .on ⟨m.regs,m.mem.set ad z,m.told,m.back,m.pc⟩ by simp[Cf.exec,had,hlt,hz])
  obtain⟨gm,rfl,hgm,hgm2,hfm,hcm⟩:=hs.mem.cells (by intro h;rw[h]at hlt;simp at hlt)
  have cx:w.cell? ⟨gm,ad,none⟩=some (.int .i64 (m.mem.getD ad 0)):=hcm ad _ (by rw[List.getD_eq_getElem?_getD,List.getElem?_eq_getElem hlt];rfl)
  have fx:w.frozen? ⟨gm,ad,none⟩=false:=(hfm ad).resolve_left (by rw[cx];simp)
  have Hs:=hid hs
  clear hs hcm had hz hfm
  go_enter Tryz.func174,Tryz.ntmps174
  go_wp2_with fail
  go_quiet (fail)
  go_wp2_with fail
  go_region
  all_goals go_wp2
  all_goals go_ret
  all_goals
   rw[HS.out]
   exact⟨rfl,⟨_,_,_,((Hs.out.alloc _).draw _).memSet aY z⟩,(below_drewN ((Below.refl base w).alloc (by omega) _) _).setCell (p:=⟨gm,ad,none⟩) hgm _⟩
 ·have HS:=hid (show Cf.exec ⟨9,a,b,c⟩ m = .fin 3 m by simp[Cf.exec,had,hlt])
  have Hs:=hid hs
  clear hs had hz
  go_enter Tryz.func174,Tryz.ntmps174
  go_wp2_with fail
  go_quiet (fail)
  go_wp2
  go_ret
  rw[HS.out]
  exact⟨rfl,⟨_,_,_,(Hs.out.alloc _).draw _⟩,below_drewN ((Below.refl base w).alloc (by omega) _) _⟩
end
section
open Go.RowKit
section
variable (m:Cf.aZ) (hok:Cf.MOk m) (a b c:Nat) (ha:a<8) (hb:b<8) (w:World) (base g:Nat) (A:Option Addr) (n cp:Nat) (fuel:Int) (hP:PM w base g A n cp m fuel)
include hok ha hP
theorem Cj:
  Calls Tryz.prog 173 #[.pointer (some ⟨g,0,none⟩),.agg #[.int .i64 1,.int .i64 (a:Int),.int .i64 (b:Int),.int .i64 (c:Int)]] w (dw (Cf.exec ⟨1,a,b,c⟩ m) base g A n cp fuel w):=by
 obtain⟨vm,vt,vr,hs⟩:=hP
 have ca:w.cell? ⟨g,1+a,none⟩=some (.int .i64 (m.regs.getD a 0)):=(hs.blk.cell (1+a)).trans (gX hok.regs a ha)
 have fa:=hs.blk.open_ (1+a)
 have hlo:=hs.lo
 have hwz:=hs.blk.lt
 have HS:=hid (show Cf.exec ⟨1,a,b,c⟩ m = .on (m.setR a c) by simp[Cf.exec,Cf.alu])
 have Hs:=hid hs
 clear hs
 go_enter Tryz.func173,Tryz.ntmps173
 go_wp2_with fail
 go_region
 all_goals go_wp2
 all_goals go_ret
 all_goals
  rw[HS.out]
  exact⟨rfl,((PM.setR hok.regs Hs.out a ha c).alloc _).draw 1,(((Below.refl base w).setCell (p:=⟨g,1+a,none⟩) hlo _).alloc (by simp;omega) _).drew⟩
include hb in
theorem Dq:
  Calls Tryz.prog 173 #[.pointer (some ⟨g,0,none⟩),.agg #[.int .i64 8,.int .i64 (a:Int),.int .i64 (b:Int),.int .i64 (c:Int)]] w (dw (Cf.exec ⟨8,a,b,c⟩ m) base g A n cp fuel w):=by
 obtain⟨vm,vt,vr,hs⟩:=hP
 have hwz:=hs.blk.lt
 have hlo:=hs.lo
 have hP1:PM (w.alloc (.cells #[.int .i64 8,.int .i64 (a:Int),.int .i64 (b:Int),.int .i64 (c:Int)] 121)) base g A n cp m fuel:=⟨_,_,_,hs.alloc _⟩
 have hb1:Below base w (w.alloc (.cells #[.int .i64 8,.int .i64 (a:Int),.int .i64 (b:Int),.int .i64 (c:Int)] 121)):=(Below.refl base w).alloc (by omega) _
 clear hs
 go_enter Tryz.func173,Tryz.ntmps173
 go_wp2_with fail
 refine(EJ m hok a b c ha hb _ base g A n cp fuel hP1).mono ?_
 rintro e w1 ⟨rfl,h2,h3⟩
 go_wp2
 go_ret
 exact⟨rfl,h2,hb1.trans h3⟩
include hb in
theorem CQ:
  Calls Tryz.prog 173 #[.pointer (some ⟨g,0,none⟩),.agg #[.int .i64 9,.int .i64 (a:Int),.int .i64 (b:Int),.int .i64 (c:Int)]] w (dw (Cf.exec ⟨9,a,b,c⟩ m) base g A n cp fuel w):=by
 obtain⟨vm,vt,vr,hs⟩:=hP
 have hwz:=hs.blk.lt
 have hlo:=hs.lo
 have hP1:PM (w.alloc (.cells #[.int .i64 9,.int .i64 (a:Int),.int .i64 (b:Int),.int .i64 (c:Int)] 121)) base g A n cp m fuel:=⟨_,_,_,hs.alloc _⟩
 have hb1:Below base w (w.alloc (.cells #[.int .i64 9,.int .i64 (a:Int),.int .i64 (b:Int),.int .i64 (c:Int)] 121)):=(Below.refl base w).alloc (by omega) _
 clear hs
 go_enter Tryz.func173,Tryz.ntmps173
 go_wp2_with fail
 refine(FB m hok a b c ha hb _ base g A n cp fuel hP1).mono ?_
 rintro e w1 ⟨rfl,h2,h3⟩
 go_wp2
 go_ret
 exact⟨rfl,h2,hb1.trans h3⟩
end
theorem PM.setPc{w:World}{base g:Nat}{A:Option Addr}{n cp:Nat}{m:Cf.aZ}{fuel:Int}{vm vt vr:Value}(hr:m.regs.length=8)
  (hs:St w base g 194 (tJ A n cp m.regs vm vt vr m.pc fuel) m.mem m.told m.back vm vt vr) (c:Nat):
  PM (w.setCell ⟨g,12,none⟩ (.int .i64 (c:Int))) base g A n cp ⟨m.regs,m.mem,m.told,m.back,c⟩ fuel:=by
 have h:=hs.put aY 12 (.int .i64 (c:Int))
 rw[show(12:Nat)=9+3 from rfl,jS hr 3]at h
 exact⟨vm,vt,vr,h⟩
section
variable (m:Cf.aZ) (hok:Cf.MOk m) (a b c:Nat) (ha:a<8) (w:World) (base g:Nat) (A:Option Addr) (n cp:Nat) (fuel:Int) (hP:PM w base g A n cp m fuel)
include hok hP
theorem Bg:
  Calls Tryz.prog 173 #[.pointer (some ⟨g,0,none⟩),.agg #[.int .i64 10,.int .i64 (a:Int),.int .i64 (b:Int),.int .i64 (c:Int)]] w (dw (Cf.exec ⟨10,a,b,c⟩ m) base g A n cp fuel w):=by
 obtain⟨vm,vt,vr,hs⟩:=hP
 have c12:w.cell? ⟨g,12,none⟩=some (.int .i64 (m.pc:Int)):=(hs.blk.cell 12).trans (dQ hok.regs 3)
 have f12:=hs.blk.open_ 12
 have hlo:=hs.lo
 have hwz:=hs.blk.lt
 have HS:=hid (show Cf.exec ⟨10,a,b,c⟩ m = .on ⟨m.regs,m.mem,m.told,m.back,c⟩ by simp[Cf.exec])
 have Hs:=hid hs
 clear hs
 go_enter Tryz.func173,Tryz.ntmps173
 go_wp2
 go_ret
 rw[HS.out]
 exact⟨rfl,(PM.setPc hok.regs Hs.out c).alloc _,((Below.refl base w).setCell (p:=⟨g,12,none⟩) hlo _).alloc (by simp;omega) _⟩
include ha in
theorem Dx:
  Calls Tryz.prog 173 #[.pointer (some ⟨g,0,none⟩),.agg #[.int .i64 11,.int .i64 (a:Int),.int .i64 (b:Int),.int .i64 (c:Int)]] w (dw (Cf.exec ⟨11,a,b,c⟩ m) base g A n cp fuel w):=by
 obtain⟨vm,vt,vr,hs⟩:=hP
 have c12:w.cell? ⟨g,12,none⟩=some (.int .i64 (m.pc:Int)):=(hs.blk.cell 12).trans (dQ hok.regs 3)
 have f12:=hs.blk.open_ 12
 have hlo:=hs.lo
 have hwz:=hs.blk.lt
 obtain⟨z,hz⟩:∃z,z=m.rg (a:Int):=⟨_,rfl⟩
 have ca:w.cell? ⟨g,1+a,none⟩=some (.int .i64 z):=by
  rw[hz,oq]
  exact(hs.blk.cell (1+a)).trans (gX hok.regs a ha)
 by_cases h0:z=0
 ·have HS:=hid (show Cf.exec ⟨11,a,b,c⟩ m = .on ⟨m.regs,m.mem,m.told,m.back,c⟩ by simp[Cf.exec,← hz,h0])
  have h0':(z == 0)=true:=by rw[beq_iff_eq];exact h0
  have Hs:=hid hs
  clear hs h0 hz
  go_enter Tryz.func173,Tryz.ntmps173
  go_wp2_with fail
  go_quiet (fail)
  go_wp2
  go_ret
  rw[HS.out]
  exact⟨rfl,PM.setPc hok.regs ((Hs.out.alloc _).draw _) c,(below_drewN ((Below.refl base w).alloc (by omega) _) _).setCell (p:=⟨g,12,none⟩) hlo _⟩
 ·have HS:=hid (show Cf.exec ⟨11,a,b,c⟩ m = .on m by simp[Cf.exec,← hz,h0])
  have h0':(z == 0)=false:=by rw[beq_eq_false_iff_ne];exact h0
  have Hs:=hid hs
  clear hs h0 hz
  go_enter Tryz.func173,Tryz.ntmps173
  go_wp2_with fail
  go_quiet (fail)
  go_wp2
  go_ret
  rw[HS.out]
  exact⟨rfl,⟨_,_,_,(Hs.out.alloc _).draw _⟩,below_drewN ((Below.refl base w).alloc (by omega) _) _⟩
end
end
section
open Go.RowKit
section
variable (m:Cf.aZ) (hok:Cf.MOk m) (a b c:Nat) (ha:a<8) (hb:b<8) (hc:c<8) (w:World) (base g:Nat) (A:Option Addr) (n cp:Nat) (fuel:Int) (hP:PM w base g A n cp m fuel)
include hok hP
theorem y9:
  Calls Tryz.prog 173 #[.pointer (some ⟨g,0,none⟩),.agg #[.int .i64 12,.int .i64 (a:Int),.int .i64 (b:Int),.int .i64 (c:Int)]] w (dw (Cf.exec ⟨12,a,b,c⟩ m) base g A n cp fuel w):=by
 have hwz:g<w.heap.size:=by obtain⟨vm,vt,vr,hs⟩:=hP;exact hs.blk.lt
 have hlo:base≤g:=by obtain⟨vm,vt,vr,hs⟩:=hP;exact hs.lo
 have HS:=hid (show Cf.exec ⟨12,a,b,c⟩ m=uB m c by simp[Cf.exec,uB])
 go_enter Tryz.func173,Tryz.ntmps173
 go_wp2_with fail
 refine(Je m hok c _ base g A n cp fuel (hP.alloc _)).mono ?_
 rintro e w1 ⟨rfl,h2,h3⟩
 go_wp2
 go_ret
 rw[HS.out]
 exact⟨rfl,h2,((Below.refl base w).alloc (by omega) _).trans h3⟩
theorem Bz:
  Calls Tryz.prog 173 #[.pointer (some ⟨g,0,none⟩),.agg #[.int .i64 13,.int .i64 (a:Int),.int .i64 (b:Int),.int .i64 (c:Int)]] w (dw (Cf.exec ⟨13,a,b,c⟩ m) base g A n cp fuel w):=by
 have hwz:g<w.heap.size:=by obtain⟨vm,vt,vr,hs⟩:=hP;exact hs.blk.lt
 have hlo:base≤g:=by obtain⟨vm,vt,vr,hs⟩:=hP;exact hs.lo
 have HS:=hid (show Cf.exec ⟨13,a,b,c⟩ m=wF m by simp[Cf.exec,wF])
 go_enter Tryz.func173,Tryz.ntmps173
 go_wp2_with fail
 refine(Jl m hok _ base g A n cp fuel (hP.alloc _)).mono ?_
 rintro e w1 ⟨rfl,h2,h3⟩
 go_wp2
 go_ret
 rw[HS.out]
 exact⟨rfl,h2,((Below.refl base w).alloc (by omega) _).trans h3⟩
omit hok in
theorem yT:
  Calls Tryz.prog 173 #[.pointer (some ⟨g,0,none⟩),.agg #[.int .i64 15,.int .i64 (a:Int),.int .i64 (b:Int),.int .i64 (c:Int)]] w (dw (Cf.exec ⟨15,a,b,c⟩ m) base g A n cp fuel w):=by
 have hwz:g<w.heap.size:=by obtain⟨vm,vt,vr,hs⟩:=hP;exact hs.blk.lt
 have hlo:base≤g:=by obtain⟨vm,vt,vr,hs⟩:=hP;exact hs.lo
 have HS:=hid (show Cf.exec ⟨15,a,b,c⟩ m = .fin 1 m by simp[Cf.exec])
 go_enter Tryz.func173,Tryz.ntmps173
 go_wp2
 go_ret
 rw[HS.out]
 exact⟨rfl,hP.alloc _,(Below.refl base w).alloc (by omega) _⟩
include ha
theorem yM:
  Calls Tryz.prog 173 #[.pointer (some ⟨g,0,none⟩),.agg #[.int .i64 14,.int .i64 (a:Int),.int .i64 (b:Int),.int .i64 (c:Int)]] w (dw (Cf.exec ⟨14,a,b,c⟩ m) base g A n cp fuel w):=by
 have hwz:g<w.heap.size:=by obtain⟨vm,vt,vr,hs⟩:=hP;exact hs.blk.lt
 have hlo:base≤g:=by obtain⟨vm,vt,vr,hs⟩:=hP;exact hs.lo
 obtain⟨z,hz⟩:∃z,z=m.rg (a:Int):=⟨_,rfl⟩
 have ca:w.cell? ⟨g,1+a,none⟩=some (.int .i64 z):=by
  obtain⟨vm,vt,vr,hs⟩:=hP
  rw[hz,oq]
  exact(hs.blk.cell (1+a)).trans (gX hok.regs a ha)
 have HS:=hid (show Cf.exec ⟨14,a,b,c⟩ m=vU m z by simp[Cf.exec,vU,hz])
 clear hz
 go_enter Tryz.func173,Tryz.ntmps173
 go_wp2_with fail
 have q1:(w.alloc (.cells #[.int .i64 14,.int .i64 (a:Int),.int .i64 (b:Int),.int .i64 (c:Int)] 121)).cell? ⟨w.heap.size,1,none⟩=some (.int .i64 (a:Int)):=by simp
 have q2:(w.alloc (.cells #[.int .i64 14,.int .i64 (a:Int),.int .i64 (b:Int),.int .i64 (c:Int)] 121)).cell? ⟨g,1+a,none⟩=some (.int .i64 z):=(World.cell?_alloc_lt _ _ _ hwz).trans ca
 have hP1:=hid (hP.alloc (.cells #[.int .i64 14,.int .i64 (a:Int),.int .i64 (b:Int),.int .i64 (c:Int)] 121))
 have hB1:=hid ((Below.refl base w).alloc (by omega) (.cells #[.int .i64 14,.int .i64 (a:Int),.int .i64 (b:Int),.int .i64 (c:Int)] 121))
 generalize w.alloc (.cells #[.int .i64 14,.int .i64 (a:Int),.int .i64 (b:Int),.int .i64 (c:Int)] 121)=w1 at *
 clear hP ca
 have ia:(a:Int)<8:=by omega
 go_still_tail 8,(by kernel_rfl)
 change wpList _ _ _ _ _ w1.drew
 have hP2:=hid (hP1.out.draw 1)
 have hB2:=hid hB1.out.drew
 change Hid (PM w1.drew base g A n cp m fuel)at hP2
 clear hP1 hB1 q1 q2
 generalize w1.drew=w2 at *
 go_wp2_with fail
 refine(Gy m hok z _ base g A n cp fuel hP2.out).mono ?_
 rintro e w3 ⟨rfl,h2,h3⟩
 go_wp2
 go_ret
 rw[HS.out]
 exact⟨rfl,h2,hB2.out.trans h3⟩
include hb hc
theorem Bj(op:Int)(h1:2≤op)(h7:op≤7):
  Calls Tryz.prog 173 #[.pointer (some ⟨g,0,none⟩),.agg #[.int .i64 op,.int .i64 (a:Int),.int .i64 (b:Int),.int .i64 (c:Int)]] w (dw (Cf.exec ⟨op,a,b,c⟩ m) base g A n cp fuel w):=by
 obtain⟨vm,vt,vr,hs⟩:=hP
 have hwz:=hs.blk.lt
 have hlo:=hs.lo
 have hB:=hok.rg (b:Int)
 have hC:=hok.rg (c:Int)
 obtain⟨x,hx⟩:∃z,z=m.rg (b:Int):=⟨_,rfl⟩
 obtain⟨y,hy⟩:∃z,z=m.rg (c:Int):=⟨_,rfl⟩
 have cb:w.cell? ⟨g,1+b,none⟩=some (.int .i64 x):=by
  rw[hx,oq]
  exact(hs.blk.cell (1+b)).trans (gX hok.regs b hb)
 have cc:w.cell? ⟨g,1+c,none⟩=some (.int .i64 y):=by
  rw[hy,oq]
  exact(hs.blk.cell (1+c)).trans (gX hok.regs c hc)
 have ca:w.cell? ⟨g,1+a,none⟩=some (.int .i64 (m.regs.getD a 0)):=(hs.blk.cell (1+a)).trans (gX hok.regs a ha)
 have fa:=hs.blk.open_ (1+a)
 rw[← hx]at hB
 rw[← hy]at hC
 obtain⟨hx1,hB2⟩:=hB
 obtain⟨hC1,hC2⟩:=hC
 have HS:=hid (show Cf.exec ⟨op,a,b,c⟩ m = .on (m.setR a (Cf.alu op x y c)) by simp[Cf.exec,h7,hx,hy])
 have Hs:=hid hs
 have e1:(op == 1)=false:=by rw[beq_eq_false_iff_ne];omega
 have e8:(op == 8)=false:=by rw[beq_eq_false_iff_ne];omega
 have e9:(op == 9)=false:=by rw[beq_eq_false_iff_ne];omega
 clear hs hx hy
 go_enter Tryz.func173,Tryz.ntmps173
 go_wp2_with fail
 have hwz1:g<(w.alloc (.cells #[.int .i64 op,.int .i64 (a:Int),.int .i64 (b:Int),.int .i64 (c:Int)] 121)).heap.size:=by simp;omega
 have q0:(w.alloc (.cells #[.int .i64 op,.int .i64 (a:Int),.int .i64 (b:Int),.int .i64 (c:Int)] 121)).cell? ⟨w.heap.size,0,none⟩=some (.int .i64 op):=by simp
 have q1:(w.alloc (.cells #[.int .i64 op,.int .i64 (a:Int),.int .i64 (b:Int),.int .i64 (c:Int)] 121)).cell? ⟨w.heap.size,1,none⟩=some (.int .i64 (a:Int)):=by simp
 have q2:(w.alloc (.cells #[.int .i64 op,.int .i64 (a:Int),.int .i64 (b:Int),.int .i64 (c:Int)] 121)).cell? ⟨w.heap.size,2,none⟩=some (.int .i64 (b:Int)):=by simp
 have q3:(w.alloc (.cells #[.int .i64 op,.int .i64 (a:Int),.int .i64 (b:Int),.int .i64 (c:Int)] 121)).cell? ⟨w.heap.size,3,none⟩=some (.int .i64 (c:Int)):=by simp
 have qa:=(World.cell?_alloc_lt w (.cells #[.int .i64 op,.int .i64 (a:Int),.int .i64 (b:Int),.int .i64 (c:Int)] 121) ⟨g,1+a,none⟩ hwz).trans ca
 have qb:=(World.cell?_alloc_lt w (.cells #[.int .i64 op,.int .i64 (a:Int),.int .i64 (b:Int),.int .i64 (c:Int)] 121) ⟨g,1+b,none⟩ hwz).trans cb
 have qc:=(World.cell?_alloc_lt w (.cells #[.int .i64 op,.int .i64 (a:Int),.int .i64 (b:Int),.int .i64 (c:Int)] 121) ⟨g,1+c,none⟩ hwz).trans cc
 have hs1:=Hs.out.alloc (.cells #[.int .i64 op,.int .i64 (a:Int),.int .i64 (b:Int),.int .i64 (c:Int)] 121)
 have qf:=hs1.blk.open_ (1+a)
 have hB1:=hid ((Below.refl base w).alloc (by omega) (.cells #[.int .i64 op,.int .i64 (a:Int),.int .i64 (b:Int),.int .i64 (c:Int)] 121))
 have Hs1:=hid hs1
 clear hs1 Hs ca cb cc fa
 generalize w.alloc (.cells #[.int .i64 op,.int .i64 (a:Int),.int .i64 (b:Int),.int .i64 (c:Int)] 121)=w1 at *
 have ia:(a:Int)<8:=by omega
 have ib:(b:Int)<8:=by omega
 have ic:(c:Int)<8:=by omega
 refine wp_region_still_tail 22 (by kernel_rfl) (by kernel_rfl) ?_
 simp only[List.take_succ_cons,List.take_zero,List.drop_succ_cons,List.drop_zero]
 iterate 19 still_step
 still_call ((AC op x y c _ h1 h7 ⟨hx1,hB2⟩ ⟨hC1,hC2⟩).mono fun e w' ⟨he,hw⟩=>⟨he,hw.symm⟩)
 iterate 2 still_step
 refine wpStill_nil ?_
 change wpList _ _ _ _ _ w1.drew
 go_wp2
 go_ret
 rw[HS.out]
 exact⟨rfl,(PM.setR hok.regs Hs1.out a ha _).draw 1,(hB1.out.setCell (p:=⟨g,1+a,none⟩) hlo _).drew⟩
end
end
section
open Go.RowKit
theorem AP(x:Cf.Ins)(hx:Cf.chk x=0)(m:Cf.aZ)(hok:Cf.MOk m)(w:World)(base g:Nat)(A:Option Addr)(n cp:Nat)(fuel:Int)(hP:PM w base g A n cp m fuel):
  Calls Tryz.prog 173 #[.pointer (some ⟨g,0,none⟩),.agg #[.int .i64 x.op,.int .i64 x.a,.int .i64 x.b,.int .i64 x.c]] w (dw (Cf.exec x m) base g A n cp fuel w):=by
 obtain⟨ho,hA,hB,hC,hj,h7⟩:=Cf.oO x hx
 obtain⟨op,xa,xb,xc⟩:=x
 dsimp only at ho hA hB hC hj h7 ⊢
 obtain⟨a,rfl⟩:=Int.eq_ofNat_of_zero_le hA.1
 obtain⟨b,rfl⟩:=Int.eq_ofNat_of_zero_le hB.1
 obtain⟨c,rfl⟩:=Int.eq_ofNat_of_zero_le hC.1
 have ha:a<8:=by omega
 have hb:b<8:=by omega
 by_cases halu:2≤op∧op≤7
 ·exact Bj m hok a b c ha hb (by have:=h7 (by omega);omega) w base g A n cp fuel hP op halu.1 halu.2
 ·have h9:op=1∨op=8∨op=9∨op=10∨op=11∨op=12∨op=13∨op=14∨op=15:=by omega
  rcases h9 with rfl|rfl|rfl|rfl|rfl|rfl|rfl|rfl|rfl
  ·exact Cj m hok a b c ha w base g A n cp fuel hP
  ·exact Dq m hok a b c ha hb w base g A n cp fuel hP
  ·exact CQ m hok a b c ha hb w base g A n cp fuel hP
  ·exact Bg m hok a b c w base g A n cp fuel hP
  ·exact Dx m hok a b c ha w base g A n cp fuel hP
  ·exact y9 m hok a b c w base g A n cp fuel hP
  ·exact Bz m hok a b c w base g A n cp fuel hP
  ·exact yM m hok a b c ha w base g A n cp fuel hP
  ·exact yT m a b c w base g A n cp fuel hP
theorem FI(m:Cf.aZ)(hok:Cf.MOk m)(w:World)(base g:Nat)(A:Option Addr)(n cp:Nat)(hP:PM w base g A n cp m 0):
  Calls Tryz.prog 171 #[.pointer (some ⟨g,0,none⟩)] w (dw (.fin 2 m) base g A n cp 0 w):=by
 have c13:w.cell? ⟨g,13,none⟩=some (.int .i64 0):=by
  obtain⟨vm,vt,vr,hs⟩:=hP
  exact(hs.blk.cell 13).trans (dQ hok.regs 4)
 go_enter Tryz.func171,Tryz.ntmps171
 go_wp2
 go_ret
 exact⟨rfl,hP,Below.refl _ _⟩
theorem PM.setFuel{w:World}{base g:Nat}{A:Option Addr}{n cp:Nat}{m:Cf.aZ}{fuel:Int}{vm vt vr:Value}(hr:m.regs.length=8)
  (hs:St w base g 194 (tJ A n cp m.regs vm vt vr m.pc fuel) m.mem m.told m.back vm vt vr) (z:Int):
  St (w.setCell ⟨g,13,none⟩ (.int .i64 z)) base g 194 (tJ A n cp m.regs vm vt vr m.pc z) m.mem m.told m.back vm vt vr:=by
 have h:=hs.put aY 13 (.int .i64 z)
 rw[show(13:Nat)=9+4 from rfl,jS hr 4]at h
 exact h
theorem FX(l:List Cf.Ins)(hz:Cf.bD l=0)(hl:l.length≤200)(m:Cf.aZ)(hok:Cf.MOk m)(k:Nat)(hk:k<20000)(w0 w:World)(g:Nat)(A:Option Addr)(cp:Nat)(hC:bP w0 A l)(hb0:Below w0.heap.size w0 w)(hP:PM w w0.heap.size g A l.length cp m ((k:Int)+1)):
  Calls Tryz.prog 171 #[.pointer (some ⟨g,0,none⟩)] w (dw (Cf.step l m) w0.heap.size g A l.length cp k w):=by
 obtain⟨vm,vt,vr,hs⟩:=hP
 have hwz:=hs.blk.lt
 have hlo:=hs.lo
 have hpc:=hok.pc
 have c0:w.cell? ⟨g,0,none⟩=some (.slice A l.length cp):=hs.blk.cell 0
 have c12:w.cell? ⟨g,12,none⟩=some (.int .i64 (m.pc:Int)):=(hs.blk.cell 12).trans (dQ hok.regs 3)
 have c13:w.cell? ⟨g,13,none⟩=some (.int .i64 ((k:Int)+1)):=(hs.blk.cell 13).trans (dQ hok.regs 4)
 have f12:=hs.blk.open_ 12
 have f13:=hs.blk.open_ 13
 have hs1:=PM.setFuel hok.regs hs k
 have Hs1:=hid hs1
 have hB1:=hid ((Below.refl w0.heap.size w).setCell (p:=⟨g,13,none⟩) hlo (.int .i64 (k:Int)))
 clear hs
 by_cases hlt:m.pc<l.length
 ·obtain⟨op,a,b',c',hx⟩:∃op a b' c',l[m.pc]?=some ⟨op,a,b',c'⟩:=⟨_,_,_,_,List.getElem?_eq_getElem hlt⟩
  have HS:=hid (show Cf.step l m=Cf.exec ⟨op,a,b',c'⟩ ⟨m.regs,m.mem,m.told,m.back,m.pc+1⟩ by unfold Cf.step;rw[hx])
  have hck:=Cf.lQ l hz m.pc _ hx
  rcases hC with rfl|⟨b,off,rfl,hbw,hc⟩
  ·simp at hlt
  have NV:b<w.heap.size:=Nat.lt_of_lt_of_le hbw hb0.size
  have hbg:b≠g:=by omega
  have d0:w.cell? ⟨b,off+m.pc*4,none⟩=some (.int .i64 op):=(hb0.cell hbw).trans (hc m.pc _ hx 0 _ rfl)
  have d1:w.cell? ⟨b,off+m.pc*4+1,none⟩=some (.int .i64 a):=(hb0.cell hbw).trans (hc m.pc _ hx 1 _ rfl)
  have d2:w.cell? ⟨b,off+m.pc*4+2,none⟩=some (.int .i64 b'):=(hb0.cell hbw).trans (hc m.pc _ hx 2 _ rfl)
  have d3:w.cell? ⟨b,off+m.pc*4+3,none⟩=some (.int .i64 c'):=(hb0.cell hbw).trans (hc m.pc _ hx 3 _ rfl)
  have Hck:=hid hck
  clear hx hc hck hs1
  go_enter Tryz.func171,Tryz.ntmps171
  go_wp2_with fail
  go_quiet (fail)
  go_wp2_with fail
  go_region
  all_goals go_wp2_with fail
  have hok1:Cf.MOk ⟨m.regs,m.mem,m.told,m.back,m.pc+1⟩:=⟨hok.regs,hok.words,hok.mem,hok.told,hok.toldW,hok.back,hok.backs,by show m.pc+1≤200;omega⟩
  have hP2:=(PM.setPc hok.regs (Hs1.out.draw (nq+1)) (m.pc+1)).alloc (.cells #[.int .i64 op,.int .i64 a,.int .i64 b',.int .i64 c'] 121)
  rw[show((m.pc+1:Nat):Int)=(m.pc:Int)+1 by omega]at hP2
  refine(AP ⟨op,a,b',c'⟩ Hck.out _ hok1 _ _ g _ _ cp k hP2).mono ?_
  rintro e w1 ⟨rfl,h2,h3⟩
  go_wp2
  go_ret
  rw[HS.out]
  exact⟨rfl,h2,(((below_drewN hB1.out _).setCell (p:=⟨g,12,none⟩) hlo _).alloc (by simp;omega) _).trans h3⟩
 ·have HS:=hid (show Cf.step l m = .fin 3 m by unfold Cf.step;rw[List.getElem?_eq_none (by omega)])
  clear hs1 hC
  go_enter Tryz.func171,Tryz.ntmps171
  go_wp2_with fail
  go_quiet (fail)
  go_wp2
  go_ret
  rw[HS.out]
  exact⟨rfl,⟨_,_,_,Hs1.out.draw _⟩,below_drewN hB1.out _⟩
end
section
open Go.RowKit
theorem vG(v:Int)(w:World):
  Calls Tryz.prog 172 #[.int .i64 v] w fun e w'=>e = .returned (.bool (!Cf.aV v))∧w=w':=by
 by_cases h1:v<0
 ·go_enter Tryz.func172,Tryz.ntmps172
  go_wp2
  go_ret
  exact⟨by simp[Cf.aV,Cf.inB,h1],rfl⟩
 ·by_cases h2:65535<v
  ·go_enter Tryz.func172,Tryz.ntmps172
   go_wp2
   go_ret
   exact⟨by simp[Cf.aV,Cf.inB,h2],rfl⟩
  ·go_enter Tryz.func172,Tryz.ntmps172
   go_wp2
   go_ret
   exact⟨by simp[Cf.aV,Cf.inB,h1,h2],rfl⟩
def J6(l:List Int)(w:World)(e:Ending)(w':World):Prop:=∃z:Int,e = .returned (.int .i64 z)∧decide (0≤z) = !l.all Cf.aV∧w=w'
theorem wR(l:List Int)(A:Option Addr)(cap:Nat)(w:World)(hI:Ints w A l)(hm:l.length≤maxLen):
  Calls Tryz.prog 86 #[.slice A l.length cap,.func (.func 172) #[] #[]] w (J6 l w):=by
 unfold maxLen at hm
 by_cases hl:l=[]
 ·subst hl
  go_enter Tryz.func86,Tryz.ntmps86
  go_wp2
  refine wp_loop_rounds 1 ?_
  rw[rounds_succ]
  go_wp2
  go_ret
  exact⟨-1,rfl,rfl,rfl⟩
 ·obtain⟨b,off,rfl,hb,hc⟩:=hI.at_ hl
  have Hc:=hid hc
  clear hc
  go_enter Tryz.func86,Tryz.ntmps86
  go_wp2
  go_loop [8] (fun i=>∃k:Nat,k≤l.length∧i = .int .i64 k∧(l.take k).all Cf.aV=true) (fun i=>l.length-(intOf i).toNat)
  case atStart=>exact⟨0,by omega,rfl,rfl⟩
  case round=>
   obtain⟨k,hk,rfl,hall⟩:=hrel
   have aX:=hid hall
   clear hall
   by_cases hlt:k<l.length
   ·obtain⟨z,hz⟩:∃z,l[k]?=some z:=⟨_,List.getElem?_eq_getElem hlt⟩
    have c:=Hc.out k z hz
    have Hz:=hid hz
    clear hz
    cases hw:Cf.aV z
    ·have HB:=hid (y5 l k z Hz.out hw)
     go_wp2_with fail
     refine(vG z _).mono ?_
     rintro e w1 ⟨rfl,rfl⟩
     rw[hw]
     go_wp2
     go_ret
     exact⟨k,rfl,by rw[HB.out];simp,rfl⟩
    ·have HA:=hid (Ci l k z Hz.out aX.out hw)
     go_wp2_with fail
     refine(vG z _).mono ?_
     rintro e w1 ⟨rfl,rfl⟩
     rw[hw]
     go_wp2
     go_round
     case rel=>exact⟨k+1,by omega,by go_num,HA.out⟩
     case measure=>simp[intOf];omega
   ·have HA:=hid (show l.all Cf.aV=true by have:=aX.out;rwa [List.take_of_length_le (by omega)]at this)
    go_wp2
    go_ret
    exact⟨-1,rfl,by rw[HA.out];rfl,rfl⟩
theorem jO(l:List Int)(A:Option Addr)(cap:Nat)(w:World)(hI:Ints w A l)(hm:l.length≤maxLen):
  Calls Tryz.prog 53 #[.slice A l.length cap,.func (.func 172) #[] #[]] w fun e w'=>e = .returned (.bool (!l.all Cf.aV))∧w=w':=by
 have H:=hid (wR l A cap w hI hm)
 go_enter Tryz.func53,Tryz.ntmps53
 go_wp2_with fail
 refine H.out.mono ?_
 rintro e w1 ⟨z,rfl,hz,rfl⟩
 have HZ:=hid hz
 clear hz
 go_wp2
 go_ret
 exact⟨by rw[← HZ.out];rfl,rfl⟩
end
section
open Go.RowKit
def Cf.jA(l:List Cf.Ins)(regs mem:List Int)(fuel:Int):Int:=
 if Cf.fault l=0 then(if mem.length≤1024 then(if Cf.inB fuel 0 20000 && (regs.all Cf.aV && mem.all Cf.aV) then 0 else 2) else 1) else Cf.fault l
theorem Fp(l:List Cf.Ins)(A:Option Addr)(cl:Nat)(r0 r1 r2 r3 r4 r5 r6 r7:Int)(mem:List Int)(M:Option Addr)(cm:Nat)(fuel:Int)(w:World)
  (hC:bP w A l) (hL:jW w) (hF:kL w) (hl:l.length≤maxLen) (hI:Ints w M mem) (hm:mem.length≤maxLen):
  Calls Tryz.prog 170 #[.slice A l.length cl,.agg #[.int .i64 r0,.int .i64 r1,.int .i64 r2,.int .i64 r3,.int .i64 r4,.int .i64 r5,.int .i64 r6,.int .i64 r7],.slice M mem.length cm,.int .i64 fuel] w
   fun e w'=>e = .returned (.int .i64 (Cf.jA l [r0,r1,r2,r3,r4,r5,r6,r7] mem fuel))∧Below w.heap.size w w':=by
 have hm':=hm
 unfold maxLen at hm'
 obtain⟨o,ho⟩:∃o:Obj,o = .cells #[.int .i64 r0,.int .i64 r1,.int .i64 r2,.int .i64 r3,.int .i64 r4,.int .i64 r5,.int .i64 r6,.int .i64 r7] 171:=⟨_,rfl⟩
 have hb1:Below w.heap.size w (w.alloc o):=(Below.refl _ _).alloc (Nat.le_refl _) _
 have hwr:Wb (w.alloc o) w.heap.size 171 ([r0,r1,r2,r3,r4,r5,r6,r7].map (Value.int .i64)):=by
  rw[ho]
  exact Wb.new w 171 ([r0,r1,r2,r3,r4,r5,r6,r7].map (Value.int .i64))
 have HCk:=hid (check_any l A cl (w.alloc o) (hC.below hb1) (hL.below hb1) (hF.below hb1) hl)
 have hz1:w.heap.size<(w.alloc o).heap.size:=by simp
 have Ho:=hid ho
 clear ho
 by_cases hf:Cf.fault l=0
 ·rw[hf]at HCk
  by_cases hml:1024<mem.length
  ·have HE:=hid (show Cf.jA l [r0,r1,r2,r3,r4,r5,r6,r7] mem fuel=1 by unfold Cf.jA;rw[if_pos hf,if_neg (by omega)])
   clear hf
   go_enter Tryz.func170,Tryz.ntmps170
   go_wp2_with fail
   rw[← Ho.out]
   refine HCk.out.mono ?_
   rintro e w1 ⟨rfl,hb2⟩
   have hb3:=hb1.trans (hb2.mono (by simp))
   clear hb1 hb2 hwr
   go_wp2
   go_ret
   exact⟨by rw[HE.out];rfl,hb3⟩
  ·by_cases hfu:fuel<0∨20000<fuel
   ·have HE:=hid (show Cf.jA l [r0,r1,r2,r3,r4,r5,r6,r7] mem fuel=2 by unfold Cf.jA;rw[if_pos hf,if_pos (by omega),if_neg];simp[Cf.inB];omega)
    clear hf
    rcases hfu with hfu|hfu
    ·go_enter Tryz.func170,Tryz.ntmps170
     go_wp2_with fail
     rw[← Ho.out]
     refine HCk.out.mono ?_
     rintro e w1 ⟨rfl,hb2⟩
     have hb3:=hb1.trans (hb2.mono (by simp))
     clear hb1 hb2 hwr
     go_wp2
     go_ret
     exact⟨by rw[HE.out];rfl,hb3⟩
    ·have OG:¬fuel<0:=by omega
     go_enter Tryz.func170,Tryz.ntmps170
     go_wp2_with fail
     rw[← Ho.out]
     refine HCk.out.mono ?_
     rintro e w1 ⟨rfl,hb2⟩
     have hb3:=hb1.trans (hb2.mono (by simp))
     clear hb1 hb2 hwr
     go_wp2
     go_ret
     exact⟨by rw[HE.out];rfl,hb3⟩
   ·have OA:¬fuel<0:=by omega
    have hfu2:¬20000<fuel:=by omega
    have hIn:Cf.inB fuel 0 20000=true:=by simp[Cf.inB];omega
    clear hfu
    cases hr:[r0,r1,r2,r3,r4,r5,r6,r7].all Cf.aV
    ·have HE:=hid (show Cf.jA l [r0,r1,r2,r3,r4,r5,r6,r7] mem fuel=2 by unfold Cf.jA;rw[if_pos hf,if_pos (by omega),if_neg];rw[hr];simp)
     have Hr:=hid hr
     clear hf hIn hr
     go_enter Tryz.func170,Tryz.ntmps170
     go_wp2_with fail
     rw[← Ho.out]
     refine HCk.out.mono ?_
     rintro e w1 ⟨rfl,hb2⟩
     have hb3:=hb1.trans (hb2.mono (by simp))
     have Ha:=hwr.below hb2 hz1
     have hI8:Ints w1 (some ⟨w.heap.size,0,none⟩) [r0,r1,r2,r3,r4,r5,r6,r7]:=Ha.ints
     have HC:=hid (jO _ _ 8 w1 hI8 (by unfold maxLen;simp))
     rw[Hr.out]at HC
     clear hb1 hb2 hwr Ha hI8
     go_wp2_with fail
     refine HC.out.mono ?_
     rintro e w2 ⟨rfl,rfl⟩
     go_wp2
     go_ret
     exact⟨by rw[HE.out];rfl,hb3⟩
    ·have HE:=hid (show Cf.jA l [r0,r1,r2,r3,r4,r5,r6,r7] mem fuel=if mem.all Cf.aV=true then 0 else 2 by unfold Cf.jA;rw[if_pos hf,if_pos (by omega),hr,hIn];rfl)
     have Hr:=hid hr
     clear hf hIn hr
     go_enter Tryz.func170,Tryz.ntmps170
     go_wp2_with fail
     rw[← Ho.out]
     refine HCk.out.mono ?_
     rintro e w1 ⟨rfl,hb2⟩
     have hb3:=hb1.trans (hb2.mono (by simp))
     have Ha:=hwr.below hb2 hz1
     have hI8:Ints w1 (some ⟨w.heap.size,0,none⟩) [r0,r1,r2,r3,r4,r5,r6,r7]:=Ha.ints
     have HC:=hid (jO _ _ 8 w1 hI8 (by unfold maxLen;simp))
     have HD:=hid (jO mem M cm w1 (hI.below hb3) hm)
     rw[Hr.out]at HC
     clear hb1 hb2 hwr Ha hI8
     go_wp2_with fail
     refine HC.out.mono ?_
     rintro e w2 ⟨rfl,rfl⟩
     go_wp2_with fail
     refine HD.out.mono ?_
     rintro e w2 ⟨rfl,rfl⟩
     cases hma:mem.all Cf.aV
     ·have HE2:=hid (show Cf.jA l [r0,r1,r2,r3,r4,r5,r6,r7] mem fuel=2 by rw[HE.out,hma];rfl)
      clear HC HD
      go_wp2
      go_ret
      exact⟨by rw[HE2.out];rfl,hb3⟩
     ·have HE2:=hid (show Cf.jA l [r0,r1,r2,r3,r4,r5,r6,r7] mem fuel=0 by rw[HE.out,hma];rfl)
      clear HC HD
      go_wp2
      go_ret
      exact⟨by rw[HE2.out];rfl,hb3⟩
 ·have HE:=hid (show Cf.jA l [r0,r1,r2,r3,r4,r5,r6,r7] mem fuel=Cf.fault l by unfold Cf.jA;rw[if_neg hf])
  have hq:(Cf.fault l != 0)=true:=by rw[bne_iff_ne];exact hf
  clear hf
  go_enter Tryz.func170,Tryz.ntmps170
  go_wp2_with fail
  rw[← Ho.out]
  refine HCk.out.mono ?_
  rintro e w1 ⟨rfl,hb2⟩
  have hb3:=hb1.trans (hb2.mono (by simp))
  clear hb1 hb2 hwr
  go_wp2
  go_ret
  exact⟨by rw[HE.out];rfl,hb3⟩
end
section
open Go.RowKit
end
end Go.Proofs.YtnnhhbjbdmgpiaaGreatDoor
