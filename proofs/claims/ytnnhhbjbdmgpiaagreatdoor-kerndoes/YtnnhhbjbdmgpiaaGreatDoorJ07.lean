/- Texts of the proofs: CpuA. -/
import Derived.Test.YtnnhhbjbdmgpiaaGreatDoorJ02
set_option linter.unusedSimpArgs false
set_option linter.unusedVariables false
namespace Go.Proofs.YtnnhhbjbdmgpiaaGreatDoor
set_option maxRecDepth 100000
set_option maxHeartbeats 4000000
open Lib (hid)
section
open Go.RowKit
theorem AC(op x y c:Int)(w:World)(h1:2≤op)(h2:op≤7)(hx:0≤x∧x≤65535)(hy:0≤y∧y≤65535):
  Calls Tryz.prog 178 #[.int .i64 op,.int .i64 x,.int .i64 y] w fun e w'=>e = .returned (.int .i64 (Cf.alu op x y c))∧w=w':=by
 have h:op=2∨op=3∨op=4∨op=5∨op=6∨op=7:=by omega
 obtain⟨hx1,hx2⟩:=hx
 obtain⟨hy1,hy2⟩:=hy
 rcases h with rfl|rfl|rfl|rfl|rfl|rfl
 ·go_enter Tryz.func178,Tryz.ntmps178
  go_wp2
  go_ret
  exact⟨by rw[Af];rfl,rfl⟩
 ·go_enter Tryz.func178,Tryz.ntmps178
  go_wp2
  go_ret
  refine⟨?_,rfl⟩
  rw[Af,show Cf.alu 3 x y c=(x+65536-y) % 65536 from rfl,show(x+65536-y) % 65536=(x-y) % 65536 by omega]
  rfl
 ·go_enter Tryz.func178,Tryz.ntmps178
  go_wp2
  go_ret
  exact⟨by rw[Ah x y ⟨hx1,hx2⟩ ⟨hy1,hy2⟩];rfl,rfl⟩
 ·go_enter Tryz.func178,Tryz.ntmps178
  go_wp2
  go_ret
  exact⟨by rw[Ee x y ⟨hx1,hx2⟩ ⟨hy1,hy2⟩];rfl,rfl⟩
 ·go_enter Tryz.func178,Tryz.ntmps178
  go_wp2
  go_ret
  exact⟨by rw[zD x y ⟨hx1,hx2⟩ ⟨hy1,hy2⟩];rfl,rfl⟩
 ·by_cases hlt:x<y
  ·have HA:=hid (show Cf.alu 7 x y c=1 by simp[Cf.alu,hlt])
   go_enter Tryz.func178,Tryz.ntmps178
   go_wp2
   go_ret
   exact⟨by rw[HA.out];rfl,rfl⟩
  ·have HA:=hid (show Cf.alu 7 x y c=0 by simp[Cf.alu,hlt])
   go_enter Tryz.func178,Tryz.ntmps178
   go_wp2
   go_ret
   exact⟨by rw[HA.out];rfl,rfl⟩
theorem uq:(Tryz.prog.info? 3).map (fun i=>(i.zero,i.size,i.bytes))=some (some (.int .i64 0),1,8):=by kernel_rfl
def vU(m:Cf.aZ)(v:Int):Cf.Step:=if 100≤m.told.length then .fin 5 m else .on ⟨m.regs,m.mem,m.told++[v],m.back,m.pc⟩
theorem Gy(m:Cf.aZ)(hok:Cf.MOk m)(v:Int)(w:World)(base g:Nat)(A:Option Addr)(n cp:Nat)(fuel:Int)(hP:PM w base g A n cp m fuel):
  Calls Tryz.prog 177 #[.pointer (some ⟨g,0,none⟩),.int .i64 v] w (dw (vU m v) base g A n cp fuel w):=by
 obtain⟨vm,vt,vr,hs⟩:=hP
 obtain⟨T,ct,rfl⟩:=hs.told.form
 have c10:w.cell? ⟨g,10,none⟩=some (.slice T m.told.length ct):=(hs.blk.cell 10).trans (dQ hok.regs 1)
 have hwz:=hs.blk.lt
 have hlo:=hs.lo
 have htl:=hok.told
 obtain⟨i0,hi,hz0,hz1,hz2⟩:=info_parts uq
 have Hi:=hid hi
 have Hz0:=hid hz0
 have Hz1:=hid hz1
 have Hz2:=hid hz2
 clear hi hz0 hz1 hz2
 by_cases hl:100≤m.told.length
 ·have HS:=hid (show vU m v = .fin 5 m by unfold vU;rw[if_pos hl])
  have NL:((m.told.length:Int) == 100)=true:=by rw[beq_iff_eq];omega
  go_enter Tryz.func177,Tryz.ntmps177
  go_wp2
  go_ret
  rw[HS.out]
  exact⟨rfl,⟨_,_,_,hs⟩,Below.refl _ _⟩
 ·have HS:=hid (show vU m v = .on ⟨m.regs,m.mem,m.told++[v],m.back,m.pc⟩ by unfold vU;rw[if_neg hl])
  have NL:((m.told.length:Int) == 100)=false:=by rw[beq_eq_false_iff_ne];omega
  have Hs:=hid hs
  clear hs
  go_enter Tryz.func177,Tryz.ntmps177
  go_wp2_with (at_builtin;refine wpList_append_own_at _ rfl _ _ 23 rfl base 3 i0 (.int .i64 0) 1 8 Tryz.underlying23 Hi.out Hz0.out Hz1.out Hz2.out rfl (by decide) _ m.told.length _ rfl (Hs.out.told.alloc _) ⟨w.heap.size,0,none⟩ 1 1 [.int .i64 v] rfl rfl ?c1 ?c2 ?c3 ?c4 ?c5 ?_)
  case c1=>exact cell_one_new w _ _
  case c2=>intro u hu;simp at hu;subst hu;rfl
  case c3=>unfold maxLen;omega
  case c4=>omega
  case c5=>simp;omega
  intro v' w1 hown hgr _ hat
  have hr:Row w1 base v' (m.told++[v]):=by
   unfold Row
   rw[List.length_append,List.map_append]
   exact hown
  obtain⟨A',cap',rfl⟩:=aP hown
  have h1:=(Hs.out.alloc (.cells #[.int .i64 v] 3)).tell aY hr hgr (hat.imp id fun h=>⟨_,h,by simp⟩)
  have k10:w1.cell? ⟨g,10,none⟩=some (.slice T m.told.length ct):=(h1.blk.cell 10).trans (dQ hok.regs 1)
  have kf:w1.frozen? ⟨g,10,none⟩=false:=h1.blk.open_ 10
  have hbw:Below base w w1:=((Below.refl base w).alloc (by omega) _).grown hgr (by simp;omega) (fun k hk=>((Hs.out.told.lt k hk).1))
  have H1:=hid h1
  clear hown hgr hat hr h1 c10
  go_wp2
  go_ret
  rw[HS.out]
  refine⟨rfl,⟨vm,.slice A' (m.told.length+1) cap',vr,?_⟩,hbw.setCell (p:=⟨g,10,none⟩) hlo _⟩
  have h2:=H1.out.put aY 10 (.slice A' (m.told.length+1) cap')
  rwa [show(10:Nat)=9+1 from rfl,jS hok.regs 1]at h2
end
end Go.Proofs.YtnnhhbjbdmgpiaaGreatDoor
