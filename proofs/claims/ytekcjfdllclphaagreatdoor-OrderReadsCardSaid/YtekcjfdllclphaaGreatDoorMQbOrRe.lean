/- OrderReads' walk. (Written by gen_orRe.py.) -/
import Derived.Test.YtekcjfdllclphaaGreatDoorMQbGenLoad
import Derived.Test.YtekcjfdllclphaaGreatDoorMQbOrPe
import Derived.Test.YtekcjfdllclphaaGreatDoorMQbOrDs
import Derived.Test.YtekcjfdllclphaaGreatDoorMQbOrHd
set_option linter.unusedVariables false
set_option linter.unusedSimpArgs false
section
namespace Go.Proofs.YtekcjfdllclphaaGreatDoor.gn
open Go.RowKit
open Go.Proofs.YtekcjfdllclphaaGreatDoor.un
open Go.Proofs.YtekcjfdllclphaaGreatDoor.di
open Go.Proofs.YtekcjfdllclphaaGreatDoor.sp (Slip)
open Go.Proofs.YtekcjfdllclphaaGreatDoor.od (Ord OkO oread chkO chkO_iff txtO)
theorem dparse_by {s:Tx} (hl:s.length≤10000) {o:Ord} {e:Int} {i:Nat} (h:oread s=(o,e,i)) (w:World):Calls Tryz.prog 9 #[.string (str s)] w (OPaA o e (i:Int) w):=by
 have hh:Calls Tryz.prog 9 #[.string (str s)] w (OPaT s w):=by
  by_cases hp:od.subL.isPrefixOf s=true
  ·exact dparse_sub s hl w hp
  ·exact dparse_try s hl w hp
 unfold OPaT at hh
 rw [h] at hh
 exact hh
theorem oparse_by2 {s:Tx} (hm:s.length≤100000) {o:Ord} {e:Int} {i:Nat} (h:oread s=(o,e,i)) (w:World) (hL:LaidD w):Calls Tryz.prog 8 #[.string (str s)] w (OPaA o e (i:Int) w) :=
 oparse_as hm (by rw [h]) (by rw [h]) (by rw [h]) w hL
set_option maxRecDepth 100000 in
set_option maxHeartbeats 16000000 in
theorem oreads_law (s:Tx) (hs:s.length≤9223372036854775807) (w:World) (hL:LaidD w):Calls Tryz.prog 3 #[.string (str s)] w (Told (.bool true) w):=by
 have HL:=Lib.hid (fun (X:World) (hb:Below w.heap.size w X)=>hL.next hb)
 have HHD:=Lib.hid (fun (X:World) (hb:Below w.heap.size w X)=>ohead_yes X (hL.next hb))
 have z1:=str_size s
 clear hL
 by_cases h1:3000 < s.length
 ·have y1:(str s).size≤9223372036854775807:=by omega
  have y3:3000 < (str s).size:=by omega
  clear z1 hs h1
  go_enter Tryz.func3,Tryz.ntmps3
  go_wp2_with (go_at_call 7;((with_reducible refine (HHD.out _ (Below.refl _ _)).mono ?_);rintro e w3 ⟨rfl,hb⟩);have A3:=Lib.hid hb;clear hb)
  go_ret
  exact ⟨rfl,A3.out⟩
 ·have y3:¬ 3000 < (str s).size:=by omega
  have y4:(str s).size≤3000:=by omega
  obtain ⟨o,er,ln,ho⟩:∃ o er ln,oread s=(o,er,ln):=⟨_,_,_,rfl⟩
  have HP1:=Lib.hid (fun (X:World) (hb:Below w.heap.size w X)=>oparse_by2 (s:=s) (by omega) ho X (HL.out X hb))
  have HP2:=Lib.hid (fun (X:World) (hb:Below w.heap.size w X)=>dparse_by (s:=s) (by omega) ho X)
  have HSM:=Lib.hid (fun (X:World) (g g':Gh) (hs:SR X o.slip g) (hs':SR X o.slip g')=>dSame_ord o o g g' X hs hs')
  rw [decide_eq_true (show o=o from rfl)] at HSM
  unfold oV at HSM
  unfold OPaA at HP1 HP2
  obtain ⟨lx,hlx⟩:∃ l:Int,(ln:Int)=l:=⟨_,rfl⟩
  rw [hlx] at HP1 HP2
  have p2:∀ W,(binOp .eql 32 (.agg #[.int .i64 er,.int .i64 lx]) (.agg #[.int .i64 er,.int .i64 lx])).run Tryz.prog W=.ok (.bool true) W:=fun W=>by have:=spot_eq er lx er lx W;simpa using this
  clear ho hs h1 z1 hlx
  go_enter Tryz.func3,Tryz.ntmps3
  go_upto_region 4 with (first
   | (go_at_call 8;((refine (HP1.out _ (Below.refl _ _)).mono ?_);rintro e w1 ⟨hb,g1,rfl,hs⟩);have HB1:=Lib.hid hb;have HS1:=Lib.hid hs;clear hb hs)
   | (refine wpList_store_row rfl _ _ _ rfl w1.heap.size (ocs o g1) rfl rfl _ _ (boxes_a w1 _ _ _ _) (by kernel_rfl) rfl (ocs_one HS1.out) ?_)
   | (refine wpList_store_row rfl _ _ _ rfl (w1.heap.size+1) #[.int .i64 er,.int .i64 lx] rfl rfl _ _ (boxes_b w1 _ _ _ _ _) (by kernel_rfl) rfl (by kernel_rfl) ?_))
  obtain ⟨W1,hW1,ba1,bb1,bl1⟩:=boxes_end w1 #[.int .u8 0,.int .i64 0,.int .i64 0,.string { data:=#[] },.string { data:=#[] },.string { data:=#[] },.int .i64 0,.bool false,.string { data:=#[] },.int .i64 0,.int .i64 0,.int .i64 0,.slice none 0 0,.int .i64 0,.int .i64 0,.int .i64 0,.string { data:=#[] },.slice none 0 0,.slice none 0 0,.slice none 0 0] #[.int .i64 0,.int .i64 0] (ocs o g1) #[.int .i64 er,.int .i64 lx] 29 32
  rw [hW1]
  clear hW1
  have HY1:=Lib.hid (HB1.out.trans (bl1.mono HB1.out.size))
  have HZ1:=Lib.hid (HY1.out)
  have BA1:=Lib.hid ba1
  have BB1:=Lib.hid bb1
  have SA1:=Lib.hid (HS1.out.next bl1)
  clear ba1 bb1 bl1
  generalize w1.heap.size=n1 at *
  go_upto_region 5 with (first
   | (go_at_call 9;((refine (HP2.out _ HZ1.out).mono ?_);rintro e w2 ⟨hb,g2,rfl,hs⟩);have HB2:=Lib.hid hb;have HS2:=Lib.hid hs;clear hb hs)
   | (refine wpList_store_row rfl _ _ _ rfl w2.heap.size (ocs o g2) rfl rfl _ _ (boxes_a w2 _ _ _ _) (by kernel_rfl) rfl (ocs_one HS2.out) ?_)
   | (refine wpList_store_row rfl _ _ _ rfl (w2.heap.size+1) #[.int .i64 er,.int .i64 lx] rfl rfl _ _ (boxes_b w2 _ _ _ _ _) (by kernel_rfl) rfl (by kernel_rfl) ?_))
  obtain ⟨W2,hW2,ba2,bb2,bl2⟩:=boxes_end w2 #[.int .u8 0,.int .i64 0,.int .i64 0,.string { data:=#[] },.string { data:=#[] },.string { data:=#[] },.int .i64 0,.bool false,.string { data:=#[] },.int .i64 0,.int .i64 0,.int .i64 0,.slice none 0 0,.int .i64 0,.int .i64 0,.int .i64 0,.string { data:=#[] },.slice none 0 0,.slice none 0 0,.slice none 0 0] #[.int .i64 0,.int .i64 0] (ocs o g2) #[.int .i64 er,.int .i64 lx] 29 32
  rw [hW2]
  clear hW2
  have HY2:=Lib.hid (HB2.out.trans (bl2.mono HB2.out.size))
  have HZ2:=Lib.hid (Below.trans HZ1.out (HY2.out.mono (Below.size HZ1.out)))
  have BA2:=Lib.hid ba2
  have BB2:=Lib.hid bb2
  have SA2:=Lib.hid (HS2.out.next bl2)
  clear ba2 bb2 bl2
  generalize w2.heap.size=n2 at *
  have HA1:=Lib.hid (BA1.out.next HY2.out)
  have HB1:=Lib.hid (BB1.out.next HY2.out)
  have HSA1:=Lib.hid (SA1.out.next HY2.out)
  have HS12:=Lib.hid (HSM.out W2 g1 g2 HSA1.out SA2.out)
  have HCE:=Lib.hid (fun (X:World) (hX:Below W2.heap.size W2 X)=>And.intro (HB1.out.next hX) (BB2.out.next hX))
  go_wp2_with (first
   | (refine wpl_load_g (by kernel_rfl) _ _ rfl n1 rfl _ _ _ _ HA1.out Tryz.underlying29 rfl (by kernel_rfl) ?_)
   | (refine wpl_load_g (by kernel_rfl) _ _ rfl n2 rfl _ _ _ _ BA2.out Tryz.underlying29 rfl (by kernel_rfl) ?_)
   | (go_at_call 10;((with_reducible refine HS12.out.mono ?_);rintro e w6 ⟨rfl,hb⟩);have A6:=Lib.hid (HZ2.out.trans (hb.mono HZ2.out.size));obtain ⟨b1,b2⟩:=HCE.out _ hb;have s0:=b1.cell 0 _;have s1:=b1.cell 1 _;have sl:=b1.lt;have s2:=b2.cell 0 _;have s3:=b2.cell 1 _;have sl2:=b2.lt;clear hb b1 b2)
   | (go_at_call 7;((with_reducible refine (HHD.out _ A6.out).mono ?_);rintro e w7 ⟨rfl,hb⟩);have A7:=Lib.hid (A6.out.trans (hb.mono A6.out.size));clear hb))
  go_ret
  exact ⟨rfl,A7.out⟩
end Go.Proofs.YtekcjfdllclphaaGreatDoor.gn
end
