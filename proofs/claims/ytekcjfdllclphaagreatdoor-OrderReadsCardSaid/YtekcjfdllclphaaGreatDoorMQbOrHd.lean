/- The head of the laws of stage 16. (Written by gen_orHd.py.) -/
import Derived.Test.YtekcjfdllclphaaGreatDoorMQbOrT
import Derived.Test.YtekcjfdllclphaaGreatDoorMQbOrV
set_option linter.unusedVariables false
set_option linter.unusedSimpArgs false
section
namespace Go.Proofs.YtekcjfdllclphaaGreatDoor.gn
open Go.RowKit
open Go.Proofs.YtekcjfdllclphaaGreatDoor.un
open Go.Proofs.YtekcjfdllclphaaGreatDoor.di
open Go.Proofs.YtekcjfdllclphaaGreatDoor.sp (Slip)
open Go.Proofs.YtekcjfdllclphaaGreatDoor.od (Ord oread chkO txtO o1T o2T o3T o4T o1_read o2_read o3_read o4_read o2_chk o2_txt)
def OPaA (o:Ord) (e l:Int) (w:World) (en:Ending) (w':World):Prop:=Below w.heap.size w w'∧∃ g,en=.returned (.tuple #[oV o g,.agg #[.int .i64 e,.int .i64 l]])∧SR w' o.slip g
theorem oparse_as {s:Tx} (hm:s.length≤100000) {o:Ord} {e l:Int} (h1:(oread s).1=o) (h2:(oread s).2.1=e) (h3:((oread s).2.2:Int)=l) (w:World) (hL:LaidD w):Calls Tryz.prog 8 #[.string (str s)] w (OPaA o e l w):=by
 have:=Parse_ord s hm w hL
 unfold OPaT at this
 rw [h1,h2,h3] at this
 exact this
theorem sW_zero:SW Slip.zero:=by
 have z:-9223372036854775808≤(0:Int)∧(0:Int)≤9223372036854775807:=by decide
 exact ⟨Nat.zero_le _,Nat.zero_le _,z,z,z,z,z,z,(fun d h=>by cases h),(fun d h=>by cases h),(fun d h=>by cases h),(fun d h=>by cases h)⟩
set_option maxRecDepth 100000 in
set_option maxHeartbeats 16000000 in
theorem ohead_yes (w:World) (hL:LaidD w):Calls Tryz.prog 7 #[] w (Told (.bool true) w):=by
 have HL:=Lib.hid (fun (W:World) (hb:Below w.heap.size w W)=>hL.next hb)
 have HP1:Hid (∀ (W:World),Below w.heap.size w W→Calls Tryz.prog 8 #[.string ({ data:=#[116,105,99,107,32,110,61,53] }:ByteArray)] W (OPaA od.o1O 0 0 W)):=fun W hb=>oparse_as (s:=o1T) (by decide) (by rw [o1_read]) (by rw [o1_read]) (by rw [o1_read];rfl) W (HL.out W hb)
 have HP2:Hid (∀ (W:World),Below w.heap.size w W→Calls Tryz.prog 8 #[.string ({ data:=([109,97,107,101,32,117,115,101,114,61,97,32,110,97,109,101,61,98,32,99,97,112,97,99,105,116,121,61,49,75,105,66,32,112].append [111,111,108,61,112,32,97,99,99,101,115,115,61,112,117,98,108,105,99]).toArray }:ByteArray)] W (OPaA od.o2O 0 0 W)):=fun W hb=>oparse_as (s:=o2T) (by decide) (by rw [o2_read]) (by rw [o2_read]) (by rw [o2_read];rfl) W (HL.out W hb)
 have HP3:Hid (∀ (W:World),Below w.heap.size w W→Calls Tryz.prog 8 #[.string ({ data:=#[101,110,100,32,106,111,98,61,51,32,114,101,115,117,108,116,61,109,97,121,98,101] }:ByteArray)] W (OPaA (oread o3T).1 160 1 W)):=fun W hb=>oparse_as (s:=o3T) (by decide) rfl (by rw [o3_read]) (by rw [o3_read];rfl) W (HL.out W hb)
 have HP4:Hid (∀ (W:World),Below w.heap.size w W→Calls Tryz.prog 8 #[.string ({ data:=#[115,117,98,109,105,116,10,106,111,98,32,117,115,101,114,61,97] }:ByteArray)] W (OPaA (oread o4T).1 150 2 W)):=fun W hb=>oparse_as (s:=o4T) (by decide) rfl (by rw [o4_read]) (by rw [o4_read];rfl) W (HL.out W hb)
 clear hL
 generalize (oread o3T).1=x3 at *
 generalize (oread o4T).1=x4 at *
 go_enter Tryz.func7,Tryz.ntmps7
 go_upto_region 2 with (first
  | (go_at_call 8;((refine (HP1.out _ (Below.refl _ _)).mono ?_);rintro e w1 ⟨hb,g1,rfl,hs⟩);have HB1:=Lib.hid hb;have HS1:=Lib.hid hs;clear hb hs)
  | (refine wpList_store_row rfl _ _ _ rfl w1.heap.size (ocs od.o1O g1) rfl rfl _ _ (boxes_a w1 _ _ _ _) (by kernel_rfl) rfl (ocs_one HS1.out) ?_)
  | (refine wpList_store_row rfl _ _ _ rfl (w1.heap.size+1) #[.int .i64 0,.int .i64 0] rfl rfl _ _ (boxes_b w1 _ _ _ _ _) (by kernel_rfl) rfl (by kernel_rfl) ?_))
 obtain ⟨W1,hW1,ba1,bb1,bl1⟩:=boxes_end w1 #[.int .u8 0,.int .i64 0,.int .i64 0,.string { data:=#[] },.string { data:=#[] },.string { data:=#[] },.int .i64 0,.bool false,.string { data:=#[] },.int .i64 0,.int .i64 0,.int .i64 0,.slice none 0 0,.int .i64 0,.int .i64 0,.int .i64 0,.string { data:=#[] },.slice none 0 0,.slice none 0 0,.slice none 0 0] #[.int .i64 0,.int .i64 0] (ocs od.o1O g1) #[.int .i64 0,.int .i64 0] 29 32
 rw [hW1]
 clear hW1
 have HY1:=Lib.hid (HB1.out.trans (bl1.mono HB1.out.size))
 have HZ1:=Lib.hid (HY1.out)
 have BA1:=Lib.hid ba1
 have BB1:=Lib.hid bb1
 have SA1:=Lib.hid (HS1.out.next bl1)
 clear ba1 bb1 bl1
 generalize w1.heap.size=n1 at *
 go_upto_region 3 with (first
  | (go_at_call 8;((refine (HP2.out _ HZ1.out).mono ?_);rintro e w2 ⟨hb,g2,rfl,hs⟩);have HB2:=Lib.hid hb;have HS2:=Lib.hid hs;clear hb hs)
  | (refine wpList_store_row rfl _ _ _ rfl w2.heap.size (ocs od.o2O g2) rfl rfl _ _ (boxes_a w2 _ _ _ _) (by kernel_rfl) rfl (ocs_one HS2.out) ?_)
  | (refine wpList_store_row rfl _ _ _ rfl (w2.heap.size+1) #[.int .i64 0,.int .i64 0] rfl rfl _ _ (boxes_b w2 _ _ _ _ _) (by kernel_rfl) rfl (by kernel_rfl) ?_))
 obtain ⟨W2,hW2,ba2,bb2,bl2⟩:=boxes_end w2 #[.int .u8 0,.int .i64 0,.int .i64 0,.string { data:=#[] },.string { data:=#[] },.string { data:=#[] },.int .i64 0,.bool false,.string { data:=#[] },.int .i64 0,.int .i64 0,.int .i64 0,.slice none 0 0,.int .i64 0,.int .i64 0,.int .i64 0,.string { data:=#[] },.slice none 0 0,.slice none 0 0,.slice none 0 0] #[.int .i64 0,.int .i64 0] (ocs od.o2O g2) #[.int .i64 0,.int .i64 0] 29 32
 rw [hW2]
 clear hW2
 have HY2:=Lib.hid (HB2.out.trans (bl2.mono HB2.out.size))
 have HZ2:=Lib.hid (HZ1.out.trans (HY2.out.mono HZ1.out.size))
 have BA2:=Lib.hid ba2
 have BB2:=Lib.hid bb2
 have SA2:=Lib.hid (HS2.out.next bl2)
 clear ba2 bb2 bl2
 generalize w2.heap.size=n2 at *
 go_upto_region 4 with (first
  | (go_at_call 8;((refine (HP3.out _ HZ2.out).mono ?_);rintro e w3 ⟨hb,g3,rfl,hs⟩);have HB3:=Lib.hid hb;have HS3:=Lib.hid hs;clear hb hs)
  | (refine wpList_store_row rfl _ _ _ rfl w3.heap.size (ocs x3 g3) rfl rfl _ _ (boxes_a w3 _ _ _ _) (by kernel_rfl) rfl (ocs_one HS3.out) ?_)
  | (refine wpList_store_row rfl _ _ _ rfl (w3.heap.size+1) #[.int .i64 160,.int .i64 1] rfl rfl _ _ (boxes_b w3 _ _ _ _ _) (by kernel_rfl) rfl (by kernel_rfl) ?_))
 obtain ⟨W3,hW3,ba3,bb3,bl3⟩:=boxes_end w3 #[.int .u8 0,.int .i64 0,.int .i64 0,.string { data:=#[] },.string { data:=#[] },.string { data:=#[] },.int .i64 0,.bool false,.string { data:=#[] },.int .i64 0,.int .i64 0,.int .i64 0,.slice none 0 0,.int .i64 0,.int .i64 0,.int .i64 0,.string { data:=#[] },.slice none 0 0,.slice none 0 0,.slice none 0 0] #[.int .i64 0,.int .i64 0] (ocs x3 g3) #[.int .i64 160,.int .i64 1] 29 32
 rw [hW3]
 clear hW3
 have HY3:=Lib.hid (HB3.out.trans (bl3.mono HB3.out.size))
 have HZ3:=Lib.hid (HZ2.out.trans (HY3.out.mono HZ2.out.size))
 have BA3:=Lib.hid ba3
 have BB3:=Lib.hid bb3
 have SA3:=Lib.hid (HS3.out.next bl3)
 clear ba3 bb3 bl3
 generalize w3.heap.size=n3 at *
 go_upto_region 5 with (first
  | (go_at_call 8;((refine (HP4.out _ HZ3.out).mono ?_);rintro e w4 ⟨hb,g4,rfl,hs⟩);have HB4:=Lib.hid hb;have HS4:=Lib.hid hs;clear hb hs)
  | (refine wpList_store_row rfl _ _ _ rfl w4.heap.size (ocs x4 g4) rfl rfl _ _ (boxes_a w4 _ _ _ _) (by kernel_rfl) rfl (ocs_one HS4.out) ?_)
  | (refine wpList_store_row rfl _ _ _ rfl (w4.heap.size+1) #[.int .i64 150,.int .i64 2] rfl rfl _ _ (boxes_b w4 _ _ _ _ _) (by kernel_rfl) rfl (by kernel_rfl) ?_))
 obtain ⟨W4,hW4,ba4,bb4,bl4⟩:=boxes_end w4 #[.int .u8 0,.int .i64 0,.int .i64 0,.string { data:=#[] },.string { data:=#[] },.string { data:=#[] },.int .i64 0,.bool false,.string { data:=#[] },.int .i64 0,.int .i64 0,.int .i64 0,.slice none 0 0,.int .i64 0,.int .i64 0,.int .i64 0,.string { data:=#[] },.slice none 0 0,.slice none 0 0,.slice none 0 0] #[.int .i64 0,.int .i64 0] (ocs x4 g4) #[.int .i64 150,.int .i64 2] 29 32
 rw [hW4]
 clear hW4
 have HY4:=Lib.hid (HB4.out.trans (bl4.mono HB4.out.size))
 have HZ4:=Lib.hid (HZ3.out.trans (HY4.out.mono HZ3.out.size))
 have BA4:=Lib.hid ba4
 have BB4:=Lib.hid bb4
 have SA4:=Lib.hid (HS4.out.next bl4)
 clear ba4 bb4 bl4
 generalize w4.heap.size=n4 at *
 have HD1:=Lib.hid (((BA1.out.next HY2.out).next HY3.out).next HY4.out)
 have HD2:=Lib.hid ((BA2.out.next HY3.out).next HY4.out)
 have HSP1:=Lib.hid (((BB1.out.next HY2.out).next HY3.out).next HY4.out)
 have HSP2:=Lib.hid ((BB2.out.next HY3.out).next HY4.out)
 have HSP3:=Lib.hid (BB3.out.next HY4.out)
 have HSR2:=Lib.hid ((SA2.out.next HY3.out).next HY4.out)
 have HT:=Lib.hid (Text_ord od.o2O g2 W4 HSR2.out (sW_zero) (OW_ok ((od.chkO_iff _).1 o2_chk)) (HL.out W4 HZ4.out))
 have HE:=Lib.hid (show oE od.o2O=0∧str (oT od.o2O)=({ data:=([109,97,107,101,32,117,115,101,114,61,97,32,110,97,109,101,61,98,32,99,97,112,97,99,105,116,121,61,49,75,105,66,32,112].append [111,111,108,61,112,32,97,99,99,101,115,115,61,112,117,98,108,105,99]).toArray }:ByteArray) by unfold oE oT;rw [if_pos o2_chk,if_pos o2_chk,o2_txt];exact ⟨rfl,rfl⟩)
 unfold OTextT at HT
 rw [HE.out.1,HE.out.2] at HT
 unfold oV at HT
 obtain ⟨U,hU⟩:∃ U,str [97]=U:=⟨_,rfl⟩
 obtain ⟨V,hV⟩:∃ V,str [98]=V:=⟨_,rfl⟩
 obtain ⟨P,hP⟩:∃ P,str [112]=P:=⟨_,rfl⟩
 have qU:(U.toList == [97])=true:=by rw [←hU];exact (lit_yes rfl).1
 have qU2:U.toList=[97]:=by rw [←hU];exact (lit_yes rfl).2
 have qV:(V.toList == [98])=true:=by rw [←hV];exact (lit_yes rfl).1
 have qV2:V.toList=[98]:=by rw [←hV];exact (lit_yes rfl).2
 have qP:(P.toList == [112])=true:=by rw [←hP];exact (lit_yes rfl).1
 have qP2:P.toList=[112]:=by rw [←hP];exact (lit_yes rfl).2
 have HCL:=Lib.hid (fun (X:World) (hX:Below W4.heap.size W4 X)=>(show (X.cell? ⟨n1,0,none⟩=some (.int .u8 1)∧X.cell? ⟨n1,2,none⟩=some (.int .i64 5))∧(X.cell? ⟨n2,0,none⟩=some (.int .u8 15)∧X.cell? ⟨n2,5,none⟩=some (.string U)∧X.cell? ⟨n2,3,none⟩=some (.string V)∧X.cell? ⟨n2,6,none⟩=some (.int .i64 1024)∧X.cell? ⟨n2,4,none⟩=some (.string P)∧X.cell? ⟨n2,7,none⟩=some (.bool true)) from
  ⟨⟨BoxA.cell (HD1.out.next hX) 0 _,BoxA.cell (HD1.out.next hX) 2 _⟩,BoxA.cell (HD2.out.next hX) 0 _,by rw [←hU];exact BoxA.cell (HD2.out.next hX) 5 _,by rw [←hV];exact BoxA.cell (HD2.out.next hX) 3 _,BoxA.cell (HD2.out.next hX) 6 _,by rw [←hP];exact BoxA.cell (HD2.out.next hX) 4 _,BoxA.cell (HD2.out.next hX) 7 _⟩))
 have HCS:=Lib.hid (fun (X:World) (hX:Below W4.heap.size W4 X)=>And.intro (And.intro ((HSP1.out.next hX).cell 0 _) ((HSP1.out.next hX).cell 1 _)) (And.intro (And.intro ((HSP2.out.next hX).cell 0 _) ((HSP2.out.next hX).cell 1 _)) (And.intro (And.intro ((HSP3.out.next hX).cell 0 _) ((HSP3.out.next hX).cell 1 _)) (And.intro ((BB4.out.next hX).cell 0 _) ((BB4.out.next hX).cell 1 _)))))
 have HCB:=Lib.hid (fun (X:World) (hX:Below W4.heap.size W4 X)=>And.intro (And.intro (HD1.out.next hX).lt (HD2.out.next hX).lt) (And.intro (HSP1.out.next hX).lt (And.intro (HSP2.out.next hX).lt (And.intro (HSP3.out.next hX).lt (BB4.out.next hX).lt))))
 have p1:∀ W,(binOp .eql 32 (.agg #[.int .i64 0,.int .i64 0]) (.agg #[.int .i64 0,.int .i64 0])).run Tryz.prog W=.ok (.bool true) W:=fun W=>spot_eq 0 0 0 0 W
 have p2:∀ W,(binOp .eql 32 (.agg #[.int .i64 160,.int .i64 1]) (.agg #[.int .i64 160,.int .i64 1])).run Tryz.prog W=.ok (.bool true) W:=fun W=>spot_eq 160 1 160 1 W
 have p3:∀ W,(binOp .eql 32 (.agg #[.int .i64 150,.int .i64 2]) (.agg #[.int .i64 150,.int .i64 2])).run Tryz.prog W=.ok (.bool true) W:=fun W=>spot_eq 150 2 150 2 W
 clear hU hV hP
 go_wp2_with (first
  | (refine wpList_load_row rfl _ _ rfl n2 rfl _ _ _ _ HD2.out Tryz.underlying29 rfl (by kernel_rfl) ?_)
  | (go_at_call 12;((with_reducible refine HT.out.mono ?_);rintro e w5 ⟨rfl,hb⟩);have HB5:=Lib.hid hb;obtain ⟨⟨c0,c2⟩,d0,d5,d3,d6,d4,d7⟩:=HCL.out _ hb;obtain ⟨⟨e0,e1⟩,⟨e2,e3⟩,⟨e4,e5⟩,e6,e7⟩:=HCS.out _ hb;obtain ⟨⟨l1,l2⟩,l3,l4,l5,l6⟩:=HCB.out _ hb;clear hb))
 go_ret
 exact ⟨rfl,HZ4.out.trans (HB5.out.mono HZ4.out.size)⟩
end Go.Proofs.YtekcjfdllclphaaGreatDoor.gn
end
