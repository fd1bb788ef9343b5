/- SlipReads' walk. (Written by gen_slRe.py.) -/
import Derived.Test.YtpmghgfgbkncoaaGreatDoorMSlHd
import Derived.Test.YtpmghgfgbkncoaaGreatDoorMSlDp
import Derived.Test.YtpmghgfgbkncoaaGreatDoorMSlDs
section
set_option linter.unusedVariables false
set_option linter.unusedSimpArgs false
namespace Go.Proofs.YtpmghgfgbkncoaaGreatDoor.gn
open Go.RowKit
open Go.Proofs.YtpmghgfgbkncoaaGreatDoor.un
open Go.Proofs.YtpmghgfgbkncoaaGreatDoor.di
open Go.Proofs.YtpmghgfgbkncoaaGreatDoor.sp (Slip sread)

set_option maxRecDepth 100000 in
set_option maxHeartbeats 8000000 in
theorem reads_long (s : Tx) (hm : s.length ≤ 9223372036854775807) (hs : 3000 < s.length) (w : World) (hL : LaidD w) : Calls Tryz.prog 3 #[.string (str s)] w (Told (.bool true) w) := by
  have hz := str_size s
  have hz0 : 3000 < (str s).size := by omega
  have hz1 : (str s).size ≤ 9223372036854775807 := by omega
  have HHD := Lib.hid (head_yes w hL)
  clear hs hm hz hL
  go_enter Tryz.func3, Tryz.ntmps3
  go_wp2_with (go_at_call 7; ((with_reducible refine HHD.out.mono ?_); rintro e w3 ⟨rfl, hb⟩); have A3 := Lib.hid hb; clear hb)
  go_ret
  exact ⟨rfl, A3.out⟩
set_option maxRecDepth 100000 in
set_option maxHeartbeats 16000000 in
theorem reads_short (s : Tx) (hs : ¬ 3000 < s.length) (w : World) (hL : LaidD w) : Calls Tryz.prog 3 #[.string (str s)] w (Told (.bool true) w) := by
  have hz := str_size s
  have hz0 : ¬ 3000 < (str s).size := by omega
  have hz1 : (str s).size ≤ 3000 := by omega
  obtain ⟨x, hx⟩ : ∃ x, (sread s).1 = x := ⟨_, rfl⟩
  obtain ⟨er, he⟩ : ∃ er, (sread s).2.1 = er := ⟨_, rfl⟩
  obtain ⟨ln, hl⟩ : ∃ ln : Int, ((sread s).2.2 : Int) = ln := ⟨_, rfl⟩
  have HL := Lib.hid (fun (W : World) (hb : Below w.heap.size w W) => hL.next hb)
  have HP1 := Lib.hid (fun (W : World) (hb : Below w.heap.size w W) => parse_as (s := s) (by omega) hx he hl W (hL.next hb))
  have HP2 := Lib.hid (fun (W : World) (hb : Below w.heap.size w W) => (show Calls Tryz.prog 9 #[.string (str s)] W (PaA x er ln W) from by
    have := dParse_slip s (by omega) W
    unfold PaT at this
    rw [hx, he, hl] at this
    exact this))
  have HHD := Lib.hid (fun (W : World) (hb : Below w.heap.size w W) => head_yes W (hL.next hb))
  clear hs hz hL hx he hl
  go_enter Tryz.func3, Tryz.ntmps3
  go_upto_region 4 with (first
    | (go_at_call 8; go_loud ((refine (HP1.out _ (Below.refl _ _)).mono ?_); rintro e w1 ⟨hb, g1, rfl, hs⟩); have HB1 := Lib.hid hb; have HS1 := Lib.hid hs; clear hb hs)
    | (refine wpList_store_row rfl _ _ _ rfl w1.heap.size (scs x g1) rfl rfl _ _ (boxes_a w1 _ _ _ _) (by kernel_rfl) rfl (scs_one HS1.out) ?_)
    | (refine wpList_store_row rfl _ _ _ rfl (w1.heap.size + 1) #[.int .i64 er, .int .i64 ln] rfl rfl _ _ (boxes_b w1 _ _ _ _ _) (by kernel_rfl) rfl (spot_one _ _) ?_))
  obtain ⟨W1, hW1, ba1, bb1, bl1⟩ := boxes_end w1 #[.string { data := #[] }, .int .i64 0, .int .i64 0, .int .i64 0, .slice none 0 0, .int .i64 0, .int .i64 0, .int .i64 0, .string { data := #[] }, .slice none 0 0, .slice none 0 0, .slice none 0 0] #[.int .i64 0, .int .i64 0] (scs x g1) #[.int .i64 er, .int .i64 ln] 27 30
  rw [hW1]
  clear hW1
  have HY1 := Lib.hid (HB1.out.trans (bl1.mono HB1.out.size))
  have BA1 := Lib.hid ba1
  have BB1 := Lib.hid bb1
  have SA1 := Lib.hid (HS1.out.next bl1)
  clear ba1 bb1 bl1
  generalize w1.heap.size = n1 at *
  go_upto_region 5 with (first
    | (go_at_call 9; go_loud ((refine (HP2.out _ HY1.out).mono ?_); rintro e w2 ⟨hb, g2, rfl, hs⟩); have HB2 := Lib.hid hb; have HS2 := Lib.hid hs; clear hb hs)
    | (refine wpList_store_row rfl _ _ _ rfl w2.heap.size (scs x g2) rfl rfl _ _ (boxes_a w2 _ _ _ _) (by kernel_rfl) rfl (scs_one HS2.out) ?_)
    | (refine wpList_store_row rfl _ _ _ rfl (w2.heap.size + 1) #[.int .i64 er, .int .i64 ln] rfl rfl _ _ (boxes_b w2 _ _ _ _ _) (by kernel_rfl) rfl (spot_one _ _) ?_))
  obtain ⟨W2, hW2, ba2, bb2, bl2⟩ := boxes_end w2 #[.string { data := #[] }, .int .i64 0, .int .i64 0, .int .i64 0, .slice none 0 0, .int .i64 0, .int .i64 0, .int .i64 0, .string { data := #[] }, .slice none 0 0, .slice none 0 0, .slice none 0 0] #[.int .i64 0, .int .i64 0] (scs x g2) #[.int .i64 er, .int .i64 ln] 27 30
  rw [hW2]
  clear hW2
  have HY2 := Lib.hid (HB2.out.trans (bl2.mono HB2.out.size))
  have BA2 := Lib.hid ba2
  have BB2 := Lib.hid bb2
  have SA2 := Lib.hid (HS2.out.next bl2)
  clear ba2 bb2 bl2
  generalize w2.heap.size = n2 at *
  have HZ2 := Lib.hid (HY1.out.trans (HY2.out.mono HY1.out.size))
  have HSM := Lib.hid (dSame_slip x x g1 g2 W2 (SA1.out.next HY2.out) SA2.out)
  rw [show decide (x = x) = true from decide_eq_true rfl] at HSM
  obtain ⟨c0, c1, c2, c3, c4, c5, c6, c7, c8, c9, c10, c11, clt⟩ := cel_box (BA1.out.next HY2.out)
  obtain ⟨d0, d1, d2, d3, d4, d5, d6, d7, d8, d9, d10, d11, dlt⟩ := cel_box BA2.out
  have HT1 := Lib.hid (BB1.out.next HY2.out)
  obtain ⟨va, vm, vd, vu⟩ := g1
  obtain ⟨va', vm', vd', vu'⟩ := g2
  unfold sV scs at HSM
  dsimp only at HSM c4 c9 c10 c11 d4 d9 d10 d11
  have p1 : ∀ W, (binOp .eql 30 (.agg #[.int .i64 er, .int .i64 ln]) (.agg #[.int .i64 er, .int .i64 ln])).run Tryz.prog W = .ok (.bool true) W := fun W => by
    have := spot_eq er ln er ln W
    rw [show decide (er = er) = true from decide_eq_true rfl, show decide (ln = ln) = true from decide_eq_true rfl] at this
    exact this
  go_wp2_with (first
    | (go_at_call 10; ((with_reducible refine HSM.out.mono ?_); rintro e w6 ⟨rfl, hb⟩); have A6 := Lib.hid (HZ2.out.trans (hb.mono HZ2.out.size)); have s10 := (HT1.out.next hb).cell 0 _; have s11 := (HT1.out.next hb).cell 1 _; have sl1 := (HT1.out.next hb).lt; have s20 := (BB2.out.next hb).cell 0 _; have s21 := (BB2.out.next hb).cell 1 _; have sl2 := (BB2.out.next hb).lt; clear hb)
    | (go_at_call 7; ((with_reducible refine (HHD.out _ A6.out).mono ?_); rintro e w9 ⟨rfl, hb⟩); have AE := Lib.hid (A6.out.trans (hb.mono A6.out.size)); clear hb))
  go_ret
  exact ⟨rfl, AE.out⟩
theorem reads_law (s : Tx) (hm : s.length ≤ 9223372036854775807) (w : World) (hL : LaidD w) : Calls Tryz.prog 3 #[.string (str s)] w (Told (.bool true) w) := by
  by_cases hs : 3000 < s.length
  · exact reads_long s hm hs w hL
  · exact reads_short s hs w hL
end Go.Proofs.YtpmghgfgbkncoaaGreatDoor.gn
end
