/- OrderOne's walk. (Written by gen_orOn.py.) -/
import Derived.Test.YtekcjfdllclphaaGreatDoorMGenLoad
import Derived.Test.YtekcjfdllclphaaGreatDoorMOrL
import Derived.Test.YtekcjfdllclphaaGreatDoorMOrGr
section
set_option linter.unusedVariables false
set_option linter.unusedSimpArgs false
namespace Go.Proofs.YtekcjfdllclphaaGreatDoor.gn
open Go.RowKit
open Go.Proofs.YtekcjfdllclphaaGreatDoor.un
open Go.Proofs.YtekcjfdllclphaaGreatDoor.di
open Go.Proofs.YtekcjfdllclphaaGreatDoor.sp (Slip)
open Go.Proofs.YtekcjfdllclphaaGreatDoor.od (Ord OkO oread chkO chkO_iff txtO oread_cases oread_txt oread_more oread_blank txtO_len txtO_inj)

theorem SW_ok {o : Ord} (h : OkO o) : SW o.slip := by
  by_cases h2 : o.kind = 2
  · exact sW_W (h.slip1 h2)
  · rw [h.slip0 h2]; exact sW_zero
theorem sp_two (s t : Tx) : str s ++ ({ data := #[32] } : ByteArray) ++ str t = str (s ++ 32 :: t) := by
  show str s ++ str [32] ++ str t = _
  rw [str_app, str_app]
  simp
theorem sp_one (s : Tx) : ({ data := #[32] } : ByteArray) ++ str s = str (32 :: s) := by
  show str [32] ++ str s = _
  rw [str_app]
  rfl
theorem oparse_by {s : Tx} (hm : s.length ≤ 100000) {o : Ord} {e : Int} {i : Nat} (h : oread s = (o, e, i)) (w : World) (hL : LaidD w) : Calls Tryz.prog 8 #[.string (str s)] w (OPaA o e (i : Int) w) :=
  oparse_as hm (by rw [h]) (by rw [h]) (by rw [h]) w hL
set_option maxRecDepth 100000 in
set_option maxHeartbeats 16000000 in
theorem one_law (s more : Tx) (hs : s.length ≤ 9223372036854775807) (hm : more.length ≤ 9223372036854775807) (w : World) (hL : LaidD w) : Calls Tryz.prog 5 #[.string (str s), .string (str more)] w (Told (.bool true) w) := by
  have HL := Lib.hid (fun (X : World) (hb : Below w.heap.size w X) => hL.next hb)
  have HHD := Lib.hid (fun (X : World) (hb : Below w.heap.size w X) => ohead_yes X (hL.next hb))
  have z1 := str_size s
  have z2 := str_size more
  clear hL
  by_cases hlong : 3000 < s.length ∨ 100 < more.length
  · have y2 : (str more).size ≤ 9223372036854775807 := by omega
    have y1 : (str s).size ≤ 9223372036854775807 := by omega
    by_cases h1 : 3000 < s.length
    · have y3 : 3000 < (str s).size := by omega
      clear z1 z2 hs hm hlong h1
      go_enter Tryz.func5, Tryz.ntmps5
      go_wp2_with (go_at_call 7; ((with_reducible refine (HHD.out _ (Below.refl _ _)).mono ?_); rintro e w3 ⟨rfl, hb⟩); have A3 := Lib.hid hb; clear hb)
      go_ret
      exact ⟨rfl, A3.out⟩
    · have y3 : ¬ 3000 < (str s).size := by omega
      have y4 : 100 < (str more).size := by omega
      clear z1 z2 hs hm hlong h1
      go_enter Tryz.func5, Tryz.ntmps5
      go_wp2_with (go_at_call 7; ((with_reducible refine (HHD.out _ (Below.refl _ _)).mono ?_); rintro e w3 ⟨rfl, hb⟩); have A3 := Lib.hid hb; clear hb)
      go_ret
      exact ⟨rfl, A3.out⟩
  · have y3 : ¬ 3000 < (str s).size := by omega
    have y4 : ¬ 100 < (str more).size := by omega
    have hsl : s.length ≤ 3000 := by omega
    have hml : more.length ≤ 100 := by omega
    clear z1 z2 hs hm hlong
    rcases oread_cases s with ⟨o, ho, hok⟩ | ⟨er, ln, ho, hne, hln⟩
    · have HOK := Lib.hid hok
      have HP1 := Lib.hid (fun (X : World) (hb : Below w.heap.size w X) => oparse_by (s := s) (by omega) ho X (HL.out X hb))
      have HP2 := Lib.hid (fun (X : World) (hb : Below w.heap.size w X) => oparse_by (s := txtO o) (by have := txtO_len hok; omega) (oread_txt hok) X (HL.out X hb))
      have HP3 := Lib.hid (fun (h2 : o.kind ≠ 2) (X : World) (hb : Below w.heap.size w X) => oparse_by (s := s ++ 32 :: more) (by simp; omega) (oread_more ho h2 more) X (HL.out X hb))
      have HP4 := Lib.hid (fun (X : World) (hb : Below w.heap.size w X) => oparse_by (s := 32 :: s) (by simp; omega) (oread_blank s) X (HL.out X hb))
      have HTX := Lib.hid (fun (X : World) (hb : Below w.heap.size w X) (g : Gh) (hs : SR X o.slip g) => Text_ord o g X hs (SW_ok hok) (OW_ok hok) (HL.out X hb))
      have HCK := Lib.hid (fun (X : World) (hb : Below w.heap.size w X) (g : Gh) (hs : SR X o.slip g) => Check_ord o g X hs (SW_ok hok) (OW_ok hok) (HL.out X hb))
      have HSM := Lib.hid (fun (X : World) (g g' : Gh) (hs : SR X o.slip g) (hs' : SR X o.slip g') => Same_ord o o g g' X hs hs')
      have hc := (chkO_iff o).2 hok
      have HE := Lib.hid (show oE o = 0 ∧ oT o = txtO o by unfold oE oT; rw [if_pos hc, if_pos hc]; exact ⟨rfl, rfl⟩)
      unfold OTextT at HTX
      rw [HE.out.1, HE.out.2] at HTX
      rw [HE.out.1] at HCK
      rw [decide_eq_true (show o = o from rfl)] at HSM
      have htl := txtO_len hok
      unfold oV at HTX HCK HSM
      unfold OPaA at HP1 HP2 HP3 HP4
      simp only [Int.natCast_zero] at HP1 HP2 HP3 HP4
      rw [← sp_one] at HP4
      rw [← sp_two] at HP3
      generalize txtO o = t at *
      clear ho hok hc HE
      go_enter Tryz.func5, Tryz.ntmps5
      go_upto_region 4 with (first
        | (go_at_call 8; ((refine (HP1.out _ (Below.refl _ _)).mono ?_); rintro e w1 ⟨hb, g1, rfl, hs⟩); have HB1 := Lib.hid hb; have HS1 := Lib.hid hs; clear hb hs)
        | (refine wpList_store_row rfl _ _ _ rfl w1.heap.size (ocs o g1) rfl rfl _ _ (boxes_a w1 _ _ _ _) (by kernel_rfl) rfl (ocs_one HS1.out) ?_)
        | (refine wpList_store_row rfl _ _ _ rfl (w1.heap.size + 1) #[.int .i64 0, .int .i64 0] rfl rfl _ _ (boxes_b w1 _ _ _ _ _) (by kernel_rfl) rfl (by kernel_rfl) ?_))
      obtain ⟨W1, hW1, ba1, bb1, bl1⟩ := boxes_end w1 #[.int .u8 0, .int .i64 0, .int .i64 0, .string { data := #[] }, .string { data := #[] }, .string { data := #[] }, .int .i64 0, .bool false, .string { data := #[] }, .int .i64 0, .int .i64 0, .int .i64 0, .slice none 0 0, .int .i64 0, .int .i64 0, .int .i64 0, .string { data := #[] }, .slice none 0 0, .slice none 0 0, .slice none 0 0] #[.int .i64 0, .int .i64 0] (ocs o g1) #[.int .i64 0, .int .i64 0] 29 32
      rw [hW1]
      clear hW1
      have HY1 := Lib.hid (HB1.out.trans (bl1.mono HB1.out.size))
      have HZ1 := Lib.hid (HY1.out)
      have BA1 := Lib.hid ba1
      have BB1 := Lib.hid bb1
      have SA1 := Lib.hid (HS1.out.next bl1)
      clear ba1 bb1 bl1
      generalize w1.heap.size = n1 at *

      have e0 := BB1.out.cell 0 _
      have elt := BB1.out.lt
      have HT1 := Lib.hid (HTX.out W1 HZ1.out g1 SA1.out)
      have HC1 := Lib.hid (fun (X : World) (hX : Below W1.heap.size W1 X) => HCK.out X (HZ1.out.trans (hX.mono HZ1.out.size)) g1 (SA1.out.next hX))
      have HBA := Lib.hid (fun (X : World) (hX : Below W1.heap.size W1 X) => (show OrdB X n1 o g1 from BoxA.next BA1.out hX))
      have e2 : (str t).size ≤ 5819 := by rw [str_size]; exact htl
      go_upto_region 9 with (first
        | (refine wpl_load_g (by kernel_rfl) _ _ rfl n1 rfl _ _ _ _ (HBA.out _ A4.out) Tryz.underlying29 rfl (by kernel_rfl) ?_)
        | (refine wpList_load_row rfl _ _ rfl n1 rfl _ _ _ _ BA1.out Tryz.underlying29 rfl (by kernel_rfl) ?_)
        | (go_at_call 12; ((with_reducible refine HT1.out.mono ?_); rintro e w4 ⟨rfl, hb⟩); have A4 := Lib.hid hb; clear hb)
        | (go_at_call 14; ((with_reducible refine (HC1.out _ A4.out).mono ?_); rintro e w5 ⟨rfl, hb⟩); have A5 := Lib.hid (A4.out.trans (hb.mono A4.out.size)); clear hb))
      have Z5 := Lib.hid (HZ1.out.trans (A5.out.mono HZ1.out.size))
      go_upto_region 10 with (first
        | (go_at_call 8; ((refine (HP2.out _ Z5.out).mono ?_); rintro e w2 ⟨hb, g2, rfl, hs⟩); have HB2 := Lib.hid hb; have HS2 := Lib.hid hs; clear hb hs)
        | (refine wpList_store_row rfl _ _ _ rfl w2.heap.size (ocs o g2) rfl rfl _ _ (boxes_a w2 _ _ _ _) (by kernel_rfl) rfl (ocs_one HS2.out) ?_)
        | (refine wpList_store_row rfl _ _ _ rfl (w2.heap.size + 1) #[.int .i64 0, .int .i64 0] rfl rfl _ _ (boxes_b w2 _ _ _ _ _) (by kernel_rfl) rfl (by kernel_rfl) ?_))
      obtain ⟨W2, hW2, ba2, bb2, bl2⟩ := boxes_end w2 #[.int .u8 0, .int .i64 0, .int .i64 0, .string { data := #[] }, .string { data := #[] }, .string { data := #[] }, .int .i64 0, .bool false, .string { data := #[] }, .int .i64 0, .int .i64 0, .int .i64 0, .slice none 0 0, .int .i64 0, .int .i64 0, .int .i64 0, .string { data := #[] }, .slice none 0 0, .slice none 0 0, .slice none 0 0] #[.int .i64 0, .int .i64 0] (ocs o g2) #[.int .i64 0, .int .i64 0] 29 32
      rw [hW2]
      clear hW2
      have HY2 := Lib.hid (HB2.out.trans (bl2.mono HB2.out.size))
      have HZ2 := Lib.hid (Below.trans Z5.out (HY2.out.mono (Below.size Z5.out)))
      have BA2 := Lib.hid ba2
      have BB2 := Lib.hid bb2
      have SA2 := Lib.hid (HS2.out.next bl2)
      clear ba2 bb2 bl2
      generalize w2.heap.size = n2 at *

      have HA1 := Lib.hid ((HBA.out _ A5.out).next HY2.out)
      have HSA1 := Lib.hid ((SA1.out.next A5.out).next HY2.out)
      have e3 := BB2.out.cell 0 _
      have elt2 := BB2.out.lt
      have HS12 := Lib.hid (HSM.out W2 g1 g2 HSA1.out SA2.out)
      clear e0 elt
      go_upto_region 12 with (first
        | (refine wpl_load_g (by kernel_rfl) _ _ rfl n1 rfl _ _ _ _ HA1.out Tryz.underlying29 rfl (by kernel_rfl) ?_)
        | (refine wpl_load_g (by kernel_rfl) _ _ rfl n2 rfl _ _ _ _ BA2.out Tryz.underlying29 rfl (by kernel_rfl) ?_)
        | (go_at_call 15; ((with_reducible refine HS12.out.mono ?_); rintro e w6 ⟨rfl, hb⟩); have A6 := Lib.hid hb; clear hb))
      have c1 : w6.cell? ⟨n1, 0, none⟩ = some (.int .u8 (o.kind : Nat)) := BoxA.cell (HA1.out.next A6.out) 0 _
      have clt1 := (HA1.out.next A6.out).lt
      have Z6 := Lib.hid (HZ2.out.trans (A6.out.mono HZ2.out.size))
      by_cases h2 : o.kind = 2
      · rw [h2] at c1
        clear h2 HP3
        go_wp2_with (go_at_call 7; ((with_reducible refine (HHD.out _ Z6.out).mono ?_); rintro e w7 ⟨rfl, hb⟩); have A7 := Lib.hid (Z6.out.trans (hb.mono Z6.out.size)); clear hb)
        go_ret
        exact ⟨rfl, A7.out⟩
      · have q2 : ((o.kind : Int) == 2) = false := by rw [beq_eq_false_iff_ne]; omega
        have q3 : ¬ o.kind = 2 := h2
        have HP3' := Lib.hid (HP3.out h2)
        have y5 : (str s).size ≤ 3000 := by omega
        have y6 : (str more).size ≤ 100 := by omega
        clear h2 HP3
        go_upto_region 15 with (first
          | (go_at_call 8; ((refine (HP3'.out _ Z6.out).mono ?_); rintro e w3 ⟨hb, g3, rfl, hs⟩); have HB3 := Lib.hid hb; have HS3 := Lib.hid hs; clear hb hs)
          | (refine wpList_store_row rfl _ _ _ rfl w3.heap.size (ocs Ord.zero g3) rfl rfl _ _ (boxes_a w3 _ _ _ _) (by kernel_rfl) rfl (ocs_one HS3.out) ?_)
          | (refine wpList_store_row rfl _ _ _ rfl (w3.heap.size + 1) #[.int .i64 160, .int .i64 1] rfl rfl _ _ (boxes_b w3 _ _ _ _ _) (by kernel_rfl) rfl (by kernel_rfl) ?_))
        obtain ⟨W3, hW3, ba3, bb3, bl3⟩ := boxes_end w3 #[.int .u8 0, .int .i64 0, .int .i64 0, .string { data := #[] }, .string { data := #[] }, .string { data := #[] }, .int .i64 0, .bool false, .string { data := #[] }, .int .i64 0, .int .i64 0, .int .i64 0, .slice none 0 0, .int .i64 0, .int .i64 0, .int .i64 0, .string { data := #[] }, .slice none 0 0, .slice none 0 0, .slice none 0 0] #[.int .i64 0, .int .i64 0] (ocs Ord.zero g3) #[.int .i64 160, .int .i64 1] 29 32
        rw [hW3]
        clear hW3
        have HY3 := Lib.hid (HB3.out.trans (bl3.mono HB3.out.size))
        have HZ3 := Lib.hid (Below.trans Z6.out (HY3.out.mono (Below.size Z6.out)))
        have BA3 := Lib.hid ba3
        have BB3 := Lib.hid bb3
        have SA3 := Lib.hid (HS3.out.next bl3)
        clear ba3 bb3 bl3
        generalize w3.heap.size = n3 at *
        go_upto_region 16 with (first
          | (go_at_call 8; ((refine (HP4.out _ HZ3.out).mono ?_); rintro e w4 ⟨hb, g4, rfl, hs⟩); have HB4 := Lib.hid hb; have HS4 := Lib.hid hs; clear hb hs)
          | (refine wpList_store_row rfl _ _ _ rfl w4.heap.size (ocs Ord.zero g4) rfl rfl _ _ (boxes_a w4 _ _ _ _) (by kernel_rfl) rfl (ocs_one HS4.out) ?_)
          | (refine wpList_store_row rfl _ _ _ rfl (w4.heap.size + 1) #[.int .i64 160, .int .i64 1] rfl rfl _ _ (boxes_b w4 _ _ _ _ _) (by kernel_rfl) rfl (by kernel_rfl) ?_))
        obtain ⟨W4, hW4, ba4, bb4, bl4⟩ := boxes_end w4 #[.int .u8 0, .int .i64 0, .int .i64 0, .string { data := #[] }, .string { data := #[] }, .string { data := #[] }, .int .i64 0, .bool false, .string { data := #[] }, .int .i64 0, .int .i64 0, .int .i64 0, .slice none 0 0, .int .i64 0, .int .i64 0, .int .i64 0, .string { data := #[] }, .slice none 0 0, .slice none 0 0, .slice none 0 0] #[.int .i64 0, .int .i64 0] (ocs Ord.zero g4) #[.int .i64 160, .int .i64 1] 29 32
        rw [hW4]
        clear hW4
        have HY4 := Lib.hid (HB4.out.trans (bl4.mono HB4.out.size))
        have HZ4 := Lib.hid (Below.trans HZ3.out (HY4.out.mono (Below.size HZ3.out)))
        have BA4 := Lib.hid ba4
        have BB4 := Lib.hid bb4
        have SA4 := Lib.hid (HS4.out.next bl4)
        clear ba4 bb4 bl4
        generalize w4.heap.size = n4 at *

        have HB34 := Lib.hid (BB3.out.next HY4.out)
        have s0 := HB34.out.cell 0 _
        have s1 := HB34.out.cell 1 _
        have sl := HB34.out.lt
        have s2 := BB4.out.cell 0 _
        have s3 := BB4.out.cell 1 _
        have sl2 := BB4.out.lt
        have p2 : ∀ W, (binOp .eql 32 (.agg #[.int .i64 160, .int .i64 1]) (.agg #[.int .i64 160, .int .i64 1])).run Tryz.prog W = .ok (.bool true) W := fun W => spot_eq 160 1 160 1 W
        go_wp2_with (go_at_call 7; ((with_reducible refine (HHD.out _ HZ4.out).mono ?_); rintro e w7 ⟨rfl, hb⟩); have A7 := Lib.hid (HZ4.out.trans (hb.mono HZ4.out.size)); clear hb)
        go_ret
        exact ⟨rfl, A7.out⟩
    · have HP1 := Lib.hid (fun (X : World) (hb : Below w.heap.size w X) => oparse_by (s := s) (by omega) ho X (HL.out X hb))
      have HSM := Lib.hid (fun (X : World) (g g' : Gh) (hs : SR X Slip.zero g) (hs' : SR X Slip.zero g') => Same_ord Ord.zero Ord.zero g g' X hs hs')
      rw [decide_eq_true (show Ord.zero = Ord.zero from rfl)] at HSM
      unfold oV at HSM
      unfold OPaA at HP1
      have q0 : (er != 0) = true := by simp; exact hne
      have q1 : decide (1 ≤ (ln : Int)) = true := decide_eq_true (by omega)
      clear ho hsl hml
      go_enter Tryz.func5, Tryz.ntmps5
      go_upto_region 4 with (first
        | (go_at_call 8; ((refine (HP1.out _ (Below.refl _ _)).mono ?_); rintro e w1 ⟨hb, g1, rfl, hs⟩); have HB1 := Lib.hid hb; have HS1 := Lib.hid hs; clear hb hs)
        | (refine wpList_store_row rfl _ _ _ rfl w1.heap.size (ocs Ord.zero g1) rfl rfl _ _ (boxes_a w1 _ _ _ _) (by kernel_rfl) rfl (ocs_one HS1.out) ?_)
        | (refine wpList_store_row rfl _ _ _ rfl (w1.heap.size + 1) #[.int .i64 er, .int .i64 (ln : Int)] rfl rfl _ _ (boxes_b w1 _ _ _ _ _) (by kernel_rfl) rfl (by kernel_rfl) ?_))
      obtain ⟨W1, hW1, ba1, bb1, bl1⟩ := boxes_end w1 #[.int .u8 0, .int .i64 0, .int .i64 0, .string { data := #[] }, .string { data := #[] }, .string { data := #[] }, .int .i64 0, .bool false, .string { data := #[] }, .int .i64 0, .int .i64 0, .int .i64 0, .slice none 0 0, .int .i64 0, .int .i64 0, .int .i64 0, .string { data := #[] }, .slice none 0 0, .slice none 0 0, .slice none 0 0] #[.int .i64 0, .int .i64 0] (ocs Ord.zero g1) #[.int .i64 er, .int .i64 (ln : Int)] 29 32
      rw [hW1]
      clear hW1
      have HY1 := Lib.hid (HB1.out.trans (bl1.mono HB1.out.size))
      have HZ1 := Lib.hid (HY1.out)
      have BA1 := Lib.hid ba1
      have BB1 := Lib.hid bb1
      have SA1 := Lib.hid (HS1.out.next bl1)
      clear ba1 bb1 bl1
      generalize w1.heap.size = n1 at *

      have e0 := BB1.out.cell 0 _
      have e1 := BB1.out.cell 1 _
      have elt := BB1.out.lt
      have HSZ := Lib.hid (HSM.out W1 g1 g0 SA1.out (sr_zero _))
      rw [zO_eq] at HSZ
      unfold zO at HSZ
      have HCE := Lib.hid (fun (X : World) (hX : Below W1.heap.size W1 X) => And.intro ((BB1.out.next hX).cell 1 _) (BB1.out.next hX).lt)
      go_wp2_with (first
        | (refine wpList_load_row rfl _ _ rfl n1 rfl _ _ _ _ BA1.out Tryz.underlying29 rfl (by kernel_rfl) ?_)
        | (go_at_call 15; ((with_reducible refine HSZ.out.mono ?_); rintro e w2 ⟨rfl, hb⟩); have A2 := Lib.hid (HZ1.out.trans (hb.mono HZ1.out.size)); obtain ⟨e1, elt⟩ := HCE.out _ hb; clear hb)
        | (go_at_call 7; ((with_reducible refine (HHD.out _ A2.out).mono ?_); rintro e w3 ⟨rfl, hb⟩); have A3 := Lib.hid (A2.out.trans (hb.mono A2.out.size)); clear hb))
      go_ret
      exact ⟨rfl, A3.out⟩
end Go.Proofs.YtekcjfdllclphaaGreatDoor.gn
end
section
set_option linter.unusedVariables false
set_option linter.unusedSimpArgs false
namespace Go.Proofs.YtekcjfdllclphaaGreatDoor.gn
open Go.RowKit
open Go.Proofs.YtekcjfdllclphaaGreatDoor.un
open Go.Proofs.YtekcjfdllclphaaGreatDoor.di
open Go.Proofs.YtekcjfdllclphaaGreatDoor.sp (Slip)
open Go.Proofs.YtekcjfdllclphaaGreatDoor.od (Ord OkO oread chkO chkO_iff txtO oread_cases oread_txt oread_more oread_blank txtO_len txtO_inj)

/-- Two boxes of orders, made. -/
theorem two_orders (w : World) (x y : Ord) (g g' : Gh) : ∃ W, (w.alloc (.cells (ocs x g) 29)).alloc (.cells (ocs y g') 29) = W ∧ OrdB W w.heap.size x g ∧ OrdB W (w.heap.size + 1) y g' ∧ Below w.heap.size w W := made2 w (ocs x g) (ocs y g') 29 29
set_option maxRecDepth 100000 in
set_option maxHeartbeats 16000000 in
theorem kinds_law (x y : Ord) (gx gy : Gh) (w : World) (hx : SR w x.slip gx) (hy : SR w y.slip gy) (ax : OA x) (ay : OA y) (hL : LaidD w) : Calls Tryz.prog 6 #[oV x gx, oV y gy] w (Told (.bool true) w) := by
  obtain ⟨W, hW, bx, by_, lW⟩ := two_orders w x y gx gy
  have HL := Lib.hid (fun (X : World) (hb : Below w.heap.size w X) => hL.next hb)
  have HHD := Lib.hid (fun (X : World) (hb : Below w.heap.size w X) => ohead_yes X (hL.next hb))
  have HW := Lib.hid hW
  have LW := Lib.hid lW
  have HGX := Lib.hid (ogreat_any x gx W (hx.next lW) ax)
  have HGY := Lib.hid (fun (X : World) (hb : Below W.heap.size W X) => ogreat_any y gy X ((hy.next lW).next hb) ay)
  have HBX := Lib.hid (fun (X : World) (hb : Below W.heap.size W X) => bx.next hb)
  have HBY := Lib.hid (fun (X : World) (hb : Below W.heap.size W X) => by_.next hb)
  have HSX := Lib.hid (fun (X : World) (hb : Below W.heap.size W X) => (hx.next lW).next hb)
  have HSY := Lib.hid (fun (X : World) (hb : Below W.heap.size W X) => (hy.next lW).next hb)
  have HUP := Lib.hid (fun (X : World) (hb : Below W.heap.size W X) => (show Below w.heap.size w X from lW.trans (hb.mono lW.size)))
  have HAX := Lib.hid ax
  have HAY := Lib.hid ay
  unfold OGrT oV at HGX HGY
  have hbx := bx
  have hby := by_
  clear hx hy ax ay hL hW lW bx by_
  go_enter Tryz.func6, Tryz.ntmps6
  apply wp_seq_k
  intro K hK
  apply wp_region_lit
  refine Great.wpList_boxTo rfl _ _ rfl _ rfl w.heap.size rfl (ocs x gx) rfl ?_
  simp only [Act.put, List.setIfInBounds_toArray, List.set_cons_zero, List.set_cons_succ]
  refine Great.wpList_boxTo rfl _ _ rfl _ rfl (w.heap.size + 1) (World.size_alloc _ _) (ocs y gy) rfl ?_
  rw [HW.out]
  simp only [Act.put, List.setIfInBounds_toArray, List.set_cons_zero, List.set_cons_succ]
  go_upto_region 3 with (first
    | (refine wpl_load_g (by rfl) _ _ rfl w.heap.size rfl _ _ _ _ hbx Tryz.underlying29 rfl (by kernel_rfl) ?_)
    | (refine wpl_load_g (by rfl) _ _ rfl (w.heap.size + 1) rfl _ _ _ _ (HBY.out _ A1.out) Tryz.underlying29 rfl (by kernel_rfl) ?_)
    | (go_at_call 11; ((with_reducible refine HGX.out.mono ?_); rintro e w1 ⟨b1, rfl, hk1, hb⟩); have A1 := Lib.hid hb; have K1 := Lib.hid hk1; clear hb hk1; cases b1)
    | (go_at_call 11; ((with_reducible refine (HGY.out _ A1.out).mono ?_); rintro e w2 ⟨b2, rfl, hk2, hb⟩); have A2 := Lib.hid (A1.out.trans (hb.mono A1.out.size)); have K2 := Lib.hid hk2; clear hb hk2; cases b2)
    | (go_at_call 7; ((with_reducible refine (HHD.out _ (HUP.out _ (by first | exact A2.out | exact A1.out))).mono ?_); rintro e w3 ⟨rfl, hb⟩); have A3 := Lib.hid (Below.trans (HUP.out _ (by first | exact A2.out | exact A1.out)) (hb.mono (Below.size (HUP.out _ (by first | exact A2.out | exact A1.out))))); clear hb))
  rotate_left
  · go_ret
    exact ⟨rfl, A3.out⟩
  · go_ret
    exact ⟨rfl, A3.out⟩
  have lx := K1.out (by trivial)
  have ly := K2.out (by trivial)
  have HOX := Lib.hid (HAX.out.ow lx)
  have HOY := Lib.hid (HAY.out.ow ly)
  have HTX := Lib.hid (fun (X : World) (hb : Below W.heap.size W X) => Text_ord x gx X (HSX.out X hb) HAX.out.slip HOX.out (HL.out X (HUP.out X hb)))
  have HTY := Lib.hid (fun (X : World) (hb : Below W.heap.size W X) => Text_ord y gy X (HSY.out X hb) HAY.out.slip HOY.out (HL.out X (HUP.out X hb)))
  have HSM := Lib.hid (fun (X : World) (hb : Below W.heap.size W X) => Same_ord x y gx gy X (HSX.out X hb) (HSY.out X hb))
  unfold OTextT oV at HTX HTY
  unfold oV at HSM
  clear lx ly hbx hby K1 K2 HGX HGY HSX HSY HAX HAY HOX HOY
  by_cases cx : chkO x = true
  rotate_left
  · have HE := Lib.hid (show oE x = 160 by unfold oE; rw [if_neg cx])
    rw [HE.out] at HTX
    clear cx HSM
    go_wp2_with (first
      | (refine wpl_load_g (by rfl) _ _ rfl w.heap.size rfl _ _ _ _ (HBX.out _ A2.out) Tryz.underlying29 rfl (by kernel_rfl) ?_)
      | (refine wpl_load_g (by rfl) _ _ rfl (w.heap.size + 1) rfl _ _ _ _ (HBY.out _ A3.out) Tryz.underlying29 rfl (by kernel_rfl) ?_)
      | (go_at_call 12; ((with_reducible refine (HTX.out _ A2.out).mono ?_); rintro e w3 ⟨rfl, hb⟩); have A3 := Lib.hid (A2.out.trans (hb.mono A2.out.size)); clear hb)
      | (go_at_call 12; ((with_reducible refine (HTY.out _ A3.out).mono ?_); rintro e w4 ⟨rfl, hb⟩); have A4 := Lib.hid (A3.out.trans (hb.mono A3.out.size)); clear hb)
      | (go_at_call 7; ((with_reducible refine (HHD.out _ (HUP.out _ A4.out)).mono ?_); rintro e w5 ⟨rfl, hb⟩); have A5 := Lib.hid (Below.trans (HUP.out _ A4.out) (hb.mono (Below.size (HUP.out _ A4.out)))); clear hb))
    go_ret
    exact ⟨rfl, A5.out⟩
  have HEX := Lib.hid (show oE x = 0 ∧ oT x = txtO x by unfold oE oT; rw [if_pos cx, if_pos cx]; exact ⟨rfl, rfl⟩)
  rw [HEX.out.1, HEX.out.2] at HTX
  by_cases cy : chkO y = true
  rotate_left
  · have HE := Lib.hid (show oE y = 160 by unfold oE; rw [if_neg cy])
    rw [HE.out] at HTY
    generalize txtO x = tx at *
    clear cx cy HSM HEX
    go_wp2_with (first
      | (refine wpl_load_g (by rfl) _ _ rfl w.heap.size rfl _ _ _ _ (HBX.out _ A2.out) Tryz.underlying29 rfl (by kernel_rfl) ?_)
      | (refine wpl_load_g (by rfl) _ _ rfl (w.heap.size + 1) rfl _ _ _ _ (HBY.out _ A3.out) Tryz.underlying29 rfl (by kernel_rfl) ?_)
      | (go_at_call 12; ((with_reducible refine (HTX.out _ A2.out).mono ?_); rintro e w3 ⟨rfl, hb⟩); have A3 := Lib.hid (A2.out.trans (hb.mono A2.out.size)); clear hb)
      | (go_at_call 12; ((with_reducible refine (HTY.out _ A3.out).mono ?_); rintro e w4 ⟨rfl, hb⟩); have A4 := Lib.hid (A3.out.trans (hb.mono A3.out.size)); clear hb)
      | (go_at_call 7; ((with_reducible refine (HHD.out _ (HUP.out _ A4.out)).mono ?_); rintro e w5 ⟨rfl, hb⟩); have A5 := Lib.hid (Below.trans (HUP.out _ A4.out) (hb.mono (Below.size (HUP.out _ A4.out)))); clear hb))
    go_ret
    exact ⟨rfl, A5.out⟩
  have HEY := Lib.hid (show oE y = 0 ∧ oT y = txtO y by unfold oE oT; rw [if_pos cy, if_pos cy]; exact ⟨rfl, rfl⟩)
  rw [HEY.out.1, HEY.out.2] at HTY
  have okx := (chkO_iff x).1 cx
  have oky := (chkO_iff y).1 cy
  have HPX := Lib.hid (fun (X : World) (hb : Below w.heap.size w X) => oparse_by (s := txtO x) (by have := txtO_len okx; omega) (oread_txt okx) X (HL.out X hb))
  have HPY := Lib.hid (fun (X : World) (hb : Below w.heap.size w X) => oparse_by (s := txtO y) (by have := txtO_len oky; omega) (oread_txt oky) X (HL.out X hb))
  unfold OPaA at HPX HPY
  simp only [Int.natCast_zero] at HPX HPY
  have HIJ := Lib.hid (txtO_inj okx oky)
  obtain ⟨tx, htx⟩ : ∃ t, txtO x = t := ⟨_, rfl⟩
  obtain ⟨ty, hty⟩ : ∃ t, txtO y = t := ⟨_, rfl⟩
  rw [htx] at HTX HPX HIJ
  rw [hty] at HTY HPY HIJ
  obtain ⟨bq, hbq⟩ : ∃ b, decide (x = y) = b := ⟨_, rfl⟩
  have q1 : ((str tx).toList == (str ty).toList) = bq := by rw [eq_str, ← hbq]; exact decide_eq_decide.2 HIJ.out
  have q2 : decide ((str tx).toList = (str ty).toList) = bq := by rw [str_toList, str_toList, ← hbq]; exact decide_eq_decide.2 HIJ.out
  rw [hbq] at HSM
  clear htx hty hbq cx cy okx oky HIJ HEX HEY
  go_upto_region 7 with (first
    | (refine wpl_load_g (by rfl) _ _ rfl w.heap.size rfl _ _ _ _ (HBX.out _ A2.out) Tryz.underlying29 rfl (by kernel_rfl) ?_)
    | (refine wpl_load_g (by rfl) _ _ rfl (w.heap.size + 1) rfl _ _ _ _ (HBY.out _ A3.out) Tryz.underlying29 rfl (by kernel_rfl) ?_)
    | (go_at_call 12; ((with_reducible refine (HTX.out _ A2.out).mono ?_); rintro e w3 ⟨rfl, hb⟩); have A3 := Lib.hid (A2.out.trans (hb.mono A2.out.size)); clear hb)
    | (go_at_call 12; ((with_reducible refine (HTY.out _ A3.out).mono ?_); rintro e w4 ⟨rfl, hb⟩); have A4 := Lib.hid (A3.out.trans (hb.mono A3.out.size)); clear hb))
  cases bq
  all_goals
    go_upto_region 9 with (first
      | (refine wpl_load_g (by rfl) _ _ rfl w.heap.size rfl _ _ _ _ (HBX.out _ A4.out) Tryz.underlying29 rfl (by kernel_rfl) ?_)
      | (refine wpl_load_g (by rfl) _ _ rfl (w.heap.size + 1) rfl _ _ _ _ (HBY.out _ A4.out) Tryz.underlying29 rfl (by kernel_rfl) ?_)
      | (go_at_call 15; ((with_reducible refine (HSM.out _ A4.out).mono ?_); rintro e w5 ⟨rfl, hb⟩); have A5 := Lib.hid (A4.out.trans (hb.mono A4.out.size)); have U5 := Lib.hid (HUP.out _ A5.out); clear hb))
    go_upto_region 10 with (first
      | (go_at_call 8; ((refine (HPX.out _ U5.out).mono ?_); rintro e w1 ⟨hb, g1, rfl, hs⟩); have HB1 := Lib.hid hb; have HS1 := Lib.hid hs; clear hb hs)
      | (refine wpList_store_row rfl _ _ _ rfl w1.heap.size (ocs x g1) rfl rfl _ _ (boxes_a w1 _ _ _ _) (by kernel_rfl) rfl (ocs_one HS1.out) ?_)
      | (refine wpList_store_row rfl _ _ _ rfl (w1.heap.size + 1) #[.int .i64 0, .int .i64 0] rfl rfl _ _ (boxes_b w1 _ _ _ _ _) (by kernel_rfl) rfl (by kernel_rfl) ?_))
    obtain ⟨W1, hW1, ba1, bb1, bl1⟩ := boxes_end w1 #[.int .u8 0, .int .i64 0, .int .i64 0, .string { data := #[] }, .string { data := #[] }, .string { data := #[] }, .int .i64 0, .bool false, .string { data := #[] }, .int .i64 0, .int .i64 0, .int .i64 0, .slice none 0 0, .int .i64 0, .int .i64 0, .int .i64 0, .string { data := #[] }, .slice none 0 0, .slice none 0 0, .slice none 0 0] #[.int .i64 0, .int .i64 0] (ocs x g1) #[.int .i64 0, .int .i64 0] 29 32
    rw [hW1]
    clear hW1
    have HY1 := Lib.hid (HB1.out.trans (bl1.mono HB1.out.size))
    have HZ1 := Lib.hid (Below.trans U5.out (HY1.out.mono (Below.size U5.out)))
    have BA1 := Lib.hid ba1
    have BB1 := Lib.hid bb1
    have SA1 := Lib.hid (HS1.out.next bl1)
    clear ba1 bb1 bl1
    generalize w1.heap.size = n1 at *
    go_upto_region 11 with (first
      | (go_at_call 8; ((refine (HPY.out _ HZ1.out).mono ?_); rintro e w2 ⟨hb, g2, rfl, hs⟩); have HB2 := Lib.hid hb; have HS2 := Lib.hid hs; clear hb hs)
      | (refine wpList_store_row rfl _ _ _ rfl w2.heap.size (ocs y g2) rfl rfl _ _ (boxes_a w2 _ _ _ _) (by kernel_rfl) rfl (ocs_one HS2.out) ?_)
      | (refine wpList_store_row rfl _ _ _ rfl (w2.heap.size + 1) #[.int .i64 0, .int .i64 0] rfl rfl _ _ (boxes_b w2 _ _ _ _ _) (by kernel_rfl) rfl (by kernel_rfl) ?_))
    obtain ⟨W2, hW2, ba2, bb2, bl2⟩ := boxes_end w2 #[.int .u8 0, .int .i64 0, .int .i64 0, .string { data := #[] }, .string { data := #[] }, .string { data := #[] }, .int .i64 0, .bool false, .string { data := #[] }, .int .i64 0, .int .i64 0, .int .i64 0, .slice none 0 0, .int .i64 0, .int .i64 0, .int .i64 0, .string { data := #[] }, .slice none 0 0, .slice none 0 0, .slice none 0 0] #[.int .i64 0, .int .i64 0] (ocs y g2) #[.int .i64 0, .int .i64 0] 29 32
    rw [hW2]
    clear hW2
    have HY2 := Lib.hid (HB2.out.trans (bl2.mono HB2.out.size))
    have HZ2 := Lib.hid (Below.trans HZ1.out (HY2.out.mono (Below.size HZ1.out)))
    have BA2 := Lib.hid ba2
    have BB2 := Lib.hid bb2
    have SA2 := Lib.hid (HS2.out.next bl2)
    clear ba2 bb2 bl2
    generalize w2.heap.size = n2 at *

    have D5 := Lib.hid (A5.out.trans ((HY1.out.trans (HY2.out.mono HY1.out.size)).mono A5.out.size))
    have x0 : W2.cell? ⟨w.heap.size, 0, none⟩ = some (.int .u8 (x.kind : Nat)) := BoxA.cell (HBX.out _ D5.out) 0 _
    have y0 : W2.cell? ⟨w.heap.size + 1, 0, none⟩ = some (.int .u8 (y.kind : Nat)) := BoxA.cell (HBY.out _ D5.out) 0 _
    have a0 : W2.cell? ⟨n1, 0, none⟩ = some (.int .u8 (x.kind : Nat)) := BoxA.cell (BA1.out.next HY2.out) 0 _
    have b0 : W2.cell? ⟨n2, 0, none⟩ = some (.int .u8 (y.kind : Nat)) := BoxA.cell BA2.out 0 _
    have s0 := (BB1.out.next HY2.out).cell 0 _
    have s1 := BB2.out.cell 0 _
    have l1 : w.heap.size < W2.heap.size := OrdB.lt (HBX.out _ D5.out)
    have l2 : w.heap.size + 1 < W2.heap.size := OrdB.lt (HBY.out _ D5.out)
    have l3 := (BB1.out.next HY2.out).lt
    have l4 := BB2.out.lt
    have l5 := (BA1.out.next HY2.out).lt
    have l6 := BA2.out.lt
    go_wp2_with (go_at_call 7; ((with_reducible refine (HHD.out _ HZ2.out).mono ?_); rintro e w7 ⟨rfl, hb⟩); have A7 := Lib.hid (HZ2.out.trans (hb.mono HZ2.out.size)); clear hb)
    go_ret
    exact ⟨rfl, A7.out⟩
end Go.Proofs.YtekcjfdllclphaaGreatDoor.gn
end
