/- The head of the law file. (Written by gen_diV.py.) -/
import Derived.Test.YtfocnipdmckojaaDoorDiJ
import Derived.Test.YtfocnipdmckojaaDoorDiL
set_option linter.unusedVariables false
namespace Go.Proofs.YtfocnipdmckojaaDoor.gn
open Go.RowKit
open Go.Proofs.YtfocnipdmckojaaDoor.un
open Go.Proofs.YtfocnipdmckojaaDoor.di

set_option maxRecDepth 100000 in
theorem head_p1 (W : World) (h : LaidD W) : Calls Tryd.prog 8 #[.string { data := #[35, 66, 66, 32, 106, 111, 98, 100, 119, 32, 112, 111, 111, 108, 61, 112, 32, 99, 97, 112, 97, 99, 105, 116, 121, 61, 50, 75, 105, 66] }] W (Told (.tuple #[.agg #[.int .u8 1, .string { data := #[] }, .string { data := #[112] }, .int .i64 2048, .bool false], .int .i64 0]) W) := by
  have e1 : ldir [35, 66, 66, 32, 106, 111, 98, 100, 119, 32, 112, 111, 111, 108, 61, 112, 32, 99, 97, 112, 97, 99, 105, 116, 121, 61, 50, 75, 105, 66] = (⟨1, [], [112], 2048, false⟩ : Dir) := by kernel_rfl
  have e2 : lerr [35, 66, 66, 32, 106, 111, 98, 100, 119, 32, 112, 111, 111, 108, 61, 112, 32, 99, 97, 112, 97, 99, 105, 116, 121, 61, 50, 75, 105, 66] = 0 := by kernel_rfl
  refine (Parse_any [35, 66, 66, 32, 106, 111, 98, 100, 119, 32, 112, 111, 111, 108, 61, 112, 32, 99, 97, 112, 97, 99, 105, 116, 121, 61, 50, 75, 105, 66] (by decide) W h).mono ?_
  rintro e w' ⟨he, hb⟩
  exact ⟨by rw [he, e1, e2]; rfl, hb⟩
set_option maxRecDepth 100000 in
theorem head_p2 (W : World) (h : LaidD W) : Calls Tryd.prog 8 #[.string { data := #[35, 66, 66, 32, 99, 114, 101, 97, 116, 101, 95, 112, 101, 114, 115, 105, 115, 116, 101, 110, 116, 32, 110, 97, 109, 101, 61, 97, 32, 99, 97, 112, 97, 99, 105, 116, 121, 61, 49, 32, 112, 111, 111, 108, 61, 112, 32, 97, 99, 99, 101, 115, 115, 61, 112, 117, 98, 108, 105, 99] }] W (Told (.tuple #[.agg #[.int .u8 4, .string { data := #[97] }, .string { data := #[112] }, .int .i64 1, .bool true], .int .i64 0]) W) := by
  have e1 : ldir [35, 66, 66, 32, 99, 114, 101, 97, 116, 101, 95, 112, 101, 114, 115, 105, 115, 116, 101, 110, 116, 32, 110, 97, 109, 101, 61, 97, 32, 99, 97, 112, 97, 99, 105, 116, 121, 61, 49, 32, 112, 111, 111, 108, 61, 112, 32, 97, 99, 99, 101, 115, 115, 61, 112, 117, 98, 108, 105, 99] = (⟨4, [97], [112], 1, true⟩ : Dir) := by kernel_rfl
  have e2 : lerr [35, 66, 66, 32, 99, 114, 101, 97, 116, 101, 95, 112, 101, 114, 115, 105, 115, 116, 101, 110, 116, 32, 110, 97, 109, 101, 61, 97, 32, 99, 97, 112, 97, 99, 105, 116, 121, 61, 49, 32, 112, 111, 111, 108, 61, 112, 32, 97, 99, 99, 101, 115, 115, 61, 112, 117, 98, 108, 105, 99] = 0 := by kernel_rfl
  refine (Parse_any [35, 66, 66, 32, 99, 114, 101, 97, 116, 101, 95, 112, 101, 114, 115, 105, 115, 116, 101, 110, 116, 32, 110, 97, 109, 101, 61, 97, 32, 99, 97, 112, 97, 99, 105, 116, 121, 61, 49, 32, 112, 111, 111, 108, 61, 112, 32, 97, 99, 99, 101, 115, 115, 61, 112, 117, 98, 108, 105, 99] (by decide) W h).mono ?_
  rintro e w' ⟨he, hb⟩
  exact ⟨by rw [he, e1, e2]; rfl, hb⟩
set_option maxRecDepth 100000 in
theorem head_p3 (W : World) (h : LaidD W) : Calls Tryd.prog 8 #[.string { data := #[35, 66, 66, 32, 115, 116, 97, 103, 101, 95, 105, 110, 32, 115, 105, 122, 101, 61, 48] }] W (Told (.tuple #[.agg #[.int .u8 0, .string { data := #[] }, .string { data := #[] }, .int .i64 0, .bool false], .int .i64 140]) W) := by
  have e1 : ldir [35, 66, 66, 32, 115, 116, 97, 103, 101, 95, 105, 110, 32, 115, 105, 122, 101, 61, 48] = (⟨0, [], [], 0, false⟩ : Dir) := by kernel_rfl
  have e2 : lerr [35, 66, 66, 32, 115, 116, 97, 103, 101, 95, 105, 110, 32, 115, 105, 122, 101, 61, 48] = 140 := by kernel_rfl
  refine (Parse_any [35, 66, 66, 32, 115, 116, 97, 103, 101, 95, 105, 110, 32, 115, 105, 122, 101, 61, 48] (by decide) W h).mono ?_
  rintro e w' ⟨he, hb⟩
  exact ⟨by rw [he, e1, e2]; rfl, hb⟩
set_option maxRecDepth 100000 in
theorem head_p4 (W : World) (h : LaidD W) : Calls Tryd.prog 8 #[.string { data := #[35, 66, 66, 32, 117, 115, 101, 95, 112, 101, 114, 115, 105, 115, 116, 101, 110, 116] }] W (Told (.tuple #[.agg #[.int .u8 0, .string { data := #[] }, .string { data := #[] }, .int .i64 0, .bool false], .int .i64 140]) W) := by
  have e1 : ldir [35, 66, 66, 32, 117, 115, 101, 95, 112, 101, 114, 115, 105, 115, 116, 101, 110, 116] = (⟨0, [], [], 0, false⟩ : Dir) := by kernel_rfl
  have e2 : lerr [35, 66, 66, 32, 117, 115, 101, 95, 112, 101, 114, 115, 105, 115, 116, 101, 110, 116] = 140 := by kernel_rfl
  refine (Parse_any [35, 66, 66, 32, 117, 115, 101, 95, 112, 101, 114, 115, 105, 115, 116, 101, 110, 116] (by decide) W h).mono ?_
  rintro e w' ⟨he, hb⟩
  exact ⟨by rw [he, e1, e2]; rfl, hb⟩
set_option maxRecDepth 100000 in
theorem head_t (W : World) (h : LaidD W) : Calls Tryd.prog 11 #[.agg #[.int .u8 1, .string { data := #[] }, .string { data := #[112] }, .int .i64 2048, .bool false]] W (Told (.tuple #[.string { data := #[35, 66, 66, 32, 106, 111, 98, 100, 119, 32, 99, 97, 112, 97, 99, 105, 116, 121, 61, 50, 75, 105, 66, 32, 112, 111, 111, 108, 61, 112] }, .int .i64 0]) W) := by
  have e1 : tT (⟨1, [], [112], 2048, false⟩ : Dir) = [35, 66, 66, 32, 106, 111, 98, 100, 119, 32, 99, 97, 112, 97, 99, 105, 116, 121, 61, 50, 75, 105, 66, 32, 112, 111, 111, 108, 61, 112] := by kernel_rfl
  have e2 : cE (⟨1, [], [112], 2048, false⟩ : Dir) = 0 := by kernel_rfl
  refine (Text_any (⟨1, [], [112], 2048, false⟩ : Dir) ⟨by decide, by decide, by decide, by decide, by decide⟩ W h).mono ?_
  rintro e w' ⟨he, hb⟩
  exact ⟨by rw [he, e1, e2]; rfl, hb⟩
theorem head_i1 (W : World) : Calls Tryd.prog 10 #[.string { data := #[35, 66, 66] }] W fun e w' => e = .returned (.bool true) ∧ W = w' :=
  (Is_any [35, 66, 66] W).mono fun e w' ⟨he, hw⟩ => ⟨he.trans (by kernel_rfl), hw⟩
theorem head_i2 (W : World) : Calls Tryd.prog 10 #[.string { data := #[35, 66, 66, 120] }] W fun e w' => e = .returned (.bool false) ∧ W = w' :=
  (Is_any [35, 66, 66, 120] W).mono fun e w' ⟨he, hw⟩ => ⟨he.trans (by kernel_rfl), hw⟩

set_option maxRecDepth 100000 in
set_option maxHeartbeats 6400000 in
theorem head_any (w : World) (hL : LaidD w) : Calls Tryd.prog 7 #[] w (Told (.bool true) w) := by
  have HC := Lib.hid fun (W : World) (hb : Below w.heap.size w W) => hL.next hb
  have H0 := Lib.hid (Below.refl w.heap.size w)
  clear hL
  go_enter Tryd.func7, Tryd.ntmps7
  go_wp2_with fail
  refine (head_p1 _ (HC.out _ H0.out)).mono ?_
  rintro e w1 ⟨rfl, hb⟩
  have H1 := Lib.hid hb
  clear hb
  go_wp2_with fail
  obtain ⟨v1, hv1⟩ : ∃ v, w1.alloc (.cells #[.int .u8 1, .string { data := #[] }, .string { data := #[112] }, .int .i64 2048, .bool false] 24) = v := ⟨_, rfl⟩
  rw [hv1]
  have bx1 : BoxA v1 w1.heap.size 24 #[.int .u8 1, .string { data := #[] }, .string { data := #[112] }, .int .i64 2048, .bool false] := by rw [← hv1]; exact BoxA.new _ _ _
  have G1 := Lib.hid (show Below w.heap.size w v1 from by rw [← hv1]; exact H1.out.alloc H1.out.size _)
  have hy1 : Below w1.heap.size w1 v1 := by rw [← hv1]; exact (Below.refl _ _).alloc (Nat.le_refl _) _
  clear hv1 hy1
  refine (head_p2 _ (HC.out _ G1.out)).mono ?_
  rintro e w2 ⟨rfl, hb⟩
  have H2 := Lib.hid (G1.out.trans (hb.mono G1.out.size))
  have bx1 := bx1.next hb
  clear hb
  go_wp2_with fail
  obtain ⟨v2, hv2⟩ : ∃ v, w2.alloc (.cells #[.int .u8 4, .string { data := #[97] }, .string { data := #[112] }, .int .i64 1, .bool true] 24) = v := ⟨_, rfl⟩
  rw [hv2]
  have bx2 : BoxA v2 w2.heap.size 24 #[.int .u8 4, .string { data := #[97] }, .string { data := #[112] }, .int .i64 1, .bool true] := by rw [← hv2]; exact BoxA.new _ _ _
  have G2 := Lib.hid (show Below w.heap.size w v2 from by rw [← hv2]; exact H2.out.alloc H2.out.size _)
  have hy2 : Below w2.heap.size w2 v2 := by rw [← hv2]; exact (Below.refl _ _).alloc (Nat.le_refl _) _
  have bx1 := bx1.next hy2
  clear hv2 hy2
  refine (head_p3 _ (HC.out _ G2.out)).mono ?_
  rintro e w3 ⟨rfl, hb⟩
  have H3 := Lib.hid (G2.out.trans (hb.mono G2.out.size))
  have bx1 := bx1.next hb
  have bx2 := bx2.next hb
  clear hb
  go_wp2_with fail
  obtain ⟨v3, hv3⟩ : ∃ v, w3.alloc (.cells #[.int .u8 0, .string { data := #[] }, .string { data := #[] }, .int .i64 0, .bool false] 24) = v := ⟨_, rfl⟩
  rw [hv3]
  have bx3 : BoxA v3 w3.heap.size 24 #[.int .u8 0, .string { data := #[] }, .string { data := #[] }, .int .i64 0, .bool false] := by rw [← hv3]; exact BoxA.new _ _ _
  have G3 := Lib.hid (show Below w.heap.size w v3 from by rw [← hv3]; exact H3.out.alloc H3.out.size _)
  have hy3 : Below w3.heap.size w3 v3 := by rw [← hv3]; exact (Below.refl _ _).alloc (Nat.le_refl _) _
  have bx1 := bx1.next hy3
  have bx2 := bx2.next hy3
  clear hv3 hy3
  refine (head_p4 _ (HC.out _ G3.out)).mono ?_
  rintro e w4 ⟨rfl, hb⟩
  have H4 := Lib.hid (G3.out.trans (hb.mono G3.out.size))
  have bx1 := bx1.next hb
  have bx2 := bx2.next hb
  have bx3 := bx3.next hb
  clear hb
  have a0 : w4.cell? ⟨w1.heap.size, 0, none⟩ = _ := bx1.cell 0 _ rfl
  have a1 : w4.cell? ⟨w1.heap.size, 1, none⟩ = _ := bx1.cell 1 _ rfl
  have a2 : w4.cell? ⟨w1.heap.size, 2, none⟩ = _ := bx1.cell 2 _ rfl
  have a3 : w4.cell? ⟨w1.heap.size, 3, none⟩ = _ := bx1.cell 3 _ rfl
  have a4 : w4.cell? ⟨w1.heap.size, 4, none⟩ = _ := bx1.cell 4 _ rfl
  have hlt1 := bx1.lt
  go_wp2_with fail
  obtain ⟨v4, hv4⟩ : ∃ v, w4.alloc (.cells #[.int .u8 0, .string { data := #[] }, .string { data := #[] }, .int .i64 0, .bool false] 24) = v := ⟨_, rfl⟩
  rw [hv4]
  have G4 := Lib.hid (show Below w.heap.size w v4 from by rw [← hv4]; exact H4.out.alloc H4.out.size _)
  have hy4 : Below w4.heap.size w4 v4 := by rw [← hv4]; exact (Below.refl _ _).alloc (Nat.le_refl _) _
  have bx1 := bx1.next hy4
  have bx2 := bx2.next hy4
  clear hv4 hy4 a0 a1 a2 a3 a4
  refine (head_t _ (HC.out _ G4.out)).mono ?_
  rintro e w5 ⟨rfl, hb⟩
  have H5 := Lib.hid (G4.out.trans (hb.mono G4.out.size))
  have bx1 := bx1.next hb
  have bx2 := bx2.next hb
  clear hb
  have a0 : w5.cell? ⟨w1.heap.size, 0, none⟩ = _ := bx1.cell 0 _ rfl
  have a1 : w5.cell? ⟨w1.heap.size, 1, none⟩ = _ := bx1.cell 1 _ rfl
  have a2 : w5.cell? ⟨w1.heap.size, 2, none⟩ = _ := bx1.cell 2 _ rfl
  have a3 : w5.cell? ⟨w1.heap.size, 3, none⟩ = _ := bx1.cell 3 _ rfl
  have a4 : w5.cell? ⟨w1.heap.size, 4, none⟩ = _ := bx1.cell 4 _ rfl
  have b0 : w5.cell? ⟨w2.heap.size, 0, none⟩ = _ := bx2.cell 0 _ rfl
  have b1 : w5.cell? ⟨w2.heap.size, 1, none⟩ = _ := bx2.cell 1 _ rfl
  have b2 : w5.cell? ⟨w2.heap.size, 2, none⟩ = _ := bx2.cell 2 _ rfl
  have b3 : w5.cell? ⟨w2.heap.size, 3, none⟩ = _ := bx2.cell 3 _ rfl
  have b4 : w5.cell? ⟨w2.heap.size, 4, none⟩ = _ := bx2.cell 4 _ rfl
  have hlt2 := bx1.lt
  have hlt3 := bx2.lt
  have hq1 := dir_eq (⟨1, [], [112], 2048, false⟩ : Dir) (⟨1, [], [112], 2048, false⟩ : Dir)
  have hq2 := dir_eq (⟨4, [97], [112], 1, true⟩ : Dir) (⟨4, [97], [112], 1, true⟩ : Dir)
  rw [decide_eq_true rfl] at hq1 hq2
  unfold dV dcs at hq1 hq2
  simp only [str] at hq1 hq2
  go_wp2_with (first
    | (go_at_call 10; (with_reducible refine (head_i1 _).mono ?_); rintro e wx ⟨rfl, rfl⟩)
    | (go_at_call 10; (with_reducible refine (head_i2 _).mono ?_); rintro e wx ⟨rfl, rfl⟩))
  go_ret
  exact ⟨rfl, H5.out⟩
end Go.Proofs.YtfocnipdmckojaaDoor.gn
