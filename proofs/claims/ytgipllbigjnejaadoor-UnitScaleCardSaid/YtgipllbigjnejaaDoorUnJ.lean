/- The law file's head. -/
import Derived.Test.YtgipllbigjnejaaDoorUnD
import Derived.Test.YtgipllbigjnejaaDoorUnE
set_option linter.unusedVariables false
namespace Go.Proofs.YtgipllbigjnejaaDoor.gn
open Go.RowKit
open Go.Proofs.YtgipllbigjnejaaDoor.un

theorem stxt_1 : stxt 3072 = [51, 75, 105, 66] := by decide +kernel
theorem stxt_2 : stxt 3000 = [51, 48, 48, 48] := by decide +kernel
theorem stxt_3 : stxt 1099511627776 = [49, 84, 105, 66] := by decide +kernel

set_option maxRecDepth 100000 in
set_option maxHeartbeats 4000000 in
theorem head_any (w : World) (hL : LaidU w) : Calls Tryd.prog 7 #[] w (Told (.bool true) w) := by
  have HL := Lib.hid hL
  have HC := Lib.hid fun (W : World) (hb : Below w.heap.size w W) => hL.next hb
  have c1 : ∀ W, LaidU W → Calls Tryd.prog 10 #[.string { data := #[51, 75, 105, 66] }] W (Told (.tuple #[.int .i64 3072, .int .i64 0]) W) := fun W h => size_any [51, 75, 105, 66] (by decide) W h
  have c2 : ∀ W, LaidU W → Calls Tryd.prog 10 #[.string { data := #[50, 75, 66] }] W (Told (.tuple #[.int .i64 2000, .int .i64 0]) W) := fun W h => size_any [50, 75, 66] (by decide) W h
  have c3 : ∀ W, LaidU W → Calls Tryd.prog 10 #[.string { data := #[48, 55] }] W (Told (.tuple #[.int .i64 0, .int .i64 130]) W) := fun W h => size_any [48, 55] (by decide) W h
  have c4 : ∀ W, LaidU W → Calls Tryd.prog 10 #[.string { data := #[49, 48, 50, 52, 84, 105, 66] }] W (Told (.tuple #[.int .i64 0, .int .i64 130]) W) := fun W h => size_any [49, 48, 50, 52, 84, 105, 66] (by decide) W h
  have c5 : ∀ W, LaidU W → Calls Tryd.prog 15 #[.int .i64 3072] W (Told (.string { data := #[51, 75, 105, 66] }) W) := fun W h => by
    have := stext_any 3072 (by decide) (by decide) W h
    rw [stxt_1] at this
    exact this
  have c6 : ∀ W, LaidU W → Calls Tryd.prog 15 #[.int .i64 3000] W (Told (.string { data := #[51, 48, 48, 48] }) W) := fun W h => by
    have := stext_any 3000 (by decide) (by decide) W h
    rw [stxt_2] at this
    exact this
  have c7 : ∀ W, LaidU W → Calls Tryd.prog 15 #[.int .i64 1099511627776] W (Told (.string { data := #[49, 84, 105, 66] }) W) := fun W h => by
    have := stext_any 1099511627776 (by decide) (by decide) W h
    rw [stxt_3] at this
    exact this
  have d1 : ∀ W, Calls Tryd.prog 12 #[.string { data := #[97, 46, 98, 45, 99] }] W fun e w' => e = .returned (.bool true) ∧ Below W.heap.size W w' := fun W => name_any [97, 46, 98, 45, 99] (by decide) W
  have d2 : ∀ W, Calls Tryd.prog 12 #[.string { data := #[45, 97] }] W fun e w' => e = .returned (.bool false) ∧ Below W.heap.size W w' := fun W => name_any [45, 97] (by decide) W
  have d3 : ∀ W, Calls Tryd.prog 12 #[.string { data := #[] }] W fun e w' => e = .returned (.bool false) ∧ Below W.heap.size W w' := fun W => name_any [] (by decide) W
  have C1 := Lib.hid c1; have C2 := Lib.hid c2; have C3 := Lib.hid c3; have C4 := Lib.hid c4; have C5 := Lib.hid c5; have C6 := Lib.hid c6; have C7 := Lib.hid c7
  have D1 := Lib.hid d1; have D2 := Lib.hid d2; have D3 := Lib.hid d3
  clear c1 c2 c3 c4 c5 c6 c7 d1 d2 d3 hL
  have H0 := Lib.hid (Below.refl w.heap.size w)
  go_enter Tryd.func7, Tryd.ntmps7
  go_wp2_with fail
  refine (C1.out _ HL.out).mono ?_
  rintro e w1 ⟨rfl, hb⟩
  have H1 := Lib.hid hb
  clear hb
  go_wp2_with fail
  refine (C2.out _ (HC.out _ H1.out)).mono ?_
  rintro e w2 ⟨rfl, hb⟩
  have H2 := Lib.hid (H1.out.trans (hb.mono H1.out.size))
  clear hb
  go_wp2_with fail
  refine (C3.out _ (HC.out _ H2.out)).mono ?_
  rintro e w3 ⟨rfl, hb⟩
  have H3 := Lib.hid (H2.out.trans (hb.mono H2.out.size))
  clear hb
  go_wp2_with fail
  refine (C4.out _ (HC.out _ H3.out)).mono ?_
  rintro e w4 ⟨rfl, hb⟩
  have H4 := Lib.hid (H3.out.trans (hb.mono H3.out.size))
  clear hb
  go_wp2_with fail
  refine (C5.out _ (HC.out _ H4.out)).mono ?_
  rintro e w5 ⟨rfl, hb⟩
  have H5 := Lib.hid (H4.out.trans (hb.mono H4.out.size))
  clear hb
  go_wp2_with fail
  refine (C6.out _ (HC.out _ H5.out)).mono ?_
  rintro e w6 ⟨rfl, hb⟩
  have H6 := Lib.hid (H5.out.trans (hb.mono H5.out.size))
  clear hb
  go_wp2_with fail
  refine (C7.out _ (HC.out _ H6.out)).mono ?_
  rintro e w7 ⟨rfl, hb⟩
  have H7 := Lib.hid (H6.out.trans (hb.mono H6.out.size))
  clear hb
  go_wp2_with fail
  refine (D1.out _).mono ?_
  rintro e w8 ⟨rfl, hb⟩
  have H8 := Lib.hid (H7.out.trans (hb.mono H7.out.size))
  clear hb
  go_wp2_with fail
  refine (D2.out _).mono ?_
  rintro e w9 ⟨rfl, hb⟩
  have H9 := Lib.hid (H8.out.trans (hb.mono H8.out.size))
  clear hb
  go_wp2_with fail
  refine (D3.out _).mono ?_
  rintro e wa ⟨rfl, hb⟩
  have HA := Lib.hid (H9.out.trans (hb.mono H9.out.size))
  clear hb
  go_wp2
  go_ret
  exact ⟨rfl, HA.out⟩
end Go.Proofs.YtgipllbigjnejaaDoor.gn
