/- The statements' own head: the calls whose answers are known answer so. -/
import Derived.Test.YtkicojenhkbinaaSatC
namespace Go.Proofs.Ytkicojenhkbinaa.gn
open Go.RowKit
open Go.Proofs.Ytkicojenhkbinaa.st

theorem k_add : add 1099511627776 1 = 1099511627776 := by decide
theorem k_sub : sub 3 5 = 0 := by decide
theorem k_mul : mul 1073741824 1073741824 = 1099511627776 := by decide
theorem k_ceil : ceil 7 2 = 4 := by decide
theorem k_ceil0 : ceil 0 0 = 0 := by decide
theorem k_ceil1 : ceil 1 0 = 1099511627776 := by decide
theorem k_twice : twice 3 4 = 48 := by decide
theorem k_grain : grain 5 4 = 8 := by decide
theorem k_of : of (-1) = 0 := by decide

set_option maxHeartbeats 1600000 in
theorem head_any (w : World) : Calls Try.prog 21 #[] w fun e w' => e = .returned (.bool true) ∧ Below w.heap.size w w' := by
  go_enter Try.func21, Try.ntmps21
  go_wp2_with fail
  refine (add_new _ _ _).mono ?_
  rintro e w1 ⟨rfl, rfl⟩
  rw [k_add]
  go_wp2_with fail
  refine (sub_any _ _ _).mono ?_
  rintro e w1 ⟨rfl, rfl⟩
  rw [k_sub]
  go_wp2_with fail
  refine (mul_any _ _ _).mono ?_
  rintro e w1 ⟨rfl, rfl⟩
  rw [k_mul]
  go_wp2_with fail
  refine (ceil_any _ _ _).mono ?_
  rintro e w1 ⟨rfl, rfl⟩
  rw [k_ceil]
  go_wp2_with fail
  refine (ceil_any _ _ _).mono ?_
  rintro e w1 ⟨rfl, rfl⟩
  rw [k_ceil0]
  go_wp2_with fail
  refine (ceil_any _ _ _).mono ?_
  rintro e w1 ⟨rfl, rfl⟩
  rw [k_ceil1]
  have HB : Hid (Below w.heap.size w (w.alloc (.cells #[.int .i64 1099511627776, .int .i64 1] 2))) := (Below.refl _ _).alloc (Nat.le_refl _) _
  go_wp2_with fail
  refine (twice_any _ _ _).mono ?_
  rintro e w2 ⟨rfl, hb⟩
  rw [k_twice]
  have HB2 := Lib.hid (HB.out.trans (hb.mono HB.out.size))
  clear hb HB
  go_wp2_with fail
  refine (grain_any _ _ _).mono ?_
  rintro e w1 ⟨rfl, rfl⟩
  rw [k_grain]
  go_wp2_with fail
  refine (of_any _ _).mono ?_
  rintro e w1 ⟨rfl, rfl⟩
  rw [k_of]
  go_wp2
  go_ret
  exact ⟨rfl, HB2.out⟩
end Go.Proofs.Ytkicojenhkbinaa.gn
