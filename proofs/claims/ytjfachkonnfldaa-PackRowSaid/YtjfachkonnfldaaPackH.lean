/- The statements' own head: the calls whose answers are known answer so. -/
import Derived.Test.YtjfachkonnfldaaPackV
namespace Go.Proofs.Ytjfachkonnfldaa
open Go.RowKit

theorem below_of_but {R B : Nat} {a b c : World} (h : Below B a b) (hu : But R b c) (hB : B ≤ b.heap.size) (hR : B ≤ R) : Below B a c := But.below hu h hB hR

theorem new_cells {α : Type} (V : α → Value) (w : World) (zs : List α) (cs : Array Value) (T : TypeId) (h : cs = (zs.map V).toArray) (j : Nat) (x : α) (hx : zs[j]? = some x) :
    (w.alloc (.cells cs T)).cell? ⟨w.heap.size, 0 + j, none⟩ = some (V x) := by
  rw [cell_of_row _ w.heap.size (0 + j) cs T (0, 0) (heap_alloc_new w _), h, Nat.zero_add]
  simp [hx]

theorem Bs_nil (w : World) (B : Nat) : Bs w B (.slice none 0 0) [] := World.ownsRow_nil w B _ 1
theorem head_nums : [] ++ List.flatMap Lib.uvarint [0, 127, 128, 300] = [0, 127, 128, 1, 172, 2] := by
  have e0 : Lib.uvarint 0 = [0] := Lib.uvarint_small (by decide)
  have e1 : Lib.uvarint 127 = [127] := Lib.uvarint_small (by decide)
  have e2 : Lib.uvarint 128 = [128, 1] := by rw [Lib.uvarint_big (by decide), Lib.uvarint_small (by decide)]; rfl
  have e3 : Lib.uvarint 300 = [172, 2] := by rw [Lib.uvarint_big (by decide), Lib.uvarint_small (by decide)]; rfl
  simp [e0, e1, e2, e3]
theorem head_ints : [] ++ List.flatMap (fun x => Lib.uvarint (Lib.zigzag x)) [-1, 1, -64, 64] = [1, 2, 127, 128, 1] := by
  have z0 : Lib.zigzag (-1) = 1 := by decide
  have z1 : Lib.zigzag 1 = 2 := by decide
  have z2 : Lib.zigzag (-64) = 127 := by decide
  have z3 : Lib.zigzag 64 = 128 := by decide
  have e0 : Lib.uvarint 1 = [1] := Lib.uvarint_small (by decide)
  have e1 : Lib.uvarint 2 = [2] := Lib.uvarint_small (by decide)
  have e2 : Lib.uvarint 127 = [127] := Lib.uvarint_small (by decide)
  have e3 : Lib.uvarint 128 = [128, 1] := by rw [Lib.uvarint_big (by decide), Lib.uvarint_small (by decide)]; rfl
  simp [z0, z1, z2, z3, e0, e1, e2, e3]

set_option maxHeartbeats 1600000 in
theorem head_any (w : World) : Calls Try.prog 6 #[] w fun e w' => e = .returned (.bool true) ∧ Below w.heap.size w w' := by
  go_enter Try.func6, Try.ntmps6
  go_wp2_with fail
  refine (open_any _ [172, 2, 127, 3, 97, 98, 99, 1]).mono ?_
  rintro e w1 ⟨rfl, hr1, hb1, hz1⟩
  go_wp2_with fail
  refine (rNum_any _ _ _ hr1).mono ?_
  rintro e w2 ⟨rfl, hr2, hu2⟩
  rw [show numOf (some [172, 2, 127, 3, 97, 98, 99, 1]) = (300, some [127, 3, 97, 98, 99, 1]) by decide] at hr2 ⊢
  go_wp2_with fail
  refine (rInt_any _ _ _ hr2).mono ?_
  rintro e w3 ⟨rfl, hr3, hu3⟩
  rw [show numOf (some [127, 3, 97, 98, 99, 1]) = (127, some [3, 97, 98, 99, 1]) by decide] at hr3 ⊢
  rw [show unzig 127 = -64 by decide]
  go_wp2_with fail
  refine (rText_any _ _ 3 _ (by omega) (by intro l hl; simp at hl; subst hl; simp) hr3).mono ?_
  rintro e w4 ⟨rfl, hr4, hu4⟩
  rw [show textOf 3 (some [3, 97, 98, 99, 1]) = ([97, 98, 99], some [1]) by decide] at hr4 ⊢
  rw [show str [97, 98, 99] = ⟨#[97, 98, 99]⟩ from rfl]
  go_wp2_with fail
  refine (rFlag_any _ _ _ hr4).mono ?_
  rintro e w5 ⟨rfl, hr5, hu5⟩
  rw [show flagOf (some [1]) = (true, some []) by decide] at hr5 ⊢
  go_wp2_with fail
  refine (open_any _ [128, 0]).mono ?_
  rintro e w6 ⟨rfl, hr6, hb6, hz6⟩
  go_wp2_with fail
  refine (rNum_any _ _ _ hr6).mono ?_
  rintro e w7 ⟨rfl, hr7, hu7⟩
  rw [show numOf (some [128, 0]) = (0, none) by decide] at hr7 ⊢
  have k1 := hb1
  have k2 := below_of_but k1 hu2 (by omega) (Nat.le_refl _)
  have k3 := below_of_but k2 hu3 (by have := k2.size; omega) (Nat.le_refl _)
  have k4 := below_of_but k3 hu4 (by have := k3.size; omega) (Nat.le_refl _)
  have k5 := below_of_but k4 hu5 (by have := k4.size; omega) (Nat.le_refl _)
  have k6 : Below w.heap.size w w6 := k5.trans (hb6.mono (by have := k5.size; omega))
  have hR5 : w.heap.size < w5.heap.size := RS_lt hr5
  have k7 := below_of_but k6 hu7 (by have := k6.size; omega) (by omega)
  have r6 : RS w6 w.heap.size (some []) := Below.rs hb6 hr5 hR5
  have r7 : RS w7 w.heap.size (some []) := hu7.other r6 (by omega)
  have K := Lib.hid k7
  have R7 := Lib.hid r7
  have X7 := Lib.hid hr7
  have hs7 : w5.heap.size < w7.heap.size := RS_lt hr7
  clear hr1 hb1 hz1 hr2 hu2 hr3 hu3 hr4 hu4 hr5 hu5 hr6 hb6 hz6 hr7 hu7 k1 k2 k3 k4 k5 k6 k7 r6 r7
  go_wp2_with fail
  refine (packNum_any [] [0, 127, 128, 300] (by intro x hx; simp at hx; omega) 0 _ w7.heap.size 0 4 _ (Bs_nil _ _) (new_cells (fun x : Nat => Value.int .u64 (x : Int)) w7 [0, 127, 128, 300] _ _ rfl) (by simp) (by rw [show (List.flatMap Lib.uvarint [0, 127, 128, 300]) = [0, 127, 128, 1, 172, 2] from head_nums]; simp)).mono ?_
  rintro e w8 ⟨v8, rfl, hB8, hb8⟩
  rw [head_nums] at hB8
  have hv8 := bs_string hB8
  have k8 : Below w7.heap.size w7 w8 := ((Below.refl _ _).alloc (Nat.le_refl _) _).trans (hb8.mono (by simp))
  have r8 : RS w8 w.heap.size (some []) := Below.rs k8 R7.out (by omega)
  have x8 : RS w8 w5.heap.size none := Below.rs k8 X7.out hs7
  have hs8 : w7.heap.size ≤ w8.heap.size := k8.size
  have K8 := Lib.hid (K.out.trans (k8.mono (by omega)))
  have R8 := Lib.hid r8
  have X8 := Lib.hid x8
  clear hB8 hb8 k8 r8 x8 R7 X7 K
  go_wp2_with fail
  refine (packInt_any [] [-1, 1, -64, 64] (by intro x hx; simp at hx; omega) 0 _ w8.heap.size 0 4 _ (Bs_nil _ _) (new_cells (fun x : Int => Value.int .i64 x) w8 [-1, 1, -64, 64] _ _ rfl) (by simp) (by rw [show (List.flatMap (fun x => Lib.uvarint (Lib.zigzag x)) [-1, 1, -64, 64]) = [1, 2, 127, 128, 1] from head_ints]; simp)).mono ?_
  rintro e w9 ⟨v9, rfl, hB9, hb9⟩
  rw [head_ints] at hB9
  have hv9 := bs_string hB9
  have k9 : Below w8.heap.size w8 w9 := ((Below.refl _ _).alloc (Nat.le_refl _) _).trans (hb9.mono (by simp))
  have R9 : Hid (RS w9 w.heap.size (some [])) := Below.rs k9 R8.out (by omega)
  have X9 : Hid (RS w9 w5.heap.size none) := Below.rs k9 X8.out (by omega)
  have K9 := Lib.hid (K8.out.trans (k9.mono (by omega)))
  clear hB9 hb9 k9 R8 X8 K8 hv8
  go_wp2_with (first | (go_at_call 14; refine (rOver_any _ _ _ R9.out).mono ?_; rintro e w10 ⟨rfl, rfl⟩) | (go_at_call 13; refine (fine_no _ _ X9.out).mono ?_; rintro e w11 ⟨rfl, rfl⟩))
  go_ret
  exact ⟨rfl, K9.out⟩
end Go.Proofs.Ytjfachkonnfldaa
