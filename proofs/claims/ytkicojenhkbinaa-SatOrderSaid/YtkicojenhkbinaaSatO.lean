/- SatOrder: the law's walk. -/
import Derived.Test.YtkicojenhkbinaaSatH
import Derived.Test.YtkicojenhkbinaaSatN
import Derived.BigQuiet
import Derived.Deep.QuietTactic
namespace Go.Proofs.Ytkicojenhkbinaa.gn
open Go.RowKit
open Go.Proofs.Ytkicojenhkbinaa.st

theorem ne_of {a b : Int} (h : a = b) : (a != b) = false := by subst h; simp
/-- A row of six lies in block g. -/
def Six (w : World) (g : Nat) (p : Nat → Int) : Prop := ∀ k, k < 6 → w.cell? ⟨g, k, none⟩ = some (.int .i64 (p k))
theorem six_new (w : World) (p : Nat → Int) : Six (w.alloc (.cells #[.int .i64 (p 0), .int .i64 (p 1), .int .i64 (p 2), .int .i64 (p 3), .int .i64 (p 4), .int .i64 (p 5)] 2)) w.heap.size p := by
  intro k hk
  match k, hk with
  | 0, _ => go_simp
  | 1, _ => go_simp
  | 2, _ => go_simp
  | 3, _ => go_simp
  | 4, _ => go_simp
  | 5, _ => go_simp
theorem Six.kept {w w' : World} {g B : Nat} {p : Nat → Int} (h : Six w g p) (hb : Below B w w') (hg : g < B) : Six w' g p := fun k hk => (hb.cell (p := ⟨g, k, none⟩) hg).trans (h k hk)
theorem of_same (n : Int) (w : World) : Calls Try.prog 7 #[.int .i64 n] w fun e w' => e = .returned (.int .i64 (of n)) ∧ w' = w := (of_any n w).mono fun _ _ h => ⟨h.1, h.2.symm⟩
theorem Below.drewN {B n : Nat} {a w : World} (h : Below B a w) : Below B a (w.drewN n) := ⟨h.os, h.tape, h.output, h.size, h.block⟩
def OrdRel (a b c : Int) (w : World) (g h : Nat) (v9 : Value) (wr : World) : Prop := ∃ k : Nat, k ≤ 6 ∧ v9 = .int .i64 (k : Int) ∧ Six wr g (six a c) ∧ Six wr h (six b c) ∧ Below w.heap.size w wr

set_option maxHeartbeats 1600000 in
theorem order_le (a b c : Int) (h : a ≤ b) (w : World) :
    Calls Try.prog 6 #[.int .i64 a, .int .i64 b, .int .i64 c] w fun e w' => e = .returned (.bool true) ∧ Below w.heap.size w w' := by
  go_enter Try.func6, Try.ntmps6
  go_wp2_with fail
  refine (of_any _ _).mono ?_
  rintro e w1 ⟨rfl, rfl⟩
  go_wp2_with fail
  refine (add_new _ _ _).mono ?_
  rintro e w1 ⟨rfl, rfl⟩
  have HB : Hid (Below w.heap.size w (w.alloc (.cells #[.int .i64 a, .int .i64 c] 2))) := (Below.refl _ _).alloc (Nat.le_refl _) _
  generalize (w.alloc (.cells #[.int .i64 a, .int .i64 c] 2)) = w1 at *
  go_wp2_with (first
      | (go_at_call 11; ((with_reducible refine (sub_any _ _ _).mono ?_); rintro e w' ⟨rfl, rfl⟩))
      | (go_at_call 13; ((with_reducible refine (mul_any _ _ _).mono ?_); rintro e w' ⟨rfl, rfl⟩))
      | (go_at_call 19; ((with_reducible refine (grain_any _ _ _).mono ?_); rintro e w' ⟨rfl, rfl⟩)))
  refine (twice_any _ _ _).mono ?_
  rintro e w2 ⟨rfl, hb2⟩
  have HB2 := Lib.hid (HB.out.trans (hb2.mono HB.out.size))
  clear hb2 HB
  go_wp2_with fail
  have HS7 : Hid (Six (w2.alloc (.cells #[.int .i64 (of a), .int .i64 (add a c), .int .i64 (sub a c), .int .i64 (mul a c), .int .i64 (grain a c), .int .i64 (twice a 3)] 2)) w2.heap.size (six a c)) := six_new w2 (six a c)
  have HB3 := Lib.hid (HB2.out.alloc HB2.out.size (.cells #[.int .i64 (of a), .int .i64 (add a c), .int .i64 (sub a c), .int .i64 (mul a c), .int .i64 (grain a c), .int .i64 (twice a 3)] 2))
  have hg7 : w2.heap.size < (w2.alloc (.cells #[.int .i64 (of a), .int .i64 (add a c), .int .i64 (sub a c), .int .i64 (mul a c), .int .i64 (grain a c), .int .i64 (twice a 3)] 2)).heap.size := by simp
  generalize w2.alloc (.cells #[.int .i64 (of a), .int .i64 (add a c), .int .i64 (sub a c), .int .i64 (mul a c), .int .i64 (grain a c), .int .i64 (twice a 3)] 2) = w3 at *
  generalize w2.heap.size = g7 at *
  have HG7 := Lib.hid hg7
  clear hg7 HB2
  refine (of_any _ _).mono ?_
  rintro e w4 ⟨rfl, rfl⟩
  go_wp2_with fail
  refine (add_new _ _ _).mono ?_
  rintro e w4 ⟨rfl, rfl⟩
  have HB : Hid (Below w3.heap.size w3 (w3.alloc (.cells #[.int .i64 b, .int .i64 c] 2))) := (Below.refl _ _).alloc (Nat.le_refl _) _
  generalize (w3.alloc (.cells #[.int .i64 b, .int .i64 c] 2)) = w4 at *
  go_wp2_with (first
      | (go_at_call 11; ((with_reducible refine (sub_any _ _ _).mono ?_); rintro e w' ⟨rfl, rfl⟩))
      | (go_at_call 13; ((with_reducible refine (mul_any _ _ _).mono ?_); rintro e w' ⟨rfl, rfl⟩))
      | (go_at_call 19; ((with_reducible refine (grain_any _ _ _).mono ?_); rintro e w' ⟨rfl, rfl⟩)))
  refine (twice_any _ _ _).mono ?_
  rintro e w5 ⟨rfl, hb2⟩
  have HB2 := Lib.hid (HB.out.trans (hb2.mono HB.out.size))
  clear hb2 HB
  go_wp2_with fail
  have HS8 : Hid (Six (w5.alloc (.cells #[.int .i64 (of b), .int .i64 (add b c), .int .i64 (sub b c), .int .i64 (mul b c), .int .i64 (grain b c), .int .i64 (twice b 3)] 2)) w5.heap.size (six b c)) := six_new w5 (six b c)
  have HB5 := Lib.hid (HB2.out.alloc HB2.out.size (.cells #[.int .i64 (of b), .int .i64 (add b c), .int .i64 (sub b c), .int .i64 (mul b c), .int .i64 (grain b c), .int .i64 (twice b 3)] 2))
  have HS9 := Lib.hid (HS7.out.kept HB5.out HG7.out)
  have HB6 := Lib.hid (HB3.out.trans (HB5.out.mono HB3.out.size))
  generalize w5.alloc (.cells #[.int .i64 (of b), .int .i64 (add b c), .int .i64 (sub b c), .int .i64 (mul b c), .int .i64 (grain b c), .int .i64 (twice b 3)] 2) = w6 at *
  generalize w5.heap.size = g8 at *
  clear HB2 HB3 HB5 HS7
  go_loopw [9] (fun v9 wr => OrdRel a b c w g7 g8 v9 wr) (fun v9 _ => 6 - (intOf v9).toNat)
  case atStart => exact ⟨0, by omega, rfl, HS9.out, HS8.out, HB6.out⟩
  case round =>
    obtain ⟨k, hk, rfl, h7, h8, hb⟩ := hrel
    clear HS8 HS9 HB6
    by_cases hlt : k < 6
    · have hc7 := h7 k hlt
      have hc8 := h8 k hlt
      have b7 := six_bd a c k
      have b8 := six_bd b c k
      have hle := six_mono c h k
      have hof := ne_of (of_id b7.1 b7.2)
      have H7 := Lib.hid h7
      have H8 := Lib.hid h8
      have HB := Lib.hid hb
      clear h7 h8 hb h
      generalize six a c k = x at *
      generalize six b c k = y at *
      go_wp2
      go_quiet ((go_at_call 7; exact Calls.quiet_of_same (of_same _ _)))
      go_wp2
      go_roundw
      case rel => exact ⟨k + 1, by omega, by go_num, fun j hj => H7.out j hj, fun j hj => H8.out j hj, Below.drewN HB.out⟩
      case measure => simp [intOf]; omega
    · have o1 := ceil_mono c h
      have o2 := sub_anti c h
      have o3 := ceil_anti c h
      have HB := Lib.hid hb
      clear h7 h8 hb h
      go_wp2_with (first
        | (go_at_call 11; ((with_reducible refine (sub_any _ _ _).mono ?_); rintro e w' ⟨rfl, rfl⟩))
        | (go_at_call 15; ((with_reducible refine (ceil_any _ _ _).mono ?_); rintro e w' ⟨rfl, rfl⟩)))
      refine (head_any _).mono ?_
      rintro e w8 ⟨rfl, hb8⟩
      have HB8 := Lib.hid (HB.out.trans (hb8.mono HB.out.size))
      clear hb8
      go_wp2
      go_ret
      exact ⟨rfl, HB8.out⟩

set_option maxHeartbeats 1600000 in
theorem order_gt (b a c : Int) (h : a < b) (w : World) :
    Calls Try.prog 6 #[.int .i64 b, .int .i64 a, .int .i64 c] w fun e w' => e = .returned (.bool true) ∧ Below w.heap.size w w' := by
  go_enter Try.func6, Try.ntmps6
  go_wp2_with fail
  refine (of_any _ _).mono ?_
  rintro e w1 ⟨rfl, rfl⟩
  go_wp2_with fail
  refine (add_new _ _ _).mono ?_
  rintro e w1 ⟨rfl, rfl⟩
  have HB : Hid (Below w.heap.size w (w.alloc (.cells #[.int .i64 a, .int .i64 c] 2))) := (Below.refl _ _).alloc (Nat.le_refl _) _
  generalize (w.alloc (.cells #[.int .i64 a, .int .i64 c] 2)) = w1 at *
  go_wp2_with (first
      | (go_at_call 11; ((with_reducible refine (sub_any _ _ _).mono ?_); rintro e w' ⟨rfl, rfl⟩))
      | (go_at_call 13; ((with_reducible refine (mul_any _ _ _).mono ?_); rintro e w' ⟨rfl, rfl⟩))
      | (go_at_call 19; ((with_reducible refine (grain_any _ _ _).mono ?_); rintro e w' ⟨rfl, rfl⟩)))
  refine (twice_any _ _ _).mono ?_
  rintro e w2 ⟨rfl, hb2⟩
  have HB2 := Lib.hid (HB.out.trans (hb2.mono HB.out.size))
  clear hb2 HB
  go_wp2_with fail
  have HS7 : Hid (Six (w2.alloc (.cells #[.int .i64 (of a), .int .i64 (add a c), .int .i64 (sub a c), .int .i64 (mul a c), .int .i64 (grain a c), .int .i64 (twice a 3)] 2)) w2.heap.size (six a c)) := six_new w2 (six a c)
  have HB3 := Lib.hid (HB2.out.alloc HB2.out.size (.cells #[.int .i64 (of a), .int .i64 (add a c), .int .i64 (sub a c), .int .i64 (mul a c), .int .i64 (grain a c), .int .i64 (twice a 3)] 2))
  have hg7 : w2.heap.size < (w2.alloc (.cells #[.int .i64 (of a), .int .i64 (add a c), .int .i64 (sub a c), .int .i64 (mul a c), .int .i64 (grain a c), .int .i64 (twice a 3)] 2)).heap.size := by simp
  generalize w2.alloc (.cells #[.int .i64 (of a), .int .i64 (add a c), .int .i64 (sub a c), .int .i64 (mul a c), .int .i64 (grain a c), .int .i64 (twice a 3)] 2) = w3 at *
  generalize w2.heap.size = g7 at *
  have HG7 := Lib.hid hg7
  clear hg7 HB2
  refine (of_any _ _).mono ?_
  rintro e w4 ⟨rfl, rfl⟩
  go_wp2_with fail
  refine (add_new _ _ _).mono ?_
  rintro e w4 ⟨rfl, rfl⟩
  have HB : Hid (Below w3.heap.size w3 (w3.alloc (.cells #[.int .i64 b, .int .i64 c] 2))) := (Below.refl _ _).alloc (Nat.le_refl _) _
  generalize (w3.alloc (.cells #[.int .i64 b, .int .i64 c] 2)) = w4 at *
  go_wp2_with (first
      | (go_at_call 11; ((with_reducible refine (sub_any _ _ _).mono ?_); rintro e w' ⟨rfl, rfl⟩))
      | (go_at_call 13; ((with_reducible refine (mul_any _ _ _).mono ?_); rintro e w' ⟨rfl, rfl⟩))
      | (go_at_call 19; ((with_reducible refine (grain_any _ _ _).mono ?_); rintro e w' ⟨rfl, rfl⟩)))
  refine (twice_any _ _ _).mono ?_
  rintro e w5 ⟨rfl, hb2⟩
  have HB2 := Lib.hid (HB.out.trans (hb2.mono HB.out.size))
  clear hb2 HB
  go_wp2_with fail
  have HS8 : Hid (Six (w5.alloc (.cells #[.int .i64 (of b), .int .i64 (add b c), .int .i64 (sub b c), .int .i64 (mul b c), .int .i64 (grain b c), .int .i64 (twice b 3)] 2)) w5.heap.size (six b c)) := six_new w5 (six b c)
  have HB5 := Lib.hid (HB2.out.alloc HB2.out.size (.cells #[.int .i64 (of b), .int .i64 (add b c), .int .i64 (sub b c), .int .i64 (mul b c), .int .i64 (grain b c), .int .i64 (twice b 3)] 2))
  have HS9 := Lib.hid (HS7.out.kept HB5.out HG7.out)
  have HB6 := Lib.hid (HB3.out.trans (HB5.out.mono HB3.out.size))
  generalize w5.alloc (.cells #[.int .i64 (of b), .int .i64 (add b c), .int .i64 (sub b c), .int .i64 (mul b c), .int .i64 (grain b c), .int .i64 (twice b 3)] 2) = w6 at *
  generalize w5.heap.size = g8 at *
  clear HB2 HB3 HB5 HS7
  go_loopw [9] (fun v9 wr => OrdRel a b c w g7 g8 v9 wr) (fun v9 _ => 6 - (intOf v9).toNat)
  case atStart => exact ⟨0, by omega, rfl, HS9.out, HS8.out, HB6.out⟩
  case round =>
    obtain ⟨k, hk, rfl, h7, h8, hb⟩ := hrel
    clear HS8 HS9 HB6
    by_cases hlt : k < 6
    · have hc7 := h7 k hlt
      have hc8 := h8 k hlt
      have b7 := six_bd a c k
      have b8 := six_bd b c k
      have hle := six_mono c (show a ≤ b by omega) k
      have hof := ne_of (of_id b7.1 b7.2)
      have H7 := Lib.hid h7
      have H8 := Lib.hid h8
      have HB := Lib.hid hb
      clear h7 h8 hb h
      generalize six a c k = x at *
      generalize six b c k = y at *
      go_wp2
      go_quiet ((go_at_call 7; exact Calls.quiet_of_same (of_same _ _)))
      go_wp2
      go_roundw
      case rel => exact ⟨k + 1, by omega, by go_num, fun j hj => H7.out j hj, fun j hj => H8.out j hj, Below.drewN HB.out⟩
      case measure => simp [intOf]; omega
    · have o1 := ceil_mono c (show a ≤ b by omega)
      have o2 := sub_anti c (show a ≤ b by omega)
      have o3 := ceil_anti c (show a ≤ b by omega)
      have HB := Lib.hid hb
      clear h7 h8 hb h
      go_wp2_with (first
        | (go_at_call 11; ((with_reducible refine (sub_any _ _ _).mono ?_); rintro e w' ⟨rfl, rfl⟩))
        | (go_at_call 15; ((with_reducible refine (ceil_any _ _ _).mono ?_); rintro e w' ⟨rfl, rfl⟩)))
      refine (head_any _).mono ?_
      rintro e w8 ⟨rfl, hb8⟩
      have HB8 := Lib.hid (HB.out.trans (hb8.mono HB.out.size))
      clear hb8
      go_wp2
      go_ret
      exact ⟨rfl, HB8.out⟩
end Go.Proofs.Ytkicojenhkbinaa.gn
