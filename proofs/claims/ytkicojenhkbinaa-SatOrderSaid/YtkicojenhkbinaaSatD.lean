/- Contracts of the document's answers: products by doubling, Ceil, Twice, Grain. -/
import Derived.Test.YtkicojenhkbinaaSatA
import Derived.LoopTactic
namespace Go.Proofs.Ytkicojenhkbinaa.gn
open Go.RowKit
open Go.Proofs.Ytkicojenhkbinaa.st

/-- How a product stands: so much is still to come. -/
def MulRel (p : Int) (v0 v1 v5 : Value) : Prop :=
  ∃ A B S : Int, 0 ≤ A ∧ A ≤ 1099511627776 ∧ 0 ≤ B ∧ B ≤ 1099511627776 ∧ 0 ≤ S ∧ S ≤ 1099511627776 ∧ v0 = .int .i64 A ∧ v1 = .int .i64 B ∧ v5 = .int .i64 S ∧ of (A * B + S) = p
theorem rel_even {p A B S : Int} (hA : 0 ≤ A) (hB : 0 ≤ B) (hB1 : B ≤ 1099511627776) (hS : 0 ≤ S) (hS1 : S ≤ 1099511627776) (h : of (A * B + S) = p) (hb : B % 2 = 0) (hA1 : A ≤ 1099511627776) :
    MulRel p (.int .i64 (add A A)) (.int .i64 (B / 2)) (.int .i64 S) := by
  refine ⟨_, _, _, (add_bd A A).1, (add_bd A A).2, by omega, by omega, hS, hS1, rfl, rfl, rfl, ?_⟩
  have h1 := round_keeps A S (B / 2) 0 hA hS (by omega) (by omega)
  rw [show 2 * (B / 2) + 0 = B by omega, h, Int.zero_mul, Int.add_zero, of_id hS hS1] at h1
  unfold add
  rw [of_id hA hA1]
  exact h1
theorem rel_odd {p A B S : Int} (hA : 0 ≤ A) (hB : 0 ≤ B) (hB1 : B ≤ 1099511627776) (hS : 0 ≤ S) (hS1 : S ≤ 1099511627776) (h : of (A * B + S) = p) (hb : B % 2 = 1) (hA1 : A ≤ 1099511627776) :
    MulRel p (.int .i64 (add A A)) (.int .i64 (B / 2)) (.int .i64 (add S A)) := by
  refine ⟨_, _, _, (add_bd A A).1, (add_bd A A).2, by omega, by omega, (add_bd S A).1, (add_bd S A).2, rfl, rfl, rfl, ?_⟩
  have h1 := round_keeps A S (B / 2) 1 hA hS (by omega) (by omega)
  rw [show 2 * (B / 2) + 1 = B by omega, h, Int.one_mul] at h1
  unfold add
  rw [of_id hA hA1, of_id hS hS1]
  exact h1
set_option maxHeartbeats 400000 in
theorem dmul_any (a b : Int) (w : World) : Calls Try.prog 14 #[.int .i64 a, .int .i64 b] w (Says (mul a b) w) := by
  have ha := of_bd a
  have hb := of_bd b
  go_enter Try.func14, Try.ntmps14
  go_wp2_with (go_at_call 8; ((with_reducible refine (dof_any _ _).mono ?_); rintro e w' ⟨rfl, rfl⟩))
  go_loop [0, 1, 5] (fun v0 v1 v5 => MulRel (mul a b) v0 v1 v5) (fun _ v1 _ => (intOf v1).toNat)
  case atStart => exact ⟨_, _, _, ha.1, ha.2, hb.1, hb.2, by omega, by omega, rfl, rfl, rfl, by rw [Int.add_zero]; rfl⟩
  case round =>
    clear ha hb
    obtain ⟨A, B, S, hA, hA1, hB, hB1, hS, hS1, rfl, rfl, rfl, hp⟩ := hrel
    by_cases h0 : 0 < B
    · by_cases hb : B % 2 = 1
      · have HR := Lib.hid (rel_odd hA hB hB1 hS hS1 hp hb hA1)
        have hd : (B % 2 == 1) = true := beq_iff_eq.2 hb
        clear hp hb
        go_wp2_with (go_at_call 10; ((with_reducible refine (dadd_any _ _ _).mono ?_); rintro e w' ⟨rfl, rfl⟩))
        go_round
        case rel => exact HR.out
        case measure => simp [intOf]; omega
      · have HR := Lib.hid (rel_even hA hB hB1 hS hS1 hp (by omega) hA1)
        have hd : (B % 2 == 1) = false := beq_eq_false_iff_ne.2 hb
        clear hp hb
        go_wp2_with (go_at_call 10; ((with_reducible refine (dadd_any _ _ _).mono ?_); rintro e w' ⟨rfl, rfl⟩))
        go_round
        case rel => exact HR.out
        case measure => simp [intOf]; omega
    · obtain rfl : B = 0 := by omega
      have HP : Hid (S = mul a b) := by show _ = _; rw [← hp, Int.mul_zero, Int.zero_add, of_id hS hS1]
      clear hp
      go_wp2
      go_ret
      exact ⟨ret_i64 HP.out, rfl⟩

theorem dceil_any (a b : Int) (w : World) : Calls Try.prog 16 #[.int .i64 a, .int .i64 b] w (Says (ceil a b) w) := by
  by_cases h0 : of a = 0
  · have H : Hid (ceil a b = 0) := if_pos h0
    have hd : (of a == 0) = true := beq_iff_eq.2 h0
    clear h0
    go_enter Try.func16, Try.ntmps16
    go_wp2_with (go_at_call 8; ((with_reducible refine (dof_any _ _).mono ?_); rintro e w' ⟨rfl, rfl⟩))
    go_ret
    exact ⟨ret_i64 H.out.symm, rfl⟩
  · have hd : (of a == 0) = false := beq_eq_false_iff_ne.2 h0
    by_cases h1 : of b = 0
    · have H : Hid (ceil a b = 1099511627776) := by show _ = _; unfold ceil; rw [if_neg h0, if_pos h1]
      have hd1 : (of b == 0) = true := beq_iff_eq.2 h1
      clear h0 h1
      go_enter Try.func16, Try.ntmps16
      go_wp2_with (go_at_call 8; ((with_reducible refine (dof_any _ _).mono ?_); rintro e w' ⟨rfl, rfl⟩))
      go_ret
      exact ⟨ret_i64 H.out.symm, rfl⟩
    · have hd1 : (of b == 0) = false := beq_eq_false_iff_ne.2 h1
      have H : Hid (ceil a b = (of a - 1) / of b + 1) := by show _ = _; unfold ceil; rw [if_neg h0, if_neg h1]
      have ha := of_bd a
      have hb := of_bd b
      have ho := Lib.hid (dof_any a)
      have ho2 := Lib.hid (dof_any b)
      generalize of a = x at *
      generalize of b = y at *
      have hy2 : 0 < y := by omega
      have e1 := Int.mul_ediv_add_emod x y
      have e2 := Int.emod_nonneg x (show y ≠ 0 by omega)
      have e3 := Int.emod_lt_of_pos x hy2
      rw [Int.mul_comm] at e1
      have q0 : 0 ≤ x / y := Int.ediv_nonneg ha.1 hb.1
      have q1 : x / y ≤ x := Int.ediv_le_self _ ha.1
      have p0 : 0 ≤ x / y * y := Int.mul_nonneg q0 hb.1
      by_cases ht : x / y * y < x
      · have hq : (x - 1) / y + 1 = x / y + 1 := up_least hy2 (by rw [Int.add_mul, Int.one_mul]; omega) (by rw [show x / y + 1 - 1 = x / y by omega]; exact ht)
        have HQ := Lib.hid (H.out.trans hq)
        have p1 : x / y * y ≤ 1099511627776 := by omega
        clear e1 e2 e3 hq H h0 h1
        go_enter Try.func16, Try.ntmps16
        go_wp2_with (go_at_call 8; (first | (with_reducible refine (ho.out _).mono ?_) | (with_reducible refine (ho2.out _).mono ?_)); rintro e w' ⟨rfl, rfl⟩)
        go_ret
        exact ⟨ret_i64 HQ.out.symm, rfl⟩
      · have hq : (x - 1) / y + 1 = x / y := up_least hy2 (by omega) (by rw [Int.sub_mul, Int.one_mul]; omega)
        have HQ := Lib.hid (H.out.trans hq)
        have p1 : x / y * y ≤ 1099511627776 := by omega
        clear e1 e2 e3 hq H h0 h1
        go_enter Try.func16, Try.ntmps16
        go_wp2_with (go_at_call 8; (first | (with_reducible refine (ho.out _).mono ?_) | (with_reducible refine (ho2.out _).mono ?_)); rintro e w' ⟨rfl, rfl⟩)
        go_ret
        exact ⟨ret_i64 HQ.out.symm, rfl⟩

def TwiceRel (x n : Int) (v0 v5 : Value) : Prop := ∃ k : Nat, (k : Int) ≤ 64 ∧ ((k : Int) ≤ n ∨ k = 0) ∧ v5 = .int .i64 (k : Int) ∧ v0 = .int .i64 (dbl k x)
theorem dtwice_any (a n : Int) (w : World) : Calls Try.prog 18 #[.int .i64 a, .int .i64 n] w (Says (twice a n) w) := by
  have H := Lib.hid (twice_64 a n)
  go_enter Try.func18, Try.ntmps18
  go_wp2_with (go_at_call 8; ((with_reducible refine (dof_any _ _).mono ?_); rintro e w' ⟨rfl, rfl⟩))
  go_loop [0, 5] (fun v0 v5 => TwiceRel (of a) n v0 v5) (fun _ v5 => 64 - (intOf v5).toNat)
  case atStart => exact ⟨0, by omega, .inr rfl, rfl, rfl⟩
  case round =>
    obtain ⟨k, hk, hkn, rfl, rfl⟩ := hrel
    by_cases h1 : (k : Int) < n
    · by_cases h2 : k < 64
      · clear hkn
        go_wp2_with (go_at_call 10; ((with_reducible refine (dadd_any _ _ _).mono ?_); rintro e w' ⟨rfl, rfl⟩))
        go_round
        case rel => exact ⟨k + 1, by omega, .inl (by omega), by go_num, rfl⟩
        case measure => simp [intOf]; omega
      · have HK : Hid (dbl k (of a) = twice a n) := by show _ = _; rw [H.out, show (min n 64).toNat = k by omega]
        clear hkn
        go_wp2
        go_ret
        exact ⟨ret_i64 HK.out, rfl⟩
    · have HK : Hid (dbl k (of a) = twice a n) := by show _ = _; rw [H.out, show (min n 64).toNat = k by omega]
      clear hkn
      go_wp2
      go_ret
      exact ⟨ret_i64 HK.out, rfl⟩
end Go.Proofs.Ytkicojenhkbinaa.gn
