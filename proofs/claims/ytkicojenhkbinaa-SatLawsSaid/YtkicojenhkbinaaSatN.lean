/- What SatLaws and SatOrder say of quantities, in plain words. -/
import Derived.Test.YtkicojenhkbinaaSatM
namespace Go.Proofs.Ytkicojenhkbinaa.st

theorem law_sub {x y : Int} (hx : 0 ≤ x) (hx1 : x ≤ 1099511627776) (hy : 0 ≤ y) (hy1 : y ≤ 1099511627776) (h : add x y < 1099511627776) : sub (add x y) x = y ∧ sub (add x y) y = x := by
  unfold add at *
  unfold sub
  unfold of at *
  omega
theorem law_ceil {x y : Int} (hx : 0 ≤ x) (hx1 : x ≤ 1099511627776) (hy : 0 < y) (hy1 : y ≤ 1099511627776) :
    x ≤ mul (ceil x y) y ∧ (0 < ceil x y → mul (ceil x y - 1) y < x) := by
  have hc := ceil_bd x y
  have hu := up_mul (x := x) hy
  have e := ceil_top x y (by rw [of_id (by omega) hy1]; exact hy)
  rw [of_id hx hx1, of_id (show 0 ≤ y by omega) hy1] at e
  have ey : of y = y := of_id (by omega) hy1
  unfold mul
  rw [ey]
  by_cases h0 : x = 0
  · rw [if_pos h0] at e
    rw [e]
    subst h0
    refine ⟨(of_bd _).1, fun h => absurd h (by decide)⟩
  · rw [if_neg h0] at e
    rw [of_id hc.1 hc.2]
    refine ⟨?_, fun hp => ?_⟩
    · rw [e]
      have h1 := hu.1
      generalize ((x - 1) / y + 1) * y = z at h1 ⊢
      unfold of; omega
    · rw [of_id (show 0 ≤ ceil x y - 1 by omega) (by omega), e, show (x - 1) / y + 1 - 1 = (x - 1) / y by omega]
      have h1 := hu.2.1
      have h2 : 0 ≤ (x - 1) / y * y := Int.mul_nonneg (by omega) (by omega)
      generalize (x - 1) / y * y = z at h1 h2 ⊢
      unfold of; omega
theorem grain_q {x y : Int} (hx : 0 ≤ x) (hx1 : x ≤ 1099511627776) (hy : 0 < y) (hy1 : y ≤ 1099511627776) : grain x y = if x % y = 0 then x else of (x - x % y + y) := by
  have h := grain_up x y (by rw [of_id (by omega) hy1]; exact hy)
  rw [of_id hx hx1, of_id (show 0 ≤ y by omega) hy1] at h
  exact h
theorem grain_none {x : Int} (hx : 0 ≤ x) (hx1 : x ≤ 1099511627776) : grain x 0 = x := by
  unfold grain
  rw [if_pos (show of 0 = 0 from rfl), of_id hx hx1]
theorem grain_bd (x y : Int) : 0 ≤ grain x y ∧ grain x y ≤ 1099511627776 := by
  unfold grain
  split
  · exact of_bd _
  · exact mul_bd _ _
theorem law_grain {x y : Int} (hx : 0 ≤ x) (hx1 : x ≤ 1099511627776) (hy : 0 < y) (hy1 : y ≤ 1099511627776) :
    x ≤ grain x y ∧ grain x y - x < y ∧ (grain x y < 1099511627776 → grain x y % y = 0) := by
  rw [grain_q hx hx1 hy hy1]
  have e1 := Int.mul_ediv_add_emod x y
  have e2 := Int.emod_nonneg x (show y ≠ 0 by omega)
  have e3 := Int.emod_lt_of_pos x hy
  split
  · refine ⟨by omega, by omega, fun _ => by assumption⟩
  · refine ⟨by unfold of; omega, by unfold of; omega, fun h => ?_⟩
    have hz : of (x - x % y + y) = x - x % y + y := by unfold of at *; omega
    rw [hz, show x - x % y + y = y * (x / y) + y * 1 by omega, ← Int.mul_add]
    exact Int.mul_emod_right _ _
theorem law_twice (x : Int) (k : Nat) (hk : k < 30) : twice x (k : Int) = mul x (2 ^ k) := by
  unfold twice mul
  rw [show (min (k : Int) 40).toNat = k by omega, dbl_pow k _ (of_bd x).1 (of_bd x).2]
  have h : (2 : Int) ^ k ≤ 2 ^ 30 := by
    obtain ⟨j, hj⟩ := Nat.exists_eq_add_of_le (show k ≤ 30 by omega)
    rw [hj, Int.pow_add]
    have h1 : (1 : Int) ≤ 2 ^ j := Int.pow_pos (by omega)
    have h2 := Int.mul_le_mul_of_nonneg_left h1 (show (0 : Int) ≤ 2 ^ k from Int.pow_nonneg (by omega))
    omega
  rw [of_id (n := (2 : Int) ^ k) (Int.pow_nonneg (by omega)) (Int.le_trans h (by decide))]
end Go.Proofs.Ytkicojenhkbinaa.st
