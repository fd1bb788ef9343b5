/- What SatLaws and SatOrder say of quantities, in plain words. -/
import Derived.Test.YtkicojenhkbinaaSatM
namespace Go.Proofs.Ytkicojenhkbinaa.st

theorem law_sub {x y : Int} (hx : 0 ≤ x) (hx1 : x ≤ 1099511627776) (hy : 0 ≤ y) (hy1 : y ≤ 1099511627776) (h : add x y < 1099511627776) : sub (add x y) x = y ∧ sub (add x y) y = x := by
  unfold add at *
  unfold sub
  unfold of at *
  omega
theorem law_ceil {x y : Int} (hx : 0 ≤ x) (hx1 : x ≤ 1099511627776) (hy : 0 < y) (hy1 : y ≤ 1099511627776) :
    x ≤ mul (ceil x y) y ∧ (0 < ceil x y → mul (ceil x y - 1) y < x) := by
  have hc := ceil_bd x y
  have hu := up_mul (x := x) hy
  have e := ceil_top x y (by rw [of_id (by omega) hy1]; exact hy)
  rw [of_id hx hx1, of_id (show 0 ≤ y by omega) hy1] at e
  have ey : of y = y := of_id (by omega) hy1
  unfold mul
  rw [ey]
  by_cases h0 : x = 0
  · rw [if_pos h0] at e
    rw [e]
    subst h0
    refine ⟨(of_bd _).1, fun h => absurd h (by decide)⟩
  · rw [if_neg h0] at e
    rw [of_id hc.1 hc.2]
    refine ⟨?_, fun hp => ?_⟩
    · rw [e]
      have h1 := hu.1
      generalize ((x - 1) / y + 1) * y = z at h1 ⊢
      unfold of; omega
    · rw [of_id (show 0 ≤ ceil x y - 1 by omega) (by omega), e, show (x - 1) / y + 1 - 1 = (x - 1) / y by omega]
      have h1 := hu.2.1
      have h2 : 0 ≤ (x - 1) / y * y := Int.mul_nonneg (by omega) (by omega)
      generalize (x - 1) / y * y = z at h1 h2 ⊢
      unfold of; omega
theorem grain_q {x y : Int} (hx : 0 ≤ x) (hx1 : x ≤ 1099511627776) (hy : 0 < y) (hy1 : y ≤ 1099511627776) : grain x y = if x % y = 0 then x else of (x - x % y + y) := by
  have h := grain_up x y (by rw [of_id (by omega) hy1]; exact hy)
  rw [of_id hx hx1, of_id (show 0 ≤ y by omega) hy1] at h
  exact h
theorem grain_none {x : Int} (hx : 0 ≤ x) (hx1 : x ≤ 1099511627776) : grain x 0 = x := by
  unfold grain
  rw [if_pos (show of 0 = 0 from rfl), of_id hx hx1]
theorem grain_bd (x y : Int) : 0 ≤ grain x y ∧ grain x y ≤ 1099511627776 := by
  unfold grain
  split
  · exact of_bd _
  · exact mul_bd _ _
theorem law_grain {x y : Int} (hx : 0 ≤ x) (hx1 : x ≤ 1099511627776) (hy : 0 < y) (hy1 : y ≤ 1099511627776) :
    x ≤ grain x y ∧ grain x y - x < y ∧ (grain x y < 1099511627776 → grain x y % y = 0) := by
  rw [grain_q hx hx1 hy hy1]
  have e1 := Int.mul_ediv_add_emod x y
  have e2 := Int.emod_nonneg x (show y ≠ 0 by omega)
  have e3 := Int.emod_lt_of_pos x hy
  split
  · refine ⟨by omega, by omega, fun _ => by assumption⟩
  · refine ⟨by unfold of; omega, by unfold of; omega, fun h => ?_⟩
    have hz : of (x - x % y + y) = x - x % y + y := by unfold of at *; omega
    rw [hz, show x - x % y + y = y * (x / y) + y * 1 by omega, ← Int.mul_add]
    exact Int.mul_emod_right _ _
theorem law_twice (x : Int) (k : Nat) (hk : k < 30) : twice x (k : Int) = mul x (2 ^ k) := by
  unfold twice mul
  rw [show (min (k : Int) 40).toNat = k by omega, dbl_pow k _ (of_bd x).1 (of_bd x).2]
  have h : (2 : Int) ^ k ≤ 2 ^ 30 := by
    obtain ⟨j, hj⟩ := Nat.exists_eq_add_of_le (show k ≤ 30 by omega)
    rw [hj, Int.pow_add]
    have h1 : (1 : Int) ≤ 2 ^ j := Int.pow_pos (by omega)
    have h2 := Int.mul_le_mul_of_nonneg_left h1 (show (0 : Int) ≤ 2 ^ k from Int.pow_nonneg (by omega))
    omega
  rw [of_id (n := (2 : Int) ^ k) (Int.pow_nonneg (by omega)) (Int.le_trans h (by decide))]

/-! In order -/
theorem add_mono {a b : Int} (c : Int) (h : a ≤ b) : add a c ≤ add b c := by unfold add of; omega
theorem sub_mono {a b : Int} (c : Int) (h : a ≤ b) : sub a c ≤ sub b c := by unfold sub of; omega
theorem sub_anti {a b : Int} (c : Int) (h : a ≤ b) : sub c b ≤ sub c a := by unfold sub of; omega
theorem mul_mono {a b : Int} (c : Int) (h : a ≤ b) : mul a c ≤ mul b c := by
  unfold mul
  exact of_mono (Int.mul_le_mul_of_nonneg_right (of_mono h) (of_bd c).1)
theorem dbl_mono (k : Nat) {x y : Int} (h : x ≤ y) : dbl k x ≤ dbl k y := by
  induction k with
  | zero => exact h
  | succ k ih => show add (dbl k x) (dbl k x) ≤ add (dbl k y) (dbl k y); unfold add of; omega
theorem twice_mono {a b : Int} (n : Int) (h : a ≤ b) : twice a n ≤ twice b n := dbl_mono _ (of_mono h)
theorem up_mono {x x' y : Int} (hy : 0 < y) (h : x ≤ x') : (x - 1) / y + 1 ≤ (x' - 1) / y + 1 := by
  have := Int.ediv_le_ediv hy (show x - 1 ≤ x' - 1 by omega)
  omega
theorem ceil_mono {a b : Int} (c : Int) (h : a ≤ b) : ceil a c ≤ ceil b c := by
  have h1 := of_mono h
  have ha := of_bd a
  have hc := of_bd c
  unfold ceil
  by_cases h0 : of a = 0
  · rw [if_pos h0]; exact (ceil_bd b c).1
  · rw [if_neg h0, if_neg (show ¬ of b = 0 by omega)]
    by_cases h2 : of c = 0
    · rw [if_pos h2, if_pos h2]; exact Int.le_refl _
    · rw [if_neg h2, if_neg h2]; exact up_mono (by omega) h1
theorem ceil_anti {a b : Int} (c : Int) (h : a ≤ b) : ceil c b ≤ ceil c a := by
  have h1 := of_mono h
  have ha := of_bd a
  have hb := of_bd b
  have hc := of_bd c
  by_cases h0 : of c = 0
  · unfold ceil; rw [if_pos h0, if_pos h0]; exact Int.le_refl _
  · by_cases h2 : of a = 0
    · have e : ceil c a = 1099511627776 := by unfold ceil; rw [if_neg h0, if_pos h2]
      rw [e]; exact (ceil_bd c b).2
    · unfold ceil
      rw [if_neg h0, if_neg h0, if_neg h2, if_neg (show ¬ of b = 0 by omega)]
      have hz : (of c - 1) / of b ≤ (of c - 1) / of a := by
        have hn : 0 ≤ of c - 1 := by omega
        have e1 := Int.mul_ediv_add_emod (of c - 1) (of b)
        have e2 := Int.emod_nonneg (of c - 1) (show of b ≠ 0 by omega)
        refine (Int.le_ediv_iff_mul_le (show 0 < of a by omega)).2 ?_
        have e3 : 0 ≤ (of c - 1) / of b := Int.ediv_nonneg hn hb.1
        have e4 := Int.mul_le_mul_of_nonneg_left h1 e3
        rw [Int.mul_comm (of b)] at e1
        omega
      omega
theorem grain_mono {a b : Int} (c : Int) (h : a ≤ b) : grain a c ≤ grain b c := by
  unfold grain
  by_cases h2 : of c = 0
  · rw [if_pos h2, if_pos h2]; exact of_mono h
  · rw [if_neg h2, if_neg h2]; exact mul_mono c (ceil_mono c h)
/-- The six that are held against each other. -/
def six (a c : Int) : Nat → Int
  | 0 => of a
  | 1 => add a c
  | 2 => sub a c
  | 3 => mul a c
  | 4 => grain a c
  | _ => twice a 3
theorem six_bd (a c : Int) (k : Nat) : 0 ≤ six a c k ∧ six a c k ≤ 1099511627776 := by
  match k with
  | 0 => exact of_bd _
  | 1 => exact of_bd _
  | 2 => exact of_bd _
  | 3 => exact of_bd _
  | 4 => exact grain_bd _ _
  | _ + 5 => exact twice_bd _ _
theorem six_mono {a b : Int} (c : Int) (h : a ≤ b) (k : Nat) : six a c k ≤ six b c k := by
  match k with
  | 0 => exact of_mono h
  | 1 => exact add_mono c h
  | 2 => exact sub_mono c h
  | 3 => exact mul_mono c h
  | 4 => exact grain_mono c h
  | _ + 5 => exact twice_mono 3 h
end Go.Proofs.Ytkicojenhkbinaa.st
