/- SatLaws: the law's walk. -/
import Derived.Test.YtkicojenhkbinaaSatH
import Derived.Test.YtkicojenhkbinaaSatN
namespace Go.Proofs.Ytkicojenhkbinaa.gn
open Go.RowKit
open Go.Proofs.Ytkicojenhkbinaa.st

theorem ne_of {a b : Int} (h : a = b) : (a != b) = false := by subst h; simp
theorem pow_bd (k : Nat) (hk : k < 30) : 0 ≤ (2 : Int) ^ k ∧ (2 : Int) ^ k ≤ 1073741824 := by
  refine ⟨Int.pow_nonneg (by omega), ?_⟩
  obtain ⟨j, hj⟩ := Nat.exists_eq_add_of_le (show k ≤ 30 by omega)
  have h1 : (1 : Int) ≤ 2 ^ j := Int.pow_pos (by omega)
  have h2 := Int.mul_le_mul_of_nonneg_left h1 (show (0 : Int) ≤ 2 ^ k from Int.pow_nonneg (by omega))
  rw [← Int.pow_add, ← hj] at h2
  have h3 : (2 : Int) ^ 30 = 1073741824 := by decide
  omega

set_option maxHeartbeats 16000000 in
theorem laws_any (a b : Int) (n : Nat) (hn : n < 256) (w : World) :
    Calls Try.prog 5 #[.int .i64 a, .int .i64 b, .int .u8 (n : Int)] w fun e w' => e = .returned (.bool true) ∧ Below w.heap.size w w' := by
  have ha := of_bd a
  have hb := of_bd b
  go_enter Try.func5, Try.ntmps5
  go_wp2_with (go_at_call 7; ((with_reducible refine (of_any _ _).mono ?_); rintro e w' ⟨rfl, rfl⟩))
  generalize of a = x at *
  generalize of b = y at *
  refine (add_new _ _ _).mono ?_
  rintro e w1 ⟨rfl, rfl⟩
  have HB : Hid (Below w.heap.size w (w.alloc (.cells #[.int .i64 x, .int .i64 y] 2))) := (Below.refl _ _).alloc (Nat.le_refl _) _
  generalize (w.alloc (.cells #[.int .i64 x, .int .i64 y] 2)) = w1 at *
  have hc := ceil_bd x y
  have hg := grain_bd x y
  have HM := Lib.hid (mul_comm x y)
  have HY : Hid (0 < y → (x ≤ mul (ceil x y) y ∧ (0 < ceil x y → mul (ceil x y - 1) y < x)) ∧ x ≤ grain x y ∧ grain x y - x < y ∧ (grain x y < 1099511627776 → grain x y % y = 0)) :=
    fun hy => ⟨law_ceil ha.1 ha.2 hy hb.2, law_grain ha.1 ha.2 hy hb.2⟩
  have HS : Hid (add x y < 1099511627776 → sub (add x y) x = y ∧ sub (add x y) y = x) := fun hs => law_sub ha.1 ha.2 hb.1 hb.2 hs
  have H0 : Hid (¬ 0 < y → x ≤ grain x y) := fun h => by
    obtain rfl : y = 0 := by omega
    rw [grain_none ha.1 ha.2]; omega
  have HT : ∀ k : Nat, Hid (k < 30 → twice x (k : Int) = mul x (2 ^ k)) := fun k hk => law_twice x k hk
  by_cases hs : add x y < 1099511627776
  · have hl := HS.out hs
    have t1 := ne_of hl.1
    have t2 := ne_of hl.2
    clear hl
    by_cases hy : 0 < y
    · have hq := HY.out hy
      have c1 := hq.1.1
      have g1 := hq.2.1
      have g2 := hq.2.2.1
      have HC := Lib.hid hq.1.2
      have HG := Lib.hid hq.2.2.2
      clear hq
      by_cases hc0 : 0 < ceil x y
      · have c2 := HC.out hc0
        by_cases hgt : grain x y < 1099511627776
        · have t3 := ne_of (HG.out hgt)
          go_wp2_with (first
            | (go_at_call 11; ((with_reducible refine (sub_any _ _ _).mono ?_); rintro e w' ⟨rfl, rfl⟩))
            | (go_at_call 13; ((with_reducible refine (mul_any _ _ _).mono ?_); rintro e w' ⟨rfl, rfl⟩))
            | (go_at_call 15; ((with_reducible refine (ceil_any _ _ _).mono ?_); rintro e w' ⟨rfl, rfl⟩))
            | (go_at_call 19; ((with_reducible refine (grain_any _ _ _).mono ?_); rintro e w' ⟨rfl, rfl⟩)))
          obtain ⟨k, hk, hkn⟩ : ∃ k : Nat, k < 30 ∧ (n : Int) % 30 = (k : Int) := ⟨n % 30, Nat.mod_lt _ (by decide), by omega⟩
          rw [hkn]
          have HTk := Lib.hid ((HT k).out hk)
          have p0 := (pow_bd k hk).1
          have p1 := (pow_bd k hk).2
          clear hkn HT
          refine (twice_any _ _ _).mono ?_
          rintro e w2 ⟨rfl, hb2⟩
          have HB2 := Lib.hid (HB.out.trans (hb2.mono HB.out.size))
          clear hb2
          go_wp2_with fail
          refine (mul_any _ _ _).mono ?_
          rintro e w3 ⟨rfl, rfl⟩
          rw [← HTk.out]
          go_wp2_with fail
          refine (mul_any _ _ _).mono ?_
          rintro e w3 ⟨rfl, rfl⟩
          go_wp2_with fail
          refine (mul_any _ _ _).mono ?_
          rintro e w3 ⟨rfl, rfl⟩
          rw [← HM.out]
          go_wp2_with fail
          refine (head_any _).mono ?_
          rintro e w3 ⟨rfl, hb3⟩
          have HB3 := Lib.hid (HB2.out.trans (hb3.mono HB2.out.size))
          clear hb3
          go_wp2
          go_ret
          exact ⟨rfl, HB3.out⟩
        · go_wp2_with (first
            | (go_at_call 11; ((with_reducible refine (sub_any _ _ _).mono ?_); rintro e w' ⟨rfl, rfl⟩))
            | (go_at_call 13; ((with_reducible refine (mul_any _ _ _).mono ?_); rintro e w' ⟨rfl, rfl⟩))
            | (go_at_call 15; ((with_reducible refine (ceil_any _ _ _).mono ?_); rintro e w' ⟨rfl, rfl⟩))
            | (go_at_call 19; ((with_reducible refine (grain_any _ _ _).mono ?_); rintro e w' ⟨rfl, rfl⟩)))
          obtain ⟨k, hk, hkn⟩ : ∃ k : Nat, k < 30 ∧ (n : Int) % 30 = (k : Int) := ⟨n % 30, Nat.mod_lt _ (by decide), by omega⟩
          rw [hkn]
          have HTk := Lib.hid ((HT k).out hk)
          have p0 := (pow_bd k hk).1
          have p1 := (pow_bd k hk).2
          clear hkn HT
          refine (twice_any _ _ _).mono ?_
          rintro e w2 ⟨rfl, hb2⟩
          have HB2 := Lib.hid (HB.out.trans (hb2.mono HB.out.size))
          clear hb2
          go_wp2_with fail
          refine (mul_any _ _ _).mono ?_
          rintro e w3 ⟨rfl, rfl⟩
          rw [← HTk.out]
          go_wp2_with fail
          refine (mul_any _ _ _).mono ?_
          rintro e w3 ⟨rfl, rfl⟩
          go_wp2_with fail
          refine (mul_any _ _ _).mono ?_
          rintro e w3 ⟨rfl, rfl⟩
          rw [← HM.out]
          go_wp2_with fail
          refine (head_any _).mono ?_
          rintro e w3 ⟨rfl, hb3⟩
          have HB3 := Lib.hid (HB2.out.trans (hb3.mono HB2.out.size))
          clear hb3
          go_wp2
          go_ret
          exact ⟨rfl, HB3.out⟩
      · by_cases hgt : grain x y < 1099511627776
        · have t3 := ne_of (HG.out hgt)
          go_wp2_with (first
            | (go_at_call 11; ((with_reducible refine (sub_any _ _ _).mono ?_); rintro e w' ⟨rfl, rfl⟩))
            | (go_at_call 13; ((with_reducible refine (mul_any _ _ _).mono ?_); rintro e w' ⟨rfl, rfl⟩))
            | (go_at_call 15; ((with_reducible refine (ceil_any _ _ _).mono ?_); rintro e w' ⟨rfl, rfl⟩))
            | (go_at_call 19; ((with_reducible refine (grain_any _ _ _).mono ?_); rintro e w' ⟨rfl, rfl⟩)))
          obtain ⟨k, hk, hkn⟩ : ∃ k : Nat, k < 30 ∧ (n : Int) % 30 = (k : Int) := ⟨n % 30, Nat.mod_lt _ (by decide), by omega⟩
          rw [hkn]
          have HTk := Lib.hid ((HT k).out hk)
          have p0 := (pow_bd k hk).1
          have p1 := (pow_bd k hk).2
          clear hkn HT
          refine (twice_any _ _ _).mono ?_
          rintro e w2 ⟨rfl, hb2⟩
          have HB2 := Lib.hid (HB.out.trans (hb2.mono HB.out.size))
          clear hb2
          go_wp2_with fail
          refine (mul_any _ _ _).mono ?_
          rintro e w3 ⟨rfl, rfl⟩
          rw [← HTk.out]
          go_wp2_with fail
          refine (mul_any _ _ _).mono ?_
          rintro e w3 ⟨rfl, rfl⟩
          go_wp2_with fail
          refine (mul_any _ _ _).mono ?_
          rintro e w3 ⟨rfl, rfl⟩
          rw [← HM.out]
          go_wp2_with fail
          refine (head_any _).mono ?_
          rintro e w3 ⟨rfl, hb3⟩
          have HB3 := Lib.hid (HB2.out.trans (hb3.mono HB2.out.size))
          clear hb3
          go_wp2
          go_ret
          exact ⟨rfl, HB3.out⟩
        · go_wp2_with (first
            | (go_at_call 11; ((with_reducible refine (sub_any _ _ _).mono ?_); rintro e w' ⟨rfl, rfl⟩))
            | (go_at_call 13; ((with_reducible refine (mul_any _ _ _).mono ?_); rintro e w' ⟨rfl, rfl⟩))
            | (go_at_call 15; ((with_reducible refine (ceil_any _ _ _).mono ?_); rintro e w' ⟨rfl, rfl⟩))
            | (go_at_call 19; ((with_reducible refine (grain_any _ _ _).mono ?_); rintro e w' ⟨rfl, rfl⟩)))
          obtain ⟨k, hk, hkn⟩ : ∃ k : Nat, k < 30 ∧ (n : Int) % 30 = (k : Int) := ⟨n % 30, Nat.mod_lt _ (by decide), by omega⟩
          rw [hkn]
          have HTk := Lib.hid ((HT k).out hk)
          have p0 := (pow_bd k hk).1
          have p1 := (pow_bd k hk).2
          clear hkn HT
          refine (twice_any _ _ _).mono ?_
          rintro e w2 ⟨rfl, hb2⟩
          have HB2 := Lib.hid (HB.out.trans (hb2.mono HB.out.size))
          clear hb2
          go_wp2_with fail
          refine (mul_any _ _ _).mono ?_
          rintro e w3 ⟨rfl, rfl⟩
          rw [← HTk.out]
          go_wp2_with fail
          refine (mul_any _ _ _).mono ?_
          rintro e w3 ⟨rfl, rfl⟩
          go_wp2_with fail
          refine (mul_any _ _ _).mono ?_
          rintro e w3 ⟨rfl, rfl⟩
          rw [← HM.out]
          go_wp2_with fail
          refine (head_any _).mono ?_
          rintro e w3 ⟨rfl, hb3⟩
          have HB3 := Lib.hid (HB2.out.trans (hb3.mono HB2.out.size))
          clear hb3
          go_wp2
          go_ret
          exact ⟨rfl, HB3.out⟩
    · have g1 := H0.out hy
      go_wp2_with (first
        | (go_at_call 11; ((with_reducible refine (sub_any _ _ _).mono ?_); rintro e w' ⟨rfl, rfl⟩))
        | (go_at_call 13; ((with_reducible refine (mul_any _ _ _).mono ?_); rintro e w' ⟨rfl, rfl⟩))
        | (go_at_call 15; ((with_reducible refine (ceil_any _ _ _).mono ?_); rintro e w' ⟨rfl, rfl⟩))
        | (go_at_call 19; ((with_reducible refine (grain_any _ _ _).mono ?_); rintro e w' ⟨rfl, rfl⟩)))
      obtain ⟨k, hk, hkn⟩ : ∃ k : Nat, k < 30 ∧ (n : Int) % 30 = (k : Int) := ⟨n % 30, Nat.mod_lt _ (by decide), by omega⟩
      rw [hkn]
      have HTk := Lib.hid ((HT k).out hk)
      have p0 := (pow_bd k hk).1
      have p1 := (pow_bd k hk).2
      clear hkn HT
      refine (twice_any _ _ _).mono ?_
      rintro e w2 ⟨rfl, hb2⟩
      have HB2 := Lib.hid (HB.out.trans (hb2.mono HB.out.size))
      clear hb2
      go_wp2_with fail
      refine (mul_any _ _ _).mono ?_
      rintro e w3 ⟨rfl, rfl⟩
      rw [← HTk.out]
      go_wp2_with fail
      refine (mul_any _ _ _).mono ?_
      rintro e w3 ⟨rfl, rfl⟩
      go_wp2_with fail
      refine (mul_any _ _ _).mono ?_
      rintro e w3 ⟨rfl, rfl⟩
      rw [← HM.out]
      go_wp2_with fail
      refine (head_any _).mono ?_
      rintro e w3 ⟨rfl, hb3⟩
      have HB3 := Lib.hid (HB2.out.trans (hb3.mono HB2.out.size))
      clear hb3
      go_wp2
      go_ret
      exact ⟨rfl, HB3.out⟩
  · by_cases hy : 0 < y
    · have hq := HY.out hy
      have c1 := hq.1.1
      have g1 := hq.2.1
      have g2 := hq.2.2.1
      have HC := Lib.hid hq.1.2
      have HG := Lib.hid hq.2.2.2
      clear hq
      by_cases hc0 : 0 < ceil x y
      · have c2 := HC.out hc0
        by_cases hgt : grain x y < 1099511627776
        · have t3 := ne_of (HG.out hgt)
          go_wp2_with (first
            | (go_at_call 11; ((with_reducible refine (sub_any _ _ _).mono ?_); rintro e w' ⟨rfl, rfl⟩))
            | (go_at_call 13; ((with_reducible refine (mul_any _ _ _).mono ?_); rintro e w' ⟨rfl, rfl⟩))
            | (go_at_call 15; ((with_reducible refine (ceil_any _ _ _).mono ?_); rintro e w' ⟨rfl, rfl⟩))
            | (go_at_call 19; ((with_reducible refine (grain_any _ _ _).mono ?_); rintro e w' ⟨rfl, rfl⟩)))
          obtain ⟨k, hk, hkn⟩ : ∃ k : Nat, k < 30 ∧ (n : Int) % 30 = (k : Int) := ⟨n % 30, Nat.mod_lt _ (by decide), by omega⟩
          rw [hkn]
          have HTk := Lib.hid ((HT k).out hk)
          have p0 := (pow_bd k hk).1
          have p1 := (pow_bd k hk).2
          clear hkn HT
          refine (twice_any _ _ _).mono ?_
          rintro e w2 ⟨rfl, hb2⟩
          have HB2 := Lib.hid (HB.out.trans (hb2.mono HB.out.size))
          clear hb2
          go_wp2_with fail
          refine (mul_any _ _ _).mono ?_
          rintro e w3 ⟨rfl, rfl⟩
          rw [← HTk.out]
          go_wp2_with fail
          refine (mul_any _ _ _).mono ?_
          rintro e w3 ⟨rfl, rfl⟩
          go_wp2_with fail
          refine (mul_any _ _ _).mono ?_
          rintro e w3 ⟨rfl, rfl⟩
          rw [← HM.out]
          go_wp2_with fail
          refine (head_any _).mono ?_
          rintro e w3 ⟨rfl, hb3⟩
          have HB3 := Lib.hid (HB2.out.trans (hb3.mono HB2.out.size))
          clear hb3
          go_wp2
          go_ret
          exact ⟨rfl, HB3.out⟩
        · go_wp2_with (first
            | (go_at_call 11; ((with_reducible refine (sub_any _ _ _).mono ?_); rintro e w' ⟨rfl, rfl⟩))
            | (go_at_call 13; ((with_reducible refine (mul_any _ _ _).mono ?_); rintro e w' ⟨rfl, rfl⟩))
            | (go_at_call 15; ((with_reducible refine (ceil_any _ _ _).mono ?_); rintro e w' ⟨rfl, rfl⟩))
            | (go_at_call 19; ((with_reducible refine (grain_any _ _ _).mono ?_); rintro e w' ⟨rfl, rfl⟩)))
          obtain ⟨k, hk, hkn⟩ : ∃ k : Nat, k < 30 ∧ (n : Int) % 30 = (k : Int) := ⟨n % 30, Nat.mod_lt _ (by decide), by omega⟩
          rw [hkn]
          have HTk := Lib.hid ((HT k).out hk)
          have p0 := (pow_bd k hk).1
          have p1 := (pow_bd k hk).2
          clear hkn HT
          refine (twice_any _ _ _).mono ?_
          rintro e w2 ⟨rfl, hb2⟩
          have HB2 := Lib.hid (HB.out.trans (hb2.mono HB.out.size))
          clear hb2
          go_wp2_with fail
          refine (mul_any _ _ _).mono ?_
          rintro e w3 ⟨rfl, rfl⟩
          rw [← HTk.out]
          go_wp2_with fail
          refine (mul_any _ _ _).mono ?_
          rintro e w3 ⟨rfl, rfl⟩
          go_wp2_with fail
          refine (mul_any _ _ _).mono ?_
          rintro e w3 ⟨rfl, rfl⟩
          rw [← HM.out]
          go_wp2_with fail
          refine (head_any _).mono ?_
          rintro e w3 ⟨rfl, hb3⟩
          have HB3 := Lib.hid (HB2.out.trans (hb3.mono HB2.out.size))
          clear hb3
          go_wp2
          go_ret
          exact ⟨rfl, HB3.out⟩
      · by_cases hgt : grain x y < 1099511627776
        · have t3 := ne_of (HG.out hgt)
          go_wp2_with (first
            | (go_at_call 11; ((with_reducible refine (sub_any _ _ _).mono ?_); rintro e w' ⟨rfl, rfl⟩))
            | (go_at_call 13; ((with_reducible refine (mul_any _ _ _).mono ?_); rintro e w' ⟨rfl, rfl⟩))
            | (go_at_call 15; ((with_reducible refine (ceil_any _ _ _).mono ?_); rintro e w' ⟨rfl, rfl⟩))
            | (go_at_call 19; ((with_reducible refine (grain_any _ _ _).mono ?_); rintro e w' ⟨rfl, rfl⟩)))
          obtain ⟨k, hk, hkn⟩ : ∃ k : Nat, k < 30 ∧ (n : Int) % 30 = (k : Int) := ⟨n % 30, Nat.mod_lt _ (by decide), by omega⟩
          rw [hkn]
          have HTk := Lib.hid ((HT k).out hk)
          have p0 := (pow_bd k hk).1
          have p1 := (pow_bd k hk).2
          clear hkn HT
          refine (twice_any _ _ _).mono ?_
          rintro e w2 ⟨rfl, hb2⟩
          have HB2 := Lib.hid (HB.out.trans (hb2.mono HB.out.size))
          clear hb2
          go_wp2_with fail
          refine (mul_any _ _ _).mono ?_
          rintro e w3 ⟨rfl, rfl⟩
          rw [← HTk.out]
          go_wp2_with fail
          refine (mul_any _ _ _).mono ?_
          rintro e w3 ⟨rfl, rfl⟩
          go_wp2_with fail
          refine (mul_any _ _ _).mono ?_
          rintro e w3 ⟨rfl, rfl⟩
          rw [← HM.out]
          go_wp2_with fail
          refine (head_any _).mono ?_
          rintro e w3 ⟨rfl, hb3⟩
          have HB3 := Lib.hid (HB2.out.trans (hb3.mono HB2.out.size))
          clear hb3
          go_wp2
          go_ret
          exact ⟨rfl, HB3.out⟩
        · go_wp2_with (first
            | (go_at_call 11; ((with_reducible refine (sub_any _ _ _).mono ?_); rintro e w' ⟨rfl, rfl⟩))
            | (go_at_call 13; ((with_reducible refine (mul_any _ _ _).mono ?_); rintro e w' ⟨rfl, rfl⟩))
            | (go_at_call 15; ((with_reducible refine (ceil_any _ _ _).mono ?_); rintro e w' ⟨rfl, rfl⟩))
            | (go_at_call 19; ((with_reducible refine (grain_any _ _ _).mono ?_); rintro e w' ⟨rfl, rfl⟩)))
          obtain ⟨k, hk, hkn⟩ : ∃ k : Nat, k < 30 ∧ (n : Int) % 30 = (k : Int) := ⟨n % 30, Nat.mod_lt _ (by decide), by omega⟩
          rw [hkn]
          have HTk := Lib.hid ((HT k).out hk)
          have p0 := (pow_bd k hk).1
          have p1 := (pow_bd k hk).2
          clear hkn HT
          refine (twice_any _ _ _).mono ?_
          rintro e w2 ⟨rfl, hb2⟩
          have HB2 := Lib.hid (HB.out.trans (hb2.mono HB.out.size))
          clear hb2
          go_wp2_with fail
          refine (mul_any _ _ _).mono ?_
          rintro e w3 ⟨rfl, rfl⟩
          rw [← HTk.out]
          go_wp2_with fail
          refine (mul_any _ _ _).mono ?_
          rintro e w3 ⟨rfl, rfl⟩
          go_wp2_with fail
          refine (mul_any _ _ _).mono ?_
          rintro e w3 ⟨rfl, rfl⟩
          rw [← HM.out]
          go_wp2_with fail
          refine (head_any _).mono ?_
          rintro e w3 ⟨rfl, hb3⟩
          have HB3 := Lib.hid (HB2.out.trans (hb3.mono HB2.out.size))
          clear hb3
          go_wp2
          go_ret
          exact ⟨rfl, HB3.out⟩
    · have g1 := H0.out hy
      go_wp2_with (first
        | (go_at_call 11; ((with_reducible refine (sub_any _ _ _).mono ?_); rintro e w' ⟨rfl, rfl⟩))
        | (go_at_call 13; ((with_reducible refine (mul_any _ _ _).mono ?_); rintro e w' ⟨rfl, rfl⟩))
        | (go_at_call 15; ((with_reducible refine (ceil_any _ _ _).mono ?_); rintro e w' ⟨rfl, rfl⟩))
        | (go_at_call 19; ((with_reducible refine (grain_any _ _ _).mono ?_); rintro e w' ⟨rfl, rfl⟩)))
      obtain ⟨k, hk, hkn⟩ : ∃ k : Nat, k < 30 ∧ (n : Int) % 30 = (k : Int) := ⟨n % 30, Nat.mod_lt _ (by decide), by omega⟩
      rw [hkn]
      have HTk := Lib.hid ((HT k).out hk)
      have p0 := (pow_bd k hk).1
      have p1 := (pow_bd k hk).2
      clear hkn HT
      refine (twice_any _ _ _).mono ?_
      rintro e w2 ⟨rfl, hb2⟩
      have HB2 := Lib.hid (HB.out.trans (hb2.mono HB.out.size))
      clear hb2
      go_wp2_with fail
      refine (mul_any _ _ _).mono ?_
      rintro e w3 ⟨rfl, rfl⟩
      rw [← HTk.out]
      go_wp2_with fail
      refine (mul_any _ _ _).mono ?_
      rintro e w3 ⟨rfl, rfl⟩
      go_wp2_with fail
      refine (mul_any _ _ _).mono ?_
      rintro e w3 ⟨rfl, rfl⟩
      rw [← HM.out]
      go_wp2_with fail
      refine (head_any _).mono ?_
      rintro e w3 ⟨rfl, hb3⟩
      have HB3 := Lib.hid (HB2.out.trans (hb3.mono HB2.out.size))
      clear hb3
      go_wp2
      go_ret
      exact ⟨rfl, HB3.out⟩
end Go.Proofs.Ytkicojenhkbinaa.gn
