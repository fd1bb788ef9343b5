/- Quantities in plain words: numbers clamped from 0 to 2^40, their sums, differences, products. -/
namespace Go.Proofs.Ytiaidlpceibnpaa.st

/-- A number, clamped to a quantity. -/
def of (n : Int) : Int := min (max n 0) 1099511627776
theorem of_bd (n : Int) : 0 ≤ of n ∧ of n ≤ 1099511627776 := by unfold of; omega
theorem of_id {n : Int} (h0 : 0 ≤ n) (h1 : n ≤ 1099511627776) : of n = n := by unfold of; omega
theorem of_of (n : Int) : of (of n) = of n := of_id (of_bd n).1 (of_bd n).2
theorem of_neg {n : Int} (h : n < 0) : of n = 0 := by unfold of; omega
theorem of_top {n : Int} (h : 1099511627776 < n) : of n = 1099511627776 := by unfold of; omega
theorem of_mono {a b : Int} (h : a ≤ b) : of a ≤ of b := by unfold of; omega

def add (a b : Int) : Int := of (of a + of b)
def sub (a b : Int) : Int := of (of a - of b)
def mul (a b : Int) : Int := of (of a * of b)
def ceil (a b : Int) : Int := if of a = 0 then 0 else if of b = 0 then 1099511627776 else (of a - 1) / of b + 1
def grain (a g : Int) : Int := if of g = 0 then of a else mul (ceil a g) g
/-- Doubled so often. -/
def dbl : Nat → Int → Int
  | 0, x => x
  | k + 1, x => add (dbl k x) (dbl k x)
def twice (a n : Int) : Int := dbl (min n 40).toNat (of a)
/-- The sum of a row, from s on. -/
def sumFrom (s : Int) (l : List Int) : Int := l.foldl add s
def sum (l : List Int) : Int := sumFrom 0 l

theorem add_bd (a b : Int) : 0 ≤ add a b ∧ add a b ≤ 1099511627776 := of_bd _
theorem sub_bd (a b : Int) : 0 ≤ sub a b ∧ sub a b ≤ 1099511627776 := of_bd _
theorem mul_bd (a b : Int) : 0 ≤ mul a b ∧ mul a b ≤ 1099511627776 := of_bd _

/-! Sums -/
def tot (l : List Int) : Int := l.foldr (fun x s => of x + s) 0
theorem tot_nonneg (l : List Int) : 0 ≤ tot l := by
  induction l with
  | nil => exact Int.le_refl _
  | cons x l ih => have := of_bd x; show 0 ≤ of x + tot l; omega
theorem tot_app (l m : List Int) : tot (l ++ m) = tot l + tot m := by
  induction l with
  | nil => show tot m = 0 + tot m; omega
  | cons x l ih => show of x + tot (l ++ m) = of x + tot l + tot m; omega
theorem tot_rev (l : List Int) : tot l.reverse = tot l := by
  induction l with
  | nil => rfl
  | cons x l ih => rw [List.reverse_cons, tot_app, ih]; show tot l + (of x + 0) = of x + tot l; omega
theorem sumFrom_is (l : List Int) : ∀ s : Int, 0 ≤ s → s ≤ 1099511627776 → sumFrom s l = of (s + tot l) := by
  induction l with
  | nil => intro s h0 h1; show s = of (s + 0); unfold of; omega
  | cons x l ih =>
    intro s h0 h1
    show sumFrom (add s x) l = of (s + (of x + tot l))
    rw [ih _ (add_bd s x).1 (add_bd s x).2]
    have h2 := of_bd x
    have h3 := tot_nonneg l
    unfold add
    generalize of x = y at h2 ⊢
    generalize tot l = z at h3 ⊢
    unfold of; omega
theorem sum_is (l : List Int) : sum l = of (tot l) := by
  unfold sum; rw [sumFrom_is l 0 (by omega) (by omega)]; congr 1; omega
theorem sum_bd (l : List Int) : 0 ≤ sum l ∧ sum l ≤ 1099511627776 := by rw [sum_is]; exact of_bd _
theorem sum_rev (l : List Int) : sum l.reverse = sum l := by rw [sum_is, sum_is, tot_rev]
theorem sumFrom_bd (s : Int) (l : List Int) (h0 : 0 ≤ s) (h1 : s ≤ 1099511627776) : 0 ≤ sumFrom s l ∧ sumFrom s l ≤ 1099511627776 := by
  rw [sumFrom_is l s h0 h1]; exact of_bd _
theorem sum_snoc (l : List Int) (x : Int) : sum (l ++ [x]) = add (sum l) x := by unfold sum sumFrom; rw [List.foldl_append]; rfl
theorem sum_take (l : List Int) (k : Nat) (h : k < l.length) : sum (l.take (k + 1)) = add (sum (l.take k)) l[k] := by
  rw [List.take_succ_eq_append_getElem h, sum_snoc]
theorem sum_two (a b : Int) : sum [a, b] = add a b := by
  show add (add 0 a) b = add a b
  have := of_bd a
  unfold add
  rw [of_of, show of 0 = 0 from rfl, Int.zero_add, of_of]
theorem tot_mem {l : List Int} {x : Int} (h : x ∈ l) : of x ≤ tot l := by
  induction l with
  | nil => cases h
  | cons y l ih =>
    have h1 := tot_nonneg l
    have h2 := of_bd y
    show of x ≤ of y + tot l
    rcases List.mem_cons.1 h with rfl | h
    · omega
    · have := ih h; omega
theorem sum_part {l : List Int} {x : Int} (h : x ∈ l) : of x ≤ sum l := by
  rw [sum_is, ← of_of x]; exact of_mono (tot_mem h)

/-! Doubling -/
theorem dbl_bd (k : Nat) (x : Int) (h0 : 0 ≤ x) (h1 : x ≤ 1099511627776) : 0 ≤ dbl k x ∧ dbl k x ≤ 1099511627776 := by
  cases k with
  | zero => exact ⟨h0, h1⟩
  | succ k => exact add_bd _ _
theorem dbl_pow (k : Nat) (x : Int) (h0 : 0 ≤ x) (h1 : x ≤ 1099511627776) : dbl k x = of (x * 2 ^ k) := by
  induction k with
  | zero => show x = of (x * 1); rw [Int.mul_one]; exact (of_id h0 h1).symm
  | succ k ih =>
    show add (dbl k x) (dbl k x) = _
    rw [ih, Int.pow_succ, ← Int.mul_assoc]
    have h2 : 0 ≤ x * 2 ^ k := Int.mul_nonneg h0 (Int.pow_nonneg (by omega))
    generalize x * 2 ^ k = z at h2 ⊢
    unfold add of; omega
theorem dbl_top (k : Nat) (hk : 40 ≤ k) (x : Int) (h0 : 1 ≤ x) (h1 : x ≤ 1099511627776) : dbl k x = 1099511627776 := by
  rw [dbl_pow k x (by omega) h1]
  have h2 : (2 : Int) ^ 40 ≤ 2 ^ k := by
    obtain ⟨j, rfl⟩ := Nat.exists_eq_add_of_le hk
    rw [Int.pow_add]
    have : (1 : Int) ≤ 2 ^ j := Int.pow_pos (by omega)
    have := Int.mul_le_mul_of_nonneg_left this (show (0 : Int) ≤ 2 ^ 40 by decide)
    omega
  have h3 : 1 * (2 : Int) ^ 40 ≤ x * 2 ^ k := Int.mul_le_mul h0 h2 (by decide) (by omega)
  have h4 : (1 : Int) * 2 ^ 40 = 1099511627776 := by decide
  unfold of; omega
theorem dbl_zero (k : Nat) : dbl k 0 = 0 := by
  rw [dbl_pow k 0 (by omega) (by omega), Int.zero_mul]; rfl
/-- Doubled 40 times it is doubled as often as one likes. -/
theorem dbl_same (j k : Nat) (hj : 40 ≤ j) (hk : 40 ≤ k) (x : Int) (h0 : 0 ≤ x) (h1 : x ≤ 1099511627776) : dbl j x = dbl k x := by
  by_cases h : x = 0
  · rw [h, dbl_zero, dbl_zero]
  · rw [dbl_top j hj x (by omega) h1, dbl_top k hk x (by omega) h1]
theorem twice_bd (a n : Int) : 0 ≤ twice a n ∧ twice a n ≤ 1099511627776 := dbl_bd _ _ (of_bd a).1 (of_bd a).2
/-- As the document's answer doubles: 64 times at most. -/
theorem twice_64 (a n : Int) : twice a n = dbl (min n 64).toNat (of a) := by
  unfold twice
  by_cases h : n ≤ 40
  · rw [show min n 40 = n by omega, show min n 64 = n by omega]
  · exact dbl_same _ _ (by omega) (by omega) _ (of_bd a).1 (of_bd a).2

/-! Products -/
theorem mul_comm (a b : Int) : mul a b = mul b a := by unfold mul; rw [Int.mul_comm]
theorem prod_nonneg (a b : Int) : 0 ≤ of a * of b := Int.mul_nonneg (of_bd a).1 (of_bd b).1
/-- A product of two quantities, asked by a division whether it is too great. -/
theorem quo_lt {x y : Int} (hy : 0 < y) (h : 1099511627776 / y < x) : 1099511627776 < x * y := Int.lt_mul_of_ediv_lt hy h
theorem quo_le {x y : Int} (hy : 0 < y) (h : x ≤ 1099511627776 / y) : x * y ≤ 1099511627776 := Int.mul_le_of_le_ediv hy h

/-- One round of a product by doubling keeps of (a * b + s). -/
theorem round_keeps (a s q r : Int) (ha : 0 ≤ a) (hs : 0 ≤ s) (hq : 0 ≤ q) (hr : 0 ≤ r) :
    of (of (a + a) * q + of (s + r * a)) = of (a * (2 * q + r) + s) := by
  have e : a * (2 * q + r) + s = (a + a) * q + (s + r * a) := by
    rw [Int.mul_add, Int.add_mul, ← Int.mul_assoc, Int.mul_comm a 2, Int.two_mul, Int.add_mul, Int.mul_comm r a]; omega
  rw [e]
  have h1 : 0 ≤ r * a := Int.mul_nonneg hr ha
  generalize r * a = ra at h1 ⊢
  by_cases h0 : q = 0
  · subst h0
    rw [Int.mul_zero, Int.mul_zero]
    unfold of; omega
  · by_cases ht : a + a ≤ 1099511627776
    · rw [of_id (show 0 ≤ a + a by omega) ht]
      have h2 : 0 ≤ (a + a) * q := Int.mul_nonneg (by omega) hq
      generalize (a + a) * q = z at h2 ⊢
      unfold of; omega
    · rw [of_top (show 1099511627776 < a + a by omega)]
      have h2 : (a + a) * 1 ≤ (a + a) * q := Int.mul_le_mul_of_nonneg_left (by omega) (by omega)
      generalize (a + a) * q = z at h2 ⊢
      unfold of; omega

/-! Ceil and Grain -/
theorem ceil_bd (a b : Int) : 0 ≤ ceil a b ∧ ceil a b ≤ 1099511627776 := by
  unfold ceil
  have ha := of_bd a
  have hb := of_bd b
  split
  · omega
  · split
    · omega
    · have h1 : 0 ≤ (of a - 1) / of b := Int.ediv_nonneg (by omega) (by omega)
      have h2 : (of a - 1) / of b ≤ of a - 1 := Int.ediv_le_self _ (by omega)
      omega
/-- The least number whose product with y is not below x. -/
theorem up_mul {x y : Int} (hy : 0 < y) : x ≤ ((x - 1) / y + 1) * y ∧ (x - 1) / y * y < x ∧ ((x - 1) / y + 1) * y < x + y := by
  have h1 := Int.mul_ediv_add_emod (x - 1) y
  have h2 := Int.emod_nonneg (x - 1) (show y ≠ 0 by omega)
  have h3 := Int.emod_lt_of_pos (x - 1) hy
  rw [Int.mul_comm] at h1
  rw [Int.add_mul, Int.one_mul]
  generalize (x - 1) / y * y = z at h1 ⊢
  omega
theorem up_least {x y q : Int} (hy : 0 < y) (h1 : x ≤ q * y) (h2 : (q - 1) * y < x) : (x - 1) / y + 1 = q := by
  have h3 := up_mul (x := x) hy
  have h4 : ¬ (x - 1) / y + 1 < q := by
    intro h
    have := Int.mul_le_mul_of_nonneg_right (show (x - 1) / y + 1 ≤ q - 1 by omega) (show 0 ≤ y by omega)
    omega
  have h5 : ¬ q < (x - 1) / y + 1 := by
    intro h
    have := Int.mul_le_mul_of_nonneg_right (show q ≤ (x - 1) / y by omega) (show 0 ≤ y by omega)
    omega
  omega
/-- A multiple of y that is not below x, and less than y above it. -/
theorem ceil_top (a b : Int) (hb : 0 < of b) : ceil a b = if of a = 0 then 0 else (of a - 1) / of b + 1 := by
  unfold ceil
  rw [if_neg (show ¬ of b = 0 by omega)]
theorem grain_up (a g : Int) (hg : 0 < of g) : grain a g = if of a % of g = 0 then of a else of (of a - of a % of g + of g) := by
  have hc := ceil_bd a g
  have ha := of_bd a
  have hgb := of_bd g
  unfold grain
  rw [if_neg (show ¬ of g = 0 by omega)]
  unfold mul
  rw [of_id hc.1 hc.2, ceil_top a g hg]
  generalize of a = x at *
  generalize of g = y at *
  have e1 := Int.mul_ediv_add_emod x y
  have e2 := Int.emod_nonneg x (show y ≠ 0 by omega)
  have e3 := Int.emod_lt_of_pos x hg
  rw [Int.mul_comm] at e1
  by_cases h0 : x = 0
  · subst h0
    rw [if_pos rfl, Int.zero_mul, Int.zero_emod, if_pos rfl]; rfl
  · rw [if_neg h0]
    by_cases h1 : x % y = 0
    · rw [if_pos h1, up_least hg (show x ≤ x / y * y by omega) (by rw [Int.sub_mul, Int.one_mul]; omega)]
      rw [show x / y * y = x by omega]; exact of_id (by omega) (by omega)
    · rw [if_neg h1, up_least hg (show x ≤ (x / y + 1) * y by rw [Int.add_mul, Int.one_mul]; omega) (by rw [show x / y + 1 - 1 = x / y by omega]; omega)]
      rw [Int.add_mul, Int.one_mul]
      congr 1; omega
end Go.Proofs.Ytiaidlpceibnpaa.st
