/- sat.Grain: the contract (out of SatA and SatB: the program's half). -/
import Derived.Test.YtdjpnlkhdilakaaPoH
set_option linter.unusedVariables false
set_option maxRecDepth 100000
namespace Go.Proofs.Ytdjpnlkhdilakaa.gn
open Go.RowKit
open Go.Proofs.Ytdjpnlkhdilakaa.st

theorem ret_i64 {a b : Int} (h : a = b) : Ending.returned (.int .i64 a) = .returned (.int .i64 b) := by rw [h]
/-- What a function that only computes answers. -/
def Says (n : Int) (w : World) (e : Ending) (w' : World) : Prop := e = .returned (.int .i64 n) ∧ w = w'
theorem sof_any (n : Int) (w : World) : Calls Try.prog 37 #[.int .i64 n] w (Says (of n) w) := by
  go_enter Try.func37, Try.ntmps37
  go_wp2
  go_ret
  exact ⟨rfl, rfl⟩
/-- Two quantities by a function g that only computes. -/
theorem both_any (g : FuncId) (hg : ∀ (x y : Int) (w : World), (callFunc g #[.int .i64 x, .int .i64 y]).run Try.prog w = .ok (.enter g #[.int .i64 x, .int .i64 y]) w) (a b r : Int) (h : ∀ w, Calls Try.prog g #[.int .i64 (of a), .int .i64 (of b)] w (Says r w)) (w : World) :
    Calls Try.prog 38 #[.int .i64 a, .int .i64 b, .func (.func g) #[] #[]] w (Says (of r) w) := by
  have H := Lib.hid h
  clear h
  go_enter Try.func38, Try.ntmps38
  go_wp2_with (first | (go_at_call 37; ((with_reducible refine (sof_any _ _).mono ?_); rintro e w' ⟨rfl, rfl⟩)) | ((with_reducible refine (H.out _).mono ?_); rintro e w' ⟨rfl, rfl⟩))
  go_ret
  exact ⟨rfl, rfl⟩

/-- What the product's closure answers: a quantity's number. -/
def mul1 (x y : Int) : Int := if 1099511627776 < x * y then 1099511627776 else x * y
theorem of_mul1 (x y : Int) : of (mul1 x y) = of (x * y) := by unfold mul1 of; split <;> omega
theorem mul1_any (x y : Int) (hx : 0 ≤ x) (hy : 0 ≤ y) (hy1 : y ≤ 1099511627776) (w : World) :
    Calls Try.prog 55 #[.int .i64 x, .int .i64 y] w (Says (mul1 x y) w) := by
  by_cases h0 : 0 < y
  · by_cases ht : 1099511627776 / y < x
    · have H : Hid (mul1 x y = 1099511627776) := if_pos (quo_lt h0 ht)
      have hd : decide (1099511627776 / y < x) = true := decide_eq_true ht
      go_enter Try.func55, Try.ntmps55
      go_wp2
      go_ret
      exact ⟨ret_i64 H.out.symm, rfl⟩
    · have hp : x * y ≤ 1099511627776 := quo_le h0 (by omega)
      have hp0 : 0 ≤ x * y := Int.mul_nonneg hx hy
      have H : Hid (mul1 x y = x * y) := if_neg (by omega)
      have hd : decide (1099511627776 / y < x) = false := decide_eq_false ht
      go_enter Try.func55, Try.ntmps55
      go_wp2
      go_ret
      exact ⟨ret_i64 H.out.symm, rfl⟩
  · obtain rfl : y = 0 := by omega
    have H : Hid (mul1 x 0 = 0) := by show _ = _; unfold mul1; rw [Int.mul_zero]; rfl
    have hz : x * 0 = 0 := Int.mul_zero x
    go_enter Try.func55, Try.ntmps55
    go_wp2
    go_ret
    exact ⟨ret_i64 H.out.symm, rfl⟩
theorem smul_any (a b : Int) (w : World) : Calls Try.prog 40 #[.int .i64 a, .int .i64 b] w (Says (mul a b) w) := by
  have H := Lib.hid (of_mul1 (of a) (of b))
  go_enter Try.func40, Try.ntmps40
  go_wp2_with (go_at_call 38; ((with_reducible refine (both_any _ (fun _ _ _ => by kernel_rfl) _ _ _ (fun w => mul1_any _ _ (of_bd a).1 (of_bd b).1 (of_bd b).2 w) _).mono ?_); rintro e w' ⟨rfl, rfl⟩))
  go_ret
  exact ⟨ret_i64 H.out, rfl⟩

/-- What the closure of Ceil answers. -/
def ceil1 (x y : Int) : Int := if x = 0 then 0 else if y = 0 then 1099511627776 else (x - 1) / y + 1
theorem of_ceil1 (a b : Int) : of (ceil1 (of a) (of b)) = ceil a b := of_id (ceil_bd a b).1 (ceil_bd a b).2
theorem ceil1_any (x y : Int) (hx : 0 ≤ x) (hx1 : x ≤ 1099511627776) (hy : 0 ≤ y) (hy1 : y ≤ 1099511627776) (w : World) :
    Calls Try.prog 56 #[.int .i64 x, .int .i64 y] w (Says (ceil1 x y) w) := by
  by_cases h0 : x = 0
  · subst h0
    go_enter Try.func56, Try.ntmps56
    go_wp2
    go_ret
    exact ⟨rfl, rfl⟩
  · have b0 : (x == 0) = false := beq_eq_false_iff_ne.2 h0
    by_cases h1 : y = 0
    · subst h1
      have H : Hid (ceil1 x 0 = 1099511627776) := by show _ = _; unfold ceil1; rw [if_neg h0]; rfl
      clear h0
      go_enter Try.func56, Try.ntmps56
      go_wp2
      go_ret
      exact ⟨ret_i64 H.out.symm, rfl⟩
    · have b1 : (y == 0) = false := beq_eq_false_iff_ne.2 h1
      have H : Hid (ceil1 x y = (x - 1) / y + 1) := by show _ = _; unfold ceil1; rw [if_neg h0, if_neg h1]
      have hy2 : 0 < y := by omega
      have hx2 : 1 ≤ x := by omega
      have q0 : 0 ≤ (x - 1) / y := Int.ediv_nonneg (by omega) (by omega)
      have q1 : (x - 1) / y ≤ x - 1 := Int.ediv_le_self _ (by omega)
      clear h0 h1
      go_enter Try.func56, Try.ntmps56
      go_wp2
      go_ret
      exact ⟨ret_i64 H.out.symm, rfl⟩
theorem ceil_any (a b : Int) (w : World) : Calls Try.prog 41 #[.int .i64 a, .int .i64 b] w (Says (ceil a b) w) := by
  have H := Lib.hid (of_ceil1 a b)
  go_enter Try.func41, Try.ntmps41
  go_wp2_with (go_at_call 38; ((with_reducible refine (both_any _ (fun _ _ _ => by kernel_rfl) _ _ _ (fun w => ceil1_any _ _ (of_bd a).1 (of_bd a).2 (of_bd b).1 (of_bd b).2 w) _).mono ?_); rintro e w' ⟨rfl, rfl⟩))
  go_ret
  exact ⟨ret_i64 H.out, rfl⟩

/-- What the closure of Grain answers. -/
def grain1 (x y : Int) : Int := if y = 0 then x else mul (ceil x y) y
theorem of_grain1 (a g : Int) : of (grain1 (of a) (of g)) = grain a g := by
  unfold grain1 grain
  split
  · exact of_of a
  · rw [of_id (mul_bd _ _).1 (mul_bd _ _).2]
    unfold mul ceil
    rw [of_of, of_of]
theorem grain1_any (x y : Int) (w : World) : Calls Try.prog 39 #[.int .i64 x, .int .i64 y] w (Says (grain1 x y) w) := by
  by_cases h1 : y = 0
  · subst h1
    go_enter Try.func39, Try.ntmps39
    go_wp2
    go_ret
    exact ⟨rfl, rfl⟩
  · have b1 : (y == 0) = false := beq_eq_false_iff_ne.2 h1
    have H : Hid (grain1 x y = mul (ceil x y) y) := by show _ = _; unfold grain1; rw [if_neg h1]
    clear h1
    go_enter Try.func39, Try.ntmps39
    go_wp2_with (first | (go_at_call 41; ((with_reducible refine (ceil_any _ _ _).mono ?_); rintro e w' ⟨rfl, rfl⟩)) | (go_at_call 40; ((with_reducible refine (smul_any _ _ _).mono ?_); rintro e w' ⟨rfl, rfl⟩)))
    go_ret
    exact ⟨ret_i64 H.out.symm, rfl⟩
theorem grain_any (a g : Int) (w : World) : Calls Try.prog 22 #[.int .i64 a, .int .i64 g] w (Says (grain a g) w) := by
  have H := Lib.hid (of_grain1 a g)
  go_enter Try.func22, Try.ntmps22
  go_wp2_with (go_at_call 38; ((with_reducible refine (both_any _ (fun _ _ _ => by kernel_rfl) _ _ _ (fun w => grain1_any _ _ w) _).mono ?_); rintro e w' ⟨rfl, rfl⟩))
  go_ret
  exact ⟨ret_i64 H.out, rfl⟩
end Go.Proofs.Ytdjpnlkhdilakaa.gn
