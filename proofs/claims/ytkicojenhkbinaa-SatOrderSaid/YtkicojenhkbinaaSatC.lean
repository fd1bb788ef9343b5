/- Contracts of sat's Add over any row, of Twice, and of the document's Sum and Grain. -/
import Derived.Test.YtkicojenhkbinaaSatB
import Derived.Test.YtkicojenhkbinaaSatD
import Derived.Below
import Derived.OwnWalk
namespace Go.Proofs.Ytkicojenhkbinaa.gn
open Go.RowKit
open Go.Proofs.Ytkicojenhkbinaa.st

/-- v is a slice of these numbers. -/
def Ints (w : World) (v : Value) (l : List Int) : Prop :=
  l.length ≤ maxLen ∧ ∃ a cap, v = .slice a l.length cap ∧ (l.length = 0 ∨ ∃ b o, a = some ⟨b, o, none⟩ ∧ ∀ j (h : j < l.length), w.cell? ⟨b, o + j, none⟩ = some (.int .i64 l[j]))

theorem sum_end (l : List Int) (k : Nat) (hk : l.length ≤ k) : sum (l.take k) = sum l := by rw [List.take_of_length_le hk]

theorem add_empty (a : Option Addr) (cap : Nat) (w : World) : Calls Try.prog 9 #[.slice a 0 cap] w (Says 0 w) := by
  go_enter Try.func9, Try.ntmps9
  go_wp2
  go_loop [3, 8] (fun t i => i = .int .i64 0 ∧ t = .int .i64 0) (fun _ _ => 0)
  case atStart => exact ⟨rfl, rfl⟩
  case round =>
    obtain ⟨rfl, rfl⟩ := hrel
    go_wp2
    go_ret
    exact ⟨rfl, rfl⟩
def SumRel (l : List Int) (s i : Value) : Prop := ∃ k : Nat, k ≤ l.length ∧ i = .int .i64 (k : Int) ∧ s = .int .i64 (sum (l.take k))
theorem add_some (b o cap : Nat) (l : List Int) (w : World) (hm : l.length ≤ maxLen) (hc : ∀ j (h : j < l.length), w.cell? ⟨b, o + j, none⟩ = some (.int .i64 l[j])) :
    Calls Try.prog 9 #[.slice (some ⟨b, o, none⟩) l.length cap] w (Says (sum l) w) := by
  unfold maxLen at hm
  have HC := Lib.hid hc
  clear hc
  go_enter Try.func9, Try.ntmps9
  go_wp2
  go_loop [3, 8] (fun s i => SumRel l s i) (fun _ i => l.length - (intOf i).toNat)
  case atStart => exact ⟨0, by omega, rfl, rfl⟩
  case round =>
    obtain ⟨k, hk, rfl, rfl⟩ := hrel
    by_cases hlt : k < l.length
    · have hcell := HC.out k hlt
      have hs := Lib.hid (sum_take l k hlt)
      go_wp2_with (go_at_call 23; ((with_reducible refine (add2_any _ _ _).mono ?_); rintro e w' ⟨rfl, rfl⟩))
      go_round
      case rel => exact ⟨k + 1, by omega, by go_num, by rw [hs.out]⟩
      case measure => simp [intOf]; omega
    · have he := Lib.hid (sum_end l k (by omega))
      go_wp2
      go_ret
      exact ⟨ret_i64 he.out, rfl⟩
theorem add_any {w : World} {v : Value} {l : List Int} (h : Ints w v l) : Calls Try.prog 9 #[v] w (Says (sum l) w) := by
  obtain ⟨hm, a, cap, rfl, h0 | ⟨b, o, rfl, hc⟩⟩ := h
  · have hl : l = [] := List.eq_nil_of_length_eq_zero h0
    subst hl
    exact add_empty a cap w
  · exact add_some b o cap l w hm hc
/-- Of two that were laid in a new row. -/
theorem add_pair (g cap : Nat) (a b : Int) (w : World) (h0 : w.cell? ⟨g, 0, none⟩ = some (.int .i64 a)) (h1 : w.cell? ⟨g, 1, none⟩ = some (.int .i64 b)) :
    Calls Try.prog 9 #[.slice (some ⟨g, 0, none⟩) 2 cap] w (Says (add a b) w) := by
  rw [← sum_two]
  refine add_some g 0 cap [a, b] w (by show 2 ≤ maxLen; decide) fun j hj => ?_
  match j, hj with
  | 0, _ => exact h0
  | 1, _ => exact h1

theorem add_new (a b : Int) (w : World) :
    Calls Try.prog 9 #[.slice (some ⟨w.heap.size, 0, none⟩) 2 2] (w.alloc (.cells #[.int .i64 a, .int .i64 b] 2)) (Says (add a b) (w.alloc (.cells #[.int .i64 a, .int .i64 b] 2))) :=
  add_pair _ _ a b _ (by go_simp) (by go_simp)

/-- What a function that makes memory answers. -/
def Tells (n : Int) (w : World) (e : Ending) (w' : World) : Prop := e = .returned (.int .i64 n) ∧ Below w.heap.size w w'

def DblRel (x n : Int) (w : World) (v0 v9 : Value) (wr : World) : Prop := ∃ k : Nat, (k : Int) ≤ 40 ∧ ((k : Int) ≤ n ∨ k = 0) ∧ v9 = .int .i64 (k : Int) ∧ v0 = .int .i64 (dbl k x) ∧ Below w.heap.size w wr
theorem twice_any (a n : Int) (w : World) : Calls Try.prog 17 #[.int .i64 a, .int .i64 n] w (Tells (twice a n) w) := by
  go_enter Try.func17, Try.ntmps17
  go_wp2_with (go_at_call 7; ((with_reducible refine (of_any _ _).mono ?_); rintro e w' ⟨rfl, rfl⟩))
  go_loopw [0, 9] (fun v0 v9 wr => DblRel (of a) n w v0 v9 wr) (fun _ v9 _ => 40 - (intOf v9).toNat)
  case atStart => exact ⟨0, by omega, .inr rfl, rfl, rfl, Below.refl _ _⟩
  case round =>
    obtain ⟨k, hk, hkn, rfl, rfl, hb⟩ := hrel
    by_cases h1 : (k : Int) < min n 40
    · have HB := Lib.hid hb
      clear hb hkn
      go_wp2_with (go_at_call 9; ((with_reducible refine (add_new _ _ _).mono ?_); rintro e w' ⟨rfl, rfl⟩))
      go_roundw
      case rel => exact ⟨k + 1, by omega, .inl (by omega), by go_num, rfl, HB.out.alloc HB.out.size _⟩
      case measure => simp [intOf]; omega
    · have HK : Hid (dbl k (of a) = twice a n) := by show _ = _; unfold twice; rw [show (min n 40).toNat = k by omega]
      have HB := Lib.hid hb
      clear hb hkn
      go_wp2
      go_ret
      exact ⟨ret_i64 HK.out, HB.out⟩

theorem dsum_empty (a : Option Addr) (cap : Nat) (w : World) : Calls Try.prog 22 #[.slice a 0 cap] w (Says 0 w) := by
  go_enter Try.func22, Try.ntmps22
  go_wp2
  go_loop [3, 4] (fun t i => i = .int .i64 0 ∧ t = .int .i64 0) (fun _ _ => 0)
  case atStart => exact ⟨rfl, rfl⟩
  case round =>
    obtain ⟨rfl, rfl⟩ := hrel
    go_wp2
    go_ret
    exact ⟨rfl, rfl⟩
theorem dsum_some (b o cap : Nat) (l : List Int) (w : World) (hm : l.length ≤ maxLen) (hc : ∀ j (h : j < l.length), w.cell? ⟨b, o + j, none⟩ = some (.int .i64 l[j])) :
    Calls Try.prog 22 #[.slice (some ⟨b, o, none⟩) l.length cap] w (Says (sum l) w) := by
  unfold maxLen at hm
  have HC := Lib.hid hc
  clear hc
  go_enter Try.func22, Try.ntmps22
  go_wp2
  go_loop [3, 4] (fun s i => SumRel l s i) (fun _ i => l.length - (intOf i).toNat)
  case atStart => exact ⟨0, by omega, rfl, rfl⟩
  case round =>
    obtain ⟨k, hk, rfl, rfl⟩ := hrel
    by_cases hlt : k < l.length
    · have hcell := HC.out k hlt
      have hs := Lib.hid (sum_take l k hlt)
      go_wp2_with (go_at_call 10; ((with_reducible refine (dadd_any _ _ _).mono ?_); rintro e w' ⟨rfl, rfl⟩))
      go_round
      case rel => exact ⟨k + 1, by omega, by go_num, by rw [hs.out]⟩
      case measure => simp [intOf]; omega
    · have he := Lib.hid (sum_end l k (by omega))
      go_wp2
      go_ret
      exact ⟨ret_i64 he.out, rfl⟩
theorem dsum_any {w : World} {v : Value} {l : List Int} (h : Ints w v l) : Calls Try.prog 22 #[v] w (Says (sum l) w) := by
  obtain ⟨hm, a, cap, rfl, h0 | ⟨b, o, rfl, hc⟩⟩ := h
  · have hl : l = [] := List.eq_nil_of_length_eq_zero h0
    subst hl
    exact dsum_empty a cap w
  · exact dsum_some b o cap l w hm hc

theorem dgrain_any (a g : Int) (w : World) : Calls Try.prog 20 #[.int .i64 a, .int .i64 g] w (Says (grain a g) w) := by
  have ha := of_bd a
  have hb := of_bd g
  by_cases h0 : of g = 0
  · have H : Hid (grain a g = of a) := if_pos h0
    have hd : (of g == 0) = true := beq_iff_eq.2 h0
    clear h0 ha hb
    go_enter Try.func20, Try.ntmps20
    go_wp2_with (go_at_call 8; ((with_reducible refine (dof_any _ _).mono ?_); rintro e w' ⟨rfl, rfl⟩))
    go_ret
    exact ⟨ret_i64 H.out.symm, rfl⟩
  · have hd : (of g == 0) = false := beq_eq_false_iff_ne.2 h0
    have HU := grain_up a g (by omega)
    have ho := Lib.hid (dof_any a)
    have ho2 := Lib.hid (dof_any g)
    generalize of a = x at *
    generalize of g = y at *
    have hy2 : 1 ≤ y := by omega
    have e2 := Int.emod_nonneg x (show y ≠ 0 by omega)
    have e3 := Int.emod_lt_of_pos x (show 0 < y by omega)
    by_cases h1 : x % y = 0
    · have HG : Hid (grain a g = x) := by show _ = _; rw [HU, if_pos h1]
      have hd1 : (x % y == 0) = true := beq_iff_eq.2 h1
      clear h0 h1 HU
      go_enter Try.func20, Try.ntmps20
      go_wp2_with (go_at_call 8; (first | (with_reducible refine (ho.out _).mono ?_) | (with_reducible refine (ho2.out _).mono ?_)); rintro e w' ⟨rfl, rfl⟩)
      go_ret
      exact ⟨ret_i64 HG.out.symm, rfl⟩
    · have HG : Hid (grain a g = of (x - x % y + y)) := by show _ = _; rw [HU, if_neg h1]
      have hd1 : (x % y == 0) = false := beq_eq_false_iff_ne.2 h1
      clear h0 h1 HU
      go_enter Try.func20, Try.ntmps20
      go_wp2_with (go_at_call 8; (first | (with_reducible refine (ho.out _).mono ?_) | (with_reducible refine (ho2.out _).mono ?_) | (with_reducible refine (dof_any _ _).mono ?_)); rintro e w' ⟨rfl, rfl⟩)
      go_ret
      exact ⟨ret_i64 HG.out.symm, rfl⟩
end Go.Proofs.Ytkicojenhkbinaa.gn
