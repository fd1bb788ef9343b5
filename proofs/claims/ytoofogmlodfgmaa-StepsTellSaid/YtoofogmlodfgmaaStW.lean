/- The document's Equal, Great, Quantity; fine; New. -/
import Derived.Test.YtoofogmlodfgmaaStV
import Derived.Test.YtoofogmlodfgmaaStP
namespace Go.Proofs.Ytoofogmlodfgmaa.gn
open Go.RowKit Go.Shelf
open Go.Proofs.Ytoofogmlodfgmaa.sp

theorem great_no (a1 a2 : Option Addr) (n1 n2 c1 c2 : Nat) (h1 : n1 ≤ 60) (h2 : n2 ≤ 60) (w : World) : Calls Try.prog 8 #[.agg #[.slice a1 n1 c1, .slice a2 n2 c2]] w (TellsB false w) := by
  have d1 : decide ((60 : Int) < (n1 : Int)) = false := decide_eq_false (by omega)
  have d2 : decide ((60 : Int) < (n2 : Int)) = false := decide_eq_false (by omega)
  go_enter Try.func8, Try.ntmps8
  go_wp2
  go_ret
  exact ⟨rfl, (Below.refl _ _).alloc (Nat.le_refl _) _⟩
theorem great_yes (a1 a2 : Option Addr) (n1 n2 c1 c2 : Nat) (h : 60 < n1 ∨ 60 < n2) (w : World) : Calls Try.prog 8 #[.agg #[.slice a1 n1 c1, .slice a2 n2 c2]] w (TellsB true w) := by
  by_cases h1 : 60 < n1
  · have d1 : decide ((60 : Int) < (n1 : Int)) = true := decide_eq_true (by omega)
    clear h
    go_enter Try.func8, Try.ntmps8
    go_wp2
    go_ret
    exact ⟨rfl, (Below.refl _ _).alloc (Nat.le_refl _) _⟩
  · have d1 : decide ((60 : Int) < (n1 : Int)) = false := decide_eq_false (by omega)
    have d2 : decide ((60 : Int) < (n2 : Int)) = true := decide_eq_true (by omega)
    clear h
    go_enter Try.func8, Try.ntmps8
    go_wp2
    go_ret
    exact ⟨rfl, (Below.refl _ _).alloc (Nat.le_refl _) _⟩

/-- Is it a quantity? -/
def qb (n : Int) : Bool := decide (0 ≤ n ∧ n ≤ 1099511627776)
theorem qb_yes {n : Int} (h : Q n) : qb n = true := decide_eq_true h
theorem qb_no {n : Int} (h : ¬ Q n) : qb n = false := decide_eq_false h
theorem quantity_any (n : Int) (w : World) : Calls Try.prog 25 #[.int .i64 n] w (SaysB (qb n) w) := by
  by_cases h0 : 0 ≤ n
  · by_cases h1 : n ≤ 1099511627776
    · have H := Lib.hid (qb_yes ⟨h0, h1⟩)
      go_enter Try.func25, Try.ntmps25
      go_wp2
      go_ret
      exact ⟨ret_bool H.out.symm, rfl⟩
    · have H := Lib.hid (qb_no (n := n) fun h => h1 h.2)
      have d : decide (n ≤ 1099511627776) = false := decide_eq_false h1
      go_enter Try.func25, Try.ntmps25
      go_wp2
      go_ret
      exact ⟨ret_bool H.out.symm, rfl⟩
  · have H := Lib.hid (qb_no (n := n) fun h => h0 h.1)
    have d : decide (0 ≤ n) = false := decide_eq_false h0
    go_enter Try.func25, Try.ntmps25
    go_wp2
    go_ret
    exact ⟨ret_bool H.out.symm, rfl⟩
/-- Are a window's numbers quantities? -/
def fineB (a b n : Int) : Bool := qb a && (qb b && qb n)
theorem fine_yes {a b n : Int} (h0 : Q a) (h1 : Q b) (h2 : Q n) : fineB a b n = true := by unfold fineB; rw [qb_yes h0, qb_yes h1, qb_yes h2]; rfl
theorem fine_no {a b n : Int} (h : ¬ (Q a ∧ Q b ∧ Q n)) : fineB a b n = false := by
  unfold fineB
  by_cases h0 : Q a
  · by_cases h1 : Q b
    · rw [qb_no fun h2 => h ⟨h0, h1, h2⟩]; simp
    · rw [qb_no h1]; simp
  · rw [qb_no h0]; simp
theorem fine_any (a b n : Int) (w : World) : Calls Try.prog 17 #[.agg #[.int .i64 a, .int .i64 b, .int .i64 n]] w (TellsB (fineB a b n) w) := by
  have HB0 : Hid (∀ o, Below w.heap.size w (w.alloc o)) := fun o => (Below.refl _ _).alloc (Nat.le_refl _) _
  have HF : Hid (fineB a b n = (qb a && (qb b && qb n))) := (rfl : _ = _)
  cases ha : qb a with
  | false =>
    have HA := Lib.hid ha
    clear ha
    go_enter Try.func17, Try.ntmps17
    go_wp2_with fail
    refine (quantity_any _ _).mono ?_
    rintro e w1 ⟨rfl, rfl⟩
    rw [HA.out]
    go_wp2
    go_ret
    exact ⟨ret_bool (by rw [HF.out, HA.out]; rfl), HB0.out _⟩
  | true =>
    cases hb : qb b with
    | false =>
      have HA := Lib.hid ha
      have HB := Lib.hid hb
      clear ha hb
      go_enter Try.func17, Try.ntmps17
      go_wp2_with fail
      refine (quantity_any _ _).mono ?_
      rintro e w1 ⟨rfl, rfl⟩
      rw [HA.out]
      go_wp2_with fail
      refine (quantity_any _ _).mono ?_
      rintro e w1 ⟨rfl, rfl⟩
      rw [HB.out]
      go_wp2
      go_ret
      exact ⟨ret_bool (by rw [HF.out, HA.out, HB.out]; rfl), HB0.out _⟩
    | true =>
      have HA := Lib.hid ha
      have HB := Lib.hid hb
      clear ha hb
      go_enter Try.func17, Try.ntmps17
      go_wp2_with fail
      refine (quantity_any _ _).mono ?_
      rintro e w1 ⟨rfl, rfl⟩
      rw [HA.out]
      go_wp2_with fail
      refine (quantity_any _ _).mono ?_
      rintro e w1 ⟨rfl, rfl⟩
      rw [HB.out]
      go_wp2_with fail
      refine (quantity_any _ _).mono ?_
      rintro e w1 ⟨rfl, rfl⟩
      go_wp2
      go_ret
      exact ⟨ret_bool (by rw [HF.out, HA.out, HB.out]; rfl), HB0.out _⟩

/-- What New answers. -/
def News (n : Int) (w : World) (e : Ending) (w' : World) : Prop := ∃ v, e = .returned v ∧ Prof w' v [0] [of n] ∧ Below w.heap.size w w'
theorem new_any (n : Int) (w : World) : Calls Try.prog 15 #[.int .i64 n] w (News n w) := by
  go_enter Try.func15, Try.ntmps15
  go_wp2_with fail
  refine (of_any _ _).mono ?_
  rintro e w1 ⟨rfl, rfl⟩
  go_wp2
  refine bodyPost_ret (v := .agg #[.slice (some ⟨w.heap.size + 1, 0, none⟩) 1 1, .slice (some ⟨w.heap.size + 1 + 1, 0, none⟩) 1 1]) (by simp [results, Try.results15, go_sem]) rfl ⟨_, rfl, ⟨_, _, rfl, ?_, ?_⟩, ?_⟩
  · have h := (row1 (w.alloc (.cells #[.slice (some ⟨w.heap.size + 1, 0, none⟩) 1 1, .slice (some ⟨w.heap.size + 1 + 1, 0, none⟩) 1 1] 24)) 0).alloc (.cells #[.int .i64 (of n)] 2)
    rwa [World.size_alloc] at h
  · have h := row1 ((w.alloc (.cells #[.slice (some ⟨w.heap.size + 1, 0, none⟩) 1 1, .slice (some ⟨w.heap.size + 1 + 1, 0, none⟩) 1 1] 24)).alloc (.cells #[.int .i64 0] 2)) (of n)
    rwa [World.size_alloc, World.size_alloc] at h
  · exact (((Below.refl _ _).alloc (Nat.le_refl _) _).alloc (by simp) _).alloc (by simp; omega) _
end Go.Proofs.Ytoofogmlodfgmaa.gn
