/- Contracts of sat's calls of two quantities, and of the document's. -/
import Derived.Test.YtkicojenhkbinaaRows
import Derived.Test.YtkicojenhkbinaaSatM
import Derived.WalkKit
import Derived.ProofKit
import Derived.Outline
import Derived.Lib.Hide
import Derived.Lib.MinMax
import Derived.IntWalk
namespace Go.Proofs.Ytkicojenhkbinaa.gn
open Go.RowKit
open Go.Proofs.Ytkicojenhkbinaa.st

theorem ret_i64 {a b : Int} (h : a = b) : Ending.returned (.int .i64 a) = .returned (.int .i64 b) := by rw [h]

/-- What a function that only computes answers. -/
def Says (n : Int) (w : World) (e : Ending) (w' : World) : Prop := e = .returned (.int .i64 n) ∧ w = w'

theorem of_any (n : Int) (w : World) : Calls Try.prog 7 #[.int .i64 n] w (Says (of n) w) := by
  go_enter Try.func7, Try.ntmps7
  go_wp2
  go_ret
  exact ⟨rfl, rfl⟩

theorem dof_any (n : Int) (w : World) : Calls Try.prog 8 #[.int .i64 n] w (Says (of n) w) := by
  by_cases h0 : n < 0
  · have H := Lib.hid (of_neg h0)
    go_enter Try.func8, Try.ntmps8
    go_wp2
    go_ret
    exact ⟨ret_i64 H.out.symm, rfl⟩
  · by_cases h1 : 1099511627776 < n
    · have H := Lib.hid (of_top h1)
      go_enter Try.func8, Try.ntmps8
      go_wp2
      go_ret
      exact ⟨ret_i64 H.out.symm, rfl⟩
    · have H := Lib.hid (of_id (show 0 ≤ n by omega) (show n ≤ 1099511627776 by omega))
      go_enter Try.func8, Try.ntmps8
      go_wp2
      go_ret
      exact ⟨ret_i64 H.out.symm, rfl⟩

theorem dadd_any (a b : Int) (w : World) : Calls Try.prog 10 #[.int .i64 a, .int .i64 b] w (Says (add a b) w) := by
  have ha := of_bd a
  have hb := of_bd b
  go_enter Try.func10, Try.ntmps10
  go_wp2_with (go_at_call 8; ((with_reducible refine (dof_any _ _).mono ?_); rintro e w' ⟨rfl, rfl⟩))
  go_ret
  exact ⟨rfl, rfl⟩
end Go.Proofs.Ytkicojenhkbinaa.gn
