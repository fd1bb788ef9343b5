/- The contract of putting: a Put's steps, in an array. -/
import Derived.Test.YtpbgckpjgfjmgaaSnA
import Derived.Test.YtpbgckpjgfjmgaaSealB
set_option linter.unusedVariables false
set_option linter.unusedSectionVars false
namespace Go.Proofs.Ytpbgckpjgfjmgaa.gn
open Go.RowKit
open Go.Proofs.Ytpbgckpjgfjmgaa.fi

set_option maxRecDepth 100000
set_option maxHeartbeats 1000000

/-- The steps of a Put, as closures over its boxes. -/
def fiveF (p q r : Nat) : Array Value := #[.func (.func 45) #[] #[.pointer (some ⟨p, 0, none⟩), .pointer (some ⟨q, 0, none⟩), .pointer (some ⟨r, 0, none⟩)], .func (.func 49) #[] #[.pointer (some ⟨p, 0, none⟩)],
  .func (.func 50) #[] #[.pointer (some ⟨p, 0, none⟩), .pointer (some ⟨q, 0, none⟩)], .func (.func 52) #[] #[.pointer (some ⟨p, 0, none⟩)], .func (.func 53) #[] #[]]
def noneF : Array Value := #[.nilFunc, .nilFunc, .nilFunc, .nilFunc, .nilFunc]

theorem putting_any (w : World) (d : Nat) (n : Nm) (t : List UInt8) :
    Calls Try.prog 23 #[.pointer (some ⟨d, 0, none⟩), .string (str n), .string (str t)] w fun e w' => ∃ p q r, e = .returned (.agg (fiveF p q r)) ∧ Below w.heap.size w w' ∧ Bxs w' p q r d n t ∧ w.heap.size ≤ p ∧ w.heap.size ≤ q ∧ w.heap.size ≤ r := by
  go_enter Try.func23, Try.ntmps23
  go_wp2
  obtain ⟨w3, hw3⟩ : ∃ w3, ((w.alloc (.cells #[.pointer (some ⟨d, 0, none⟩)] 28)).alloc (.cells #[.string (str n)] 9)).alloc (.cells #[.string (str t)] 9) = w3 := ⟨_, rfl⟩
  have hz : w3.heap.size = w.heap.size + 3 := by rw [← hw3]; simp
  have hp : Boxed w3 w.heap.size 28 (.pointer (some ⟨d, 0, none⟩)) := by rw [← hw3]; exact ((Boxed.new w _ _).alloc _).alloc _
  have hq : Boxed w3 (w.heap.size + 1) 9 (.string (str n)) := by
    rw [← hw3]
    exact Boxed.alloc (show Boxed _ _ _ _ from alloc_at (by simp)) _
  have hr : Boxed w3 (w.heap.size + 1 + 1) 9 (.string (str t)) := by
    rw [← hw3]
    exact (show Boxed _ _ _ _ from alloc_at (by simp))
  have hb : Below w.heap.size w w3 := by rw [← hw3]; exact (((Below.refl _ w).alloc (Nat.le_refl _) _).alloc (by simp) _).alloc (by simp; omega) _
  rw [hw3]
  clear hw3
  have hg : (w3.alloc (.cells (fiveF w.heap.size (w.heap.size + 1) (w.heap.size + 1 + 1)) 58)).heap[w.heap.size + 1 + 1 + 1]? = some (.cells (fiveF w.heap.size (w.heap.size + 1) (w.heap.size + 1 + 1)) 58 (0, 0)) := alloc_at (by omega)
  exact bodyPost_ret (v := .agg (fiveF w.heap.size (w.heap.size + 1) (w.heap.size + 1 + 1))) (results_cell_row rfl _ _ _ _ _ _ _ rfl hg Try.underlying58 rfl (by kernel_rfl)) rfl
    ⟨w.heap.size, w.heap.size + 1, w.heap.size + 1 + 1, rfl, hb.alloc hb.size _, ⟨hp.alloc _, hq.alloc _, hr.alloc _⟩, by omega, by omega, by omega⟩
end Go.Proofs.Ytpbgckpjgfjmgaa.gn
