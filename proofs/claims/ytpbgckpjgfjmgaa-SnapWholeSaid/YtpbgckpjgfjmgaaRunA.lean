/- Steps on a directory, one after the other until one fails: what a later package says of its rows of closures. -/
import Derived.Test.YtpbgckpjgfjmgaaJoA
import Derived.RangeFuncBox
set_option linter.unusedVariables false
namespace Go.Proofs.Ytpbgckpjgfjmgaa.fi
/-- One step after the other, until one fails. -/
def runs : List (FS → Int × FS) → FS → Int × FS
  | [], s => (0, s)
  | f :: r, s => if (f s).1 = 0 then runs r (f s).2 else f s
theorem make_wt (s : FS) (n : Nm) : (s.make n).2.wt ≤ s.wt + 1 := by
  unfold FS.make; split; · simp
  split; · simp
  split; · simp
  simp [FS.done_wt, FOp.wt]
theorem app_wt (s : FS) (n : Nm) (t : List UInt8) : (s.app n t).2.wt ≤ s.wt + (1 + t.length) := by
  unfold FS.app; split; · simp
  split; · simp
  simp [FS.done_wt, FOp.wt]
theorem rem_wt (s : FS) (n : Nm) : (s.rem n).2.wt ≤ s.wt + 1 := by
  unfold FS.rem; split; · simp
  simp [FS.done_wt, FOp.wt]
theorem ren_wt (s : FS) (n m : Nm) : (s.ren n m).2.wt ≤ s.wt + 1 := by
  unfold FS.ren; split; · simp
  split; · simp
  simp [FS.done_wt, FOp.wt]
theorem cut_wt (s : FS) (n : Nm) (k : Int) : (s.cut n k).2.wt ≤ s.wt + 1 := by
  unfold FS.cut; split; · simp
  split; · simp
  split; · simp
  simp [FS.done_wt, FOp.wt]
theorem runs_cons (f : FS → Int × FS) (r : List (FS → Int × FS)) (s : FS) : runs (f :: r) s = if (f s).1 = 0 then runs r (f s).2 else f s := rfl
end Go.Proofs.Ytpbgckpjgfjmgaa.fi

namespace Go.Proofs.Ytpbgckpjgfjmgaa.gn
open Go.RowKit
open Go.Proofs.Ytpbgckpjgfjmgaa.fi

/-- A step goes on, or ends all with its error. -/
def Stp (I : World → Prop) (F : Int → World → Prop) (e : Ending) (w' : World) : Prop :=
  (e = .returned (.int .i64 0) ∧ I w') ∨ ∃ q : Int, q ≠ 0 ∧ e = .returned (.int .i64 q) ∧ F q w'
theorem bne_of {q : Int} (h : q ≠ 0) : (q != 0) = true := by simp [h]
theorem alloc_at {w : World} {cs : Array Value} {t : TypeId} {k : Nat} (h : k = w.heap.size) : (w.alloc (.cells cs t)).heap[k]? = some (.cells cs t (0, 0)) := by rw [h]; exact heap_alloc_new w _
/-- The boxes that the steps share. -/
structure Bxs (w : World) (p q r d : Nat) (n : Nm) (t : List UInt8) : Prop where
  p : Boxed w p 28 (.pointer (some ⟨d, 0, none⟩))
  q : Boxed w q 9 (.string (str n))
  r : Boxed w r 9 (.string (str t))
theorem Bxs.kept {w w' : World} {p q r d : Nat} {n : Nm} {t : List UInt8} (h : Bxs w p q r d n t) {S : Nat → Prop} (ho : Only S w w') (h1 : ¬ S p) (h2 : ¬ S q) (h3 : ¬ S r) : Bxs w' p q r d n t :=
  ⟨(ho.block p h.p.lt h1).trans h.p, (ho.block q h.q.lt h2).trans h.q, (ho.block r h.r.lt h3).trans h.r⟩
end Go.Proofs.Ytpbgckpjgfjmgaa.gn
