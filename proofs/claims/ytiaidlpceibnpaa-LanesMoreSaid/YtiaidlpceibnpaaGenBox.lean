/- For any seat: boxes: blocks with their cells. (Out of DiA.) -/
import Derived.Test.YtiaidlpceibnpaaGen
set_option linter.unusedVariables false
namespace Go.Proofs.Ytiaidlpceibnpaa.gn
open Go.RowKit

/-! ### boxes -/
/-- A box of these cells. -/
def BoxA (W : World) (B : Nat) (t : TypeId) (cs : Array Value) : Prop := W.heap[B]? = some (.cells cs t (0, 0))
theorem BoxA.lt {W : World} {B : Nat} {t : TypeId} {cs : Array Value} (h : BoxA W B t cs) : B < W.heap.size := (Array.getElem?_eq_some_iff.1 h).1
theorem BoxA.cell {W : World} {B : Nat} {t : TypeId} {cs : Array Value} (h : BoxA W B t cs) (j : Nat) (v : Value) (hj : cs[j]? = some v := by rfl) : W.cell? ⟨B, j, none⟩ = some v := by
  simp [World.cell?, show W.heap[B]? = _ from h, hj]
theorem BoxA.free {W : World} {B : Nat} {t : TypeId} {cs : Array Value} (h : BoxA W B t cs) (j : Nat) : W.frozen? ⟨B, j, none⟩ = false := by simp [World.frozen?, show W.heap[B]? = _ from h]
theorem BoxA.new (W : World) (t : TypeId) (cs : Array Value) : BoxA (W.alloc (.cells cs t)) W.heap.size t cs := heap_alloc_new W _
theorem BoxA.next {W W' : World} {B : Nat} {t : TypeId} {cs : Array Value} (h : BoxA W B t cs) (hb : Below W.heap.size W W') : BoxA W' B t cs := (hb.block B h.lt).trans h
theorem BoxA.but {R : Nat} {W W' : World} {B : Nat} {t : TypeId} {cs : Array Value} (h : BoxA W B t cs) (hb : But R W W') (hne : B ≠ R) : BoxA W' B t cs := (hb.block B h.lt (fun e => hne (Option.some.inj e))).trans h
theorem BoxA.set {W : World} {B : Nat} {t : TypeId} {cs : Array Value} (h : BoxA W B t cs) (j : Nat) (u : Value) : BoxA (W.setCell ⟨B, j, none⟩ u) B t (cs.setIfInBounds j u) := heap_setCell h u
theorem BoxA.drew {W : World} {B : Nat} {t : TypeId} {cs : Array Value} (h : BoxA W B t cs) : BoxA W.drew B t cs := h
end Go.Proofs.Ytiaidlpceibnpaa.gn
