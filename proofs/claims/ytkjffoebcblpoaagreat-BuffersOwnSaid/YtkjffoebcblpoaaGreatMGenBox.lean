/- For any seat: boxes: blocks with their cells. (Out of DiA.) -/
import Derived.Test.YtkjffoebcblpoaaGreatMGen
import Derived.Test.YtkjffoebcblpoaaGreatMGenTail
import Derived.Laws.Rows
section
set_option linter.unusedVariables false
namespace Go.Proofs.YtkjffoebcblpoaaGreat.gn
open Go.RowKit

/-! ### boxes -/
/-- A box of these cells. -/
def BoxA (W : World) (B : Nat) (t : TypeId) (cs : Array Value) : Prop := W.heap[B]? = some (.cells cs t (0, 0))
theorem BoxA.lt {W : World} {B : Nat} {t : TypeId} {cs : Array Value} (h : BoxA W B t cs) : B < W.heap.size := (Array.getElem?_eq_some_iff.1 h).1
theorem BoxA.cell {W : World} {B : Nat} {t : TypeId} {cs : Array Value} (h : BoxA W B t cs) (j : Nat) (v : Value) (hj : cs[j]? = some v := by rfl) : W.cell? ⟨B, j, none⟩ = some v := by
  simp [World.cell?, show W.heap[B]? = _ from h, hj]
theorem BoxA.free {W : World} {B : Nat} {t : TypeId} {cs : Array Value} (h : BoxA W B t cs) (j : Nat) : W.frozen? ⟨B, j, none⟩ = false := by simp [World.frozen?, show W.heap[B]? = _ from h]
theorem BoxA.new (W : World) (t : TypeId) (cs : Array Value) : BoxA (W.alloc (.cells cs t)) W.heap.size t cs := heap_alloc_new W _
theorem BoxA.next {W W' : World} {B : Nat} {t : TypeId} {cs : Array Value} (h : BoxA W B t cs) (hb : Below W.heap.size W W') : BoxA W' B t cs := (hb.block B h.lt).trans h
theorem BoxA.but {R : Nat} {W W' : World} {B : Nat} {t : TypeId} {cs : Array Value} (h : BoxA W B t cs) (hb : But R W W') (hne : B ≠ R) : BoxA W' B t cs := (hb.block B h.lt (fun e => hne (Option.some.inj e))).trans h
theorem BoxA.set {W : World} {B : Nat} {t : TypeId} {cs : Array Value} (h : BoxA W B t cs) (j : Nat) (u : Value) : BoxA (W.setCell ⟨B, j, none⟩ u) B t (cs.setIfInBounds j u) := heap_setCell h u
theorem BoxA.drew {W : World} {B : Nat} {t : TypeId} {cs : Array Value} (h : BoxA W B t cs) : BoxA W.drew B t cs := h
end Go.Proofs.YtkjffoebcblpoaaGreat.gn
end
section
set_option linter.unusedVariables false
set_option linter.unusedSimpArgs false
namespace Go.Proofs.YtkjffoebcblpoaaGreat.gn

theorem wpl_load_g {P : Program} {ops : Array Oper} {rest : List Oper} {o : Oper} {a : Act} {w : World} {Q : Exit → Act → World → Prop} (hgw : Region.wanted o (yielded ops a.tmps) = true) (ty : TypeId) (x : Operand) (ho : o.op = .load ty x)
    (g : Nat) (hx : a.eval x = .pointer (some ⟨g, 0, none⟩)) (t : TypeId) (cs : Array Value) (fr : Nat × Nat) (d : TypeDesc) (hg : w.heap[g]? = some (.cells cs t fr))
    (hu : P.underlying ty = some d) (hd : (match d with | .struct _ | .array _ _ => true | _ => false) = true) (hi : (P.info? ty).map (·.size) = some cs.size)
    (h : wpList P ops Q rest (a.put o.dst (.agg cs)) w) : wpList P ops Q (o :: rest) a w := by
  refine wpList_step fun K hK => ?_
  rw [if_pos hgw]
  exact wp_load_row ty x ho g hx t cs fr d hg hu hd hi (hK _ _ h)
end Go.Proofs.YtkjffoebcblpoaaGreat.gn
end
