/- Literal rows, and calls on them. -/
import Derived.Test.YtdjpnlkhdilakaaExT
import Derived.Test.YtdjpnlkhdilakaaExS
set_option linter.unusedVariables false
set_option maxRecDepth 100000
namespace Go.Proofs.Ytdjpnlkhdilakaa.gn
open Go.RowKit Go.Shelf Go.Sort Go.Lib
open Go.Proofs.Ytdjpnlkhdilakaa.ex

theorem Rd.al {w : World} {v : Value} {l : List X} (h : Rd w v l) (o : Obj) : Rd (w.alloc o) v l := h.next ((Below.refl _ w).alloc (Nat.le_refl _) _)
theorem cells_lit (w : World) (cs : Array Value) (j : Nat) : (w.alloc (.cells cs 54)).cell? ⟨w.heap.size, j, none⟩ = cs[j]? :=
  cell_of_row _ w.heap.size j cs 54 (0, 0) (World.alloc_heap_new w _)
theorem rd_lit {w : World} {b : Nat} (hb : b = w.heap.size) (l : List X) (cs : Array Value) (n : Nat) (hn : n = l.length) (hc : cs = (fl l).toArray) : Rd (w.alloc (.cells cs 54)) (.slice (some ⟨b, 0, none⟩) n n) l := by
  subst hb hn hc
  refine .inr ⟨w.heap.size, 0, l.length, rfl, by simp, fun j hj => ?_⟩
  have h := fl_at l j hj
  rw [Nat.zero_add, cells_lit, cells_lit]
  simpa using h
/-- A part of a row. -/
theorem Rd.part {w : World} {b k n c : Nat} {l : List X} (h : Rd w (.slice (some ⟨b, 0, none⟩) l.length c) l) (r : List X) (c2 : Nat) (hr : (l.drop k).take n = r) (hn : r.length = n) (hk : k + n ≤ l.length) : Rd w (.slice (some ⟨b, k * 2, none⟩) n c2) r := by
  rcases h with ⟨p', c', he, h0, _⟩ | ⟨b2, off, c3, he, hb, hc⟩
  · rw [h0] at hk hr
    have hn0 : n = 0 := by simp at hk; omega
    subst hn0
    exact .inl ⟨_, _, rfl, List.eq_nil_of_length_eq_zero hn, fun e => by cases e⟩
  · cases he
    subst hn
    refine .inr ⟨b, k * 2, c2, rfl, hb, fun j hj => ?_⟩
    have h1 := hc (k + j) (by omega)
    have e : l[k + j]! = r[j]! := by
      rw [getElem!_pos l (k + j) (by omega), getElem!_pos r j hj]
      have := congrArg (fun q : List X => q[j]?) hr
      simp only [List.getElem?_take, List.getElem?_drop] at this
      rw [if_pos hj, List.getElem?_eq_getElem (by omega), List.getElem?_eq_getElem hj] at this
      exact Option.some.inj this
    rw [e] at h1
    rw [show k * 2 + j * 2 = 0 + (k + j) * 2 by omega]
    exact h1
/-- What Take answers, by its numbers. -/
theorem take_lit {best : Bool} {l : List X} {n : Int} {w w' : World} {e : Ending} (h : TakesOk best l n w e w') (r t : List X) (K : Nat) (hk : tk best K ⟨nrm l, [], n⟩ = ⟨r, t, 0⟩) (t2 : List X) (ht : nrm t = t2) :
    ∃ v6 v7, e = .returned (.tuple #[v6, v7, .int .i64 0]) ∧ Rd w' v6 t2 ∧ Rd w' v7 r ∧ RowKit.Below w.heap.size w w' := by
  obtain ⟨v6, v7, s, k, rfl, h1, h2, _, h3, h4, h5⟩ := h
  have e : s = ⟨r, t, 0⟩ := by
    rw [h4] at h3
    rw [h4, ← hk]
    exact tk_same best k K _ h3 (by rw [hk]; simp)
  rw [e] at h1 h2
  refine ⟨v6, v7, rfl, ?_, h2.rd, h5⟩
  rw [← ht]
  exact h1.rd
def free : List X := [(0, 3), (5, 2), (9, 4)]
theorem free_fine : Fine free := by decide
theorem free_nrm : nrm free = free := by rfl
theorem free_f : tk false 10 ⟨nrm free, [], 4⟩ = ⟨[(6, 1), (9, 4)], [(0, 3), (5, 1)], 0⟩ := by rfl
theorem free_t : tk true 10 ⟨nrm free, [], 4⟩ = ⟨[(0, 3), (5, 2)], [(9, 4)], 0⟩ := by rfl
theorem lit_nrm1 : nrm [(0, 3), (5, 1)] = [(0, 3), (5, 1)] := by rfl
theorem lit_nrm2 : nrm [(9, 4)] = [(9, 4)] := by rfl
theorem lit_nrm3 : nrm ([(0, 3), (4, 1)] ++ [(3, 1)]) = [(0, 5)] := by rfl
theorem lit_nrm4 : nrm [(3, 2), (0, 3)] = [(0, 5)] := by rfl
theorem lit_fine1 : Fine [(0, 3), (4, 1)] := by decide
theorem lit_fine2 : Fine [(3, 1)] := by decide
theorem lit_fine3 : Fine [(3, 2), (0, 3)] := by decide
theorem lit_apart : Apart ([(0, 3), (4, 1)] ++ [(3, 1)]) := by decide
theorem free_meet : ¬ Apart (free ++ free) := by decide
end Go.Proofs.Ytdjpnlkhdilakaa.gn
