/- Rows of numbers in memory, for a seat without buffers (pieces of BuA, BuF, BuG, BuK). -/
import Derived.Test.YtiaidlpceibnpaaGenRow
import Derived.Test.YtiaidlpceibnpaaGenBox
import Derived.BigQuiet
import Derived.Deep.LoopGhost
import Derived.Deep.DeepCutAuto
import Derived.Great.Ranges
set_option linter.unusedVariables false
set_option linter.unusedSimpArgs false
namespace Go.Proofs.Ytiaidlpceibnpaa.gn
open Go.RowKit

theorem bel_drewN {B n : Nat} {a w : World} (h : Below B a w) : Below B a (w.drewN n) := ⟨h.os, h.tape, h.output, h.size, h.block⟩
/-- Answers v, and makes memory. -/
def TellsM (v : Value) (w : World) (e : Ending) (w' : World) : Prop := e = .returned v ∧ Below w.heap.size w w'
def ics (l : List Int) : List Value := l.map fun n => .int .i64 n
theorem ics_at {l : List Int} {j : Nat} {n : Int} (h : l[j]? = some n) : (ics l)[j]? = some (.int .i64 n) := by
  unfold ics
  rw [List.getElem?_map, h]
  rfl
theorem ics_one (l : List Int) : ∀ u ∈ ics l, u.oneCell' = true := fun u h => by
  obtain ⟨n, _, rfl⟩ := List.mem_map.1 h
  rfl
theorem ics_len (l : List Int) : (ics l).length = l.length := by simp [ics]
def RI (w : World) (v : Value) (l : List Int) : Prop := RdC w v l.length (ics l)
theorem RI.next {w w' : World} {v : Value} {l : List Int} (h : RI w v l) (hb : Below w.heap.size w w') : RI w' v l := RdC.next h hb
def IAt (w : World) (p : Option Addr) (l : List Int) : Prop := ∃ k off, p = some ⟨k, off, none⟩ ∧ k < w.heap.size ∧ ∀ j x, l[j]? = some x → w.cell? ⟨k, off + j, none⟩ = some (.int .i64 x)
theorem RI.form {w : World} {v : Value} {l : List Int} (h : RI w v l) : ∃ p c, v = .slice p l.length c ∧ (l ≠ [] → IAt w p l) := by
  rcases h with ⟨p, c, rfl, hn, _, _⟩ | ⟨b, off, c, rfl, hlt, hc⟩
  · exact ⟨p, c, by rw [hn], fun hl => absurd (List.eq_nil_of_length_eq_zero hn) hl⟩
  · exact ⟨_, c, rfl, fun _ => ⟨b, off, rfl, hlt, fun j x hx => hc _ _ (ics_at hx)⟩⟩
theorem ne_of_at {α : Type} {l : List α} {j : Nat} {x : α} (h : l[j]? = some x) : l ≠ [] := by
  rintro rfl
  simp at h
theorem elt_ofB {t e : TypeId} {z : Value} {size bytes : Nat} (hu : Try.prog.underlying t = some (.slice e)) (hi : (Try.prog.info? e).map (fun i => (i.zero, i.size, i.bytes)) = some (some z, size, bytes)) (hz : z.cells.size = size) (h0 : 0 < size) : EltI t e z size bytes := by
  refine ⟨hu, ?_, hz, h0⟩
  cases hj : Try.prog.info? e with
  | none => rw [hj] at hi; cases hi
  | some i0 =>
    rw [hj] at hi
    simp only [Option.map_some, Option.some.injEq, Prod.mk.injEq] at hi
    exact ⟨i0, rfl, hi.1, hi.2.1, hi.2.2⟩
theorem eltI64 : EltI 22 2 (.int .i64 0) 1 8 := elt_ofB Try.underlying22 (by kernel_rfl) rfl (by decide)
theorem box_rdc {W : World} {k : Nat} {t : TypeId} {cs : Array Value} {c : Nat} (h : BoxA W k t cs) : RdC W (.slice (some ⟨k, 0, none⟩) 1 c) 1 cs.toList :=
  .inr ⟨k, 0, c, rfl, h.lt, fun j u hu => by rw [Nat.zero_add]; exact BoxA.cell h j u (by simpa using hu)⟩
theorem drew_lowB (W : World) : Below W.heap.size W W.drew := (Below.refl _ _).drew
def OutI (base : Nat) (W : World) (v : Value) (l : List Int) : Prop := ApC base 2 1 W v l.length (ics l)
theorem OutI.nil (base : Nat) (W : World) : OutI base W (.slice none 0 0) [] := .inl ⟨none, rfl, rfl, rfl⟩
theorem OutI.next {base : Nat} {W W' : World} {v : Value} {l : List Int} (h : OutI base W v l) (hb : Below W.heap.size W W') : OutI base W' v l := ApC.next h hb
theorem OutI.ri {base : Nat} {W : World} {v : Value} {l : List Int} (h : OutI base W v l) : RI W v l := h.rdc
theorem low_cell {B : Nat} {a w : World} (h : Below B a w) {k j : Nat} (hk : k < B) : w.cell? ⟨k, j, none⟩ = a.cell? ⟨k, j, none⟩ := Below.cell (p := ⟨k, j, none⟩) h hk
theorem ApC.setCell {base g j : Nat} {e : TypeId} {size : Nat} {W : World} {u x : Value} {n : Nat} {cs : List Value} (h : ApC base e size W u n cs) (hg : g < base) : ApC base e size (W.setCell ⟨g, j, none⟩ x) u n cs := by
  rcases h with h | ⟨h1, h2 | ⟨b, cap, cur, e', hb, hbb, r⟩⟩
  · exact .inl h
  · exact .inr ⟨h1, .inl h2⟩
  · exact .inr ⟨h1, .inr ⟨b, cap, cur, e', hb, (Below.heap_setCell _ _ _ _ (by show b ≠ g; omega)).trans hbb, r⟩⟩
/-- The first i are the same. -/
theorem la_take_at {α : Type} {l : List α} {i : Nat} {b : α} (h : l[i]? = some b) : l.take (i + 1) = l.take i ++ [b] := by
  rw [List.take_add_one, h]
  rfl
def EqTo {α : Type} (a b : List α) (i : Nat) : Prop := a.take i = b.take i
theorem EqTo.zero {α : Type} (a b : List α) : EqTo a b 0 := by unfold EqTo; rw [List.take_zero, List.take_zero]
theorem EqTo.step {α : Type} {a b : List α} {i : Nat} {x : α} (h : EqTo a b i) (ha : a[i]? = some x) (hb : b[i]? = some x) : EqTo a b (i + 1) := by
  unfold EqTo at *
  rw [la_take_at ha, la_take_at hb, h]
theorem EqTo.fin {α : Type} {a b : List α} {n : Nat} (h : EqTo a b n) (ha : a.length = n) (hb : b.length = n) : a = b := by
  unfold EqTo at h
  rwa [List.take_of_length_le (by omega), List.take_of_length_le (by omega)] at h
theorem ne_at {α : Type} {a b : List α} {i : Nat} {x y : α} (ha : a[i]? = some x) (hb : b[i]? = some y) (h : ¬ x = y) : ¬ a = b := fun e => by
  rw [e, hb] at ha
  exact h (Option.some.inj ha).symm
end Go.Proofs.Ytiaidlpceibnpaa.gn
