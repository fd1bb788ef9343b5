/- For the law BuffersOwn: its own copies, and worlds in which told rows were written over. -/
import Derived.Test.YtkjffoebcblpoaaGreatMBuR
import Derived.Test.YtkjffoebcblpoaaGreatMBuQ
set_option linter.unusedVariables false
set_option linter.unusedSimpArgs false
namespace Go.Proofs.YtkjffoebcblpoaaGreat.gn
open Go.RowKit
open Go.Proofs.YtkjffoebcblpoaaGreat.bu (Bf May Valid addS refS unrefS dropS freeS findS ofS)

theorem ApC.setCell {base g j : Nat} {e : TypeId} {size : Nat} {W : World} {u x : Value} {n : Nat} {cs : List Value} (h : ApC base e size W u n cs) (hg : g < base) : ApC base e size (W.setCell ⟨g, j, none⟩ x) u n cs := by
  rcases h with h | ⟨h1, h2 | ⟨b, cap, cur, e', hb, hbb, r⟩⟩
  · exact .inl h
  · exact .inr ⟨h1, .inl h2⟩
  · exact .inr ⟨h1, .inr ⟨b, cap, cur, e', hb, (Below.heap_setCell _ _ _ _ (by show b ≠ g; omega)).trans hbb, r⟩⟩
/-- Where the law's own copies stand. -/
structure OwW (L : List (Bf × Gb)) (base : Nat) (W0 : World) (i : Nat) (M : List (Bf × Gb)) (v : Value) (Y : World) : Prop where
  eq : M.map Prod.fst = (L.map Prod.fst).take i
  row : OwnB base Y v M
  e : ∀ p ∈ M, ApC base 55 2 Y p.2.e p.1.exts.length (xcs p.1.exts)
  r : ∀ p ∈ M, OutI base Y p.2.r p.1.refs
  low : Below base W0 Y
theorem OwW.put {L : List (Bf × Gb)} {base : Nat} {W0 : World} {i : Nat} {M : List (Bf × Gb)} {v u : Value} {Y Y1 Y' : World} {q : Bf × Gb} (h : OwW L base W0 i M v Y) (hq : L[i]? = some q) (h1 : Below Y.heap.size Y Y1) (hb : base ≤ Y.heap.size) {e r : Value}
    (he : ApC base 55 2 Y1 e q.1.exts.length (xcs q.1.exts)) (hr : OutI base Y1 r q.1.refs) (hg : Y1.grownBy Y' v.ownBlock)
    (ho : OwnB base Y' u (M ++ [(q.1, (⟨e, r⟩ : Gb))])) : OwW L base W0 (i + 1) (M ++ [(q.1, (⟨e, r⟩ : Gb))]) u Y' := by
  have hrow := h.row.next h1
  have hb1 : base ≤ Y1.heap.size := Nat.le_trans hb h1.size
  refine ⟨?_, ho, fun p hp => ?_, fun p hp => ?_, (h.low.trans (h1.mono hb)).trans (hrow.low hg hb1)⟩
  · rw [List.map_append, h.eq, List.take_add_one]
    have := fst_at hq
    rw [this]
    rfl
  · rcases List.mem_append.1 hp with hp | hp
    · exact ApC.grownT (by decide) ((h.e p hp).next h1) hrow hg
    · rw [List.mem_singleton.1 hp]
      exact ApC.grownT (by decide) he hrow hg
  · rcases List.mem_append.1 hp with hp | hp
    · exact ApC.grownT (by decide) (ApC.next (h.r p hp) h1) hrow hg
    · rw [List.mem_singleton.1 hp]
      exact ApC.grownT (by decide) hr hrow hg
theorem OwW.rbs {L : List (Bf × Gb)} {base : Nat} {W0 : World} {i : Nat} {M : List (Bf × Gb)} {v : Value} {Y : World} (h : OwW L base W0 i M v Y) : RBs Y v M := ⟨ApC.rdc (.inr h.row), fun p hp => ⟨(h.e p hp).rdc, OutI.ri (h.r p hp)⟩⟩
theorem OwW.bis {L : List (Bf × Gb)} {base : Nat} {W0 : World} {i : Nat} {M : List (Bf × Gb)} {v : Value} {Y : World} (h : OwW L base W0 i M v Y) (hl : BIs L) : BIs M := by
  have hm : ∀ p ∈ M, p.1 ∈ L.map Prod.fst := fun p hp => List.mem_of_mem_take (by rw [← h.eq]; exact List.mem_map.2 ⟨p, hp, rfl⟩)
  refine ⟨?_, fun p hp => ?_⟩
  · have h1 := congrArg List.length h.eq
    rw [List.length_map, List.length_take, List.length_map] at h1
    have := hl.len
    omega
  · obtain ⟨q, hq, he⟩ := List.mem_map.1 (hm p hp)
    rw [← he]
    exact hl.all q hq

/-- A world in which rows of extents and of numbers, from block B on, may have been written over. -/
structure Zed (B : Nat) (W0 Y : World) : Prop where
  low : Below B W0 Y
  size : Y.heap.size = W0.heap.size
  keep : ∀ (k : Nat) (cs : Array Value) (t : TypeId) (fr : Nat × Nat), W0.heap[k]? = some (.cells cs t fr) → t ≠ 55 → t ≠ 2 → Y.heap[k]? = some (.cells cs t fr)
  row : ∀ (k : Nat) (cs : Array Value) (t : TypeId), W0.heap[k]? = some (.cells cs t (0, 0)) → ∃ cs', Y.heap[k]? = some (.cells cs' t (0, 0)) ∧ cs'.size = cs.size
theorem Zed.refl (B : Nat) (W : World) : Zed B W W := ⟨Below.refl _ _, rfl, fun _ _ _ _ h _ _ => h, fun _ cs _ h => ⟨cs, h, rfl⟩⟩
theorem Zed.set {B : Nat} {W0 Y : World} (h : Zed B W0 Y) {g : Nat} {cs : Array Value} {t : TypeId} (hg : W0.heap[g]? = some (.cells cs t (0, 0))) (ht : t = 55 ∨ t = 2) (hB : B ≤ g) (j : Nat) (u : Value) : Zed B W0 (Y.setCell ⟨g, j, none⟩ u) := by
  refine ⟨h.low.setCell hB _, by rw [← h.size]; simp [World.setCell], fun k cs' t' fr hk h1 h2 => ?_, fun k cs' t' hk => ?_⟩
  · have hne : k ≠ g := by
      rintro rfl
      rw [hg] at hk
      simp only [Option.some.injEq, Obj.cells.injEq] at hk
      rcases ht with e | e
      · exact h1 (hk.2.1.symm.trans e)
      · exact h2 (hk.2.1.symm.trans e)
    exact (Below.heap_setCell _ _ _ _ hne).trans (h.keep k cs' t' fr hk h1 h2)
  · obtain ⟨c1, e1, e2⟩ := h.row k cs' t' hk
    by_cases hne : k = g
    · subst hne
      exact ⟨_, heap_setCell e1 u, by rw [Array.size_setIfInBounds]; exact e2⟩
    · exact ⟨c1, (Below.heap_setCell _ _ _ _ hne).trans e1, e2⟩
theorem Zed.sets {B : Nat} {W0 : World} {g : Nat} {cs : Array Value} {t : TypeId} (hg : W0.heap[g]? = some (.cells cs t (0, 0))) (ht : t = 55 ∨ t = 2) (hB : B ≤ g) : ∀ (us : List Value) (j : Nat) {Y : World}, Zed B W0 Y → Zed B W0 (Y.setCells g j us)
  | [], j, Y, h => h
  | u :: r, j, Y, h => Zed.sets hg ht hB r (j + 1) (h.set hg ht hB j u)
theorem Zed.cell {B : Nat} {W0 Y : World} (h : Zed B W0 Y) {k : Nat} {cs : Array Value} {t : TypeId} {fr : Nat × Nat} (hk : W0.heap[k]? = some (.cells cs t fr)) (h1 : t ≠ 55) (h2 : t ≠ 2) (j : Nat) : Y.cell? ⟨k, j, none⟩ = W0.cell? ⟨k, j, none⟩ :=
  World.cell?_of_block (a := ⟨k, j, none⟩) ((h.keep k cs t fr hk h1 h2).trans hk.symm)
/-- A slice of n elements that may be written over. -/
def WrC (B : Nat) (t : TypeId) (size : Nat) (W : World) (v : Value) (n : Nat) : Prop := ∃ p c, v = .slice p n c ∧ (0 < n → ∃ (g : Nat) (cs : Array Value), p = some ⟨g, 0, none⟩ ∧ B ≤ g ∧ W.heap[g]? = some (.cells cs t (0, 0)) ∧ n * size ≤ cs.size)
theorem ApC.wrc {base B : Nat} {t : TypeId} {size : Nat} {W : World} {v : Value} {n : Nat} {cs : List Value} (h : ApC base t size W v n cs) (hB : B ≤ base) : WrC B t size W v n := by
  rcases h with ⟨p, rfl, rfl, _⟩ | ⟨h1, ⟨rfl, rfl⟩ | ⟨g, cap, cur, rfl, hb, hg, hle, _, hsz, _⟩⟩
  · exact ⟨p, 0, rfl, fun h => absurd h (Nat.lt_irrefl 0)⟩
  · exact ⟨none, 0, rfl, fun h => absurd h (Nat.lt_irrefl 0)⟩
  · exact ⟨_, cap, rfl, fun _ => ⟨g, cur, rfl, Nat.le_trans hB hb, hg, by rw [hsz]; exact Nat.mul_le_mul_right _ hle⟩⟩
theorem Zed.there {B : Nat} {W0 Y : World} (h : Zed B W0 Y) {g : Nat} {cs : Array Value} {t : TypeId} (hg : W0.heap[g]? = some (.cells cs t (0, 0))) {j m : Nat} (hj : j + m ≤ cs.size) : Y.there g j m := fun i hi => by
  obtain ⟨c1, e1, e2⟩ := h.row g cs t hg
  have hlt : j + i < c1.size := by omega
  refine ⟨?_, by simp [World.frozen?, e1]⟩
  simp [World.cell?, e1, Array.getElem?_eq_getElem hlt]
theorem Zed.one {B : Nat} {W0 Y : World} (h : Zed B W0 Y) {g : Nat} {cs : Array Value} {t : TypeId} (hg : W0.heap[g]? = some (.cells cs t (0, 0))) {j : Nat} (hj : j < cs.size) : (∃ u, Y.cell? ⟨g, j, none⟩ = some u) ∧ Y.frozen? ⟨g, j, none⟩ = false ∧ g < Y.heap.size := by
  obtain ⟨c1, e1, e2⟩ := h.row g cs t hg
  have hlt : j < c1.size := by omega
  exact ⟨⟨c1[j], by simp [World.cell?, e1, Array.getElem?_eq_getElem hlt]⟩, by simp [World.frozen?, e1], (Array.getElem?_eq_some_iff.1 e1).1⟩
/-- The two rows of an entry of a row of the call's own. -/
theorem Own.entry {B base g c n : Nat} {W0 : World} {M : List (Bf × Gb)} (h : Own base W0 (.slice (some ⟨g, 0, none⟩) n c) M) (hB : B ≤ base) {k : Nat} {q : Bf × Gb} (hq : M[k]? = some q) :
    (∀ Y, Zed B W0 Y → Y.cell? ⟨g, k * 7 + 5, none⟩ = some q.2.e ∧ Y.cell? ⟨g, k * 7 + 6, none⟩ = some q.2.r ∧ g < Y.heap.size) ∧ WrC B 55 2 W0 q.2.e q.1.exts.length ∧ WrC B 2 1 W0 q.2.r q.1.refs.length := by
  obtain ⟨g', c', hv, ho⟩ := h.row.own (ne_of_at hq)
  simp only [Value.slice.injEq, Option.some.injEq, Addr.mk.injEq, and_true, true_and] at hv
  obtain ⟨rfl, rfl, rfl⟩ := hv
  have hr := OwnB.range ho hq
  refine ⟨fun Y hz => ?_, (h.e q (List.mem_of_getElem? hq)).wrc hB, ApC.wrc (h.r q (List.mem_of_getElem? hq)) hB⟩
  have hblk : ∃ cur, W0.heap[g]? = some (.cells cur 26 (0, 0)) := by
    obtain ⟨-, ⟨hv, _⟩ | ⟨g2, cap, cur, hv, _, hg, _⟩⟩ := ho
    · simp at hv
    · simp only [Value.slice.injEq, Option.some.injEq, Addr.mk.injEq, and_true, true_and] at hv
      obtain ⟨rfl, _⟩ := hv
      exact ⟨cur, hg⟩
  obtain ⟨cur, hg⟩ := hblk
  have h5 := hz.cell hg (by decide) (by decide) (k * 7 + 5)
  have h6 := hz.cell hg (by decide) (by decide) (k * 7 + 6)
  exact ⟨h5.trans (hr 5 _ rfl), h6.trans (hr 6 _ rfl), by rw [hz.size]; exact (Array.getElem?_eq_some_iff.1 hg).1⟩
theorem Own.form {base : Nat} {W : World} {v : Value} {M : List (Bf × Gb)} (h : Own base W v M) : ∃ p c, v = .slice p M.length c ∧ (M ≠ [] → ∃ g, p = some ⟨g, 0, none⟩) := by
  by_cases h0 : M = []
  · obtain ⟨p, c, rfl, _⟩ := ApC.form h.row.row
    exact ⟨p, c, rfl, fun h => absurd h0 h⟩
  · obtain ⟨g, c, rfl, _⟩ := h.row.own h0
    exact ⟨_, c, rfl, fun _ => ⟨g, rfl⟩⟩
end Go.Proofs.YtkjffoebcblpoaaGreat.gn
