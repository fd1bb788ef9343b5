/- For any seat: slices that came in, of whatever elements, opened. -/
import Derived.Test.YtiaidlpceibnpaaGenRow
import Derived.WalkKit
import Derived.ProofKit
import Derived.OpenShut
import Derived.Deep.Slices
set_option linter.unusedVariables false
namespace Go.Proofs.Ytiaidlpceibnpaa.gn
open Go.ChangeShapes Go.WideShapes Go.ChangeAt Go.RowKit Go.Deep

theorem flg_len {α : Type} (f : α → List Value) (k : Nat) (hk : ∀ x, (f x).length = k) : ∀ l : List α, (l.flatMap f).length = l.length * k
  | [] => by simp
  | x :: l => by
    rw [List.flatMap_cons, List.length_append, hk, flg_len f k hk l, List.length_cons, Nat.add_mul]
    omega
theorem flg_at {α : Type} (f : α → List Value) (k : Nat) (hk : ∀ x, (f x).length = k) : ∀ (l : List α) (i j : Nat) (x : α), l[i]? = some x → j < k → (l.flatMap f)[i * k + j]? = (f x)[j]?
  | [], i, j, x, h, _ => by cases h
  | y :: l, 0, j, x, h, hj => by
    cases h
    rw [List.flatMap_cons, Nat.zero_mul, Nat.zero_add, List.getElem?_append_left (by rw [hk]; exact hj)]
  | y :: l, i + 1, j, x, h, hj => by
    have e : (i + 1) * k + j = k + (i * k + j) := by rw [Nat.add_mul]; omega
    rw [List.flatMap_cons, e, List.getElem?_append_right (by rw [hk]; omega), hk, Nat.add_sub_cancel_left]
    exact flg_at f k hk l i j x h hj
/-- A slice of n elements, and its room. -/
def CpG (v : Value) (n : Nat) : Prop := ∃ p c, v = .slice p n c ∧ n ≤ c ∧ c ≤ maxLen
section
variable {H : Type} {enc : TypeId × Value → H} {W : World}
/-- A slice of whatever elements, opened. -/
theorem open_rowX {α : Type} (f : α → List Value) {k : Nat} (hf : ∀ x, (f x).length = k) (hk0 : 0 < k) (ok : α → Prop) (z : α) {t e : TypeId} (ht : Try.prog.underlying t = some (.slice e)) (he : Try.prog.cellsOf e = k)
    (h1 : ∀ fuel cs x, DataW.trod enc Try.prog W 0 (fun _ => true) true fuel e cs = some x → cs.length = k → ∃ y, cs = f y ∧ ok y)
    {fuel : Nat} {v : Value} {x : DataW H × List MemPlace} (h : DataW.trod enc Try.prog W 0 (fun _ => true) true fuel t [v] = some x) : ∃ l : List α, RdC W v l.length (l.flatMap f) ∧ CpG v l.length ∧ ∀ y ∈ l, ok y := by
  rcases open_slice ht h with ⟨hcs, _⟩ | ⟨a, len, cap, m, n, D, Pl, hcs, _, hle, hcap, hm, _, hi⟩
  · simp at hcs
    subst hcs
    exact ⟨[], .inl ⟨none, 0, rfl, rfl, rfl, fun _ => rfl⟩, ⟨_, _, rfl, Nat.le_refl _, by decide⟩, fun y hy => by cases hy⟩
  · simp at hcs
    subst hcs
    simp at hm
    have hex : ∀ i, i < len → ∃ y : α, (∀ j u, (f y)[j]? = some u → W.cell? ((a.add (i * k)).add j) = some u) ∧ ok y := fun i hil => by
      obtain ⟨cs', hc, ht⟩ := hi i (by omega)
      rw [he] at hc
      obtain ⟨_, hl, hcells⟩ := World.cells?_some hc
      obtain ⟨y, hy, hw⟩ := h1 _ _ _ ht hl
      refine ⟨y, fun j u hu => ?_, hw⟩
      rw [← hy] at hu
      exact (hcells j (by obtain ⟨hj, _⟩ := List.getElem?_eq_some_iff.1 hu; omega)).trans hu
    have hLx : ∃ L : List α, L.length = len ∧ ∀ i (hil : i < L.length), (∀ j u, (f L[i])[j]? = some u → W.cell? ((a.add (i * k)).add j) = some u) ∧ ok L[i] := by
      refine ⟨(List.range len).map fun i => if hil : i < len then Classical.choose (hex i hil) else z, by simp, fun i hil => ?_⟩
      have hil' : i < len := by simpa using hil
      simp only [List.getElem_map, List.getElem_range, dif_pos hil']
      exact Classical.choose_spec (hex i hil')
    obtain ⟨L, rfl, hL⟩ := hLx
    refine ⟨L, ?_, ⟨_, _, rfl, hle, hcap⟩, fun y hy => ?_⟩
    · by_cases h0 : L.length = 0
      · have e : L = [] := List.eq_nil_of_length_eq_zero h0
        subst e
        exact .inl ⟨some a, cap, rfl, rfl, rfl, fun e => by cases e⟩
      · obtain ⟨b, off, spot⟩ := a
        have h00 := (hL 0 (by omega)).1 0 ((f L[0])[0]'(by rw [hf]; exact hk0)) (List.getElem?_eq_getElem _)
        have hspot : spot = none := by simpa [Addr.add] using World.cell?_spot h00
        subst hspot
        have hadd : ∀ o j, (⟨b, o, none⟩ : Addr).add j = ⟨b, o + j, none⟩ := fun o j => by unfold Addr.add; split <;> simp_all
        simp only [hadd] at h00
        refine .inr ⟨b, off, cap, rfl, World.block_lt_of_cell? W _ h00, fun j u hu => ?_⟩
        have hjl : j < L.length * k := by
          have := (List.getElem?_eq_some_iff.1 hu).1
          rwa [flg_len f k hf] at this
        have hdm : j / k < L.length := Nat.div_lt_of_lt_mul (by rwa [Nat.mul_comm])
        have hmod : j % k < k := Nat.mod_lt _ hk0
        have hj : j = j / k * k + j % k := by rw [Nat.mul_comm]; exact (Nat.div_add_mod j k).symm
        have hq := (hL (j / k) hdm).1 (j % k) u (by
          rw [hj, flg_at f k hf L (j / k) (j % k) L[j / k] (List.getElem?_eq_getElem hdm) hmod] at hu
          exact hu)
        rw [hadd, hadd, Nat.add_assoc, ← hj] at hq
        exact hq
    · obtain ⟨i, hil, rfl⟩ := List.mem_iff_getElem.1 hy
      exact (hL i hil).2
theorem op_int64 {fuel : Nat} {v : Value} {x : DataW H × List MemPlace} (h : DataW.trod enc Try.prog W 0 (fun _ => true) true fuel 2 [v] = some x) : ∃ n : Int, v = .int .i64 n ∧ -9223372036854775808 ≤ n ∧ n ≤ 9223372036854775807 := by
  obtain ⟨k, hk, _, hw⟩ := DataW.trod_int Try.underlying2 h
  simp at hk
  obtain ⟨l3, u3⟩ : -9223372036854775808 ≤ k ∧ k ≤ 9223372036854775807 := by simpa [Lit.wf, IntKind.min, IntKind.max, IntKind.signed, IntKind.bits] using hw
  exact ⟨k, hk, l3, u3⟩
theorem op_str {fuel : Nat} {v : Value} {x : DataW H × List MemPlace} (h : DataW.trod enc Try.prog W 0 (fun _ => true) true fuel 9 [v] = some x) : ∃ l : List UInt8, v = .string (str l) ∧ l.length ≤ 9223372036854775807 := by
  obtain ⟨s, e, _, hs⟩ := DataW.trod_string Try.underlying9 h
  simp at e
  have : s.size ≤ maxLen := by simpa using hs
  unfold maxLen at this
  exact ⟨s.data.toList, by rw [e, str_of], by rw [Array.length_toList]; exact this⟩
theorem opB : Try.prog.cellsOf 4 = 1 := by kernel_rfl
theorem opI : Try.prog.cellsOf 2 = 1 := by kernel_rfl
theorem opS : Try.prog.cellsOf 9 = 1 := by kernel_rfl
end
end Go.Proofs.Ytiaidlpceibnpaa.gn
