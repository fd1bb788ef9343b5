/- For any seat: a slice of slices of strings that came in. -/
import Derived.Test.YtphdmpplmdcnaaaGreatMGenAp
import Derived.OpenShut
import Derived.Deep.Slices
section
set_option linter.unusedVariables false
namespace Go.Proofs.YtphdmpplmdcnaaaGreat.gn
open Go.RowKit Go.ChangeShapes Go.WideShapes
open Go.Deep (open_slice1)

theorem cellsRow : Tryz.prog.cellsOf 34 = 1 := by kernel_rfl
theorem open_strw {H : Type} {enc : TypeId × Value → H} {W : World} {fuel : Nat} {v : Value} {x : DataW H × List MemPlace}
    (h : DataW.trod enc Tryz.prog W 0 (fun _ => true) true fuel 34 [v] = some x) : ∃ L, Strw W v L := by
  obtain ⟨L, hL⟩ := open_strs1 h
  refine ⟨L, hL, fun n c e => ?_⟩
  subst e
  rcases open_slice1 Tryz.underlying34 cells9 h with ⟨hcs, _⟩ | ⟨a, len, cap, m, n', V, D, Pl, hcs, _⟩
  · simp at hcs; exact hcs
  · simp at hcs
theorem open_grid {H : Type} {enc : TypeId × Value → H} {W : World} {fuel : Nat} {v : Value} {x : DataW H × List MemPlace}
    (h : DataW.trod enc Tryz.prog W 0 (fun _ => true) true fuel 24 [v] = some x) : ∃ LL, Grid W v LL := by
  rcases open_slice1 Tryz.underlying24 cellsRow h with ⟨hcs, _⟩ | ⟨a, len, cap, m, n, V, D, Pl, hcs, _, hle, hcap, hm, _, hi⟩
  · simp at hcs
    subst hcs
    exact ⟨[], none, 0, rfl, Nat.le_refl _, Nat.zero_le _, .inl rfl⟩
  · simp at hcs
    subst hcs
    simp at hm
    have hex : ∀ i, i < len → ∃ L, W.cell? (a.add i) = some (V i) ∧ Strw W (V i) L := fun i hil => by
      obtain ⟨hc, ht⟩ := hi i (by omega)
      obtain ⟨L, hL⟩ := open_strw ht
      exact ⟨L, hc, hL⟩
    have hLx : ∃ LL : List (List (List UInt8)), LL.length = len ∧ ∀ i (hil : i < LL.length), W.cell? (a.add i) = some (V i) ∧ Strw W (V i) LL[i] := by
      refine ⟨(List.range len).map fun i => if hil : i < len then Classical.choose (hex i hil) else [], by simp, fun i hil => ?_⟩
      have hil' : i < len := by simpa using hil
      simp only [List.getElem_map, List.getElem_range, dif_pos hil']
      exact Classical.choose_spec (hex i hil')
    obtain ⟨LL, rfl, hL⟩ := hLx
    refine ⟨LL, some a, cap, rfl, hle, hcap, ?_⟩
    by_cases h0 : LL.length = 0
    · exact .inl h0
    · obtain ⟨b, off, spot⟩ := a
      have hspot : spot = none := by simpa [Addr.add] using World.cell?_spot ((hL 0 (by omega)).1)
      subst hspot
      have hadd : ∀ o j, (⟨b, o, none⟩ : Addr).add j = ⟨b, o + j, none⟩ := fun o j => by unfold Addr.add; split <;> simp_all
      refine .inr ⟨b, off, rfl, fun j hj => ?_⟩
      have hk := hL j hj
      rw [hadd] at hk
      exact ⟨V j, hk.1, hk.2⟩
theorem of_u64' {k : Int} (h : (Lit.int .u64 k).wf = true) : ∃ m : Nat, k = (m : Int) ∧ m < 18446744073709551616 := by
  obtain ⟨l1, b1⟩ : 0 ≤ k ∧ k ≤ 18446744073709551615 := by simpa [Lit.wf, IntKind.min, IntKind.max, IntKind.signed, IntKind.bits] using h
  exact ⟨k.toNat, by omega, by omega⟩
end Go.Proofs.YtphdmpplmdcnaaaGreat.gn
end
