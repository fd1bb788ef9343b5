/- Arguments that came in: profiles, windows. -/
import Derived.Test.YtigomdihkojdmaaStO
import Derived.Lib.SmallJoins
import Derived.ChangeSlices
namespace Go.Proofs.Ytigomdihkojdmaa.gn
open Go.RowKit
open Go.Proofs.Ytigomdihkojdmaa.sp

theorem cells2 : Try.prog.cellsOf 2 = 1 := by kernel_rfl
theorem open_row {H : Type} {enc : TypeId × Value → H} {W : World} {fuel : Nat} {v : Value} {x : DataW H × List MemPlace}
    (h : DataW.trod enc Try.prog W 0 (fun _ => true) true fuel 22 [v] = some x) : ∃ l, Ints W v l := by
  rcases Go.ChangeShapes.open_ints Try.underlying22 Try.underlying2 cells2 h with ⟨hcs, _⟩ | ⟨a, len, cap, zs, hcs, _, hle, hm, hz, _, hcell, hw⟩
  · simp at hcs
    subst hcs
    exact ⟨[], by simp, none, 0, rfl, ⟨Nat.le_refl _, Nat.zero_le _⟩, .inl rfl⟩
  · simp at hcs hz
    subst hcs
    have hl : (zs.take len).length = len := by rw [List.length_take]; omega
    refine ⟨zs.take len, by rw [hl]; omega, some a, cap, by rw [hl], by rw [hl]; omega, ?_⟩
    by_cases h0 : len = 0
    · exact .inl (hl.trans h0)
    · obtain ⟨b, off, spot⟩ := a
      have hspot : spot = none := by simpa [Addr.add] using World.cell?_spot (hcell 0 (by omega))
      subst hspot
      refine .inr ⟨b, off, rfl, fun j hj => ?_⟩
      rw [hl] at hj
      have hadd : (⟨b, off, none⟩ : Addr).add j = ⟨b, off + j, none⟩ := by unfold Addr.add; split <;> simp_all
      have := hcell j (by omega)
      rw [hadd] at this
      rw [this]
      simp [List.getD, List.getElem?_eq_getElem (show j < zs.length by omega)]
end Go.Proofs.Ytigomdihkojdmaa.gn
