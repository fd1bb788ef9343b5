/- The contract of the document's Same, of texts that are the same. -/
import Derived.Test.YtmaohncddjhgeaaGreatMGenStrs
import Derived.BigQuiet
import Derived.WalkSmall
import Derived.Deep.QuietTactic
section
set_option linter.unusedVariables false
namespace Go.Proofs.YtmaohncddjhgeaaGreat.gn
open Go.RowKit

set_option maxRecDepth 100000 in
set_option maxHeartbeats 4000000 in
theorem same_yes (v u : Value) (L : List (List UInt8)) (w : World) (h : Strs w v L) (h' : Strs w u L) :
    Calls Tryz.prog 50 #[v, u] w fun e w' => e = .returned (.bool true) ∧ Below w.heap.size w w' := by
  obtain ⟨A, cp, rfl, hcp, hcm, hcell, _⟩ := h
  obtain ⟨A2, cp2, rfl, hcp2, hcm2, hcell2, _⟩ := h'
  have hcells : ∀ k (hk : k < L.length), ∃ b o, A = some ⟨b, o, none⟩ ∧ b < w.heap.size ∧ w.cell? ⟨b, o + k, none⟩ = some (.string (str L[k])) := fun k hk => by
    rcases hcell with h0 | ⟨b, o, hA, hcl⟩
    · omega
    · exact ⟨b, o, hA, cell_lt (hcl k hk), hcl k hk⟩
  have hcells2 : ∀ k (hk : k < L.length), ∃ b o, A2 = some ⟨b, o, none⟩ ∧ b < w.heap.size ∧ w.cell? ⟨b, o + k, none⟩ = some (.string (str L[k])) := fun k hk => by
    rcases hcell2 with h0 | ⟨b, o, hA, hcl⟩
    · omega
    · exact ⟨b, o, hA, cell_lt (hcl k hk), hcl k hk⟩
  have HC := Lib.hid hcells
  have HC2 := Lib.hid hcells2
  unfold maxLen at hcm
  clear hcell hcells hcell2 hcells2
  go_enter Tryz.func50, Tryz.ntmps50
  go_wp2
  go_loopw [5] (fun v5 wr => ∃ k : Nat, k ≤ L.length ∧ v5 = .int .i64 (k : Int) ∧ Below w.heap.size w wr) (fun v5 _ => L.length - (intOf v5).toNat)
  case atStart => exact ⟨0, Nat.zero_le _, rfl, Below.refl _ _⟩
  case round =>
    obtain ⟨k, hk, rfl, hb⟩ := hrel
    by_cases hlt : k < L.length
    · obtain ⟨b, o, hA, hbl, hcl⟩ := HC.out k hlt
      subst hA
      obtain ⟨b', o', hA', hbl', hcl'⟩ := HC2.out k hlt
      subst hA'
      have hcr : wr.cell? ⟨b, o + k, none⟩ = some (.string (str L[k])) := (hb.cell (p := ⟨b, o + k, none⟩) hbl).trans hcl
      have hcr' : wr.cell? ⟨b', o' + k, none⟩ = some (.string (str L[k])) := (hb.cell (p := ⟨b', o' + k, none⟩) hbl').trans hcl'
      have HBl := Lib.hid hb
      clear hb hcl hcl'
      generalize L[k] = s at *
      have hq : (((str s).toList == (str s).toList) : Bool) = true := by simp
      go_wp2
      go_quiet (fail)
      go_wp2
      go_roundw
      case rel => exact ⟨k + 1, by omega, by go_num, below_drewN HBl.out _⟩
      case measure => simp [intOf]; omega
    · have hkl : k = L.length := by omega
      subst hkl
      have HBl := Lib.hid hb
      clear hb
      go_wp2
      go_ret
      exact ⟨rfl, HBl.out⟩
end Go.Proofs.YtmaohncddjhgeaaGreat.gn
end
