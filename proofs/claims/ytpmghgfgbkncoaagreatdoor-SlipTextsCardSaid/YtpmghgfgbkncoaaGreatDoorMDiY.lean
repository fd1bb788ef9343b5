/- A directive that came in, opened. -/
import Derived.Test.YtpmghgfgbkncoaaGreatDoorMDiK
import Derived.Test.YtpmghgfgbkncoaaGreatDoorMDiZ
import Derived.WalkKit
import Derived.ProofKit
import Derived.OpenShut
section
set_option linter.unusedVariables false
namespace Go.Proofs.YtpmghgfgbkncoaaGreatDoor.gn
open Go.ChangeShapes Go.WideShapes Go.ChangeAt Go.RowKit
open Go.Proofs.YtpmghgfgbkncoaaGreatDoor.di

section
variable {H : Type} {enc : TypeId × Value → H} {W : World}
theorem dTrod5 {P : Program} {base : Nat} {spare : Nat → Bool} {held : Bool} {t : TypeId} {f0 f1 f2 f3 f4 : Field} {fuel : Nat} {cs : List Value} {x : DataW H × List MemPlace} (ht : P.underlying t = some (.struct #[f0, f1, f2, f3, f4])) (h : DataW.trod enc P W base spare held fuel t cs = some x) :
    ∃ y0 y1 y2 y3 y4 n, DataW.trod enc P W base spare held n f0.type ((cs.drop f0.offset).take (P.cellsOf f0.type)) = some y0 ∧ DataW.trod enc P W base spare held n f1.type ((cs.drop f1.offset).take (P.cellsOf f1.type)) = some y1 ∧
      DataW.trod enc P W base spare held n f2.type ((cs.drop f2.offset).take (P.cellsOf f2.type)) = some y2 ∧ DataW.trod enc P W base spare held n f3.type ((cs.drop f3.offset).take (P.cellsOf f3.type)) = some y3 ∧ DataW.trod enc P W base spare held n f4.type ((cs.drop f4.offset).take (P.cellsOf f4.type)) = some y4 := by
  obtain ⟨xs, n, _, rfl, hl, hlen, hf⟩ := DataW.trod_struct ht h
  match xs, hlen with
  | [y0, y1, y2, y3, y4], _ => exact ⟨y0, y1, y2, y3, y4, n, by simpa using hf 0 f0 rfl, by simpa using hf 1 f1 rfl, by simpa using hf 2 f2 rfl, by simpa using hf 3 f3 rfl, by simpa using hf 4 f4 rfl⟩
theorem dStr : Tryz.prog.cellsOf 9 = 1 := by kernel_rfl
theorem dU8 : Tryz.prog.cellsOf 5 = 1 := by kernel_rfl
theorem dI64 : Tryz.prog.cellsOf 2 = 1 := by kernel_rfl
theorem dBool : Tryz.prog.cellsOf 4 = 1 := by kernel_rfl
theorem dDir : (Tryz.prog.info? 51).map (·.size) = some 5 := by kernel_rfl
theorem dDir5 : Tryz.prog.cellsOf 51 = 5 := by kernel_rfl
theorem arr5 {cs : Array Value} (h : cs.size = 5) : ∃ c0 c1 c2 c3 c4, cs = #[c0, c1, c2, c3, c4] := by
  obtain ⟨l⟩ := cs
  match l, h with
  | [c0, c1, c2, c3, c4], _ => exact ⟨c0, c1, c2, c3, c4, rfl⟩
set_option maxRecDepth 100000 in
theorem open_dir {base : Nat} {v : Value} {d : DataW H} {p : List MemPlace} (hv : Value.okWide Tryz.prog W .any base 51 v) (h : DataW.Trod enc Tryz.prog W 0 (fun _ => true) true 51 v d p) :
    ∃ a : Dir, v = dV a ∧ DW a := by
  obtain ⟨cs, rfl, hsz⟩ := okWide_struct Tryz.underlying51 hv
  obtain ⟨c0, c1, c2, c3, c4, rfl⟩ := arr5 (hsz.trans dDir5)
  obtain ⟨fuel, hf⟩ := h
  have hf' : DataW.trod enc Tryz.prog W 0 (fun _ => true) true fuel 51 [c0, c1, c2, c3, c4] = some (d, p) := by simpa [Value.cells] using hf
  obtain ⟨z0, z1, z2, z3, z4, m, k0, k1, k2, k3, k4⟩ := dTrod5 Tryz.underlying51 hf'
  have k0 : DataW.trod enc Tryz.prog W 0 (fun _ => true) true m 5 [c0] = some z0 := by simpa [dU8] using k0
  have k1 : DataW.trod enc Tryz.prog W 0 (fun _ => true) true m 9 [c1] = some z1 := by simpa [dStr] using k1
  have k2 : DataW.trod enc Tryz.prog W 0 (fun _ => true) true m 9 [c2] = some z2 := by simpa [dStr] using k2
  have k3 : DataW.trod enc Tryz.prog W 0 (fun _ => true) true m 2 [c3] = some z3 := by simpa [dI64] using k3
  have k4 : DataW.trod enc Tryz.prog W 0 (fun _ => true) true m 4 [c4] = some z4 := by simpa [dBool] using k4
  obtain ⟨q0, e0, _, w0⟩ := DataW.trod_int Tryz.underlying5 k0
  obtain ⟨s1, e1, _, hs1⟩ := DataW.trod_string Tryz.underlying9 k1
  obtain ⟨s2, e2, _, hs2⟩ := DataW.trod_string Tryz.underlying9 k2
  obtain ⟨q3, e3, _, w3⟩ := DataW.trod_int Tryz.underlying2 k3
  obtain ⟨b4, e4, _⟩ := DataW.trod_bool Tryz.underlying4 k4
  simp at e0 e1 e2 e3 e4
  subst e0 e1 e2 e3 e4
  obtain ⟨l1, u1⟩ : 0 ≤ q0 ∧ q0 ≤ 255 := by simpa [Lit.wf, IntKind.min, IntKind.max, IntKind.signed, IntKind.bits] using w0
  obtain ⟨l3, u3⟩ : -9223372036854775808 ≤ q3 ∧ q3 ≤ 9223372036854775807 := by simpa [Lit.wf, IntKind.min, IntKind.max, IntKind.signed, IntKind.bits] using w3
  refine ⟨⟨q0.toNat, s1.data.toList, s2.data.toList, q3, b4⟩, ?_, ⟨by show q0.toNat < 256; omega, ?_, ?_, l3, u3⟩⟩
  · have : ((q0.toNat : Nat) : Int) = q0 := by omega
    simp [dV, dcs, str_of, this]
  · have : s1.size ≤ maxLen := by simpa using hs1
    unfold maxLen at this
    show s1.data.toList.length ≤ _
    rw [Array.length_toList]
    exact this
  · have : s2.size ≤ maxLen := by simpa using hs2
    unfold maxLen at this
    show s2.data.toList.length ≤ _
    rw [Array.length_toList]
    exact this
end
end Go.Proofs.YtpmghgfgbkncoaaGreatDoor.gn
end
