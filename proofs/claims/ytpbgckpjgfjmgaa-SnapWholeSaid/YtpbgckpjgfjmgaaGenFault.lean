/- For any seat: an api.Fault that came in. -/
import Derived.Test.YtpbgckpjgfjmgaaFiM
import Derived.Test.YtpbgckpjgfjmgaaGen
import Derived.OpenShut
import Derived.Deep.Strs
set_option linter.unusedVariables false
namespace Go.Proofs.Ytpbgckpjgfjmgaa.gn
open Go.RowKit Go.ChangeShapes Go.WideShapes
open Go.Proofs.Ytpbgckpjgfjmgaa.fi

theorem array3 {α : Type} {cs : Array α} (h : cs.size = 3) : ∃ c0 c1 c2, cs = #[c0, c1, c2] := by
  obtain ⟨l⟩ := cs
  match l, h with
  | [c0, c1, c2], _ => exact ⟨c0, c1, c2, rfl⟩
theorem cellsFault : Try.prog.cellsOf 24 = 3 := by kernel_rfl
theorem cellsInt : Try.prog.cellsOf 3 = 1 := by kernel_rfl
theorem cellsU64 : Try.prog.cellsOf 22 = 1 := by kernel_rfl
set_option maxRecDepth 100000 in
theorem open_fault {H : Type} {enc : TypeId × Value → H} {W : World} {v : Value} {d : DataW H} {p : List MemPlace} (hv : Value.okWide Try.prog W .any 0 24 v) (h : DataW.Trod enc Try.prog W 0 (fun _ => true) true 24 v d p) :
    ∃ f : Fault, v = .agg #[.int .i64 f.keep, .int .u64 (f.lose : Int), .int .i64 f.cut] ∧ f.lose < 18446744073709551616 := by
  obtain ⟨cs, rfl, hsz⟩ := okWide_struct Try.underlying24 hv
  obtain ⟨a, b, c, rfl⟩ := array3 (hsz.trans cellsFault)
  obtain ⟨fuel, hf⟩ := h
  have hf' : DataW.trod enc Try.prog W 0 (fun _ => true) true fuel 24 [a, b, c] = some (d, p) := by simpa [Value.cells] using hf
  obtain ⟨z0, z1, z2, m, _, _, k0, k1, k2⟩ := Go.Deep.trod_struct3 Try.underlying24 hf'
  have k0 : DataW.trod enc Try.prog W 0 (fun _ => true) true m 3 [a] = some z0 := by simpa [cellsInt] using k0
  have k1 : DataW.trod enc Try.prog W 0 (fun _ => true) true m 22 [b] = some z1 := by simpa [cellsU64] using k1
  have k2 : DataW.trod enc Try.prog W 0 (fun _ => true) true m 3 [c] = some z2 := by simpa [cellsInt] using k2
  obtain ⟨q0, e0, _, w0⟩ := DataW.trod_int Try.underlying3 k0
  obtain ⟨q1, e1, _, w1⟩ := DataW.trod_int Try.underlying22 k1
  obtain ⟨q2, e2, _, w2⟩ := DataW.trod_int Try.underlying3 k2
  simp at e0 e1 e2
  subst e0 e1 e2
  obtain ⟨l1, b1⟩ : 0 ≤ q1 ∧ q1 ≤ 18446744073709551615 := by simpa [Lit.wf, IntKind.min, IntKind.max, IntKind.signed, IntKind.bits] using w1
  refine ⟨⟨q0, q1.toNat, q2⟩, ?_, by show q1.toNat < _; omega⟩
  have : ((q1.toNat : Nat) : Int) = q1 := by omega
  rw [this]
end Go.Proofs.Ytpbgckpjgfjmgaa.gn
