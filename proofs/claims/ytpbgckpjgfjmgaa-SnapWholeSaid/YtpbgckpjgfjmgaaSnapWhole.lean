/- For every input SnapWhole returns true, and its arguments are as they were. No condition. -/
import Derived.Test.YtpbgckpjgfjmgaaSnL1
import Derived.Test.YtpbgckpjgfjmgaaGenFault
import Derived.WalkKit
import Derived.ProofKit
import Derived.OpenShut
namespace Go.Proofs.Ytpbgckpjgfjmgaa.snapWhole
open Go.ChangeShapes Go.WideShapes Go.ChangeAt Go.RowKit
open Go.ChangeMaps (open_string shut_string)
set_option linter.unusedVariables false

theorem own : ownKnob Try.prog.godebug = none := by kernel_rfl
theorem laidOut : laidOutB Try.prog = true := by kernel_rfl

section
variable {H : Type} {enc : TypeId × Value → H} {W : World}
theorem array6 {α : Type} {cs : Array α} (h : cs.size = 6) : ∃ c0 c1 c2 c3 c4 c5, cs = #[c0, c1, c2, c3, c4, c5] := by
  obtain ⟨l⟩ := cs
  match l, h with
  | [c0, c1, c2, c3, c4, c5], _ => exact ⟨c0, c1, c2, c3, c4, c5, rfl⟩
theorem trod_struct4 {P : Program} {base : Nat} {spare : Nat → Bool} {held : Bool} {t : TypeId} {f0 f1 f2 f3 : Field} {fuel : Nat} {cs : List Value} {x : DataW H × List MemPlace} (ht : P.underlying t = some (.struct #[f0, f1, f2, f3])) (h : DataW.trod enc P W base spare held fuel t cs = some x) :
    ∃ y0 y1 y2 y3 n, DataW.trod enc P W base spare held n f0.type ((cs.drop f0.offset).take (P.cellsOf f0.type)) = some y0 ∧ DataW.trod enc P W base spare held n f1.type ((cs.drop f1.offset).take (P.cellsOf f1.type)) = some y1 ∧
      DataW.trod enc P W base spare held n f2.type ((cs.drop f2.offset).take (P.cellsOf f2.type)) = some y2 ∧ DataW.trod enc P W base spare held n f3.type ((cs.drop f3.offset).take (P.cellsOf f3.type)) = some y3 := by
  obtain ⟨xs, n, _, rfl, hl, hlen, hf⟩ := DataW.trod_struct ht h
  match xs, hlen with
  | [y0, y1, y2, y3], _ => exact ⟨y0, y1, y2, y3, n, by simpa using hf 0 f0 rfl, by simpa using hf 1 f1 rfl, by simpa using hf 2 f2 rfl, by simpa using hf 3 f3 rfl⟩
theorem eStr : Try.prog.cellsOf 9 = 1 := by kernel_rfl
theorem eU8 : Try.prog.cellsOf 5 = 1 := by kernel_rfl
theorem eF : Try.prog.cellsOf 24 = 3 := by kernel_rfl
theorem eW : Try.prog.cellsOf 26 = 6 := by kernel_rfl
theorem of_u8 {k : Int} (h : (Lit.int .u8 k).wf = true) : ∃ m : Nat, k = (m : Int) ∧ m < 256 := by
  obtain ⟨l1, b1⟩ : 0 ≤ k ∧ k ≤ 255 := by simpa [Lit.wf, IntKind.min, IntKind.max, IntKind.signed, IntKind.bits] using h
  exact ⟨k.toNat, by omega, by omega⟩
theorem open_fault3 {fuel : Nat} {a b c : Value} {x : DataW H × List MemPlace} (h : DataW.trod enc Try.prog W 0 (fun _ => true) true fuel 24 [a, b, c] = some x) :
    ∃ f : fi.Fault, a = .int .i64 f.keep ∧ b = .int .u64 (f.lose : Int) ∧ c = .int .i64 f.cut ∧ f.lose < 18446744073709551616 := by
  obtain ⟨z0, z1, z2, m, _, _, k0, k1, k2⟩ := Go.Deep.trod_struct3 Try.underlying24 h
  have k0 : DataW.trod enc Try.prog W 0 (fun _ => true) true m 3 [a] = some z0 := by simpa [gn.cellsInt] using k0
  have k1 : DataW.trod enc Try.prog W 0 (fun _ => true) true m 22 [b] = some z1 := by simpa [gn.cellsU64] using k1
  have k2 : DataW.trod enc Try.prog W 0 (fun _ => true) true m 3 [c] = some z2 := by simpa [gn.cellsInt] using k2
  obtain ⟨q0, e0, _, w0⟩ := DataW.trod_int Try.underlying3 k0
  obtain ⟨q1, e1, _, w1⟩ := DataW.trod_int Try.underlying22 k1
  obtain ⟨q2, e2, _, w2⟩ := DataW.trod_int Try.underlying3 k2
  simp at e0 e1 e2
  subst e0 e1 e2
  obtain ⟨l1, b1⟩ : 0 ≤ q1 ∧ q1 ≤ 18446744073709551615 := by simpa [Lit.wf, IntKind.min, IntKind.max, IntKind.signed, IntKind.bits] using w1
  refine ⟨⟨q0, q1.toNat, q2⟩, rfl, ?_, rfl, by show q1.toNat < _; omega⟩
  have : ((q1.toNat : Nat) : Int) = q1 := by omega
  rw [this]
set_option maxRecDepth 100000 in
theorem open_whole {v : Value} {d : DataW H} {p : List MemPlace} (hv : Value.okWide Try.prog W .any 0 26 v) (h : DataW.Trod enc Try.prog W 0 (fun _ => true) true 26 v d p) :
    ∃ a : List UInt8 × List UInt8 × Nat × fi.Fault, v = .agg (gn.whl a.1 a.2.1 a.2.2.1 a.2.2.2) ∧ (a.2.2.1 < 256 ∧ a.2.2.2.lose < 18446744073709551616) := by
  obtain ⟨cs, rfl, hsz⟩ := okWide_struct Try.underlying26 hv
  obtain ⟨c0, c1, c2, c3, c4, c5, rfl⟩ := array6 (hsz.trans eW)
  obtain ⟨fuel, hf⟩ := h
  have hf' : DataW.trod enc Try.prog W 0 (fun _ => true) true fuel 26 [c0, c1, c2, c3, c4, c5] = some (d, p) := by simpa [Value.cells] using hf
  obtain ⟨z0, z1, z2, z3, m, k0, k1, k2, k3⟩ := trod_struct4 Try.underlying26 hf'
  have k0 : DataW.trod enc Try.prog W 0 (fun _ => true) true m 9 [c0] = some z0 := by simpa [eStr] using k0
  have k1 : DataW.trod enc Try.prog W 0 (fun _ => true) true m 9 [c1] = some z1 := by simpa [eStr] using k1
  have k2 : DataW.trod enc Try.prog W 0 (fun _ => true) true m 5 [c2] = some z2 := by simpa [eU8] using k2
  have k3 : DataW.trod enc Try.prog W 0 (fun _ => true) true m 24 [c3, c4, c5] = some z3 := by simpa [eF] using k3
  obtain ⟨s0, e0, _, hs0⟩ := DataW.trod_string Try.underlying9 k0
  obtain ⟨s1, e1, _, hs1⟩ := DataW.trod_string Try.underlying9 k1
  obtain ⟨q2, e2, _, w2⟩ := DataW.trod_int Try.underlying5 k2
  obtain ⟨f, rfl, rfl, rfl, hfl⟩ := open_fault3 k3
  simp at e0 e1 e2
  subst e0 e1 e2
  obtain ⟨n, rfl, hn⟩ := of_u8 w2
  refine ⟨⟨s0.data.toList, s1.data.toList, n, f⟩, ?_, ⟨hn, hfl⟩⟩
  simp [gn.whl, gn.str_of]
end
theorem walk (a : List UInt8 × List UInt8 × Nat × fi.Fault) (h : a.2.2.1 < 256 ∧ a.2.2.2.lose < 18446744073709551616) (w : World) :
    Calls Try.prog 3 #[.agg (gn.whl a.1 a.2.1 a.2.2.1 a.2.2.2)] w fun e w' => e = .returned (.bool true) ∧ Below w.heap.size w w' := by
  obtain ⟨o, s, st, f⟩ := a
  by_cases hl : o.length ≤ 500 ∧ s.length ≤ 500
  · exact gn.whole_long w o s hl.1 hl.2 st h.1 f h.2
  · exact gn.whole_short w o s (by omega) st h.1 f

set_option maxRecDepth 100000 in
theorem lifted (os : Os) (started : os.Started) (H : Type) (enc : TypeId × Value → H) :
    ReturnsInHanded {} Try.checked os 3 .any (Rows.snapWholeSpec.pre6 enc Try.prog Try.f3 Rows.snapWholeRow.domain false) (Rows.snapWholeSpec.post enc Try.prog Try.f3 false true false false) := by
  refine returnsInHanded_of_change (C := Try.checked) own started (by kernel_rfl) Try.func3
    (ChangeSpec.witness6 (enc := enc) (C := Try.checked) false ⟨#[], #[.agg #[.string ByteArray.empty, .string ByteArray.empty, .int .u8 0, .int .i64 0, .int .u64 0, .int .i64 0]], []⟩ 8 (by kernel_rfl) (by kernel_rfl) (by kernel_rfl) (by kernel_rfl)) ?_
  intro W base args ds gs before hval0 hW hcnd _
  have hval : ∀ (j : Nat) t v, Try.f3.params[j]? = some t → args[j]? = some v → Value.okWide Try.prog W .any base t v := hval0
  have hW' := hW
  obtain ⟨p, q, hA0, hV, rfl, hfz, hnd⟩ := hW
  have hA : DataW.TrodAll enc Try.prog W 0 (fun _ => true) true Try.f3.params.toList args.toList ds p := hA0
  rw [Try.params3] at hA hval
  obtain ⟨v0, vs0, d0, ds0, p0, q0, hargs, rfl, rfl, h0, r0⟩ := trodAll_cons hA
  obtain ⟨rfl, rfl, rfl⟩ := trodAll_nil r0
  obtain rfl : args = #[v0] := by cases args; simp_all
  obtain ⟨rfl, rfl⟩ := trodVars_none hV
  have lt0 : ∀ x ∈ p0, x.block < W.heap.size := by obtain ⟨m, hm⟩ := h0; exact DataW.trod_lt m _ _ _ hm
  have k0 := h0
  obtain ⟨a0, rfl, w0⟩ := open_whole (hval 0 26 v0 rfl rfl) h0
  clear hA0 hval0
  refine (walk a0 w0 W).mono fun e W' ⟨he, bel⟩ => ?_
  subst he
  exact ⟨_, rfl, _, _, _, [], _, [], hW', trodAll_mk1 (shut_bool Try.underlying4 _), (trodAll_cons_mk (Below.trod laidOut (by kernel_rfl) (of_decide_eq_true (by kernel_rfl)) k0 bel lt0) trodAll_mk0), rfl, bel.frame _, fun h => by cases h⟩

theorem over : Rows.snapWholeRow.holds Try.pinned (OpenSpec.ofChange Rows.snapWholeSpec) :=
  OpenClaim.holds_of_wide 3 Try.f3 rfl rfl rfl rfl rfl rfl rfl ⟨rfl, rfl, rfl, rfl, rfl⟩ rfl rfl rfl rfl rfl (by kernel_rfl) Try.func3 (by kernel_rfl)
    (of_decide_eq_true (by kernel_rfl)) (by unfold Func.isWrapper; first | (rw [if_pos (by decide +kernel)]; kernel_rfl) | (rw [if_neg (by decide +kernel)]; exact ⟨rfl, rfl⟩))
    (fun os started H enc _ => lifted os started H enc)

theorem proved : Rows.SnapWholeSaid :=
  over
end Go.Proofs.Ytpbgckpjgfjmgaa.snapWhole
