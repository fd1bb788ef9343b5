/- For every input FrameTurned returns true, and its arguments are as they were. No condition. -/
import Derived.Test.YthffeaknfiabjaaFrL3
import Derived.WalkKit
import Derived.ProofKit
import Derived.OpenShut
import Derived.Lib.SmallJoins
namespace Go.Proofs.Ythffeaknfiabjaa.frameTurned
open Go.ChangeShapes Go.WideShapes Go.ChangeAt Go.RowKit Go.Joins
open Go.ChangeMaps (open_string shut_string)
set_option linter.unusedVariables false

theorem own : ownKnob Try.prog.godebug = none := by kernel_rfl
theorem laidOut : laidOutB Try.prog = true := by kernel_rfl

theorem walk (A : Option Addr) (n cp : Nat) (wh a b : Int) (L : List (List UInt8)) (w : World) (hL : gn.Strs w (.slice A n cp) L) (h1 : (Lit.int .u8 wh).wf = true) (h2 : (Lit.int .u16 a).wf = true) (h3 : (Lit.int .u64 b).wf = true) :
    Calls Try.prog 5 #[.agg #[.slice A n cp, .int .u8 wh, .int .u16 a, .int .u64 b]] w fun e w' => e = .returned (.bool true) ∧ Below w.heap.size w w' := by
  obtain ⟨p1, q1⟩ : 0 ≤ wh ∧ wh ≤ 255 := by simpa [Lit.wf, IntKind.min, IntKind.max, IntKind.signed, IntKind.bits] using h1
  obtain ⟨p2, q2⟩ : 0 ≤ a ∧ a ≤ 65535 := by simpa [Lit.wf, IntKind.min, IntKind.max, IntKind.signed, IntKind.bits] using h2
  obtain ⟨p3, q3⟩ : 0 ≤ b ∧ b ≤ 18446744073709551615 := by simpa [Lit.wf, IntKind.min, IntKind.max, IntKind.signed, IntKind.bits] using h3
  obtain ⟨e, rfl⟩ := Int.eq_ofNat_of_zero_le p3
  by_cases hs : gn.Small L
  · obtain ⟨hnl, _⟩ := hL.len
    by_cases hn : n = 0
    · exact gn.turned_short A n cp wh a e L w hL hs (.inl hn)
    · by_cases he : e = 0
      · exact gn.turned_short A n cp wh a e L w hL hs (.inr ⟨hn, by have := hs.1; omega, he⟩)
      · exact gn.turned_main A n cp wh a e L w hL hs hn (by omega) he p1 (by omega) p2 (by omega)
  · exact gn.turned_great A n cp wh a e L w hL hs

set_option maxRecDepth 100000 in
theorem lifted (os : Os) (started : os.Started) (H : Type) (enc : TypeId × Value → H) :
    ReturnsInHanded {} Try.checked os 5 .any (Rows.frameTurnedSpec.pre6 enc Try.prog Try.f5 Rows.frameTurnedRow.domain false) (Rows.frameTurnedSpec.post enc Try.prog Try.f5 false true false false) := by
  refine returnsInHanded_of_change (C := Try.checked) own started (by kernel_rfl) Try.func5
    (ChangeSpec.witness6 (enc := enc) (C := Try.checked) false ⟨#[], #[.agg #[.slice none 0 0, .int .u8 0, .int .u16 0, .int .u64 0]], []⟩ 8 (by kernel_rfl) (by kernel_rfl) (by kernel_rfl) (by kernel_rfl)) ?_
  intro W base args ds gs before hval0 hW hcnd _
  have hval : ∀ (j : Nat) t v, Try.f5.params[j]? = some t → args[j]? = some v → Value.okWide Try.prog W .any base t v := hval0
  have hW' := hW
  obtain ⟨p, q, hA0, hV, rfl, hfz, hnd⟩ := hW
  have hA : DataW.TrodAll enc Try.prog W 0 (fun _ => true) true Try.f5.params.toList args.toList ds p := hA0
  rw [Try.params5] at hA hval
  obtain ⟨v0, vs0, d0, ds0, p0, q0, hargs, rfl, rfl, h0, r0⟩ := trodAll_cons hA
  obtain ⟨rfl, rfl, rfl⟩ := trodAll_nil r0
  obtain rfl : args = #[v0] := by cases args; simp_all
  obtain ⟨rfl, rfl⟩ := trodVars_none hV
  have lt0 : ∀ x ∈ p0, x.block < W.heap.size := by obtain ⟨m, hm⟩ := h0; exact DataW.trod_lt m _ _ _ hm
  have k0 := h0
  have hv0 := hval 0 39 v0 rfl rfl
  obtain ⟨u0, u1, u2, u3, z0, z1, z2, z3, m4, rfl, _, _, e0, e1, e2, e3⟩ := open_agg4 Try.underlying39 (by kernel_rfl) (by kernel_rfl) hv0 h0
  obtain ⟨wh, g1, _, w1⟩ := DataW.trod_int Try.underlying5 e1
  obtain ⟨a, g2, _, w2⟩ := DataW.trod_int Try.underlying35 e2
  obtain ⟨b, g3, _, w3⟩ := DataW.trod_int Try.underlying37 e3
  simp at g1 g2 g3
  subst g1 g2 g3
  obtain ⟨L, hL⟩ : ∃ L, gn.Strs W u0 L := gn.open_strs1 (enc := enc) e0
  obtain ⟨b0, n0, c0, rfl⟩ : ∃ b0 n0 c0, u0 = .slice b0 n0 c0 := by obtain ⟨A, c, h, _⟩ := hL; exact ⟨_, _, _, h⟩
  clear hA0 hval0
  refine (walk b0 n0 c0 wh a b L W hL w1 w2 w3).mono fun e W' ⟨he, bel⟩ => ?_
  subst he
  exact ⟨_, rfl, _, _, _, [], _, [], hW', trodAll_mk1 (shut_bool Try.underlying4 _), (trodAll_cons_mk (Below.trod laidOut (by kernel_rfl) (of_decide_eq_true (by kernel_rfl)) k0 bel lt0) trodAll_mk0), rfl, bel.frame _, fun h => by cases h⟩

theorem over : Rows.frameTurnedRow.holds Try.pinned (OpenSpec.ofChange Rows.frameTurnedSpec) :=
  OpenClaim.holds_of_wide 5 Try.f5 rfl rfl rfl rfl rfl rfl rfl ⟨rfl, rfl, rfl, rfl, rfl⟩ rfl rfl rfl rfl rfl (by kernel_rfl) Try.func5 (by kernel_rfl)
    (of_decide_eq_true (by kernel_rfl)) (by unfold Func.isWrapper; first | (rw [if_pos (by decide +kernel)]; kernel_rfl) | (rw [if_neg (by decide +kernel)]; exact ⟨rfl, rfl⟩))
    (fun os started H enc _ => lifted os started H enc)

theorem proved : Rows.FrameTurnedSaid :=
  over
end Go.Proofs.Ythffeaknfiabjaa.frameTurned
