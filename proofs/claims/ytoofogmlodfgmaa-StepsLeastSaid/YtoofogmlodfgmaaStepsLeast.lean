/- For every input StepsLeast returns true, and its arguments are as they were. No condition. -/
import Derived.Test.YtoofogmlodfgmaaStL4
import Derived.Test.YtoofogmlodfgmaaStR
import Derived.WalkKit
import Derived.ProofKit
import Derived.OpenShut
namespace Go.Proofs.Ytoofogmlodfgmaa.stepsLeast
open Go.ChangeShapes Go.WideShapes Go.ChangeAt Go.RowKit Go.Joins
set_option linter.unusedVariables false

theorem own : ownKnob Try.prog.godebug = none := by kernel_rfl
theorem laidOut : laidOutB Try.prog = true := by kernel_rfl

theorem array5 {α : Type} {cs : Array α} (h : cs.size = 5) : ∃ c0 c1 c2 c3 c4, cs = #[c0, c1, c2, c3, c4] := by
  obtain ⟨l⟩ := cs
  match l, h with
  | [c0, c1, c2, c3, c4], _ => exact ⟨c0, c1, c2, c3, c4, rfl⟩
theorem open_u8 {H : Type} {enc : TypeId × Value → H} {W : World} {fuel : Nat} {v : Value} {x : DataW H × List MemPlace}
    (h : DataW.trod enc Try.prog W 0 (fun _ => true) true fuel 5 [v] = some x) : ∃ n : Nat, v = .int .u8 (n : Int) ∧ n < 256 := by
  obtain ⟨k, hk, _, hw⟩ := DataW.trod_int Try.underlying5 h
  simp at hk
  subst hk
  have h2 : 0 ≤ k ∧ k ≤ 255 := by simpa [Lit.wf, IntKind.min, IntKind.max, IntKind.signed, IntKind.bits] using hw
  exact ⟨k.toNat, by rw [Int.toNat_of_nonneg h2.1], by omega⟩
theorem open_leasts {H : Type} {enc : TypeId × Value → H} {W : World} {v : Value} {d : DataW H} {p : List MemPlace}
    (hv : Value.okWide Try.prog W .any 0 49 v) (h : DataW.Trod enc Try.prog W 0 (fun _ => true) true 49 v d p) :
    ∃ (v1 v2 : Value) (l1 l2 : List Int) (a b c : Nat), v = .agg #[v1, v2, .int .u8 (a : Int), .int .u8 (b : Int), .int .u8 (c : Int)] ∧ gn.Ints W v1 l1 ∧ gn.Ints W v2 l2 ∧ a < 256 ∧ b < 256 ∧ c < 256 := by
  obtain ⟨cs, rfl, hsz⟩ := okWide_struct Try.underlying49 hv
  obtain ⟨c0, c1, c2, c3, c4, rfl⟩ := array5 (hsz.trans (by kernel_rfl))
  obtain ⟨fuel, hf⟩ := h
  obtain ⟨y0, y1, y2, y3, n, _, _, h0, h1, h2, h3⟩ := trod_struct4 Try.underlying49 hf
  have e0 : Try.prog.cellsOf 24 = 2 := by kernel_rfl
  have e1 : Try.prog.cellsOf 5 = 1 := by kernel_rfl
  have e2 : Try.prog.cellsOf 22 = 1 := by kernel_rfl
  have h0 : DataW.trod enc Try.prog W 0 (fun _ => true) true n 24 [c0, c1] = some y0 := by simpa [Value.cells, e0] using h0
  have h1 : DataW.trod enc Try.prog W 0 (fun _ => true) true n 5 [c2] = some y1 := by simpa [Value.cells, e1] using h1
  have h2 : DataW.trod enc Try.prog W 0 (fun _ => true) true n 5 [c3] = some y2 := by simpa [Value.cells, e1] using h2
  have h3 : DataW.trod enc Try.prog W 0 (fun _ => true) true n 5 [c4] = some y3 := by simpa [Value.cells, e1] using h3
  obtain ⟨z0, z1, m, _, _, k0, k1⟩ := trod_struct2 Try.underlying24 h0
  have k0 : DataW.trod enc Try.prog W 0 (fun _ => true) true m 22 [c0] = some z0 := by simpa [e2] using k0
  have k1 : DataW.trod enc Try.prog W 0 (fun _ => true) true m 22 [c1] = some z1 := by simpa [e2] using k1
  obtain ⟨l1, i1⟩ := gn.open_row k0
  obtain ⟨l2, i2⟩ := gn.open_row k1
  obtain ⟨a, rfl, ha⟩ := open_u8 h1
  obtain ⟨b, rfl, hb⟩ := open_u8 h2
  obtain ⟨c, rfl, hc⟩ := open_u8 h3
  exact ⟨c0, c1, l1, l2, a, b, c, rfl, i1, i2, ha, hb, hc⟩

theorem walk (v1 v2 : Value) (l1 l2 : List Int) (a b c : Nat) (w : World) (hP : gn.Prof w (.agg #[v1, v2]) l1 l2) (ha : a < 256) (hb : b < 256) (hc : c < 256) :
    Calls Try.prog 6 #[.agg #[v1, v2, .int .u8 (a : Int), .int .u8 (b : Int), .int .u8 (c : Int)]] w fun e w' => e = .returned (.bool true) ∧ Below w.heap.size w w' := by
  have hP0 := hP
  obtain ⟨x1, x2, hx, ⟨_, a1, c1, rfl, _, _⟩, ⟨_, a2, c2, rfl, _, _⟩⟩ := hP0
  obtain ⟨rfl, rfl⟩ : v1 = _ ∧ v2 = _ := by simpa using hx
  by_cases h : 60 < l1.length ∨ 60 < l2.length
  · exact gn.least_early _ _ a1 a2 _ _ c1 c2 l1 l2 a b c w rfl rfl hP h
  · by_cases hok : gn.OkP l1 l2
    · obtain ⟨L, hL, rfl, rfl⟩ := hok
      exact gn.least_law _ _ a1 a2 _ _ c1 c2 L a b c w rfl rfl hP (by omega) (by omega) hL ha hb hc
    · exact gn.least_bad _ _ a1 a2 _ _ c1 c2 l1 l2 a b c w rfl rfl hP (by omega) (by omega) hok

set_option maxRecDepth 100000 in
theorem lifted (os : Os) (started : os.Started) (H : Type) (enc : TypeId × Value → H) :
    ReturnsInHanded {} Try.checked os 6 .any (Rows.stepsLeastSpec.pre6 enc Try.prog Try.f6 Rows.stepsLeastRow.domain false) (Rows.stepsLeastSpec.post enc Try.prog Try.f6 false true false false) := by
  refine returnsInHanded_of_change (C := Try.checked) own started (by kernel_rfl) Try.func6
    (ChangeSpec.witness6 (enc := enc) (C := Try.checked) false ⟨#[], #[.agg #[.slice none 0 0, .slice none 0 0, .int .u8 0, .int .u8 0, .int .u8 0]], []⟩ 8 (by kernel_rfl) (by kernel_rfl) (by kernel_rfl) (by kernel_rfl)) ?_
  intro W base args ds gs before hval0 hW hcnd _
  have hval : ∀ (j : Nat) t v, Try.f6.params[j]? = some t → args[j]? = some v → Value.okWide Try.prog W .any base t v := hval0
  have hW' := hW
  obtain ⟨p, q, hA0, hV, rfl, hfz, hnd⟩ := hW
  have hA : DataW.TrodAll enc Try.prog W 0 (fun _ => true) true Try.f6.params.toList args.toList ds p := hA0
  rw [Try.params6] at hA hval
  obtain ⟨v0, vs0, d0, ds0, p0, q0, hargs, rfl, rfl, h0, r0⟩ := trodAll_cons hA
  obtain ⟨rfl, rfl, rfl⟩ := trodAll_nil r0
  obtain rfl : args = #[v0] := by cases args; simp_all
  obtain ⟨rfl, rfl⟩ := trodVars_none hV
  have lt0 : ∀ x ∈ p0, x.block < W.heap.size := by obtain ⟨m, hm⟩ := h0; exact DataW.trod_lt m _ _ _ hm
  have k0 := h0
  obtain ⟨v1, v2, l1, l2, a, b, c, rfl, i1, i2, ha, hb, hc⟩ := open_leasts (hval 0 49 v0 rfl rfl) h0
  clear hA0 hval0
  refine (walk v1 v2 l1 l2 a b c W ⟨v1, v2, rfl, i1, i2⟩ ha hb hc).mono fun e W' ⟨he, bel⟩ => ?_
  subst he
  exact ⟨_, rfl, _, _, _, [], _, [], hW', trodAll_mk1 (shut_bool Try.underlying4 _), (trodAll_cons_mk (Below.trod laidOut (by kernel_rfl) (of_decide_eq_true (by kernel_rfl)) k0 bel lt0) trodAll_mk0), rfl, bel.frame _, fun h => by cases h⟩

theorem over : Rows.stepsLeastRow.holds Try.pinned (OpenSpec.ofChange Rows.stepsLeastSpec) :=
  OpenClaim.holds_of_wide 6 Try.f6 rfl rfl rfl rfl rfl rfl rfl ⟨rfl, rfl, rfl, rfl, rfl⟩ rfl rfl rfl rfl rfl (by kernel_rfl) Try.func6 (by kernel_rfl)
    (of_decide_eq_true (by kernel_rfl)) (by unfold Func.isWrapper; first | (rw [if_pos (by decide +kernel)]; kernel_rfl) | (rw [if_neg (by decide +kernel)]; exact ⟨rfl, rfl⟩))
    (fun os started H enc _ => lifted os started H enc)

theorem proved : Rows.StepsLeastSaid :=
  over
end Go.Proofs.Ytoofogmlodfgmaa.stepsLeast
