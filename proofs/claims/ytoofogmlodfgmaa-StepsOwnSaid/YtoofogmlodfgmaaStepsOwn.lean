/- For every input StepsOwn returns true, and its arguments are as they were. No condition. -/
import Derived.Test.YtoofogmlodfgmaaStL9
import Derived.Test.YtoofogmlodfgmaaStR
import Derived.WalkKit
import Derived.ProofKit
import Derived.OpenShut
namespace Go.Proofs.Ytoofogmlodfgmaa.stepsOwn
open Go.ChangeShapes Go.WideShapes Go.ChangeAt Go.RowKit Go.Joins
set_option linter.unusedVariables false

theorem own : ownKnob Try.prog.godebug = none := by kernel_rfl
theorem laidOut : laidOutB Try.prog = true := by kernel_rfl

theorem early (v1 v2 : Value) (a1 a2 : Option Addr) (n1 n2 c1 c2 : Nat) (at_ m : List Int) (lo hi n : Int) (w : World) (e1 : v1 = .slice a1 n1 c1) (e2 : v2 = .slice a2 n2 c2) (hP : gn.Prof w (.agg #[v1, v2]) at_ m) (h : 60 < n1 ∨ 60 < n2) :
    Calls Try.prog 5 #[.agg #[v1, v2], .agg #[.int .i64 lo, .int .i64 hi, .int .i64 n]] w (gn.Yes w) := by
  have HS := Lib.hid (gn.St.start w lo hi n hP)
  subst e1 e2
  have HG := Lib.hid fun W => gn.great_yes a1 a2 n1 n2 c1 c2 h W
  clear h hP
  go_enter Try.func5, Try.ntmps5
  go_wp2_with fail
  refine (HG.out _).mono ?_
  rintro e w1 ⟨rfl, hb1⟩
  have HS1 := Lib.hid (HS.out.next hb1)
  clear hb1
  go_wp2_with fail
  refine (gn.head_any _).mono ?_
  rintro e w2 ⟨rfl, hb2⟩
  have HS2 := Lib.hid (HS1.out.next hb2)
  clear hb2
  go_wp2
  go_ret
  exact ⟨rfl, HS2.out.hB⟩
theorem walk (v1 v2 : Value) (l1 l2 : List Int) (lo hi n : Int) (w : World) (hP : gn.Prof w (.agg #[v1, v2]) l1 l2) :
    Calls Try.prog 5 #[.agg #[v1, v2], .agg #[.int .i64 lo, .int .i64 hi, .int .i64 n]] w fun e w' => e = .returned (.bool true) ∧ Below w.heap.size w w' := by
  have hP0 := hP
  obtain ⟨x1, x2, hx, ⟨_, a1, c1, rfl, _, _⟩, ⟨_, a2, c2, rfl, _, _⟩⟩ := hP0
  obtain ⟨rfl, rfl⟩ : v1 = _ ∧ v2 = _ := by simpa using hx
  by_cases h : 60 < l1.length ∨ 60 < l2.length
  · exact early _ _ a1 a2 _ _ c1 c2 l1 l2 lo hi n w rfl rfl hP h
  · exact gn.own_law _ _ a1 a2 _ _ c1 c2 l1 l2 lo hi n w rfl rfl hP (by omega) (by omega) rfl rfl

set_option maxRecDepth 100000 in
theorem lifted (os : Os) (started : os.Started) (H : Type) (enc : TypeId × Value → H) :
    ReturnsInHanded {} Try.checked os 5 .any (Rows.stepsOwnSpec.pre6 enc Try.prog Try.f5 Rows.stepsOwnRow.domain false) (Rows.stepsOwnSpec.post enc Try.prog Try.f5 false true false false) := by
  refine returnsInHanded_of_change (C := Try.checked) own started (by kernel_rfl) Try.func5
    (ChangeSpec.witness6 (enc := enc) (C := Try.checked) false ⟨#[], #[.agg #[.slice none 0 0, .slice none 0 0], .agg #[.int .i64 0, .int .i64 0, .int .i64 0]], []⟩ 8 (by kernel_rfl) (by kernel_rfl) (by kernel_rfl) (by kernel_rfl)) ?_
  intro W base args ds gs before hval0 hW hcnd _
  have hval : ∀ (j : Nat) t v, Try.f5.params[j]? = some t → args[j]? = some v → Value.okWide Try.prog W .any base t v := hval0
  have hW' := hW
  obtain ⟨p, q, hA0, hV, rfl, hfz, hnd⟩ := hW
  have hA : DataW.TrodAll enc Try.prog W 0 (fun _ => true) true Try.f5.params.toList args.toList ds p := hA0
  rw [Try.params5] at hA hval
  obtain ⟨v0, vs0, d0, ds0, p0, q0, hargs, rfl, rfl, h0, r0⟩ := trodAll_cons hA
  obtain ⟨v1, vs1, d1, ds1, p1, q1, rfl, rfl, rfl, h1, r1⟩ := trodAll_cons r0
  obtain ⟨rfl, rfl, rfl⟩ := trodAll_nil r1
  obtain rfl : args = #[v0, v1] := by cases args; simp_all
  obtain ⟨rfl, rfl⟩ := trodVars_none hV
  have lt0 : ∀ x ∈ p0, x.block < W.heap.size := by obtain ⟨m, hm⟩ := h0; exact DataW.trod_lt m _ _ _ hm
  have lt1 : ∀ x ∈ p1, x.block < W.heap.size := by obtain ⟨m, hm⟩ := h1; exact DataW.trod_lt m _ _ _ hm
  have k0 := h0
  have k1 := h1
  obtain ⟨s1, s2, y1, y2, m0, rfl, _, _, t1, t2⟩ := open_agg2 Try.underlying24 (by kernel_rfl) (by kernel_rfl) (hval 0 24 v0 rfl rfl) h0
  obtain ⟨u0, u1, u2, z0, z1, z2, m1, rfl, _, _, e0, e1, e2⟩ := open_agg3 Try.underlying26 (by kernel_rfl) (by kernel_rfl) (hval 1 26 v1 rfl rfl) h1
  obtain ⟨l1, i1⟩ := gn.open_row t1
  obtain ⟨l2, i2⟩ := gn.open_row t2
  obtain ⟨lo, g0, _, _⟩ := DataW.trod_int Try.underlying2 e0
  obtain ⟨hi, g1, _, _⟩ := DataW.trod_int Try.underlying2 e1
  obtain ⟨n, g2, _, _⟩ := DataW.trod_int Try.underlying2 e2
  simp at g0 g1 g2
  subst g0 g1 g2
  clear hA0 hval0
  refine (walk s1 s2 l1 l2 lo hi n W ⟨s1, s2, rfl, i1, i2⟩).mono fun e W' ⟨he, bel⟩ => ?_
  subst he
  exact ⟨_, rfl, _, _, _, [], _, [], hW', trodAll_mk1 (shut_bool Try.underlying4 _), (trodAll_cons_mk (Below.trod laidOut (by kernel_rfl) (of_decide_eq_true (by kernel_rfl)) k0 bel lt0) (trodAll_cons_mk (Below.trod laidOut (by kernel_rfl) (of_decide_eq_true (by kernel_rfl)) k1 bel lt1) trodAll_mk0)), rfl, bel.frame _, fun h => by cases h⟩

theorem over : Rows.stepsOwnRow.holds Try.pinned (OpenSpec.ofChange Rows.stepsOwnSpec) :=
  OpenClaim.holds_of_wide 5 Try.f5 rfl rfl rfl rfl rfl rfl rfl ⟨rfl, rfl, rfl, rfl, rfl⟩ rfl rfl rfl rfl rfl (by kernel_rfl) Try.func5 (by kernel_rfl)
    (of_decide_eq_true (by kernel_rfl)) (by unfold Func.isWrapper; first | (rw [if_pos (by decide +kernel)]; kernel_rfl) | (rw [if_neg (by decide +kernel)]; exact ⟨rfl, rfl⟩))
    (fun os started H enc _ => lifted os started H enc)

theorem proved : Rows.StepsOwnSaid :=
  over
end Go.Proofs.Ytoofogmlodfgmaa.stepsOwn
