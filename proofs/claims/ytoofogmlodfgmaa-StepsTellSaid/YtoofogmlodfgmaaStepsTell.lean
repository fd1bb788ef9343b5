/- For every input StepsTell returns true, and its arguments are as they were. No condition. -/
import Derived.Test.YtoofogmlodfgmaaStD8
import Derived.Test.YtoofogmlodfgmaaStR
import Derived.WalkKit
import Derived.ProofKit
import Derived.OpenShut
namespace Go.Proofs.Ytoofogmlodfgmaa.stepsTell
open Go.ChangeShapes Go.WideShapes Go.ChangeAt Go.RowKit Go.Joins
set_option linter.unusedVariables false

theorem own : ownKnob Try.prog.godebug = none := by kernel_rfl
theorem laidOut : laidOutB Try.prog = true := by kernel_rfl

set_option maxRecDepth 100000 in
theorem early (v1 v2 y1 y2 : Value) (a1 a2 b1 b2 : Option Addr) (n1 n2 c1 c2 m1 m2 d1 d2 : Nat) (at_ m at2 mm : List Int) (lo hi n : Int) (w : World) (e1 : v1 = .slice a1 n1 c1) (e2 : v2 = .slice a2 n2 c2) (e3 : y1 = .slice b1 m1 d1) (e4 : y2 = .slice b2 m2 d2)
    (hP : gn.Prof w (.agg #[v1, v2]) at_ m) (hU : gn.Prof w (.agg #[y1, y2]) at2 mm) (h : 60 < n1 ∨ 60 < n2) :
    Calls Try.prog 3 #[.agg #[v1, v2], .agg #[y1, y2], .agg #[.int .i64 lo, .int .i64 hi, .int .i64 n]] w (gn.Yes w) := by
  have HZ0 := Lib.hid (gn.Tl.start w lo hi n hP hU)
  subst e1 e2 e3 e4
  have HG := Lib.hid fun W => gn.great_yes a1 a2 n1 n2 c1 c2 h W
  clear h hP hU
  go_enter Try.func3, Try.ntmps3
  go_wp2_with fail
  refine (HG.out _).mono ?_
  rintro e w1 ⟨rfl, hb⟩
  have HZ1 := Lib.hid (HZ0.out.next hb)
  clear hb
  go_wp2_with fail
  refine (gn.head_any _).mono ?_
  rintro e w2 ⟨rfl, hb⟩
  have HZ2 := Lib.hid (HZ1.out.next hb)
  clear hb
  go_wp2
  go_ret
  exact ⟨rfl, HZ2.out.hB⟩
set_option maxRecDepth 100000 in
theorem early2 (v1 v2 y1 y2 : Value) (a1 a2 b1 b2 : Option Addr) (n1 n2 c1 c2 m1 m2 d1 d2 : Nat) (at_ m at2 mm : List Int) (lo hi n : Int) (w : World) (e1 : v1 = .slice a1 n1 c1) (e2 : v2 = .slice a2 n2 c2) (e3 : y1 = .slice b1 m1 d1) (e4 : y2 = .slice b2 m2 d2)
    (hP : gn.Prof w (.agg #[v1, v2]) at_ m) (hU : gn.Prof w (.agg #[y1, y2]) at2 mm) (h1 : n1 ≤ 60) (h2 : n2 ≤ 60) (h : 60 < m1 ∨ 60 < m2) :
    Calls Try.prog 3 #[.agg #[v1, v2], .agg #[y1, y2], .agg #[.int .i64 lo, .int .i64 hi, .int .i64 n]] w (gn.Yes w) := by
  have HZ0 := Lib.hid (gn.Tl.start w lo hi n hP hU)
  subst e1 e2 e3 e4
  have HG1 := Lib.hid fun W => gn.great_no a1 a2 n1 n2 c1 c2 h1 h2 W
  have HG := Lib.hid fun W => gn.great_yes b1 b2 m1 m2 d1 d2 h W
  clear h h1 h2 hP hU
  go_enter Try.func3, Try.ntmps3
  go_wp2_with fail
  refine (HG1.out _).mono ?_
  rintro e w1 ⟨rfl, hb⟩
  have Z1 := HZ0.out.next hb
  have u0 := Z1.bU.cell0
  have u1 := Z1.bU.cell1
  have HZ1 := Lib.hid Z1
  clear hb Z1
  go_wp2_with fail
  refine (HG.out _).mono ?_
  rintro e w2 ⟨rfl, hb⟩
  have HZ2 := Lib.hid (HZ1.out.next hb)
  clear hb
  go_wp2_with fail
  refine (gn.head_any _).mono ?_
  rintro e w3 ⟨rfl, hb⟩
  have HZ3 := Lib.hid (HZ2.out.next hb)
  clear hb
  go_wp2
  go_ret
  exact ⟨rfl, HZ3.out.hB⟩
theorem walk (v1 v2 y1 y2 : Value) (l1 l2 k1 k2 : List Int) (lo hi n : Int) (w : World) (hP : gn.Prof w (.agg #[v1, v2]) l1 l2) (hU : gn.Prof w (.agg #[y1, y2]) k1 k2) :
    Calls Try.prog 3 #[.agg #[v1, v2], .agg #[y1, y2], .agg #[.int .i64 lo, .int .i64 hi, .int .i64 n]] w fun e w' => e = .returned (.bool true) ∧ Below w.heap.size w w' := by
  have hP0 := hP
  have hU0 := hU
  obtain ⟨x1, x2, hx, ⟨_, a1, c1, rfl, _, _⟩, ⟨_, a2, c2, rfl, _, _⟩⟩ := hP0
  obtain ⟨rfl, rfl⟩ : v1 = _ ∧ v2 = _ := by simpa using hx
  obtain ⟨x1, x2, hx, ⟨_, b1, d1, rfl, _, _⟩, ⟨_, b2, d2, rfl, _, _⟩⟩ := hU0
  obtain ⟨rfl, rfl⟩ : y1 = _ ∧ y2 = _ := by simpa using hx
  by_cases h : 60 < l1.length ∨ 60 < l2.length
  · exact early _ _ _ _ a1 a2 b1 b2 _ _ c1 c2 _ _ d1 d2 l1 l2 k1 k2 lo hi n w rfl rfl rfl rfl hP hU h
  · by_cases h' : 60 < k1.length ∨ 60 < k2.length
    · exact early2 _ _ _ _ a1 a2 b1 b2 _ _ c1 c2 _ _ d1 d2 l1 l2 k1 k2 lo hi n w rfl rfl rfl rfl hP hU (by omega) (by omega) h'
    · exact gn.tell_law _ _ _ _ a1 a2 b1 b2 _ _ c1 c2 _ _ d1 d2 l1 l2 k1 k2 lo hi n w rfl rfl rfl rfl hP hU (by omega) (by omega) (by omega) (by omega) rfl rfl

set_option maxRecDepth 100000 in
theorem lifted (os : Os) (started : os.Started) (H : Type) (enc : TypeId × Value → H) :
    ReturnsInHanded {} Try.checked os 3 .any (Rows.stepsTellSpec.pre6 enc Try.prog Try.f3 Rows.stepsTellRow.domain false) (Rows.stepsTellSpec.post enc Try.prog Try.f3 false true false false) := by
  refine returnsInHanded_of_change (C := Try.checked) own started (by kernel_rfl) Try.func3
    (ChangeSpec.witness6 (enc := enc) (C := Try.checked) false ⟨#[], #[.agg #[.slice none 0 0, .slice none 0 0], .agg #[.slice none 0 0, .slice none 0 0], .agg #[.int .i64 0, .int .i64 0, .int .i64 0]], []⟩ 8 (by kernel_rfl) (by kernel_rfl) (by kernel_rfl) (by kernel_rfl)) ?_
  intro W base args ds gs before hval0 hW hcnd _
  have hval : ∀ (j : Nat) t v, Try.f3.params[j]? = some t → args[j]? = some v → Value.okWide Try.prog W .any base t v := hval0
  have hW' := hW
  obtain ⟨p, q, hA0, hV, rfl, hfz, hnd⟩ := hW
  have hA : DataW.TrodAll enc Try.prog W 0 (fun _ => true) true Try.f3.params.toList args.toList ds p := hA0
  rw [Try.params3] at hA hval
  obtain ⟨v0, vs0, d0, ds0, p0, q0, hargs, rfl, rfl, h0, r0⟩ := trodAll_cons hA
  obtain ⟨v1, vs1, d1, ds1, p1, q1, rfl, rfl, rfl, h1, r1⟩ := trodAll_cons r0
  obtain ⟨v2, vs2, d2, ds2, p2, q2, rfl, rfl, rfl, h2, r2⟩ := trodAll_cons r1
  obtain ⟨rfl, rfl, rfl⟩ := trodAll_nil r2
  obtain rfl : args = #[v0, v1, v2] := by cases args; simp_all
  obtain ⟨rfl, rfl⟩ := trodVars_none hV
  have lt0 : ∀ x ∈ p0, x.block < W.heap.size := by obtain ⟨m, hm⟩ := h0; exact DataW.trod_lt m _ _ _ hm
  have lt1 : ∀ x ∈ p1, x.block < W.heap.size := by obtain ⟨m, hm⟩ := h1; exact DataW.trod_lt m _ _ _ hm
  have lt2 : ∀ x ∈ p2, x.block < W.heap.size := by obtain ⟨m, hm⟩ := h2; exact DataW.trod_lt m _ _ _ hm
  have k0 := h0
  have k1 := h1
  have k2 := h2
  obtain ⟨s1, s2, y1, y2, m0, rfl, _, _, t1, t2⟩ := open_agg2 Try.underlying24 (by kernel_rfl) (by kernel_rfl) (hval 0 24 v0 rfl rfl) h0
  obtain ⟨s3, s4, y3, y4, m2, rfl, _, _, t3, t4⟩ := open_agg2 Try.underlying24 (by kernel_rfl) (by kernel_rfl) (hval 1 24 v1 rfl rfl) h1
  obtain ⟨u0, u1, u2, z0, z1, z2, m1, rfl, _, _, e0, e1, e2⟩ := open_agg3 Try.underlying26 (by kernel_rfl) (by kernel_rfl) (hval 2 26 v2 rfl rfl) h2
  obtain ⟨l3, i3⟩ := gn.open_row t3
  obtain ⟨l4, i4⟩ := gn.open_row t4
  obtain ⟨l1, i1⟩ := gn.open_row t1
  obtain ⟨l2, i2⟩ := gn.open_row t2
  obtain ⟨lo, g0, _, _⟩ := DataW.trod_int Try.underlying2 e0
  obtain ⟨hi, g1, _, _⟩ := DataW.trod_int Try.underlying2 e1
  obtain ⟨n, g2, _, _⟩ := DataW.trod_int Try.underlying2 e2
  simp at g0 g1 g2
  subst g0 g1 g2
  clear hA0 hval0
  refine (walk s1 s2 s3 s4 l1 l2 l3 l4 lo hi n W ⟨s1, s2, rfl, i1, i2⟩ ⟨s3, s4, rfl, i3, i4⟩).mono fun e W' ⟨he, bel⟩ => ?_
  subst he
  exact ⟨_, rfl, _, _, _, [], _, [], hW', trodAll_mk1 (shut_bool Try.underlying4 _), (trodAll_cons_mk (Below.trod laidOut (by kernel_rfl) (of_decide_eq_true (by kernel_rfl)) k0 bel lt0) (trodAll_cons_mk (Below.trod laidOut (by kernel_rfl) (of_decide_eq_true (by kernel_rfl)) k1 bel lt1) (trodAll_cons_mk (Below.trod laidOut (by kernel_rfl) (of_decide_eq_true (by kernel_rfl)) k2 bel lt2) trodAll_mk0))), rfl, bel.frame _, fun h => by cases h⟩

theorem over : Rows.stepsTellRow.holds Try.pinned (OpenSpec.ofChange Rows.stepsTellSpec) :=
  OpenClaim.holds_of_wide 3 Try.f3 rfl rfl rfl rfl rfl rfl rfl ⟨rfl, rfl, rfl, rfl, rfl⟩ rfl rfl rfl rfl rfl (by kernel_rfl) Try.func3 (by kernel_rfl)
    (of_decide_eq_true (by kernel_rfl)) (by unfold Func.isWrapper; first | (rw [if_pos (by decide +kernel)]; kernel_rfl) | (rw [if_neg (by decide +kernel)]; exact ⟨rfl, rfl⟩))
    (fun os started H enc _ => lifted os started H enc)

theorem proved : Rows.StepsTellSaid :=
  over
end Go.Proofs.Ytoofogmlodfgmaa.stepsTell
