/- For every input StepsBack returns true, and its arguments are as they were. No condition. -/
import Derived.Test.YtoofogmlodfgmaaStL7
import Derived.Test.YtoofogmlodfgmaaStR
import Derived.WalkKit
import Derived.ProofKit
import Derived.OpenShut
import Derived.Deep.Strs
namespace Go.Proofs.Ytoofogmlodfgmaa.stepsBack
open Go.ChangeShapes Go.WideShapes Go.ChangeAt Go.RowKit Go.Joins
set_option linter.unusedVariables false

theorem own : ownKnob Try.prog.godebug = none := by kernel_rfl
theorem laidOut : laidOutB Try.prog = true := by kernel_rfl

theorem array9 {α : Type} {cs : Array α} (h : cs.size = 9) : ∃ c0 c1 c2 c3 c4 c5 c6 c7 c8, cs = #[c0, c1, c2, c3, c4, c5, c6, c7, c8] := by
  obtain ⟨l⟩ := cs
  match l, h with
  | [c0, c1, c2, c3, c4, c5, c6, c7, c8], _ => exact ⟨c0, c1, c2, c3, c4, c5, c6, c7, c8, rfl⟩
theorem open_i64 {H : Type} {enc : TypeId × Value → H} {W : World} {fuel : Nat} {v : Value} {x : DataW H × List MemPlace}
    (h : DataW.trod enc Try.prog W 0 (fun _ => true) true fuel 2 [v] = some x) : ∃ n : Int, v = .int .i64 n := by
  obtain ⟨k, hk, _, _⟩ := DataW.trod_int Try.underlying2 h
  simp at hk
  exact ⟨k, hk⟩
theorem open_win {H : Type} {enc : TypeId × Value → H} {W : World} {fuel : Nat} {a b c : Value} {x : DataW H × List MemPlace}
    (h : DataW.trod enc Try.prog W 0 (fun _ => true) true fuel 26 [a, b, c] = some x) : ∃ l m n : Int, a = .int .i64 l ∧ b = .int .i64 m ∧ c = .int .i64 n := by
  obtain ⟨z0, z1, z2, m, _, _, k0, k1, k2⟩ := Go.Deep.trod_struct3 Try.underlying26 h
  have e : Try.prog.cellsOf 2 = 1 := by kernel_rfl
  have k0 : DataW.trod enc Try.prog W 0 (fun _ => true) true m 2 [a] = some z0 := by simpa [e] using k0
  have k1 : DataW.trod enc Try.prog W 0 (fun _ => true) true m 2 [b] = some z1 := by simpa [e] using k1
  have k2 : DataW.trod enc Try.prog W 0 (fun _ => true) true m 2 [c] = some z2 := by simpa [e] using k2
  obtain ⟨l, rfl⟩ := open_i64 k0
  obtain ⟨n, rfl⟩ := open_i64 k1
  obtain ⟨o, rfl⟩ := open_i64 k2
  exact ⟨l, n, o, rfl, rfl, rfl⟩
theorem open_backs {H : Type} {enc : TypeId × Value → H} {W : World} {v : Value} {d : DataW H} {p : List MemPlace}
    (hv : Value.okWide Try.prog W .any 0 44 v) (h : DataW.Trod enc Try.prog W 0 (fun _ => true) true 44 v d p) :
    ∃ (v1 v2 : Value) (l1 l2 : List Int) (lo hi n lo' hi' n' t : Int), v = .agg #[v1, v2, .int .i64 lo, .int .i64 hi, .int .i64 n, .int .i64 lo', .int .i64 hi', .int .i64 n', .int .i64 t] ∧ gn.Ints W v1 l1 ∧ gn.Ints W v2 l2 := by
  obtain ⟨cs, rfl, hsz⟩ := okWide_struct Try.underlying44 hv
  obtain ⟨c0, c1, c2, c3, c4, c5, c6, c7, c8, rfl⟩ := array9 (hsz.trans (by kernel_rfl))
  obtain ⟨fuel, hf⟩ := h
  obtain ⟨y0, y1, y2, y3, n, _, _, h0, h1, h2, h3⟩ := trod_struct4 Try.underlying44 hf
  have e0 : Try.prog.cellsOf 24 = 2 := by kernel_rfl
  have e1 : Try.prog.cellsOf 26 = 3 := by kernel_rfl
  have e2 : Try.prog.cellsOf 22 = 1 := by kernel_rfl
  have e3 : Try.prog.cellsOf 2 = 1 := by kernel_rfl
  have h0 : DataW.trod enc Try.prog W 0 (fun _ => true) true n 24 [c0, c1] = some y0 := by simpa [Value.cells, e0] using h0
  have h1 : DataW.trod enc Try.prog W 0 (fun _ => true) true n 26 [c2, c3, c4] = some y1 := by simpa [Value.cells, e0, e1] using h1
  have h2 : DataW.trod enc Try.prog W 0 (fun _ => true) true n 26 [c5, c6, c7] = some y2 := by simpa [Value.cells, e0, e1] using h2
  have h3 : DataW.trod enc Try.prog W 0 (fun _ => true) true n 2 [c8] = some y3 := by simpa [Value.cells, e0, e1, e3] using h3
  obtain ⟨z0, z1, m, _, _, k0, k1⟩ := trod_struct2 Try.underlying24 h0
  have k0 : DataW.trod enc Try.prog W 0 (fun _ => true) true m 22 [c0] = some z0 := by simpa [e2] using k0
  have k1 : DataW.trod enc Try.prog W 0 (fun _ => true) true m 22 [c1] = some z1 := by simpa [e2] using k1
  obtain ⟨l1, i1⟩ := gn.open_row k0
  obtain ⟨l2, i2⟩ := gn.open_row k1
  obtain ⟨lo, hi, n, rfl, rfl, rfl⟩ := open_win h1
  obtain ⟨lo', hi', n', rfl, rfl, rfl⟩ := open_win h2
  obtain ⟨t, rfl⟩ := open_i64 h3
  exact ⟨c0, c1, l1, l2, lo, hi, n, lo', hi', n', t, rfl, i1, i2⟩

theorem walk (v1 v2 : Value) (l1 l2 : List Int) (lo hi n lo' hi' n' t : Int) (w : World) (hP : gn.Prof w (.agg #[v1, v2]) l1 l2) :
    Calls Try.prog 4 #[.agg #[v1, v2, .int .i64 lo, .int .i64 hi, .int .i64 n, .int .i64 lo', .int .i64 hi', .int .i64 n', .int .i64 t]] w fun e w' => e = .returned (.bool true) ∧ Below w.heap.size w w' := by
  have hP0 := hP
  obtain ⟨x1, x2, hx, ⟨_, a1, c1, rfl, _, _⟩, ⟨_, a2, c2, rfl, _, _⟩⟩ := hP0
  obtain ⟨rfl, rfl⟩ : v1 = _ ∧ v2 = _ := by simpa using hx
  exact gn.back_law _ _ a1 a2 _ _ c1 c2 l1 l2 lo hi n lo' hi' n' t w rfl rfl hP rfl rfl

set_option maxRecDepth 100000 in
theorem lifted (os : Os) (started : os.Started) (H : Type) (enc : TypeId × Value → H) :
    ReturnsInHanded {} Try.checked os 4 .any (Rows.stepsBackSpec.pre6 enc Try.prog Try.f4 Rows.stepsBackRow.domain false) (Rows.stepsBackSpec.post enc Try.prog Try.f4 false true false false) := by
  refine returnsInHanded_of_change (C := Try.checked) own started (by kernel_rfl) Try.func4
    (ChangeSpec.witness6 (enc := enc) (C := Try.checked) false ⟨#[], #[.agg #[.slice none 0 0, .slice none 0 0, .int .i64 0, .int .i64 0, .int .i64 0, .int .i64 0, .int .i64 0, .int .i64 0, .int .i64 0]], []⟩ 8 (by kernel_rfl) (by kernel_rfl) (by kernel_rfl) (by kernel_rfl)) ?_
  intro W base args ds gs before hval0 hW hcnd _
  have hval : ∀ (j : Nat) t v, Try.f4.params[j]? = some t → args[j]? = some v → Value.okWide Try.prog W .any base t v := hval0
  have hW' := hW
  obtain ⟨p, q, hA0, hV, rfl, hfz, hnd⟩ := hW
  have hA : DataW.TrodAll enc Try.prog W 0 (fun _ => true) true Try.f4.params.toList args.toList ds p := hA0
  rw [Try.params4] at hA hval
  obtain ⟨v0, vs0, d0, ds0, p0, q0, hargs, rfl, rfl, h0, r0⟩ := trodAll_cons hA
  obtain ⟨rfl, rfl, rfl⟩ := trodAll_nil r0
  obtain rfl : args = #[v0] := by cases args; simp_all
  obtain ⟨rfl, rfl⟩ := trodVars_none hV
  have lt0 : ∀ x ∈ p0, x.block < W.heap.size := by obtain ⟨m, hm⟩ := h0; exact DataW.trod_lt m _ _ _ hm
  have k0 := h0
  obtain ⟨v1, v2, l1, l2, lo, hi, n, lo', hi', n', t, rfl, i1, i2⟩ := open_backs (hval 0 44 v0 rfl rfl) h0
  clear hA0 hval0
  refine (walk v1 v2 l1 l2 lo hi n lo' hi' n' t W ⟨v1, v2, rfl, i1, i2⟩).mono fun e W' ⟨he, bel⟩ => ?_
  subst he
  exact ⟨_, rfl, _, _, _, [], _, [], hW', trodAll_mk1 (shut_bool Try.underlying4 _), (trodAll_cons_mk (Below.trod laidOut (by kernel_rfl) (of_decide_eq_true (by kernel_rfl)) k0 bel lt0) trodAll_mk0), rfl, bel.frame _, fun h => by cases h⟩

theorem over : Rows.stepsBackRow.holds Try.pinned (OpenSpec.ofChange Rows.stepsBackSpec) :=
  OpenClaim.holds_of_wide 4 Try.f4 rfl rfl rfl rfl rfl rfl rfl ⟨rfl, rfl, rfl, rfl, rfl⟩ rfl rfl rfl rfl rfl (by kernel_rfl) Try.func4 (by kernel_rfl)
    (of_decide_eq_true (by kernel_rfl)) (by unfold Func.isWrapper; first | (rw [if_pos (by decide +kernel)]; kernel_rfl) | (rw [if_neg (by decide +kernel)]; exact ⟨rfl, rfl⟩))
    (fun os started H enc _ => lifted os started H enc)

theorem proved : Rows.StepsBackSaid :=
  over
end Go.Proofs.Ytoofogmlodfgmaa.stepsBack
