/- For every input ShelfJunk returns true, and its arguments are as they were. No condition. -/
import Derived.Test.YtmaohncddjhgeaaGreatMShJ2
import Derived.WalkKit
import Derived.ProofKit
import Derived.OpenShut
section
namespace Go.Proofs.YtmaohncddjhgeaaGreat.shelfJunk
open Go.ChangeShapes Go.WideShapes Go.ChangeAt Go.RowKit
open Go.ChangeMaps (open_string shut_string)
set_option linter.unusedVariables false

theorem own : ownKnob Tryz.prog.godebug = none := by kernel_rfl
theorem laidOut : laidOutB Tryz.prog = true := by kernel_rfl

section
variable {H : Type} {enc : TypeId × Value → H} {W : World}
theorem array4' {α : Type} {cs : Array α} (h : cs.size = 4) : ∃ c0 c1 c2 c3, cs = #[c0, c1, c2, c3] := by
  obtain ⟨l⟩ := cs
  match l, h with
  | [c0, c1, c2, c3], _ => exact ⟨c0, c1, c2, c3, rfl⟩
theorem trod_struct4 {P : Program} {base : Nat} {spare : Nat → Bool} {held : Bool} {t : TypeId} {f0 f1 f2 f3 : Field} {fuel : Nat} {cs : List Value} {x : DataW H × List MemPlace} (ht : P.underlying t = some (.struct #[f0, f1, f2, f3])) (h : DataW.trod enc P W base spare held fuel t cs = some x) :
    ∃ y0 y1 y2 y3 n, DataW.trod enc P W base spare held n f0.type ((cs.drop f0.offset).take (P.cellsOf f0.type)) = some y0 ∧ DataW.trod enc P W base spare held n f1.type ((cs.drop f1.offset).take (P.cellsOf f1.type)) = some y1 ∧
      DataW.trod enc P W base spare held n f2.type ((cs.drop f2.offset).take (P.cellsOf f2.type)) = some y2 ∧ DataW.trod enc P W base spare held n f3.type ((cs.drop f3.offset).take (P.cellsOf f3.type)) = some y3 := by
  obtain ⟨xs, n, _, rfl, hl, hlen, hf⟩ := DataW.trod_struct ht h
  match xs, hlen with
  | [y0, y1, y2, y3], _ => exact ⟨y0, y1, y2, y3, n, by simpa using hf 0 f0 rfl, by simpa using hf 1 f1 rfl, by simpa using hf 2 f2 rfl, by simpa using hf 3 f3 rfl⟩
theorem eStr : Tryz.prog.cellsOf 9 = 1 := by kernel_rfl
theorem eBool : Tryz.prog.cellsOf 4 = 1 := by kernel_rfl
theorem eJ : Tryz.prog.cellsOf 50 = 4 := by kernel_rfl
set_option maxRecDepth 100000 in
theorem open_junk {v : Value} {d : DataW H} {p : List MemPlace} (hv : Value.okWide Tryz.prog W .any 0 50 v) (h : DataW.Trod enc Tryz.prog W 0 (fun _ => true) true 50 v d p) :
    ∃ a : List UInt8 × List UInt8 × Bool × Bool, v = .agg #[.string (gn.str a.1), .string (gn.str a.2.1), .bool a.2.2.1, .bool a.2.2.2] ∧ True := by
  obtain ⟨cs, rfl, hsz⟩ := okWide_struct Tryz.underlying50 hv
  obtain ⟨c0, c1, c2, c3, rfl⟩ := array4' (hsz.trans eJ)
  obtain ⟨fuel, hf⟩ := h
  have hf' : DataW.trod enc Tryz.prog W 0 (fun _ => true) true fuel 50 [c0, c1, c2, c3] = some (d, p) := by simpa [Value.cells] using hf
  obtain ⟨z0, z1, z2, z3, m, k0, k1, k2, k3⟩ := trod_struct4 Tryz.underlying50 hf'
  have k0 : DataW.trod enc Tryz.prog W 0 (fun _ => true) true m 9 [c0] = some z0 := by simpa [eStr] using k0
  have k1 : DataW.trod enc Tryz.prog W 0 (fun _ => true) true m 9 [c1] = some z1 := by simpa [eStr] using k1
  have k2 : DataW.trod enc Tryz.prog W 0 (fun _ => true) true m 4 [c2] = some z2 := by simpa [eBool] using k2
  have k3 : DataW.trod enc Tryz.prog W 0 (fun _ => true) true m 4 [c3] = some z3 := by simpa [eBool] using k3
  obtain ⟨s0, e0, _, hs0⟩ := DataW.trod_string Tryz.underlying9 k0
  obtain ⟨s1, e1, _, hs1⟩ := DataW.trod_string Tryz.underlying9 k1
  obtain ⟨q2, e2, _⟩ := DataW.trod_bool Tryz.underlying4 k2
  obtain ⟨q3, e3, _⟩ := DataW.trod_bool Tryz.underlying4 k3
  simp at e0 e1 e2 e3
  subst e0 e1 e2 e3
  refine ⟨⟨s0.data.toList, s1.data.toList, q2, q3⟩, ?_, trivial⟩
  simp [gn.str_of]
end
theorem walk (a : List UInt8 × List UInt8 × Bool × Bool) (_ : True) (w : World) :
    Calls Tryz.prog 4 #[.agg #[.string (gn.str a.1), .string (gn.str a.2.1), .bool a.2.2.1, .bool a.2.2.2]] w fun e w' => e = .returned (.bool true) ∧ Below w.heap.size w w' :=
  gn.junk_any w a.1 a.2.1 a.2.2.1 a.2.2.2

set_option maxRecDepth 100000 in
theorem lifted (os : Os) (started : os.Started) (H : Type) (enc : TypeId × Value → H) :
    ReturnsInHanded {} Tryz.checked os 4 .any (Rows.shelfJunkSpec.pre6 enc Tryz.prog Tryz.f4 Rows.shelfJunkRow.domain false) (Rows.shelfJunkSpec.post enc Tryz.prog Tryz.f4 false true false false) := by
  refine returnsInHanded_of_change (C := Tryz.checked) own started (by kernel_rfl) Tryz.func4
    (ChangeSpec.witness6 (enc := enc) (C := Tryz.checked) false ⟨#[], #[.agg #[.string ByteArray.empty, .string ByteArray.empty, .bool false, .bool false]], []⟩ 8 (by kernel_rfl) (by kernel_rfl) (by kernel_rfl) (by kernel_rfl)) ?_
  intro W base args ds gs before hval0 hW hcnd _
  have hval : ∀ (j : Nat) t v, Tryz.f4.params[j]? = some t → args[j]? = some v → Value.okWide Tryz.prog W .any base t v := hval0
  have hW' := hW
  obtain ⟨p, q, hA0, hV, rfl, hfz, hnd⟩ := hW
  have hA : DataW.TrodAll enc Tryz.prog W 0 (fun _ => true) true Tryz.f4.params.toList args.toList ds p := hA0
  rw [Tryz.params4] at hA hval
  obtain ⟨v0, vs0, d0, ds0, p0, q0, hargs, rfl, rfl, h0, r0⟩ := trodAll_cons hA
  obtain ⟨rfl, rfl, rfl⟩ := trodAll_nil r0
  obtain rfl : args = #[v0] := by cases args; simp_all
  obtain ⟨rfl, rfl⟩ := trodVars_none hV
  have lt0 : ∀ x ∈ p0, x.block < W.heap.size := by obtain ⟨m, hm⟩ := h0; exact DataW.trod_lt m _ _ _ hm
  have k0 := h0
  obtain ⟨a0, rfl, w0⟩ := open_junk (hval 0 50 v0 rfl rfl) h0
  clear hA0 hval0
  refine (walk a0 w0 W).mono fun e W' ⟨he, bel⟩ => ?_
  subst he
  exact ⟨_, rfl, _, _, _, [], _, [], hW', trodAll_mk1 (shut_bool Tryz.underlying4 _), (trodAll_cons_mk (Below.trod laidOut (by kernel_rfl) (of_decide_eq_true (by kernel_rfl)) k0 bel lt0) trodAll_mk0), rfl, bel.frame _, fun h => by cases h⟩

theorem over : Rows.shelfJunkRow.holds Tryz.pinned (OpenSpec.ofChange Rows.shelfJunkSpec) :=
  OpenClaim.holds_of_wide 4 Tryz.f4 rfl rfl rfl rfl rfl rfl rfl ⟨rfl, rfl, rfl, rfl, rfl⟩ rfl rfl rfl rfl rfl (by kernel_rfl) Tryz.func4 (by kernel_rfl)
    (of_decide_eq_true (by kernel_rfl)) (by unfold Func.isWrapper; first | (rw [if_pos (by decide +kernel)]; kernel_rfl) | (rw [if_neg (by decide +kernel)]; exact ⟨rfl, rfl⟩))
    (fun os started H enc _ => lifted os started H enc)

theorem proved : Rows.ShelfJunkSaid :=
  over
end Go.Proofs.YtmaohncddjhgeaaGreat.shelfJunk
end
