/- What LanesMore is asked: opened. -/
import Derived.Test.YtiaidlpceibnpaaGenOpen
import Derived.Test.YtiaidlpceibnpaaLaF
set_option linter.unusedVariables false
namespace Go.Proofs.Ytiaidlpceibnpaa.gn
open Go.ChangeShapes Go.WideShapes Go.ChangeAt Go.RowKit Go.Deep

section
variable {H : Type} {enc : TypeId × Value → H} {W : World}
theorem ls4 {α : Type} {l : List α} (h : l.length = 4) : ∃ a b c d, l = [a, b, c, d] := by
  match l, h with
  | [a, b, c, d], _ => exact ⟨a, b, c, d, rfl⟩
theorem oIs : Try.prog.cellsOf 22 = 1 := by kernel_rfl
theorem oU8 : Try.prog.cellsOf 5 = 1 := by kernel_rfl
def cI (n : Int) : List Value := [.int .i64 n]
theorem flat_i : ∀ l : List Int, l.flatMap cI = ics l
  | [] => rfl
  | x :: l => by
    rw [List.flatMap_cons, flat_i l]
    rfl
theorem open_i1 {fuel : Nat} {cs : List Value} {x : DataW H × List MemPlace} (h : DataW.trod enc Try.prog W 0 (fun _ => true) true fuel 2 cs = some x) (hl : cs.length = 1) : ∃ n : Int, cs = cI n ∧ -9223372036854775808 ≤ n ∧ n ≤ 9223372036854775807 := by
  match cs, hl with
  | [c], _ =>
    obtain ⟨n, rfl, h1⟩ := op_int64 h
    exact ⟨n, rfl, h1⟩
theorem op_u8 {fuel : Nat} {v : Value} {x : DataW H × List MemPlace} (h : DataW.trod enc Try.prog W 0 (fun _ => true) true fuel 5 [v] = some x) : ∃ n : Nat, v = .int .u8 n ∧ n ≤ 255 := by
  obtain ⟨k, hk, _, hw⟩ := DataW.trod_int Try.underlying5 h
  simp at hk
  obtain ⟨l3, u3⟩ : 0 ≤ k ∧ k ≤ 255 := by simpa [Lit.wf, IntKind.min, IntKind.max, IntKind.signed, IntKind.bits] using hw
  exact ⟨k.toNat, by rw [hk, Int.toNat_of_nonneg l3], by omega⟩
theorem oMores : Try.prog.cellsOf 24 = 4 := by kernel_rfl
set_option maxRecDepth 100000 in
theorem open_mores {base : Nat} {v : Value} {d : DataW H} {p : List MemPlace} (hv : Value.okWide Try.prog W .any base 24 v) (h : DataW.Trod enc Try.prog W 0 (fun _ => true) true 24 v d p) :
    ∃ (T m : Int) (lv : Value) (l : List Int) (wh : Nat), v = .agg #[.int .i64 T, .int .i64 m, lv, .int .u8 wh] ∧ i64 T ∧ i64 m ∧ wh ≤ 255 ∧ RI W lv l ∧ (∀ x ∈ l, i64 x) ∧ l.length ≤ 9223372036854775807 := by
  obtain ⟨cs, rfl, hsz⟩ := okWide_struct Try.underlying24 hv
  obtain ⟨l⟩ := cs
  obtain ⟨c0, c1, c2, c3, rfl⟩ := ls4 (show l.length = 4 from hsz.trans oMores)
  obtain ⟨fuel, hf⟩ := h
  have hf' : DataW.trod enc Try.prog W 0 (fun _ => true) true fuel 24 [c0, c1, c2, c3] = some (d, p) := by simpa [Value.cells] using hf
  obtain ⟨xs, m, _, _, _, hlen, hk⟩ := DataW.trod_struct Try.underlying24 hf'
  obtain ⟨z0, z1, z2, z3, rfl⟩ := ls4 hlen
  have k0 : DataW.trod enc Try.prog W 0 (fun _ => true) true m 2 [c0] = some z0 := by simpa [opI] using hk 0 _ rfl
  have k1 : DataW.trod enc Try.prog W 0 (fun _ => true) true m 2 [c1] = some z1 := by simpa [opI] using hk 1 _ rfl
  have k2 : DataW.trod enc Try.prog W 0 (fun _ => true) true m 22 [c2] = some z2 := by simpa [oIs] using hk 2 _ rfl
  have k3 : DataW.trod enc Try.prog W 0 (fun _ => true) true m 5 [c3] = some z3 := by simpa [oU8] using hk 3 _ rfl
  obtain ⟨T, rfl, hT⟩ := op_int64 k0
  obtain ⟨q, rfl, hq⟩ := op_int64 k1
  obtain ⟨rs, rr, ⟨p2, c2', hv2, h3, h4⟩, wr⟩ := open_rowX cI (k := 1) (fun _ => rfl) (by decide) i64 0 Try.underlying22 opI (fun _ _ _ h hl => open_i1 h hl) k2
  obtain ⟨wh, rfl, hw⟩ := op_u8 k3
  rw [flat_i] at rr
  unfold maxLen at h4
  exact ⟨T, q, c2, rs, wh, rfl, hT, hq, hw, rr, wr, by omega⟩
end
end Go.Proofs.Ytiaidlpceibnpaa.gn
