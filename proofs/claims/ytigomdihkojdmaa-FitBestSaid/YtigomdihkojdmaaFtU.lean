/- The statements' arguments, opened. -/
import Derived.Test.YtigomdihkojdmaaFtS
import Derived.Test.YtigomdihkojdmaaStR
import Derived.WalkKit
import Derived.ProofKit
import Derived.OpenShut
namespace Go.Proofs.Ytigomdihkojdmaa.gn
open Go.ChangeShapes Go.WideShapes Go.ChangeAt Go.RowKit Go.Joins
open Go.Proofs.Ytigomdihkojdmaa.sp
set_option linter.unusedVariables false

theorem array16 {α : Type} {cs : Array α} (h : cs.size = 16) : ∃ c0 c1 c2 c3 c4 c5 c6 c7 c8 c9 c10 c11 c12 c13 c14 c15, cs = #[c0, c1, c2, c3, c4, c5, c6, c7, c8, c9, c10, c11, c12, c13, c14, c15] := by
  obtain ⟨l⟩ := cs
  match l, h with
  | [c0, c1, c2, c3, c4, c5, c6, c7, c8, c9, c10, c11, c12, c13, c14, c15], _ => exact ⟨c0, c1, c2, c3, c4, c5, c6, c7, c8, c9, c10, c11, c12, c13, c14, c15, rfl⟩
theorem array17 {α : Type} {cs : Array α} (h : cs.size = 17) : ∃ c0 c1 c2 c3 c4 c5 c6 c7 c8 c9 c10 c11 c12 c13 c14 c15 c16, cs = #[c0, c1, c2, c3, c4, c5, c6, c7, c8, c9, c10, c11, c12, c13, c14, c15, c16] := by
  obtain ⟨l⟩ := cs
  match l, h with
  | [c0, c1, c2, c3, c4, c5, c6, c7, c8, c9, c10, c11, c12, c13, c14, c15, c16], _ => exact ⟨c0, c1, c2, c3, c4, c5, c6, c7, c8, c9, c10, c11, c12, c13, c14, c15, c16, rfl⟩
section
variable {H : Type} {enc : TypeId × Value → H} {W : World}
theorem trod_struct6 {P : Program} {base : Nat} {spare : Nat → Bool} {held : Bool} {t : TypeId} {f0 f1 f2 f3 f4 f5 : Field} {fuel : Nat} {cs : List Value} {x : DataW H × List MemPlace} (ht : P.underlying t = some (.struct #[f0, f1, f2, f3, f4, f5])) (h : DataW.trod enc P W base spare held fuel t cs = some x) :
    ∃ y0 y1 y2 y3 y4 y5 n, DataW.trod enc P W base spare held n f0.type ((cs.drop f0.offset).take (P.cellsOf f0.type)) = some y0 ∧ DataW.trod enc P W base spare held n f1.type ((cs.drop f1.offset).take (P.cellsOf f1.type)) = some y1 ∧ DataW.trod enc P W base spare held n f2.type ((cs.drop f2.offset).take (P.cellsOf f2.type)) = some y2 ∧ DataW.trod enc P W base spare held n f3.type ((cs.drop f3.offset).take (P.cellsOf f3.type)) = some y3 ∧ DataW.trod enc P W base spare held n f4.type ((cs.drop f4.offset).take (P.cellsOf f4.type)) = some y4 ∧ DataW.trod enc P W base spare held n f5.type ((cs.drop f5.offset).take (P.cellsOf f5.type)) = some y5 := by
  obtain ⟨xs, n, _, rfl, hl, hlen, hf⟩ := DataW.trod_struct ht h
  match xs, hlen with
  | [y0, y1, y2, y3, y4, y5], _ => exact ⟨y0, y1, y2, y3, y4, y5, n, by simpa using hf 0 f0 rfl, by simpa using hf 1 f1 rfl, by simpa using hf 2 f2 rfl, by simpa using hf 3 f3 rfl, by simpa using hf 4 f4 rfl, by simpa using hf 5 f5 rfl⟩
theorem trod_struct7 {P : Program} {base : Nat} {spare : Nat → Bool} {held : Bool} {t : TypeId} {f0 f1 f2 f3 f4 f5 f6 : Field} {fuel : Nat} {cs : List Value} {x : DataW H × List MemPlace} (ht : P.underlying t = some (.struct #[f0, f1, f2, f3, f4, f5, f6])) (h : DataW.trod enc P W base spare held fuel t cs = some x) :
    ∃ y0 y1 y2 y3 y4 y5 y6 n, DataW.trod enc P W base spare held n f0.type ((cs.drop f0.offset).take (P.cellsOf f0.type)) = some y0 ∧ DataW.trod enc P W base spare held n f1.type ((cs.drop f1.offset).take (P.cellsOf f1.type)) = some y1 ∧ DataW.trod enc P W base spare held n f2.type ((cs.drop f2.offset).take (P.cellsOf f2.type)) = some y2 ∧ DataW.trod enc P W base spare held n f3.type ((cs.drop f3.offset).take (P.cellsOf f3.type)) = some y3 ∧ DataW.trod enc P W base spare held n f4.type ((cs.drop f4.offset).take (P.cellsOf f4.type)) = some y4 ∧ DataW.trod enc P W base spare held n f5.type ((cs.drop f5.offset).take (P.cellsOf f5.type)) = some y5 ∧ DataW.trod enc P W base spare held n f6.type ((cs.drop f6.offset).take (P.cellsOf f6.type)) = some y6 := by
  obtain ⟨xs, n, _, rfl, hl, hlen, hf⟩ := DataW.trod_struct ht h
  match xs, hlen with
  | [y0, y1, y2, y3, y4, y5, y6], _ => exact ⟨y0, y1, y2, y3, y4, y5, y6, n, by simpa using hf 0 f0 rfl, by simpa using hf 1 f1 rfl, by simpa using hf 2 f2 rfl, by simpa using hf 3 f3 rfl, by simpa using hf 4 f4 rfl, by simpa using hf 5 f5 rfl, by simpa using hf 6 f6 rfl⟩
theorem eSteps : Try.prog.cellsOf 24 = 2 := by kernel_rfl
theorem eRoom : Try.prog.cellsOf 26 = 6 := by kernel_rfl
theorem eShape : Try.prog.cellsOf 28 = 6 := by kernel_rfl
theorem eSlot : Try.prog.cellsOf 30 = 3 := by kernel_rfl
theorem eI64 : Try.prog.cellsOf 2 = 1 := by kernel_rfl
theorem eU8 : Try.prog.cellsOf 5 = 1 := by kernel_rfl
theorem eRow : Try.prog.cellsOf 22 = 1 := by kernel_rfl
theorem Ints.formS {v : Value} {l : List Int} (h : Ints W v l) : ∃ a n c, v = .slice a n c := by
  obtain ⟨hm, a', c', e, _⟩ := h
  exact ⟨_, _, _, e⟩
theorem open_i64 {fuel : Nat} {v : Value} {x : DataW H × List MemPlace} (h : DataW.trod enc Try.prog W 0 (fun _ => true) true fuel 2 [v] = some x) : ∃ n : Int, v = .int .i64 n := by
  obtain ⟨k, hk, _, _⟩ := DataW.trod_int Try.underlying2 h
  simp at hk
  exact ⟨k, hk⟩
theorem open_byte {fuel : Nat} {v : Value} {x : DataW H × List MemPlace} (h : DataW.trod enc Try.prog W 0 (fun _ => true) true fuel 5 [v] = some x) : ∃ n : Nat, v = .int .u8 (n : Int) ∧ n < 256 := by
  obtain ⟨k, hk, _, hw⟩ := DataW.trod_int Try.underlying5 h
  simp at hk
  subst hk
  have h2 : 0 ≤ k ∧ k ≤ 255 := by simpa [Lit.wf, IntKind.min, IntKind.max, IntKind.signed, IntKind.bits] using hw
  exact ⟨k.toNat, by rw [Int.toNat_of_nonneg h2.1], by omega⟩
theorem open_steps {fuel : Nat} {a b : Value} {x : DataW H × List MemPlace} (h : DataW.trod enc Try.prog W 0 (fun _ => true) true fuel 24 [a, b] = some x) :
    ∃ l1 l2, Ints W a l1 ∧ Ints W b l2 := by
  obtain ⟨z0, z1, m, _, _, k0, k1⟩ := trod_struct2 Try.underlying24 h
  have k0 : DataW.trod enc Try.prog W 0 (fun _ => true) true m 22 [a] = some z0 := by simpa [Value.cells, eRow] using k0
  have k1 : DataW.trod enc Try.prog W 0 (fun _ => true) true m 22 [b] = some z1 := by simpa [Value.cells, eRow] using k1
  obtain ⟨l1, i1⟩ := gn.open_row k0
  obtain ⟨l2, i2⟩ := gn.open_row k1
  exact ⟨l1, l2, i1, i2⟩
theorem open_room {fuel : Nat} {a b c d e f : Value} {x : DataW H × List MemPlace} (h : DataW.trod enc Try.prog W 0 (fun _ => true) true fuel 26 [a, b, c, d, e, f] = some x) :
    ∃ (v : Rv) (R : Rw), [a, b, c, d, e, f] = v.c.toList ∧ RoomV W v R := by
  obtain ⟨z0, z1, z2, m, _, _, k0, k1, k2⟩ := Go.Deep.trod_struct3 Try.underlying26 h
  have k0 : DataW.trod enc Try.prog W 0 (fun _ => true) true m 24 [a, b] = some z0 := by simpa [Value.cells, eSteps] using k0
  have k1 : DataW.trod enc Try.prog W 0 (fun _ => true) true m 24 [c, d] = some z1 := by simpa [Value.cells, eSteps] using k1
  have k2 : DataW.trod enc Try.prog W 0 (fun _ => true) true m 24 [e, f] = some z2 := by simpa [Value.cells, eSteps] using k2
  obtain ⟨l1, l2, i1, i2⟩ := open_steps k0
  obtain ⟨l3, l4, i3, i4⟩ := open_steps k1
  obtain ⟨l5, l6, i5, i6⟩ := open_steps k2
  obtain ⟨p1, q1, r1, rfl⟩ := i1.formS
  obtain ⟨p2, q2, r2, rfl⟩ := i2.formS
  obtain ⟨p3, q3, r3, rfl⟩ := i3.formS
  obtain ⟨p4, q4, r4, rfl⟩ := i4.formS
  obtain ⟨p5, q5, r5, rfl⟩ := i5.formS
  obtain ⟨p6, q6, r6, rfl⟩ := i6.formS
  exact ⟨⟨p1, q1, r1, p2, q2, r2, p3, q3, r3, p4, q4, r4, p5, q5, r5, p6, q6, r6⟩, ⟨l1, l2, l3, l4, l5, l6⟩, rfl, ⟨i1, i2, i3, i4, i5, i6⟩⟩
theorem open_shape {fuel : Nat} {a b c d e f : Value} {x : DataW H × List MemPlace} (h : DataW.trod enc Try.prog W 0 (fun _ => true) true fuel 28 [a, b, c, d, e, f] = some x) :
    ∃ s : Shp, [a, b, c, d, e, f] = (shpC s).toList := by
  obtain ⟨z0, z1, z2, z3, z4, z5, m, k0, k1, k2, k3, k4, k5⟩ := trod_struct6 Try.underlying28 h
  have k0 : DataW.trod enc Try.prog W 0 (fun _ => true) true m 2 [a] = some z0 := by simpa [Value.cells, eI64] using k0
  have k1 : DataW.trod enc Try.prog W 0 (fun _ => true) true m 2 [b] = some z1 := by simpa [Value.cells, eI64] using k1
  have k2 : DataW.trod enc Try.prog W 0 (fun _ => true) true m 2 [c] = some z2 := by simpa [Value.cells, eI64] using k2
  have k3 : DataW.trod enc Try.prog W 0 (fun _ => true) true m 2 [d] = some z3 := by simpa [Value.cells, eI64] using k3
  have k4 : DataW.trod enc Try.prog W 0 (fun _ => true) true m 2 [e] = some z4 := by simpa [Value.cells, eI64] using k4
  have k5 : DataW.trod enc Try.prog W 0 (fun _ => true) true m 2 [f] = some z5 := by simpa [Value.cells, eI64] using k5
  obtain ⟨n0, rfl⟩ := open_i64 k0
  obtain ⟨n1, rfl⟩ := open_i64 k1
  obtain ⟨n2, rfl⟩ := open_i64 k2
  obtain ⟨n3, rfl⟩ := open_i64 k3
  obtain ⟨n4, rfl⟩ := open_i64 k4
  obtain ⟨n5, rfl⟩ := open_i64 k5
  exact ⟨⟨n0, n1, n2, n3, n4, n5⟩, rfl⟩
theorem open_slot {fuel : Nat} {a b c : Value} {x : DataW H × List MemPlace} (h : DataW.trod enc Try.prog W 0 (fun _ => true) true fuel 30 [a, b, c] = some x) :
    ∃ s : Slt, [a, b, c] = (sltC s).toList := by
  obtain ⟨z0, z1, z2, m, _, _, k0, k1, k2⟩ := Go.Deep.trod_struct3 Try.underlying30 h
  have k0 : DataW.trod enc Try.prog W 0 (fun _ => true) true m 2 [a] = some z0 := by simpa [Value.cells, eI64] using k0
  have k1 : DataW.trod enc Try.prog W 0 (fun _ => true) true m 2 [b] = some z1 := by simpa [Value.cells, eI64] using k1
  have k2 : DataW.trod enc Try.prog W 0 (fun _ => true) true m 2 [c] = some z2 := by simpa [Value.cells, eI64] using k2
  obtain ⟨n0, rfl⟩ := open_i64 k0
  obtain ⟨n1, rfl⟩ := open_i64 k1
  obtain ⟨n2, rfl⟩ := open_i64 k2
  exact ⟨⟨n0, n1, n2⟩, rfl⟩
/-- What Slots holds. -/
structure SlA where
  v : Rv
  R : Rw
  x : Shp
  a : Slt
  f : Int
def slA (s : SlA) : Array Value := #[.slice s.v.p1 s.v.q1 s.v.r1, .slice s.v.p2 s.v.q2 s.v.r2, .slice s.v.p3 s.v.q3 s.v.r3, .slice s.v.p4 s.v.q4 s.v.r4, .slice s.v.p5 s.v.q5 s.v.r5, .slice s.v.p6 s.v.q6 s.v.r6,
  .int .i64 s.x.i, .int .i64 s.x.w, .int .i64 s.x.o, .int .i64 s.x.n, .int .i64 s.x.b, .int .i64 s.x.l, .int .i64 s.a.s, .int .i64 s.a.c, .int .i64 s.a.o, .int .i64 s.f]
theorem open_slots {v : Value} {d : DataW H} {p : List MemPlace} (hv : Value.okWide Try.prog W .any 0 32 v) (h : DataW.Trod enc Try.prog W 0 (fun _ => true) true 32 v d p) :
    ∃ s : SlA, v = .agg (slA s) ∧ RoomV W s.v s.R := by
  obtain ⟨cs, rfl, hsz⟩ := okWide_struct Try.underlying32 hv
  obtain ⟨c0, c1, c2, c3, c4, c5, c6, c7, c8, c9, c10, c11, c12, c13, c14, c15, rfl⟩ := array16 (hsz.trans (by kernel_rfl))
  obtain ⟨fuel, hf⟩ := h
  obtain ⟨y0, y1, y2, y3, n, _, _, h0, h1, h2, h3⟩ := trod_struct4 Try.underlying32 hf
  have h0 : DataW.trod enc Try.prog W 0 (fun _ => true) true n 26 [c0, c1, c2, c3, c4, c5] = some y0 := by simpa [Value.cells, eRoom] using h0
  have h1 : DataW.trod enc Try.prog W 0 (fun _ => true) true n 28 [c6, c7, c8, c9, c10, c11] = some y1 := by simpa [Value.cells, eShape] using h1
  have h2 : DataW.trod enc Try.prog W 0 (fun _ => true) true n 30 [c12, c13, c14] = some y2 := by simpa [Value.cells, eSlot] using h2
  have h3 : DataW.trod enc Try.prog W 0 (fun _ => true) true n 2 [c15] = some y3 := by simpa [Value.cells, eI64] using h3
  obtain ⟨v, R, e0, hR⟩ := open_room h0
  obtain ⟨x, e1⟩ := open_shape h1
  obtain ⟨a, e2⟩ := open_slot h2
  obtain ⟨f, rfl⟩ := open_i64 h3
  simp [shpC, sltC] at e0 e1 e2
  obtain ⟨rfl, rfl, rfl, rfl, rfl, rfl⟩ := e0
  obtain ⟨rfl, rfl, rfl, rfl, rfl, rfl⟩ := e1
  obtain ⟨rfl, rfl, rfl⟩ := e2
  exact ⟨⟨v, R, x, a, f⟩, rfl, hR⟩
/-- What Mores holds. -/
structure MoA where
  v : Rv
  R : Rw
  x : Shp
  f : Int
  g : Int
  k : Nat
  t : Int
  n : Int
def moA (s : MoA) : Array Value := #[.slice s.v.p1 s.v.q1 s.v.r1, .slice s.v.p2 s.v.q2 s.v.r2, .slice s.v.p3 s.v.q3 s.v.r3, .slice s.v.p4 s.v.q4 s.v.r4, .slice s.v.p5 s.v.q5 s.v.r5, .slice s.v.p6 s.v.q6 s.v.r6,
  .int .i64 s.x.i, .int .i64 s.x.w, .int .i64 s.x.o, .int .i64 s.x.n, .int .i64 s.x.b, .int .i64 s.x.l, .int .i64 s.f, .int .i64 s.g, .int .u8 (s.k : Int), .int .i64 s.t, .int .i64 s.n]
theorem open_mores {v : Value} {d : DataW H} {p : List MemPlace} (hv : Value.okWide Try.prog W .any 0 44 v) (h : DataW.Trod enc Try.prog W 0 (fun _ => true) true 44 v d p) :
    ∃ s : MoA, v = .agg (moA s) ∧ (RoomV W s.v s.R ∧ s.k < 256) := by
  obtain ⟨cs, rfl, hsz⟩ := okWide_struct Try.underlying44 hv
  obtain ⟨c0, c1, c2, c3, c4, c5, c6, c7, c8, c9, c10, c11, c12, c13, c14, c15, c16, rfl⟩ := array17 (hsz.trans (by kernel_rfl))
  obtain ⟨fuel, hf⟩ := h
  obtain ⟨y0, y1, y2, y3, y4, y5, y6, n, h0, h1, h2, h3, h4, h5, h6⟩ := trod_struct7 Try.underlying44 hf
  have h0 : DataW.trod enc Try.prog W 0 (fun _ => true) true n 26 [c0, c1, c2, c3, c4, c5] = some y0 := by simpa [Value.cells, eRoom] using h0
  have h1 : DataW.trod enc Try.prog W 0 (fun _ => true) true n 28 [c6, c7, c8, c9, c10, c11] = some y1 := by simpa [Value.cells, eShape] using h1
  have h2 : DataW.trod enc Try.prog W 0 (fun _ => true) true n 2 [c12] = some y2 := by simpa [Value.cells, eI64] using h2
  have h3 : DataW.trod enc Try.prog W 0 (fun _ => true) true n 2 [c13] = some y3 := by simpa [Value.cells, eI64] using h3
  have h4 : DataW.trod enc Try.prog W 0 (fun _ => true) true n 5 [c14] = some y4 := by simpa [Value.cells, eU8] using h4
  have h5 : DataW.trod enc Try.prog W 0 (fun _ => true) true n 2 [c15] = some y5 := by simpa [Value.cells, eI64] using h5
  have h6 : DataW.trod enc Try.prog W 0 (fun _ => true) true n 2 [c16] = some y6 := by simpa [Value.cells, eI64] using h6
  obtain ⟨v, R, e0, hR⟩ := open_room h0
  obtain ⟨x, e1⟩ := open_shape h1
  obtain ⟨f, rfl⟩ := open_i64 h2
  obtain ⟨g, rfl⟩ := open_i64 h3
  obtain ⟨k, rfl, hk⟩ := open_byte h4
  obtain ⟨t, rfl⟩ := open_i64 h5
  obtain ⟨m, rfl⟩ := open_i64 h6
  simp [shpC] at e0 e1
  obtain ⟨rfl, rfl, rfl, rfl, rfl, rfl⟩ := e0
  obtain ⟨rfl, rfl, rfl, rfl, rfl, rfl⟩ := e1
  exact ⟨⟨v, R, x, f, g, k, t, m⟩, rfl, hR, hk⟩
end
end Go.Proofs.Ytigomdihkojdmaa.gn
