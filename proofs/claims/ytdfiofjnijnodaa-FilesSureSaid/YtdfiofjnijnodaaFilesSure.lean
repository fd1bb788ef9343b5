/- For every input FilesSure returns true, and its arguments are as they were. No condition. -/
import Derived.Test.YtdfiofjnijnodaaFjR
import Derived.WalkKit
import Derived.ProofKit
import Derived.OpenShut
import Derived.Deep.Slices
import Derived.Deep.Strs
import Derived.Lib.SmallJoins
namespace Go.Proofs.Ytdfiofjnijnodaa.filesSure
open Go.ChangeShapes Go.WideShapes Go.ChangeAt Go.RowKit Go.Joins
open Go.ChangeMaps (open_string shut_string)
open Go.Deep (add_add open_slice)
open Go.Proofs.Ytdfiofjnijnodaa.fi
set_option linter.unusedVariables false

theorem own : ownKnob Try.prog.godebug = none := by kernel_rfl
theorem laidOut : laidOutB Try.prog = true := by kernel_rfl

section
variable {H : Type} {enc : TypeId × Value → H} {W : World}
theorem array7 {α : Type} {cs : Array α} (h : cs.size = 7) : ∃ c0 c1 c2 c3 c4 c5 c6, cs = #[c0, c1, c2, c3, c4, c5, c6] := by
  obtain ⟨l⟩ := cs
  match l, h with
  | [c0, c1, c2, c3, c4, c5, c6], _ => exact ⟨c0, c1, c2, c3, c4, c5, c6, rfl⟩
theorem list7 {α : Type} {l : List α} (h : l.length = 7) : ∃ c0 c1 c2 c3 c4 c5 c6, l = [c0, c1, c2, c3, c4, c5, c6] := by
  match l, h with
  | [c0, c1, c2, c3, c4, c5, c6], _ => exact ⟨c0, c1, c2, c3, c4, c5, c6, rfl⟩
theorem trod_struct5 {P : Program} {base : Nat} {spare : Nat → Bool} {held : Bool} {t : TypeId} {f0 f1 f2 f3 f4 : Field} {fuel : Nat} {cs : List Value} {x : DataW H × List MemPlace} (ht : P.underlying t = some (.struct #[f0, f1, f2, f3, f4])) (h : DataW.trod enc P W base spare held fuel t cs = some x) :
    ∃ y0 y1 y2 y3 y4 n, DataW.trod enc P W base spare held n f0.type ((cs.drop f0.offset).take (P.cellsOf f0.type)) = some y0 ∧ DataW.trod enc P W base spare held n f1.type ((cs.drop f1.offset).take (P.cellsOf f1.type)) = some y1 ∧
      DataW.trod enc P W base spare held n f2.type ((cs.drop f2.offset).take (P.cellsOf f2.type)) = some y2 ∧ DataW.trod enc P W base spare held n f3.type ((cs.drop f3.offset).take (P.cellsOf f3.type)) = some y3 ∧ DataW.trod enc P W base spare held n f4.type ((cs.drop f4.offset).take (P.cellsOf f4.type)) = some y4 := by
  obtain ⟨xs, n, _, rfl, hl, hlen, hf⟩ := DataW.trod_struct ht h
  match xs, hlen with
  | [y0, y1, y2, y3, y4], _ => exact ⟨y0, y1, y2, y3, y4, n, by simpa using hf 0 f0 rfl, by simpa using hf 1 f1 rfl, by simpa using hf 2 f2 rfl, by simpa using hf 3 f3 rfl, by simpa using hf 4 f4 rfl⟩
theorem eInt : Try.prog.cellsOf 3 = 1 := by kernel_rfl
theorem eStr : Try.prog.cellsOf 9 = 1 := by kernel_rfl
theorem eU8 : Try.prog.cellsOf 5 = 1 := by kernel_rfl
theorem eU64 : Try.prog.cellsOf 23 = 1 := by kernel_rfl
theorem eF : Try.prog.cellsOf 25 = 3 := by kernel_rfl
theorem eA : Try.prog.cellsOf 27 = 7 := by kernel_rfl
theorem of_u64 {k : Int} (h : (Lit.int .u64 k).wf = true) : ∃ m : Nat, k = (m : Int) ∧ m < 18446744073709551616 := by
  obtain ⟨l1, b1⟩ : 0 ≤ k ∧ k ≤ 18446744073709551615 := by simpa [Lit.wf, IntKind.min, IntKind.max, IntKind.signed, IntKind.bits] using h
  exact ⟨k.toNat, by omega, by omega⟩
theorem of_u8 {k : Int} (h : (Lit.int .u8 k).wf = true) : ∃ m : Nat, k = (m : Int) ∧ m < 256 := by
  obtain ⟨l1, b1⟩ : 0 ≤ k ∧ k ≤ 255 := by simpa [Lit.wf, IntKind.min, IntKind.max, IntKind.signed, IntKind.bits] using h
  exact ⟨k.toNat, by omega, by omega⟩
theorem open_fault3 {fuel : Nat} {a b c : Value} {x : DataW H × List MemPlace} (h : DataW.trod enc Try.prog W 0 (fun _ => true) true fuel 25 [a, b, c] = some x) :
    ∃ f : Fault, a = .int .i64 f.keep ∧ b = .int .u64 (f.lose : Int) ∧ c = .int .i64 f.cut ∧ f.lose < 18446744073709551616 := by
  obtain ⟨z0, z1, z2, m, _, _, k0, k1, k2⟩ := Go.Deep.trod_struct3 Try.underlying25 h
  have k0 : DataW.trod enc Try.prog W 0 (fun _ => true) true m 3 [a] = some z0 := by simpa [eInt] using k0
  have k1 : DataW.trod enc Try.prog W 0 (fun _ => true) true m 23 [b] = some z1 := by simpa [eU64] using k1
  have k2 : DataW.trod enc Try.prog W 0 (fun _ => true) true m 3 [c] = some z2 := by simpa [eInt] using k2
  obtain ⟨q0, e0, _, w0⟩ := DataW.trod_int Try.underlying3 k0
  obtain ⟨q1, e1, _, w1⟩ := DataW.trod_int Try.underlying23 k1
  obtain ⟨q2, e2, _, w2⟩ := DataW.trod_int Try.underlying3 k2
  simp at e0 e1 e2
  obtain ⟨n, rfl, hn⟩ := of_u64 w1
  exact ⟨⟨q0, n, q2⟩, e0, e1, e2, hn⟩
theorem open_act {fuel : Nat} {cs : List Value} {y : DataW H × List MemPlace} (h : DataW.trod enc Try.prog W 0 (fun _ => true) true fuel 27 cs = some y) (hl : cs.length = 7) :
    ∃ x : Ac, cs = (gn.acv x).toList ∧ gn.AcW x := by
  obtain ⟨c0, c1, c2, c3, c4, c5, c6, rfl⟩ := list7 hl
  obtain ⟨z0, z1, z2, z3, z4, m, k0, k1, k2, k3, k4⟩ := trod_struct5 Try.underlying27 h
  have k0 : DataW.trod enc Try.prog W 0 (fun _ => true) true m 5 [c0] = some z0 := by simpa [eU8] using k0
  have k1 : DataW.trod enc Try.prog W 0 (fun _ => true) true m 9 [c1] = some z1 := by simpa [eStr] using k1
  have k2 : DataW.trod enc Try.prog W 0 (fun _ => true) true m 9 [c2] = some z2 := by simpa [eStr] using k2
  have k3 : DataW.trod enc Try.prog W 0 (fun _ => true) true m 3 [c3] = some z3 := by simpa [eInt] using k3
  have k4 : DataW.trod enc Try.prog W 0 (fun _ => true) true m 25 [c4, c5, c6] = some z4 := by simpa [eF] using k4
  obtain ⟨q0, e0, _, w0⟩ := DataW.trod_int Try.underlying5 k0
  obtain ⟨s1, e1, _, hs1⟩ := DataW.trod_string Try.underlying9 k1
  obtain ⟨s2, e2, _, hs2⟩ := DataW.trod_string Try.underlying9 k2
  obtain ⟨q3, e3, _, w3⟩ := DataW.trod_int Try.underlying3 k3
  obtain ⟨f, rfl, rfl, rfl, hf⟩ := open_fault3 k4
  simp at e0 e1 e2 e3
  subst e0 e1 e2 e3
  obtain ⟨n, rfl, hn⟩ := of_u8 w0
  refine ⟨⟨n, s1.data.toList, s2.data.toList, q3, f⟩, ?_, ⟨hn, by simpa using hs1, by simpa using hs2, hf⟩⟩
  simp [gn.acv, gn.str_of]
theorem open_acts {fuel : Nat} {v : Value} {x : DataW H × List MemPlace}
    (h : DataW.trod enc Try.prog W 0 (fun _ => true) true fuel 22 [v] = some x) : ∃ L, gn.Acs W v L := by
  rcases open_slice Try.underlying22 h with ⟨hcs, _⟩ | ⟨a, len, cap, m, n, D, Pl, hcs, _, hle, hcap, hm, _, hi⟩
  · simp at hcs
    subst hcs
    exact ⟨[], none, 0, rfl, Nat.le_refl _, Nat.zero_le _, .inl rfl, fun s hs => by cases hs⟩
  · simp at hcs
    subst hcs
    simp at hm
    have hex : ∀ i, i < len → ∃ y : Ac, (∀ j u, (gn.acv y).toList[j]? = some u → W.cell? ((a.add (i * 7)).add j) = some u) ∧ gn.AcW y := fun i hil => by
      obtain ⟨cs', hc, ht⟩ := hi i (by omega)
      rw [eA] at hc
      obtain ⟨_, hl, hcells⟩ := World.cells?_some hc
      obtain ⟨y, hy, hw⟩ := open_act ht hl
      refine ⟨y, fun j u hu => ?_, hw⟩
      rw [← hy] at hu
      exact (hcells j (by obtain ⟨hj, _⟩ := List.getElem?_eq_some_iff.1 hu; omega)).trans hu
    have hLx : ∃ L : List Ac, L.length = len ∧ ∀ i (hil : i < L.length), (∀ j u, (gn.acv L[i]).toList[j]? = some u → W.cell? ((a.add (i * 7)).add j) = some u) ∧ gn.AcW L[i] := by
      refine ⟨(List.range len).map fun i => if hil : i < len then Classical.choose (hex i hil) else ⟨0, [], [], 0, ⟨0, 0, 0⟩⟩, by simp, fun i hil => ?_⟩
      have hil' : i < len := by simpa using hil
      simp only [List.getElem_map, List.getElem_range, dif_pos hil']
      exact Classical.choose_spec (hex i hil')
    obtain ⟨L, rfl, hL⟩ := hLx
    refine ⟨L, some a, cap, rfl, hle, hcap, ?_, fun y hy => ?_⟩
    · by_cases h0 : L.length = 0
      · exact .inl h0
      · obtain ⟨b, off, spot⟩ := a
        have hspot : spot = none := by simpa [Addr.add] using World.cell?_spot ((hL 0 (by omega)).1 0 _ rfl)
        subst hspot
        have hadd : ∀ o j, (⟨b, o, none⟩ : Addr).add j = ⟨b, o + j, none⟩ := fun o j => by unfold Addr.add; split <;> simp_all
        refine .inr ⟨b, off, rfl, fun j hj => ?_⟩
        have hk := (hL j hj).1
        simp only [hadd] at hk
        exact ⟨hk 0 _ rfl, hk 1 _ rfl, hk 2 _ rfl, hk 3 _ rfl, hk 4 _ rfl, hk 5 _ rfl, hk 6 _ rfl⟩
    · obtain ⟨i, hil, rfl⟩ := List.mem_iff_getElem.1 hy
      exact (hL i hil).2
set_option maxRecDepth 100000 in
theorem open_fault {v : Value} {d : DataW H} {p : List MemPlace} (hv : Value.okWide Try.prog W .any 0 25 v) (h : DataW.Trod enc Try.prog W 0 (fun _ => true) true 25 v d p) :
    ∃ f : Fault, v = .agg #[.int .i64 f.keep, .int .u64 (f.lose : Int), .int .i64 f.cut] ∧ f.lose < 18446744073709551616 := by
  obtain ⟨cs, rfl, hsz⟩ := okWide_struct Try.underlying25 hv
  obtain ⟨c0, c1, c2, rfl⟩ := array3 (hsz.trans eF)
  obtain ⟨fuel, hf⟩ := h
  obtain ⟨f, rfl, rfl, rfl, h⟩ := open_fault3 (by simpa [Value.cells] using hf)
  exact ⟨f, rfl, h⟩
set_option maxRecDepth 100000 in
theorem open_one {v : Value} {d : DataW H} {p : List MemPlace} (hv : Value.okWide Try.prog W .any 0 27 v) (h : DataW.Trod enc Try.prog W 0 (fun _ => true) true 27 v d p) :
    ∃ x : Ac, v = .agg (gn.acv x) ∧ gn.AcW x := by
  obtain ⟨cs, rfl, hsz⟩ := okWide_struct Try.underlying27 hv
  obtain ⟨fuel, hf⟩ := h
  obtain ⟨x, hx, hw⟩ := open_act (cs := cs.toList) (by simpa [Value.cells] using hf) (by rw [Array.length_toList]; exact hsz.trans eA)
  exact ⟨x, by rw [← Array.toArray_toList (xs := cs), hx], hw⟩
end

set_option maxRecDepth 100000 in
theorem lifted (os : Os) (started : os.Started) (H : Type) (enc : TypeId × Value → H) :
    ReturnsInHanded {} Try.checked os 3 .any (Rows.filesSureSpec.pre6 enc Try.prog Try.f3 Rows.filesSureRow.domain false) (Rows.filesSureSpec.post enc Try.prog Try.f3 false true false false) := by
  refine returnsInHanded_of_change (C := Try.checked) own started (by kernel_rfl) Try.func3
    (ChangeSpec.witness6 (enc := enc) (C := Try.checked) false ⟨#[], #[.slice none 0 0, .agg #[.int .i64 0, .int .u64 0, .int .i64 0], .agg #[.int .u8 0, .string ByteArray.empty, .string ByteArray.empty, .int .i64 0, .int .i64 0, .int .u64 0, .int .i64 0]], []⟩ 8 (by kernel_rfl) (by kernel_rfl) (by kernel_rfl) (by kernel_rfl)) ?_
  intro W base args ds gs before hval0 hW hcnd _
  have hval : ∀ (j : Nat) t v, Try.f3.params[j]? = some t → args[j]? = some v → Value.okWide Try.prog W .any base t v := hval0
  have hW' := hW
  obtain ⟨p, q, hA0, hV, rfl, hfz, hnd⟩ := hW
  have hA : DataW.TrodAll enc Try.prog W 0 (fun _ => true) true Try.f3.params.toList args.toList ds p := hA0
  rw [Try.params3] at hA hval
  obtain ⟨v0, vs0, d0, ds0, p0, q0, hargs, rfl, rfl, h0, r0⟩ := trodAll_cons hA
  obtain ⟨v1, vs1, d1, ds1, p1, q1, rfl, rfl, rfl, h1, r1⟩ := trodAll_cons r0
  obtain ⟨v2, vs2, d2, ds2, p2, q2, rfl, rfl, rfl, h2, r2⟩ := trodAll_cons r1
  obtain ⟨rfl, rfl, rfl⟩ := trodAll_nil r2
  obtain rfl : args = #[v0, v1, v2] := by cases args; simp_all
  obtain ⟨rfl, rfl⟩ := trodVars_none hV
  have lt0 : ∀ x ∈ p0, x.block < W.heap.size := by obtain ⟨m, hm⟩ := h0; exact DataW.trod_lt m _ _ _ hm
  have lt1 : ∀ x ∈ p1, x.block < W.heap.size := by obtain ⟨m, hm⟩ := h1; exact DataW.trod_lt m _ _ _ hm
  have lt2 : ∀ x ∈ p2, x.block < W.heap.size := by obtain ⟨m, hm⟩ := h2; exact DataW.trod_lt m _ _ _ hm
  have k0 := h0
  have k1 := h1
  have k2 := h2
  obtain ⟨b1, n1, c1, rfl⟩ := okWide_slice Try.underlying22 (hval 0 22 v0 rfl rfl)
  obtain ⟨L, hL⟩ : ∃ L, gn.Acs W (.slice b1 n1 c1) L := by
    obtain ⟨fuel, hf⟩ := h0
    exact open_acts (enc := enc) (fuel := fuel) (x := (d0, p0)) (by simpa [Value.cells] using hf)
  obtain ⟨f, rfl, hf⟩ := open_fault (hval 1 25 v1 rfl rfl) h1
  obtain ⟨x, rfl, hx⟩ := open_one (hval 2 27 v2 rfl rfl) h2
  clear hA0 hval0
  refine (gn.sure_law _ L f hf x hx W hL).mono fun e W' ⟨he, bel⟩ => ?_
  subst he
  exact ⟨_, rfl, _, _, _, [], _, [], hW', trodAll_mk1 (shut_bool Try.underlying4 _), (trodAll_cons_mk (Below.trod laidOut (by kernel_rfl) (of_decide_eq_true (by kernel_rfl)) k0 bel lt0) (trodAll_cons_mk (Below.trod laidOut (by kernel_rfl) (of_decide_eq_true (by kernel_rfl)) k1 bel lt1) (trodAll_cons_mk (Below.trod laidOut (by kernel_rfl) (of_decide_eq_true (by kernel_rfl)) k2 bel lt2) trodAll_mk0))), rfl, bel.frame _, fun h => by cases h⟩

theorem over : Rows.filesSureRow.holds Try.pinned (OpenSpec.ofChange Rows.filesSureSpec) :=
  OpenClaim.holds_of_wide 3 Try.f3 rfl rfl rfl rfl rfl rfl rfl ⟨rfl, rfl, rfl, rfl, rfl⟩ rfl rfl rfl rfl rfl (by kernel_rfl) Try.func3 (by kernel_rfl)
    (of_decide_eq_true (by kernel_rfl)) (by unfold Func.isWrapper; first | (rw [if_pos (by decide +kernel)]; kernel_rfl) | (rw [if_neg (by decide +kernel)]; exact ⟨rfl, rfl⟩))
    (fun os started H enc _ => lifted os started H enc)

theorem proved : Rows.FilesSureSaid :=
  over
end Go.Proofs.Ytdfiofjnijnodaa.filesSure
