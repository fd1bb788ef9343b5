/- For every input ShelfFiles returns true, and its arguments are as they were. No condition. -/
import Derived.Test.YtmaohncddjhgeaaGreatMShL1
import Derived.WalkKit
import Derived.ProofKit
import Derived.OpenShut
import Derived.Deep.Slices
section
namespace Go.Proofs.YtmaohncddjhgeaaGreat.shelfFiles
open Go.ChangeShapes Go.WideShapes Go.ChangeAt Go.RowKit
open Go.ChangeMaps (open_string shut_string)
open Go.Deep (open_slice open_slice1)
set_option linter.unusedVariables false

theorem own : ownKnob Tryz.prog.godebug = none := by kernel_rfl
theorem laidOut : laidOutB Tryz.prog = true := by kernel_rfl

section
variable {H : Type} {enc : TypeId × Value → H} {W : World}
theorem list6 {α : Type} {l : List α} (h : l.length = 6) : ∃ c0 c1 c2 c3 c4 c5, l = [c0, c1, c2, c3, c4, c5] := by
  match l, h with
  | [c0, c1, c2, c3, c4, c5], _ => exact ⟨c0, c1, c2, c3, c4, c5, rfl⟩
theorem trod_struct4 {P : Program} {base : Nat} {spare : Nat → Bool} {held : Bool} {t : TypeId} {f0 f1 f2 f3 : Field} {fuel : Nat} {cs : List Value} {x : DataW H × List MemPlace} (ht : P.underlying t = some (.struct #[f0, f1, f2, f3])) (h : DataW.trod enc P W base spare held fuel t cs = some x) :
    ∃ y0 y1 y2 y3 n, DataW.trod enc P W base spare held n f0.type ((cs.drop f0.offset).take (P.cellsOf f0.type)) = some y0 ∧ DataW.trod enc P W base spare held n f1.type ((cs.drop f1.offset).take (P.cellsOf f1.type)) = some y1 ∧
      DataW.trod enc P W base spare held n f2.type ((cs.drop f2.offset).take (P.cellsOf f2.type)) = some y2 ∧ DataW.trod enc P W base spare held n f3.type ((cs.drop f3.offset).take (P.cellsOf f3.type)) = some y3 := by
  obtain ⟨xs, n, _, rfl, hl, hlen, hf⟩ := DataW.trod_struct ht h
  match xs, hlen with
  | [y0, y1, y2, y3], _ => exact ⟨y0, y1, y2, y3, n, by simpa using hf 0 f0 rfl, by simpa using hf 1 f1 rfl, by simpa using hf 2 f2 rfl, by simpa using hf 3 f3 rfl⟩
theorem eU8 : Tryz.prog.cellsOf 5 = 1 := by kernel_rfl
theorem eRow : Tryz.prog.cellsOf 32 = 1 := by kernel_rfl
theorem eA : Tryz.prog.cellsOf 38 = 6 := by kernel_rfl
theorem of_u8 {k : Int} (h : (Lit.int .u8 k).wf = true) : ∃ m : Nat, k = (m : Int) ∧ m < 256 := by
  obtain ⟨l1, b1⟩ : 0 ≤ k ∧ k ≤ 255 := by simpa [Lit.wf, IntKind.min, IntKind.max, IntKind.signed, IntKind.bits] using h
  exact ⟨k.toNat, by omega, by omega⟩
theorem open_strw {fuel : Nat} {v : Value} {x : DataW H × List MemPlace} (h : DataW.trod enc Tryz.prog W 0 (fun _ => true) true fuel 32 [v] = some x) : ∃ L, gn.Strw W v L := by
  obtain ⟨L, hL⟩ := gn.open_strs1 h
  refine ⟨L, hL, fun n c e => ?_⟩
  subst e
  rcases open_slice1 Tryz.underlying32 gn.cells9 h with ⟨hcs, _⟩ | ⟨a, len, cap, m, n', V, D, Pl, hcs, _⟩
  · simp at hcs; exact hcs
  · simp at hcs
theorem open_act {fuel : Nat} {cs : List Value} {y : DataW H × List MemPlace} (h : DataW.trod enc Tryz.prog W 0 (fun _ => true) true fuel 38 cs = some y) (hl : cs.length = 6) :
    ∃ x : gn.A9, ∃ u, cs[0]? = some (.int .u8 (x.1 : Int)) ∧ cs[1]? = some u ∧ gn.Strw W u x.2 ∧ x.1 < 256 := by
  obtain ⟨c0, c1, c2, c3, c4, c5, rfl⟩ := list6 hl
  obtain ⟨z0, z1, z2, z3, m, k0, k1, k2, k3⟩ := trod_struct4 Tryz.underlying38 h
  have k0 : DataW.trod enc Tryz.prog W 0 (fun _ => true) true m 5 [c0] = some z0 := by simpa [eU8] using k0
  have k1 : DataW.trod enc Tryz.prog W 0 (fun _ => true) true m 32 [c1] = some z1 := by simpa [eRow] using k1
  obtain ⟨q0, e0, _, w0⟩ := DataW.trod_int Tryz.underlying5 k0
  obtain ⟨L, hL⟩ := open_strw k1
  simp at e0
  subst e0
  obtain ⟨n, rfl, hn⟩ := of_u8 w0
  exact ⟨(n, L), c1, rfl, rfl, hL, hn⟩
theorem open_acts {fuel : Nat} {v : Value} {x : DataW H × List MemPlace}
    (h : DataW.trod enc Tryz.prog W 0 (fun _ => true) true fuel 22 [v] = some x) : ∃ X, gn.Acts W v X := by
  rcases open_slice Tryz.underlying22 h with ⟨hcs, _⟩ | ⟨a, len, cap, m, n, D, Pl, hcs, _, hle, hcap, hm, _, hi⟩
  · simp at hcs
    subst hcs
    exact ⟨[], none, 0, rfl, Nat.le_refl _, Nat.zero_le _, .inl rfl, fun s hs => by cases hs⟩
  · simp at hcs
    subst hcs
    simp at hm
    have hex : ∀ i, i < len → ∃ y : gn.A9, (W.cell? ((a.add (i * 6)).add 0) = some (.int .u8 (y.1 : Int)) ∧ ∃ u, W.cell? ((a.add (i * 6)).add 1) = some u ∧ gn.Strw W u y.2) ∧ y.1 < 256 := fun i hil => by
      obtain ⟨cs', hc, ht⟩ := hi i (by omega)
      rw [eA] at hc
      obtain ⟨_, hl, hcells⟩ := World.cells?_some hc
      obtain ⟨y, u, h0, h1, hu, hw⟩ := open_act ht hl
      exact ⟨y, ⟨(hcells 0 (by omega)).trans h0, u, (hcells 1 (by omega)).trans h1, hu⟩, hw⟩
    have hLx : ∃ X : List gn.A9, X.length = len ∧ ∀ i (hil : i < X.length), (W.cell? ((a.add (i * 6)).add 0) = some (.int .u8 (X[i].1 : Int)) ∧ ∃ u, W.cell? ((a.add (i * 6)).add 1) = some u ∧ gn.Strw W u X[i].2) ∧ X[i].1 < 256 := by
      refine ⟨(List.range len).map fun i => if hil : i < len then Classical.choose (hex i hil) else (0, []), by simp, fun i hil => ?_⟩
      have hil' : i < len := by simpa using hil
      simp only [List.getElem_map, List.getElem_range, dif_pos hil']
      exact Classical.choose_spec (hex i hil')
    obtain ⟨X, rfl, hX⟩ := hLx
    refine ⟨X, some a, cap, rfl, hle, hcap, ?_, fun y hy => ?_⟩
    · by_cases h0 : X.length = 0
      · exact .inl h0
      · obtain ⟨b, off, spot⟩ := a
        have hspot : spot = none := by simpa [Addr.add] using World.cell?_spot ((hX 0 (by omega)).1.1)
        subst hspot
        have hadd : ∀ o j, (⟨b, o, none⟩ : Addr).add j = ⟨b, o + j, none⟩ := fun o j => by unfold Addr.add; split <;> simp_all
        refine .inr ⟨b, off, rfl, fun j hj => ?_⟩
        have hk := (hX j hj).1
        simp only [hadd] at hk
        exact hk
    · obtain ⟨i, hil, rfl⟩ := List.mem_iff_getElem.1 hy
      exact (hX i hil).2
end

theorem walk (X : List gn.A9) {v : Value} {w : World} (hX : gn.Acts w v X) :
    Calls Tryz.prog 3 #[v] w fun e w' => e = .returned (.bool true) ∧ Below w.heap.size w w' := by
  by_cases hs : gn.ActsOk X
  · exact gn.files_long w v X hX hs
  · exact gn.files_short w v X hX hs

set_option maxRecDepth 100000 in
theorem lifted (os : Os) (started : os.Started) (H : Type) (enc : TypeId × Value → H) :
    ReturnsInHanded {} Tryz.checked os 3 .any (Rows.shelfFilesSpec.pre6 enc Tryz.prog Tryz.f3 Rows.shelfFilesRow.domain false) (Rows.shelfFilesSpec.post enc Tryz.prog Tryz.f3 false true false false) := by
  refine returnsInHanded_of_change (C := Tryz.checked) own started (by kernel_rfl) Tryz.func3
    (ChangeSpec.witness6 (enc := enc) (C := Tryz.checked) false ⟨#[], #[.slice none 0 0], []⟩ 8 (by kernel_rfl) (by kernel_rfl) (by kernel_rfl) (by kernel_rfl)) ?_
  intro W base args ds gs before hval0 hW hcnd _
  have hval : ∀ (j : Nat) t v, Tryz.f3.params[j]? = some t → args[j]? = some v → Value.okWide Tryz.prog W .any base t v := hval0
  have hW' := hW
  obtain ⟨p, q, hA0, hV, rfl, hfz, hnd⟩ := hW
  have hA : DataW.TrodAll enc Tryz.prog W 0 (fun _ => true) true Tryz.f3.params.toList args.toList ds p := hA0
  rw [Tryz.params3] at hA hval
  obtain ⟨v0, vs0, d0, ds0, p0, q0, hargs, rfl, rfl, h0, r0⟩ := trodAll_cons hA
  obtain ⟨rfl, rfl, rfl⟩ := trodAll_nil r0
  obtain rfl : args = #[v0] := by cases args; simp_all
  obtain ⟨rfl, rfl⟩ := trodVars_none hV
  have lt0 : ∀ x ∈ p0, x.block < W.heap.size := by obtain ⟨m, hm⟩ := h0; exact DataW.trod_lt m _ _ _ hm
  have k0 := h0
  obtain ⟨b1, n1, c1, rfl⟩ := okWide_slice Tryz.underlying22 (hval 0 22 v0 rfl rfl)
  obtain ⟨X, hX⟩ : ∃ X, gn.Acts W (.slice b1 n1 c1) X := by
    obtain ⟨fuel, hf⟩ := h0
    exact open_acts (enc := enc) (fuel := fuel) (x := (d0, p0)) (by simpa [Value.cells] using hf)
  clear hA0 hval0
  refine (walk X hX).mono fun e W' ⟨he, bel⟩ => ?_
  subst he
  exact ⟨_, rfl, _, _, _, [], _, [], hW', trodAll_mk1 (shut_bool Tryz.underlying4 _), (trodAll_cons_mk (Below.trod laidOut (by kernel_rfl) (of_decide_eq_true (by kernel_rfl)) k0 bel lt0) trodAll_mk0), rfl, bel.frame _, fun h => by cases h⟩

theorem over : Rows.shelfFilesRow.holds Tryz.pinned (OpenSpec.ofChange Rows.shelfFilesSpec) :=
  OpenClaim.holds_of_wide 3 Tryz.f3 rfl rfl rfl rfl rfl rfl rfl ⟨rfl, rfl, rfl, rfl, rfl⟩ rfl rfl rfl rfl rfl (by kernel_rfl) Tryz.func3 (by kernel_rfl)
    (of_decide_eq_true (by kernel_rfl)) (by unfold Func.isWrapper; first | (rw [if_pos (by decide +kernel)]; kernel_rfl) | (rw [if_neg (by decide +kernel)]; exact ⟨rfl, rfl⟩))
    (fun os started H enc _ => lifted os started H enc)

theorem proved : Rows.ShelfFilesSaid :=
  over
end Go.Proofs.YtmaohncddjhgeaaGreat.shelfFiles
end
