/- For every row of items PackRow returns true, and its argument is as it was. No condition. -/
import Derived.Test.YtjfachkonnfldaaPackL3
import Derived.WalkKit
import Derived.ProofKit
import Derived.OpenShut
import Derived.Deep.Slices
import Derived.Deep.Strs
namespace Go.Proofs.Ytjfachkonnfldaa.packRow
open Go.ChangeShapes Go.WideShapes Go.ChangeAt Go.RowKit Go.Deep
set_option linter.unusedVariables false

theorem own : ownKnob Try.prog.godebug = none := by kernel_rfl
theorem laidOut : laidOutB Try.prog = true := by kernel_rfl
theorem cells27 : Try.prog.cellsOf 27 = 3 := by kernel_rfl
theorem cells5 : Try.prog.cellsOf 5 = 1 := by kernel_rfl
theorem cells25 : Try.prog.cellsOf 25 = 1 := by kernel_rfl
theorem cells9 : Try.prog.cellsOf 9 = 1 := by kernel_rfl

set_option maxHeartbeats 800000 in
theorem row_empty (v : Option Addr) (cap : Nat) (w : World) :
    Calls Try.prog 3 #[.slice v 0 cap] w fun e w' => e = .returned (.bool true) ∧ Below w.heap.size w w' := by
  have hv := bs_str (Bs_nil w 0)
  go_enter Try.func3, Try.ntmps3
  go_wp2_with fail
  refine wp_loop_rounds 1 ?_
  rw [rounds_succ]
  go_wp2_with fail
  refine (open_any _ []).mono ?_
  rintro e w3 ⟨rfl, hr3, hb3, _⟩
  go_wp2_with fail
  refine wp_loop_rounds 1 ?_
  rw [rounds_succ]
  go_wp2_with (first | (go_at_call 14; refine (rOver_any _ _ _ hr3).mono ?_; rintro e w8 ⟨rfl, rfl⟩) | (go_at_call 6; refine (head_any _).mono ?_; rintro e w9 ⟨rfl, hb9⟩))
  go_ret
  exact ⟨rfl, hb3.trans (hb9.mono hb3.size)⟩

/-- What the walk is told of a row of items that came in. -/
def IsItems (w : World) (a : Addr) (len : Nat) : Prop :=
  ∀ i, i < len → ∃ (x y : Nat) (s : ByteArray), w.cell? (a.add (i * 3)) = some (.int .u8 (x : Int)) ∧ w.cell? (a.add (i * 3 + 1)) = some (.int .u64 (y : Int)) ∧ w.cell? (a.add (i * 3 + 2)) = some (.string s) ∧ x < 256 ∧ y < 18446744073709551616 ∧ s.size ≤ maxLen

theorem open_items {H : Type} {enc : TypeId × Value → H} {W : World} {fuel : Nat} {v : Value} {x : DataW H × List MemPlace}
    (h : DataW.trod enc Try.prog W 0 (fun _ => true) true fuel 22 [v] = some x) : v = .slice none 0 0 ∨ ∃ a len cap, v = .slice (some a) len cap ∧ IsItems W a len := by
  rcases open_slice Try.underlying22 h with ⟨hcs, _⟩ | ⟨a, len, cap, m, n, D, Pl, hcs, _, hle, _, hm, _, hi⟩
  · simp at hcs
    exact .inl hcs
  · simp at hcs
    refine .inr ⟨a, len, cap, hcs, fun i hil => ?_⟩
    simp at hm
    obtain ⟨cs', hc, ht⟩ := hi i (by omega)
    rw [cells27] at hc
    obtain ⟨_, hl, hcells⟩ := World.cells?_some hc
    obtain ⟨y0, y1, y2, n', _, _, h0, h1, h2⟩ := trod_struct3 Try.underlying27 ht
    match cs', hl with
    | [u0, u1, u2], _ =>
      simp only [cells5, cells25, cells9, List.drop_zero, List.drop_succ_cons, List.take_succ_cons, List.take_zero] at h0 h1 h2
      obtain ⟨q0, e0, _, w0⟩ := DataW.trod_int Try.underlying5 h0
      obtain ⟨q1, e1, _, w1⟩ := DataW.trod_int Try.underlying25 h1
      obtain ⟨s, e2, _, hs⟩ := DataW.trod_string Try.underlying9 h2
      simp at e0 e1 e2
      subst e0 e1 e2
      obtain ⟨l0, b0⟩ : 0 ≤ q0 ∧ q0 ≤ 255 := by simpa [Lit.wf, IntKind.min, IntKind.max, IntKind.signed, IntKind.bits] using w0
      obtain ⟨l1, b1⟩ : 0 ≤ q1 ∧ q1 ≤ 18446744073709551615 := by simpa [Lit.wf, IntKind.min, IntKind.max, IntKind.signed, IntKind.bits] using w1
      obtain ⟨x0, rfl⟩ := Int.eq_ofNat_of_zero_le l0
      obtain ⟨x1, rfl⟩ := Int.eq_ofNat_of_zero_le l1
      have g0 := hcells 0 (by omega)
      have g1 := hcells 1 (by omega)
      have g2 := hcells 2 (by omega)
      rw [add_add] at g0 g1 g2
      exact ⟨x0, x1, s, g0, g1, g2, by omega, by omega, hs⟩

theorem walk (a : Addr) (len cap : Nat) (w : World) (h : IsItems w a len) :
    Calls Try.prog 3 #[.slice (some a) len cap] w fun e w' => e = .returned (.bool true) ∧ Below w.heap.size w w' := by
  rcases Nat.lt_or_ge 40 len with h40 | h40
  · exact row_long (some a) len cap h40 w
  · rcases Nat.eq_zero_or_pos len with h0 | h0
    · subst h0
      exact row_empty (some a) cap w
    · obtain ⟨b, off, spot⟩ := a
      obtain ⟨x, y, s, hc, _⟩ := h 0 h0
      have hspot : spot = none := by simpa [Addr.add] using World.cell?_spot hc
      subst hspot
      have hadd : ∀ j, (⟨b, off, none⟩ : Addr).add j = ⟨b, off + j, none⟩ := fun j => by unfold Addr.add; split <;> simp_all
      rw [hadd] at hc
      have hb := World.block_lt_of_cell? w _ hc
      have hex : ∀ i, ∃ t : Nat × Nat × ByteArray, i < len → w.cell? ⟨b, off + i * 3, none⟩ = some (.int .u8 (t.1 : Int)) ∧ w.cell? ⟨b, off + i * 3 + 1, none⟩ = some (.int .u64 (t.2.1 : Int)) ∧ w.cell? ⟨b, off + i * 3 + 2, none⟩ = some (.string t.2.2) ∧
          t.1 < 256 ∧ t.2.1 < 18446744073709551616 ∧ t.2.2.size ≤ maxLen := by
        intro i
        by_cases hi : i < len
        · obtain ⟨x, y, s, c0, c1, c2, hx, hy, hs⟩ := h i hi
          rw [hadd] at c0 c1 c2
          exact ⟨(x, y, s), fun _ => ⟨c0, c1, c2, hx, hy, hs⟩⟩
        · exact ⟨(0, 0, ⟨#[]⟩), fun h => absurd h hi⟩
      exact row_any b off len cap (fun i => (Classical.choose (hex i)).1) (fun i => (Classical.choose (hex i)).2.1) (fun i => (Classical.choose (hex i)).2.2) w h40 hb (fun i hi => Classical.choose_spec (hex i) hi)

set_option maxRecDepth 100000 in
theorem lifted (os : Os) (started : os.Started) (H : Type) (enc : TypeId × Value → H) :
    ReturnsInHanded {} Try.checked os 3 .any (Rows.packRowSpec.pre6 enc Try.prog Try.f3 Rows.packRowRow.domain false) (Rows.packRowSpec.post enc Try.prog Try.f3 false true false false) := by
  refine returnsInHanded_of_change (C := Try.checked) own started (by kernel_rfl) Try.func3
    (ChangeSpec.witness6 (enc := enc) (C := Try.checked) false ⟨#[], #[.slice none 0 0], []⟩ 8 (by kernel_rfl) (by kernel_rfl) (by kernel_rfl) (by kernel_rfl)) ?_
  intro W base args ds gs before hval0 hW hcnd _
  have hval : ∀ (j : Nat) t v, Try.f3.params[j]? = some t → args[j]? = some v → Value.okWide Try.prog W .any base t v := hval0
  have hW' := hW
  obtain ⟨p, q, hA0, hV, rfl, hfz, hnd⟩ := hW
  have hA : DataW.TrodAll enc Try.prog W 0 (fun _ => true) true Try.f3.params.toList args.toList ds p := hA0
  rw [Try.params3] at hA hval
  obtain ⟨v0, vs0, d0, ds0, p0, q0, hargs, rfl, rfl, h0, r0⟩ := trodAll_cons hA
  obtain ⟨rfl, rfl, rfl⟩ := trodAll_nil r0
  obtain rfl : args = #[v0] := by cases args; simp_all
  obtain ⟨rfl, rfl⟩ := trodVars_none hV
  obtain ⟨a0, len0, cap0, rfl⟩ := okWide_slice Try.underlying22 (hval 0 22 v0 rfl rfl)
  have k0 := h0
  have lt0 : ∀ x ∈ p0, x.block < W.heap.size := by obtain ⟨m, hm⟩ := k0; exact DataW.trod_lt m _ _ _ hm
  have hwalk : Calls Try.prog 3 #[.slice a0 len0 cap0] W fun e w' => e = .returned (.bool true) ∧ Below W.heap.size W w' := by
    obtain ⟨fuel, hf⟩ := h0
    have hf' : DataW.trod enc Try.prog W 0 (fun _ => true) true fuel 22 [.slice a0 len0 cap0] = some (d0, p0) := by simpa [Value.cells] using hf
    rcases open_items hf' with hn | ⟨a, len, cap, hs, hi⟩
    · simp at hn
      obtain ⟨rfl, rfl, rfl⟩ := hn
      exact row_empty none 0 W
    · simp at hs
      obtain ⟨rfl, rfl, rfl⟩ := hs
      exact walk a len0 cap0 W hi
  clear hA0 hval0
  refine hwalk.mono fun e W' ⟨he, bel⟩ => ?_
  subst he
  exact ⟨_, rfl, _, _, _, [], _, [], hW', trodAll_mk1 (shut_bool Try.underlying4 _), (trodAll_cons_mk (Below.trod laidOut (by kernel_rfl) (of_decide_eq_true (by kernel_rfl)) k0 bel lt0) trodAll_mk0), rfl, bel.frame _, fun h => by cases h⟩

theorem over : Rows.packRowRow.holds Try.pinned (OpenSpec.ofChange Rows.packRowSpec) :=
  OpenClaim.holds_of_wide 3 Try.f3 rfl rfl rfl rfl rfl rfl rfl ⟨rfl, rfl, rfl, rfl, rfl⟩ rfl rfl rfl rfl rfl (by kernel_rfl) Try.func3 (by kernel_rfl)
    (of_decide_eq_true (by kernel_rfl)) (by unfold Func.isWrapper; first | (rw [if_pos (by decide +kernel)]; kernel_rfl) | (rw [if_neg (by decide +kernel)]; exact ⟨rfl, rfl⟩))
    (fun os started H enc _ => lifted os started H enc)

theorem proved : Rows.PackRowSaid :=
  over
end Go.Proofs.Ytjfachkonnfldaa.packRow
