/- The laws' arguments, opened: a pool, what is asked, what is played. -/
import Derived.Test.YtdjpnlkhdilakaaPoA
import Derived.WalkKit
import Derived.ProofKit
import Derived.OpenShut
import Derived.Deep.Slices
import Derived.Deep.Strs
import Derived.Lib.SmallJoins
set_option linter.unusedVariables false
set_option maxRecDepth 100000
namespace Go.Proofs.Ytdjpnlkhdilakaa.gn
open Go.ChangeShapes Go.WideShapes Go.ChangeAt Go.RowKit Go.Joins Go.Deep
open Go.Proofs.Ytdjpnlkhdilakaa.ex
open Go.Proofs.Ytdjpnlkhdilakaa.po (Nm U Pl)

section
variable {H : Type} {enc : TypeId × Value → H} {W : World}
theorem array10 {α : Type} {cs : Array α} (h : cs.size = 10) : ∃ c0 c1 c2 c3 c4 c5 c6 c7 c8 c9, cs = #[c0, c1, c2, c3, c4, c5, c6, c7, c8, c9] := by
  obtain ⟨l⟩ := cs
  match l, h with
  | [c0, c1, c2, c3, c4, c5, c6, c7, c8, c9], _ => exact ⟨c0, c1, c2, c3, c4, c5, c6, c7, c8, c9, rfl⟩
theorem array4 {α : Type} {cs : Array α} (h : cs.size = 4) : ∃ c0 c1 c2 c3, cs = #[c0, c1, c2, c3] := by
  obtain ⟨l⟩ := cs
  match l, h with
  | [c0, c1, c2, c3], _ => exact ⟨c0, c1, c2, c3, rfl⟩
theorem trod_struct7 {P : Program} {base : Nat} {spare : Nat → Bool} {held : Bool} {t : TypeId} {f0 f1 f2 f3 f4 f5 f6 : Field} {fuel : Nat} {cs : List Value} {x : DataW H × List MemPlace} (ht : P.underlying t = some (.struct #[f0, f1, f2, f3, f4, f5, f6])) (h : DataW.trod enc P W base spare held fuel t cs = some x) :
    ∃ y0 y1 y2 y3 y4 y5 y6 n, DataW.trod enc P W base spare held n f0.type ((cs.drop f0.offset).take (P.cellsOf f0.type)) = some y0 ∧ DataW.trod enc P W base spare held n f1.type ((cs.drop f1.offset).take (P.cellsOf f1.type)) = some y1 ∧ DataW.trod enc P W base spare held n f2.type ((cs.drop f2.offset).take (P.cellsOf f2.type)) = some y2 ∧ DataW.trod enc P W base spare held n f3.type ((cs.drop f3.offset).take (P.cellsOf f3.type)) = some y3 ∧ DataW.trod enc P W base spare held n f4.type ((cs.drop f4.offset).take (P.cellsOf f4.type)) = some y4 ∧ DataW.trod enc P W base spare held n f5.type ((cs.drop f5.offset).take (P.cellsOf f5.type)) = some y5 ∧ DataW.trod enc P W base spare held n f6.type ((cs.drop f6.offset).take (P.cellsOf f6.type)) = some y6 := by
  obtain ⟨xs, n, _, rfl, hl, hlen, hf⟩ := DataW.trod_struct ht h
  match xs, hlen with
  | [y0, y1, y2, y3, y4, y5, y6], _ => exact ⟨y0, y1, y2, y3, y4, y5, y6, n, by simpa using hf 0 f0 rfl, by simpa using hf 1 f1 rfl, by simpa using hf 2 f2 rfl, by simpa using hf 3 f3 rfl, by simpa using hf 4 f4 rfl, by simpa using hf 5 f5 rfl, by simpa using hf 6 f6 rfl⟩
theorem eExt : Try.prog.cellsOf 54 = 2 := by kernel_rfl
theorem eUse : Try.prog.cellsOf 62 = 2 := by kernel_rfl
theorem eI64 : Try.prog.cellsOf 2 = 1 := by kernel_rfl
theorem eU8 : Try.prog.cellsOf 5 = 1 := by kernel_rfl
theorem eStr : Try.prog.cellsOf 9 = 1 := by kernel_rfl
theorem eExts : Try.prog.cellsOf 22 = 1 := by kernel_rfl
theorem eUses : Try.prog.cellsOf 23 = 1 := by kernel_rfl
theorem eActs : Try.prog.cellsOf 42 = 1 := by kernel_rfl
theorem eAct : Try.prog.cellsOf 49 = 3 := by kernel_rfl
theorem eBool : Try.prog.cellsOf 4 = 1 := by kernel_rfl
theorem ePool : Try.prog.cellsOf 25 = 7 := by kernel_rfl
theorem open_i64 {fuel : Nat} {v : Value} {x : DataW H × List MemPlace} (h : DataW.trod enc Try.prog W 0 (fun _ => true) true fuel 2 [v] = some x) : ∃ n : Int, v = .int .i64 n := by
  obtain ⟨k, hk, _, _⟩ := DataW.trod_int Try.underlying2 h
  simp at hk
  exact ⟨k, hk⟩
theorem open_int64 {fuel : Nat} {v : Value} {x : DataW H × List MemPlace} (h : DataW.trod enc Try.prog W 0 (fun _ => true) true fuel 2 [v] = some x) : ∃ n : Int, v = .int .i64 n ∧ -9223372036854775808 ≤ n ∧ n ≤ 9223372036854775807 := by
  obtain ⟨k, hk, _, hw⟩ := DataW.trod_int Try.underlying2 h
  simp at hk
  refine ⟨k, hk, ?_⟩
  simpa [Lit.wf, IntKind.min, IntKind.max, IntKind.signed, IntKind.bits] using hw
theorem open_u8 {fuel : Nat} {v : Value} {x : DataW H × List MemPlace} (h : DataW.trod enc Try.prog W 0 (fun _ => true) true fuel 5 [v] = some x) : ∃ n : Nat, v = .int .u8 (n : Int) ∧ n < 256 := by
  obtain ⟨k, hk, _, hw⟩ := DataW.trod_int Try.underlying5 h
  simp at hk
  subst hk
  have h2 : 0 ≤ k ∧ k ≤ 255 := by simpa [Lit.wf, IntKind.min, IntKind.max, IntKind.signed, IntKind.bits] using hw
  exact ⟨k.toNat, by rw [Int.toNat_of_nonneg h2.1], by omega⟩
theorem open_b {fuel : Nat} {v : Value} {x : DataW H × List MemPlace} (h : DataW.trod enc Try.prog W 0 (fun _ => true) true fuel 4 [v] = some x) : ∃ b : Bool, v = .bool b := by
  obtain ⟨b, hb, _⟩ := DataW.trod_bool Try.underlying4 h
  simp at hb
  exact ⟨b, hb⟩
theorem open_s {fuel : Nat} {v : Value} {x : DataW H × List MemPlace} (h : DataW.trod enc Try.prog W 0 (fun _ => true) true fuel 9 [v] = some x) : ∃ s : Nm, v = .string (str s) := by
  obtain ⟨s, hb, _⟩ := DataW.trod_string Try.underlying9 h
  simp at hb
  exact ⟨s.data.toList, by rw [str_of]; exact hb⟩
theorem open_exts {fuel : Nat} {v : Value} {x : DataW H × List MemPlace} (h : DataW.trod enc Try.prog W 0 (fun _ => true) true fuel 22 [v] = some x) : ∃ l, Rd W v l := by
  rcases open_slice Try.underlying22 h with ⟨hcs, _⟩ | ⟨a, len, cap, m, n, D, Pl, hcs, _, hle, _, hm, _, hi⟩
  · simp at hcs
    exact ⟨[], .inl ⟨none, 0, hcs, rfl, fun _ => rfl⟩⟩
  · simp at hcs
    subst hcs
    simp at hm
    have hcell : ∀ i, i < len → ∃ y : X, W.cell? (a.add (i * 2)) = some (.int .i64 y.1) ∧ W.cell? (a.add (i * 2 + 1)) = some (.int .i64 y.2) := by
      intro i hil
      obtain ⟨cs', hc, ht⟩ := hi i (by omega)
      rw [eExt] at hc
      obtain ⟨_, hl, hcells⟩ := World.cells?_some hc
      obtain ⟨y0, y1, n', _, _, h0, h1⟩ := trod_struct2 Try.underlying54 ht
      match cs', hl with
      | [u0, u1], _ =>
        simp only [eI64, List.drop_zero, List.drop_succ_cons, List.take_succ_cons, List.take_zero] at h0 h1
        obtain ⟨n0, rfl⟩ := open_i64 h0
        obtain ⟨n1, rfl⟩ := open_i64 h1
        have g0 := hcells 0 (by omega)
        have g1 := hcells 1 (by omega)
        rw [add_add] at g0 g1
        exact ⟨(n0, n1), g0, g1⟩
    clear hi
    rcases Nat.eq_zero_or_pos len with h0 | h0
    · subst h0
      exact ⟨[], .inl ⟨some a, cap, rfl, rfl, fun e => (by cases e)⟩⟩
    · obtain ⟨b, off, spot⟩ := a
      obtain ⟨y, hc, _⟩ := hcell 0 h0
      have hspot : spot = none := by simpa [Addr.add] using World.cell?_spot hc
      subst hspot
      have hadd : ∀ j, (⟨b, off, none⟩ : Addr).add j = ⟨b, off + j, none⟩ := fun j => by unfold Addr.add; split <;> simp_all
      have hb : b < W.heap.size := by rw [hadd] at hc; exact World.block_lt_of_cell? W _ hc
      have hex : ∀ i, ∃ y : X, i < len → W.cell? ⟨b, off + i * 2, none⟩ = some (.int .i64 y.1) ∧ W.cell? ⟨b, off + i * 2 + 1, none⟩ = some (.int .i64 y.2) := by
        intro i
        by_cases hl : i < len
        · obtain ⟨y, h1, h2⟩ := hcell i hl
          rw [hadd] at h1 h2
          exact ⟨y, fun _ => ⟨h1, h2⟩⟩
        · exact ⟨(0, 0), fun h => absurd h hl⟩
      refine ⟨(List.range len).map fun i => Classical.choose (hex i), .inr ⟨b, off, cap, by simp, hb, fun j hj => ?_⟩⟩
      have hj' : j < len := by simpa using hj
      have e : ((List.range len).map fun i => Classical.choose (hex i))[j]! = Classical.choose (hex j) := by
        rw [getElem!_pos _ j hj]
        simp
      rw [e]
      exact Classical.choose_spec (hex j) hj'
theorem open_uses {fuel : Nat} {v : Value} {x : DataW H × List MemPlace} (h : DataW.trod enc Try.prog W 0 (fun _ => true) true fuel 23 [v] = some x) : ∃ l, RdU W v l := by
  rcases open_slice Try.underlying23 h with ⟨hcs, _⟩ | ⟨a, len, cap, m, n, D, Pl, hcs, _, hle, _, hm, _, hi⟩
  · simp at hcs
    subst hcs
    exact ⟨[], .inl ⟨none, 0, rfl, rfl, rfl, fun _ => rfl⟩, none, 0, rfl, Nat.le_refl _⟩
  · simp at hcs
    subst hcs
    simp at hm
    have hcell : ∀ i, i < len → ∃ y : U, W.cell? (a.add (i * 2)) = some (.string (str y.1)) ∧ W.cell? (a.add (i * 2 + 1)) = some (.int .i64 y.2) := by
      intro i hil
      obtain ⟨cs', hc, ht⟩ := hi i (by omega)
      rw [eUse] at hc
      obtain ⟨_, hl, hcells⟩ := World.cells?_some hc
      obtain ⟨y0, y1, n', _, _, h0, h1⟩ := trod_struct2 Try.underlying62 ht
      match cs', hl with
      | [u0, u1], _ =>
        simp only [eStr, eI64, List.drop_zero, List.drop_succ_cons, List.take_succ_cons, List.take_zero] at h0 h1
        obtain ⟨n0, rfl⟩ := open_s h0
        obtain ⟨n1, rfl⟩ := open_i64 h1
        have g0 := hcells 0 (by omega)
        have g1 := hcells 1 (by omega)
        rw [add_add] at g0 g1
        exact ⟨(n0, n1), g0, g1⟩
    clear hi
    rcases Nat.eq_zero_or_pos len with h0 | h0
    · subst h0
      exact ⟨[], .inl ⟨some a, cap, rfl, rfl, rfl, fun e => (by cases e)⟩, some a, cap, rfl, Nat.zero_le _⟩
    · obtain ⟨b, off, spot⟩ := a
      obtain ⟨y, hc, _⟩ := hcell 0 h0
      have hspot : spot = none := by simpa [Addr.add] using World.cell?_spot hc
      subst hspot
      have hadd : ∀ j, (⟨b, off, none⟩ : Addr).add j = ⟨b, off + j, none⟩ := fun j => by unfold Addr.add; split <;> simp_all
      have hb : b < W.heap.size := by rw [hadd] at hc; exact World.block_lt_of_cell? W _ hc
      have hex : ∀ i, ∃ y : U, i < len → W.cell? ⟨b, off + i * 2, none⟩ = some (.string (str y.1)) ∧ W.cell? ⟨b, off + i * 2 + 1, none⟩ = some (.int .i64 y.2) := by
        intro i
        by_cases hl : i < len
        · obtain ⟨y, h1, h2⟩ := hcell i hl
          rw [hadd] at h1 h2
          exact ⟨y, fun _ => ⟨h1, h2⟩⟩
        · exact ⟨([], 0), fun h => absurd h hl⟩
      obtain ⟨f, hf⟩ : ∃ f : Nat → U, ∀ i, i < len → W.cell? ⟨b, off + i * 2, none⟩ = some (.string (str (f i).1)) ∧ W.cell? ⟨b, off + i * 2 + 1, none⟩ = some (.int .i64 (f i).2) := ⟨fun i => Classical.choose (hex i), fun i => Classical.choose_spec (hex i)⟩
      have hlen : ((List.range len).map f).length = len := by simp
      refine ⟨(List.range len).map f, .inr ⟨b, off, cap, by rw [hlen], hb, ?_⟩, some ⟨b, off, none⟩, cap, by rw [hlen], by rw [hlen]; exact hle⟩
      intro t u hu
      have ht : t < len * 2 := by
        have := (List.getElem?_eq_some_iff.1 hu).1
        rw [flU_length, hlen] at this
        exact this
      have e : ∀ j, j < len → ((List.range len).map f)[j]! = f j := fun j hj => by
        rw [getElem!_pos _ j (by rw [hlen]; exact hj)]
        simp
      have h1 := flU_at ((List.range len).map f) (t / 2) (by rw [hlen]; omega)
      rw [e (t / 2) (by omega)] at h1
      have h2 := hf (t / 2) (by omega)
      rcases Nat.mod_two_eq_zero_or_one t with hm | hm
      · rw [show t / 2 * 2 = t by omega] at h1 h2
        rw [h1.1] at hu; cases hu
        exact h2.1
      · rw [show t / 2 * 2 + 1 = t by omega] at h1
        rw [Nat.add_assoc, show t / 2 * 2 + 1 = t by omega] at h2
        rw [h1.2] at hu; cases hu
        exact h2.2
/-- What a pool's fields hold. -/
theorem open_pool {fuel : Nat} {c0 c1 c2 c3 c4 c5 c6 : Value} {x : DataW H × List MemPlace} (h : DataW.trod enc Try.prog W 0 (fun _ => true) true fuel 25 [c0, c1, c2, c3, c4, c5, c6] = some x) :
    ∃ p : Pl, c0 = .int .i64 p.size ∧ c1 = .int .i64 p.grain ∧ c2 = .int .i64 p.quota ∧ c3 = .bool p.drain ∧ c4 = .bool p.best ∧ Rd W c5 p.free ∧ RdU W c6 p.uses := by
  obtain ⟨y0, y1, y2, y3, y4, y5, y6, n, h0, h1, h2, h3, h4, h5, h6⟩ := trod_struct7 Try.underlying25 h
  have g0 : DataW.trod enc Try.prog W 0 (fun _ => true) true n 2 [c0] = some y0 := by simpa [eI64] using h0
  have g1 : DataW.trod enc Try.prog W 0 (fun _ => true) true n 2 [c1] = some y1 := by simpa [eI64] using h1
  have g2 : DataW.trod enc Try.prog W 0 (fun _ => true) true n 2 [c2] = some y2 := by simpa [eI64] using h2
  have g3 : DataW.trod enc Try.prog W 0 (fun _ => true) true n 4 [c3] = some y3 := by simpa [eBool] using h3
  have g4 : DataW.trod enc Try.prog W 0 (fun _ => true) true n 4 [c4] = some y4 := by simpa [eBool] using h4
  have g5 : DataW.trod enc Try.prog W 0 (fun _ => true) true n 22 [c5] = some y5 := by simpa [eExts] using h5
  have g6 : DataW.trod enc Try.prog W 0 (fun _ => true) true n 23 [c6] = some y6 := by simpa [eUses] using h6
  obtain ⟨a0, rfl⟩ := open_i64 g0
  obtain ⟨a1, rfl⟩ := open_i64 g1
  obtain ⟨a2, rfl⟩ := open_i64 g2
  obtain ⟨a3, rfl⟩ := open_b g3
  obtain ⟨a4, rfl⟩ := open_b g4
  obtain ⟨l5, i5⟩ := open_exts g5
  obtain ⟨l6, i6⟩ := open_uses g6
  exact ⟨⟨a0, a1, a2, a3, a4, l5, l6⟩, rfl, rfl, rfl, rfl, rfl, i5, i6⟩
/-- What Asked holds. -/
structure AskA where
  p : Pl
  vf : Value
  vu : Value
  u : Nm
  n : Int
  vl : Value
  l : List X
def askA (s : AskA) : Array Value := #[.int .i64 s.p.size, .int .i64 s.p.grain, .int .i64 s.p.quota, .bool s.p.drain, .bool s.p.best, s.vf, s.vu, .string (str s.u), .int .i64 s.n, s.vl]
structure AskW (W : World) (s : AskA) : Prop where
  hf : Rd W s.vf s.p.free
  hu : RdU W s.vu s.p.uses
  hl : Rd W s.vl s.l
theorem open_asked {v : Value} {d : DataW H} {p : List MemPlace} (hv : Value.okWide Try.prog W .any 0 27 v) (h : DataW.Trod enc Try.prog W 0 (fun _ => true) true 27 v d p) :
    ∃ s : AskA, v = .agg (askA s) ∧ AskW W s := by
  obtain ⟨cs, rfl, hsz⟩ := okWide_struct Try.underlying27 hv
  obtain ⟨c0, c1, c2, c3, c4, c5, c6, c7, c8, c9, rfl⟩ := array10 (hsz.trans (by kernel_rfl))
  obtain ⟨fuel, hf⟩ := h
  obtain ⟨y0, y1, y2, y3, n, _, _, h0, h1, h2, h3⟩ := trod_struct4 Try.underlying27 hf
  have g0 : DataW.trod enc Try.prog W 0 (fun _ => true) true n 25 [c0, c1, c2, c3, c4, c5, c6] = some y0 := by simpa [Value.cells, ePool] using h0
  have g1 : DataW.trod enc Try.prog W 0 (fun _ => true) true n 9 [c7] = some y1 := by simpa [Value.cells, eStr] using h1
  have g2 : DataW.trod enc Try.prog W 0 (fun _ => true) true n 2 [c8] = some y2 := by simpa [Value.cells, eI64] using h2
  have g3 : DataW.trod enc Try.prog W 0 (fun _ => true) true n 22 [c9] = some y3 := by simpa [Value.cells, eExts] using h3
  obtain ⟨q, rfl, rfl, rfl, rfl, rfl, hf1, hu1⟩ := open_pool g0
  obtain ⟨u, rfl⟩ := open_s g1
  obtain ⟨k, rfl⟩ := open_i64 g2
  obtain ⟨l, hl⟩ := open_exts g3
  exact ⟨⟨q, c5, c6, u, k, c9, l⟩, rfl, hf1, hu1, hl⟩
/-! Acts -/
abbrev Ac := Nat × Nat × Int
def RdA (w : World) (v : Value) (L : List Ac) : Prop :=
  (∃ p c, v = .slice p 0 c ∧ L = []) ∨ ∃ b off c, v = .slice (some ⟨b, off, none⟩) L.length c ∧ b < w.heap.size ∧ (∀ j, j < L.length → w.cell? ⟨b, off + j * 3, none⟩ = some (.int .u8 (L[j]!.1 : Int)) ∧ w.cell? ⟨b, off + j * 3 + 1, none⟩ = some (.int .u8 (L[j]!.2.1 : Int)) ∧ w.cell? ⟨b, off + j * 3 + 2, none⟩ = some (.int .i64 L[j]!.2.2)) ∧ ∀ a ∈ L, a.1 < 256 ∧ a.2.1 < 256
theorem RdA.next {w w' : World} {v : Value} {L : List Ac} (h : RdA w v L) (hb : RowKit.Below w.heap.size w w') : RdA w' v L := by
  rcases h with h | ⟨b, off, c, e, hlt, hc, hs⟩
  · exact .inl h
  · exact .inr ⟨b, off, c, e, Nat.lt_of_lt_of_le hlt hb.size, fun j hj => ⟨(hb.cell (p := ⟨b, off + j * 3, none⟩) hlt).trans (hc j hj).1, (hb.cell (p := ⟨b, off + j * 3 + 1, none⟩) hlt).trans (hc j hj).2.1, (hb.cell (p := ⟨b, off + j * 3 + 2, none⟩) hlt).trans (hc j hj).2.2⟩, hs⟩
theorem open_acts {fuel : Nat} {v : Value} {x : DataW H × List MemPlace} (h : DataW.trod enc Try.prog W 0 (fun _ => true) true fuel 42 [v] = some x) : ∃ L, RdA W v L := by
  rcases open_slice Try.underlying42 h with ⟨hcs, _⟩ | ⟨a, len, cap, m, n, D, Pl, hcs, _, hle, _, hm, _, hi⟩
  · simp at hcs
    subst hcs
    exact ⟨[], .inl ⟨none, 0, rfl, rfl⟩⟩
  · simp at hcs
    subst hcs
    simp at hm
    have hcell : ∀ i, i < len → ∃ y : Ac, (W.cell? (a.add (i * 3)) = some (.int .u8 (y.1 : Int)) ∧ W.cell? (a.add (i * 3 + 1)) = some (.int .u8 (y.2.1 : Int)) ∧ W.cell? (a.add (i * 3 + 2)) = some (.int .i64 y.2.2)) ∧ y.1 < 256 ∧ y.2.1 < 256 := by
      intro i hil
      obtain ⟨cs', hc, ht⟩ := hi i (by omega)
      rw [eAct] at hc
      obtain ⟨_, hl, hcells⟩ := World.cells?_some hc
      obtain ⟨y0, y1, y2, n', _, _, h0, h1, h2⟩ := Go.Deep.trod_struct3 Try.underlying49 ht
      match cs', hl with
      | [u0, u1, u2], _ =>
        simp only [eU8, eI64, List.drop_zero, List.drop_succ_cons, List.take_succ_cons, List.take_zero] at h0 h1 h2
        obtain ⟨n0, rfl, b0⟩ := open_u8 h0
        obtain ⟨n1, rfl, b1⟩ := open_u8 h1
        obtain ⟨n2, rfl⟩ := open_i64 h2
        have g0 := hcells 0 (by omega)
        have g1 := hcells 1 (by omega)
        have g2 := hcells 2 (by omega)
        rw [add_add] at g0 g1 g2
        exact ⟨(n0, n1, n2), ⟨g0, g1, g2⟩, b0, b1⟩
    clear hi
    rcases Nat.eq_zero_or_pos len with h0 | h0
    · subst h0
      exact ⟨[], .inl ⟨some a, cap, rfl, rfl⟩⟩
    · obtain ⟨b, off, spot⟩ := a
      obtain ⟨y, hc, _⟩ := hcell 0 h0
      have hspot : spot = none := by simpa [Addr.add] using World.cell?_spot hc.1
      subst hspot
      have hadd : ∀ j, (⟨b, off, none⟩ : Addr).add j = ⟨b, off + j, none⟩ := fun j => by unfold Addr.add; split <;> simp_all
      have hb : b < W.heap.size := by have := hc.1; rw [hadd] at this; exact World.block_lt_of_cell? W _ this
      have hex : ∀ i, ∃ y : Ac, (i < len → W.cell? ⟨b, off + i * 3, none⟩ = some (.int .u8 (y.1 : Int)) ∧ W.cell? ⟨b, off + i * 3 + 1, none⟩ = some (.int .u8 (y.2.1 : Int)) ∧ W.cell? ⟨b, off + i * 3 + 2, none⟩ = some (.int .i64 y.2.2)) ∧ y.1 < 256 ∧ y.2.1 < 256 := by
        intro i
        by_cases hl : i < len
        · obtain ⟨y, h1, h2⟩ := hcell i hl
          rw [hadd, hadd, hadd] at h1
          exact ⟨y, fun _ => h1, h2⟩
        · exact ⟨(0, 0, 0), fun h => absurd h hl, by decide, by decide⟩
      refine ⟨(List.range len).map fun i => Classical.choose (hex i), .inr ⟨b, off, cap, by simp, hb, fun j hj => ?_, fun a ha => ?_⟩⟩
      · have hj' : j < len := by simpa using hj
        have e : ((List.range len).map fun i => Classical.choose (hex i))[j]! = Classical.choose (hex j) := by
          rw [getElem!_pos _ j hj]
          simp
        rw [e]
        exact (Classical.choose_spec (hex j)).1 hj'
      · obtain ⟨i, _, rfl⟩ := List.mem_map.1 ha
        exact (Classical.choose_spec (hex i)).2
structure PlyA where
  size : Int
  grain : Int
  quota : Int
  v : Value
  L : List Ac
def plyA (s : PlyA) : Array Value := #[.int .i64 s.size, .int .i64 s.grain, .int .i64 s.quota, s.v]
theorem open_plays {v : Value} {d : DataW H} {p : List MemPlace} (hv : Value.okWide Try.prog W .any 0 44 v) (h : DataW.Trod enc Try.prog W 0 (fun _ => true) true 44 v d p) :
    ∃ s : PlyA, v = .agg (plyA s) ∧ RdA W s.v s.L ∧ -9223372036854775808 ≤ s.size ∧ s.size ≤ 9223372036854775807 := by
  obtain ⟨cs, rfl, hsz⟩ := okWide_struct Try.underlying44 hv
  obtain ⟨c0, c1, c2, c3, rfl⟩ := array4 (hsz.trans (by kernel_rfl))
  obtain ⟨fuel, hf⟩ := h
  obtain ⟨y0, y1, y2, y3, n, _, _, h0, h1, h2, h3⟩ := trod_struct4 Try.underlying44 hf
  have g0 : DataW.trod enc Try.prog W 0 (fun _ => true) true n 2 [c0] = some y0 := by simpa [Value.cells, eI64] using h0
  have g1 : DataW.trod enc Try.prog W 0 (fun _ => true) true n 2 [c1] = some y1 := by simpa [Value.cells, eI64] using h1
  have g2 : DataW.trod enc Try.prog W 0 (fun _ => true) true n 2 [c2] = some y2 := by simpa [Value.cells, eI64] using h2
  have g3 : DataW.trod enc Try.prog W 0 (fun _ => true) true n 42 [c3] = some y3 := by simpa [Value.cells, eActs] using h3
  obtain ⟨k, rfl, b0, b1⟩ := open_int64 g0
  obtain ⟨g, rfl⟩ := open_i64 g1
  obtain ⟨q, rfl⟩ := open_i64 g2
  obtain ⟨L, hL⟩ := open_acts g3
  exact ⟨⟨k, g, q, c3, L⟩, rfl, hL, b0, b1⟩
end
end Go.Proofs.Ytdjpnlkhdilakaa.gn
