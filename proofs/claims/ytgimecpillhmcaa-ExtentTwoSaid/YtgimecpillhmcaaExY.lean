/- The laws' arguments, opened: a slice of extents, and a Back. -/
import Derived.Test.YtgimecpillhmcaaExB
import Derived.WalkKit
import Derived.ProofKit
import Derived.OpenShut
import Derived.Deep.Slices
import Derived.Deep.Strs
import Derived.Lib.SmallJoins
namespace Go.Proofs.Ytgimecpillhmcaa.gn
open Go.ChangeShapes Go.WideShapes Go.ChangeAt Go.RowKit Go.Joins Go.Deep
open Go.Proofs.Ytgimecpillhmcaa.ex
set_option linter.unusedVariables false

section
variable {H : Type} {enc : TypeId × Value → H} {W : World}
theorem eExt : Try.prog.cellsOf 37 = 2 := by kernel_rfl
theorem eI64 : Try.prog.cellsOf 2 = 1 := by kernel_rfl
theorem eExts : Try.prog.cellsOf 22 = 1 := by kernel_rfl
theorem eBool : Try.prog.cellsOf 4 = 1 := by kernel_rfl
theorem open_i64 {fuel : Nat} {v : Value} {x : DataW H × List MemPlace} (h : DataW.trod enc Try.prog W 0 (fun _ => true) true fuel 2 [v] = some x) : ∃ n : Int, v = .int .i64 n := by
  obtain ⟨k, hk, _, _⟩ := DataW.trod_int Try.underlying2 h
  simp at hk
  exact ⟨k, hk⟩
theorem open_exts {fuel : Nat} {v : Value} {x : DataW H × List MemPlace} (h : DataW.trod enc Try.prog W 0 (fun _ => true) true fuel 22 [v] = some x) : ∃ l, Rd W v l := by
  rcases open_slice Try.underlying22 h with ⟨hcs, _⟩ | ⟨a, len, cap, m, n, D, Pl, hcs, _, hle, _, hm, _, hi⟩
  · simp at hcs
    exact ⟨[], .inl ⟨none, 0, hcs, rfl, fun _ => rfl⟩⟩
  · simp at hcs
    subst hcs
    simp at hm
    have hcell : ∀ i, i < len → ∃ y : X, W.cell? (a.add (i * 2)) = some (.int .i64 y.1) ∧ W.cell? (a.add (i * 2 + 1)) = some (.int .i64 y.2) := by
      intro i hil
      obtain ⟨cs', hc, ht⟩ := hi i (by omega)
      rw [eExt] at hc
      obtain ⟨_, hl, hcells⟩ := World.cells?_some hc
      obtain ⟨y0, y1, n', _, _, h0, h1⟩ := trod_struct2 Try.underlying37 ht
      match cs', hl with
      | [u0, u1], _ =>
        simp only [eI64, List.drop_zero, List.drop_succ_cons, List.take_succ_cons, List.take_zero] at h0 h1
        obtain ⟨n0, rfl⟩ := open_i64 h0
        obtain ⟨n1, rfl⟩ := open_i64 h1
        have g0 := hcells 0 (by omega)
        have g1 := hcells 1 (by omega)
        rw [add_add] at g0 g1
        exact ⟨(n0, n1), g0, g1⟩
    clear hi
    rcases Nat.eq_zero_or_pos len with h0 | h0
    · subst h0
      exact ⟨[], .inl ⟨some a, cap, rfl, rfl, fun e => (by cases e)⟩⟩
    · obtain ⟨b, off, spot⟩ := a
      obtain ⟨y, hc, _⟩ := hcell 0 h0
      have hspot : spot = none := by simpa [Addr.add] using World.cell?_spot hc
      subst hspot
      have hadd : ∀ j, (⟨b, off, none⟩ : Addr).add j = ⟨b, off + j, none⟩ := fun j => by unfold Addr.add; split <;> simp_all
      have hb : b < W.heap.size := by rw [hadd] at hc; exact World.block_lt_of_cell? W _ hc
      have hex : ∀ i, ∃ y : X, i < len → W.cell? ⟨b, off + i * 2, none⟩ = some (.int .i64 y.1) ∧ W.cell? ⟨b, off + i * 2 + 1, none⟩ = some (.int .i64 y.2) := by
        intro i
        by_cases hl : i < len
        · obtain ⟨y, h1, h2⟩ := hcell i hl
          rw [hadd] at h1 h2
          exact ⟨y, fun _ => ⟨h1, h2⟩⟩
        · exact ⟨(0, 0), fun h => absurd h hl⟩
      refine ⟨(List.range len).map fun i => Classical.choose (hex i), .inr ⟨b, off, cap, by simp, hb, fun j hj => ?_⟩⟩
      have hj' : j < len := by simpa using hj
      have e : ((List.range len).map fun i => Classical.choose (hex i))[j]! = Classical.choose (hex j) := by
        rw [getElem!_pos _ j hj]
        simp
      rw [e]
      exact Classical.choose_spec (hex j) hj'
theorem array4 {α : Type} {cs : Array α} (h : cs.size = 4) : ∃ c0 c1 c2 c3, cs = #[c0, c1, c2, c3] := by
  obtain ⟨l⟩ := cs
  match l, h with
  | [c0, c1, c2, c3], _ => exact ⟨c0, c1, c2, c3, rfl⟩
/-- What Back holds. -/
structure BkA where
  v : Value
  n : Int
  x : Int
  b : Bool
  l : List X
def bkA (s : BkA) : Array Value := #[s.v, .int .i64 s.n, .int .i64 s.x, .bool s.b]
theorem open_backs {v : Value} {d : DataW H} {p : List MemPlace} (hv : Value.okWide Try.prog W .any 0 24 v) (h : DataW.Trod enc Try.prog W 0 (fun _ => true) true 24 v d p) :
    ∃ s : BkA, v = .agg (bkA s) ∧ Rd W s.v s.l := by
  obtain ⟨cs, rfl, hsz⟩ := okWide_struct Try.underlying24 hv
  obtain ⟨c0, c1, c2, c3, rfl⟩ := array4 (hsz.trans (by kernel_rfl))
  obtain ⟨fuel, hf⟩ := h
  obtain ⟨y0, y1, y2, y3, n, _, _, h0, h1, h2, h3⟩ := trod_struct4 Try.underlying24 hf
  have g0 : DataW.trod enc Try.prog W 0 (fun _ => true) true n 22 [c0] = some y0 := by simpa [Value.cells, eExts] using h0
  have g1 : DataW.trod enc Try.prog W 0 (fun _ => true) true n 2 [c1] = some y1 := by simpa [Value.cells, eI64] using h1
  have g2 : DataW.trod enc Try.prog W 0 (fun _ => true) true n 2 [c2] = some y2 := by simpa [Value.cells, eI64] using h2
  have g3 : DataW.trod enc Try.prog W 0 (fun _ => true) true n 4 [c3] = some y3 := by simpa [Value.cells, eBool] using h3
  obtain ⟨l, hl⟩ := open_exts g0
  obtain ⟨k, rfl⟩ := open_i64 g1
  obtain ⟨q, rfl⟩ := open_i64 g2
  obtain ⟨b, hb⟩ : ∃ b : Bool, c3 = .bool b := by
    obtain ⟨b, hb, _⟩ := DataW.trod_bool Try.underlying4 g3
    simp at hb
    exact ⟨b, hb⟩
  subst hb
  exact ⟨⟨c0, k, q, b, l⟩, rfl, hl⟩
end
end Go.Proofs.Ytgimecpillhmcaa.gn
