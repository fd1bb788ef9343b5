/- Which step has a time; the iterator's maker. -/
import Derived.Test.YtigomdihkojdmaaFtM
import Derived.Test.YtigomdihkojdmaaStPc
namespace Go.Proofs.Ytigomdihkojdmaa.gn
open Go.RowKit Go.Shelf
open Go.Proofs.Ytigomdihkojdmaa.sp

/-- Where a time would stand tells which step has it. -/
theorem ix_of {L : List (Int × Int)} (hL : Ok L) {t : Int} (ht : 0 ≤ t) {i : Nat} {b : Bool} (hi : i ≤ (L.map Prod.fst).length)
    (hlo : ∀ q (h : q < (L.map Prod.fst).length), q < i → (L.map Prod.fst)[q] < t) (hhi : ∀ q (h : q < (L.map Prod.fst).length), i ≤ q → t ≤ (L.map Prod.fst)[q]) (hb : b = true ↔ ∃ h : i < (L.map Prod.fst).length, (L.map Prod.fst)[i] = t) :
    if b = true then i = ix L t else 0 < i ∧ i - 1 = ix L t := by
  have hr := List.pairwise_iff_getElem.1 hL.rise
  rw [List.length_map] at hi
  by_cases hbt : b = true
  · rw [if_pos hbt]
    obtain ⟨h, e⟩ := hb.1 hbt
    have h' : i < L.length := by rw [List.length_map] at h; exact h
    rw [List.getElem_map] at e
    have hx : IxAt L t i := ⟨h', by omega, fun q hq hqi => by have := hr i q h' hq hqi; omega⟩
    exact (hx.ix hL.rise).symm
  · rw [if_neg hbt]
    obtain ⟨n, hn⟩ := hL.zero
    obtain ⟨z, hz, e⟩ := List.getElem_of_mem hn
    have hi0 : 0 < i := by
      refine Nat.pos_of_ne_zero fun h0 => ?_
      subst h0
      have h1 := hhi z (by rw [List.length_map]; exact hz) (Nat.zero_le _)
      rw [List.getElem_map, e] at h1
      have h2 : t = 0 := by simp at h1; omega
      have h4 : z = 0 := by
        refine Classical.byContradiction fun h5 => ?_
        have h6 := hr 0 z (by omega) hz (by omega)
        have h7 := hhi 0 (by rw [List.length_map]; omega) (Nat.le_refl _)
        rw [List.getElem_map] at h7
        rw [e] at h6
        simp at h6
        omega
      subst h4
      exact hbt (hb.2 ⟨by rw [List.length_map]; exact hz, by rw [List.getElem_map, e, h2]⟩)
    refine ⟨hi0, ?_⟩
    have hx : IxAt L t (i - 1) := ⟨by omega, by
      have := hlo (i - 1) (by rw [List.length_map]; omega) (by omega)
      rw [List.getElem_map] at this
      omega, fun q hq hqi => by
      have h1 := hhi q (by rw [List.length_map]; exact hq) (by omega)
      rw [List.getElem_map] at h1
      refine Classical.byContradiction fun h2 => ?_
      have hil : i < L.length := by omega
      refine hbt (hb.2 ⟨by rw [List.length_map]; exact hil, ?_⟩)
      have h3 := hhi i (by rw [List.length_map]; exact hil) (Nat.le_refl _)
      rw [List.getElem_map] at h3
      rw [List.getElem_map]
      rcases Nat.lt_or_eq_of_le (show i ≤ q by omega) with h4 | h4
      · have := hr i q hil hq h4; omega
      · subst h4; omega⟩
    exact (hx.ix hL.rise).symm

theorem step_any {w : World} {v : Value} {L : List (Int × Int)} {t : Int} (h : Prof w v (L.map Prod.fst) (L.map Prod.snd)) (hL : Ok L) (ht : 0 ≤ t) :
    Calls Try.prog 36 #[v, .int .i64 t] w (Tells (ix L t : Nat) w) := by
  obtain ⟨v1, v2, rfl, h1, h2⟩ := h
  have hpos : 0 < L.length := by obtain ⟨n, hn⟩ := hL.zero; exact List.length_pos_of_mem hn
  have hrise : (L.map Prod.fst).Pairwise (· < ·) := by rw [List.pairwise_map]; exact hL.rise
  obtain ⟨hm1, a1, c1, rfl, ⟨hc1, hcm1⟩, hx1 | ⟨b1, o1, rfl, hcell1⟩⟩ := h1
  · rw [List.length_map] at hx1; omega
  have HS := Lib.hid fun (W : World) (hW : Below w.heap.size w W) => search_some b1 o1 c1 (L.map Prod.fst) t W (by rw [List.length_map]; have := hL.le; omega) hrise (fun j hj => (hW.cell (p := ⟨b1, o1 + j, none⟩) (cell_lt (hcell1 j hj))).trans (hcell1 j hj))
  have HL := Lib.hid hL
  have hle : L.length ≤ 2000 := hL.le
  have HB0 : Hid (∀ x, Below w.heap.size w (w.alloc x)) := fun x => (Below.refl _ _).alloc (Nat.le_refl _) _
  have hlen1 : (L.map Prod.fst).length = L.length := List.length_map _
  clear hcell1 h2 hrise hL hm1 hc1 hcm1
  generalize hn1 : (L.map Prod.fst).length = n1 at *
  have HN1 := Lib.hid hn1
  have HL1 := Lib.hid hlen1
  clear hn1 hlen1
  go_enter Try.func36, Try.ntmps36
  go_wp2_with fail
  refine (HS.out _ (HB0.out _)).mono ?_
  rintro e w1 ⟨i, there, hi, hlo, hhi, hth, rfl, rfl⟩
  have hix := ix_of HL.out ht hi hlo hhi hth
  replace hi : i ≤ L.length := by rw [List.length_map] at hi; exact hi
  clear hlo hhi hth
  cases there with
  | true =>
    have hix : i = ix L t := hix
    have HI := Lib.hid hix
    clear hix
    go_wp2
    go_ret
    exact ⟨ret_i64 (by rw [← HI.out]), HB0.out _⟩
  | false =>
    have hix : 0 < i ∧ i - 1 = ix L t := hix
    obtain ⟨hi0, hix⟩ := hix
    have hw1 : IntKind.i64.wrap ((i : Int) - 1) = (i : Int) - 1 := IntWalk.i64_in _ (by omega)
    have HI : Hid ((i : Int) - 1 = ((ix L t : Nat) : Int)) := by show _ = _; omega
    clear hix
    go_wp2
    go_ret
    exact ⟨ret_i64 HI.out, HB0.out _⟩

theorem free_any (v1 v2 : Value) (f n : Int) (w : World) :
    Calls Try.prog 19 #[.agg #[v1, v2], .int .i64 f, .int .i64 n] w fun e w' => e = .returned (.func (.func 35) #[] #[.pointer (some ⟨w.heap.size + 1, 0, none⟩), .pointer (some ⟨w.heap.size, 0, none⟩), .pointer (some ⟨w.heap.size + 1 + 1, 0, none⟩)]) ∧
      ((w.alloc (.cells #[v1, v2] 24)).alloc (.cells #[.int .i64 f] 2)).alloc (.cells #[.int .i64 n] 2) = w' := by
  go_enter Try.func19, Try.ntmps19
  go_wp2
  go_ret
  exact ⟨rfl, rfl⟩
end Go.Proofs.Ytigomdihkojdmaa.gn
