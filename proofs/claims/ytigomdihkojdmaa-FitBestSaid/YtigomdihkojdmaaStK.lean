/- What the loop of change joins is what the turn leaves. -/
import Derived.Test.YtigomdihkojdmaaStF
import Derived.Test.YtigomdihkojdmaaStN
namespace Go.Proofs.Ytigomdihkojdmaa.gn
open Go.RowKit
open Go.Proofs.Ytigomdihkojdmaa.sp

theorem cut2_rise {L C : List (Int × Int)} {lo hi : Int} (hC : Cut2 L lo hi C) : (C.map Prod.fst).Pairwise (· < ·) := by rw [List.pairwise_map]; exact hC.rise
theorem cut2_marks {L C : List (Int × Int)} {lo hi : Int} (hC : Cut2 L lo hi C) : Marks L lo hi (C.map Prod.fst) :=
  ⟨cut2_rise hC, fun t ht => by obtain ⟨p, hp, rfl⟩ := List.mem_map.1 ht; exact hC.quant p hp, fun p hp => by obtain ⟨n, hn⟩ := hC.all p hp; exact List.mem_map.2 ⟨_, hn, rfl⟩,
   by obtain ⟨n, hn⟩ := hC.lo; exact List.mem_map.2 ⟨_, hn, rfl⟩, by obtain ⟨n, hn⟩ := hC.hi; exact List.mem_map.2 ⟨_, hn, rfl⟩⟩
theorem step_at (C : List (Int × Int)) (k : Nat) (hk : k < C.length) : step (C.map Prod.fst) (C.map Prod.snd) k = (((C[k]).1, nxt (C.map Prod.fst) k), (C[k]).2) := by
  unfold step
  rw [List.getElem?_eq_getElem (by simpa using hk), List.getElem?_eq_getElem (by simpa using hk)]
  simp
/-- The window behind a step's time ends where the next one begins. -/
theorem nxt_lt {L C : List (Int × Int)} {lo hi : Int} (hC : Cut2 L lo hi C) (k : Nat) (hk : k < C.length) (t : Int) (ht : ∃ n, (t, n) ∈ C) : t < nxt (C.map Prod.fst) k ↔ t ≤ (C[k]).1 := by
  obtain ⟨n, hn⟩ := ht
  obtain ⟨i, hi', e⟩ := List.getElem_of_mem hn
  have hr := List.pairwise_iff_getElem.1 hC.rise
  have ei : (C[i]).1 = t := by rw [e]
  unfold nxt
  split
  · next h =>
    rw [List.length_map] at h
    rw [List.getElem?_eq_getElem (by simpa using h)]
    simp only [List.getElem_map, Option.getD_some]
    constructor
    · intro hlt
      by_cases hik : i ≤ k
      · rcases Nat.lt_or_eq_of_le hik with h3 | h3
        · have := hr i k hi' hk h3; omega
        · subst h3; omega
      · rcases Nat.lt_or_eq_of_le (show k + 1 ≤ i by omega) with h3 | h3
        · have := hr (k + 1) i h hi' h3; omega
        · subst h3; omega
    · intro hle
      have := hr k (k + 1) hk h (by omega)
      omega
  · next h =>
    rw [List.length_map] at h
    have hq := hC.quant _ (List.getElem_mem hi')
    constructor
    · intro _
      rcases Nat.lt_or_eq_of_le (show i ≤ k by omega) with h3 | h3
      · have := hr i k hi' hk h3; omega
      · subst h3; omega
    · intro _
      have := hq.2; omega
theorem meets_is {L C : List (Int × Int)} {lo hi : Int} (hC : Cut2 L lo hi C) (k : Nat) (hk : k < C.length) : meets (C[k]).1 (nxt (C.map Prod.fst) k) lo hi = true ↔ lo ≤ (C[k]).1 ∧ (C[k]).1 < hi := by
  have h1 := nxt_lt hC k hk (C[k]).1 ⟨(C[k]).2, List.getElem_mem hk⟩
  have h2 := nxt_lt hC k hk lo hC.lo
  unfold meets
  rw [decide_eq_true_iff]
  generalize nxt (C.map Prod.fst) k = b at *
  generalize (C[k]).1 = a at *
  have h3 := h1.2 (Int.le_refl _)
  constructor
  · intro h
    exact ⟨h2.1 (by omega), by omega⟩
  · rintro ⟨h4, h5⟩
    omega
theorem wrap_id {n : Int} (h0 : -1099511627776 ≤ n) (h1 : n ≤ 2199023255552) : wrap64 n = n := by
  unfold wrap64; omega
theorem gx_is {L C : List (Int × Int)} {lo hi δ : Int} (hL : Ok L) (hC : Cut2 L lo hi C) (h0 : -1099511627776 ≤ δ) (h1 : δ ≤ 1099511627776) (k : Nat) (hk : k < C.length) : gxOf lo hi δ (step (C.map Prod.fst) (C.map Prod.snd) k) = more L lo hi δ (C[k]).1 := by
  rw [step_at C k hk]
  have hv := hC.val _ (List.getElem_mem hk)
  have hq := hL.val (hC.quant _ (List.getElem_mem hk)).1
  have hm := meets_is hC k hk
  rw [hv] at hq
  unfold gxOf more
  rw [hv]
  by_cases h : lo ≤ (C[k]).1 ∧ (C[k]).1 < hi
  · rw [if_pos h, if_pos (hm.2 h)]
    exact wrap_id (by have := hq.1; omega) (by have := hq.2; omega)
  · rw [if_neg h, if_neg fun h' => h (hm.1 h')]
    omega
theorem mj_pic {L C : List (Int × Int)} {lo hi δ : Int} (hL : Ok L) (hC : Cut2 L lo hi C) (h0 : -1099511627776 ≤ δ) (h1 : δ ≤ 1099511627776) : mj (gxOf lo hi δ) (upto (C.map Prod.fst) (C.map Prod.snd) C.length) = joins (pic (C.map Prod.fst) (more L lo hi δ)) := by
  unfold mj pic
  congr 1
  unfold upto
  rw [List.map_map, List.map_map]
  apply List.ext_getElem
  · simp
  · intro k hk1 hk2
    have hk : k < C.length := by simpa using hk1
    simp only [List.getElem_map, List.getElem_range, Function.comp]
    rw [gx_is hL hC h0 h1 k hk, step_at C k hk]
theorem turn_ok {L C : List (Int × Int)} {lo hi δ : Int} (hL : Ok L) (hC : Cut2 L lo hi C) (h0 : -1099511627776 ≤ δ) (h1 : δ ≤ 1099511627776) (hg : ∀ x ∈ upto (C.map Prod.fst) (C.map Prod.snd) C.length, Q (gxOf lo hi δ x)) : Turned L lo hi δ (mj (gxOf lo hi δ) (upto (C.map Prod.fst) (C.map Prod.snd) C.length)) := by
  rw [mj_pic hL hC h0 h1]
  refine (cut2_marks hC).turned hL δ (by rw [List.length_map]; exact hC.len) fun t ht => ?_
  obtain ⟨p, hp, rfl⟩ := List.mem_map.1 ht
  obtain ⟨k, hk, rfl⟩ := List.getElem_of_mem hp
  rw [← gx_is hL hC h0 h1 k hk]
  exact hg _ (mem_upto.2 ⟨k, hk, rfl⟩)
theorem turn_bad {L C : List (Int × Int)} {lo hi δ : Int} (hL : Ok L) (hC : Cut2 L lo hi C) (h0 : -1099511627776 ≤ δ) (h1 : δ ≤ 1099511627776) {x : Wn} {k : Nat} (hk : k ≤ C.length) (hx : x ∈ upto (C.map Prod.fst) (C.map Prod.snd) k) (hq : ¬ Q (gxOf lo hi δ x)) : Bad L lo hi δ := by
  obtain ⟨i, hi', rfl⟩ := mem_upto.1 hx
  rw [gx_is hL hC h0 h1 i (by omega)] at hq
  exact (cut2_marks hC).bad (List.mem_map.2 ⟨_, List.getElem_mem (show i < C.length by omega), rfl⟩) hq
end Go.Proofs.Ytigomdihkojdmaa.gn
