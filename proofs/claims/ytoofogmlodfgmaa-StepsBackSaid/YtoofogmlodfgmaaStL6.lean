/- StepsBack: what its numbers are. -/
import Derived.Test.YtoofogmlodfgmaaStL3
namespace Go.Proofs.Ytoofogmlodfgmaa.gn
open Go.RowKit Go.Shelf
open Go.Proofs.Ytoofogmlodfgmaa.sp

theorem bad_least {L : List (Int × Int)} {lo hi n : Int} (hL : Ok L) (h0 : Q lo) (h1 : Q hi) (hn : Q n) (hb : Bad L lo hi (-n)) : lst L lo hi < n := by
  obtain ⟨t, ht, hq⟩ := hb
  have hv := hL.val ht.1
  unfold more at hq
  split at hq
  · rename_i hc
    have low := (lst_is hL h0 h1).low t hc.1 hc.2
    by_cases h : lst L lo hi < n
    · exact h
    · exact absurd ⟨by have := hv.1; omega, by have := hv.2; have := hn.1; omega⟩ hq
  · exact absurd (by rw [Int.add_zero]; exact hv) hq
theorem turned_least {L M : List (Int × Int)} {lo hi n : Int} (hL : Ok L) (h : Turned L lo hi (-n) M) (hM : Ok M) (h0 : Q lo) (h1 : Q hi) (hlt : lo < hi) : n ≤ lst L lo hi := by
  obtain ⟨t, a, b, e⟩ := lst_seen hL h0 h1 hlt
  have ht : 0 ≤ t := by have := h0.1; omega
  have e2 := h.val t ht
  unfold more at e2
  rw [if_pos ⟨a, b⟩] at e2
  have := (hM.val ht).1
  omega
theorem turned_at {L M : List (Int × Int)} {lo hi n t : Int} (h : Turned L lo hi (-n) M) (ht : Q t) : val M t = if lo ≤ t ∧ t < hi then val L t - n else val L t := by
  rw [h.val t ht.1]; unfold more; split <;> omega
theorem give_good {L M : List (Int × Int)} {lo hi n : Int} (hL : Ok L) (h : Turned L lo hi (-n) M) : ∀ t, Q t → Q (more M lo hi n t) := by
  intro t ht
  have := back_val h ht.1
  rw [Int.neg_neg] at this
  rw [this]
  exact hL.val ht.1
theorem give_same {L M M' : List (Int × Int)} {lo hi n : Int} (h : Turned L lo hi (-n) M) (h' : Turned M lo hi n M') : samB M' L = true := by
  have := same_back (M' := M') h (by rw [Int.neg_neg]; exact h')
  exact this.2
theorem two_good {L M C : List (Int × Int)} {lo hi n lo' hi' n' : Int} (hL : Ok L) (hC : Ok C) (hn : Q n) (hn' : Q n') (h : Turned L lo hi (-n) M) (h2 : Turned M lo' hi' (-n') C) : ∀ t, Q t → Q (more L lo' hi' (-n') t) := by
  intro t ht
  have e1 := h.val t ht.1
  have e2 := h2.val t ht.1
  have hc := hC.val ht.1
  have hv := hL.val ht.1
  unfold more at e1 e2 ⊢
  have := hn.1
  have := hn'.1
  have := hv.1
  have := hv.2
  have := hc.1
  split
  · rename_i hh
    rw [if_pos hh] at e2
    exact ⟨by split at e1 <;> omega, by omega⟩
  · rw [Int.add_zero]; exact hv
theorem two_good2 {L M C D : List (Int × Int)} {lo hi n lo' hi' n' : Int} (h : Turned L lo hi (-n) M) (h2 : Turned M lo' hi' (-n') C) (h3 : Turned L lo' hi' (-n') D) : ∀ t, Q t → more D lo hi (-n) t = val C t := by
  intro t ht
  have e1 := h.val t ht.1
  have e2 := h2.val t ht.1
  have e3 := h3.val t ht.1
  unfold more at e1 e2 e3 ⊢
  rw [e2, e1, e3]
  split <;> split <;> omega
theorem two_same {L M C D X : List (Int × Int)} {lo hi n lo' hi' n' : Int} (h : Turned L lo hi (-n) M) (h2 : Turned M lo' hi' (-n') C) (h3 : Turned L lo' hi' (-n') D) (h4 : Turned D lo hi (-n) X) : samB C X = true :=
  samB_yes fun t ht => ((h4.val t ht.1).trans (two_good2 h h2 h3 t ht)).symm
end Go.Proofs.Ytoofogmlodfgmaa.gn
