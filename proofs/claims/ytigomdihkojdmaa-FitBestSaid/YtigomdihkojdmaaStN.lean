/- Which two rows are a profile that may be: as the program asks it, as the document does. -/
import Derived.Test.YtigomdihkojdmaaStA
namespace Go.Proofs.Ytigomdihkojdmaa.gn
open Go.Proofs.Ytigomdihkojdmaa.sp

/-- Two rows are a profile that may be. -/
def OkP (at_ n : List Int) : Prop := ∃ L : List (Int × Int), Ok L ∧ at_ = L.map Prod.fst ∧ n = L.map Prod.snd

abbrev g (l : List Int) (i : Nat) : Int := l[i]?.getD 0
theorem g_of {l : List Int} {i : Nat} (h : i < l.length) : g l i = l[i] := by unfold g; rw [List.getElem?_eq_getElem h]; rfl
theorem rise_iff (l : List Int) : l.Pairwise (· < ·) ↔ ∀ i, i + 1 < l.length → g l i < g l (i + 1) := by
  rw [List.pairwise_iff_getElem]
  constructor
  · intro h i hi
    rw [g_of (by omega), g_of hi]
    exact h i (i + 1) (by omega) hi (by omega)
  · intro h
    have h2 : ∀ d i, i + d + 1 < l.length → g l i < g l (i + d + 1) := by
      intro d
      induction d with
      | zero => intro i hi; exact h i hi
      | succ d ih =>
        intro i hi
        have h3 := ih i (by omega)
        have h4 := h (i + d + 1) (by omega)
        show g l i < g l (i + d + 1 + 1)
        omega
    intro i j hi hj hij
    have h3 := h2 (j - i - 1) i (by omega)
    rw [show i + (j - i - 1) + 1 = j by omega, g_of hi, g_of hj] at h3
    exact h3
theorem zip_maps {at_ n : List Int} (h : at_.length = n.length) : (at_.zip n).map Prod.fst = at_ ∧ (at_.zip n).map Prod.snd = n :=
  ⟨List.map_fst_zip (by omega), List.map_snd_zip (by omega)⟩
theorem OkP.mk {at_ n : List Int} (h1 : at_.length = n.length) (h2 : at_.length ≤ 2000) (hr : at_.Pairwise (· < ·)) (h0 : 0 < at_.length) (hz : g at_ 0 = 0) (hq : ∀ i, i < at_.length → Q (g at_ i) ∧ Q (g n i)) : OkP at_ n := by
  obtain ⟨m1, m2⟩ := zip_maps h1
  refine ⟨at_.zip n, ⟨by rw [List.length_zip]; omega, ?_, ?_, ?_⟩, m1.symm, m2.symm⟩
  · unfold Rise
    rw [← m1, List.pairwise_map] at hr
    exact hr
  · refine ⟨g n 0, ?_⟩
    have : (at_.zip n)[0]'(by rw [List.length_zip]; omega) = (0, g n 0) := by
      rw [List.getElem_zip, ← g_of, hz, ← g_of]
    rw [← this]
    exact List.getElem_mem _
  · intro p hp
    obtain ⟨i, hi, rfl⟩ := List.getElem_of_mem hp
    have hi' : i < at_.length := by rw [List.length_zip] at hi; omega
    rw [List.getElem_zip]
    have := hq i hi'
    rw [g_of hi', g_of (by omega)] at this
    exact this
theorem OkP.parts {at_ n : List Int} (h : OkP at_ n) : at_.length = n.length ∧ at_.length ≤ 2000 ∧ at_.Pairwise (· < ·) ∧ 0 < at_.length ∧ g at_ 0 = 0 ∧ ∀ i, i < at_.length → Q (g at_ i) ∧ Q (g n i) := by
  obtain ⟨L, hL, rfl, rfl⟩ := h
  obtain ⟨x, hx⟩ := hL.zero
  have hpos : 0 < L.length := List.length_pos_of_mem hx
  have hrise : (L.map Prod.fst).Pairwise (· < ·) := by rw [List.pairwise_map]; exact hL.rise
  refine ⟨by simp, by simpa using hL.le, hrise, by simpa using hpos, ?_, fun i hi => ?_⟩
  · rw [g_of (by simpa using hpos)]
    obtain ⟨i, hi, e⟩ := List.getElem_of_mem hx
    have h1 : (L.map Prod.fst)[i]'(by simpa using hi) = 0 := by simp [e]
    have h2 : 0 ≤ (L.map Prod.fst)[0]'(by simpa using hpos) := by
      have := (hL.quant _ (List.getElem_mem (l := L) hpos)).1.1
      simpa using this
    rw [List.pairwise_iff_getElem] at hrise
    rcases Nat.eq_zero_or_pos i with h0 | h0
    · subst h0; exact h1
    · have := hrise 0 i (by simpa using hpos) (by simpa using hi) h0
      omega
  · have hi' : i < L.length := by simpa using hi
    rw [g_of hi, g_of (by simpa using hi')]
    have := hL.quant _ (List.getElem_mem (l := L) hi')
    simpa using this

/-- A step that may be. -/
def goodS (x : Wn) : Prop := x.1.1 < x.1.2 ∧ Q x.2
theorem mem_upto {at_ n : List Int} {k : Nat} {x : Wn} : x ∈ upto at_ n k ↔ ∃ i, i < k ∧ step at_ n i = x := by
  unfold upto
  rw [List.mem_map]
  simp
/-- As the program asks it. -/
theorem okP_steps {at_ n : List Int} (h1 : at_.length = n.length) (h0 : 0 < at_.length) (h2 : at_.length ≤ 2000) (hz : g at_ 0 = 0) : OkP at_ n ↔ ∀ x ∈ upto at_ n at_.length, goodS x := by
  constructor
  · intro h x hx
    obtain ⟨_, _, hr, _, _, hq⟩ := h.parts
    obtain ⟨i, hi, rfl⟩ := mem_upto.1 hx
    refine ⟨?_, (hq i hi).2⟩
    show g at_ i < nxt at_ i
    unfold nxt
    split
    · next hlt => exact (rise_iff at_).1 hr i hlt
    · have := (hq i hi).1.2; omega
  · intro h
    have hs : ∀ i, i < at_.length → g at_ i < nxt at_ i ∧ Q (g n i) := fun i hi => h _ (mem_upto.2 ⟨i, hi, rfl⟩)
    have hr : at_.Pairwise (· < ·) := (rise_iff at_).2 fun i hi => by
      have := (hs i (by omega)).1
      unfold nxt at this
      rwa [if_pos hi] at this
    have hp := List.pairwise_iff_getElem.1 hr
    refine OkP.mk h1 h2 hr h0 hz fun i hi => ⟨⟨?_, ?_⟩, (hs i hi).2⟩
    · rcases Nat.eq_zero_or_pos i with e | e
      · subst e; omega
      · have := hp 0 i (by omega) hi e
        rw [← g_of, ← g_of] at this
        omega
    · have hl := (hs (at_.length - 1) (by omega)).1
      unfold nxt at hl
      rw [if_neg (by omega)] at hl
      by_cases e : i = at_.length - 1
      · subst e; omega
      · have := hp i (at_.length - 1) (by omega) (by omega) (by omega)
        rw [← g_of, ← g_of] at this
        omega
/-- As the document asks it. -/
def goodD (at_ n : List Int) (i : Nat) : Prop := Q (g at_ i) ∧ Q (g n i) ∧ (0 < i → g at_ (i - 1) < g at_ i)
theorem okP_doc {at_ n : List Int} (h1 : at_.length = n.length) (h0 : 0 < at_.length) (h2 : at_.length ≤ 2000) (hz : g at_ 0 = 0) : OkP at_ n ↔ ∀ i, i < at_.length → goodD at_ n i := by
  constructor
  · intro h i hi
    obtain ⟨_, _, hr, _, _, hq⟩ := h.parts
    refine ⟨(hq i hi).1, (hq i hi).2, fun h3 => ?_⟩
    have := (rise_iff at_).1 hr (i - 1) (by omega)
    rwa [show i - 1 + 1 = i by omega] at this
  · intro h
    refine OkP.mk h1 h2 ((rise_iff at_).2 fun i hi => ?_) h0 hz fun i hi => ⟨(h i hi).1, (h i hi).2.1⟩
    exact (h (i + 1) hi).2.2 (by omega)

open Classical in
/-- What Check answers. -/
noncomputable def chk (at_ n : List Int) : Int := if OkP at_ n then 0 else 2
theorem chk_yes {at_ n : List Int} (h : OkP at_ n) : chk at_ n = 0 := if_pos h
theorem chk_no {at_ n : List Int} (h : ¬ OkP at_ n) : chk at_ n = 2 := if_neg h
end Go.Proofs.Ytigomdihkojdmaa.gn
