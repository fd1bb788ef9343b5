/- The document's short. -/
import Derived.Test.YtdfiofjnijnodaaFjD
set_option linter.unusedVariables false
namespace Go.Proofs.Ytdfiofjnijnodaa.gn
open Go.RowKit
open Go.Proofs.Ytdfiofjnijnodaa.fi

set_option maxHeartbeats 4000000 in
set_option maxRecDepth 100000 in
theorem dshort_any (w : World) (v : Value) (L : List DF) (nm s : ByteArray) (q n many : Int) (h : FR w 0 v L) (hl : L.length ≤ 10000) (hbd : Bd 100000 L) (hs : s.size ≤ 1000000) (hq : 0 ≤ q ∧ q ≤ 4) :
    Calls Try.prog 50 #[v, .agg #[.int .i64 q, .string nm, .string s, .int .i64 n], .int .i64 many] w (DoesD L s w) := by
  have hz : (w.alloc (.cells #[.int .i64 q, .string nm, .string s, .int .i64 n] 61)).heap.size = w.heap.size + 1 := by simp
  have hb0 : Below w.heap.size w (w.alloc (.cells #[.int .i64 q, .string nm, .string s, .int .i64 n] 61)) := (Below.refl _ w).alloc (Nat.le_refl _) _
  have ho0 : OpB (w.alloc (.cells #[.int .i64 q, .string nm, .string s, .int .i64 n] 61)) w.heap.size q nm s n := heap_alloc_new w _
  obtain ⟨b0, b1, b2, b3⟩ := ho0.cells
  have hdo := does_any _ v L nm s q n many (h.below hb0) (by omega) (hbd.mono (by omega)) hs hq
  obtain ⟨A0, n0, c0, rfl⟩ := h.shape
  have HB0 := Lib.hid hb0
  have HO0 := Lib.hid ho0
  have HDO := Lib.hid hdo
  clear h hb0 ho0 hz hdo hbd
  go_enter Try.func50, Try.ntmps50
  go_wp2_with (go_at_call 45; ((with_reducible refine HDO.out.mono ?_); rintro e w2 ⟨v2, L2, rfl, h2, hl2, hbd2, hb2⟩; obtain ⟨A2, n2, c2, rfl⟩ := h2.shape; obtain ⟨d0, d1, d2, d3⟩ := (HO0.out.below hb2).cells; have H2 := Lib.hid h2; have HB2 := Lib.hid hb2; have HD2 := Lib.hid hbd2; clear h2 hb2 hbd2))
  rcases atI_cases nm L2 with ha | ⟨k, ha, hk⟩
  · have HA := Lib.hid ha
    clear ha
    go_wp2_with (go_at_call 43; ((with_reducible refine (dat_any5 _ _ _ L2 nm H2.out).mono ?_); rintro e w' ⟨rfl, rfl⟩; rw [HA.out]))
    go_ret
    exact ⟨_, L2, rfl, H2.out.mono (by simp), hl2, HD2.out, HB0.out.trans (HB2.out.mono (by simp))⟩
  · obtain ⟨g, c, e, hg, hgc, hgm⟩ := H2.out.form2 hk
    cases e
    have hfr := H2.out.free (k * 3 + 2)
    obtain ⟨f, hf⟩ : ∃ f, L2[k]? = some f := ⟨L2[k], List.getElem?_eq_getElem hk⟩
    obtain ⟨i1, i2, i3⟩ := H2.out.cells hf
    have HF := Lib.hid hf
    have HA := Lib.hid ha
    have hI0 : (0 : Int) ≤ (k : Int) := by omega
    have hI1 : (k : Int) < (L2.length : Int) := by omega
    unfold maxLen at hgm
    clear ha hf
    go_wp2_with (go_at_call 43; ((with_reducible refine (dat_any5 _ _ _ L2 nm H2.out).mono ?_); rintro e w' ⟨rfl, rfl⟩; rw [HA.out]))
    go_ret
    rw [World.size_alloc] at hg
    refine ⟨_, _, rfl, (H2.out.put2 HF.out true).mono (by simp), by rw [List.length_set]; exact hl2, fun M hM => (HD2.out M hM).set k ?_, (HB0.out.trans (HB2.out.mono (by simp))).setCell (show _ ≤ g by omega) _⟩
    exact HD2.out M hM f (List.mem_of_getElem? HF.out)
end Go.Proofs.Ytdfiofjnijnodaa.gn
