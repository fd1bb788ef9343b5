/- The contract of the document's Bytes of a journal. -/
import Derived.Test.YtmaohncddjhgeaaGreatMPkG
import Derived.Test.YtmaohncddjhgeaaGreatMFrO
import Derived.Test.YtmaohncddjhgeaaGreatMFrP
section
set_option linter.unusedVariables false
namespace Go.Proofs.YtmaohncddjhgeaaGreat.gn
open Go.RowKit

set_option maxRecDepth 100000
set_option maxHeartbeats 4000000
theorem bytes_any' (first : Nat) (hf : first < 18446744073709551616) (v : Value) (L : List (List UInt8)) (w : World) (h : Strs w v L) (hl : ∀ s ∈ L, s.length ≤ 1000) (hc : cost L ≤ 1000000) :
    Calls Tryz.prog 15 #[.int .u64 (first : Int), v] w fun e w' => e = .returned (.string (str (frames (Lib.uvarint first :: L)))) ∧ Below w.heap.size w w' := by
  have hul := Lib.uvarint_length64 hf
  have hcl := cost_len L
  obtain ⟨A, cp, rfl, hcp, hcm, hcell, _⟩ := h
  have hcells : ∀ k (hk : k < L.length), ∃ b o, A = some ⟨b, o, none⟩ ∧ b < w.heap.size ∧ w.cell? ⟨b, o + k, none⟩ = some (.string (str L[k])) := fun k hk => by
    rcases hcell with h0 | ⟨b, o, hA, hcl⟩
    · omega
    · exact ⟨b, o, hA, cell_lt (hcl k hk), hcl k hk⟩
  have HC := Lib.hid hcells
  have HLE := Lib.hid hl
  unfold maxLen at hcm
  clear hcell hcells hl
  go_enter Tryz.func15, Tryz.ntmps15
  go_wp2_with fail
  refine (refNum_any first hf _).mono ?_
  rintro e w1 ⟨rfl, hb1⟩
  have HB1 := Lib.hid hb1
  clear hb1
  go_wp2_with fail
  refine (one_any (Lib.uvarint first) (by omega) _).mono ?_
  rintro e w2 ⟨rfl, hb2⟩
  have HB2 := Lib.hid (HB1.out.trans (hb2.mono HB1.out.size))
  clear hb2
  go_wp2
  go_loopw [5, 6] (fun v5 v6 wr => ∃ k : Nat, k ≤ L.length ∧ v6 = .int .i64 (k : Int) ∧ v5 = .string (str (frames (Lib.uvarint first :: L.take k))) ∧ Below w.heap.size w wr) (fun _ v6 _ => L.length - (intOf v6).toNat)
  case atStart => exact ⟨0, Nat.zero_le _, rfl, by rw [List.take_zero, frames_one], HB2.out⟩
  case round =>
    obtain ⟨k, hk, rfl, rfl, hb⟩ := hrel
    by_cases hlt : k < L.length
    · obtain ⟨b, o, hA, hbl, hcl⟩ := HC.out k hlt
      subst hA
      have hs := HLE.out _ (List.getElem_mem hlt)
      have hcr : wr.cell? ⟨b, o + k, none⟩ = some (.string (str L[k])) := (hb.cell (p := ⟨b, o + k, none⟩) hbl).trans hcl
      have HBl := Lib.hid hb
      have h1 : str (frames (Lib.uvarint first :: L.take k)) ++ str (frame L[k]) = str (frames (Lib.uvarint first :: L.take (k + 1))) := by
        rw [str_app, List.take_succ_eq_append_getElem hlt, ← List.cons_append, frames_app, frames_one]
      have hc1 := cost_part L k
      have hz1 : (str (frames (Lib.uvarint first :: L.take k))).size ≤ 1000030 := by
        rw [str_size, frames_len, cost]
        omega
      have hz2 : (str (frame L[k])).size ≤ 1020 := by rw [str_size, frame_len]; omega
      have H1 := Lib.hid h1
      clear hb hcl h1 hc1
      generalize L[k] = s at *
      generalize str (frames (Lib.uvarint first :: L.take k)) = y1 at *
      go_wp2_with (go_at_call 16; ((with_reducible refine (one_any s (by omega) _).mono ?_); rintro e w3 ⟨rfl, hb3⟩))
      have HB3 := Lib.hid (HBl.out.trans (hb3.mono HBl.out.size))
      clear hb3
      go_roundw
      case rel => exact ⟨k + 1, by omega, by go_num, by rw [H1.out], HB3.out⟩
      case measure => simp [intOf]; omega
    · have hkl : k = L.length := by omega
      subst hkl
      have h1 : Hid (L.take L.length = L) := by show _ = _; exact List.take_length
      rw [h1.out]
      have HBl := Lib.hid hb
      clear hb
      go_wp2
      go_ret
      exact ⟨rfl, HBl.out⟩
end Go.Proofs.YtmaohncddjhgeaaGreat.gn
end
