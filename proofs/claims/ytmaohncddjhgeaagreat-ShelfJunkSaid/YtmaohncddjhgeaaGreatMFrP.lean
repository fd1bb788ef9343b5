/- The contract of Put. -/
import Derived.Test.YtmaohncddjhgeaaGreatMFrA
import Derived.Test.YtmaohncddjhgeaaGreatMGenStrs
import Derived.Test.YtmaohncddjhgeaaGreatMGenBld
section
namespace Go.Proofs.YtmaohncddjhgeaaGreat.gn
open Go.RowKit
open Go.Proofs.YtmaohncddjhgeaaGreat.sl

theorem take_one {L : List (List UInt8)} {k : Nat} (h : k < L.length) : L.take (k + 1) = L.take k ++ [L[k]] := List.take_succ_eq_append_getElem h
theorem cost_take (L : List (List UInt8)) (k : Nat) (h : k < L.length) : cost (L.take (k + 1)) = cost (L.take k) + (20 + (L[k]).length) := by rw [take_one h, cost_app, cost_one]
theorem frames_take (L : List (List UInt8)) (k : Nat) (h : k < L.length) : frames (L.take (k + 1)) = frames (L.take k) ++ (hd (L[k]).length ++ sealed L[k]) := by rw [take_one h, frames_app, frames_one]; rfl
theorem cost_part (L : List (List UInt8)) (k : Nat) : cost (L.take k) ≤ cost L := by
  have := cost_app (L.take k) (L.drop k)
  rw [List.take_append_drop] at this
  omega

def PutI (L : List (List UInt8)) (w : World) (v29 : Value) (wr : World) : Prop :=
  ∃ k : Nat, k ≤ L.length ∧ v29 = .int .i64 (k : Int) ∧ Bld w.heap.size w.heap.size (frames (L.take k)) wr ∧ Below w.heap.size w wr

set_option maxRecDepth 100000 in
set_option maxHeartbeats 4000000 in
theorem put_any (v : Value) (L : List (List UInt8)) (w : World) (h : Strs w v L) (hl : ∀ s ∈ L, s.length ≤ 262144) (hc : cost L ≤ 1099511627776) :
    Calls Tryz.prog 67 #[v] w fun e w' => e = .returned (.tuple #[.string (str (frames L)), .int .i64 0]) ∧ Below w.heap.size w w' := by
  obtain ⟨A, cp, rfl, hcp, hcm, hcell, _⟩ := h
  have hcells : ∀ k (hk : k < L.length), ∃ b o, A = some ⟨b, o, none⟩ ∧ b < w.heap.size ∧ w.cell? ⟨b, o + k, none⟩ = some (.string (str L[k])) := fun k hk => by
    rcases hcell with h0 | ⟨b, o, hA, hcl⟩
    · omega
    · exact ⟨b, o, hA, cell_lt (hcl k hk), hcl k hk⟩
  have HC := Lib.hid hcells
  have HLE := Lib.hid hl
  have hll := cost_len L
  unfold maxLen at hcm
  clear hcell hcells hl
  go_enter Tryz.func67, Tryz.ntmps67
  go_wp2
  go_loop [4, 12] (fun v4 v12 => ∃ k : Nat, k ≤ L.length ∧ v12 = .int .i64 (k : Int) ∧ v4 = .int .i64 (cost (L.take k) : Nat)) (fun _ v12 => L.length - (intOf v12).toNat)
  case atStart => exact ⟨0, Nat.zero_le _, rfl, rfl⟩
  case round =>
    obtain ⟨k, hk, rfl, rfl⟩ := hrel
    by_cases hlt : k < L.length
    · obtain ⟨b, o, hA, hbl, hcl⟩ := HC.out k hlt
      subst hA
      have hs := HLE.out _ (List.getElem_mem hlt)
      have h1 := Lib.hid (cost_take L k hlt)
      have h2 := cost_part L (k + 1)
      rw [h1.out] at h2
      have hss : (str L[k]).size = (L[k]).length := str_size _
      generalize hsk : L[k] = s at *
      generalize hck : cost (L.take k) = c at *
      clear hsk hck
      go_wp2_with (go_at_call 85; refine (cost_any s.length (by omega) _).mono ?_; rintro e w4 ⟨rfl, rfl⟩)
      go_round
      case rel => exact ⟨k + 1, by omega, by go_num, by rw [h1.out]; go_num⟩
      case measure => simp [intOf]; omega
    · have hkl : k = L.length := by omega
      subst hkl
      have h1 : Hid (L.take L.length = L) := by show _ = _; exact List.take_length
      rw [h1.out]
      go_wp2_with fail
      refine (bld_grow w.heap.size w.heap.size (cost L) _ (Nat.le_refl _) (heap_alloc_new w _) (by simp) (by omega)).mono ?_
      rintro e w1 ⟨rfl, hB1, hb1⟩
      have HB0 := Lib.hid hB1
      have hb2 : Below w.heap.size w w1 := ((Below.refl _ w).alloc (Nat.le_refl _) _).trans hb1
      have HBe := Lib.hid hb2
      clear hB1 hb1 hb2
      go_wp2
      go_loopw [29] (fun v29 wr => PutI L w v29 wr) (fun v29 _ => L.length - (intOf v29).toNat)
      case atStart => exact ⟨0, Nat.zero_le _, rfl, HB0.out, HBe.out⟩
      case round =>
        obtain ⟨k, hk, rfl, hB, hb⟩ := hrel
        by_cases hlt : k < L.length
        · obtain ⟨b, o, hA, hbl, hcl⟩ := HC.out k hlt
          subst hA
          have hs := HLE.out _ (List.getElem_mem hlt)
          have h1 := Lib.hid (frames_take L k hlt)
          have h2 := cost_part L k
          have h3 : (frames (L.take k)).length = cost (L.take k) := frames_len _
          have hss : (str L[k]).size = (L[k]).length := str_size _
          have hcr : wr.cell? ⟨b, o + k, none⟩ = some (.string (str L[k])) := (hb.cell (p := ⟨b, o + k, none⟩) hbl).trans hcl
          have h4 : (hd (L[k]).length).length = 12 := hd_len _
          have h5 : (sealed L[k]).length = (L[k]).length + 8 := sealed_len _
          have HBB := Lib.hid hB
          have HBl := Lib.hid hb
          clear hb hB hcl
          generalize L[k] = s at *
          generalize frames (L.take k) = F at *
          generalize cost (L.take k) = c at *
          have hF : F.length ≤ 1099511627776 := by omega
          have H4 := Lib.hid h4
          have H5 := Lib.hid h5
          clear h3 h4 h5
          go_wp2_with fail
          refine (fhead_any s.length _).mono ?_
          rintro e w2 ⟨rfl, hb2⟩
          have HB2 := Lib.hid (HBB.out.below hb2)
          have HBl2 := Lib.hid (HBl.out.trans (hb2.mono HBl.out.size))
          clear hb2
          go_wp2_with fail
          refine (bld_write w.heap.size w.heap.size F (hd s.length) _ HB2.out (by rw [H4.out]; omega) HBl2.out.size).mono ?_
          rintro e w3 ⟨rfl, hB3, hb3⟩
          have HB3 := Lib.hid hB3
          have HBl3 := Lib.hid (HBl2.out.trans hb3)
          clear hB3 hb3
          go_wp2_with fail
          refine (seal_any s (by omega) _).mono ?_
          rintro e w4 ⟨rfl, hb4⟩
          have HB4 := Lib.hid (HB3.out.below hb4)
          have HBl4 := Lib.hid (HBl3.out.trans (hb4.mono HBl3.out.size))
          clear hb4
          go_wp2_with fail
          refine (bld_write w.heap.size w.heap.size (F ++ hd s.length) (sealed s) _ HB4.out (by rw [List.length_append, H4.out, H5.out]; omega) HBl4.out.size).mono ?_
          rintro e w5 ⟨rfl, hB5, hb5⟩
          have HB5 := Lib.hid hB5
          have HBl5 := Lib.hid (HBl4.out.trans hb5)
          clear hB5 hb5
          go_wp2
          go_roundw
          case rel => exact ⟨k + 1, by omega, by go_num, by rw [h1.out, ← List.append_assoc]; exact HB5.out, HBl5.out⟩
          case measure => simp [intOf]; omega
        · have hkl : k = L.length := by omega
          subst hkl
          rw [h1.out] at hB
          have HBB := Lib.hid hB
          have HBl := Lib.hid hb
          clear hb hB
          go_wp2_with fail
          refine (bld_string w.heap.size w.heap.size (frames L) _ HBB.out HBl.out.size).mono ?_
          rintro e w2 ⟨rfl, hb2⟩
          have HBl2 := Lib.hid (HBl.out.trans hb2)
          clear hb2
          go_wp2
          go_ret2
          exact ⟨rfl, HBl2.out⟩
end Go.Proofs.YtmaohncddjhgeaaGreat.gn
end
