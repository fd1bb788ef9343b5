/- The contracts of the document's One, Put, Same. -/
import Derived.Test.YthffeaknfiabjaaFrA
import Derived.Test.YthffeaknfiabjaaGenStrs
import Derived.Test.YthffeaknfiabjaaGenSl
import Derived.Test.YthffeaknfiabjaaSealD
import Derived.BigQuiet
import Derived.Deep.QuietTactic
namespace Go.Proofs.Ythffeaknfiabjaa.gn
open Go.RowKit
open Go.Proofs.Ythffeaknfiabjaa.sl

theorem conv4 (n : Nat) (w : World) :
    (convert 40 9 (.slice (some ⟨w.heap.size, 0, none⟩) 4 4)).run Try.prog (w.alloc (.cells #[.int .u8 ((n : Int) % 256), .int .u8 ((n : Int) / 256 % 256), .int .u8 ((n : Int) / 65536 % 256), .int .u8 ((n : Int) / 16777216 % 256)] 5)) =
      .ok (.string (str (le 4 n))) (w.alloc (.cells #[.int .u8 ((n : Int) % 256), .int .u8 ((n : Int) / 256 % 256), .int .u8 ((n : Int) / 65536 % 256), .int .u8 ((n : Int) / 16777216 % 256)] 5)) := by
  have h := run_convert_bytes_back (P := Try.prog) (w.alloc (.cells #[.int .u8 ((n : Int) % 256), .int .u8 ((n : Int) / 256 % 256), .int .u8 ((n : Int) / 65536 % 256), .int .u8 ((n : Int) / 16777216 % 256)] 5)) 40 9 5 ⟨w.heap.size, 0, none⟩ 4 (le 4 n) Try.underlying40 Try.underlying5 Try.underlying9 (by
    intro j hj
    have hadd : (⟨w.heap.size, 0, none⟩ : Addr).add j = ⟨w.heap.size, j, none⟩ := by unfold Addr.add; split <;> simp_all
    rw [hadd, cell_of_row _ _ _ _ _ _ (heap_alloc_new w _)]
    have h1 := le_at 4 n j hj
    rw [le_len] at hj
    match j, hj with
    | 0, _ => rw [h1]; simp
    | 1, _ => rw [h1]; simp
    | 2, _ => rw [h1]; simp
    | 3, _ => rw [h1]; simp)
  rw [le_len] at h
  exact h

set_option maxHeartbeats 1600000 in
theorem one_any (s : List UInt8) (hs : s.length ≤ 1000000) (w : World) :
    Calls Try.prog 19 #[.string (str s)] w fun e w' => e = .returned (.string (str (frame s))) ∧ Below w.heap.size w w' := by
  have hss : (str s).size = s.length := str_size s
  have hcv := conv4 s.length w
  have HA : Hid (str (sealed (le 4 s.length)) ++ str (sealed s) = str (frame s)) := str_app _ _
  have b1 : (str (sealed (le 4 s.length))).size = 12 := by rw [str_size]; exact hd_len _
  have b2 : (str (sealed s)).size = s.length + 8 := by rw [str_size, sealed_len]
  have B1 : (str (sealed (le 4 s.length))).size ≤ 12 := by omega
  have B2 : (str (sealed s)).size ≤ 1000008 := by omega
  clear b1 b2
  go_enter Try.func19, Try.ntmps19
  go_wp2_with fail
  refine (refSeal_any (le 4 s.length) (by rw [le_len]; omega) _).mono ?_
  rintro e w1 ⟨rfl, hb1⟩
  have HB1 := Lib.hid (((Below.refl _ w).alloc (Nat.le_refl _) _).trans (hb1.mono (by simp)))
  clear hb1 hcv
  go_wp2_with fail
  refine (refSeal_any s hs _).mono ?_
  rintro e w2 ⟨rfl, hb2⟩
  have HB2 := Lib.hid (HB1.out.trans (hb2.mono HB1.out.size))
  clear hb2
  go_wp2
  go_ret
  rw [HA.out]
  exact ⟨rfl, HB2.out⟩

theorem take_one' {L : List (List UInt8)} {k : Nat} (h : k < L.length) : L.take (k + 1) = L.take k ++ [L[k]] := List.take_succ_eq_append_getElem h
theorem frames_next (L : List (List UInt8)) (k : Nat) (h : k < L.length) : str (frames (L.take k)) ++ str (frame L[k]) = str (frames (L.take (k + 1))) := by rw [str_app, take_one' h, frames_app, frames_one]
theorem cost_next (L : List (List UInt8)) (k : Nat) (h : k < L.length) : cost (L.take k) + (20 + (L[k]).length) ≤ cost L := by
  have h1 := cost_app (L.take (k + 1)) (L.drop (k + 1))
  rw [List.take_append_drop, take_one' h, cost_app, cost_one] at h1
  omega
def DputI (L : List (List UInt8)) (w : World) (v4 v5 : Value) (wr : World) : Prop :=
  ∃ k : Nat, k ≤ L.length ∧ v5 = .int .i64 (k : Int) ∧ v4 = .string (str (frames (L.take k))) ∧ Below w.heap.size w wr

set_option maxRecDepth 100000 in
set_option maxHeartbeats 4000000 in
theorem dput_any (v : Value) (L : List (List UInt8)) (w : World) (h : Strs w v L) (hl : ∀ s ∈ L, s.length ≤ 262144) (hc : cost L ≤ 1000000) :
    Calls Try.prog 9 #[v] w fun e w' => e = .returned (.tuple #[.string (str (frames L)), .int .i64 0]) ∧ Below w.heap.size w w' := by
  obtain ⟨A, cp, rfl, hcp, hcm, hcell, _⟩ := h
  have hcells : ∀ k (hk : k < L.length), ∃ b o, A = some ⟨b, o, none⟩ ∧ b < w.heap.size ∧ w.cell? ⟨b, o + k, none⟩ = some (.string (str L[k])) := fun k hk => by
    rcases hcell with h0 | ⟨b, o, hA, hcl⟩
    · omega
    · exact ⟨b, o, hA, cell_lt (hcl k hk), hcl k hk⟩
  have HC := Lib.hid hcells
  have HLE := Lib.hid hl
  have hll := cost_len L
  unfold maxLen at hcm
  clear hcell hcells hl
  go_enter Try.func9, Try.ntmps9
  go_wp2
  go_loopw [4, 5] (fun v4 v5 wr => DputI L w v4 v5 wr) (fun _ v5 _ => L.length - (intOf v5).toNat)
  case atStart => exact ⟨0, Nat.zero_le _, rfl, rfl, Below.refl _ _⟩
  case round =>
    obtain ⟨k, hk, rfl, rfl, hb⟩ := hrel
    by_cases hlt : k < L.length
    · obtain ⟨b, o, hA, hbl, hcl⟩ := HC.out k hlt
      subst hA
      have hs := HLE.out _ (List.getElem_mem hlt)
      have h1 := Lib.hid (frames_next L k hlt)
      have h2 := cost_next L k hlt
      have h3 : (str (frames (L.take k))).size = cost (L.take k) := by rw [str_size]; exact frames_len _
      have hss : (str L[k]).size = (L[k]).length := str_size _
      have h5 : (str (frame L[k])).size = 20 + (L[k]).length := by rw [str_size, frame_len]
      have hcr : wr.cell? ⟨b, o + k, none⟩ = some (.string (str L[k])) := (hb.cell (p := ⟨b, o + k, none⟩) hbl).trans hcl
      have HBl := Lib.hid hb
      clear hb hcl
      generalize L[k] = s at *
      generalize frames (L.take k) = F at *
      have B3 : (str F).size ≤ 1000000 := by omega
      have B5 : (str (frame s)).size ≤ 300000 := by omega
      clear h3 h5 h2
      go_wp2_with fail
      refine (one_any s (by omega) _).mono ?_
      rintro e w2 ⟨rfl, hb2⟩
      have HBl2 := Lib.hid (HBl.out.trans (hb2.mono HBl.out.size))
      clear hb2
      go_wp2
      go_roundw
      case rel => exact ⟨k + 1, by omega, by go_num, by rw [h1.out], HBl2.out⟩
      case measure => simp [intOf]; omega
    · have hkl : k = L.length := by omega
      subst hkl
      have h1 : Hid (L.take L.length = L) := by show _ = _; exact List.take_length
      rw [h1.out]
      have HBl := Lib.hid hb
      clear hb
      go_wp2
      go_ret2
      exact ⟨rfl, HBl.out⟩

set_option maxRecDepth 100000 in
set_option maxHeartbeats 4000000 in
theorem same_yes (v u : Value) (L : List (List UInt8)) (w : World) (h : Strs w v L) (h' : Strs w u L) :
    Calls Try.prog 13 #[v, u] w fun e w' => e = .returned (.bool true) ∧ Below w.heap.size w w' := by
  obtain ⟨A, cp, rfl, hcp, hcm, hcell, _⟩ := h
  obtain ⟨A2, cp2, rfl, hcp2, hcm2, hcell2, _⟩ := h'
  have hcells : ∀ k (hk : k < L.length), ∃ b o, A = some ⟨b, o, none⟩ ∧ b < w.heap.size ∧ w.cell? ⟨b, o + k, none⟩ = some (.string (str L[k])) := fun k hk => by
    rcases hcell with h0 | ⟨b, o, hA, hcl⟩
    · omega
    · exact ⟨b, o, hA, cell_lt (hcl k hk), hcl k hk⟩
  have hcells2 : ∀ k (hk : k < L.length), ∃ b o, A2 = some ⟨b, o, none⟩ ∧ b < w.heap.size ∧ w.cell? ⟨b, o + k, none⟩ = some (.string (str L[k])) := fun k hk => by
    rcases hcell2 with h0 | ⟨b, o, hA, hcl⟩
    · omega
    · exact ⟨b, o, hA, cell_lt (hcl k hk), hcl k hk⟩
  have HC := Lib.hid hcells
  have HC2 := Lib.hid hcells2
  unfold maxLen at hcm
  clear hcell hcells hcell2 hcells2
  go_enter Try.func13, Try.ntmps13
  go_wp2
  go_loopw [5] (fun v5 wr => ∃ k : Nat, k ≤ L.length ∧ v5 = .int .i64 (k : Int) ∧ Below w.heap.size w wr) (fun v5 _ => L.length - (intOf v5).toNat)
  case atStart => exact ⟨0, Nat.zero_le _, rfl, Below.refl _ _⟩
  case round =>
    obtain ⟨k, hk, rfl, hb⟩ := hrel
    by_cases hlt : k < L.length
    · obtain ⟨b, o, hA, hbl, hcl⟩ := HC.out k hlt
      subst hA
      obtain ⟨b', o', hA', hbl', hcl'⟩ := HC2.out k hlt
      subst hA'
      have hcr : wr.cell? ⟨b, o + k, none⟩ = some (.string (str L[k])) := (hb.cell (p := ⟨b, o + k, none⟩) hbl).trans hcl
      have hcr' : wr.cell? ⟨b', o' + k, none⟩ = some (.string (str L[k])) := (hb.cell (p := ⟨b', o' + k, none⟩) hbl').trans hcl'
      have HBl := Lib.hid hb
      clear hb hcl hcl'
      generalize L[k] = s at *
      have hq : (((str s).toList == (str s).toList) : Bool) = true := by simp
      go_wp2
      go_quiet (fail)
      go_wp2
      go_roundw
      case rel => exact ⟨k + 1, by omega, by go_num, below_drewN HBl.out _⟩
      case measure => simp [intOf]; omega
    · have hkl : k = L.length := by omega
      subst hkl
      have HBl := Lib.hid hb
      clear hb
      go_wp2
      go_ret
      exact ⟨rfl, HBl.out⟩
end Go.Proofs.Ythffeaknfiabjaa.gn
