/- The contracts of the law file's head and great. -/
import Derived.Test.YthffeaknfiabjaaFrS
import Derived.Test.YthffeaknfiabjaaFrP
namespace Go.Proofs.Ythffeaknfiabjaa.gn
open Go.RowKit
open Go.Proofs.Ythffeaknfiabjaa.sl

def Small (L : List (List UInt8)) : Prop := L.length ≤ 20 ∧ ∀ s ∈ L, s.length ≤ 500

set_option maxRecDepth 100000 in
set_option maxHeartbeats 4000000 in
theorem great_no (v : Value) (L : List (List UInt8)) (w : World) (h : Strs w v L) (hs : Small L) :
    Calls Try.prog 6 #[v] w fun e w' => e = .returned (.bool false) ∧ w = w' := by
  obtain ⟨A, cp, rfl, hcp, hcm, hcell, _⟩ := h
  have hcells : ∀ k (hk : k < L.length), ∃ b o, A = some ⟨b, o, none⟩ ∧ w.cell? ⟨b, o + k, none⟩ = some (.string (str L[k])) := fun k hk => by
    rcases hcell with h0 | ⟨b, o, hA, hcl⟩
    · omega
    · exact ⟨b, o, hA, hcl k hk⟩
  have HC := Lib.hid hcells
  have HS := Lib.hid hs.2
  have h20 := hs.1
  clear hcell hcells hs
  go_enter Try.func6, Try.ntmps6
  go_wp2
  go_loop [3] (fun v3 => ∃ k : Nat, k ≤ L.length ∧ v3 = .int .i64 (k : Int)) (fun v3 => L.length - (intOf v3).toNat)
  case atStart => exact ⟨0, Nat.zero_le _, rfl⟩
  case round =>
    obtain ⟨k, hk, rfl⟩ := hrel
    by_cases hlt : k < L.length
    · obtain ⟨b, o, hA, hcl⟩ := HC.out k hlt
      subst hA
      have h500 := HS.out _ (List.getElem_mem hlt)
      have hss : (str L[k]).size = (L[k]).length := str_size _
      generalize L[k] = s at *
      go_wp2
      go_round
      case rel => exact ⟨k + 1, by omega, by go_num⟩
      case measure => simp [intOf]; omega
    · have hkl : k = L.length := by omega
      subst hkl
      go_wp2
      go_ret
      exact ⟨rfl, rfl⟩

set_option maxRecDepth 100000 in
set_option maxHeartbeats 4000000 in
theorem great_yes (v : Value) (L : List (List UInt8)) (w : World) (h : Strs w v L) (hs : ¬ Small L) :
    Calls Try.prog 6 #[v] w fun e w' => e = .returned (.bool true) ∧ w = w' := by
  obtain ⟨A, cp, rfl, hcp, hcm, hcell, hmx⟩ := h
  by_cases h20 : 20 < L.length
  · unfold maxLen at hcm
    clear hcell hs hmx
    go_enter Try.func6, Try.ntmps6
    go_wp2
    go_ret
    exact ⟨rfl, rfl⟩
  · have hcells : ∀ k (hk : k < L.length), ∃ b o, A = some ⟨b, o, none⟩ ∧ w.cell? ⟨b, o + k, none⟩ = some (.string (str L[k])) := fun k hk => by
      rcases hcell with h0 | ⟨b, o, hA, hcl⟩
      · omega
      · exact ⟨b, o, hA, hcl k hk⟩
    have HC := Lib.hid hcells
    have HS := Lib.hid hs
    have HM := Lib.hid hmx
    clear hcell hcells hs hmx
    go_enter Try.func6, Try.ntmps6
    go_wp2
    go_loop [3] (fun v3 => ∃ k : Nat, k ≤ L.length ∧ v3 = .int .i64 (k : Int) ∧ Hid (∀ s ∈ L.take k, s.length ≤ 500)) (fun v3 => L.length - (intOf v3).toNat)
    case atStart => exact ⟨0, Nat.zero_le _, rfl, Lib.hid fun s hs => by simp at hs⟩
    case round =>
      obtain ⟨k, hk, rfl, hall⟩ := hrel
      by_cases hlt : k < L.length
      · obtain ⟨b, o, hA, hcl⟩ := HC.out k hlt
        subst hA
        have hmx := HM.out _ (List.getElem_mem hlt)
        unfold maxLen at hmx
        have hss : (str L[k]).size = (L[k]).length := str_size _
        have ht := Lib.hid (List.take_succ_eq_append_getElem hlt)
        generalize L[k] = s at *
        by_cases h500 : s.length ≤ 500
        · go_wp2
          go_round
          case rel => exact ⟨k + 1, by omega, by go_num, Lib.hid fun t h => by
            rw [ht.out] at h
            rcases List.mem_append.1 h with h | h
            · exact hall.out t h
            · simp at h; rw [h]; exact h500⟩
          case measure => simp [intOf]; omega
        · go_wp2
          go_ret
          exact ⟨rfl, rfl⟩
      · exfalso
        have hkl : k = L.length := by omega
        subst hkl
        exact HS.out ⟨by omega, fun s hs => hall.out s (by rw [List.take_length]; exact hs)⟩

def abF : List UInt8 := frames [[97, 98]]
theorem abF_len : abF.length = 22 := by rw [abF, frames_len]; rfl
theorem abF_four : str (abF.take 4) = ⟨#[2, 0, 0, 0]⟩ := by
  have : abF.take 4 = le 4 2 := by
    rw [abF, frames_one, frame, List.take_append_of_le_length (by rw [hd_len]; omega), hd, sealed, List.take_append_of_le_length (by rw [le_len]; decide), List.take_of_length_le (by rw [le_len]; decide)]
    rfl
  rw [this]; rfl
theorem abF_scan : scan (abF ++ abF.take 21) = [[97, 98]] := by
  have h1 : scan (abF.take 21) = [] := by
    refine scan_none ?_
    have := fst_cut [97, 98] [] (by decide) 21 (by decide)
    rw [List.append_nil] at this
    rw [abF, frames_one]
    exact this
  rw [abF] at h1 ⊢
  rw [scan_frames _ _ (fun s hs => by simp at hs; rw [hs]; decide), h1]
  rfl

set_option maxRecDepth 100000 in
set_option maxHeartbeats 4000000 in
theorem head_any (w : World) : Calls Try.prog 7 #[] w fun e w' => e = .returned (.bool true) ∧ Below w.heap.size w w' := by
  have hab : str [97, 98] = ⟨#[97, 98]⟩ := rfl
  have hst := strs_new w [97, 98] (by decide)
  have HST := Lib.hid (put_any _ _ _ hst (fun s hs => by simp at hs; rw [hs]; decide) (by decide))
  have hsc := fun h => scan_any (abF ++ abF.take 21) (by rw [List.length_append, List.length_take, abF_len]; decide) h
  rw [abF_scan] at hsc
  have HSc := Lib.hid hsc
  clear hsc
  have hsz : (str abF).size = 22 := by rw [str_size, abF_len]
  have z1 := sl_upto abF 4 4 rfl (by rw [abF_len]; decide)
  have z2 := sl_upto abF 21 21 rfl (by rw [abF_len]; decide)
  rw [abF_four] at z1
  have hsz2 : (str (abF.take 21)).size = 21 := by rw [str_size, List.length_take, abF_len]; rfl
  clear hst
  have HA : Hid (str abF ++ str (abF.take 21) = str (abF ++ abF.take 21)) := str_app _ _
  go_enter Try.func7, Try.ntmps7
  go_wp2_with fail
  refine HST.out.mono ?_
  rintro e w1 ⟨rfl, hb1⟩
  have e1 : frames [[97, 98]] = abF := rfl
  rw [e1]
  have HB1 := Lib.hid (((Below.refl _ w).alloc (Nat.le_refl _) _).trans (hb1.mono (by simp)))
  clear hb1 e1
  go_wp2_with fail
  rw [HA.out]
  refine (HSc.out _).mono ?_
  rintro e w2 ⟨v, rfl, hs, hb⟩
  have HB2 := Lib.hid (HB1.out.trans (hb.mono HB1.out.size))
  obtain ⟨g, cp, rfl⟩ := ownsRow_succ (k := 0) hs
  have hst := Ss.strs hs (fun s hs => by simp at hs; rw [hs]; decide)
  have hc : w2.cell? ⟨g, 0, none⟩ = some (.string ⟨#[97, 98]⟩) := by
    obtain ⟨A, c, h1, _, _, h4, _⟩ := hst
    injection h1 with h1
    subst h1
    rcases h4 with h4 | ⟨b, o, h5, h6⟩
    · simp at h4
    · injection h5 with h5
      injection h5 with h5 h7
      subst h5; subst h7
      exact h6 0 (by simp)
  have hcst : ((cost [[97, 98]] : Nat) : Int) = 22 := rfl
  rw [hcst]
  clear hb hs hst hcst hab
  go_wp2_with (go_at_call 10; refine (cost_less _).mono ?_; rintro e w3 ⟨rfl, rfl⟩)
  go_ret
  exact ⟨rfl, HB2.out⟩
end Go.Proofs.Ythffeaknfiabjaa.gn
