/- FrameCut: the law's walk. -/
import Derived.Test.YthffeaknfiabjaaFrL1
namespace Go.Proofs.Ythffeaknfiabjaa.gn
open Go.RowKit
open Go.Proofs.Ythffeaknfiabjaa.sl

set_option maxHeartbeats 1600000 in
theorem cut_great (v : Value) (L : List (List UInt8)) (a : Int) (w : World) (h : Strs w v L) (hs : ¬ Small L) :
    Calls Try.prog 4 #[v, .int .u16 a] w fun e w' => e = .returned (.bool true) ∧ Below w.heap.size w w' := by
  have HG := Lib.hid (great_yes v L w h hs)
  obtain ⟨A, cp, rfl, _⟩ := h
  go_enter Try.func4, Try.ntmps4
  go_wp2_with (first
    | (go_at_call 6; ((with_reducible refine HG.out.mono ?_); rintro e w1 ⟨rfl, rfl⟩))
    | (go_at_call 7; ((with_reducible refine (head_any _).mono ?_); rintro e w1 ⟨rfl, hb⟩)))
  go_ret
  exact ⟨rfl, hb⟩

/-- The cells of a slice of strings. -/
theorem Strs.cells {w : World} {A : Option Addr} {n c : Nat} {L : List (List UInt8)} (h : Strs w (.slice A n c) L) : ∀ k (hk : k < L.length), ∃ b o, A = some ⟨b, o, none⟩ ∧ b < w.heap.size ∧ w.cell? ⟨b, o + k, none⟩ = some (.string (str L[k])) := fun k hk => by
  obtain ⟨A', c', h1, _, _, h4, _⟩ := h
  injection h1 with e1 e2 e3
  subst e1
  rcases h4 with h0 | ⟨b, o, hA, hcl⟩
  · omega
  · exact ⟨b, o, hA, cell_lt (hcl k hk), hcl k hk⟩

def CutI (L : List (List UInt8)) (j : Nat) (w : World) (v10 v11 : Value) (wr : World) : Prop :=
  ∃ k : Nat, k ≤ j ∧ v11 = .int .i64 (k : Int) ∧ v10 = .int .i64 (cost (L.take k) : Nat) ∧ Below w.heap.size w wr

set_option maxRecDepth 100000 in
set_option maxHeartbeats 8000000 in
theorem cut_main (v : Value) (L : List (List UInt8)) (a : Int) (ha : 0 ≤ a) (ha2 : a < 65536) (w : World) (h : Strs w v L) (hs : Small L) :
    Calls Try.prog 4 #[v, .int .u16 a] w fun e w' => e = .returned (.bool true) ∧ Below w.heap.size w w' := by
  have HG := Lib.hid (great_no v L w h hs)
  have HH := Lib.hid h
  have hcost := hs.cost
  have hF : (str (frames L)).size = cost L := by rw [str_size, frames_len]
  have HP := Lib.hid (put_any v L w h hs.max (by omega))
  obtain ⟨k, hk, hkl⟩ : ∃ k : Nat, a % ((cost L : Int) + 1) = (k : Int) ∧ k ≤ cost L := by
    have h1 := Int.emod_nonneg a (show ((cost L : Int) + 1) ≠ 0 by omega)
    have h2 := Int.emod_lt_of_pos a (show 0 < ((cost L : Int) + 1) by omega)
    exact ⟨(a % ((cost L : Int) + 1)).toNat, by omega, by omega⟩
  have z1 := sl_upto (frames L) (k : Int) k rfl (by rw [frames_len]; exact hkl)
  obtain ⟨j, hj, hsc, hjc, hnext⟩ := scan_take L k hs.max (by rw [frames_len]; exact hkl)
  have hsc2 := fun W => scan_any ((frames L).take k) (by rw [List.length_take, frames_len]; omega) W
  rw [hsc] at hsc2
  have HSc := Lib.hid hsc2
  have hcj : cost (L.take j) ≤ cost L := cost_part L j
  obtain ⟨A, cp, rfl, hcp, hcm, _, hmx⟩ := h
  have HMem := Lib.hid fun s (hs : s ∈ L.take j) => hmx s (List.mem_of_mem_take hs)
  have HC := Lib.hid HH.out.cells
  have h20 := hs.1
  have HSm := Lib.hid hs
  have hlj : (L.take j).length = j := by rw [List.length_take]; omega
  have HLJ := Lib.hid hlj
  clear hs hmx hsc hsc2 hlj
  go_enter Try.func4, Try.ntmps4
  go_wp2_with (first
    | (go_at_call 6; ((with_reducible refine HG.out.mono ?_); rintro e w1 ⟨rfl, rfl⟩)))
  refine HP.out.mono ?_
  rintro e w1 ⟨rfl, hb1⟩
  have HB1 := Lib.hid hb1
  clear hb1
  go_wp2_with fail
  refine (HSc.out _).mono ?_
  rintro e w3 ⟨va, rfl, hva, hb3⟩
  have HB3 := Lib.hid (HB1.out.trans (hb3.mono HB1.out.size))
  have hst := Ss.strs hva HMem.out
  obtain ⟨A2, cp2, hv2, hcp2, hcm2, _⟩ := hst
  rw [HLJ.out] at hv2 hcp2
  subst hv2
  have HC2 := Lib.hid (Ss.strs hva HMem.out).cells
  clear hva hb3 z1
  go_wp2
  clear hk
  go_loopw [10, 11] (fun v10 v11 wr => CutI L j w3 v10 v11 wr) (fun _ v11 _ => j - (intOf v11).toNat)
  case atStart => exact ⟨0, Nat.zero_le _, rfl, rfl, Below.refl _ _⟩
  case round =>
    obtain ⟨i, hi, rfl, rfl, hb⟩ := hrel
    have HB4 := Lib.hid (HB3.out.trans (hb.mono HB3.out.size))
    by_cases hlt : i < j
    · have hlt2 : i < L.length := by omega
      obtain ⟨b, o, hA, hbl, hcl⟩ := HC.out i hlt2
      subst hA
      obtain ⟨b', o', hA', hbl', hcl'⟩ := HC2.out i (by rw [HLJ.out]; exact hlt)
      subst hA'
      rw [List.getElem_take] at hcl'
      have hcr : wr.cell? ⟨b, o + i, none⟩ = some (.string (str L[i])) := (HB4.out.cell (p := ⟨b, o + i, none⟩) hbl).trans hcl
      have hcr' : wr.cell? ⟨b', o' + i, none⟩ = some (.string (str L[i])) := (hb.cell (p := ⟨b', o' + i, none⟩) hbl').trans hcl'
      have h1 := Lib.hid (cost_take L i hlt2)
      have h2 := cost_part L (i + 1)
      rw [h1.out] at h2
      have hss : (str L[i]).size = (L[i]).length := str_size _
      have HB := Lib.hid hb
      clear hb hcl hcl'
      generalize L[i] = s at *
      generalize cost (L.take i) = c at *
      have hd : decide ((L.length : Int) ≤ (i : Int)) = false := decide_eq_false (by omega)
      have q1 : ((str s).toList != (str s).toList) = false := by simp
      go_wp2
      go_quiet (fail)
      go_wp2_with (go_at_call 10; refine (cost_any s.length (by omega) _).mono ?_; rintro e w4 ⟨rfl, rfl⟩)
      go_roundw
      case rel => exact ⟨i + 1, by omega, by go_num, by rw [h1.out]; go_num, below_drewN HB.out _⟩
      case measure => simp [intOf]; omega
    · obtain rfl : i = j := by omega
      clear hb hlt
      generalize hc : cost (L.take i) = c at *
      by_cases hjl : i = L.length
      · have t1 : ((i : Int) == (L.length : Int)) = true := by simp [hjl]
        clear hnext hjl hc
        go_wp2_with fail
        refine (head_any _).mono ?_
        rintro e w6 ⟨rfl, hb6⟩
        have HB6 := Lib.hid (HB4.out.trans (hb6.mono HB4.out.size))
        clear hb6
        go_wp2
        go_ret
        exact ⟨rfl, HB6.out⟩
      · have t1 : ((i : Int) == (L.length : Int)) = false := by simp; omega
        have hlt2 : i < L.length := by omega
        obtain ⟨b, o, hA, hbl, hcl⟩ := HC.out i hlt2
        subst hA
        have hcr : wr.cell? ⟨b, o + i, none⟩ = some (.string (str L[i])) := (HB4.out.cell (p := ⟨b, o + i, none⟩) hbl).trans hcl
        have h1 := cost_take L i hlt2
        have hs5 := HSm.out.2 _ (List.getElem_mem hlt2)
        have hss : (str L[i]).size = (L[i]).length := str_size _
        generalize L[i] = s at *
        have hkn : k < c + (20 + s.length) := by
          rcases hnext with h | h
          · omega
          · rw [h1] at h; omega
        clear hnext hjl h1 hcl hc
        go_wp2_with (first
          | (go_at_call 10; ((with_reducible refine (cost_any s.length (by omega) _).mono ?_); rintro e w4 ⟨rfl, rfl⟩)))
        refine (head_any _).mono ?_
        rintro e w6 ⟨rfl, hb6⟩
        have HB6 := Lib.hid (HB4.out.trans (hb6.mono HB4.out.size))
        clear hb6
        go_wp2
        go_ret
        exact ⟨rfl, HB6.out⟩
end Go.Proofs.Ythffeaknfiabjaa.gn
