/- FrameRow: the law's walk. -/
import Derived.Test.YthffeaknfiabjaaFrH
import Derived.Test.YthffeaknfiabjaaFrE
import Derived.Test.YthffeaknfiabjaaFrB
namespace Go.Proofs.Ythffeaknfiabjaa.gn
open Go.RowKit
open Go.Proofs.Ythffeaknfiabjaa.sl

theorem cost_small : ∀ L : List (List UInt8), (∀ s ∈ L, s.length ≤ 500) → cost L ≤ 520 * L.length
  | [], _ => by simp [cost]
  | s :: L, h => by
    have h1 := cost_small L fun t ht => h t (by simp [ht])
    have h2 := h s (by simp)
    rw [cost, List.length_cons]
    omega
theorem Small.cost {L : List (List UInt8)} (h : Small L) : gn.cost L ≤ 10400 := by
  have h1 := cost_small L h.2
  have h2 := h.1
  omega
theorem Small.max {L : List (List UInt8)} (h : Small L) : ∀ s ∈ L, s.length ≤ 262144 := fun s hs => by have := h.2 s hs; omega
theorem scan_mem {b s : List UInt8} (h : s ∈ scan b) : s.length ≤ b.length := by
  have h1 := cost_mem _ _ h
  have h2 := scan_le b
  omega

set_option maxHeartbeats 1600000 in
theorem row_great (v : Value) (L : List (List UInt8)) (m : ByteArray) (w : World) (h : Strs w v L) (hs : ¬ Small L) :
    Calls Try.prog 3 #[v, .string m] w fun e w' => e = .returned (.bool true) ∧ Below w.heap.size w w' := by
  have HG := Lib.hid (great_yes v L w h hs)
  obtain ⟨A, cp, rfl, _⟩ := h
  go_enter Try.func3, Try.ntmps3
  go_wp2_with (first
    | (go_at_call 6; ((with_reducible refine HG.out.mono ?_); rintro e w1 ⟨rfl, rfl⟩))
    | (go_at_call 7; ((with_reducible refine (head_any _).mono ?_); rintro e w1 ⟨rfl, hb⟩)))
  go_ret
  exact ⟨rfl, hb⟩
set_option maxHeartbeats 1600000 in
theorem row_more (v : Value) (L : List (List UInt8)) (m : ByteArray) (hm : m.size ≤ maxLen) (h5 : 500 < m.size) (w : World) (h : Strs w v L) (hs : Small L) :
    Calls Try.prog 3 #[v, .string m] w fun e w' => e = .returned (.bool true) ∧ Below w.heap.size w w' := by
  have HG := Lib.hid (great_no v L w h hs)
  unfold maxLen at hm
  obtain ⟨A, cp, rfl, _⟩ := h
  go_enter Try.func3, Try.ntmps3
  go_wp2_with (first
    | (go_at_call 6; ((with_reducible refine HG.out.mono ?_); rintro e w1 ⟨rfl, rfl⟩))
    | (go_at_call 7; ((with_reducible refine (head_any _).mono ?_); rintro e w1 ⟨rfl, hb⟩)))
  go_ret
  exact ⟨rfl, hb⟩

def RowI (L : List (List UInt8)) (v9 v10 : Value) : Prop := ∃ k : Nat, k ≤ L.length ∧ v10 = .int .i64 (k : Int) ∧ v9 = .int .i64 (cost (L.take k) : Nat)

set_option maxRecDepth 100000 in
set_option maxHeartbeats 8000000 in
theorem row_main (v : Value) (L : List (List UInt8)) (m : List UInt8) (hm : m.length ≤ 500) (w : World) (h : Strs w v L) (hs : Small L) :
    Calls Try.prog 3 #[v, .string (str m)] w fun e w' => e = .returned (.bool true) ∧ Below w.heap.size w w' := by
  have HG := Lib.hid (great_no v L w h hs)
  have HH := Lib.hid h
  have HSm := Lib.hid hs
  have hcost := hs.cost
  have hmm : (str m).size = m.length := str_size m
  have hF : (str (frames L)).size = cost L := by rw [str_size, frames_len]
  have HP := Lib.hid (put_any v L w h hs.max (by omega))
  have HA : Hid (str (frames L) ++ str m = str (frames L ++ m)) := str_app _ _
  have hX : scan (frames L ++ m) = L ++ scan m := scan_frames L m hs.max
  have hXl : (frames L ++ m).length ≤ 10900 := by rw [List.length_append, frames_len]; omega
  have hXc : cost L ≤ cost (scan (frames L ++ m)) := by rw [hX, cost_app]; omega
  have hXm : cost (scan (frames L ++ m)) ≤ 10900 := Nat.le_trans (scan_le _) hXl
  have HSc := Lib.hid fun W => scan_any (frames L ++ m) (by omega) W
  have HDs := Lib.hid fun W => dscan_any (frames L ++ m) (by omega) W
  have HMem := Lib.hid fun s (hs : s ∈ scan (frames L ++ m)) => show s.length ≤ maxLen by have := scan_mem hs; unfold maxLen; omega
  obtain ⟨A, cp, rfl, hcp, hcm, hcell, _⟩ := h
  have hcells : ∀ k (hk : k < L.length), ∃ b o, A = some ⟨b, o, none⟩ ∧ b < w.heap.size ∧ w.cell? ⟨b, o + k, none⟩ = some (.string (str L[k])) := fun k hk => by
    rcases hcell with h0 | ⟨b, o, hA, hcl⟩
    · omega
    · exact ⟨b, o, hA, cell_lt (hcl k hk), hcl k hk⟩
  have HC := Lib.hid hcells
  have h20 := hs.1
  clear hcell hcells hs hX hXl
  go_enter Try.func3, Try.ntmps3
  go_wp2_with (first
    | (go_at_call 6; ((with_reducible refine HG.out.mono ?_); rintro e w1 ⟨rfl, rfl⟩)))
  refine HP.out.mono ?_
  rintro e w1 ⟨rfl, hb1⟩
  have HB1 := Lib.hid hb1
  have HD := Lib.hid (dput_any _ L w1 (HH.out.below hb1) HSm.out.max (by omega))
  clear hb1
  go_wp2_with fail
  refine HD.out.mono ?_
  rintro e w2 ⟨rfl, hb2⟩
  have HB2 := Lib.hid (HB1.out.trans (hb2.mono HB1.out.size))
  have q1 : ((str (frames L)).toList != (str (frames L)).toList) = false := by simp
  clear hb2
  generalize hFF : frames L = F at *
  go_wp2
  clear q1
  go_loop [9, 10] (fun v9 v10 => RowI L v9 v10) (fun _ v10 => L.length - (intOf v10).toNat)
  case atStart => exact ⟨0, Nat.zero_le _, rfl, rfl⟩
  case round =>
    obtain ⟨k, hk, rfl, rfl⟩ := hrel
    by_cases hlt : k < L.length
    · obtain ⟨b, o, hA, hbl, hcl⟩ := HC.out k hlt
      subst hA
      have hcr : w2.cell? ⟨b, o + k, none⟩ = some (.string (str L[k])) := (HB2.out.cell (p := ⟨b, o + k, none⟩) hbl).trans hcl
      have h1 := Lib.hid (cost_take L k hlt)
      have h2 := cost_part L (k + 1)
      rw [h1.out] at h2
      have hss : (str L[k]).size = (L[k]).length := str_size _
      generalize L[k] = s at *
      generalize cost (L.take k) = c at *
      clear hcl
      go_wp2_with (go_at_call 10; refine (cost_any s.length (by omega) _).mono ?_; rintro e w4 ⟨rfl, rfl⟩)
      go_round
      case rel => exact ⟨k + 1, by omega, by go_num, by rw [h1.out]; go_num⟩
      case measure => simp [intOf]; omega
    · have hkl : k = L.length := by omega
      subst hkl
      rw [List.take_length]
      go_wp2_with fail
      rw [HA.out]
      refine (HSc.out _).mono ?_
      rintro e w3 ⟨va, rfl, ha, hb3⟩
      have HB3 := Lib.hid (HB2.out.trans (hb3.mono HB2.out.size))
      have HS3 := Lib.hid (Ss.strs ha HMem.out)
      clear ha hb3
      go_wp2_with fail
      rw [HA.out]
      refine (HDs.out _).mono ?_
      rintro e w4 ⟨vb, rfl, hb, hb4⟩
      have HB4 := Lib.hid (HB3.out.trans (hb4.mono HB3.out.size))
      have HE := Lib.hid (same_yes va vb _ w4 (HS3.out.below hb4) (Ss.strs hb HMem.out))
      clear hb hb4
      generalize cost (scan (F ++ m)) = K at *
      go_wp2_with fail
      refine HE.out.mono ?_
      rintro e w5 ⟨rfl, hb5⟩
      have HB5 := Lib.hid (HB4.out.trans (hb5.mono HB4.out.size))
      clear hb5
      go_wp2_with fail
      refine (head_any _).mono ?_
      rintro e w6 ⟨rfl, hb6⟩
      have HB6 := Lib.hid (HB5.out.trans (hb6.mono HB5.out.size))
      clear hb6
      go_wp2
      go_ret
      exact ⟨rfl, HB6.out⟩
end Go.Proofs.Ythffeaknfiabjaa.gn
