/- Contracts of split and unit.Size: sizes that are read. -/
import Derived.Test.YtekcjfdllclphaaGreatDoorMUnA
import Derived.Deep.LoopGhost
import Derived.BigQuiet
import Derived.Deep.DeepCutAuto
import Derived.Deep.CutBlock
section
set_option linter.unusedVariables false
namespace Go.Proofs.YtekcjfdllclphaaGreatDoor.gn
open Go.RowKit
open Go.Proofs.YtekcjfdllclphaaGreatDoor.un

theorem cutS_any (l p : List UInt8) (hl : l.length ≤ 140737488355328) (w : World) :
    Calls Tryz.prog 157 #[.string (str l), .string (str p)] w fun e w' => e = .returned (.tuple #[.string (str (Lib.trimSuffix l p)), .bool (Lib.hasSuffix l p)]) ∧ w = w' := by
  refine (Any.strings_CutSuffix layCutSuffix (str l) (str p) w (by rw [str_size]; omega)).mono ?_
  rintro e w' ⟨he, hw⟩
  have e1 : (str l).data.toList = l := by simp [str]
  have e2 : (str p).data.toList = p := by simp [str]
  rw [e1, e2] at he
  exact ⟨he, hw.symm⟩

set_option maxRecDepth 100000 in
set_option maxHeartbeats 1600000 in
theorem split_any (l : List UInt8) (hl : l.length ≤ 140737488355328) (w : World) :
    Calls Tryz.prog 142 #[.string (str l)] w (Told (.tuple #[.string (str (spl l).1), .int .i64 ((spl l).2 : Nat)]) w) := by
  have HS := Lib.hid hl
  clear hl
  go_enter Tryz.func142, Tryz.ntmps142
  go_wp2_with (first
    | (go_at_call 140; refine (units_any _).mono ?_; rintro e w1 ⟨b, rfl, hu, hbl, hb⟩; have HU := Lib.hid hu; have HB := Lib.hid hb; clear hu hb hbl)
    | (go_at_call 141; refine (order_any _).mono ?_; rintro e w2 ⟨rfl, hb2⟩; have HU2 := Lib.hid (HU.out.next hb2); have HB2 := Lib.hid (HB.out.trans (hb2.mono HB.out.size)); clear hb2))
  go_loopw [11] (fun s11 wr => ∃ k : Nat, s11 = .int .i64 k ∧ k ≤ 8 ∧ Aside (∀ i, i < k → Lib.hasSuffix l (nm i) = false) ∧ wr = w2) (fun s11 _ => 8 - (intOf s11).toNat)
  case atStart => exact ⟨0, rfl, by omega, fun i hi => absurd hi (by omega), rfl⟩
  case round =>
    obtain ⟨k, rfl, hk, hno, rfl⟩ := hrel
    by_cases h8 : k < 8
    · have hix := order_at wr h8
      cases hs : Lib.hasSuffix l (nm k) with
      | true =>
        have hsp := spl_at h8 hno hs
        have HSP := Lib.hid hsp
        have hlk := HU2.out.look h8
        have hlk2 : ∀ q, (Instr.lookup 175 (.map (some b)) (.string (str (nm k))) false).run Tryz.prog (wr.drewN q) = .ok (.int .i64 (sz k : Nat)) (wr.drewN q) := fun q => UM.look (show UM (wr.drewN q) b from HU2.out) h8
        have HK := Lib.hid hs
        clear hsp hs
        go_wp2_with (first
          | (go_at_call 157; refine (cutS_any l (nm k) HS.out _).mono ?_; rintro e w3 ⟨rfl, rfl⟩; rw [HK.out])
          | (go_quiet (fail)))
        go_ret2
        exact ⟨by rw [HSP.out]; rfl, HB2.out.trans (Joins.below_draws _ _ _)⟩
      | false =>
        have HK := Lib.hid hs
        have hno2 : ∀ i, i < k + 1 → Lib.hasSuffix l (nm i) = false := fun i hi => by
          rcases Nat.lt_or_ge i k with h | h
          · exact hno i h
          · rw [show i = k by omega]; exact hs
        have HN := Lib.hid hno2
        clear hs hno2
        go_wp2_with (go_at_call 157; refine (cutS_any l (nm k) HS.out _).mono ?_; rintro e w3 ⟨rfl, rfl⟩; rw [HK.out])
        go_roundw
        case rel => exact ⟨k + 1, by go_num, by omega, HN.out, trivial⟩
        case measure => simp [intOf]; omega
    · obtain rfl : k = 8 := by omega
      have hsp := spl_none hno
      have HSP := Lib.hid hsp
      clear hsp
      go_wp2
      go_ret2
      exact ⟨by rw [HSP.out]; rfl, HB2.out⟩

theorem size_of {l : List UInt8} {f : List UInt8} {b : Nat} (h : spl l = (f, b)) : size? l = match num? f with
    | some n => if n ≤ top / b then some (n * b) else none
    | none => none := by
  unfold size?
  rw [h]
  rfl

set_option maxRecDepth 100000 in
set_option maxHeartbeats 1600000 in
theorem size_any (l : List UInt8) (hl : l.length ≤ 140737488355328) (w : World) (hL : LaidU w) :
    Calls Tryz.prog 120 #[.string (str l)] w (Tnum (size? l) w) := by
  obtain ⟨f, b, hf⟩ : ∃ f b, spl l = (f, b) := ⟨_, _, rfl⟩
  have hb := spl_bd l
  have hfl := spl_len l
  have hsz := size_of hf
  have hsp := split_any l hl
  rw [hf] at hb hfl hsp
  dsimp only at hb hfl hsp
  have HS := Lib.hid hsp
  have HL := Lib.hid hL
  have HF := Lib.hid (Nat.le_trans hfl hl)
  clear hsp hL hfl hf hl
  obtain ⟨hb0, hbt⟩ := hb
  unfold top at hbt
  cases hn : num? f with
  | none =>
    rw [hn] at hsz
    dsimp only at hsz
    rw [hsz]
    have HN := Lib.hid hn
    clear hsz hn
    go_enter Tryz.func120, Tryz.ntmps120
    go_wp2_with (first
      | (go_at_call 142; refine (HS.out _).mono ?_; rintro e w1 ⟨rfl, hb1⟩; have HB1 := Lib.hid hb1; clear hb1)
      | (go_at_call 114; refine (number_unit f HF.out _ (HL.out.next HB1.out)).mono ?_; rintro e w2 ⟨rfl, hb2⟩; rw [HN.out, qv_none, qe_none]; have HB2 := Lib.hid (HB1.out.trans (hb2.mono HB1.out.size)); clear hb2))
    go_ret2
    exact ⟨rfl, HB2.out⟩
  | some n =>
    rw [hn] at hsz
    dsimp only at hsz
    have hnt := (num_some hn).2.2.2.1
    unfold top at hnt
    have hq : Int.tdiv 1099511627776 (b : Int) = ((top / b : Nat) : Int) := rfl
    have HN := Lib.hid hn
    have hb1 : ¬ ((b : Int) = 0) := by omega
    have hqt : top / b ≤ 1099511627776 := Nat.div_le_self _ _
    by_cases hc : n ≤ top / b
    · rw [if_pos hc] at hsz
      rw [hsz]
      obtain ⟨m, hm⟩ : ∃ m, m = n * b := ⟨_, rfl⟩
      have hmt : m ≤ 1099511627776 := by
        rw [hm]
        exact Nat.le_trans (Nat.mul_le_mul_right _ hc) (Nat.div_mul_le_self _ _)
      have hmi : (n : Int) * (b : Int) = (m : Int) := by rw [hm]; push_cast; rfl
      rw [← hm]
      obtain ⟨q, hqe⟩ : ∃ q, top / b = q := ⟨_, rfl⟩
      rw [hqe] at hq hc hqt
      clear hsz hn hm hqe
      go_enter Tryz.func120, Tryz.ntmps120
      go_wp2_with (first
        | (go_at_call 142; refine (HS.out _).mono ?_; rintro e w1 ⟨rfl, hb1⟩; have HB1 := Lib.hid hb1; clear hb1)
        | (go_at_call 114; refine (number_unit f HF.out _ (HL.out.next HB1.out)).mono ?_; rintro e w2 ⟨rfl, hb2⟩; rw [HN.out, qv_some, qe_some]; have HB2 := Lib.hid (HB1.out.trans (hb2.mono HB1.out.size)); clear hb2))
      go_ret2
      exact ⟨rfl, HB2.out⟩
    · rw [if_neg hc] at hsz
      rw [hsz]
      obtain ⟨q, hqe⟩ : ∃ q, top / b = q := ⟨_, rfl⟩
      rw [hqe] at hq hc hqt
      clear hsz hn hqe
      go_enter Tryz.func120, Tryz.ntmps120
      go_wp2_with (first
        | (go_at_call 142; refine (HS.out _).mono ?_; rintro e w1 ⟨rfl, hb1⟩; have HB1 := Lib.hid hb1; clear hb1)
        | (go_at_call 114; refine (number_unit f HF.out _ (HL.out.next HB1.out)).mono ?_; rintro e w2 ⟨rfl, hb2⟩; rw [HN.out, qv_some, qe_some]; have HB2 := Lib.hid (HB1.out.trans (hb2.mono HB1.out.size)); clear hb2))
      go_ret2
      exact ⟨rfl, HB2.out⟩
end Go.Proofs.YtekcjfdllclphaaGreatDoor.gn
end
section
set_option linter.unusedVariables false
namespace Go.Proofs.YtekcjfdllclphaaGreatDoor.gn
open Go.RowKit
open Go.Proofs.YtekcjfdllclphaaGreatDoor.un

set_option maxRecDepth 100000 in
theorem four_slice (b : Nat) (W : World) : (Instr.sliceAt 177 (.pointer (some ⟨b, 0, none⟩)) none (some (.int .i64 4)) none).run Tryz.prog W = .ok (.slice (some ⟨b, 0, none⟩) 4 8) W := by
  have hl : Tryz.prog.arrayLen 177 = 8 := by kernel_rfl
  rw [run_sliceAt_array_h W _ _ Tryz.underlying177 .i64 4 (by omega) (by rw [hl]; omega), hl]
  have hs : ∀ W, (sizeOf (Tryz.prog.elem 177)).run Tryz.prog W = .ok 1 W := fun W => rfl
  rw [hs]
  have ha : (⟨b, 0, none⟩ : Addr).add 0 = ⟨b, 0, none⟩ := by unfold Addr.add; split <;> simp_all
  simp [slicedAt, Result.andThen, ha]

set_option maxRecDepth 100000 in
set_option maxHeartbeats 1600000 in
theorem stext_out (n : Int) (h0 : -9223372036854775808 ≤ n) (h1 : n ≤ 9223372036854775807) (hq : ¬ (0 < n ∧ n ≤ 1099511627776)) (w : World) (hL : LaidU w) :
    Calls Tryz.prog 118 #[.int .i64 n] w (Told (.string (str (stxt n))) w) := by
  rw [stxt_out hq]
  have HL := Lib.hid hL
  clear hL
  by_cases hz : n = 0
  · subst hz
    go_enter Tryz.func118, Tryz.ntmps118
    go_wp2_with (go_at_call 93; refine (text_any 0 h0 h1 _ HL.out).mono ?_; rintro e w2 ⟨rfl, hb2⟩; have HB2 := Lib.hid hb2; clear hb2)
    go_ret
    exact ⟨rfl, HB2.out⟩
  · obtain ⟨m, hm⟩ : ∃ m, m = min (max n 0) 1099511627776 := ⟨_, rfl⟩
    have hne : (n == m) = false := by
      rw [beq_eq_false_iff_ne]
      omega
    have hne2 : (n != m) = true := by rw [bne_iff_ne]; exact beq_eq_false_iff_ne.1 hne
    have HM := Lib.hid hm
    clear hm hq
    go_enter Tryz.func118, Tryz.ntmps118
    go_wp2_with (first
      | (go_at_call 121; refine (uof_any n _).mono ?_; rintro e w' ⟨rfl, rfl⟩; rw [← HM.out])
      | (go_at_call 93; refine (text_any n h0 h1 _ HL.out).mono ?_; rintro e w2 ⟨rfl, hb2⟩; have HB2 := Lib.hid hb2; clear hb2))
    go_ret
    exact ⟨rfl, HB2.out⟩

set_option maxRecDepth 100000 in
set_option maxHeartbeats 3200000 in
theorem stext_in (n : Nat) (h0 : 0 < n) (h1 : n ≤ 1099511627776) (w : World) (hL : LaidU w) :
    Calls Tryz.prog 118 #[.int .i64 (n : Int)] w (Told (.string (str (stxt (n : Int)))) w) := by
  have HL := Lib.hid hL
  have hm : min (max (n : Int) 0) 1099511627776 = (n : Int) := by omega
  have HM := Lib.hid hm
  clear hL hm
  go_enter Tryz.func118, Tryz.ntmps118
  go_upto_region 4 with (first
    | (go_at_call 121; refine (uof_any (n : Int) _).mono ?_; rintro e w' ⟨rfl, rfl⟩; rw [HM.out])
    | (go_at_call 140; refine (units_any _).mono ?_; rintro e w1 ⟨b, rfl, hu, hbl, hb⟩; have HU := Lib.hid hu; have HB := Lib.hid hb; clear hu hb hbl)
    | (go_at_call 141; refine (order_any _).mono ?_; rintro e w2 ⟨rfl, hb2⟩; unfold ordV; have HU2 := Lib.hid (HU.out.next hb2); have HB2 := Lib.hid (HB.out.trans (hb2.mono HB.out.size)); clear hb2))
  obtain ⟨w3, hw3⟩ : ∃ w3, w2.alloc (.cells ordV 177) = w3 := ⟨_, rfl⟩
  have hcell : ∀ k, k < 8 → w3.cell? ⟨w2.heap.size, k, none⟩ = some (.string (str (nm k))) := fun k hk => by
    rw [← hw3, World.cell?_alloc_mark]
    exact ordV_at hk
  have hsz3 : w2.heap.size < w3.heap.size := by rw [← hw3]; simp
  have hb3 : Below w2.heap.size w2 w3 := by rw [← hw3]; exact (Below.refl _ _).alloc (Nat.le_refl _) _
  have HU3 := Lib.hid (HU2.out.next hb3)
  have HB3 := Lib.hid (HB2.out.trans (hb3.mono HB2.out.size))
  unfold ordV at hw3
  rw [hw3]
  clear hw3 hb3
  have HC := Lib.hid hcell
  clear hcell
  have hsl := four_slice w2.heap.size w3
  generalize w2.heap.size = g at *
  go_wp2
  go_loopw [21] (fun s21 wr => ∃ k : Nat, s21 = .int .i64 k ∧ k ≤ 4 ∧ Aside (∀ i, i < k → n % sz i ≠ 0) ∧ wr = w3) (fun s21 _ => 4 - (intOf s21).toNat)
  case atStart => exact ⟨0, rfl, by omega, fun i hi => absurd hi (by omega), rfl⟩
  case round =>
    obtain ⟨k, rfl, hk, hno, rfl⟩ := hrel
    by_cases h4 : k < 4
    · have hck := HC.out k (by omega)
      have hlk := HU3.out.look (show k < 8 by omega)
      have hsb := sz_bd (show k < 8 by omega)
      have hs0 : ¬ ((sz k : Nat) : Int) = 0 := by omega
      have htm : Int.tmod (n : Int) ((sz k : Nat) : Int) = ((n % sz k : Nat) : Int) := rfl
      have htd : Int.tdiv (n : Int) ((sz k : Nat) : Int) = ((n / sz k : Nat) : Int) := rfl
      by_cases hd : n % sz k = 0
      · have hx := stxt_at h0 h1 h4 hno hd
        have HX := Lib.hid hx
        have hle : n / sz k ≤ 1099511627776 := Nat.le_trans (Nat.div_le_self _ _) h1
        have z1 : (str (txt ((n / sz k : Nat) : Int))).size ≤ 13 := by rw [str_size]; exact txt_len _
        have z2 : (str (nm k)).size ≤ 3 := by rw [str_size]; exact nm_len (by omega)
        have hte := txt_in hle
        have HTE := Lib.hid hte
        rw [hd] at htm
        clear hx hte hno hd
        generalize n / sz k = q at *
        go_wp2_with (go_at_call 93; refine (text_any (q : Int) (by omega) (by omega) _ (HL.out.next HB3.out)).mono ?_; rintro e w4 ⟨rfl, hb4⟩; have HB4 := Lib.hid (HB3.out.trans (hb4.mono HB3.out.size)); clear hb4)
        go_ret
        exact ⟨by rw [HX.out, HTE.out, str_app]; rfl, HB4.out⟩
      · have hd2 : ((n % sz k : Nat) : Int) ≠ 0 := by omega
        have hno2 : ∀ i, i < k + 1 → n % sz i ≠ 0 := fun i hi => by
          rcases Nat.lt_or_ge i k with h | h
          · exact hno i h
          · rw [show i = k by omega]; exact hd
        have HN := Lib.hid hno2
        clear hno2 hno hd htd
        generalize n % sz k = r at *
        go_wp2
        go_roundw
        case rel => exact ⟨k + 1, by go_num, by omega, HN.out, trivial⟩
        case measure => simp [intOf]; omega
    · obtain rfl : k = 4 := by omega
      have hx := stxt_none h0 h1 hno
      have HX := Lib.hid hx
      have HTE := Lib.hid (txt_in h1)
      clear hx hno
      go_wp2_with (go_at_call 93; refine (text_any (n : Int) (by omega) (by omega) _ (HL.out.next HB3.out)).mono ?_; rintro e w4 ⟨rfl, hb4⟩; have HB4 := Lib.hid (HB3.out.trans (hb4.mono HB3.out.size)); clear hb4)
      go_ret
      exact ⟨by rw [HX.out, HTE.out]; rfl, HB4.out⟩

theorem stext_any (n : Int) (h0 : -9223372036854775808 ≤ n) (h1 : n ≤ 9223372036854775807) (w : World) (hL : LaidU w) :
    Calls Tryz.prog 118 #[.int .i64 n] w (Told (.string (str (stxt n))) w) := by
  by_cases h : 0 < n ∧ n ≤ 1099511627776
  · obtain ⟨m, rfl⟩ : ∃ m : Nat, n = (m : Int) := ⟨n.toNat, by omega⟩
    exact stext_in m (by omega) (by omega) w hL
  · exact stext_out n h0 h1 h w hL
end Go.Proofs.YtekcjfdllclphaaGreatDoor.gn
end
