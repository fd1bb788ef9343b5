/- Contracts of split and unit.Size: sizes that are read. -/
import Derived.Test.YtpmghgfgbkncoaaGreatDoorMUnB
import Derived.Deep.LoopGhost
import Derived.BigQuiet
section
set_option linter.unusedVariables false
namespace Go.Proofs.YtpmghgfgbkncoaaGreatDoor.gn
open Go.RowKit
open Go.Proofs.YtpmghgfgbkncoaaGreatDoor.un

theorem cutS_any (l p : List UInt8) (hl : l.length ≤ 140737488355328) (w : World) :
    Calls Tryz.prog 127 #[.string (str l), .string (str p)] w fun e w' => e = .returned (.tuple #[.string (str (Lib.trimSuffix l p)), .bool (Lib.hasSuffix l p)]) ∧ w = w' := by
  refine (Any.strings_CutSuffix layCutSuffix (str l) (str p) w (by rw [str_size]; omega)).mono ?_
  rintro e w' ⟨he, hw⟩
  have e1 : (str l).data.toList = l := by simp [str]
  have e2 : (str p).data.toList = p := by simp [str]
  rw [e1, e2] at he
  exact ⟨he, hw.symm⟩

set_option maxRecDepth 100000 in
set_option maxHeartbeats 1600000 in
theorem split_any (l : List UInt8) (hl : l.length ≤ 140737488355328) (w : World) :
    Calls Tryz.prog 112 #[.string (str l)] w (Told (.tuple #[.string (str (spl l).1), .int .i64 ((spl l).2 : Nat)]) w) := by
  have HS := Lib.hid hl
  clear hl
  go_enter Tryz.func112, Tryz.ntmps112
  go_wp2_with (first
    | (go_at_call 98; refine (units_any _).mono ?_; rintro e w1 ⟨b, rfl, hu, hbl, hb⟩; have HU := Lib.hid hu; have HB := Lib.hid hb; clear hu hb hbl)
    | (go_at_call 99; refine (order_any _).mono ?_; rintro e w2 ⟨rfl, hb2⟩; have HU2 := Lib.hid (HU.out.next hb2); have HB2 := Lib.hid (HB.out.trans (hb2.mono HB.out.size)); clear hb2))
  go_loopw [11] (fun s11 wr => ∃ k : Nat, s11 = .int .i64 k ∧ k ≤ 8 ∧ Aside (∀ i, i < k → Lib.hasSuffix l (nm i) = false) ∧ wr = w2) (fun s11 _ => 8 - (intOf s11).toNat)
  case atStart => exact ⟨0, rfl, by omega, fun i hi => absurd hi (by omega), rfl⟩
  case round =>
    obtain ⟨k, rfl, hk, hno, rfl⟩ := hrel
    by_cases h8 : k < 8
    · have hix := order_at wr h8
      cases hs : Lib.hasSuffix l (nm k) with
      | true =>
        have hsp := spl_at h8 hno hs
        have HSP := Lib.hid hsp
        have hlk := HU2.out.look h8
        have hlk2 : ∀ q, (Instr.lookup 131 (.map (some b)) (.string (str (nm k))) false).run Tryz.prog (wr.drewN q) = .ok (.int .i64 (sz k : Nat)) (wr.drewN q) := fun q => UM.look (show UM (wr.drewN q) b from HU2.out) h8
        have HK := Lib.hid hs
        clear hsp hs
        go_wp2_with (first
          | (go_at_call 127; refine (cutS_any l (nm k) HS.out _).mono ?_; rintro e w3 ⟨rfl, rfl⟩; rw [HK.out])
          | (go_quiet (fail)))
        go_ret2
        exact ⟨by rw [HSP.out]; rfl, HB2.out.trans (Joins.below_draws _ _ _)⟩
      | false =>
        have HK := Lib.hid hs
        have hno2 : ∀ i, i < k + 1 → Lib.hasSuffix l (nm i) = false := fun i hi => by
          rcases Nat.lt_or_ge i k with h | h
          · exact hno i h
          · rw [show i = k by omega]; exact hs
        have HN := Lib.hid hno2
        clear hs hno2
        go_wp2_with (go_at_call 127; refine (cutS_any l (nm k) HS.out _).mono ?_; rintro e w3 ⟨rfl, rfl⟩; rw [HK.out])
        go_roundw
        case rel => exact ⟨k + 1, by go_num, by omega, HN.out, trivial⟩
        case measure => simp [intOf]; omega
    · obtain rfl : k = 8 := by omega
      have hsp := spl_none hno
      have HSP := Lib.hid hsp
      clear hsp
      go_wp2
      go_ret2
      exact ⟨by rw [HSP.out]; rfl, HB2.out⟩

theorem size_of {l : List UInt8} {f : List UInt8} {b : Nat} (h : spl l = (f, b)) : size? l = match num? f with
    | some n => if n ≤ top / b then some (n * b) else none
    | none => none := by
  unfold size?
  rw [h]
  rfl

set_option maxRecDepth 100000 in
set_option maxHeartbeats 1600000 in
theorem size_any (l : List UInt8) (hl : l.length ≤ 140737488355328) (w : World) (hL : LaidU w) :
    Calls Tryz.prog 93 #[.string (str l)] w (Tnum (size? l) w) := by
  obtain ⟨f, b, hf⟩ : ∃ f b, spl l = (f, b) := ⟨_, _, rfl⟩
  have hb := spl_bd l
  have hfl := spl_len l
  have hsz := size_of hf
  have hsp := split_any l hl
  rw [hf] at hb hfl hsp
  dsimp only at hb hfl hsp
  have HS := Lib.hid hsp
  have HL := Lib.hid hL
  have HF := Lib.hid (Nat.le_trans hfl hl)
  clear hsp hL hfl hf hl
  obtain ⟨hb0, hbt⟩ := hb
  unfold top at hbt
  cases hn : num? f with
  | none =>
    rw [hn] at hsz
    dsimp only at hsz
    rw [hsz]
    have HN := Lib.hid hn
    clear hsz hn
    go_enter Tryz.func93, Tryz.ntmps93
    go_wp2_with (first
      | (go_at_call 112; refine (HS.out _).mono ?_; rintro e w1 ⟨rfl, hb1⟩; have HB1 := Lib.hid hb1; clear hb1)
      | (go_at_call 113; refine (number_unit f HF.out _ (HL.out.next HB1.out)).mono ?_; rintro e w2 ⟨rfl, hb2⟩; rw [HN.out, qv_none, qe_none]; have HB2 := Lib.hid (HB1.out.trans (hb2.mono HB1.out.size)); clear hb2))
    go_ret2
    exact ⟨rfl, HB2.out⟩
  | some n =>
    rw [hn] at hsz
    dsimp only at hsz
    have hnt := (num_some hn).2.2.2.1
    unfold top at hnt
    have hq : Int.tdiv 1099511627776 (b : Int) = ((top / b : Nat) : Int) := rfl
    have HN := Lib.hid hn
    have hb1 : ¬ ((b : Int) = 0) := by omega
    have hqt : top / b ≤ 1099511627776 := Nat.div_le_self _ _
    by_cases hc : n ≤ top / b
    · rw [if_pos hc] at hsz
      rw [hsz]
      obtain ⟨m, hm⟩ : ∃ m, m = n * b := ⟨_, rfl⟩
      have hmt : m ≤ 1099511627776 := by
        rw [hm]
        exact Nat.le_trans (Nat.mul_le_mul_right _ hc) (Nat.div_mul_le_self _ _)
      have hmi : (n : Int) * (b : Int) = (m : Int) := by rw [hm]; push_cast; rfl
      rw [← hm]
      obtain ⟨q, hqe⟩ : ∃ q, top / b = q := ⟨_, rfl⟩
      rw [hqe] at hq hc hqt
      clear hsz hn hm hqe
      go_enter Tryz.func93, Tryz.ntmps93
      go_wp2_with (first
        | (go_at_call 112; refine (HS.out _).mono ?_; rintro e w1 ⟨rfl, hb1⟩; have HB1 := Lib.hid hb1; clear hb1)
        | (go_at_call 113; refine (number_unit f HF.out _ (HL.out.next HB1.out)).mono ?_; rintro e w2 ⟨rfl, hb2⟩; rw [HN.out, qv_some, qe_some]; have HB2 := Lib.hid (HB1.out.trans (hb2.mono HB1.out.size)); clear hb2))
      go_ret2
      exact ⟨rfl, HB2.out⟩
    · rw [if_neg hc] at hsz
      rw [hsz]
      obtain ⟨q, hqe⟩ : ∃ q, top / b = q := ⟨_, rfl⟩
      rw [hqe] at hq hc hqt
      clear hsz hn hqe
      go_enter Tryz.func93, Tryz.ntmps93
      go_wp2_with (first
        | (go_at_call 112; refine (HS.out _).mono ?_; rintro e w1 ⟨rfl, hb1⟩; have HB1 := Lib.hid hb1; clear hb1)
        | (go_at_call 113; refine (number_unit f HF.out _ (HL.out.next HB1.out)).mono ?_; rintro e w2 ⟨rfl, hb2⟩; rw [HN.out, qv_some, qe_some]; have HB2 := Lib.hid (HB1.out.trans (hb2.mono HB1.out.size)); clear hb2))
      go_ret2
      exact ⟨rfl, HB2.out⟩
end Go.Proofs.YtpmghgfgbkncoaaGreatDoor.gn
end
