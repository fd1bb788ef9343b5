/- The document's cut, key2, within. -/
import Derived.Test.YtpmghgfgbkncoaaGreatDoorMSlFx
import Derived.Test.YtpmghgfgbkncoaaGreatDoorMSlSp
import Derived.Test.YtpmghgfgbkncoaaGreatDoorMUnG
import Derived.BigQuiet
import Derived.Test.YtpmghgfgbkncoaaGreatDoorMDiX
section
set_option linter.unusedVariables false
set_option linter.unusedSimpArgs false
namespace Go.Proofs.YtpmghgfgbkncoaaGreatDoor.gn
open Go.RowKit
open Go.Proofs.YtpmghgfgbkncoaaGreatDoor.un
open Go.Proofs.YtpmghgfgbkncoaaGreatDoor.di
open Go.Proofs.YtpmghgfgbkncoaaGreatDoor.sp (cutB cutB_at cutB_none key2 within?)

/-- What cut tells. -/
def cutV (c : UInt8) (l : Tx) : Value := match cutB c l with
  | some f => .tuple #[.string (str f.1), .string (str f.2), .bool true]
  | none => .tuple #[.string (str l), .string ({ data := #[] } : ByteArray), .bool false]
theorem not_take {c : UInt8} {l : Tx} {k : Nat} (h : c ∉ l.take k) (hk : k < l.length) (hb : l[k] ≠ c) : c ∉ l.take (k + 1) := by
  rw [List.take_add_one, List.getElem?_eq_getElem hk]
  intro hm
  rcases List.mem_append.1 hm with hm | hm
  · exact h hm
  · simp at hm; exact hb hm.symm
set_option maxRecDepth 100000 in
set_option maxHeartbeats 4000000 in
theorem dcut_any (c : UInt8) (l : Tx) (hl : l.length ≤ 100000) (w : World) : Calls Tryz.prog 42 #[.string (str l), .int .u8 (c.toNat : Int)] w (Told (cutV c l) w) := by
  have hz := str_size l
  have hz0 : (str l).size ≤ 100000 := by omega
  have HZ := Lib.hid hz
  obtain ⟨d, hd⟩ : ∃ d : Int, (c.toNat : Int) = d := ⟨_, rfl⟩
  rw [hd]
  have HD := Lib.hid hd
  clear hz hd
  go_enter Tryz.func42, Tryz.ntmps42
  go_wp2
  go_loopw [7] (fun s7 wr => ∃ k : Nat, s7 = .int .i64 (k : Int) ∧ k ≤ (str l).size ∧ Aside (c ∉ l.take k ∧ w = wr)) (fun s7 _ => (str l).size - (intOf s7).toNat)
  case atStart => exact ⟨0, rfl, Nat.zero_le _, by show c ∉ l.take 0; simp, rfl⟩
  case round =>
    obtain ⟨k, rfl, hk, hnx, hw⟩ := hrel
    have HX := Lib.hid (show c ∉ l.take k from hnx)
    have hw : w = wr := hw
    subst hw
    clear hnx
    by_cases hkn : k < (str l).size
    · have hil : k < l.length := by rw [← HZ.out]; exact hkn
      have hge := str_at l k hkn
      by_cases hb : l[k] = c
      · have q1 : ((((str l)[k]'hkn).toNat : Int) == d) = true := by rw [hge, hb, HD.out]; exact beq_self_eq_true _
        have HC := Lib.hid (show cutB c l = some (l.take k, l.drop (k + 1)) by
          have e : l = l.take k ++ c :: l.drop (k + 1) := by
            rw [← hb, ← List.drop_eq_getElem_cons hil, List.take_append_drop]
          have := cutB_at c (l.take k) (l.drop (k + 1)) HX.out
          rw [← e] at this
          exact this)
        have r1 := fun W => sl_upto l (k : Int) k rfl (by omega) W
        have r2 := fun W => sl_from l ((k : Int) + 1) (k + 1) (by omega) (by omega) W
        clear hb hge
        go_wp2_with (go_quiet (fail))
        go_ret3
        exact ⟨by unfold cutV; rw [HC.out]; rfl, Joins.below_draws _ _ _⟩
      · have q1 : ((((str l)[k]'hkn).toNat : Int) == d) = false := by
          rw [hge, beq_eq_false_iff_ne]
          intro e
          exact hb (UInt8.toNat_inj.1 (by have : ((l[k]'hil).toNat : Int) = (c.toNat : Int) := e.trans HD.out.symm; omega))
        have HNX := Lib.hid (not_take HX.out hil hb)
        clear hb hge
        go_wp2
        go_roundw
        case rel => exact ⟨k + 1, by go_num, by omega, HNX.out, trivial⟩
        case measure => simp [intOf]; omega
    · obtain rfl : k = (str l).size := by omega
      have HC := Lib.hid (show cutB c l = none from cutB_none c l (by have := HX.out; rwa [List.take_of_length_le (by rw [HZ.out]; exact Nat.le_refl _)] at this))
      go_wp2
      go_ret3
      exact ⟨by unfold cutV; rw [HC.out]; rfl, Below.refl _ _⟩
set_option maxRecDepth 100000 in
theorem key2_any (l : Tx) (hl : l.length ≤ 100000) (w : World) : Calls Tryz.prog 43 #[.string (str l)] w fun e w' => e = .returned (.int .u8 ((key2 l).toNat : Int)) ∧ w = w' := by
  cases l with
  | nil =>
    have hz : (str []).size = 0 := rfl
    have HK := Lib.hid (show ((key2 []).toNat : Int) = 63 from rfl)
    go_enter Tryz.func43, Tryz.ntmps43
    go_wp2
    go_ret
    exact ⟨by rw [HK.out]; rfl, rfl⟩
  | cons b r =>
    have hz := str_size (b :: r)
    have hz0 : 0 < (str (b :: r)).size := by rw [hz]; simp
    have hz1 : (str (b :: r)).size ≤ 100000 := by rw [hz]; exact hl
    have hge := str_at (b :: r) 0 hz0
    have HG := Lib.hid (show ((((str (b :: r))[0]'hz0).toNat : Int)) = ((key2 (b :: r)).toNat : Int) by rw [hge]; rfl)
    clear hz hge hl
    go_enter Tryz.func43, Tryz.ntmps43
    go_wp2
    go_ret
    exact ⟨by rw [← HG.out]; rfl, rfl⟩
/-- What within tells. -/
def WiT (s : Tx) (a b : Nat) (w : World) (e : Ending) (w' : World) : Prop := ∃ n : Int, e = .returned (.tuple #[.int .i64 n, .bool (within? s a b).isSome]) ∧ (∀ m : Nat, within? s a b = some m → n = (m : Int)) ∧ (-1 ≤ n ∧ n ≤ 9223372036854775807) ∧ w = w'
theorem num_bound {s : Tx} {n : Nat} (h : num? s = some n) : n ≤ top := (num_iff.1 h).1
set_option maxRecDepth 100000 in
theorem dwithin_any (s : Tx) (hs : s.length ≤ 100000) (a b : Nat) (w : World) : Calls Tryz.prog 44 #[.string (str s), .int .i64 (a : Int), .int .i64 (b : Int)] w (WiT s a b w) := by
  have HN := Lib.hid (fun W => dnumber_any s (by omega) W)
  cases hn : num? s with
  | none =>
    have HW := Lib.hid (show within? s a b = none by unfold within?; rw [hn])
    rw [hn, qv_none, qe_none] at HN
    clear hn
    go_enter Tryz.func44, Tryz.ntmps44
    go_wp2_with (go_at_call 71; ((with_reducible refine (HN.out _).mono ?_); rintro e w1 ⟨rfl, rfl⟩))
    go_ret2
    exact ⟨0, by rw [HW.out]; rfl, (fun m h => by rw [HW.out] at h; cases h), by omega, rfl⟩
  | some n =>
    have HB := Lib.hid (num_bound hn)
    rw [hn, qv_some, qe_some] at HN
    by_cases ha : a ≤ n
    · by_cases hb : n ≤ b
      · have HW := Lib.hid (show within? s a b = some n by unfold within?; rw [hn]; dsimp only; rw [if_pos ⟨ha, hb⟩])
        have d1 : (a : Int) ≤ (n : Int) := by omega
        have d2 : (n : Int) ≤ (b : Int) := by omega
        clear hn ha hb
        go_enter Tryz.func44, Tryz.ntmps44
        go_wp2_with (go_at_call 71; ((with_reducible refine (HN.out _).mono ?_); rintro e w1 ⟨rfl, rfl⟩))
        go_ret2
        exact ⟨(n : Int), by rw [HW.out]; rfl, (fun m h => by rw [HW.out] at h; cases h; rfl), by have := HB.out; unfold top at this; omega, rfl⟩
      · have HW := Lib.hid (show within? s a b = none by unfold within?; rw [hn]; dsimp only; rw [if_neg (fun h => hb h.2)])
        have d1 : (a : Int) ≤ (n : Int) := by omega
        have HNB := Lib.hid (show decide (n ≤ b) = false from decide_eq_false hb)
        have d2 : ¬ (n : Int) ≤ (b : Int) := by omega
        clear hn ha hb
        go_enter Tryz.func44, Tryz.ntmps44
        go_wp2_with (go_at_call 71; ((with_reducible refine (HN.out _).mono ?_); rintro e w1 ⟨rfl, rfl⟩))
        go_ret2
        exact ⟨(n : Int), by rw [HW.out]; show Ending.returned (.tuple #[.int .i64 (n : Int), .bool (decide (n ≤ b))]) = _; rw [HNB.out]; rfl, (fun m h => by rw [HW.out] at h; cases h), by have := HB.out; unfold top at this; omega, rfl⟩
    · have HW := Lib.hid (show within? s a b = none by unfold within?; rw [hn]; dsimp only; rw [if_neg (fun h => ha h.1)])
      have d1 : ¬ (a : Int) ≤ (n : Int) := by omega
      clear hn ha
      go_enter Tryz.func44, Tryz.ntmps44
      go_wp2_with (go_at_call 71; ((with_reducible refine (HN.out _).mono ?_); rintro e w1 ⟨rfl, rfl⟩))
      go_ret2
      exact ⟨(n : Int), by rw [HW.out]; rfl, (fun m h => by rw [HW.out] at h; cases h), by have := HB.out; unfold top at this; omega, rfl⟩
end Go.Proofs.YtpmghgfgbkncoaaGreatDoor.gn
end
