/- The contracts of the reader's Num, Int, Flag and Over. -/
import Derived.Test.YtjfachkonnfldaaPackS
import Derived.Deep.QuietTactic
import Derived.BigQuiet
namespace Go.Proofs.Ytjfachkonnfldaa
open Go.RowKit

/-- What Num tells, and what becomes of the reader. -/
def numOf : Option (List UInt8) → Nat × Option (List UInt8)
  | none => (0, none)
  | some l => match rd l with
    | some (n, r) => (n, some r)
    | none => (0, none)
theorem numOf_yes {l : List UInt8} {n : Nat} {r : List UInt8} (h : rd l = some (n, r)) : numOf (some l) = (n, some r) := by simp [numOf, h]
theorem numOf_no {l : List UInt8} (h : rd l = none) : numOf (some l) = (0, none) := by simp [numOf, h]
theorem numOf_lt (st : Option (List UInt8)) : (numOf st).1 < 18446744073709551616 := by
  cases st with
  | none => simp [numOf]
  | some l =>
    cases h : rd l with
    | none => rw [numOf_no h]; simp
    | some p => obtain ⟨n, r⟩ := p; rw [numOf_yes h]; exact rd_lt h

def NumPost (R : Nat) (st : Option (List UInt8)) (w : World) (e : Ending) (w' : World) : Prop :=
  e = .returned (.int .u64 ((numOf st).1 : Nat)) ∧ RS w' R (numOf st).2 ∧ But R w w'

theorem num_close {R : Nat} {st s2 : Option (List UInt8)} {w w' : World} {X : Int} {n : Nat} (h : numOf st = (n, s2)) (hX : X = (n : Int)) (hr : RS w' R s2) (hu : But R w w') : NumPost R st w (.returned (.int .u64 X)) w' :=
  ⟨by rw [h, hX], by rw [h]; exact hr, hu⟩

set_option maxHeartbeats 800000 in
theorem rNum_any (w : World) (R : Nat) (st : Option (List UInt8)) (hs : RS w R st) : Calls Try.prog 9 #[.pointer (some ⟨R, 0, none⟩)] w (NumPost R st w) := by
  have HS := Lib.hid hs
  clear hs
  cases st with
  | none =>
    go_enter Try.func9, Try.ntmps9
    go_wp2_with (go_at_call 13; refine (fine_no _ _ HS.out).mono ?_; rintro e w1 ⟨rfl, rfl⟩)
    go_ret
    exact ⟨rfl, HS.out, But.refl _ _⟩
  | some l =>
    have hR := RS_lt HS.out
    have HA : Hid (RS (w.alloc (.cells #[.pointer (some ⟨R, 0, none⟩)] 30)) R (some l)) := by
      exact (World.grownBy_alloc w _ none).block R hR (by simp) |>.trans HS.out
    have HB : Hid ((w.alloc (.cells #[.pointer (some ⟨R, 0, none⟩)] 30)).cell? ⟨w.heap.size, 0, none⟩ = some (.pointer (some ⟨R, 0, none⟩))) := by
      rw [World.cell?_alloc_at _ _ _ _ rfl]; rfl
    have hu : But R w (w.alloc (.cells #[.pointer (some ⟨R, 0, none⟩)] 30)) := (But.refl _ _).alloc _
    go_enter Try.func9, Try.ntmps9
    go_wp2_with (first | (go_at_call 13; refine (fine_yes _ _ _ HS.out).mono ?_; rintro e w1 ⟨rfl, rfl⟩) | (go_at_call 26; refine (bytes_any _ _).mono ?_; rintro e w1 ⟨rfl, rfl⟩))
    refine (readNum_any _ R _ l HA.out HB.out (by omega)).mono ?_
    rintro e w2 ⟨hu2, ⟨n, r, hn, rfl, hr2⟩ | ⟨hn, rfl, r, hr2⟩⟩
    · have HN := Lib.hid hn
      clear hn
      go_wp2
      go_ret
      exact num_close (numOf_yes HN.out) rfl hr2 (hu.trans hu2)
    · have HN := Lib.hid hn
      clear hn
      obtain ⟨_, _, c2, _⟩ := RS_some hr2
      go_wp2_with (go_at_call 24; refine (stop_any _ _ _ hr2).mono ?_; rintro e w3 ⟨rfl, hr3, hu3, _⟩)
      go_ret
      exact num_close (numOf_no HN.out) rfl hr3 ((hu.trans hu2).trans hu3)

theorem ret_i64 {a b : Int} (h : a = b) : Ending.returned (.int .i64 a) = .returned (.int .i64 b) := by rw [h]

def IntPost (R : Nat) (st : Option (List UInt8)) (w : World) (e : Ending) (w' : World) : Prop :=
  e = .returned (.int .i64 (unzig (numOf st).1)) ∧ RS w' R (numOf st).2 ∧ But R w w'

set_option maxHeartbeats 800000 in
theorem rInt_any (w : World) (R : Nat) (st : Option (List UInt8)) (hs : RS w R st) : Calls Try.prog 10 #[.pointer (some ⟨R, 0, none⟩)] w (IntPost R st w) := by
  unfold IntPost
  go_enter Try.func10, Try.ntmps10
  go_wp2_with fail
  refine (rNum_any _ R st hs).mono ?_
  rintro e w1 ⟨rfl, hr, hu⟩
  have hl := numOf_lt st
  have HE := Lib.hid (unzig_bits _ hl)
  go_wp2
  go_ret
  exact ⟨ret_i64 HE.out, hr, hu⟩

/-- What Flag tells, and what becomes of the reader. -/
def flagOf : Option (List UInt8) → Bool × Option (List UInt8)
  | none => (false, none)
  | some [] => (false, none)
  | some (c :: r) => if c.toNat < 2 then (decide (c.toNat = 1), some r) else (false, none)

def FlagPost (R : Nat) (st : Option (List UInt8)) (w : World) (e : Ending) (w' : World) : Prop :=
  e = .returned (.bool (flagOf st).1) ∧ RS w' R (flagOf st).2 ∧ But R w w'
theorem flag_close {R : Nat} {st s2 : Option (List UInt8)} {w w' : World} {b c : Bool} (h : flagOf st = (b, s2)) (hc : c = b) (hr : RS w' R s2) (hu : But R w w') : FlagPost R st w (.returned (.bool c)) w' :=
  ⟨by rw [h, hc], by rw [h]; exact hr, hu⟩

set_option maxHeartbeats 1600000 in
theorem rFlag_any (w : World) (R : Nat) (st : Option (List UInt8)) (hs : RS w R st) : Calls Try.prog 12 #[.pointer (some ⟨R, 0, none⟩)] w (FlagPost R st w) := by
  have HS := Lib.hid hs
  clear hs
  cases st with
  | none =>
    go_enter Try.func12, Try.ntmps12
    go_wp2_with (go_at_call 13; refine (fine_no _ _ HS.out).mono ?_; rintro e w1 ⟨rfl, rfl⟩)
    go_ret
    exact flag_close rfl rfl HS.out (But.refl _ _)
  | some l =>
    have hR := RS_lt HS.out
    have HA : Hid (RS (w.alloc (.cells #[.pointer (some ⟨R, 0, none⟩)] 30)) R (some l)) := by
      exact (World.grownBy_alloc w _ none).block R hR (by simp) |>.trans HS.out
    have HB : Hid ((w.alloc (.cells #[.pointer (some ⟨R, 0, none⟩)] 30)).cell? ⟨w.heap.size, 0, none⟩ = some (.pointer (some ⟨R, 0, none⟩))) := by
      rw [World.cell?_alloc_at _ _ _ _ rfl]; rfl
    have hu : But R w (w.alloc (.cells #[.pointer (some ⟨R, 0, none⟩)] 30)) := (But.refl _ _).alloc _
    cases l with
    | nil =>
      go_enter Try.func12, Try.ntmps12
      go_wp2_with (first | (go_at_call 13; refine (fine_yes _ _ _ HS.out).mono ?_; rintro e w1 ⟨rfl, rfl⟩) | (go_at_call 26; refine (bytes_any _ _).mono ?_; rintro e w1 ⟨rfl, rfl⟩))
      refine (next_none _ _ _ HA.out HB.out).mono ?_
      rintro e w2 ⟨rfl, hw2⟩
      subst hw2
      obtain ⟨_, _, c2, _⟩ := RS_some HA.out
      go_wp2_with (go_at_call 24; refine (stop_any _ _ _ HA.out).mono ?_; rintro e w3 ⟨rfl, hr3, hu3, _⟩)
      go_ret
      exact flag_close rfl rfl hr3 (hu.trans hu3)
    | cons c r =>
      have hc : c.toNat < 256 := UInt8.toNat_lt c
      by_cases h2 : c.toNat < 2
      · have HF : Hid (flagOf (some (c :: r)) = (decide (c.toNat = 1), some r)) := by show flagOf _ = _; simp [flagOf, h2]
        have HE : Hid (((c.toNat : Int) == 1) = decide (c.toNat = 1)) := by
          show _ = _
          rw [Bool.eq_iff_iff]; simp; omega
        go_enter Try.func12, Try.ntmps12
        go_wp2_with (first | (go_at_call 13; refine (fine_yes _ _ _ HS.out).mono ?_; rintro e w1 ⟨rfl, rfl⟩) | (go_at_call 26; refine (bytes_any _ _).mono ?_; rintro e w1 ⟨rfl, rfl⟩) | (go_at_call 36; refine (next_some _ _ _ _ _ HA.out HB.out).mono ?_; rintro e w2 ⟨rfl, hr2, hu2⟩))
        go_ret
        exact flag_close HF.out HE.out hr2 (hu.trans hu2)
      · have h2' : 2 ≤ c.toNat := by omega
        have HF : Hid (flagOf (some (c :: r)) = (false, none)) := by show flagOf _ = _; simp [flagOf, h2]
        clear h2
        go_enter Try.func12, Try.ntmps12
        go_wp2_with (first | (go_at_call 13; refine (fine_yes _ _ _ HS.out).mono ?_; rintro e w1 ⟨rfl, rfl⟩) | (go_at_call 26; refine (bytes_any _ _).mono ?_; rintro e w1 ⟨rfl, rfl⟩))
        refine (next_some _ _ _ _ _ HA.out HB.out).mono ?_
        rintro e w2 ⟨rfl, hr2, hu2⟩
        obtain ⟨_, _, c2, _⟩ := RS_some hr2
        go_wp2_with (go_at_call 24; refine (stop_any _ _ _ hr2).mono ?_; rintro e w3 ⟨rfl, hr3, hu3, _⟩)
        go_ret
        exact flag_close HF.out rfl hr3 ((hu.trans hu2).trans hu3)

/-- Whether a reader is fine, and at the end. -/
def overOf : Option (List UInt8) → Bool
  | some [] => true
  | _ => false

set_option maxHeartbeats 800000 in
theorem rOver_any (w : World) (R : Nat) (st : Option (List UInt8)) (hs : RS w R st) : Calls Try.prog 14 #[.pointer (some ⟨R, 0, none⟩)] w fun e w' => e = .returned (.bool (overOf st)) ∧ w = w' := by
  have HS := Lib.hid hs
  clear hs
  cases st with
  | none =>
    go_enter Try.func14, Try.ntmps14
    go_wp2_with (go_at_call 13; refine (fine_no _ _ HS.out).mono ?_; rintro e w1 ⟨rfl, rfl⟩)
    go_ret
    exact ⟨rfl, rfl⟩
  | some l =>
    obtain ⟨_, h1, _⟩ := RS_some HS.out
    have he : (str l).toList = l := str_toList l
    cases l with
    | nil =>
      have he : (str []).toList.isEmpty = true := by rw [str_toList]; rfl
      generalize str [] = s at *
      go_enter Try.func14, Try.ntmps14
      go_wp2_with (go_at_call 13; refine (fine_yes _ _ _ HS.out).mono ?_; rintro e w1 ⟨rfl, rfl⟩)
      go_ret
      exact ⟨rfl, rfl⟩
    | cons c r =>
      have he : (str (c :: r)).toList.isEmpty = false := by rw [str_toList]; rfl
      generalize str (c :: r) = s at *
      go_enter Try.func14, Try.ntmps14
      go_wp2_with (go_at_call 13; refine (fine_yes _ _ _ HS.out).mono ?_; rintro e w1 ⟨rfl, rfl⟩)
      go_ret
      exact ⟨rfl, rfl⟩
end Go.Proofs.Ytjfachkonnfldaa
