/- In the namespace gn: the contracts of the reader's Num and Over. -/
import Derived.Test.YtmaohncddjhgeaaGreatMPkR
import Derived.Deep.QuietTactic
import Derived.BigQuiet
section
namespace Go.Proofs.YtmaohncddjhgeaaGreat.gn
open Go.RowKit

/-- What Num tells, and what becomes of the reader. -/
def numOf : Option (List UInt8) → Nat × Option (List UInt8)
  | none => (0, none)
  | some l => match rd l with
    | some (n, r) => (n, some r)
    | none => (0, none)
theorem numOf_yes {l : List UInt8} {n : Nat} {r : List UInt8} (h : rd l = some (n, r)) : numOf (some l) = (n, some r) := by simp [numOf, h]
theorem numOf_no {l : List UInt8} (h : rd l = none) : numOf (some l) = (0, none) := by simp [numOf, h]
theorem numOf_lt (st : Option (List UInt8)) : (numOf st).1 < 18446744073709551616 := by
  cases st with
  | none => simp [numOf]
  | some l =>
    cases h : rd l with
    | none => rw [numOf_no h]; simp
    | some p => obtain ⟨n, r⟩ := p; rw [numOf_yes h]; exact rd_lt h

def NumPost (R : Nat) (st : Option (List UInt8)) (w : World) (e : Ending) (w' : World) : Prop :=
  e = .returned (.int .u64 ((numOf st).1 : Nat)) ∧ RS w' R (numOf st).2 ∧ But R w w'

theorem num_close {R : Nat} {st s2 : Option (List UInt8)} {w w' : World} {X : Int} {n : Nat} (h : numOf st = (n, s2)) (hX : X = (n : Int)) (hr : RS w' R s2) (hu : But R w w') : NumPost R st w (.returned (.int .u64 X)) w' :=
  ⟨by rw [h, hX], by rw [h]; exact hr, hu⟩

set_option maxRecDepth 100000 in
set_option maxHeartbeats 800000 in
theorem rNum_any (w : World) (R : Nat) (st : Option (List UInt8)) (hs : RS w R st) : Calls Tryz.prog 104 #[.pointer (some ⟨R, 0, none⟩)] w (NumPost R st w) := by
  have HS := Lib.hid hs
  clear hs
  cases st with
  | none =>
    go_enter Tryz.func104, Tryz.ntmps104
    go_wp2_with (go_at_call 105; refine (fine_no _ _ HS.out).mono ?_; rintro e w1 ⟨rfl, rfl⟩)
    go_ret
    exact ⟨rfl, HS.out, But.refl _ _⟩
  | some l =>
    have hR := RS_lt HS.out
    have HA : Hid (RS (w.alloc (.cells #[.pointer (some ⟨R, 0, none⟩)] 140)) R (some l)) := by
      exact (World.grownBy_alloc w _ none).block R hR (by simp) |>.trans HS.out
    have HB : Hid ((w.alloc (.cells #[.pointer (some ⟨R, 0, none⟩)] 140)).cell? ⟨w.heap.size, 0, none⟩ = some (.pointer (some ⟨R, 0, none⟩))) := by
      rw [World.cell?_alloc_at _ _ _ _ rfl]; rfl
    have hu : But R w (w.alloc (.cells #[.pointer (some ⟨R, 0, none⟩)] 140)) := (But.refl _ _).alloc _
    go_enter Tryz.func104, Tryz.ntmps104
    go_wp2_with (first | (go_at_call 105; refine (fine_yes _ _ _ HS.out).mono ?_; rintro e w1 ⟨rfl, rfl⟩) | (go_at_call 130; refine (bytes_any _ _).mono ?_; rintro e w1 ⟨rfl, rfl⟩))
    refine (readNum_any _ R _ l HA.out HB.out (by omega)).mono ?_
    rintro e w2 ⟨hu2, ⟨n, r, hn, rfl, hr2⟩ | ⟨hn, rfl, r, hr2⟩⟩
    · have HN := Lib.hid hn
      clear hn
      go_wp2
      go_ret
      exact num_close (numOf_yes HN.out) rfl hr2 (hu.trans hu2)
    · have HN := Lib.hid hn
      clear hn
      obtain ⟨_, _, c2, _⟩ := RS_some hr2
      go_wp2_with (go_at_call 128; refine (stop_any _ _ _ hr2).mono ?_; rintro e w3 ⟨rfl, hr3, hu3, _⟩)
      go_ret
      exact num_close (numOf_no HN.out) rfl hr3 ((hu.trans hu2).trans hu3)

/-- Whether a reader is fine, and at the end. -/
def overOf : Option (List UInt8) → Bool
  | some [] => true
  | _ => false

set_option maxRecDepth 100000 in
set_option maxHeartbeats 800000 in
theorem rOver_any (w : World) (R : Nat) (st : Option (List UInt8)) (hs : RS w R st) : Calls Tryz.prog 131 #[.pointer (some ⟨R, 0, none⟩)] w fun e w' => e = .returned (.bool (overOf st)) ∧ w = w' := by
  have HS := Lib.hid hs
  clear hs
  cases st with
  | none =>
    go_enter Tryz.func131, Tryz.ntmps131
    go_wp2_with (go_at_call 105; refine (fine_no _ _ HS.out).mono ?_; rintro e w1 ⟨rfl, rfl⟩)
    go_ret
    exact ⟨rfl, rfl⟩
  | some l =>
    obtain ⟨_, h1, _⟩ := RS_some HS.out
    have he : (str l).toList = l := str_toList l
    cases l with
    | nil =>
      have he : (str []).toList.isEmpty = true := by rw [str_toList]; rfl
      generalize str [] = s at *
      go_enter Tryz.func131, Tryz.ntmps131
      go_wp2_with (go_at_call 105; refine (fine_yes _ _ _ HS.out).mono ?_; rintro e w1 ⟨rfl, rfl⟩)
      go_ret
      exact ⟨rfl, rfl⟩
    | cons c r =>
      have he : (str (c :: r)).toList.isEmpty = false := by rw [str_toList]; rfl
      generalize str (c :: r) = s at *
      go_enter Tryz.func131, Tryz.ntmps131
      go_wp2_with (go_at_call 105; refine (fine_yes _ _ _ HS.out).mono ?_; rintro e w1 ⟨rfl, rfl⟩)
      go_ret
      exact ⟨rfl, rfl⟩
end Go.Proofs.YtmaohncddjhgeaaGreat.gn
end
