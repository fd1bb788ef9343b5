/- The contract of Open. -/
import Derived.Test.YtpbgckpjgfjmgaaSealC
import Derived.BigQuiet
import Derived.WalkSmall
import Derived.Deep.QuietTactic
import Derived.Deep.RegionHeld3
import Derived.Deep.RegionWith
namespace Go.Proofs.Ytpbgckpjgfjmgaa.gn
open Go.RowKit
open Go.Proofs.Ytpbgckpjgfjmgaa.sl

/-- What lies ahead of the last eight bytes, and these. -/
def front (l : List UInt8) : List UInt8 := l.take (l.length - 8)
def back (l : List UInt8) : List UInt8 := l.drop (l.length - 8)
def opens (l : List UInt8) : Bool := decide (8 ≤ l.length ∧ back l = le 8 (crc (front l)).toNat)
def opened (l : List UInt8) : List UInt8 := if opens l then front l else []

theorem nums (l : List UInt8) (h : 8 ≤ l.length) : 8 ≤ (str l).size := by rw [str_size]; exact h

set_option maxRecDepth 100000 in
set_option maxHeartbeats 800000 in
theorem open_short (l : List UInt8) (hl : l.length < 8) (w : World) :
    Calls Try.prog 70 #[.string (str l)] w fun e w' => e = .returned (.tuple #[.string ⟨#[]⟩, .bool false]) ∧ Below w.heap.size w w' := by
  have b1 : (str l).size < 8 := by rw [str_size]; exact hl
  have hd : decide ((((str l).size : Nat) : Int) - 8 < 0) = true := decide_eq_true (by omega)
  clear hl
  go_enter Try.func70, Try.ntmps70
  go_wp2
  go_quiet (fail)
  go_wp2
  go_ret2
  exact ⟨rfl, below_drewN (Below.refl _ _) _⟩

theorem slice_hi (s : ByteArray) (h : Int) (h0 : 0 ≤ h) (h2 : h ≤ s.size) (w : World) :
    (Instr.slice 9 (.string s) none (some (.int .i64 h)) none).run Try.prog w = .ok (.string (s.extract 0 h.toNat)) w := run_slice_string_h (P := Try.prog) w 9 s Try.underlying9 .i64 h h0 h2
theorem slice_lo (s : ByteArray) (h : Int) (h0 : 0 ≤ h) (h2 : h ≤ s.size) (w : World) :
    (Instr.slice 9 (.string s) (some (.int .i64 h)) none none).run Try.prog w = .ok (.string (s.extract h.toNat s.size)) w := run_slice_string_l (P := Try.prog) w 9 s Try.underlying9 .i64 h h0 h2
set_option maxRecDepth 100000 in
set_option maxHeartbeats 1600000 in
theorem open_long (l : List UInt8) (hl : 8 ≤ l.length) (hl2 : l.length ≤ 140737488355328) (w : World) :
    Calls Try.prog 70 #[.string (str l)] w fun e w' => e = .returned (.tuple #[.string (str (opened l)), .bool (opens l)]) ∧ Below w.heap.size w w' := by
  have key : ((str (back l)).toList == (str (le 8 (crc (front l)).toNat)).toList) = opens l := by
    rw [str_toList, str_toList, Bool.eq_iff_iff]
    unfold opens
    rw [beq_iff_eq, decide_eq_true_iff]
    exact ⟨fun h => ⟨hl, h⟩, fun h => h.2⟩
  have b1 : 8 ≤ (str l).size := nums l hl
  have b2 : (str l).size ≤ 140737488355328 := by rw [str_size]; exact hl2
  have x1 : (str l).extract ((str l).size - 8) (str l).size = str (back l) := by rw [str_drop, str_size]; rfl
  have x2 : (str l).extract 0 ((str l).size - 8) = str (front l) := by rw [str_take, str_size]; rfl
  have hd : decide ((((str l).size : Nat) : Int) - 8 < 0) = false := decide_eq_false (by omega)
  have hfl : (front l).length ≤ 140737488355328 := by unfold front; rw [List.length_take]; omega
  have HFL := Lib.hid hfl
  have s1 := slice_hi (str l) ((((str l).size : Nat) : Int) - 8) (by omega) (by omega)
  have s2 := slice_lo (str l) ((((str l).size : Nat) : Int) - 8) (by omega) (by omega)
  have s3 : (((((str l).size : Nat) : Int) - 8).toNat) = (str l).size - 8 := by omega
  rw [s3, x2] at s1
  rw [s3, x1] at s2
  clear s3 x1 x2
  clear hl hl2 hfl
  cases ho : opens l
  · have HP : Hid (opened l = []) := by show _ = _; unfold opened; rw [ho]; rfl
    rw [ho] at key
    clear ho
    go_enter Try.func70, Try.ntmps70
    go_wp2
    go_region_held3 (fun _ => True) (exact trivial) (first | (go_at_call 61; refine (sum_any _ (by have := HFL.out; omega) _).mono ?_; rintro e w1 ⟨rfl, hb1⟩) | (go_at_call 60; refine (sumText_any _ _).mono ?_; rintro e w2 ⟨rfl, hb2⟩))
    have HB2 := Lib.hid (((Below.refl _ w).drew.trans hb1).trans (hb2.mono hb1.size))
    go_wp2
    go_ret2
    rw [HP.out]
    exact ⟨rfl, HB2.out⟩
  · have HP : Hid (opened l = front l) := by show _ = _; unfold opened; rw [ho]; rfl
    rw [ho] at key
    clear ho
    go_enter Try.func70, Try.ntmps70
    go_wp2
    go_region_held3 (fun _ => True) (exact trivial) (first | (go_at_call 61; refine (sum_any _ (by have := HFL.out; omega) _).mono ?_; rintro e w1 ⟨rfl, hb1⟩) | (go_at_call 60; refine (sumText_any _ _).mono ?_; rintro e w2 ⟨rfl, hb2⟩))
    have HB2 := Lib.hid (((Below.refl _ w).drew.trans hb1).trans (hb2.mono hb1.size))
    go_wp2_with fail
    refine (clone_any _ _ (by rw [str_size]; have := HFL.out; omega)).mono ?_
    rintro e w3 ⟨rfl, hb3⟩
    have HB3 := Lib.hid (HB2.out.trans (hb3.mono HB2.out.size))
    go_wp2
    go_ret2
    rw [HP.out]
    exact ⟨rfl, HB3.out⟩

theorem open_any (l : List UInt8) (hl2 : l.length ≤ 140737488355328) (w : World) :
    Calls Try.prog 70 #[.string (str l)] w fun e w' => e = .returned (.tuple #[.string (str (opened l)), .bool (opens l)]) ∧ Below w.heap.size w w' := by
  by_cases hl : 8 ≤ l.length
  · exact open_long l hl hl2 w
  · have ho : opens l = false := decide_eq_false (fun h => hl h.1)
    have hp : opened l = [] := by unfold opened; rw [ho]; rfl
    rw [ho, hp]
    exact open_short l (by omega) w

theorem opens_sealed (l : List UInt8) : opens (sealed l) = true := by
  have h : front (sealed l) = l := by unfold front; rw [sealed_len, Nat.add_sub_cancel]; unfold sealed; simp
  have h2 : back (sealed l) = le 8 (crc l).toNat := by unfold back; rw [sealed_len, Nat.add_sub_cancel]; unfold sealed; simp
  unfold opens
  rw [decide_eq_true_iff, h, h2, sealed_len]
  exact ⟨by omega, rfl⟩
theorem front_sealed (l : List UInt8) : front (sealed l) = l := by unfold front; rw [sealed_len, Nat.add_sub_cancel]; unfold sealed; simp
theorem opened_sealed (l : List UInt8) : opened (sealed l) = l := by unfold opened; rw [opens_sealed, if_pos rfl, front_sealed]
/-- What opens is sealed. -/
theorem opens_is (l : List UInt8) : opens l = true ↔ 8 ≤ l.length ∧ sealed (front l) = l := by
  unfold opens
  rw [decide_eq_true_iff]
  have e : front l ++ back l = l := List.take_append_drop _ _
  constructor
  · rintro ⟨h1, h2⟩
    refine ⟨h1, ?_⟩
    unfold sealed
    rw [← h2]
    exact e
  · rintro ⟨h1, h2⟩
    refine ⟨h1, ?_⟩
    unfold sealed at h2
    exact (List.append_cancel_left (h2.trans e.symm)).symm
end Go.Proofs.Ytpbgckpjgfjmgaa.gn
