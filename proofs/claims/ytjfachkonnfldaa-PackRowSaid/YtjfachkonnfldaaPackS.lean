/- The contract of readNum over the bytes of a reader that is fine. -/
import Derived.Test.YtjfachkonnfldaaPackR
namespace Go.Proofs.Ytjfachkonnfldaa
open Go.RowKit

/-- What readNum tells of bytes, and what becomes of the reader. -/
def RNPost (R : Nat) (l0 : List UInt8) (w : World) (e : Ending) (w' : World) : Prop :=
  But R w w' ∧ ((∃ n r, rd l0 = some (n, r) ∧ e = .returned (.tuple #[.int .u64 n, .bool true]) ∧ RS w' R (some r)) ∨
    (rd l0 = none ∧ e = .returned (.tuple #[.int .u64 0, .bool false]) ∧ ∃ r, RS w' R (some r)))

def RNRel (R : Nat) (l0 : List UInt8) (w : World) (k acc : Nat) (wr : World) : Prop :=
  acc < 128 ^ k ∧ But R w wr ∧ ∃ l, RS wr R (some l) ∧ rn k acc l = rd l0

theorem rn_close {R : Nat} {l0 r : List UInt8} {w wr w1 : World} {X : Int} {n : Nat} (hX : X = (n : Int)) (hu : But R w wr) (hb : But R wr w1) (hy : some (n, r) = rd l0) (hr : RS w1 R (some r)) :
    RNPost R l0 w (.returned (.tuple #[.int .u64 X, .bool true])) w1 := ⟨hu.trans hb, .inl ⟨n, r, hy.symm, by rw [hX], hr⟩⟩
theorem rn_round {R : Nat} {l0 r : List UInt8} {w wr w1 : World} {k acc c : Nat} (ha : acc < 128 ^ k) (hu : But R w wr) (hb : But R wr w1) (hy : rn (k + 1) (acc + c % 128 * 128 ^ k) r = rd l0) (hr : RS w1 R (some r)) :
    RNRel R l0 w (k + 1) (acc + c % 128 * 128 ^ k) w1 := ⟨acc_step acc k c ha, hu.trans hb, r, hr, hy⟩
theorem num_step0 (acc c : Nat) (hc : c < 256) (ha : acc < 128 ^ 0) : bits .or .u64 (acc : Int) (IntKind.u64.wrap (IntKind.u64.wrap (bits .and .u8 (c : Int) 127))) = ((acc + c % 128 * 128 ^ 0 : Nat) : Int) := by
  have h := num_step acc 0 c (by omega) hc (by omega) ha
  simpa using h
theorem num_step9 (acc c : Nat) (hc : c < 256) (h9 : c < 2) (ha : acc < 128 ^ 9) : bits .or .u64 (acc : Int) (IntKind.u64.wrap (IntKind.u64.wrap (bits .and .u8 (c : Int) 127) * 9223372036854775808)) = ((acc + c % 128 * 128 ^ 9 : Nat) : Int) := by
  have h := num_step acc 9 c (by omega) hc (fun _ => h9) ha
  have e : (2 : Int) ^ (7 * 9) = 9223372036854775808 := by decide
  rw [e] at h
  exact h

set_option maxHeartbeats 1600000 in
set_option maxRecDepth 100000 in
theorem readNum_any (w : World) (R b : Nat) (l0 : List UInt8) (hs : RS w R (some l0)) (hb : w.cell? ⟨b, 0, none⟩ = some (.pointer (some ⟨R, 0, none⟩))) (hbR : b ≠ R) :
    Calls Try.prog 25 #[.func (.func 36) #[] #[.pointer (some ⟨b, 0, none⟩)]] w (RNPost R l0 w) := by
  have HS := Lib.hid hs
  have HB := Lib.hid hb
  clear hs hb
  go_enter Try.func25, Try.ntmps25
  go_wp2_with fail
  go_loopw [4, 8] (fun vn vi wr => ∃ k acc : Nat, k ≤ 9 ∧ vi = .int .i64 k ∧ vn = .int .u64 acc ∧ RNRel R l0 w k acc wr) (fun _ vi _ => 10 - (intOf vi).toNat)
  case atStart => exact ⟨0, 0, by omega, rfl, rfl, by omega, But.refl _ _, l0, HS.out, rfl⟩
  case round =>
    obtain ⟨k, acc, hk, rfl, rfl, hacc, hbut, l, hrs, hrn⟩ := hrel
    have HX : Hid (wr.cell? ⟨b, 0, none⟩ = some (.pointer (some ⟨R, 0, none⟩))) := hbut.cell HB.out hbR
    have HR := Lib.hid hrs
    have HA := Lib.hid hacc
    have HN := Lib.hid hrn
    have HU := Lib.hid hbut
    clear hrs hacc hrn hbut
    cases l with
    | nil =>
      go_wp2_with (go_at_call 36; refine (next_none _ _ _ HR.out HX.out).mono ?_; rintro e w1 ⟨rfl, rfl⟩)
      all_goals go_ret2
      all_goals exact ⟨HU.out, .inr ⟨by rw [← HN.out]; rfl, rfl, [], HR.out⟩⟩
    | cons c r =>
      have hc : c.toNat < 256 := UInt8.toNat_lt c
      by_cases hbad : (1 ≤ k ∧ c.toNat < 1) ∨ (9 ≤ k ∧ 2 ≤ c.toNat)
      · have hno := HN.out
        rw [rn_no _ _ _ _ hbad] at hno
        have HNo := Lib.hid hno
        clear hno
        rcases hbad with ⟨h1, h2⟩ | ⟨h1, h2⟩
        all_goals
          go_wp2_with (go_at_call 36; refine (next_some _ _ _ _ _ HR.out HX.out).mono ?_; rintro e w1 ⟨rfl, hr1, hb1⟩)
          all_goals go_ret2
          all_goals exact ⟨HU.out.trans hb1, .inr ⟨HNo.out.symm, rfl, r, hr1⟩⟩
      · by_cases hlast : c.toNat < 128
        · have hyes := HN.out
          rw [rn_last _ _ _ _ hbad hlast] at hyes
          have HY := Lib.hid hyes
          clear hyes
          have h3 : k < 1 ∨ (1 ≤ k ∧ k ≤ 8 ∧ 1 ≤ c.toNat) ∨ (9 ≤ k ∧ 1 ≤ c.toNat ∧ c.toNat < 2) := by omega
          clear hbad
          rcases h3 with h3 | ⟨h3, h4, h5⟩ | ⟨h3, h4, h5⟩
          · obtain rfl : k = 0 := by omega
            have HE := Lib.hid (num_step0 acc c.toNat hc HA.out)
            go_wp2_with (go_at_call 36; refine (next_some _ _ _ _ _ HR.out HX.out).mono ?_; rintro e w1 ⟨rfl, hr1, hb1⟩)
            all_goals go_ret2
            all_goals exact rn_close HE.out HU.out hb1 HY.out hr1
          · have HE := Lib.hid (num_step acc k c.toNat hk hc (by omega) HA.out)
            go_wp2_with (go_at_call 36; refine (next_some _ _ _ _ _ HR.out HX.out).mono ?_; rintro e w1 ⟨rfl, hr1, hb1⟩)
            all_goals go_ret2
            all_goals exact rn_close HE.out HU.out hb1 HY.out hr1
          · obtain rfl : k = 9 := by omega
            have HE := Lib.hid (num_step9 acc c.toNat hc h5 HA.out)
            have t1 : ((c.toNat : Int) == 0) = false := beq_eq_false_iff_ne.2 (by omega)
            have t2 : decide (1 < (c.toNat : Int)) = false := decide_eq_false (by omega)
            go_wp2_with (go_at_call 36; refine (next_some _ _ _ _ _ HR.out HX.out).mono ?_; rintro e w1 ⟨rfl, hr1, hb1⟩)
            all_goals go_ret2
            all_goals exact rn_close HE.out HU.out hb1 HY.out hr1
        · have hon := HN.out
          rw [rn_on _ _ _ _ hbad (by omega)] at hon
          have HY := Lib.hid hon
          have h8 : k ≤ 8 := by omega
          have h128 : 128 ≤ c.toNat := by omega
          clear hon hbad hlast
          rcases Nat.lt_or_ge k 1 with h1 | h1
          · obtain rfl : k = 0 := by omega
            have HE := Lib.hid (num_step0 acc c.toNat hc HA.out)
            go_wp2_with (go_at_call 36; refine (next_some _ _ _ _ _ HR.out HX.out).mono ?_; rintro e w1 ⟨rfl, hr1, hb1⟩)
            go_roundw
            case rel => exact ⟨0 + 1, acc + c.toNat % 128 * 128 ^ 0, by omega, by go_num, by rw [HE.out], rn_round HA.out HU.out hb1 HY.out hr1⟩
            case measure => simp [intOf]
          · have HE := Lib.hid (num_step acc k c.toNat hk hc (by omega) HA.out)
            go_wp2_with (go_at_call 36; refine (next_some _ _ _ _ _ HR.out HX.out).mono ?_; rintro e w1 ⟨rfl, hr1, hb1⟩)
            go_roundw
            case rel => exact ⟨k + 1, acc + c.toNat % 128 * 128 ^ k, by omega, by go_num, by rw [HE.out], rn_round HA.out HU.out hb1 HY.out hr1⟩
            case measure => simp [intOf]; omega

end Go.Proofs.Ytjfachkonnfldaa
