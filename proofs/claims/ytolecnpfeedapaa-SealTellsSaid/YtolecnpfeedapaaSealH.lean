/- The statements' own head: the calls whose answers are known answer so. -/
import Derived.Test.YtolecnpfeedapaaSealO
import Derived.Test.YtolecnpfeedapaaSealD
namespace Go.Proofs.Ytolecnpfeedapaa.gn
open Go.RowKit
open Go.Proofs.Ytolecnpfeedapaa.sl

theorem crc_nil : crc [] = 0#64 := by decide
theorem crc_nine : reg (crc [49, 50, 51, 52, 53, 54, 55, 56, 57]) = 11051210869376104954 := by decide +kernel
theorem str_abc : (⟨#[97, 98, 99]⟩ : ByteArray) = str [97, 98, 99] := rfl
theorem opens_abc : opens [97, 98, 99] = false := decide_eq_false (fun h => absurd h.1 (by decide))

set_option maxHeartbeats 1600000 in
theorem head_any (w : World) : Calls Try.prog 6 #[] w fun e w' => e = .returned (.bool true) ∧ Below w.heap.size w w' := by
  have hs1 := opens_sealed [97, 98, 99]
  have hs2 := opened_sealed [97, 98, 99]
  have ht := str_toList [97, 98, 99]
  have HC : Hid (reg (crc []) = 0) := by show _ = _; rw [crc_nil]; rfl
  go_enter Try.func6, Try.ntmps6
  go_wp2_with fail
  refine (seal_any [97, 98, 99] (by simp) _).mono ?_
  rintro e w1 ⟨rfl, hb1⟩
  have HB1 := Lib.hid hb1
  clear hb1
  go_wp2_with fail
  refine (open_any _ (by rw [sealed_len]; simp) _).mono ?_
  rintro e w2 ⟨rfl, hb2⟩
  rw [hs1, hs2]
  have HB2 := Lib.hid (HB1.out.trans (hb2.mono HB1.out.size))
  clear hb2 HB1 hs1 hs2
  go_wp2_with fail
  refine (open_any [97, 98, 99] (by simp) _).mono ?_
  rintro e w3 ⟨rfl, hb3⟩
  rw [opens_abc]
  have HB3 := Lib.hid (HB2.out.trans (hb3.mono HB2.out.size))
  clear hb3 HB2
  go_wp2_with fail
  refine (sum_any [49, 50, 51, 52, 53, 54, 55, 56, 57] (by simp) _).mono ?_
  rintro e w4 ⟨rfl, hb4⟩
  rw [crc_nine]
  have HB4 := Lib.hid (HB3.out.trans (hb4.mono HB3.out.size))
  clear hb4 HB3
  go_wp2_with fail
  refine (sum_any [] (by simp) _).mono ?_
  rintro e w5 ⟨rfl, hb5⟩
  rw [HC.out]
  have HB5 := Lib.hid (HB4.out.trans (hb5.mono HB4.out.size))
  clear hb5 HB4
  go_wp2
  go_ret
  exact ⟨rfl, HB5.out⟩
end Go.Proofs.Ytolecnpfeedapaa.gn
