/- SealTells: the law's walk of texts of eight bytes and more that are not sealed. -/
import Derived.Test.YtolecnpfeedapaaSealL1
namespace Go.Proofs.Ytolecnpfeedapaa.gn
open Go.RowKit
open Go.Proofs.Ytolecnpfeedapaa.sl

set_option maxHeartbeats 3200000 in
set_option maxRecDepth 100000 in
theorem tells_no (l : List UInt8) (cut : Nat) (hl8 : 8 ≤ l.length) (hl : l.length ≤ 2000) (ho : opens l = false) (hc : cut < 65536) (w : World) :
    Calls Try.prog 3 #[.string (str l), .int .u16 (cut : Int)] w fun e w' => e = .returned (.bool true) ∧ Below w.heap.size w w' := by
  have HO := Lib.hid ho
  have HL := Lib.hid hl
  have HF : Hid ((front l).length ≤ 2000) := by show _ ≤ _; unfold front; rw [List.length_take]; omega
  have b1 : 8 ≤ (str l).size := nums l hl8
  have b2 : (str l).size ≤ 2000 := by rw [str_size]; exact hl
  have t1 : ((str (sealed (front l))).toList == (str l).toList) = false := by
    rw [str_toList, str_toList, beq_eq_false_iff_ne]
    intro h
    rw [(opens_is l).2 ⟨hl8, h⟩] at ho
    cases ho
  have s3 := slice_hi (str l) ((((str l).size : Nat) : Int) - 8) (by omega) (by omega)
  have x3 : (str l).extract 0 ((str l).size - 8) = str (front l) := by rw [str_take, str_size]; rfl
  have e3 : (((((str l).size : Nat) : Int) - 8).toNat) = (str l).size - 8 := by omega
  rw [e3, x3] at s3
  clear x3 e3
  have hkm : (cut : Int) % (((str l).size : Int) + 1) = ((cut % ((str l).size + 1) : Nat) : Int) := by push_cast; rfl
  have hkl : cut % ((str l).size + 1) ≤ (str l).size := by have := Nat.mod_lt cut (show 0 < (str l).size + 1 by omega); omega
  clear ho hl hl8
  generalize hk : cut % ((str l).size + 1) = k at hkm hkl
  clear hk
  have s1 := slice_upto (str l) k hkl
  have s2 := slice_from (str l) k hkl
  have x1 : (str l).extract 0 k = str (l.take k) := str_take _ _
  have x2 : (str l).extract k (str l).size = str (l.drop k) := str_drop _ _
  rw [x1] at s1
  rw [x2] at s2
  clear x1 x2
  go_enter Try.func3, Try.ntmps3
  go_wp2_with fail
  refine (seal_any l (by have := HL.out; omega) _).mono ?_
  rintro e w1 ⟨rfl, hb1⟩
  have HB1 := Lib.hid hb1
  clear hb1
  go_wp2_with fail
  refine (open_no l HO.out (by have := HL.out; omega) _).mono ?_
  rintro e w2 ⟨rfl, hb2⟩
  have HB2 := Lib.hid (HB1.out.trans (hb2.mono HB1.out.size))
  clear hb2 HB1
  go_wp2_with fail
  refine (refSeal_any (front l) (le_mid HF.out) _).mono ?_
  rintro e w9 ⟨rfl, hb9⟩
  have HB9 := Lib.hid (HB2.out.trans (hb9.mono HB2.out.size))
  clear hb9 HB2
  go_wp2_with fail
  refine (open_yes _ (opens_sealed l) (by rw [sealed_len]; have := HL.out; omega) _).mono ?_
  rintro e w3 ⟨rfl, hb3⟩
  rw [front_sealed]
  have HB3 := Lib.hid (HB9.out.trans (hb3.mono HB9.out.size))
  clear hb3 HB9
  go_wp2_with fail
  have HBc := HB3
  clear HB3
  clear t1
  have ht := str_toList l
  go_region_held3 (fun _ => True) (exact trivial) (first
    | (go_at_call 10; ((with_reducible refine (sum_any l (le_big HL.out) _).mono ?_); rintro e wn ⟨rfl, hbn⟩); have HBc := below_next HBc hbn; clear hbn)
    | (go_at_call 10; ((with_reducible refine (sum_any (l.take k) (take_big HL.out k) _).mono ?_); rintro e wn ⟨rfl, hbn⟩); have HBc := below_next HBc hbn; clear hbn)
    | (go_at_call 11; ((with_reducible refine (refCrc_any l (le_big HL.out) _).mono ?_); rintro e wn ⟨rfl, rfl⟩))
    | (go_at_call 12; ((with_reducible refine (moreRest_any l k (le_big HL.out) _).mono ?_); rintro e wn ⟨rfl, hbn⟩); have HBc := below_next HBc hbn; clear hbn)
    | (go_at_call 9; ((with_reducible refine (refSeal_any l (le_mid HL.out) _).mono ?_); rintro e wn ⟨rfl, hbn⟩); have HBc := below_next HBc hbn; clear hbn)
    | (go_at_call 6; ((with_reducible refine (head_any _).mono ?_); rintro e wn ⟨rfl, hbn⟩); have HBc := below_next HBc hbn; clear hbn))
  all_goals go_wp2
  all_goals go_ret
  all_goals exact ⟨rfl, HBc.out⟩
end Go.Proofs.Ytolecnpfeedapaa.gn
