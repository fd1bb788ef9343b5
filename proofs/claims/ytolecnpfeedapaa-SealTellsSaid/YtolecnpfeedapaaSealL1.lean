/- SealTells: the law's walk. -/
import Derived.Test.YtolecnpfeedapaaSealH
import Derived.Handy
namespace Go.Proofs.Ytolecnpfeedapaa.gn
open Go.RowKit
open Go.Proofs.Ytolecnpfeedapaa.sl

theorem open_no (l : List UInt8) (h : opens l = false) (hl2 : l.length ≤ 140737488355328) (w : World) :
    Calls Try.prog 8 #[.string (str l)] w fun e w' => e = .returned (.tuple #[.string ⟨#[]⟩, .bool false]) ∧ Below w.heap.size w w' := by
  have h1 := open_any l hl2 w
  have hp : opened l = [] := by unfold opened; rw [h]; rfl
  rw [h, hp] at h1
  exact h1
theorem open_yes (l : List UInt8) (h : opens l = true) (hl2 : l.length ≤ 140737488355328) (w : World) :
    Calls Try.prog 8 #[.string (str l)] w fun e w' => e = .returned (.tuple #[.string (str (front l)), .bool true]) ∧ Below w.heap.size w w' := by
  have h1 := open_any l hl2 w
  have hp : opened l = front l := by unfold opened; rw [h]; rfl
  rw [h, hp] at h1
  exact h1
theorem crc_more (l : List UInt8) (k : Nat) : ~~~ run (~~~ crc (l.take k)) (l.drop k) = crc l := by
  unfold crc
  rw [BitVec.not_not, ← run_app, List.take_append_drop]
theorem moreRest_any (l : List UInt8) (k : Nat) (hl : l.length ≤ 281474976710656) (w : World) :
    Calls Try.prog 12 #[.int .u64 (reg (crc (l.take k))), .string (str (l.drop k))] w fun e w' => e = .returned (.int .u64 (reg (crc l))) ∧ Below w.heap.size w w' := by
  have h := more_any (crc (l.take k)) (l.drop k) (by rw [List.length_drop]; omega) w
  rw [crc_more] at h
  exact h
theorem slice_upto (s : ByteArray) (k : Nat) (h : k ≤ s.size) (w : World) :
    (Instr.slice 9 (.string s) none (some (.int .i64 (k : Int))) none).run Try.prog w = .ok (.string (s.extract 0 k)) w := slice_hi s k (by omega) (by omega) w
theorem slice_from (s : ByteArray) (k : Nat) (h : k ≤ s.size) (w : World) :
    (Instr.slice 9 (.string s) (some (.int .i64 (k : Int))) none none).run Try.prog w = .ok (.string (s.extract k s.size)) w := slice_lo s k (by omega) (by omega) w

theorem le_big {n : Nat} (h : n ≤ 2000) : n ≤ 281474976710656 := by omega
theorem le_mid {n : Nat} (h : n ≤ 2000) : n ≤ 1000000 := by omega
theorem take_big {l : List UInt8} (h : l.length ≤ 2000) (k : Nat) : (l.take k).length ≤ 281474976710656 := by rw [List.length_take]; omega
/-- One call more, behind which nothing old has turned; it may begin behind a draw. -/
theorem below_next {w a b c : World} (h : Hid (Below w.heap.size w a)) (hb : Below b.heap.size b c) (hab : Below a.heap.size a b := by first | exact Below.refl _ _ | exact (Below.refl _ _).drew) : Hid (Below w.heap.size w c) :=
  (h.out.trans (hab.mono h.out.size)).trans (hb.mono (Nat.le_trans h.out.size hab.size))

set_option maxHeartbeats 3200000 in
set_option maxRecDepth 100000 in
theorem tells_short (l : List UInt8) (cut : Nat) (hl : l.length < 8) (hc : cut < 65536) (w : World) :
    Calls Try.prog 3 #[.string (str l), .int .u16 (cut : Int)] w fun e w' => e = .returned (.bool true) ∧ Below w.heap.size w w' := by
  have ho : opens l = false := decide_eq_false (fun h => by omega)
  have HO := Lib.hid ho
  have HL : Hid (l.length ≤ 2000) := by show _ ≤ _; omega
  have b1 : (str l).size < 8 := by rw [str_size]; exact hl
  have hkm : (cut : Int) % (((str l).size : Int) + 1) = ((cut % ((str l).size + 1) : Nat) : Int) := by push_cast; rfl
  have hkl : cut % ((str l).size + 1) ≤ (str l).size := by have := Nat.mod_lt cut (show 0 < (str l).size + 1 by omega); omega
  clear ho hl
  generalize hk : cut % ((str l).size + 1) = k at hkm hkl
  clear hk
  have s1 := slice_upto (str l) k hkl
  have s2 := slice_from (str l) k hkl
  have x1 : (str l).extract 0 k = str (l.take k) := str_take _ _
  have x2 : (str l).extract k (str l).size = str (l.drop k) := str_drop _ _
  rw [x1] at s1
  rw [x2] at s2
  clear x1 x2
  go_enter Try.func3, Try.ntmps3
  go_wp2_with fail
  refine (seal_any l (by have := HL.out; omega) _).mono ?_
  rintro e w1 ⟨rfl, hb1⟩
  have HB1 := Lib.hid hb1
  clear hb1
  go_wp2_with fail
  refine (open_no l HO.out (by have := HL.out; omega) _).mono ?_
  rintro e w2 ⟨rfl, hb2⟩
  have HB2 := Lib.hid (HB1.out.trans (hb2.mono HB1.out.size))
  clear hb2 HB1
  go_wp2_with fail
  refine (open_yes _ (opens_sealed l) (by rw [sealed_len]; have := HL.out; omega) _).mono ?_
  rintro e w3 ⟨rfl, hb3⟩
  rw [front_sealed]
  have HB3 := Lib.hid (HB2.out.trans (hb3.mono HB2.out.size))
  clear hb3 HB2
  go_wp2_with fail
  have HBc := HB3
  clear HB3
  have ht := str_toList l
  go_region_held3 (fun _ => True) (exact trivial) (first
    | (go_at_call 10; ((with_reducible refine (sum_any l (le_big HL.out) _).mono ?_); rintro e wn ⟨rfl, hbn⟩); have HBc := below_next HBc hbn; clear hbn)
    | (go_at_call 10; ((with_reducible refine (sum_any (l.take k) (take_big HL.out k) _).mono ?_); rintro e wn ⟨rfl, hbn⟩); have HBc := below_next HBc hbn; clear hbn)
    | (go_at_call 11; ((with_reducible refine (refCrc_any l (le_big HL.out) _).mono ?_); rintro e wn ⟨rfl, rfl⟩))
    | (go_at_call 12; ((with_reducible refine (moreRest_any l k (le_big HL.out) _).mono ?_); rintro e wn ⟨rfl, hbn⟩); have HBc := below_next HBc hbn; clear hbn)
    | (go_at_call 9; ((with_reducible refine (refSeal_any l (le_mid HL.out) _).mono ?_); rintro e wn ⟨rfl, hbn⟩); have HBc := below_next HBc hbn; clear hbn)
    | (go_at_call 6; ((with_reducible refine (head_any _).mono ?_); rintro e wn ⟨rfl, hbn⟩); have HBc := below_next HBc hbn; clear hbn))
  all_goals go_wp2
  all_goals go_ret
  all_goals exact ⟨rfl, HBc.out⟩
end Go.Proofs.Ytolecnpfeedapaa.gn
