/- PackReads: for any bytes, and any numbers, the law returns true. -/
import Derived.Test.YtjfachkonnfldaaPackH
import Derived.Test.YtjfachkonnfldaaPackP
namespace Go.Proofs.Ytjfachkonnfldaa
open Go.RowKit

set_option maxHeartbeats 800000 in
theorem rOver_yes (w : World) (R : Nat) (l : List UInt8) (hs : RS w R (some l)) : Calls Try.prog 14 #[.pointer (some ⟨R, 0, none⟩)] w fun e w' => e = .returned (.bool (str l).toList.isEmpty) ∧ w = w' := by
  refine (rOver_any w R (some l) hs).mono ?_
  rintro e w' ⟨rfl, rfl⟩
  refine ⟨?_, rfl⟩
  cases l with
  | nil => rw [str_toList]; rfl
  | cons c r => rw [str_toList]; rfl

theorem rOver_no (w : World) (R : Nat) (hs : RS w R none) : Calls Try.prog 14 #[.pointer (some ⟨R, 0, none⟩)] w fun e w' => e = .returned (.bool false) ∧ w = w' := rOver_any w R none hs

/-- What a round of the law hands on. -/
def ReadsRel (R : Nat) (w : World) (f : Bool) (l : List UInt8) (wr : World) : Prop :=
  l.length ≤ 400 ∧ RS wr R (if f then some l else none) ∧ Below w.heap.size w wr

theorem reads_yes {R : Nat} {w wr : World} {l : List UInt8} (h : l.length ≤ 400) (hs : RS wr R (some l)) (hb : Below w.heap.size w wr) : ReadsRel R w true l wr := ⟨h, hs, hb⟩
theorem reads_no {R : Nat} {w wr : World} {l : List UInt8} (h : l.length ≤ 400) (hs : RS wr R none) (hb : Below w.heap.size w wr) : ReadsRel R w false l wr := ⟨h, hs, hb⟩

theorem numOf_none : numOf none = (0, none) := rfl
theorem textOf_none (m : Int) : textOf m none = ([], none) := rfl
theorem textOf_no {l : List UInt8} (m : Int) (h : rd l = none) : textOf m (some l) = ([], none) := by simp [textOf, h]
theorem textOf_bad {l r : List UInt8} {n : Nat} (m : Int) (h : rd l = some (n, r)) (hb : r.length < n ∨ m < (n : Int)) : textOf m (some l) = ([], none) := by
  simp only [textOf, h]; rw [if_pos hb]
theorem textOf_good {l r : List UInt8} {n : Nat} (m : Int) (h : rd l = some (n, r)) (hb : ¬ (r.length < n ∨ m < (n : Int))) : textOf m (some l) = (r.take n, some (r.drop n)) := by
  simp only [textOf, h]; rw [if_neg hb]

theorem slice_mid (s : ByteArray) (k n : Nat) (h : k + n ≤ s.size) (w : World) :
    (Instr.slice 9 (.string s) (some (.int .i64 (k : Int))) (some (.int .i64 ((k : Int) + (n : Int)))) none).run Try.prog w = .ok (.string (s.extract k (k + n))) w := by
  have h1 := run_slice_string (P := Try.prog) w 9 s .i64 .i64 (k : Int) ((k : Int) + (n : Int)) Try.underlying9 (by omega) (by omega) (by omega)
  have e1 : ((k : Int) + (n : Int)).toNat = k + n := by omega
  rw [e1, Int.toNat_natCast] at h1
  exact h1

theorem str_mid (l : List UInt8) (k n : Nat) : (str l).extract k (k + n) = str ((l.drop k).take n) := by
  apply ByteArray.ext
  simp [str]

set_option maxHeartbeats 6400000 in
set_option maxRecDepth 100000 in
theorem reads_any (l0 : List UInt8) (hl0 : l0.length ≤ 400) (m a : Nat) (hm : m < 256) (ha : a < 256) (w : World) :
    Calls Try.prog 4 #[.string (str l0), .int .u8 (m : Int), .int .u8 (a : Int)] w fun e w' => e = .returned (.bool true) ∧ Below w.heap.size w w' := by
  have hsz : (str l0).size = l0.length := str_size l0
  have hs2 : (str l0).size ≤ 400 := by omega
  go_enter Try.func4, Try.ntmps4
  go_wp2_with fail
  refine (open_any _ l0).mono ?_
  rintro e w1 ⟨rfl, hr1, hb1, _⟩
  have HR1 : Hid (ReadsRel w.heap.size w true l0 w1) := reads_yes hl0 hr1 hb1
  clear hr1 hb1 hsz hs2
  go_wp2_with fail
  go_loopw [0, 8, 9] (fun vs vf vi wr => ∃ (i : Nat) (f : Bool) (l : List UInt8), i ≤ a % 60 ∧ vi = .int .i64 i ∧ vf = .bool f ∧ vs = .string (str l) ∧ Hid (ReadsRel w.heap.size w f l wr)) (fun _ _ vi _ => a % 60 - (intOf vi).toNat)
  case atStart => exact ⟨0, true, l0, Nat.zero_le _, rfl, rfl, rfl, HR1⟩
  case round =>
    obtain ⟨i, f, l, hi, rfl, rfl, rfl, HR⟩ := hrel
    by_cases hlt : i < a % 60
    · cases f with
      | false =>
        have HS : Hid (RS wr w.heap.size none) := HR.out.2.1
        have HBel : Hid (Below w.heap.size w wr) := HR.out.2.2
        have HBs : Hid (w.heap.size ≤ wr.heap.size) := HR.out.2.2.size
        have hll := HR.out.1
        have HLT : ∀ x : List UInt8, (none : Option (List UInt8)) = some x → x.length ≤ 140737488355328 := fun x h => by cases h
        have HLT2 := Lib.hid HLT
        clear HLT
        go_wp2_with fail
        refine (ref_any l (by omega) _).mono ?_
        rintro e w2 ⟨hw2, hpost⟩
        subst hw2
        obtain ⟨n, k, hk1, hk2, rfl⟩ : ∃ n k : Nat, k ≤ l.length ∧ n < 18446744073709551616 ∧ e = .returned (.tuple #[.int .u64 (n : Int), .int .i64 (k : Int)]) := by
          rcases hpost with ⟨n, k, h1, _, h3, rfl⟩ | ⟨_, rfl⟩
          · exact ⟨n, k, h3, rd_lt h1, rfl⟩
          · exact ⟨0, 0, by omega, by omega, rfl⟩
        clear hpost
        by_cases hev : i % 2 = 0
        · have hp : (i : Int) % 2 = 0 := by omega
          have HP := Lib.hid hp; clear hp
          have pp : ((i : Int) % 2 == 0) = true := by rw [HP.out]; rfl
          clear hev
          go_wp2_with fail
          refine (rNum_any _ _ _ HS.out).mono ?_
          rintro e w3 ⟨rfl, hr3, hu3⟩
          rw [numOf_none] at hr3 ⊢
          have HQ := Lib.hid hr3
          have HB := Lib.hid (below_of_but HBel.out hu3 HBs.out (Nat.le_refl _))
          clear hr3 hu3
          go_wp2_with (first | (go_at_call 13; refine (fine_no _ _ HQ.out).mono ?_; rintro e w8 ⟨rfl, rfl⟩) | (go_at_call 14; refine (rOver_no _ _ HQ.out).mono ?_; rintro e w9 ⟨rfl, rfl⟩))
          go_roundw
          case rel => exact ⟨i + 1, false, l, by omega, by go_num, rfl, rfl, reads_no hll HQ.out HB.out⟩
          case measure => simp [intOf]; omega
        · have hp : (i : Int) % 2 = 1 := by omega
          have HP := Lib.hid hp; clear hp
          have pp : ((i : Int) % 2 == 0) = false := by rw [HP.out]; rfl
          clear hev
          go_wp2_with fail
          refine (rText_any _ _ (m : Int) _ (by omega) HLT2.out HS.out).mono ?_
          rintro e w3 ⟨rfl, hr3, hu3⟩
          rw [textOf_none] at hr3 ⊢
          have HQ := Lib.hid hr3
          have HB := Lib.hid (below_of_but HBel.out hu3 HBs.out (Nat.le_refl _))
          clear hr3 hu3
          rw [show str [] = ⟨#[]⟩ from rfl]
          go_wp2_with (first | (go_at_call 13; refine (fine_no _ _ HQ.out).mono ?_; rintro e w8 ⟨rfl, rfl⟩) | (go_at_call 14; refine (rOver_no _ _ HQ.out).mono ?_; rintro e w9 ⟨rfl, rfl⟩))
          go_roundw
          case rel => exact ⟨i + 1, false, l, by omega, by go_num, rfl, rfl, reads_no hll HQ.out HB.out⟩
          case measure => simp [intOf]; omega
      | true =>
        have HS : Hid (RS wr w.heap.size (some l)) := HR.out.2.1
        have HBel : Hid (Below w.heap.size w wr) := HR.out.2.2
        have HBs : Hid (w.heap.size ≤ wr.heap.size) := HR.out.2.2.size
        have hll := HR.out.1
        have HLT2 : Hid (∀ x : List UInt8, some l = some x → x.length ≤ 140737488355328) := fun x h => by cases h; omega
        go_wp2_with fail
        refine (ref_any l (by omega) _).mono ?_
        rintro e w2 ⟨hw2, ⟨n, k, hrd, hk1, hk2, rfl⟩ | ⟨hrd, rfl⟩⟩
        · subst hw2
          have hn := rd_lt hrd
          have HRD := Lib.hid hrd
          clear hrd
          have hS : (str l).size = l.length := str_size l
          have hS1 : (str l).size ≤ 400 := by omega
          have hS2 : k ≤ (str l).size := by omega
          have HSz := Lib.hid hS
          have HX := Lib.hid (str_drop l k)
          by_cases hev : i % 2 = 0
          · have hp : (i : Int) % 2 = 0 := by omega
            have HP := Lib.hid hp; clear hp
            have pp : ((i : Int) % 2 == 0) = true := by rw [HP.out]; rfl
            clear hev hS
            have hdl : (l.drop k).length ≤ 400 := by rw [List.length_drop]; omega
            go_wp2_with fail
            refine (rNum_any _ _ _ HS.out).mono ?_
            rintro e w3 ⟨rfl, hr3, hu3⟩
            rw [numOf_yes HRD.out] at hr3 ⊢
            have HQ := Lib.hid hr3
            have HB := Lib.hid (below_of_but HBel.out hu3 HBs.out (Nat.le_refl _))
            clear hr3 hu3
            have hx := HX.out
            go_wp2_with (first | (go_at_call 13; refine (fine_yes _ _ _ HQ.out).mono ?_; rintro e w8 ⟨rfl, rfl⟩) | (go_at_call 14; refine (rOver_yes _ _ _ HQ.out).mono ?_; rintro e w9 ⟨rfl, rfl⟩))
            go_roundw
            case rel => exact ⟨i + 1, true, l.drop k, by omega, by go_num, rfl, rfl, reads_yes hdl HQ.out HB.out⟩
            case measure => simp [intOf]; omega
          · have hp : (i : Int) % 2 = 1 := by omega
            have HP := Lib.hid hp; clear hp
            have pp : ((i : Int) % 2 == 0) = false := by rw [HP.out]; rfl
            clear hev
            have hdl : (l.drop k).length = l.length - k := by rw [List.length_drop]
            by_cases hbad : (l.drop k).length < n ∨ (m : Int) < (n : Int)
            · have hbad2 : (m < n) ∨ (n ≤ m ∧ (str l).size - k < n) := by omega
              have HT := Lib.hid (textOf_bad (m : Int) HRD.out hbad)
              clear hbad hdl hS
              rcases hbad2 with h1 | ⟨h1, h2⟩
              all_goals
                go_wp2_with fail
                refine (rText_any _ _ (m : Int) _ (by omega) HLT2.out HS.out).mono ?_
                rintro e w3 ⟨rfl, hr3, hu3⟩
                rw [HT.out] at hr3 ⊢
                have HQ := Lib.hid hr3
                have HB := Lib.hid (below_of_but HBel.out hu3 HBs.out (Nat.le_refl _))
                clear hr3 hu3
                rw [show str [] = ⟨#[]⟩ from rfl]
                go_wp2_with (first | (go_at_call 13; refine (fine_no _ _ HQ.out).mono ?_; rintro e w8 ⟨rfl, rfl⟩) | (go_at_call 14; refine (rOver_no _ _ HQ.out).mono ?_; rintro e w9 ⟨rfl, rfl⟩))
                go_roundw
                case rel => exact ⟨i + 1, false, l, by omega, by go_num, rfl, rfl, reads_no hll HQ.out HB.out⟩
                case measure => simp [intOf]; omega
            · have h1 : n ≤ m := by omega
              have h2 : k + n ≤ (str l).size := by omega
              have HT := Lib.hid (textOf_good (m : Int) HRD.out hbad)
              have hdl2 : ((l.drop k).drop n).length ≤ 400 := by rw [List.length_drop, List.length_drop]; omega
              have HX2 : Hid ((str l).extract (k + n) (str l).size = str ((l.drop k).drop n)) := by
                show _ = _
                rw [str_drop, List.drop_drop]
              have hE : (str l).extract k (k + n) = str ((l.drop k).take n) := str_mid l k n
              have hGs : (str ((l.drop k).take n)).size = n := by rw [str_size, List.length_take]; omega
              have hG : (((str ((l.drop k).take n)).size : Int) != (n : Int)) = false := by rw [bne_eq_false_iff_eq, hGs]
              have HE := Lib.hid hE
              clear hbad hdl hS hGs hE
              go_wp2_with fail
              refine (rText_any _ _ (m : Int) _ (by omega) HLT2.out HS.out).mono ?_
              rintro e w3 ⟨rfl, hr3, hu3⟩
              rw [HT.out] at hr3 ⊢
              have HQ := Lib.hid hr3
              have HB := Lib.hid (below_of_but HBel.out hu3 HBs.out (Nat.le_refl _))
              clear hr3 hu3
              have hE := HE.out
              have hx2 := HX2.out
              have hsl := slice_mid (str l) k n h2
              go_wp2_with (first | (go_at_call 13; refine (fine_yes _ _ _ HQ.out).mono ?_; rintro e w8 ⟨rfl, rfl⟩) | (go_at_call 14; refine (rOver_yes _ _ _ HQ.out).mono ?_; rintro e w9 ⟨rfl, rfl⟩))
              go_roundw
              case rel => exact ⟨i + 1, true, (l.drop k).drop n, by omega, by go_num, rfl, by rw [List.drop_drop], reads_yes hdl2 HQ.out HB.out⟩
              case measure => simp [intOf]; omega
        · subst hw2
          have HRD := Lib.hid hrd
          clear hrd
          by_cases hev : i % 2 = 0
          · have hp : (i : Int) % 2 = 0 := by omega
            have HP := Lib.hid hp; clear hp
            have pp : ((i : Int) % 2 == 0) = true := by rw [HP.out]; rfl
            clear hev
            go_wp2_with fail
            refine (rNum_any _ _ _ HS.out).mono ?_
            rintro e w3 ⟨rfl, hr3, hu3⟩
            rw [numOf_no HRD.out] at hr3 ⊢
            have HQ := Lib.hid hr3
            have HB := Lib.hid (below_of_but HBel.out hu3 HBs.out (Nat.le_refl _))
            clear hr3 hu3
            go_wp2_with (first | (go_at_call 13; refine (fine_no _ _ HQ.out).mono ?_; rintro e w8 ⟨rfl, rfl⟩) | (go_at_call 14; refine (rOver_no _ _ HQ.out).mono ?_; rintro e w9 ⟨rfl, rfl⟩))
            go_roundw
            case rel => exact ⟨i + 1, false, l, by omega, by go_num, rfl, rfl, reads_no hll HQ.out HB.out⟩
            case measure => simp [intOf]; omega
          · have hp : (i : Int) % 2 = 1 := by omega
            have HP := Lib.hid hp; clear hp
            have pp : ((i : Int) % 2 == 0) = false := by rw [HP.out]; rfl
            clear hev
            go_wp2_with fail
            refine (rText_any _ _ (m : Int) _ (by omega) HLT2.out HS.out).mono ?_
            rintro e w3 ⟨rfl, hr3, hu3⟩
            rw [textOf_no _ HRD.out] at hr3 ⊢
            have HQ := Lib.hid hr3
            have HB := Lib.hid (below_of_but HBel.out hu3 HBs.out (Nat.le_refl _))
            clear hr3 hu3
            rw [show str [] = ⟨#[]⟩ from rfl]
            go_wp2_with (first | (go_at_call 13; refine (fine_no _ _ HQ.out).mono ?_; rintro e w8 ⟨rfl, rfl⟩) | (go_at_call 14; refine (rOver_no _ _ HQ.out).mono ?_; rintro e w9 ⟨rfl, rfl⟩))
            go_roundw
            case rel => exact ⟨i + 1, false, l, by omega, by go_num, rfl, rfl, reads_no hll HQ.out HB.out⟩
            case measure => simp [intOf]; omega
    · have hge : a % 60 ≤ i := by omega
      clear hlt
      go_wp2_with (go_at_call 6; refine (head_any _).mono ?_; rintro e w9 ⟨rfl, hb9⟩)
      go_ret
      exact ⟨rfl, HR.out.2.2.trans (hb9.mono HR.out.2.2.size)⟩

set_option maxHeartbeats 800000 in
theorem reads_long (s : ByteArray) (hs : 400 < s.size) (hm : s.size ≤ maxLen) (v u : Value) (w : World) :
    Calls Try.prog 4 #[.string s, v, u] w fun e w' => e = .returned (.bool true) ∧ Below w.heap.size w w' := by
  unfold maxLen at hm
  go_enter Try.func4, Try.ntmps4
  go_wp2_with (go_at_call 6; refine (head_any _).mono ?_; rintro e w9 ⟨rfl, hb9⟩)
  go_ret
  exact ⟨rfl, hb9⟩

theorem str_of (s : ByteArray) : str s.data.toList = s := by
  apply ByteArray.ext
  simp [str]
end Go.Proofs.Ytjfachkonnfldaa
