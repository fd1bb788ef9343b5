/- The contracts of the document's own Num, Int, Text and Flag: the bytes of what is packed. -/
import Derived.Test.YtjfachkonnfldaaPackH
namespace Go.Proofs.Ytjfachkonnfldaa
open Go.RowKit

theorem str_app (p q : List UInt8) : str p ++ str q = str (p ++ q) := by
  apply ByteArray.ext
  simp [str]

/-- 'string([]byte{e})'. -/
theorem conv_one (w : World) (e : Int) (h0 : 0 ≤ e) (h1 : e < 256) :
    (convert 24 9 (.slice (some ⟨w.heap.size, 0, none⟩) 1 1)).run Try.prog (w.alloc (.cells #[.int .u8 e] 5)) = .ok (.string (str [e.toNat.toUInt8])) (w.alloc (.cells #[.int .u8 e] 5)) := by
  have h := run_convert_bytes_back (P := Try.prog) (w.alloc (.cells #[.int .u8 e] 5)) 24 9 5 ⟨w.heap.size, 0, none⟩ 1 [e.toNat.toUInt8] Try.underlying24 Try.underlying5 Try.underlying9 (by
    intro j hj
    have hj0 : j = 0 := by simpa using hj
    subst hj0
    have hadd : (⟨w.heap.size, 0, none⟩ : Addr).add 0 = ⟨w.heap.size, 0, none⟩ := by simp [Addr.add]
    rw [hadd, World.cell?_alloc_at _ _ _ _ rfl]
    have e1 : (e.toNat.toUInt8).toNat = e.toNat := u8_of (by omega)
    simp [e1]
    omega)
  exact h

set_option maxHeartbeats 800000 in
set_option maxRecDepth 100000 in
theorem refNum_any (x : Nat) (hx : x < 18446744073709551616) (w : World) :
    Calls Try.prog 18 #[.int .u64 (x : Int)] w fun e w' => e = .returned (.string (str (Lib.uvarint x))) ∧ Below w.heap.size w w' := by
  have hl0 := Lib.uvarint_length64 hx
  go_enter Try.func18, Try.ntmps18
  go_wp2
  go_loopw [0, 3] (fun vx vs wr => ∃ (y : Nat) (pre : List UInt8), vx = .int .u64 y ∧ y ≤ x ∧ Hid (Lib.uvarint x = pre ++ Lib.uvarint y) ∧ vs = .string (str pre) ∧ Hid (Below w.heap.size w wr)) (fun vx _ _ => (intOf vx).toNat)
  case atStart => exact ⟨x, [], rfl, Nat.le_refl _, rfl, rfl, Below.refl _ _⟩
  case round =>
    obtain ⟨y, pre, rfl, hy, HS, rfl, HB⟩ := hrel
    have b1 : (str pre).size ≤ 10 := by
      have h2 := congrArg List.length HS.out
      rw [List.length_append] at h2
      rw [str_size]; omega
    by_cases h128 : 128 ≤ y
    · have hcv := conv_one wr ((y : Int) % 128 + 128) (by omega) (by omega)
      obtain ⟨c, hc⟩ : ∃ c, c = ((y : Int) % 128 + 128).toNat.toUInt8 := ⟨_, rfl⟩
      rw [← hc] at hcv
      have HC := Lib.hid hc
      have b2 : (str [c]).size ≤ 1 := Nat.le_refl _
      clear hc
      go_wp2
      go_roundw
      case rel =>
        refine ⟨y / 128, pre ++ [c], by go_num, by omega, ?_, by rw [str_app], HB.out.alloc HB.out.size _⟩
        show _ = _
        have e1 : ((y : Int) % 128 + 128).toNat = y % 128 + 128 := by omega
        rw [HS.out, Lib.uvarint_big h128, HC.out, e1]
        simp
      case measure => simp [intOf]; omega
    · have hy2 : y < 128 := by omega
      have hcv := conv_one wr (y : Int) (by omega) (by omega)
      obtain ⟨c, hc⟩ : ∃ c, c = (y : Int).toNat.toUInt8 := ⟨_, rfl⟩
      rw [← hc] at hcv
      have HC := Lib.hid hc
      have b2 : (str [c]).size ≤ 1 := Nat.le_refl _
      clear hc
      go_wp2
      go_ret
      refine ⟨?_, HB.out.alloc HB.out.size _⟩
      have e1 : ((y : Int)).toNat = y := by omega
      rw [HS.out, Lib.uvarint_small hy2, HC.out, e1, str_app]
      rfl

set_option maxHeartbeats 800000 in
theorem refInt_any (x : Int) (h0 : -9223372036854775808 ≤ x) (h1 : x < 9223372036854775808) (w : World) :
    Calls Try.prog 19 #[.int .i64 x] w fun e w' => e = .returned (.string (str (Lib.uvarint (Lib.zigzag x)))) ∧ Below w.heap.size w w' := by
  have hz := zigzag_lt x h0 h1
  by_cases hs : 0 ≤ x
  · have hzz : Hid (2 * x = ((Lib.zigzag x : Nat) : Int)) := by show _ = _; simp only [Lib.zigzag]; rw [if_pos hs]; omega
    go_enter Try.func19, Try.ntmps19
    go_wp2_with fail
    rw [hzz.out]
    refine (refNum_any _ hz _).mono ?_
    rintro e w1 ⟨rfl, hb⟩
    go_wp2
    go_ret
    exact ⟨rfl, hb⟩
  · have hs' : x < 0 := by omega
    have hzz : Hid (2 * -(x + 1) + 1 = ((Lib.zigzag x : Nat) : Int)) := by show _ = _; simp only [Lib.zigzag]; rw [if_neg hs]; omega
    clear hs
    go_enter Try.func19, Try.ntmps19
    go_wp2_with fail
    rw [hzz.out]
    refine (refNum_any _ hz _).mono ?_
    rintro e w1 ⟨rfl, hb⟩
    go_wp2
    go_ret
    exact ⟨rfl, hb⟩

set_option maxHeartbeats 800000 in
theorem refText_any (s : ByteArray) (hs : s.size ≤ 1000000) (w : World) :
    Calls Try.prog 21 #[.string s] w fun e w' => e = .returned (.string (str (txt s))) ∧ Below w.heap.size w w' := by
  have HE : Hid (str (Lib.uvarint s.size) ++ s = str (txt s)) := by
    show _ = _
    apply ByteArray.ext
    simp [str, txt]
  have b1 : (str (Lib.uvarint s.size)).size ≤ 10 := by rw [str_size]; exact Lib.uvarint_length64 (by omega)
  go_enter Try.func21, Try.ntmps21
  go_wp2_with fail
  refine (refNum_any _ (by omega) _).mono ?_
  rintro e w1 ⟨rfl, hb⟩
  go_wp2
  go_ret
  exact ⟨by rw [← HE.out]; rfl, hb⟩

set_option maxHeartbeats 800000 in
theorem refFlag_any (f : Bool) (w : World) :
    Calls Try.prog 23 #[.bool f] w fun e w' => e = .returned (.string (str (flg f))) ∧ Below w.heap.size w w' := by
  cases f
  all_goals
    go_enter Try.func23, Try.ntmps23
    go_wp2
    go_ret
    exact ⟨rfl, Below.refl _ _⟩
end Go.Proofs.Ytjfachkonnfldaa
