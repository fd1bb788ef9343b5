/- In the namespace gn: the contract of the document's Num. -/
import Derived.Test.YtmaohncddjhgeaaGreatMGen
import Derived.Test.YtmaohncddjhgeaaGreatMPackM
section
namespace Go.Proofs.YtmaohncddjhgeaaGreat.gn
open Go.RowKit

/-- 'string([]byte{e})'. -/
theorem conv_one (w : World) (e : Int) (h0 : 0 ≤ e) (h1 : e < 256) :
    (convert 80 9 (.slice (some ⟨w.heap.size, 0, none⟩) 1 1)).run Tryz.prog (w.alloc (.cells #[.int .u8 e] 5)) = .ok (.string (str [e.toNat.toUInt8])) (w.alloc (.cells #[.int .u8 e] 5)) := by
  have h := run_convert_bytes_back (P := Tryz.prog) (w.alloc (.cells #[.int .u8 e] 5)) 80 9 5 ⟨w.heap.size, 0, none⟩ 1 [e.toNat.toUInt8] Tryz.underlying80 Tryz.underlying5 Tryz.underlying9 (by
    intro j hj
    have hj0 : j = 0 := by simpa using hj
    subst hj0
    have hadd : (⟨w.heap.size, 0, none⟩ : Addr).add 0 = ⟨w.heap.size, 0, none⟩ := by simp [Addr.add]
    rw [hadd, World.cell?_alloc_at _ _ _ _ rfl]
    have e1 : (e.toNat.toUInt8).toNat = e.toNat := u8_of (by omega)
    simp [e1]
    omega)
  exact h

set_option maxHeartbeats 800000 in
set_option maxRecDepth 100000 in
theorem refNum_any (x : Nat) (hx : x < 18446744073709551616) (w : World) :
    Calls Tryz.prog 35 #[.int .u64 (x : Int)] w fun e w' => e = .returned (.string (str (Lib.uvarint x))) ∧ Below w.heap.size w w' := by
  have hl0 := Lib.uvarint_length64 hx
  go_enter Tryz.func35, Tryz.ntmps35
  go_wp2
  go_loopw [0, 3] (fun vx vs wr => ∃ (y : Nat) (pre : List UInt8), vx = .int .u64 y ∧ y ≤ x ∧ Hid (Lib.uvarint x = pre ++ Lib.uvarint y) ∧ vs = .string (str pre) ∧ Hid (Below w.heap.size w wr)) (fun vx _ _ => (intOf vx).toNat)
  case atStart => exact ⟨x, [], rfl, Nat.le_refl _, rfl, rfl, Below.refl _ _⟩
  case round =>
    obtain ⟨y, pre, rfl, hy, HS, rfl, HB⟩ := hrel
    have b1 : (str pre).size ≤ 10 := by
      have h2 := congrArg List.length HS.out
      rw [List.length_append] at h2
      rw [str_size]; omega
    by_cases h128 : 128 ≤ y
    · have hcv := conv_one wr ((y : Int) % 128 + 128) (by omega) (by omega)
      obtain ⟨c, hc⟩ : ∃ c, c = ((y : Int) % 128 + 128).toNat.toUInt8 := ⟨_, rfl⟩
      rw [← hc] at hcv
      have HC := Lib.hid hc
      have b2 : (str [c]).size ≤ 1 := Nat.le_refl _
      clear hc
      go_wp2
      go_roundw
      case rel =>
        refine ⟨y / 128, pre ++ [c], by go_num, by omega, ?_, by rw [str_app], HB.out.alloc HB.out.size _⟩
        show _ = _
        have e1 : ((y : Int) % 128 + 128).toNat = y % 128 + 128 := by omega
        rw [HS.out, Lib.uvarint_big h128, HC.out, e1]
        simp
      case measure => simp [intOf]; omega
    · have hy2 : y < 128 := by omega
      have hcv := conv_one wr (y : Int) (by omega) (by omega)
      obtain ⟨c, hc⟩ : ∃ c, c = (y : Int).toNat.toUInt8 := ⟨_, rfl⟩
      rw [← hc] at hcv
      have HC := Lib.hid hc
      have b2 : (str [c]).size ≤ 1 := Nat.le_refl _
      clear hc
      go_wp2
      go_ret
      refine ⟨?_, HB.out.alloc HB.out.size _⟩
      have e1 : ((y : Int)).toNat = y := by omega
      rw [HS.out, Lib.uvarint_small hy2, HC.out, e1, str_app]
      rfl
end Go.Proofs.YtmaohncddjhgeaaGreat.gn
end
