/- The contract of the document's One. -/
import Derived.Test.YtpbgckpjgfjmgaaFrA
import Derived.Test.YtpbgckpjgfjmgaaGenStrs
import Derived.Test.YtpbgckpjgfjmgaaGenSl
import Derived.Test.YtpbgckpjgfjmgaaSealD
import Derived.BigQuiet
import Derived.Deep.QuietTactic
namespace Go.Proofs.Ytpbgckpjgfjmgaa.gn
open Go.RowKit
open Go.Proofs.Ytpbgckpjgfjmgaa.sl

theorem conv4 (n : Nat) (w : World) :
    (convert 74 9 (.slice (some ⟨w.heap.size, 0, none⟩) 4 4)).run Try.prog (w.alloc (.cells #[.int .u8 ((n : Int) % 256), .int .u8 ((n : Int) / 256 % 256), .int .u8 ((n : Int) / 65536 % 256), .int .u8 ((n : Int) / 16777216 % 256)] 5)) =
      .ok (.string (str (le 4 n))) (w.alloc (.cells #[.int .u8 ((n : Int) % 256), .int .u8 ((n : Int) / 256 % 256), .int .u8 ((n : Int) / 65536 % 256), .int .u8 ((n : Int) / 16777216 % 256)] 5)) := by
  have h := run_convert_bytes_back (P := Try.prog) (w.alloc (.cells #[.int .u8 ((n : Int) % 256), .int .u8 ((n : Int) / 256 % 256), .int .u8 ((n : Int) / 65536 % 256), .int .u8 ((n : Int) / 16777216 % 256)] 5)) 74 9 5 ⟨w.heap.size, 0, none⟩ 4 (le 4 n) Try.underlying74 Try.underlying5 Try.underlying9 (by
    intro j hj
    have hadd : (⟨w.heap.size, 0, none⟩ : Addr).add j = ⟨w.heap.size, j, none⟩ := by unfold Addr.add; split <;> simp_all
    rw [hadd, cell_of_row _ _ _ _ _ _ (heap_alloc_new w _)]
    have h1 := le_at 4 n j hj
    rw [le_len] at hj
    match j, hj with
    | 0, _ => rw [h1]; simp
    | 1, _ => rw [h1]; simp
    | 2, _ => rw [h1]; simp
    | 3, _ => rw [h1]; simp)
  rw [le_len] at h
  exact h

set_option maxRecDepth 100000 in
set_option maxHeartbeats 1600000 in
theorem one_any (s : List UInt8) (hs : s.length ≤ 1000000) (w : World) :
    Calls Try.prog 18 #[.string (str s)] w fun e w' => e = .returned (.string (str (frame s))) ∧ Below w.heap.size w w' := by
  have hss : (str s).size = s.length := str_size s
  have hcv := conv4 s.length w
  have HA : Hid (str (sealed (le 4 s.length)) ++ str (sealed s) = str (frame s)) := str_app _ _
  have b1 : (str (sealed (le 4 s.length))).size = 12 := by rw [str_size]; exact hd_len _
  have b2 : (str (sealed s)).size = s.length + 8 := by rw [str_size, sealed_len]
  have B1 : (str (sealed (le 4 s.length))).size ≤ 12 := by omega
  have B2 : (str (sealed s)).size ≤ 1000008 := by omega
  clear b1 b2
  go_enter Try.func18, Try.ntmps18
  go_wp2_with fail
  refine (refSeal_any (le 4 s.length) (by rw [le_len]; omega) _).mono ?_
  rintro e w1 ⟨rfl, hb1⟩
  have HB1 := Lib.hid (((Below.refl _ w).alloc (Nat.le_refl _) _).trans (hb1.mono (by simp)))
  clear hb1 hcv
  go_wp2_with fail
  refine (refSeal_any s hs _).mono ?_
  rintro e w2 ⟨rfl, hb2⟩
  have HB2 := Lib.hid (HB1.out.trans (hb2.mono HB1.out.size))
  clear hb2
  go_wp2
  go_ret
  rw [HA.out]
  exact ⟨rfl, HB2.out⟩
end Go.Proofs.Ytpbgckpjgfjmgaa.gn
