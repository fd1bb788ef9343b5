/- The contract of the document's One. -/
import Derived.Test.YtmaohncddjhgeaaGreatMFrA
import Derived.Test.YtmaohncddjhgeaaGreatMGenStrs
import Derived.Test.YtmaohncddjhgeaaGreatMGen
import Derived.Test.YtmaohncddjhgeaaGreatMSealD
import Derived.BigQuiet
import Derived.Deep.QuietTactic
section
namespace Go.Proofs.YtmaohncddjhgeaaGreat.gn
open Go.RowKit
open Go.Proofs.YtmaohncddjhgeaaGreat.sl

theorem conv4 (n : Nat) (w : World) :
    (convert 80 9 (.slice (some ⟨w.heap.size, 0, none⟩) 4 4)).run Tryz.prog (w.alloc (.cells #[.int .u8 ((n : Int) % 256), .int .u8 ((n : Int) / 256 % 256), .int .u8 ((n : Int) / 65536 % 256), .int .u8 ((n : Int) / 16777216 % 256)] 5)) =
      .ok (.string (str (le 4 n))) (w.alloc (.cells #[.int .u8 ((n : Int) % 256), .int .u8 ((n : Int) / 256 % 256), .int .u8 ((n : Int) / 65536 % 256), .int .u8 ((n : Int) / 16777216 % 256)] 5)) := by
  have h := run_convert_bytes_back (P := Tryz.prog) (w.alloc (.cells #[.int .u8 ((n : Int) % 256), .int .u8 ((n : Int) / 256 % 256), .int .u8 ((n : Int) / 65536 % 256), .int .u8 ((n : Int) / 16777216 % 256)] 5)) 80 9 5 ⟨w.heap.size, 0, none⟩ 4 (le 4 n) Tryz.underlying80 Tryz.underlying5 Tryz.underlying9 (by
    intro j hj
    have hadd : (⟨w.heap.size, 0, none⟩ : Addr).add j = ⟨w.heap.size, j, none⟩ := by unfold Addr.add; split <;> simp_all
    rw [hadd, cell_of_row _ _ _ _ _ _ (heap_alloc_new w _)]
    have h1 := le_at 4 n j hj
    rw [le_len] at hj
    match j, hj with
    | 0, _ => rw [h1]; simp
    | 1, _ => rw [h1]; simp
    | 2, _ => rw [h1]; simp
    | 3, _ => rw [h1]; simp)
  rw [le_len] at h
  exact h

set_option maxRecDepth 100000 in
set_option maxHeartbeats 1600000 in
theorem one_any (s : List UInt8) (hs : s.length ≤ 1000000) (w : World) :
    Calls Tryz.prog 16 #[.string (str s)] w fun e w' => e = .returned (.string (str (frame s))) ∧ Below w.heap.size w w' := by
  have hss : (str s).size = s.length := str_size s
  have hcv := conv4 s.length w
  have HA : Hid (str (sealed (le 4 s.length)) ++ str (sealed s) = str (frame s)) := str_app _ _
  have b1 : (str (sealed (le 4 s.length))).size = 12 := by rw [str_size]; exact hd_len _
  have b2 : (str (sealed s)).size = s.length + 8 := by rw [str_size, sealed_len]
  have B1 : (str (sealed (le 4 s.length))).size ≤ 12 := by omega
  have B2 : (str (sealed s)).size ≤ 1000008 := by omega
  clear b1 b2
  go_enter Tryz.func16, Tryz.ntmps16
  go_wp2_with fail
  refine (refSeal_any (le 4 s.length) (by rw [le_len]; omega) _).mono ?_
  rintro e w1 ⟨rfl, hb1⟩
  have HB1 := Lib.hid (((Below.refl _ w).alloc (Nat.le_refl _) _).trans (hb1.mono (by simp)))
  clear hb1 hcv
  go_wp2_with fail
  refine (refSeal_any s hs _).mono ?_
  rintro e w2 ⟨rfl, hb2⟩
  have HB2 := Lib.hid (HB1.out.trans (hb2.mono HB1.out.size))
  clear hb2
  go_wp2
  go_ret
  rw [HA.out]
  exact ⟨rfl, HB2.out⟩
end Go.Proofs.YtmaohncddjhgeaaGreat.gn
end
