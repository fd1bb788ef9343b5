/- For any seat: slices of strings, as run equations to lay ahead of a walk. -/
import Derived.Test.YtfocnipdmckojaaDoorGen
namespace Go.Proofs.YtfocnipdmckojaaDoor.gn
open Go.RowKit
theorem str_mid (l : List UInt8) (a n : Nat) : (str l).extract a (a + n) = str ((l.drop a).take n) := by
  apply ByteArray.ext
  simp [str]
theorem sl_mid (l : List UInt8) (i j : Int) (a n : Nat) (hi : i = (a : Int)) (hj : j = ((a + n : Nat) : Int)) (h : a + n ≤ l.length) (w : World) :
    (Instr.slice 9 (.string (str l)) (some (.int .i64 i)) (some (.int .i64 j)) none).run Tryd.prog w = .ok (.string (str ((l.drop a).take n))) w := by
  subst hi; subst hj
  have h1 := run_slice_string (P := Tryd.prog) w 9 (str l) .i64 .i64 (a : Int) ((a + n : Nat) : Int) Tryd.underlying9 (by omega) (by omega) (by rw [str_size]; omega)
  rw [Int.toNat_natCast, Int.toNat_natCast, str_mid] at h1
  exact h1
theorem sl_upto (l : List UInt8) (j : Int) (n : Nat) (hj : j = (n : Int)) (h : n ≤ l.length) (w : World) :
    (Instr.slice 9 (.string (str l)) none (some (.int .i64 j)) none).run Tryd.prog w = .ok (.string (str (l.take n))) w := by
  subst hj
  have h1 := run_slice_string_h (P := Tryd.prog) w 9 (str l) Tryd.underlying9 .i64 (n : Int) (by omega) (by rw [str_size]; omega)
  rw [Int.toNat_natCast, str_take] at h1
  exact h1
theorem sl_from (l : List UInt8) (i : Int) (a : Nat) (hi : i = (a : Int)) (h : a ≤ l.length) (w : World) :
    (Instr.slice 9 (.string (str l)) (some (.int .i64 i)) none none).run Tryd.prog w = .ok (.string (str (l.drop a))) w := by
  subst hi
  have h1 := run_slice_string_l (P := Tryd.prog) w 9 (str l) Tryd.underlying9 .i64 (a : Int) (by omega) (by rw [str_size]; omega)
  rw [Int.toNat_natCast, str_drop] at h1
  exact h1
end Go.Proofs.YtfocnipdmckojaaDoor.gn
