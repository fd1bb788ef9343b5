/- For any seat: a whole row loaded under a guard that holds. -/
import Derived.Test.YtekcjfdllclphaaGreatDoorMGenTail
import Derived.Laws.Rows
import Derived.Test.YtekcjfdllclphaaGreatDoorMGen
section
set_option linter.unusedVariables false
set_option linter.unusedSimpArgs false
namespace Go.Proofs.YtekcjfdllclphaaGreatDoor.gn

theorem wpl_load_g {P : Program} {ops : Array Oper} {rest : List Oper} {o : Oper} {a : Act} {w : World} {Q : Exit → Act → World → Prop} (hgw : Region.wanted o (yielded ops a.tmps) = true) (ty : TypeId) (x : Operand) (ho : o.op = .load ty x)
    (g : Nat) (hx : a.eval x = .pointer (some ⟨g, 0, none⟩)) (t : TypeId) (cs : Array Value) (fr : Nat × Nat) (d : TypeDesc) (hg : w.heap[g]? = some (.cells cs t fr))
    (hu : P.underlying ty = some d) (hd : (match d with | .struct _ | .array _ _ => true | _ => false) = true) (hi : (P.info? ty).map (·.size) = some cs.size)
    (h : wpList P ops Q rest (a.put o.dst (.agg cs)) w) : wpList P ops Q (o :: rest) a w := by
  refine wpList_step fun K hK => ?_
  rw [if_pos hgw]
  exact wp_load_row ty x ho g hx t cs fr d hg hu hd hi (hK _ _ h)
end Go.Proofs.YtekcjfdllclphaaGreatDoor.gn
end
section
namespace Go.Proofs.YtekcjfdllclphaaGreatDoor.gn
open Go.RowKit
theorem str_mid (l : List UInt8) (a n : Nat) : (str l).extract a (a + n) = str ((l.drop a).take n) := by
  apply ByteArray.ext
  simp [str]
theorem sl_mid (l : List UInt8) (i j : Int) (a n : Nat) (hi : i = (a : Int)) (hj : j = ((a + n : Nat) : Int)) (h : a + n ≤ l.length) (w : World) :
    (Instr.slice 9 (.string (str l)) (some (.int .i64 i)) (some (.int .i64 j)) none).run Tryz.prog w = .ok (.string (str ((l.drop a).take n))) w := by
  subst hi; subst hj
  have h1 := run_slice_string (P := Tryz.prog) w 9 (str l) .i64 .i64 (a : Int) ((a + n : Nat) : Int) Tryz.underlying9 (by omega) (by omega) (by rw [str_size]; omega)
  rw [Int.toNat_natCast, Int.toNat_natCast, str_mid] at h1
  exact h1
theorem sl_upto (l : List UInt8) (j : Int) (n : Nat) (hj : j = (n : Int)) (h : n ≤ l.length) (w : World) :
    (Instr.slice 9 (.string (str l)) none (some (.int .i64 j)) none).run Tryz.prog w = .ok (.string (str (l.take n))) w := by
  subst hj
  have h1 := run_slice_string_h (P := Tryz.prog) w 9 (str l) Tryz.underlying9 .i64 (n : Int) (by omega) (by rw [str_size]; omega)
  rw [Int.toNat_natCast, str_take] at h1
  exact h1
theorem sl_from (l : List UInt8) (i : Int) (a : Nat) (hi : i = (a : Int)) (h : a ≤ l.length) (w : World) :
    (Instr.slice 9 (.string (str l)) (some (.int .i64 i)) none none).run Tryz.prog w = .ok (.string (str (l.drop a))) w := by
  subst hi
  have h1 := run_slice_string_l (P := Tryz.prog) w 9 (str l) Tryz.underlying9 .i64 (a : Int) (by omega) (by rw [str_size]; omega)
  rw [Int.toNat_natCast, str_drop] at h1
  exact h1
end Go.Proofs.YtekcjfdllclphaaGreatDoor.gn
end
