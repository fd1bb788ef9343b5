/- The document's Ints, for a seat without buffers (out of BuF). -/
import Derived.Test.YtiaidlpceibnpaaLaA
set_option linter.unusedVariables false
set_option linter.unusedSimpArgs false
namespace Go.Proofs.Ytiaidlpceibnpaa.gn
open Go.RowKit

set_option maxRecDepth 100000 in
set_option maxHeartbeats 3200000 in
theorem dInts_any {w : World} {va vb : Value} {a b : List Int} (ha : RI w va a) (hb : RI w vb b) (la : a.length ≤ 140737488355328) (lb : b.length ≤ 140737488355328) :
    Calls Try.prog 8 #[va, vb] w (TellsM (.bool (decide (a = b))) w) := by
  obtain ⟨pa, ca, rfl, fa⟩ := ha.form
  obtain ⟨pb, cb, rfl, fb⟩ := hb.form
  obtain ⟨n, hn⟩ : ∃ n, a.length = n := ⟨_, rfl⟩
  obtain ⟨m, hm⟩ : ∃ m, b.length = m := ⟨_, rfl⟩
  rw [hn, hm]
  have HA := Lib.hid fa
  have HB := Lib.hid fb
  have hn1 : n ≤ 140737488355328 := by omega
  have hm1 : m ≤ 140737488355328 := by omega
  have HN := Lib.hid hn
  have HM := Lib.hid hm
  clear ha hb fa fb la lb hn hm
  by_cases hnm : n = m
  rotate_left
  · have HD := Lib.hid (show decide (a = b) = false from decide_eq_false fun e => hnm (by rw [← HN.out, ← HM.out, e]))
    have q0 : ((n : Int) != (m : Int)) = true := by rw [bne_iff_ne]; omega
    clear hnm
    go_enter Try.func8, Try.ntmps8
    go_wp2
    go_ret
    exact ⟨by rw [HD.out]; rfl, Below.refl _ _⟩
  subst hnm
  have q0 : ((n : Int) != (n : Int)) = false := by simp
  go_enter Try.func8, Try.ntmps8
  go_upto_region 4 with fail
  go_loopw [5] (fun s5 wr => ∃ i : Nat, s5 = .int .i64 (i : Nat) ∧ i ≤ n ∧ Aside (EqTo a b i ∧ Below w.heap.size w wr)) (fun s5 _ => n - (intOf s5).toNat)
  case atStart => exact ⟨0, rfl, Nat.zero_le _, EqTo.zero _ _, Below.refl _ _⟩
  case round =>
    obtain ⟨i, rfl, hi, hrow⟩ := hrel
    have HR := Lib.hid (show EqTo a b i from hrow.1)
    have HV := Lib.hid (show Below w.heap.size w wr from hrow.2)
    clear hrow
    by_cases hin : i < n
    · obtain ⟨x, hx⟩ : ∃ x, a[i]? = some x := ⟨_, List.getElem?_eq_getElem (by rw [HN.out]; exact hin)⟩
      obtain ⟨y, hy⟩ : ∃ y, b[i]? = some y := ⟨_, List.getElem?_eq_getElem (by rw [HM.out]; exact hin)⟩
      obtain ⟨ka, oa, rfl, hka, hca⟩ := HA.out (ne_of_at hx)
      obtain ⟨kb, ob, rfl, hkb, hcb⟩ := HB.out (ne_of_at hy)
      have l1 : ka < wr.heap.size := Nat.lt_of_lt_of_le hka HV.out.size
      have l2 : kb < wr.heap.size := Nat.lt_of_lt_of_le hkb HV.out.size
      have c0 := hca i x hx
      have e0 := hcb i y hy
      rw [← HV.out.cell (p := ⟨ka, oa + i, none⟩) hka] at c0
      rw [← HV.out.cell (p := ⟨kb, ob + i, none⟩) hkb] at e0
      have HX := Lib.hid hx
      have HY := Lib.hid hy
      skip
      by_cases hxy : x = y
      rotate_left
      · have HD := Lib.hid (show decide (a = b) = false from decide_eq_false (ne_at HX.out HY.out hxy))
        have p2 : (x != y) = true := by rw [bne_iff_ne]; exact hxy
        clear hxy hx hy hca hcb
        go_wp2_with (go_quiet (fail))
        go_ret
        exact ⟨by rw [HD.out]; rfl, bel_drewN HV.out⟩
      · have HS := Lib.hid (HR.out.step HX.out (by rw [hxy]; exact HY.out))
        have p2 : (x != y) = false := by rw [hxy]; simp
        clear hxy hx hy hca hcb
        go_wp2_with (go_quiet (fail))
        go_roundw
        case rel => exact ⟨i + 1, by go_num, by omega, HS.out, bel_drewN HV.out⟩
        case measure => simp [intOf]; omega
    · obtain rfl : i = n := by omega
      have HD := Lib.hid (show decide (a = b) = true from decide_eq_true (HR.out.fin HN.out HM.out))
      go_wp2
      go_ret
      exact ⟨by rw [HD.out]; rfl, HV.out⟩
end Go.Proofs.Ytiaidlpceibnpaa.gn
