/- The document's answers for buffers: Same of extents, Ints, One, Same. (Written by gen_buF.py, ahead of the code.) -/
import Derived.Test.YtkjffoebcblpoaaGreatMBuE
import Derived.Laws.StructEq
section
set_option linter.unusedVariables false
set_option linter.unusedSimpArgs false
namespace Go.Proofs.YtkjffoebcblpoaaGreat.gn
open Go.RowKit
open Go.Proofs.YtkjffoebcblpoaaGreat.ex (X)
open Go.Proofs.YtkjffoebcblpoaaGreat.bu (Bf)

theorem ext_eqIn (a b c d : Int) (W : World) : (Op.equalIn 10000 55 (.agg #[.int .i64 a, .int .i64 b]) (.agg #[.int .i64 c, .int .i64 d])).run Tryz.prog W = .ok (decide (a = c) && decide (b = d)) W := by
  rw [run_equalIn_agg W 9999 55 #[.int .i64 a, .int .i64 b] #[.int .i64 c, .int .i64 d] (by kernel_rfl) (by kernel_rfl)]
  unfold Program.fieldsOf
  rw [Tryz.underlying55]
  simp [Op.eqFields, go_sem, Tryz.underlying2]
  by_cases h1 : a = c <;> by_cases h2 : b = d <;> simp [h1, h2]
theorem ext_neq (x y : X) (b : Bool) (h : decide (x = y) = b) (W : World) : (binOp .neq 55 (.agg #[.int .i64 x.1, .int .i64 x.2]) (.agg #[.int .i64 y.1, .int .i64 y.2])).run Tryz.prog W = .ok (.bool (!b)) W := by
  rw [run_neq_struct, ext_eqIn, ← h]
  have : (decide (x.1 = y.1) && decide (x.2 = y.2)) = decide (x = y) := by
    rw [Bool.eq_iff_iff, Bool.and_eq_true, decide_eq_true_eq, decide_eq_true_eq, decide_eq_true_eq]
    exact ⟨fun hh => Prod.ext hh.1 hh.2, fun hh => by rw [hh]; exact ⟨rfl, rfl⟩⟩
  rw [this]
  rfl
/-- The first i are the same. -/
def EqTo {α : Type} (a b : List α) (i : Nat) : Prop := a.take i = b.take i
theorem EqTo.zero {α : Type} (a b : List α) : EqTo a b 0 := by unfold EqTo; rw [List.take_zero, List.take_zero]
theorem EqTo.step {α : Type} {a b : List α} {i : Nat} {x : α} (h : EqTo a b i) (ha : a[i]? = some x) (hb : b[i]? = some x) : EqTo a b (i + 1) := by
  unfold EqTo at *
  rw [bu.take_at ha, bu.take_at hb, h]
theorem EqTo.fin {α : Type} {a b : List α} {n : Nat} (h : EqTo a b n) (ha : a.length = n) (hb : b.length = n) : a = b := by
  unfold EqTo at h
  rwa [List.take_of_length_le (by omega), List.take_of_length_le (by omega)] at h
theorem ne_at {α : Type} {a b : List α} {i : Nat} {x y : α} (ha : a[i]? = some x) (hb : b[i]? = some y) (h : ¬ x = y) : ¬ a = b := fun e => by
  rw [e, hb] at ha
  exact h (Option.some.inj ha).symm
set_option maxRecDepth 100000 in
set_option maxHeartbeats 3200000 in
theorem dSameX_any {w : World} {va vb : Value} {a b : List X} (ha : RX w va a) (hb : RX w vb b) (la : a.length ≤ 140737488355328) (lb : b.length ≤ 140737488355328) :
    Calls Tryz.prog 54 #[va, vb] w (TellsM (.bool (decide (a = b))) w) := by
  obtain ⟨pa, ca, rfl, fa⟩ := ha.form
  obtain ⟨pb, cb, rfl, fb⟩ := hb.form
  obtain ⟨n, hn⟩ : ∃ n, a.length = n := ⟨_, rfl⟩
  obtain ⟨m, hm⟩ : ∃ m, b.length = m := ⟨_, rfl⟩
  rw [hn, hm]
  have HA := Lib.hid fa
  have HB := Lib.hid fb
  have hn1 : n ≤ 140737488355328 := by omega
  have hm1 : m ≤ 140737488355328 := by omega
  have HN := Lib.hid hn
  have HM := Lib.hid hm
  clear ha hb fa fb la lb hn hm
  by_cases hnm : n = m
  rotate_left
  · have HD := Lib.hid (show decide (a = b) = false from decide_eq_false fun e => hnm (by rw [← HN.out, ← HM.out, e]))
    have q0 : ((n : Int) != (m : Int)) = true := by rw [bne_iff_ne]; omega
    clear hnm
    go_enter Tryz.func54, Tryz.ntmps54
    go_wp2
    go_ret
    exact ⟨by rw [HD.out]; rfl, Below.refl _ _⟩
  subst hnm
  have q0 : ((n : Int) != (n : Int)) = false := by simp
  go_enter Tryz.func54, Tryz.ntmps54
  go_upto_region 4 with fail
  go_loopw [5] (fun s5 wr => ∃ i : Nat, s5 = .int .i64 (i : Nat) ∧ i ≤ n ∧ Aside (EqTo a b i ∧ Below w.heap.size w wr)) (fun s5 _ => n - (intOf s5).toNat)
  case atStart => exact ⟨0, rfl, Nat.zero_le _, EqTo.zero _ _, Below.refl _ _⟩
  case round =>
    obtain ⟨i, rfl, hi, hrow⟩ := hrel
    have HR := Lib.hid (show EqTo a b i from hrow.1)
    have HV := Lib.hid (show Below w.heap.size w wr from hrow.2)
    clear hrow
    by_cases hin : i < n
    · obtain ⟨x, hx⟩ : ∃ x, a[i]? = some x := ⟨_, List.getElem?_eq_getElem (by rw [HN.out]; exact hin)⟩
      obtain ⟨y, hy⟩ : ∃ y, b[i]? = some y := ⟨_, List.getElem?_eq_getElem (by rw [HM.out]; exact hin)⟩
      obtain ⟨ka, oa, rfl, hka, hca⟩ := HA.out (ne_of_at hx)
      obtain ⟨kb, ob, rfl, hkb, hcb⟩ := HB.out (ne_of_at hy)
      have l1 : ka < wr.heap.size := Nat.lt_of_lt_of_le hka HV.out.size
      have l2 : kb < wr.heap.size := Nat.lt_of_lt_of_le hkb HV.out.size
      obtain ⟨c0, c1⟩ := hca i x hx
      obtain ⟨e0, e1⟩ := hcb i y hy
      rw [← HV.out.cell (p := ⟨ka, oa + i * 2, none⟩) hka] at c0
      rw [← HV.out.cell (p := ⟨ka, oa + i * 2 + 1, none⟩) hka] at c1
      rw [← HV.out.cell (p := ⟨kb, ob + i * 2, none⟩) hkb] at e0
      rw [← HV.out.cell (p := ⟨kb, ob + i * 2 + 1, none⟩) hkb] at e1
      have HX := Lib.hid hx
      have HY := Lib.hid hy
      skip
      by_cases hxy : x = y
      rotate_left
      · have HD := Lib.hid (show decide (a = b) = false from decide_eq_false (ne_at HX.out HY.out hxy))
        have p2 := fun W => ext_neq x y false (decide_eq_false hxy) W
        clear hxy hx hy hca hcb
        go_wp2_with (go_quiet (fail))
        go_ret
        exact ⟨by rw [HD.out]; rfl, bel_drewN HV.out⟩
      · have HS := Lib.hid (HR.out.step HX.out (by rw [hxy]; exact HY.out))
        have p2 := fun W => ext_neq x y true (decide_eq_true hxy) W
        clear hxy hx hy hca hcb
        go_wp2_with (go_quiet (fail))
        go_roundw
        case rel => exact ⟨i + 1, by go_num, by omega, HS.out, bel_drewN HV.out⟩
        case measure => simp [intOf]; omega
    · obtain rfl : i = n := by omega
      have HD := Lib.hid (show decide (a = b) = true from decide_eq_true (HR.out.fin HN.out HM.out))
      go_wp2
      go_ret
      exact ⟨by rw [HD.out]; rfl, HV.out⟩
set_option maxRecDepth 100000 in
set_option maxHeartbeats 3200000 in
theorem dInts_any {w : World} {va vb : Value} {a b : List Int} (ha : RI w va a) (hb : RI w vb b) (la : a.length ≤ 140737488355328) (lb : b.length ≤ 140737488355328) :
    Calls Tryz.prog 55 #[va, vb] w (TellsM (.bool (decide (a = b))) w) := by
  obtain ⟨pa, ca, rfl, fa⟩ := ha.form
  obtain ⟨pb, cb, rfl, fb⟩ := hb.form
  obtain ⟨n, hn⟩ : ∃ n, a.length = n := ⟨_, rfl⟩
  obtain ⟨m, hm⟩ : ∃ m, b.length = m := ⟨_, rfl⟩
  rw [hn, hm]
  have HA := Lib.hid fa
  have HB := Lib.hid fb
  have hn1 : n ≤ 140737488355328 := by omega
  have hm1 : m ≤ 140737488355328 := by omega
  have HN := Lib.hid hn
  have HM := Lib.hid hm
  clear ha hb fa fb la lb hn hm
  by_cases hnm : n = m
  rotate_left
  · have HD := Lib.hid (show decide (a = b) = false from decide_eq_false fun e => hnm (by rw [← HN.out, ← HM.out, e]))
    have q0 : ((n : Int) != (m : Int)) = true := by rw [bne_iff_ne]; omega
    clear hnm
    go_enter Tryz.func55, Tryz.ntmps55
    go_wp2
    go_ret
    exact ⟨by rw [HD.out]; rfl, Below.refl _ _⟩
  subst hnm
  have q0 : ((n : Int) != (n : Int)) = false := by simp
  go_enter Tryz.func55, Tryz.ntmps55
  go_upto_region 4 with fail
  go_loopw [5] (fun s5 wr => ∃ i : Nat, s5 = .int .i64 (i : Nat) ∧ i ≤ n ∧ Aside (EqTo a b i ∧ Below w.heap.size w wr)) (fun s5 _ => n - (intOf s5).toNat)
  case atStart => exact ⟨0, rfl, Nat.zero_le _, EqTo.zero _ _, Below.refl _ _⟩
  case round =>
    obtain ⟨i, rfl, hi, hrow⟩ := hrel
    have HR := Lib.hid (show EqTo a b i from hrow.1)
    have HV := Lib.hid (show Below w.heap.size w wr from hrow.2)
    clear hrow
    by_cases hin : i < n
    · obtain ⟨x, hx⟩ : ∃ x, a[i]? = some x := ⟨_, List.getElem?_eq_getElem (by rw [HN.out]; exact hin)⟩
      obtain ⟨y, hy⟩ : ∃ y, b[i]? = some y := ⟨_, List.getElem?_eq_getElem (by rw [HM.out]; exact hin)⟩
      obtain ⟨ka, oa, rfl, hka, hca⟩ := HA.out (ne_of_at hx)
      obtain ⟨kb, ob, rfl, hkb, hcb⟩ := HB.out (ne_of_at hy)
      have l1 : ka < wr.heap.size := Nat.lt_of_lt_of_le hka HV.out.size
      have l2 : kb < wr.heap.size := Nat.lt_of_lt_of_le hkb HV.out.size
      have c0 := hca i x hx
      have e0 := hcb i y hy
      rw [← HV.out.cell (p := ⟨ka, oa + i, none⟩) hka] at c0
      rw [← HV.out.cell (p := ⟨kb, ob + i, none⟩) hkb] at e0
      have HX := Lib.hid hx
      have HY := Lib.hid hy
      skip
      by_cases hxy : x = y
      rotate_left
      · have HD := Lib.hid (show decide (a = b) = false from decide_eq_false (ne_at HX.out HY.out hxy))
        have p2 : (x != y) = true := by rw [bne_iff_ne]; exact hxy
        clear hxy hx hy hca hcb
        go_wp2_with (go_quiet (fail))
        go_ret
        exact ⟨by rw [HD.out]; rfl, bel_drewN HV.out⟩
      · have HS := Lib.hid (HR.out.step HX.out (by rw [hxy]; exact HY.out))
        have p2 : (x != y) = false := by rw [hxy]; simp
        clear hxy hx hy hca hcb
        go_wp2_with (go_quiet (fail))
        go_roundw
        case rel => exact ⟨i + 1, by go_num, by omega, HS.out, bel_drewN HV.out⟩
        case measure => simp [intOf]; omega
    · obtain rfl : i = n := by omega
      have HD := Lib.hid (show decide (a = b) = true from decide_eq_true (HR.out.fin HN.out HM.out))
      go_wp2
      go_ret
      exact ⟨by rw [HD.out]; rfl, HV.out⟩
set_option maxRecDepth 100000 in
set_option maxHeartbeats 6400000 in
theorem dOne_any (x y : Bf) (g k : Gb) (w : World) (hx : RB w x g) (hy : RB w y k) (bx : BI x) (by_ : BI y) : Calls Tryz.prog 20 #[bV x g, bV y k] w (TellsM (.bool (decide (x = y))) w) := by
  obtain ⟨W, hW, hbx, hby, hl⟩ := made_bb w x y g k
  obtain ⟨ge, gr⟩ := g
  obtain ⟨ke, kr⟩ := k
  have HSX := Lib.hid (fun (Y : World) (hb : Below W.heap.size W Y) => dSameX_any (((hx.next hl).next hb).e) (((hy.next hl).next hb).e) bx.le by_.le)
  have HIN := Lib.hid (fun (Y : World) (hb : Below W.heap.size W Y) => dInts_any (((hx.next hl).next hb).r) (((hy.next hl).next hb).r) bx.lr by_.lr)
  dsimp only at HSX HIN
  have HBX := Lib.hid (fun (Y : World) (hb : Below W.heap.size W Y) => (hbx.next hb).cells)
  have HBY := Lib.hid (fun (Y : World) (hb : Below W.heap.size W Y) => (hby.next hb).cells)
  obtain ⟨x0, x1, x2, x3, x4, x5, x6, xl⟩ := hbx.cells
  obtain ⟨y0, y1, y2, y3, y4, y5, y6, yl⟩ := hby.cells
  dsimp only at x5 x6 y5 y6
  have HL := Lib.hid hl
  have HW := Lib.hid hW
  unfold bcs at HW
  unfold bV bcs
  dsimp only at *
  clear hW hbx hby hl hx hy bx by_
  by_cases h0 : x.job = y.job
  rotate_left
  · have HD := Lib.hid (show decide (x = y) = false from decide_eq_false fun e => h0 (by rw [e]))
    have q0 : (x.job == y.job) = false := by rw [beq_eq_false_iff_ne]; exact h0
    clear h0
    go_enter Tryz.func20, Tryz.ntmps20
    go_upto_region 1 with fail
    rw [HW.out]
    go_wp2
    go_ret
    exact ⟨by rw [HD.out]; rfl, HL.out⟩
  by_cases h1 : x.name = y.name
  rotate_left
  · have HD := Lib.hid (show decide (x = y) = false from decide_eq_false fun e => h1 (by rw [e]))
    have q0 : (x.job == y.job) = true := by rw [beq_iff_eq]; exact h0
    have q1 : ((str x.name).toList == (str y.name).toList) = false := by rw [str_toList, str_toList, beq_eq_false_iff_ne]; exact h1
    have r1 : ¬ (str x.name).toList = (str y.name).toList := by rw [str_toList, str_toList]; exact h1
    clear h0 h1
    go_enter Tryz.func20, Tryz.ntmps20
    go_upto_region 1 with fail
    rw [HW.out]
    go_wp2
    go_ret
    exact ⟨by rw [HD.out]; rfl, HL.out⟩
  by_cases h2 : x.user = y.user
  rotate_left
  · have HD := Lib.hid (show decide (x = y) = false from decide_eq_false fun e => h2 (by rw [e]))
    have q0 : (x.job == y.job) = true := by rw [beq_iff_eq]; exact h0
    have q1 : ((str x.name).toList == (str y.name).toList) = true := by rw [h1]; simp
    have r1 : (str x.name).toList = (str y.name).toList := by rw [h1]
    have q2 : ((str x.user).toList == (str y.user).toList) = false := by rw [str_toList, str_toList, beq_eq_false_iff_ne]; exact h2
    have r2 : ¬ (str x.user).toList = (str y.user).toList := by rw [str_toList, str_toList]; exact h2
    clear h0 h1 h2
    go_enter Tryz.func20, Tryz.ntmps20
    go_upto_region 1 with fail
    rw [HW.out]
    go_wp2
    go_ret
    exact ⟨by rw [HD.out]; rfl, HL.out⟩
  by_cases h3 : x.pool = y.pool
  rotate_left
  · have HD := Lib.hid (show decide (x = y) = false from decide_eq_false fun e => h3 (by rw [e]))
    have q0 : (x.job == y.job) = true := by rw [beq_iff_eq]; exact h0
    have q1 : ((str x.name).toList == (str y.name).toList) = true := by rw [h1]; simp
    have r1 : (str x.name).toList = (str y.name).toList := by rw [h1]
    have q2 : ((str x.user).toList == (str y.user).toList) = true := by rw [h2]; simp
    have r2 : (str x.user).toList = (str y.user).toList := by rw [h2]
    have q3 : ((str x.pool).toList == (str y.pool).toList) = false := by rw [str_toList, str_toList, beq_eq_false_iff_ne]; exact h3
    have r3 : ¬ (str x.pool).toList = (str y.pool).toList := by rw [str_toList, str_toList]; exact h3
    clear h0 h1 h2 h3
    go_enter Tryz.func20, Tryz.ntmps20
    go_upto_region 1 with fail
    rw [HW.out]
    go_wp2
    go_ret
    exact ⟨by rw [HD.out]; rfl, HL.out⟩
  by_cases h4 : x.opn = y.opn
  rotate_left
  · have HD := Lib.hid (show decide (x = y) = false from decide_eq_false fun e => h4 (by rw [e]))
    have q0 : (x.job == y.job) = true := by rw [beq_iff_eq]; exact h0
    have q1 : ((str x.name).toList == (str y.name).toList) = true := by rw [h1]; simp
    have r1 : (str x.name).toList = (str y.name).toList := by rw [h1]
    have q2 : ((str x.user).toList == (str y.user).toList) = true := by rw [h2]; simp
    have r2 : (str x.user).toList = (str y.user).toList := by rw [h2]
    have q3 : ((str x.pool).toList == (str y.pool).toList) = true := by rw [h3]; simp
    have r3 : (str x.pool).toList = (str y.pool).toList := by rw [h3]
    have q4 : (x.opn == y.opn) = false := by rw [beq_eq_false_iff_ne]; exact h4
    clear h0 h1 h2 h3 h4
    go_enter Tryz.func20, Tryz.ntmps20
    go_upto_region 1 with fail
    rw [HW.out]
    go_wp2
    go_ret
    exact ⟨by rw [HD.out]; rfl, HL.out⟩
  by_cases h5 : x.exts = y.exts
  rotate_left
  · have HD := Lib.hid (show decide (x = y) = false from decide_eq_false fun e => h5 (by rw [e]))
    have q0 : (x.job == y.job) = true := by rw [beq_iff_eq]; exact h0
    have q1 : ((str x.name).toList == (str y.name).toList) = true := by rw [h1]; simp
    have r1 : (str x.name).toList = (str y.name).toList := by rw [h1]
    have q2 : ((str x.user).toList == (str y.user).toList) = true := by rw [h2]; simp
    have r2 : (str x.user).toList = (str y.user).toList := by rw [h2]
    have q3 : ((str x.pool).toList == (str y.pool).toList) = true := by rw [h3]; simp
    have r3 : (str x.pool).toList = (str y.pool).toList := by rw [h3]
    have q4 : (x.opn == y.opn) = true := by rw [beq_iff_eq]; exact h4
    rw [decide_eq_false h5] at HSX
    clear h0 h1 h2 h3 h4 h5
    go_enter Tryz.func20, Tryz.ntmps20
    go_upto_region 1 with fail
    rw [HW.out]
    go_wp2_with (first
      | (go_at_call 54; ((with_reducible refine (HSX.out _ (Below.refl _ _)).mono ?_); rintro e w5 ⟨rfl, hb⟩); have A5 := Lib.hid hb; obtain ⟨-, -, -, -, -, -, x6, xl⟩ := HBX.out _ hb; obtain ⟨-, -, -, -, -, -, y6, yl⟩ := HBY.out _ hb; try dsimp only at x6 y6; clear hb)
      | (go_at_call 55; ((with_reducible refine (HIN.out _ A5.out).mono ?_); rintro e w6 ⟨rfl, hb⟩); have A6 := Lib.hid (A5.out.trans (hb.mono A5.out.size)); clear hb))
    go_ret
    exact ⟨by rw [HD.out]; rfl, HL.out.trans (A5.out.mono HL.out.size)⟩
  by_cases h6 : x.refs = y.refs
  rotate_left
  · have HD := Lib.hid (show decide (x = y) = false from decide_eq_false fun e => h6 (by rw [e]))
    have q0 : (x.job == y.job) = true := by rw [beq_iff_eq]; exact h0
    have q1 : ((str x.name).toList == (str y.name).toList) = true := by rw [h1]; simp
    have r1 : (str x.name).toList = (str y.name).toList := by rw [h1]
    have q2 : ((str x.user).toList == (str y.user).toList) = true := by rw [h2]; simp
    have r2 : (str x.user).toList = (str y.user).toList := by rw [h2]
    have q3 : ((str x.pool).toList == (str y.pool).toList) = true := by rw [h3]; simp
    have r3 : (str x.pool).toList = (str y.pool).toList := by rw [h3]
    have q4 : (x.opn == y.opn) = true := by rw [beq_iff_eq]; exact h4
    rw [decide_eq_true h5] at HSX
    rw [decide_eq_false h6] at HIN
    clear h0 h1 h2 h3 h4 h5 h6
    go_enter Tryz.func20, Tryz.ntmps20
    go_upto_region 1 with fail
    rw [HW.out]
    go_wp2_with (first
      | (go_at_call 54; ((with_reducible refine (HSX.out _ (Below.refl _ _)).mono ?_); rintro e w5 ⟨rfl, hb⟩); have A5 := Lib.hid hb; obtain ⟨-, -, -, -, -, -, x6, xl⟩ := HBX.out _ hb; obtain ⟨-, -, -, -, -, -, y6, yl⟩ := HBY.out _ hb; try dsimp only at x6 y6; clear hb)
      | (go_at_call 55; ((with_reducible refine (HIN.out _ A5.out).mono ?_); rintro e w6 ⟨rfl, hb⟩); have A6 := Lib.hid (A5.out.trans (hb.mono A5.out.size)); clear hb))
    go_ret
    exact ⟨by rw [HD.out]; rfl, HL.out.trans (A6.out.mono HL.out.size)⟩
  have HD := Lib.hid (show decide (x = y) = true from decide_eq_true (by cases x; cases y; simp_all))
  have q0 : (x.job == y.job) = true := by rw [beq_iff_eq]; exact h0
  have q1 : ((str x.name).toList == (str y.name).toList) = true := by rw [h1]; simp
  have r1 : (str x.name).toList = (str y.name).toList := by rw [h1]
  have q2 : ((str x.user).toList == (str y.user).toList) = true := by rw [h2]; simp
  have r2 : (str x.user).toList = (str y.user).toList := by rw [h2]
  have q3 : ((str x.pool).toList == (str y.pool).toList) = true := by rw [h3]; simp
  have r3 : (str x.pool).toList = (str y.pool).toList := by rw [h3]
  have q4 : (x.opn == y.opn) = true := by rw [beq_iff_eq]; exact h4
  rw [decide_eq_true h5] at HSX
  rw [decide_eq_true h6] at HIN
  clear h0 h1 h2 h3 h4 h5 h6
  go_enter Tryz.func20, Tryz.ntmps20
  go_upto_region 1 with fail
  rw [HW.out]
  go_wp2_with (first
    | (go_at_call 54; ((with_reducible refine (HSX.out _ (Below.refl _ _)).mono ?_); rintro e w5 ⟨rfl, hb⟩); have A5 := Lib.hid hb; obtain ⟨-, -, -, -, -, -, x6, xl⟩ := HBX.out _ hb; obtain ⟨-, -, -, -, -, -, y6, yl⟩ := HBY.out _ hb; try dsimp only at x6 y6; clear hb)
    | (go_at_call 55; ((with_reducible refine (HIN.out _ A5.out).mono ?_); rintro e w6 ⟨rfl, hb⟩); have A6 := Lib.hid (A5.out.trans (hb.mono A5.out.size)); clear hb))
  go_ret
  exact ⟨by rw [HD.out]; rfl, HL.out.trans (A6.out.mono HL.out.size)⟩
set_option maxRecDepth 100000 in
set_option maxHeartbeats 6400000 in
theorem dSameB_any {w : World} {va vb : Value} {L M : List (Bf × Gb)} (ha : RBs w va L) (hb : RBs w vb M) (ia : BIs L) (ib : BIs M) :
    Calls Tryz.prog 13 #[va, vb] w (TellsM (.bool (decide (L.map Prod.fst = M.map Prod.fst))) w) := by
  have HRA := Lib.hid ha.rows
  have HRB := Lib.hid hb.rows
  obtain ⟨pa, ca, rfl, fa⟩ := ha.form
  obtain ⟨pb, cb, rfl, fb⟩ := hb.form
  obtain ⟨n, hn⟩ : ∃ n, L.length = n := ⟨_, rfl⟩
  obtain ⟨m, hm⟩ : ∃ m, M.length = m := ⟨_, rfl⟩
  rw [hn, hm]
  have HA := Lib.hid fa
  have HB := Lib.hid fb
  have IA := Lib.hid ia
  have IB := Lib.hid ib
  have hn1 : n ≤ 140737488355328 := by rw [← hn]; exact ia.len
  have hm1 : m ≤ 140737488355328 := by rw [← hm]; exact ib.len
  have HN := Lib.hid hn
  have HM := Lib.hid hm
  clear ha hb fa fb ia ib hn hm
  by_cases hnm : n = m
  rotate_left
  · have HD := Lib.hid (show decide (L.map Prod.fst = M.map Prod.fst) = false from decide_eq_false fun e => hnm (by have h2 := congrArg List.length e; rw [List.length_map, List.length_map] at h2; rw [← HN.out, ← HM.out]; exact h2))
    have q0 : ((n : Int) != (m : Int)) = true := by rw [bne_iff_ne]; omega
    clear hnm
    go_enter Tryz.func13, Tryz.ntmps13
    go_wp2
    go_ret
    exact ⟨by rw [HD.out]; rfl, Below.refl _ _⟩
  subst hnm
  have q0 : ((n : Int) != (n : Int)) = false := by simp
  go_enter Tryz.func13, Tryz.ntmps13
  go_upto_region 4 with fail
  go_loopw [5] (fun s5 wr => ∃ i : Nat, s5 = .int .i64 (i : Nat) ∧ i ≤ n ∧ Aside (EqTo (L.map Prod.fst) (M.map Prod.fst) i ∧ Below w.heap.size w wr)) (fun s5 _ => n - (intOf s5).toNat)
  case atStart => exact ⟨0, rfl, Nat.zero_le _, EqTo.zero _ _, Below.refl _ _⟩
  case round =>
    obtain ⟨i, rfl, hi, hrow⟩ := hrel
    have HR := Lib.hid (show EqTo (L.map Prod.fst) (M.map Prod.fst) i from hrow.1)
    have HV := Lib.hid (show Below w.heap.size w wr from hrow.2)
    clear hrow
    by_cases hin : i < n
    · obtain ⟨q, hq⟩ : ∃ q, L[i]? = some q := ⟨_, List.getElem?_eq_getElem (by rw [HN.out]; exact hin)⟩
      obtain ⟨r, hr⟩ : ∃ r, M[i]? = some r := ⟨_, List.getElem?_eq_getElem (by rw [HM.out]; exact hin)⟩
      obtain ⟨ka, oa, rfl, hka, hca⟩ := BC.of (HA.out (ne_of_at hq))
      obtain ⟨kb, ob, rfl, hkb, hcb⟩ := BC.of (HB.out (ne_of_at hr))
      have HQ := Lib.hid hq
      have HRR := Lib.hid hr
      have HC := Lib.hid (fun (Y : World) (hb : Below w.heap.size w Y) => And.intro (hca.next hka hb) (hcb.next hkb hb))
      have l1 : ka < wr.heap.size := Nat.lt_of_lt_of_le hka HV.out.size
      have l2 : kb < wr.heap.size := Nat.lt_of_lt_of_le hkb HV.out.size
      have HDR := Lib.hid (show Below w.heap.size w wr.drew from Below.drew HV.out)
      have HON := Lib.hid (fun (Y : World) (hb : Below w.heap.size w Y) => dOne_any q.1 r.1 q.2 r.2 Y ((HRA.out q (List.mem_of_getElem? hq)).next hb) ((HRB.out r (List.mem_of_getElem? hr)).next hb) (IA.out.all q (List.mem_of_getElem? hq)) (IB.out.all r (List.mem_of_getElem? hr)))
      unfold bV at HON
      clear hq hr hka hkb hca hcb
      go_upto_region 6 with fail
      by_cases hxy : q.1 = r.1
      rotate_left
      · have HD := Lib.hid (show decide (L.map Prod.fst = M.map Prod.fst) = false from decide_eq_false (ne_at (fst_at HQ.out) (fst_at HRR.out) hxy))
        rw [decide_eq_false hxy] at HON
        clear hxy
        refine wp_region_held_drew (S := (fun X => BC L ka oa X ∧ BC M kb ob X)) (by kernel_rfl) (by exact HC.out _ HDR.out) (fun hHeld => ?_)
        refine wpAnyH_take (i := 0) (v := ?_) (ata at0) (by kernel_rfl) (by kernel_rfl) (by kernel_rfl) (fun _ _ _ h => h) (Or.inl ⟨by rfl, ?_⟩) (by assumption) ?_
        rotate_left
        · (intro w hSw; (try dsimp only at hSw); go_simp; (first | done | with_reducible rfl))
        try simp only [Act.put, List.setIfInBounds_toArray, List.set_cons_zero, List.set_cons_succ]
        refine wpAnyH_take (i := 1) (v := ?_) (ata (atS at0)) (by kernel_rfl) (by kernel_rfl) (by kernel_rfl) (fun _ _ _ h => h) (Or.inl ⟨by rfl, ?_⟩) (by assumption) ?_
        rotate_left
        · (intro w hSw; (try dsimp only at hSw); go_simp; (first | done | with_reducible rfl))
        try simp only [Act.put, List.setIfInBounds_toArray, List.set_cons_zero, List.set_cons_succ]
        refine wpAnyH_take (i := 2) (v := ?_) (ata (atS (atS at0))) (by kernel_rfl) (by kernel_rfl) (by kernel_rfl) (fun _ _ _ h => h) (Or.inl ⟨by rfl, ?_⟩) (by assumption) ?_
        rotate_left
        · (intro w hSw; (try dsimp only at hSw); go_simp; (first | done | with_reducible rfl))
        try simp only [Act.put, List.setIfInBounds_toArray, List.set_cons_zero, List.set_cons_succ]
        refine wpAnyH_take (i := 3) (v := .agg (bcs q.1 q.2)) (ata (atS (atS (atS at0)))) (by kernel_rfl) (by kernel_rfl) (by kernel_rfl) (fun _ _ _ h => h) (Or.inl ⟨by rfl, ?_⟩) (by assumption) ?_
        · intro X hX; exact load_buf _ rfl _ _ rfl q (hX.1 i q HQ.out)
        try simp only [Act.put, List.setIfInBounds_toArray, List.set_cons_zero, List.set_cons_succ]
        refine wpAnyH_take (i := 4) (v := ?_) (ata (atS (atS (atS (atS at0))))) (by kernel_rfl) (by kernel_rfl) (by kernel_rfl) (fun _ _ _ h => h) (Or.inl ⟨by rfl, ?_⟩) (by assumption) ?_
        rotate_left
        · (intro w hSw; (try dsimp only at hSw); go_simp; (first | done | with_reducible rfl))
        try simp only [Act.put, List.setIfInBounds_toArray, List.set_cons_zero, List.set_cons_succ]
        refine wpAnyH_take (i := 5) (v := ?_) (ata (atS (atS (atS (atS (atS at0)))))) (by kernel_rfl) (by kernel_rfl) (by kernel_rfl) (fun _ _ _ h => h) (Or.inl ⟨by rfl, ?_⟩) (by assumption) ?_
        rotate_left
        · (intro w hSw; (try dsimp only at hSw); go_simp; (first | done | with_reducible rfl))
        try simp only [Act.put, List.setIfInBounds_toArray, List.set_cons_zero, List.set_cons_succ]
        refine wpAnyH_take (i := 6) (v := ?_) (ata (atS (atS (atS (atS (atS (atS at0))))))) (by kernel_rfl) (by kernel_rfl) (by kernel_rfl) (fun _ _ _ h => h) (Or.inl ⟨by rfl, ?_⟩) (by assumption) ?_
        rotate_left
        · (intro w hSw; (try dsimp only at hSw); go_simp; (first | done | with_reducible rfl))
        try simp only [Act.put, List.setIfInBounds_toArray, List.set_cons_zero, List.set_cons_succ]
        refine wpAnyH_take (i := 7) (v := .agg (bcs r.1 r.2)) (ata (atS (atS (atS (atS (atS (atS (atS at0)))))))) (by kernel_rfl) (by kernel_rfl) (by kernel_rfl) (fun _ _ _ h => h) (Or.inl ⟨by rfl, ?_⟩) (by assumption) ?_
        · intro X hX; exact load_buf _ rfl _ _ rfl r (hX.2 i r HRR.out)
        try simp only [Act.put, List.setIfInBounds_toArray, List.set_cons_zero, List.set_cons_succ]
        refine wpAnyH_ready (rs := [8]) (by kernel_rfl) (by simp) ?_
        refine AllReadyH.cons (ata (atS (atS (atS (atS (atS (atS (atS (atS at0))))))))) (fun K hK => ?_) AllReadyH.nil
        go_simp
        (go_at_call 20; ((with_reducible refine (HON.out _ HDR.out).mono ?_); rintro e w5 ⟨rfl, hb⟩); have A5 := Lib.hid (HDR.out.trans (hb.mono HDR.out.size)); clear hb)
        go_wp2_with fail
        refine hK.out _ _ (by exact HC.out _ A5.out) (fun hHeld => ?_)
        clear hK K
        try simp only [Act.put, List.setIfInBounds_toArray, List.set_cons_zero, List.set_cons_succ]
        refine wpAnyH_take (i := 9) (v := ?_) (ata (atS (atS (atS (atS (atS (atS (atS (atS (atS at0)))))))))) (by kernel_rfl) (by kernel_rfl) (by kernel_rfl) (fun _ _ _ h => h) (Or.inl ⟨by rfl, ?_⟩) (by assumption) ?_
        rotate_left
        · (intro w hSw; (try dsimp only at hSw); go_simp; (first | done | with_reducible rfl))
        try simp only [Act.put, List.setIfInBounds_toArray, List.set_cons_zero, List.set_cons_succ]
        refine wpAnyH_done (by kernel_rfl) ?_ _
        go_wp2
        go_ret
        exact ⟨by rw [HD.out]; rfl, A5.out⟩
      · have HS := Lib.hid (HR.out.step (fst_at HQ.out) (by rw [hxy]; exact fst_at HRR.out))
        rw [decide_eq_true hxy] at HON
        clear hxy
        refine wp_region_held_drew (S := (fun X => BC L ka oa X ∧ BC M kb ob X)) (by kernel_rfl) (by exact HC.out _ HDR.out) (fun hHeld => ?_)
        refine wpAnyH_take (i := 0) (v := ?_) (ata at0) (by kernel_rfl) (by kernel_rfl) (by kernel_rfl) (fun _ _ _ h => h) (Or.inl ⟨by rfl, ?_⟩) (by assumption) ?_
        rotate_left
        · (intro w hSw; (try dsimp only at hSw); go_simp; (first | done | with_reducible rfl))
        try simp only [Act.put, List.setIfInBounds_toArray, List.set_cons_zero, List.set_cons_succ]
        refine wpAnyH_take (i := 1) (v := ?_) (ata (atS at0)) (by kernel_rfl) (by kernel_rfl) (by kernel_rfl) (fun _ _ _ h => h) (Or.inl ⟨by rfl, ?_⟩) (by assumption) ?_
        rotate_left
        · (intro w hSw; (try dsimp only at hSw); go_simp; (first | done | with_reducible rfl))
        try simp only [Act.put, List.setIfInBounds_toArray, List.set_cons_zero, List.set_cons_succ]
        refine wpAnyH_take (i := 2) (v := ?_) (ata (atS (atS at0))) (by kernel_rfl) (by kernel_rfl) (by kernel_rfl) (fun _ _ _ h => h) (Or.inl ⟨by rfl, ?_⟩) (by assumption) ?_
        rotate_left
        · (intro w hSw; (try dsimp only at hSw); go_simp; (first | done | with_reducible rfl))
        try simp only [Act.put, List.setIfInBounds_toArray, List.set_cons_zero, List.set_cons_succ]
        refine wpAnyH_take (i := 3) (v := .agg (bcs q.1 q.2)) (ata (atS (atS (atS at0)))) (by kernel_rfl) (by kernel_rfl) (by kernel_rfl) (fun _ _ _ h => h) (Or.inl ⟨by rfl, ?_⟩) (by assumption) ?_
        · intro X hX; exact load_buf _ rfl _ _ rfl q (hX.1 i q HQ.out)
        try simp only [Act.put, List.setIfInBounds_toArray, List.set_cons_zero, List.set_cons_succ]
        refine wpAnyH_take (i := 4) (v := ?_) (ata (atS (atS (atS (atS at0))))) (by kernel_rfl) (by kernel_rfl) (by kernel_rfl) (fun _ _ _ h => h) (Or.inl ⟨by rfl, ?_⟩) (by assumption) ?_
        rotate_left
        · (intro w hSw; (try dsimp only at hSw); go_simp; (first | done | with_reducible rfl))
        try simp only [Act.put, List.setIfInBounds_toArray, List.set_cons_zero, List.set_cons_succ]
        refine wpAnyH_take (i := 5) (v := ?_) (ata (atS (atS (atS (atS (atS at0)))))) (by kernel_rfl) (by kernel_rfl) (by kernel_rfl) (fun _ _ _ h => h) (Or.inl ⟨by rfl, ?_⟩) (by assumption) ?_
        rotate_left
        · (intro w hSw; (try dsimp only at hSw); go_simp; (first | done | with_reducible rfl))
        try simp only [Act.put, List.setIfInBounds_toArray, List.set_cons_zero, List.set_cons_succ]
        refine wpAnyH_take (i := 6) (v := ?_) (ata (atS (atS (atS (atS (atS (atS at0))))))) (by kernel_rfl) (by kernel_rfl) (by kernel_rfl) (fun _ _ _ h => h) (Or.inl ⟨by rfl, ?_⟩) (by assumption) ?_
        rotate_left
        · (intro w hSw; (try dsimp only at hSw); go_simp; (first | done | with_reducible rfl))
        try simp only [Act.put, List.setIfInBounds_toArray, List.set_cons_zero, List.set_cons_succ]
        refine wpAnyH_take (i := 7) (v := .agg (bcs r.1 r.2)) (ata (atS (atS (atS (atS (atS (atS (atS at0)))))))) (by kernel_rfl) (by kernel_rfl) (by kernel_rfl) (fun _ _ _ h => h) (Or.inl ⟨by rfl, ?_⟩) (by assumption) ?_
        · intro X hX; exact load_buf _ rfl _ _ rfl r (hX.2 i r HRR.out)
        try simp only [Act.put, List.setIfInBounds_toArray, List.set_cons_zero, List.set_cons_succ]
        refine wpAnyH_ready (rs := [8]) (by kernel_rfl) (by simp) ?_
        refine AllReadyH.cons (ata (atS (atS (atS (atS (atS (atS (atS (atS at0))))))))) (fun K hK => ?_) AllReadyH.nil
        go_simp
        (go_at_call 20; ((with_reducible refine (HON.out _ HDR.out).mono ?_); rintro e w5 ⟨rfl, hb⟩); have A5 := Lib.hid (HDR.out.trans (hb.mono HDR.out.size)); clear hb)
        go_wp2_with fail
        refine hK.out _ _ (by exact HC.out _ A5.out) (fun hHeld => ?_)
        clear hK K
        try simp only [Act.put, List.setIfInBounds_toArray, List.set_cons_zero, List.set_cons_succ]
        refine wpAnyH_take (i := 9) (v := ?_) (ata (atS (atS (atS (atS (atS (atS (atS (atS (atS at0)))))))))) (by kernel_rfl) (by kernel_rfl) (by kernel_rfl) (fun _ _ _ h => h) (Or.inl ⟨by rfl, ?_⟩) (by assumption) ?_
        rotate_left
        · (intro w hSw; (try dsimp only at hSw); go_simp; (first | done | with_reducible rfl))
        try simp only [Act.put, List.setIfInBounds_toArray, List.set_cons_zero, List.set_cons_succ]
        refine wpAnyH_done (by kernel_rfl) ?_ _
        go_wp2
        go_roundw
        case rel => exact ⟨i + 1, by go_num, by omega, HS.out, A5.out⟩
        case measure => simp [intOf]; omega
    · obtain rfl : i = n := by omega
      have HD := Lib.hid (show decide (L.map Prod.fst = M.map Prod.fst) = true from decide_eq_true (HR.out.fin (by rw [List.length_map, HN.out]) (by rw [List.length_map, HM.out])))
      go_wp2
      go_ret
      exact ⟨by rw [HD.out]; rfl, HV.out⟩
end Go.Proofs.YtkjffoebcblpoaaGreat.gn
end
