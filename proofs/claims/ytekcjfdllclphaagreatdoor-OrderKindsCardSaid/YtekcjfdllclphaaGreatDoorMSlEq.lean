/- slices.Equal, of rows of deps, of directives, of texts. (Written by gen_slEq.py.) -/
import Derived.Test.YtekcjfdllclphaaGreatDoorMSlG
import Derived.BigQuiet
import Derived.Test.YtekcjfdllclphaaGreatDoorMSlLi
section
set_option linter.unusedVariables false
set_option linter.unusedSimpArgs false
namespace Go.Proofs.YtekcjfdllclphaaGreatDoor.gn
open Go.RowKit
open Go.Proofs.YtekcjfdllclphaaGreatDoor.un
open Go.Proofs.YtekcjfdllclphaaGreatDoor.di
open Go.Proofs.YtekcjfdllclphaaGreatDoor.sp (Slip)

def pV (d : Dep) : Value := .agg #[.int .i64 d.1, .bool d.2]
theorem dep_dec (d e : Dep) : decide (d = e) = (d.1 == e.1 && d.2 == e.2) := by
  rw [Bool.eq_iff_iff]
  obtain ⟨a, b⟩ := d
  obtain ⟨c, f⟩ := e
  simp
set_option maxRecDepth 100000 in
theorem dep_eqIn (d e : Dep) (W : World) : (Op.equalIn 10000 88 (.agg #[.int .i64 d.1, .bool d.2]) (.agg #[.int .i64 e.1, .bool e.2])).run Tryz.prog W = .ok (decide (d = e)) W := by
  rw [dep_dec, run_equalIn_agg W 9999 88 #[.int .i64 d.1, .bool d.2] #[.int .i64 e.1, .bool e.2] (by kernel_rfl) (by kernel_rfl)]
  unfold Program.fieldsOf
  rw [Tryz.underlying88]
  simp [Op.eqFields, go_sem, Tryz.underlying2, Tryz.underlying4]
  by_cases h1 : d.1 = e.1 <;> by_cases h2 : d.2 = e.2 <;> simp [h1, h2]
theorem dep_ne (d e : Dep) (W : World) : (binOp .neq 88 (.agg #[.int .i64 d.1, .bool d.2]) (.agg #[.int .i64 e.1, .bool e.2])).run Tryz.prog W = .ok (.bool (!decide (d = e))) W := by
  rw [run_neq_struct, dep_eqIn]
  rfl
theorem dep_eq (d e : Dep) (W : World) : (binOp .eql 88 (.agg #[.int .i64 d.1, .bool d.2]) (.agg #[.int .i64 e.1, .bool e.2])).run Tryz.prog W = .ok (.bool (decide (d = e))) W := by
  rw [run_eql_struct, dep_eqIn]
  rfl
/-- Equal as far as k. -/
theorem take_same {α : Type} {l m : List α} {k : Nat} {x y : α} (hx : l[k]? = some x) (hy : m[k]? = some y) (he : x = y) (h : l.take k = m.take k) : l.take (k + 1) = m.take (k + 1) := by
  rw [take_snoc hx, take_snoc hy, h, he]
theorem ne_at {α : Type} {l m : List α} {k : Nat} {x y : α} (hx : l[k]? = some x) (hy : m[k]? = some y) (he : ¬ x = y) : ¬ l = m := fun e => he (by rw [e, hy] at hx; exact (Option.some.inj hx).symm)

set_option maxRecDepth 100000 in
set_option maxHeartbeats 4000000 in
theorem equal_A (l m : List Dep) (v u : Value) (w : World) (h : RdC w v l.length (flA l)) (h' : RdC w u m.length (flA m)) (hm : l.length ≤ maxLen) (hm' : m.length ≤ maxLen) : Calls Tryz.prog 62 #[v, u] w (Told (.bool (decide (l = m))) w) := by
  obtain ⟨p, c, rfl⟩ := h.form
  obtain ⟨p', c', rfl⟩ := h'.form
  have HC := Lib.hid (fun hk : 0 < l.length => h.at_ (size := 2) rfl hk)
  have HC' := Lib.hid (fun hk : 0 < m.length => h'.at_ (size := 2) rfl hk)
  by_cases hlen : l.length = m.length
  · obtain ⟨n, hn⟩ : ∃ n, l.length = n := ⟨_, rfl⟩
    have hn' : m.length = n := hlen ▸ hn
    rw [hn] at hm HC ⊢
    rw [hn'] at HC' ⊢
    have HN := Lib.hid hn
    have HN' := Lib.hid hn'
    have hm2 : n ≤ 9223372036854775807 := by unfold maxLen at hm; omega
    clear h h' hn hn' hm hm' hlen
    go_enter Tryz.func62, Tryz.ntmps62
    go_wp2
    go_loopw [13] (fun s13 wr => ∃ k : Nat, s13 = .int .i64 k ∧ k ≤ n ∧ Aside (l.take k = m.take k) ∧ Aside (Below w.heap.size w wr)) (fun s13 _ => n - (intOf s13).toNat)
    case atStart => exact ⟨0, rfl, Nat.zero_le _, by show l.take 0 = m.take 0; simp, Below.refl _ _⟩
    case round =>
      obtain ⟨k, rfl, hk, hnx, hb⟩ := hrel
      have HX := Lib.hid (show l.take k = m.take k from hnx)
      have hb : Below w.heap.size w wr := hb
      have HB := Lib.hid hb
      clear hnx
      by_cases hkn : k < n
      · obtain ⟨b, off, rfl, hbl, hc⟩ := HC.out (by omega)
        obtain ⟨b', off', rfl, hbl', hc'⟩ := HC'.out (by omega)
        obtain ⟨x, hx⟩ : ∃ x, l[k]? = some x := ⟨_, List.getElem?_eq_getElem (by rw [HN.out]; exact hkn)⟩
        obtain ⟨y, hy⟩ : ∃ y, m[k]? = some y := ⟨_, List.getElem?_eq_getElem (by rw [HN'.out]; exact hkn)⟩
        have c0 : wr.cell? ⟨b, off + k * 2, none⟩ = some (.int .i64 x.1) := by
          have := (Below.cell hb (p := ⟨b, off + (k * 2 + 0), none⟩) hbl).trans (hc.elt (f := cA) (k := 2) (fun _ => rfl) (j := 0) hx (by decide) rfl)
          first | exact this | (rw [← Nat.add_assoc] at this; exact this) | (rw [Nat.mul_one, Nat.add_zero] at this; exact this)
        have c1 : wr.cell? ⟨b, off + k * 2 + 1, none⟩ = some (.bool x.2) := by
          have := (Below.cell hb (p := ⟨b, off + (k * 2 + 1), none⟩) hbl).trans (hc.elt (f := cA) (k := 2) (fun _ => rfl) (j := 1) hx (by decide) rfl)
          first | exact this | (rw [← Nat.add_assoc] at this; exact this) | (rw [Nat.mul_one, Nat.add_zero] at this; exact this)
        have d0 : wr.cell? ⟨b', off' + k * 2, none⟩ = some (.int .i64 y.1) := by
          have := (Below.cell hb (p := ⟨b', off' + (k * 2 + 0), none⟩) hbl').trans (hc'.elt (f := cA) (k := 2) (fun _ => rfl) (j := 0) hy (by decide) rfl)
          first | exact this | (rw [← Nat.add_assoc] at this; exact this) | (rw [Nat.mul_one, Nat.add_zero] at this; exact this)
        have d1 : wr.cell? ⟨b', off' + k * 2 + 1, none⟩ = some (.bool y.2) := by
          have := (Below.cell hb (p := ⟨b', off' + (k * 2 + 1), none⟩) hbl').trans (hc'.elt (f := cA) (k := 2) (fun _ => rfl) (j := 1) hy (by decide) rfl)
          first | exact this | (rw [← Nat.add_assoc] at this; exact this) | (rw [Nat.mul_one, Nat.add_zero] at this; exact this)
        have HY := Lib.hid (And.intro hx hy)
        have hbw : b < wr.heap.size := Nat.lt_of_lt_of_le hbl hb.size
        have hbw' : b' < wr.heap.size := Nat.lt_of_lt_of_le hbl' hb.size
        clear hc hc' hx hy hbl hbl' hb
        by_cases he : x = y
        · have HM := Lib.hid (take_same HY.out.1 HY.out.2 he HX.out)
          have q1 : ∀ W, (binOp .neq 88 (.agg #[.int .i64 x.1, .bool x.2]) (.agg #[.int .i64 y.1, .bool y.2])).run Tryz.prog W = .ok (.bool false) W := fun W => by rw [dep_ne, decide_eq_true he]; rfl
          clear he
          go_wp2_with (go_quiet (fail))
          go_roundw
          case rel => exact ⟨k + 1, by go_num, by omega, HM.out, HB.out.trans (Joins.below_draws _ _ _)⟩
          case measure => simp [intOf]; omega
        · have HM := Lib.hid (ne_at HY.out.1 HY.out.2 he)
          have q1 : ∀ W, (binOp .neq 88 (.agg #[.int .i64 x.1, .bool x.2]) (.agg #[.int .i64 y.1, .bool y.2])).run Tryz.prog W = .ok (.bool true) W := fun W => by rw [dep_ne, decide_eq_false he]; rfl
          clear he
          go_wp2_with (go_quiet (fail))
          go_ret
          exact ⟨by rw [decide_eq_false HM.out]; rfl, HB.out.trans (Joins.below_draws _ _ _)⟩
      · obtain rfl : k = n := by omega
        have hfin : l = m := by
          have := HX.out
          rwa [List.take_of_length_le (by rw [HN.out]; exact Nat.le_refl _), List.take_of_length_le (by rw [HN'.out]; exact Nat.le_refl _)] at this
        have HF := Lib.hid hfin
        clear hfin hb
        go_wp2
        go_ret
        exact ⟨by rw [decide_eq_true HF.out]; rfl, HB.out⟩
  · have HF := Lib.hid (show ¬ l = m from fun e => hlen (by rw [e]))
    have hne : ¬ ((l.length : Nat) : Int) = ((m.length : Nat) : Int) := by omega
    have hnb : (((l.length : Nat) : Int) == ((m.length : Nat) : Int)) = false := by rw [beq_eq_false_iff_ne]; exact hne
    clear h h' hlen
    generalize l.length = n1 at *
    generalize m.length = n2 at *
    go_enter Tryz.func62, Tryz.ntmps62
    go_wp2
    go_ret
    exact ⟨by rw [decide_eq_false HF.out]; rfl, Below.refl _ _⟩

set_option maxRecDepth 100000 in
set_option maxHeartbeats 4000000 in
theorem equal_M (l m : List Dir) (v u : Value) (w : World) (h : RdC w v l.length (flM l)) (h' : RdC w u m.length (flM m)) (hm : l.length ≤ maxLen) (hm' : m.length ≤ maxLen) : Calls Tryz.prog 63 #[v, u] w (Told (.bool (decide (l = m))) w) := by
  obtain ⟨p, c, rfl⟩ := h.form
  obtain ⟨p', c', rfl⟩ := h'.form
  have HC := Lib.hid (fun hk : 0 < l.length => h.at_ (size := 5) rfl hk)
  have HC' := Lib.hid (fun hk : 0 < m.length => h'.at_ (size := 5) rfl hk)
  by_cases hlen : l.length = m.length
  · obtain ⟨n, hn⟩ : ∃ n, l.length = n := ⟨_, rfl⟩
    have hn' : m.length = n := hlen ▸ hn
    rw [hn] at hm HC ⊢
    rw [hn'] at HC' ⊢
    have HN := Lib.hid hn
    have HN' := Lib.hid hn'
    have hm2 : n ≤ 9223372036854775807 := by unfold maxLen at hm; omega
    clear h h' hn hn' hm hm' hlen
    go_enter Tryz.func63, Tryz.ntmps63
    go_wp2
    go_loopw [13] (fun s13 wr => ∃ k : Nat, s13 = .int .i64 k ∧ k ≤ n ∧ Aside (l.take k = m.take k) ∧ Aside (Below w.heap.size w wr)) (fun s13 _ => n - (intOf s13).toNat)
    case atStart => exact ⟨0, rfl, Nat.zero_le _, by show l.take 0 = m.take 0; simp, Below.refl _ _⟩
    case round =>
      obtain ⟨k, rfl, hk, hnx, hb⟩ := hrel
      have HX := Lib.hid (show l.take k = m.take k from hnx)
      have hb : Below w.heap.size w wr := hb
      have HB := Lib.hid hb
      clear hnx
      by_cases hkn : k < n
      · obtain ⟨b, off, rfl, hbl, hc⟩ := HC.out (by omega)
        obtain ⟨b', off', rfl, hbl', hc'⟩ := HC'.out (by omega)
        obtain ⟨x, hx⟩ : ∃ x, l[k]? = some x := ⟨_, List.getElem?_eq_getElem (by rw [HN.out]; exact hkn)⟩
        obtain ⟨y, hy⟩ : ∃ y, m[k]? = some y := ⟨_, List.getElem?_eq_getElem (by rw [HN'.out]; exact hkn)⟩
        have c0 : wr.cell? ⟨b, off + k * 5, none⟩ = some (.int .u8 (x.kind : Nat)) := by
          have := (Below.cell hb (p := ⟨b, off + (k * 5 + 0), none⟩) hbl).trans (hc.elt (f := cM) (k := 5) (fun _ => rfl) (j := 0) hx (by decide) rfl)
          first | exact this | (rw [← Nat.add_assoc] at this; exact this) | (rw [Nat.mul_one, Nat.add_zero] at this; exact this)
        have c1 : wr.cell? ⟨b, off + k * 5 + 1, none⟩ = some (.string (str x.name)) := by
          have := (Below.cell hb (p := ⟨b, off + (k * 5 + 1), none⟩) hbl).trans (hc.elt (f := cM) (k := 5) (fun _ => rfl) (j := 1) hx (by decide) rfl)
          first | exact this | (rw [← Nat.add_assoc] at this; exact this) | (rw [Nat.mul_one, Nat.add_zero] at this; exact this)
        have c2 : wr.cell? ⟨b, off + k * 5 + 2, none⟩ = some (.string (str x.pool)) := by
          have := (Below.cell hb (p := ⟨b, off + (k * 5 + 2), none⟩) hbl).trans (hc.elt (f := cM) (k := 5) (fun _ => rfl) (j := 2) hx (by decide) rfl)
          first | exact this | (rw [← Nat.add_assoc] at this; exact this) | (rw [Nat.mul_one, Nat.add_zero] at this; exact this)
        have c3 : wr.cell? ⟨b, off + k * 5 + 3, none⟩ = some (.int .i64 x.size) := by
          have := (Below.cell hb (p := ⟨b, off + (k * 5 + 3), none⟩) hbl).trans (hc.elt (f := cM) (k := 5) (fun _ => rfl) (j := 3) hx (by decide) rfl)
          first | exact this | (rw [← Nat.add_assoc] at this; exact this) | (rw [Nat.mul_one, Nat.add_zero] at this; exact this)
        have c4 : wr.cell? ⟨b, off + k * 5 + 4, none⟩ = some (.bool x.opn) := by
          have := (Below.cell hb (p := ⟨b, off + (k * 5 + 4), none⟩) hbl).trans (hc.elt (f := cM) (k := 5) (fun _ => rfl) (j := 4) hx (by decide) rfl)
          first | exact this | (rw [← Nat.add_assoc] at this; exact this) | (rw [Nat.mul_one, Nat.add_zero] at this; exact this)
        have d0 : wr.cell? ⟨b', off' + k * 5, none⟩ = some (.int .u8 (y.kind : Nat)) := by
          have := (Below.cell hb (p := ⟨b', off' + (k * 5 + 0), none⟩) hbl').trans (hc'.elt (f := cM) (k := 5) (fun _ => rfl) (j := 0) hy (by decide) rfl)
          first | exact this | (rw [← Nat.add_assoc] at this; exact this) | (rw [Nat.mul_one, Nat.add_zero] at this; exact this)
        have d1 : wr.cell? ⟨b', off' + k * 5 + 1, none⟩ = some (.string (str y.name)) := by
          have := (Below.cell hb (p := ⟨b', off' + (k * 5 + 1), none⟩) hbl').trans (hc'.elt (f := cM) (k := 5) (fun _ => rfl) (j := 1) hy (by decide) rfl)
          first | exact this | (rw [← Nat.add_assoc] at this; exact this) | (rw [Nat.mul_one, Nat.add_zero] at this; exact this)
        have d2 : wr.cell? ⟨b', off' + k * 5 + 2, none⟩ = some (.string (str y.pool)) := by
          have := (Below.cell hb (p := ⟨b', off' + (k * 5 + 2), none⟩) hbl').trans (hc'.elt (f := cM) (k := 5) (fun _ => rfl) (j := 2) hy (by decide) rfl)
          first | exact this | (rw [← Nat.add_assoc] at this; exact this) | (rw [Nat.mul_one, Nat.add_zero] at this; exact this)
        have d3 : wr.cell? ⟨b', off' + k * 5 + 3, none⟩ = some (.int .i64 y.size) := by
          have := (Below.cell hb (p := ⟨b', off' + (k * 5 + 3), none⟩) hbl').trans (hc'.elt (f := cM) (k := 5) (fun _ => rfl) (j := 3) hy (by decide) rfl)
          first | exact this | (rw [← Nat.add_assoc] at this; exact this) | (rw [Nat.mul_one, Nat.add_zero] at this; exact this)
        have d4 : wr.cell? ⟨b', off' + k * 5 + 4, none⟩ = some (.bool y.opn) := by
          have := (Below.cell hb (p := ⟨b', off' + (k * 5 + 4), none⟩) hbl').trans (hc'.elt (f := cM) (k := 5) (fun _ => rfl) (j := 4) hy (by decide) rfl)
          first | exact this | (rw [← Nat.add_assoc] at this; exact this) | (rw [Nat.mul_one, Nat.add_zero] at this; exact this)
        have HY := Lib.hid (And.intro hx hy)
        have hbw : b < wr.heap.size := Nat.lt_of_lt_of_le hbl hb.size
        have hbw' : b' < wr.heap.size := Nat.lt_of_lt_of_le hbl' hb.size
        clear hc hc' hx hy hbl hbl' hb
        by_cases he : x = y
        · have HM := Lib.hid (take_same HY.out.1 HY.out.2 he HX.out)
          have q1 : ∀ W, (binOp .neq 80 (.agg #[.int .u8 (x.kind : Nat), .string (str x.name), .string (str x.pool), .int .i64 x.size, .bool x.opn]) (.agg #[.int .u8 (y.kind : Nat), .string (str y.name), .string (str y.pool), .int .i64 y.size, .bool y.opn])).run Tryz.prog W = .ok (.bool false) W := fun W => (dir_ne x y W).trans (by rw [decide_eq_true he]; rfl)
          clear he
          go_wp2_with (go_quiet (fail))
          go_roundw
          case rel => exact ⟨k + 1, by go_num, by omega, HM.out, HB.out.trans (Joins.below_draws _ _ _)⟩
          case measure => simp [intOf]; omega
        · have HM := Lib.hid (ne_at HY.out.1 HY.out.2 he)
          have q1 : ∀ W, (binOp .neq 80 (.agg #[.int .u8 (x.kind : Nat), .string (str x.name), .string (str x.pool), .int .i64 x.size, .bool x.opn]) (.agg #[.int .u8 (y.kind : Nat), .string (str y.name), .string (str y.pool), .int .i64 y.size, .bool y.opn])).run Tryz.prog W = .ok (.bool true) W := fun W => (dir_ne x y W).trans (by rw [decide_eq_false he]; rfl)
          clear he
          go_wp2_with (go_quiet (fail))
          go_ret
          exact ⟨by rw [decide_eq_false HM.out]; rfl, HB.out.trans (Joins.below_draws _ _ _)⟩
      · obtain rfl : k = n := by omega
        have hfin : l = m := by
          have := HX.out
          rwa [List.take_of_length_le (by rw [HN.out]; exact Nat.le_refl _), List.take_of_length_le (by rw [HN'.out]; exact Nat.le_refl _)] at this
        have HF := Lib.hid hfin
        clear hfin hb
        go_wp2
        go_ret
        exact ⟨by rw [decide_eq_true HF.out]; rfl, HB.out⟩
  · have HF := Lib.hid (show ¬ l = m from fun e => hlen (by rw [e]))
    have hne : ¬ ((l.length : Nat) : Int) = ((m.length : Nat) : Int) := by omega
    have hnb : (((l.length : Nat) : Int) == ((m.length : Nat) : Int)) = false := by rw [beq_eq_false_iff_ne]; exact hne
    clear h h' hlen
    generalize l.length = n1 at *
    generalize m.length = n2 at *
    go_enter Tryz.func63, Tryz.ntmps63
    go_wp2
    go_ret
    exact ⟨by rw [decide_eq_false HF.out]; rfl, Below.refl _ _⟩

set_option maxRecDepth 100000 in
set_option maxHeartbeats 4000000 in
theorem equal_S (l m : List Tx) (v u : Value) (w : World) (h : RdC w v l.length (flS l)) (h' : RdC w u m.length (flS m)) (hm : l.length ≤ maxLen) (hm' : m.length ≤ maxLen) : Calls Tryz.prog 64 #[v, u] w (Told (.bool (decide (l = m))) w) := by
  obtain ⟨p, c, rfl⟩ := h.form
  obtain ⟨p', c', rfl⟩ := h'.form
  have HC := Lib.hid (fun hk : 0 < l.length => h.at_ (size := 1) rfl hk)
  have HC' := Lib.hid (fun hk : 0 < m.length => h'.at_ (size := 1) rfl hk)
  by_cases hlen : l.length = m.length
  · obtain ⟨n, hn⟩ : ∃ n, l.length = n := ⟨_, rfl⟩
    have hn' : m.length = n := hlen ▸ hn
    rw [hn] at hm HC ⊢
    rw [hn'] at HC' ⊢
    have HN := Lib.hid hn
    have HN' := Lib.hid hn'
    have hm2 : n ≤ 9223372036854775807 := by unfold maxLen at hm; omega
    clear h h' hn hn' hm hm' hlen
    go_enter Tryz.func64, Tryz.ntmps64
    go_wp2
    go_loopw [13] (fun s13 wr => ∃ k : Nat, s13 = .int .i64 k ∧ k ≤ n ∧ Aside (l.take k = m.take k) ∧ Aside (Below w.heap.size w wr)) (fun s13 _ => n - (intOf s13).toNat)
    case atStart => exact ⟨0, rfl, Nat.zero_le _, by show l.take 0 = m.take 0; simp, Below.refl _ _⟩
    case round =>
      obtain ⟨k, rfl, hk, hnx, hb⟩ := hrel
      have HX := Lib.hid (show l.take k = m.take k from hnx)
      have hb : Below w.heap.size w wr := hb
      have HB := Lib.hid hb
      clear hnx
      by_cases hkn : k < n
      · obtain ⟨b, off, rfl, hbl, hc⟩ := HC.out (by omega)
        obtain ⟨b', off', rfl, hbl', hc'⟩ := HC'.out (by omega)
        obtain ⟨x, hx⟩ : ∃ x, l[k]? = some x := ⟨_, List.getElem?_eq_getElem (by rw [HN.out]; exact hkn)⟩
        obtain ⟨y, hy⟩ : ∃ y, m[k]? = some y := ⟨_, List.getElem?_eq_getElem (by rw [HN'.out]; exact hkn)⟩
        have c0 : wr.cell? ⟨b, off + k, none⟩ = some (.string (str x)) := by
          have := (Below.cell hb (p := ⟨b, off + (k * 1 + 0), none⟩) hbl).trans (hc.elt (f := cS) (k := 1) (fun _ => rfl) (j := 0) hx (by decide) rfl)
          first | exact this | (rw [← Nat.add_assoc] at this; exact this) | (rw [Nat.mul_one, Nat.add_zero] at this; exact this)
        have d0 : wr.cell? ⟨b', off' + k, none⟩ = some (.string (str y)) := by
          have := (Below.cell hb (p := ⟨b', off' + (k * 1 + 0), none⟩) hbl').trans (hc'.elt (f := cS) (k := 1) (fun _ => rfl) (j := 0) hy (by decide) rfl)
          first | exact this | (rw [← Nat.add_assoc] at this; exact this) | (rw [Nat.mul_one, Nat.add_zero] at this; exact this)
        have HY := Lib.hid (And.intro hx hy)
        have hbw : b < wr.heap.size := Nat.lt_of_lt_of_le hbl hb.size
        have hbw' : b' < wr.heap.size := Nat.lt_of_lt_of_le hbl' hb.size
        clear hc hc' hx hy hbl hbl' hb
        by_cases he : x = y
        · have HM := Lib.hid (take_same HY.out.1 HY.out.2 he HX.out)
          obtain ⟨q1, q2⟩ := (⟨by rw [eq_str]; exact decide_eq_true he, by rw [he]⟩ : ((str x).toList == (str y).toList) = true ∧ (str x).toList = (str y).toList)
          clear he
          go_wp2_with (go_quiet (fail))
          go_roundw
          case rel => exact ⟨k + 1, by go_num, by omega, HM.out, HB.out.trans (Joins.below_draws _ _ _)⟩
          case measure => simp [intOf]; omega
        · have HM := Lib.hid (ne_at HY.out.1 HY.out.2 he)
          obtain ⟨q1, q2⟩ := (⟨by rw [eq_str]; exact decide_eq_false he, fun h => he (by rw [str_toList, str_toList] at h; exact h)⟩ : ((str x).toList == (str y).toList) = false ∧ ¬ (str x).toList = (str y).toList)
          clear he
          go_wp2_with (go_quiet (fail))
          go_ret
          exact ⟨by rw [decide_eq_false HM.out]; rfl, HB.out.trans (Joins.below_draws _ _ _)⟩
      · obtain rfl : k = n := by omega
        have hfin : l = m := by
          have := HX.out
          rwa [List.take_of_length_le (by rw [HN.out]; exact Nat.le_refl _), List.take_of_length_le (by rw [HN'.out]; exact Nat.le_refl _)] at this
        have HF := Lib.hid hfin
        clear hfin hb
        go_wp2
        go_ret
        exact ⟨by rw [decide_eq_true HF.out]; rfl, HB.out⟩
  · have HF := Lib.hid (show ¬ l = m from fun e => hlen (by rw [e]))
    have hne : ¬ ((l.length : Nat) : Int) = ((m.length : Nat) : Int) := by omega
    have hnb : (((l.length : Nat) : Int) == ((m.length : Nat) : Int)) = false := by rw [beq_eq_false_iff_ne]; exact hne
    clear h h' hlen
    generalize l.length = n1 at *
    generalize m.length = n2 at *
    go_enter Tryz.func64, Tryz.ntmps64
    go_wp2
    go_ret
    exact ⟨by rw [decide_eq_false HF.out]; rfl, Below.refl _ _⟩
end Go.Proofs.YtekcjfdllclphaaGreatDoor.gn
end
section
set_option linter.unusedVariables false
namespace Go.Proofs.YtekcjfdllclphaaGreatDoor.sp
open Go.Proofs.YtekcjfdllclphaaGreatDoor.un
open Go.Proofs.YtekcjfdllclphaaGreatDoor.di

/-- Bounds of what is read. -/
structure Sm (x : Slip) : Prop where
  user : x.user.length ≤ 20000
  pool : x.pool.length ≤ 20000
  nodes : 0 ≤ x.nodes ∧ x.nodes ≤ 1099511627776
  wall : 0 ≤ x.wall ∧ x.wall ≤ 1099511627776
  qos : 0 ≤ x.qos ∧ x.qos ≤ 1099511627776
  cap : 0 ≤ x.cap ∧ x.cap ≤ 1099511627776
  inn : 0 ≤ x.inn ∧ x.inn ≤ 1099511627776
  out : 0 ≤ x.out ∧ x.out ≤ 1099511627776
  after : ∀ d ∈ x.after, 0 ≤ d.1 ∧ d.1 ≤ 1099511627776
  make : ∀ d ∈ x.make, chk d = true
  drop : ∀ n ∈ x.drop, n.length ≤ 20000
  use : ∀ n ∈ x.use, n.length ≤ 20000
theorem sm_zero : Sm Slip.zero := by
  refine ⟨by decide, by decide, ⟨by decide, by decide⟩, ⟨by decide, by decide⟩, ⟨by decide, by decide⟩, ⟨by decide, by decide⟩, ⟨by decide, by decide⟩, ⟨by decide, by decide⟩, fun d hd => ?_, fun d hd => ?_, fun d hd => ?_, fun d hd => ?_⟩ <;> cases hd
theorem within_le {v : Tx} {a b n : Nat} (h : within? v a b = some n) : a ≤ n ∧ n ≤ b := by
  unfold within? at h
  cases hn : num? v with
  | none => rw [hn] at h; cases h
  | some m =>
    rw [hn] at h
    dsimp only at h
    split at h
    · next h2 => cases h; exact h2
    · cases h
theorem dep_le {p : Tx} {d : Int × Bool} (h : dep? p = some d) : 0 ≤ d.1 ∧ d.1 ≤ 1099511627776 := by
  unfold dep? at h
  cases hc : cutB 58 p with
  | none => rw [hc] at h; cases h
  | some f =>
    rw [hc] at h
    dsimp only at h
    cases hw : within? f.2 1 1073741824 with
    | none => rw [hw] at h; cases h
    | some n =>
      rw [hw] at h
      dsimp only at h
      have := within_le hw
      split at h
      · cases h; dsimp only; omega
      · cases h
theorem deps_le : ∀ (L : List Tx) (l : List (Int × Bool)), L.mapM dep? = some l → ∀ d ∈ l, 0 ≤ d.1 ∧ d.1 ≤ 1099511627776
  | [], l, h, d, hd => by simp at h; subst h; cases hd
  | p :: L, l, h, d, hd => by
    rw [List.mapM_cons] at h
    cases hp : dep? p with
    | none => rw [hp] at h; cases h
    | some e =>
      rw [hp] at h
      cases hr : L.mapM dep? with
      | none => rw [hr] at h; cases h
      | some r =>
        rw [hr] at h
        simp at h
        subst h
        rcases List.mem_cons.1 hd with rfl | hd
        · exact dep_le hp
        · exact deps_le L r hr d hd
theorem fput_sm {x y : Slip} {f : Fl} (hf : f.2.length ≤ 20000) (h : fput x f = some y) (hx : Sm x) : Sm y := by
  unfold fput at h
  split at h
  · cases h; exact ⟨hf, hx.pool, hx.nodes, hx.wall, hx.qos, hx.cap, hx.inn, hx.out, hx.after, hx.make, hx.drop, hx.use⟩
  split at h
  · cases hw : within? f.2 1 64 with
    | none => rw [hw] at h; cases h
    | some n =>
    rw [hw] at h
    cases h
    have := within_le hw
    exact ⟨hx.user, hx.pool, by dsimp only; omega, hx.wall, hx.qos, hx.cap, hx.inn, hx.out, hx.after, hx.make, hx.drop, hx.use⟩
  split at h
  · cases hw : within? f.2 1 1048576 with
    | none => rw [hw] at h; cases h
    | some n =>
    rw [hw] at h
    cases h
    have := within_le hw
    exact ⟨hx.user, hx.pool, hx.nodes, by dsimp only; omega, hx.qos, hx.cap, hx.inn, hx.out, hx.after, hx.make, hx.drop, hx.use⟩
  split at h
  · cases hw : within? f.2 0 9 with
    | none => rw [hw] at h; cases h
    | some n =>
    rw [hw] at h
    cases h
    have := within_le hw
    exact ⟨hx.user, hx.pool, hx.nodes, hx.wall, by dsimp only; omega, hx.cap, hx.inn, hx.out, hx.after, hx.make, hx.drop, hx.use⟩
  split at h
  · obtain ⟨l, hl, rfl⟩ := Option.map_eq_some_iff.1 h
    exact ⟨hx.user, hx.pool, hx.nodes, hx.wall, hx.qos, hx.cap, hx.inn, hx.out, deps_le _ _ hl, hx.make, hx.drop, hx.use⟩
  · cases h
theorem cut_len {w : Tx} {f : Fl} (h : cut w = some f) : f.2.length ≤ w.length := by
  rw [cut_B] at h
  have := fldB_len 61 w
  unfold fldB at this
  rw [h] at this
  exact this.2
theorem frun_sm : ∀ (ws : List Tx) (a st : Slip × List Tx), (∀ w ∈ ws, w.length ≤ 20000) → frun a ws = some st → Sm a.1 → Sm st.1
  | [], a, st, _, h, hx => by unfold frun at h; cases h; exact hx
  | w :: r, a, st, hw, h, hx => by
    unfold frun at h
    cases hcut : cut w with
    | none => rw [hcut] at h; cases h
    | some f =>
      rw [hcut] at h
      dsimp only at h
      split at h
      · cases h
      · cases hp : fput a.1 f with
        | none => rw [hp] at h; cases h
        | some y =>
          rw [hp] at h
          exact frun_sm r _ st (fun z hz => hw z (by simp [hz])) h (fput_sm (Nat.le_trans (cut_len hcut) (hw w (by simp))) hp hx)
theorem first_sm {l : Tx} {x : Slip} (hl : l.length ≤ 20000) (hf : first? l = some x) : Sm x := by
  have hm := cuts_mem_len 32 l
  unfold first? at hf
  cases hw : cuts 32 l with
  | nil => rw [hw] at hf; cases hf
  | cons j ws =>
    rw [hw] at hf hm
    dsimp only at hf
    split at hf
    · cases hr : frun (Slip.zero, []) ws with
      | none => rw [hr] at hf; cases hf
      | some st =>
        rw [hr] at hf
        dsimp only at hf
        have := frun_sm ws _ st (fun w hw => Nat.le_trans (hm w (by simp [hw])) hl) hr sm_zero
        split at hf
        · cases hf; exact this
        · cases hf
    · cases hf
theorem chk_name {d : Dir} (h : chk d = true) : d.name.length ≤ 32 ∧ d.pool.length ≤ 32 ∧ (0 ≤ d.size ∧ d.size ≤ 1099511627776) ∧ d.kind ≤ 6 := by
  obtain ⟨c0, c1, cz, c2, c3, c4, c5, c6⟩ := (chk_iff d).1 h
  refine ⟨?_, ?_, cz, c0.2⟩
  · rcases c3 with e | e
    · exact name_len (c2.1 e)
    · rw [e]; decide
  · rcases c5 with e | e
    · exact name_len (c4.1 e)
    · rw [e]; decide
theorem pput_sm {x y : Slip} {d : Dir} (hd : chk d = true) (h : pput x d = some y) (hx : Sm x) : Sm y := by
  obtain ⟨n1, n2, n3, n4⟩ := chk_name hd
  unfold pput at h
  split at h
  · split at h
    · cases h; exact ⟨hx.user, by dsimp only; omega, hx.nodes, hx.wall, hx.qos, n3, hx.inn, hx.out, hx.after, hx.make, hx.drop, hx.use⟩
    · cases h
  split at h
  · split at h
    · cases h; exact ⟨hx.user, hx.pool, hx.nodes, hx.wall, hx.qos, hx.cap, n3, hx.out, hx.after, hx.make, hx.drop, hx.use⟩
    · cases h
  split at h
  · split at h
    · cases h; exact ⟨hx.user, hx.pool, hx.nodes, hx.wall, hx.qos, hx.cap, hx.inn, n3, hx.after, hx.make, hx.drop, hx.use⟩
    · cases h
  · next h1 h2 h3 =>
    cases h
    unfold put
    rw [if_neg h1, if_neg h2, if_neg h3]
    split
    · exact ⟨hx.user, hx.pool, hx.nodes, hx.wall, hx.qos, hx.cap, hx.inn, hx.out, hx.after, fun e he => by
        rcases List.mem_append.1 he with he | he
        · exact hx.make e he
        · simp at he; subst he; exact hd, hx.drop, hx.use⟩
    split
    · exact ⟨hx.user, hx.pool, hx.nodes, hx.wall, hx.qos, hx.cap, hx.inn, hx.out, hx.after, hx.make, fun e he => by
        rcases List.mem_append.1 he with he | he
        · exact hx.drop e he
        · simp at he; subst he; omega, hx.use⟩
    split
    · exact ⟨hx.user, hx.pool, hx.nodes, hx.wall, hx.qos, hx.cap, hx.inn, hx.out, hx.after, hx.make, hx.drop, fun e he => by
        rcases List.mem_append.1 he with he | he
        · exact hx.use e he
        · simp at he; subst he; omega⟩
    · exact hx
theorem pline_sm {x y : Slip} {i : Nat} {l : Tx} (hl : l.length ≤ 20000) (h : pline x i l = .ok y) (hx : Sm x) : Sm y := by
  unfold pline at h
  split at h
  · cases hf : first? l with
    | none => rw [hf] at h; cases h
    | some z => rw [hf] at h; cases h; exact first_sm hl hf
  split at h
  · split at h
    · cases h
    · next he =>
      cases hp : pput x (ldir l) with
      | none => rw [hp] at h; cases h
      | some z =>
        rw [hp] at h
        cases h
        exact pput_sm (ldir_chk (Decidable.not_not.1 he)) hp hx
  · cases h; exact hx
theorem pread_sm : ∀ (L : List Tx) (x y : Slip) (i : Nat), (∀ l ∈ L, l.length ≤ 20000) → pread x i L = .ok y → Sm x → Sm y
  | [], x, y, i, _, h, hx => by unfold pread at h; cases h; exact hx
  | l :: L, x, y, i, hL, h, hx => by
    rw [pread] at h
    cases hp : pline x i l with
    | error e => rw [hp] at h; cases h
    | ok z =>
      rw [hp] at h
      exact pread_sm L z y (i + 1) (fun m hm => hL m (by simp [hm])) h (pline_sm (hL l (by simp)) hp hx)
end Go.Proofs.YtekcjfdllclphaaGreatDoor.sp
namespace Go.Proofs.YtekcjfdllclphaaGreatDoor.gn
open Go.Proofs.YtekcjfdllclphaaGreatDoor.di
open Go.Proofs.YtekcjfdllclphaaGreatDoor.sp (Slip Sm chk_name)
theorem sw_sm {x : Slip} (h : Sm x) : SW x :=
  ⟨by have := h.user; omega, by have := h.pool; omega, by have := h.nodes; omega, by have := h.wall; omega, by have := h.qos; omega, by have := h.cap; omega, by have := h.inn; omega, by have := h.out; omega,
    fun d hd => by have := h.after d hd; omega, fun d hd => by
      obtain ⟨a, b, c, e⟩ := chk_name (h.make d hd)
      exact ⟨by omega, by omega, by omega, by omega, by omega⟩, fun n hn => by have := h.drop n hn; omega, fun n hn => by have := h.use n hn; omega⟩
end Go.Proofs.YtekcjfdllclphaaGreatDoor.gn
end
