/- Meet, Give: the contracts. -/
import Derived.Test.YtdjpnlkhdilakaaExI
set_option linter.unusedVariables false
set_option maxRecDepth 100000
namespace Go.Proofs.Ytdjpnlkhdilakaa.gn
open Go.RowKit Go.Shelf Go.Sort Go.Lib
open Go.Proofs.Ytdjpnlkhdilakaa.ex

attribute [local go_sem] Oper.semAt_some

/-- The row of two slices that a call of Concat is given. -/
abbrev boxV (va vb : Value) : Obj := .cells #[va, vb] 22
theorem concat_new {w : World} {va vb : Value} {a b : List X} (ha : Rd w va a) (hb : Rd w vb b) (hl : a.length + b.length ≤ 4000) :
    Calls Try.prog 33 #[.slice (some ⟨w.heap.size, 0, none⟩) 2 2] (w.alloc (boxV va vb)) fun e w' => ∃ v', e = .returned v' ∧ OwnX w.heap.size w' v' (a ++ b) ∧ RowKit.Below w.heap.size w w' := by
  have hb1 : RowKit.Below w.heap.size w (w.alloc (boxV va vb)) := (Below.refl _ w).alloc (Nat.le_refl _) _
  have k := Box2.new w 22 va vb
  refine (concat_any (by simp) k.cell0 k.cell1 (ha.next hb1) (hb.next hb1) (by omega)).mono ?_
  rintro e w' ⟨v', rfl, h1, h2⟩
  exact ⟨v', rfl, h1.mono (by simp), hb1.trans (h2.mono (by simp))⟩

theorem Meet_any {w : World} {va vb : Value} {a b : List X} (ha : Rd w va a) (hb : Rd w vb b) (hfa : Fine a) (hfb : Fine b) : Calls Try.prog 13 #[va, vb] w (TellsB (!decide (Apart (a ++ b))) w) := by
  have hla := hfa.1
  have hlb := hfb.1
  have c1 := check_any ha hla
  have C2 := Lib.hid fun (W : World) (h : RowKit.Below w.heap.size w W) => check_any (hb.next h) hlb
  rw [chk_fine hfa] at c1
  rw [chk_fine hfb] at C2
  have C3 := Lib.hid fun (W : World) (h : RowKit.Below w.heap.size w W) => concat_new (ha.next h) (hb.next h) (by omega)
  have C4 := Lib.hid fun (W : World) (v : Value) (h : OwnX w.heap.size W v (a ++ b)) => apart_any h.rd (by simp; omega) (ok_append.2 ⟨hfa.2.1, hfb.2.1⟩)
  generalize decide (Apart (a ++ b)) = r at *
  obtain ⟨p1, q1, rfl⟩ := ha.len
  obtain ⟨p2, q2, rfl⟩ := hb.len
  clear ha hb hfa hfb hla hlb
  go_enter Try.func13, Try.ntmps13
  go_wp2_with (first
    | (go_at_call 26; refine c1.mono ?_; rintro e w1 ⟨rfl, hb1⟩; clear c1; have c1 := C2.out w1 hb1; have hw := hb1; have HB1 := Lib.hid hb1; clear hb1)
    | (go_at_call 26; refine c1.mono ?_; rintro e w2 ⟨rfl, hb2⟩; clear c1; have hbx := HB1.out.trans (hb2.mono HB1.out.size); clear hb2; have c3 := C3.out w2 hbx; have HB2 := Lib.hid hbx; clear hbx)
    | (go_at_call 33; refine c3.mono ?_; rintro e w3 ⟨v3, rfl, h3, hb3⟩; clear c3; have c4 := C4.out w3 v3 (h3.mono HB2.out.size); have HB3 := Lib.hid (HB2.out.trans (hb3.mono HB2.out.size)); clear h3 hb3)
    | (go_at_call 32; refine c4.mono ?_; rintro e w4 ⟨rfl, hb4⟩; clear c4; have HB4 := Lib.hid (HB3.out.trans (hb4.mono HB3.out.size)); clear hb4))
  go_ret
  exact ⟨rfl, HB4.out⟩

theorem Give_yes {w : World} {va vb : Value} {a b : List X} (ha : Rd w va a) (hb : Rd w vb b) (hfa : Fine a) (hfb : Fine b) (hap : Apart (a ++ b)) (hn : (nrm (a ++ b)).length ≤ 1000) :
    Calls Try.prog 34 #[va, vb] w fun e w' => ∃ v', e = .returned (.tuple #[v', .int .i64 0]) ∧ OwnX w.heap.size w' v' (nrm (a ++ b)) ∧ RowKit.Below w.heap.size w w' := by
  have hla := hfa.1
  have hlb := hfb.1
  have c1 := check_any ha hla
  have C2 := Lib.hid fun (W : World) (h : RowKit.Below w.heap.size w W) => check_any (hb.next h) hlb
  rw [chk_fine hfa] at c1
  rw [chk_fine hfb] at C2
  have C3 := Lib.hid fun (W : World) (h : RowKit.Below w.heap.size w W) => Meet_any (ha.next h) (hb.next h) hfa hfb
  rw [decide_eq_true hap] at C3
  have C4 := Lib.hid fun (W : World) (h : RowKit.Below w.heap.size w W) => concat_new (ha.next h) (hb.next h) (by omega)
  have C5 := Lib.hid fun (W : World) (v : Value) (h : OwnX w.heap.size W v (a ++ b)) => norm_any h.rd (by simp; omega) (ok_append.2 ⟨hfa.2.1, hfb.2.1⟩) hap
  generalize nrm (a ++ b) = J at *
  obtain ⟨p1, q1, rfl⟩ := ha.len
  obtain ⟨p2, q2, rfl⟩ := hb.len
  clear ha hb hfa hfb hla hlb hap
  go_enter Try.func34, Try.ntmps34
  go_wp2_with (first
    | (go_at_call 26; refine c1.mono ?_; rintro e w1 ⟨rfl, hb1⟩; clear c1; have c1 := C2.out w1 hb1; have hw := hb1; have HB1 := Lib.hid hb1; clear hb1)
    | (go_at_call 26; refine c1.mono ?_; rintro e w2 ⟨rfl, hb2⟩; clear c1; have hbx := HB1.out.trans (hb2.mono HB1.out.size); clear hb2; have c3 := C3.out w2 hbx; have HB2 := Lib.hid hbx; clear hbx)
    | (go_at_call 13; refine c3.mono ?_; rintro e w3 ⟨rfl, hb3⟩; clear c3; have hbx := HB2.out.trans (hb3.mono HB2.out.size); clear hb3; have c4 := C4.out w3 hbx; have HB3 := Lib.hid hbx; clear hbx)
    | (go_at_call 33; refine c4.mono ?_; rintro e w4 ⟨v4, rfl, h4, hb4⟩; clear c4; have c5 := C5.out w4 v4 (h4.mono HB3.out.size); have HB4 := Lib.hid (HB3.out.trans (hb4.mono HB3.out.size)); clear h4 hb4)
    | (go_at_call 44; refine c5.mono ?_; rintro e w5 ⟨v5, rfl, h5, hb5⟩; clear c5; obtain ⟨p5, q5, rfl⟩ := h5.rd.len; have HB5 := Lib.hid (HB4.out.trans (hb5.mono HB4.out.size)); have H5 := Lib.hid (h5.mono HB4.out.size); have hd5 : decide ((1000 : Int) < (J.length : Int)) = false := by { simp; omega }; clear h5 hb5))
  go_ret2
  exact ⟨_, rfl, H5.out, HB5.out⟩
theorem Give_no {w : World} {va vb : Value} {a b : List X} (ha : Rd w va a) (hb : Rd w vb b) (hfa : Fine a) (hfb : Fine b) (hap : ¬ Apart (a ++ b)) :
    Calls Try.prog 34 #[va, vb] w fun e w' => e = .returned (.tuple #[.slice none 0 0, .int .i64 110]) ∧ RowKit.Below w.heap.size w w' := by
  have hla := hfa.1
  have hlb := hfb.1
  have c1 := check_any ha hla
  have C2 := Lib.hid fun (W : World) (h : RowKit.Below w.heap.size w W) => check_any (hb.next h) hlb
  rw [chk_fine hfa] at c1
  rw [chk_fine hfb] at C2
  have C3 := Lib.hid fun (W : World) (h : RowKit.Below w.heap.size w W) => Meet_any (ha.next h) (hb.next h) hfa hfb
  rw [decide_eq_false hap] at C3
  obtain ⟨p1, q1, rfl⟩ := ha.len
  obtain ⟨p2, q2, rfl⟩ := hb.len
  clear ha hb hfa hfb hla hlb hap
  go_enter Try.func34, Try.ntmps34
  go_wp2_with (first
    | (go_at_call 26; refine c1.mono ?_; rintro e w1 ⟨rfl, hb1⟩; clear c1; have c1 := C2.out w1 hb1; have hw := hb1; have HB1 := Lib.hid hb1; clear hb1)
    | (go_at_call 26; refine c1.mono ?_; rintro e w2 ⟨rfl, hb2⟩; clear c1; have hbx := HB1.out.trans (hb2.mono HB1.out.size); clear hb2; have c3 := C3.out w2 hbx; have HB2 := Lib.hid hbx; clear hbx)
    | (go_at_call 13; refine c3.mono ?_; rintro e w3 ⟨rfl, hb3⟩; clear c3; have hbx := HB2.out.trans (hb3.mono HB2.out.size); clear hb3; have HB3 := Lib.hid hbx; clear hbx))
  go_ret2
  exact ⟨rfl, HB3.out⟩
end Go.Proofs.Ytdjpnlkhdilakaa.gn
