/- shorten: the contract. -/
import Derived.Test.YtdjpnlkhdilakaaExP
set_option linter.unusedVariables false
namespace Go.Proofs.Ytdjpnlkhdilakaa.gn
open Go.RowKit Go.Shelf Go.Sort Go.Lib
open Go.Proofs.Ytdjpnlkhdilakaa.ex

attribute [local go_sem] Oper.semAt_some

theorem fl_set : ∀ (l : List X) (i : Nat) (y : X), i < l.length → ((fl l).set (i * 2) (.int .i64 y.1)).set (i * 2 + 1) (.int .i64 y.2) = fl (l.set i y)
  | x :: l, 0, y, _ => rfl
  | x :: l, i + 1, y, h => by
    rw [show (i + 1) * 2 = i * 2 + 1 + 1 by omega]
    simp only [fl, List.set_cons_succ]
    rw [fl_set l i y (by simpa using h)]
theorem grown_trans {a b c : World} {r : Option Nat} (h : a.grownBy b r) (k : b.grownBy c r) : a.grownBy c r :=
  ⟨k.os.trans h.os, k.tape.trans h.tape, k.output.trans h.output, Nat.le_trans h.size k.size, fun i hi hne => (k.block i (Nat.lt_of_lt_of_le hi h.size) hne).trans (h.block i hi hne)⟩

set_option maxHeartbeats 2000000 in
set_option maxRecDepth 100000 in
theorem shorten_any {base : Nat} {w : World} {g cap i : Nat} {l : List X} {x1 x2 m : Int} (h : OwnX base w (.slice (some ⟨g, 0, none⟩) l.length cap) l) (hi : i < l.length) (hl : l.length ≤ 4000) (hx : l[i]! = (x1, x2)) (h1 : Sml (x1 + m)) (h2 : Sml (x2 - m)) :
    Calls Try.prog 48 #[.slice (some ⟨g, 0, none⟩) l.length cap, .int .i64 i, .int .i64 m] w fun e w' => ∃ v', e = .returned v' ∧ OwnX base w' v' (short l i m) ∧ w.grownBy w' (some g) ∧ v'.ownBlock = some g := by
  unfold Sml at h1 h2
  have hw1 : IntKind.i64.wrap (x1 + m) = x1 + m := by rw [IntKind.wrap_i64]; omega
  have hw2 : IntKind.i64.wrap (x2 - m) = x2 - m := by rw [IntKind.wrap_i64]; omega
  clear h1 h2
  have hj := fl_at l i hi
  rw [hx] at hj
  dsimp only at hj
  have p0 : w.drew.cell? ⟨g, i * 2, none⟩ = some (.int .i64 x1) := (World.ownsRow.cellAt h (i * 2) (by omega)).trans hj.1
  have p1 : w.drew.cell? ⟨g, i * 2 + 1, none⟩ = some (.int .i64 x2) := (World.ownsRow.cellAt h (i * 2 + 1) (by omega)).trans hj.2
  have f0 : w.drew.frozen? ⟨g, i * 2, none⟩ = false := World.ownsRow.frozenAt h (i * 2)
  have f1 : w.drew.frozen? ⟨g, i * 2 + 1, none⟩ = false := World.ownsRow.frozenAt h (i * 2 + 1)
  have lg : g < w.heap.size := (World.ownsRow.lt h g rfl).2
  have mixed : Try.prog.follows .mixedOrders = true := by kernel_rfl
  have i1 : (i : Int) < (l.length : Int) := by omega
  have sA := World.ownsRow.stored (show w.drew.ownsRow base 54 2 (.slice (some ⟨g, 0, none⟩) l.length cap) l.length (fl l) from h) (i * 2) (.int .i64 (x1 + m))
  have sB := World.ownsRow.stored sA.1 (i * 2 + 1) (.int .i64 (x2 - m))
  have g1 : (w.setCell ⟨g, i * 2, none⟩ (.int .i64 (x1 + m))).drew.cell? ⟨g, i * 2 + 1, none⟩ = some (.int .i64 x2) := (World.ownsRow.cellAt sA.1 (i * 2 + 1) (by omega)).trans (by rw [List.getElem?_set_ne (by omega)]; exact hj.2)
  have g2 : (w.setCell ⟨g, i * 2, none⟩ (.int .i64 (x1 + m))).drew.frozen? ⟨g, i * 2 + 1, none⟩ = false := World.ownsRow.frozenAt sA.1 (i * 2 + 1)
  have ea := fl_set l i (x1 + m, x2 - m) hi
  dsimp only at ea
  rw [ea] at sB
  have hso : OwnX base ((w.setCell ⟨g, i * 2, none⟩ (.int .i64 (x1 + m))).setCell ⟨g, i * 2 + 1, none⟩ (.int .i64 (x2 - m))).drew (.slice (some ⟨g, 0, none⟩) (l.set i (x1 + m, x2 - m)).length cap) (l.set i (x1 + m, x2 - m)) := by
    unfold OwnX
    rw [List.length_set]
    exact sB.1
  have hsg : w.grownBy ((w.setCell ⟨g, i * 2, none⟩ (.int .i64 (x1 + m))).setCell ⟨g, i * 2 + 1, none⟩ (.int .i64 (x2 - m))).drew (some g) := by
    have := grown_undrew (grown_trans sA.2 sB.2)
    exact ⟨this.os, this.tape, this.output, this.size, this.block⟩
  have S := Lib.hid (And.intro hso hsg)
  clear hso hsg
  clear sA sB ea hj
  go_enter Try.func48, Try.ntmps48
  go_upto_region 1 with fail
  go_big_region_o
  obtain ⟨w2, hw2⟩ : ∃ w2, w2 = ((w.setCell ⟨g, i * 2, none⟩ (.int .i64 (x1 + m))).setCell ⟨g, i * 2 + 1, none⟩ (.int .i64 (x2 - m))).drew := ⟨_, rfl⟩
  rw [← hw2] at S ⊢
  clear hw2 p0 p1 f0 f1 g1 g2
  have hll : (l.set i (x1 + m, x2 - m)).length = l.length := List.length_set
  have hc := fl_at (l.set i (x1 + m, x2 - m)) i (by omega)
  have hgi : (l.set i (x1 + m, x2 - m))[i]! = (x1 + m, x2 - m) := by rw [getElem!_pos _ i (by omega), List.getElem_set_self]
  rw [hgi] at hc
  have p1 : w2.cell? ⟨g, i * 2 + 1, none⟩ = some (.int .i64 (x2 - m)) := (World.ownsRow.cellAt S.out.1 (i * 2 + 1) (by omega)).trans hc.2
  have lg2 : g < w2.heap.size := (World.ownsRow.lt S.out.1 g rfl).2
  have HX : Hid (l[i]! = (x1, x2)) := hx
  have HLL := Lib.hid hll
  clear hc hgi hx
  generalize hz : x2 - m = z at *
  have HZ := Lib.hid hz
  clear hz hw2
  by_cases hp : 0 < z
  · have hd : decide (0 < z) = true := decide_eq_true hp
    have HP := Lib.hid hp
    clear hp hll
    go_wp2
    go_ret
    refine ⟨_, rfl, ?_, S.out.2, rfl⟩
    unfold short
    rw [HX.out]
    dsimp only
    rw [HZ.out, if_pos HP.out]
    have := S.out.1
    rw [HLL.out] at this
    exact this
  · have hd : decide (0 < z) = false := decide_eq_false hp
    have HP := Lib.hid hp
    have hdel := delete_any S.out.1 (show i < (l.set i (x1 + m, z)).length by omega) (by omega)
    rw [hll] at hdel
    have hwi : IntKind.i64.wrap ((i : Int) + 1) = (i : Int) + 1 := by rw [IntKind.wrap_i64]; omega
    clear hp hll
    go_wp2_with (go_at_call 60; refine hdel.mono ?_; rintro e w3 ⟨v3, rfl, h3, hg3, hb3⟩; have H3 := Lib.hid (And.intro h3 (And.intro hg3 hb3)); clear h3 hg3 hb3)
    go_ret
    refine ⟨_, rfl, ?_, grown_trans S.out.2 H3.out.2.1, H3.out.2.2⟩
    unfold short
    rw [HX.out]
    dsimp only
    rw [HZ.out, if_neg (show ¬ 0 < z from by have := HP.out; omega)]
    have := H3.out.1
    rw [List.eraseIdx_set_eq] at this
    exact this
end Go.Proofs.Ytdjpnlkhdilakaa.gn
