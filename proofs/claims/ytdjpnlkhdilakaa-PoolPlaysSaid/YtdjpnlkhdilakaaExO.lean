/- preferred, choose: the contracts. -/
import Derived.Test.YtdjpnlkhdilakaaExL
import Derived.Test.YtdjpnlkhdilakaaExN
set_option linter.unusedVariables false
namespace Go.Proofs.Ytdjpnlkhdilakaa.gn
open Go.RowKit Go.Shelf Go.Sort Go.Lib
open Go.Proofs.Ytdjpnlkhdilakaa.ex

attribute [local go_sem] Oper.semAt_some

theorem preferred_any (n : Int) (x y : X) (w : World) : Calls Try.prog 47 #[aggX x, aggX y, .int .i64 n] w fun e w' => e = .returned (.bool (pf n x y)) ∧ w' = (w.alloc (boxX x)).alloc (boxX y) := by
  obtain ⟨a, b⟩ := x
  obtain ⟨c, d⟩ := y
  unfold pf
  dsimp only
  by_cases h : n ≤ min b d
  · rw [if_pos h]
    have hd : decide (n ≤ min b d) = true := decide_eq_true h
    clear h
    go_enter Try.func47, Try.ntmps47
    go_wp2
    go_ret
    exact ⟨rfl, rfl⟩
  · rw [if_neg h]
    have hd : decide (n ≤ min b d) = false := decide_eq_false h
    clear h
    go_enter Try.func47, Try.ntmps47
    go_wp2
    go_ret
    exact ⟨rfl, rfl⟩
theorem take1_any (n : Int) (x y : X) (B : Nat) (w : World) (hB : B < w.heap.size) (hn : w.cell? ⟨B, 0, none⟩ = some (.int .i64 n)) :
    Calls Try.prog 46 #[aggX x, aggX y, .pointer (some ⟨B, 0, none⟩)] w fun e w' => e = .returned (.bool (pf n x y)) ∧ w' = grow (w.drewN 0) (#[boxX x] ++ #[boxX y] ++ #[boxX x] ++ #[boxX y]) := by
  have H := preferred_any n x y
  generalize pf n x y = r at *
  obtain ⟨a, b⟩ := x
  obtain ⟨c, d⟩ := y
  go_enter Try.func46, Try.ntmps46
  go_wp2_with (go_at_call 47; refine (H _).mono ?_; rintro e w' ⟨rfl, rfl⟩)
  go_ret
  refine ⟨rfl, ?_⟩
  rw [grow_one, grow_one, grow_one, grow_one, grow_grow, grow_grow, grow_grow]
  rfl
theorem chI_cons (n : Int) (x : X) (l : List X) (k b : Nat) (y : X) : chI n (x :: l) k b y = if pf n x y = true then chI n l (k + 1) k x else chI n l (k + 1) b y := rfl

set_option maxHeartbeats 2000000 in
set_option maxRecDepth 100000 in
theorem choose_any {w : World} {v : Value} {l : List X} (n : Int) (B : Nat) (h : Rd w v l) (hl : l.length ≤ 4000) (hne : l ≠ []) (hB : B < w.heap.size) (hn : w.cell? ⟨B, 0, none⟩ = some (.int .i64 n)) :
    Calls Try.prog 45 #[v, .func (.func 46) #[] #[.pointer (some ⟨B, 0, none⟩)]] w (Tells ((chI n l 0 0 l[0]! : Nat) : Int) w) := by
  have hpos := List.length_pos_iff.2 hne
  rcases h with ⟨p', c', rfl, rfl, _⟩ | ⟨b, off, c, rfl, hlt, hc⟩
  · exact absurd rfl hne
  have HC := Lib.hid (And.intro hc (And.intro hn hne))
  generalize hans : chI n l 0 0 l[0]! = ans
  have HA := Lib.hid hans
  clear hc hn hans
  have mixed : Try.prog.follows .mixedOrders = true := by kernel_rfl
  have eg : ∀ args w, (callFunc 46 args).run Try.prog w = .ok (.enter 46 args) w := enters_of Try.func46 (by kernel_rfl) rfl
  go_enter Try.func45, Try.ntmps45
  go_upto_region 3 with fail
  go_loopw [5, 10] (fun s5 s10 wr => ∃ k m : Nat, s5 = .int .i64 m ∧ s10 = .int .i64 k ∧ k ≤ l.length ∧ m < l.length ∧ Aside (RowKit.Below w.heap.size w wr) ∧ Aside (chI n (l.drop k) k m l[m]! = ans))
    (fun _ s10 _ => l.length - (intOf s10).toNat)
  case atStart => exact ⟨0, 0, rfl, rfl, Nat.zero_le _, hpos, Below.refl _ _, HA.out⟩
  case round =>
    obtain ⟨k, m, rfl, rfl, hk, hm, hb, ha⟩ := hrel
    by_cases hkl : k < l.length
    · have hcx := HC.out.1.below hb.out hlt
      have hN := (hb.out.cell (p := ⟨B, 0, none⟩) hB).trans HC.out.2.1
      have hck := hcx k hkl
      have hcm := hcx m hm
      rw [drop_at hkl, chI_cons] at ha
      have hyx : Aside (l[k]! = l[k]!) := rfl
      have HAq := Lib.hid ha.out
      have HXE : Hid (∃ x, l[k]! = x) := ⟨_, rfl⟩
      obtain ⟨x, hx⟩ := HXE.out
      obtain ⟨y, hy⟩ : ∃ y, l[m]! = y := ⟨_, rfl⟩
      rw [hx] at hck
      rw [hy] at hcm
      have HX := Lib.hid (And.intro hx hy)
      clear hx hy hyx HXE ha hcx
      obtain ⟨x1, x2⟩ := x
      obtain ⟨y1, y2⟩ := y
      have e0 := hck.1
      have e1 := hck.2
      have f0 := hcm.1
      have f1 := hcm.2
      dsimp only at e0 e1 f0 f1
      have hbz : b < wr.heap.size := Nat.lt_of_lt_of_le hlt hb.out.size
      have hBz : B < wr.heap.size := Nat.lt_of_lt_of_le hB hb.out.size
      have hb2 : RowKit.Below wr.heap.size wr (wr.alloc (boxX (x1, x2))) := (Below.refl _ _).alloc (Nat.le_refl _) _
      have bX := Box2.new wr 54 (.int .i64 x1) (.int .i64 x2)
      have g0 := fun i os => cell_grown (a := ⟨wr.heap.size, 0, none⟩) bX.lt bX.cell0 i os
      have g1 := fun i os => cell_grown (a := ⟨wr.heap.size, 1, none⟩) bX.lt bX.cell1 i os
      have q0 := fun i os => cell_grown (w := wr.alloc (boxX (x1, x2))) (a := ⟨b, off + m * 2, none⟩) (Nat.lt_of_lt_of_le hbz hb2.size) ((hb2.cell (p := ⟨b, off + m * 2, none⟩) hbz).trans f0) i os
      have q1 := fun i os => cell_grown (w := wr.alloc (boxX (x1, x2))) (a := ⟨b, off + m * 2 + 1, none⟩) (Nat.lt_of_lt_of_le hbz hb2.size) ((hb2.cell (p := ⟨b, off + m * 2 + 1, none⟩) hbz).trans f1) i os
      have qn := fun i os => cell_grown (w := wr.alloc (boxX (x1, x2))) (a := ⟨B, 0, none⟩) (Nat.lt_of_lt_of_le hBz hb2.size) ((hb2.cell (p := ⟨B, 0, none⟩) hBz).trans hN) i os
      have cc := fun i os => Calls.grown_of (w := wr.alloc (boxX (x1, x2))) (n := i) (os := os) ((take1_any n (x1, x2) (y1, y2) B (grow ((wr.alloc (boxX (x1, x2))).drewN i) os) (by rw [size_grow]; show B < (wr.alloc (boxX (x1, x2))).heap.size + _; have := hb2.size; omega) (qn i os)).mono fun e w' h => ⟨h.1, 0, _, h.2⟩)
      have HB := Lib.hid hb2
      clear hb2 bX hck hcm hN qn f0 f1
      by_cases hp : pf n (x1, x2) (y1, y2) = true
      · rw [hp] at cc
        have HP := Lib.hid hp
        clear hp
        go_wp2
        go_quiet_grown (first | (go_at_call 46; exact cc _ _))
        go_wp2
        go_roundw
        case rel =>
          refine ⟨k + 1, k, rfl, by go_num, by omega, hkl, (hb.out.trans (HB.out.mono hb.out.size)).trans ((below_grow _ _ _).mono (Nat.le_trans hb.out.size (by simp))), ?_⟩
          have := HAq.out
          rw [HX.out.1, HX.out.2, if_pos HP.out] at this
          rw [HX.out.1]
          exact this
        case measure => simp [intOf]; omega
      · have hp2 : pf n (x1, x2) (y1, y2) = false := by simpa using hp
        rw [hp2] at cc
        have HP := Lib.hid hp
        clear hp hp2
        go_wp2
        go_quiet_grown (first | (go_at_call 46; exact cc _ _))
        go_wp2
        go_roundw
        case rel =>
          refine ⟨k + 1, m, rfl, by go_num, by omega, hm, (hb.out.trans (HB.out.mono hb.out.size)).trans ((below_grow _ _ _).mono (Nat.le_trans hb.out.size (by simp))), ?_⟩
          have := HAq.out
          rw [HX.out.1, HX.out.2, if_neg HP.out] at this
          rw [HX.out.2]
          exact this
        case measure => simp [intOf]; omega
    · obtain rfl : k = l.length := by omega
      have HB := Lib.hid (And.intro hb.out ha.out)
      clear hb ha
      go_wp2
      go_ret
      have := HB.out.2
      rw [List.drop_length] at this
      exact ⟨by rw [← this]; rfl, HB.out.1⟩
end Go.Proofs.Ytdjpnlkhdilakaa.gn
