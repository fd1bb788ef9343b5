/- The walk of DirectReads. (Written by gen_diRd.py.) -/
import Derived.Test.YtfocnipdmckojaaDoorDiU
import Derived.Test.YtfocnipdmckojaaDoorDiV
set_option linter.unusedVariables false
namespace Go.Proofs.YtfocnipdmckojaaDoor.gn
open Go.RowKit
open Go.Proofs.YtfocnipdmckojaaDoor.un
open Go.Proofs.YtfocnipdmckojaaDoor.di

theorem isL_take {l : Tx} (h : ¬ l = bbW) : isL l = (decide (3 < l.length) && decide (l.take 4 = [35, 66, 66, 32])) := by
  unfold isL
  rw [decide_eq_false h, Bool.false_or, Bool.eq_iff_iff, List.isPrefixOf_iff_prefix, List.prefix_iff_eq_take, Bool.and_eq_true, decide_eq_true_eq, decide_eq_true_eq]
  constructor
  · intro e
    have e2 : l.take 4 = [35, 66, 66, 32] := e.symm
    refine ⟨?_, e2⟩
    have := congrArg List.length e2
    rw [List.length_take] at this
    simp at this
    omega
  · rintro ⟨_, e⟩
    exact e.symm

set_option maxRecDepth 100000 in
theorem reads_long (l : Tx) (hl : 1000 < l.length) (hm : l.length ≤ 9223372036854775807) (w : World) (hL : LaidD w) : Calls Tryd.prog 3 #[.string (str l)] w (Told (.bool true) w) := by
  have HH := Lib.hid (head_any w hL)
  have hz : 1000 < (str l).size := by rw [str_size]; exact hl
  have hz1 : (str l).size ≤ 9223372036854775807 := by rw [str_size]; exact hm
  clear hl hm hL
  go_enter Tryd.func3, Tryd.ntmps3
  go_wp2_with (go_at_call 7; refine HH.out.mono ?_; rintro e w1 ⟨rfl, hb⟩; have HB := Lib.hid hb; clear hb)
  go_ret
  exact ⟨rfl, HB.out⟩

set_option maxRecDepth 100000 in
set_option maxHeartbeats 8000000 in
theorem reads_some (l : Tx) (hl : l.length ≤ 1000) (d : Dir) (er : Int) (hd : ldir l = d) (he : lerr l = er) (he3 : er = 0 ∨ er = 3 ∨ er = 140) (w : World) (hL : LaidD w) : Calls Tryd.prog 3 #[.string (str l)] w (Told (.bool true) w) := by
  have CP := Lib.hid (show ∀ W, LaidD W → Calls Tryd.prog 8 #[.string (str l)] W (Told (.tuple #[.agg #[.int .u8 (d.kind : Nat), .string (str d.name), .string (str d.pool), .int .i64 d.size, .bool d.opn], .int .i64 er]) W) from fun W hW => (Parse_any l (Nat.le_trans hl (by decide)) W hW).mono fun e w' ⟨h1, hb⟩ => ⟨by rw [h1, hd, he]; rfl, hb⟩)
  have CD := Lib.hid (show ∀ W, Calls Tryd.prog 9 #[.string (str l)] W (Told (.tuple #[.agg #[.int .u8 (d.kind : Nat), .string (str d.name), .string (str d.pool), .int .i64 d.size, .bool d.opn], .int .i64 er]) W) from fun W => (dParse_any l hl W).mono fun e w' ⟨h1, hb⟩ => ⟨by rw [h1, hd, he]; rfl, hb⟩)
  have HC := Lib.hid fun (W : World) (hb : Below w.heap.size w W) => hL.next hb
  have H0 := Lib.hid (Below.refl w.heap.size w)
  have hq := dir_eq d d
  rw [decide_eq_true rfl, show dV d = .agg #[.int .u8 (d.kind : Nat), .string (str d.name), .string (str d.pool), .int .i64 d.size, .bool d.opn] from rfl] at hq
  obtain ⟨il, hil⟩ : ∃ y, isL l = y := ⟨_, rfl⟩
  have CI := Lib.hid (show ∀ W, Calls Tryd.prog 10 #[.string (str l)] W fun e w' => e = .returned (.bool il) ∧ W = w' from fun W => (Is_any l W).mono fun e w' ⟨h1, hw⟩ => ⟨by rw [h1, hil], hw⟩)
  have hz : (str l).size ≤ 1000 := by rw [str_size]; exact hl
  have hzl := str_size l
  clear hd he hL hl
  by_cases hb : l = bbW
  · obtain ⟨q1, q2⟩ := lit_yes hb
    have hit : il = true := by rw [← hil, hb]; rfl
    unfold bbW at q1 q2
    subst hit
    clear hb hil hzl
    rcases he3 with rfl | rfl | rfl
    all_goals
      go_enter Tryd.func3, Tryd.ntmps3
      go_wp2_with fail
      refine (CP.out _ (HC.out _ H0.out)).mono ?_
      rintro e w1 ⟨rfl, hb⟩
      have B1 := Lib.hid (BoxA.new w1 24 #[.int .u8 (d.kind : Nat), .string (str d.name), .string (str d.pool), .int .i64 d.size, .bool d.opn])
      have H1 := Lib.hid (hb.alloc hb.size (.cells #[.int .u8 (d.kind : Nat), .string (str d.name), .string (str d.pool), .int .i64 d.size, .bool d.opn] 24))
      clear hb
      go_wp2_with fail
      refine (CD.out _).mono ?_
      rintro e w2 ⟨rfl, hb⟩
      have H2 := Lib.hid (H1.out.trans (hb.mono H1.out.size))
      have hp2 := B1.out.next hb
      have c0 : w2.cell? ⟨w1.heap.size, 0, none⟩ = some (.int .u8 (d.kind : Nat)) := hp2.cell 0 _ rfl
      have c1 : w2.cell? ⟨w1.heap.size, 1, none⟩ = some (.string (str d.name)) := hp2.cell 1 _ rfl
      have c2 : w2.cell? ⟨w1.heap.size, 2, none⟩ = some (.string (str d.pool)) := hp2.cell 2 _ rfl
      have c3 : w2.cell? ⟨w1.heap.size, 3, none⟩ = some (.int .i64 d.size) := hp2.cell 3 _ rfl
      have c4 : w2.cell? ⟨w1.heap.size, 4, none⟩ = some (.bool d.opn) := hp2.cell 4 _ rfl
      have hlt := hp2.lt
      have HA := Lib.hid (H2.out.alloc H2.out.size (.cells #[.int .u8 (d.kind : Nat), .string (str d.name), .string (str d.pool), .int .i64 d.size, .bool d.opn] 24))
      clear hb hp2
      go_wp2_with (first
        | (go_at_call 10; refine (CI.out _).mono ?_; rintro e wx ⟨rfl, rfl⟩)
        | (go_at_call 7; refine (head_any _ (HC.out _ HA.out)).mono ?_; rintro e w5 ⟨rfl, hb⟩; have H5 := Lib.hid (HA.out.trans (hb.mono HA.out.size)); clear hb))
      go_ret
      exact ⟨rfl, H5.out⟩
  · obtain ⟨q1, q2⟩ := lit_no hb
    unfold bbW at q1 q2
    have hi := isL_take hb
    rw [hil] at hi
    by_cases h3 : 3 < l.length
    · have z3 : 3 < (str l).size := by rw [hzl]; exact h3
      have s4 := sl_upto l 4 4 rfl (by omega)
      obtain ⟨l4, hl4⟩ : ∃ y, l.take 4 = y := ⟨_, rfl⟩
      rw [hl4] at s4 hi
      rw [decide_eq_true h3, Bool.true_and] at hi
      by_cases h4 : l4 = [35, 66, 66, 32]
      · obtain ⟨q3, q4⟩ := lit_yes h4
        rw [decide_eq_true h4] at hi
        subst hi
        clear hb hil hzl h3 h4 hl4
        rcases he3 with rfl | rfl | rfl
        all_goals
          go_enter Tryd.func3, Tryd.ntmps3
          go_wp2_with fail
          refine (CP.out _ (HC.out _ H0.out)).mono ?_
          rintro e w1 ⟨rfl, hb⟩
          have B1 := Lib.hid (BoxA.new w1 24 #[.int .u8 (d.kind : Nat), .string (str d.name), .string (str d.pool), .int .i64 d.size, .bool d.opn])
          have H1 := Lib.hid (hb.alloc hb.size (.cells #[.int .u8 (d.kind : Nat), .string (str d.name), .string (str d.pool), .int .i64 d.size, .bool d.opn] 24))
          clear hb
          go_wp2_with fail
          refine (CD.out _).mono ?_
          rintro e w2 ⟨rfl, hb⟩
          have H2 := Lib.hid (H1.out.trans (hb.mono H1.out.size))
          have hp2 := B1.out.next hb
          have c0 : w2.cell? ⟨w1.heap.size, 0, none⟩ = some (.int .u8 (d.kind : Nat)) := hp2.cell 0 _ rfl
          have c1 : w2.cell? ⟨w1.heap.size, 1, none⟩ = some (.string (str d.name)) := hp2.cell 1 _ rfl
          have c2 : w2.cell? ⟨w1.heap.size, 2, none⟩ = some (.string (str d.pool)) := hp2.cell 2 _ rfl
          have c3 : w2.cell? ⟨w1.heap.size, 3, none⟩ = some (.int .i64 d.size) := hp2.cell 3 _ rfl
          have c4 : w2.cell? ⟨w1.heap.size, 4, none⟩ = some (.bool d.opn) := hp2.cell 4 _ rfl
          have hlt := hp2.lt
          have HA := Lib.hid (H2.out.alloc H2.out.size (.cells #[.int .u8 (d.kind : Nat), .string (str d.name), .string (str d.pool), .int .i64 d.size, .bool d.opn] 24))
          clear hb hp2
          go_wp2_with (first
            | (go_at_call 10; refine (CI.out _).mono ?_; rintro e wx ⟨rfl, rfl⟩)
            | (go_at_call 7; refine (head_any _ (HC.out _ HA.out)).mono ?_; rintro e w5 ⟨rfl, hb⟩; have H5 := Lib.hid (HA.out.trans (hb.mono HA.out.size)); clear hb))
          go_ret
          exact ⟨rfl, H5.out⟩
      · obtain ⟨q3, q4⟩ := lit_no h4
        rw [decide_eq_false h4] at hi
        subst hi
        clear hb hil hzl h3 h4 hl4
        rcases he3 with rfl | rfl | rfl
        all_goals
          go_enter Tryd.func3, Tryd.ntmps3
          go_wp2_with fail
          refine (CP.out _ (HC.out _ H0.out)).mono ?_
          rintro e w1 ⟨rfl, hb⟩
          have B1 := Lib.hid (BoxA.new w1 24 #[.int .u8 (d.kind : Nat), .string (str d.name), .string (str d.pool), .int .i64 d.size, .bool d.opn])
          have H1 := Lib.hid (hb.alloc hb.size (.cells #[.int .u8 (d.kind : Nat), .string (str d.name), .string (str d.pool), .int .i64 d.size, .bool d.opn] 24))
          clear hb
          go_wp2_with fail
          refine (CD.out _).mono ?_
          rintro e w2 ⟨rfl, hb⟩
          have H2 := Lib.hid (H1.out.trans (hb.mono H1.out.size))
          have hp2 := B1.out.next hb
          have c0 : w2.cell? ⟨w1.heap.size, 0, none⟩ = some (.int .u8 (d.kind : Nat)) := hp2.cell 0 _ rfl
          have c1 : w2.cell? ⟨w1.heap.size, 1, none⟩ = some (.string (str d.name)) := hp2.cell 1 _ rfl
          have c2 : w2.cell? ⟨w1.heap.size, 2, none⟩ = some (.string (str d.pool)) := hp2.cell 2 _ rfl
          have c3 : w2.cell? ⟨w1.heap.size, 3, none⟩ = some (.int .i64 d.size) := hp2.cell 3 _ rfl
          have c4 : w2.cell? ⟨w1.heap.size, 4, none⟩ = some (.bool d.opn) := hp2.cell 4 _ rfl
          have hlt := hp2.lt
          have HA := Lib.hid (H2.out.alloc H2.out.size (.cells #[.int .u8 (d.kind : Nat), .string (str d.name), .string (str d.pool), .int .i64 d.size, .bool d.opn] 24))
          clear hb hp2
          go_wp2_with (first
            | (go_at_call 10; refine (CI.out _).mono ?_; rintro e wx ⟨rfl, rfl⟩)
            | (go_at_call 7; refine (head_any _ (HC.out _ HA.out)).mono ?_; rintro e w5 ⟨rfl, hb⟩; have H5 := Lib.hid (HA.out.trans (hb.mono HA.out.size)); clear hb))
          go_ret
          exact ⟨rfl, H5.out⟩
    · have z3 : (str l).size ≤ 3 := by rw [hzl]; omega
      rw [decide_eq_false h3, Bool.false_and] at hi
      subst hi
      clear hb hil hzl h3
      rcases he3 with rfl | rfl | rfl
      all_goals
        go_enter Tryd.func3, Tryd.ntmps3
        go_wp2_with fail
        refine (CP.out _ (HC.out _ H0.out)).mono ?_
        rintro e w1 ⟨rfl, hb⟩
        have B1 := Lib.hid (BoxA.new w1 24 #[.int .u8 (d.kind : Nat), .string (str d.name), .string (str d.pool), .int .i64 d.size, .bool d.opn])
        have H1 := Lib.hid (hb.alloc hb.size (.cells #[.int .u8 (d.kind : Nat), .string (str d.name), .string (str d.pool), .int .i64 d.size, .bool d.opn] 24))
        clear hb
        go_wp2_with fail
        refine (CD.out _).mono ?_
        rintro e w2 ⟨rfl, hb⟩
        have H2 := Lib.hid (H1.out.trans (hb.mono H1.out.size))
        have hp2 := B1.out.next hb
        have c0 : w2.cell? ⟨w1.heap.size, 0, none⟩ = some (.int .u8 (d.kind : Nat)) := hp2.cell 0 _ rfl
        have c1 : w2.cell? ⟨w1.heap.size, 1, none⟩ = some (.string (str d.name)) := hp2.cell 1 _ rfl
        have c2 : w2.cell? ⟨w1.heap.size, 2, none⟩ = some (.string (str d.pool)) := hp2.cell 2 _ rfl
        have c3 : w2.cell? ⟨w1.heap.size, 3, none⟩ = some (.int .i64 d.size) := hp2.cell 3 _ rfl
        have c4 : w2.cell? ⟨w1.heap.size, 4, none⟩ = some (.bool d.opn) := hp2.cell 4 _ rfl
        have hlt := hp2.lt
        have HA := Lib.hid (H2.out.alloc H2.out.size (.cells #[.int .u8 (d.kind : Nat), .string (str d.name), .string (str d.pool), .int .i64 d.size, .bool d.opn] 24))
        clear hb hp2
        go_wp2_with (first
          | (go_at_call 10; refine (CI.out _).mono ?_; rintro e wx ⟨rfl, rfl⟩)
          | (go_at_call 7; refine (head_any _ (HC.out _ HA.out)).mono ?_; rintro e w5 ⟨rfl, hb⟩; have H5 := Lib.hid (HA.out.trans (hb.mono HA.out.size)); clear hb))
        go_ret
        exact ⟨rfl, H5.out⟩

theorem reads_any_d (l : Tx) (hm : l.length ≤ 9223372036854775807) (w : World) (hL : LaidD w) : Calls Tryd.prog 3 #[.string (str l)] w (Told (.bool true) w) := by
  by_cases hl : 1000 < l.length
  · exact reads_long l hl hm w hL
  · refine reads_some l (by omega) _ _ rfl rfl ?_ w hL
    by_cases h5 : 500 < l.length
    · exact .inr (.inl (lerr_long h5).1)
    cases hn : line? l with
    | none => exact .inr (.inr (lerr_none (by omega) hn).1)
    | some d => exact .inl (lerr_some (by omega) hn).1
end Go.Proofs.YtfocnipdmckojaaDoor.gn
