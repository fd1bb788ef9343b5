/- The walk of DirectTexts. -/
import Derived.Test.YtfocnipdmckojaaDoorDiT
import Derived.Test.YtfocnipdmckojaaDoorDiV
set_option linter.unusedVariables false
namespace Go.Proofs.YtfocnipdmckojaaDoor.gn
open Go.RowKit
open Go.Proofs.YtfocnipdmckojaaDoor.un
open Go.Proofs.YtfocnipdmckojaaDoor.di

theorem isL_line (k : Nat) (fs : List Fl) : isL (lineOf k fs) = true := by
  unfold isL lineOf
  rw [joinW_cons _ (by simp)]
  simp [bbW, List.isPrefixOf]
/-- The text of a directive that may be is read as it was. -/
theorem text_back {d : Dir} (h : chk d = true) : ldir (dtx d) = d ∧ lerr (dtx d) = 0 ∧ (dtx d).length ≤ 306 := by
  have hl : (dtx d).length ≤ 306 := (made_text h).len
  obtain ⟨h1, h2⟩ := lerr_some (show (dtx d).length ≤ 500 by omega) (text_read h)
  exact ⟨h2, h1, hl⟩

set_option maxRecDepth 100000 in
set_option maxHeartbeats 4000000 in
theorem texts_long (d : Dir) (h : DW d) (hl : 100 < d.name.length ∨ 100 < d.pool.length) (w : World) (hL : LaidD w) : Calls Tryd.prog 4 #[dV d] w (Told (.bool true) w) := by
  have hb0 : Below w.heap.size w (w.alloc (.cells (dcs d) 24)) := (Below.refl _ _).alloc (Nat.le_refl _) _
  have HH := Lib.hid (head_any _ (hL.next hb0))
  have HB0 := Lib.hid hb0
  have hV : dV d = .agg #[.int .u8 (d.kind : Nat), .string (str d.name), .string (str d.pool), .int .i64 d.size, .bool d.opn] := rfl
  rw [hV]
  unfold dcs at HH HB0
  have z1 : (str d.name).size ≤ 9223372036854775807 := by rw [str_size]; exact h.n
  have z2 : (str d.pool).size ≤ 9223372036854775807 := by rw [str_size]; exact h.p
  by_cases hn : 100 < d.name.length
  · have z3 : 100 < (str d.name).size := by rw [str_size]; exact hn
    have z4 : decide (100 < ((str d.name).size : Int)) = true := decide_eq_true (by omega)
    clear hV h hl hL hb0 hn
    go_enter Tryd.func4, Tryd.ntmps4
    go_wp2_with (go_at_call 7; refine HH.out.mono ?_; rintro e w1 ⟨rfl, hb⟩; have HB1 := Lib.hid (HB0.out.trans (hb.mono HB0.out.size)); clear hb)
    go_ret
    exact ⟨rfl, HB1.out⟩
  · have z3 : (str d.name).size ≤ 100 := by rw [str_size]; omega
    have z4 : decide (100 < ((str d.name).size : Int)) = false := decide_eq_false (by omega)
    have z5 : 100 < (str d.pool).size := by rw [str_size]; omega
    have z6 : decide (100 < ((str d.pool).size : Int)) = true := decide_eq_true (by omega)
    clear hV h hl hL hb0 hn
    go_enter Tryd.func4, Tryd.ntmps4
    go_wp2_with (go_at_call 7; refine HH.out.mono ?_; rintro e w1 ⟨rfl, hb⟩; have HB1 := Lib.hid (HB0.out.trans (hb.mono HB0.out.size)); clear hb)
    go_ret
    exact ⟨rfl, HB1.out⟩

set_option maxRecDepth 100000 in
set_option maxHeartbeats 8000000 in
theorem texts_any_d (d : Dir) (h : DW d) (w : World) (hL : LaidD w) : Calls Tryd.prog 4 #[dV d] w (Told (.bool true) w) := by
  by_cases hl : 100 < d.name.length ∨ 100 < d.pool.length
  · exact texts_long d h hl w hL
  · have z1 : (str d.name).size ≤ 100 := by rw [str_size]; omega
    have z2 : (str d.pool).size ≤ 100 := by rw [str_size]; omega
    have CT := Lib.hid (fun W hW => Text_any d h W hW)
    have CD := Lib.hid (fun W => dText_any d h (by omega) (by omega) W)
    have CC := Lib.hid (fun W hW => Check_any d h W hW)
    have HC := Lib.hid fun (W : World) (hb : Below w.heap.size w W) => hL.next hb
    obtain ⟨w0, hw0⟩ : ∃ w0, w.alloc (.cells (dcs d) 24) = w0 := ⟨_, rfl⟩
    have hb0 : Below w.heap.size w w0 := by rw [← hw0]; exact (Below.refl _ _).alloc (Nat.le_refl _) _
    have hp0 : BoxA w0 w.heap.size 24 (dcs d) := by rw [← hw0]; exact BoxA.new _ _ _
    have H0 := Lib.hid hb0
    have HW0 := Lib.hid (show w.alloc (.cells #[.int .u8 (d.kind : Nat), .string (str d.name), .string (str d.pool), .int .i64 d.size, .bool d.opn] 24) = w0 from hw0)
    have hV : dV d = .agg #[.int .u8 (d.kind : Nat), .string (str d.name), .string (str d.pool), .int .i64 d.size, .bool d.opn] := rfl
    have hq := dir_eq d d
    rw [decide_eq_true rfl] at hq
    rw [hV] at CT CD CC hq ⊢
    unfold dcs at hp0
    have hcase : (chk d = true ∧ cE d = 0 ∧ ldir (tT d) = d ∧ lerr (tT d) = 0 ∧ (tT d).length ≤ 306 ∧ isL (tT d) = true) ∨ cE d = 140 := by
      by_cases hc : chk d = true
      · have ht : tT d = dtx d := by unfold tT; rw [if_pos hc]
        obtain ⟨h1, h2, h3⟩ := text_back hc
        exact .inl ⟨hc, cE_yes hc, by rw [ht]; exact h1, by rw [ht]; exact h2, by rw [ht]; exact h3, by rw [ht]; exact isL_line _ _⟩
      · exact .inr (cE_no hc)
    unfold TextT at CT CD
    obtain ⟨s, hs⟩ : ∃ s, tT d = s := ⟨_, rfl⟩
    obtain ⟨ce, hce⟩ : ∃ ce, cE d = ce := ⟨_, rfl⟩
    rw [hs] at hcase CT CD
    rw [hce] at hcase CT CD CC
    have q0 : ((str s).toList == (str s).toList) = true := by simp
    clear hV h hl hL hb0 hw0 hs hce
    rcases hcase with ⟨hc, rfl, h1, h2, h3, h4⟩ | rfl
    · have CP := Lib.hid (show ∀ W, LaidD W → Calls Tryd.prog 8 #[.string (str s)] W (Told (.tuple #[.agg #[.int .u8 (d.kind : Nat), .string (str d.name), .string (str d.pool), .int .i64 d.size, .bool d.opn], .int .i64 0]) W) from fun W hW => (Parse_any s (by omega) W hW).mono fun e w' ⟨he, hb⟩ => ⟨by rw [he, h1, h2]; rfl, hb⟩)
      have CI := Lib.hid (show ∀ W, Calls Tryd.prog 10 #[.string (str s)] W fun e w' => e = .returned (.bool true) ∧ W = w' from fun W => (Is_any s W).mono fun e w' ⟨he, hw⟩ => ⟨by rw [he, h4], hw⟩)
      clear hc h1 h2 h3 h4
      go_enter Tryd.func4, Tryd.ntmps4
      go_wp2_with fail
      rw [HW0.out]
      refine (CT.out _ (HC.out _ H0.out)).mono ?_
      rintro e w1 ⟨rfl, hb⟩
      have H1 := Lib.hid (H0.out.trans (hb.mono H0.out.size))
      have hp1 := hp0.next hb
      have a0 : w1.cell? ⟨w.heap.size, 0, none⟩ = _ := hp1.cell 0 _ rfl
      have a1 : w1.cell? ⟨w.heap.size, 1, none⟩ = _ := hp1.cell 1 _ rfl
      have a2 : w1.cell? ⟨w.heap.size, 2, none⟩ = _ := hp1.cell 2 _ rfl
      have a3 : w1.cell? ⟨w.heap.size, 3, none⟩ = _ := hp1.cell 3 _ rfl
      have a4 : w1.cell? ⟨w.heap.size, 4, none⟩ = _ := hp1.cell 4 _ rfl
      clear hb hp0
      go_wp2_with fail
      refine (CD.out _).mono ?_
      rintro e w2 ⟨rfl, hb⟩
      have H2 := Lib.hid (H1.out.trans (hb.mono H1.out.size))
      have hp2 := hp1.next hb
      have b0 : w2.cell? ⟨w.heap.size, 0, none⟩ = _ := hp2.cell 0 _ rfl
      have b1 : w2.cell? ⟨w.heap.size, 1, none⟩ = _ := hp2.cell 1 _ rfl
      have b2 : w2.cell? ⟨w.heap.size, 2, none⟩ = _ := hp2.cell 2 _ rfl
      have b3 : w2.cell? ⟨w.heap.size, 3, none⟩ = _ := hp2.cell 3 _ rfl
      have b4 : w2.cell? ⟨w.heap.size, 4, none⟩ = _ := hp2.cell 4 _ rfl
      clear hb hp1 a0 a1 a2 a3 a4
      go_wp2_with fail
      refine (CC.out _ (HC.out _ H2.out)).mono ?_
      rintro e w3 ⟨rfl, hb⟩
      have H3 := Lib.hid (H2.out.trans (hb.mono H2.out.size))
      have hp3 := hp2.next hb
      clear hb hp2 b0 b1 b2 b3 b4
      go_wp2_with fail
      refine (CP.out _ (HC.out _ H3.out)).mono ?_
      rintro e w4 ⟨rfl, hb⟩
      have H4 := Lib.hid (H3.out.trans (hb.mono H3.out.size))
      have hp4 := hp3.next hb
      have c0 : w4.cell? ⟨w.heap.size, 0, none⟩ = _ := hp4.cell 0 _ rfl
      have c1 : w4.cell? ⟨w.heap.size, 1, none⟩ = _ := hp4.cell 1 _ rfl
      have c2 : w4.cell? ⟨w.heap.size, 2, none⟩ = _ := hp4.cell 2 _ rfl
      have c3 : w4.cell? ⟨w.heap.size, 3, none⟩ = _ := hp4.cell 3 _ rfl
      have c4 : w4.cell? ⟨w.heap.size, 4, none⟩ = _ := hp4.cell 4 _ rfl
      have hlt4 := hp4.lt
      have HA := Lib.hid (show Below w.heap.size w (w4.alloc (.cells #[.int .u8 (d.kind : Nat), .string (str d.name), .string (str d.pool), .int .i64 d.size, .bool d.opn] 24)) from H4.out.alloc H4.out.size _)
      clear hb hp3
      go_wp2_with (first
        | (go_at_call 10; refine (CI.out _).mono ?_; rintro e wx ⟨rfl, rfl⟩)
        | (go_at_call 7; refine (head_any _ (HC.out _ HA.out)).mono ?_; rintro e w5 ⟨rfl, hb⟩; have H5 := Lib.hid (HA.out.trans (hb.mono HA.out.size)); clear hb))
      go_ret
      exact ⟨rfl, H5.out⟩
    · go_enter Tryd.func4, Tryd.ntmps4
      go_wp2_with fail
      rw [HW0.out]
      refine (CT.out _ (HC.out _ H0.out)).mono ?_
      rintro e w1 ⟨rfl, hb⟩
      have H1 := Lib.hid (H0.out.trans (hb.mono H0.out.size))
      have hp1 := hp0.next hb
      have a0 : w1.cell? ⟨w.heap.size, 0, none⟩ = _ := hp1.cell 0 _ rfl
      have a1 : w1.cell? ⟨w.heap.size, 1, none⟩ = _ := hp1.cell 1 _ rfl
      have a2 : w1.cell? ⟨w.heap.size, 2, none⟩ = _ := hp1.cell 2 _ rfl
      have a3 : w1.cell? ⟨w.heap.size, 3, none⟩ = _ := hp1.cell 3 _ rfl
      have a4 : w1.cell? ⟨w.heap.size, 4, none⟩ = _ := hp1.cell 4 _ rfl
      clear hb hp0
      go_wp2_with fail
      refine (CD.out _).mono ?_
      rintro e w2 ⟨rfl, hb⟩
      have H2 := Lib.hid (H1.out.trans (hb.mono H1.out.size))
      have hp2 := hp1.next hb
      have b0 : w2.cell? ⟨w.heap.size, 0, none⟩ = _ := hp2.cell 0 _ rfl
      have b1 : w2.cell? ⟨w.heap.size, 1, none⟩ = _ := hp2.cell 1 _ rfl
      have b2 : w2.cell? ⟨w.heap.size, 2, none⟩ = _ := hp2.cell 2 _ rfl
      have b3 : w2.cell? ⟨w.heap.size, 3, none⟩ = _ := hp2.cell 3 _ rfl
      have b4 : w2.cell? ⟨w.heap.size, 4, none⟩ = _ := hp2.cell 4 _ rfl
      clear hb hp1 a0 a1 a2 a3 a4
      go_wp2_with fail
      refine (CC.out _ (HC.out _ H2.out)).mono ?_
      rintro e w3 ⟨rfl, hb⟩
      have H3 := Lib.hid (H2.out.trans (hb.mono H2.out.size))
      clear hb hp2 b0 b1 b2 b3 b4
      go_wp2_with fail
      refine (head_any _ (HC.out _ H3.out)).mono ?_
      rintro e w5 ⟨rfl, hb⟩
      have H5 := Lib.hid (H3.out.trans (hb.mono H3.out.size))
      clear hb
      go_wp2
      go_ret
      exact ⟨rfl, H5.out⟩
end Go.Proofs.YtfocnipdmckojaaDoor.gn
