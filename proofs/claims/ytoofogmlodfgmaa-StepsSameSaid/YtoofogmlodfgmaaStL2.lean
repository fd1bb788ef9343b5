/- StepsSame: the law's long way. -/
import Derived.Test.YtoofogmlodfgmaaStL1
namespace Go.Proofs.Ytoofogmlodfgmaa.gn
open Go.RowKit Go.Shelf
open Go.Proofs.Ytoofogmlodfgmaa.sp

set_option maxHeartbeats 4000000 in
theorem same_law (v1 v2 : Value) (a1 a2 : Option Addr) (n1 n2 c1 c2 : Nat) (L : List (Int × Int)) (lo hi n : Int) (w : World) (e1 : v1 = .slice a1 n1 c1) (e2 : v2 = .slice a2 n2 c2) (hP : Prof w (.agg #[v1, v2]) (L.map Prod.fst) (L.map Prod.snd)) (h1 : n1 ≤ 60) (h2 : n2 ≤ 60) (hl : L.length ≤ 60) (hL : Ok L) (q0 : Q lo) (q1 : Q hi) (q2 : Q n) :
    Calls Try.prog 7 #[.agg #[v1, v2], .agg #[.int .i64 lo, .int .i64 hi, .int .i64 n]] w (Yes w) := by
  have HS := Lib.hid (St.start w lo hi n hP)
  subst e1 e2
  have HG := Lib.hid fun W => great_no a1 a2 n1 n2 c1 c2 h1 h2 W
  have HC := Lib.hid (chk_yes ⟨L, hL, rfl, rfl⟩)
  have HF := Lib.hid (fine_yes q0 q1 q2)
  have HQ := Lib.hid (And.intro q0 (And.intro q1 (And.intro q2 (And.intro hL hl))))
  clear h1 h2 hP hL hl q0 q1 q2
  go_enter Try.func7, Try.ntmps7
  go_wp2_with fail
  refine (HG.out _).mono ?_
  rintro e w1 ⟨rfl, hb1⟩
  have S1 := HS.out.next hb1
  have s0 := S1.bS.cell0
  have s1 := S1.bS.cell1
  have HS1 := Lib.hid S1
  clear hb1 S1
  go_wp2_with fail
  refine (check_any HS1.out.hP).mono ?_
  rintro e w2 ⟨rfl, hb2⟩
  rw [HC.out]
  have S2 := HS1.out.next hb2
  have t0 := S2.bW.cell0
  have t1 := S2.bW.cell1
  have t2 := S2.bW.cell2
  have HS2 := Lib.hid S2
  clear hb2 S2
  go_wp2_with fail
  refine (fine_any _ _ _ _).mono ?_
  rintro e w3 ⟨rfl, hb3⟩
  rw [HF.out]
  have S3 := HS2.out.next hb3
  have s0 := S3.bS.cell0
  have s1 := S3.bS.cell1
  have t0 := S3.bW.cell0
  have t1 := S3.bW.cell1
  have t2 := S3.bW.cell2
  have HS3 := Lib.hid S3
  clear hb3 S3
  go_wp2_with fail
  refine (give_yes HS3.out.hP HQ.out.2.2.2.1 HQ.out.1 HQ.out.2.1 HQ.out.2.2.1).mono ?_
  rintro e w4 ⟨c, M, a3, n3, c3, a4, n4, c4, rfl, hres, o1, o2, hb4⟩
  have S4 := HS3.out.next hb4
  rcases hres.small (show L.length ≤ 1998 by have := HQ.out.2.2.2.2; omega) with ⟨rfl, hT, hM, hMl⟩ | ⟨rfl, rfl, _⟩
  · have P4 : Prof w4 (.agg #[.slice a3 n3 c3, .slice a4 n4 c4]) (M.map Prod.fst) (M.map Prod.snd) := ⟨_, _, rfl, o1.ints (by rw [List.length_map]; have := hM.le; unfold maxLen; omega), o2.ints (by rw [List.length_map]; have := hM.le; unfold maxLen; omega)⟩
    have A4 := Box2.new w4 24 (.slice a3 n3 c3) (.slice a4 n4 c4)
    have P4a := P4.alloc (.cells #[.slice a3 n3 c3, .slice a4 n4 c4] 24)
    have S4a := S4.alloc (.cells #[.slice a3 n3 c3, .slice a4 n4 c4] 24)
    have s0 := S4.bS.cell0
    have s1 := S4.bS.cell1
    have t0 := S4.bW.cell0
    have t1 := S4.bW.cell1
    have t2 := S4.bW.cell2
    have l4 := S4.bW.lt
    have HM := Lib.hid (And.intro hT (And.intro hM (And.intro hMl (And.intro P4a (And.intro A4 S4a)))))
    clear hres o1 o2 hb4 S4 hT hM hMl P4 A4 P4a S4a
    go_wp2_with fail
    refine (take_yes HM.out.2.2.2.1 HM.out.2.1 HQ.out.1 HQ.out.2.1 HQ.out.2.2.1).mono ?_
    rintro e w5 ⟨c', M', a5, n5, c5, a6, n6, c6, rfl, hres, o1, o2, hb5⟩
    have hLl := HQ.out.2.2.2.2
    have hMl := HM.out.2.2.1
    obtain ⟨rfl, hT', hM', hMl'⟩ := hres.good (by omega) fun t ht => by rw [back_val HM.out.1 ht.1]; exact HQ.out.2.2.2.1.val ht.1
    have S5 := (HM.out.2.2.2.2.2.next hb5).alloc (.cells #[.slice a5 n5 c5, .slice a6 n6 c6] 24)
    have A5 := (box2_next hb5 HM.out.2.2.2.2.1).alloc (.cells #[.slice a5 n5 c5, .slice a6 n6 c6] 24)
    have P5 := (HM.out.2.2.2.1.below hb5 (Nat.le_refl _)).alloc (.cells #[.slice a5 n5 c5, .slice a6 n6 c6] 24)
    have B5 := Box2.new w5 24 (.slice a5 n5 c5) (.slice a6 n6 c6)
    have R5 : Prof w5 (.agg #[.slice a5 n5 c5, .slice a6 n6 c6]) (M'.map Prod.fst) (M'.map Prod.snd) := ⟨_, _, rfl, o1.ints (by rw [List.length_map]; have := hM'.le; unfold maxLen; omega), o2.ints (by rw [List.length_map]; have := hM'.le; unfold maxLen; omega)⟩
    have R5a := R5.alloc (.cells #[.slice a5 n5 c5, .slice a6 n6 c6] 24)
    have hsb := same_back HM.out.1 hT'
    have hst := same_turn HM.out.1 HQ.out.1 HQ.out.2.2.1
    have s0 := S5.bS.cell0
    have s1 := S5.bS.cell1
    have t0 := S5.bW.cell0
    have t1 := S5.bW.cell1
    have t2 := S5.bW.cell2
    have x0 := A5.cell0
    have x1 := A5.cell1
    have l5 := S5.bW.lt
    have l6 := A5.lt
    have HN := Lib.hid (And.intro S5 (And.intro A5 (And.intro P5 (And.intro B5 (And.intro R5a (And.intro hM' (And.intro hMl' (And.intro hsb hst))))))))
    clear hres o1 o2 hb5 S5 A5 P5 B5 R5 R5a hT' hM' hMl' hsb hst hMl hLl
    by_cases hn : 0 < n
    · by_cases hlh : lo < hi
      · have HC9 : Hid (samB L M = false) := by show _ = _; rw [HN.out.2.2.2.2.2.2.2.2, decide_eq_true hn, decide_eq_true hlh]; rfl
        have d1 : decide (0 < n) = true := decide_eq_true hn
        have d2 : decide (lo < hi) = true := decide_eq_true hlh
        go_wp2_with fail
        refine (same_yes HN.out.1.hP HN.out.2.2.2.2.1 HQ.out.2.2.2.1 HN.out.2.2.2.2.2.1 (by have := HQ.out.2.2.2.2; omega) (by have := HN.out.2.2.2.2.2.2.1; have := HM.out.2.2.1; have := HQ.out.2.2.2.2; omega)).mono ?_
        rintro e w6 ⟨rfl, hb6⟩
        rw [HN.out.2.2.2.2.2.2.2.1.1]
        have S6 := HN.out.1.next hb6
        have s0 := S6.bS.cell0
        have s1 := S6.bS.cell1
        have B6 := box2_next hb6 HN.out.2.2.2.1
        have y0 := B6.cell0
        have y1 := B6.cell1
        have A6 := box2_next hb6 HN.out.2.1
        have H6 := Lib.hid (And.intro S6 (And.intro B6 (And.intro A6 (And.intro (HN.out.2.2.2.2.1.below hb6 (Nat.le_refl _)) (HN.out.2.2.1.below hb6 (Nat.le_refl _))))))
        clear hb6 S6 B6 A6
        go_wp2_with fail
        refine (same_yes H6.out.2.2.2.1 H6.out.1.hP HN.out.2.2.2.2.2.1 HQ.out.2.2.2.1 (by have := HN.out.2.2.2.2.2.2.1; have := HM.out.2.2.1; have := HQ.out.2.2.2.2; omega) (by have := HQ.out.2.2.2.2; omega)).mono ?_
        rintro e w7 ⟨rfl, hb7⟩
        rw [HN.out.2.2.2.2.2.2.2.1.2]
        have S7 := H6.out.1.next hb7
        have s0 := S7.bS.cell0
        have s1 := S7.bS.cell1
        have A7 := box2_next hb7 H6.out.2.2.1
        have x0 := A7.cell0
        have x1 := A7.cell1
        have H7 := Lib.hid (And.intro S7 (H6.out.2.2.2.2.below hb7 (Nat.le_refl _)))
        clear hb7 S7 A7
        go_wp2_with fail
        refine (same_yes H7.out.1.hP H7.out.2 HQ.out.2.2.2.1 HM.out.2.1 (by have := HQ.out.2.2.2.2; omega) (by have := HM.out.2.2.1; have := HQ.out.2.2.2.2; omega)).mono ?_
        rintro e w8 ⟨rfl, hb8⟩
        rw [HC9.out]
        have H8 := Lib.hid (H7.out.1.next hb8)
        clear hb8
        go_wp2_with fail
        refine (head_any _).mono ?_
        rintro e w9 ⟨rfl, hb9⟩
        have H9 := Lib.hid (H8.out.next hb9)
        clear hb9
        go_wp2
        go_ret
        exact ⟨rfl, H9.out.hB⟩
      · have HC9 : Hid (samB L M = true) := by show _ = _; rw [HN.out.2.2.2.2.2.2.2.2, decide_eq_false hlh]; simp
        have d1 : decide (0 < n) = true := decide_eq_true hn
        have d2 : decide (lo < hi) = false := decide_eq_false hlh
        go_wp2_with fail
        refine (same_yes HN.out.1.hP HN.out.2.2.2.2.1 HQ.out.2.2.2.1 HN.out.2.2.2.2.2.1 (by have := HQ.out.2.2.2.2; omega) (by have := HN.out.2.2.2.2.2.2.1; have := HM.out.2.2.1; have := HQ.out.2.2.2.2; omega)).mono ?_
        rintro e w6 ⟨rfl, hb6⟩
        rw [HN.out.2.2.2.2.2.2.2.1.1]
        have S6 := HN.out.1.next hb6
        have s0 := S6.bS.cell0
        have s1 := S6.bS.cell1
        have B6 := box2_next hb6 HN.out.2.2.2.1
        have y0 := B6.cell0
        have y1 := B6.cell1
        have A6 := box2_next hb6 HN.out.2.1
        have H6 := Lib.hid (And.intro S6 (And.intro B6 (And.intro A6 (And.intro (HN.out.2.2.2.2.1.below hb6 (Nat.le_refl _)) (HN.out.2.2.1.below hb6 (Nat.le_refl _))))))
        clear hb6 S6 B6 A6
        go_wp2_with fail
        refine (same_yes H6.out.2.2.2.1 H6.out.1.hP HN.out.2.2.2.2.2.1 HQ.out.2.2.2.1 (by have := HN.out.2.2.2.2.2.2.1; have := HM.out.2.2.1; have := HQ.out.2.2.2.2; omega) (by have := HQ.out.2.2.2.2; omega)).mono ?_
        rintro e w7 ⟨rfl, hb7⟩
        rw [HN.out.2.2.2.2.2.2.2.1.2]
        have S7 := H6.out.1.next hb7
        have s0 := S7.bS.cell0
        have s1 := S7.bS.cell1
        have A7 := box2_next hb7 H6.out.2.2.1
        have x0 := A7.cell0
        have x1 := A7.cell1
        have H7 := Lib.hid (And.intro S7 (H6.out.2.2.2.2.below hb7 (Nat.le_refl _)))
        clear hb7 S7 A7
        go_wp2_with fail
        refine (same_yes H7.out.1.hP H7.out.2 HQ.out.2.2.2.1 HM.out.2.1 (by have := HQ.out.2.2.2.2; omega) (by have := HM.out.2.2.1; have := HQ.out.2.2.2.2; omega)).mono ?_
        rintro e w8 ⟨rfl, hb8⟩
        rw [HC9.out]
        have H8 := Lib.hid (H7.out.1.next hb8)
        clear hb8
        go_wp2_with fail
        refine (head_any _).mono ?_
        rintro e w9 ⟨rfl, hb9⟩
        have H9 := Lib.hid (H8.out.next hb9)
        clear hb9
        go_wp2
        go_ret
        exact ⟨rfl, H9.out.hB⟩
    · have HC9 : Hid (samB L M = true) := by show _ = _; rw [HN.out.2.2.2.2.2.2.2.2, decide_eq_false hn]; simp
      have d1 : decide (0 < n) = false := decide_eq_false hn
      go_wp2_with fail
      refine (same_yes HN.out.1.hP HN.out.2.2.2.2.1 HQ.out.2.2.2.1 HN.out.2.2.2.2.2.1 (by have := HQ.out.2.2.2.2; omega) (by have := HN.out.2.2.2.2.2.2.1; have := HM.out.2.2.1; have := HQ.out.2.2.2.2; omega)).mono ?_
      rintro e w6 ⟨rfl, hb6⟩
      rw [HN.out.2.2.2.2.2.2.2.1.1]
      have S6 := HN.out.1.next hb6
      have s0 := S6.bS.cell0
      have s1 := S6.bS.cell1
      have B6 := box2_next hb6 HN.out.2.2.2.1
      have y0 := B6.cell0
      have y1 := B6.cell1
      have A6 := box2_next hb6 HN.out.2.1
      have H6 := Lib.hid (And.intro S6 (And.intro B6 (And.intro A6 (And.intro (HN.out.2.2.2.2.1.below hb6 (Nat.le_refl _)) (HN.out.2.2.1.below hb6 (Nat.le_refl _))))))
      clear hb6 S6 B6 A6
      go_wp2_with fail
      refine (same_yes H6.out.2.2.2.1 H6.out.1.hP HN.out.2.2.2.2.2.1 HQ.out.2.2.2.1 (by have := HN.out.2.2.2.2.2.2.1; have := HM.out.2.2.1; have := HQ.out.2.2.2.2; omega) (by have := HQ.out.2.2.2.2; omega)).mono ?_
      rintro e w7 ⟨rfl, hb7⟩
      rw [HN.out.2.2.2.2.2.2.2.1.2]
      have S7 := H6.out.1.next hb7
      have s0 := S7.bS.cell0
      have s1 := S7.bS.cell1
      have A7 := box2_next hb7 H6.out.2.2.1
      have x0 := A7.cell0
      have x1 := A7.cell1
      have H7 := Lib.hid (And.intro S7 (H6.out.2.2.2.2.below hb7 (Nat.le_refl _)))
      clear hb7 S7 A7
      go_wp2_with fail
      refine (same_yes H7.out.1.hP H7.out.2 HQ.out.2.2.2.1 HM.out.2.1 (by have := HQ.out.2.2.2.2; omega) (by have := HM.out.2.2.1; have := HQ.out.2.2.2.2; omega)).mono ?_
      rintro e w8 ⟨rfl, hb8⟩
      rw [HC9.out]
      have H8 := Lib.hid (H7.out.1.next hb8)
      clear hb8
      go_wp2_with fail
      refine (head_any _).mono ?_
      rintro e w9 ⟨rfl, hb9⟩
      have H9 := Lib.hid (H8.out.next hb9)
      clear hb9
      go_wp2
      go_ret
      exact ⟨rfl, H9.out.hB⟩
  · have HS4 := Lib.hid S4
    clear hres o1 o2 hb4 S4
    go_wp2_with fail
    refine (head_any _).mono ?_
    rintro e w5 ⟨rfl, hb5⟩
    have HS5 := Lib.hid ((HS4.out.alloc (.cells #[.slice a3 n3 c3, .slice a4 n4 c4] 24)).next hb5)
    clear hb5
    go_wp2
    go_ret
    exact ⟨rfl, HS5.out.hB⟩
end Go.Proofs.Ytoofogmlodfgmaa.gn
