/- The statements' own head: the calls whose answers are known answer so. -/
import Derived.Test.YtoofogmlodfgmaaStY
namespace Go.Proofs.Ytoofogmlodfgmaa.gn
open Go.RowKit Go.Shelf
open Go.Proofs.Ytoofogmlodfgmaa.sp

/-- The profile of the head, and what is taken of it. -/
def L5 : List (Int × Int) := [(0, 5)]
def A5 : List (Int × Int) := [(0, 5), (2, 2), (4, 5)]
theorem l5_ok : Ok L5 := ⟨by decide, List.pairwise_singleton _ _, ⟨5, by simp [L5]⟩, fun p hp => by simp [L5] at hp; subst hp; exact ⟨⟨by decide, by decide⟩, ⟨by decide, by decide⟩⟩⟩
theorem a5_turned : Turned L5 2 4 (-3) A5 := by
  refine ⟨?_, ?_, ⟨5, by simp [A5]⟩, fun t ht => ?_, by decide⟩
  · simp [A5, Norm]
  · intro p hp
    simp [A5] at hp
    rcases hp with rfl | rfl | rfl <;> exact ⟨⟨by decide, by decide⟩, ⟨by decide, by decide⟩⟩
  · unfold more sp.val A5 L5
    by_cases h2 : (2 : Int) ≤ t
    · by_cases h4 : (4 : Int) ≤ t
      · have h5 : ¬ t < 4 := by omega
        simp [vf, h2, h4, ht, h5]
      · have h5 : t < 4 := by omega
        simp [vf, h2, h4, ht, h5]
    · have h4 : ¬ (4 : Int) ≤ t := by omega
      simp [vf, h2, h4, ht]
theorem a5_ok : Ok A5 := a5_turned.ok (by decide)
theorem l5_res {c : Int} {M : List (Int × Int)} (h : Res L5 2 4 (-3) c M) : c = 0 ∧ M = A5 := by
  have := h.uniq (.inl ⟨rfl, a5_turned, by decide⟩)
  exact this
theorem a5_bad {c : Int} {M : List (Int × Int)} (h : Res A5 3 9 (-3) c M) : c = 6 ∧ M = [] := by
  have := h.uniq (.inr ⟨rfl, rfl, .inl ⟨3, ⟨by decide, by decide⟩, fun hq => absurd hq.1 (by decide)⟩⟩)
  exact this
theorem k1 : lst A5 0 2 = 5 := by decide
theorem k2 : lst A5 0 3 = 2 := by decide
theorem k3 : lst A5 4 4 = 1099511627776 := by decide
theorem k4 : sp.val A5 3 = 2 := by decide
theorem q_of (n : Int) (h0 : 0 ≤ n) (h1 : n ≤ 1099511627776) : Q n := ⟨h0, h1⟩
theorem none_no : ¬ (OkP [] [] ∧ Q 3 ∧ Q 9 ∧ Q 3) := fun h => by have := h.1.parts.2.2.2.1; simp at this
theorem nil_prof (w : World) : Prof w (.agg #[.slice none 0 0, .slice none 0 0]) [] [] := ⟨_, _, rfl, ⟨by decide, none, 0, rfl, ⟨Nat.le_refl _, by decide⟩, .inl rfl⟩, ⟨by decide, none, 0, rfl, ⟨Nat.le_refl _, by decide⟩, .inl rfl⟩⟩

set_option maxHeartbeats 2000000 in
theorem head_any (w : World) : Calls Try.prog 9 #[] w (TellsB true w) := by
  go_enter Try.func9, Try.ntmps9
  go_wp2_with fail
  refine (new_any _ _).mono ?_
  rintro e w1 ⟨v, rfl, hP, hb1⟩
  have hT := take_yes (L := L5) (lo := 2) (hi := 4) (d := 3) hP l5_ok (q_of _ (by decide) (by decide)) (q_of _ (by decide) (by decide)) (q_of _ (by decide) (by decide))
  have HT := Lib.hid hT
  have HB1 := Lib.hid hb1
  obtain ⟨v1, v2, rfl, _, _⟩ := hP
  clear hT hb1
  go_wp2_with fail
  refine HT.out.mono ?_
  rintro e w2 ⟨c, M, a1, n1, c1, a2, n2, c2, rfl, hres, o1, o2, hb2⟩
  obtain ⟨rfl, rfl⟩ := l5_res hres
  have hP2 : Prof w2 (.agg #[.slice a1 n1 c1, .slice a2 n2 c2]) (A5.map Prod.fst) (A5.map Prod.snd) := ⟨_, _, rfl, o1.ints (by decide), o2.ints (by decide)⟩
  have HP2 := Lib.hid (hP2.alloc (.cells #[.slice a1 n1 c1, .slice a2 n2 c2] 24))
  have hB2 := HB1.out.trans (hb2.mono HB1.out.size)
  have HB2 := Lib.hid (hB2.alloc hB2.size (.cells #[.slice a1 n1 c1, .slice a2 n2 c2] 24))
  have HA := Lib.hid (Box2.new w2 24 (.slice a1 n1 c1) (.slice a2 n2 c2))
  clear hres o1 o2 hb2 hP2 hB2
  go_wp2_with fail
  refine (take_yes (L := A5) (lo := 3) (hi := 9) (d := 3) HP2.out a5_ok (q_of _ (by decide) (by decide)) (q_of _ (by decide) (by decide)) (q_of _ (by decide) (by decide))).mono ?_
  rintro e w3 ⟨c, M, a3, n3, c3, a4, n4, c4, rfl, hres, _, _, hb3⟩
  obtain ⟨rfl, rfl⟩ := a5_bad hres
  have HP3 := Lib.hid ((HP2.out.below hb3 (Nat.le_refl _)).alloc (.cells #[.slice a3 n3 c3, .slice a4 n4 c4] 24))
  have hB3 := HB2.out.trans (hb3.mono HB2.out.size)
  have HB3 := Lib.hid (hB3.alloc hB3.size (.cells #[.slice a3 n3 c3, .slice a4 n4 c4] 24))
  have HA3 := Lib.hid ((box2_next hb3 HA.out).alloc (.cells #[.slice a3 n3 c3, .slice a4 n4 c4] 24))
  clear hres hb3 hB3
  go_wp2_with fail
  refine (take_no (lo := 3) (hi := 9) (d := 3) (nil_prof _) none_no).mono ?_
  rintro e w4 ⟨rfl, hb4⟩
  have hP4 := (HP3.out.below hb4 (Nat.le_refl _)).alloc (.cells #[.slice none 0 0, .slice none 0 0] 24)
  have hB4 := HB3.out.trans (hb4.mono HB3.out.size)
  have HB4 := Lib.hid (hB4.alloc hB4.size (.cells #[.slice none 0 0, .slice none 0 0] 24))
  have bA4 := (box2_next hb4 HA3.out).alloc (.cells #[.slice none 0 0, .slice none 0 0] 24)
  have HP4 := Lib.hid hP4
  clear hb4 hB4 hP4
  have s0 := bA4.cell0
  have s1 := bA4.cell1
  have hlt := bA4.lt
  rw [World.size_alloc] at hlt
  have HA4 := Lib.hid bA4
  clear bA4
  have HE := Lib.hid (dequal_any ((HP4.out.alloc (.cells #[.int .i64 0, .int .i64 2, .int .i64 4] 2)).alloc (.cells #[.int .i64 5, .int .i64 2, .int .i64 5] 2)) (⟨_, _, rfl, (row3 (w4.alloc (.cells #[.slice none 0 0, .slice none 0 0] 24)) 0 2 4).alloc (.cells #[.int .i64 5, .int .i64 2, .int .i64 5] 2), row3 ((w4.alloc (.cells #[.slice none 0 0, .slice none 0 0] 24)).alloc (.cells #[.int .i64 0, .int .i64 2, .int .i64 4] 2)) 5 2 5⟩ : Prof (((w4.alloc (.cells #[.slice none 0 0, .slice none 0 0] 24)).alloc (.cells #[.int .i64 0, .int .i64 2, .int .i64 4] 2)).alloc (.cells #[.int .i64 5, .int .i64 2, .int .i64 5] 2)) _ [0, 2, 4] [5, 2, 5]))
  simp only [World.size_alloc] at HE
  have hsm : (same (A5.map Prod.fst) [0, 2, 4] && same (A5.map Prod.snd) [5, 2, 5]) = true := by decide
  rw [hsm] at HE
  clear hsm
  go_wp2_with fail
  refine HE.out.mono ?_
  rintro e w5 ⟨rfl, hb5⟩
  have bA5 := box2_next hb5 ((HA4.out.alloc (.cells #[.int .i64 0, .int .i64 2, .int .i64 4] 2)).alloc (.cells #[.int .i64 5, .int .i64 2, .int .i64 5] 2))
  have hP5 := ((HP4.out.alloc (.cells #[.int .i64 0, .int .i64 2, .int .i64 4] 2)).alloc (.cells #[.int .i64 5, .int .i64 2, .int .i64 5] 2)).below hb5 (Nat.le_refl _)
  have hBa := (HB4.out.alloc HB4.out.size (.cells #[.int .i64 0, .int .i64 2, .int .i64 4] 2))
  have hB5 := (hBa.alloc hBa.size (.cells #[.int .i64 5, .int .i64 2, .int .i64 5] 2)).trans (hb5.mono (hBa.alloc hBa.size (.cells #[.int .i64 5, .int .i64 2, .int .i64 5] 2)).size)
  have t0 := bA5.cell0
  have t1 := bA5.cell1
  have HA5 := Lib.hid bA5
  have HP5 := Lib.hid hP5
  have HB5 := Lib.hid hB5
  clear hb5 bA5 hP5 hBa hB5 s0 s1 hlt
  go_wp2_with fail
  refine (leastf_yes (lo := 0) (hi := 2) HP5.out a5_ok (q_of _ (by decide) (by decide)) (q_of _ (by decide) (by decide))).mono ?_
  rintro e w6 ⟨rfl, hb6⟩
  rw [k1]
  have bA6 := box2_next hb6 HA5.out
  have HP6 := Lib.hid (HP5.out.below hb6 (Nat.le_refl _))
  have HB6 := Lib.hid (HB5.out.trans (hb6.mono HB5.out.size))
  have t0 := bA6.cell0
  have t1 := bA6.cell1
  have HA6 := Lib.hid bA6
  clear hb6 bA6
  go_wp2_with fail
  refine (leastf_yes (lo := 0) (hi := 3) HP6.out a5_ok (q_of _ (by decide) (by decide)) (q_of _ (by decide) (by decide))).mono ?_
  rintro e w7 ⟨rfl, hb7⟩
  rw [k2]
  have bA7 := box2_next hb7 HA6.out
  have HP7 := Lib.hid (HP6.out.below hb7 (Nat.le_refl _))
  have HB7 := Lib.hid (HB6.out.trans (hb7.mono HB6.out.size))
  have t0 := bA7.cell0
  have t1 := bA7.cell1
  have HA7 := Lib.hid bA7
  clear hb7 bA7
  go_wp2_with fail
  refine (leastf_yes (lo := 4) (hi := 4) HP7.out a5_ok (q_of _ (by decide) (by decide)) (q_of _ (by decide) (by decide))).mono ?_
  rintro e w8 ⟨rfl, hb8⟩
  rw [k3]
  have bA8 := box2_next hb8 HA7.out
  have HP8 := Lib.hid (HP7.out.below hb8 (Nat.le_refl _))
  have HB8 := Lib.hid (HB7.out.trans (hb8.mono HB7.out.size))
  have t0 := bA8.cell0
  have t1 := bA8.cell1
  clear hb8 bA8
  go_wp2_with fail
  refine (at_yes (t := 3) HP8.out a5_ok (q_of _ (by decide) (by decide))).mono ?_
  rintro e w9 ⟨rfl, hb9⟩
  rw [k4]
  have HB9 := Lib.hid (HB8.out.trans (hb9.mono HB8.out.size))
  clear hb9
  go_wp2
  go_ret
  exact ⟨rfl, HB9.out⟩
end Go.Proofs.Ytoofogmlodfgmaa.gn
