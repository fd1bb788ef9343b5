/- The statements' own head: what it asks, in numbers. -/
import Derived.Test.YtigomdihkojdmaaFtQ
namespace Go.Proofs.Ytigomdihkojdmaa.gn
open Go.RowKit Go.Shelf
open Go.Proofs.Ytigomdihkojdmaa.sp
set_option linter.unusedSimpArgs false

def X1 : Shp := ⟨3, 10, 2, 4, 50, 1⟩
theorem q_le (n : Int) (h : (decide (0 ≤ n) && decide (n ≤ 1099511627776)) = true) : Q n := by simp at h; exact h
theorem x1_q : X1.Q := ⟨q_le _ (by decide), q_le _ (by decide), q_le _ (by decide), q_le _ (by decide), q_le _ (by decide), q_le _ (by decide)⟩
def M1 : Rm := alwM 4 100 2
theorem m1_ok : M1.Ok := alw_ok (q_le _ (by decide)) (q_le _ (by decide)) (q_le _ (by decide))
theorem s1_is : slot? M1 X1 5 = some ⟨5, 8, 18⟩ := by kernel_rfl
def M2 : Rm := ⟨[(0, 4), (8, 0), (18, 4)], [(0, 100), (5, 50), (20, 100)], [(0, 2), (5, 1), (8, 2), (18, 1), (20, 2)]⟩
theorem s2_is : slot? M2 X1 5 = some ⟨5, 18, 28⟩ := by kernel_rfl
/-- A profile that is always so, less what is taken of a window. -/
theorem turned3 {n lo hi d : Int} (hn : Q n) (hm : Q (n + d)) (hd : d ≠ 0) (h0 : 0 < lo) (h1 : lo < hi) (h2 : hi ≤ 1099511627776) : Turned [(0, n)] lo hi d [(0, n), (lo, n + d), (hi, n)] := by
  refine ⟨?_, ?_, ⟨n, by simp⟩, fun t ht => ?_, by simp⟩
  · simp [Norm]
    have := hn.1
    omega
  · intro p hp
    simp at hp
    rcases hp with rfl | rfl | rfl
    · exact ⟨⟨Int.le_refl _, by show (0 : Int) ≤ _; omega⟩, hn⟩
    · exact ⟨⟨by show 0 ≤ lo; omega, by show lo ≤ _; omega⟩, hm⟩
    · exact ⟨⟨by show 0 ≤ hi; omega, h2⟩, hn⟩
  · unfold more sp.val
    by_cases h3 : lo ≤ t
    · by_cases h4 : hi ≤ t
      · have h5 : ¬ t < hi := by omega
        simp [vf, h3, h4, ht, h5]
      · have h5 : t < hi := by omega
        simp [vf, h3, h4, ht, h5]
    · have h4 : ¬ hi ≤ t := by omega
      simp [vf, h3, h4, ht]
theorem turned5 : Turned [(0, 2), (5, 1), (8, 2)] 18 20 (-1) [(0, 2), (5, 1), (8, 2), (18, 1), (20, 2)] := by
  refine ⟨?_, ?_, ⟨2, by simp⟩, fun t ht => ?_, by simp⟩
  · simp [Norm]
  · intro p hp
    simp at hp
    rcases hp with rfl | rfl | rfl | rfl | rfl <;> exact ⟨q_le _ (by decide), q_le _ (by decide)⟩
  · unfold more sp.val
    by_cases h1 : (5 : Int) ≤ t
    · by_cases h2 : (8 : Int) ≤ t
      · by_cases h3 : (18 : Int) ≤ t
        · by_cases h4 : (20 : Int) ≤ t
          · have h5 : ¬ t < 20 := by omega
            simp [vf, h1, h2, h3, h4, ht, h5]
          · have h5 : t < 20 := by omega
            simp [vf, h1, h2, h3, h4, ht, h5]
        · have h4 : ¬ (20 : Int) ≤ t := by omega
          simp [vf, h1, h2, h3, h4, ht]
      · have h3 : ¬ (18 : Int) ≤ t := by omega
        have h4 : ¬ (20 : Int) ≤ t := by omega
        simp [vf, h1, h2, h3, h4, ht]
    · have h2 : ¬ (8 : Int) ≤ t := by omega
      have h3 : ¬ (18 : Int) ≤ t := by omega
      have h4 : ¬ (20 : Int) ≤ t := by omega
      simp [vf, h1, h2, h3, h4, ht]
theorem stg_is {y : Rm} (h : Stg (fun n => -n) M1 X1 ⟨5, 8, 18⟩ 4 y) : y = M2 := by
  obtain ⟨h1, ⟨M, hM, h2, h3⟩, h4⟩ := h
  have e1 := h1.uniq (turned3 (n := 100) (lo := 5) (hi := 20) (d := -50) (q_le _ (by decide)) (q_le _ (by decide)) (by decide) (by decide) (by decide) (by decide))
  have e4 := h4.uniq (turned3 (n := 4) (lo := 8) (hi := 18) (d := -4) (q_le _ (by decide)) (q_le _ (by decide)) (by decide) (by decide) (by decide) (by decide))
  have e2 := h2.uniq (turned3 (n := 2) (lo := 5) (hi := 8) (d := -1) (q_le _ (by decide)) (q_le _ (by decide)) (by decide) (by decide) (by decide) (by decide))
  subst e2
  have e3 := h3.uniq turned5
  obtain ⟨n, b, l⟩ := y
  have e1 : b = _ := e1
  have e3 : l = _ := e3
  have e4 : n = _ := e4
  rw [e1, e3, e4]
  rfl
theorem m1_slot : IsSlot M1 X1 ⟨5, 8, 18⟩ := (slot_some m1_ok x1_q (q_le _ (by decide)) s1_is).is
theorem m2_ok_of {y : Rm} (h : Stg (fun n => -n) M1 X1 ⟨5, 8, 18⟩ 4 y) (hy : y.Ok) : M2.Ok := by rw [← stg_is h]; exact hy

/-- The rows of the room behind Take. -/
def R2 : Rw := ⟨[0, 8, 18], [4, 0, 4], [0, 5, 20], [100, 50, 100], [0, 5, 8, 18, 20], [2, 1, 2, 1, 2]⟩
theorem r2_is : R2.Is M2 := ⟨rfl, rfl, rfl, rfl, rfl, rfl⟩
theorem r2_of {R : Rw} (h : R.Is M2) : R = R2 := by
  obtain ⟨a, b, c, d, e, f⟩ := R
  have h1 : a = _ := h.an
  have h2 : b = _ := h.nn
  have h3 : c = _ := h.ab
  have h4 : d = _ := h.nb
  have h5 : e = _ := h.al
  have h6 : f = _ := h.nl
  rw [h1, h2, h3, h4, h5, h6]
  rfl
abbrev x1V : Value := .agg #[.int .i64 3, .int .i64 10, .int .i64 2, .int .i64 4, .int .i64 50, .int .i64 1]
theorem head_slot {w : World} {v : Rv} (h : RoomV w v (alwR 4 100 2)) : Calls Try.prog 8 #[.agg v.c, x1V, .int .i64 5] w fun e w' => e = .returned (.tuple #[.agg #[.int .i64 5, .int .i64 8, .int .i64 18], .int .i64 0]) ∧ Below w.heap.size w w' := by
  have := slot_good (x := X1) (f := 5) h m1_ok (alw_is 4 100 2) x1_q (q_le _ (by decide))
  rwa [s1_is] at this
theorem head_take {w : World} {v : Rv} (h : RoomV w v (alwR 4 100 2)) : Calls Try.prog 10 #[.agg v.c, x1V, .agg #[.int .i64 5, .int .i64 8, .int .i64 18]] w fun e w' => ∃ v' : Rv, e = .returned (.tuple #[.agg v'.c, .int .i64 0]) ∧ RoomV w' v' R2 ∧ M2.Ok ∧ Below w.heap.size w w' := by
  refine (takeS_any (x := X1) (a := ⟨5, 8, 18⟩) h m1_ok (alw_is 4 100 2) x1_q (take_fine m1_ok x1_q m1_slot (by decide) (by decide) (by decide))).mono ?_
  rintro e w1 ⟨v', R', r', rfl, h1, h2, h3, h4, h5, _⟩
  have e1 := stg_is h1
  subst e1
  rw [r2_of h3] at h4
  exact ⟨v', rfl, h4, h2, h5⟩
theorem head_slot2 {w : World} {v : Rv} (h : RoomV w v R2) (hM : M2.Ok) : Calls Try.prog 8 #[.agg v.c, x1V, .int .i64 5] w fun e w' => e = .returned (.tuple #[.agg #[.int .i64 5, .int .i64 18, .int .i64 28], .int .i64 0]) ∧ Below w.heap.size w w' := by
  have := slot_good (x := X1) (f := 5) h hM r2_is x1_q (q_le _ (by decide))
  rwa [s2_is] at this
theorem head_is {w : World} {v : Rv} (h : RoomV w v R2) (hM : M2.Ok) : Calls Try.prog 9 #[.agg v.c, x1V, .agg #[.int .i64 5, .int .i64 18, .int .i64 28]] w (TellsB true w) := by
  have hs : IsSlot M2 X1 ⟨5, 18, 28⟩ := (slot_some hM x1_q (q_le _ (by decide)) s2_is).is
  have := is_any (x := X1) (a := ⟨5, 18, 28⟩) h
  rwa [(isB_of x1_q hM r2_is).2 hs] at this
/-- The profile of the head. -/
def P3 : List (Int × Int) := [(0, 5), (2, 2), (4, 5)]
theorem p3_ok : Ok P3 := (show Turned [(0, 5)] 2 4 (-3) P3 from turned3 (q_le _ (by decide)) (q_le _ (by decide)) (by decide) (by decide) (by decide) (by decide)).ok (by decide)
theorem f1_is : fst? P3 0 3 4 = some 4 := by kernel_rfl
theorem f2_is : fst? P3 0 2 4 = some 0 := by kernel_rfl
theorem f3_is : fst? P3 0 1 6 = none := by kernel_rfl
theorem head_first1 {w : World} {v : Value} (h : Prof w v [0, 2, 4] [5, 2, 5]) : Calls Try.prog 15 #[v, .int .i64 0, .int .i64 3, .int .i64 4] w fun e w' => e = .returned (.tuple #[.int .i64 4, .int .i64 0]) ∧ Below w.heap.size w w' := by
  have := First_yes (L := P3) (f := 0) (long := 3) (n := 4) h p3_ok (q_le _ (by decide)) (q_le _ (by decide)) (q_le _ (by decide))
  rwa [f1_is] at this
theorem head_first2 {w : World} {v : Value} (h : Prof w v [0, 2, 4] [5, 2, 5]) : Calls Try.prog 15 #[v, .int .i64 0, .int .i64 2, .int .i64 4] w fun e w' => e = .returned (.tuple #[.int .i64 0, .int .i64 0]) ∧ Below w.heap.size w w' := by
  have := First_yes (L := P3) (f := 0) (long := 2) (n := 4) h p3_ok (q_le _ (by decide)) (q_le _ (by decide)) (q_le _ (by decide))
  rwa [f2_is] at this
theorem head_first3 {w : World} {v : Value} (h : Prof w v [0, 2, 4] [5, 2, 5]) : Calls Try.prog 15 #[v, .int .i64 0, .int .i64 1, .int .i64 6] w fun e w' => e = .returned (.tuple #[.int .i64 0, .int .i64 7]) ∧ Below w.heap.size w w' := by
  have := First_yes (L := P3) (f := 0) (long := 1) (n := 6) h p3_ok (q_le _ (by decide)) (q_le _ (by decide)) (q_le _ (by decide))
  rwa [f3_is] at this
end Go.Proofs.Ytigomdihkojdmaa.gn
