/- What Split answers (a premise until the code is here); the law's head. -/
import Derived.Test.YtiaidlpceibnpaaLaI
import Derived.Test.YtiaidlpceibnpaaLaM
import Derived.Great.Ranges
set_option linter.unusedVariables false
set_option linter.unusedSimpArgs false
namespace Go.Proofs.Ytiaidlpceibnpaa.gn
open Go.RowKit
open Go.Proofs.Ytiaidlpceibnpaa.la (OkW Qy tot)

def i64 (x : Int) : Prop := -9223372036854775808 ≤ x ∧ x ≤ 9223372036854775807
/-- What Split tells. -/
def SplitQ (w : World) (T : Int) (l : List Int) (en : Ending) (w' : World) : Prop := ∃ v a E, en = .returned (.tuple #[v, .int .i64 E]) ∧ RI w' v a ∧ Below w.heap.size w w' ∧ ((OkW T l ∧ E = 0 ∧ la.Fair T l a) ∨ (¬ OkW T l ∧ E = 2 ∧ a = []))
def SplitC : Prop := ∀ {w : World} {v : Value} {l : List Int}, RI w v l → (∀ x ∈ l, i64 x) → l.length ≤ 140737488355328 → ∀ T : Int, i64 T → Calls Try.prog 7 #[.int .i64 T, v] w (SplitQ w T l)

theorem fair_a : la.Fair 10 [3, 9, 9] [3, 4, 3] := la.fair_fill (T := 10) (v := 3) (l := [3, 9, 9]) (by decide) (by decide) (by decide) (.inr (by decide))
theorem fair_b : la.Fair 2 [5, 5, 5] [1, 1, 0] := la.fair_fill (T := 2) (v := 0) (l := [5, 5, 5]) (by decide) (by decide) (by decide) (.inr (by decide))
theorem ok_a : OkW 10 [3, 9, 9] := ⟨by decide, by unfold Qy; decide, by unfold Qy; decide⟩
theorem ok_b : OkW 2 [5, 5, 5] := ⟨by decide, by unfold Qy; decide, by unfold Qy; decide⟩
theorem no_c : ¬ OkW (-1) [] := fun h => by
  have := h.2.1.1
  omega
theorem ri3 {W : World} {k : Nat} {a b c : Int} (h : BoxA W k 2 #[.int .i64 a, .int .i64 b, .int .i64 c]) : RI W (.slice (some ⟨k, 0, none⟩) 3 3) [a, b, c] :=
  .inr ⟨k, 0, 3, rfl, BoxA.lt h, fun j u hu => by rw [Nat.zero_add]; exact BoxA.cell h j u (by simpa [ics] using hu)⟩
theorem ri_nil (W : World) : RI W (.slice none 0 0) [] := .inl ⟨none, 0, rfl, rfl, rfl, fun _ => rfl⟩
section
variable (SC : SplitC)
include SC
theorem h_a {w : World} {k : Nat} (h : BoxA w k 2 #[.int .i64 3, .int .i64 9, .int .i64 9]) : Calls Try.prog 7 #[.int .i64 10, .slice (some ⟨k, 0, none⟩) 3 3] w (fun en w' => ∃ v, en = .returned (.tuple #[v, .int .i64 0]) ∧ RI w' v [3, 4, 3] ∧ Below w.heap.size w w') :=
  (SC (ri3 h) (by unfold i64; decide) (by decide) 10 (by unfold i64; decide)).mono fun en w' hq => by
    obtain ⟨v, a, E, he, hr, hb, h1 | h1⟩ := hq
    · obtain ⟨_, rfl, hf⟩ := h1
      rw [la.uniq hf fair_a] at hr
      exact ⟨v, he, hr, hb⟩
    · exact absurd ok_a h1.1
theorem h_b {w : World} {k : Nat} (h : BoxA w k 2 #[.int .i64 5, .int .i64 5, .int .i64 5]) : Calls Try.prog 7 #[.int .i64 2, .slice (some ⟨k, 0, none⟩) 3 3] w (fun en w' => ∃ v, en = .returned (.tuple #[v, .int .i64 0]) ∧ RI w' v [1, 1, 0] ∧ Below w.heap.size w w') :=
  (SC (ri3 h) (by unfold i64; decide) (by decide) 2 (by unfold i64; decide)).mono fun en w' hq => by
    obtain ⟨v, a, E, he, hr, hb, h1 | h1⟩ := hq
    · obtain ⟨_, rfl, hf⟩ := h1
      rw [la.uniq hf fair_b] at hr
      exact ⟨v, he, hr, hb⟩
    · exact absurd ok_b h1.1
theorem h_c (w : World) : Calls Try.prog 7 #[.int .i64 (-1), .slice none 0 0] w (fun en w' => ∃ v, en = .returned (.tuple #[v, .int .i64 2]) ∧ Below w.heap.size w w') :=
  (SC (ri_nil w) (by simp) (by decide) (-1) (by unfold i64; decide)).mono fun en w' hq => by
    obtain ⟨v, a, E, he, hr, hb, h1 | h1⟩ := hq
    · exact absurd h1.1 no_c
    · obtain ⟨_, rfl, _⟩ := h1
      exact ⟨v, he, hb⟩
set_option maxRecDepth 100000 in
set_option maxHeartbeats 6400000 in
theorem laHead_any (w : World) : Calls Try.prog 6 #[] w (TellsM (.bool true) w) := by
  have HN1 := Lib.hid ((Below.refl _ w).alloc (Nat.le_refl w.heap.size) (.cells #[.int .i64 3, .int .i64 9, .int .i64 9] 2))
  have HX1 := Lib.hid (BoxA.new w 2 #[.int .i64 3, .int .i64 9, .int .i64 9])
  go_enter Try.func6, Try.ntmps6
  go_upto_region 2 with (go_at_call 7; ((with_reducible refine (h_a SC HX1.out).mono ?_); rintro e w1 ⟨v1, rfl, hr, hb⟩); have HR1 := Lib.hid hr; have A1 := Lib.hid (show Below w.heap.size w w1 from HN1.out.trans (hb.mono HN1.out.size)); clear hr hb)
  have HN2 := Lib.hid ((Below.refl _ w1).alloc (Nat.le_refl w1.heap.size) (.cells #[.int .i64 5, .int .i64 5, .int .i64 5] 2))
  have HX2 := Lib.hid (BoxA.new w1 2 #[.int .i64 5, .int .i64 5, .int .i64 5])
  go_upto_region 3 with (go_at_call 7; ((with_reducible refine (h_b SC HX2.out).mono ?_); rintro e w2 ⟨v2, rfl, hr, hb⟩); have HR2 := Lib.hid hr; have HB2 := Lib.hid (show Below w1.heap.size w1 w2 from HN2.out.trans (hb.mono HN2.out.size)); clear hr hb)
  go_upto_region 4 with (go_at_call 7; ((with_reducible refine (h_c SC _).mono ?_); rintro e w3 ⟨v3, rfl, hb⟩); have HB3 := Lib.hid hb; clear hb)
  have HN4 := Lib.hid ((Below.refl _ w3).alloc (Nat.le_refl w3.heap.size) (.cells #[.int .i64 3, .int .i64 4, .int .i64 3] 2))
  have HX4 := Lib.hid (BoxA.new w3 2 #[.int .i64 3, .int .i64 4, .int .i64 3])
  have HB13 := Lib.hid (HB2.out.trans (HB3.out.mono HB2.out.size))
  have HI1 := Lib.hid (dInts_any ((HR1.out.next HB13.out).next HN4.out) (ri3 HX4.out) (by decide) (by decide))
  rw [decide_eq_true rfl] at HI1
  go_wp2_with (go_at_call 8; (first
    | ((with_reducible refine HI1.out.mono ?_); rintro e w4 ⟨rfl, hb⟩; have HB4 := Lib.hid (HN4.out.trans (hb.mono HN4.out.size)); have HN5 := Lib.hid ((Below.refl _ w4).alloc (Nat.le_refl w4.heap.size) (.cells #[.int .i64 1, .int .i64 1, .int .i64 0] 2)); have HX5 := Lib.hid (BoxA.new w4 2 #[.int .i64 1, .int .i64 1, .int .i64 0]); have HI2 := Lib.hid (dInts_any (((HR2.out.next HB3.out).next HB4.out).next HN5.out) (ri3 HX5.out) (by decide) (by decide)); rw [decide_eq_true rfl] at HI2; clear hb)
    | ((with_reducible refine HI2.out.mono ?_); rintro e w5 ⟨rfl, hb⟩; have HB5 := Lib.hid (HN5.out.trans (hb.mono HN5.out.size)); clear hb)))
  go_ret
  have h13 := A1.out.trans (HB13.out.mono A1.out.size)
  have h14 := h13.trans (HB4.out.mono h13.size)
  exact ⟨rfl, h14.trans (HB5.out.mono h14.size)⟩
end
end Go.Proofs.Ytiaidlpceibnpaa.gn
