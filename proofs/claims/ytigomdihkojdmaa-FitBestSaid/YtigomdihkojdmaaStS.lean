/- slices.BinarySearch over rising numbers. -/
import Derived.Test.YtigomdihkojdmaaStB
namespace Go.Proofs.Ytigomdihkojdmaa.gn
open Go.RowKit Go.Shelf
open Go.Proofs.Ytigomdihkojdmaa.sp

theorem less_any (x y : Int) (w : World) : Calls Try.prog 50 #[.int .i64 x, .int .i64 y] w (SaysB (decide (x < y)) w) := by
  go_enter Try.func50, Try.ntmps50
  go_wp2
  go_ret
  exact ⟨rfl, rfl⟩
/-- Where t stands, or would. -/
def SaysAt (l : List Int) (t : Int) (w : World) (e : Ending) (w' : World) : Prop :=
  ∃ (i : Nat) (b : Bool), i ≤ l.length ∧ (∀ q (h : q < l.length), q < i → l[q] < t) ∧ (∀ q (h : q < l.length), i ≤ q → t ≤ l[q]) ∧ (b = true ↔ ∃ h : i < l.length, l[i] = t) ∧ e = .returned (.tuple #[.int .i64 (i : Int), .bool b]) ∧ w = w'
theorem search_some (b o cap : Nat) (l : List Int) (t : Int) (w : World) (hm : l.length ≤ 2002) (hs : l.Pairwise (· < ·)) (hc : ∀ j (h : j < l.length), w.cell? ⟨b, o + j, none⟩ = some (.int .i64 l[j])) :
    Calls Try.prog 46 #[.slice (some ⟨b, o, none⟩) l.length cap, .int .i64 t] w (SaysAt l t w) := by
  have HC := Lib.hid hc
  have HS := Lib.hid hs
  clear hc hs
  go_enter Try.func46, Try.ntmps46
  go_wp2
  go_loop [7, 8] (fun v7 v8 => ∃ i j : Nat, i ≤ j ∧ j ≤ l.length ∧ v7 = .int .i64 (i : Int) ∧ v8 = .int .i64 (j : Int) ∧ (∀ q (h : q < l.length), q < i → l[q] < t) ∧ (∀ q (h : q < l.length), j ≤ q → t ≤ l[q])) (fun v7 v8 => ((intOf v8) - (intOf v7)).toNat)
  case atStart => exact ⟨0, l.length, by omega, by omega, rfl, rfl, fun q _ h => by omega, fun q h h' => by omega⟩
  case round =>
    obtain ⟨i, j, hij, hj, rfl, rfl, hlo, hhi⟩ := hrel
    have HLo := Lib.hid hlo
    have HHi := Lib.hid hhi
    clear hlo hhi
    by_cases hlt : i < j
    · have hh : (i + j) / 2 < l.length := by omega
      have hcell := HC.out _ hh
      have hp : Hid (∀ q (h : q < l.length), (i + j) / 2 ≤ q → l[(i + j) / 2] ≤ l[q]) := fun q h h' => by
        rcases Nat.lt_or_eq_of_le h' with h3 | h3
        · have := List.pairwise_iff_getElem.1 HS.out _ _ hh h h3; omega
        · simp only [h3]; exact Int.le_refl _
      have hp2 : Hid (∀ q (h : q < l.length), q < (i + j) / 2 + 1 → l[q] ≤ l[(i + j) / 2]) := fun q h h' => by
        rcases Nat.lt_or_eq_of_le (Nat.le_of_lt_succ h') with h3 | h3
        · have := List.pairwise_iff_getElem.1 HS.out _ _ h hh h3; omega
        · simp only [h3]; exact Int.le_refl _
      have hmid : i ≤ (i + j) / 2 ∧ (i + j) / 2 < j := ⟨by omega, by omega⟩
      have HM := Lib.hid hmid
      clear hmid
      generalize hx : l[(i + j) / 2] = x at *
      clear hx
      by_cases hxt : x < t
      · have hd : decide (x < t) = true := decide_eq_true hxt
        have HX := Lib.hid hxt
        clear hxt
        go_wp2_with (go_at_call 50; ((with_reducible refine (less_any _ _ _).mono ?_); rintro e w' ⟨rfl, rfl⟩))
        go_round
        case rel => exact ⟨(i + j) / 2 + 1, j, by have := HM.out; omega, hj, by congr 1, rfl, fun q h h' => by have := hp2.out q h h'; have := HX.out; omega, HHi.out⟩
        case measure => have := HM.out; simp [intOf]; omega
      · have hd : decide (x < t) = false := decide_eq_false hxt
        have HX := Lib.hid hxt
        clear hxt
        go_wp2_with (go_at_call 50; ((with_reducible refine (less_any _ _ _).mono ?_); rintro e w' ⟨rfl, rfl⟩))
        go_round
        case rel => exact ⟨i, (i + j) / 2, by have := HM.out; omega, by have := HM.out; omega, rfl, by congr 1, HLo.out, fun q h h' => by have := hp.out q h h'; have := HX.out; omega⟩
        case measure => have := HM.out; simp [intOf]; omega
    · obtain rfl : i = j := by omega
      by_cases hlt2 : i < l.length
      · have hcell := HC.out i hlt2
        have hx : ∀ z, l[i] = z → (∃ h : i < l.length, l[i] = t) = (z = t) := fun z h => by
          subst h; exact propext ⟨fun ⟨_, h⟩ => h, fun h => ⟨hlt2, h⟩⟩
        generalize hz : l[i] = z at *
        have HE := Lib.hid (hx z rfl)
        have HZ := Lib.hid hz
        clear hx hz
        by_cases he : z = t
        · have hb : (z == t) = true := beq_iff_eq.2 he
          have hfin : Hid (∃ h : i < l.length, l[i] = t) := ⟨hlt2, by rw [HZ.out]; exact he⟩
          clear he
          go_wp2
          go_ret2
          exact ⟨i, true, hj, HLo.out, HHi.out, ⟨fun _ => hfin.out, fun _ => rfl⟩, rfl, rfl⟩
        · have hb : (z == t) = false := beq_eq_false_iff_ne.2 he
          have hfin : Hid (¬ ∃ h : i < l.length, l[i] = t) := fun ⟨_, h⟩ => by rw [HZ.out] at h; exact absurd h he
          clear he
          go_wp2
          go_ret2
          exact ⟨i, false, hj, HLo.out, HHi.out, ⟨fun h => (by cases h), fun h => absurd h hfin.out⟩, rfl, rfl⟩
      · have hfin : Hid (¬ ∃ h : i < l.length, l[i] = t) := fun ⟨h, _⟩ => absurd h hlt2
        go_wp2
        go_ret2
        exact ⟨i, false, hj, HLo.out, HHi.out, ⟨fun h => (by cases h), fun h => absurd h hfin.out⟩, rfl, rfl⟩
end Go.Proofs.Ytigomdihkojdmaa.gn
