/- StepsLeast: the law's walk. -/
import Derived.Test.YtoofogmlodfgmaaStL1
import Derived.Deep.RegionHeld3
import Derived.Deep.DrawnRows
namespace Go.Proofs.Ytoofogmlodfgmaa.gn
open Go.RowKit Go.Shelf
open Go.Proofs.Ytoofogmlodfgmaa.sp
attribute [local go_sem ↓] Go.wp_at_zero Go.wp_at_succ

/-- A box of five cells. -/
def Box5 (W : World) (B : Nat) (t : TypeId) (u v x y z : Value) : Prop := W.heap[B]? = some (.cells #[u, v, x, y, z] t (0, 0))
theorem Box5.cell {W : World} {B : Nat} {t : TypeId} {u v x y z : Value} (h : Box5 W B t u v x y z) : W.cell? ⟨B, 0, none⟩ = some u ∧ W.cell? ⟨B, 1, none⟩ = some v ∧ W.cell? ⟨B, 2, none⟩ = some x ∧ W.cell? ⟨B, 3, none⟩ = some y ∧ W.cell? ⟨B, 4, none⟩ = some z := by
  simp [World.cell?, show W.heap[B]? = _ from h]
theorem Box5.lt {W : World} {B : Nat} {t : TypeId} {u v x y z : Value} (h : Box5 W B t u v x y z) : B < W.heap.size := (Array.getElem?_eq_some_iff.1 h).1
theorem Box5.new (W : World) (t : TypeId) (u v x y z : Value) : Box5 (W.alloc (.cells #[u, v, x, y, z] t)) W.heap.size t u v x y z := World.alloc_heap_new W _

/-- The window's numbers. -/
def fromOf (a : Nat) : Int := ((a % 200 : Nat) : Int)
def midOf (a b : Nat) : Int := ((a % 200 + b % 60 : Nat) : Int)
def toOf (a b c : Nat) : Int := ((a % 200 + b % 60 + c % 60 : Nat) : Int)

/-- The least number of two windows that meet. -/
theorem lst_min {L : List (Int × Int)} (hL : Ok L) {x y z : Int} (h0 : Q x) (h1 : Q y) (h2 : Q z) (h3 : x ≤ y) (h4 : y ≤ z) : lst L x z = min (lst L x y) (lst L y z) := by
  have a := lst_is hL h0 h2
  have b := lst_is hL h0 h1
  have c := lst_is hL h1 h2
  refine a.uniq ⟨fun t ht1 ht2 => ?_, ?_, ?_⟩
  · by_cases h : t < y
    · have := b.low t ht1 h; omega
    · have := c.low t (by omega) ht2; omega
  · by_cases hle : lst L x y ≤ lst L y z
    · rw [show min (lst L x y) (lst L y z) = lst L x y by omega]
      rcases b.is with e | ⟨t, h5, h6, e⟩
      · exact .inl e
      · exact .inr ⟨t, h5, by omega, e⟩
    · rw [show min (lst L x y) (lst L y z) = lst L y z by omega]
      rcases c.is with e | ⟨t, h5, h6, e⟩
      · exact .inl e
      · exact .inr ⟨t, by omega, h6, e⟩
  · have := b.top; omega
/-- With the numbers of all times in a window looked at, the least one has been seen. -/
theorem lst_seen {L : List (Int × Int)} (hL : Ok L) {x z : Int} (h0 : Q x) (h2 : Q z) (hlt : x < z) : ∃ t, x ≤ t ∧ t < z ∧ val L t = lst L x z := by
  have a := lst_is hL h0 h2
  rcases a.is with e | ⟨t, h5, h6, e⟩
  · refine ⟨x, Int.le_refl _, hlt, ?_⟩
    have h1 := a.low x (Int.le_refl _) hlt
    have h3 := (hL.val h0.1).2
    omega
  · exact ⟨t, h5, h6, e.symm⟩

/-- How StepsLeast stands: its profile's box. -/
structure SL (w : World) (g : Nat) (v1 v2 : Value) (at_ m : List Int) (W : World) : Prop where
  bS : Box2 W g 24 v1 v2
  hB : Below w.heap.size w W
  hP : Prof W (.agg #[v1, v2]) at_ m
theorem SL.next {w W W' : World} {g : Nat} {v1 v2 : Value} {at_ m : List Int} (h : SL w g v1 v2 at_ m W) (hb : Below W.heap.size W W') : SL w g v1 v2 at_ m W' :=
  ⟨box2_next hb h.bS, h.hB.trans (hb.mono h.hB.size), h.hP.below hb (Nat.le_refl _)⟩
theorem SL.drew {w W : World} {g : Nat} {v1 v2 : Value} {at_ m : List Int} (h : SL w g v1 v2 at_ m W) : SL w g v1 v2 at_ m W.drew := h.next (Below.refl _ W).drew

set_option maxHeartbeats 2000000 in
theorem least_early (v1 v2 : Value) (a1 a2 : Option Addr) (n1 n2 c1 c2 : Nat) (at_ m : List Int) (a b c : Nat) (w : World) (e1 : v1 = .slice a1 n1 c1) (e2 : v2 = .slice a2 n2 c2) (hP : Prof w (.agg #[v1, v2]) at_ m) (h : 60 < n1 ∨ 60 < n2) :
    Calls Try.prog 6 #[.agg #[v1, v2, .int .u8 (a : Int), .int .u8 (b : Int), .int .u8 (c : Int)]] w (Yes w) := by
  subst e1 e2
  have HG := Lib.hid fun W => great_yes a1 a2 n1 n2 c1 c2 h W
  clear h
  go_enter Try.func6, Try.ntmps6
  go_wp2
  obtain ⟨W0, hW0⟩ : ∃ W0, w.alloc (.cells #[.slice a1 n1 c1, .slice a2 n2 c2, .int .u8 (a : Int), .int .u8 (b : Int), .int .u8 (c : Int)] 49) = W0 := ⟨_, rfl⟩
  have bW : Box5 W0 w.heap.size 49 (.slice a1 n1 c1) (.slice a2 n2 c2) (.int .u8 (a : Int)) (.int .u8 (b : Int)) (.int .u8 (c : Int)) := by rw [← hW0]; exact Box5.new w _ _ _ _ _ _
  have hb0 : Below w.heap.size w W0 := by rw [← hW0]; exact (Below.refl _ _).alloc (Nat.le_refl _) _
  rw [hW0]
  clear hW0
  obtain ⟨g0, g1, g2, g3, g4⟩ := bW.cell
  have hlt := bW.lt
  have HP0 := Lib.hid (hP.below hb0 (Nat.le_refl _))
  have HB0 := Lib.hid hb0
  clear hP hb0 bW
  go_region_held3 (fun W => W.cell? ⟨w.heap.size, 0, none⟩ = some (.slice a1 n1 c1) ∧ W.cell? ⟨w.heap.size, 1, none⟩ = some (.slice a2 n2 c2) ∧ W.cell? ⟨w.heap.size, 2, none⟩ = some (.int .u8 (a : Int)) ∧ W.cell? ⟨w.heap.size, 3, none⟩ = some (.int .u8 (b : Int)) ∧ W.cell? ⟨w.heap.size, 4, none⟩ = some (.int .u8 (c : Int))) (go_keep) (fail)
  have bS := Box2.new W0 24 (.slice a1 n1 c1) (.slice a2 n2 c2)
  have hba := (Below.refl W0.heap.size W0).alloc (Nat.le_refl _) (.cells #[.slice a1 n1 c1, .slice a2 n2 c2] 24)
  have S0 := (SL.mk (w := w) bS (HB0.out.trans (hba.mono HB0.out.size)) (HP0.out.below hba (Nat.le_refl _))).drew
  obtain ⟨W1, hW1⟩ : ∃ W1, (W0.alloc (.cells #[.slice a1 n1 c1, .slice a2 n2 c2] 24)).drew = W1 := ⟨_, rfl⟩
  rw [hW1] at S0 ⊢
  clear hW1 hba bS g0 g1 g2 g3 g4 hlt
  generalize W0.heap.size = g at *
  have s0 := S0.bS.cell0
  have s1 := S0.bS.cell1
  have HS0 := Lib.hid S0
  clear S0
  go_wp2_with fail
  refine (HG.out _).mono ?_
  rintro e w1 ⟨rfl, hb1⟩
  have HS1 := Lib.hid (HS0.out.next hb1)
  clear hb1
  go_wp2_with fail
  refine (head_any _).mono ?_
  rintro e w2 ⟨rfl, hb2⟩
  have HS2 := Lib.hid (HS1.out.next hb2)
  clear hb2
  go_wp2
  go_ret
  exact ⟨rfl, HS2.out.hB⟩
set_option maxHeartbeats 2000000 in
theorem least_bad (v1 v2 : Value) (a1 a2 : Option Addr) (n1 n2 c1 c2 : Nat) (at_ m : List Int) (a b c : Nat) (w : World) (e1 : v1 = .slice a1 n1 c1) (e2 : v2 = .slice a2 n2 c2) (hP : Prof w (.agg #[v1, v2]) at_ m) (h1 : n1 ≤ 60) (h2 : n2 ≤ 60) (hno : ¬ OkP at_ m) :
    Calls Try.prog 6 #[.agg #[v1, v2, .int .u8 (a : Int), .int .u8 (b : Int), .int .u8 (c : Int)]] w (Yes w) := by
  subst e1 e2
  have HG := Lib.hid fun W => great_no a1 a2 n1 n2 c1 c2 h1 h2 W
  have HC := Lib.hid (chk_no hno)
  clear h1 h2 hno
  go_enter Try.func6, Try.ntmps6
  go_wp2
  obtain ⟨W0, hW0⟩ : ∃ W0, w.alloc (.cells #[.slice a1 n1 c1, .slice a2 n2 c2, .int .u8 (a : Int), .int .u8 (b : Int), .int .u8 (c : Int)] 49) = W0 := ⟨_, rfl⟩
  have bW : Box5 W0 w.heap.size 49 (.slice a1 n1 c1) (.slice a2 n2 c2) (.int .u8 (a : Int)) (.int .u8 (b : Int)) (.int .u8 (c : Int)) := by rw [← hW0]; exact Box5.new w _ _ _ _ _ _
  have hb0 : Below w.heap.size w W0 := by rw [← hW0]; exact (Below.refl _ _).alloc (Nat.le_refl _) _
  rw [hW0]
  clear hW0
  obtain ⟨g0, g1, g2, g3, g4⟩ := bW.cell
  have hlt := bW.lt
  have HP0 := Lib.hid (hP.below hb0 (Nat.le_refl _))
  have HB0 := Lib.hid hb0
  clear hP hb0 bW
  go_region_held3 (fun W => W.cell? ⟨w.heap.size, 0, none⟩ = some (.slice a1 n1 c1) ∧ W.cell? ⟨w.heap.size, 1, none⟩ = some (.slice a2 n2 c2) ∧ W.cell? ⟨w.heap.size, 2, none⟩ = some (.int .u8 (a : Int)) ∧ W.cell? ⟨w.heap.size, 3, none⟩ = some (.int .u8 (b : Int)) ∧ W.cell? ⟨w.heap.size, 4, none⟩ = some (.int .u8 (c : Int))) (go_keep) (fail)
  have bS := Box2.new W0 24 (.slice a1 n1 c1) (.slice a2 n2 c2)
  have hba := (Below.refl W0.heap.size W0).alloc (Nat.le_refl _) (.cells #[.slice a1 n1 c1, .slice a2 n2 c2] 24)
  have S0 := (SL.mk (w := w) bS (HB0.out.trans (hba.mono HB0.out.size)) (HP0.out.below hba (Nat.le_refl _))).drew
  obtain ⟨W1, hW1⟩ : ∃ W1, (W0.alloc (.cells #[.slice a1 n1 c1, .slice a2 n2 c2] 24)).drew = W1 := ⟨_, rfl⟩
  rw [hW1] at S0 ⊢
  clear hW1 hba bS g0 g1 g2 g3 g4 hlt
  generalize W0.heap.size = g at *
  have s0 := S0.bS.cell0
  have s1 := S0.bS.cell1
  have HS0 := Lib.hid S0
  clear S0
  go_wp2_with fail
  refine (HG.out _).mono ?_
  rintro e w1 ⟨rfl, hb1⟩
  have S1 := HS0.out.next hb1
  have s0 := S1.bS.cell0
  have s1 := S1.bS.cell1
  have HS1 := Lib.hid S1
  clear hb1 S1
  go_wp2_with fail
  refine (check_any HS1.out.hP).mono ?_
  rintro e w2 ⟨rfl, hb2⟩
  rw [HC.out]
  have HS2 := Lib.hid (HS1.out.next hb2)
  clear hb2
  go_wp2_with fail
  refine (head_any _).mono ?_
  rintro e w3 ⟨rfl, hb3⟩
  have HS3 := Lib.hid (HS2.out.next hb3)
  clear hb3
  go_wp2
  go_ret
  exact ⟨rfl, HS3.out.hB⟩
end Go.Proofs.Ytoofogmlodfgmaa.gn
