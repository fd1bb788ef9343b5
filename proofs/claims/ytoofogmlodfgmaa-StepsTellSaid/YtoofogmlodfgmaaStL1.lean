/- StepsSame: the law's walk. -/
import Derived.Test.YtoofogmlodfgmaaStZ
namespace Go.Proofs.Ytoofogmlodfgmaa.gn
open Go.RowKit Go.Shelf
open Go.Proofs.Ytoofogmlodfgmaa.sp

/-- A box of three cells. -/
def Box3 (W : World) (B : Nat) (t : TypeId) (u v x : Value) : Prop := W.heap[B]? = some (.cells #[u, v, x] t (0, 0))
theorem Box3.cell0 {W : World} {B : Nat} {t : TypeId} {u v x : Value} (h : Box3 W B t u v x) : W.cell? ⟨B, 0, none⟩ = some u := by simp [World.cell?, show W.heap[B]? = _ from h]
theorem Box3.cell1 {W : World} {B : Nat} {t : TypeId} {u v x : Value} (h : Box3 W B t u v x) : W.cell? ⟨B, 1, none⟩ = some v := by simp [World.cell?, show W.heap[B]? = _ from h]
theorem Box3.cell2 {W : World} {B : Nat} {t : TypeId} {u v x : Value} (h : Box3 W B t u v x) : W.cell? ⟨B, 2, none⟩ = some x := by simp [World.cell?, show W.heap[B]? = _ from h]
theorem Box3.lt {W : World} {B : Nat} {t : TypeId} {u v x : Value} (h : Box3 W B t u v x) : B < W.heap.size := (Array.getElem?_eq_some_iff.1 h).1
theorem Box3.next {W W' : World} {B : Nat} {t : TypeId} {u v x : Value} (hb : Below W.heap.size W W') (h : Box3 W B t u v x) : Box3 W' B t u v x := (hb.block B h.lt).trans h
theorem Box3.new (W : World) (t : TypeId) (u v x : Value) : Box3 (W.alloc (.cells #[u, v, x] t)) W.heap.size t u v x := World.alloc_heap_new W _

/-- How a law of a profile and a window stands. -/
structure St (w : World) (v1 v2 : Value) (at_ m : List Int) (lo hi n : Int) (W : World) : Prop where
  bS : Box2 W w.heap.size 24 v1 v2
  bW : Box3 W (w.heap.size + 1) 26 (.int .i64 lo) (.int .i64 hi) (.int .i64 n)
  hB : Below w.heap.size w W
  hP : Prof W (.agg #[v1, v2]) at_ m
theorem St.next {w W W' : World} {v1 v2 : Value} {at_ m : List Int} {lo hi n : Int} (h : St w v1 v2 at_ m lo hi n W) (hb : Below W.heap.size W W') : St w v1 v2 at_ m lo hi n W' :=
  ⟨box2_next hb h.bS, Box3.next hb h.bW, h.hB.trans (hb.mono h.hB.size), h.hP.below hb (Nat.le_refl _)⟩
theorem St.alloc {w W : World} {v1 v2 : Value} {at_ m : List Int} {lo hi n : Int} (h : St w v1 v2 at_ m lo hi n W) (o : Obj) : St w v1 v2 at_ m lo hi n (W.alloc o) := h.next ((Below.refl _ W).alloc (Nat.le_refl _) o)
theorem St.start (w : World) {v1 v2 : Value} {at_ m : List Int} (lo hi n : Int) (h : Prof w (.agg #[v1, v2]) at_ m) : St w v1 v2 at_ m lo hi n ((w.alloc (.cells #[v1, v2] 24)).alloc (.cells #[.int .i64 lo, .int .i64 hi, .int .i64 n] 26)) := by
  have hb : Below w.heap.size w ((w.alloc (.cells #[v1, v2] 24)).alloc (.cells #[.int .i64 lo, .int .i64 hi, .int .i64 n] 26)) := ((Below.refl _ _).alloc (Nat.le_refl _) _).alloc (by simp) _
  have hW := Box3.new (w.alloc (.cells #[v1, v2] 24)) 26 (.int .i64 lo) (.int .i64 hi) (.int .i64 n)
  rw [World.size_alloc] at hW
  exact ⟨(Box2.new w _ v1 v2).alloc _, hW, hb, h.below hb (Nat.le_refl _)⟩

/-- With so many given, and taken again, it is as it was; and in between it is not, if there was a time. -/
theorem back_val {L M : List (Int × Int)} {lo hi n : Int} (h : Turned L lo hi n M) {t : Int} (ht : 0 ≤ t) : more M lo hi (-n) t = val L t := by
  have e := h.val t ht
  unfold more at e ⊢
  rw [e]
  split <;> omega
theorem same_back {L M M' : List (Int × Int)} {lo hi n : Int} (h : Turned L lo hi n M) (h' : Turned M lo hi (-n) M') : samB L M' = true ∧ samB M' L = true := by
  have hv : ∀ t, Q t → val M' t = val L t := fun t ht => (h'.val t ht.1).trans (back_val h ht.1)
  exact ⟨samB_yes fun t ht => (hv t ht).symm, samB_yes hv⟩
theorem same_turn {L M : List (Int × Int)} {lo hi n : Int} (h : Turned L lo hi n M) (h0 : Q lo) (hn : Q n) : samB L M = !(decide (0 < n) && decide (lo < hi)) := by
  by_cases hc : 0 < n ∧ lo < hi
  · rw [samB_no fun hs => by
      have e := h.val lo h0.1
      have e2 := hs lo h0
      unfold more at e
      rw [if_pos ⟨Int.le_refl _, hc.2⟩] at e
      omega]
    rw [decide_eq_true hc.1, decide_eq_true hc.2]; rfl
  · rw [samB_yes fun t ht => by
      have e := h.val t ht.1
      unfold more at e
      split at e
      · have := hn.1; omega
      · omega]
    by_cases h1 : 0 < n
    · rw [decide_eq_false fun h2 => hc ⟨h1, h2⟩]; simp
    · rw [decide_eq_false h1]; simp

def Yes (w : World) (e : Ending) (w' : World) : Prop := e = .returned (.bool true) ∧ Below w.heap.size w w'

set_option maxHeartbeats 1000000 in
theorem same_early (v1 v2 : Value) (a1 a2 : Option Addr) (n1 n2 c1 c2 : Nat) (at_ m : List Int) (lo hi n : Int) (w : World) (e1 : v1 = .slice a1 n1 c1) (e2 : v2 = .slice a2 n2 c2) (hP : Prof w (.agg #[v1, v2]) at_ m) (h : 60 < n1 ∨ 60 < n2) :
    Calls Try.prog 7 #[.agg #[v1, v2], .agg #[.int .i64 lo, .int .i64 hi, .int .i64 n]] w (Yes w) := by
  have HS := Lib.hid (St.start w lo hi n hP)
  subst e1 e2
  have HG := Lib.hid fun W => great_yes a1 a2 n1 n2 c1 c2 h W
  clear h hP
  go_enter Try.func7, Try.ntmps7
  go_wp2_with fail
  refine (HG.out _).mono ?_
  rintro e w1 ⟨rfl, hb1⟩
  have HS1 := Lib.hid (HS.out.next hb1)
  clear hb1
  go_wp2_with fail
  refine (head_any _).mono ?_
  rintro e w2 ⟨rfl, hb2⟩
  have HS2 := Lib.hid (HS1.out.next hb2)
  clear hb2
  go_wp2
  go_ret
  exact ⟨rfl, HS2.out.hB⟩
set_option maxHeartbeats 1000000 in
theorem same_bad (v1 v2 : Value) (a1 a2 : Option Addr) (n1 n2 c1 c2 : Nat) (at_ m : List Int) (lo hi n : Int) (w : World) (e1 : v1 = .slice a1 n1 c1) (e2 : v2 = .slice a2 n2 c2) (hP : Prof w (.agg #[v1, v2]) at_ m) (h1 : n1 ≤ 60) (h2 : n2 ≤ 60) (hno : ¬ OkP at_ m) :
    Calls Try.prog 7 #[.agg #[v1, v2], .agg #[.int .i64 lo, .int .i64 hi, .int .i64 n]] w (Yes w) := by
  have HS := Lib.hid (St.start w lo hi n hP)
  subst e1 e2
  have HG := Lib.hid fun W => great_no a1 a2 n1 n2 c1 c2 h1 h2 W
  have HC := Lib.hid (chk_no hno)
  clear h1 h2 hP hno
  go_enter Try.func7, Try.ntmps7
  go_wp2_with fail
  refine (HG.out _).mono ?_
  rintro e w1 ⟨rfl, hb1⟩
  have S1 := HS.out.next hb1
  have s0 := S1.bS.cell0
  have s1 := S1.bS.cell1
  have HS1 := Lib.hid S1
  clear hb1 S1
  go_wp2_with fail
  refine (check_any HS1.out.hP).mono ?_
  rintro e w2 ⟨rfl, hb2⟩
  rw [HC.out]
  have HS2 := Lib.hid (HS1.out.next hb2)
  clear hb2
  go_wp2_with fail
  refine (head_any _).mono ?_
  rintro e w3 ⟨rfl, hb3⟩
  have HS3 := Lib.hid (HS2.out.next hb3)
  clear hb3
  go_wp2
  go_ret
  exact ⟨rfl, HS3.out.hB⟩
set_option maxHeartbeats 1000000 in
theorem same_unfine (v1 v2 : Value) (a1 a2 : Option Addr) (n1 n2 c1 c2 : Nat) (at_ m : List Int) (lo hi n : Int) (w : World) (e1 : v1 = .slice a1 n1 c1) (e2 : v2 = .slice a2 n2 c2) (hP : Prof w (.agg #[v1, v2]) at_ m) (h1 : n1 ≤ 60) (h2 : n2 ≤ 60) (hok : OkP at_ m) (hf : ¬ (Q lo ∧ Q hi ∧ Q n)) :
    Calls Try.prog 7 #[.agg #[v1, v2], .agg #[.int .i64 lo, .int .i64 hi, .int .i64 n]] w (Yes w) := by
  have HS := Lib.hid (St.start w lo hi n hP)
  subst e1 e2
  have HG := Lib.hid fun W => great_no a1 a2 n1 n2 c1 c2 h1 h2 W
  have HC := Lib.hid (chk_yes hok)
  have HF := Lib.hid (fine_no hf)
  clear h1 h2 hP hok hf
  go_enter Try.func7, Try.ntmps7
  go_wp2_with fail
  refine (HG.out _).mono ?_
  rintro e w1 ⟨rfl, hb1⟩
  have S1 := HS.out.next hb1
  have s0 := S1.bS.cell0
  have s1 := S1.bS.cell1
  have HS1 := Lib.hid S1
  clear hb1 S1
  go_wp2_with fail
  refine (check_any HS1.out.hP).mono ?_
  rintro e w2 ⟨rfl, hb2⟩
  rw [HC.out]
  have S2 := HS1.out.next hb2
  have t0 := S2.bW.cell0
  have t1 := S2.bW.cell1
  have t2 := S2.bW.cell2
  have HS2 := Lib.hid S2
  clear hb2 S2
  go_wp2_with fail
  refine (fine_any _ _ _ _).mono ?_
  rintro e w3 ⟨rfl, hb3⟩
  rw [HF.out]
  have HS3 := Lib.hid (HS2.out.next hb3)
  clear hb3
  go_wp2_with fail
  refine (head_any _).mono ?_
  rintro e w4 ⟨rfl, hb4⟩
  have HS4 := Lib.hid (HS3.out.next hb4)
  clear hb4
  go_wp2
  go_ret
  exact ⟨rfl, HS4.out.hB⟩
end Go.Proofs.Ytoofogmlodfgmaa.gn
