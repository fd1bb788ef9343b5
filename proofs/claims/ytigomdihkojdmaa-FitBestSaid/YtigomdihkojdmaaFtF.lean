/- Whether a window fits. -/
import Derived.Test.YtigomdihkojdmaaFtE
namespace Go.Proofs.Ytigomdihkojdmaa.gn
open Go.RowKit Go.Shelf
open Go.Proofs.Ytigomdihkojdmaa.sp
attribute [local go_sem ↓] Go.wp_at_zero Go.wp_at_succ

/-- How fits stands. -/
structure FtB (w : World) (f l n : Int) (g : Nat) (p1 p2 p3 p4 p5 p6 : Option Addr) (q1 q2 q3 q4 q5 q6 r1 r2 r3 r4 r5 r6 : Nat) (R : Rw) (W : World) : Prop where
  bP : BoxA W w.heap.size 57 (prtC f l n g)
  bR : BoxA W (w.heap.size + 1) 26 #[.slice p1 q1 r1, .slice p2 q2 r2, .slice p3 q3 r3, .slice p4 q4 r4, .slice p5 q5 r5, .slice p6 q6 r6]
  hB : Below w.heap.size w W
  hR : RoomI W (.slice p1 q1 r1) (.slice p2 q2 r2) (.slice p3 q3 r3) (.slice p4 q4 r4) (.slice p5 q5 r5) (.slice p6 q6 r6) R
theorem FtB.next {w W W' : World} {f l n : Int} {g : Nat} {p1 p2 p3 p4 p5 p6 : Option Addr} {q1 q2 q3 q4 q5 q6 r1 r2 r3 r4 r5 r6 : Nat} {R : Rw} (h : FtB w f l n g p1 p2 p3 p4 p5 p6 q1 q2 q3 q4 q5 q6 r1 r2 r3 r4 r5 r6 R W) (hb : Below W.heap.size W W') : FtB w f l n g p1 p2 p3 p4 p5 p6 q1 q2 q3 q4 q5 q6 r1 r2 r3 r4 r5 r6 R W' :=
  ⟨h.bP.next hb, h.bR.next hb, h.hB.trans (hb.mono h.hB.size), h.hR.below hb⟩
theorem FtB.drew {w W : World} {f l n : Int} {g : Nat} {p1 p2 p3 p4 p5 p6 : Option Addr} {q1 q2 q3 q4 q5 q6 r1 r2 r3 r4 r5 r6 : Nat} {R : Rw} (h : FtB w f l n g p1 p2 p3 p4 p5 p6 q1 q2 q3 q4 q5 q6 r1 r2 r3 r4 r5 r6 R W) : FtB w f l n g p1 p2 p3 p4 p5 p6 q1 q2 q3 q4 q5 q6 r1 r2 r3 r4 r5 r6 R W.drew := h.next (Below.refl _ W).drew

set_option maxRecDepth 100000 in
set_option maxHeartbeats 2000000 in
theorem fits_l (f l n : Int) (p1 p2 p3 p4 p5 p6 : Option Addr) (q1 q2 q3 q4 q5 q6 r1 r2 r3 r4 r5 r6 : Nat) (R : Rw) (L : List (Int × Int)) (w : World)
    (hR : RoomI w (.slice p1 q1 r1) (.slice p2 q2 r2) (.slice p3 q3 r3) (.slice p4 q4 r4) (.slice p5 q5 r5) (.slice p6 q6 r6) R) (hL : Ok L) (h1 : R.al = L.map Prod.fst) (h2 : R.nl = L.map Prod.snd) (hf : Q f) (he : Q (f + l)) :
    Calls Try.prog 22 #[.agg (prtC f l n 32), .agg #[.slice p1 q1 r1, .slice p2 q2 r2, .slice p3 q3 r3, .slice p4 q4 r4, .slice p5 q5 r5, .slice p6 q6 r6]] w (TellsB (decide (n ≤ lst L f (f + l))) w) := by
  have hbs : -9223372036854775808 ≤ f + l ∧ f + l ≤ 9223372036854775807 := ⟨by have := he.1; omega, by have := he.2; omega⟩
  have HE := Lib.hid fun (W : World) => end_any f l n 32 W hbs.1 hbs.2
  have HP := Lib.hid fun (W : World) (v1 v2 : Value) (hp : Prof W (.agg #[v1, v2]) (L.map Prod.fst) (L.map Prod.snd)) => leastf_yes hp hL hf he
  have h9 : decide (f + l ≤ 1099511627776) = true := decide_eq_true he.2
  have HQ := Lib.hid (And.intro h1 (And.intro h2 (And.intro hf he)))
  have S0 : FtB w f l n 32 p1 p2 p3 p4 p5 p6 q1 q2 q3 q4 q5 q6 r1 r2 r3 r4 r5 r6 R ((w.alloc (.cells (prtC f l n 32) 57)).alloc (.cells #[.slice p1 q1 r1, .slice p2 q2 r2, .slice p3 q3 r3, .slice p4 q4 r4, .slice p5 q5 r5, .slice p6 q6 r6] 26)) := by
    have bR := BoxA.new (w.alloc (.cells (prtC f l n 32) 57)) 26 #[.slice p1 q1 r1, .slice p2 q2 r2, .slice p3 q3 r3, .slice p4 q4 r4, .slice p5 q5 r5, .slice p6 q6 r6]
    rw [World.size_alloc] at bR
    have hb := ((Below.refl w.heap.size w).alloc (Nat.le_refl _) (.cells (prtC f l n 32) 57)).alloc (by simp) (.cells #[.slice p1 q1 r1, .slice p2 q2 r2, .slice p3 q3 r3, .slice p4 q4 r4, .slice p5 q5 r5, .slice p6 q6 r6] 26)
    exact ⟨(BoxA.new w _ _).alloc _, bR, hb, hR.below hb⟩
  have HS0 := Lib.hid S0
  clear hR hL h1 h2 hf he hbs S0
  unfold prtC at HS0 HE ⊢
  go_enter Try.func22, Try.ntmps22
  go_wp2_with fail
  obtain ⟨W0, hW0⟩ : ∃ W0, ((w.alloc (.cells #[.int .i64 f, .int .i64 l, .int .i64 n, .func (.func 32) #[] #[]] 57)).alloc (.cells #[.slice p1 q1 r1, .slice p2 q2 r2, .slice p3 q3 r3, .slice p4 q4 r4, .slice p5 q5 r5, .slice p6 q6 r6] 26)) = W0 := ⟨_, rfl⟩
  have S0 := HS0.out
  unfold prtC at S0
  rw [hW0] at S0 ⊢
  clear hW0 HS0
  replace S0 := S0.drew
  have c0 := S0.bP.cell 0 (.int .i64 f)
  have c1 := S0.bP.cell 1 (.int .i64 l)
  have c2 := S0.bP.cell 2 (.int .i64 n)
  have c3 := S0.bP.cell 3 (.func (.func 32) #[] #[])
  have d4 := S0.bR.cell 4 (.slice p5 q5 r5)
  have d5 := S0.bR.cell 5 (.slice p6 q6 r6)
  have HS := Lib.hid S0
  clear S0
  go_region_held3 (fun W => W.cell? ⟨w.heap.size, 0, none⟩ = some (.int .i64 f) ∧ W.cell? ⟨w.heap.size, 1, none⟩ = some (.int .i64 l) ∧ W.cell? ⟨w.heap.size, 2, none⟩ = some (.int .i64 n) ∧ W.cell? ⟨w.heap.size, 3, none⟩ = some (.func (.func 32) #[] #[]) ∧ W.cell? ⟨w.heap.size + 1, 4, none⟩ = some (.slice p5 q5 r5) ∧ W.cell? ⟨w.heap.size + 1, 5, none⟩ = some (.slice p6 q6 r6)) (go_keep)
    (first
      | (go_at_call 20; refine (HE.out _).mono ?_; rintro e w4 ⟨rfl, hb4⟩; have S1 := HS.out.next hb4; have c0 := S1.bP.cell 0 (.int .i64 f); have c1 := S1.bP.cell 1 (.int .i64 l); have c2 := S1.bP.cell 2 (.int .i64 n); have c3 := S1.bP.cell 3 (.func (.func 32) #[] #[]); have d4 := S1.bR.cell 4 (.slice p5 q5 r5); have d5 := S1.bR.cell 5 (.slice p6 q6 r6); have HS := Lib.hid S1; clear hb4 S1)
      | (go_at_call 32; refine (lanes_any _ _).mono ?_; rintro e w5 ⟨rfl, rfl⟩)
      | (go_at_call 37; refine (HP.out _ _ _ (by have := HS.out.hR.l; rw [HQ.out.1, HQ.out.2.1] at this; exact this)).mono ?_; rintro e w6 ⟨rfl, hb6⟩; have S2 := HS.out.next hb6; have c0 := S2.bP.cell 0 (.int .i64 f); have c1 := S2.bP.cell 1 (.int .i64 l); have c2 := S2.bP.cell 2 (.int .i64 n); have c3 := S2.bP.cell 3 (.func (.func 32) #[] #[]); have d4 := S2.bR.cell 4 (.slice p5 q5 r5); have d5 := S2.bR.cell 5 (.slice p6 q6 r6); have HS := Lib.hid S2; clear hb6 S2))
  all_goals
    go_wp2
    go_ret
    exact ⟨rfl, HS.out.hB⟩
set_option maxRecDepth 100000 in
set_option maxHeartbeats 2000000 in
theorem fits_n (f l n : Int) (p1 p2 p3 p4 p5 p6 : Option Addr) (q1 q2 q3 q4 q5 q6 r1 r2 r3 r4 r5 r6 : Nat) (R : Rw) (L : List (Int × Int)) (w : World)
    (hR : RoomI w (.slice p1 q1 r1) (.slice p2 q2 r2) (.slice p3 q3 r3) (.slice p4 q4 r4) (.slice p5 q5 r5) (.slice p6 q6 r6) R) (hL : Ok L) (h1 : R.an = L.map Prod.fst) (h2 : R.nn = L.map Prod.snd) (hf : Q f) (he : Q (f + l)) :
    Calls Try.prog 22 #[.agg (prtC f l n 33), .agg #[.slice p1 q1 r1, .slice p2 q2 r2, .slice p3 q3 r3, .slice p4 q4 r4, .slice p5 q5 r5, .slice p6 q6 r6]] w (TellsB (decide (n ≤ lst L f (f + l))) w) := by
  have hbs : -9223372036854775808 ≤ f + l ∧ f + l ≤ 9223372036854775807 := ⟨by have := he.1; omega, by have := he.2; omega⟩
  have HE := Lib.hid fun (W : World) => end_any f l n 33 W hbs.1 hbs.2
  have HP := Lib.hid fun (W : World) (v1 v2 : Value) (hp : Prof W (.agg #[v1, v2]) (L.map Prod.fst) (L.map Prod.snd)) => leastf_yes hp hL hf he
  have h9 : decide (f + l ≤ 1099511627776) = true := decide_eq_true he.2
  have HQ := Lib.hid (And.intro h1 (And.intro h2 (And.intro hf he)))
  have S0 : FtB w f l n 33 p1 p2 p3 p4 p5 p6 q1 q2 q3 q4 q5 q6 r1 r2 r3 r4 r5 r6 R ((w.alloc (.cells (prtC f l n 33) 57)).alloc (.cells #[.slice p1 q1 r1, .slice p2 q2 r2, .slice p3 q3 r3, .slice p4 q4 r4, .slice p5 q5 r5, .slice p6 q6 r6] 26)) := by
    have bR := BoxA.new (w.alloc (.cells (prtC f l n 33) 57)) 26 #[.slice p1 q1 r1, .slice p2 q2 r2, .slice p3 q3 r3, .slice p4 q4 r4, .slice p5 q5 r5, .slice p6 q6 r6]
    rw [World.size_alloc] at bR
    have hb := ((Below.refl w.heap.size w).alloc (Nat.le_refl _) (.cells (prtC f l n 33) 57)).alloc (by simp) (.cells #[.slice p1 q1 r1, .slice p2 q2 r2, .slice p3 q3 r3, .slice p4 q4 r4, .slice p5 q5 r5, .slice p6 q6 r6] 26)
    exact ⟨(BoxA.new w _ _).alloc _, bR, hb, hR.below hb⟩
  have HS0 := Lib.hid S0
  clear hR hL h1 h2 hf he hbs S0
  unfold prtC at HS0 HE ⊢
  go_enter Try.func22, Try.ntmps22
  go_wp2_with fail
  obtain ⟨W0, hW0⟩ : ∃ W0, ((w.alloc (.cells #[.int .i64 f, .int .i64 l, .int .i64 n, .func (.func 33) #[] #[]] 57)).alloc (.cells #[.slice p1 q1 r1, .slice p2 q2 r2, .slice p3 q3 r3, .slice p4 q4 r4, .slice p5 q5 r5, .slice p6 q6 r6] 26)) = W0 := ⟨_, rfl⟩
  have S0 := HS0.out
  unfold prtC at S0
  rw [hW0] at S0 ⊢
  clear hW0 HS0
  replace S0 := S0.drew
  have c0 := S0.bP.cell 0 (.int .i64 f)
  have c1 := S0.bP.cell 1 (.int .i64 l)
  have c2 := S0.bP.cell 2 (.int .i64 n)
  have c3 := S0.bP.cell 3 (.func (.func 33) #[] #[])
  have d4 := S0.bR.cell 0 (.slice p1 q1 r1)
  have d5 := S0.bR.cell 1 (.slice p2 q2 r2)
  have HS := Lib.hid S0
  clear S0
  go_region_held3 (fun W => W.cell? ⟨w.heap.size, 0, none⟩ = some (.int .i64 f) ∧ W.cell? ⟨w.heap.size, 1, none⟩ = some (.int .i64 l) ∧ W.cell? ⟨w.heap.size, 2, none⟩ = some (.int .i64 n) ∧ W.cell? ⟨w.heap.size, 3, none⟩ = some (.func (.func 33) #[] #[]) ∧ W.cell? ⟨w.heap.size + 1, 0, none⟩ = some (.slice p1 q1 r1) ∧ W.cell? ⟨w.heap.size + 1, 1, none⟩ = some (.slice p2 q2 r2)) (go_keep)
    (first
      | (go_at_call 20; refine (HE.out _).mono ?_; rintro e w4 ⟨rfl, hb4⟩; have S1 := HS.out.next hb4; have c0 := S1.bP.cell 0 (.int .i64 f); have c1 := S1.bP.cell 1 (.int .i64 l); have c2 := S1.bP.cell 2 (.int .i64 n); have c3 := S1.bP.cell 3 (.func (.func 33) #[] #[]); have d4 := S1.bR.cell 0 (.slice p1 q1 r1); have d5 := S1.bR.cell 1 (.slice p2 q2 r2); have HS := Lib.hid S1; clear hb4 S1)
      | (go_at_call 33; refine (nodes_any _ _).mono ?_; rintro e w5 ⟨rfl, rfl⟩)
      | (go_at_call 37; refine (HP.out _ _ _ (by have := HS.out.hR.n; rw [HQ.out.1, HQ.out.2.1] at this; exact this)).mono ?_; rintro e w6 ⟨rfl, hb6⟩; have S2 := HS.out.next hb6; have c0 := S2.bP.cell 0 (.int .i64 f); have c1 := S2.bP.cell 1 (.int .i64 l); have c2 := S2.bP.cell 2 (.int .i64 n); have c3 := S2.bP.cell 3 (.func (.func 33) #[] #[]); have d4 := S2.bR.cell 0 (.slice p1 q1 r1); have d5 := S2.bR.cell 1 (.slice p2 q2 r2); have HS := Lib.hid S2; clear hb6 S2))
  all_goals
    go_wp2
    go_ret
    exact ⟨rfl, HS.out.hB⟩
set_option maxRecDepth 100000 in
set_option maxHeartbeats 2000000 in
theorem fits_b (f l n : Int) (p1 p2 p3 p4 p5 p6 : Option Addr) (q1 q2 q3 q4 q5 q6 r1 r2 r3 r4 r5 r6 : Nat) (R : Rw) (L : List (Int × Int)) (w : World)
    (hR : RoomI w (.slice p1 q1 r1) (.slice p2 q2 r2) (.slice p3 q3 r3) (.slice p4 q4 r4) (.slice p5 q5 r5) (.slice p6 q6 r6) R) (hL : Ok L) (h1 : R.ab = L.map Prod.fst) (h2 : R.nb = L.map Prod.snd) (hf : Q f) (he : Q (f + l)) :
    Calls Try.prog 22 #[.agg (prtC f l n 34), .agg #[.slice p1 q1 r1, .slice p2 q2 r2, .slice p3 q3 r3, .slice p4 q4 r4, .slice p5 q5 r5, .slice p6 q6 r6]] w (TellsB (decide (n ≤ lst L f (f + l))) w) := by
  have hbs : -9223372036854775808 ≤ f + l ∧ f + l ≤ 9223372036854775807 := ⟨by have := he.1; omega, by have := he.2; omega⟩
  have HE := Lib.hid fun (W : World) => end_any f l n 34 W hbs.1 hbs.2
  have HP := Lib.hid fun (W : World) (v1 v2 : Value) (hp : Prof W (.agg #[v1, v2]) (L.map Prod.fst) (L.map Prod.snd)) => leastf_yes hp hL hf he
  have h9 : decide (f + l ≤ 1099511627776) = true := decide_eq_true he.2
  have HQ := Lib.hid (And.intro h1 (And.intro h2 (And.intro hf he)))
  have S0 : FtB w f l n 34 p1 p2 p3 p4 p5 p6 q1 q2 q3 q4 q5 q6 r1 r2 r3 r4 r5 r6 R ((w.alloc (.cells (prtC f l n 34) 57)).alloc (.cells #[.slice p1 q1 r1, .slice p2 q2 r2, .slice p3 q3 r3, .slice p4 q4 r4, .slice p5 q5 r5, .slice p6 q6 r6] 26)) := by
    have bR := BoxA.new (w.alloc (.cells (prtC f l n 34) 57)) 26 #[.slice p1 q1 r1, .slice p2 q2 r2, .slice p3 q3 r3, .slice p4 q4 r4, .slice p5 q5 r5, .slice p6 q6 r6]
    rw [World.size_alloc] at bR
    have hb := ((Below.refl w.heap.size w).alloc (Nat.le_refl _) (.cells (prtC f l n 34) 57)).alloc (by simp) (.cells #[.slice p1 q1 r1, .slice p2 q2 r2, .slice p3 q3 r3, .slice p4 q4 r4, .slice p5 q5 r5, .slice p6 q6 r6] 26)
    exact ⟨(BoxA.new w _ _).alloc _, bR, hb, hR.below hb⟩
  have HS0 := Lib.hid S0
  clear hR hL h1 h2 hf he hbs S0
  unfold prtC at HS0 HE ⊢
  go_enter Try.func22, Try.ntmps22
  go_wp2_with fail
  obtain ⟨W0, hW0⟩ : ∃ W0, ((w.alloc (.cells #[.int .i64 f, .int .i64 l, .int .i64 n, .func (.func 34) #[] #[]] 57)).alloc (.cells #[.slice p1 q1 r1, .slice p2 q2 r2, .slice p3 q3 r3, .slice p4 q4 r4, .slice p5 q5 r5, .slice p6 q6 r6] 26)) = W0 := ⟨_, rfl⟩
  have S0 := HS0.out
  unfold prtC at S0
  rw [hW0] at S0 ⊢
  clear hW0 HS0
  replace S0 := S0.drew
  have c0 := S0.bP.cell 0 (.int .i64 f)
  have c1 := S0.bP.cell 1 (.int .i64 l)
  have c2 := S0.bP.cell 2 (.int .i64 n)
  have c3 := S0.bP.cell 3 (.func (.func 34) #[] #[])
  have d4 := S0.bR.cell 2 (.slice p3 q3 r3)
  have d5 := S0.bR.cell 3 (.slice p4 q4 r4)
  have HS := Lib.hid S0
  clear S0
  go_region_held3 (fun W => W.cell? ⟨w.heap.size, 0, none⟩ = some (.int .i64 f) ∧ W.cell? ⟨w.heap.size, 1, none⟩ = some (.int .i64 l) ∧ W.cell? ⟨w.heap.size, 2, none⟩ = some (.int .i64 n) ∧ W.cell? ⟨w.heap.size, 3, none⟩ = some (.func (.func 34) #[] #[]) ∧ W.cell? ⟨w.heap.size + 1, 2, none⟩ = some (.slice p3 q3 r3) ∧ W.cell? ⟨w.heap.size + 1, 3, none⟩ = some (.slice p4 q4 r4)) (go_keep)
    (first
      | (go_at_call 20; refine (HE.out _).mono ?_; rintro e w4 ⟨rfl, hb4⟩; have S1 := HS.out.next hb4; have c0 := S1.bP.cell 0 (.int .i64 f); have c1 := S1.bP.cell 1 (.int .i64 l); have c2 := S1.bP.cell 2 (.int .i64 n); have c3 := S1.bP.cell 3 (.func (.func 34) #[] #[]); have d4 := S1.bR.cell 2 (.slice p3 q3 r3); have d5 := S1.bR.cell 3 (.slice p4 q4 r4); have HS := Lib.hid S1; clear hb4 S1)
      | (go_at_call 34; refine (bytes_any _ _).mono ?_; rintro e w5 ⟨rfl, rfl⟩)
      | (go_at_call 37; refine (HP.out _ _ _ (by have := HS.out.hR.b; rw [HQ.out.1, HQ.out.2.1] at this; exact this)).mono ?_; rintro e w6 ⟨rfl, hb6⟩; have S2 := HS.out.next hb6; have c0 := S2.bP.cell 0 (.int .i64 f); have c1 := S2.bP.cell 1 (.int .i64 l); have c2 := S2.bP.cell 2 (.int .i64 n); have c3 := S2.bP.cell 3 (.func (.func 34) #[] #[]); have d4 := S2.bR.cell 2 (.slice p3 q3 r3); have d5 := S2.bR.cell 3 (.slice p4 q4 r4); have HS := Lib.hid S2; clear hb6 S2))
  all_goals
    go_wp2
    go_ret
    exact ⟨rfl, HS.out.hB⟩
set_option maxRecDepth 100000 in
set_option maxHeartbeats 2000000 in
theorem fits_far (g : Nat) (f l n : Int) (p1 p2 p3 p4 p5 p6 : Option Addr) (q1 q2 q3 q4 q5 q6 r1 r2 r3 r4 r5 r6 : Nat) (R : Rw) (w : World)
    (hR : RoomI w (.slice p1 q1 r1) (.slice p2 q2 r2) (.slice p3 q3 r3) (.slice p4 q4 r4) (.slice p5 q5 r5) (.slice p6 q6 r6) R) (he : 1099511627776 < f + l) (he2 : f + l ≤ 9223372036854775807) :
    Calls Try.prog 22 #[.agg (prtC f l n g), .agg #[.slice p1 q1 r1, .slice p2 q2 r2, .slice p3 q3 r3, .slice p4 q4 r4, .slice p5 q5 r5, .slice p6 q6 r6]] w (TellsB false w) := by
  have h9 : decide (f + l ≤ 1099511627776) = false := decide_eq_false (by omega)
  have HE := Lib.hid fun (W : World) => end_any f l n g W (by omega) (by omega)
  have S0 : FtB w f l n g p1 p2 p3 p4 p5 p6 q1 q2 q3 q4 q5 q6 r1 r2 r3 r4 r5 r6 R ((w.alloc (.cells (prtC f l n g) 57)).alloc (.cells #[.slice p1 q1 r1, .slice p2 q2 r2, .slice p3 q3 r3, .slice p4 q4 r4, .slice p5 q5 r5, .slice p6 q6 r6] 26)) := by
    have bR := BoxA.new (w.alloc (.cells (prtC f l n g) 57)) 26 #[.slice p1 q1 r1, .slice p2 q2 r2, .slice p3 q3 r3, .slice p4 q4 r4, .slice p5 q5 r5, .slice p6 q6 r6]
    rw [World.size_alloc] at bR
    have hb := ((Below.refl w.heap.size w).alloc (Nat.le_refl _) (.cells (prtC f l n g) 57)).alloc (by simp) (.cells #[.slice p1 q1 r1, .slice p2 q2 r2, .slice p3 q3 r3, .slice p4 q4 r4, .slice p5 q5 r5, .slice p6 q6 r6] 26)
    exact ⟨(BoxA.new w _ _).alloc _, bR, hb, hR.below hb⟩
  have HS0 := Lib.hid S0
  clear hR S0
  unfold prtC at HS0 HE ⊢
  go_enter Try.func22, Try.ntmps22
  go_wp2_with fail
  obtain ⟨W0, hW0⟩ : ∃ W0, ((w.alloc (.cells #[.int .i64 f, .int .i64 l, .int .i64 n, .func (.func g) #[] #[]] 57)).alloc (.cells #[.slice p1 q1 r1, .slice p2 q2 r2, .slice p3 q3 r3, .slice p4 q4 r4, .slice p5 q5 r5, .slice p6 q6 r6] 26)) = W0 := ⟨_, rfl⟩
  have S0 := HS0.out
  unfold prtC at S0
  rw [hW0] at S0 ⊢
  clear hW0 HS0
  replace S0 := S0.drew
  have c0 := S0.bP.cell 0 (.int .i64 f)
  have c1 := S0.bP.cell 1 (.int .i64 l)
  have c2 := S0.bP.cell 2 (.int .i64 n)
  have c3 := S0.bP.cell 3 (.func (.func g) #[] #[])
  have HS := Lib.hid S0
  clear S0
  refine wp_region_held_drew (S := (fun W => W.cell? ⟨w.heap.size, 0, none⟩ = some (.int .i64 f) ∧ W.cell? ⟨w.heap.size, 1, none⟩ = some (.int .i64 l) ∧ W.cell? ⟨w.heap.size, 2, none⟩ = some (.int .i64 n) ∧ W.cell? ⟨w.heap.size, 3, none⟩ = some (.func (.func g) #[] #[]))) (by kernel_rfl) (by first | (go_keep; done) | (dsimp only; go_keep)) (fun hHeld => ?_)
  refine wpAnyH_take (i := 0) (v := ?_) (ata at0) (by kernel_rfl) (by kernel_rfl) (by kernel_rfl) (fun _ _ _ h => h) (Or.inl ⟨by rfl, ?_⟩) (by assumption) ?_
  rotate_left
  · (intro w hSw; (try dsimp only at hSw); go_simp; (first | done | with_reducible rfl))
  try simp only [Act.put, List.setIfInBounds_toArray, List.set_cons_zero, List.set_cons_succ]
  refine wpAnyH_ready (rs := [1]) (by kernel_rfl) (by simp) ?_
  refine AllReadyH.cons (ata (atS at0)) (fun K hK => ?_) AllReadyH.nil
  go_simp
  (go_at_call 20; refine (HE.out _).mono ?_; rintro e w4 ⟨rfl, hb4⟩; have S1 := HS.out.next hb4; have c0 := S1.bP.cell 0 (.int .i64 f); have c1 := S1.bP.cell 1 (.int .i64 l); have c2 := S1.bP.cell 2 (.int .i64 n); have c3 := S1.bP.cell 3 (.func (.func g) #[] #[]); have HS := Lib.hid S1; clear hb4 S1)
  go_wp2_with fail
  refine hK.out _ _ (by first | (go_keep; done) | (dsimp only; go_keep)) (fun hHeld => ?_)
  clear hK K
  try simp only [Act.put, List.setIfInBounds_toArray, List.set_cons_zero, List.set_cons_succ]
  refine wpAnyH_take (i := 2) (v := ?_) (ata (atS (atS at0))) (by kernel_rfl) (by kernel_rfl) (by kernel_rfl) (fun _ _ _ h => h) (Or.inl ⟨by rfl, ?_⟩) (by assumption) ?_
  rotate_left
  · (intro w hSw; (try dsimp only at hSw); go_simp; (first | done | with_reducible rfl))
  try simp only [Act.put, List.setIfInBounds_toArray, List.set_cons_zero, List.set_cons_succ]
  refine wpAnyH_take (i := 3) (v := ?_) (ata (atS (atS (atS at0)))) (by kernel_rfl) (by kernel_rfl) (by kernel_rfl) (fun _ _ _ h => h) (Or.inl ⟨by rfl, ?_⟩) (by assumption) ?_
  rotate_left
  · (intro w hSw; (try dsimp only at hSw); go_simp; (first | done | with_reducible rfl))
  try simp only [Act.put, List.setIfInBounds_toArray, List.set_cons_zero, List.set_cons_succ]
  refine wpAnyH_take (i := 4) (v := undef) (ata (atS (atS (atS (atS at0))))) (by kernel_rfl) (by kernel_rfl) (by kernel_rfl) (fun _ _ _ h => h) (Or.inr ⟨by rfl, rfl⟩) (by assumption) ?_
  try simp only [Act.put, List.setIfInBounds_toArray, List.set_cons_zero, List.set_cons_succ]
  refine wpAnyH_take (i := 5) (v := undef) (ata (atS (atS (atS (atS (atS at0)))))) (by kernel_rfl) (by kernel_rfl) (by kernel_rfl) (fun _ _ _ h => h) (Or.inr ⟨by rfl, rfl⟩) (by assumption) ?_
  try simp only [Act.put, List.setIfInBounds_toArray, List.set_cons_zero, List.set_cons_succ]
  refine wpAnyH_take (i := 6) (v := undef) (ata (atS (atS (atS (atS (atS (atS at0))))))) (by kernel_rfl) (by kernel_rfl) (by kernel_rfl) (fun _ _ _ h => h) (Or.inr ⟨by rfl, rfl⟩) (by assumption) ?_
  try simp only [Act.put, List.setIfInBounds_toArray, List.set_cons_zero, List.set_cons_succ]
  refine wpAnyH_take (i := 7) (v := undef) (ata (atS (atS (atS (atS (atS (atS (atS at0)))))))) (by kernel_rfl) (by kernel_rfl) (by kernel_rfl) (fun _ _ _ h => h) (Or.inr ⟨by rfl, rfl⟩) (by assumption) ?_
  try simp only [Act.put, List.setIfInBounds_toArray, List.set_cons_zero, List.set_cons_succ]
  refine wpAnyH_take (i := 8) (v := undef) (ata (atS (atS (atS (atS (atS (atS (atS (atS at0))))))))) (by kernel_rfl) (by kernel_rfl) (by kernel_rfl) (fun _ _ _ h => h) (Or.inr ⟨by rfl, rfl⟩) (by assumption) ?_
  try simp only [Act.put, List.setIfInBounds_toArray, List.set_cons_zero, List.set_cons_succ]
  refine wpAnyH_take (i := 9) (v := undef) (ata (atS (atS (atS (atS (atS (atS (atS (atS (atS at0)))))))))) (by kernel_rfl) (by kernel_rfl) (by kernel_rfl) (fun _ _ _ h => h) (Or.inr ⟨by rfl, rfl⟩) (by assumption) ?_
  try simp only [Act.put, List.setIfInBounds_toArray, List.set_cons_zero, List.set_cons_succ]
  refine wpAnyH_take (i := 10) (v := undef) (ata (atS (atS (atS (atS (atS (atS (atS (atS (atS (atS at0))))))))))) (by kernel_rfl) (by kernel_rfl) (by kernel_rfl) (fun _ _ _ h => h) (Or.inr ⟨by rfl, rfl⟩) (by assumption) ?_
  try simp only [Act.put, List.setIfInBounds_toArray, List.set_cons_zero, List.set_cons_succ]
  refine wpAnyH_take (i := 11) (v := undef) (ata (atS (atS (atS (atS (atS (atS (atS (atS (atS (atS (atS at0)))))))))))) (by kernel_rfl) (by kernel_rfl) (by kernel_rfl) (fun _ _ _ h => h) (Or.inr ⟨by rfl, rfl⟩) (by assumption) ?_
  try simp only [Act.put, List.setIfInBounds_toArray, List.set_cons_zero, List.set_cons_succ]
  refine wpAnyH_take (i := 12) (v := undef) (ata (atS (atS (atS (atS (atS (atS (atS (atS (atS (atS (atS (atS at0))))))))))))) (by kernel_rfl) (by kernel_rfl) (by kernel_rfl) (fun _ _ _ h => h) (Or.inr ⟨by rfl, rfl⟩) (by assumption) ?_
  try simp only [Act.put, List.setIfInBounds_toArray, List.set_cons_zero, List.set_cons_succ]
  refine wpAnyH_take (i := 13) (v := undef) (ata (atS (atS (atS (atS (atS (atS (atS (atS (atS (atS (atS (atS (atS at0)))))))))))))) (by kernel_rfl) (by kernel_rfl) (by kernel_rfl) (fun _ _ _ h => h) (Or.inr ⟨by rfl, rfl⟩) (by assumption) ?_
  try simp only [Act.put, List.setIfInBounds_toArray, List.set_cons_zero, List.set_cons_succ]
  refine wpAnyH_take (i := 14) (v := undef) (ata (atS (atS (atS (atS (atS (atS (atS (atS (atS (atS (atS (atS (atS (atS at0))))))))))))))) (by kernel_rfl) (by kernel_rfl) (by kernel_rfl) (fun _ _ _ h => h) (Or.inr ⟨by rfl, rfl⟩) (by assumption) ?_
  try simp only [Act.put, List.setIfInBounds_toArray, List.set_cons_zero, List.set_cons_succ]
  refine wpAnyH_take (i := 15) (v := undef) (ata (atS (atS (atS (atS (atS (atS (atS (atS (atS (atS (atS (atS (atS (atS (atS at0)))))))))))))))) (by kernel_rfl) (by kernel_rfl) (by kernel_rfl) (fun _ _ _ h => h) (Or.inr ⟨by rfl, rfl⟩) (by assumption) ?_
  try simp only [Act.put, List.setIfInBounds_toArray, List.set_cons_zero, List.set_cons_succ]
  refine wpAnyH_take (i := 16) (v := undef) (ata (atS (atS (atS (atS (atS (atS (atS (atS (atS (atS (atS (atS (atS (atS (atS (atS at0))))))))))))))))) (by kernel_rfl) (by kernel_rfl) (by kernel_rfl) (fun _ _ _ h => h) (Or.inr ⟨by rfl, rfl⟩) (by assumption) ?_
  try simp only [Act.put, List.setIfInBounds_toArray, List.set_cons_zero, List.set_cons_succ]
  refine wpAnyH_take (i := 17) (v := ?_) (ata (atS (atS (atS (atS (atS (atS (atS (atS (atS (atS (atS (atS (atS (atS (atS (atS (atS at0)))))))))))))))))) (by kernel_rfl) (by kernel_rfl) (by kernel_rfl) (fun _ _ _ h => h) (Or.inl ⟨by rfl, ?_⟩) (by assumption) ?_
  rotate_left
  · (intro w hSw; (try dsimp only at hSw); go_simp; (first | done | with_reducible rfl))
  try simp only [Act.put, List.setIfInBounds_toArray, List.set_cons_zero, List.set_cons_succ]
  refine wpAnyH_take (i := 18) (v := ?_) (ata (atS (atS (atS (atS (atS (atS (atS (atS (atS (atS (atS (atS (atS (atS (atS (atS (atS (atS at0))))))))))))))))))) (by kernel_rfl) (by kernel_rfl) (by kernel_rfl) (fun _ _ _ h => h) (Or.inl ⟨by rfl, ?_⟩) (by assumption) ?_
  rotate_left
  · (intro w hSw; (try dsimp only at hSw); go_simp; (first | done | with_reducible rfl))
  try simp only [Act.put, List.setIfInBounds_toArray, List.set_cons_zero, List.set_cons_succ]
  refine wpAnyH_done (by kernel_rfl) ?_ _
  go_wp2
  go_ret
  exact ⟨rfl, HS.out.hB⟩
end Go.Proofs.Ytigomdihkojdmaa.gn
