/- StepsTell: the law's walk. -/
import Derived.Test.YtoofogmlodfgmaaStD7
namespace Go.Proofs.Ytoofogmlodfgmaa.gn
open Go.RowKit Go.Shelf
open Go.Proofs.Ytoofogmlodfgmaa.sp

/-- How StepsTell stands. -/
structure Tl (w : World) (v1 v2 y1 y2 : Value) (at_ m at2 mm : List Int) (lo hi n : Int) (W : World) : Prop where
  bS : Box2 W w.heap.size 24 v1 v2
  bU : Box2 W (w.heap.size + 1) 24 y1 y2
  bW : Box3 W (w.heap.size + 1 + 1) 26 (.int .i64 lo) (.int .i64 hi) (.int .i64 n)
  hB : Below w.heap.size w W
  hP : Prof W (.agg #[v1, v2]) at_ m
  hU : Prof W (.agg #[y1, y2]) at2 mm
theorem Tl.next {w W W' : World} {v1 v2 y1 y2 : Value} {at_ m at2 mm : List Int} {lo hi n : Int} (h : Tl w v1 v2 y1 y2 at_ m at2 mm lo hi n W) (hb : Below W.heap.size W W') : Tl w v1 v2 y1 y2 at_ m at2 mm lo hi n W' :=
  ⟨box2_next hb h.bS, box2_next hb h.bU, Box3.next hb h.bW, h.hB.trans (hb.mono h.hB.size), h.hP.below hb (Nat.le_refl _), h.hU.below hb (Nat.le_refl _)⟩
theorem Tl.alloc {w W : World} {v1 v2 y1 y2 : Value} {at_ m at2 mm : List Int} {lo hi n : Int} (h : Tl w v1 v2 y1 y2 at_ m at2 mm lo hi n W) (o : Obj) : Tl w v1 v2 y1 y2 at_ m at2 mm lo hi n (W.alloc o) := h.next ((Below.refl _ W).alloc (Nat.le_refl _) o)
theorem Tl.start (w : World) {v1 v2 y1 y2 : Value} {at_ m at2 mm : List Int} (lo hi n : Int) (h : Prof w (.agg #[v1, v2]) at_ m) (h' : Prof w (.agg #[y1, y2]) at2 mm) : Tl w v1 v2 y1 y2 at_ m at2 mm lo hi n (((w.alloc (.cells #[v1, v2] 24)).alloc (.cells #[y1, y2] 24)).alloc (.cells #[.int .i64 lo, .int .i64 hi, .int .i64 n] 26)) := by
  have hb : Below w.heap.size w (((w.alloc (.cells #[v1, v2] 24)).alloc (.cells #[y1, y2] 24)).alloc (.cells #[.int .i64 lo, .int .i64 hi, .int .i64 n] 26)) := (((Below.refl _ _).alloc (Nat.le_refl _) _).alloc (by simp) _).alloc (by simp; omega) _
  have hW := Box3.new ((w.alloc (.cells #[v1, v2] 24)).alloc (.cells #[y1, y2] 24)) 26 (.int .i64 lo) (.int .i64 hi) (.int .i64 n)
  rw [World.size_alloc, World.size_alloc] at hW
  have hU := (Box2.new (w.alloc (.cells #[v1, v2] 24)) 24 y1 y2).alloc (.cells #[.int .i64 lo, .int .i64 hi, .int .i64 n] 26)
  rw [World.size_alloc] at hU
  exact ⟨((Box2.new w _ v1 v2).alloc _).alloc _, hU, hW, hb, h.below hb (Nat.le_refl _), h'.below hb (Nat.le_refl _)⟩

/-- What was told, in a box of its own. -/
structure BP (x1 x2 : Value) (l1 l2 : List Int) (g : Nat) (W : World) : Prop where
  b : Box2 W g 24 x1 x2
  p : Prof W (.agg #[x1, x2]) l1 l2
theorem BP.next {x1 x2 : Value} {l1 l2 : List Int} {g : Nat} {W W' : World} (h : BP x1 x2 l1 l2 g W) (hb : Below W.heap.size W W') : BP x1 x2 l1 l2 g W' := ⟨box2_next hb h.b, h.p.below hb (Nat.le_refl _)⟩
theorem BP.alloc {x1 x2 : Value} {l1 l2 : List Int} {g : Nat} {W : World} (h : BP x1 x2 l1 l2 g W) (o : Obj) : BP x1 x2 l1 l2 g (W.alloc o) := h.next ((Below.refl _ W).alloc (Nat.le_refl _) o)
theorem BP.new {x1 x2 : Value} {l1 l2 : List Int} {W : World} (h : Prof W (.agg #[x1, x2]) l1 l2) : BP x1 x2 l1 l2 W.heap.size (W.alloc (.cells #[x1, x2] 24)) := ⟨Box2.new W _ _ _, h.alloc _⟩

/-- What Take and Give tell, as the law asks it. -/
def TkP (at_ m : List Int) (lo hi n δ c : Int) (n1 : Nat) (l1 l2 : List Int) : Prop :=
  (¬ (OkP at_ m ∧ Q lo ∧ Q hi ∧ Q n) → c = 2 ∧ n1 = 0) ∧ (∀ L, Ok L → at_ = L.map Prod.fst → m = L.map Prod.snd → Q lo → Q hi → Q n → ∃ M, Res L lo hi δ c M ∧ l1 = M.map Prod.fst ∧ l2 = M.map Prod.snd)
def Told (at_ m : List Int) (lo hi n δ : Int) (w : World) (e : Ending) (w' : World) : Prop :=
  ∃ (c : Int) (a1 : Option Addr) (n1 c1 : Nat) (a2 : Option Addr) (n2 c2 : Nat) (l1 l2 : List Int), e = .returned (.tuple #[.agg #[.slice a1 n1 c1, .slice a2 n2 c2], .int .i64 c]) ∧ Prof w' (.agg #[.slice a1 n1 c1, .slice a2 n2 c2]) l1 l2 ∧ TkP at_ m lo hi n δ c n1 l1 l2 ∧ Below w.heap.size w w'
theorem prof_of_own {W : World} {B : Nat} {a1 a2 : Option Addr} {n1 n2 c1 c2 : Nat} {M : List (Int × Int)} (o1 : OwnI W B (.slice a1 n1 c1) (M.map Prod.fst)) (o2 : OwnI W B (.slice a2 n2 c2) (M.map Prod.snd)) (hM : M.length ≤ 2000) : Prof W (.agg #[.slice a1 n1 c1, .slice a2 n2 c2]) (M.map Prod.fst) (M.map Prod.snd) :=
  ⟨_, _, rfl, o1.ints (by rw [List.length_map]; unfold maxLen; omega), o2.ints (by rw [List.length_map]; unfold maxLen; omega)⟩
theorem told_turns {L : List (Int × Int)} {lo hi n δ : Int} {w : World} (hL : Ok L) (h0 : Q lo) (h1 : Q hi) (h2 : Q n) (e : Ending) (w' : World) (h : Turns L lo hi δ w e w') : Told (L.map Prod.fst) (L.map Prod.snd) lo hi n δ w e w' := by
  obtain ⟨c, M, a1, n1, c1, a2, n2, c2, rfl, hres, o1, o2, hb⟩ := h
  refine ⟨c, a1, n1, c1, a2, n2, c2, _, _, rfl, prof_of_own o1 o2 (res_len hres), ⟨fun hno => absurd ⟨⟨L, hL, rfl, rfl⟩, h0, h1, h2⟩ hno, fun L' _ e1 e2 _ _ _ => ?_⟩, hb⟩
  obtain rfl := maps_eq e1 e2
  exact ⟨M, hres, rfl, rfl⟩
theorem told_not {at_ m : List Int} {lo hi n δ : Int} {w : World} (hno : ¬ (OkP at_ m ∧ Q lo ∧ Q hi ∧ Q n)) (e : Ending) (w' : World) (h : TurnsNot w e w') : Told at_ m lo hi n δ w e w' := by
  obtain ⟨rfl, hb⟩ := h
  exact ⟨2, none, 0, 0, none, 0, 0, [], [], rfl, nil_prof _, ⟨fun _ => ⟨rfl, rfl⟩, fun L hL e1 e2 h0 h1 h2 => absurd ⟨⟨L, hL, e1, e2⟩, h0, h1, h2⟩ hno⟩, hb⟩
theorem take_tells {w : World} {v : Value} {at_ m : List Int} (lo hi n : Int) (h : Prof w v at_ m) : Calls Try.prog 11 #[v, .int .i64 lo, .int .i64 hi, .int .i64 n] w (Told at_ m lo hi n (-n) w) := by
  by_cases hc : OkP at_ m ∧ Q lo ∧ Q hi ∧ Q n
  · obtain ⟨⟨L, hL, rfl, rfl⟩, h0, h1, h2⟩ := hc
    exact (take_yes h hL h0 h1 h2).mono (told_turns hL h0 h1 h2)
  · exact (take_no h hc).mono (told_not hc)
theorem give_tells {w : World} {v : Value} {at_ m : List Int} (lo hi n : Int) (h : Prof w v at_ m) : Calls Try.prog 12 #[v, .int .i64 lo, .int .i64 hi, .int .i64 n] w (Told at_ m lo hi n n w) := by
  by_cases hc : OkP at_ m ∧ Q lo ∧ Q hi ∧ Q n
  · obtain ⟨⟨L, hL, rfl, rfl⟩, h0, h1, h2⟩ := hc
    exact (give_yes h hL h0 h1 h2).mono (told_turns hL h0 h1 h2)
  · exact (give_no h hc).mono (told_not hc)
theorem same_self (l : List Int) : same l l = true := decide_eq_true rfl
theorem same2 (l m : List Int) : (same l l && same m m) = true := by rw [same_self, same_self]; rfl
/-- What Same answers of a profile and two rows. -/
theorem same_bool (L : List (Int × Int)) (at2 mm : List Int) : ∃ sb : Bool, (∀ K, Ok K → at2 = K.map Prod.fst → mm = K.map Prod.snd → sb = samB L K) ∧ (¬ OkP at2 mm → sb = false) := by
  by_cases h : OkP at2 mm
  · obtain ⟨K, hK, rfl, rfl⟩ := h
    refine ⟨samB L K, fun K' _ e1 e2 => ?_, fun hno => absurd ⟨K, hK, rfl, rfl⟩ hno⟩
    rw [maps_eq e1 e2]
  · exact ⟨false, fun K hK e1 e2 => absurd ⟨K, hK, e1, e2⟩ h, fun _ => rfl⟩
theorem same_bool_any {W : World} {v u : Value} {L : List (Int × Int)} {at2 mm : List Int} {sb : Bool} (h : Prof W v (L.map Prod.fst) (L.map Prod.snd)) (h' : Prof W u at2 mm) (hL : Ok L) (h1 : ∀ K, Ok K → at2 = K.map Prod.fst → mm = K.map Prod.snd → sb = samB L K) (h2 : ¬ OkP at2 mm → sb = false) (hl : L.length ≤ 1998) (hl2 : at2.length ≤ 1998) :
    Calls Try.prog 20 #[v, u] W (TellsB sb W) := by
  by_cases hk : OkP at2 mm
  · obtain ⟨K, hK, rfl, rfl⟩ := hk
    rw [h1 K hK rfl rfl]
    exact same_yes h h' hL hK hl (by rw [List.length_map] at hl2; exact hl2)
  · rw [h2 hk]
    exact same_no h h' (fun h => hk h.2) (by rw [List.length_map]; exact hl)

set_option maxRecDepth 20000 in
set_option maxHeartbeats 16000000 in
theorem tell_law (v1 v2 y1 y2 : Value) (a1 a2 b1 b2 : Option Addr) (n1 n2 c1 c2 m1 m2 d1 d2 : Nat) (at_ m at2 mm : List Int) (lo hi n : Int) (w : World) (e1 : v1 = .slice a1 n1 c1) (e2 : v2 = .slice a2 n2 c2) (e3 : y1 = .slice b1 m1 d1) (e4 : y2 = .slice b2 m2 d2)
    (hP : Prof w (.agg #[v1, v2]) at_ m) (hU : Prof w (.agg #[y1, y2]) at2 mm) (h1 : n1 ≤ 60) (h2 : n2 ≤ 60) (h3 : m1 ≤ 60) (h4 : m2 ≤ 60) (hl1 : at_.length = n1) (hl2 : at2.length = m1) :
    Calls Try.prog 3 #[.agg #[v1, v2], .agg #[y1, y2], .agg #[.int .i64 lo, .int .i64 hi, .int .i64 n]] w (Yes w) := by
  have HZ0 := Lib.hid (Tl.start w lo hi n hP hU)
  subst e1 e2 e3 e4
  have HG1 := Lib.hid fun W => great_no a1 a2 n1 n2 c1 c2 h1 h2 W
  have HG2 := Lib.hid fun W => great_no b1 b2 m1 m2 d1 d2 h3 h4 W
  have HLn := Lib.hid (And.intro (show at_.length ≤ 60 by omega) (show at2.length ≤ 60 by omega))
  clear h1 h2 h3 h4 hP hU hl1 hl2
  go_enter Try.func3, Try.ntmps3
  go_wp2_with fail
  refine (HG1.out _).mono ?_
  rintro e w1 ⟨rfl, hb⟩
  have Z1 := HZ0.out.next hb
  have u0 := Z1.bU.cell0
  have u1 := Z1.bU.cell1
  have HZ1 := Lib.hid (Z1)
  clear hb Z1
  go_wp2_with fail
  refine (HG2.out _).mono ?_
  rintro e w2 ⟨rfl, hb⟩
  have Z2 := HZ1.out.next hb
  have s0 := Z2.bS.cell0
  have s1 := Z2.bS.cell1
  have HZ2 := Lib.hid (Z2)
  clear hb Z2
  go_wp2_with fail
  refine (dcheck_any HZ2.out.hP).mono ?_
  rintro e w3 ⟨rfl, hb⟩
  have Z3 := HZ2.out.next hb
  have s0 := Z3.bS.cell0
  have s1 := Z3.bS.cell1
  have t0 := Z3.bW.cell0
  have t1 := Z3.bW.cell1
  have t2 := Z3.bW.cell2
  have HZ3 := Lib.hid (Z3)
  clear hb Z3
  go_wp2_with fail
  generalize hmay : (chk at_ m == 0) = may at *
  have HMay := Lib.hid hmay
  clear hmay
  refine (take_tells lo hi n HZ3.out.hP).mono ?_
  rintro e w4 ⟨ec, p1, q1, r1, p2, q2, r2, la, lb, rfl, hPa, hTk, hb⟩
  have HTa := Lib.hid hTk
  clear hTk
  have Z4 := HZ3.out.next hb
  have s0 := Z4.bS.cell0
  have s1 := Z4.bS.cell1
  have t0 := Z4.bW.cell0
  have t1 := Z4.bW.cell1
  have t2 := Z4.bW.cell2
  have ls := Z4.bS.lt
  have lw := Z4.bW.lt
  have HZ4 := Lib.hid ((Z4).alloc (.cells #[.slice p1 q1 r1, .slice p2 q2 r2] 24))
  have HA4 := Lib.hid (BP.new hPa)
  clear hb Z4
  clear hPa
  go_wp2_with fail
  refine (give_tells lo hi n HZ4.out.hP).mono ?_
  rintro e w5 ⟨fc, p3, q3, r3, p4, q4, r4, lc, ld, rfl, hPb, hTk, hb⟩
  have HTb := Lib.hid hTk
  clear hTk
  have Z5 := HZ4.out.next hb
  have HZ5 := Lib.hid ((Z5).alloc (.cells #[.slice p3 q3 r3, .slice p4 q4 r4] 24))
  have HA5x := HA4.out.next hb
  have HA5 := Lib.hid ((HA5x).alloc (.cells #[.slice p3 q3 r3, .slice p4 q4 r4] 24))
  have HB5 := Lib.hid (BP.new hPb)
  clear hb Z5 HA5x
  clear hPb s0 s1 t0 t1 t2 ls lw
  go_upto_region 6 with fail
  generalize w4.heap.size = ga at *
  generalize w5.heap.size = gb at *
  go_cut [63] (fun s63 wx => s63 = .bool false ∧ Tl w (.slice a1 n1 c1) (.slice a2 n2 c2) (.slice b1 m1 d1) (.slice b2 m2 d2) at_ m at2 mm lo hi n wx ∧ BP (.slice p1 q1 r1) (.slice p2 q2 r2) la lb ga wx ∧ BP (.slice p3 q3 r3) (.slice p4 q4 r4) lc ld gb wx)
  case first =>
    have s0 := HZ5.out.bS.cell0
    have s1 := HZ5.out.bS.cell1
    have t0 := HZ5.out.bW.cell0
    have t1 := HZ5.out.bW.cell1
    have t2 := HZ5.out.bW.cell2
    have HZ6 := Lib.hid (HZ5.out.next (Below.refl _ _).drew)
    have HA6 := Lib.hid (HA5.out.next (Below.refl _ _).drew)
    have HB6 := Lib.hid (HB5.out.next (Below.refl _ _).drew)
    go_region_held3 (fun W => W.cell? ⟨w.heap.size, 0, none⟩ = some (.slice a1 n1 c1) ∧ W.cell? ⟨w.heap.size, 1, none⟩ = some (.slice a2 n2 c2) ∧ W.cell? ⟨w.heap.size + 1 + 1, 2, none⟩ = some (.int .i64 n)) (go_keep)
      (first
        | (go_at_call 13; ((with_reducible refine (check_any HZ6.out.hP).mono ?_); rintro e w7 ⟨rfl, hb⟩; have Z7 := HZ6.out.next hb; have s0 := Z7.bS.cell0; have s1 := Z7.bS.cell1; have t0 := Z7.bW.cell0; have t1 := Z7.bW.cell1; have t2 := Z7.bW.cell2; have HZ7 := Lib.hid (Z7); have HA7x := HA6.out.next hb; have HA7 := Lib.hid (HA7x); have HB7x := HB6.out.next hb; have HB7 := Lib.hid (HB7x); clear hb Z7 HA7x HB7x))
        | (go_at_call 10; ((with_reducible refine (dcheck_any HZ7.out.hP).mono ?_); rintro e w8 ⟨rfl, hb⟩; have Z8 := HZ7.out.next hb; have s0 := Z8.bS.cell0; have s1 := Z8.bS.cell1; have t0 := Z8.bW.cell0; have t1 := Z8.bW.cell1; have t2 := Z8.bW.cell2; have HZ8 := Lib.hid (Z8); have HA8x := HA7.out.next hb; have HA8 := Lib.hid (HA8x); have HB8x := HB7.out.next hb; have HB8 := Lib.hid (HB8x); clear hb Z8 HA8x HB8x))
        | (go_at_call 15; ((with_reducible refine (new_any n _).mono ?_); rintro e w9 ⟨x9, rfl, hp9, hb⟩; have Z9 := HZ8.out.next hb; have s0 := Z9.bS.cell0; have s1 := Z9.bS.cell1; have t0 := Z9.bW.cell0; have t1 := Z9.bW.cell1; have t2 := Z9.bW.cell2; have HZ9 := Lib.hid (Z9); have HA9x := HA8.out.next hb; have HA9 := Lib.hid (HA9x); have HB9x := HB8.out.next hb; have HB9 := Lib.hid (HB9x); clear hb Z9 HA9x HB9x; have HP9 := Lib.hid hp9; clear hp9))
        | (go_at_call 16; ((with_reducible refine (dnew_any n _).mono ?_); rintro e w10 ⟨x10, rfl, hp10, hb⟩; have HP10 := Lib.hid (And.intro (HP9.out.below hb (Nat.le_refl _)) hp10); clear hp10; have Z10 := HZ9.out.next hb; have s0 := Z10.bS.cell0; have s1 := Z10.bS.cell1; have t0 := Z10.bW.cell0; have t1 := Z10.bW.cell1; have t2 := Z10.bW.cell2; have HZ10 := Lib.hid (Z10); have HA10x := HA9.out.next hb; have HA10 := Lib.hid (HA10x); have HB10x := HB9.out.next hb; have HB10 := Lib.hid (HB10x); clear hb Z10 HA10x HB10x))
        | (go_at_call 14; ((with_reducible refine (dequal_any HP10.out.1 HP10.out.2).mono ?_); rintro e w11 ⟨rfl, hb⟩; rw [same2]; have Z11 := HZ10.out.next hb; have s0 := Z11.bS.cell0; have s1 := Z11.bS.cell1; have t0 := Z11.bW.cell0; have t1 := Z11.bW.cell1; have t2 := Z11.bW.cell2; have HZ11 := Lib.hid (Z11); have HA11x := HA10.out.next hb; have HA11 := Lib.hid (HA11x); have HB11x := HB10.out.next hb; have HB11 := Lib.hid (HB11x); clear hb Z11 HA11x HB11x)))
    all_goals
      go_wp2_with fail
      go_meet
      exact ⟨rfl, HZ11.out, HA11.out, HB11.out⟩
  case rest =>
  obtain ⟨rfl, Z6, A6, B6⟩ := hcut
  have HZ6 := Lib.hid Z6
  have HA6 := Lib.hid A6
  have HB6 := Lib.hid B6
  have t0 := Z6.bW.cell0
  have t1 := Z6.bW.cell1
  have t2 := Z6.bW.cell2
  clear Z6 A6 B6 HZ5 HA5 HB5
  by_cases hfine : OkP at_ m ∧ Q lo ∧ Q hi ∧ Q n
  · obtain ⟨hok, qlo, qhi, qn⟩ := hfine
    obtain ⟨L, hL, rfl, rfl⟩ := hok
    obtain ⟨M, hra, rfl, rfl⟩ := HTa.out.2 L hL rfl rfl qlo qhi qn
    obtain ⟨N, hrb, rfl, rfl⟩ := HTb.out.2 L hL rfl rfl qlo qhi qn
    obtain rfl : may = true := by rw [← HMay.out, chk_yes ⟨L, hL, rfl, rfl⟩]; rfl
    have HF := Lib.hid (fine_yes qlo qhi qn)
    have HQ := Lib.hid (And.intro hL (And.intro qlo (And.intro qhi qn)))
    have HR := Lib.hid (And.intro hra hrb)
    have HLl : Hid (L.length ≤ 60) := by have := HLn.out.1; rw [List.length_map] at this; exact this
    have nn0 : 0 ≤ n := qn.1
    have nn1 : n ≤ 1099511627776 := qn.2
    have hneg : IntKind.i64.wrap (-n) = -n := IntWalk.i64_in _ (by omega)
    clear hra hrb hL qlo qhi qn HTa HTb HMay
    go_wp2_with fail
    refine (fine_any _ _ _ _).mono ?_
    rintro e w7 ⟨rfl, hb⟩
    rw [HF.out]
    have Z7 := HZ6.out.next hb
    have s0 := Z7.bS.cell0
    have s1 := Z7.bS.cell1
    have t0 := Z7.bW.cell0
    have t1 := Z7.bW.cell1
    have t2 := Z7.bW.cell2
    have HZ7 := Lib.hid (Z7)
    have HA7x := HA6.out.next hb
    have HA7 := Lib.hid (HA7x)
    have HB7x := HB6.out.next hb
    have HB7 := Lib.hid (HB7x)
    clear hb Z7 HA7x HB7x
    go_wp2_with fail
    refine (dturn_any (δ := -n) HZ7.out.hP HQ.out.1 HQ.out.2.1 HQ.out.2.2.1 (by omega) (by omega) (by have := HLl.out; omega)).mono ?_
    rintro e w8 ⟨gc, C, p5, q5, r5, p6, q6, r6, rfl, hres, o1, o2, hb⟩
    obtain ⟨rfl, rfl⟩ := HR.out.1.uniq hres
    have hPc := prof_of_own o1 o2 (res_len hres)
    clear hres o1 o2
    have Z8 := HZ7.out.next hb
    have s0 := Z8.bS.cell0
    have s1 := Z8.bS.cell1
    have t0 := Z8.bW.cell0
    have t1 := Z8.bW.cell1
    have t2 := Z8.bW.cell2
    have ls := Z8.bS.lt
    have lw := Z8.bW.lt
    have HZ8 := Lib.hid ((Z8).alloc (.cells #[.slice p5 q5 r5, .slice p6 q6 r6] 24))
    have HA8x := HA7.out.next hb
    have HA8 := Lib.hid ((HA8x).alloc (.cells #[.slice p5 q5 r5, .slice p6 q6 r6] 24))
    have HB8x := HB7.out.next hb
    have HB8 := Lib.hid ((HB8x).alloc (.cells #[.slice p5 q5 r5, .slice p6 q6 r6] 24))
    have HC8 := Lib.hid (BP.new hPc)
    clear hb Z8 HA8x HB8x
    clear hPc hneg
    go_wp2_with fail
    refine (dturn_any (δ := n) HZ8.out.hP HQ.out.1 HQ.out.2.1 HQ.out.2.2.1 (by omega) (by omega) (by have := HLl.out; omega)).mono ?_
    rintro e w9 ⟨gd, D, p7, q7, r7, p8, q8, r8, rfl, hres, o1, o2, hb⟩
    obtain ⟨rfl, rfl⟩ := HR.out.2.uniq hres
    have hPd := prof_of_own o1 o2 (res_len hres)
    clear hres o1 o2
    have f1 := (HA8.out.next hb).b.cell0
    have f2 := (HA8.out.next hb).b.cell1
    have f3 := (HC8.out.next hb).b.cell0
    have f4 := (HC8.out.next hb).b.cell1
    have f5 := (HA8.out.next hb).b.lt
    have f6 := (HC8.out.next hb).b.lt
    have Z9 := HZ8.out.next hb
    have HZ9 := Lib.hid ((Z9).alloc (.cells #[.slice p7 q7 r7, .slice p8 q8 r8] 24))
    have HA9x := HA8.out.next hb
    have HA9 := Lib.hid ((HA9x).alloc (.cells #[.slice p7 q7 r7, .slice p8 q8 r8] 24))
    have HB9x := HB8.out.next hb
    have HB9 := Lib.hid ((HB9x).alloc (.cells #[.slice p7 q7 r7, .slice p8 q8 r8] 24))
    have HC9x := HC8.out.next hb
    have HC9 := Lib.hid ((HC9x).alloc (.cells #[.slice p7 q7 r7, .slice p8 q8 r8] 24))
    have HD9 := Lib.hid (BP.new hPd)
    clear hb Z9 HA9x HB9x HC9x
    clear hPd s0 s1 t0 t1 t2 ls lw
    go_wp2_with fail
    refine (dequal_any HA9.out.p HC9.out.p).mono ?_
    rintro e w10 ⟨rfl, hb⟩
    rw [same2]
    clear f1 f2 f3 f4 f5 f6
    have f1 := (HB9.out.next hb).b.cell0
    have f2 := (HB9.out.next hb).b.cell1
    have f3 := (HD9.out.next hb).b.cell0
    have f4 := (HD9.out.next hb).b.cell1
    have Z10 := HZ9.out.next hb
    have HZ10 := Lib.hid (Z10)
    have HA10x := HA9.out.next hb
    have HA10 := Lib.hid (HA10x)
    have HB10x := HB9.out.next hb
    have HB10 := Lib.hid (HB10x)
    have HC10x := HC9.out.next hb
    have HC10 := Lib.hid (HC10x)
    have HD10x := HD9.out.next hb
    have HD10 := Lib.hid (HD10x)
    clear hb Z10 HA10x HB10x HC10x HD10x
    go_wp2_with fail
    refine (dequal_any HB10.out.p HD10.out.p).mono ?_
    rintro e w11 ⟨rfl, hb⟩
    rw [same2]
    clear f1 f2 f3 f4
    have Z11 := HZ10.out.next hb
    have HZ11 := Lib.hid Z11
    clear hb Z11 HA10 HB10 HC10 HD10
    obtain ⟨sb, hsb⟩ : ∃ sb : Bool, (∀ K, Ok K → at2 = K.map Prod.fst → mm = K.map Prod.snd → sb = samB L K) ∧ (¬ OkP at2 mm → sb = false) := same_bool L at2 mm
    have HSb := Lib.hid hsb
    clear hsb
    go_upto_region 14 with fail
    go_cut [16] (fun s16 wx => s16 = .bool sb ∧ Tl w (.slice a1 n1 c1) (.slice a2 n2 c2) (.slice b1 m1 d1) (.slice b2 m2 d2) (L.map Prod.fst) (L.map Prod.snd) at2 mm lo hi n wx)
    case first =>
      have s0 := HZ11.out.bS.cell0
      have s1 := HZ11.out.bS.cell1
      have u0 := HZ11.out.bU.cell0
      have u1 := HZ11.out.bU.cell1
      have HZ12 := Lib.hid (HZ11.out.next (Below.refl _ _).drew)
      by_cases hu : OkP at2 mm
      · obtain ⟨K, hK, rfl, rfl⟩ := hu
        have HCu := Lib.hid (chk_yes ⟨K, hK, rfl, rfl⟩)
        have HSe := Lib.hid (HSb.out.1 K hK rfl rfl)
        have HK := Lib.hid (And.intro hK (show K.length ≤ 60 by have := HLn.out.2; rw [List.length_map] at this; exact this))
        clear hK
        go_region_held3 (fun W => W.cell? ⟨w.heap.size, 0, none⟩ = some (.slice a1 n1 c1) ∧ W.cell? ⟨w.heap.size, 1, none⟩ = some (.slice a2 n2 c2) ∧ W.cell? ⟨w.heap.size + 1, 0, none⟩ = some (.slice b1 m1 d1) ∧ W.cell? ⟨w.heap.size + 1, 1, none⟩ = some (.slice b2 m2 d2)) (go_keep)
          (first
        | (go_at_call 10; ((with_reducible refine (dcheck_any HZ12.out.hU).mono ?_); rintro e w13 ⟨rfl, hb⟩; rw [HCu.out]; have Z13 := HZ12.out.next hb; have s0 := Z13.bS.cell0; have s1 := Z13.bS.cell1; have u0 := Z13.bU.cell0; have u1 := Z13.bU.cell1; have HZ13 := Lib.hid (Z13); clear hb Z13))
        | (go_at_call 22; ((with_reducible refine (dnorm_any HZ13.out.hP HQ.out.1 (by have := HLl.out; omega)).mono ?_); rintro e w14 ⟨x1, x2, x3, x4, x5, x6, P, rfl, hTu, hp, hb⟩; have HP14 := Lib.hid (And.intro hTu hp); clear hTu hp; have Z14 := HZ13.out.next hb; have s0 := Z14.bS.cell0; have s1 := Z14.bS.cell1; have u0 := Z14.bU.cell0; have u1 := Z14.bU.cell1; have HZ14 := Lib.hid (Z14); clear hb Z14))
        | (go_at_call 22; ((with_reducible refine (dnorm_any HZ14.out.hU HK.out.1 (by have := HK.out.2; omega)).mono ?_); rintro e w15 ⟨z1, z2, z3, z4, z5, z6, R, rfl, hTu, hp, hb⟩; have HP15 := Lib.hid (And.intro hTu (And.intro hp (HP14.out.2.below hb (Nat.le_refl _)))); clear hTu hp; have Z15 := HZ14.out.next hb; have s0 := Z15.bS.cell0; have s1 := Z15.bS.cell1; have u0 := Z15.bU.cell0; have u1 := Z15.bU.cell1; have HZ15 := Lib.hid (Z15); clear hb Z15))
        | (go_at_call 14; ((with_reducible refine (dequal_any HP15.out.2.2 HP15.out.2.1).mono ?_); rintro e w16 ⟨rfl, hb⟩; rw [← samB_is HP14.out.1 HP15.out.1, ← HSe.out]; have Z16 := HZ15.out.next hb; have s0 := Z16.bS.cell0; have s1 := Z16.bS.cell1; have u0 := Z16.bU.cell0; have u1 := Z16.bU.cell1; have HZ16 := Lib.hid (Z16); clear hb Z16)))
        all_goals
          go_wp2_with fail
          go_meet
          exact ⟨rfl, HZ16.out⟩
      · have HCu := Lib.hid (chk_no hu)
        have HSe := Lib.hid (HSb.out.2 hu)
        clear hu
        refine wp_region_held_drew (S := (fun W => W.cell? ⟨w.heap.size, 0, none⟩ = some (.slice a1 n1 c1) ∧ W.cell? ⟨w.heap.size, 1, none⟩ = some (.slice a2 n2 c2) ∧ W.cell? ⟨w.heap.size + 1, 0, none⟩ = some (.slice b1 m1 d1) ∧ W.cell? ⟨w.heap.size + 1, 1, none⟩ = some (.slice b2 m2 d2))) (by kernel_rfl) (by first | (go_keep; done) | (dsimp only; go_keep)) (fun hHeld => ?_)
        refine wpAnyH_take (i := 0) (v := ?_) (ata at0) (by kernel_rfl) (by kernel_rfl) (by kernel_rfl) (fun _ _ _ h => h) (Or.inl ⟨by rfl, ?_⟩) (by assumption) ?_
        rotate_left
        · (intro w hSw; (try dsimp only at hSw); go_simp; (first | done | with_reducible rfl))
        try simp only [Act.put, List.setIfInBounds_toArray, List.set_cons_zero, List.set_cons_succ]
        refine wpAnyH_ready (rs := [1]) (by kernel_rfl) (by simp) ?_
        refine AllReadyH.cons (ata (atS at0)) (fun K hK => ?_) AllReadyH.nil
        go_simp
        (go_at_call 10; ((with_reducible refine (dcheck_any HZ12.out.hU).mono ?_); rintro e w13 ⟨rfl, hb⟩; rw [HCu.out]; have Z13 := HZ12.out.next hb; have s0 := Z13.bS.cell0; have s1 := Z13.bS.cell1; have u0 := Z13.bU.cell0; have u1 := Z13.bU.cell1; have HZ13 := Lib.hid (Z13); clear hb Z13))
        go_wp2_with fail
        refine hK.out _ _ (by first | (go_keep; done) | (dsimp only; go_keep)) (fun hHeld => ?_)
        clear hK K
        try simp only [Act.put, List.setIfInBounds_toArray, List.set_cons_zero, List.set_cons_succ]
        refine wpAnyH_take (i := 2) (v := ?_) (ata (atS (atS at0))) (by kernel_rfl) (by kernel_rfl) (by kernel_rfl) (fun _ _ _ h => h) (Or.inl ⟨by rfl, ?_⟩) (by assumption) ?_
        rotate_left
        · (intro w hSw; (try dsimp only at hSw); go_simp; (first | done | with_reducible rfl))
        try simp only [Act.put, List.setIfInBounds_toArray, List.set_cons_zero, List.set_cons_succ]
        refine wpAnyH_take (i := 3) (v := ?_) (ata (atS (atS (atS at0)))) (by kernel_rfl) (by kernel_rfl) (by kernel_rfl) (fun _ _ _ h => h) (Or.inl ⟨by rfl, ?_⟩) (by assumption) ?_
        rotate_left
        · (intro w hSw; (try dsimp only at hSw); go_simp; (first | done | with_reducible rfl))
        try simp only [Act.put, List.setIfInBounds_toArray, List.set_cons_zero, List.set_cons_succ]
        refine wpAnyH_take (i := 4) (v := undef) (ata (atS (atS (atS (atS at0))))) (by kernel_rfl) (by kernel_rfl) (by kernel_rfl) (fun _ _ _ h => h) (Or.inr ⟨by rfl, rfl⟩) (by assumption) ?_
        try simp only [Act.put, List.setIfInBounds_toArray, List.set_cons_zero, List.set_cons_succ]
        refine wpAnyH_take (i := 5) (v := undef) (ata (atS (atS (atS (atS (atS at0)))))) (by kernel_rfl) (by kernel_rfl) (by kernel_rfl) (fun _ _ _ h => h) (Or.inr ⟨by rfl, rfl⟩) (by assumption) ?_
        try simp only [Act.put, List.setIfInBounds_toArray, List.set_cons_zero, List.set_cons_succ]
        refine wpAnyH_take (i := 6) (v := undef) (ata (atS (atS (atS (atS (atS (atS at0))))))) (by kernel_rfl) (by kernel_rfl) (by kernel_rfl) (fun _ _ _ h => h) (Or.inr ⟨by rfl, rfl⟩) (by assumption) ?_
        try simp only [Act.put, List.setIfInBounds_toArray, List.set_cons_zero, List.set_cons_succ]
        refine wpAnyH_take (i := 7) (v := undef) (ata (atS (atS (atS (atS (atS (atS (atS at0)))))))) (by kernel_rfl) (by kernel_rfl) (by kernel_rfl) (fun _ _ _ h => h) (Or.inr ⟨by rfl, rfl⟩) (by assumption) ?_
        try simp only [Act.put, List.setIfInBounds_toArray, List.set_cons_zero, List.set_cons_succ]
        refine wpAnyH_take (i := 8) (v := undef) (ata (atS (atS (atS (atS (atS (atS (atS (atS at0))))))))) (by kernel_rfl) (by kernel_rfl) (by kernel_rfl) (fun _ _ _ h => h) (Or.inr ⟨by rfl, rfl⟩) (by assumption) ?_
        try simp only [Act.put, List.setIfInBounds_toArray, List.set_cons_zero, List.set_cons_succ]
        refine wpAnyH_take (i := 9) (v := ?_) (ata (atS (atS (atS (atS (atS (atS (atS (atS (atS at0)))))))))) (by kernel_rfl) (by kernel_rfl) (by kernel_rfl) (fun _ _ _ h => h) (Or.inl ⟨by rfl, ?_⟩) (by assumption) ?_
        rotate_left
        · (intro w hSw; (try dsimp only at hSw); go_simp; (first | done | with_reducible rfl))
        try simp only [Act.put, List.setIfInBounds_toArray, List.set_cons_zero, List.set_cons_succ]
        refine wpAnyH_take (i := 10) (v := ?_) (ata (atS (atS (atS (atS (atS (atS (atS (atS (atS (atS at0))))))))))) (by kernel_rfl) (by kernel_rfl) (by kernel_rfl) (fun _ _ _ h => h) (Or.inl ⟨by rfl, ?_⟩) (by assumption) ?_
        rotate_left
        · (intro w hSw; (try dsimp only at hSw); go_simp; (first | done | with_reducible rfl))
        try simp only [Act.put, List.setIfInBounds_toArray, List.set_cons_zero, List.set_cons_succ]
        refine wpAnyH_done (by kernel_rfl) ?_ _
        go_wp2_with fail
        go_meet
        exact ⟨by rw [HSe.out], HZ13.out⟩
    case rest =>
    obtain ⟨rfl, Z12⟩ := hcut
    have s0 := Z12.bS.cell0
    have s1 := Z12.bS.cell1
    have u0 := Z12.bU.cell0
    have u1 := Z12.bU.cell1
    have t0 := Z12.bW.cell0
    have t1 := Z12.bW.cell1
    have t2 := Z12.bW.cell2
    have HZ12 := Lib.hid Z12
    have HZ13 := Lib.hid (Z12.next (Below.refl _ _).drew)
    clear Z12 HZ11
    have HSm := Lib.hid fun (W : World) (Z : Tl w (.slice a1 n1 c1) (.slice a2 n2 c2) (.slice b1 m1 d1) (.slice b2 m2 d2) (L.map Prod.fst) (L.map Prod.snd) at2 mm lo hi n W) => same_bool_any Z.hP Z.hU HQ.out.1 HSb.out.1 HSb.out.2 (by have := HLl.out; omega) (by have := HLn.out.2; omega)
    have HAt := Lib.hid fun (W : World) (Z : Tl w (.slice a1 n1 c1) (.slice a2 n2 c2) (.slice b1 m1 d1) (.slice b2 m2 d2) (L.map Prod.fst) (L.map Prod.snd) at2 mm lo hi n W) => at_yes Z.hP HQ.out.1 HQ.out.2.1
    have HDt := Lib.hid fun (W : World) (Z : Tl w (.slice a1 n1 c1) (.slice a2 n2 c2) (.slice b1 m1 d1) (.slice b2 m2 d2) (L.map Prod.fst) (L.map Prod.snd) at2 mm lo hi n W) => dat_any Z.hP HQ.out.1 HQ.out.2.1.1
    have HLe := Lib.hid fun (W : World) (Z : Tl w (.slice a1 n1 c1) (.slice a2 n2 c2) (.slice b1 m1 d1) (.slice b2 m2 d2) (L.map Prod.fst) (L.map Prod.snd) at2 mm lo hi n W) => leastf_yes Z.hP HQ.out.1 HQ.out.2.1 HQ.out.2.2.1
    have HDl := Lib.hid fun (W : World) (Z : Tl w (.slice a1 n1 c1) (.slice a2 n2 c2) (.slice b1 m1 d1) (.slice b2 m2 d2) (L.map Prod.fst) (L.map Prod.snd) at2 mm lo hi n W) => dleast_any Z.hP HQ.out.1 HQ.out.2.1 HQ.out.2.2.1
    generalize sp.val L lo = vx at *
    generalize lst L lo hi = lx at *
    clear nn0 nn1
    go_upto_region 15 with fail
    go_region_held3 (fun W => W.cell? ⟨w.heap.size, 0, none⟩ = some (.slice a1 n1 c1) ∧ W.cell? ⟨w.heap.size, 1, none⟩ = some (.slice a2 n2 c2) ∧ W.cell? ⟨w.heap.size + 1, 0, none⟩ = some (.slice b1 m1 d1) ∧ W.cell? ⟨w.heap.size + 1, 1, none⟩ = some (.slice b2 m2 d2) ∧ W.cell? ⟨w.heap.size + 1 + 1, 0, none⟩ = some (.int .i64 lo) ∧ W.cell? ⟨w.heap.size + 1 + 1, 1, none⟩ = some (.int .i64 hi)) (go_keep)
        (first
        | (go_at_call 18; ((with_reducible refine (HAt.out _ HZ13.out).mono ?_); rintro e w14 ⟨rfl, hb⟩; have Z14 := HZ13.out.next hb; have s0 := Z14.bS.cell0; have s1 := Z14.bS.cell1; have u0 := Z14.bU.cell0; have u1 := Z14.bU.cell1; have t0 := Z14.bW.cell0; have t1 := Z14.bW.cell1; have t2 := Z14.bW.cell2; have HZ14 := Lib.hid (Z14); clear hb Z14))
        | (go_at_call 23; ((with_reducible refine (HDt.out _ HZ14.out).mono ?_); rintro e w15 ⟨rfl, hb⟩; have Z15 := HZ14.out.next hb; have s0 := Z15.bS.cell0; have s1 := Z15.bS.cell1; have u0 := Z15.bU.cell0; have u1 := Z15.bU.cell1; have t0 := Z15.bW.cell0; have t1 := Z15.bW.cell1; have t2 := Z15.bW.cell2; have HZ15 := Lib.hid (Z15); clear hb Z15))
        | (go_at_call 19; ((with_reducible refine (HLe.out _ HZ15.out).mono ?_); rintro e w16 ⟨rfl, hb⟩; have Z16 := HZ15.out.next hb; have s0 := Z16.bS.cell0; have s1 := Z16.bS.cell1; have u0 := Z16.bU.cell0; have u1 := Z16.bU.cell1; have t0 := Z16.bW.cell0; have t1 := Z16.bW.cell1; have t2 := Z16.bW.cell2; have HZ16 := Lib.hid (Z16); clear hb Z16))
        | (go_at_call 24; ((with_reducible refine (HDl.out _ HZ16.out).mono ?_); rintro e w17 ⟨rfl, hb⟩; have Z17 := HZ16.out.next hb; have s0 := Z17.bS.cell0; have s1 := Z17.bS.cell1; have u0 := Z17.bU.cell0; have u1 := Z17.bU.cell1; have t0 := Z17.bW.cell0; have t1 := Z17.bW.cell1; have t2 := Z17.bW.cell2; have HZ17 := Lib.hid (Z17); clear hb Z17))
        | (go_at_call 20; ((with_reducible refine (HSm.out _ HZ17.out).mono ?_); rintro e w18 ⟨rfl, hb⟩; have Z18 := HZ17.out.next hb; have s0 := Z18.bS.cell0; have s1 := Z18.bS.cell1; have u0 := Z18.bU.cell0; have u1 := Z18.bU.cell1; have t0 := Z18.bW.cell0; have t1 := Z18.bW.cell1; have t2 := Z18.bW.cell2; have HZ18 := Lib.hid (Z18); clear hb Z18))
        | (go_at_call 9; ((with_reducible refine (head_any _).mono ?_); rintro e w19 ⟨rfl, hb⟩; have Z19 := HZ18.out.next hb; have s0 := Z19.bS.cell0; have s1 := Z19.bS.cell1; have u0 := Z19.bU.cell0; have u1 := Z19.bU.cell1; have t0 := Z19.bW.cell0; have t1 := Z19.bW.cell1; have t2 := Z19.bW.cell2; have HZ19 := Lib.hid (Z19); clear hb Z19)))
    all_goals
      go_wp2
      go_ret
      exact ⟨rfl, HZ19.out.hB⟩
  · obtain ⟨rfl, rfl⟩ := HTa.out.1 hfine
    obtain ⟨rfl, rfl⟩ := HTb.out.1 hfine
    have x0 := HA6.out.b.cell0
    have x1 := HB6.out.b.cell0
    by_cases hok : OkP at_ m
    · have HF := Lib.hid (fine_no (a := lo) (b := hi) (n := n) fun h => hfine ⟨hok, h⟩)
      obtain rfl : may = true := by rw [← HMay.out, chk_yes hok]; rfl
      clear hok hfine HTa HTb HMay
      go_wp2_with fail
      refine (fine_any _ _ _ _).mono ?_
      rintro e w7 ⟨rfl, hb⟩
      rw [HF.out]
      have Z7 := HZ6.out.next hb
      have HZ7 := Lib.hid (Z7)
      have HA7x := HA6.out.next hb
      have HA7 := Lib.hid (HA7x)
      have HB7x := HB6.out.next hb
      have HB7 := Lib.hid (HB7x)
      clear hb Z7 HA7x HB7x
      have x0 := HA7.out.b.cell0
      have x1 := HB7.out.b.cell0
      go_wp2_with fail
      refine (head_any _).mono ?_
      rintro e wz ⟨rfl, hb⟩
      have HZz := Lib.hid (HZ7.out.next hb)
      clear hb
      go_wp2
      go_ret
      exact ⟨rfl, HZz.out.hB⟩
    · obtain rfl : may = false := by rw [← HMay.out, chk_no hok]; rfl
      have HNo := Lib.hid hok
      have s0 := HZ6.out.bS.cell0
      have s1 := HZ6.out.bS.cell1
      clear hok hfine HTa HTb HMay
      go_wp2_with fail
      refine (at_no HZ6.out.hP fun h => HNo.out h.1).mono ?_
      rintro e w7 ⟨rfl, hb⟩
      have Z7 := HZ6.out.next hb
      have s0 := Z7.bS.cell0
      have s1 := Z7.bS.cell1
      have t0 := Z7.bW.cell0
      have t1 := Z7.bW.cell1
      have t2 := Z7.bW.cell2
      have HZ7 := Lib.hid (Z7)
      have HA7x := HA6.out.next hb
      have HA7 := Lib.hid (HA7x)
      have HB7x := HB6.out.next hb
      have HB7 := Lib.hid (HB7x)
      clear hb Z7 HA7x HB7x
      go_wp2_with fail
      refine (leastf_no HZ7.out.hP fun h => HNo.out h.1).mono ?_
      rintro e w8 ⟨rfl, hb⟩
      have Z8 := HZ7.out.next hb
      have s0 := Z8.bS.cell0
      have s1 := Z8.bS.cell1
      have HZ8 := Lib.hid (Z8)
      have HA8x := HA7.out.next hb
      have HA8 := Lib.hid (HA8x)
      have HB8x := HB7.out.next hb
      have HB8 := Lib.hid (HB8x)
      clear hb Z8 HA8x HB8x
      go_wp2_with fail
      refine (same_no HZ8.out.hP HZ8.out.hP (fun h => HNo.out h.1) (by have := HLn.out.1; omega)).mono ?_
      rintro e w9 ⟨rfl, hb⟩
      have Z9 := HZ8.out.next hb
      have HZ9 := Lib.hid (Z9)
      have HA9x := HA8.out.next hb
      have HA9 := Lib.hid (HA9x)
      have HB9x := HB8.out.next hb
      have HB9 := Lib.hid (HB9x)
      clear hb Z9 HA9x HB9x
      go_wp2_with fail
      refine (head_any _).mono ?_
      rintro e wz ⟨rfl, hb⟩
      have HZz := Lib.hid (HZ9.out.next hb)
      clear hb
      go_wp2
      go_ret
      exact ⟨rfl, HZz.out.hB⟩
end Go.Proofs.Ytoofogmlodfgmaa.gn
