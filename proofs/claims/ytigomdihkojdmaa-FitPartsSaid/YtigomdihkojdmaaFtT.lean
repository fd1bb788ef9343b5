/- FitParts: the law's walk. -/
import Derived.Test.YtigomdihkojdmaaFtR
import Derived.Test.YtigomdihkojdmaaFtS
namespace Go.Proofs.Ytigomdihkojdmaa.gn
open Go.RowKit Go.Shelf
open Go.Proofs.Ytigomdihkojdmaa.sp

def PartsCut (w : World) (v : Rv) (R : Rw) (x : Shp) (f : Int) (s3 s4 s5 : Value) (W : World) : Prop :=
  ∃ B3 B4, s3 = .pointer (some ⟨B3, 0, none⟩) ∧ s4 = .pointer (some ⟨B4, 0, none⟩) ∧ s5 = .int .i64 f ∧ LB w v R #[.int .i64 x.i, .int .i64 x.w, .int .i64 x.o, .int .i64 x.n, .int .i64 x.b, .int .i64 x.l] B3 B4 W

set_option maxRecDepth 100000 in
set_option maxHeartbeats 8000000 in
theorem parts_law (v : Rv) (R : Rw) (x : Shp) (a : Slt) (f : Int) (w : World) (hR : RoomV w v R) :
    Calls Try.prog 5 #[.agg #[.slice v.p1 v.q1 v.r1, .slice v.p2 v.q2 v.r2, .slice v.p3 v.q3 v.r3, .slice v.p4 v.q4 v.r4, .slice v.p5 v.q5 v.r5, .slice v.p6 v.q6 v.r6, .int .i64 x.i, .int .i64 x.w, .int .i64 x.o, .int .i64 x.n, .int .i64 x.b, .int .i64 x.l, .int .i64 a.s, .int .i64 a.c, .int .i64 a.o, .int .i64 f]] w (TellsB true w) := by
  go_enter Try.func5, Try.ntmps5
  obtain ⟨W0, hW0⟩ : ∃ W0, w.alloc (.cells #[.slice v.p1 v.q1 v.r1, .slice v.p2 v.q2 v.r2, .slice v.p3 v.q3 v.r3, .slice v.p4 v.q4 v.r4, .slice v.p5 v.q5 v.r5, .slice v.p6 v.q6 v.r6, .int .i64 x.i, .int .i64 x.w, .int .i64 x.o, .int .i64 x.n, .int .i64 x.b, .int .i64 x.l, .int .i64 a.s, .int .i64 a.c, .int .i64 a.o, .int .i64 f] 32) = W0 := ⟨_, rfl⟩
  have bW : BoxA W0 w.heap.size 32 #[.slice v.p1 v.q1 v.r1, .slice v.p2 v.q2 v.r2, .slice v.p3 v.q3 v.r3, .slice v.p4 v.q4 v.r4, .slice v.p5 v.q5 v.r5, .slice v.p6 v.q6 v.r6, .int .i64 x.i, .int .i64 x.w, .int .i64 x.o, .int .i64 x.n, .int .i64 x.b, .int .i64 x.l, .int .i64 a.s, .int .i64 a.c, .int .i64 a.o, .int .i64 f] := by rw [← hW0]; exact BoxA.new w _ _
  have hb0 : Below w.heap.size w W0 := by rw [← hW0]; exact (Below.refl _ _).alloc (Nat.le_refl _) _
  have HR0 := Lib.hid hR
  have HB0 := Lib.hid hb0
  have HW := Lib.hid bW
  have HE := Lib.hid hW0
  clear hR hb0 bW hW0
  go_upto_region 1 with fail
  rw [HE.out]
  clear HE
  go_cut [3, 4, 5] (fun s3 s4 s5 wx => PartsCut w v R x f s3 s4 s5 wx)
  case first =>
    have g0 := HW.out.cell 0 (.slice v.p1 v.q1 v.r1)
    have g1 := HW.out.cell 1 (.slice v.p2 v.q2 v.r2)
    have g2 := HW.out.cell 2 (.slice v.p3 v.q3 v.r3)
    have g3 := HW.out.cell 3 (.slice v.p4 v.q4 v.r4)
    have g4 := HW.out.cell 4 (.slice v.p5 v.q5 v.r5)
    have g5 := HW.out.cell 5 (.slice v.p6 v.q6 v.r6)
    have g6 := HW.out.cell 6 (.int .i64 x.i)
    have g7 := HW.out.cell 7 (.int .i64 x.w)
    have g8 := HW.out.cell 8 (.int .i64 x.o)
    have g9 := HW.out.cell 9 (.int .i64 x.n)
    have g10 := HW.out.cell 10 (.int .i64 x.b)
    have g11 := HW.out.cell 11 (.int .i64 x.l)
    have g15 := HW.out.cell 15 (.int .i64 f)
    go_region_held3 (fun W => W.cell? ⟨w.heap.size, 0, none⟩ = some (.slice v.p1 v.q1 v.r1) ∧ W.cell? ⟨w.heap.size, 1, none⟩ = some (.slice v.p2 v.q2 v.r2) ∧ W.cell? ⟨w.heap.size, 2, none⟩ = some (.slice v.p3 v.q3 v.r3) ∧ W.cell? ⟨w.heap.size, 3, none⟩ = some (.slice v.p4 v.q4 v.r4) ∧ W.cell? ⟨w.heap.size, 4, none⟩ = some (.slice v.p5 v.q5 v.r5) ∧ W.cell? ⟨w.heap.size, 5, none⟩ = some (.slice v.p6 v.q6 v.r6) ∧ W.cell? ⟨w.heap.size, 6, none⟩ = some (.int .i64 x.i) ∧ W.cell? ⟨w.heap.size, 7, none⟩ = some (.int .i64 x.w) ∧ W.cell? ⟨w.heap.size, 8, none⟩ = some (.int .i64 x.o) ∧ W.cell? ⟨w.heap.size, 9, none⟩ = some (.int .i64 x.n) ∧ W.cell? ⟨w.heap.size, 10, none⟩ = some (.int .i64 x.b) ∧ W.cell? ⟨w.heap.size, 11, none⟩ = some (.int .i64 x.l) ∧ W.cell? ⟨w.heap.size, 15, none⟩ = some (.int .i64 f)) (simp (config := { maxDischargeDepth := 8 }) [*, World.cell?_alloc_some]) (fail)
    all_goals
      clear g0 g1 g2 g3 g4 g5 g6 g7 g8 g9 g10 g11 g15 HW
      obtain ⟨W3, hW3, h1, h2, hb⟩ := al2 W0 _ _
      rw [hW3]
      go_wp2_with fail
      go_meet
      have hbb := HB0.out.trans (hb.mono HB0.out.size)
      have hrr := HR0.out
      have hsz := HB0.out.size
      first
        | exact ⟨_, _, rfl, rfl, rfl, h1, h2, hbb, hrr, by omega, by omega, by omega⟩
        | exact ⟨_, _, rfl, rfl, rfl, h2, h1, hbb, hrr, by omega, by omega, by omega⟩
  case rest =>
    obtain ⟨B3, B4, rfl, rfl, rfl, S0⟩ := hcut
    have kr0 := S0.bR.cell 0 (.slice v.p1 v.q1 v.r1)
    have kr1 := S0.bR.cell 1 (.slice v.p2 v.q2 v.r2)
    have kr2 := S0.bR.cell 2 (.slice v.p3 v.q3 v.r3)
    have kr3 := S0.bR.cell 3 (.slice v.p4 v.q4 v.r4)
    have kr4 := S0.bR.cell 4 (.slice v.p5 v.q5 v.r5)
    have kr5 := S0.bR.cell 5 (.slice v.p6 v.q6 v.r6)
    have HS0 := Lib.hid S0
    clear S0 HR0 HB0 HW
    cases hg : great R with
    | true =>
      have HG : Hid (great R = true) := hg
      clear hg
      go_wp2_with (first
        | (go_at_call 6; ((with_reducible refine (great_any HS0.out.hR).mono ?_); rintro e w1 ⟨rfl, hb1⟩; rw [HG.out]; have HB1 := Lib.hid (HS0.out.hB.trans (hb1.mono HS0.out.hB.size)); clear hb1))
        | (go_at_call 7; ((with_reducible refine (head_any _).mono ?_); rintro e w2 ⟨rfl, hb2⟩; have HB2 := Lib.hid (HB1.out.trans (hb2.mono HB1.out.size)); clear hb2)))
      go_ret
      exact ⟨rfl, HB2.out⟩
    | false =>
      have HG : Hid (great R = false) := hg
      clear hg
      go_wp2_with (first
        | (go_at_call 6; ((with_reducible refine (great_any HS0.out.hR).mono ?_); rintro e w1 ⟨rfl, hb1⟩; rw [HG.out]; have S1 := HS0.out.next hb1; have kx0 := S1.bX.cell 0 (.int .i64 x.i); have kx1 := S1.bX.cell 1 (.int .i64 x.w); have kx2 := S1.bX.cell 2 (.int .i64 x.o); have kx3 := S1.bX.cell 3 (.int .i64 x.n); have kx4 := S1.bX.cell 4 (.int .i64 x.b); have kx5 := S1.bX.cell 5 (.int .i64 x.l); have kf0 := S1.bX.free 0; have kf2 := S1.bX.free 2; have kf4 := S1.bX.free 4; obtain ⟨X, hX⟩ : ∃ X, World.setCell (World.setCell (World.setCell w1 ⟨B4, 0, none⟩ (.int .i64 0)) ⟨B4, 2, none⟩ (.int .i64 0)) ⟨B4, 4, none⟩ (.int .i64 0) = X := ⟨_, rfl⟩; have SX : LB w v R #[.int .i64 0, .int .i64 x.w, .int .i64 0, .int .i64 x.n, .int .i64 0, .int .i64 x.l] B3 B4 X := (by rw [← hX]; exact ((S1.setX 0 _).setX 2 _).setX 4 _); have HX := Lib.hid hX; have HS1 := Lib.hid SX; clear S1 hb1 SX hX))
        | (rw [HX.out]; clear HX kf0 kf2 kf4 kx0 kx1 kx2 kx3 kx4 kx5; have kr0 := HS1.out.bR.cell 0 (.slice v.p1 v.q1 v.r1); have kr1 := HS1.out.bR.cell 1 (.slice v.p2 v.q2 v.r2); have kr2 := HS1.out.bR.cell 2 (.slice v.p3 v.q3 v.r3); have kr3 := HS1.out.bR.cell 3 (.slice v.p4 v.q4 v.r4); have kr4 := HS1.out.bR.cell 4 (.slice v.p5 v.q5 v.r5); have kr5 := HS1.out.bR.cell 5 (.slice v.p6 v.q6 v.r6); have kx0 := HS1.out.bX.cell 0 (.int .i64 0); have kx1 := HS1.out.bX.cell 1 (.int .i64 x.w); have kx2 := HS1.out.bX.cell 2 (.int .i64 0); have kx3 := HS1.out.bX.cell 3 (.int .i64 x.n); have kx4 := HS1.out.bX.cell 4 (.int .i64 0); have kx5 := HS1.out.bX.cell 5 (.int .i64 x.l); have HSX := Lib.hid HS1.out))
      by_cases hok : R.Ok ∧ Shp.Q ⟨0, x.w, 0, x.n, 0, x.l⟩ ∧ Q f
      · obtain ⟨⟨hOk, hxq, hf⟩, r, hr, hIs⟩ : (R.Ok ∧ Shp.Q ⟨0, x.w, 0, x.n, 0, x.l⟩ ∧ Q f) ∧ ∃ r : Rm, r.Ok ∧ R.Is r := ⟨hok, Rw.ok_iff.1 hok.1⟩
        have hw : Q x.w := hxq.w
        have hn : Q x.n := hxq.n
        have hl : Q x.l := hxq.l
        cases hz : fst? r.n f x.w x.n with
        | none =>
          have hs : slot? r ⟨0, x.w, 0, x.n, 0, x.l⟩ f = none := parts_none hr hw hn hl hf hz
          have HSL := Lib.hid fun (W : World) (hJ : RoomV W v R) => slot6_none hJ hr hIs hxq hf hs
          have HFI := Lib.hid fun (W : World) (hJ : RoomV W v R) => (show Calls Try.prog 15 #[.agg #[.slice v.p1 v.q1 v.r1, .slice v.p2 v.q2 v.r2], .int .i64 f, .int .i64 x.w, .int .i64 x.n] W (fun e w' => e = .returned (.tuple #[.int .i64 0, .int .i64 7]) ∧ Below W.heap.size W w') from by
            have h := hJ.n
            rw [hIs.an, hIs.nn] at h
            have := First_yes h hr.n hf hw hn
            rwa [hz] at this)
          clear hok hOk hxq hf hr hIs hw hn hl hz hs
          go_wp2_with (first
            | (go_at_call 8; ((with_reducible refine (HSL.out _ HSX.out.hR).mono ?_); rintro e w2 ⟨rfl, hb⟩; have K := (HSX.out.next hb).alloc (.cells #[.int .i64 0, .int .i64 0, .int .i64 0] 30); have kr0 := K.bR.cell 0 (.slice v.p1 v.q1 v.r1); have kr1 := K.bR.cell 1 (.slice v.p2 v.q2 v.r2); have kr2 := K.bR.cell 2 (.slice v.p3 v.q3 v.r3); have kr3 := K.bR.cell 3 (.slice v.p4 v.q4 v.r4); have kr4 := K.bR.cell 4 (.slice v.p5 v.q5 v.r5); have kr5 := K.bR.cell 5 (.slice v.p6 v.q6 v.r6); have kx0 := K.bX.cell 0 (.int .i64 0); have kx1 := K.bX.cell 1 (.int .i64 x.w); have kx2 := K.bX.cell 2 (.int .i64 0); have kx3 := K.bX.cell 3 (.int .i64 x.n); have kx4 := K.bX.cell 4 (.int .i64 0); have kx5 := K.bX.cell 5 (.int .i64 x.l); skip; have HK2 := Lib.hid K; clear K hb))
            | (go_at_call 15; ((with_reducible refine (HFI.out _ HK2.out.hR).mono ?_); rintro e w3 ⟨rfl, hb⟩; have HK3 := Lib.hid (HK2.out.next hb); clear hb))
            | (go_at_call 7; ((with_reducible refine (head_any _).mono ?_); rintro e w4 ⟨rfl, hb⟩; have HB := Lib.hid (HK3.out.hB.trans (hb.mono HK3.out.hB.size)); clear hb)))
          go_ret
          exact ⟨rfl, HB.out⟩
        | some t =>
          obtain ⟨hs, hle, hft⟩ := parts_some hr hw hn hl hf hz
          have hs : slot? r ⟨0, x.w, 0, x.n, 0, x.l⟩ f = some ⟨f, t, t + x.w⟩ := hs
          have hs0 : slot? r ⟨0, 0, 0, 0, 0, 0⟩ f = some ⟨f, f, f⟩ := slot_zero hr hf rfl rfl rfl
          have HSL := Lib.hid fun (W : World) (hJ : RoomV W v R) => slot6_some hJ hr hIs hxq hf hs
          have HS0 := Lib.hid fun (W : World) (hJ : RoomV W v R) => slot6_some hJ hr hIs ⟨q_zero, q_zero, q_zero, q_zero, q_zero, q_zero⟩ hf hs0
          have HFI := Lib.hid fun (W : World) (hJ : RoomV W v R) => (show Calls Try.prog 15 #[.agg #[.slice v.p1 v.q1 v.r1, .slice v.p2 v.q2 v.r2], .int .i64 f, .int .i64 x.w, .int .i64 x.n] W (fun e w' => e = .returned (.tuple #[.int .i64 t, .int .i64 0]) ∧ Below W.heap.size W w') from by
            have h := hJ.n
            rw [hIs.an, hIs.nn] at h
            have := First_yes h hr.n hf hw hn
            rwa [hz] at this)
          have ht0 : 0 ≤ t := by have := hf.1; omega
          have ht1 : t ≤ 1099511627776 := by have := hw.1; omega
          have hw0 : 0 ≤ x.w := hw.1
          have hw1 : x.w ≤ 1099511627776 := hw.2
          clear hok hOk hxq hf hr hIs hw hn hl hz hs hs0 hft
          go_wp2_with (first
            | (go_at_call 8; ((with_reducible refine (HSL.out _ HSX.out.hR).mono ?_); rintro e w2 ⟨rfl, hb⟩; have K := (HSX.out.next hb).alloc (.cells #[.int .i64 f, .int .i64 t, .int .i64 (t + x.w)] 30); have kr0 := K.bR.cell 0 (.slice v.p1 v.q1 v.r1); have kr1 := K.bR.cell 1 (.slice v.p2 v.q2 v.r2); have kr2 := K.bR.cell 2 (.slice v.p3 v.q3 v.r3); have kr3 := K.bR.cell 3 (.slice v.p4 v.q4 v.r4); have kr4 := K.bR.cell 4 (.slice v.p5 v.q5 v.r5); have kr5 := K.bR.cell 5 (.slice v.p6 v.q6 v.r6); have kx0 := K.bX.cell 0 (.int .i64 0); have kx1 := K.bX.cell 1 (.int .i64 x.w); have kx2 := K.bX.cell 2 (.int .i64 0); have kx3 := K.bX.cell 3 (.int .i64 x.n); have kx4 := K.bX.cell 4 (.int .i64 0); have kx5 := K.bX.cell 5 (.int .i64 x.l); have b6 := BoxA.new w2 30 #[.int .i64 f, .int .i64 t, .int .i64 (t + x.w)]; have HZ6 := Lib.hid b6; clear b6; have HK2 := Lib.hid K; clear K hb))
            | (go_at_call 15; ((with_reducible refine (HFI.out _ HK2.out.hR).mono ?_); rintro e w3 ⟨rfl, hb⟩; have K := HK2.out.next hb; have kr0 := K.bR.cell 0 (.slice v.p1 v.q1 v.r1); have kr1 := K.bR.cell 1 (.slice v.p2 v.q2 v.r2); have kr2 := K.bR.cell 2 (.slice v.p3 v.q3 v.r3); have kr3 := K.bR.cell 3 (.slice v.p4 v.q4 v.r4); have kr4 := K.bR.cell 4 (.slice v.p5 v.q5 v.r5); have kr5 := K.bR.cell 5 (.slice v.p6 v.q6 v.r6); have kx0 := K.bX.cell 0 (.int .i64 0); have kx1 := K.bX.cell 1 (.int .i64 x.w); have kx2 := K.bX.cell 2 (.int .i64 0); have kx3 := K.bX.cell 3 (.int .i64 x.n); have kx4 := K.bX.cell 4 (.int .i64 0); have kx5 := K.bX.cell 5 (.int .i64 x.l); have b6 := HZ6.out.next hb; have HZ7 := Lib.hid b6; have HK3 := Lib.hid K; clear K hb b6))
            | (go_at_call 8; ((with_reducible refine (HS0.out _ HK3.out.hR).mono ?_); rintro e w4 ⟨rfl, hb⟩; have K := (HK3.out.next hb).alloc (.cells #[.int .i64 f, .int .i64 f, .int .i64 f] 30); have kr0 := K.bR.cell 0 (.slice v.p1 v.q1 v.r1); have kr1 := K.bR.cell 1 (.slice v.p2 v.q2 v.r2); have kr2 := K.bR.cell 2 (.slice v.p3 v.q3 v.r3); have kr3 := K.bR.cell 3 (.slice v.p4 v.q4 v.r4); have kr4 := K.bR.cell 4 (.slice v.p5 v.q5 v.r5); have kr5 := K.bR.cell 5 (.slice v.p6 v.q6 v.r6); have kx0 := K.bX.cell 0 (.int .i64 0); have kx1 := K.bX.cell 1 (.int .i64 x.w); have kx2 := K.bX.cell 2 (.int .i64 0); have kx3 := K.bX.cell 3 (.int .i64 x.n); have kx4 := K.bX.cell 4 (.int .i64 0); have kx5 := K.bX.cell 5 (.int .i64 x.l); have b6 := (HZ7.out.next hb).alloc (.cells #[.int .i64 f, .int .i64 f, .int .i64 f] 30); have b7 := BoxA.new w4 30 #[.int .i64 f, .int .i64 f, .int .i64 f]; have y0 := b6.cell 0 (.int .i64 f); have y1 := b6.cell 1 (.int .i64 t); have y2 := b6.cell 2 (.int .i64 (t + x.w)); have z0 := b7.cell 0 (.int .i64 f); have z1 := b7.cell 1 (.int .i64 f); have z2 := b7.cell 2 (.int .i64 f); clear b6 b7; have HK4 := Lib.hid K; clear K hb))
            | (go_at_call 7; ((with_reducible refine (head_any _).mono ?_); rintro e w5 ⟨rfl, hb⟩; have HB := Lib.hid (HK4.out.hB.trans (hb.mono HK4.out.hB.size)); clear hb)))
          go_ret
          exact ⟨rfl, HB.out⟩
      · have HSL := Lib.hid fun (W : World) (hJ : RoomV W v R) => slot6_bad hJ hok
        clear hok
        go_wp2_with (first
          | (go_at_call 8; ((with_reducible refine (HSL.out _ HSX.out.hR).mono ?_); rintro e w2 ⟨rfl, hb⟩; have K := (HSX.out.next hb).alloc (.cells #[.int .i64 0, .int .i64 0, .int .i64 0] 30); have kr0 := K.bR.cell 0 (.slice v.p1 v.q1 v.r1); have kr1 := K.bR.cell 1 (.slice v.p2 v.q2 v.r2); have kr2 := K.bR.cell 2 (.slice v.p3 v.q3 v.r3); have kr3 := K.bR.cell 3 (.slice v.p4 v.q4 v.r4); have kr4 := K.bR.cell 4 (.slice v.p5 v.q5 v.r5); have kr5 := K.bR.cell 5 (.slice v.p6 v.q6 v.r6); have kx0 := K.bX.cell 0 (.int .i64 0); have kx1 := K.bX.cell 1 (.int .i64 x.w); have kx2 := K.bX.cell 2 (.int .i64 0); have kx3 := K.bX.cell 3 (.int .i64 x.n); have kx4 := K.bX.cell 4 (.int .i64 0); have kx5 := K.bX.cell 5 (.int .i64 x.l); skip; have HK2 := Lib.hid K; clear K hb))
          | (go_at_call 15; ((with_reducible refine (First_total HK2.out.hR.n).mono ?_); rintro e w3 ⟨a', c', rfl, hb⟩; have HK3 := Lib.hid (HK2.out.next hb); clear hb))
          | (go_at_call 7; ((with_reducible refine (head_any _).mono ?_); rintro e w4 ⟨rfl, hb⟩; have HB := Lib.hid (HK3.out.hB.trans (hb.mono HK3.out.hB.size)); clear hb)))
        go_ret
        exact ⟨rfl, HB.out⟩

end Go.Proofs.Ytigomdihkojdmaa.gn
