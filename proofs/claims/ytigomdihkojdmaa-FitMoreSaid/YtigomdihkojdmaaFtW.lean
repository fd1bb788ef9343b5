/- FitMore: the law's walk. -/
import Derived.Test.YtigomdihkojdmaaFtV
namespace Go.Proofs.Ytigomdihkojdmaa.gn
open Go.RowKit Go.Shelf
open Go.Proofs.Ytigomdihkojdmaa.sp

def MoreCut (w : World) (v : Rv) (R : Rw) (x : Shp) (f g : Int) (k : Nat) (t n : Int) (s3 s4 s5 s6 s7 s8 s9 : Value) (W : World) : Prop :=
  ∃ B3 B4, s3 = .pointer (some ⟨B3, 0, none⟩) ∧ s4 = .pointer (some ⟨B4, 0, none⟩) ∧ s5 = .int .i64 f ∧ s6 = .int .i64 g ∧ s7 = .int .u8 (k : Int) ∧ s8 = .int .i64 t ∧ s9 = .int .i64 n ∧ LB w v R #[.int .i64 x.i, .int .i64 x.w, .int .i64 x.o, .int .i64 x.n, .int .i64 x.b, .int .i64 x.l] B3 B4 W

set_option maxRecDepth 100000 in
set_option maxHeartbeats 16000000 in
theorem more_law (v : Rv) (R : Rw) (x : Shp) (f g : Int) (k : Nat) (t n : Int) (hk : k < 256) (w : World) (hR : RoomV w v R) :
    Calls Try.prog 4 #[.agg #[.slice v.p1 v.q1 v.r1, .slice v.p2 v.q2 v.r2, .slice v.p3 v.q3 v.r3, .slice v.p4 v.q4 v.r4, .slice v.p5 v.q5 v.r5, .slice v.p6 v.q6 v.r6, .int .i64 x.i, .int .i64 x.w, .int .i64 x.o, .int .i64 x.n, .int .i64 x.b, .int .i64 x.l, .int .i64 f, .int .i64 g, .int .u8 (k : Int), .int .i64 t, .int .i64 n]] w (TellsB true w) := by
  go_enter Try.func4, Try.ntmps4
  obtain ⟨W0, hW0⟩ : ∃ W0, w.alloc (.cells #[.slice v.p1 v.q1 v.r1, .slice v.p2 v.q2 v.r2, .slice v.p3 v.q3 v.r3, .slice v.p4 v.q4 v.r4, .slice v.p5 v.q5 v.r5, .slice v.p6 v.q6 v.r6, .int .i64 x.i, .int .i64 x.w, .int .i64 x.o, .int .i64 x.n, .int .i64 x.b, .int .i64 x.l, .int .i64 f, .int .i64 g, .int .u8 (k : Int), .int .i64 t, .int .i64 n] 44) = W0 := ⟨_, rfl⟩
  have bW : BoxA W0 w.heap.size 44 #[.slice v.p1 v.q1 v.r1, .slice v.p2 v.q2 v.r2, .slice v.p3 v.q3 v.r3, .slice v.p4 v.q4 v.r4, .slice v.p5 v.q5 v.r5, .slice v.p6 v.q6 v.r6, .int .i64 x.i, .int .i64 x.w, .int .i64 x.o, .int .i64 x.n, .int .i64 x.b, .int .i64 x.l, .int .i64 f, .int .i64 g, .int .u8 (k : Int), .int .i64 t, .int .i64 n] := by rw [← hW0]; exact BoxA.new w _ _
  have hb0 : Below w.heap.size w W0 := by rw [← hW0]; exact (Below.refl _ _).alloc (Nat.le_refl _) _
  have HR0 := Lib.hid hR
  have HB0 := Lib.hid hb0
  have HW := Lib.hid bW
  have HE := Lib.hid hW0
  clear hR hb0 bW hW0
  go_upto_region 1 with fail
  rw [HE.out]
  clear HE
  go_cut [3, 4, 5, 6, 7, 8, 9] (fun s3 s4 s5 s6 s7 s8 s9 wx => MoreCut w v R x f g k t n s3 s4 s5 s6 s7 s8 s9 wx)
  case first =>
    have g0 := HW.out.cell 0 (.slice v.p1 v.q1 v.r1)
    have g1 := HW.out.cell 1 (.slice v.p2 v.q2 v.r2)
    have g2 := HW.out.cell 2 (.slice v.p3 v.q3 v.r3)
    have g3 := HW.out.cell 3 (.slice v.p4 v.q4 v.r4)
    have g4 := HW.out.cell 4 (.slice v.p5 v.q5 v.r5)
    have g5 := HW.out.cell 5 (.slice v.p6 v.q6 v.r6)
    have g6 := HW.out.cell 6 (.int .i64 x.i)
    have g7 := HW.out.cell 7 (.int .i64 x.w)
    have g8 := HW.out.cell 8 (.int .i64 x.o)
    have g9 := HW.out.cell 9 (.int .i64 x.n)
    have g10 := HW.out.cell 10 (.int .i64 x.b)
    have g11 := HW.out.cell 11 (.int .i64 x.l)
    have g12 := HW.out.cell 12 (.int .i64 f)
    have g13 := HW.out.cell 13 (.int .i64 g)
    have g14 := HW.out.cell 14 (.int .u8 (k : Int))
    have g15 := HW.out.cell 15 (.int .i64 t)
    have g16 := HW.out.cell 16 (.int .i64 n)
    go_region_held3 (fun W => W.cell? ⟨w.heap.size, 0, none⟩ = some (.slice v.p1 v.q1 v.r1) ∧ W.cell? ⟨w.heap.size, 1, none⟩ = some (.slice v.p2 v.q2 v.r2) ∧ W.cell? ⟨w.heap.size, 2, none⟩ = some (.slice v.p3 v.q3 v.r3) ∧ W.cell? ⟨w.heap.size, 3, none⟩ = some (.slice v.p4 v.q4 v.r4) ∧ W.cell? ⟨w.heap.size, 4, none⟩ = some (.slice v.p5 v.q5 v.r5) ∧ W.cell? ⟨w.heap.size, 5, none⟩ = some (.slice v.p6 v.q6 v.r6) ∧ W.cell? ⟨w.heap.size, 6, none⟩ = some (.int .i64 x.i) ∧ W.cell? ⟨w.heap.size, 7, none⟩ = some (.int .i64 x.w) ∧ W.cell? ⟨w.heap.size, 8, none⟩ = some (.int .i64 x.o) ∧ W.cell? ⟨w.heap.size, 9, none⟩ = some (.int .i64 x.n) ∧ W.cell? ⟨w.heap.size, 10, none⟩ = some (.int .i64 x.b) ∧ W.cell? ⟨w.heap.size, 11, none⟩ = some (.int .i64 x.l) ∧ W.cell? ⟨w.heap.size, 12, none⟩ = some (.int .i64 f) ∧ W.cell? ⟨w.heap.size, 13, none⟩ = some (.int .i64 g) ∧ W.cell? ⟨w.heap.size, 14, none⟩ = some (.int .u8 (k : Int)) ∧ W.cell? ⟨w.heap.size, 15, none⟩ = some (.int .i64 t) ∧ W.cell? ⟨w.heap.size, 16, none⟩ = some (.int .i64 n)) (simp (config := { maxDischargeDepth := 8 }) [*, World.cell?_alloc_some]) (fail)
    all_goals
      clear g0 g1 g2 g3 g4 g5 g6 g7 g8 g9 g10 g11 g12 g13 g14 g15 g16 HW
      obtain ⟨W3, hW3, h1, h2, hb⟩ := al2 W0 _ _
      rw [hW3]
      go_wp2_with fail
      go_meet
      have hbb := HB0.out.trans (hb.mono HB0.out.size)
      have hrr := HR0.out
      have hsz := HB0.out.size
      first
        | exact ⟨_, _, rfl, rfl, rfl, rfl, rfl, rfl, rfl, h1, h2, hbb, hrr, by omega, by omega, by omega⟩
        | exact ⟨_, _, rfl, rfl, rfl, rfl, rfl, rfl, rfl, h2, h1, hbb, hrr, by omega, by omega, by omega⟩
  case rest =>
    obtain ⟨B3, B4, rfl, rfl, rfl, rfl, rfl, rfl, rfl, S0⟩ := hcut
    have kr0 := S0.bR.cell 0 (.slice v.p1 v.q1 v.r1)
    have kr1 := S0.bR.cell 1 (.slice v.p2 v.q2 v.r2)
    have kr2 := S0.bR.cell 2 (.slice v.p3 v.q3 v.r3)
    have kr3 := S0.bR.cell 3 (.slice v.p4 v.q4 v.r4)
    have kr4 := S0.bR.cell 4 (.slice v.p5 v.q5 v.r5)
    have kr5 := S0.bR.cell 5 (.slice v.p6 v.q6 v.r6)
    have HS0 := Lib.hid S0
    clear S0 HR0 HB0 HW
    cases hg : great R with
    | true =>
      have HG : Hid (great R = true) := hg
      clear hg
      go_wp2_with (first
        | (go_at_call 6; ((with_reducible refine (great_any HS0.out.hR).mono ?_); rintro e w1 ⟨rfl, hb1⟩; rw [HG.out]; have S1 := HS0.out.next hb1; have kr0 := S1.bR.cell 0 (.slice v.p1 v.q1 v.r1); have kr1 := S1.bR.cell 1 (.slice v.p2 v.q2 v.r2); have kr2 := S1.bR.cell 2 (.slice v.p3 v.q3 v.r3); have kr3 := S1.bR.cell 3 (.slice v.p4 v.q4 v.r4); have kr4 := S1.bR.cell 4 (.slice v.p5 v.q5 v.r5); have kr5 := S1.bR.cell 5 (.slice v.p6 v.q6 v.r6); have kx0 := S1.bX.cell 0 (.int .i64 x.i); have kx1 := S1.bX.cell 1 (.int .i64 x.w); have kx2 := S1.bX.cell 2 (.int .i64 x.o); have kx3 := S1.bX.cell 3 (.int .i64 x.n); have kx4 := S1.bX.cell 4 (.int .i64 x.b); have kx5 := S1.bX.cell 5 (.int .i64 x.l); have HS1 := Lib.hid S1; clear S1 hb1))
        | (go_at_call 7; ((with_reducible refine (head_any _).mono ?_); rintro e w2 ⟨rfl, hb⟩; have HB := Lib.hid (HS1.out.hB.trans (hb.mono HS1.out.hB.size)); clear hb)))
      go_ret
      exact ⟨rfl, HB.out⟩
    | false =>
      have HG : Hid (great R = false) := hg
      clear hg
      by_cases hok : R.Ok ∧ Shp.Q ⟨x.i, x.w, x.o, x.n, x.b, x.l⟩ ∧ Q f
      · obtain ⟨⟨hOk, hxq, hf⟩, r, hr, hIs⟩ : (R.Ok ∧ Shp.Q ⟨x.i, x.w, x.o, x.n, x.b, x.l⟩ ∧ Q f) ∧ ∃ r : Rm, r.Ok ∧ R.Is r := ⟨hok, Rw.ok_iff.1 hok.1⟩
        have hlen : r.n.length + r.b.length + r.l.length ≤ 40 := great_no hr hIs HG.out
        cases hz : slot? r ⟨x.i, x.w, x.o, x.n, x.b, x.l⟩ f with
        | none =>
          have HSL := Lib.hid fun (W : World) (hJ : RoomV W v R) => slot6_none hJ hr hIs hxq hf hz
          clear hok hOk hxq hf hr hIs hz hlen
          go_wp2_with (first
            | (go_at_call 6; ((with_reducible refine (great_any HS0.out.hR).mono ?_); rintro e w1 ⟨rfl, hb1⟩; rw [HG.out]; have S1 := HS0.out.next hb1; have kr0 := S1.bR.cell 0 (.slice v.p1 v.q1 v.r1); have kr1 := S1.bR.cell 1 (.slice v.p2 v.q2 v.r2); have kr2 := S1.bR.cell 2 (.slice v.p3 v.q3 v.r3); have kr3 := S1.bR.cell 3 (.slice v.p4 v.q4 v.r4); have kr4 := S1.bR.cell 4 (.slice v.p5 v.q5 v.r5); have kr5 := S1.bR.cell 5 (.slice v.p6 v.q6 v.r6); have kx0 := S1.bX.cell 0 (.int .i64 x.i); have kx1 := S1.bX.cell 1 (.int .i64 x.w); have kx2 := S1.bX.cell 2 (.int .i64 x.o); have kx3 := S1.bX.cell 3 (.int .i64 x.n); have kx4 := S1.bX.cell 4 (.int .i64 x.b); have kx5 := S1.bX.cell 5 (.int .i64 x.l); have HS1 := Lib.hid S1; clear S1 hb1))
            | (go_at_call 8; ((with_reducible refine (HSL.out _ HS1.out.hR).mono ?_); rintro e w2 ⟨rfl, hb⟩; have K := (HS1.out.next hb).alloc (.cells #[.int .i64 0, .int .i64 0, .int .i64 0] 30); have kr0 := K.bR.cell 0 (.slice v.p1 v.q1 v.r1); have kr1 := K.bR.cell 1 (.slice v.p2 v.q2 v.r2); have kr2 := K.bR.cell 2 (.slice v.p3 v.q3 v.r3); have kr3 := K.bR.cell 3 (.slice v.p4 v.q4 v.r4); have kr4 := K.bR.cell 4 (.slice v.p5 v.q5 v.r5); have kr5 := K.bR.cell 5 (.slice v.p6 v.q6 v.r6); have kx0 := K.bX.cell 0 (.int .i64 x.i); have kx1 := K.bX.cell 1 (.int .i64 x.w); have kx2 := K.bX.cell 2 (.int .i64 x.o); have kx3 := K.bX.cell 3 (.int .i64 x.n); have kx4 := K.bX.cell 4 (.int .i64 x.b); have kx5 := K.bX.cell 5 (.int .i64 x.l); skip; have HK2 := Lib.hid K; clear K hb))
            | (go_at_call 13; ((with_reducible refine (Quantity_any _ _).mono ?_); rintro e w9 ⟨rfl, rfl⟩; fail))
            | (go_at_call 7; ((with_reducible refine (head_any _).mono ?_); rintro e w4 ⟨rfl, hb⟩; have HB := Lib.hid (HK2.out.hB.trans (hb.mono HK2.out.hB.size)); clear hb)))
          go_ret
          exact ⟨rfl, HB.out⟩
        | some z =>
          obtain ⟨s, c, o⟩ := z
          have HSL := Lib.hid fun (W : World) (hJ : RoomV W v R) => slot6_some hJ hr hIs hxq hf hz
          by_cases hgf : g < f
          · clear hok hOk hxq hf hr hIs hz hlen
            go_wp2_with (first
              | (go_at_call 6; ((with_reducible refine (great_any HS0.out.hR).mono ?_); rintro e w1 ⟨rfl, hb1⟩; rw [HG.out]; have S1 := HS0.out.next hb1; have kr0 := S1.bR.cell 0 (.slice v.p1 v.q1 v.r1); have kr1 := S1.bR.cell 1 (.slice v.p2 v.q2 v.r2); have kr2 := S1.bR.cell 2 (.slice v.p3 v.q3 v.r3); have kr3 := S1.bR.cell 3 (.slice v.p4 v.q4 v.r4); have kr4 := S1.bR.cell 4 (.slice v.p5 v.q5 v.r5); have kr5 := S1.bR.cell 5 (.slice v.p6 v.q6 v.r6); have kx0 := S1.bX.cell 0 (.int .i64 x.i); have kx1 := S1.bX.cell 1 (.int .i64 x.w); have kx2 := S1.bX.cell 2 (.int .i64 x.o); have kx3 := S1.bX.cell 3 (.int .i64 x.n); have kx4 := S1.bX.cell 4 (.int .i64 x.b); have kx5 := S1.bX.cell 5 (.int .i64 x.l); have HS1 := Lib.hid S1; clear S1 hb1))
              | (go_at_call 8; ((with_reducible refine (HSL.out _ HS1.out.hR).mono ?_); rintro e w2 ⟨rfl, hb⟩; have K := (HS1.out.next hb).alloc (.cells #[.int .i64 s, .int .i64 c, .int .i64 o] 30); have kr0 := K.bR.cell 0 (.slice v.p1 v.q1 v.r1); have kr1 := K.bR.cell 1 (.slice v.p2 v.q2 v.r2); have kr2 := K.bR.cell 2 (.slice v.p3 v.q3 v.r3); have kr3 := K.bR.cell 3 (.slice v.p4 v.q4 v.r4); have kr4 := K.bR.cell 4 (.slice v.p5 v.q5 v.r5); have kr5 := K.bR.cell 5 (.slice v.p6 v.q6 v.r6); have kx0 := K.bX.cell 0 (.int .i64 x.i); have kx1 := K.bX.cell 1 (.int .i64 x.w); have kx2 := K.bX.cell 2 (.int .i64 x.o); have kx3 := K.bX.cell 3 (.int .i64 x.n); have kx4 := K.bX.cell 4 (.int .i64 x.b); have kx5 := K.bX.cell 5 (.int .i64 x.l); skip; have HK2 := Lib.hid K; clear K hb))
              | (go_at_call 13; ((with_reducible refine (Quantity_any _ _).mono ?_); rintro e w9 ⟨rfl, rfl⟩; fail))
              | (go_at_call 7; ((with_reducible refine (head_any _).mono ?_); rintro e w4 ⟨rfl, hb⟩; have HB := Lib.hid (HK2.out.hB.trans (hb.mono HK2.out.hB.size)); clear hb)))
            go_ret
            exact ⟨rfl, HB.out⟩
          · have hgf' : f ≤ g := by omega
            clear hgf
            by_cases hq : Q g
            · have HQ : Hid (qB g = true) := qB_iff.2 hq
              have HX := Lib.hid (And.intro hr (And.intro hIs (And.intro hxq (And.intro hf (And.intro hz (And.intro hq hlen))))))
              clear hok hOk hxq hf hr hIs hz hlen hq
              obtain ⟨o', L, p1, p2, q1, r1, q2, r2, hsel⟩ := sel (v := v) k HX.out.2.1 HX.out.1 HX.out.2.2.2.2.2.2
              have HSE := Lib.hid hsel
              clear hsel
              have HSG := Lib.hid fun (W : World) (hJ : RoomV W v R) => slot_late hJ HX.out.1 HX.out.2.1 HX.out.2.2.1 HX.out.2.2.2.1 HX.out.2.2.2.2.2.1 hgf' HX.out.2.2.2.2.1
              have HGV := Lib.hid fun (W : World) (hJ : RoomV W v R) => give_total f t n (HSE.out.pr W hJ) HSE.out.ok HSE.out.len
              go_wp2_with (first
                | (go_at_call 6; ((with_reducible refine (great_any HS0.out.hR).mono ?_); rintro e w1 ⟨rfl, hb1⟩; rw [HG.out]; have S1 := HS0.out.next hb1; have kr0 := S1.bR.cell 0 (.slice v.p1 v.q1 v.r1); have kr1 := S1.bR.cell 1 (.slice v.p2 v.q2 v.r2); have kr2 := S1.bR.cell 2 (.slice v.p3 v.q3 v.r3); have kr3 := S1.bR.cell 3 (.slice v.p4 v.q4 v.r4); have kr4 := S1.bR.cell 4 (.slice v.p5 v.q5 v.r5); have kr5 := S1.bR.cell 5 (.slice v.p6 v.q6 v.r6); have kx0 := S1.bX.cell 0 (.int .i64 x.i); have kx1 := S1.bX.cell 1 (.int .i64 x.w); have kx2 := S1.bX.cell 2 (.int .i64 x.o); have kx3 := S1.bX.cell 3 (.int .i64 x.n); have kx4 := S1.bX.cell 4 (.int .i64 x.b); have kx5 := S1.bX.cell 5 (.int .i64 x.l); have HS1 := Lib.hid S1; clear S1 hb1))
                | (go_at_call 8; ((with_reducible refine (HSL.out _ HS1.out.hR).mono ?_); rintro e w2 ⟨rfl, hb⟩; have K0 := HS1.out.next hb; have K := K0.alloc (.cells #[.int .i64 s, .int .i64 c, .int .i64 o] 30); have kr0 := K.bR.cell 0 (.slice v.p1 v.q1 v.r1); have kr1 := K.bR.cell 1 (.slice v.p2 v.q2 v.r2); have kr2 := K.bR.cell 2 (.slice v.p3 v.q3 v.r3); have kr3 := K.bR.cell 3 (.slice v.p4 v.q4 v.r4); have kr4 := K.bR.cell 4 (.slice v.p5 v.q5 v.r5); have kr5 := K.bR.cell 5 (.slice v.p6 v.q6 v.r6); have kx0 := K.bX.cell 0 (.int .i64 x.i); have kx1 := K.bX.cell 1 (.int .i64 x.w); have kx2 := K.bX.cell 2 (.int .i64 x.o); have kx3 := K.bX.cell 3 (.int .i64 x.n); have kx4 := K.bX.cell 4 (.int .i64 x.b); have kx5 := K.bX.cell 5 (.int .i64 x.l); have bM := (BoxA.new (w2.alloc (.cells #[.int .i64 s, .int .i64 c, .int .i64 o] 30)) 26 #[.slice v.p1 v.q1 v.r1, .slice v.p2 v.q2 v.r2, .slice v.p3 v.q3 v.r3, .slice v.p4 v.q4 v.r4, .slice v.p5 v.q5 v.r5, .slice v.p6 v.q6 v.r6]).alloc (.cells #[.pointer (some ⟨w2.heap.size + 1, 0, none⟩), .pointer (some ⟨w2.heap.size + 1, 2, none⟩), .pointer (some ⟨w2.heap.size + 1, 4, none⟩)] 46); have bP := BoxA.new ((w2.alloc (.cells #[.int .i64 s, .int .i64 c, .int .i64 o] 30)).alloc (.cells #[.slice v.p1 v.q1 v.r1, .slice v.p2 v.q2 v.r2, .slice v.p3 v.q3 v.r3, .slice v.p4 v.q4 v.r4, .slice v.p5 v.q5 v.r5, .slice v.p6 v.q6 v.r6] 26)) 46 #[.pointer (some ⟨w2.heap.size + 1, 0, none⟩), .pointer (some ⟨w2.heap.size + 1, 2, none⟩), .pointer (some ⟨w2.heap.size + 1, 4, none⟩)]; simp only [World.size_alloc] at bM bP; have km0 := bM.cell o' (.slice p1 q1 r1) HSE.out.c1; have km1 := bM.cell (o' + 1) (.slice p2 q2 r2) HSE.out.c2; have kp := bP.cell (k % 3) (.pointer (some ⟨w2.heap.size + 1, o', none⟩)) (HSE.out.ptr _); have K2 : MB w v R #[.int .i64 x.i, .int .i64 x.w, .int .i64 x.o, .int .i64 x.n, .int .i64 x.b, .int .i64 x.l] B3 B4 w2.heap.size s c o (((w2.alloc (.cells #[.int .i64 s, .int .i64 c, .int .i64 o] 30)).alloc (.cells #[.slice v.p1 v.q1 v.r1, .slice v.p2 v.q2 v.r2, .slice v.p3 v.q3 v.r3, .slice v.p4 v.q4 v.r4, .slice v.p5 v.q5 v.r5, .slice v.p6 v.q6 v.r6] 26)).alloc (.cells #[.pointer (some ⟨w2.heap.size + 1, 0, none⟩), .pointer (some ⟨w2.heap.size + 1, 2, none⟩), .pointer (some ⟨w2.heap.size + 1, 4, none⟩)] 46)) := ((⟨K, BoxA.new w2 _ _⟩ : MB w v R #[.int .i64 x.i, .int .i64 x.w, .int .i64 x.o, .int .i64 x.n, .int .i64 x.b, .int .i64 x.l] B3 B4 w2.heap.size s c o (w2.alloc (.cells #[.int .i64 s, .int .i64 c, .int .i64 o] 30))).alloc _).alloc _; have HK2 := Lib.hid (And.intro K2 (And.intro bM (And.intro (show B3 < w2.heap.size from K0.bR.lt) (show B4 < w2.heap.size from K0.bX.lt)))); clear K0 K K2 bM bP hb))
                | (go_at_call 13; ((with_reducible refine (Quantity_any _ _).mono ?_); rintro e w9 ⟨rfl, rfl⟩; rw [HQ.out])))
              refine (HGV.out _ HK2.out.1.l.hR).mono ?_
              rintro e w3 ⟨cc, a1, n1, c1, a2, n2, c2, rfl, hb, hor⟩
              have bM3 := (HK2.out.2.1.next hb).alloc (.cells #[.slice a1 n1 c1, .slice a2 n2 c2] 24)
              have K3 := (HK2.out.1.next hb).alloc (.cells #[.slice a1 n1 c1, .slice a2 n2 c2] 24)
              have kr0 := K3.l.bR.cell 0 (.slice v.p1 v.q1 v.r1)
              have kr1 := K3.l.bR.cell 1 (.slice v.p2 v.q2 v.r2)
              have kr2 := K3.l.bR.cell 2 (.slice v.p3 v.q3 v.r3)
              have kr3 := K3.l.bR.cell 3 (.slice v.p4 v.q4 v.r4)
              have kr4 := K3.l.bR.cell 4 (.slice v.p5 v.q5 v.r5)
              have kr5 := K3.l.bR.cell 5 (.slice v.p6 v.q6 v.r6)
              have kx0 := K3.l.bX.cell 0 (.int .i64 x.i)
              have kx1 := K3.l.bX.cell 1 (.int .i64 x.w)
              have kx2 := K3.l.bX.cell 2 (.int .i64 x.o)
              have kx3 := K3.l.bX.cell 3 (.int .i64 x.n)
              have kx4 := K3.l.bX.cell 4 (.int .i64 x.b)
              have kx5 := K3.l.bX.cell 5 (.int .i64 x.l)
              have kz0 := K3.z.cell 0 (.int .i64 s)
              have kz1 := K3.z.cell 1 (.int .i64 c)
              have kz2 := K3.z.cell 2 (.int .i64 o)
              clear hb km0 km1 kp
              rcases hor with hne | ⟨rfl, M, hM, hmore, i1, i2⟩
              · have HK3 := Lib.hid K3
                clear K3 bM3
                go_wp2_with fail
                refine (HSG.out _ HK3.out.l.hR).mono ?_
                rintro e w6 ⟨s2, c2', o2, e2, rfl, hb, hor⟩
                have K := (HK3.out.next hb).alloc (.cells #[.int .i64 s2, .int .i64 c2', .int .i64 o2] 30)
                have kz0 := K.z.cell 0 (.int .i64 s)
                have kz1 := K.z.cell 1 (.int .i64 c)
                have kz2 := K.z.cell 2 (.int .i64 o)
                have b6 := BoxA.new w6 30 #[.int .i64 s2, .int .i64 c2', .int .i64 o2]
                have v0 := b6.cell 0 (.int .i64 s2)
                have v1 := b6.cell 1 (.int .i64 c2')
                have v2 := b6.cell 2 (.int .i64 o2)
                have HB6 := Lib.hid K.l.hB
                clear K b6 hb
                rcases hor with rfl | ⟨rfl, m1, m2, m3, m4⟩
                all_goals
                  go_wp2_with (go_at_call 7; ((with_reducible refine (head_any _).mono ?_); rintro e w7 ⟨rfl, hb⟩; have HB := Lib.hid (HB6.out.trans (hb.mono HB6.out.size)); clear hb))
                  go_ret
                  exact ⟨rfl, HB.out⟩
              · have km0 := bM3.cell o' (.slice p1 q1 r1) HSE.out.c1
                have km1 := bM3.cell (o' + 1) (.slice p2 q2 r2) HSE.out.c2
                have kf0 := bM3.free o'
                have kf1 := bM3.free (o' + 1)
                obtain ⟨X, hX⟩ : ∃ X, World.setCell (World.setCell (w3.alloc (.cells #[.slice a1 n1 c1, .slice a2 n2 c2] 24)) ⟨w2.heap.size + 1, o', none⟩ (.slice a1 n1 c1)) ⟨w2.heap.size + 1, o' + 1, none⟩ (.slice a2 n2 c2) = X := ⟨_, rfl⟩
                obtain ⟨u', T', y', hu, hT', hy', hmo, hnx⟩ := HSE.out.next M a1 n1 c1 a2 n2 c2 hM hmore
                have l3 := HK2.out.2.2.1
                have l4 := HK2.out.2.2.2
                have lw := HS0.out.hB.size
                have KX : MB w v R #[.int .i64 x.i, .int .i64 x.w, .int .i64 x.o, .int .i64 x.n, .int .i64 x.b, .int .i64 x.l] B3 B4 w2.heap.size s c o X := by rw [← hX]; exact (K3.other (by omega) (by omega) (by omega) (by have := K3.l.l3; omega) _ _).other (by omega) (by omega) (by omega) (by have := K3.l.l3; omega) _ _
                have bMX : BoxA X (w2.heap.size + 1) 26 u'.c := by rw [← hX, hu]; exact (bM3.set o' _).set (o' + 1) _
                have q0 := noInt_box bM3 (sl_room v)
                have q1 := noInt_box (bM3.set o' (.slice a1 n1 c1)) (sl_set (sl_room v) o' _ _ _)
                have hRX : RoomV X u' T' := hnx X KX.l.hR (by rw [← hX]; exact ((i1.alloc _).setN q0 _ _).setN q1 _ _) (by rw [← hX]; exact ((i2.alloc _).setN q0 _ _).setN q1 _ _)
                obtain ⟨z', hz', l1, l2, l5⟩ := more_first HX.out.1 hy' HX.out.2.2.1 HX.out.2.2.2.1 hmo HX.out.2.2.2.2.1
                obtain ⟨s', c', t'⟩ := z'
                dsimp only at l1 l2 l5
                have HSM := Lib.hid (slot6_some hRX hy' hT' HX.out.2.2.1 HX.out.2.2.2.1 hz')
                have HXX := Lib.hid (And.intro hX (And.intro KX bMX))
                clear hX KX bMX q0 q1 hRX hz' hu hT' hy' hmo hnx i1 i2 hM hmore K3 bM3 l3 l4 lw
                go_wp2_with (first
                  | (rw [HXX.out.1]; clear kf0 kf1 km0 km1 kr0 kr1 kr2 kr3 kr4 kr5 kx0 kx1 kx2 kx3 kx4 kx5 kz0 kz1 kz2; have ku0 := HXX.out.2.2.cell 0 (.slice u'.p1 u'.q1 u'.r1); have ku1 := HXX.out.2.2.cell 1 (.slice u'.p2 u'.q2 u'.r2); have ku2 := HXX.out.2.2.cell 2 (.slice u'.p3 u'.q3 u'.r3); have ku3 := HXX.out.2.2.cell 3 (.slice u'.p4 u'.q4 u'.r4); have ku4 := HXX.out.2.2.cell 4 (.slice u'.p5 u'.q5 u'.r5); have ku5 := HXX.out.2.2.cell 5 (.slice u'.p6 u'.q6 u'.r6); have kr0 := HXX.out.2.1.l.bR.cell 0 (.slice v.p1 v.q1 v.r1); have kr1 := HXX.out.2.1.l.bR.cell 1 (.slice v.p2 v.q2 v.r2); have kr2 := HXX.out.2.1.l.bR.cell 2 (.slice v.p3 v.q3 v.r3); have kr3 := HXX.out.2.1.l.bR.cell 3 (.slice v.p4 v.q4 v.r4); have kr4 := HXX.out.2.1.l.bR.cell 4 (.slice v.p5 v.q5 v.r5); have kr5 := HXX.out.2.1.l.bR.cell 5 (.slice v.p6 v.q6 v.r6); have kx0 := HXX.out.2.1.l.bX.cell 0 (.int .i64 x.i); have kx1 := HXX.out.2.1.l.bX.cell 1 (.int .i64 x.w); have kx2 := HXX.out.2.1.l.bX.cell 2 (.int .i64 x.o); have kx3 := HXX.out.2.1.l.bX.cell 3 (.int .i64 x.n); have kx4 := HXX.out.2.1.l.bX.cell 4 (.int .i64 x.b); have kx5 := HXX.out.2.1.l.bX.cell 5 (.int .i64 x.l); have kz0 := HXX.out.2.1.z.cell 0 (.int .i64 s); have kz1 := HXX.out.2.1.z.cell 1 (.int .i64 c); have kz2 := HXX.out.2.1.z.cell 2 (.int .i64 o); have HK4 := Lib.hid HXX.out.2.1)
                  | (go_at_call 8; ((with_reducible refine HSM.out.mono ?_); rintro e w5 ⟨rfl, hb⟩; have K := (HK4.out.next hb).alloc (.cells #[.int .i64 s', .int .i64 c', .int .i64 t'] 30); have b5 := BoxA.new w5 30 #[.int .i64 s', .int .i64 c', .int .i64 t']; have y0 := b5.cell 0 (.int .i64 s'); have y1 := b5.cell 1 (.int .i64 c'); have y2 := b5.cell 2 (.int .i64 t'); have kr0 := K.l.bR.cell 0 (.slice v.p1 v.q1 v.r1); have kr1 := K.l.bR.cell 1 (.slice v.p2 v.q2 v.r2); have kr2 := K.l.bR.cell 2 (.slice v.p3 v.q3 v.r3); have kr3 := K.l.bR.cell 3 (.slice v.p4 v.q4 v.r4); have kr4 := K.l.bR.cell 4 (.slice v.p5 v.q5 v.r5); have kr5 := K.l.bR.cell 5 (.slice v.p6 v.q6 v.r6); have kx0 := K.l.bX.cell 0 (.int .i64 x.i); have kx1 := K.l.bX.cell 1 (.int .i64 x.w); have kx2 := K.l.bX.cell 2 (.int .i64 x.o); have kx3 := K.l.bX.cell 3 (.int .i64 x.n); have kx4 := K.l.bX.cell 4 (.int .i64 x.b); have kx5 := K.l.bX.cell 5 (.int .i64 x.l); have kz0 := K.z.cell 0 (.int .i64 s); have kz1 := K.z.cell 1 (.int .i64 c); have kz2 := K.z.cell 2 (.int .i64 o); have HK3 := Lib.hid K; clear K b5 hb)))
                refine (HSG.out _ HK3.out.l.hR).mono ?_
                rintro e w6 ⟨s2, c2', o2, e2, rfl, hb, hor⟩
                have K := (HK3.out.next hb).alloc (.cells #[.int .i64 s2, .int .i64 c2', .int .i64 o2] 30)
                have kz0 := K.z.cell 0 (.int .i64 s)
                have kz1 := K.z.cell 1 (.int .i64 c)
                have kz2 := K.z.cell 2 (.int .i64 o)
                have b6 := BoxA.new w6 30 #[.int .i64 s2, .int .i64 c2', .int .i64 o2]
                have v0 := b6.cell 0 (.int .i64 s2)
                have v1 := b6.cell 1 (.int .i64 c2')
                have v2 := b6.cell 2 (.int .i64 o2)
                have HB6 := Lib.hid K.l.hB
                clear K b6 hb
                rcases hor with rfl | ⟨rfl, m1, m2, m3, m4⟩
                all_goals
                  go_wp2_with (go_at_call 7; ((with_reducible refine (head_any _).mono ?_); rintro e w7 ⟨rfl, hb⟩; have HB := Lib.hid (HB6.out.trans (hb.mono HB6.out.size)); clear hb))
                  go_ret
                  exact ⟨rfl, HB.out⟩
            · have HQ : Hid (qB g = false) := (by show _ = _; cases e : qB g with | false => rfl | true => exact absurd (qB_iff.1 e) hq)
              clear hok hOk hxq hf hr hIs hz hlen hq
              go_wp2_with (first
                | (go_at_call 6; ((with_reducible refine (great_any HS0.out.hR).mono ?_); rintro e w1 ⟨rfl, hb1⟩; rw [HG.out]; have S1 := HS0.out.next hb1; have kr0 := S1.bR.cell 0 (.slice v.p1 v.q1 v.r1); have kr1 := S1.bR.cell 1 (.slice v.p2 v.q2 v.r2); have kr2 := S1.bR.cell 2 (.slice v.p3 v.q3 v.r3); have kr3 := S1.bR.cell 3 (.slice v.p4 v.q4 v.r4); have kr4 := S1.bR.cell 4 (.slice v.p5 v.q5 v.r5); have kr5 := S1.bR.cell 5 (.slice v.p6 v.q6 v.r6); have kx0 := S1.bX.cell 0 (.int .i64 x.i); have kx1 := S1.bX.cell 1 (.int .i64 x.w); have kx2 := S1.bX.cell 2 (.int .i64 x.o); have kx3 := S1.bX.cell 3 (.int .i64 x.n); have kx4 := S1.bX.cell 4 (.int .i64 x.b); have kx5 := S1.bX.cell 5 (.int .i64 x.l); have HS1 := Lib.hid S1; clear S1 hb1))
                | (go_at_call 8; ((with_reducible refine (HSL.out _ HS1.out.hR).mono ?_); rintro e w2 ⟨rfl, hb⟩; have K := (HS1.out.next hb).alloc (.cells #[.int .i64 s, .int .i64 c, .int .i64 o] 30); have kr0 := K.bR.cell 0 (.slice v.p1 v.q1 v.r1); have kr1 := K.bR.cell 1 (.slice v.p2 v.q2 v.r2); have kr2 := K.bR.cell 2 (.slice v.p3 v.q3 v.r3); have kr3 := K.bR.cell 3 (.slice v.p4 v.q4 v.r4); have kr4 := K.bR.cell 4 (.slice v.p5 v.q5 v.r5); have kr5 := K.bR.cell 5 (.slice v.p6 v.q6 v.r6); have kx0 := K.bX.cell 0 (.int .i64 x.i); have kx1 := K.bX.cell 1 (.int .i64 x.w); have kx2 := K.bX.cell 2 (.int .i64 x.o); have kx3 := K.bX.cell 3 (.int .i64 x.n); have kx4 := K.bX.cell 4 (.int .i64 x.b); have kx5 := K.bX.cell 5 (.int .i64 x.l); skip; have HK2 := Lib.hid K; clear K hb))
                | (go_at_call 13; ((with_reducible refine (Quantity_any _ _).mono ?_); rintro e w9 ⟨rfl, rfl⟩; rw [HQ.out]))
                | (go_at_call 7; ((with_reducible refine (head_any _).mono ?_); rintro e w4 ⟨rfl, hb⟩; have HB := Lib.hid (HK2.out.hB.trans (hb.mono HK2.out.hB.size)); clear hb)))
              go_ret
              exact ⟨rfl, HB.out⟩
      · have HSL := Lib.hid fun (W : World) (hJ : RoomV W v R) => slot6_bad hJ hok
        clear hok
        go_wp2_with (first
          | (go_at_call 6; ((with_reducible refine (great_any HS0.out.hR).mono ?_); rintro e w1 ⟨rfl, hb1⟩; rw [HG.out]; have S1 := HS0.out.next hb1; have kr0 := S1.bR.cell 0 (.slice v.p1 v.q1 v.r1); have kr1 := S1.bR.cell 1 (.slice v.p2 v.q2 v.r2); have kr2 := S1.bR.cell 2 (.slice v.p3 v.q3 v.r3); have kr3 := S1.bR.cell 3 (.slice v.p4 v.q4 v.r4); have kr4 := S1.bR.cell 4 (.slice v.p5 v.q5 v.r5); have kr5 := S1.bR.cell 5 (.slice v.p6 v.q6 v.r6); have kx0 := S1.bX.cell 0 (.int .i64 x.i); have kx1 := S1.bX.cell 1 (.int .i64 x.w); have kx2 := S1.bX.cell 2 (.int .i64 x.o); have kx3 := S1.bX.cell 3 (.int .i64 x.n); have kx4 := S1.bX.cell 4 (.int .i64 x.b); have kx5 := S1.bX.cell 5 (.int .i64 x.l); have HS1 := Lib.hid S1; clear S1 hb1))
          | (go_at_call 8; ((with_reducible refine (HSL.out _ HS1.out.hR).mono ?_); rintro e w2 ⟨rfl, hb⟩; have K := (HS1.out.next hb).alloc (.cells #[.int .i64 0, .int .i64 0, .int .i64 0] 30); have kr0 := K.bR.cell 0 (.slice v.p1 v.q1 v.r1); have kr1 := K.bR.cell 1 (.slice v.p2 v.q2 v.r2); have kr2 := K.bR.cell 2 (.slice v.p3 v.q3 v.r3); have kr3 := K.bR.cell 3 (.slice v.p4 v.q4 v.r4); have kr4 := K.bR.cell 4 (.slice v.p5 v.q5 v.r5); have kr5 := K.bR.cell 5 (.slice v.p6 v.q6 v.r6); have kx0 := K.bX.cell 0 (.int .i64 x.i); have kx1 := K.bX.cell 1 (.int .i64 x.w); have kx2 := K.bX.cell 2 (.int .i64 x.o); have kx3 := K.bX.cell 3 (.int .i64 x.n); have kx4 := K.bX.cell 4 (.int .i64 x.b); have kx5 := K.bX.cell 5 (.int .i64 x.l); skip; have HK2 := Lib.hid K; clear K hb))
          | (go_at_call 13; ((with_reducible refine (Quantity_any _ _).mono ?_); rintro e w9 ⟨rfl, rfl⟩; fail))
          | (go_at_call 7; ((with_reducible refine (head_any _).mono ?_); rintro e w4 ⟨rfl, hb⟩; have HB := Lib.hid (HK2.out.hB.trans (hb.mono HK2.out.hB.size)); clear hb)))
        go_ret
        exact ⟨rfl, HB.out⟩

end Go.Proofs.Ytigomdihkojdmaa.gn
