/- fit's Take and Give: their contracts. -/
import Derived.Test.YtigomdihkojdmaaFtL
namespace Go.Proofs.Ytigomdihkojdmaa.gn
open Go.RowKit Go.Shelf
open Go.Proofs.Ytigomdihkojdmaa.sp

/-- What they tell, where nothing goes below 0 or above Top. -/
def Chgd (d : Int → Int) (r : Rm) (x : Shp) (a : Slt) (w : World) (e : Ending) (w' : World) : Prop := ∃ (v' : Rv) (R' : Rw) (r' : Rm), e = .returned (.tuple #[.agg v'.c, .int .i64 0]) ∧ Stg d r x a 4 r' ∧ r'.Ok ∧ R'.Is r' ∧ RoomV w' v' R' ∧ Below w.heap.size w w' ∧
      r'.n.length ≤ r.n.length + 8 ∧ r'.b.length ≤ r.b.length + 8 ∧ r'.l.length ≤ r.l.length + 8

set_option maxRecDepth 100000 in
set_option maxHeartbeats 1000000 in
theorem takeS_any {w : World} {v : Rv} {R : Rw} {r : Rm} {x : Shp} {a : Slt} (h : RoomV w v R) (hr : r.Ok) (hR : R.Is r) (hx : x.Q) (hf : Fine (fun n => -n) r x a) :
    Calls Try.prog 10 #[.agg v.c, shpV x, sltV a] w (Chgd (fun n => -n) r x a w) := by
  have S := Rxa.new x a h
  have bO := BoxA.new (((w.alloc (.cells v.c 26)).alloc (.cells (shpC x) 28)).alloc (.cells (sltC a) 30)) 26 #[.slice none 0 0, .slice none 0 0, .slice none 0 0, .slice none 0 0, .slice none 0 0, .slice none 0 0]
  have S1 := S.next ((Below.refl _ _).alloc (Nat.le_refl _) (.cells #[.slice none 0 0, .slice none 0 0, .slice none 0 0, .slice none 0 0, .slice none 0 0, .slice none 0 0] 26))
  have HC := Lib.hid (change_slot 24 (fun n => -n) (fun _ _ _ _ _ => by kernel_rfl) (fun w v L lo hi n hp hL h0 h1 hd => take_yes hp hL h0 h1 hd) (x := x) (a := a) S1.hR hr hR hx hf)
  simp only [World.size_alloc] at bO
  have HS := Lib.hid (And.intro S1.hB bO)
  clear S S1 bO h
  unfold shpV shpC sltV sltC at *
  go_enter Try.func10, Try.ntmps10
  go_wp2_with (go_at_call 23; refine HC.out.mono ?_; rintro e w1 ⟨u, T, y, rfl, hst, hy, hT, hRv, hb1, hl⟩; have bO := HS.out.2.next hb1; have b0 := bO.cell 0 (.slice none 0 0); have b1 := bO.cell 1 (.slice none 0 0); have b2 := bO.cell 2 (.slice none 0 0); have b3 := bO.cell 3 (.slice none 0 0); have b4 := bO.cell 4 (.slice none 0 0); have b5 := bO.cell 5 (.slice none 0 0); have f0 := bO.free 0; have f1 := bO.free 1; have f2 := bO.free 2; have f3 := bO.free 3; have f4 := bO.free 4; have f5 := bO.free 5; have HD := Lib.hid (And.intro hst (And.intro hy (And.intro hT (And.intro hRv (And.intro (HS.out.1.trans (hb1.mono HS.out.1.size)) (And.intro hl bO)))))); clear hst hy hT hRv hb1 hl bO)
  have bQ := (((((HD.out.2.2.2.2.2.2.set 0 (.slice u.p1 u.q1 u.r1)).set 1 (.slice u.p2 u.q2 u.r2)).set 2 (.slice u.p3 u.q3 u.r3)).set 3 (.slice u.p4 u.q4 u.r4)).set 4 (.slice u.p5 u.q5 u.r5)).set 5 (.slice u.p6 u.q6 u.r6)
  have y0 := bQ.cell 0 (.slice u.p1 u.q1 u.r1)
  have y1 := bQ.cell 1 (.slice u.p2 u.q2 u.r2)
  have y2 := bQ.cell 2 (.slice u.p3 u.q3 u.r3)
  have y3 := bQ.cell 3 (.slice u.p4 u.q4 u.r4)
  have y4 := bQ.cell 4 (.slice u.p5 u.q5 u.r5)
  have y5 := bQ.cell 5 (.slice u.p6 u.q6 u.r6)
  refine bodyPost_ret (v := .tuple #[.agg u.c, .int .i64 0]) (by simp [results, Try.results10, go_sem, y0, y1, y2, y3, y4, y5]) rfl ⟨u, T, y, rfl, HD.out.1, HD.out.2.1, HD.out.2.2.1, room_six HD.out.2.2.2.2.2.2 HD.out.2.2.2.1, ?_, HD.out.2.2.2.2.2.1⟩
  exact (((((HD.out.2.2.2.2.1.setCell (p := ⟨w.heap.size + 1 + 1 + 1, 0, none⟩) (by simp; omega) _).setCell (p := ⟨w.heap.size + 1 + 1 + 1, 1, none⟩) (by simp; omega) _).setCell (p := ⟨w.heap.size + 1 + 1 + 1, 2, none⟩) (by simp; omega) _).setCell (p := ⟨w.heap.size + 1 + 1 + 1, 3, none⟩) (by simp; omega) _).setCell (p := ⟨w.heap.size + 1 + 1 + 1, 4, none⟩) (by simp; omega) _).setCell (p := ⟨w.heap.size + 1 + 1 + 1, 5, none⟩) (by simp; omega) _

set_option maxRecDepth 100000 in
set_option maxHeartbeats 1000000 in
theorem giveS_any {w : World} {v : Rv} {R : Rw} {r : Rm} {x : Shp} {a : Slt} (h : RoomV w v R) (hr : r.Ok) (hR : R.Is r) (hx : x.Q) (hf : Fine (fun n => n) r x a) :
    Calls Try.prog 11 #[.agg v.c, shpV x, sltV a] w (Chgd (fun n => n) r x a w) := by
  have S := Rxa.new x a h
  have bO := BoxA.new (((w.alloc (.cells v.c 26)).alloc (.cells (shpC x) 28)).alloc (.cells (sltC a) 30)) 26 #[.slice none 0 0, .slice none 0 0, .slice none 0 0, .slice none 0 0, .slice none 0 0, .slice none 0 0]
  have S1 := S.next ((Below.refl _ _).alloc (Nat.le_refl _) (.cells #[.slice none 0 0, .slice none 0 0, .slice none 0 0, .slice none 0 0, .slice none 0 0, .slice none 0 0] 26))
  have HC := Lib.hid (change_slot 14 (fun n => n) (fun _ _ _ _ _ => by kernel_rfl) (fun w v L lo hi n hp hL h0 h1 hd => give_yes hp hL h0 h1 hd) (x := x) (a := a) S1.hR hr hR hx hf)
  simp only [World.size_alloc] at bO
  have HS := Lib.hid (And.intro S1.hB bO)
  clear S S1 bO h
  unfold shpV shpC sltV sltC at *
  go_enter Try.func11, Try.ntmps11
  go_wp2_with (go_at_call 23; refine HC.out.mono ?_; rintro e w1 ⟨u, T, y, rfl, hst, hy, hT, hRv, hb1, hl⟩; have bO := HS.out.2.next hb1; have b0 := bO.cell 0 (.slice none 0 0); have b1 := bO.cell 1 (.slice none 0 0); have b2 := bO.cell 2 (.slice none 0 0); have b3 := bO.cell 3 (.slice none 0 0); have b4 := bO.cell 4 (.slice none 0 0); have b5 := bO.cell 5 (.slice none 0 0); have f0 := bO.free 0; have f1 := bO.free 1; have f2 := bO.free 2; have f3 := bO.free 3; have f4 := bO.free 4; have f5 := bO.free 5; have HD := Lib.hid (And.intro hst (And.intro hy (And.intro hT (And.intro hRv (And.intro (HS.out.1.trans (hb1.mono HS.out.1.size)) (And.intro hl bO)))))); clear hst hy hT hRv hb1 hl bO)
  have bQ := (((((HD.out.2.2.2.2.2.2.set 0 (.slice u.p1 u.q1 u.r1)).set 1 (.slice u.p2 u.q2 u.r2)).set 2 (.slice u.p3 u.q3 u.r3)).set 3 (.slice u.p4 u.q4 u.r4)).set 4 (.slice u.p5 u.q5 u.r5)).set 5 (.slice u.p6 u.q6 u.r6)
  have y0 := bQ.cell 0 (.slice u.p1 u.q1 u.r1)
  have y1 := bQ.cell 1 (.slice u.p2 u.q2 u.r2)
  have y2 := bQ.cell 2 (.slice u.p3 u.q3 u.r3)
  have y3 := bQ.cell 3 (.slice u.p4 u.q4 u.r4)
  have y4 := bQ.cell 4 (.slice u.p5 u.q5 u.r5)
  have y5 := bQ.cell 5 (.slice u.p6 u.q6 u.r6)
  refine bodyPost_ret (v := .tuple #[.agg u.c, .int .i64 0]) (by simp [results, Try.results11, go_sem, y0, y1, y2, y3, y4, y5]) rfl ⟨u, T, y, rfl, HD.out.1, HD.out.2.1, HD.out.2.2.1, room_six HD.out.2.2.2.2.2.2 HD.out.2.2.2.1, ?_, HD.out.2.2.2.2.2.1⟩
  exact (((((HD.out.2.2.2.2.1.setCell (p := ⟨w.heap.size + 1 + 1 + 1, 0, none⟩) (by simp; omega) _).setCell (p := ⟨w.heap.size + 1 + 1 + 1, 1, none⟩) (by simp; omega) _).setCell (p := ⟨w.heap.size + 1 + 1 + 1, 2, none⟩) (by simp; omega) _).setCell (p := ⟨w.heap.size + 1 + 1 + 1, 3, none⟩) (by simp; omega) _).setCell (p := ⟨w.heap.size + 1 + 1 + 1, 4, none⟩) (by simp; omega) _).setCell (p := ⟨w.heap.size + 1 + 1 + 1, 5, none⟩) (by simp; omega) _
end Go.Proofs.Ytigomdihkojdmaa.gn
