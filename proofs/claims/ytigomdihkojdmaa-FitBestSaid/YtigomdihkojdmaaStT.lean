/- Take, Give, New: their contracts. -/
import Derived.Test.YtigomdihkojdmaaStG
import Derived.Test.YtigomdihkojdmaaStG2
import Derived.Test.YtigomdihkojdmaaStPc
namespace Go.Proofs.Ytigomdihkojdmaa.gn
open Go.RowKit Go.Shelf
open Go.Proofs.Ytigomdihkojdmaa.sp

/-- What is told of no profile, or no window. -/
def TurnsNot (w : World) (e : Ending) (w' : World) : Prop := e = .returned (.tuple #[.agg #[.slice none 0 0, .slice none 0 0], .int .i64 2]) ∧ Below w.heap.size w w'
theorem Boxed.next {W W' : World} {B : Nat} {t : TypeId} {v : Value} (hb : Below W.heap.size W W') (h : Boxed W B t v) : Boxed W' B t v := (hb.block B h.lt).trans h

theorem take_no {w : World} {v : Value} {at_ m : List Int} {lo hi d : Int} (h : Prof w v at_ m) (hno : ¬ (OkP at_ m ∧ Q lo ∧ Q hi ∧ Q d)) : Calls Try.prog 24 #[v, .int .i64 lo, .int .i64 hi, .int .i64 d] w (TurnsNot w) := by
  obtain ⟨v1, v2, rfl, h1, h2⟩ := h
  have hv : vld at_ m [lo, hi, d] = false := vld_no fun ⟨a, b⟩ => hno ⟨a, b lo (by simp), b hi (by simp), b d (by simp)⟩
  have HV := Lib.hid hv
  have hb0 : Below w.heap.size w ((((w.alloc (.cells #[v1, v2] 24)).alloc (.cells #[.int .i64 d] 2)).alloc (.cells #[.slice none 0 0, .slice none 0 0] 24)).alloc (.cells #[.int .i64 lo, .int .i64 hi, .int .i64 d] 2)) := ((((Below.refl _ _).alloc (Nat.le_refl _) _).alloc (by simp) _).alloc (by simp; omega) _).alloc (by simp; omega) _
  have HC := Lib.hid (valid_any (v := .agg #[v1, v2]) (l := [lo, hi, d]) (Prof.below ⟨v1, v2, rfl, h1, h2⟩ hb0 (Nat.le_refl _)) (row3 _ _ _ _))
  simp only [World.size_alloc] at HC
  have bR := (Box2.new ((w.alloc (.cells #[v1, v2] 24)).alloc (.cells #[.int .i64 d] 2)) 24 (.slice none 0 0) (.slice none 0 0)).alloc (.cells #[.int .i64 lo, .int .i64 hi, .int .i64 d] 2)
  simp only [World.size_alloc] at bR
  have HB0 := Lib.hid hb0
  clear h1 h2 hno hv hb0
  go_enter Try.func24, Try.ntmps24
  go_wp2_with fail
  refine HC.out.mono ?_
  rintro e w1 ⟨rfl, hb⟩
  rw [HV.out]
  have bR1 := box2_next hb bR
  have r0 := bR1.cell0
  have r1 := bR1.cell1
  have f0 := bR1.free 0
  have f1 := bR1.free 1
  have hb9 := HB0.out.trans (hb.mono HB0.out.size)
  have HB := Lib.hid hb9
  have HR := Lib.hid bR1
  clear hb bR bR1 hb9
  go_wp2
  have bQ := HR.out.set2 (.slice none 0 0) (.slice none 0 0)
  have q0 := bQ.cell0
  have q1 := bQ.cell1
  refine bodyPost_ret (v := .tuple #[.agg #[.slice none 0 0, .slice none 0 0], .int .i64 2]) (by simp [results, Try.results24, go_sem, q0, q1]) rfl ⟨rfl, ?_⟩
  exact (HB.out.setCell (p := ⟨w.heap.size + 1 + 1, 0, none⟩) (by simp; omega) _).setCell (p := ⟨w.heap.size + 1 + 1, 1, none⟩) (by simp; omega) _
set_option maxHeartbeats 1000000 in
theorem take_yes {w : World} {v : Value} {L : List (Int × Int)} {lo hi d : Int} (h : Prof w v (L.map Prod.fst) (L.map Prod.snd)) (hL : Ok L) (h0 : Q lo) (h1 : Q hi) (hd : Q d) : Calls Try.prog 24 #[v, .int .i64 lo, .int .i64 hi, .int .i64 d] w (Turns L lo hi (-d) w) := by
  have HCh := Lib.hid fun (W : World) (nb : Nat) (hW : Below w.heap.size w W) (hnb : W.cell? ⟨nb, 0, none⟩ = some (.int .i64 d)) => change_take v L lo hi d nb W (h.below hW (Nat.le_refl _)) hL h0 h1 hd hnb
  have HP := Lib.hid fun (W : World) (hW : Below w.heap.size w W) => h.below hW (Nat.le_refl _)
  obtain ⟨v1, v2, rfl, i1, i2⟩ := h
  have hv : vld (L.map Prod.fst) (L.map Prod.snd) [lo, hi, d] = true := vld_yes ⟨L, hL, rfl, rfl⟩ (by simpa using ⟨h0, h1, hd⟩)
  have HV := Lib.hid hv
  have hb0 : Below w.heap.size w ((((w.alloc (.cells #[v1, v2] 24)).alloc (.cells #[.int .i64 d] 2)).alloc (.cells #[.slice none 0 0, .slice none 0 0] 24)).alloc (.cells #[.int .i64 lo, .int .i64 hi, .int .i64 d] 2)) := ((((Below.refl _ _).alloc (Nat.le_refl _) _).alloc (by simp) _).alloc (by simp; omega) _).alloc (by simp; omega) _
  have HC := Lib.hid (valid_any (v := .agg #[v1, v2]) (l := [lo, hi, d]) (HP.out _ hb0) (row3 _ _ _ _))
  simp only [World.size_alloc] at HC
  have bS := (((Box2.new w 24 v1 v2).alloc (.cells #[.int .i64 d] 2)).alloc (.cells #[.slice none 0 0, .slice none 0 0] 24)).alloc (.cells #[.int .i64 lo, .int .i64 hi, .int .i64 d] 2)
  have bN := ((Boxed.new (w.alloc (.cells #[v1, v2] 24)) 2 (.int .i64 d)).alloc (.cells #[.slice none 0 0, .slice none 0 0] 24)).alloc (.cells #[.int .i64 lo, .int .i64 hi, .int .i64 d] 2)
  have bR := (Box2.new ((w.alloc (.cells #[v1, v2] 24)).alloc (.cells #[.int .i64 d] 2)) 24 (.slice none 0 0) (.slice none 0 0)).alloc (.cells #[.int .i64 lo, .int .i64 hi, .int .i64 d] 2)
  simp only [World.size_alloc] at bR bN
  have HB0 := Lib.hid hb0
  clear i1 i2 hv hb0 h0 h1 hd hL
  go_enter Try.func24, Try.ntmps24
  go_wp2_with fail
  refine HC.out.mono ?_
  rintro e w1 ⟨rfl, hb⟩
  rw [HV.out]
  have bS1 := box2_next hb bS
  have bN1 := Boxed.next hb bN
  have bR1 := box2_next hb bR
  have e0 := bS1.cell0
  have e1 := bS1.cell1
  have eN := bN1.cell
  have hb9 := HB0.out.trans (hb.mono HB0.out.size)
  have HB := Lib.hid hb9
  have HR := Lib.hid bR1
  have HN := Lib.hid bN1
  clear hb bS bS1 bN bN1 bR bR1 hb9
  go_wp2_with fail
  refine (HCh.out _ _ HB.out HN.out.cell).mono ?_
  rintro e w2 ⟨c, M, a1, n1, c1, a2, n2, c2, rfl, hres, o1, o2, hb2⟩
  have bR2 := box2_next hb2 HR.out
  have r0 := bR2.cell0
  have r1 := bR2.cell1
  have f0 := bR2.free 0
  have f1 := bR2.free 1
  have HF := Lib.hid (And.intro hres (And.intro o1 (And.intro o2 (And.intro hb2 bR2))))
  have hlt := HR.out.lt
  clear hres o1 o2 hb2 bR2
  go_wp2
  obtain ⟨hres, o1, o2, hb2, bR2⟩ := HF.out
  have bQ := bR2.set2 (.slice a1 n1 c1) (.slice a2 n2 c2)
  have q0 := bQ.cell0
  have q1 := bQ.cell1
  refine bodyPost_ret (v := .tuple #[.agg #[.slice a1 n1 c1, .slice a2 n2 c2], .int .i64 c]) (by simp [results, Try.results24, go_sem, q0, q1]) rfl ⟨c, M, a1, n1, c1, a2, n2, c2, rfl, hres, ?_, ?_, ?_⟩
  · exact (own_set (own_set o1 (by omega) 0 _) (by omega) 1 _).mono HB.out.size
  · exact (own_set (own_set o2 (by omega) 0 _) (by omega) 1 _).mono HB.out.size
  · exact ((HB.out.trans (hb2.mono HB.out.size)).setCell (p := ⟨w.heap.size + 1 + 1, 0, none⟩) (by simp; omega) _).setCell (p := ⟨w.heap.size + 1 + 1, 1, none⟩) (by simp; omega) _
theorem give_no {w : World} {v : Value} {at_ m : List Int} {lo hi d : Int} (h : Prof w v at_ m) (hno : ¬ (OkP at_ m ∧ Q lo ∧ Q hi ∧ Q d)) : Calls Try.prog 14 #[v, .int .i64 lo, .int .i64 hi, .int .i64 d] w (TurnsNot w) := by
  obtain ⟨v1, v2, rfl, h1, h2⟩ := h
  have hv : vld at_ m [lo, hi, d] = false := vld_no fun ⟨a, b⟩ => hno ⟨a, b lo (by simp), b hi (by simp), b d (by simp)⟩
  have HV := Lib.hid hv
  have hb0 : Below w.heap.size w ((((w.alloc (.cells #[v1, v2] 24)).alloc (.cells #[.int .i64 d] 2)).alloc (.cells #[.slice none 0 0, .slice none 0 0] 24)).alloc (.cells #[.int .i64 lo, .int .i64 hi, .int .i64 d] 2)) := ((((Below.refl _ _).alloc (Nat.le_refl _) _).alloc (by simp) _).alloc (by simp; omega) _).alloc (by simp; omega) _
  have HC := Lib.hid (valid_any (v := .agg #[v1, v2]) (l := [lo, hi, d]) (Prof.below ⟨v1, v2, rfl, h1, h2⟩ hb0 (Nat.le_refl _)) (row3 _ _ _ _))
  simp only [World.size_alloc] at HC
  have bR := (Box2.new ((w.alloc (.cells #[v1, v2] 24)).alloc (.cells #[.int .i64 d] 2)) 24 (.slice none 0 0) (.slice none 0 0)).alloc (.cells #[.int .i64 lo, .int .i64 hi, .int .i64 d] 2)
  simp only [World.size_alloc] at bR
  have HB0 := Lib.hid hb0
  clear h1 h2 hno hv hb0
  go_enter Try.func14, Try.ntmps14
  go_wp2_with fail
  refine HC.out.mono ?_
  rintro e w1 ⟨rfl, hb⟩
  rw [HV.out]
  have bR1 := box2_next hb bR
  have r0 := bR1.cell0
  have r1 := bR1.cell1
  have f0 := bR1.free 0
  have f1 := bR1.free 1
  have hb9 := HB0.out.trans (hb.mono HB0.out.size)
  have HB := Lib.hid hb9
  have HR := Lib.hid bR1
  clear hb bR bR1 hb9
  go_wp2
  have bQ := HR.out.set2 (.slice none 0 0) (.slice none 0 0)
  have q0 := bQ.cell0
  have q1 := bQ.cell1
  refine bodyPost_ret (v := .tuple #[.agg #[.slice none 0 0, .slice none 0 0], .int .i64 2]) (by simp [results, Try.results14, go_sem, q0, q1]) rfl ⟨rfl, ?_⟩
  exact (HB.out.setCell (p := ⟨w.heap.size + 1 + 1, 0, none⟩) (by simp; omega) _).setCell (p := ⟨w.heap.size + 1 + 1, 1, none⟩) (by simp; omega) _
set_option maxHeartbeats 1000000 in
theorem give_yes {w : World} {v : Value} {L : List (Int × Int)} {lo hi d : Int} (h : Prof w v (L.map Prod.fst) (L.map Prod.snd)) (hL : Ok L) (h0 : Q lo) (h1 : Q hi) (hd : Q d) : Calls Try.prog 14 #[v, .int .i64 lo, .int .i64 hi, .int .i64 d] w (Turns L lo hi (d) w) := by
  have HCh := Lib.hid fun (W : World) (nb : Nat) (hW : Below w.heap.size w W) (hnb : W.cell? ⟨nb, 0, none⟩ = some (.int .i64 d)) => change_give v L lo hi d nb W (h.below hW (Nat.le_refl _)) hL h0 h1 hd hnb
  have HP := Lib.hid fun (W : World) (hW : Below w.heap.size w W) => h.below hW (Nat.le_refl _)
  obtain ⟨v1, v2, rfl, i1, i2⟩ := h
  have hv : vld (L.map Prod.fst) (L.map Prod.snd) [lo, hi, d] = true := vld_yes ⟨L, hL, rfl, rfl⟩ (by simpa using ⟨h0, h1, hd⟩)
  have HV := Lib.hid hv
  have hb0 : Below w.heap.size w ((((w.alloc (.cells #[v1, v2] 24)).alloc (.cells #[.int .i64 d] 2)).alloc (.cells #[.slice none 0 0, .slice none 0 0] 24)).alloc (.cells #[.int .i64 lo, .int .i64 hi, .int .i64 d] 2)) := ((((Below.refl _ _).alloc (Nat.le_refl _) _).alloc (by simp) _).alloc (by simp; omega) _).alloc (by simp; omega) _
  have HC := Lib.hid (valid_any (v := .agg #[v1, v2]) (l := [lo, hi, d]) (HP.out _ hb0) (row3 _ _ _ _))
  simp only [World.size_alloc] at HC
  have bS := (((Box2.new w 24 v1 v2).alloc (.cells #[.int .i64 d] 2)).alloc (.cells #[.slice none 0 0, .slice none 0 0] 24)).alloc (.cells #[.int .i64 lo, .int .i64 hi, .int .i64 d] 2)
  have bN := ((Boxed.new (w.alloc (.cells #[v1, v2] 24)) 2 (.int .i64 d)).alloc (.cells #[.slice none 0 0, .slice none 0 0] 24)).alloc (.cells #[.int .i64 lo, .int .i64 hi, .int .i64 d] 2)
  have bR := (Box2.new ((w.alloc (.cells #[v1, v2] 24)).alloc (.cells #[.int .i64 d] 2)) 24 (.slice none 0 0) (.slice none 0 0)).alloc (.cells #[.int .i64 lo, .int .i64 hi, .int .i64 d] 2)
  simp only [World.size_alloc] at bR bN
  have HB0 := Lib.hid hb0
  clear i1 i2 hv hb0 h0 h1 hd hL
  go_enter Try.func14, Try.ntmps14
  go_wp2_with fail
  refine HC.out.mono ?_
  rintro e w1 ⟨rfl, hb⟩
  rw [HV.out]
  have bS1 := box2_next hb bS
  have bN1 := Boxed.next hb bN
  have bR1 := box2_next hb bR
  have e0 := bS1.cell0
  have e1 := bS1.cell1
  have eN := bN1.cell
  have hb9 := HB0.out.trans (hb.mono HB0.out.size)
  have HB := Lib.hid hb9
  have HR := Lib.hid bR1
  have HN := Lib.hid bN1
  clear hb bS bS1 bN bN1 bR bR1 hb9
  go_wp2_with fail
  refine (HCh.out _ _ HB.out HN.out.cell).mono ?_
  rintro e w2 ⟨c, M, a1, n1, c1, a2, n2, c2, rfl, hres, o1, o2, hb2⟩
  have bR2 := box2_next hb2 HR.out
  have r0 := bR2.cell0
  have r1 := bR2.cell1
  have f0 := bR2.free 0
  have f1 := bR2.free 1
  have HF := Lib.hid (And.intro hres (And.intro o1 (And.intro o2 (And.intro hb2 bR2))))
  have hlt := HR.out.lt
  clear hres o1 o2 hb2 bR2
  go_wp2
  obtain ⟨hres, o1, o2, hb2, bR2⟩ := HF.out
  have bQ := bR2.set2 (.slice a1 n1 c1) (.slice a2 n2 c2)
  have q0 := bQ.cell0
  have q1 := bQ.cell1
  refine bodyPost_ret (v := .tuple #[.agg #[.slice a1 n1 c1, .slice a2 n2 c2], .int .i64 c]) (by simp [results, Try.results14, go_sem, q0, q1]) rfl ⟨c, M, a1, n1, c1, a2, n2, c2, rfl, hres, ?_, ?_, ?_⟩
  · exact (own_set (own_set o1 (by omega) 0 _) (by omega) 1 _).mono HB.out.size
  · exact (own_set (own_set o2 (by omega) 0 _) (by omega) 1 _).mono HB.out.size
  · exact ((HB.out.trans (hb2.mono HB.out.size)).setCell (p := ⟨w.heap.size + 1 + 1, 0, none⟩) (by simp; omega) _).setCell (p := ⟨w.heap.size + 1 + 1, 1, none⟩) (by simp; omega) _
end Go.Proofs.Ytigomdihkojdmaa.gn
