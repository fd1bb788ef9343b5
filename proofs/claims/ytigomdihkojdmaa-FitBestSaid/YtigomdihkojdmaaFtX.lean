/- FitBest: how it stands; what Take, Give and Same tell there. -/
import Derived.Test.YtigomdihkojdmaaFtV
namespace Go.Proofs.Ytigomdihkojdmaa.gn
open Go.RowKit Go.Shelf
open Go.Proofs.Ytigomdihkojdmaa.sp

/-- The boxes, with those of two slots. -/
structure BA (w : World) (v : Rv) (R : Rw) (xc : Array Value) (B3 B4 B5 B7 : Nat) (a b c s t o : Int) (W : World) : Prop where
  m : MB w v R xc B3 B4 B5 a b c W
  z : BoxA W B7 30 #[.int .i64 s, .int .i64 t, .int .i64 o]
theorem BA.next {w W W' : World} {v : Rv} {R : Rw} {xc : Array Value} {B3 B4 B5 B7 : Nat} {a b c s t o : Int} (h : BA w v R xc B3 B4 B5 B7 a b c s t o W) (hb : Below W.heap.size W W') : BA w v R xc B3 B4 B5 B7 a b c s t o W' := ⟨h.m.next hb, h.z.next hb⟩
theorem BA.alloc {w W : World} {v : Rv} {R : Rw} {xc : Array Value} {B3 B4 B5 B7 : Nat} {a b c s t o : Int} (h : BA w v R xc B3 B4 B5 B7 a b c s t o W) (ob : Obj) : BA w v R xc B3 B4 B5 B7 a b c s t o (W.alloc ob) := h.next ((Below.refl _ W).alloc (Nat.le_refl _) ob)
/-- With a room behind them. -/
structure BB (w : World) (v : Rv) (R : Rw) (xc : Array Value) (B3 B4 B9 : Nat) (u : Rv) (T : Rw) (W : World) : Prop where
  l : LB w v R xc B3 B4 W
  b : BoxA W B9 26 u.c
  h : RoomV W u T
theorem BB.next {w W W' : World} {v : Rv} {R : Rw} {xc : Array Value} {B3 B4 B9 : Nat} {u : Rv} {T : Rw} (h : BB w v R xc B3 B4 B9 u T W) (hb : Below W.heap.size W W') : BB w v R xc B3 B4 B9 u T W' := ⟨h.l.next hb, h.b.next hb, RoomI.below h.h hb⟩
theorem BB.new {w W : World} {v : Rv} {R : Rw} {xc : Array Value} {B3 B4 : Nat} {u : Rv} {T : Rw} (h : LB w v R xc B3 B4 W) (hR : RoomV W u T) : BB w v R xc B3 B4 W.heap.size u T (W.alloc (.cells u.c 26)) := ⟨h.alloc _, BoxA.new W _ _, RoomI.below hR ((Below.refl _ W).alloc (Nat.le_refl _) _)⟩

/-- Behind Take. -/
def Tk (r : Rm) (x : Shp) (a : Slt) (w : World) (e : Ending) (w' : World) : Prop := ∃ (u : Rv) (T : Rw) (y : Rm), e = .returned (.tuple #[.agg u.c, .int .i64 0]) ∧ Below w.heap.size w w' ∧ RoomV w' u T ∧ T.Is y ∧ y.Ok ∧ Less r x a y ∧ (y.n.length ≤ 100 ∧ y.b.length ≤ 100 ∧ y.l.length ≤ 100)
theorem take_less {w : World} {v : Rv} {R : Rw} {r : Rm} {i wl p n b l s c o : Int} (h : RoomV w v R) (hr : r.Ok) (hR : R.Is r) (hx : Shp.Q ⟨i, wl, p, n, b, l⟩) (ha : IsSlot r ⟨i, wl, p, n, b, l⟩ ⟨s, c, o⟩) (hl : r.n.length + r.b.length + r.l.length ≤ 40) :
    Calls Try.prog 10 #[.agg v.c, .agg #[.int .i64 i, .int .i64 wl, .int .i64 p, .int .i64 n, .int .i64 b, .int .i64 l], .agg #[.int .i64 s, .int .i64 c, .int .i64 o]] w (Tk r ⟨i, wl, p, n, b, l⟩ ⟨s, c, o⟩ w) := by
  refine (take6 h hr hR hx (take_fine hr hx ha (by omega) (by omega) (by omega))).mono ?_
  rintro e w1 ⟨u, T, y, rfl, h1, h2, h3, h4, h5, h6, h7, h8⟩
  exact ⟨u, T, y, rfl, h5, h4, h3, h2, less_of hx ha h1, by omega, by omega, by omega⟩
/-- Behind Give. -/
def Gk (r : Rm) (w : World) (e : Ending) (w' : World) : Prop := ∃ (u : Rv) (T : Rw) (y : Rm), e = .returned (.tuple #[.agg u.c, .int .i64 0]) ∧ Below w.heap.size w w' ∧ RoomV w' u T ∧ T.Is y ∧ y.Ok ∧ (samB y.n r.n = true ∧ samB y.b r.b = true ∧ samB y.l r.l = true) ∧ (y.n.length ≤ 200 ∧ y.b.length ≤ 200 ∧ y.l.length ≤ 200)
theorem give_back {w : World} {v : Rv} {R : Rw} {r y : Rm} {i wl p n b l s c o : Int} (h : RoomV w v R) (hr : r.Ok) (hy : y.Ok) (hR : R.Is y) (hx : Shp.Q ⟨i, wl, p, n, b, l⟩) (ha : IsSlot r ⟨i, wl, p, n, b, l⟩ ⟨s, c, o⟩) (hL : Less r ⟨i, wl, p, n, b, l⟩ ⟨s, c, o⟩ y) (hl : y.n.length ≤ 100 ∧ y.b.length ≤ 100 ∧ y.l.length ≤ 100) :
    Calls Try.prog 11 #[.agg v.c, .agg #[.int .i64 i, .int .i64 wl, .int .i64 p, .int .i64 n, .int .i64 b, .int .i64 l], .agg #[.int .i64 s, .int .i64 c, .int .i64 o]] w (Gk r w) := by
  refine (give6 h hy hR hx (give_fine hr hx ha hy hL (by omega) (by omega) (by omega))).mono ?_
  rintro e w1 ⟨u, T, z, rfl, h1, h2, h3, h4, h5, h6, h7, h8⟩
  exact ⟨u, T, z, rfl, h5, h4, h3, h2, back_same hx ha hL h1, by omega, by omega, by omega⟩
section
variable {w : World} {u v : Rv} {T R : Rw} {y r : Rm}
theorem same_n (h : RoomV w u T) (h' : RoomV w v R) (hT : T.Is y) (hR : R.Is r) (hy : y.Ok) (hr : r.Ok) (hs : samB y.n r.n = true) (l1 : y.n.length ≤ 200) (l2 : r.n.length ≤ 40) :
    Calls Try.prog 12 #[.agg #[.slice u.p1 u.q1 u.r1, .slice u.p2 u.q2 u.r2], .agg #[.slice v.p1 v.q1 v.r1, .slice v.p2 v.q2 v.r2]] w (TellsB true w) := by
  have e := h.n
  have e' := h'.n
  rw [hT.an, hT.nn] at e
  rw [hR.an, hR.nn] at e'
  rw [← hs]
  exact same_yes e e' hy.n hr.n (by omega) (by omega)
theorem same_b (h : RoomV w u T) (h' : RoomV w v R) (hT : T.Is y) (hR : R.Is r) (hy : y.Ok) (hr : r.Ok) (hs : samB y.b r.b = true) (l1 : y.b.length ≤ 200) (l2 : r.b.length ≤ 40) :
    Calls Try.prog 12 #[.agg #[.slice u.p3 u.q3 u.r3, .slice u.p4 u.q4 u.r4], .agg #[.slice v.p3 v.q3 v.r3, .slice v.p4 v.q4 v.r4]] w (TellsB true w) := by
  have e := h.b
  have e' := h'.b
  rw [hT.ab, hT.nb] at e
  rw [hR.ab, hR.nb] at e'
  rw [← hs]
  exact same_yes e e' hy.b hr.b (by omega) (by omega)
theorem same_l (h : RoomV w u T) (h' : RoomV w v R) (hT : T.Is y) (hR : R.Is r) (hy : y.Ok) (hr : r.Ok) (hs : samB y.l r.l = true) (l1 : y.l.length ≤ 200) (l2 : r.l.length ≤ 40) :
    Calls Try.prog 12 #[.agg #[.slice u.p5 u.q5 u.r5, .slice u.p6 u.q6 u.r6], .agg #[.slice v.p5 v.q5 v.r5, .slice v.p6 v.q6 v.r6]] w (TellsB true w) := by
  have e := h.l
  have e' := h'.l
  rw [hT.al, hT.nl] at e
  rw [hR.al, hR.nl] at e'
  rw [← hs]
  exact same_yes e e' hy.l hr.l (by omega) (by omega)
end
end Go.Proofs.Ytigomdihkojdmaa.gn
