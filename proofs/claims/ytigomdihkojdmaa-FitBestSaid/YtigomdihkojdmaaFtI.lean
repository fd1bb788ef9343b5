/- Slot: how it stands. -/
import Derived.Test.YtigomdihkojdmaaFtH
import Derived.Laws.EntriesVeiled
import Derived.WalkMore
namespace Go.Proofs.Ytigomdihkojdmaa.gn
open Go.RowKit Go.Shelf
open Go.Proofs.Ytigomdihkojdmaa.sp

/-- The windows as they are looked for: those of the work begin at z, that of the bytes stays. -/
def slC (x : Shp) (f : Int) (z : Slt) : Array Value :=
  #[.int .i64 z.s, .int .i64 x.i, .int .i64 x.l, .func (.func 32) #[] #[],
    .int .i64 z.c, .int .i64 x.w, .int .i64 x.n, .func (.func 33) #[] #[],
    .int .i64 z.o, .int .i64 x.o, .int .i64 x.l, .func (.func 32) #[] #[],
    .int .i64 f, .int .i64 (f + x.o - f), .int .i64 x.b, .func (.func 34) #[] #[]]
theorem BoxA.set {W : World} {B : Nat} {t : TypeId} {cs : Array Value} (h : BoxA W B t cs) (j : Nat) (a : Value) : BoxA (W.setCell ⟨B, j, none⟩ a) B t (cs.setIfInBounds j a) := by
  obtain ⟨hlt, hk⟩ := Array.getElem?_eq_some_iff.1 h
  show (W.heap.modify B _)[B]? = _
  rw [Array.getElem?_eq_getElem (by rw [Array.size_modify]; exact hlt), Array.getElem_modify_self, hk]
  rfl
theorem BoxA.ab {W W' : World} {row : Option Nat} {B M : Nat} {t : TypeId} {cs : Array Value} (h : BoxA W B t cs) (hg : W.grownBy W' row) (hr : ∀ r, row = some r → M ≤ r) (hB : B < M) : BoxA W' B t cs :=
  h.kept hg fun e => by have := hr B e.symm; omega
theorem BoxA.other {W : World} {B D : Nat} {t : TypeId} {cs : Array Value} (h : BoxA W B t cs) (hne : B ≠ D) (j : Nat) (a : Value) : BoxA (W.setCell ⟨D, j, none⟩ a) B t cs := (Below.heap_setCell _ _ _ _ (by simpa using hne)).trans h

/-- What Slot answers. -/
def slotV : Option Slt → Value
  | some z => .tuple #[.agg #[.int .i64 z.s, .int .i64 z.c, .int .i64 z.o], .int .i64 0]
  | none => .tuple #[.agg #[.int .i64 0, .int .i64 0, .int .i64 0], .int .i64 7]

/-- Its boxes. -/
structure S0I (w : World) (v : Rv) (x : Shp) (W : World) : Prop where
  bR : BoxA W w.heap.size 26 v.c
  bX : BoxA W (w.heap.size + 1) 28 (shpC x)
  bA : BoxA W (w.heap.size + 1 + 1) 30 #[.int .i64 0, .int .i64 0, .int .i64 0]
  bE : BoxA W (w.heap.size + 1 + 1 + 1) 35 #[.int .i64 0]
  hB : Below w.heap.size w W
theorem S0I.next {w W W' : World} {v : Rv} {x : Shp} (h : S0I w v x W) (hb : Below W.heap.size W W') : S0I w v x W' := ⟨h.bR.next hb, h.bX.next hb, h.bA.next hb, h.bE.next hb, h.hB.trans (hb.mono h.hB.size)⟩
theorem S0I.new (w : World) (v : Rv) (x : Shp) : S0I w v x ((((w.alloc (.cells v.c 26)).alloc (.cells (shpC x) 28)).alloc (.cells #[.int .i64 0, .int .i64 0, .int .i64 0] 30)).alloc (.cells #[.int .i64 0] 35)) := by
  have b1 := (((BoxA.new w 26 v.c).alloc (.cells (shpC x) 28)).alloc (.cells #[.int .i64 0, .int .i64 0, .int .i64 0] 30)).alloc (.cells #[.int .i64 0] 35)
  have b2 := ((BoxA.new (w.alloc (.cells v.c 26)) 28 (shpC x)).alloc (.cells #[.int .i64 0, .int .i64 0, .int .i64 0] 30)).alloc (.cells #[.int .i64 0] 35)
  have b3 := (BoxA.new ((w.alloc (.cells v.c 26)).alloc (.cells (shpC x) 28)) 30 #[.int .i64 0, .int .i64 0, .int .i64 0]).alloc (.cells #[.int .i64 0] 35)
  have b4 := BoxA.new (((w.alloc (.cells v.c 26)).alloc (.cells (shpC x) 28)).alloc (.cells #[.int .i64 0, .int .i64 0, .int .i64 0] 30)) 35 #[.int .i64 0]
  simp only [World.size_alloc] at b2 b3 b4
  exact ⟨b1, b2, b3, b4, ((((Below.refl _ w).alloc (Nat.le_refl _) _).alloc (by simp) _).alloc (by simp; omega) _).alloc (by simp; omega) _⟩

set_option maxRecDepth 100000 in
set_option maxHeartbeats 1000000 in
theorem slot_bad {w : World} {v : Rv} {R : Rw} (x : Shp) (f : Int) (h : RoomV w v R) (hno : ¬ (R.Ok ∧ x.Q ∧ Q f)) :
    Calls Try.prog 8 #[.agg v.c, shpV x, .int .i64 f] w fun e w' => e = .returned (.tuple #[.agg #[.int .i64 0, .int .i64 0, .int .i64 0], .int .i64 2]) ∧ Below w.heap.size w w' := by
  have hv : vld3 R x [f] = false := vld3_no fun h => hno ⟨h.1, h.2.1, h.2.2 f (by simp)⟩
  have HV := Lib.hid hv
  have S1 := (S0I.new w v x).next ((Below.refl _ _).alloc (Nat.le_refl _) (.cells #[.int .i64 f] 2))
  have HV3 := Lib.hid (valid3_any (x := x) (l := [f]) (RoomI.below h S1.hB) (row1 _ f))
  simp only [World.size_alloc] at HV3
  have HS1 := Lib.hid S1
  clear h hv hno S1
  unfold shpV shpC at *
  go_enter Try.func8, Try.ntmps8
  go_wp2
  refine wp_scope_straight ?_
  go_wp2_with (go_at_call 17; refine HV3.out.mono ?_; rintro e w1 ⟨rfl, hb1⟩; rw [HV.out]; have S2 := HS1.out.next hb1; have a0 := S2.bA.cell 0 (.int .i64 0); have a1 := S2.bA.cell 1 (.int .i64 0); have a2 := S2.bA.cell 2 (.int .i64 0); have e0 := S2.bE.cell 0 (.int .i64 0); have f0 := S2.bA.free 0; have f1 := S2.bA.free 1; have f2 := S2.bA.free 2; have g0 := S2.bE.free 0; have HS2 := Lib.hid S2; clear hb1 S2)
  rw [Exit.noGoto_ret]
  have bA := (((HS2.out.bA.set 0 (.int .i64 0)).set 1 (.int .i64 0)).set 2 (.int .i64 0)).other (D := w.heap.size + 1 + 1 + 1) (by omega) 0 (.int .i64 2)
  have bE := (((HS2.out.bE.other (D := w.heap.size + 1 + 1) (by omega) 0 (.int .i64 0)).other (D := w.heap.size + 1 + 1) (by omega) 1 (.int .i64 0)).other (D := w.heap.size + 1 + 1) (by omega) 2 (.int .i64 0)).set 0 (.int .i64 2)
  have c0 := bA.cell 0 (.int .i64 0)
  have c1 := bA.cell 1 (.int .i64 0)
  have c2 := bA.cell 2 (.int .i64 0)
  have c3 := bE.cell 0 (.int .i64 2)
  refine bodyPost_ret (v := .tuple #[.agg #[.int .i64 0, .int .i64 0, .int .i64 0], .int .i64 2]) (by simp [results, Try.results8, go_sem, c0, c1, c2, c3]) rfl ⟨rfl, ?_⟩
  exact (((HS2.out.hB.setCell (p := ⟨w.heap.size + 1 + 1, 0, none⟩) (by simp; omega) _).setCell (p := ⟨w.heap.size + 1 + 1, 1, none⟩) (by simp; omega) _).setCell (p := ⟨w.heap.size + 1 + 1, 2, none⟩) (by simp; omega) _).setCell (p := ⟨w.heap.size + 1 + 1 + 1, 0, none⟩) (by simp; omega) _
end Go.Proofs.Ytigomdihkojdmaa.gn
