/- The statements' own boxes; the contracts with their numbers laid open. -/
import Derived.Test.YtigomdihkojdmaaFtQ
namespace Go.Proofs.Ytigomdihkojdmaa.gn
open Go.RowKit Go.Shelf
open Go.Proofs.Ytigomdihkojdmaa.sp

theorem al2 (W : World) (o1 o2 : Obj) : ∃ W3, ((W.alloc o1).alloc o2).drew = W3 ∧ W3.heap[W.heap.size]? = some o1 ∧ W3.heap[W.heap.size + 1]? = some o2 ∧ Below W.heap.size W W3 := by
  have b1 := (Below.refl W.heap.size W).alloc (Nat.le_refl _) o1
  have b2 : Below (W.alloc o1).heap.size (W.alloc o1) (((W.alloc o1).alloc o2)).drew := ((Below.refl _ _).alloc (Nat.le_refl _) o2).drew
  have e1 := World.alloc_heap_new W o1
  have e2 := World.alloc_heap_new (W.alloc o1) o2
  rw [World.size_alloc] at e2
  exact ⟨_, rfl, (b2.block _ (by simp)).trans e1, e2, b1.trans (b2.mono b1.size)⟩
theorem al3 (W : World) (o1 o2 o3 : Obj) : ∃ W3, (((W.alloc o1).alloc o2).alloc o3).drew = W3 ∧ W3.heap[W.heap.size]? = some o1 ∧ W3.heap[W.heap.size + 1]? = some o2 ∧ W3.heap[W.heap.size + 1 + 1]? = some o3 ∧ Below W.heap.size W W3 := by
  have b1 := (Below.refl W.heap.size W).alloc (Nat.le_refl _) o1
  have b2 : Below (W.alloc o1).heap.size (W.alloc o1) (((W.alloc o1).alloc o2)) := (Below.refl _ _).alloc (Nat.le_refl _) o2
  have b3 : Below ((W.alloc o1).alloc o2).heap.size ((W.alloc o1).alloc o2) ((((W.alloc o1).alloc o2).alloc o3)).drew := ((Below.refl _ _).alloc (Nat.le_refl _) o3).drew
  have e1 := World.alloc_heap_new W o1
  have e2 := World.alloc_heap_new (W.alloc o1) o2
  have e3 := World.alloc_heap_new ((W.alloc o1).alloc o2) o3
  rw [World.size_alloc] at e2
  rw [World.size_alloc, World.size_alloc] at e3
  refine ⟨_, rfl, ?_, ?_, e3, b1.trans ((b2.trans (b3.mono b2.size)).mono b1.size)⟩
  · exact (b3.block _ (by simp; omega)).trans ((b2.block _ (by simp)).trans e1)
  · exact (b3.block _ (by simp)).trans e2

/-- The boxes of the room and of the shape. -/
structure LB (w : World) (v : Rv) (R : Rw) (xc : Array Value) (B3 B4 : Nat) (W : World) : Prop where
  bR : BoxA W B3 26 v.c
  bX : BoxA W B4 28 xc
  hB : Below w.heap.size w W
  h0 : RoomV w v R
  l3 : w.heap.size ≤ B3
  l4 : w.heap.size ≤ B4
  ne : B3 ≠ B4
theorem LB.next {w W W' : World} {v : Rv} {R : Rw} {xc : Array Value} {B3 B4 : Nat} (h : LB w v R xc B3 B4 W) (hb : Below W.heap.size W W') : LB w v R xc B3 B4 W' :=
  ⟨h.bR.next hb, h.bX.next hb, h.hB.trans (hb.mono h.hB.size), h.h0, h.l3, h.l4, h.ne⟩
theorem LB.hR {w W : World} {v : Rv} {R : Rw} {xc : Array Value} {B3 B4 : Nat} (h : LB w v R xc B3 B4 W) : RoomV W v R := RoomI.below h.h0 h.hB
/-- A store into the shape. -/
theorem LB.setX {w W : World} {v : Rv} {R : Rw} {xc : Array Value} {B3 B4 : Nat} (h : LB w v R xc B3 B4 W) (j : Nat) (u : Value) : LB w v R (xc.setIfInBounds j u) B3 B4 (W.setCell ⟨B4, j, none⟩ u) :=
  ⟨h.bR.other h.ne j u, h.bX.set j u, h.hB.setCell (p := ⟨B4, j, none⟩) h.l4 _, h.h0, h.l3, h.l4, h.ne⟩
theorem LB.alloc {w W : World} {v : Rv} {R : Rw} {xc : Array Value} {B3 B4 : Nat} (h : LB w v R xc B3 B4 W) (o : Obj) : LB w v R xc B3 B4 (W.alloc o) := h.next ((Below.refl _ W).alloc (Nat.le_refl _) o)
theorem LB.drew {w W : World} {v : Rv} {R : Rw} {xc : Array Value} {B3 B4 : Nat} (h : LB w v R xc B3 B4 W) : LB w v R xc B3 B4 W.drew := h.next (Below.refl _ W).drew

section
variable {w : World} {v : Rv} {R : Rw} {r : Rm} {i wl o n b l : Int}
theorem slot6_none {f : Int} (h : RoomV w v R) (hr : r.Ok) (hR : R.Is r) (hx : Shp.Q ⟨i, wl, o, n, b, l⟩) (hf : Q f) (hz : slot? r ⟨i, wl, o, n, b, l⟩ f = none) :
    Calls Try.prog 8 #[.agg v.c, .agg #[.int .i64 i, .int .i64 wl, .int .i64 o, .int .i64 n, .int .i64 b, .int .i64 l], .int .i64 f] w fun e w' => e = .returned (.tuple #[.agg #[.int .i64 0, .int .i64 0, .int .i64 0], .int .i64 7]) ∧ Below w.heap.size w w' := by
  have := slot_good (x := ⟨i, wl, o, n, b, l⟩) h hr hR hx hf
  rwa [hz] at this
theorem slot6_some {f s c t : Int} (h : RoomV w v R) (hr : r.Ok) (hR : R.Is r) (hx : Shp.Q ⟨i, wl, o, n, b, l⟩) (hf : Q f) (hz : slot? r ⟨i, wl, o, n, b, l⟩ f = some ⟨s, c, t⟩) :
    Calls Try.prog 8 #[.agg v.c, .agg #[.int .i64 i, .int .i64 wl, .int .i64 o, .int .i64 n, .int .i64 b, .int .i64 l], .int .i64 f] w fun e w' => e = .returned (.tuple #[.agg #[.int .i64 s, .int .i64 c, .int .i64 t], .int .i64 0]) ∧ Below w.heap.size w w' := by
  have := slot_good (x := ⟨i, wl, o, n, b, l⟩) h hr hR hx hf
  rwa [hz] at this
theorem slot6_bad {f : Int} (h : RoomV w v R) (hno : ¬ (R.Ok ∧ Shp.Q ⟨i, wl, o, n, b, l⟩ ∧ Q f)) :
    Calls Try.prog 8 #[.agg v.c, .agg #[.int .i64 i, .int .i64 wl, .int .i64 o, .int .i64 n, .int .i64 b, .int .i64 l], .int .i64 f] w fun e w' => e = .returned (.tuple #[.agg #[.int .i64 0, .int .i64 0, .int .i64 0], .int .i64 2]) ∧ Below w.heap.size w w' :=
  slot_bad (⟨i, wl, o, n, b, l⟩ : Shp) f h hno
theorem is6 {s c t : Int} (h : RoomV w v R) :
    Calls Try.prog 9 #[.agg v.c, .agg #[.int .i64 i, .int .i64 wl, .int .i64 o, .int .i64 n, .int .i64 b, .int .i64 l], .agg #[.int .i64 s, .int .i64 c, .int .i64 t]] w (TellsB (isB R ⟨i, wl, o, n, b, l⟩ ⟨s, c, t⟩) w) :=
  is_any (⟨i, wl, o, n, b, l⟩ : Shp) (⟨s, c, t⟩ : Slt) h
theorem take6 {s c t : Int} (h : RoomV w v R) (hr : r.Ok) (hR : R.Is r) (hx : Shp.Q ⟨i, wl, o, n, b, l⟩) (hf : Fine (fun n => -n) r ⟨i, wl, o, n, b, l⟩ ⟨s, c, t⟩) :
    Calls Try.prog 10 #[.agg v.c, .agg #[.int .i64 i, .int .i64 wl, .int .i64 o, .int .i64 n, .int .i64 b, .int .i64 l], .agg #[.int .i64 s, .int .i64 c, .int .i64 t]] w (Chgd (fun n => -n) r ⟨i, wl, o, n, b, l⟩ ⟨s, c, t⟩ w) :=
  takeS_any (x := ⟨i, wl, o, n, b, l⟩) (a := ⟨s, c, t⟩) h hr hR hx hf
theorem give6 {s c t : Int} (h : RoomV w v R) (hr : r.Ok) (hR : R.Is r) (hx : Shp.Q ⟨i, wl, o, n, b, l⟩) (hf : Fine (fun n => n) r ⟨i, wl, o, n, b, l⟩ ⟨s, c, t⟩) :
    Calls Try.prog 11 #[.agg v.c, .agg #[.int .i64 i, .int .i64 wl, .int .i64 o, .int .i64 n, .int .i64 b, .int .i64 l], .agg #[.int .i64 s, .int .i64 c, .int .i64 t]] w (Chgd (fun n => n) r ⟨i, wl, o, n, b, l⟩ ⟨s, c, t⟩ w) :=
  giveS_any (x := ⟨i, wl, o, n, b, l⟩) (a := ⟨s, c, t⟩) h hr hR hx hf
end

set_option maxRecDepth 100000 in
set_option maxHeartbeats 1000000 in
/-- First, of what may not be. -/
theorem First_no {w : World} {v : Value} {at_ m : List Int} {f long n : Int} (h : Prof w v at_ m) (hno : ¬ (OkP at_ m ∧ Q f ∧ Q long ∧ Q n)) :
    Calls Try.prog 15 #[v, .int .i64 f, .int .i64 long, .int .i64 n] w fun e w' => e = .returned (.tuple #[.int .i64 0, .int .i64 2]) ∧ Below w.heap.size w w' := by
  have HC := Lib.hid fun (W : World) (hW : Below w.heap.size w W) => check_any (h.below hW (Nat.le_refl _))
  obtain ⟨v1, v2, rfl, h1, h2⟩ := h
  have hb0 : Below w.heap.size w (w.alloc (.cells #[v1, v2] 24)) := (Below.refl _ _).alloc (Nat.le_refl _) _
  have HB0 := Lib.hid hb0
  clear h1 h2 hb0
  by_cases hok : OkP at_ m
  · have eq : Hid (qall [f, long, n] = false) := by
      show _ = _
      cases e : qall [f, long, n] with
      | false => rfl
      | true => exact absurd ⟨hok, quant3.1 (qall_iff.1 e)⟩ hno
    have e0 : Hid (chk at_ m = 0) := chk_yes hok
    clear hno hok
    go_enter Try.func15, Try.ntmps15
    go_wp2_with (first
      | (go_at_call 29; refine (HC.out _ HB0.out).mono ?_; rintro e w1 ⟨rfl, hb1⟩; rw [e0.out]; have HB1 := Lib.hid (HB0.out.trans (hb1.mono HB0.out.size)); clear hb1)
      | (go_at_call 30; refine (fquants_any (row3 _ f long n)).mono ?_; rintro e w2 ⟨rfl, rfl⟩; rw [eq.out]))
    go_ret2
    exact ⟨rfl, HB1.out.alloc HB1.out.size _⟩
  · have e0 : Hid (chk at_ m = 2) := chk_no hok
    clear hno hok
    go_enter Try.func15, Try.ntmps15
    go_wp2_with (first
      | (go_at_call 29; refine (HC.out _ HB0.out).mono ?_; rintro e w1 ⟨rfl, hb1⟩; rw [e0.out]; have HB1 := Lib.hid (HB0.out.trans (hb1.mono HB0.out.size)); clear hb1))
    go_ret2
    exact ⟨rfl, HB1.out⟩
/-- First, of whatever there is. -/
theorem First_total {w : World} {v : Value} {at_ m : List Int} {f long n : Int} (h : Prof w v at_ m) :
    Calls Try.prog 15 #[v, .int .i64 f, .int .i64 long, .int .i64 n] w fun e w' => ∃ a c : Int, e = .returned (.tuple #[.int .i64 a, .int .i64 c]) ∧ Below w.heap.size w w' := by
  by_cases hok : OkP at_ m ∧ Q f ∧ Q long ∧ Q n
  · obtain ⟨⟨L, hL, rfl, rfl⟩, h1, h2, h3⟩ := hok
    refine (First_yes h hL h1 h2 h3).mono ?_
    rintro e w1 ⟨rfl, hb⟩
    cases fst? L f long n with
    | none => exact ⟨0, 7, rfl, hb⟩
    | some a => exact ⟨a, 0, rfl, hb⟩
  · refine (First_no h hok).mono ?_
    rintro e w1 ⟨rfl, hb⟩
    exact ⟨0, 2, rfl, hb⟩
end Go.Proofs.Ytigomdihkojdmaa.gn
