/- StepsBack: the law's walk. -/
import Derived.Test.YtoofogmlodfgmaaStL1
import Derived.Deep.RegionHeld3
import Derived.Deep.DeepCutAuto
import Derived.Handy
import Derived.Deep.DrawnRows
namespace Go.Proofs.Ytoofogmlodfgmaa.gn
open Go.RowKit Go.Shelf
open Go.Proofs.Ytoofogmlodfgmaa.sp

/-- The operations of a region, written out. -/
theorem at0 {α : Type} {o : α} {l : List α} : (o :: l)[0]? = some o := rfl
theorem atS {α : Type} {o x : α} {l : List α} {n : Nat} (h : l[n]? = some o) : (x :: l)[n + 1]? = some o := h
theorem ata {α : Type} {o : α} {l : List α} {n : Nat} (h : l[n]? = some o) : l.toArray[n]? = some o := by simpa using h

/-- A box of nine cells. -/
def Box9 (W : World) (B : Nat) (t : TypeId) (u v a b c d e f x : Value) : Prop := W.heap[B]? = some (.cells #[u, v, a, b, c, d, e, f, x] t (0, 0))
theorem Box9.new (W : World) (t : TypeId) (u v a b c d e f x : Value) : Box9 (W.alloc (.cells #[u, v, a, b, c, d, e, f, x] t)) W.heap.size t u v a b c d e f x := World.alloc_heap_new W _
theorem Box9.cell {W : World} {B : Nat} {t : TypeId} {u v a b c d e f x : Value} (h : Box9 W B t u v a b c d e f x) :
    W.cell? ⟨B, 0, none⟩ = some u ∧ W.cell? ⟨B, 1, none⟩ = some v ∧ W.cell? ⟨B, 2, none⟩ = some a ∧ W.cell? ⟨B, 3, none⟩ = some b ∧ W.cell? ⟨B, 4, none⟩ = some c ∧ W.cell? ⟨B, 5, none⟩ = some d ∧ W.cell? ⟨B, 6, none⟩ = some e ∧ W.cell? ⟨B, 7, none⟩ = some f ∧ W.cell? ⟨B, 8, none⟩ = some x := by
  simp [World.cell?, show W.heap[B]? = _ from h]
theorem Box9.lt {W : World} {B : Nat} {t : TypeId} {u v a b c d e f x : Value} (h : Box9 W B t u v a b c d e f x) : B < W.heap.size := (Array.getElem?_eq_some_iff.1 h).1

theorem al3 (W : World) (o1 o2 o3 : Obj) : ∃ W3, (((W.alloc o1).alloc o2).alloc o3).drew = W3 ∧ W3.heap[W.heap.size]? = some o1 ∧ W3.heap[W.heap.size + 1]? = some o2 ∧ W3.heap[W.heap.size + 1 + 1]? = some o3 ∧ Below W.heap.size W W3 := by
  have b1 := (Below.refl W.heap.size W).alloc (Nat.le_refl _) o1
  have b2 : Below (W.alloc o1).heap.size (W.alloc o1) (((W.alloc o1).alloc o2)) := (Below.refl _ _).alloc (Nat.le_refl _) o2
  have b3 : Below ((W.alloc o1).alloc o2).heap.size ((W.alloc o1).alloc o2) ((((W.alloc o1).alloc o2).alloc o3)).drew := ((Below.refl _ _).alloc (Nat.le_refl _) o3).drew
  have e1 := World.alloc_heap_new W o1
  have e2 := World.alloc_heap_new (W.alloc o1) o2
  have e3 := World.alloc_heap_new ((W.alloc o1).alloc o2) o3
  rw [World.size_alloc] at e2
  rw [World.size_alloc, World.size_alloc] at e3
  refine ⟨_, rfl, ?_, ?_, e3, b1.trans ((b2.trans (b3.mono b2.size)).mono b1.size)⟩
  · exact (b3.block _ (by simp; omega)).trans ((b2.block _ (by simp)).trans e1)
  · exact (b3.block _ (by simp)).trans e2

/-- How StepsBack stands. -/
structure SB (w : World) (v1 v2 : Value) (at_ m : List Int) (lo hi n lo' hi' n' : Int) (g gw gv : Nat) (W : World) : Prop where
  bS : Box2 W g 24 v1 v2
  bW : Box3 W gw 26 (.int .i64 lo) (.int .i64 hi) (.int .i64 n)
  bV : Box3 W gv 26 (.int .i64 lo') (.int .i64 hi') (.int .i64 n')
  hB : Below w.heap.size w W
  hP : Prof W (.agg #[v1, v2]) at_ m
theorem SB.next {w W W' : World} {v1 v2 : Value} {at_ m : List Int} {lo hi n lo' hi' n' : Int} {g gw gv : Nat} (h : SB w v1 v2 at_ m lo hi n lo' hi' n' g gw gv W) (hb : Below W.heap.size W W') : SB w v1 v2 at_ m lo hi n lo' hi' n' g gw gv W' :=
  ⟨box2_next hb h.bS, Box3.next hb h.bW, Box3.next hb h.bV, h.hB.trans (hb.mono h.hB.size), h.hP.below hb (Nat.le_refl _)⟩
theorem SB.alloc {w W : World} {v1 v2 : Value} {at_ m : List Int} {lo hi n lo' hi' n' : Int} {g gw gv : Nat} (h : SB w v1 v2 at_ m lo hi n lo' hi' n' g gw gv W) (o : Obj) : SB w v1 v2 at_ m lo hi n lo' hi' n' g gw gv (W.alloc o) := h.next ((Below.refl _ W).alloc (Nat.le_refl _) o)
theorem SB.drew {w W : World} {v1 v2 : Value} {at_ m : List Int} {lo hi n lo' hi' n' : Int} {g gw gv : Nat} (h : SB w v1 v2 at_ m lo hi n lo' hi' n' g gw gv W) : SB w v1 v2 at_ m lo hi n lo' hi' n' g gw gv W.drew := h.next (Below.refl _ W).drew
def BackCut (w : World) (v1 v2 : Value) (at_ m : List Int) (lo hi n lo' hi' n' t : Int) (s3 s4 s5 s6 : Value) (W : World) : Prop :=
  ∃ g gw gv, s3 = .pointer (some ⟨g, 0, none⟩) ∧ s4 = .pointer (some ⟨gw, 0, none⟩) ∧ s5 = .pointer (some ⟨gv, 0, none⟩) ∧ s6 = .int .i64 t ∧ SB w v1 v2 at_ m lo hi n lo' hi' n' g gw gv W

/-- A profile in a box of its own. -/
structure Bx (x1 x2 : Value) (M : List (Int × Int)) (g : Nat) (W : World) : Prop where
  b : Box2 W g 24 x1 x2
  p : Prof W (.agg #[x1, x2]) (M.map Prod.fst) (M.map Prod.snd)
theorem Bx.next {x1 x2 : Value} {M : List (Int × Int)} {g : Nat} {W W' : World} (h : Bx x1 x2 M g W) (hb : Below W.heap.size W W') : Bx x1 x2 M g W' := ⟨box2_next hb h.b, h.p.below hb (Nat.le_refl _)⟩
theorem Bx.alloc {x1 x2 : Value} {M : List (Int × Int)} {g : Nat} {W : World} (h : Bx x1 x2 M g W) (o : Obj) : Bx x1 x2 M g (W.alloc o) := h.next ((Below.refl _ W).alloc (Nat.le_refl _) o)
theorem Bx.drew {x1 x2 : Value} {M : List (Int × Int)} {g : Nat} {W : World} (h : Bx x1 x2 M g W) : Bx x1 x2 M g W.drew := h.next (Below.refl _ W).drew
theorem Bx.new {W : World} {B : Nat} {a1 a2 : Option Addr} {n1 n2 c1 c2 : Nat} {M : List (Int × Int)} (o1 : OwnI W B (.slice a1 n1 c1) (M.map Prod.fst)) (o2 : OwnI W B (.slice a2 n2 c2) (M.map Prod.snd)) (hM : Ok M) :
    Bx (.slice a1 n1 c1) (.slice a2 n2 c2) M W.heap.size (W.alloc (.cells #[.slice a1 n1 c1, .slice a2 n2 c2] 24)) := by
  have P : Prof W (.agg #[.slice a1 n1 c1, .slice a2 n2 c2]) (M.map Prod.fst) (M.map Prod.snd) := ⟨_, _, rfl, o1.ints (by rw [List.length_map]; have := hM.le; unfold maxLen; omega), o2.ints (by rw [List.length_map]; have := hM.le; unfold maxLen; omega)⟩
  exact ⟨Box2.new W _ _ _, P.alloc _⟩
end Go.Proofs.Ytoofogmlodfgmaa.gn
