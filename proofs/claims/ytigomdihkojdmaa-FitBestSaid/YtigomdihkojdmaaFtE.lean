/- The windows of a slot; where each ends; which profile each has. -/
import Derived.Test.YtigomdihkojdmaaFtD
import Derived.Test.YtigomdihkojdmaaGenAt
import Derived.Laws.Rows
import Derived.Laws.Tables
import Derived.Laws.CopyOwn
namespace Go.Proofs.Ytigomdihkojdmaa.gn
open Go.RowKit Go.Shelf
open Go.Proofs.Ytigomdihkojdmaa.sp

theorem lanes_any (B : Nat) (w : World) : Calls Try.prog 32 #[.pointer (some ⟨B, 0, none⟩)] w fun e w' => e = .returned (.pointer (some ⟨B, 4, none⟩)) ∧ w = w' := by
  go_enter Try.func32, Try.ntmps32
  go_wp2
  go_ret
  exact ⟨rfl, rfl⟩
theorem nodes_any (B : Nat) (w : World) : Calls Try.prog 33 #[.pointer (some ⟨B, 0, none⟩)] w fun e w' => e = .returned (.pointer (some ⟨B, 0, none⟩)) ∧ w = w' := by
  go_enter Try.func33, Try.ntmps33
  go_wp2
  go_ret
  exact ⟨rfl, rfl⟩
theorem bytes_any (B : Nat) (w : World) : Calls Try.prog 34 #[.pointer (some ⟨B, 0, none⟩)] w fun e w' => e = .returned (.pointer (some ⟨B, 2, none⟩)) ∧ w = w' := by
  go_enter Try.func34, Try.ntmps34
  go_wp2
  go_ret
  exact ⟨rfl, rfl⟩
/-- The cells of a window of a slot. -/
def prtC (f l n : Int) (g : Nat) : Array Value := #[.int .i64 f, .int .i64 l, .int .i64 n, .func (.func g) #[] #[]]
theorem end_any (f l n : Int) (g : Nat) (w : World) (h0 : -9223372036854775808 ≤ f + l) (h1 : f + l ≤ 9223372036854775807) : Calls Try.prog 20 #[.agg (prtC f l n g)] w (Tells (f + l) w) := by
  have hw := IntWalk.i64_in (f + l) (by omega)
  unfold prtC
  go_enter Try.func20, Try.ntmps20
  go_wp2
  go_ret
  exact ⟨rfl, (Below.refl _ _).alloc (Nat.le_refl _) _⟩

/-- All four. -/
def partsC (x : Shp) (a : Slt) : Array Value :=
  #[.int .i64 a.s, .int .i64 x.i, .int .i64 x.l, .func (.func 32) #[] #[],
    .int .i64 a.c, .int .i64 x.w, .int .i64 x.n, .func (.func 33) #[] #[],
    .int .i64 a.o, .int .i64 x.o, .int .i64 x.l, .func (.func 32) #[] #[],
    .int .i64 a.s, .int .i64 (a.o + x.o - a.s), .int .i64 x.b, .func (.func 34) #[] #[]]
def sltC (a : Slt) : Array Value := #[.int .i64 a.s, .int .i64 a.c, .int .i64 a.o]
def sltV (a : Slt) : Value := .agg (sltC a)
set_option maxRecDepth 100000 in
set_option maxHeartbeats 1000000 in
theorem parts_any (x : Shp) (a : Slt) (w : World) (h0 : -9223372036854775808 ≤ a.o + x.o) (h1 : a.o + x.o ≤ 9223372036854775807) (h2 : -9223372036854775808 ≤ a.o + x.o - a.s) (h3 : a.o + x.o - a.s ≤ 9223372036854775807) :
    Calls Try.prog 18 #[shpV x, sltV a] w fun e w' => e = .returned (.agg (partsC x a)) ∧ Below w.heap.size w w' := by
  have hw1 := IntWalk.i64_in (a.o + x.o) (by omega)
  have hw2 := IntWalk.i64_in (a.o + x.o - a.s) (by omega)
  unfold shpV shpC sltV sltC
  go_enter Try.func18, Try.ntmps18
  go_wp2_with (refine wpList_store_row rfl _ _ _ rfl (w.heap.size + 1 + 1) (partsC x a) rfl rfl _ _ (at3_2 w _ _ _) (by kernel_rfl) rfl (by kernel_rfl) ?_)
  have hb : ∀ o1 o2 o3 : Obj, Below w.heap.size w (((w.alloc o1).alloc o2).alloc o3) := fun _ _ _ => (((Below.refl _ w).alloc (Nat.le_refl _) _).alloc (by simp) _).alloc (by simp; omega) _
  exact bodyPost_ret (v := .agg (partsC x a)) (results_cell_row rfl _ _ _ _ _ _ _ rfl (setRow_heap _ _ _ _ _ _ (at3_2 w _ _ _)) Try.underlying58 rfl (by kernel_rfl)) rfl ⟨rfl, below_setRow (hb _ _ _) (by omega) _⟩
end Go.Proofs.Ytigomdihkojdmaa.gn
