/- Slices of numbers in memory; clamping; the iterator over a profile's steps, by its contract. -/
import Derived.RangeFuncNested
import Derived.RangeFuncBound
import Derived.RangeFuncCalls
import Derived.RangeFuncLeaves
import Derived.RangeFuncBox
import Derived.Shelf.Abstract
import Derived.Shelf.RegionOpen
import Derived.WalkKit
import Derived.ProofKit
import Derived.Outline
import Derived.Lib.Hide
import Derived.Lib.MinMax
import Derived.IntWalk
import Derived.OwnWalk
import Derived.OwnWalkIn
import Derived.TacticsInMore
import Derived.LoopNIn
import Derived.LoopIn
import Derived.Below
import Derived.Test.YtigomdihkojdmaaRows
import Derived.Test.YtigomdihkojdmaaStM
namespace Go.Proofs.Ytigomdihkojdmaa.gn
open Go.RowKit Go.Shelf
open Go.Proofs.Ytigomdihkojdmaa.sp

attribute [local go_sem] Oper.semAt_some

/-- A number, clamped to a quantity. -/
def of (n : Int) : Int := min (max n 0) 1099511627776
theorem of_bd (n : Int) : 0 ≤ of n ∧ of n ≤ 1099511627776 := by unfold of; omega
theorem of_id {n : Int} (h : Q n) : of n = n := by unfold of; obtain ⟨h0, h1⟩ := h; omega
theorem of_q {n : Int} : n = of n ↔ Q n := by
  constructor
  · intro h; rw [h]; exact of_bd n
  · intro h; exact (of_id h).symm

theorem ret_i64 {a b : Int} (h : a = b) : Ending.returned (.int .i64 a) = .returned (.int .i64 b) := by rw [h]
/-- What a function that only computes answers. -/
def Says (n : Int) (w : World) (e : Ending) (w' : World) : Prop := e = .returned (.int .i64 n) ∧ w = w'

theorem of_any (n : Int) (w : World) : Calls Try.prog 38 #[.int .i64 n] w (Says (of n) w) := by
  go_enter Try.func38, Try.ntmps38
  go_wp2
  go_ret
  exact ⟨rfl, rfl⟩

theorem cell_lt {w : World} {a : Addr} {v : Value} (h : w.cell? a = some v) : a.block < w.heap.size := by
  unfold World.cell? at h
  cases hb : w.heap[a.block]? with
  | none => rw [hb] at h; simp at h
  | some o => exact lt_of_block hb

/-- v is a slice of these numbers. -/
def Ints (w : World) (v : Value) (l : List Int) : Prop :=
  l.length ≤ maxLen ∧ ∃ a cap, v = .slice a l.length cap ∧ (l.length ≤ cap ∧ cap ≤ maxLen) ∧ (l.length = 0 ∨ ∃ b o, a = some ⟨b, o, none⟩ ∧ ∀ j (h : j < l.length), w.cell? ⟨b, o + j, none⟩ = some (.int .i64 l[j]))
theorem Ints.below {w w' : World} {v : Value} {l : List Int} (h : Ints w v l) {B : Nat} (hb : Below B w w') (hB : w.heap.size ≤ B) : Ints w' v l := by
  obtain ⟨hm, a, cap, rfl, hcap, h⟩ := h
  refine ⟨hm, a, cap, rfl, hcap, ?_⟩
  rcases h with h | ⟨b, o, rfl, hc⟩
  · exact .inl h
  · exact .inr ⟨b, o, rfl, fun j hj => (hb.cell (p := ⟨b, o + j, none⟩) (Nat.lt_of_lt_of_le (cell_lt (hc j hj)) hB)).trans (hc j hj)⟩
theorem Ints.alloc {w : World} {v : Value} {l : List Int} (h : Ints w v l) (o : Obj) : Ints (w.alloc o) v l := h.below ((Below.refl _ w).alloc (Nat.le_refl _) o) (Nat.le_refl _)
theorem Ints.drew {w : World} {v : Value} {l : List Int} (h : Ints w v l) : Ints w.drew v l := h.below (Below.refl _ w).drew (Nat.le_refl _)
/-- v is a profile of these times and numbers. -/
def Prof (w : World) (v : Value) (at_ n : List Int) : Prop := ∃ v1 v2, v = .agg #[v1, v2] ∧ Ints w v1 at_ ∧ Ints w v2 n
theorem Prof.below {w w' : World} {v : Value} {l m : List Int} (h : Prof w v l m) {B : Nat} (hb : Below B w w') (hB : w.heap.size ≤ B) : Prof w' v l m := by
  obtain ⟨v1, v2, rfl, h1, h2⟩ := h
  exact ⟨v1, v2, rfl, h1.below hb hB, h2.below hb hB⟩
theorem Prof.alloc {w : World} {v : Value} {l m : List Int} (h : Prof w v l m) (o : Obj) : Prof (w.alloc o) v l m := h.below ((Below.refl _ w).alloc (Nat.le_refl _) o) (Nat.le_refl _)

/-! The iterator -/
/-- The window behind a step's time. -/
def nxt (at_ : List Int) (k : Nat) : Int := if k + 1 < at_.length then at_[k + 1]?.getD 0 else 1099511627777
/-- A step: its window, its number. -/
abbrev Wn := (Int × Int) × Int
def step (at_ n : List Int) (k : Nat) : Wn := ((at_[k]?.getD 0, nxt at_ k), n[k]?.getD 0)
def encs (x : Wn) : Array Value := #[.agg #[.int .i64 x.1.1, .int .i64 x.1.2], .int .i64 x.2]
/-- The first k steps. -/
def upto (at_ n : List Int) (k : Nat) : List Wn := (List.range k).map (step at_ n)
theorem upto_succ (at_ n : List Int) (k : Nat) : upto at_ n (k + 1) = upto at_ n k ++ [step at_ n k] := by simp [upto, List.range_succ]
theorem upto_length (at_ n : List Int) (k : Nat) : (upto at_ n k).length = k := by simp [upto]

/-- **each(s)**: the profile is boxed; the function value captures the box. -/
theorem each_in (F : Fence) (n : Nat) (h5 : F.fn 42) (hro : F.round = none) (v1 v2 : Value) (w : World) :
    CallsIn F n Try.prog 42 #[.agg #[v1, v2]] w fun e w' => e = .returned (.func (.func 49) #[] #[.pointer (some ⟨w.heap.size, 0, none⟩)]) ∧ w' = w.alloc (.cells #[v1, v2] 24) := by
  refine callsIn_of_wp Try.func42 rfl h5 ?_ hro
  simp only [Try.ntmps42, List.size_toArray, List.length_cons, List.length_nil, Nat.reduceAdd, Nat.reduceSub, Array.replicate_succ, Array.replicate_zero, List.push_toArray, List.append_toArray, List.nil_append, List.cons_append]
  gi_wp2
  go_ret
  exact ⟨rfl, rfl⟩
end Go.Proofs.Ytigomdihkojdmaa.gn
