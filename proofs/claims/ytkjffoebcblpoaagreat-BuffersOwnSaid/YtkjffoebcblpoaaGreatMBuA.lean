/- Buffers in memory: values, rows of extents, of uses, of buffers. -/
import Derived.Test.YtkjffoebcblpoaaGreatMGenRow
import Derived.Test.YtkjffoebcblpoaaGreatMGenBox
import Derived.Test.YtkjffoebcblpoaaGreatMBuN
import Derived.BigQuiet
import Derived.Lib.Bytealg
import Derived.Lib.SlBy
section
set_option linter.unusedVariables false
set_option linter.unusedSimpArgs false
namespace Go.Proofs.YtkjffoebcblpoaaGreat.gn
open Go.RowKit
open Go.Proofs.YtkjffoebcblpoaaGreat.ex (X okx Dj Ok Apart Fine)
open Go.Proofs.YtkjffoebcblpoaaGreat.bu (Bf)

theorem bel_drewN {B n : Nat} {a w : World} (h : Below B a w) : Below B a (w.drewN n) := ⟨h.os, h.tape, h.output, h.size, h.block⟩
/-- Answers v, and makes memory. -/
def TellsM (v : Value) (w : World) (e : Ending) (w' : World) : Prop := e = .returned v ∧ Below w.heap.size w w'
def xcs : List X → List Value
  | [] => []
  | x :: l => .int .i64 x.1 :: .int .i64 x.2 :: xcs l
def ics (l : List Int) : List Value := l.map fun n => .int .i64 n
theorem xcs_len : ∀ l : List X, (xcs l).length = l.length * 2
  | [] => rfl
  | x :: l => by simp only [xcs, List.length_cons, xcs_len l]; omega
theorem xcs_at : ∀ (l : List X) (j : Nat) (x : X), l[j]? = some x → (xcs l)[j * 2]? = some (.int .i64 x.1) ∧ (xcs l)[j * 2 + 1]? = some (.int .i64 x.2)
  | [], j, x, h => by simp at h
  | y :: l, 0, x, h => by
    obtain rfl : y = x := by simpa using h
    exact ⟨rfl, rfl⟩
  | y :: l, j + 1, x, h => by
    have := xcs_at l j x (by simpa using h)
    rw [show (j + 1) * 2 = j * 2 + 2 by omega, show j * 2 + 2 + 1 = j * 2 + 1 + 2 by omega]
    exact this
theorem xcs_app : ∀ l k : List X, xcs (l ++ k) = xcs l ++ xcs k
  | [], k => rfl
  | x :: l, k => by simp only [List.cons_append, xcs, xcs_app l k]
theorem xcs_one : ∀ (l : List X), ∀ u ∈ xcs l, u.oneCell' = true
  | [], u, h => by cases h
  | x :: l, u, h => by
    simp only [xcs, List.mem_cons] at h
    rcases h with rfl | rfl | h
    · rfl
    · rfl
    · exact xcs_one l u h
theorem ics_at {l : List Int} {j : Nat} {n : Int} (h : l[j]? = some n) : (ics l)[j]? = some (.int .i64 n) := by
  unfold ics
  rw [List.getElem?_map, h]
  rfl
theorem ics_one (l : List Int) : ∀ u ∈ ics l, u.oneCell' = true := fun u h => by
  obtain ⟨n, _, rfl⟩ := List.mem_map.1 h
  rfl
theorem ics_len (l : List Int) : (ics l).length = l.length := by simp [ics]
/-- A buffer's rows, as values. -/
structure Gb where
  e : Value
  r : Value
def bcs (b : Bf) (g : Gb) : Array Value := #[.int .i64 b.job, .string (str b.name), .string (str b.user), .string (str b.pool), .bool b.opn, g.e, g.r]
def bV (b : Bf) (g : Gb) : Value := .agg (bcs b g)
def bcl : List (Bf × Gb) → List Value
  | [] => []
  | p :: l => (bcs p.1 p.2).toList ++ bcl l
theorem bcl_len : ∀ l : List (Bf × Gb), (bcl l).length = l.length * 7
  | [] => rfl
  | p :: l => by simp only [bcl, List.length_append, bcl_len l, List.length_cons]; simp [bcs]; omega
theorem bcl_app : ∀ l k : List (Bf × Gb), bcl (l ++ k) = bcl l ++ bcl k
  | [], k => rfl
  | x :: l, k => by simp only [List.cons_append, bcl, bcl_app l k, List.append_assoc]
theorem bcl_at : ∀ (l : List (Bf × Gb)) (j : Nat) (p : Bf × Gb), l[j]? = some p → ∀ i u, i < 7 → (bcs p.1 p.2)[i]? = some u → (bcl l)[j * 7 + i]? = some u
  | [], j, p, h, i, u, hi, hu => by simp at h
  | q :: l, 0, p, h, i, u, hi, hu => by
    obtain rfl : q = p := by simpa using h
    rw [Nat.zero_mul, Nat.zero_add]
    unfold bcl
    rw [List.getElem?_append_left (by simpa [bcs] using hi)]
    simpa using hu
  | q :: l, j + 1, p, h, i, u, hi, hu => by
    have := bcl_at l j p (by simpa using h) i u hi hu
    unfold bcl
    rw [List.getElem?_append_right (by simp [bcs]; omega)]
    rw [show (j + 1) * 7 + i - (bcs q.1 q.2).toList.length = j * 7 + i by simp [bcs]; omega]
    exact this
def RX (w : World) (v : Value) (l : List X) : Prop := RdC w v l.length (xcs l)
def RI (w : World) (v : Value) (l : List Int) : Prop := RdC w v l.length (ics l)
structure RB (w : World) (b : Bf) (g : Gb) : Prop where
  e : RX w g.e b.exts
  r : RI w g.r b.refs
/-- v is a slice of these buffers. -/
structure RBs (w : World) (v : Value) (L : List (Bf × Gb)) : Prop where
  row : RdC w v L.length (bcl L)
  rows : ∀ p ∈ L, RB w p.1 p.2
theorem RX.next {w w' : World} {v : Value} {l : List X} (h : RX w v l) (hb : Below w.heap.size w w') : RX w' v l := RdC.next h hb
theorem RI.next {w w' : World} {v : Value} {l : List Int} (h : RI w v l) (hb : Below w.heap.size w w') : RI w' v l := RdC.next h hb
theorem RB.next {w w' : World} {b : Bf} {g : Gb} (h : RB w b g) (hb : Below w.heap.size w w') : RB w' b g := ⟨h.e.next hb, h.r.next hb⟩
theorem RBs.next {w w' : World} {v : Value} {L : List (Bf × Gb)} (h : RBs w v L) (hb : Below w.heap.size w w') : RBs w' v L := ⟨h.row.next hb, fun p hp => (h.rows p hp).next hb⟩
/-- The place of a slice of extents that is not empty. -/
def XAt (w : World) (p : Option Addr) (l : List X) : Prop := ∃ k off, p = some ⟨k, off, none⟩ ∧ k < w.heap.size ∧ ∀ j x, l[j]? = some x → w.cell? ⟨k, off + j * 2, none⟩ = some (.int .i64 x.1) ∧ w.cell? ⟨k, off + j * 2 + 1, none⟩ = some (.int .i64 x.2)
theorem RX.form {w : World} {v : Value} {l : List X} (h : RX w v l) : ∃ p c, v = .slice p l.length c ∧ (l ≠ [] → XAt w p l) := by
  rcases h with ⟨p, c, rfl, hn, _, _⟩ | ⟨b, off, c, rfl, hlt, hc⟩
  · exact ⟨p, c, by rw [hn], fun hl => absurd (List.eq_nil_of_length_eq_zero hn) hl⟩
  · refine ⟨_, c, rfl, fun _ => ⟨b, off, rfl, hlt, fun j x hx => ?_⟩⟩
    obtain ⟨h1, h2⟩ := xcs_at l j x hx
    exact ⟨hc _ _ h1, by have := hc _ _ h2; rwa [← Nat.add_assoc] at this⟩
def IAt (w : World) (p : Option Addr) (l : List Int) : Prop := ∃ k off, p = some ⟨k, off, none⟩ ∧ k < w.heap.size ∧ ∀ j x, l[j]? = some x → w.cell? ⟨k, off + j, none⟩ = some (.int .i64 x)
theorem RI.form {w : World} {v : Value} {l : List Int} (h : RI w v l) : ∃ p c, v = .slice p l.length c ∧ (l ≠ [] → IAt w p l) := by
  rcases h with ⟨p, c, rfl, hn, _, _⟩ | ⟨b, off, c, rfl, hlt, hc⟩
  · exact ⟨p, c, by rw [hn], fun hl => absurd (List.eq_nil_of_length_eq_zero hn) hl⟩
  · exact ⟨_, c, rfl, fun _ => ⟨b, off, rfl, hlt, fun j x hx => hc _ _ (ics_at hx)⟩⟩
def BAt (w : World) (p : Option Addr) (L : List (Bf × Gb)) : Prop := ∃ k off, p = some ⟨k, off, none⟩ ∧ k < w.heap.size ∧ ∀ j q, L[j]? = some q → ∀ i u, i < 7 → (bcs q.1 q.2)[i]? = some u → w.cell? ⟨k, off + j * 7 + i, none⟩ = some u
theorem RBs.form {w : World} {v : Value} {L : List (Bf × Gb)} (h : RBs w v L) : ∃ p c, v = .slice p L.length c ∧ (L ≠ [] → BAt w p L) := by
  rcases h.row with ⟨p, c, rfl, hn, _, _⟩ | ⟨b, off, c, rfl, hlt, hc⟩
  · exact ⟨p, c, by rw [hn], fun hl => absurd (List.eq_nil_of_length_eq_zero hn) hl⟩
  · refine ⟨_, c, rfl, fun _ => ⟨b, off, rfl, hlt, fun j q hq i u hi hu => ?_⟩⟩
    have := hc _ _ (bcl_at L j q hq i u hi hu)
    rwa [← Nat.add_assoc] at this
theorem ne_of_at {α : Type} {l : List α} {j : Nat} {x : α} (h : l[j]? = some x) : l ≠ [] := by
  rintro rfl
  simp at h
/-- The seven cells of one of them. -/
theorem BAt.cells {w : World} {k off : Nat} {L : List (Bf × Gb)} {j : Nat} {q : Bf × Gb} (hc : ∀ j q, L[j]? = some q → ∀ i u, i < 7 → (bcs q.1 q.2)[i]? = some u → w.cell? ⟨k, off + j * 7 + i, none⟩ = some u) (h : L[j]? = some q) :
    w.cell? ⟨k, off + j * 7, none⟩ = some (.int .i64 q.1.job) ∧ w.cell? ⟨k, off + j * 7 + 1, none⟩ = some (.string (str q.1.name)) ∧ w.cell? ⟨k, off + j * 7 + 2, none⟩ = some (.string (str q.1.user)) ∧ w.cell? ⟨k, off + j * 7 + 3, none⟩ = some (.string (str q.1.pool)) ∧ w.cell? ⟨k, off + j * 7 + 4, none⟩ = some (.bool q.1.opn) ∧ w.cell? ⟨k, off + j * 7 + 5, none⟩ = some q.2.e ∧ w.cell? ⟨k, off + j * 7 + 6, none⟩ = some q.2.r :=
  ⟨hc j q h 0 _ (by omega) rfl, hc j q h 1 _ (by omega) rfl, hc j q h 2 _ (by omega) rfl, hc j q h 3 _ (by omega) rfl, hc j q h 4 _ (by omega) rfl, hc j q h 5 _ (by omega) rfl, hc j q h 6 _ (by omega) rfl⟩
/-- A buffer in a box. -/
def BufB (W : World) (b : Nat) (x : Bf) (g : Gb) : Prop := BoxA W b 26 (bcs x g)
theorem BufB.cells {W : World} {b : Nat} {x : Bf} {g : Gb} (h : BufB W b x g) : W.cell? ⟨b, 0, none⟩ = some (.int .i64 x.job) ∧ W.cell? ⟨b, 1, none⟩ = some (.string (str x.name)) ∧ W.cell? ⟨b, 2, none⟩ = some (.string (str x.user)) ∧ W.cell? ⟨b, 3, none⟩ = some (.string (str x.pool)) ∧ W.cell? ⟨b, 4, none⟩ = some (.bool x.opn) ∧ W.cell? ⟨b, 5, none⟩ = some g.e ∧ W.cell? ⟨b, 6, none⟩ = some g.r ∧ b < W.heap.size :=
  ⟨BoxA.cell h 0 _, BoxA.cell h 1 _, BoxA.cell h 2 _, BoxA.cell h 3 _, BoxA.cell h 4 _, BoxA.cell h 5 _, BoxA.cell h 6 _, BoxA.lt h⟩
theorem BufB.next {w w' : World} {b : Nat} {x : Bf} {g : Gb} (h : BufB w b x g) (hb : Below w.heap.size w w') : BufB w' b x g := BoxA.next h hb
end Go.Proofs.YtkjffoebcblpoaaGreat.gn
end
section
set_option linter.unusedVariables false
set_option linter.unusedSimpArgs false
namespace Go.Proofs.YtkjffoebcblpoaaGreat.bu
open Go.Proofs.YtkjffoebcblpoaaGreat.un (isName)
open Go.Proofs.YtkjffoebcblpoaaGreat.ex (X okx Dj Ok Apart Fine)
open Go.Proofs.YtkjffoebcblpoaaGreat.po (less less_self less_trans less_tri less_asymm less_cons)

/-! ### two names -/
theorem cmpT_neg : ∀ a b : Tx, Go.Lib.compareBytes a b < 0 ↔ less a b = true
  | [], [] => by simp [Go.Lib.compareBytes, less_self]
  | [], y :: b => by simp [Go.Lib.compareBytes, po.less_nil]
  | x :: a, [] => by simp [Go.Lib.compareBytes, po.less_none]
  | x :: a, y :: b => by
    have ih := cmpT_neg a b
    rw [less_cons]
    unfold Go.Lib.compareBytes
    by_cases h1 : x < y
    · simp [h1]
    · rw [if_neg h1]
      by_cases h2 : y < x
      · have hne : x ≠ y := by rintro rfl; exact absurd h2 (UInt8.lt_irrefl _)
        simp [h1, h2, hne]
      · have he : x = y := UInt8.le_antisymm (UInt8.not_lt.1 h2) (UInt8.not_lt.1 h1)
        subst he
        simp [h1, ih]
theorem cmpT_zero : ∀ a b : Tx, Go.Lib.compareBytes a b = 0 ↔ a = b
  | [], [] => by simp [Go.Lib.compareBytes]
  | [], y :: b => by simp [Go.Lib.compareBytes]
  | x :: a, [] => by simp [Go.Lib.compareBytes]
  | x :: a, y :: b => by
    have ih := cmpT_zero a b
    unfold Go.Lib.compareBytes
    by_cases h1 : x < y
    · have hne : x ≠ y := by rintro rfl; exact absurd h1 (UInt8.lt_irrefl _)
      simp [h1, hne]
    · rw [if_neg h1]
      by_cases h2 : y < x
      · have hne : x ≠ y := by rintro rfl; exact absurd h2 (UInt8.lt_irrefl _)
        simp [h2, hne]
      · have he : x = y := UInt8.le_antisymm (UInt8.not_lt.1 h2) (UInt8.not_lt.1 h1)
        subst he
        simp [h1, ih]
/-- How two buffers stand to each other. -/
def cmpJ (a b : Int) : Int := if a < b then -1 else if b < a then 1 else 0
def cmpB (a b : Bf) : Int := if cmpJ a.job b.job ≠ 0 then cmpJ a.job b.job else Go.Lib.compareBytes a.name b.name
theorem cmpB_neg (a b : Bf) : cmpB a b < 0 ↔ lt a b = true := by
  rw [lt_iff, ← cmpT_neg]
  unfold cmpB cmpJ
  by_cases h1 : a.job < b.job
  · simp [h1]
  · by_cases h2 : b.job < a.job
    · have hne : a.job ≠ b.job := by omega
      simp [h1, h2, hne]
    · have he : a.job = b.job := by omega
      simp [he]
theorem cmpB_zero (a b : Bf) : cmpB a b = 0 ↔ a.job = b.job ∧ a.name = b.name := by
  rw [← cmpT_zero]
  unfold cmpB cmpJ
  by_cases h1 : a.job < b.job
  · have hne : a.job ≠ b.job := by omega
    simp [h1, hne]
  · by_cases h2 : b.job < a.job
    · have hne : a.job ≠ b.job := by omega
      simp [h1, h2, hne]
    · have he : a.job = b.job := by omega
      simp [he]
theorem cmpB_no (a b : Bf) : decide (0 ≤ cmpB a b) = !lt a b := by
  have := cmpB_neg a b
  cases h : lt a b
  · rw [h] at this
    have : ¬ cmpB a b < 0 := fun hh => by have := this.1 hh; cases this
    simp; omega
  · rw [h] at this
    have := this.2 rfl
    simp; omega
theorem lt_self (a : Bf) : lt a a = false := by
  cases h : lt a a
  · rfl
  · exact absurd ⟨rfl, rfl⟩ (lt_ne h)
theorem lt_asymm {a b : Bf} (h : lt a b = true) : lt b a = false := by
  cases h2 : lt b a
  · rfl
  · have := lt_trans h h2
    rw [lt_self] at this
    cases this

/-! ### neighbours -/
theorem adj_pair {α : Type} {R : α → α → Prop} (tr : ∀ a b c, R a b → R b c → R a c) : ∀ l : List α, (∀ j a b, l[j]? = some a → l[j + 1]? = some b → R a b) → l.Pairwise R
  | [], _ => .nil
  | [a], _ => by simp
  | a :: b :: l, h => by
    have ih := adj_pair tr (b :: l) fun j x y hx hy => h (j + 1) x y (by simpa using hx) (by simpa using hy)
    refine List.pairwise_cons.2 ⟨fun c hc => ?_, ih⟩
    have hab := h 0 a b rfl rfl
    rcases List.mem_cons.1 hc with rfl | hc
    · exact hab
    · exact tr _ _ _ hab ((List.pairwise_cons.1 ih).1 c hc)
theorem pair_adj {α : Type} {R : α → α → Prop} {l : List α} (h : l.Pairwise R) (j : Nat) (a b : α) (ha : l[j]? = some a) (hb : l[j + 1]? = some b) : R a b := by
  obtain ⟨h1, rfl⟩ := List.getElem?_eq_some_iff.1 ha
  obtain ⟨h2, rfl⟩ := List.getElem?_eq_some_iff.1 hb
  exact List.pairwise_iff_getElem.1 h _ _ h1 h2 (by omega)
/-- The neighbours below place i rise. -/
def AdjTo {α : Type} (R : α → α → Bool) (l : List α) (i : Nat) : Prop := ∀ j a b, j + 1 < i → l[j]? = some a → l[j + 1]? = some b → R a b = true
theorem AdjTo.one {α : Type} (R : α → α → Bool) (l : List α) : AdjTo R l 1 := fun j a b h => by omega
theorem AdjTo.step {α : Type} {R : α → α → Bool} {l : List α} {i : Nat} (h : AdjTo R l (i + 1)) {x y : α} (hx : l[i]? = some x) (hy : l[i + 1]? = some y) (hr : R x y = true) : AdjTo R l (i + 2) := fun j a b hj ha hb => by
  by_cases hji : j = i
  · subst hji
    rw [hx] at ha
    rw [hy] at hb
    cases ha
    cases hb
    exact hr
  · exact h j a b (by omega) ha hb
theorem AdjTo.all {α : Type} {R : α → α → Bool} {l : List α} {i : Nat} (tr : ∀ a b c, R a b = true → R b c = true → R a c = true) (h : AdjTo R l i) (hi : l.length ≤ i) : l.Pairwise fun a b => R a b = true :=
  adj_pair (R := fun a b => R a b = true) tr l fun j a b ha hb => h j a b (by have := (List.getElem?_eq_some_iff.1 hb).1; omega) ha hb

/-! ### the extents of a pool -/
def catP (l : List Bf) (p : Tx) : List X := (l.filter fun b => decide (b.pool = p)).flatMap (·.exts)
theorem catP_nil (p : Tx) : catP [] p = [] := rfl
theorem catP_take {l : List Bf} {i : Nat} {b : Bf} (h : l[i]? = some b) (p : Tx) : catP (l.take (i + 1)) p = if b.pool = p then catP (l.take i) p ++ b.exts else catP (l.take i) p := by
  unfold catP
  rw [List.take_add_one, h, Option.toList_some, List.filter_append, List.flatMap_append]
  by_cases hp : b.pool = p
  · simp [hp]
  · simp [hp]
theorem catP_ok {l : List Bf} (h : ∀ b ∈ l, May b) (p : Tx) : Ok (catP l p) := fun x hx => by
  unfold catP at hx
  obtain ⟨b, hb, hxb⟩ := List.mem_flatMap.1 hx
  exact (h b (List.mem_filter.1 hb).1).2.2.2.1.2.1 x hxb
theorem catP_len {l : List Bf} {n : Nat} (h : ∀ b ∈ l, b.exts.length ≤ n) (p : Tx) : (catP l p).length ≤ l.length * n := by
  unfold catP
  induction l with
  | nil => simp
  | cons a l ih =>
    have h1 := ih fun b hb => h b (List.mem_cons_of_mem _ hb)
    have h2 := h a (by simp)
    by_cases hp : a.pool = p
    · simp only [hp, List.filter_cons, decide_true, if_true, List.flatMap_cons, List.length_append, List.length_cons, Nat.add_mul]
      omega
    · simp only [List.filter_cons, hp, decide_false, Bool.false_eq_true, if_false, List.length_cons, Nat.add_mul]
      omega
theorem meet_no {a b : List X} : meet a b = false ↔ ∀ x ∈ a, ∀ y ∈ b, Dj x y := by
  unfold meet
  simp [List.any_eq_false]
theorem catP_apart_iff (l : List Bf) (p : Tx) : Apart (catP l p) ↔ (∀ b ∈ l, b.pool = p → Apart b.exts) ∧ l.Pairwise fun a b => a.pool = p → b.pool = p → meet a.exts b.exts = false := by
  unfold catP ex.Apart
  rw [List.pairwise_flatMap, List.pairwise_filter]
  constructor
  · rintro ⟨h1, h2⟩
    refine ⟨fun b hb hp => h1 b (List.mem_filter.2 ⟨hb, by simpa using hp⟩), List.Pairwise.imp (fun {a b} h hp hq => ?_) h2⟩
    exact meet_no.2 (h (by simpa using hp) (by simpa using hq))
  · rintro ⟨h1, h2⟩
    refine ⟨fun b hb => h1 b (List.mem_filter.1 hb).1 (by simpa using (List.mem_filter.1 hb).2), List.Pairwise.imp (fun {a b} h hp hq => ?_) h2⟩
    exact meet_no.1 (h (by simpa using hp) (by simpa using hq))
theorem catP_far {l : List Bf} (hm : ∀ b ∈ l, May b) : (∀ b ∈ l, Apart (catP l b.pool)) ↔ l.Pairwise Far := by
  constructor
  · intro h
    refine List.pairwise_iff_getElem.2 fun i j hi hj hij => ?_
    have h1 := ((catP_apart_iff l l[i].pool).1 (h _ (List.getElem_mem hi))).2
    intro he
    exact List.pairwise_iff_getElem.1 h1 i j hi hj hij rfl he.symm
  · intro h b hb
    refine (catP_apart_iff l b.pool).2 ⟨fun c hc _ => (hm c hc).2.2.2.1.2.2, List.Pairwise.imp (fun {x y} hf hx hy => hf (hx.trans hy.symm)) h⟩

/-! ### a buffer at its place, by sorting -/
theorem ins_perm (b : Bf) : ∀ l : List Bf, (ins b l).Perm (b :: l)
  | [] => .refl _
  | c :: l => by
    unfold ins
    split
    · exact .refl _
    · exact ((ins_perm b l).cons c).trans (.swap b c l)
theorem sort_ins {l s : List Bf} {b : Bf} (hs : l.Pairwise fun a b => lt a b = true) (hn : ∀ c ∈ l, ¬ (c.job = b.job ∧ c.name = b.name)) (hp : s.Perm (l ++ [b])) (hso : s.Pairwise fun a c => lt c a = false) : s = ins b l := by
  have hi := ins_sorted hs hn
  have hpi : s.Perm (ins b l) := hp.trans ((List.perm_append_comm (l₁ := l) (l₂ := [b])).trans (ins_perm b l).symm)
  have hne : s.Pairwise fun a c => ¬ (a.job = c.job ∧ a.name = c.name) := by
    refine (hpi.pairwise_iff fun {x y} h => fun hh => h ⟨hh.1.symm, hh.2.symm⟩).2 ?_
    exact List.Pairwise.imp (fun h => lt_ne h) hi
  have hst : s.Pairwise fun a c => lt a c = true := by
    refine List.Pairwise.imp₂ (fun a c h1 h2 => ?_) hso hne
    rcases lt_tri h1 with h3 | h3
    · exact absurd ⟨h3.1.symm, h3.2.symm⟩ h2
    · exact h3
  exact List.Perm.eq_of_pairwise (fun a b _ _ h1 h2 => by rw [lt_asymm h1] at h2; cases h2) hst hi hpi

/-! ### a job at its place -/
theorem insR_at {j : Int} : ∀ {l : List Int} {i : Nat}, i ≤ l.length → (∀ q n, l[q]? = some n → q < i → n < j) → (∀ q n, l[q]? = some n → i ≤ q → j < n) → l.take i ++ j :: l.drop i = insR j l
  | [], i, hi, _, _ => by
    obtain rfl : i = 0 := by simpa using hi
    rfl
  | k :: l, 0, _, _, h2 => by
    have := h2 0 k rfl (Nat.le_refl _)
    unfold insR
    rw [if_pos this]
    rfl
  | k :: l, i + 1, hi, h1, h2 => by
    have h3 := h1 0 k rfl (by omega)
    unfold insR
    rw [if_neg (by omega)]
    have := insR_at (j := j) (l := l) (i := i) (by simpa using hi) (fun q n hq hlt => h1 (q + 1) n (by simpa using hq) (by omega)) (fun q n hq hle => h2 (q + 1) n (by simpa using hq) (by omega))
    rw [← this]
    rfl

/-! ### the first of which something is true -/
theorem idx_place {p : Bf → Bool} : ∀ (l : List Bf) (k : Nat), (∀ i, l.findIdx? p = some i → Go.Lib.idxByFrom (fun _ y => p y) Bf.zero l k = ((k + i : Nat) : Int)) ∧ (l.findIdx? p = none → Go.Lib.idxByFrom (fun _ y => p y) Bf.zero l k = -1)
  | [], k => ⟨fun i h => by simp at h, fun _ => rfl⟩
  | b :: l, k => by
    have ih := idx_place (p := p) l (k + 1)
    unfold Go.Lib.idxByFrom
    rw [List.findIdx?_cons]
    cases hb : p b
    · simp only [Bool.false_eq_true, if_false, Option.map_eq_some_iff, Option.map_eq_none_iff]
      refine ⟨?_, ih.2⟩
      rintro i ⟨j, hj, rfl⟩
      rw [ih.1 j hj]
      omega
    · simp only [if_true]
      refine ⟨fun i h => ?_, fun h => by cases h⟩
      cases h
      rfl
end Go.Proofs.YtkjffoebcblpoaaGreat.bu
end
