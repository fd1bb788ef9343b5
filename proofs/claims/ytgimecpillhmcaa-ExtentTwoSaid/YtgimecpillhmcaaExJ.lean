/- Has, Meet, Give: the contracts. -/
import Derived.Test.YtgimecpillhmcaaExI
set_option linter.unusedVariables false
namespace Go.Proofs.Ytgimecpillhmcaa.gn
open Go.RowKit Go.Shelf Go.Sort Go.Lib
open Go.Proofs.Ytgimecpillhmcaa.ex

attribute [local go_sem] Oper.semAt_some

theorem end_wrap (x : X) (w : World) : Calls Try.prog 27 #[aggX x] w fun e w' => e = .returned (.int .i64 (IntKind.i64.wrap (x.1 + x.2))) ∧ w' = w.alloc (boxX x) := by
  obtain ⟨a, b⟩ := x
  dsimp only
  go_enter Try.func27, Try.ntmps27
  go_wp2
  go_ret
  exact ⟨congrArg (fun z => Ending.returned (.int .i64 z)) (by unfold wrap64; rw [IntKind.wrap_i64]), rfl⟩
theorem index_none (p' : Option Addr) (c' : Nat) (fv : Value) (w : World) : Calls Try.prog 35 #[.slice p' 0 c', fv] w fun e w' => e = .returned (.int .i64 (-1)) ∧ w' = w := by
  go_enter Try.func35, Try.ntmps35
  go_wp2
  go_loopw [8] (fun s8 wr => s8 = .int .i64 0 ∧ wr = w) (fun _ _ => 0)
  case atStart => exact ⟨rfl, rfl⟩
  case round =>
    obtain ⟨rfl, hwr⟩ := hrel
    subst hwr
    go_wp2
    go_ret
    exact ⟨rfl, rfl⟩
theorem contains_none (p' : Option Addr) (c' : Nat) (fv : Value) (w : World) : Calls Try.prog 25 #[.slice p' 0 c', fv] w fun e w' => e = .returned (.bool false) ∧ w' = w := by
  go_enter Try.func25, Try.ntmps25
  go_wp2_with (go_at_call 35; refine (index_none _ _ _ _).mono ?_; rintro e w' ⟨rfl, rfl⟩)
  go_ret
  exact ⟨rfl, rfl⟩
def hasP (n : Int) (x : X) : Bool := decide (x.1 ≤ n) && decide (n < IntKind.i64.wrap (x.1 + x.2))
set_option maxHeartbeats 1000000 in
theorem has1_any (n : Int) (B : Nat) (w : World) (hB : B < w.heap.size) (hn : w.cell? ⟨B, 0, none⟩ = some (.int .i64 n)) (x : X) :
    Calls Try.prog 26 #[aggX x, .pointer (some ⟨B, 0, none⟩)] w fun e w' => e = .returned (.bool (hasP n x)) ∧ RowKit.Below w.heap.size w w' := by
  have E := end_wrap x
  unfold hasP
  generalize hz : IntKind.i64.wrap (x.1 + x.2) = z at *
  clear hz
  obtain ⟨a, b⟩ := x
  have k1 := Box2.new w 37 (.int .i64 a) (.int .i64 b)
  have p0 : ∀ m os, (grow ((w.alloc (boxX (a, b))).drewN m) os).cell? ⟨w.heap.size, 0, none⟩ = some (.int .i64 a) := fun m os => cell_grown (by simp) k1.cell0 m os
  have p1 : ∀ m os, (grow ((w.alloc (boxX (a, b))).drewN m) os).cell? ⟨w.heap.size, 1, none⟩ = some (.int .i64 b) := fun m os => cell_grown (by simp) k1.cell1 m os
  have pn : ∀ m os, (grow ((w.alloc (boxX (a, b))).drewN m) os).cell? ⟨B, 0, none⟩ = some (.int .i64 n) := fun m os => cell_grown (a := ⟨B, 0, none⟩) (by simp; omega) (Lib.cell?_alloc_some _ hn) m os
  have c1 : ∀ m os, Calls Try.prog 27 #[.agg #[.int .i64 a, .int .i64 b]] (grow ((w.alloc (boxX (a, b))).drewN m) os) fun e w'' => e = .returned (.int .i64 z) ∧ ∃ p : GrownBy, w'' = grow ((w.alloc (boxX (a, b))).drewN p.n) p.os := fun m os =>
    Calls.grown_of ((E _).mono fun e w' h => ⟨h.1, 0, #[boxX (a, b)], h.2⟩)
  have mixed : Try.prog.follows .mixedOrders = true := by kernel_rfl
  have hfin : ∀ m os, RowKit.Below w.heap.size w (grow ((w.alloc (boxX (a, b))).drewN m) os) := fun m os => ((Below.refl _ w).alloc (Nat.le_refl _) _).trans ((below_grow _ m os).mono (by simp))
  have HF := Lib.hid hfin
  clear E k1 hfin
  dsimp only
  by_cases h1 : a ≤ n
  · have d1 : decide (a ≤ n) = true := decide_eq_true h1
    rw [d1]
    clear h1
    go_enter Try.func26, Try.ntmps26
    go_wp2
    go_quiet_grown (first | (go_at_call 27; exact c1 _ _))
    go_wp2
    go_ret
    exact ⟨by simp, HF.out _ _⟩
  · have d1 : decide (a ≤ n) = false := decide_eq_false h1
    rw [d1]
    clear h1
    go_enter Try.func26, Try.ntmps26
    go_wp2
    go_quiet_grown (first | (go_at_call 27; exact c1 _ _))
    go_wp2
    go_ret
    exact ⟨by simp, HF.out _ _⟩

theorem any_num {l : List X} (ho : ex.Ok l) (n : Int) : l.any (hasP n) = decide (num n l) := by
  rw [Bool.eq_iff_iff, List.any_eq_true, decide_eq_true_iff]
  unfold num
  constructor
  · rintro ⟨x, hx, h⟩
    have := ho x hx
    unfold okx at this
    unfold hasP at h
    rw [Bool.and_eq_true, decide_eq_true_iff, decide_eq_true_iff, IntKind.wrap_i64] at h
    exact ⟨x, hx, h.1, by omega⟩
  · rintro ⟨x, hx, h⟩
    have := ho x hx
    unfold okx at this
    refine ⟨x, hx, ?_⟩
    unfold hasP
    rw [Bool.and_eq_true, decide_eq_true_iff, decide_eq_true_iff, IntKind.wrap_i64]
    exact ⟨h.1, by omega⟩

theorem contains_any {w : World} {v : Value} {l : List X} (n : Int) (B : Nat) (h : Rd w v l) (hl : l.length ≤ 4000) (ho : ex.Ok l) (hB : B < w.heap.size) (hn : w.cell? ⟨B, 0, none⟩ = some (.int .i64 n)) :
    Calls Try.prog 25 #[v, .func (.func 26) #[] #[.pointer (some ⟨B, 0, none⟩)]] w (TellsB (decide (num n l)) w) := by
  rcases h with ⟨p', c', rfl, rfl, _⟩ | ⟨b, off, c, rfl, hlt, hc⟩
  · have := contains_none p' c' (.func (.func 26) #[] #[.pointer (some ⟨B, 0, none⟩)]) w
    refine Calls.mono (f := 25) this ?_
    rintro e w' ⟨rfl, rfl⟩
    exact ⟨by rw [decide_eq_false (num_nil n)], Below.refl _ _⟩
  · have := AnyQ.slices_ContainsFunc layContainsFunc 2 Try.isAgg37 Try.sizeOf37 encX (fun _ => rfl) (hasP n) 26 #[.pointer (some ⟨B, 0, none⟩)] (enters_of Try.func26 (by kernel_rfl) rfl) b off l.length c l w
      (fun W x hb => (has1_any n B W (Nat.lt_of_lt_of_le hB hb.size) ((hb.cell (p := ⟨B, 0, none⟩) hB).trans hn) x).mono fun e w' h => ⟨h.1, hb.trans (h.2.mono hb.size)⟩) (Nat.le_refl _) (by omega) hlt (fun j hj i v hi => by
        have h1 := hc j hj
        generalize l[j]! = y at hi h1
        rcases i with _ | _ | i
        · have e : Value.int .i64 y.1 = v := Option.some.inj hi
          rw [← e]; exact h1.1
        · have e : Value.int .i64 y.2 = v := Option.some.inj hi
          rw [← e]; exact h1.2
        · exact absurd hi (by simp [encX]))
    refine Calls.mono (f := 25) this ?_
    rintro e w' ⟨rfl, hb⟩
    exact ⟨by rw [List.take_length, any_num ho], hb⟩
theorem Has_any {w : World} {v : Value} {l : List X} (n : Int) (h : Rd w v l) (hf : Fine l) : Calls Try.prog 11 #[v, .int .i64 n] w (TellsB (decide (num n l)) w) := by
  have hb1 : RowKit.Below w.heap.size w (w.alloc (.cells #[.int .i64 n] 2)) := (Below.refl _ w).alloc (Nat.le_refl _) _
  have c1 := check_any (h.next hb1) hf.1
  rw [chk_fine hf] at c1
  have bN := (Boxed.new w 2 (.int .i64 n)).cell
  have C2 := Lib.hid fun (W : World) (hb : RowKit.Below (w.alloc (.cells #[.int .i64 n] 2)).heap.size (w.alloc (.cells #[.int .i64 n] 2)) W) =>
    contains_any n w.heap.size (h.next (hb1.trans (hb.mono hb1.size))) (by have := hf.1; omega) hf.2.1 (Nat.lt_of_lt_of_le (by simp) hb.size) ((hb.cell (p := ⟨w.heap.size, 0, none⟩) (by simp)).trans bN)
  have HB := Lib.hid hb1
  generalize decide (num n l) = r at *
  clear h hf bN hb1
  go_enter Try.func11, Try.ntmps11
  go_wp2_with (first
    | (go_at_call 15; refine c1.mono ?_; rintro e w1 ⟨rfl, hb1⟩; clear c1; have c2 := C2.out w1 hb1; have HB1 := Lib.hid hb1; clear hb1)
    | (go_at_call 25; refine c2.mono ?_; rintro e w2 ⟨rfl, hb2⟩; have H2 := Lib.hid hb2; clear hb2 c2))
  go_ret
  have hs := HB1.out.size
  exact ⟨rfl, HB.out.trans ((HB1.out.mono HB.out.size).trans (H2.out.mono (Nat.le_trans HB.out.size hs)))⟩
end Go.Proofs.Ytgimecpillhmcaa.gn
