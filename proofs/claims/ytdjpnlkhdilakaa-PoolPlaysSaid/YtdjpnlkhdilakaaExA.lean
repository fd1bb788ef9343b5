/- Lists of extents in memory; begin, end, compare, sorted. -/
import Derived.Test.YtdjpnlkhdilakaaExG
set_option linter.unusedVariables false
set_option maxRecDepth 100000
namespace Go.Proofs.Ytdjpnlkhdilakaa.gn
open Go.RowKit Go.Shelf Go.Sort Go.Lib
open Go.Proofs.Ytdjpnlkhdilakaa.ex

attribute [local go_sem] Oper.semAt_some

def encX (x : X) : List Value := [.int .i64 x.1, .int .i64 x.2]
def fl : List X → List Value
  | [] => []
  | x :: l => .int .i64 x.1 :: .int .i64 x.2 :: fl l
theorem fl_length : ∀ l : List X, (fl l).length = l.length * 2
  | [] => rfl
  | x :: l => by simp only [fl, List.length_cons, fl_length l]; omega
theorem fl_append : ∀ l k : List X, fl (l ++ k) = fl l ++ fl k
  | [], _ => rfl
  | x :: l, k => by simp only [List.cons_append, fl, fl_append l k]
theorem fl_at : ∀ (l : List X) (j : Nat), j < l.length → (fl l)[j * 2]? = some (.int .i64 l[j]!.1) ∧ (fl l)[j * 2 + 1]? = some (.int .i64 l[j]!.2)
  | x :: l, 0, _ => ⟨rfl, rfl⟩
  | x :: l, j + 1, h => by
    have := fl_at l j (by simpa using h)
    rw [show (j + 1) * 2 = j * 2 + 1 + 1 by omega]
    simp only [fl, List.getElem?_cons_succ]
    exact this
theorem fl_one (l : List X) : ∀ v ∈ fl l, v.oneCell' = true := by
  induction l with
  | nil => intro v hv; cases hv
  | cons x l ih =>
    intro v hv
    rcases List.mem_cons.1 hv with rfl | hv
    · rfl
    · rcases List.mem_cons.1 hv with rfl | hv
      · rfl
      · exact ih v hv
abbrev aggX (x : X) : Value := .agg #[.int .i64 x.1, .int .i64 x.2]

def CellsX (w : World) (b off : Nat) (l : List X) : Prop := ∀ j, j < l.length → w.cell? ⟨b, off + j * 2, none⟩ = some (.int .i64 l[j]!.1) ∧ w.cell? ⟨b, off + j * 2 + 1, none⟩ = some (.int .i64 l[j]!.2)
/-- v is a slice of these: nil, or it names its block. -/
def RdS (w : World) (v : Value) (l : List X) : Prop :=
  (v = .slice none 0 0 ∧ l = []) ∨ ∃ b off c, v = .slice (some ⟨b, off, none⟩) l.length c ∧ b < w.heap.size ∧ CellsX w b off l
/-- v is a slice of these: any slice that is empty, or it names its block. -/
def Rd (w : World) (v : Value) (l : List X) : Prop :=
  (∃ p c, v = .slice p 0 c ∧ l = [] ∧ (p = none → c = 0)) ∨ ∃ b off c, v = .slice (some ⟨b, off, none⟩) l.length c ∧ b < w.heap.size ∧ CellsX w b off l
theorem RdS.rd {w : World} {v : Value} {l : List X} (h : RdS w v l) : Rd w v l := h.imp (fun h => ⟨none, 0, h.1, h.2, fun _ => rfl⟩) id
theorem CellsX.below {w w' : World} {b off : Nat} {l : List X} (h : CellsX w b off l) {B : Nat} (hb : Below B w w') (hB : b < B) : CellsX w' b off l := fun j hj =>
  ⟨(hb.cell (p := ⟨b, off + j * 2, none⟩) hB).trans (h j hj).1, (hb.cell (p := ⟨b, off + j * 2 + 1, none⟩) hB).trans (h j hj).2⟩
theorem Rd.below {w w' : World} {v : Value} {l : List X} (h : Rd w v l) {B : Nat} (hb : Below B w w') (hB : w.heap.size ≤ B) : Rd w' v l := by
  rcases h with h | ⟨b, off, c, e, hlt, hc⟩
  · exact .inl h
  · exact .inr ⟨b, off, c, e, Nat.lt_of_lt_of_le hlt hb.size, hc.below hb (by omega)⟩
theorem RdS.below {w w' : World} {v : Value} {l : List X} (h : RdS w v l) {B : Nat} (hb : Below B w w') (hB : w.heap.size ≤ B) : RdS w' v l := by
  rcases h with h | ⟨b, off, c, e, hlt, hc⟩
  · exact .inl h
  · exact .inr ⟨b, off, c, e, Nat.lt_of_lt_of_le hlt hb.size, hc.below hb (by omega)⟩
theorem RdS.next {w w' : World} {v : Value} {l : List X} (h : RdS w v l) (hb : Below w.heap.size w w') : RdS w' v l := h.below hb (Nat.le_refl _)
theorem Rd.next {w w' : World} {v : Value} {l : List X} (h : Rd w v l) (hb : Below w.heap.size w w') : Rd w' v l := h.below hb (Nat.le_refl _)
/-- A row of the call's own. -/
def OwnX (base : Nat) (w : World) (v : Value) (l : List X) : Prop := w.ownsRow base 54 2 v l.length (fl l)
theorem OwnX.nil (base : Nat) (w : World) : OwnX base w (.slice none 0 0) [] := World.ownsRow_nil _ _ _ _
theorem OwnX.next {base : Nat} {w w' : World} {v : Value} {l : List X} (h : OwnX base w v l) (hb : Below w.heap.size w w') : OwnX base w' v l :=
  World.ownsRow.kept h (grown_new hb) (by cases hv : v.ownBlock <;> simp)
theorem OwnX.mono {base B : Nat} {w : World} {v : Value} {l : List X} (h : OwnX base w v l) (hB : B ≤ base) : OwnX B w v l := by
  obtain ⟨h1, h2 | ⟨g, cap, cur, e, hb, r⟩⟩ := h
  · exact ⟨h1, .inl h2⟩
  · exact ⟨h1, .inr ⟨g, cap, cur, e, Nat.le_trans hB hb, r⟩⟩
theorem OwnX.rds {base : Nat} {w : World} {v : Value} {l : List X} (h : OwnX base w v l) : RdS w v l := by
  have hc : ∀ g, v.ownBlock = some g → ∀ j u, (fl l)[j]? = some u → w.cell? ((⟨g, 0, none⟩ : Addr).add j) = some u := fun g hg => World.ownsRow.cells h hg
  obtain ⟨h1, ⟨rfl, h2⟩ | ⟨g, cap, cur, rfl, hb, hg, _⟩⟩ := h
  · exact .inl ⟨rfl, List.length_eq_zero_iff.1 h2⟩
  · refine .inr ⟨g, 0, cap, rfl, (Array.getElem?_eq_some_iff.1 hg).1, fun j hj => ?_⟩
    have h3 := fl_at l j hj
    have a := hc g rfl _ _ h3.1
    have b := hc g rfl _ _ h3.2
    rw [Addr.add_lit, Nat.zero_add] at a b
    rw [Nat.zero_add]
    exact ⟨a, b⟩
theorem OwnX.rd {base : Nat} {w : World} {v : Value} {l : List X} (h : OwnX base w v l) : Rd w v l := h.rds.rd
theorem Rd.len {w : World} {v : Value} {l : List X} (h : Rd w v l) : ∃ p c, v = .slice p l.length c := by
  rcases h with ⟨p, c, rfl, rfl, _⟩ | ⟨b, off, c, e, _⟩
  · exact ⟨_, _, rfl⟩
  · exact ⟨_, _, e⟩

/-- The box of an extent. -/
abbrev boxX (x : X) : Obj := .cells #[.int .i64 x.1, .int .i64 x.2] 54
theorem grow_one (w : World) (o : Obj) : w.alloc o = grow w #[o] := rfl
def Sml (n : Int) : Prop := -9223372036854775808 ≤ n ∧ n < 9223372036854775808

theorem end_any (x : X) (w : World) (h : Sml (x.1 + x.2)) : Calls Try.prog 49 #[aggX x] w fun e w' => e = .returned (.int .i64 (x.1 + x.2)) ∧ w' = w.alloc (boxX x) := by
  obtain ⟨a, b⟩ := x
  unfold Sml at h
  dsimp only at h ⊢
  have hw : IntKind.i64.wrap (a + b) = a + b := by rw [IntKind.wrap_i64]; omega
  have H := Lib.hid h
  clear h
  go_enter Try.func49, Try.ntmps49
  go_wp2
  go_ret
  exact ⟨by first | rfl | rw [hw], rfl⟩
theorem begin_any (x : X) (w : World) : Calls Try.prog 64 #[aggX x] w fun e w' => e = .returned (.int .i64 x.1) ∧ w' = w.alloc (boxX x) := by
  obtain ⟨a, b⟩ := x
  dsimp only
  go_enter Try.func64, Try.ntmps64
  go_wp2
  go_ret
  exact ⟨rfl, rfl⟩
theorem isNaN_any (a : Int) (w : World) : Calls Try.prog 80 #[.int .i64 a] w fun e w' => e = .returned (.bool false) ∧ w' = w := by
  go_enter Try.func80, Try.ntmps80
  go_wp2
  go_ret
  exact ⟨by simp, rfl⟩
def cf (x y : X) : Int := if x.1 < y.1 then -1 else if y.1 < x.1 then 1 else 0
theorem cmp_any (a b : Int) (w : World) : Calls Try.prog 69 #[.int .i64 a, .int .i64 b] w fun e w' => e = .returned (.int .i64 (if a < b then -1 else if b < a then 1 else 0)) ∧ w' = w := by
  by_cases h1 : a < b
  · rw [if_pos h1]
    go_enter Try.func69, Try.ntmps69
    go_wp2_with (go_at_call 80; refine (isNaN_any _ _).mono ?_; rintro e w' ⟨rfl, rfl⟩)
    go_ret
    exact ⟨rfl, rfl⟩
  · by_cases h2 : b < a
    · rw [if_neg h1, if_pos h2]
      go_enter Try.func69, Try.ntmps69
      go_wp2_with (go_at_call 80; refine (isNaN_any _ _).mono ?_; rintro e w' ⟨rfl, rfl⟩)
      go_ret
      exact ⟨rfl, rfl⟩
    · rw [if_neg h1, if_neg h2]
      go_enter Try.func69, Try.ntmps69
      go_wp2_with (go_at_call 80; refine (isNaN_any _ _).mono ?_; rintro e w' ⟨rfl, rfl⟩)
      go_ret
      exact ⟨rfl, rfl⟩

theorem ld_x (P : Program) (w : World) (b off : Nat) (x : X) (h1 : w.cell? ⟨b, off, none⟩ = some (.int .i64 x.1)) (h2 : w.cell? ⟨b, off + 1, none⟩ = some (.int .i64 x.2)) :
    Sem.run P (loadCellsFrom ⟨b, off, none⟩ 0 2 #[]) w = .ok #[.int .i64 x.1, .int .i64 x.2] w :=
  run_loadCellsFrom_list P w ⟨b, off, none⟩ (encX x) 2 rfl fun j v hj => by
    match j, hj with
    | 0, hj => simp [encX] at hj; rw [← hj, Addr.add_lit]; exact h1
    | 1, hj => simp [encX] at hj; rw [← hj, Addr.add_lit]; exact h2
    | j + 2, hj => simp [encX] at hj

set_option maxHeartbeats 1000000 in
theorem compare_any (x y : X) (w : World) : Calls Try.prog 65 #[.func (.func 64) #[] #[], aggX x, aggX y] w fun e w' => e = .returned (.int .i64 (cf x y)) ∧ ∃ q os, w' = grow (w.drewN q) os := by
  obtain ⟨a, b⟩ := x
  obtain ⟨c, d⟩ := y
  have k1 := (Box2.new w 54 (.int .i64 a) (.int .i64 b)).alloc (boxX (c, d))
  have k2 := Box2.new (w.alloc (boxX (a, b))) 54 (.int .i64 c) (.int .i64 d)
  have p0 : ∀ n os, (grow (((w.alloc (boxX (a, b))).alloc (boxX (c, d))).drewN n) os).cell? ⟨w.heap.size, 0, none⟩ = some (.int .i64 a) := fun n os => cell_grown (by simp; omega) k1.cell0 n os
  have p1 : ∀ n os, (grow (((w.alloc (boxX (a, b))).alloc (boxX (c, d))).drewN n) os).cell? ⟨w.heap.size, 1, none⟩ = some (.int .i64 b) := fun n os => cell_grown (by simp; omega) k1.cell1 n os
  rw [World.size_alloc] at k2
  have q0 : ∀ n os, (grow (((w.alloc (boxX (a, b))).alloc (boxX (c, d))).drewN n) os).cell? ⟨w.heap.size + 1, 0, none⟩ = some (.int .i64 c) := fun n os => cell_grown (by simp) k2.cell0 n os
  have q1 : ∀ n os, (grow (((w.alloc (boxX (a, b))).alloc (boxX (c, d))).drewN n) os).cell? ⟨w.heap.size + 1, 1, none⟩ = some (.int .i64 d) := fun n os => cell_grown (by simp) k2.cell1 n os
  have c1 : ∀ n os, Calls Try.prog 64 #[.agg #[.int .i64 a, .int .i64 b]] (grow (((w.alloc (boxX (a, b))).alloc (boxX (c, d))).drewN n) os) fun e w'' => e = .returned (.int .i64 a) ∧ ∃ p : GrownBy, w'' = grow (((w.alloc (boxX (a, b))).alloc (boxX (c, d))).drewN p.n) p.os := fun n os =>
    Calls.grown_of ((begin_any (a, b) _).mono fun e w' h => ⟨h.1, 0, #[boxX (a, b)], h.2⟩)
  have c2 : ∀ n os, Calls Try.prog 64 #[.agg #[.int .i64 c, .int .i64 d]] (grow (((w.alloc (boxX (a, b))).alloc (boxX (c, d))).drewN n) os) fun e w'' => e = .returned (.int .i64 c) ∧ ∃ p : GrownBy, w'' = grow (((w.alloc (boxX (a, b))).alloc (boxX (c, d))).drewN p.n) p.os := fun n os =>
    Calls.grown_of ((begin_any (c, d) _).mono fun e w' h => ⟨h.1, 0, #[boxX (c, d)], h.2⟩)
  have c3 : ∀ n os, Calls Try.prog 69 #[.int .i64 a, .int .i64 c] (grow (((w.alloc (boxX (a, b))).alloc (boxX (c, d))).drewN n) os) fun e w'' => e = .returned (.int .i64 (cf (a, b) (c, d))) ∧ ∃ p : GrownBy, w'' = grow (((w.alloc (boxX (a, b))).alloc (boxX (c, d))).drewN p.n) p.os := fun n os =>
    Calls.grown_of ((cmp_any a c _).mono fun e w' h => ⟨h.1, 0, #[], by rw [grow_empty]; exact h.2⟩)
  have eg : ∀ args w, (callFunc 64 args).run Try.prog w = .ok (.enter 64 args) w := enters_of Try.func64 (by kernel_rfl) rfl
  have mixed : Try.prog.follows .mixedOrders = true := by kernel_rfl
  generalize cf (a, b) (c, d) = r at *
  clear k1 k2
  go_enter Try.func65, Try.ntmps65
  go_wp2
  go_quiet_grown (first | (go_at_call 69; exact c3 _ _) | (go_at_call 64; first | exact c1 _ _ | exact c2 _ _))
  go_wp2
  go_ret
  exact ⟨rfl, nq, (#[boxX (a, b)] ++ #[boxX (c, d)]) ++ osq, by rw [grow_one, grow_one, grow_grow]; show grow (grow (w.drewN nq) _) osq = _; rw [grow_grow]⟩
end Go.Proofs.Ytdjpnlkhdilakaa.gn
