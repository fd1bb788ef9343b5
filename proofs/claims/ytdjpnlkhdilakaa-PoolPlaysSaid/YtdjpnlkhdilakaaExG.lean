/- For any seat: general facts (out of StA, StE, StC, FtB, GenRn): boxes of two cells, what a round keeps, a range over an iterator that makes and writes blocks of its own. -/
import Derived.RangeFuncNested
import Derived.RangeFuncBound
import Derived.RangeFuncCalls
import Derived.RangeFuncLeaves
import Derived.RangeFuncBox
import Derived.Shelf.Abstract
import Derived.Shelf.RegionOpen
import Derived.WalkKit
import Derived.ProofKit
import Derived.Outline
import Derived.Lib.Hide
import Derived.Lib.MinMax
import Derived.IntWalk
import Derived.OwnWalk
import Derived.OwnWalkIn
import Derived.TacticsInMore
import Derived.LoopNIn
import Derived.LoopIn
import Derived.Below
import Derived.BigQuiet
import Derived.Laws.NewBlocks
import Derived.Deep.QuietTactic
import Derived.OrdersIn
import Derived.Test.YtdjpnlkhdilakaaRows
import Derived.Test.YtdjpnlkhdilakaaExM
import Derived.Test.YtdjpnlkhdilakaaSvQ
import Derived.Test.YtdjpnlkhdilakaaSlLay
set_option linter.unusedVariables false
namespace Go.Proofs.Ytdjpnlkhdilakaa.gn
open Go.RowKit Go.Shelf

attribute [local go_sem] Oper.semAt_some

theorem cell_lt {w : World} {a : Addr} {v : Value} (h : w.cell? a = some v) : a.block < w.heap.size := by
  unfold World.cell? at h
  cases hb : w.heap[a.block]? with
  | none => rw [hb] at h; simp at h
  | some o => exact lt_of_block hb

theorem grown_new {w w' : World} (h : Below w.heap.size w w') : w.grownBy w' none :=
  ⟨h.os, h.tape, h.output, h.size, fun k hk _ => h.block k hk⟩

/-- A box of two cells. -/
def Box2 (W : World) (B : Nat) (t : TypeId) (u v : Value) : Prop := W.heap[B]? = some (.cells #[u, v] t (0, 0))
theorem Box2.lt {W : World} {B : Nat} {t : TypeId} {u v : Value} (h : Box2 W B t u v) : B < W.heap.size := (Array.getElem?_eq_some_iff.1 h).1
theorem Box2.cell0 {W : World} {B : Nat} {t : TypeId} {u v : Value} (h : Box2 W B t u v) : W.cell? ⟨B, 0, none⟩ = some u := by simp [World.cell?, show W.heap[B]? = _ from h]
theorem Box2.cell1 {W : World} {B : Nat} {t : TypeId} {u v : Value} (h : Box2 W B t u v) : W.cell? ⟨B, 1, none⟩ = some v := by simp [World.cell?, show W.heap[B]? = _ from h]
theorem Box2.free {W : World} {B : Nat} {t : TypeId} {u v : Value} (h : Box2 W B t u v) (j : Nat) : W.frozen? ⟨B, j, none⟩ = false := by simp [World.frozen?, show W.heap[B]? = _ from h]
theorem Box2.kept {W W' : World} {row : Option Nat} {B : Nat} {t : TypeId} {u v : Value} (h : Box2 W B t u v) (hg : W.grownBy W' row) (hne : some B ≠ row) : Box2 W' B t u v := (hg.block B h.lt hne).trans h
theorem Box2.alloc {W : World} {B : Nat} {t : TypeId} {u v : Value} (h : Box2 W B t u v) (o : Obj) : Box2 (W.alloc o) B t u v := h.kept (World.grownBy_alloc W o none) (by simp)
theorem Box2.new (W : World) (t : TypeId) (u v : Value) : Box2 (W.alloc (.cells #[u, v] t)) W.heap.size t u v := World.alloc_heap_new W _
theorem box2_own {β : Type} (B : Nat) (t : TypeId) (f f' : β → Value) : Own (fun s W => Box2 W B t (f s) (f' s)) := fun s X Y row hs hg hrow =>
  hs.kept hg (fun e' => by obtain ⟨o, ho, hc⟩ := hrow B e'.symm; rw [show X.heap[B]? = _ from hs] at ho; cases ho; cases hc)
theorem KeepsFrom.of_below {B : Nat} {W W' : World} (h : Below W.heap.size W W') : KeepsFrom B W W' :=
  ⟨h.size, fun k _ _ hk _ => (h.block k (Array.getElem?_eq_some_iff.1 hk).1).trans hk⟩

/-- It speaks of blocks below B alone. -/
def AbidesN {β : Type} (B : Nat) (J : β → World → Prop) : Prop := ∀ s A C row, J s A → A.grownBy C row → (∀ r, row = some r → B ≤ r) → J s C
/-- All cells but block c's lie as they lay. -/
structure KpC (c : Nat) (A C : World) : Prop where
  size : A.heap.size ≤ C.heap.size
  cells : ∀ k o, k ≠ c → A.heap[k]? = some o → o.isCells = true → C.heap[k]? = some o
theorem KpC.refl (c : Nat) (A : World) : KpC c A A := ⟨Nat.le_refl _, fun _ _ _ h _ => h⟩
theorem KpC.trans {c : Nat} {A B C : World} (h : KpC c A B) (k : KpC c B C) : KpC c A C := ⟨Nat.le_trans h.size k.size, fun i o hi ho hc => k.cells i o hi (h.cells i o hi ho hc) hc⟩
theorem KpC.of_below {c : Nat} {A C : World} (h : Below A.heap.size A C) : KpC c A C := ⟨h.size, fun k _ _ ho _ => (h.block k (lt_of_block ho)).trans ho⟩
theorem KpC.set {c : Nat} (A : World) (j : Nat) (v : Value) : KpC c A (A.setCell ⟨c, j, none⟩ v) :=
  ⟨by simp, fun k o hk ho _ => (Below.heap_setCell _ _ _ _ (by simpa using hk)).trans ho⟩
theorem KpC.drew {c : Nat} (A : World) : KpC c A A.drew := ⟨Nat.le_refl _, fun _ _ _ h _ => h⟩
theorem KpC.put {c l : Nat} {A : World} {o : Obj} (o' : Obj) (h : A.heap[l]? = some o) (ho : o.isCells = false) : KpC c A (A.putObj l o') :=
  ⟨by rw [World.putObj_size]; exact Nat.le_refl _, fun k u hk hu hc => by
    have hne : k ≠ l := fun e => by subst e; rw [h] at hu; cases hu; rw [ho] at hc; cases hc
    exact (World.putObj_heap_other (by omega)).trans hu⟩

/-- The iterator's contract. -/
def SeqNew {α : Type} (n : Nat) (P : Program) (g : Nat) (lb : Array Value) (encs : α → Array Value) (c : Nat) (S Sp : List α → Prop) (N : Nat) (w : World) : Prop :=
  ∀ (l : Nat) (J Jx : List α → World → Prop) (W : World), Below w.heap.size w W → AbidesN W.heap.size J → AbidesN W.heap.size Jx →
    (∀ pre x A, J pre A → pre.length < N → YieldAt Fence.wide (n - 1) P l (encs x) A fun e C =>
      (e = .returned (.bool true) ∧ J (pre ++ [x]) C ∧ KpC c A C) ∨ (e = .returned (.bool false) ∧ Jx (pre ++ [x]) C)) → J [] W →
    CallsIn Fence.wide n P g (#[.func (.yield l) #[] #[]] ++ lb) W fun e C => (∃ v, e = .returned v) ∧ ((∃ ys, S ys ∧ J ys C) ∨ ∃ pre, Sp pre ∧ Jx pre C)

/-- How a round's body may be left. -/
def ownPostN {α : Type} (D c : Nat) (I : List α → World → Prop) (Ix : Code → List α → World → Prop) (xs : List α) (W : World) : Exit → Act → World → Prop
  | .normal, _, C => KeepsFrom D W C ∧ KpC c W C ∧ I xs C
  | .ret, _, C => KeepsFrom D W C ∧ Ix .ret xs C
  | .exit id, _, C => KeepsFrom D W C ∧ Ix (.exit id) xs C
  | .goto _, _, _ => False
  | .panic _, _, _ => False
  | .outgrown, _, _ => False

theorem range_new {α : Type} {P : Program} {n : Nat} {g : Operand} {ps : Array Tmp} {assign body : Code} {Q : Exit → Act → World → Prop} {a : Act} {w : World} (h1 : 1 ≤ n) {gf : Nat} {lb : Array Value}
    (hg : a.eval g = .func (.func gf) #[] lb) (eg : ∀ args w, (callFunc gf args).run P w = .ok (.enter gf args) w) {encs : α → Array Value} {c : Nat} {S Sp : List α → Prop} {N : Nat} {w0 : World}
    (hseq : SeqNew (n - 1) P gf lb encs c S Sp N w0) (hb0 : Below w0.heap.size w0 w) (hps : ∀ x, (encs x).size = ps.size)
    (I : List α → World → Prop) (Ix : Code → List α → World → Prop) (hI : AbidesN w.heap.size I) (hIx : ∀ k, AbidesN w.heap.size (Ix k)) (h0 : I [] w)
    (Ax : α → Act → World → Prop) (hAx : ∀ x a', OwnFrom w.heap.size (fun (_ : Unit) W => Ax x a' W))
    (hassign : ∀ (l : Nat) (pre : List α) (x : α) (W : World) (K : Act → World → Prop), I pre W → w.heap.size ≤ W.heap.size → (∀ a' W', KeepsFrom w.heap.size W W' → KpC c W W' → I pre W' → Ax x a' W' → K a' W') →
      assign.wpIn (Fence.wide.inRound l) (n - 1 - 1) P (Exit.then K (fun _ _ _ => False)) { tmps := (ps.zip (encs x)).foldl (fun t (p, v) => t.setIfInBounds p v) a.tmps, defers := [] } W)
    (hbody : ∀ (l : Nat) (pre : List α) (x : α) (a' : Act) (W : World), w.heap.size ≤ W.heap.size → I pre W → Ax x a' W → body.wpIn (Fence.wide.inRound l) (n - 1 - 1) P (ownPostN w.heap.size c I Ix (pre ++ [x]) W) a' W)
    (hdone : ∀ (D : Nat) (xs : List α) (W : World), w.heap.size ≤ D → S xs → I xs W → W.heap[D]? = some (.deferred (some [])) → Q .normal { a with defers := { target := .collected D, args := #[] } :: a.defers } W)
    (hstop : ∀ (D : Nat) (k : Code) (pre : List α) (W : World), w.heap.size ≤ D → Sp pre → Ix k pre W → W.heap[D]? = some (.deferred (some [])) → k.wpIn Fence.wide n P Q { a with defers := { target := .collected D, args := #[] } :: a.defers } W) :
    (Code.rangeFunc g ps assign body).wpIn Fence.wide n P Q a w := by
  refine wpIn_rangeFunc fun fn hfn => ?_
  obtain ⟨rec, hrec⟩ : ∃ rec : LoopState → Option Code → Loop, rec = fun st pe => { state := st, pending := pe, fn, tmps := a.tmps, params := ps, assign, body, defers := w.heap.size } := ⟨_, rfl⟩
  obtain ⟨s, hs⟩ : ∃ s, s = w.heap.size := ⟨_, rfl⟩
  obtain ⟨W1, hW1⟩ : ∃ W1, (w.alloc (.deferred (some []))).alloc (.loop (rec .ready none)) = W1 := ⟨_, rfl⟩
  have hL1 : W1.heap[s + 1]? = some (.loop (rec .ready none)) := by
    have h := World.alloc_heap_new (w.alloc (.deferred (some []))) (.loop (rec .ready none))
    rw [World.size_alloc, hW1, ← hs] at h
    exact h
  have hK1 : W1.heap[s]? = some (.deferred (some [])) := by
    rw [← hW1, hs]; exact (Below.heap_alloc _ _ _ (by simp)).trans (World.alloc_heap_new w _)
  have hb1 : Below w.heap.size w W1 := by rw [← hW1]; exact ((Below.refl _ w).alloc (Nat.le_refl _) _).alloc (by simp) _
  have hz1 : W1.heap.size = s + 2 := by rw [← hW1, hs]; simp
  have hI1 : I [] W1 := hI [] w W1 none h0 ⟨hb1.os, hb1.tape, hb1.output, hb1.size, fun k hk _ => hb1.block k hk⟩ (fun r e => by cases e)
  -- the rounds' words, with the two blocks of book-keeping beside them
  obtain ⟨J, hJ⟩ : ∃ J : List α → World → Prop, J = fun pre W => I pre W ∧ W.heap[s + 1]? = some (.loop (rec .ready none)) ∧ W.heap[s]? = some (.deferred (some [])) ∧ s ≤ W.heap.size := ⟨_, rfl⟩
  obtain ⟨Jx, hJx⟩ : ∃ Jx : List α → World → Prop, Jx = fun pre W => ∃ k, Ix k pre W ∧ W.heap[s + 1]? = some (.loop (rec .done (some k))) ∧ W.heap[s]? = some (.deferred (some [])) := ⟨_, rfl⟩
  have other : ∀ {A B : World} {k : Nat} {o : Obj} {row : Option Nat}, A.grownBy B row → (∀ r, row = some r → W1.heap.size ≤ r) → k ≤ s + 1 → A.heap[k]? = some o → B.heap[k]? = some o := fun hg' hr hk h =>
    (hg'.block _ (Array.getElem?_eq_some_iff.1 h).1 (fun e => by have := hr _ e.symm; omega)).trans h
  have hput : ∀ {A : World} (o' : Obj), A.grownBy (A.putObj (s + 1) o') (some (s + 1)) ∧ ∀ r, some (s + 1) = some r → w.heap.size ≤ r := fun o' =>
    ⟨grownBy_putObj' _ _ _, fun r e => by cases e; omega⟩
  have hend : ∀ (jump : Option Code) (A : World), A.heap[s + 1]? = some (.loop { rec .ready none with state := .busy }) →
      (Instr.endRound (s + 1) jump).run P A = .ok (.bool jump.isNone) (A.putObj (s + 1) (.loop (rec (if jump.isNone then .ready else .done) jump))) := fun jump A h => by
    have := run_endRound (P := P) jump h
    rw [hrec] at this ⊢
    exact this
  refine ⟨s + 1, [{ target := .collected s, args := #[] }], W1, { target := .fn (.func gf) lb, args := #[.func (.yield (s + 1)) #[] #[]] }, W1, gf, #[.func (.yield (s + 1)) #[] #[]] ++ lb, W1, ?_, ?_, fun _ _ => trivial, ?_, fun _ => h1, ?_⟩
  · rw [← hW1, hrec, hs]; exact run_enterLoop_outer _ _ _ _ _
  · simp only [resolve, hg]
    simp [go_sem]
  · simp [invoke, go_sem, eg]
  · refine (hseq (s + 1) J Jx W1 (hb0.trans (hb1.mono hb0.size)) (fun pre A B row h hg' hr => ?_) (fun pre A B row h hg' hr => ?_) (fun pre x A hj _ => ?_) ?_).mono ?_
    · rw [hJ] at h ⊢
      exact ⟨hI pre A B _ h.1 hg' (fun r e => by have := hr r e; omega), other hg' hr (Nat.le_refl _) h.2.1, other hg' hr (by omega) h.2.2.1, Nat.le_trans h.2.2.2 hg'.size⟩
    · rw [hJx] at h ⊢
      obtain ⟨k, h1, h2, h3⟩ := h
      exact ⟨k, hIx k pre A B _ h1 hg' (fun r e => by have := hr r e; omega), other hg' hr (Nat.le_refl _) h2, other hg' hr (by omega) h3⟩
    · rw [hJ] at hj
      obtain ⟨hi, hl, hk, hsz⟩ := hj
      have hy := run_yield (P := P) (args := encs x) hl (by rw [hrec]; exact hps x)
      rw [hrec] at hy
      refine ⟨fn, _, assign, body, hy, roundIn_of_wpIn hfn (hassign _ pre x A _ hi (by omega) ?_)⟩
      clear hy
      intro a' Wa hkf hkp hia hax
      have hla := hkf.same _ _ (by omega) hl rfl
      have hka := hkf.same _ _ (by omega) hk rfl
      have hlt : s + 1 < Wa.heap.size := (Array.getElem?_eq_some_iff.1 hla).1
      refine ⟨_, run_beginRound hla (by rw [hrec]), ?_⟩
      have hl2 : (Wa.putObj (s + 1) (.loop { rec .ready none with state := .busy })).heap[s + 1]? = some (.loop { rec .ready none with state := .busy }) := World.putObj_heap_same hlt
      have hk2 : (Wa.putObj (s + 1) (.loop { rec .ready none with state := .busy })).heap[s]? = some (.deferred (some [])) := (World.putObj_heap_other (by omega)).trans hka
      have hp2 : KpC c Wa (Wa.putObj (s + 1) (.loop { rec .ready none with state := .busy })) := KpC.put _ hla rfl
      have hsz2 : s ≤ (Wa.putObj (s + 1) (.loop { rec .ready none with state := .busy })).heap.size := by rw [World.putObj_size]; omega
      refine wpIn_mono (hbody _ pre x a' _ (by rw [World.putObj_size]; omega) (hI _ _ _ _ hia (hput _).1 (hput (A := Wa) (.loop { rec .ready none with state := .busy })).2) ((hAx x a').putObj (s := ()) _ hax (by omega) hla rfl)) ?_
      rintro e a3 A3 hp
      cases e with
      | normal =>
        obtain ⟨p1, p2, p3⟩ := hp
        have hl3 := p1.same _ _ (by omega) hl2 rfl
        have hlt3 : s + 1 < A3.heap.size := (Array.getElem?_eq_some_iff.1 hl3).1
        refine ⟨_, _, hend none A3 hl3, .inl ⟨rfl, ?_, hkp.trans (hp2.trans (p2.trans (KpC.put _ hl3 rfl)))⟩⟩
        rw [hJ]
        exact ⟨hI _ _ _ _ p3 (hput _).1 (hput (A := A3) (.loop (rec .ready none))).2, World.putObj_heap_same hlt3, (World.putObj_heap_other (by omega)).trans (p1.same _ _ (by omega) hk2 rfl), by rw [World.putObj_size]; omega⟩
      | ret =>
        obtain ⟨p1, p3⟩ := hp
        have hl3 := p1.same _ _ (by omega) hl2 rfl
        have hlt3 : s + 1 < A3.heap.size := (Array.getElem?_eq_some_iff.1 hl3).1
        refine ⟨_, _, hend (some .ret) A3 hl3, .inr ⟨rfl, ?_⟩⟩
        rw [hJx]
        exact ⟨.ret, hIx _ _ _ _ _ p3 (hput _).1 (hput (A := A3) (.loop (rec .done (some .ret)))).2, World.putObj_heap_same hlt3, (World.putObj_heap_other (by omega)).trans (p1.same _ _ (by omega) hk2 rfl)⟩
      | exit k =>
        obtain ⟨p1, p3⟩ := hp
        have hl3 := p1.same _ _ (by omega) hl2 rfl
        have hlt3 : s + 1 < A3.heap.size := (Array.getElem?_eq_some_iff.1 hl3).1
        refine ⟨_, _, hend (some (.exit k)) A3 hl3, .inr ⟨rfl, ?_⟩⟩
        rw [hJx]
        exact ⟨.exit k, hIx _ _ _ _ _ p3 (hput _).1 (hput (A := A3) (.loop (rec .done (some (.exit k))))).2, World.putObj_heap_same hlt3, (World.putObj_heap_other (by omega)).trans (p1.same _ _ (by omega) hk2 rfl)⟩
      | goto t => exact hp.elim
      | panic ch => exact hp.elim
      | outgrown => exact hp.elim
    · rw [hJ]; exact ⟨hI1, hL1, hK1, by omega⟩
    · rintro e A ⟨⟨v, rfl⟩, (⟨ys, hS, hx⟩ | ⟨pre, hSp, hx⟩)⟩
      · rw [hJ] at hx
        obtain ⟨hi, hl, hk, _⟩ := hx
        have he : (Instr.endLoop (s + 1)).run P A = .ok none (A.putObj (s + 1) (.loop (rec .exhausted none))) := by
          have := run_endLoop (P := P) hl (by rw [hrec]; simp)
          rw [hrec] at this ⊢
          exact this
        refine ⟨none, _, he, ?_⟩
        exact hdone s ys _ (by omega) hS (hI _ _ _ _ hi (hput _).1 (fun r e => (hput (A := A) default).2 r e)) ((World.putObj_heap_other (by omega)).trans hk)
      · rw [hJx] at hx
        obtain ⟨k, hi, hl, hk⟩ := hx
        have he : (Instr.endLoop (s + 1)).run P A = .ok (some k) (A.putObj (s + 1) (.loop (rec .exhausted (some k)))) := by
          have := run_endLoop (P := P) hl (by rw [hrec]; simp)
          rw [hrec] at this ⊢
          exact this
        refine ⟨some k, _, he, ?_⟩
        exact hstop s k pre _ (by omega) hSp (hIx _ _ _ _ _ hi (hput _).1 (fun r e => (hput (A := A) default).2 r e)) ((World.putObj_heap_other (by omega)).trans hk)
theorem cells_of_cell {w : World} {a : Addr} {v : Value} (h : w.cell? a = some v) : ∃ o, w.heap[a.block]? = some o ∧ o.isCells = true := by
  unfold World.cell? at h
  cases hb : w.heap[a.block]? with
  | none => rw [hb] at h; simp at h
  | some o =>
    refine ⟨o, rfl, ?_⟩
    rw [hb] at h
    cases o <;> first | rfl | (simp at h)

/-- All cells below B, but block c's, lie as they lay. -/
structure KpB (B c : Nat) (A C : World) : Prop where
  size : A.heap.size ≤ C.heap.size
  cells : ∀ k o, k < B → k ≠ c → A.heap[k]? = some o → o.isCells = true → C.heap[k]? = some o
theorem KpB.refl (B c : Nat) (A : World) : KpB B c A A := ⟨Nat.le_refl _, fun _ _ _ _ h _ => h⟩
theorem KpB.kp {B c : Nat} {A C D : World} (h : KpB B c A C) (k : KpC c C D) : KpB B c A D := ⟨Nat.le_trans h.size k.size, fun i o hB hi ho hc => k.cells i o hi (h.cells i o hB hi ho hc) hc⟩
theorem KpB.next {B c : Nat} {A C D : World} (h : KpB B c A C) (k : Below C.heap.size C D) : KpB B c A D := h.kp (KpC.of_below k)
theorem KpB.set {B c D : Nat} {A C : World} (h : KpB B c A C) (hD : B ≤ D) (j : Nat) (v : Value) : KpB B c A (C.setCell ⟨D, j, none⟩ v) :=
  ⟨by simpa using h.size, fun k o hB hk ho hc => (Below.heap_setCell _ _ _ _ (by show k ≠ D; omega)).trans (h.cells k o hB hk ho hc)⟩
theorem KpB.drewN {B c : Nat} {A C : World} (h : KpB B c A C) (n : Nat) : KpB B c A (C.drewN n) := ⟨h.size, h.cells⟩
theorem KpB.cell {B c k o : Nat} {A C : World} {v : Value} (h : KpB B c A C) (hB : k < B) (hc : k ≠ c) (hv : A.cell? ⟨k, o, none⟩ = some v) : C.cell? ⟨k, o, none⟩ = some v := by
  obtain ⟨u, hu, hcu⟩ := cells_of_cell hv
  exact (World.cell?_of_block (a := ⟨k, o, none⟩) ((h.cells k u hB hc hu hcu).trans hu.symm)).trans hv
theorem grown_drewN (A : World) (n : Nat) : A.grownBy (A.drewN n) none := ⟨rfl, rfl, rfl, Nat.le_refl _, fun _ _ _ => rfl⟩
theorem Box2.kc {A C : World} {c B : Nat} {t : TypeId} {u v : Value} (h : Box2 A B t u v) (hk : KpC c A C) (hc : B ≠ c) : Box2 C B t u v := hk.cells B _ hc h rfl
theorem Box2.drewN {A : World} {B : Nat} {t : TypeId} {u v : Value} (h : Box2 A B t u v) (n : Nat) : Box2 (A.drewN n) B t u v := h

end Go.Proofs.Ytdjpnlkhdilakaa.gn
