/- For any seat: a range over an iterator that keeps its state in a box of its own, whose rounds come in a known row; the last one leaves the loop. -/
import Derived.Test.YtmaohncddjhgeaaGreatMGen
import Derived.RangeFuncNested
import Derived.RangeFuncBound
import Derived.RangeFuncCalls
import Derived.RangeFuncLeaves
import Derived.Shelf.Abstract
import Derived.Shelf.RegionOpen
import Derived.OwnWalkIn
import Derived.TacticsInMore
import Derived.LoopNIn
import Derived.LoopIn
section
namespace Go.Proofs.YtmaohncddjhgeaaGreat.gn
open Go.RowKit Go.Shelf

/-- What the rounds' word stands against: new blocks, and block b. -/
def Abides1 (b : Nat) (J : World → Prop) : Prop := ∀ A B, J A → A.grownBy B (some b) → J B

/-- The iterator's contract: N rounds that go on, and one that does not. -/
def SeqBox (n : Nat) (P : Program) (g : Nat) (lb : Array Value) (b : Nat) (encs : Nat → Array Value) (N : Nat) (w : World) : Prop :=
  ∀ (l : Nat) (J : Nat → World → Prop) (Jx : World → Prop) (W : World), W.heap[b]? = w.heap[b]? → (∀ i, Abides1 b (J i)) → Abides1 b Jx →
    (∀ i A, i < N → J i A → YieldAt Fence.wide (n - 1) P l (encs i) A fun e B => e = .returned (.bool true) ∧ J (i + 1) B ∧ B.heap[b]? = A.heap[b]?) →
    (∀ A, J N A → YieldAt Fence.wide (n - 1) P l (encs N) A fun e B => e = .returned (.bool false) ∧ Jx B) → J 0 W →
    CallsIn Fence.wide n P g (#[.func (.yield l) #[] #[]] ++ lb) W fun e B => (∃ v, e = .returned v) ∧ Jx B

/-- How a round's body may be left. -/
def goesOn (D b : Nat) (I : World → Prop) (W : World) : Exit → Act → World → Prop
  | .normal, _, B => KeepsFrom D W B ∧ B.heap[b]? = W.heap[b]? ∧ I B
  | _, _, _ => False
def leavesBy (D : Nat) (id : Nat) (I : World → Prop) (W : World) : Exit → Act → World → Prop
  | .exit k, _, B => k = id ∧ KeepsFrom D W B ∧ I B
  | _, _, _ => False

theorem range_box {P : Program} {n : Nat} {g : Operand} {ps : Array Tmp} {assign body : Code} {Q : Exit → Act → World → Prop} {a : Act} {w : World} (h1 : 1 ≤ n) {gf : Nat} {lb : Array Value}
    (hg : a.eval g = .func (.func gf) #[] lb) (eg : ∀ args w, (callFunc gf args).run P w = .ok (.enter gf args) w) {b : Nat} {encs : Nat → Array Value} {N : Nat}
    (hseq : SeqBox (n - 1) P gf lb b encs N w) (hb : b < w.heap.size) (hps : ∀ i, (encs i).size = ps.size)
    (I : Nat → World → Prop) (Ix : World → Prop) (id : Nat)
    (hI : ∀ i A B row, I i A → A.grownBy B row → (∀ r, row = some r → r = b ∨ (w.heap.size ≤ r ∧ ∃ o, A.heap[r]? = some o ∧ o.isCells = false)) → I i B)
    (hIx : ∀ A B row, Ix A → A.grownBy B row → (∀ r, row = some r → r = b ∨ (w.heap.size ≤ r ∧ ∃ o, A.heap[r]? = some o ∧ o.isCells = false)) → Ix B)
    (h0 : I 0 w) (a₁ : Nat → Act)
    (hassign : ∀ (l i : Nat) (W : World) (K : Act → World → Prop), K (a₁ i) W →
      assign.wpIn (Fence.wide.inRound l) (n - 1 - 1) P (Exit.then K (fun _ _ _ => False)) { tmps := (ps.zip (encs i)).foldl (fun t (p, v) => t.setIfInBounds p v) a.tmps, defers := [] } W)
    (hbody : ∀ (l i : Nat) (W : World), i < N → I i W → b < W.heap.size → body.wpIn (Fence.wide.inRound l) (n - 1 - 1) P (goesOn w.heap.size b (I (i + 1)) W) (a₁ i) W)
    (hlast : ∀ (l : Nat) (W : World), I N W → body.wpIn (Fence.wide.inRound l) (n - 1 - 1) P (leavesBy w.heap.size id Ix W) (a₁ N) W)
    (hstop : ∀ (D : Nat) (W : World), w.heap.size ≤ D → Ix W → W.heap[D]? = some (.deferred (some [])) → (Code.exit id).wpIn Fence.wide n P Q { a with defers := { target := .collected D, args := #[] } :: a.defers } W) :
    (Code.rangeFunc g ps assign body).wpIn Fence.wide n P Q a w := by
  refine wpIn_rangeFunc fun fn hfn => ?_
  obtain ⟨rec, hrec⟩ : ∃ rec : LoopState → Option Code → Loop, rec = fun st pe => { state := st, pending := pe, fn, tmps := a.tmps, params := ps, assign, body, defers := w.heap.size } := ⟨_, rfl⟩
  obtain ⟨s, hs⟩ : ∃ s, s = w.heap.size := ⟨_, rfl⟩
  obtain ⟨W1, hW1⟩ : ∃ W1, (w.alloc (.deferred (some []))).alloc (.loop (rec .ready none)) = W1 := ⟨_, rfl⟩
  have hL1 : W1.heap[s + 1]? = some (.loop (rec .ready none)) := by
    have h := World.alloc_heap_new (w.alloc (.deferred (some []))) (.loop (rec .ready none))
    rw [World.size_alloc, hW1, ← hs] at h
    exact h
  have hK1 : W1.heap[s]? = some (.deferred (some [])) := by
    rw [← hW1, hs]; exact (Below.heap_alloc _ _ _ (by simp)).trans (World.alloc_heap_new w _)
  have hb1 : Below w.heap.size w W1 := by rw [← hW1]; exact ((Below.refl _ w).alloc (Nat.le_refl _) _).alloc (by simp) _
  have hI1 : I 0 W1 := hI 0 w W1 none h0 ⟨hb1.os, hb1.tape, hb1.output, hb1.size, fun k hk _ => hb1.block k hk⟩ (fun r e => by cases e)
  -- the rounds' words, with the two blocks of book-keeping beside them
  obtain ⟨J, hJ⟩ : ∃ J : Nat → World → Prop, J = fun i W => I i W ∧ W.heap[s + 1]? = some (.loop (rec .ready none)) ∧ W.heap[s]? = some (.deferred (some [])) ∧ b < W.heap.size := ⟨_, rfl⟩
  obtain ⟨Jx, hJx⟩ : ∃ Jx : World → Prop, Jx = fun W => Ix W ∧ W.heap[s + 1]? = some (.loop (rec .done (some (.exit id)))) ∧ W.heap[s]? = some (.deferred (some [])) := ⟨_, rfl⟩
  have other : ∀ {A B : World} {k : Nat} {o : Obj}, A.grownBy B (some b) → s ≤ k → A.heap[k]? = some o → B.heap[k]? = some o := fun hg' hk h =>
    (hg'.block _ (Array.getElem?_eq_some_iff.1 h).1 (fun e => by cases e; omega)).trans h
  have only : ∀ {A : World}, ∀ r, some b = some r → r = b ∨ (w.heap.size ≤ r ∧ ∃ o, A.heap[r]? = some o ∧ o.isCells = false) := fun r e => by cases e; exact .inl rfl
  have hput : ∀ {A : World} {o o' : Obj}, A.heap[s + 1]? = some o → o.isCells = false → A.grownBy (A.putObj (s + 1) o') (some (s + 1)) ∧ ∀ r, some (s + 1) = some r → r = b ∨ (w.heap.size ≤ r ∧ ∃ o, A.heap[r]? = some o ∧ o.isCells = false) := fun h ho =>
    ⟨grownBy_putObj' _ _ _, fun r e => by cases e; exact .inr ⟨by omega, _, h, ho⟩⟩
  have hround : ∀ (i : Nat) (A : World) (R : Ending → World → Prop), J i A →
      (∀ A2, I i A2 → A2.heap[s + 1]? = some (.loop { rec .ready none with state := .busy }) → A2.heap[s]? = some (.deferred (some [])) → A2.heap[b]? = A.heap[b]? → A2.heap.size = A.heap.size →
        body.wpIn (Fence.wide.inRound (s + 1)) (n - 1 - 1) P (roundPost P (s + 1) R) (a₁ i) A2) →
      YieldAt Fence.wide (n - 1 - 1) P (s + 1) (encs i) A R := by
    intro i A R hj hbd
    rw [hJ] at hj
    obtain ⟨hi, hl, hk, hbs⟩ := hj
    have hlt : s + 1 < A.heap.size := (Array.getElem?_eq_some_iff.1 hl).1
    have hy := run_yield (P := P) (args := encs i) hl (by rw [hrec]; exact hps i)
    rw [hrec] at hy
    refine ⟨fn, _, assign, body, hy, roundIn_of_wpIn hfn (hassign _ i A _ ⟨_, run_beginRound hl (by rw [hrec]), ?_⟩)⟩
    obtain ⟨g1, g2⟩ := hput (o' := .loop { rec .ready none with state := .busy }) hl rfl
    exact hbd _ (hI i A _ _ hi g1 g2) (World.putObj_heap_same hlt) ((World.putObj_heap_other (by omega)).trans hk) (World.putObj_heap_other (by omega)) World.putObj_size
  have hend : ∀ (jump : Option Code) (A : World), A.heap[s + 1]? = some (.loop { rec .ready none with state := .busy }) →
      (Instr.endRound (s + 1) jump).run P A = .ok (.bool jump.isNone) (A.putObj (s + 1) (.loop (rec (if jump.isNone then .ready else .done) jump))) := fun jump A h => by
    have := run_endRound (P := P) jump h
    rw [hrec] at this ⊢
    exact this
  refine ⟨s + 1, [{ target := .collected s, args := #[] }], W1, { target := .fn (.func gf) lb, args := #[.func (.yield (s + 1)) #[] #[]] }, W1, gf, #[.func (.yield (s + 1)) #[] #[]] ++ lb, W1, ?_, ?_, fun _ _ => trivial, ?_, fun _ => h1, ?_⟩
  · rw [← hW1, hrec, hs]; exact run_enterLoop_outer _ _ _ _ _
  · simp only [resolve, hg]
    simp [go_sem]
  · simp [invoke, go_sem, eg]
  · refine (hseq (s + 1) J Jx W1 (hb1.block b hb) (fun i A B h hg' => ?_) (fun A B h hg' => ?_) (fun i A hlt hj => ?_) (fun A hj => ?_) ?_).mono ?_
    · rw [hJ] at h ⊢
      exact ⟨hI i A B _ h.1 hg' only, other hg' (by omega) h.2.1, other hg' (Nat.le_refl _) h.2.2.1, Nat.lt_of_lt_of_le h.2.2.2 hg'.size⟩
    · rw [hJx] at h ⊢
      exact ⟨hIx A B _ h.1 hg' only, other hg' (by omega) h.2.1, other hg' (Nat.le_refl _) h.2.2⟩
    · refine hround i A _ hj fun A2 hi2 hl2 hk2 hb2 hs2 => wpIn_mono (hbody _ i A2 hlt hi2 (by rw [hs2]; rw [hJ] at hj; exact hj.2.2.2)) ?_
      rintro e a3 A3 hp
      cases e with
      | normal =>
        obtain ⟨p1, p2, p3⟩ := hp
        have hl3 := p1.same _ _ (by omega) hl2 rfl
        have hlt3 : s + 1 < A3.heap.size := (Array.getElem?_eq_some_iff.1 hl3).1
        obtain ⟨g1, g2⟩ := hput (o' := .loop (rec .ready none)) hl3 rfl
        refine ⟨_, _, hend none A3 hl3, rfl, ?_, (World.putObj_heap_other (by omega)).trans (p2.trans hb2)⟩
        rw [hJ]
        refine ⟨hI _ A3 _ _ p3 g1 g2, World.putObj_heap_same hlt3, (World.putObj_heap_other (by omega)).trans (p1.same _ _ (by omega) hk2 rfl), ?_⟩
        rw [hJ] at hj
        rw [World.putObj_size]
        exact Nat.lt_of_lt_of_le (by rw [hs2]; exact hj.2.2.2) p1.size
      | ret => exact hp.elim
      | exit k => exact hp.elim
      | goto t => exact hp.elim
      | panic ch => exact hp.elim
      | outgrown => exact hp.elim
    · refine hround N A _ hj fun A2 hi2 hl2 hk2 hb2 hs2 => wpIn_mono (hlast _ A2 hi2) ?_
      rintro e a3 A3 hp
      cases e with
      | exit k =>
        obtain ⟨rfl, p1, p3⟩ := hp
        have hl3 := p1.same _ _ (by omega) hl2 rfl
        have hlt3 : s + 1 < A3.heap.size := (Array.getElem?_eq_some_iff.1 hl3).1
        obtain ⟨g1, g2⟩ := hput (o' := .loop (rec .done (some (.exit k)))) hl3 rfl
        refine ⟨_, _, hend (some (.exit k)) A3 hl3, rfl, ?_⟩
        rw [hJx]
        exact ⟨hIx A3 _ _ p3 g1 g2, World.putObj_heap_same hlt3, (World.putObj_heap_other (by omega)).trans (p1.same _ _ (by omega) hk2 rfl)⟩
      | normal => exact hp.elim
      | ret => exact hp.elim
      | goto t => exact hp.elim
      | panic ch => exact hp.elim
      | outgrown => exact hp.elim
    · rw [hJ]; exact ⟨hI1, hL1, hK1, Nat.lt_of_lt_of_le hb hb1.size⟩
    · rintro e A ⟨⟨v, rfl⟩, hx⟩
      rw [hJx] at hx
      obtain ⟨hi, hl, hk⟩ := hx
      obtain ⟨g1, g2⟩ := hput (o' := .loop (rec .exhausted (some (.exit id)))) hl rfl
      refine ⟨some (.exit id), _, ?_, hstop s _ (by omega) (hIx A _ _ hi g1 g2) ((World.putObj_heap_other (by omega)).trans hk)⟩
      have := run_endLoop (P := P) hl (by rw [hrec]; simp)
      rw [hrec] at this ⊢
      exact this
end Go.Proofs.YtmaohncddjhgeaaGreat.gn
end
