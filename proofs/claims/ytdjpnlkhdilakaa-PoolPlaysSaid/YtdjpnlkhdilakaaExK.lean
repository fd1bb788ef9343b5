/- For any seat: a range over an iterator whose rounds keep what a relation tells; the relation for a body that appends to a captured row. -/
import Derived.Test.YtdjpnlkhdilakaaExD
set_option linter.unusedVariables false
set_option maxRecDepth 100000
namespace Go.Proofs.Ytdjpnlkhdilakaa.gn
open Go.RowKit Go.Shelf

structure Keep (K : World → World → Prop) : Prop where
  refl : ∀ A, K A A
  trans : ∀ A B C, K A B → K B C → K A C
  put : ∀ A l o o', A.heap[l]? = some o → o.isCells = false → o'.isCells = false → K A (A.putObj l o')

/-- It speaks of no block from B to E. -/
def AbidesR {β : Type} (B E : Nat) (J : β → World → Prop) : Prop := ∀ s A C row, J s A → A.grownBy C row → (∀ r, row = some r → B ≤ r ∧ r ≤ E) → J s C
/-- The iterator's contract. -/
def SeqK {α : Type} (n : Nat) (P : Program) (g : Nat) (lb : Array Value) (encs : α → Array Value) (Kp : World → World → Prop) (S Sp : List α → Prop) (N : Nat) (w : World) : Prop :=
  ∀ (l : Nat) (J Jx : List α → World → Prop) (W : World), Below w.heap.size w W → AbidesR W.heap.size W.heap.size J → AbidesR W.heap.size W.heap.size Jx →
    (∀ pre x A, J pre A → pre.length < N → W.heap.size < A.heap.size → YieldAt Fence.wide (n - 1) P l (encs x) A fun e C =>
      (e = .returned (.bool true) ∧ J (pre ++ [x]) C ∧ Kp A C) ∨ (e = .returned (.bool false) ∧ Jx (pre ++ [x]) C)) → J [] W →
    CallsIn Fence.wide n P g (#[.func (.yield l) #[] #[]] ++ lb) W fun e C => (∃ v, e = .returned v) ∧ ((∃ ys, S ys ∧ J ys C) ∨ ∃ pre, Sp pre ∧ Jx pre C)

/-- How a round's body may be left. -/
def ownPostK {α : Type} (D : Nat) (Kp : World → World → Prop) (I : List α → World → Prop) (Ix : Code → List α → World → Prop) (xs : List α) (W : World) : Exit → Act → World → Prop
  | .normal, _, C => KeepsFrom D W C ∧ Kp W C ∧ I xs C
  | .ret, _, C => KeepsFrom D W C ∧ Ix .ret xs C
  | .exit id, _, C => KeepsFrom D W C ∧ Ix (.exit id) xs C
  | .goto _, _, _ => False
  | .panic _, _, _ => False
  | .outgrown, _, _ => False

theorem range_k {α : Type} {P : Program} {n : Nat} {g : Operand} {ps : Array Tmp} {assign body : Code} {Q : Exit → Act → World → Prop} {a : Act} {w : World} (h1 : 1 ≤ n) {gf : Nat} {lb : Array Value}
    (hg : a.eval g = .func (.func gf) #[] lb) (eg : ∀ args w, (callFunc gf args).run P w = .ok (.enter gf args) w) {encs : α → Array Value} {Kp : World → World → Prop} (HK : Keep Kp) {S Sp : List α → Prop} {N : Nat} {w0 : World}
    (hseq : SeqK (n - 1) P gf lb encs Kp S Sp N w0) (hb0 : Below w0.heap.size w0 w) (hps : ∀ x, (encs x).size = ps.size)
    (I : List α → World → Prop) (Ix : Code → List α → World → Prop) (hI : AbidesR w.heap.size (w.heap.size + 2) I) (hIx : ∀ k, AbidesR w.heap.size (w.heap.size + 2) (Ix k)) (h0 : I [] w)
    (Ax : α → Act → World → Prop) (hAx : ∀ x a', OwnFrom w.heap.size (fun (_ : Unit) W => Ax x a' W))
    (hassign : ∀ (l : Nat) (pre : List α) (x : α) (W : World) (K : Act → World → Prop), I pre W → w.heap.size + 2 < W.heap.size → (∀ a' W', KeepsFrom w.heap.size W W' → Kp W W' → I pre W' → Ax x a' W' → K a' W') →
      assign.wpIn (Fence.wide.inRound l) (n - 1 - 1) P (Exit.then K (fun _ _ _ => False)) { tmps := (ps.zip (encs x)).foldl (fun t (p, v) => t.setIfInBounds p v) a.tmps, defers := [] } W)
    (hbody : ∀ (l : Nat) (pre : List α) (x : α) (a' : Act) (W : World), pre.length < N → w.heap.size + 2 < W.heap.size → I pre W → Ax x a' W → body.wpIn (Fence.wide.inRound l) (n - 1 - 1) P (ownPostK w.heap.size Kp I Ix (pre ++ [x]) W) a' W)
    (hdone : ∀ (D : Nat) (xs : List α) (W : World), w.heap.size ≤ D → S xs → I xs W → W.heap[D]? = some (.deferred (some [])) → Q .normal { a with defers := { target := .collected D, args := #[] } :: a.defers } W)
    (hstop : ∀ (D : Nat) (k : Code) (pre : List α) (W : World), w.heap.size ≤ D → Sp pre → Ix k pre W → W.heap[D]? = some (.deferred (some [])) → k.wpIn Fence.wide n P Q { a with defers := { target := .collected D, args := #[] } :: a.defers } W) :
    (Code.rangeFunc g ps assign body).wpIn Fence.wide n P Q a w := by
  refine wpIn_rangeFunc fun fn hfn => ?_
  obtain ⟨rec, hrec⟩ : ∃ rec : LoopState → Option Code → Loop, rec = fun st pe => { state := st, pending := pe, fn, tmps := a.tmps, params := ps, assign, body, defers := w.heap.size } := ⟨_, rfl⟩
  obtain ⟨s, hs⟩ : ∃ s, s = w.heap.size := ⟨_, rfl⟩
  obtain ⟨W1, hW1⟩ : ∃ W1, (w.alloc (.deferred (some []))).alloc (.loop (rec .ready none)) = W1 := ⟨_, rfl⟩
  have hL1 : W1.heap[s + 1]? = some (.loop (rec .ready none)) := by
    have h := World.alloc_heap_new (w.alloc (.deferred (some []))) (.loop (rec .ready none))
    rw [World.size_alloc, hW1, ← hs] at h
    exact h
  have hK1 : W1.heap[s]? = some (.deferred (some [])) := by
    rw [← hW1, hs]; exact (Below.heap_alloc _ _ _ (by simp)).trans (World.alloc_heap_new w _)
  have hb1 : Below w.heap.size w W1 := by rw [← hW1]; exact ((Below.refl _ w).alloc (Nat.le_refl _) _).alloc (by simp) _
  have hz1 : W1.heap.size = s + 2 := by rw [← hW1, hs]; simp
  have hI1 : I [] W1 := hI [] w W1 none h0 ⟨hb1.os, hb1.tape, hb1.output, hb1.size, fun k hk _ => hb1.block k hk⟩ (fun r e => by cases e)
  -- the rounds' words, with the two blocks of book-keeping beside them
  obtain ⟨J, hJ⟩ : ∃ J : List α → World → Prop, J = fun pre W => I pre W ∧ W.heap[s + 1]? = some (.loop (rec .ready none)) ∧ W.heap[s]? = some (.deferred (some [])) ∧ s ≤ W.heap.size := ⟨_, rfl⟩
  obtain ⟨Jx, hJx⟩ : ∃ Jx : List α → World → Prop, Jx = fun pre W => ∃ k, Ix k pre W ∧ W.heap[s + 1]? = some (.loop (rec .done (some k))) ∧ W.heap[s]? = some (.deferred (some [])) := ⟨_, rfl⟩
  have other : ∀ {A B : World} {k : Nat} {o : Obj} {row : Option Nat}, A.grownBy B row → (∀ r, row = some r → W1.heap.size ≤ r ∧ r ≤ W1.heap.size) → k ≤ s + 1 → A.heap[k]? = some o → B.heap[k]? = some o := fun hg' hr hk h =>
    (hg'.block _ (Array.getElem?_eq_some_iff.1 h).1 (fun e => by have := (hr _ e.symm).1; omega)).trans h
  have hput : ∀ {A : World} (o' : Obj), A.grownBy (A.putObj (s + 1) o') (some (s + 1)) ∧ ∀ r, some (s + 1) = some r → w.heap.size ≤ r ∧ r ≤ w.heap.size + 2 := fun o' =>
    ⟨grownBy_putObj' _ _ _, fun r e => by cases e; omega⟩
  have hend : ∀ (jump : Option Code) (A : World), A.heap[s + 1]? = some (.loop { rec .ready none with state := .busy }) →
      (Instr.endRound (s + 1) jump).run P A = .ok (.bool jump.isNone) (A.putObj (s + 1) (.loop (rec (if jump.isNone then .ready else .done) jump))) := fun jump A h => by
    have := run_endRound (P := P) jump h
    rw [hrec] at this ⊢
    exact this
  refine ⟨s + 1, [{ target := .collected s, args := #[] }], W1, { target := .fn (.func gf) lb, args := #[.func (.yield (s + 1)) #[] #[]] }, W1, gf, #[.func (.yield (s + 1)) #[] #[]] ++ lb, W1, ?_, ?_, fun _ _ => trivial, ?_, fun _ => h1, ?_⟩
  · rw [← hW1, hrec, hs]; exact run_enterLoop_outer _ _ _ _ _
  · simp only [resolve, hg]
    simp [go_sem]
  · simp [invoke, go_sem, eg]
  · refine (hseq (s + 1) J Jx W1 (hb0.trans (hb1.mono hb0.size)) (fun pre A B row h hg' hr => ?_) (fun pre A B row h hg' hr => ?_) (fun pre x A hj hN hAz => ?_) ?_).mono ?_
    · rw [hJ] at h ⊢
      exact ⟨hI pre A B _ h.1 hg' (fun r e => by have := hr r e; have := hz1; omega), other hg' hr (Nat.le_refl _) h.2.1, other hg' hr (by omega) h.2.2.1, Nat.le_trans h.2.2.2 hg'.size⟩
    · rw [hJx] at h ⊢
      obtain ⟨k, h1, h2, h3⟩ := h
      exact ⟨k, hIx k pre A B _ h1 hg' (fun r e => by have := hr r e; have := hz1; omega), other hg' hr (Nat.le_refl _) h2, other hg' hr (by omega) h3⟩
    · rw [hJ] at hj
      obtain ⟨hi, hl, hk, hsz⟩ := hj
      have hy := run_yield (P := P) (args := encs x) hl (by rw [hrec]; exact hps x)
      rw [hrec] at hy
      refine ⟨fn, _, assign, body, hy, roundIn_of_wpIn hfn (hassign _ pre x A _ hi (by omega) ?_)⟩
      clear hy
      intro a' Wa hkf hkp hia hax
      have hla := hkf.same _ _ (by omega) hl rfl
      have hka := hkf.same _ _ (by omega) hk rfl
      have hlt : s + 1 < Wa.heap.size := (Array.getElem?_eq_some_iff.1 hla).1
      refine ⟨_, run_beginRound hla (by rw [hrec]), ?_⟩
      have hl2 : (Wa.putObj (s + 1) (.loop { rec .ready none with state := .busy })).heap[s + 1]? = some (.loop { rec .ready none with state := .busy }) := World.putObj_heap_same hlt
      have hk2 : (Wa.putObj (s + 1) (.loop { rec .ready none with state := .busy })).heap[s]? = some (.deferred (some [])) := (World.putObj_heap_other (by omega)).trans hka
      have hp2 : Kp Wa (Wa.putObj (s + 1) (.loop { rec .ready none with state := .busy })) := HK.put _ _ _ _ hla rfl rfl
      have hsz2 : s ≤ (Wa.putObj (s + 1) (.loop { rec .ready none with state := .busy })).heap.size := by rw [World.putObj_size]; omega
      refine wpIn_mono (hbody _ pre x a' _ hN (by rw [World.putObj_size]; have := hkf.size; omega) (hI _ _ _ _ hia (hput _).1 (hput (A := Wa) (.loop { rec .ready none with state := .busy })).2) ((hAx x a').putObj (s := ()) _ hax (by omega) hla rfl)) ?_
      rintro e a3 A3 hp
      cases e with
      | normal =>
        obtain ⟨p1, p2, p3⟩ := hp
        have hl3 := p1.same _ _ (by omega) hl2 rfl
        have hlt3 : s + 1 < A3.heap.size := (Array.getElem?_eq_some_iff.1 hl3).1
        refine ⟨_, _, hend none A3 hl3, .inl ⟨rfl, ?_, HK.trans _ _ _ hkp (HK.trans _ _ _ hp2 (HK.trans _ _ _ p2 (HK.put _ _ _ _ hl3 rfl rfl)))⟩⟩
        rw [hJ]
        exact ⟨hI _ _ _ _ p3 (hput _).1 (hput (A := A3) (.loop (rec .ready none))).2, World.putObj_heap_same hlt3, (World.putObj_heap_other (by omega)).trans (p1.same _ _ (by omega) hk2 rfl), by rw [World.putObj_size]; omega⟩
      | ret =>
        obtain ⟨p1, p3⟩ := hp
        have hl3 := p1.same _ _ (by omega) hl2 rfl
        have hlt3 : s + 1 < A3.heap.size := (Array.getElem?_eq_some_iff.1 hl3).1
        refine ⟨_, _, hend (some .ret) A3 hl3, .inr ⟨rfl, ?_⟩⟩
        rw [hJx]
        exact ⟨.ret, hIx _ _ _ _ _ p3 (hput _).1 (hput (A := A3) (.loop (rec .done (some .ret)))).2, World.putObj_heap_same hlt3, (World.putObj_heap_other (by omega)).trans (p1.same _ _ (by omega) hk2 rfl)⟩
      | exit k =>
        obtain ⟨p1, p3⟩ := hp
        have hl3 := p1.same _ _ (by omega) hl2 rfl
        have hlt3 : s + 1 < A3.heap.size := (Array.getElem?_eq_some_iff.1 hl3).1
        refine ⟨_, _, hend (some (.exit k)) A3 hl3, .inr ⟨rfl, ?_⟩⟩
        rw [hJx]
        exact ⟨.exit k, hIx _ _ _ _ _ p3 (hput _).1 (hput (A := A3) (.loop (rec .done (some (.exit k))))).2, World.putObj_heap_same hlt3, (World.putObj_heap_other (by omega)).trans (p1.same _ _ (by omega) hk2 rfl)⟩
      | goto t => exact hp.elim
      | panic ch => exact hp.elim
      | outgrown => exact hp.elim
    · rw [hJ]; exact ⟨hI1, hL1, hK1, by omega⟩
    · rintro e A ⟨⟨v, rfl⟩, (⟨ys, hS, hx⟩ | ⟨pre, hSp, hx⟩)⟩
      · rw [hJ] at hx
        obtain ⟨hi, hl, hk, _⟩ := hx
        have he : (Instr.endLoop (s + 1)).run P A = .ok none (A.putObj (s + 1) (.loop (rec .exhausted none))) := by
          have := run_endLoop (P := P) hl (by rw [hrec]; simp)
          rw [hrec] at this ⊢
          exact this
        refine ⟨none, _, he, ?_⟩
        exact hdone s ys _ (by omega) hS (hI _ _ _ _ hi (hput _).1 (fun r e => (hput (A := A) default).2 r e)) ((World.putObj_heap_other (by omega)).trans hk)
      · rw [hJx] at hx
        obtain ⟨k, hi, hl, hk⟩ := hx
        have he : (Instr.endLoop (s + 1)).run P A = .ok (some k) (A.putObj (s + 1) (.loop (rec .exhausted (some k)))) := by
          have := run_endLoop (P := P) hl (by rw [hrec]; simp)
          rw [hrec] at this ⊢
          exact this
        refine ⟨some k, _, he, ?_⟩
        exact hstop s k pre _ (by omega) hSp (hIx _ _ _ _ _ hi (hput _).1 (fun r e => (hput (A := A) default).2 r e)) ((World.putObj_heap_other (by omega)).trans hk)

/-- The row that block c's cell names. -/
def rowOf (c : Nat) (A : World) : Option Nat := match A.cell? ⟨c, 0, none⟩ with | some v => v.ownBlock | none => none
theorem rowOf_eq {c : Nat} {A C : World} (h : C.heap[c]? = A.heap[c]?) : rowOf c C = rowOf c A := by
  unfold rowOf; rw [World.cell?_of_block (a := ⟨c, 0, none⟩) h]
/-- All cells but block c's, and but the row's that it names, lie as they lay. -/
structure KpR (c : Nat) (A C : World) : Prop where
  size : A.heap.size ≤ C.heap.size
  cells : ∀ k o, k ≠ c → some k ≠ rowOf c A → A.heap[k]? = some o → o.isCells = true → C.heap[k]? = some o
  row : rowOf c C = rowOf c A ∨ ∀ r, rowOf c C = some r → A.heap.size ≤ r ∧ r < C.heap.size
theorem KpR.refl (c : Nat) (A : World) : KpR c A A := ⟨Nat.le_refl _, fun _ _ _ _ h _ => h, .inl rfl⟩
theorem KpR.off {c k : Nat} {A C : World} (h : KpR c A C) (hk : some k ≠ rowOf c A) (hlt : k < A.heap.size) : some k ≠ rowOf c C := by
  rcases h.row with e | e
  · rw [e]; exact hk
  · intro h2
    have := (e k h2.symm).1
    omega
theorem KpR.trans {c : Nat} {A B C : World} (h : KpR c A B) (g : KpR c B C) : KpR c A C := by
  refine ⟨Nat.le_trans h.size g.size, fun k o hk hr ho hc => g.cells k o hk (h.off hr (Array.getElem?_eq_some_iff.1 ho).1) (h.cells k o hk hr ho hc) hc, ?_⟩
  rcases g.row with e | e
  · rw [e]
    rcases h.row with e2 | e2
    · exact .inl e2
    · exact .inr fun r hr => ⟨(e2 r hr).1, Nat.lt_of_lt_of_le (e2 r hr).2 g.size⟩
  · exact .inr fun r hr => ⟨Nat.le_trans h.size (e r hr).1, (e r hr).2⟩
theorem KpR.put {c l : Nat} {A : World} {o : Obj} (o' : Obj) (h : A.heap[l]? = some o) (ho : o.isCells = false) (ho' : o'.isCells = false) : KpR c A (A.putObj l o') := by
  have hlt : l < A.heap.size := (Array.getElem?_eq_some_iff.1 h).1
  refine ⟨by rw [World.putObj_size]; exact Nat.le_refl _, fun k u hk _ hu hc => ?_, .inl ?_⟩
  · have hne : k ≠ l := fun e => by subst e; rw [h] at hu; cases hu; rw [ho] at hc; cases hc
    exact (World.putObj_heap_other (by omega)).trans hu
  · by_cases e : c = l
    · subst e
      have nocell : ∀ (W : World) (q : Obj), W.heap[c]? = some q → q.isCells = false → W.cell? ⟨c, 0, none⟩ = none := fun W q hq hf => by
        cases hcell : W.cell? ⟨c, 0, none⟩ with
        | none => rfl
        | some v =>
          obtain ⟨u, hu, hcu⟩ := cells_of_cell hcell
          rw [hq] at hu; cases hu
          rw [hf] at hcu; cases hcu
      unfold rowOf
      rw [nocell _ _ h ho, nocell _ _ (World.putObj_heap_same hlt) ho']
    · exact rowOf_eq (World.putObj_heap_other (by omega))
theorem keepR (c : Nat) : Keep (KpR c) := ⟨KpR.refl c, fun _ _ _ h k => h.trans k, fun _ _ _ o' h1 h2 h3 => KpR.put o' h1 h2 h3⟩
theorem KpR.box2 {c B : Nat} {A C : World} {t : TypeId} {u v : Value} (h : Box2 A B t u v) (hk : KpR c A C) (hc : B ≠ c) (hr : some B ≠ rowOf c A) : Box2 C B t u v := hk.cells B _ hc hr h rfl
theorem KpR.cellsX {c b off : Nat} {A C : World} {l : List ex.X} (h : CellsX A b off l) (hk : KpR c A C) (hc : b ≠ c) (hr : some b ≠ rowOf c A) : CellsX C b off l := fun j hj => by
  have h1 := h j hj
  obtain ⟨u, hu, hcu⟩ := cells_of_cell h1.1
  have e := (hk.cells b u hc hr hu hcu).trans hu.symm
  exact ⟨(World.cell?_of_block (a := ⟨b, off + j * 2, none⟩) e).trans h1.1, (World.cell?_of_block (a := ⟨b, off + j * 2 + 1, none⟩) e).trans h1.2⟩
theorem grownBy_setCell2 (W : World) (b j : Nat) (v : Value) : W.grownBy (W.setCell ⟨b, j, none⟩ v) (some b) :=
  ⟨rfl, rfl, rfl, (KeepsWalks.setCell W _ v).size, fun k _ hk => Below.heap_setCell _ _ _ k (fun e => hk (by rw [e]))⟩
theorem Box2.setA {W : World} {B : Nat} {t : TypeId} {u v : Value} (h : Box2 W B t u v) (a : Value) : Box2 (W.setCell ⟨B, 0, none⟩ a) B t a v := by
  obtain ⟨hlt, hk⟩ := Array.getElem?_eq_some_iff.1 h
  show (W.heap.modify B _)[B]? = _
  rw [Array.getElem?_eq_getElem (by rw [Array.size_modify]; exact hlt), Array.getElem_modify_self, hk]
  rfl
theorem Box2.setB {W : World} {B : Nat} {t : TypeId} {u v : Value} (h : Box2 W B t u v) (b : Value) : Box2 (W.setCell ⟨B, 1, none⟩ b) B t u b := by
  obtain ⟨hlt, hk⟩ := Array.getElem?_eq_some_iff.1 h
  show (W.heap.modify B _)[B]? = _
  rw [Array.getElem?_eq_getElem (by rw [Array.size_modify]; exact hlt), Array.getElem_modify_self, hk]
  rfl
theorem Box2.set2 {W : World} {B : Nat} {t : TypeId} {u v : Value} (h : Box2 W B t u v) (a b : Value) : Box2 ((W.setCell ⟨B, 0, none⟩ a).setCell ⟨B, 1, none⟩ b) B t a b := (h.setA a).setB b
theorem box2_next2 {W W1 : World} {B : Nat} {t : TypeId} {u v : Value} (hb : Below W.heap.size W W1) (h : Box2 W B t u v) : Box2 W1 B t u v := (hb.block B h.lt).trans h
theorem below_grow (w : World) (n : Nat) (os : Array Obj) : Below w.heap.size w (Sort.grow (w.drewN n) os) :=
  ⟨rfl, rfl, rfl, by rw [Sort.size_grow]; exact Nat.le_add_right _ _, fun k hk => Sort.heap_grow_old _ _ hk⟩
/-- What stands in the iterator: its row, and the box of the last one, apart from what a round writes. -/
structure JI (c D : Nat) (v : Value) (s : List ex.X) (A : World) : Prop where
  rd : RdS A v s
  cl : c < A.heap.size
  dl : D < A.heap.size
  dc : D ≠ c
  gc : ∀ g, v.ownBlock = some g → g ≠ c
  dr : some D ≠ rowOf c A
  gr : ∀ g, v.ownBlock = some g → some g ≠ rowOf c A
  rl : ∀ r, rowOf c A = some r → r < A.heap.size
theorem JI.below {c D : Nat} {v : Value} {s : List ex.X} {A C : World} (h : JI c D v s A) (hb : Below A.heap.size A C) : JI c D v s C :=
  have e : rowOf c C = rowOf c A := rowOf_eq (hb.block c h.cl)
  ⟨h.rd.next hb, Nat.lt_of_lt_of_le h.cl hb.size, Nat.lt_of_lt_of_le h.dl hb.size, h.dc, h.gc, by rw [e]; exact h.dr, fun g hg => by rw [e]; exact h.gr g hg, fun r hr => Nat.lt_of_lt_of_le (h.rl r (by rw [← e]; exact hr)) hb.size⟩
theorem JI.kp {c D : Nat} {v : Value} {s : List ex.X} {A C : World} (h : JI c D v s A) (hk : KpR c A C) : JI c D v s C := by
  refine ⟨?_, Nat.lt_of_lt_of_le h.cl hk.size, Nat.lt_of_lt_of_le h.dl hk.size, h.dc, h.gc, hk.off h.dr h.dl, fun g hg => ?_, fun r hr => ?_⟩
  · rcases h.rd with h1 | ⟨b, off, cp, rfl, hb, hc⟩
    · exact .inl h1
    · exact .inr ⟨b, off, cp, rfl, Nat.lt_of_lt_of_le hb hk.size, KpR.cellsX hc hk (h.gc b rfl) (h.gr b rfl)⟩
  · rcases h.rd with ⟨rfl, _⟩ | ⟨b, off, cp, rfl, hb, hc⟩
    · cases hg
    · cases hg
      exact hk.off (h.gr b rfl) hb
  · rcases hk.row with e | e
    · exact Nat.lt_of_lt_of_le (h.rl r (by rw [← e]; exact hr)) hk.size
    · exact (e r hr).2
theorem JI.set {c D : Nat} {v : Value} {s : List ex.X} {A : World} (h : JI c D v s A) (hg : ∀ g, v.ownBlock = some g → g ≠ D) (j : Nat) (u : Value) : JI c D v s (A.setCell ⟨D, j, none⟩ u) := by
  have e : rowOf c (A.setCell ⟨D, j, none⟩ u) = rowOf c A := rowOf_eq (Below.heap_setCell _ _ _ _ (by have := h.dc; simp only; omega))
  refine ⟨?_, by simpa using h.cl, by simpa using h.dl, h.dc, h.gc, by rw [e]; exact h.dr, fun g hg => by rw [e]; exact h.gr g hg, fun r hr => by simpa using h.rl r (by rw [← e]; exact hr)⟩
  rcases h.rd with h1 | ⟨b, off, cp, rfl, hb, hc⟩
  · exact .inl h1
  · have hne := hg b rfl
    have hh : (A.setCell ⟨D, j, none⟩ u).heap[b]? = A.heap[b]? := Below.heap_setCell _ _ _ _ (by simpa using hne)
    exact .inr ⟨b, off, cp, rfl, by simpa using hb, fun i hi => ⟨(World.cell?_of_block (a := ⟨b, off + i * 2, none⟩) hh).trans (hc i hi).1, (World.cell?_of_block (a := ⟨b, off + i * 2 + 1, none⟩) hh).trans (hc i hi).2⟩⟩
end Go.Proofs.Ytdjpnlkhdilakaa.gn
