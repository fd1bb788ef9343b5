/- Take: how it stands in a round. -/
import Derived.Test.YtdjpnlkhdilakaaExQ
import Derived.Deep.RegionHeld3
set_option linter.unusedVariables false
set_option maxRecDepth 100000
namespace Go.Proofs.Ytdjpnlkhdilakaa.gn
open Go.RowKit Go.Shelf Go.Sort Go.Lib
open Go.Proofs.Ytdjpnlkhdilakaa.ex

attribute [local go_sem] Oper.semAt_some

/-- How Take stands between two rounds. -/
structure TV (w : World) (D : Nat) (s : St) (v6 v7 : Value) (wr : World) : Prop where
  t : OwnX w.heap.size wr v6 s.took
  r : OwnX w.heap.size wr v7 s.rest
  ne : v6.ownBlock = none ∨ v7.ownBlock ≠ v6.ownBlock
  box : Boxed wr D 2 (.int .i64 s.n)
  below : RowKit.Below w.heap.size w wr
theorem TV.next {w : World} {D : Nat} {s : St} {v6 v7 : Value} {wr W : World} (h : TV w D s v6 v7 wr) (hb : RowKit.Below wr.heap.size wr W) : TV w D s v6 v7 W :=
  ⟨h.t.next hb, h.r.next hb, h.ne, (hb.block D (lt_of_block h.box)).trans h.box, h.below.trans (hb.mono h.below.size)⟩
theorem step_app_own {ops : Array Oper} {o : Oper} {a : Act} {w : World} {K : Act → World → Prop} {Q : Exit → Act → World → Prop} {E : Prop} (hgd : o.guard = none) (s x : Operand)
    (ho : o.op = .call { callee := .builtin .append, args := #[s, x], argTypes := #[22, 22] })
    {base : Nat} {v : Value} {l : List X} (hs : a.eval s = v) (hown : OwnX base w v l) (ad : Addr) (y : X) (hx : a.eval x = .slice (some ad) 1 1) (hc : ∀ j u, (encX y)[j]? = some u → w.cell? (ad.add j) = some u) (hlen : l.length ≤ 8000) (hb : base ≤ w.heap.size)
    (hK : ∀ g c w', OwnX base w' (.slice (some ⟨g, 0, none⟩) (l.length + 1) c) (l ++ [y]) → w.grownBy w' v.ownBlock → (some g = v.ownBlock ∨ g = w.heap.size) → K (a.put o.dst (.slice (some ⟨g, 0, none⟩) (l.length + 1) c)) w') :
    if Region.wanted o (yielded ops a.tmps) = true then Oper.wp Try.prog o a w K Q else E := by
  obtain ⟨i0, hi0, hi1, hi2, hi3⟩ := extI
  have hw : Region.wanted o (yielded ops a.tmps) = true := by simp [Region.wanted, hgd]
  rw [if_pos hw]
  obtain ⟨v', w', hrun, r1, r2, _, r4⟩ := run_append_own_at (P := Try.prog) w base 22 o.type 54 i0 (.agg #[.int .i64 0, .int .i64 0]) 2 16 Try.underlying22 hi0 hi1 hi2 hi3 rfl (by decide) v l.length (fl l) hown ad 1 1 (encX y) rfl hc (by intro u hu; simp [encX] at hu; rcases hu with rfl | rfl <;> rfl) (by unfold maxLen; omega) (by omega) hb
  unfold Oper.wp
  simp [execOp, ho, resolve, invoke, builtin, hs, hx, hrun, Result.andThen]
  obtain ⟨g, c, rfl⟩ := ownsRow_succ r1
  refine hK g c w' ?_ r2 ?_
  · unfold OwnX
    rw [List.length_append, fl_append]
    exact r1
  · rcases r4 with e | e
    · exact .inl e
    · exact .inr (Option.some.inj e)
theorem box_grown {W W' : World} {row : Option Nat} {D : Nat} {t : TypeId} {v : Value} (h : Boxed W D t v) (hg : W.grownBy W' row) (hr : row ≠ some D) : Boxed W' D t v := (hg.block D (lt_of_block h) (fun e => hr e.symm)).trans h
theorem own_box {W : World} {D base : Nat} {v u : Value} {l : List X} (h : OwnX base W v l) (hb : Boxed W D 2 u) : v.ownBlock ≠ some D := by
  intro e
  obtain ⟨_, ⟨rfl, _⟩ | ⟨g, cap, cur, rfl, _, hg, _⟩⟩ := h
  · cases e
  · cases e
    rw [show W.heap[g]? = _ from hb] at hg
    cases hg
/-- Behind the append, and the store. -/
theorem TV.app {w W3 W5 w6 : World} {D : Nat} {s : St} {v6 v7 : Value} {y : X} {g c : Nat} (h : TV w D s v6 v7 W3) (hD : w.heap.size ≤ D) (hb : RowKit.Below W3.heap.size W3 W5)
    (h1 : OwnX w.heap.size w6 (.slice (some ⟨g, 0, none⟩) (s.took.length + 1) c) (s.took ++ [y])) (h2 : W5.grownBy w6 v6.ownBlock) (h3 : some g = v6.ownBlock ∨ g = W5.heap.size) (z : Int) :
    TV w D ⟨s.rest, s.took ++ [y], z⟩ (.slice (some ⟨g, 0, none⟩) (s.took.length + 1) c) v7 (w6.setCell ⟨D, 0, none⟩ (.int .i64 z)) ∧ Boxed w6 D 2 (.int .i64 s.n) := by
  have h5 := h.next hb
  have hbox : Boxed w6 D 2 (.int .i64 s.n) := box_grown h5.box h2 (own_box h5.t h5.box)
  have hr6 : OwnX w.heap.size w6 v7 s.rest := World.ownsRow.kept h5.r h2 (by
    rcases h.ne with e | e
    · rw [e]
      cases hv : v7.ownBlock with
      | none => exact .inl rfl
      | some q => exact .inr (by simp)
    · exact .inr e)
  have hDb : w.heap.size ≤ W5.heap.size := h5.below.size
  have hg7 : v7.ownBlock ≠ some g := by
    rcases h3 with e | e
    · rcases h.ne with e2 | e2
      · rw [e2] at e; cases e
      · rw [e]; exact e2
    · intro e2
      have := (World.ownsRow.lt h5.r g e2).2
      omega
  have grow := grownBy_setCell2 w6 D 0 (.int .i64 z)
  refine ⟨⟨World.ownsRow.kept h1 grow (.inr (own_box h1 hbox)), World.ownsRow.kept hr6 grow (.inr (own_box hr6 hbox)), .inr (by simpa [Value.ownBlock] using hg7), hbox.set _, ?_⟩, hbox⟩
  exact (h5.below.grown h2 hDb fun k hk => (World.ownsRow.lt h5.t k hk).1).setCell (p := ⟨D, 0, none⟩) hD _
/-- Behind shorten. -/
theorem TV.short {w W W' : World} {D : Nat} {s : St} {v6 v7 v8 : Value} {r : List X} {g : Nat} (h : TV w D s v6 v7 W) (h7 : v7.ownBlock = some g) (h1 : OwnX w.heap.size W' v8 r) (h2 : W.grownBy W' (some g)) (h3 : v8.ownBlock = some g) :
    TV w D ⟨r, s.took, s.n⟩ v6 v8 W' := by
  refine ⟨World.ownsRow.kept h.t h2 ?_, h1, ?_, box_grown h.box h2 (by rw [← h7]; exact own_box h.r h.box), h.below.grown h2 h.below.size fun k hk => by cases hk; exact (World.ownsRow.lt h.r g h7).1⟩
  · rcases h.ne with e | e
    · exact .inl e
    · exact .inr (by rw [← h7]; exact fun e2 => e e2.symm)
  · rcases h.ne with e | e
    · exact .inl e
    · exact .inr (by rw [h3, ← h7]; exact e)
end Go.Proofs.Ytdjpnlkhdilakaa.gn
