/- norm: the contract. -/
import Derived.Test.YtdjpnlkhdilakaaExE
import Derived.Maps.OwnIn
set_option linter.unusedVariables false
namespace Go.Proofs.Ytdjpnlkhdilakaa.gn
open Go.RowKit Go.Shelf Go.Sort Go.Lib
open Go.Proofs.Ytdjpnlkhdilakaa.ex

attribute [local go_sem] Oper.semAt_some

theorem extI : ∃ i0, Try.prog.info? 54 = some i0 ∧ i0.zero = some (.agg #[.int .i64 0, .int .i64 0]) ∧ i0.size = 2 ∧ i0.bytes = 16 := by
  have hi := infoExt
  cases hj : Try.prog.info? 54 with
  | none => rw [hj] at hi; cases hi
  | some i0 =>
    rw [hj] at hi
    simp only [Option.map_some, Option.some.injEq, Prod.mk.injEq] at hi
    exact ⟨i0, rfl, hi.1, hi.2.1, hi.2.2⟩
theorem KpR.of_below {c : Nat} {A C : World} (hc : c < A.heap.size) (h : RowKit.Below A.heap.size A C) : KpR c A C :=
  ⟨h.size, fun k o _ _ ho _ => (h.block k (Array.getElem?_eq_some_iff.1 ho).1).trans ho, .inl (rowOf_eq (h.block c hc))⟩
theorem joined_any (p : Option Addr) (n cp : Nat) (w : World) : Calls Try.prog 59 #[.slice p n cp] w fun e w' => e = .returned (.func (.func 66) #[] #[.pointer (some ⟨w.heap.size, 0, none⟩)]) ∧ w' = w.alloc (.cells #[.slice p n cp] 22) := by
  go_enter Try.func59, Try.ntmps59
  go_wp2
  go_ret
  exact ⟨rfl, rfl⟩
theorem rowOf_box {c : Nat} {W : World} {t : TypeId} {v : Value} (h : Boxed W c t v) : rowOf c W = v.ownBlock := by unfold rowOf; rw [h.cell]

/-- How it stands between two rounds. -/
structure NI (w : World) (c lo : Nat) (pre : List X) (W : World) : Prop where
  box : ∃ v, Boxed W c 22 v ∧ OwnX w.heap.size W v pre ∧ ∀ g, v.ownBlock = some g → g < lo ∨ lo + 2 < g
  below : RowKit.Below w.heap.size w W
theorem NI.ab {w : World} {c lo : Nat} {pre : List X} {A C : World} {row : Option Nat} (h : NI w c lo pre A) (hg : A.grownBy C row) (hr : ∀ r, row = some r → lo ≤ r ∧ r ≤ lo + 2) (hc : c < lo) (hw : w.heap.size ≤ lo) (hA : w.heap.size ≤ A.heap.size) : NI w c lo pre C := by
  obtain ⟨v, h1, h2, h3⟩ := h.box
  have hne : v.ownBlock = none ∨ v.ownBlock ≠ row := by
    cases hv : v.ownBlock with
    | none => exact .inl rfl
    | some g =>
      refine .inr fun e => ?_
      have a := h3 g hv
      have b := hr g e.symm
      omega
  exact ⟨⟨v, h1.kept hg (fun e => by have := hr c e.symm; omega), World.ownsRow.kept h2 hg hne, h3⟩, h.below.grown hg hA fun r e => Nat.le_trans hw (hr r e).1⟩

set_option maxRecDepth 100000 in
set_option maxHeartbeats 2000000 in
theorem norm_any {w : World} {v : Value} {l : List X} (h : Rd w v l) (hl : l.length ≤ 4000) (ho : ex.Ok l) (ha : Apart l) :
    Calls Try.prog 44 #[v] w fun e w' => ∃ v', e = .returned v' ∧ OwnX w.heap.size w' v' (nrm l) ∧ RowKit.Below w.heap.size w w' := by
  obtain ⟨p0, cp0, rfl⟩ := h.len
  have hnl : (nrm l).length ≤ 4000 := Nat.le_trans (nrm_of ho ha).len hl
  have HC := Lib.hid (And.intro h (And.intro hl (And.intro ho (And.intro ha hnl))))
  clear h hl ho ha hnl
  refine (callsIn_wide (n := 6)).1 ?_
  refine callsIn_of_wp_marks Try.func44 rfl trivial ?_ rfl
  simp only [Try.ntmps44, List.size_toArray, List.length_cons, List.length_nil, Nat.reduceAdd, Nat.reduceSub, Array.replicate_succ, Array.replicate_zero, List.push_toArray, List.append_toArray, List.nil_append, List.cons_append]
  gi_wp2_with (refine ⟨trivial, ?_⟩; gi_at_call 59; refine (callsIn_wide.2 (joined_any _ _ _ _)).mono ?_; rintro e w' ⟨rfl, rfl⟩)
  have hb0 : RowKit.Below w.heap.size w ((w.alloc (.cells #[.slice none 0 0] 22)).alloc (.cells #[.slice p0 l.length cp0] 22)) := ((Below.refl _ w).alloc (Nat.le_refl _) _).alloc (by simp) _
  have bO := (Boxed.new w 22 (.slice none 0 0)).alloc (.cells #[.slice p0 l.length cp0] 22)
  have bL := Boxed.new (w.alloc (.cells #[.slice none 0 0] 22)) 22 (.slice p0 l.length cp0)
  have hsz : ((w.alloc (.cells #[.slice none 0 0] 22)).alloc (.cells #[.slice p0 l.length cp0] 22)).heap.size = w.heap.size + 2 := by simp
  rw [World.size_alloc] at bL
  obtain ⟨W1, hW1⟩ : ∃ W1, ((w.alloc (.cells #[.slice none 0 0] 22)).alloc (.cells #[.slice p0 l.length cp0] 22)) = W1 := ⟨_, rfl⟩
  rw [hW1] at hb0 bO bL hsz ⊢
  clear hW1
  obtain ⟨h, hl, ho, ha, hnl⟩ := HC.out
  have hseq := joined1_new 5 (by omega) l hl ho ha (w.heap.size + 1) w.heap.size _ W1 bL (h.next hb0) (by omega) (by rw [rowOf_box bO]; rfl)
  have hI0 : NI w w.heap.size W1.heap.size [] W1 := ⟨⟨_, bO, OwnX.nil _ _, fun g hg => by cases hg⟩, hb0⟩
  have HN := Lib.hid hnl
  clear h hl ho ha hnl hb0 bO bL
  obtain ⟨i0, hi0, hi1, hi2, hi3⟩ := extI
  have HI := Lib.hid (And.intro hi0 (And.intro hi1 (And.intro hi2 hi3)))
  clear hi0 hi1 hi2 hi3
  refine range_k (by omega) rfl (enters_of Try.func66 (by kernel_rfl) rfl) (keepR _) hseq (Below.refl _ _) (fun _ => rfl)
    (fun pre W => NI w w.heap.size W1.heap.size pre W ∧ w.heap.size + 2 ≤ W.heap.size) (fun _ _ _ => False) (fun pre A C row hs hg hr => ⟨hs.1.ab hg hr (by omega) (by omega) (by omega), Nat.le_trans hs.2 hg.size⟩) (fun k xs A C row hs hg hr => hs.elim)
    ⟨hI0, by omega⟩
    (fun x a' W => ∃ Bx, W1.heap.size ≤ Bx ∧ Box2 W Bx 54 (.int .i64 x.1) (.int .i64 x.2) ∧ a' = { tmps := #[.slice p0 l.length cp0, undef, .slice none 0 0, .pointer (some ⟨w.heap.size, 0, none⟩), .pointer (some ⟨Bx, 0, none⟩), .slice p0 l.length cp0, .func (.func 66) #[] #[.pointer (some ⟨w.heap.size + 1, 0, none⟩)], .agg #[.int .i64 x.1, .int .i64 x.2], undef, undef, undef, undef, undef], defers := [] })
    (fun x a' _ X Y row hs hg hr => by obtain ⟨Bx, h1, h2, h3⟩ := hs; exact ⟨Bx, h1, box2_own Bx 54 (fun (_ : Unit) => Value.int .i64 x.1) (fun (_ : Unit) => Value.int .i64 x.2) () X Y row h2 hg (fun r e => (hr r e).2), h3⟩)
    ?assign ?body ?done ?stop
  case assign =>
    rintro l0 pre ⟨a, b⟩ W K hI hz hK
    have bX := Box2.new W 54 (.int .i64 a) (.int .i64 b)
    have hb : RowKit.Below W.heap.size W (W.alloc (boxX (a, b))) := (Below.refl _ W).alloc (Nat.le_refl _) _
    have HB := Lib.hid hb
    clear hb hseq
    gi_wp2
    exact hK _ _ ((KeepsOthers.alloc _ _).from _) (KpR.of_below (by omega) HB.out) ⟨hI.1.ab (grown_new HB.out) (fun r e => by cases e) (by omega) (by omega) (by omega), by simp; omega⟩ ⟨W.heap.size, by omega, bX, rfl⟩
  case body =>
    rintro l0 pre ⟨a, b⟩ a' W hlen hz hI ⟨Bx, hBx, bX, rfl⟩
    obtain ⟨⟨⟨v, bO, hown, hlo⟩, hbel⟩, hWs⟩ := hI
    obtain ⟨pv, cv, rfl⟩ := hown.rd.len
    have cX0 := bX.cell0
    have cX1 := bX.cell1
    have lX := bX.lt
    have cO := bO.cell
    have lO := bO.lt
    have HO := Lib.hid (And.intro bO (And.intro hown (And.intro hlo hbel)))
    clear hseq bX bO hown hlo hbel
    gi_wp2_with (gi_at_builtin; go_loud (obtain ⟨bO, hown, hlo, hbel⟩ := HO.out; refine wpListIn_append_own_at _ rfl _ _ 22 rfl w.heap.size 54 i0 (.agg #[.int .i64 0, .int .i64 0]) 2 16 Try.underlying22 HI.out.1 HI.out.2.1 HI.out.2.2.1 HI.out.2.2.2 rfl (by decide) _ pre.length (fl pre) rfl (World.ownsRow.alloc hown _) ⟨W.heap.size, 0, none⟩ 1 1 (encX (a, b)) rfl rfl ?c1 ?c2 ?c3 ?c4 ?c5 ?c6))
    case c1 => intro j u hu; exact hu
    case c2 => intro u hu; simp [encX] at hu; rcases hu with rfl | rfl <;> rfl
    case c3 => unfold maxLen; omega
    case c4 => omega
    case c5 => show w.heap.size ≤ W.heap.size + 1; omega
    case c6 =>
      intro v' w1 hown' hgrow _ hob
      obtain ⟨g', cap', rfl⟩ := ownsRow_succ hown'
      obtain ⟨q1, q2, q3, q4, q5⟩ := bO.appended (by decide) hown (by omega) (Nat.le_refl _) hown' hgrow
      have hlt := (World.ownsRow.lt hown' g' rfl).2
      have hK : KpR w.heap.size W (w1.setCell ⟨w.heap.size, 0, none⟩ (.slice (some ⟨g', 0, none⟩) (pre.length + 1) cap')) := by
        refine ⟨q4.size, fun k o hk hr hko hc => ?_, ?_⟩
        · have hkl : k < W.heap.size := (Array.getElem?_eq_some_iff.1 hko).1
          rw [rowOf_box bO] at hr
          refine (Below.heap_setCell _ _ _ _ hk).trans ((hgrow.block k (by simp; omega) hr).trans ?_)
          exact (Below.heap_alloc _ _ _ hkl).trans hko
        · rw [rowOf_box bO, rowOf_box q2]
          rcases hob with e | e
          · exact .inl e
          · refine .inr fun r hr => ?_
            rw [e] at hr
            cases hr
            cases e
            refine ⟨?_, by simpa using hlt⟩
            show W.heap.size ≤ W.heap.size + 1
            omega
      have hNI : NI w w.heap.size W1.heap.size (pre ++ [(a, b)]) (w1.setCell ⟨w.heap.size, 0, none⟩ (.slice (some ⟨g', 0, none⟩) (pre.length + 1) cap')) := by
        refine ⟨⟨_, q2, ?_, fun g hg => ?_⟩, hbel.trans q5⟩
        · unfold OwnX
          rw [fl_append, List.length_append]
          exact q3
        · rcases hob with e | e
          · exact hlo g (by rw [← e]; exact hg)
          · rw [e] at hg
            cases hg
            show _ ∨ W1.heap.size + 2 < W.heap.size + 1
            omega
      have hsz1 := q4.size
      have c0 := q1.cell
      have f0 := q1.frozen
      have HF := Lib.hid (And.intro hK (And.intro hNI (And.intro q4 hsz1)))
      clear q1 q2 q3 q4 q5 hK hNI hgrow hown' hob bO hown hlo hbel HO hsz1
      gi_wp2
      obtain ⟨hK, hNI, q4, hsz1⟩ := HF.out
      exact ⟨q4.from _, hK, hNI, by simp at hsz1 ⊢; omega⟩
  case done =>
    rintro D ys W hD hys hI hK
    obtain ⟨⟨⟨v, bO, hown, hlo⟩, hbel⟩, hWs⟩ := hI
    obtain ⟨pv, cv, rfl⟩ := hown.rd.len
    have cO := bO.cell
    have lO := bO.lt
    have HO := Lib.hid (And.intro hown hbel)
    have HY := Lib.hid (show ys = nrm l from hys)
    clear hseq bO hown hlo hbel hys
    gi_wp2
    refine ⟨by simp, .inl ⟨_, _, rfl, run_takeDeferred hK, ?_⟩⟩
    refine ⟨.slice pv ys.length cv, by simp [results, Try.results44, go_sem], ?_⟩
    obtain ⟨hown, hbel⟩ := HO.out
    refine ⟨_, rfl, ?_, hbel.trans (belowK_b (w := w) (Nat.le_refl _) _ D _ _ (by omega) hK rfl rfl)⟩
    rw [← HY.out]
    exact ownsRow_putObj hown _ hK rfl
  case stop =>
    rintro D k pre W _ _ h _
    exact h.elim
end Go.Proofs.Ytdjpnlkhdilakaa.gn
