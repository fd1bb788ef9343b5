/- The first fit in a profile: its contract. -/
import Derived.Test.YtigomdihkojdmaaFtB
namespace Go.Proofs.Ytigomdihkojdmaa.gn
open Go.RowKit Go.Shelf
open Go.Proofs.Ytigomdihkojdmaa.sp

attribute [local go_sem] Oper.semAt_some

theorem IntsB.mono {n m : Nat} {w : World} {v : Value} {l : List Int} (h : IntsB n w v l) (hm : n ≤ m) : IntsB m w v l := by
  obtain ⟨b, o, cap, e, hb, hc⟩ := h
  exact ⟨b, o, cap, e, Nat.lt_of_lt_of_le hb hm, hc⟩
/-- What a search answers. -/
def fitV : Option Int → Value
  | some a => .tuple #[.int .i64 a, .int .i64 0]
  | none => .tuple #[.int .i64 0, .int .i64 7]
theorem wins_pick {L : List (Int × Int)} {f long n : Int} {P : Int × Int → Prop} {pre : List (Wd P)} {x : Wd P} {R : List (Int × Int)} (hw : wins L f n = (pre ++ [x]).map Subtype.val ++ R) (hno : ∀ y ∈ pre, ¬ long ≤ y.1.2 - y.1.1) (hx : long ≤ x.1.2 - x.1.1) : fst? L f long n = some x.1.1 := by
  unfold fst? pick
  rw [hw, List.map_append, List.append_assoc, List.find?_append, List.find?_eq_none.2 (fun y hy => by
    obtain ⟨z, hz, rfl⟩ := List.mem_map.1 hy
    simpa using hno z hz)]
  rw [Option.none_or, List.map_cons, List.map_nil, List.cons_append, List.find?_cons_of_pos (by simpa using hx)]
  rfl
theorem wins_none {L : List (Int × Int)} {f long n : Int} {P : Int × Int → Prop} {ys : List (Wd P)} (hw : ys.map Subtype.val = wins L f n) (hno : ∀ y ∈ ys, ¬ long ≤ y.1.2 - y.1.1) : fst? L f long n = none := by
  unfold fst? pick
  rw [← hw, List.find?_eq_none.2 (fun y hy => by
    obtain ⟨z, hz, rfl⟩ := List.mem_map.1 hy
    simpa using hno z hz)]
  rfl
theorem Boxed.ab {W W' : World} {row : Option Nat} {B M : Nat} {t : TypeId} {v : Value} (h : Boxed W B t v) (hg : W.grownBy W' row) (hr : ∀ r, row = some r → M ≤ r) (hB : B < M) : Boxed W' B t v :=
  Boxed.kept h hg fun e => by have := hr B e.symm; omega
theorem below_ab {N M : Nat} {W0 W W' : World} {row : Option Nat} (h : Below N W0 W) (hg : W.grownBy W' row) (hr : ∀ r, row = some r → M ≤ r) (hN : N ≤ M) (hs : N ≤ W0.heap.size) : Below N W0 W' :=
  h.grown hg (Nat.le_trans hs h.size) fun k e => Nat.le_trans hN (hr k e)

/-- How it stands between two rounds. -/
structure FI (w : World) (long : Int) (pre : List (Wd Tm)) (W : World) : Prop where
  a : Boxed W (w.heap.size + 1 + 1) 2 (.int .i64 0)
  e : Boxed W (w.heap.size + 1 + 1 + 1) 35 (.int .i64 0)
  l : Boxed W (w.heap.size + 1) 2 (.int .i64 long)
  below : Below w.heap.size w W
  no : ∀ y ∈ pre, ¬ long ≤ y.1.2 - y.1.1
/-- And where one has left. -/
structure FX (w : World) (long : Int) (k : Code) (xs : List (Wd Tm)) (W : World) : Prop where
  k : k = .ret
  ex : ∃ pre x, xs = pre ++ [x] ∧ Boxed W (w.heap.size + 1 + 1) 2 (.int .i64 x.1.1) ∧ (∀ y ∈ pre, ¬ long ≤ y.1.2 - y.1.1) ∧ long ≤ x.1.2 - x.1.1
  e : Boxed W (w.heap.size + 1 + 1 + 1) 35 (.int .i64 0)
  below : Below w.heap.size w W
theorem FI.ab {w W W' : World} {long : Int} {pre : List (Wd Tm)} {M : Nat} {row : Option Nat} (h : FI w long pre W) (hg : W.grownBy W' row) (hr : ∀ r, row = some r → M ≤ r) (hM : w.heap.size + 4 ≤ M) : FI w long pre W' :=
  ⟨Boxed.ab h.a hg hr (by omega), Boxed.ab h.e hg hr (by omega), Boxed.ab h.l hg hr (by omega), below_ab h.below hg hr (by omega) (Nat.le_refl _), h.no⟩
theorem FX.ab {w W W' : World} {long : Int} {k : Code} {xs : List (Wd Tm)} {M : Nat} {row : Option Nat} (h : FX w long k xs W) (hg : W.grownBy W' row) (hr : ∀ r, row = some r → M ≤ r) (hM : w.heap.size + 4 ≤ M) : FX w long k xs W' :=
  ⟨h.k, by obtain ⟨pre, x, e, h1, h2⟩ := h.ex; exact ⟨pre, x, e, Boxed.ab h1 hg hr (by omega), h2⟩, Boxed.ab h.e hg hr (by omega), below_ab h.below hg hr (by omega) (Nat.le_refl _)⟩

set_option maxRecDepth 100000 in
set_option maxHeartbeats 1000000 in
theorem first_any {w : World} {v : Value} {L : List (Int × Int)} {f long n : Int} (h : Prof w v (L.map Prod.fst) (L.map Prod.snd)) (hL : Ok L) (hf : 0 ≤ f) (hf2 : f ≤ 8796093022208) :
    Calls Try.prog 21 #[v, .int .i64 f, .int .i64 long, .int .i64 n] w fun e w' => e = .returned (fitV (fst? L f long n)) ∧ Below w.heap.size w w' := by
  obtain ⟨v1, v2, rfl, h1, h2⟩ := h
  have hpos : 0 < L.length := by obtain ⟨n, hn⟩ := hL.zero; exact List.length_pos_of_mem hn
  have HR := Lib.hid (And.intro h1 (And.intro h2 (And.intro (h1.toB (by rw [List.length_map]; exact hpos) (Nat.le_refl _)) (h2.toB (by rw [List.length_map]; exact hpos) (Nat.le_refl _)))))
  clear h1 h2
  refine (callsIn_wide (n := 6)).1 ?_
  refine callsIn_of_wp_marks Try.func21 rfl trivial ?_ rfl
  simp only [Try.ntmps21, List.size_toArray, List.length_cons, List.length_nil, Nat.reduceAdd, Nat.reduceSub, Array.replicate_succ, Array.replicate_zero, List.push_toArray, List.append_toArray, List.nil_append, List.cons_append]
  gi_wp2_with (refine ⟨trivial, ?_⟩; gi_at_call 19; refine (callsIn_wide.2 (free_any v1 v2 f n _)).mono ?_; rintro e w' ⟨rfl, rfl⟩)
  have hb0 : Below w.heap.size w ((((w.alloc (.cells #[v1, v2] 24)).alloc (.cells #[.int .i64 long] 2)).alloc (.cells #[.int .i64 0] 2)).alloc (.cells #[.int .i64 0] 35)) :=
    ((((Below.refl _ w).alloc (Nat.le_refl _) _).alloc (by simp) _).alloc (by simp; omega) _).alloc (by simp; omega) _
  have bL := ((Boxed.new (w.alloc (.cells #[v1, v2] 24)) 2 (.int .i64 long)).alloc (.cells #[.int .i64 0] 2)).alloc (.cells #[.int .i64 0] 35)
  have bA := (Boxed.new ((w.alloc (.cells #[v1, v2] 24)).alloc (.cells #[.int .i64 long] 2)) 2 (.int .i64 0)).alloc (.cells #[.int .i64 0] 35)
  have bE := Boxed.new (((w.alloc (.cells #[v1, v2] 24)).alloc (.cells #[.int .i64 long] 2)).alloc (.cells #[.int .i64 0] 2)) 35 (.int .i64 0)
  simp only [World.size_alloc] at bL bA bE
  have hsz : ((((w.alloc (.cells #[v1, v2] 24)).alloc (.cells #[.int .i64 long] 2)).alloc (.cells #[.int .i64 0] 2)).alloc (.cells #[.int .i64 0] 35)).heap.size = w.heap.size + 1 + 1 + 1 + 1 := by simp
  obtain ⟨W0, hW0⟩ : ∃ W0, ((((w.alloc (.cells #[v1, v2] 24)).alloc (.cells #[.int .i64 long] 2)).alloc (.cells #[.int .i64 0] 2)).alloc (.cells #[.int .i64 0] 35)) = W0 := ⟨_, rfl⟩
  rw [hW0] at hb0 bL bA bE hsz ⊢
  clear hW0
  have hb1 : Below W0.heap.size W0 (((W0.alloc (.cells #[v1, v2] 24)).alloc (.cells #[.int .i64 f] 2)).alloc (.cells #[.int .i64 n] 2)) :=
    (((Below.refl _ W0).alloc (Nat.le_refl _) _).alloc (by simp) _).alloc (by simp; omega) _
  have kS := ((Box2.new W0 24 v1 v2).alloc (.cells #[.int .i64 f] 2)).alloc (.cells #[.int .i64 n] 2)
  have kF := (Boxed.new (W0.alloc (.cells #[v1, v2] 24)) 2 (.int .i64 f)).alloc (.cells #[.int .i64 n] 2)
  have kN := Boxed.new ((W0.alloc (.cells #[v1, v2] 24)).alloc (.cells #[.int .i64 f] 2)) 2 (.int .i64 n)
  simp only [World.size_alloc] at kF kN
  rw [hsz] at kS kF kN
  have hsz1 : (((W0.alloc (.cells #[v1, v2] 24)).alloc (.cells #[.int .i64 f] 2)).alloc (.cells #[.int .i64 n] 2)).heap.size = W0.heap.size + 3 := by simp
  obtain ⟨W1, hW1⟩ : ∃ W1, (((W0.alloc (.cells #[v1, v2] 24)).alloc (.cells #[.int .i64 f] 2)).alloc (.cells #[.int .i64 n] 2)) = W1 := ⟨_, rfl⟩
  rw [hW1] at hb1 kS kF kN hsz1 ⊢
  clear hW1
  have hb2 : Below w.heap.size w W1 := hb0.trans (hb1.mono (by omega))
  obtain ⟨h1, h2, i1, i2⟩ := HR.out
  have hseq := free1_new 5 (by omega) Tm L hL f n hf (wins_tm hL hf hf2 n) (w.heap.size + 1 + 1 + 1 + 1) (w.heap.size + 1 + 1 + 1 + 1 + 1) (w.heap.size + 1 + 1 + 1 + 1 + 1 + 1) (w.heap.size + 1 + 1) v1 v2 W1 kS kF kN (h1.below hb2 (Nat.le_refl _)) (h2.below hb2 (Nat.le_refl _)) ((i1.below hb2).mono (by omega)) ((i2.below hb2).mono (by omega)) (by omega) (by omega) (by omega)
  have hI0 : Boxed W1 (w.heap.size + 1 + 1) 2 (.int .i64 0) ∧ Boxed W1 (w.heap.size + 1 + 1 + 1) 35 (.int .i64 0) ∧ Boxed W1 (w.heap.size + 1) 2 (.int .i64 long) := ⟨Boxed.next hb1 bA, Boxed.next hb1 bE, Boxed.next hb1 bL⟩
  have HL := Lib.hid hL
  clear kS kF kN h1 h2 i1 i2 hb1 hb0 bL bA bE
  refine range_new (by omega) rfl (enters_of Try.func35 (by kernel_rfl) rfl) hseq (Below.refl _ _) (fun _ => rfl)
    (FI w long) (FX w long) (fun pre A C row hs hg hr => hs.ab hg hr (by omega)) (fun k xs A C row hs hg hr => hs.ab hg hr (by omega))
    ⟨hI0.1, hI0.2.1, hI0.2.2, hb2, fun y hy => by simp at hy⟩
    (fun x a' W => ∃ Bx, W1.heap.size ≤ Bx ∧ Box2 W Bx 64 (.int .i64 x.1.1) (.int .i64 x.1.2) ∧ a' = { tmps := #[.agg #[v1, v2], .int .i64 f, .int .i64 long, .int .i64 n, .pointer (some ⟨w.heap.size, 0, none⟩), undef, .pointer (some ⟨w.heap.size + 1, 0, none⟩), undef, .pointer (some ⟨w.heap.size + 1 + 1, 0, none⟩), .pointer (some ⟨w.heap.size + 1 + 1 + 1, 0, none⟩), .pointer (some ⟨Bx, 0, none⟩), .agg #[v1, v2], .int .i64 f, .int .i64 n, .func (.func 35) #[] #[.pointer (some ⟨w.heap.size + 1 + 1 + 1 + 1 + 1, 0, none⟩), .pointer (some ⟨w.heap.size + 1 + 1 + 1 + 1, 0, none⟩), .pointer (some ⟨w.heap.size + 1 + 1 + 1 + 1 + 1 + 1, 0, none⟩)], .agg #[.int .i64 x.1.1, .int .i64 x.1.2], undef, undef, undef, undef, undef, undef, undef, undef, undef], defers := [] })
    (fun x a' _ X Y row hs hg hr => by obtain ⟨Bx, h1, h2, h3⟩ := hs; exact ⟨Bx, h1, box2_own Bx 64 (fun (_ : Unit) => Value.int .i64 x.1.1) (fun (_ : Unit) => Value.int .i64 x.1.2) () X Y row h2 hg (fun r e => (hr r e).2), h3⟩)
    ?assign ?body ?done ?stop
  case assign =>
    rintro l pre ⟨⟨a, b⟩, hx⟩ W K hI hz hK
    dsimp only [encW]
    have bX := Box2.new W 64 (.int .i64 a) (.int .i64 b)
    have hb : Below W.heap.size W (W.alloc (.cells #[.int .i64 a, .int .i64 b] 64)) := (Below.refl _ W).alloc (Nat.le_refl _) _
    have HB := Lib.hid hb
    clear hb hseq
    gi_wp2
    exact hK _ _ ((KeepsOthers.alloc _ _).from _) (KpC.of_below HB.out) ⟨hI.a.alloc _, hI.e.alloc _, hI.l.alloc _, hI.below.trans (HB.out.mono hI.below.size), hI.no⟩ ⟨W.heap.size, hz, bX, rfl⟩
  case body =>
    rintro l pre ⟨⟨a, b⟩, hx⟩ a' W hz hI ⟨Bx, hBx, bX, rfl⟩
    obtain ⟨t0, t1, t2, t3⟩ := hx
    dsimp only at t0 t1 t2 t3 bX ⊢
    have cX0 := bX.cell0
    have cX1 := bX.cell1
    have cL := hI.l.cell
    have fA := hI.a.frozen
    have fE := hI.e.frozen
    have cA := hI.a.cell
    have cE := hI.e.cell
    clear hseq
    by_cases hin : long ≤ b - a
    · have hd : decide (long ≤ b - a) = true := decide_eq_true hin
      have HX := Lib.hid hin
      clear hin
      gi_wp2
      exact ⟨((KeepsOthers.setCell _ _ _).trans (KeepsOthers.setCell _ _ _)).from _, rfl, ⟨pre, ⟨(a, b), _⟩, rfl, Boxed.kept (hI.a.set _) (grownBy_setCell' _ _ _) (fun e => by simp at e), hI.no, HX.out⟩,
        Boxed.set _ (Boxed.kept hI.e (grownBy_setCell' _ _ _) (fun e => by simp at e)), (hI.below.setCell (p := ⟨w.heap.size + 1 + 1, 0, none⟩) (by simp; omega) _).setCell (p := ⟨w.heap.size + 1 + 1 + 1, 0, none⟩) (by simp; omega) _⟩
    · have hd : decide (long ≤ b - a) = false := decide_eq_false hin
      have HX := Lib.hid hin
      clear hin
      gi_wp2
      exact ⟨KeepsFrom.refl _ _, KpC.refl _ _, hI.a, hI.e, hI.l, hI.below, fun y hy => by
        rcases List.mem_append.1 hy with h | h
        · exact hI.no y h
        · simp only [List.mem_singleton] at h; rw [h]; exact Int.not_le.2 HX.out⟩
  case done =>
    rintro D ys W hD hys hI hK
    have hfin : Hid (fitV (fst? L f long n) = .tuple #[.int .i64 0, .int .i64 7]) := by show _ = _; rw [wins_none hys hI.no]; rfl
    have cA := hI.a.cell
    have fA := hI.a.frozen
    have cE := hI.e.cell
    have fE := hI.e.frozen
    have hK' := ((KeepsOthers.setCell W ⟨w.heap.size + 1 + 1, 0, none⟩ (.int .i64 0)).trans (KeepsOthers.setCell _ ⟨w.heap.size + 1 + 1 + 1, 0, none⟩ (.int .i64 7))).same D _ hK rfl
    clear hseq hys
    gi_wp2
    refine ⟨by simp, .inl ⟨_, _, rfl, run_takeDeferred hK', ?_⟩⟩
    have bA := Boxed.kept (hI.a.set (.int .i64 0)) (grownBy_setCell' _ (w.heap.size + 1 + 1 + 1) (.int .i64 7)) (fun e => by simp at e)
    have bE := Boxed.set (.int .i64 7) (Boxed.kept hI.e (grownBy_setCell' _ (w.heap.size + 1 + 1) (.int .i64 0)) (fun e => by simp at e))
    have q0 := cell_kept bA.cell (grownBy_putObj' _ D (.deferred none)) (fun r e => by cases e; exact ⟨_, hK', rfl⟩)
    have q1 := cell_kept bE.cell (grownBy_putObj' _ D (.deferred none)) (fun r e => by cases e; exact ⟨_, hK', rfl⟩)
    refine ⟨.tuple #[.int .i64 0, .int .i64 7], by simp [results, Try.results21, go_sem, q0, q1], by rw [hfin.out], ?_⟩
    exact ((hI.below.setCell (p := ⟨w.heap.size + 1 + 1, 0, none⟩) (by simp; omega) _).setCell (p := ⟨w.heap.size + 1 + 1 + 1, 0, none⟩) (by simp; omega) _).trans (belowK_b (w := w) (Nat.le_refl _) _ D _ _ (by omega) hK' rfl rfl)
  case stop =>
    rintro D k xs W hD ⟨R, hw⟩ hX hK
    obtain ⟨rfl, ⟨pre, x, rfl, hA, hno, hx⟩, hE, hB⟩ := hX
    have hfin : Hid (fitV (fst? L f long n) = .tuple #[.int .i64 x.1.1, .int .i64 0]) := by show _ = _; rw [wins_pick hw hno hx]; rfl
    clear hseq
    gi_wp2
    refine ⟨by simp, .inl ⟨_, _, rfl, run_takeDeferred hK, ?_⟩⟩
    have q0 := cell_kept hA.cell (grownBy_putObj' _ D (.deferred none)) (fun r e => by cases e; exact ⟨_, hK, rfl⟩)
    have q1 := cell_kept hE.cell (grownBy_putObj' _ D (.deferred none)) (fun r e => by cases e; exact ⟨_, hK, rfl⟩)
    refine ⟨.tuple #[.int .i64 x.1.1, .int .i64 0], by simp [results, Try.results21, go_sem, q0, q1], by rw [hfin.out], ?_⟩
    exact hB.trans (belowK_b (w := w) (Nat.le_refl _) _ D _ _ (by omega) hK rfl rfl)
end Go.Proofs.Ytigomdihkojdmaa.gn
