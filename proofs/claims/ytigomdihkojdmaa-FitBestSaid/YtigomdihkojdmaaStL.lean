/- least. -/
import Derived.Test.YtigomdihkojdmaaStC
namespace Go.Proofs.Ytigomdihkojdmaa.gn
open Go.RowKit Go.Shelf
open Go.Proofs.Ytigomdihkojdmaa.sp

attribute [local go_sem] Oper.semAt_some

/-- The least number of the steps that meet a window. -/
def few (lo hi : Int) (l : List Wn) : Int := l.foldl (fun m x => if meets x.1.1 x.1.2 lo hi then min m x.2 else m) 1099511627776
theorem few_snoc (lo hi : Int) (l : List Wn) (x : Wn) : few lo hi (l ++ [x]) = if meets x.1.1 x.1.2 lo hi then min (few lo hi l) x.2 else few lo hi l := by unfold few; rw [List.foldl_append]; rfl
theorem few_is (lo hi : Int) (l : List Wn) : (∀ x ∈ l, meets x.1.1 x.1.2 lo hi = true → few lo hi l ≤ x.2) ∧ (few lo hi l = 1099511627776 ∨ ∃ x ∈ l, meets x.1.1 x.1.2 lo hi = true ∧ few lo hi l = x.2) ∧ few lo hi l ≤ 1099511627776 := by
  refine snoc_ind (P := fun l => (∀ x ∈ l, meets x.1.1 x.1.2 lo hi = true → few lo hi l ≤ x.2) ∧ (few lo hi l = 1099511627776 ∨ ∃ x ∈ l, meets x.1.1 x.1.2 lo hi = true ∧ few lo hi l = x.2) ∧ few lo hi l ≤ 1099511627776) ?_ ?_ l
  · exact ⟨fun x hx => by simp at hx, .inl rfl, Int.le_refl _⟩
  · rintro l x ⟨h1, h2, h3⟩
    rw [few_snoc]
    by_cases hm : meets x.1.1 x.1.2 lo hi = true
    · rw [if_pos hm]
      refine ⟨fun y hy hym => ?_, ?_, by omega⟩
      · rcases List.mem_append.1 hy with h | h
        · have := h1 y h hym; omega
        · simp at h; rw [h]; omega
      · by_cases hle : few lo hi l ≤ x.2
        · rw [show min (few lo hi l) x.2 = few lo hi l by omega]
          rcases h2 with h | ⟨y, hy, h4, h5⟩
          · exact .inl h
          · exact .inr ⟨y, List.mem_append_left _ hy, h4, h5⟩
        · exact .inr ⟨x, by simp, hm, by omega⟩
    · rw [if_neg hm]
      refine ⟨fun y hy hym => ?_, ?_, h3⟩
      · rcases List.mem_append.1 hy with h | h
        · exact h1 y h hym
        · simp at h; rw [h] at hym; exact absurd hym hm
      · rcases h2 with h | ⟨y, hy, h4, h5⟩
        · exact .inl h
        · exact .inr ⟨y, List.mem_append_left _ hy, h4, h5⟩

theorem Boxed.below {W W' : World} {B : Nat} {t : TypeId} {v : Value} (h : Boxed W B t v) (hb : Below W.heap.size W W') : Boxed W' B t v := (hb.block B h.lt).trans h
theorem Box2.below {W W' : World} {B : Nat} {t : TypeId} {u v : Value} (h : Box2 W B t u v) (hb : Below W.heap.size W W') : Box2 W' B t u v := (hb.block B h.lt).trans h
theorem box2_set {W : World} {B : Nat} {t : TypeId} {u v : Value} (h : Box2 W B t u v) {B' : Nat} (hne : B ≠ B') (z : Value) : Box2 (W.setCell ⟨B', 0, none⟩ z) B t u v := h.kept (grownBy_setCell' W B' z) (fun e => hne (by cases e; rfl))

set_option maxRecDepth 100000 in
set_option maxHeartbeats 4000000 in
theorem least_main (v1 v2 : Value) (at_ m : List Int) (lo hi : Int) (w : World) (h1 : Ints w v1 at_) (h2 : Ints w v2 m) (hl : at_.length = m.length) (h0 : 0 < at_.length) (hm : at_.length ≤ 2002) :
    Calls Try.prog 47 #[.agg #[v1, v2], .agg #[.int .i64 lo, .int .i64 hi]] w (Tells (few lo hi (upto at_ m at_.length)) w) := by
  refine (callsIn_wide (n := 6)).1 ?_
  have i1 := h1.toB h0 (Nat.le_refl _)
  have i2 := h2.toB (show 0 < m.length by omega) (Nat.le_refl _)
  have HI1 := Lib.hid i1
  have HI2 := Lib.hid i2
  have HL := Lib.hid hl
  clear i1 i2 h1 h2 hl
  refine callsIn_of_wp_marks Try.func47 rfl trivial ?_ rfl
  simp only [Try.ntmps47, List.size_toArray, List.length_cons, List.length_nil, Nat.reduceAdd, Nat.reduceSub, Array.replicate_succ, Array.replicate_zero, List.push_toArray, List.append_toArray, List.nil_append, List.cons_append]
  gi_wp2_with (refine ⟨trivial, ?_⟩; gi_at_call 42; refine (each_in Fence.wide _ trivial rfl _ _ _).mono ?_; rintro e w' ⟨rfl, rfl⟩)
  have bW := ((Box2.new (w.alloc (.cells #[v1, v2] 24)) 73 (.int .i64 lo) (.int .i64 hi)).alloc (.cells #[.int .i64 1099511627776] 2)).alloc (.cells #[v1, v2] 24)
  have bF := (Boxed.new ((w.alloc (.cells #[v1, v2] 24)).alloc (.cells #[.int .i64 lo, .int .i64 hi] 73)) 2 (.int .i64 1099511627776)).alloc (.cells #[v1, v2] 24)
  have bE := Box2.new (((w.alloc (.cells #[v1, v2] 24)).alloc (.cells #[.int .i64 lo, .int .i64 hi] 73)).alloc (.cells #[.int .i64 1099511627776] 2)) 24 v1 v2
  simp only [World.size_alloc] at bW bF bE
  have hB0 : Below w.heap.size w ((((w.alloc (.cells #[v1, v2] 24)).alloc (.cells #[.int .i64 lo, .int .i64 hi] 73)).alloc (.cells #[.int .i64 1099511627776] 2)).alloc (.cells #[v1, v2] 24)) :=
    ((((Below.refl _ w).alloc (Nat.le_refl _) _).alloc (by simp) _).alloc (by simp; omega) _).alloc (by simp; omega) _
  have hsz : ((((w.alloc (.cells #[v1, v2] 24)).alloc (.cells #[.int .i64 lo, .int .i64 hi] 73)).alloc (.cells #[.int .i64 1099511627776] 2)).alloc (.cells #[v1, v2] 24)).heap.size = w.heap.size + 4 := by simp
  obtain ⟨W0, hW0⟩ : ∃ W0, (((w.alloc (.cells #[v1, v2] 24)).alloc (.cells #[.int .i64 lo, .int .i64 hi] 73)).alloc (.cells #[.int .i64 1099511627776] 2)).alloc (.cells #[v1, v2] 24) = W0 := ⟨_, rfl⟩
  rw [hW0] at bW bF bE hB0 hsz ⊢
  clear hW0
  have i1 := HI1.out.below hB0
  have i2 := HI2.out.below hB0
  have HF := Lib.hid (few_snoc lo hi)
  refine wpIn_rangeFunc_ownH rfl (by omega) (gf := 49) (lb := #[.pointer (some ⟨w.heap.size + 1 + 1 + 1, 0, none⟩)]) rfl trivial (enters_of Try.func49 (by kernel_rfl) rfl)
    (each_stops Fence.wide _ trivial rfl (by omega) (w.heap.size + 1 + 1 + 1) w.heap.size _ _ at_ m HL.out.symm (by unfold maxLen; omega) W0 hB0.size i1 i2 bE.cell0 bE.cell1) kpe_t (kpe_b hB0.size bE.lt) (Below.refl _ _) (fun _ => rfl)
    (fun pre W => (Boxed W (w.heap.size + 1 + 1) 2 (.int .i64 (few lo hi pre)) ∧ Box2 W (w.heap.size + 1) 73 (.int .i64 lo) (.int .i64 hi)) ∧ Below w.heap.size w W)
    (fun _ _ _ => False)
    (OwnFrom.and (OwnFrom.and (Own.from (boxed_own _ _ _) _) (Own.from (box2_own _ _ _ _) _)) (ownFrom_below (Nat.le_refl _) (by omega)))
    (fun _ _ _ _ _ hs _ _ => hs)
    ⟨⟨bF, bW⟩, hB0⟩
    (fun x a' W => ∃ Bx, w.heap.size + 1 + 1 < Bx ∧ Box2 W Bx 73 (.int .i64 x.1.1) (.int .i64 x.1.2) ∧ a' = { tmps := #[.agg #[v1, v2], .agg #[.int .i64 lo, .int .i64 hi], .pointer (some ⟨w.heap.size, 0, none⟩), .pointer (some ⟨w.heap.size + 1, 0, none⟩), .int .i64 0, .pointer (some ⟨w.heap.size + 1 + 1, 0, none⟩), .pointer (some ⟨Bx, 0, none⟩), .int .i64 x.2, .agg #[v1, v2], .func (.func 49) #[] #[.pointer (some ⟨w.heap.size + 1 + 1 + 1, 0, none⟩)], .agg #[.int .i64 x.1.1, .int .i64 x.1.2], .int .i64 x.2, undef, undef, undef, undef, undef, undef, undef], defers := [] })
    (fun x a' _ X Y row hs hg hr => by obtain ⟨Bx, h1, h2, h3⟩ := hs; exact ⟨Bx, h1, box2_own Bx 73 (fun (_ : Unit) => Value.int .i64 x.1.1) (fun (_ : Unit) => Value.int .i64 x.1.2) () X Y row h2 hg (fun r e => (hr r e).2), h3⟩)
    ?assign ?body ?done ?stop
  case assign =>
    rintro l pre x W K ⟨⟨bF1, bW1⟩, hB1⟩ hK
    dsimp only [encs]
    have hsW := hB1.size
    have hlt := bF1.lt
    have bX := Box2.new W 73 (.int .i64 x.1.1) (.int .i64 x.1.2)
    gi_wp2
    exact hK _ _ ((KeepsOthers.alloc _ _).from _) (KpE.of_below ((Below.refl _ W).alloc (Nat.le_refl _) _) hsW) ⟨⟨bF1.alloc _, bW1.alloc _⟩, hB1.alloc hsW _⟩ ⟨W.heap.size, hlt, bX, rfl⟩
  case body =>
    rintro l pre x a' W hl _ ⟨⟨bF1, bW1⟩, hB1⟩ ⟨Bx, hBx, bX, rfl⟩ _
    have hsW := hB1.size
    have cF := bF1.cell
    have cW0 := bW1.cell0
    have cW1 := bW1.cell1
    have cX0 := bX.cell0
    have cX1 := bX.cell1
    have HBF := Lib.hid bF1
    have HBW := Lib.hid bW1
    have HB := Lib.hid hB1
    clear bF1 bW1 hB1 bX
    have hmt := HF.out pre x
    by_cases hw : meets x.1.1 x.1.2 lo hi = true
    · rw [if_pos hw] at hmt
      have HMT := Lib.hid hmt
      have HW := Lib.hid hw
      clear hmt hw
      gi_wp2_with (refine ⟨trivial, ?_⟩; gi_at_call 43; ((with_reducible refine (CallsIn.inRound l (callsIn_wide.2 (meets_any _ _ _ _ _))).mono ?_); rintro e W1 ⟨rfl, hb1⟩; rw [HW.out]; have bF2 := Boxed.below HBF.out hb1; have cF2 := bF2.cell; have fF2 := bF2.frozen; have HBF2 := Lib.hid bF2; have HB1 := Lib.hid hb1; have hsz1 := hb1.size; clear hb1 bF2))
      exact ⟨(KeepsFrom.of_below HB1.out).trans ((KeepsOthers.setCell _ _ _).from _), (KpE.of_below HB1.out hsW).trans ⟨(Below.refl _ _).setCell (p := ⟨w.heap.size + 1 + 1, 0, none⟩) (by simp; omega) _, fun _ => Below.heap_setCell _ _ _ _ (by simp)⟩, ⟨by rw [HMT.out]; exact HBF2.out.set _, box2_set (Box2.below HBW.out HB1.out) (by omega) _⟩, (HB.out.trans (HB1.out.mono hsW)).setCell (p := ⟨w.heap.size + 1 + 1, 0, none⟩) (by simp; omega) _⟩
    · rw [if_neg hw] at hmt
      have hw' : meets x.1.1 x.1.2 lo hi = false := by simpa using hw
      have HMT := Lib.hid hmt
      have HW := Lib.hid hw'
      clear hmt hw hw'
      gi_wp2_with (refine ⟨trivial, ?_⟩; gi_at_call 43; ((with_reducible refine (CallsIn.inRound l (callsIn_wide.2 (meets_any _ _ _ _ _))).mono ?_); rintro e W1 ⟨rfl, hb1⟩; rw [HW.out]; have HB1 := Lib.hid hb1; clear hb1))
      exact ⟨KeepsFrom.of_below HB1.out, KpE.of_below HB1.out hsW, ⟨by rw [HMT.out]; exact Boxed.below HBF.out HB1.out, Box2.below HBW.out HB1.out⟩, HB.out.trans (HB1.out.mono hsW)⟩
  case done =>
    rintro D ys W hD rfl ⟨⟨bF1, bW1⟩, hB1⟩ hK
    have cF := bF1.cell
    have HB := Lib.hid hB1
    clear hB1 bW1
    gi_wp2
    refine ⟨by simp, .inl ⟨_, _, rfl, run_takeDeferred hK, ?_⟩⟩
    exact ⟨_, results_tmp rfl _ _ _, rfl, HB.out.trans (belowK_b (w := w) (Nat.le_refl _) W D _ _ (by omega) hK rfl rfl)⟩
  case stop =>
    rintro D c pre W _ _ h _
    exact h.elim
end Go.Proofs.Ytigomdihkojdmaa.gn
