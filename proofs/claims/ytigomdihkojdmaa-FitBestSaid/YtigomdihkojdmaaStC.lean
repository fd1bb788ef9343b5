/- Check. -/
import Derived.Test.YtigomdihkojdmaaStB
import Derived.Test.YtigomdihkojdmaaStN
namespace Go.Proofs.Ytigomdihkojdmaa.gn
open Go.RowKit Go.Shelf
open Go.Proofs.Ytigomdihkojdmaa.sp

attribute [local go_sem] Oper.semAt_some

/-- A box of two cells. -/
def Box2 (W : World) (B : Nat) (t : TypeId) (u v : Value) : Prop := W.heap[B]? = some (.cells #[u, v] t (0, 0))
theorem Box2.lt {W : World} {B : Nat} {t : TypeId} {u v : Value} (h : Box2 W B t u v) : B < W.heap.size := (Array.getElem?_eq_some_iff.1 h).1
theorem Box2.cell0 {W : World} {B : Nat} {t : TypeId} {u v : Value} (h : Box2 W B t u v) : W.cell? ⟨B, 0, none⟩ = some u := by simp [World.cell?, show W.heap[B]? = _ from h]
theorem Box2.cell1 {W : World} {B : Nat} {t : TypeId} {u v : Value} (h : Box2 W B t u v) : W.cell? ⟨B, 1, none⟩ = some v := by simp [World.cell?, show W.heap[B]? = _ from h]
theorem Box2.free {W : World} {B : Nat} {t : TypeId} {u v : Value} (h : Box2 W B t u v) (j : Nat) : W.frozen? ⟨B, j, none⟩ = false := by simp [World.frozen?, show W.heap[B]? = _ from h]
theorem Box2.kept {W W' : World} {row : Option Nat} {B : Nat} {t : TypeId} {u v : Value} (h : Box2 W B t u v) (hg : W.grownBy W' row) (hne : some B ≠ row) : Box2 W' B t u v := (hg.block B h.lt hne).trans h
theorem Box2.alloc {W : World} {B : Nat} {t : TypeId} {u v : Value} (h : Box2 W B t u v) (o : Obj) : Box2 (W.alloc o) B t u v := h.kept (World.grownBy_alloc W o none) (by simp)
theorem Box2.new (W : World) (t : TypeId) (u v : Value) : Box2 (W.alloc (.cells #[u, v] t)) W.heap.size t u v := World.alloc_heap_new W _
theorem box2_own {β : Type} (B : Nat) (t : TypeId) (f f' : β → Value) : Own (fun s W => Box2 W B t (f s) (f' s)) := fun s X Y row hs hg hrow =>
  hs.kept hg (fun e' => by obtain ⟨o, ho, hc⟩ := hrow B e'.symm; rw [show X.heap[B]? = _ from hs] at ho; cases ho; cases hc)
theorem KeepsFrom.of_below {B : Nat} {W W' : World} (h : Below W.heap.size W W') : KeepsFrom B W W' :=
  ⟨h.size, fun k _ _ hk _ => (h.block k (Array.getElem?_eq_some_iff.1 hk).1).trans hk⟩

/-- What a function that makes memory answers. -/
def Tells (n : Int) (w : World) (e : Ending) (w' : World) : Prop := e = .returned (.int .i64 n) ∧ Below w.heap.size w w'

set_option maxRecDepth 100000 in
set_option maxHeartbeats 4000000 in
theorem check_main (v1 v2 : Value) (at_ m : List Int) (w : World) (h1 : Ints w v1 at_) (h2 : Ints w v2 m) (hl : at_.length = m.length) (h0 : 0 < at_.length) (hm : at_.length ≤ 2000) (hz : g at_ 0 = 0) :
    Calls Try.prog 29 #[.agg #[v1, v2]] w (Tells (chk at_ m) w) := by
  refine (callsIn_wide (n := 6)).1 ?_
  have i1 := h1.toB h0 (Nat.le_refl _)
  have i2 := h2.toB (show 0 < m.length by omega) (Nat.le_refl _)
  obtain ⟨b1, o1, c1, rfl, hb1, hc1⟩ := i1
  obtain ⟨b2, o2, c2, rfl, hb2, hc2⟩ := i2
  have hc10 : w.cell? ⟨b1, o1, none⟩ = some (.int .i64 0) := by have := hc1 0 h0; rw [show at_[0]?.getD 0 = 0 from hz] at this; exact this
  have H1 := Lib.hid hc1
  have H2 := Lib.hid hc2
  have HI1 := Lib.hid h1
  have HI2 := Lib.hid h2
  clear hc1 hc2 h1 h2
  have hlb : ((at_.length : Int) != (m.length : Int)) = false := by simp [hl]
  have hb0 : ((at_.length : Int) == 0) = false := beq_eq_false_iff_ne.2 (by omega)
  have hb9 : decide ((2000 : Int) < (at_.length : Int)) = false := by simp; omega
  have HL := Lib.hid hl
  clear hl
  refine callsIn_of_wp_marks Try.func29 rfl trivial ?_ rfl
  simp only [Try.ntmps29, List.size_toArray, List.length_cons, List.length_nil, Nat.reduceAdd, Nat.reduceSub, Array.replicate_succ, Array.replicate_zero, List.push_toArray, List.append_toArray, List.nil_append, List.cons_append]
  gi_wp2_with (refine ⟨trivial, ?_⟩; gi_at_call 42; refine (each_in Fence.wide _ trivial rfl _ _ _).mono ?_; rintro e w' ⟨rfl, rfl⟩)
  have bR := (Boxed.new (w.alloc (.cells #[Value.slice (some ⟨b1, o1, none⟩) at_.length c1, Value.slice (some ⟨b2, o2, none⟩) m.length c2] 24)) 35 (.int .i64 0)).alloc (.cells #[Value.slice (some ⟨b1, o1, none⟩) at_.length c1, Value.slice (some ⟨b2, o2, none⟩) m.length c2] 24)
  have bE := Box2.new ((w.alloc (.cells #[Value.slice (some ⟨b1, o1, none⟩) at_.length c1, Value.slice (some ⟨b2, o2, none⟩) m.length c2] 24)).alloc (.cells #[.int .i64 0] 35)) 24 (Value.slice (some ⟨b1, o1, none⟩) at_.length c1) (Value.slice (some ⟨b2, o2, none⟩) m.length c2)
  rw [World.size_alloc] at bR
  rw [World.size_alloc, World.size_alloc] at bE
  have hB0 : Below w.heap.size w (((w.alloc (.cells #[Value.slice (some ⟨b1, o1, none⟩) at_.length c1, Value.slice (some ⟨b2, o2, none⟩) m.length c2] 24)).alloc (.cells #[.int .i64 0] 35)).alloc (.cells #[Value.slice (some ⟨b1, o1, none⟩) at_.length c1, Value.slice (some ⟨b2, o2, none⟩) m.length c2] 24)) := (((Below.refl _ w).alloc (Nat.le_refl _) _).alloc (by simp) _).alloc (by simp; omega) _
  have hsz : (((w.alloc (.cells #[Value.slice (some ⟨b1, o1, none⟩) at_.length c1, Value.slice (some ⟨b2, o2, none⟩) m.length c2] 24)).alloc (.cells #[.int .i64 0] 35)).alloc (.cells #[Value.slice (some ⟨b1, o1, none⟩) at_.length c1, Value.slice (some ⟨b2, o2, none⟩) m.length c2] 24)).heap.size = w.heap.size + 3 := by simp
  obtain ⟨W0, hW0⟩ : ∃ W0, ((w.alloc (.cells #[Value.slice (some ⟨b1, o1, none⟩) at_.length c1, Value.slice (some ⟨b2, o2, none⟩) m.length c2] 24)).alloc (.cells #[.int .i64 0] 35)).alloc (.cells #[Value.slice (some ⟨b1, o1, none⟩) at_.length c1, Value.slice (some ⟨b2, o2, none⟩) m.length c2] 24) = W0 := ⟨_, rfl⟩
  rw [hW0] at bR bE hB0 hsz ⊢
  clear hW0
  have i1 : IntsB w.heap.size W0 (Value.slice (some ⟨b1, o1, none⟩) at_.length c1) at_ := IntsB.below ⟨b1, o1, c1, rfl, hb1, H1.out⟩ hB0
  have i2 : IntsB w.heap.size W0 (Value.slice (some ⟨b2, o2, none⟩) m.length c2) m := IntsB.below ⟨b2, o2, c2, rfl, hb2, H2.out⟩ hB0
  refine wpIn_rangeFunc_ownH rfl (by omega) (gf := 49) (lb := #[.pointer (some ⟨w.heap.size + 1 + 1, 0, none⟩)]) rfl trivial (enters_of Try.func49 (by kernel_rfl) rfl)
    (each_stops Fence.wide _ trivial rfl (by omega) (w.heap.size + 1 + 1) w.heap.size _ _ at_ m HL.out.symm (by unfold maxLen; omega) W0 hB0.size i1 i2 bE.cell0 bE.cell1) kpe_t (kpe_b hB0.size bE.lt) (Below.refl _ _) (fun _ => rfl)
    (fun pre W => (Boxed W (w.heap.size + 1) 35 (.int .i64 0) ∧ ∀ x ∈ pre, goodS x) ∧ Below w.heap.size w W)
    (fun c pre W => ((Boxed W (w.heap.size + 1) 35 (.int .i64 2)) ∧ c = .ret ∧ ∃ x ∈ pre, ¬ goodS x) ∧ Below w.heap.size w W)
    (OwnFrom.and (OwnFrom.and (Own.from (boxed_own _ _ _) _) (ownFrom_pure _ _)) (ownFrom_below (Nat.le_refl _) (by omega)))
    (fun c => OwnFrom.and (OwnFrom.and (Own.from (boxed_own _ _ _) _) (ownFrom_pure _ _)) (ownFrom_below (Nat.le_refl _) (by omega)))
    ⟨⟨bR, fun x hx => by simp at hx⟩, hB0⟩
    (fun x a' W => ∃ Bx, w.heap.size + 1 < Bx ∧ Box2 W Bx 73 (.int .i64 x.1.1) (.int .i64 x.1.2) ∧ a' = { tmps := #[.agg #[Value.slice (some ⟨b1, o1, none⟩) at_.length c1, Value.slice (some ⟨b2, o2, none⟩) m.length c2], .pointer (some ⟨w.heap.size, 0, none⟩), .pointer (some ⟨w.heap.size + 1, 0, none⟩), .pointer (some ⟨Bx, 0, none⟩), .int .i64 x.2, .pointer (some ⟨w.heap.size, 0, none⟩), Value.slice (some ⟨b1, o1, none⟩) at_.length c1, .int .i64 (at_.length : Int), .pointer (some ⟨w.heap.size, 1, none⟩), Value.slice (some ⟨b2, o2, none⟩) m.length c2, .int .i64 (m.length : Int), .bool false, .bool false, .pointer (some ⟨w.heap.size, 0, none⟩), Value.slice (some ⟨b1, o1, none⟩) at_.length c1, .int .i64 (at_.length : Int), .bool false, .bool false, .bool false, .pointer (some ⟨w.heap.size, 0, none⟩), Value.slice (some ⟨b1, o1, none⟩) at_.length c1, .int .i64 (at_.length : Int), .bool false, .bool false, .bool false, .pointer (some ⟨w.heap.size, 0, none⟩), Value.slice (some ⟨b1, o1, none⟩) at_.length c1, .pointer (some ⟨b1, o1, none⟩), .int .i64 0, .bool false, .bool false, .agg #[Value.slice (some ⟨b1, o1, none⟩) at_.length c1, Value.slice (some ⟨b2, o2, none⟩) m.length c2], .func (.func 49) #[] #[.pointer (some ⟨w.heap.size + 1 + 1, 0, none⟩)], .agg #[.int .i64 x.1.1, .int .i64 x.1.2], .int .i64 x.2, undef, undef, undef, undef, undef, undef, undef, undef, undef, undef, undef], defers := [] })
    (fun x a' _ X Y row hs hg hr => by obtain ⟨Bx, h1, h2, h3⟩ := hs; exact ⟨Bx, h1, box2_own Bx 73 (fun (_ : Unit) => Value.int .i64 x.1.1) (fun (_ : Unit) => Value.int .i64 x.1.2) () X Y row h2 hg (fun r e => (hr r e).2), h3⟩)
    ?assign ?body ?done ?stop
  case assign =>
    rintro l pre x W K ⟨⟨bR1, hg1⟩, hB1⟩ hK
    dsimp only [encs]
    have hsW := hB1.size
    have hlt := bR1.lt
    have bX := Box2.new W 73 (.int .i64 x.1.1) (.int .i64 x.1.2)
    gi_wp2
    exact hK _ _ ((KeepsOthers.alloc _ _).from _) (KpE.of_below ((Below.refl _ W).alloc (Nat.le_refl _) _) hsW) ⟨⟨bR1.alloc _, hg1⟩, hB1.alloc hsW _⟩ ⟨W.heap.size, hlt, bX, rfl⟩
  case body =>
    rintro l pre x a' W hl _ ⟨⟨bR1, hg1⟩, hB1⟩ ⟨Bx, hBx, bX, rfl⟩ _
    have hsW := hB1.size
    have hlt := bR1.lt
    have cR := bR1.cell
    have fR := bR1.frozen
    have cX0 := bX.cell0
    have cX1 := bX.cell1
    have HR := Lib.hid bR1
    have HB := Lib.hid hB1
    have HG := Lib.hid hg1
    have hba : Below W.heap.size W (W.alloc (.cells #[.int .i64 x.2] 2)) := (Below.refl _ W).alloc (Nat.le_refl _) _
    have HBa := Lib.hid hba
    clear bR1 hB1 hg1 hba bX
    by_cases hw : x.1.1 < x.1.2
    · have hd : decide (x.1.2 ≤ x.1.1) = false := decide_eq_false (by omega)
      by_cases hq : Q x.2
      · have hqa : Hid (qall [x.2] = true) := qall_of (by simpa using hq)
        have hgd : Hid (goodS x) := ⟨hw, hq⟩
        clear hq
        gi_wp2_with (refine ⟨trivial, ?_⟩; gi_at_call 40; ((with_reducible refine (CallsIn.inRound l (callsIn_wide.2 (quants_new _ _))).mono ?_); rintro e w' ⟨rfl, rfl⟩; rw [hqa.out]))
        exact ⟨(KeepsOthers.alloc _ _).from _, KpE.of_below HBa.out hsW, ⟨HR.out.alloc _, fun y hy => by
          rcases List.mem_append.1 hy with h | h
          · exact HG.out y h
          · simp at h; rw [h]; exact hgd.out⟩, HB.out.trans (HBa.out.mono hsW)⟩
      · have hqa : Hid (qall [x.2] = false) := qall_not (by simpa using hq)
        have hgd : Hid (¬ goodS x) := fun h => hq h.2
        clear hq
        gi_wp2_with (refine ⟨trivial, ?_⟩; gi_at_call 40; ((with_reducible refine (CallsIn.inRound l (callsIn_wide.2 (quants_new _ _))).mono ?_); rintro e w' ⟨rfl, rfl⟩; rw [hqa.out]))
        exact ⟨((KeepsOthers.setCell _ _ _).trans (KeepsOthers.alloc _ _)).from _, ⟨(HR.out.set _).alloc _, rfl, x, by simp, hgd.out⟩, (HB.out.setCell (p := ⟨w.heap.size + 1, 0, none⟩) (by simp) _).alloc (by simpa using hsW) _⟩
    · have hd : decide (x.1.2 ≤ x.1.1) = true := decide_eq_true (by omega)
      have hgd : Hid (¬ goodS x) := fun h => hw h.1
      gi_wp2
      refine ⟨trivial, ?_⟩
      gi_wp2
      exact ⟨(KeepsOthers.setCell _ _ _).from _, ⟨HR.out.set _, rfl, x, by simp, hgd.out⟩, HB.out.setCell (p := ⟨w.heap.size + 1, 0, none⟩) (by simp) _⟩
  case done =>
    rintro D ys W hD rfl ⟨⟨bR1, hg1⟩, hB1⟩ hK
    have hok : Hid (chk at_ m = 0) := chk_yes ((okP_steps HL.out h0 hm hz).2 hg1)
    have hK' := (KeepsOthers.setCell W ⟨w.heap.size + 1, 0, none⟩ (.int .i64 0)).same D _ hK rfl
    have cR := bR1.cell
    have fR := bR1.frozen
    have HB := Lib.hid hB1
    clear hB1 hg1
    gi_wp2
    refine ⟨by simp, .inl ⟨_, _, rfl, run_takeDeferred hK', ?_⟩⟩
    have hc5 := cell_kept (bR1.set (.int .i64 0)).cell (grownBy_putObj' _ D (.deferred none)) (fun r e => by cases e; exact ⟨_, hK', rfl⟩)
    refine ⟨.int .i64 0, ?_, ret_i64 hok.out.symm, (HB.out.setCell (p := ⟨w.heap.size + 1, 0, none⟩) (by simp) _).trans (belowK_b (w := w) (Nat.le_refl _) _ D _ _ (by omega) hK' rfl rfl)⟩
    simp [results, Try.results29, go_sem, hc5]
  case stop =>
    rintro D c pre W hD ⟨k, hk, rfl⟩ ⟨⟨bR1, rfl, x, hx, hg1⟩, hB1⟩ hK
    have hok : Hid (chk at_ m = 2) := chk_no fun h => hg1 ((okP_steps HL.out h0 hm hz).1 h x (by
      obtain ⟨i, hi, e⟩ := mem_upto.1 hx
      exact mem_upto.2 ⟨i, by omega, e⟩))
    gi_wp2
    refine ⟨by simp, .inl ⟨_, _, rfl, run_takeDeferred hK, ?_⟩⟩
    have hc5 := cell_kept bR1.cell (grownBy_putObj' _ D (.deferred none)) (fun r e => by cases e; exact ⟨_, hK, rfl⟩)
    refine ⟨.int .i64 2, ?_, ret_i64 hok.out.symm, hB1.trans (belowK_b (w := w) (Nat.le_refl _) W D _ _ (by omega) hK rfl rfl)⟩
    simp [results, Try.results29, go_sem, hc5]

theorem check_a (a1 a2 : Option Addr) (n1 n2 c1 c2 : Nat) (at_ m : List Int) (w : World) (hno : ¬ OkP at_ m) (h : n1 ≠ n2) :
    Calls Try.prog 29 #[.agg #[.slice a1 n1 c1, .slice a2 n2 c2]] w (Tells (chk at_ m) w) := by
  have hb : ((n1 : Int) != (n2 : Int)) = true := by simpa using (show ¬ (n1 : Int) = n2 by omega)
  have HN := Lib.hid hno
  clear hno h
  go_enter Try.func29, Try.ntmps29
  go_wp2
  refine bodyPost_ret (v := .int .i64 2) (by simp [results, Try.results29, go_sem]) rfl ⟨ret_i64 (chk_no HN.out).symm, ?_⟩
  exact (((Below.refl _ _).alloc (Nat.le_refl _) _).alloc (by simp) _)
theorem check_b (a1 a2 : Option Addr) (c1 c2 : Nat) (at_ m : List Int) (w : World) (hno : ¬ OkP at_ m) :
    Calls Try.prog 29 #[.agg #[.slice a1 0 c1, .slice a2 0 c2]] w (Tells (chk at_ m) w) := by
  have HN := Lib.hid hno
  clear hno
  go_enter Try.func29, Try.ntmps29
  go_wp2
  refine bodyPost_ret (v := .int .i64 2) (by simp [results, Try.results29, go_sem]) rfl ⟨ret_i64 (chk_no HN.out).symm, ?_⟩
  exact (((Below.refl _ _).alloc (Nat.le_refl _) _).alloc (by simp) _)
theorem check_c (a1 a2 : Option Addr) (n c1 c2 : Nat) (at_ m : List Int) (w : World) (hno : ¬ OkP at_ m) (h : 2000 < n) :
    Calls Try.prog 29 #[.agg #[.slice a1 n c1, .slice a2 n c2]] w (Tells (chk at_ m) w) := by
  have hb : ((n : Int) != (n : Int)) = false := by simp
  have hb0 : ((n : Int) == 0) = false := beq_eq_false_iff_ne.2 (by omega)
  have hb9 : decide ((2000 : Int) < (n : Int)) = true := decide_eq_true (by omega)
  have HN := Lib.hid hno
  clear hno
  go_enter Try.func29, Try.ntmps29
  go_wp2
  refine bodyPost_ret (v := .int .i64 2) (by simp [results, Try.results29, go_sem]) rfl ⟨ret_i64 (chk_no HN.out).symm, ?_⟩
  exact (((Below.refl _ _).alloc (Nat.le_refl _) _).alloc (by simp) _)
theorem check_d (b o : Nat) (a2 : Option Addr) (n c1 c2 : Nat) (z : Int) (at_ m : List Int) (w : World) (hno : ¬ OkP at_ m) (h0 : 0 < n) (h : n ≤ 2000) (hc : w.cell? ⟨b, o, none⟩ = some (.int .i64 z)) (hz : z ≠ 0) :
    Calls Try.prog 29 #[.agg #[.slice (some ⟨b, o, none⟩) n c1, .slice a2 n c2]] w (Tells (chk at_ m) w) := by
  have hb : ((n : Int) != (n : Int)) = false := by simp
  have hb0 : ((n : Int) == 0) = false := beq_eq_false_iff_ne.2 (by omega)
  have hb9 : decide ((2000 : Int) < (n : Int)) = false := decide_eq_false (by omega)
  have hbz : (z != 0) = true := by simpa using hz
  have hlt : b < w.heap.size := cell_lt hc
  have HN := Lib.hid hno
  clear hno hz
  go_enter Try.func29, Try.ntmps29
  go_wp2
  refine bodyPost_ret (v := .int .i64 2) (by simp [results, Try.results29, go_sem]) rfl ⟨ret_i64 (chk_no HN.out).symm, ?_⟩
  exact (((Below.refl _ _).alloc (Nat.le_refl _) _).alloc (by simp) _)

theorem check_any {w : World} {v : Value} {at_ m : List Int} (h : Prof w v at_ m) : Calls Try.prog 29 #[v] w (Tells (chk at_ m) w) := by
  obtain ⟨v1, v2, rfl, h1, h2⟩ := h
  by_cases hl : at_.length = m.length
  · by_cases h0 : 0 < at_.length
    · by_cases hm : at_.length ≤ 2000
      · by_cases hz : g at_ 0 = 0
        · exact check_main v1 v2 at_ m w h1 h2 hl h0 hm hz
        · have hno : ¬ OkP at_ m := fun h => hz h.parts.2.2.2.2.1
          obtain ⟨_, a2, c2, rfl, _, _⟩ := h2
          obtain ⟨_, a1, c1, rfl, _, h1 | ⟨b, o, rfl, hc⟩⟩ := h1
          · omega
          · rw [← hl]
            exact check_d b o a2 _ c1 c2 (g at_ 0) at_ m w hno h0 hm (by rw [g_of h0]; exact hc 0 h0) hz
      · have hno : ¬ OkP at_ m := fun h => hm h.parts.2.1
        obtain ⟨_, a2, c2, rfl, _, _⟩ := h2
        obtain ⟨_, a1, c1, rfl, _, _⟩ := h1
        rw [← hl]
        exact check_c a1 a2 _ c1 c2 at_ m w hno (by omega)
    · have hno : ¬ OkP at_ m := fun h => h0 h.parts.2.2.2.1
      obtain ⟨_, a2, c2, rfl, _, _⟩ := h2
      obtain ⟨_, a1, c1, rfl, _, _⟩ := h1
      rw [← hl, show at_.length = 0 by omega]
      exact check_b a1 a2 c1 c2 at_ m w hno
  · have hno : ¬ OkP at_ m := fun h => hl h.parts.1
    obtain ⟨_, a2, c2, rfl, _, _⟩ := h2
    obtain ⟨_, a1, c1, rfl, _, _⟩ := h1
    exact check_a a1 a2 _ _ c1 c2 at_ m w hno hl

/-- Is it a profile that may be, and are these quantities? -/
noncomputable def vld (at_ m l : List Int) : Bool := (chk at_ m == 0) && qall l
theorem vld_yes {at_ m l : List Int} (h : OkP at_ m) (hl : ∀ n ∈ l, Q n) : vld at_ m l = true := by
  unfold vld; rw [chk_yes h, qall_of hl]; rfl
theorem vld_no {at_ m l : List Int} (h : ¬ (OkP at_ m ∧ ∀ n ∈ l, Q n)) : vld at_ m l = false := by
  unfold vld
  by_cases h1 : OkP at_ m
  · rw [qall_not fun h2 => h ⟨h1, h2⟩, Bool.and_false]
  · rw [chk_no h1]; rfl
theorem valid_any {w : World} {v u : Value} {at_ m l : List Int} (h : Prof w v at_ m) (hl : Ints w u l) : Calls Try.prog 26 #[v, u] w (TellsB (vld at_ m l) w) := by
  have HC := Lib.hid fun (w' : World) (hb : Below w.heap.size w w') => check_any (h.below hb (Nat.le_refl _))
  have HL := Lib.hid fun (w' : World) (hb : Below w.heap.size w w') => hl.below hb (Nat.le_refl _)
  obtain ⟨v1, v2, rfl, h1, h2⟩ := h
  have H0 : Hid (Below w.heap.size w (w.alloc (.cells #[v1, v2] 24))) := (Below.refl _ _).alloc (Nat.le_refl _) _
  clear h1 h2 hl
  by_cases hok : OkP at_ m
  · have e0 := chk_yes hok
    have HV : Hid (vld at_ m l = qall l) := by show _ = _; unfold vld; rw [e0]; rfl
    have HE := Lib.hid e0
    clear e0 hok
    go_enter Try.func26, Try.ntmps26
    go_wp2_with fail
    refine (HC.out _ H0.out).mono ?_
    rintro e w1 ⟨rfl, hb⟩
    have HB := Lib.hid (H0.out.trans (hb.mono H0.out.size))
    clear hb
    rw [HE.out]
    go_wp2_with fail
    refine (quants_any (HL.out _ HB.out)).mono ?_
    rintro e w2 ⟨rfl, rfl⟩
    go_wp2
    go_ret
    exact ⟨ret_bool HV.out.symm, HB.out⟩
  · have e0 := chk_no hok
    have HV : Hid (vld at_ m l = false) := by show _ = _; unfold vld; rw [e0]; rfl
    have HE := Lib.hid e0
    clear e0 hok
    go_enter Try.func26, Try.ntmps26
    go_wp2_with fail
    refine (HC.out _ H0.out).mono ?_
    rintro e w1 ⟨rfl, hb⟩
    have HB := Lib.hid (H0.out.trans (hb.mono H0.out.size))
    clear hb
    rw [HE.out]
    go_wp2
    go_ret
    exact ⟨ret_bool HV.out.symm, HB.out⟩
end Go.Proofs.Ytigomdihkojdmaa.gn
