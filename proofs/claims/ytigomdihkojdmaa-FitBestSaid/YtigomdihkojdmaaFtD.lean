/- fit's quantities, and valid. -/
import Derived.Test.YtigomdihkojdmaaFtC
import Derived.Test.YtigomdihkojdmaaStC
namespace Go.Proofs.Ytigomdihkojdmaa.gn
open Go.RowKit Go.Shelf
open Go.Proofs.Ytigomdihkojdmaa.sp

theorem fquants_empty (a : Option Addr) (cap : Nat) (w : World) : Calls Try.prog 30 #[.slice a 0 cap] w (SaysB true w) := by
  go_enter Try.func30, Try.ntmps30
  go_wp2
  go_loop [7] (fun i => i = .int .i64 0) (fun _ => 0)
  case atStart => rfl
  case round =>
    subst hrel
    go_wp2
    go_ret
    exact ⟨rfl, rfl⟩
theorem fquants_some (b o cap : Nat) (l : List Int) (w : World) (hm : l.length ≤ maxLen) (hc : ∀ j (h : j < l.length), w.cell? ⟨b, o + j, none⟩ = some (.int .i64 l[j])) :
    Calls Try.prog 30 #[.slice (some ⟨b, o, none⟩) l.length cap] w (SaysB (qall l) w) := by
  unfold maxLen at hm
  have HC := Lib.hid hc
  clear hc
  go_enter Try.func30, Try.ntmps30
  go_wp2
  go_loop [7] (fun i => ∃ k : Nat, k ≤ l.length ∧ i = .int .i64 (k : Int) ∧ ∀ n ∈ l.take k, Q n) (fun i => l.length - (intOf i).toNat)
  case atStart => exact ⟨0, by omega, rfl, fun n hn => by simp at hn⟩
  case round =>
    obtain ⟨k, hk, rfl, hq⟩ := hrel
    have HQ := Lib.hid hq
    clear hq
    by_cases hlt : k < l.length
    · have hcell := HC.out k hlt
      have ht : Hid (l.take (k + 1) = l.take k ++ [l[k]]) := List.take_succ_eq_append_getElem hlt
      have hmem : Hid (l[k] ∈ l) := List.getElem_mem hlt
      generalize hx : l[k] = x at *
      clear hx
      by_cases hq : Q x
      · have hd : (x != of x) = false := by simp [(of_id hq)]
        have hQ := Lib.hid hq
        clear hq
        go_wp2_with (go_at_call 38; ((with_reducible refine (of_any _ _).mono ?_); rintro e w' ⟨rfl, rfl⟩))
        go_round
        case rel => exact ⟨k + 1, by omega, by go_num, fun n hn => by
          rw [ht.out] at hn
          rcases List.mem_append.1 hn with h | h
          · exact HQ.out n h
          · simp at h; rw [h]; exact hQ.out⟩
        case measure => simp [intOf]; omega
      · have hd : (x != of x) = true := by simpa using fun h => hq (of_q.1 h)
        have hQ : Hid (qall l = false) := qall_not fun h => hq (h x hmem.out)
        clear hq
        go_wp2_with (go_at_call 38; ((with_reducible refine (of_any _ _).mono ?_); rintro e w' ⟨rfl, rfl⟩))
        go_ret
        exact ⟨ret_bool hQ.out.symm, rfl⟩
    · have he : Hid (qall l = true) := qall_of (by have := HQ.out; rwa [List.take_of_length_le (by omega)] at this)
      go_wp2
      go_ret
      exact ⟨ret_bool he.out.symm, rfl⟩
theorem fquants_any {w : World} {v : Value} {l : List Int} (h : Ints w v l) : Calls Try.prog 30 #[v] w (SaysB (qall l) w) := by
  obtain ⟨hm, a, cap, rfl, _, h0 | ⟨b, o, rfl, hc⟩⟩ := h
  · have hl : l = [] := List.eq_nil_of_length_eq_zero h0
    subst hl
    exact fquants_empty a cap w
  · exact fquants_some b o cap l w hm hc

/-- A box of these cells. -/
def BoxA (W : World) (B : Nat) (t : TypeId) (cs : Array Value) : Prop := W.heap[B]? = some (.cells cs t (0, 0))
theorem BoxA.lt {W : World} {B : Nat} {t : TypeId} {cs : Array Value} (h : BoxA W B t cs) : B < W.heap.size := (Array.getElem?_eq_some_iff.1 h).1
theorem BoxA.cell {W : World} {B : Nat} {t : TypeId} {cs : Array Value} (h : BoxA W B t cs) (j : Nat) (v : Value) (hj : cs[j]? = some v := by rfl) : W.cell? ⟨B, j, none⟩ = some v := by
  simp [World.cell?, show W.heap[B]? = _ from h, hj]
theorem BoxA.free {W : World} {B : Nat} {t : TypeId} {cs : Array Value} (h : BoxA W B t cs) (j : Nat) : W.frozen? ⟨B, j, none⟩ = false := by simp [World.frozen?, show W.heap[B]? = _ from h]
theorem BoxA.new (W : World) (t : TypeId) (cs : Array Value) : BoxA (W.alloc (.cells cs t)) W.heap.size t cs := World.alloc_heap_new W _
theorem BoxA.next {W W' : World} {B : Nat} {t : TypeId} {cs : Array Value} (hb : Below W.heap.size W W') (h : BoxA W B t cs) : BoxA W' B t cs := (hb.block B h.lt).trans h
theorem BoxA.alloc {W : World} {B : Nat} {t : TypeId} {cs : Array Value} (h : BoxA W B t cs) (o : Obj) : BoxA (W.alloc o) B t cs := h.next ((Below.refl _ W).alloc (Nat.le_refl _) o)
theorem BoxA.kept {W W' : World} {row : Option Nat} {B : Nat} {t : TypeId} {cs : Array Value} (h : BoxA W B t cs) (hg : W.grownBy W' row) (hne : some B ≠ row) : BoxA W' B t cs := (hg.block B h.lt hne).trans h
/-- The cells of a shape. -/
def shpC (x : Shp) : Array Value := #[.int .i64 x.i, .int .i64 x.w, .int .i64 x.o, .int .i64 x.n, .int .i64 x.b, .int .i64 x.l]

/-- The six rows of a room. -/
structure Rw where
  an : List Int
  nn : List Int
  ab : List Int
  nb : List Int
  al : List Int
  nl : List Int
structure Rw.Ok (R : Rw) : Prop where
  n : OkP R.an R.nn
  b : OkP R.ab R.nb
  l : OkP R.al R.nl
/-- A room in memory. -/
structure RoomI (w : World) (n1 n2 b1 b2 l1 l2 : Value) (R : Rw) : Prop where
  n1 : Ints w n1 R.an
  n2 : Ints w n2 R.nn
  b1 : Ints w b1 R.ab
  b2 : Ints w b2 R.nb
  l1 : Ints w l1 R.al
  l2 : Ints w l2 R.nl
theorem Ints.form {w : World} {v : Value} {l : List Int} (h : Ints w v l) : ∃ a n c, v = .slice a n c := by
  obtain ⟨_, a, c, e, _⟩ := h
  exact ⟨a, _, c, e⟩
theorem RoomI.below {w w' : World} {n1 n2 b1 b2 l1 l2 : Value} {R : Rw} (h : RoomI w n1 n2 b1 b2 l1 l2 R) (hb : Below w.heap.size w w') : RoomI w' n1 n2 b1 b2 l1 l2 R :=
  ⟨h.n1.below hb (Nat.le_refl _), h.n2.below hb (Nat.le_refl _), h.b1.below hb (Nat.le_refl _), h.b2.below hb (Nat.le_refl _), h.l1.below hb (Nat.le_refl _), h.l2.below hb (Nat.le_refl _)⟩
theorem RoomI.n {w : World} {n1 n2 b1 b2 l1 l2 : Value} {R : Rw} (h : RoomI w n1 n2 b1 b2 l1 l2 R) : Prof w (.agg #[n1, n2]) R.an R.nn := ⟨_, _, rfl, h.n1, h.n2⟩
theorem RoomI.b {w : World} {n1 n2 b1 b2 l1 l2 : Value} {R : Rw} (h : RoomI w n1 n2 b1 b2 l1 l2 R) : Prof w (.agg #[b1, b2]) R.ab R.nb := ⟨_, _, rfl, h.b1, h.b2⟩
theorem RoomI.l {w : World} {n1 n2 b1 b2 l1 l2 : Value} {R : Rw} (h : RoomI w n1 n2 b1 b2 l1 l2 R) : Prof w (.agg #[l1, l2]) R.al R.nl := ⟨_, _, rfl, h.l1, h.l2⟩

/-- A shape as a value. -/
def shpV (x : Shp) : Value := .agg (shpC x)
theorem row6 (w : World) (a b c d e f : Int) : Ints (w.alloc (.cells #[.int .i64 a, .int .i64 b, .int .i64 c, .int .i64 d, .int .i64 e, .int .i64 f] 2)) (.slice (some ⟨w.heap.size, 0, none⟩) 6 6) [a, b, c, d, e, f] :=
  ⟨by show 6 ≤ maxLen; decide, _, 6, rfl, ⟨Nat.le_refl _, by decide⟩, .inr ⟨_, 0, rfl, fun j hj => by
    match j, hj with
    | 0, _ => go_simp
    | 1, _ => go_simp
    | 2, _ => go_simp
    | 3, _ => go_simp
    | 4, _ => go_simp
    | 5, _ => go_simp
    | j + 6, hj => (simp at hj; omega)⟩⟩
open Classical in
/-- Are they valid? -/
noncomputable def vld3 (R : Rw) (x : Shp) (l : List Int) : Bool := decide (R.Ok ∧ x.Q ∧ ∀ n ∈ l, Q n)
open Classical in
theorem vld3_yes {R : Rw} {x : Shp} {l : List Int} (h : R.Ok) (hx : x.Q) (hl : ∀ n ∈ l, Q n) : vld3 R x l = true := decide_eq_true ⟨h, hx, hl⟩
open Classical in
theorem vld3_no {R : Rw} {x : Shp} {l : List Int} (h : ¬ (R.Ok ∧ x.Q ∧ ∀ n ∈ l, Q n)) : vld3 R x l = false := decide_eq_false h
theorem shp_q {x : Shp} : (∀ n ∈ [x.i, x.w, x.o, x.n, x.b, x.l], Q n) ↔ x.Q := by
  constructor
  · intro h; exact ⟨h _ (by simp), h _ (by simp), h _ (by simp), h _ (by simp), h _ (by simp), h _ (by simp)⟩
  · intro h n hn
    simp at hn
    rcases hn with rfl | rfl | rfl | rfl | rfl | rfl
    · exact h.i
    · exact h.w
    · exact h.o
    · exact h.n
    · exact h.b
    · exact h.l

theorem ix3_0 (a b c d e f : Value) (w : World) : (Instr.index 78 (.agg #[a, b, c, d, e, f]) (.int .i64 0)).run Try.prog w = .ok (.agg #[a, b]) w := by kernel_rfl
theorem ix3_1 (a b c d e f : Value) (w : World) : (Instr.index 78 (.agg #[a, b, c, d, e, f]) (.int .i64 1)).run Try.prog w = .ok (.agg #[c, d]) w := by kernel_rfl
theorem ix3_2 (a b c d e f : Value) (w : World) : (Instr.index 78 (.agg #[a, b, c, d, e, f]) (.int .i64 2)).run Try.prog w = .ok (.agg #[e, f]) w := by kernel_rfl
set_option maxRecDepth 100000 in
set_option maxHeartbeats 1000000 in
theorem valid3_any {w : World} {n1 n2 b1 b2 l1 l2 u : Value} {R : Rw} {x : Shp} {l : List Int} (h : RoomI w n1 n2 b1 b2 l1 l2 R) (hl : Ints w u l) :
    Calls Try.prog 17 #[.agg #[n1, n2, b1, b2, l1, l2], shpV x, u] w (TellsB (vld3 R x l) w) := by
  have H1 := Lib.hid fun (W : World) (hb : Below w.heap.size w W) => check_any (h.below hb).n
  have H2 := Lib.hid fun (W : World) (hb : Below w.heap.size w W) => check_any (h.below hb).b
  have H3 := Lib.hid fun (W : World) (hb : Below w.heap.size w W) => check_any (h.below hb).l
  have HL := Lib.hid fun (W : World) (hb : Below w.heap.size w W) => fquants_any (hl.below hb (Nat.le_refl _))
  have h0 := h
  obtain ⟨p1, q1, r1, rfl⟩ := h0.n1.form
  obtain ⟨p2, q2, r2, rfl⟩ := h0.n2.form
  obtain ⟨p3, q3, r3, rfl⟩ := h0.b1.form
  obtain ⟨p4, q4, r4, rfl⟩ := h0.b2.form
  obtain ⟨p5, q5, r5, rfl⟩ := h0.l1.form
  obtain ⟨p6, q6, r6, rfl⟩ := h0.l2.form
  have bX := BoxA.new (w.alloc (.cells #[.slice p1 q1 r1, .slice p2 q2 r2, .slice p3 q3 r3, .slice p4 q4 r4, .slice p5 q5 r5, .slice p6 q6 r6] 26)) 28 (shpC x)
  rw [World.size_alloc] at bX
  have hb0 : Below w.heap.size w ((w.alloc (.cells #[.slice p1 q1 r1, .slice p2 q2 r2, .slice p3 q3 r3, .slice p4 q4 r4, .slice p5 q5 r5, .slice p6 q6 r6] 26)).alloc (.cells (shpC x) 28)) := ((Below.refl _ _).alloc (Nat.le_refl _) _).alloc (by simp) _
  have HB0 := Lib.hid hb0
  have HX := Lib.hid bX
  have HV0 := Lib.hid fun (h : ¬ (R.Ok ∧ x.Q ∧ ∀ n ∈ l, Q n)) => vld3_no h
  clear h h0 hl hb0 bX
  unfold shpV shpC
  go_enter Try.func17, Try.ntmps17
  go_wp2
  go_loopw [16] (fun i wr => ∃ k : Nat, k ≤ 3 ∧ i = .int .i64 (k : Int) ∧ Below w.heap.size w wr ∧ BoxA wr (w.heap.size + 1) 28 (shpC x) ∧ (0 < k → OkP R.an R.nn) ∧ (1 < k → OkP R.ab R.nb) ∧ (2 < k → OkP R.al R.nl)) (fun i _ => 3 - (intOf i).toNat)
  case atStart => exact ⟨0, by omega, rfl, HB0.out, HX.out, fun h => by omega, fun h => by omega, fun h => by omega⟩
  case round =>
    obtain ⟨k, hk, rfl, hb, hx, hk0, hk1, hk2⟩ := hrel
    have HK := Lib.hid (And.intro hk0 (And.intro hk1 hk2))
    have HBw := Lib.hid hb
    have HXw := Lib.hid hx
    clear hk0 hk1 hk2 hb hx
    match k, hk with
    | 0, _ =>
      have hix := ix3_0 (.slice p1 q1 r1) (.slice p2 q2 r2) (.slice p3 q3 r3) (.slice p4 q4 r4) (.slice p5 q5 r5) (.slice p6 q6 r6)
      have HC := Lib.hid (H1.out _ (HBw.out.alloc HBw.out.size (.cells #[.slice p1 q1 r1, .slice p2 q2 r2] 24)))
      have HB1 : Hid (Below wr.heap.size wr (wr.alloc (.cells #[.slice p1 q1 r1, .slice p2 q2 r2] 24))) := (Below.refl _ _).alloc (Nat.le_refl _) _
      by_cases hok : OkP R.an R.nn
      · have e0 : Hid (chk R.an R.nn = 0) := chk_yes hok
        go_wp2_with (go_at_call 29; refine HC.out.mono ?_; rintro e w1 ⟨rfl, hb1⟩; rw [e0.out]; have HB2 := Lib.hid (HB1.out.trans (hb1.mono HB1.out.size)); have HB3 := Lib.hid (HBw.out.trans (HB2.out.mono HBw.out.size)); clear hb1)
        go_roundw
        case rel => exact ⟨1, by omega, by go_num, HB3.out, BoxA.next HB2.out HXw.out, fun _ => hok, fun h => by omega, fun h => by omega⟩
        case measure => simp [intOf]
      · have e0 : Hid (chk R.an R.nn = 2) := chk_no hok
        have hfin : Hid (vld3 R x l = false) := HV0.out fun h => hok h.1.n
        go_wp2_with (go_at_call 29; refine HC.out.mono ?_; rintro e w1 ⟨rfl, hb1⟩; rw [e0.out]; have HB2 := Lib.hid (HB1.out.trans (hb1.mono HB1.out.size)); have HB3 := Lib.hid (HBw.out.trans (HB2.out.mono HBw.out.size)); clear hb1)
        go_ret
        exact ⟨ret_bool hfin.out.symm, HB3.out⟩
    | 1, _ =>
      have hix := ix3_1 (.slice p1 q1 r1) (.slice p2 q2 r2) (.slice p3 q3 r3) (.slice p4 q4 r4) (.slice p5 q5 r5) (.slice p6 q6 r6)
      have HC := Lib.hid (H2.out _ (HBw.out.alloc HBw.out.size (.cells #[.slice p3 q3 r3, .slice p4 q4 r4] 24)))
      have HB1 : Hid (Below wr.heap.size wr (wr.alloc (.cells #[.slice p3 q3 r3, .slice p4 q4 r4] 24))) := (Below.refl _ _).alloc (Nat.le_refl _) _
      by_cases hok : OkP R.ab R.nb
      · have e0 : Hid (chk R.ab R.nb = 0) := chk_yes hok
        go_wp2_with (go_at_call 29; refine HC.out.mono ?_; rintro e w1 ⟨rfl, hb1⟩; rw [e0.out]; have HB2 := Lib.hid (HB1.out.trans (hb1.mono HB1.out.size)); have HB3 := Lib.hid (HBw.out.trans (HB2.out.mono HBw.out.size)); clear hb1)
        go_roundw
        case rel => exact ⟨2, by omega, by go_num, HB3.out, BoxA.next HB2.out HXw.out, fun _ => HK.out.1 (by omega), fun _ => hok, fun h => by omega⟩
        case measure => simp [intOf]
      · have e0 : Hid (chk R.ab R.nb = 2) := chk_no hok
        have hfin : Hid (vld3 R x l = false) := HV0.out fun h => hok h.1.b
        go_wp2_with (go_at_call 29; refine HC.out.mono ?_; rintro e w1 ⟨rfl, hb1⟩; rw [e0.out]; have HB2 := Lib.hid (HB1.out.trans (hb1.mono HB1.out.size)); have HB3 := Lib.hid (HBw.out.trans (HB2.out.mono HBw.out.size)); clear hb1)
        go_ret
        exact ⟨ret_bool hfin.out.symm, HB3.out⟩
    | 2, _ =>
      have hix := ix3_2 (.slice p1 q1 r1) (.slice p2 q2 r2) (.slice p3 q3 r3) (.slice p4 q4 r4) (.slice p5 q5 r5) (.slice p6 q6 r6)
      have HC := Lib.hid (H3.out _ (HBw.out.alloc HBw.out.size (.cells #[.slice p5 q5 r5, .slice p6 q6 r6] 24)))
      have HB1 : Hid (Below wr.heap.size wr (wr.alloc (.cells #[.slice p5 q5 r5, .slice p6 q6 r6] 24))) := (Below.refl _ _).alloc (Nat.le_refl _) _
      by_cases hok : OkP R.al R.nl
      · have e0 : Hid (chk R.al R.nl = 0) := chk_yes hok
        go_wp2_with (go_at_call 29; refine HC.out.mono ?_; rintro e w1 ⟨rfl, hb1⟩; rw [e0.out]; have HB2 := Lib.hid (HB1.out.trans (hb1.mono HB1.out.size)); have HB3 := Lib.hid (HBw.out.trans (HB2.out.mono HBw.out.size)); clear hb1)
        go_roundw
        case rel => exact ⟨3, by omega, by go_num, HB3.out, BoxA.next HB2.out HXw.out, fun _ => HK.out.1 (by omega), fun _ => HK.out.2.1 (by omega), fun _ => hok⟩
        case measure => simp [intOf]
      · have e0 : Hid (chk R.al R.nl = 2) := chk_no hok
        have hfin : Hid (vld3 R x l = false) := HV0.out fun h => hok h.1.l
        go_wp2_with (go_at_call 29; refine HC.out.mono ?_; rintro e w1 ⟨rfl, hb1⟩; rw [e0.out]; have HB2 := Lib.hid (HB1.out.trans (hb1.mono HB1.out.size)); have HB3 := Lib.hid (HBw.out.trans (HB2.out.mono HBw.out.size)); clear hb1)
        go_ret
        exact ⟨ret_bool hfin.out.symm, HB3.out⟩
    | 3, _ =>
      have hok : Hid R.Ok := ⟨HK.out.1 (by omega), HK.out.2.1 (by omega), HK.out.2.2 (by omega)⟩
      have c0 := HXw.out.cell 0 (.int .i64 x.i)
      have c1 := HXw.out.cell 1 (.int .i64 x.w)
      have c2 := HXw.out.cell 2 (.int .i64 x.o)
      have c3 := HXw.out.cell 3 (.int .i64 x.n)
      have c4 := HXw.out.cell 4 (.int .i64 x.b)
      have c5 := HXw.out.cell 5 (.int .i64 x.l)
      by_cases hq : ∀ n ∈ l, Q n
      · have e1 : Hid (qall l = true) := qall_of hq
        have HQ := Lib.hid hq
        clear hq
        by_cases hxq : x.Q
        · have e2 : Hid (qall [x.i, x.w, x.o, x.n, x.b, x.l] = true) := qall_of (shp_q.2 hxq)
          have hfin : Hid (vld3 R x l = true) := vld3_yes hok.out hxq HQ.out
          have HF := Lib.hid (fquants_any (row6 wr x.i x.w x.o x.n x.b x.l))
          clear hxq
          go_wp2_with (first | (go_at_call 30; (with_reducible refine (HL.out _ HBw.out).mono ?_); rintro e w1 ⟨rfl, rfl⟩; rw [e1.out]) | (go_at_call 30; refine HF.out.mono ?_; rintro e w1 ⟨rfl, rfl⟩; rw [e2.out]))
          go_ret
          exact ⟨ret_bool hfin.out.symm, HBw.out.alloc HBw.out.size _⟩
        · have e2 : Hid (qall [x.i, x.w, x.o, x.n, x.b, x.l] = false) := qall_not fun h => hxq (shp_q.1 h)
          have hfin : Hid (vld3 R x l = false) := HV0.out fun h => hxq h.2.1
          have HF := Lib.hid (fquants_any (row6 wr x.i x.w x.o x.n x.b x.l))
          clear hxq
          go_wp2_with (first | (go_at_call 30; (with_reducible refine (HL.out _ HBw.out).mono ?_); rintro e w1 ⟨rfl, rfl⟩; rw [e1.out]) | (go_at_call 30; refine HF.out.mono ?_; rintro e w1 ⟨rfl, rfl⟩; rw [e2.out]))
          go_ret
          exact ⟨ret_bool hfin.out.symm, HBw.out.alloc HBw.out.size _⟩
      · have e1 : Hid (qall l = false) := qall_not hq
        have hfin : Hid (vld3 R x l = false) := HV0.out fun h => hq h.2.2
        clear hq
        go_wp2_with (go_at_call 30; (with_reducible refine (HL.out _ HBw.out).mono ?_); rintro e w1 ⟨rfl, rfl⟩; rw [e1.out])
        go_ret
        exact ⟨ret_bool hfin.out.symm, HBw.out⟩
end Go.Proofs.Ytigomdihkojdmaa.gn
