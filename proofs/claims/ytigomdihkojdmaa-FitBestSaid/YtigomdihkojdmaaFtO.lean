/- First; the document's New, Quantity, Great; always. -/
import Derived.Test.YtigomdihkojdmaaFtN
import Derived.Test.YtigomdihkojdmaaFtJ
namespace Go.Proofs.Ytigomdihkojdmaa.gn
open Go.RowKit Go.Shelf
open Go.Proofs.Ytigomdihkojdmaa.sp

set_option maxRecDepth 100000 in
set_option maxHeartbeats 1000000 in
theorem First_yes {w : World} {v : Value} {L : List (Int × Int)} {f long n : Int} (h : Prof w v (L.map Prod.fst) (L.map Prod.snd)) (hL : Ok L) (hf : Q f) (hl : Q long) (hn : Q n) :
    Calls Try.prog 15 #[v, .int .i64 f, .int .i64 long, .int .i64 n] w fun e w' => e = .returned (fitV (fst? L f long n)) ∧ Below w.heap.size w w' := by
  have HC := Lib.hid fun (W : World) (hW : Below w.heap.size w W) => check_any (h.below hW (Nat.le_refl _))
  have HF := Lib.hid fun (W : World) (hW : Below w.heap.size w W) => first_any (f := f) (long := long) (n := n) (h.below hW (Nat.le_refl _)) hL hf.1 (by have := hf.2; omega)
  have e0 : Hid (chk (L.map Prod.fst) (L.map Prod.snd) = 0) := chk_yes ⟨L, hL, rfl, rfl⟩
  have eq : Hid (qall [f, long, n] = true) := qall_of (quant3.2 ⟨hf, hl, hn⟩)
  obtain ⟨v1, v2, rfl, h1, h2⟩ := h
  have hb0 : Below w.heap.size w (w.alloc (.cells #[v1, v2] 24)) := (Below.refl _ _).alloc (Nat.le_refl _) _
  have bS := BoxA.new w 24 #[v1, v2]
  have HB0 := Lib.hid (And.intro hb0 bS)
  have hfv : fitV (fst? L f long n) = .tuple #[match fst? L f long n with | some a => .int .i64 a | none => .int .i64 0, match fst? L f long n with | some _ => .int .i64 0 | none => .int .i64 7] := by cases fst? L f long n <;> rfl
  rw [hfv] at HF ⊢
  clear hfv h1 h2 hL hf hl hn hb0 bS
  generalize (match fst? L f long n with | some a => Value.int .i64 a | none => .int .i64 0) = u1 at *
  generalize (match fst? L f long n with | some _ => Value.int .i64 0 | none => .int .i64 7) = u2 at *
  go_enter Try.func15, Try.ntmps15
  go_wp2_with (first
    | (go_at_call 29; refine (HC.out _ HB0.out.1).mono ?_; rintro e w1 ⟨rfl, hb1⟩; rw [e0.out]; have B1 := HB0.out.2.next hb1; have s0 := B1.cell 0 v1; have s1 := B1.cell 1 v2; have sl := B1.lt; have HB1 := Lib.hid (And.intro (HB0.out.1.trans (hb1.mono HB0.out.1.size)) B1); clear hb1 B1)
    | (go_at_call 30; refine (fquants_any (row3 _ f long n)).mono ?_; rintro e w2 ⟨rfl, rfl⟩; rw [eq.out])
    | (go_at_call 21; refine (HF.out _ (HB1.out.1.alloc HB1.out.1.size _)).mono ?_; rintro e w3 ⟨rfl, hb3⟩; have HB3 := Lib.hid ((HB1.out.1.alloc HB1.out.1.size _).trans (hb3.mono (HB1.out.1.alloc HB1.out.1.size _).size)); clear hb3))
  go_ret2
  exact ⟨rfl, HB3.out⟩

def qB (n : Int) : Bool := decide (0 ≤ n ∧ n ≤ 1099511627776)
theorem qB_iff {n : Int} : qB n = true ↔ Q n := by unfold qB Q; simp
theorem Quantity_any (n : Int) (w : World) : Calls Try.prog 13 #[.int .i64 n] w (SaysB (qB n) w) := by
  by_cases h0 : 0 ≤ n
  · have h1 : Hid (qB n = decide (n ≤ 1099511627776)) := by show _ = _; unfold qB; simp [h0]
    go_enter Try.func13, Try.ntmps13
    go_wp2
    go_ret
    exact ⟨ret_bool h1.out.symm, rfl⟩
  · have h1 : Hid (qB n = false) := by show _ = _; unfold qB; simp [h0]
    go_enter Try.func13, Try.ntmps13
    go_wp2
    go_ret
    exact ⟨ret_bool h1.out.symm, rfl⟩

theorem dOf_q (n : Int) (h0 : 0 ≤ n) (h1 : n ≤ 1099511627776) (w : World) : Calls Try.prog 45 #[.int .i64 n] w (Says n w) := by
  go_enter Try.func45, Try.ntmps45
  go_wp2
  go_ret
  exact ⟨rfl, rfl⟩
theorem New_any (n : Int) (hn : Q n) (w : World) : Calls Try.prog 31 #[.int .i64 n] w fun e w' => ∃ b1 b2 : Nat, e = .returned (.agg #[.slice (some ⟨b1, 0, none⟩) 1 1, .slice (some ⟨b2, 0, none⟩) 1 1]) ∧
    Ints w' (.slice (some ⟨b1, 0, none⟩) 1 1) [0] ∧ Ints w' (.slice (some ⟨b2, 0, none⟩) 1 1) [n] ∧ Below w.heap.size w w' := by
  have HQ := Lib.hid hn
  clear hn
  go_enter Try.func31, Try.ntmps31
  go_wp2_with (go_at_call 45; refine (dOf_q _ HQ.out.1 HQ.out.2 _).mono ?_; rintro e w1 ⟨rfl, rfl⟩)
  have bS := ((BoxA.new w 24 #[.slice (some ⟨w.heap.size + 1, 0, none⟩) 1 1, .slice (some ⟨w.heap.size + 1 + 1, 0, none⟩) 1 1]).alloc (.cells #[.int .i64 0] 2)).alloc (.cells #[.int .i64 n] 2)
  have c0 := bS.cell 0 (.slice (some ⟨w.heap.size + 1, 0, none⟩) 1 1)
  have c1 := bS.cell 1 (.slice (some ⟨w.heap.size + 1 + 1, 0, none⟩) 1 1)
  have i1 := (row1 (w.alloc (.cells #[.slice (some ⟨w.heap.size + 1, 0, none⟩) 1 1, .slice (some ⟨w.heap.size + 1 + 1, 0, none⟩) 1 1] 24)) 0).alloc (.cells #[.int .i64 n] 2)
  have i2 := row1 ((w.alloc (.cells #[.slice (some ⟨w.heap.size + 1, 0, none⟩) 1 1, .slice (some ⟨w.heap.size + 1 + 1, 0, none⟩) 1 1] 24)).alloc (.cells #[.int .i64 0] 2)) n
  simp only [World.size_alloc] at i1 i2
  exact bodyPost_ret (v := .agg #[.slice (some ⟨w.heap.size + 1, 0, none⟩) 1 1, .slice (some ⟨w.heap.size + 1 + 1, 0, none⟩) 1 1]) (by simp [results, Try.results31, go_sem, c0, c1]) rfl
    ⟨_, _, rfl, i1, i2, (((Below.refl _ w).alloc (Nat.le_refl _) _).alloc (by simp) _).alloc (by simp; omega) _⟩

/-- A room that is always so. -/
def alwR (a b c : Int) : Rw := ⟨[0], [a], [0], [b], [0], [c]⟩
def alwM (a b c : Int) : Rm := ⟨[(0, a)], [(0, b)], [(0, c)]⟩
theorem one_ok {a : Int} (h : Q a) : Ok [(0, a)] := ⟨by simp, List.pairwise_singleton _ _, ⟨a, by simp⟩, fun p hp => by simp at hp; subst hp; exact ⟨⟨(by decide : (0 : Int) ≤ 0), (by decide : (0 : Int) ≤ 1099511627776)⟩, h⟩⟩
theorem alw_ok {a b c : Int} (ha : Q a) (hb : Q b) (hc : Q c) : (alwM a b c).Ok := ⟨one_ok ha, one_ok hb, one_ok hc⟩
theorem alw_is (a b c : Int) : (alwR a b c).Is (alwM a b c) := ⟨rfl, rfl, rfl, rfl, rfl, rfl⟩
set_option maxRecDepth 100000 in
set_option maxHeartbeats 2000000 in
theorem always_any (a b c : Int) (ha : Q a) (hb : Q b) (hc : Q c) (w : World) : Calls Try.prog 16 #[.int .i64 a, .int .i64 b, .int .i64 c] w fun e w' => ∃ v : Rv, e = .returned (.agg v.c) ∧ RoomV w' v (alwR a b c) ∧ Below w.heap.size w w' := by
  have HQ := Lib.hid (And.intro ha (And.intro hb hc))
  have hb0 : Below w.heap.size w (w.alloc (.cells #[.slice none 0 0, .slice none 0 0, .slice none 0 0, .slice none 0 0, .slice none 0 0, .slice none 0 0] 26)) := (Below.refl _ _).alloc (Nat.le_refl _) _
  have bO := BoxA.new w 26 #[.slice none 0 0, .slice none 0 0, .slice none 0 0, .slice none 0 0, .slice none 0 0, .slice none 0 0]
  have HB0 := Lib.hid (And.intro hb0 bO)
  clear ha hb hc hb0 bO
  go_enter Try.func16, Try.ntmps16
  go_wp2_with (first
    | (go_at_call 31; ((with_reducible refine (New_any a HQ.out.1 _).mono ?_); rintro e w1 ⟨x1, x2, rfl, i1, i2, hb1⟩; have HB1 := Lib.hid (And.intro i1 (And.intro i2 (And.intro (HB0.out.1.trans (hb1.mono HB0.out.1.size)) (HB0.out.2.next hb1)))); clear i1 i2 hb1))
    | (go_at_call 31; ((with_reducible refine (New_any b HQ.out.2.1 _).mono ?_); rintro e w2 ⟨x3, x4, rfl, i1, i2, hb1⟩; have HB2 := Lib.hid (And.intro i1 (And.intro i2 (And.intro (HB1.out.2.2.1.trans (hb1.mono HB1.out.2.2.1.size)) (And.intro (HB1.out.2.2.2.next hb1) (And.intro (HB1.out.1.below hb1 (Nat.le_refl _)) (HB1.out.2.1.below hb1 (Nat.le_refl _))))))); clear i1 i2 hb1))
    | (go_at_call 31; ((with_reducible refine (New_any c HQ.out.2.2 _).mono ?_); rintro e w3 ⟨x5, x6, rfl, i1, i2, hb1⟩; have bO := HB2.out.2.2.2.1.next hb1; have b0 := bO.cell 0 (.slice none 0 0); have b1 := bO.cell 1 (.slice none 0 0); have b2 := bO.cell 2 (.slice none 0 0); have b3 := bO.cell 3 (.slice none 0 0); have b4 := bO.cell 4 (.slice none 0 0); have b5 := bO.cell 5 (.slice none 0 0); have f0 := bO.free 0; have f1 := bO.free 1; have f2 := bO.free 2; have f3 := bO.free 3; have f4 := bO.free 4; have f5 := bO.free 5; have HB3 := Lib.hid (And.intro (HB2.out.2.2.1.trans (hb1.mono HB2.out.2.2.1.size)) (And.intro bO (RoomI.mk (R := alwR a b c) (HB2.out.2.2.2.2.1.below hb1 (Nat.le_refl _)) (HB2.out.2.2.2.2.2.below hb1 (Nat.le_refl _)) (HB2.out.1.below hb1 (Nat.le_refl _)) (HB2.out.2.1.below hb1 (Nat.le_refl _)) i1 i2))); clear i1 i2 hb1 bO)))
  obtain ⟨v, hv⟩ : ∃ v : Rv, v = ⟨some ⟨x1, 0, none⟩, 1, 1, some ⟨x2, 0, none⟩, 1, 1, some ⟨x3, 0, none⟩, 1, 1, some ⟨x4, 0, none⟩, 1, 1, some ⟨x5, 0, none⟩, 1, 1, some ⟨x6, 0, none⟩, 1, 1⟩ := ⟨_, rfl⟩
  have hR : RoomV w3 v (alwR a b c) := by rw [hv]; exact HB3.out.2.2
  have hs := room_six HB3.out.2.1 hR
  have bQ := (((((HB3.out.2.1.set 0 (.slice v.p1 v.q1 v.r1)).set 1 (.slice v.p2 v.q2 v.r2)).set 2 (.slice v.p3 v.q3 v.r3)).set 3 (.slice v.p4 v.q4 v.r4)).set 4 (.slice v.p5 v.q5 v.r5)).set 5 (.slice v.p6 v.q6 v.r6)
  have y0 := bQ.cell 0 (.slice v.p1 v.q1 v.r1)
  have y1 := bQ.cell 1 (.slice v.p2 v.q2 v.r2)
  have y2 := bQ.cell 2 (.slice v.p3 v.q3 v.r3)
  have y3 := bQ.cell 3 (.slice v.p4 v.q4 v.r4)
  have y4 := bQ.cell 4 (.slice v.p5 v.q5 v.r5)
  have y5 := bQ.cell 5 (.slice v.p6 v.q6 v.r6)
  subst hv
  refine bodyPost_ret (v := .agg (Rv.c _)) (by simp [results, Try.results16, go_sem, y0, y1, y2, y3, y4, y5]) rfl ⟨_, rfl, hs, ?_⟩
  exact (((((HB3.out.1.setCell (p := ⟨w.heap.size, 0, none⟩) (by simp) _).setCell (p := ⟨w.heap.size, 1, none⟩) (by simp) _).setCell (p := ⟨w.heap.size, 2, none⟩) (by simp) _).setCell (p := ⟨w.heap.size, 3, none⟩) (by simp) _).setCell (p := ⟨w.heap.size, 4, none⟩) (by simp) _).setCell (p := ⟨w.heap.size, 5, none⟩) (by simp) _

/-- Is a room too great to be looked at? (Lengths are summed as the machine does.) -/
def gsum (a b c : Nat) : Int := wrap64 (wrap64 ((a : Int) + b) + c)
def great (R : Rw) : Bool := decide (40 < gsum R.an.length R.ab.length R.al.length) || decide (40 < gsum R.nn.length R.nb.length R.nl.length)
theorem gsum_small {a b c : Nat} (ha : a ≤ 2000) (hb : b ≤ 2000) (hc : c ≤ 2000) : gsum a b c = a + b + c := by
  unfold gsum
  rw [wrap_id (n := (a : Int) + b) (by omega) (by omega), wrap_id (n := (a : Int) + b + c) (by omega) (by omega)]
theorem great_no {R : Rw} {r : Rm} (hr : r.Ok) (hR : R.Is r) (h : great R = false) : r.n.length + r.b.length + r.l.length ≤ 40 := by
  unfold great at h
  have h1 := of_decide_eq_false (Bool.or_eq_false_iff.1 h).1
  rw [hR.an, hR.ab, hR.al, List.length_map, List.length_map, List.length_map, gsum_small hr.n.le hr.b.le hr.l.le] at h1
  omega
theorem Ints.len {w : World} {a : Option Addr} {n c : Nat} {l : List Int} (h : Ints w (.slice a n c) l) : n = l.length := by
  obtain ⟨hm, a', c', e, _⟩ := h
  simp at e
  exact e.2.1
theorem great_any {w : World} {v : Rv} {R : Rw} (h : RoomV w v R) : Calls Try.prog 6 #[.agg v.c] w (TellsB (great R) w) := by
  have hg : great R = (decide (40 < wrap64 (wrap64 ((v.q1 : Int) + v.q3) + v.q5)) || decide (40 < wrap64 (wrap64 ((v.q2 : Int) + v.q4) + v.q6))) := by unfold great gsum; rw [h.n1.len, h.n2.len, h.b1.len, h.b2.len, h.l1.len, h.l2.len]
  obtain ⟨i1, h1⟩ : ∃ i : Int, (v.q1 : Int) = i := ⟨_, rfl⟩
  obtain ⟨i2, h2⟩ : ∃ i : Int, (v.q2 : Int) = i := ⟨_, rfl⟩
  obtain ⟨i3, h3⟩ : ∃ i : Int, (v.q3 : Int) = i := ⟨_, rfl⟩
  obtain ⟨i4, h4⟩ : ∃ i : Int, (v.q4 : Int) = i := ⟨_, rfl⟩
  obtain ⟨i5, h5⟩ : ∃ i : Int, (v.q5 : Int) = i := ⟨_, rfl⟩
  obtain ⟨i6, h6⟩ : ∃ i : Int, (v.q6 : Int) = i := ⟨_, rfl⟩
  rw [h1, h2, h3, h4, h5, h6] at hg
  have HG := Lib.hid hg
  have E1 := Lib.hid h1
  have E2 := Lib.hid h2
  have E3 := Lib.hid h3
  have E4 := Lib.hid h4
  have E5 := Lib.hid h5
  have E6 := Lib.hid h6
  clear hg h h1 h2 h3 h4 h5 h6
  go_enter Try.func6, Try.ntmps6
  go_wp2_with (first | rw [E1.out] | rw [E2.out] | rw [E3.out] | rw [E4.out] | rw [E5.out] | rw [E6.out])
  all_goals
    go_ret
    refine ⟨ret_bool ?_, (Below.refl _ _).alloc (Nat.le_refl _) _⟩
    rw [HG.out]
    first | done | (rename_i h; rw [decide_eq_true h]; done) | (rename_i h; rw [decide_eq_true h, Bool.true_or])
end Go.Proofs.Ytigomdihkojdmaa.gn
