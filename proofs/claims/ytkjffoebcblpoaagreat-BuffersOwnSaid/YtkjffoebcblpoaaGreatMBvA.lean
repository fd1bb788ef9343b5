/- The program's small calls: number, compare, copied, copyOf, the closures. -/
import Derived.Test.YtkjffoebcblpoaaGreatMBuA
import Derived.Test.YtkjffoebcblpoaaGreatMBuO
import Derived.Lib.Bytealg
import Derived.Deep.RegionHeld3
import Derived.Deep.RegionWith
section
set_option linter.unusedVariables false
set_option linter.unusedSimpArgs false
namespace Go.Proofs.YtkjffoebcblpoaaGreat.gn
open Go.RowKit
open Go.Proofs.YtkjffoebcblpoaaGreat.ex (X)
open Go.Proofs.YtkjffoebcblpoaaGreat.bu (Bf May jobOk cmpJ cmpB same)

theorem number_any (n : Int) (w : World) : Calls Tryz.prog 44 #[.int .i64 n] w fun e w' => e = .returned (.bool (decide (jobOk n))) ∧ w' = w := by
  by_cases h1 : 1 ≤ n
  · have d1 : decide (1 ≤ n) = true := decide_eq_true h1
    by_cases h2 : n ≤ 1073741824
    · have d2 : decide (n ≤ 1073741824) = true := decide_eq_true h2
      have H := Lib.hid (show decide (jobOk n) = true from decide_eq_true ⟨h1, h2⟩)
      go_enter Tryz.func44, Tryz.ntmps44
      go_wp2
      go_ret
      exact ⟨by rw [H.out]; rfl, rfl⟩
    · have d2 : decide (n ≤ 1073741824) = false := decide_eq_false h2
      have H := Lib.hid (show decide (jobOk n) = false from decide_eq_false (by unfold jobOk; omega))
      go_enter Tryz.func44, Tryz.ntmps44
      go_wp2
      go_ret
      exact ⟨by rw [H.out]; rfl, rfl⟩
  · have d1 : decide (1 ≤ n) = false := decide_eq_false h1
    have H := Lib.hid (show decide (jobOk n) = false from decide_eq_false (by unfold jobOk; omega))
    go_enter Tryz.func44, Tryz.ntmps44
    go_wp2
    go_ret
    exact ⟨by rw [H.out]; rfl, rfl⟩

/-! ### compare -/
theorem bisNaN_any (a : Int) (w : World) : Calls Tryz.prog 88 #[.int .i64 a] w fun e w' => e = .returned (.bool false) ∧ w' = w := by
  go_enter Tryz.func88, Tryz.ntmps88
  go_wp2
  go_ret
  exact ⟨by simp, rfl⟩
theorem bcmp_any (a b : Int) (w : World) : Calls Tryz.prog 62 #[.int .i64 a, .int .i64 b] w fun e w' => e = .returned (.int .i64 (cmpJ a b)) ∧ w' = w := by
  unfold bu.cmpJ
  by_cases h1 : a < b
  · rw [if_pos h1]
    go_enter Tryz.func62, Tryz.ntmps62
    go_wp2_with (go_at_call 88; refine (bisNaN_any _ _).mono ?_; rintro e w' ⟨rfl, rfl⟩)
    go_ret
    exact ⟨rfl, rfl⟩
  · by_cases h2 : b < a
    · rw [if_neg h1, if_pos h2]
      go_enter Tryz.func62, Tryz.ntmps62
      go_wp2_with (go_at_call 88; refine (bisNaN_any _ _).mono ?_; rintro e w' ⟨rfl, rfl⟩)
      go_ret
      exact ⟨rfl, rfl⟩
    · rw [if_neg h1, if_neg h2]
      go_enter Tryz.func62, Tryz.ntmps62
      go_wp2_with (go_at_call 88; refine (bisNaN_any _ _).mono ?_; rintro e w' ⟨rfl, rfl⟩)
      go_ret
      exact ⟨rfl, rfl⟩
set_option maxRecDepth 100000 in
theorem ccmp_any (a b : List UInt8) (w : World) : Calls Tryz.prog 89 #[.string (str a), .string (str b)] w fun e w' => e = .returned (.int .i64 (Lib.compareBytes a b)) ∧ w' = w := by
  go_enter Tryz.func89, Tryz.ntmps89
  go_wp2
  rw [run_callFunc_extern Tryz.func97 (by kernel_rfl) (by kernel_rfl) (by kernel_rfl) (e := Extern.BytealgCompare.compare) (by kernel_rfl), Lib.run_compareString]
  simp only [Result.andThen]
  rw [Oper.upon_value]
  go_wp2
  go_ret
  exact ⟨rfl, rfl⟩
theorem scmp_any (a b : List UInt8) (w : World) : Calls Tryz.prog 64 #[.string (str a), .string (str b)] w fun e w' => e = .returned (.int .i64 (Lib.compareBytes a b)) ∧ w' = w := by
  go_enter Tryz.func64, Tryz.ntmps64
  go_wp2_with (go_at_call 89; refine (ccmp_any _ _ _).mono ?_; rintro e w' ⟨rfl, rfl⟩)
  go_ret
  exact ⟨rfl, rfl⟩
/-- The first of two that is not zero. -/
theorem cor_any (g : Nat) (a b : Int) (w : World) (h0 : w.cell? ⟨g, 0, none⟩ = some (.int .i64 a)) (h1 : w.cell? ⟨g, 1, none⟩ = some (.int .i64 b)) :
    Calls Tryz.prog 63 #[.slice (some ⟨g, 0, none⟩) 2 2] w fun e w' => e = .returned (.int .i64 (if a ≠ 0 then a else b)) ∧ w' = w := by
  by_cases ha : a = 0
  · rw [if_neg (by simpa using ha)]
    subst ha
    by_cases hb : b = 0
    · subst hb
      go_enter Tryz.func63, Tryz.ntmps63
      go_wp2
      refine wp_loop_rounds 3 ?_
      rw [rounds_succ]
      go_wp2
      rw [rounds_succ]
      go_wp2
      rw [rounds_succ]
      go_wp2
      go_ret
      exact ⟨rfl, rfl⟩
    · have hb2 : (b != 0) = true := by simpa using hb
      go_enter Tryz.func63, Tryz.ntmps63
      go_wp2
      refine wp_loop_rounds 3 ?_
      rw [rounds_succ]
      go_wp2
      rw [rounds_succ]
      go_wp2
      go_ret
      exact ⟨rfl, rfl⟩
  · rw [if_pos ha]
    have ha2 : (a != 0) = true := by simpa using ha
    go_enter Tryz.func63, Tryz.ntmps63
    go_wp2
    refine wp_loop_rounds 3 ?_
    rw [rounds_succ]
    go_wp2
    go_ret
    exact ⟨rfl, rfl⟩

/-! ### copies of rows -/
theorem eltXt : EltI 23 55 (.agg #[.int .i64 0, .int .i64 0]) 2 16 := elt_ofB Tryz.underlying23 (by kernel_rfl) rfl (by decide)
theorem cpX_any {w : World} {v : Value} {l : List X} (h : RX w v l) (hl : l.length ≤ 1000000) : Calls Tryz.prog 67 #[v] w fun e w' => ∃ u, e = .returned u ∧ ApC w.heap.size 55 2 w' u l.length (xcs l) ∧ Below w.heap.size w w' := by
  obtain ⟨p, c, rfl, -⟩ := h.form
  have hr : RdC w (.slice p l.length c) l.length (xcs l) := h
  clear h
  go_enter Tryz.func67, Tryz.ntmps67
  go_wp2_with (at_builtin; refine wpl_ap eltXt rfl _ _ rfl (base := w.heap.size) rfl (.inl ⟨none, rfl, rfl, rfl⟩) rfl hr (xcs_len l) (xcs_one l) (by unfold maxLen; omega) (by omega) (Nat.le_refl _) ?_; intro p' c' w1 h1 h2 h3; have H1 := Lib.hid (And.intro h1 h3); clear h1 h2 h3)
  go_ret
  refine ⟨_, rfl, ?_, H1.out.2⟩
  have := H1.out.1
  rw [Nat.zero_add, List.nil_append] at this
  exact this
theorem cpI_any {w : World} {v : Value} {l : List Int} (h : RI w v l) (hl : l.length ≤ 1000000) : Calls Tryz.prog 68 #[v] w fun e w' => ∃ u, e = .returned u ∧ OutI w.heap.size w' u l ∧ Below w.heap.size w w' := by
  obtain ⟨p, c, rfl, -⟩ := h.form
  have hr : RdC w (.slice p l.length c) l.length (ics l) := h
  clear h
  go_enter Tryz.func68, Tryz.ntmps68
  go_wp2_with (at_builtin; refine wpl_ap eltI64 rfl _ _ rfl (base := w.heap.size) rfl (.inl ⟨none, rfl, rfl, rfl⟩) rfl hr (by rw [ics_len, Nat.mul_one]) (ics_one l) (by unfold maxLen; omega) (by omega) (Nat.le_refl _) ?_; intro p' c' w1 h1 h2 h3; have H1 := Lib.hid (And.intro h1 h3); clear h1 h2 h3)
  go_ret
  refine ⟨_, rfl, ?_, H1.out.2⟩
  have := H1.out.1
  rw [Nat.zero_add, List.nil_append] at this
  exact this
theorem cpB_any {w : World} {v : Value} {L : List (Bf × Gb)} (h : RBs w v L) (hl : L.length ≤ 1000000) : Calls Tryz.prog 66 #[v] w fun e w' => ∃ u, e = .returned u ∧ OutS w.heap.size w' u L ∧ Below w.heap.size w w' := by
  obtain ⟨p, c, rfl, -⟩ := h.form
  go_enter Tryz.func66, Tryz.ntmps66
  go_wp2_with (at_builtin; refine wpl_ap eltB rfl _ _ rfl (base := w.heap.size) rfl (.inl ⟨none, rfl, rfl, rfl⟩) rfl h.row (bcl_len L) (bcl_one h.rows) (by unfold maxLen; omega) (by omega) (Nat.le_refl _) ?_; intro p' c' w1 h1 h2 h3; have H1 := Lib.hid (And.intro h1 h3); clear h1 h2 h3)
  go_ret
  refine ⟨_, rfl, ⟨?_⟩, H1.out.2⟩
  have := H1.out.1
  rw [Nat.zero_add, List.nil_append] at this
  exact this
end Go.Proofs.YtkjffoebcblpoaaGreat.gn
end
section
set_option linter.unusedVariables false
set_option linter.unusedSimpArgs false
namespace Go.Proofs.YtkjffoebcblpoaaGreat.gn
open Go.RowKit
open Go.Proofs.YtkjffoebcblpoaaGreat.ex (X)
open Go.Proofs.YtkjffoebcblpoaaGreat.bu (Bf May)

/-- A row stands where no block of its own or above turned. -/
theorem ApC.above {base : Nat} {e : TypeId} {size : Nat} {w w' : World} {v : Value} {n : Nat} {cs : List Value} (h : ApC base e size w v n cs) (hk : ∀ k, base ≤ k → k < w.heap.size → w'.heap[k]? = w.heap[k]?) : ApC base e size w' v n cs := by
  rcases h with h | ⟨h1, h2 | ⟨g, cap, cur, e', hb, hg, r⟩⟩
  · exact .inl h
  · exact .inr ⟨h1, .inl h2⟩
  · exact .inr ⟨h1, .inr ⟨g, cap, cur, e', hb, (hk g hb (Array.getElem?_eq_some_iff.1 hg).1).trans hg, r⟩⟩
/-- A buffer with rows of the call's own. -/
def CpQ (w : World) (b : Bf) (en : Ending) (w' : World) : Prop := ∃ g : Gb, en = .returned (bV b g) ∧ ApC w.heap.size 55 2 w' g.e b.exts.length (xcs b.exts) ∧ OutI w.heap.size w' g.r b.refs ∧ Below w.heap.size w w'
set_option maxRecDepth 100000 in
set_option maxHeartbeats 4000000 in
theorem copyOf_any (b : Bf) (g : Gb) (w : World) (h : RB w b g) (he : b.exts.length ≤ 1000000) (hr : b.refs.length ≤ 1000000) : Calls Tryz.prog 35 #[bV b g] w (CpQ w b) := by
  obtain ⟨ge, gr⟩ := g
  obtain ⟨W1, hW1⟩ : ∃ W, w.alloc (.cells (bcs b ⟨ge, gr⟩) 26) = W := ⟨_, rfl⟩
  have hb1 : BufB W1 w.heap.size b ⟨ge, gr⟩ := by rw [← hW1]; exact BoxA.new _ _ _
  have hl1 : Below w.heap.size w W1 := by rw [← hW1]; exact (Below.refl _ _).alloc (Nat.le_refl _) _
  have hs1 : W1.heap.size = w.heap.size + 1 := by rw [← hW1]; exact World.size_alloc _ _
  obtain ⟨W2, hW2⟩ : ∃ W, W1.alloc (.cells #[.int .i64 0, .string { data := #[] }, .string { data := #[] }, .string { data := #[] }, .bool false, .slice none 0 0, .slice none 0 0] 26) = W := ⟨_, rfl⟩
  have hb2 : BoxA W2 W1.heap.size 26 #[.int .i64 0, .string { data := #[] }, .string { data := #[] }, .string { data := #[] }, .bool false, .slice none 0 0, .slice none 0 0] := by rw [← hW2]; exact BoxA.new _ _ _
  have hl2 : Below W1.heap.size W1 W2 := by rw [← hW2]; exact (Below.refl _ _).alloc (Nat.le_refl _) _
  have HX := Lib.hid (fun (Y : World) (hY : Below W2.heap.size W2 Y) => cpX_any (((h.next hl1).next hl2).next hY).e he)
  have HI := Lib.hid (fun (Y : World) (hY : Below W2.heap.size W2 Y) => cpI_any (((h.next hl1).next hl2).next hY).r hr)
  have HB := Lib.hid (fun (Y : World) (hY : Below W2.heap.size W2 Y) => (BufB.next (BufB.next hb1 hl2) hY).cells)
  have HB1 := Lib.hid (BufB.next hb1 hl2)
  have HW1 := Lib.hid hW1
  have HW2 := Lib.hid hW2
  have HH := Lib.hid (And.intro hb1 (And.intro hl1 (And.intro hs1 (And.intro hb2 hl2))))
  unfold bcs at HW1
  dsimp only at HB
  have HB2 := Lib.hid (HB.out W2 (Below.refl _ _))
  clear hW1 hb1 hl1 hs1 hW2 hb2 hl2
  obtain ⟨c0, c1, c2, c3, c4, c5, c6, clt⟩ := HB2.out
  unfold bV bcs
  dsimp only
  go_enter Tryz.func35, Tryz.ntmps35
  go_upto_region 1 with fail
  rw [HW1.out]
  rw [HW2.out]
  go_region_with (first
    | (go_at_call 67; (with_reducible refine (HX.out _ ?_).mono ?_); (first | exact drew_lowB _ | exact Below.refl _ _); rintro e w5 ⟨ue, rfl, h5, hl5⟩; obtain ⟨pe, ce, rfl, -⟩ := ApC.form h5; have B5 := Lib.hid ((drew_lowB W2).trans hl5); have H5 := Lib.hid h5; clear h5 hl5; obtain ⟨-, -, -, -, -, x5, x6, xlt⟩ := HB.out w5 B5.out)
    | (go_at_call 68; (with_reducible refine (HI.out _ ?_).mono ?_); (exact B5.out); rintro e w6 ⟨ur, rfl, h6, hl6⟩; obtain ⟨pr, cr, rfl, -⟩ := ApC.form h6; have B6 := Lib.hid (B5.out.trans (hl6.mono B5.out.size)); have H6 := Lib.hid (And.intro h6 hl6); clear h6 hl6; obtain ⟨y0, y1, y2, y3, y4, y5, y6, ylt⟩ := HB.out w6 B6.out; have yf := fun j => BoxA.free (BufB.next HB1.out B6.out) j))
  all_goals
    obtain ⟨hb1, hl1, hs1, hb2, hl2⟩ := HH.out
    have hs2 : W2.heap.size = w.heap.size + 2 := by rw [← HW2.out, World.size_alloc, hs1]
    obtain ⟨W8, hW8⟩ : ∃ W8, (w6.setCell ⟨w.heap.size, 5, none⟩ (.slice pe b.exts.length ce)).setCell ⟨w.heap.size, 6, none⟩ (.slice pr b.refs.length cr) = W8 := ⟨_, rfl⟩
    have hbx : BoxA W8 w.heap.size 26 (bcs b ⟨.slice pe b.exts.length ce, .slice pr b.refs.length cr⟩) := by rw [← hW8]; exact BoxA.set (BoxA.set (BufB.next HB1.out B6.out) 5 _) 6 _
    have hz8 : W8.heap.size = w6.heap.size := by rw [← hW8]; simp
    have hk8 : ∀ k, k ≠ w.heap.size → W8.heap[k]? = w6.heap[k]? := fun k hk => by
      rw [← hW8]
      exact (Below.heap_setCell _ _ _ _ hk).trans (Below.heap_setCell _ _ _ _ hk)
    have hbr : BoxA W8 (w.heap.size + 1) 26 #[.int .i64 0, .string { data := #[] }, .string { data := #[] }, .string { data := #[] }, .bool false, .slice none 0 0, .slice none 0 0] := (hk8 _ (by omega)).trans (by have := BoxA.next hb2 B6.out; rw [hs1] at this; exact this)
    have hl8 : Below w.heap.size w W8 := by
      rw [← hW8]
      exact ((((hl1.trans (hl2.mono hl1.size)).trans (B6.out.mono (by omega))).setCell (Nat.le_refl _) _).setCell (Nat.le_refl _) _)
    have h5 : ApC W2.heap.size 55 2 w6 (.slice pe b.exts.length ce) b.exts.length (xcs b.exts) := ApC.next H5.out H6.out.2
    have h6 : OutI W2.heap.size w6 (.slice pr b.refs.length cr) b.refs := ApC.mono H6.out.1 B5.out.size
    have hone : (#[.int .i64 b.job, .string (str b.name), .string (str b.user), .string (str b.pool), .bool b.opn, .slice pe b.exts.length ce, .slice pr b.refs.length cr] : Array Value).all (·.oneCell') = true := by kernel_rfl
    have hfin : ∀ k, W2.heap.size ≤ k → k < w6.heap.size → (W8.setRow (w.heap.size + 1) #[.int .i64 b.job, .string (str b.name), .string (str b.user), .string (str b.pool), .bool b.opn, .slice pe b.exts.length ce, .slice pr b.refs.length cr]).heap[k]? = w6.heap[k]? := fun k hk _ => (setRow_other _ _ _ _ (by omega)).trans (hk8 k (by omega))
    have HBX := Lib.hid (show BoxA W8 w.heap.size 26 #[.int .i64 b.job, .string (str b.name), .string (str b.user), .string (str b.pool), .bool b.opn, .slice pe b.exts.length ce, .slice pr b.refs.length cr] from hbx)
    have HBR := Lib.hid hbr
    have HON := Lib.hid hone
    have HFI := Lib.hid (And.intro (ApC.mono (ApC.above h5 hfin) (show w.heap.size ≤ W2.heap.size by omega)) (And.intro (ApC.mono (ApC.above h6 hfin) (show w.heap.size ≤ W2.heap.size by omega)) (below_setRow hl8 (show w.heap.size ≤ w.heap.size + 1 by omega) #[.int .i64 b.job, .string (str b.name), .string (str b.user), .string (str b.pool), .bool b.opn, .slice pe b.exts.length ce, .slice pr b.refs.length cr])))
    rw [hW8]
    clear hb1 hl1 hb2 hl2 hs1 hs2 hbx hz8 hk8 hbr hl8 h5 h6 hone hfin hW8
    go_wp2_with (first
      | (refine wpl_load_g (by rfl) _ _ rfl w.heap.size rfl _ _ _ _ HBX.out Tryz.underlying26 rfl (by kernel_rfl) ?_)
      | (refine wpList_store_row rfl _ _ _ rfl (w.heap.size + 1) #[.int .i64 b.job, .string (str b.name), .string (str b.user), .string (str b.pool), .bool b.opn, .slice pe b.exts.length ce, .slice pr b.refs.length cr] rfl rfl _ _ HBR.out (by kernel_rfl) rfl HON.out ?_))
    refine bodyPost_ret (v := .agg #[.int .i64 b.job, .string (str b.name), .string (str b.user), .string (str b.pool), .bool b.opn, .slice pe b.exts.length ce, .slice pr b.refs.length cr]) (results_cell_row (p := 2) rfl _ _ (w.heap.size + 1) _ #[.int .i64 b.job, .string (str b.name), .string (str b.user), .string (str b.pool), .bool b.opn, .slice pe b.exts.length ce, .slice pr b.refs.length cr] _ _ rfl (setRow_heap _ _ _ _ _ _ HBR.out) Tryz.underlying26 rfl (by kernel_rfl)) rfl ?_
    exact ⟨⟨.slice pe b.exts.length ce, .slice pr b.refs.length cr⟩, rfl, HFI.out.1, HFI.out.2.1, HFI.out.2.2⟩
end Go.Proofs.YtkjffoebcblpoaaGreat.gn
end
