/- New; great (written by gen_poR.py). -/
import Derived.Test.YtdjpnlkhdilakaaPoQ
set_option linter.unusedVariables false
set_option linter.unusedSimpArgs false
set_option maxRecDepth 100000
namespace Go.Proofs.Ytdjpnlkhdilakaa.gn
open Go.RowKit Go.Shelf Go.Sort Go.Lib
open Go.Proofs.Ytdjpnlkhdilakaa.ex
open Go.Proofs.Ytdjpnlkhdilakaa.po (Nm U less Pl)

attribute [local go_sem] Oper.semAt_some
attribute [local go_sem ↓] Go.wp_at_zero Go.wp_at_succ

def newP (size grain quota : Int) (best : Bool) : Pl := ⟨size - size % grain, grain, quota, false, best, if 0 < size - size % grain then [(0, size - size % grain)] else [], []⟩
structure NOk (size grain quota : Int) (best : Bool) : Prop where
  s : po.Qt size
  g : 0 < grain
  v : po.Valid (newP size grain quota best)
structure NB (w W : World) (p : Pl) (vf : Value) : Prop where
  hb : RowKit.Below w.heap.size w W
  hf : RdO w.heap.size (w.heap.size + 1) W vf p.free.length (fl p.free)
  hR : W.heap[w.heap.size]? = some (.cells zeroC 25 (0, 0))
  hB : W.heap[w.heap.size + 1]? = some (.cells #[.int .i64 p.size, .int .i64 p.grain, .int .i64 p.quota, .bool p.drain, .bool p.best, vf, .slice none 0 0] 25 (0, 0))
theorem NB.next {w W W' : World} {p : Pl} {vf : Value} (h : NB w W p vf) (hb : RowKit.Below W.heap.size W W') : NB w W' p vf :=
  ⟨h.hb.trans (hb.mono h.hb.size), h.hf.next hb, (hb.block _ (Array.getElem?_eq_some_iff.1 h.hR).1).trans h.hR, (hb.block _ (Array.getElem?_eq_some_iff.1 h.hB).1).trans h.hB⟩
theorem nilU (w : World) : RdU w (.slice none 0 0) [] := ⟨.inl ⟨none, 0, rfl, rfl, rfl, fun _ => rfl⟩, none, 0, rfl, Nat.le_refl _⟩
theorem NB.pw {w W : World} {p : Pl} {vf : Value} (h : NB w W p vf) (hu : p.uses = []) (hl : p.free.length ≤ 1000) : PolW W (aggP p vf (.slice none 0 0)) p := ⟨⟨vf, _, rfl, h.hf.rdc.rd, by rw [hu]; exact nilU W⟩, hl, by rw [hu]; simp⟩
theorem NB.new0 (w : World) (S grain quota : Int) (best : Bool) : NB w ((w.alloc (.cells zeroC 25)).alloc (.cells #[.int .i64 S, .int .i64 grain, .int .i64 quota, .bool false, .bool best, .slice none 0 0, .slice none 0 0] 25)) ⟨S, grain, quota, false, best, [], []⟩ (.slice none 0 0) := by
  have h1 := World.alloc_heap_new w (.cells zeroC 25)
  have h2 := World.alloc_heap_new (w.alloc (.cells zeroC 25)) (.cells #[.int .i64 S, .int .i64 grain, .int .i64 quota, .bool false, .bool best, .slice none 0 0, .slice none 0 0] 25)
  rw [World.size_alloc] at h2
  exact ⟨((Below.refl _ w).alloc (Nat.le_refl _) _).alloc (by simp) _, .inl ⟨none, 0, rfl, rfl, rfl, fun _ => rfl⟩, (Below.heap_alloc _ _ _ (by simp)).trans h1, h2⟩
theorem NB.new1 (w : World) (S grain quota : Int) (best : Bool) : NB w (((w.alloc (.cells zeroC 25)).alloc (.cells #[.int .i64 S, .int .i64 grain, .int .i64 quota, .bool false, .bool best, .slice (some ⟨w.heap.size + 1 + 1, 0, none⟩) 1 1, .slice none 0 0] 25)).alloc (.cells #[.int .i64 0, .int .i64 S] 54)) ⟨S, grain, quota, false, best, [(0, S)], []⟩ (.slice (some ⟨w.heap.size + 1 + 1, 0, none⟩) 1 1) := by
  have h1 := World.alloc_heap_new w (.cells zeroC 25)
  have h2 := World.alloc_heap_new (w.alloc (.cells zeroC 25)) (.cells #[.int .i64 S, .int .i64 grain, .int .i64 quota, .bool false, .bool best, .slice (some ⟨w.heap.size + 1 + 1, 0, none⟩) 1 1, .slice none 0 0] 25)
  rw [World.size_alloc] at h2
  have hb : RowKit.Below w.heap.size w ((w.alloc (.cells zeroC 25)).alloc (.cells #[.int .i64 S, .int .i64 grain, .int .i64 quota, .bool false, .bool best, .slice (some ⟨w.heap.size + 1 + 1, 0, none⟩) 1 1, .slice none 0 0] 25)) := ((Below.refl _ w).alloc (Nat.le_refl _) _).alloc (by simp) _
  have h1 := (Below.heap_alloc _ (.cells #[.int .i64 S, .int .i64 grain, .int .i64 quota, .bool false, .bool best, .slice (some ⟨w.heap.size + 1 + 1, 0, none⟩) 1 1, .slice none 0 0] 25) w.heap.size (by simp)).trans h1
  obtain ⟨W2, hW2⟩ : ∃ W2, ((w.alloc (.cells zeroC 25)).alloc (.cells #[.int .i64 S, .int .i64 grain, .int .i64 quota, .bool false, .bool best, .slice (some ⟨w.heap.size + 1 + 1, 0, none⟩) 1 1, .slice none 0 0] 25)) = W2 := ⟨_, rfl⟩
  have hs : W2.heap.size = w.heap.size + 1 + 1 := by rw [← hW2]; simp
  rw [hW2] at h1 h2 hb ⊢
  have hx := World.alloc_heap_new W2 (.cells #[.int .i64 0, .int .i64 S] 54)
  rw [hs] at hx
  refine ⟨hb.alloc hb.size _, .inr ⟨w.heap.size + 1 + 1, 0, 1, rfl, by simp; omega, .inr (by omega), fun j u hu => ?_⟩, (Below.heap_alloc _ _ _ (by omega)).trans h1, (Below.heap_alloc _ _ _ (by omega)).trans h2⟩
  rw [cell_of_row _ _ (0 + j) _ _ (0, 0) hx, Nat.zero_add]
  have hu : (fl [(0, S)])[j]? = some u := hu
  rw [← hu]
  simp [fl]
theorem New_1 (size grain quota : Int) (best : Bool) (h : ¬ po.Qt size) (w : World) : Calls Try.prog 16 #[.int .i64 size, .int .i64 grain, .int .i64 quota, .bool best] w (FailsR 2 w) := by
  have HQ := fun W => pquantity_any size W
  rw [show quant size = false from decide_eq_false h] at HQ
  clear h
  have hR : (w.alloc (.cells zeroC 25)).heap[w.heap.size]? = some (.cells zeroC 25 (0, 0)) := World.alloc_heap_new w _
  go_enter Try.func16, Try.ntmps16
  go_wp2_with (first | (go_at_call 20; refine (HQ _).mono ?_; rintro e w1 ⟨rfl, rfl⟩) | (refine wpList_store_row rfl _ _ _ rfl w.heap.size zeroC rfl rfl 25 zeroC hR (by kernel_rfl) rfl (by kernel_rfl) ?_))
  have y0 := row_cells hR (cs := zeroC) 0 _ rfl
  have y1 := row_cells hR (cs := zeroC) 1 _ rfl
  have y2 := row_cells hR (cs := zeroC) 2 _ rfl
  have y3 := row_cells hR (cs := zeroC) 3 _ rfl
  have y4 := row_cells hR (cs := zeroC) 4 _ rfl
  have y5 := row_cells hR (cs := zeroC) 5 _ rfl
  have y6 := row_cells hR (cs := zeroC) 6 _ rfl
  exact bodyPost_ret (v := .tuple #[.agg zeroC, .int .i64 2]) (by simp [results, Try.results16, go_sem, y0, y1, y2, y3, y4, y5, y6]) rfl ⟨rfl, below_setRow (below_box w _) (Nat.le_refl _) _⟩
theorem New_2 (size grain quota : Int) (best : Bool) (h : po.Qt size) (hg : grain ≤ 0) (w : World) : Calls Try.prog 16 #[.int .i64 size, .int .i64 grain, .int .i64 quota, .bool best] w (FailsR 2 w) := by
  have HQ := fun W => pquantity_any size W
  rw [show quant size = true from decide_eq_true h] at HQ
  have d1 : decide (grain ≤ 0) = true := decide_eq_true hg
  clear h hg
  have hR : (w.alloc (.cells zeroC 25)).heap[w.heap.size]? = some (.cells zeroC 25 (0, 0)) := World.alloc_heap_new w _
  go_enter Try.func16, Try.ntmps16
  go_wp2_with (first | (go_at_call 20; refine (HQ _).mono ?_; rintro e w1 ⟨rfl, rfl⟩) | (refine wpList_store_row rfl _ _ _ rfl w.heap.size zeroC rfl rfl 25 zeroC hR (by kernel_rfl) rfl (by kernel_rfl) ?_))
  have y0 := row_cells hR (cs := zeroC) 0 _ rfl
  have y1 := row_cells hR (cs := zeroC) 1 _ rfl
  have y2 := row_cells hR (cs := zeroC) 2 _ rfl
  have y3 := row_cells hR (cs := zeroC) 3 _ rfl
  have y4 := row_cells hR (cs := zeroC) 4 _ rfl
  have y5 := row_cells hR (cs := zeroC) 5 _ rfl
  have y6 := row_cells hR (cs := zeroC) 6 _ rfl
  exact bodyPost_ret (v := .tuple #[.agg zeroC, .int .i64 2]) (by simp [results, Try.results16, go_sem, y0, y1, y2, y3, y4, y5, y6]) rfl ⟨rfl, below_setRow (below_box w _) (Nat.le_refl _) _⟩
set_option maxHeartbeats 4000000 in
theorem New_py (size grain quota S : Int) (best : Bool) (h : po.Qt size) (hg : 0 < grain) (hS : size - size % grain = S) (hp : 0 < S) (hv : po.Valid ⟨S, grain, quota, false, best, [(0, S)], []⟩) (w : World) : Calls Try.prog 16 #[.int .i64 size, .int .i64 grain, .int .i64 quota, .bool best] w fun e w' => ∃ va, e = .returned (.tuple #[va, .int .i64 0]) ∧ PolV w' va ⟨S, grain, quota, false, best, [(0, S)], []⟩ ∧ RowKit.Below w.heap.size w w' := by
  have HQ := fun W => pquantity_any size W
  rw [show quant size = true from decide_eq_true h] at HQ
  have d1 : decide (grain ≤ 0) = false := decide_eq_false (by omega)
  have g0 : (grain == 0) = false := beq_eq_false_iff_ne.2 (by omega)
  have hs0 := h.1
  have hs1 := h.2
  have hm0 := Int.emod_nonneg size (show grain ≠ 0 by omega)
  have hm1 : size % grain ≤ size := by have e := Int.mul_ediv_add_emod size grain; have := Int.mul_nonneg (show 0 ≤ grain by omega) (Int.ediv_nonneg h.1 (show 0 ≤ grain by omega)); omega
  have hw : IntKind.i64.wrap (size - size % grain) = S := by rw [IntKind.wrap_i64]; omega
  have d2 : decide (0 < S) = true := decide_eq_true hp
  have HV := Lib.hid hv
  have hNB := NB.new1 w S grain quota best
  have HNB0 := Lib.hid hNB
  have HPW := Lib.hid (hNB.pw rfl (by simp))
  have hR0 : (w.alloc (.cells zeroC 25)).heap[w.heap.size]? = some (.cells zeroC 25 (0, 0)) := World.alloc_heap_new w _
  clear h hp hv hNB hw
  go_enter Try.func16, Try.ntmps16
  go_wp2_with (first | (go_at_call 20; refine (HQ _).mono ?_; rintro e w1 ⟨rfl, rfl⟩) | (go_at_call 10; refine (Check_yes HPW.out HV.out).mono ?_; rintro e w1 ⟨rfl, hb1⟩; have g1 := HNB0.out.next hb1; have HG1 := Lib.hid g1; have j0 := cell_of_row _ _ 0 _ _ (0, 0) g1.hB; (try dsimp only at j0); have j1 := cell_of_row _ _ 1 _ _ (0, 0) g1.hB; (try dsimp only at j1); have j2 := cell_of_row _ _ 2 _ _ (0, 0) g1.hB; (try dsimp only at j2); have j3 := cell_of_row _ _ 3 _ _ (0, 0) g1.hB; (try dsimp only at j3); have j4 := cell_of_row _ _ 4 _ _ (0, 0) g1.hB; (try dsimp only at j4); have j5 := cell_of_row _ _ 5 _ _ (0, 0) g1.hB; (try dsimp only at j5); have j6 := cell_of_row _ _ 6 _ _ (0, 0) g1.hB; (try dsimp only at j6); clear hb1 g1) | (refine wpList_store_row rfl _ _ _ rfl w.heap.size #[.int .i64 S, .int .i64 grain, .int .i64 quota, .bool false, .bool best, .slice (some ⟨w.heap.size + 1 + 1, 0, none⟩) 1 1, .slice none 0 0] rfl rfl 25 zeroC HG1.out.hR (by kernel_rfl) rfl (by kernel_rfl) ?_))
  have y0 := row_cells HG1.out.hR (cs := #[.int .i64 S, .int .i64 grain, .int .i64 quota, .bool false, .bool best, .slice (some ⟨w.heap.size + 1 + 1, 0, none⟩) 1 1, .slice none 0 0]) 0 _ rfl
  have y1 := row_cells HG1.out.hR (cs := #[.int .i64 S, .int .i64 grain, .int .i64 quota, .bool false, .bool best, .slice (some ⟨w.heap.size + 1 + 1, 0, none⟩) 1 1, .slice none 0 0]) 1 _ rfl
  have y2 := row_cells HG1.out.hR (cs := #[.int .i64 S, .int .i64 grain, .int .i64 quota, .bool false, .bool best, .slice (some ⟨w.heap.size + 1 + 1, 0, none⟩) 1 1, .slice none 0 0]) 2 _ rfl
  have y3 := row_cells HG1.out.hR (cs := #[.int .i64 S, .int .i64 grain, .int .i64 quota, .bool false, .bool best, .slice (some ⟨w.heap.size + 1 + 1, 0, none⟩) 1 1, .slice none 0 0]) 3 _ rfl
  have y4 := row_cells HG1.out.hR (cs := #[.int .i64 S, .int .i64 grain, .int .i64 quota, .bool false, .bool best, .slice (some ⟨w.heap.size + 1 + 1, 0, none⟩) 1 1, .slice none 0 0]) 4 _ rfl
  have y5 := row_cells HG1.out.hR (cs := #[.int .i64 S, .int .i64 grain, .int .i64 quota, .bool false, .bool best, .slice (some ⟨w.heap.size + 1 + 1, 0, none⟩) 1 1, .slice none 0 0]) 5 _ rfl
  have y6 := row_cells HG1.out.hR (cs := #[.int .i64 S, .int .i64 grain, .int .i64 quota, .bool false, .bool best, .slice (some ⟨w.heap.size + 1 + 1, 0, none⟩) 1 1, .slice none 0 0]) 6 _ rfl
  refine bodyPost_ret (v := .tuple #[.agg #[.int .i64 S, .int .i64 grain, .int .i64 quota, .bool false, .bool best, .slice (some ⟨w.heap.size + 1 + 1, 0, none⟩) 1 1, .slice none 0 0], .int .i64 0]) (by simp [results, Try.results16, go_sem, y0, y1, y2, y3, y4, y5, y6]) rfl ?_
  have r := (HG1.out.hf.same (Same.row w1 w.heap.size #[.int .i64 S, .int .i64 grain, .int .i64 quota, .bool false, .bool best, .slice (some ⟨w.heap.size + 1 + 1, 0, none⟩) 1 1, .slice none 0 0] (Nat.le_refl _) (by omega))).rdc.rd
  exact ⟨_, rfl, ⟨_, _, rfl, r, nilU _⟩, below_setRow HG1.out.hb (Nat.le_refl _) _⟩
set_option maxHeartbeats 4000000 in
theorem New_pn (size grain quota S : Int) (best : Bool) (h : po.Qt size) (hg : 0 < grain) (hS : size - size % grain = S) (hp : 0 < S) (hv : ¬ po.Valid ⟨S, grain, quota, false, best, [(0, S)], []⟩) (w : World) : Calls Try.prog 16 #[.int .i64 size, .int .i64 grain, .int .i64 quota, .bool best] w (FailsR 2 w) := by
  have HQ := fun W => pquantity_any size W
  rw [show quant size = true from decide_eq_true h] at HQ
  have d1 : decide (grain ≤ 0) = false := decide_eq_false (by omega)
  have g0 : (grain == 0) = false := beq_eq_false_iff_ne.2 (by omega)
  have hs0 := h.1
  have hs1 := h.2
  have hm0 := Int.emod_nonneg size (show grain ≠ 0 by omega)
  have hm1 : size % grain ≤ size := by have e := Int.mul_ediv_add_emod size grain; have := Int.mul_nonneg (show 0 ≤ grain by omega) (Int.ediv_nonneg h.1 (show 0 ≤ grain by omega)); omega
  have hw : IntKind.i64.wrap (size - size % grain) = S := by rw [IntKind.wrap_i64]; omega
  have d2 : decide (0 < S) = true := decide_eq_true hp
  have HV := Lib.hid hv
  have hNB := NB.new1 w S grain quota best
  have HNB0 := Lib.hid hNB
  have HPW := Lib.hid (hNB.pw rfl (by simp))
  have hR0 : (w.alloc (.cells zeroC 25)).heap[w.heap.size]? = some (.cells zeroC 25 (0, 0)) := World.alloc_heap_new w _
  clear h hp hv hNB hw
  go_enter Try.func16, Try.ntmps16
  go_wp2_with (first | (go_at_call 20; refine (HQ _).mono ?_; rintro e w1 ⟨rfl, rfl⟩) | (go_at_call 10; refine (Check_no HPW.out HV.out).mono ?_; rintro e w1 ⟨rfl, hb1⟩; have g1 := HNB0.out.next hb1; have HG1 := Lib.hid g1; have j0 := cell_of_row _ _ 0 _ _ (0, 0) g1.hB; (try dsimp only at j0); have j1 := cell_of_row _ _ 1 _ _ (0, 0) g1.hB; (try dsimp only at j1); have j2 := cell_of_row _ _ 2 _ _ (0, 0) g1.hB; (try dsimp only at j2); have j3 := cell_of_row _ _ 3 _ _ (0, 0) g1.hB; (try dsimp only at j3); have j4 := cell_of_row _ _ 4 _ _ (0, 0) g1.hB; (try dsimp only at j4); have j5 := cell_of_row _ _ 5 _ _ (0, 0) g1.hB; (try dsimp only at j5); have j6 := cell_of_row _ _ 6 _ _ (0, 0) g1.hB; (try dsimp only at j6); clear hb1 g1) | (refine wpList_store_row rfl _ _ _ rfl w.heap.size zeroC rfl rfl 25 zeroC HG1.out.hR (by kernel_rfl) rfl (by kernel_rfl) ?_))
  have y0 := row_cells HG1.out.hR (cs := zeroC) 0 _ rfl
  have y1 := row_cells HG1.out.hR (cs := zeroC) 1 _ rfl
  have y2 := row_cells HG1.out.hR (cs := zeroC) 2 _ rfl
  have y3 := row_cells HG1.out.hR (cs := zeroC) 3 _ rfl
  have y4 := row_cells HG1.out.hR (cs := zeroC) 4 _ rfl
  have y5 := row_cells HG1.out.hR (cs := zeroC) 5 _ rfl
  have y6 := row_cells HG1.out.hR (cs := zeroC) 6 _ rfl
  refine bodyPost_ret (v := .tuple #[.agg zeroC, .int .i64 2]) (by simp [results, Try.results16, go_sem, y0, y1, y2, y3, y4, y5, y6]) rfl ?_
  exact ⟨rfl, below_setRow HG1.out.hb (Nat.le_refl _) _⟩
set_option maxHeartbeats 4000000 in
theorem New_zy (size grain quota S : Int) (best : Bool) (h : po.Qt size) (hg : 0 < grain) (hS : size - size % grain = S) (hp : ¬ 0 < S) (hv : po.Valid ⟨S, grain, quota, false, best, [], []⟩) (w : World) : Calls Try.prog 16 #[.int .i64 size, .int .i64 grain, .int .i64 quota, .bool best] w fun e w' => ∃ va, e = .returned (.tuple #[va, .int .i64 0]) ∧ PolV w' va ⟨S, grain, quota, false, best, [], []⟩ ∧ RowKit.Below w.heap.size w w' := by
  have HQ := fun W => pquantity_any size W
  rw [show quant size = true from decide_eq_true h] at HQ
  have d1 : decide (grain ≤ 0) = false := decide_eq_false (by omega)
  have g0 : (grain == 0) = false := beq_eq_false_iff_ne.2 (by omega)
  have hs0 := h.1
  have hs1 := h.2
  have hm0 := Int.emod_nonneg size (show grain ≠ 0 by omega)
  have hm1 : size % grain ≤ size := by have e := Int.mul_ediv_add_emod size grain; have := Int.mul_nonneg (show 0 ≤ grain by omega) (Int.ediv_nonneg h.1 (show 0 ≤ grain by omega)); omega
  have hw : IntKind.i64.wrap (size - size % grain) = S := by rw [IntKind.wrap_i64]; omega
  have d2 : decide (0 < S) = false := decide_eq_false hp
  have HV := Lib.hid hv
  have hNB := NB.new0 w S grain quota best
  have HNB0 := Lib.hid hNB
  have HPW := Lib.hid (hNB.pw rfl (by simp))
  have hR0 : (w.alloc (.cells zeroC 25)).heap[w.heap.size]? = some (.cells zeroC 25 (0, 0)) := World.alloc_heap_new w _
  clear h hp hv hNB hw
  go_enter Try.func16, Try.ntmps16
  go_wp2_with (first | (go_at_call 20; refine (HQ _).mono ?_; rintro e w1 ⟨rfl, rfl⟩) | (go_at_call 10; refine (Check_yes HPW.out HV.out).mono ?_; rintro e w1 ⟨rfl, hb1⟩; have g1 := HNB0.out.next hb1; have HG1 := Lib.hid g1; have j0 := cell_of_row _ _ 0 _ _ (0, 0) g1.hB; (try dsimp only at j0); have j1 := cell_of_row _ _ 1 _ _ (0, 0) g1.hB; (try dsimp only at j1); have j2 := cell_of_row _ _ 2 _ _ (0, 0) g1.hB; (try dsimp only at j2); have j3 := cell_of_row _ _ 3 _ _ (0, 0) g1.hB; (try dsimp only at j3); have j4 := cell_of_row _ _ 4 _ _ (0, 0) g1.hB; (try dsimp only at j4); have j5 := cell_of_row _ _ 5 _ _ (0, 0) g1.hB; (try dsimp only at j5); have j6 := cell_of_row _ _ 6 _ _ (0, 0) g1.hB; (try dsimp only at j6); clear hb1 g1) | (refine wpList_store_row rfl _ _ _ rfl w.heap.size #[.int .i64 S, .int .i64 grain, .int .i64 quota, .bool false, .bool best, .slice none 0 0, .slice none 0 0] rfl rfl 25 zeroC HG1.out.hR (by kernel_rfl) rfl (by kernel_rfl) ?_))
  have y0 := row_cells HG1.out.hR (cs := #[.int .i64 S, .int .i64 grain, .int .i64 quota, .bool false, .bool best, .slice none 0 0, .slice none 0 0]) 0 _ rfl
  have y1 := row_cells HG1.out.hR (cs := #[.int .i64 S, .int .i64 grain, .int .i64 quota, .bool false, .bool best, .slice none 0 0, .slice none 0 0]) 1 _ rfl
  have y2 := row_cells HG1.out.hR (cs := #[.int .i64 S, .int .i64 grain, .int .i64 quota, .bool false, .bool best, .slice none 0 0, .slice none 0 0]) 2 _ rfl
  have y3 := row_cells HG1.out.hR (cs := #[.int .i64 S, .int .i64 grain, .int .i64 quota, .bool false, .bool best, .slice none 0 0, .slice none 0 0]) 3 _ rfl
  have y4 := row_cells HG1.out.hR (cs := #[.int .i64 S, .int .i64 grain, .int .i64 quota, .bool false, .bool best, .slice none 0 0, .slice none 0 0]) 4 _ rfl
  have y5 := row_cells HG1.out.hR (cs := #[.int .i64 S, .int .i64 grain, .int .i64 quota, .bool false, .bool best, .slice none 0 0, .slice none 0 0]) 5 _ rfl
  have y6 := row_cells HG1.out.hR (cs := #[.int .i64 S, .int .i64 grain, .int .i64 quota, .bool false, .bool best, .slice none 0 0, .slice none 0 0]) 6 _ rfl
  refine bodyPost_ret (v := .tuple #[.agg #[.int .i64 S, .int .i64 grain, .int .i64 quota, .bool false, .bool best, .slice none 0 0, .slice none 0 0], .int .i64 0]) (by simp [results, Try.results16, go_sem, y0, y1, y2, y3, y4, y5, y6]) rfl ?_
  have r := (HG1.out.hf.same (Same.row w1 w.heap.size #[.int .i64 S, .int .i64 grain, .int .i64 quota, .bool false, .bool best, .slice none 0 0, .slice none 0 0] (Nat.le_refl _) (by omega))).rdc.rd
  exact ⟨_, rfl, ⟨_, _, rfl, r, nilU _⟩, below_setRow HG1.out.hb (Nat.le_refl _) _⟩
set_option maxHeartbeats 4000000 in
theorem New_zn (size grain quota S : Int) (best : Bool) (h : po.Qt size) (hg : 0 < grain) (hS : size - size % grain = S) (hp : ¬ 0 < S) (hv : ¬ po.Valid ⟨S, grain, quota, false, best, [], []⟩) (w : World) : Calls Try.prog 16 #[.int .i64 size, .int .i64 grain, .int .i64 quota, .bool best] w (FailsR 2 w) := by
  have HQ := fun W => pquantity_any size W
  rw [show quant size = true from decide_eq_true h] at HQ
  have d1 : decide (grain ≤ 0) = false := decide_eq_false (by omega)
  have g0 : (grain == 0) = false := beq_eq_false_iff_ne.2 (by omega)
  have hs0 := h.1
  have hs1 := h.2
  have hm0 := Int.emod_nonneg size (show grain ≠ 0 by omega)
  have hm1 : size % grain ≤ size := by have e := Int.mul_ediv_add_emod size grain; have := Int.mul_nonneg (show 0 ≤ grain by omega) (Int.ediv_nonneg h.1 (show 0 ≤ grain by omega)); omega
  have hw : IntKind.i64.wrap (size - size % grain) = S := by rw [IntKind.wrap_i64]; omega
  have d2 : decide (0 < S) = false := decide_eq_false hp
  have HV := Lib.hid hv
  have hNB := NB.new0 w S grain quota best
  have HNB0 := Lib.hid hNB
  have HPW := Lib.hid (hNB.pw rfl (by simp))
  have hR0 : (w.alloc (.cells zeroC 25)).heap[w.heap.size]? = some (.cells zeroC 25 (0, 0)) := World.alloc_heap_new w _
  clear h hp hv hNB hw
  go_enter Try.func16, Try.ntmps16
  go_wp2_with (first | (go_at_call 20; refine (HQ _).mono ?_; rintro e w1 ⟨rfl, rfl⟩) | (go_at_call 10; refine (Check_no HPW.out HV.out).mono ?_; rintro e w1 ⟨rfl, hb1⟩; have g1 := HNB0.out.next hb1; have HG1 := Lib.hid g1; have j0 := cell_of_row _ _ 0 _ _ (0, 0) g1.hB; (try dsimp only at j0); have j1 := cell_of_row _ _ 1 _ _ (0, 0) g1.hB; (try dsimp only at j1); have j2 := cell_of_row _ _ 2 _ _ (0, 0) g1.hB; (try dsimp only at j2); have j3 := cell_of_row _ _ 3 _ _ (0, 0) g1.hB; (try dsimp only at j3); have j4 := cell_of_row _ _ 4 _ _ (0, 0) g1.hB; (try dsimp only at j4); have j5 := cell_of_row _ _ 5 _ _ (0, 0) g1.hB; (try dsimp only at j5); have j6 := cell_of_row _ _ 6 _ _ (0, 0) g1.hB; (try dsimp only at j6); clear hb1 g1) | (refine wpList_store_row rfl _ _ _ rfl w.heap.size zeroC rfl rfl 25 zeroC HG1.out.hR (by kernel_rfl) rfl (by kernel_rfl) ?_))
  have y0 := row_cells HG1.out.hR (cs := zeroC) 0 _ rfl
  have y1 := row_cells HG1.out.hR (cs := zeroC) 1 _ rfl
  have y2 := row_cells HG1.out.hR (cs := zeroC) 2 _ rfl
  have y3 := row_cells HG1.out.hR (cs := zeroC) 3 _ rfl
  have y4 := row_cells HG1.out.hR (cs := zeroC) 4 _ rfl
  have y5 := row_cells HG1.out.hR (cs := zeroC) 5 _ rfl
  have y6 := row_cells HG1.out.hR (cs := zeroC) 6 _ rfl
  refine bodyPost_ret (v := .tuple #[.agg zeroC, .int .i64 2]) (by simp [results, Try.results16, go_sem, y0, y1, y2, y3, y4, y5, y6]) rfl ?_
  exact ⟨rfl, below_setRow HG1.out.hb (Nat.le_refl _) _⟩
theorem New_yes {size grain quota : Int} {best : Bool} (h : NOk size grain quota best) (w : World) : Calls Try.prog 16 #[.int .i64 size, .int .i64 grain, .int .i64 quota, .bool best] w fun e w' => ∃ va, e = .returned (.tuple #[va, .int .i64 0]) ∧ PolV w' va (newP size grain quota best) ∧ RowKit.Below w.heap.size w w' := by
  have hv := h.v
  unfold newP at hv ⊢
  by_cases hp : 0 < size - size % grain
  · rw [if_pos hp] at hv ⊢
    exact New_py size grain quota _ best h.s h.g rfl hp hv w
  · rw [if_neg hp] at hv ⊢
    exact New_zy size grain quota _ best h.s h.g rfl hp hv w
theorem New_no {size grain quota : Int} {best : Bool} (h : ¬ NOk size grain quota best) (w : World) : Calls Try.prog 16 #[.int .i64 size, .int .i64 grain, .int .i64 quota, .bool best] w (FailsR 2 w) := by
  by_cases hs : po.Qt size
  · by_cases hg : 0 < grain
    · have hv : ¬ po.Valid (newP size grain quota best) := fun hv => h ⟨hs, hg, hv⟩
      unfold newP at hv
      by_cases hp : 0 < size - size % grain
      · rw [if_pos hp] at hv
        exact New_pn size grain quota _ best hs hg rfl hp hv w
      · rw [if_neg hp] at hv
        exact New_zn size grain quota _ best hs hg rfl hp hv w
    · exact New_2 size grain quota best hs (by omega) w
  · exact New_1 size grain quota best hs w
end Go.Proofs.Ytdjpnlkhdilakaa.gn
