/- The document's Do: an operation 2 that is done. -/
import Derived.Test.YtdfiofjnijnodaaFjF
set_option linter.unusedVariables false
namespace Go.Proofs.Ytdfiofjnijnodaa.gn
open Go.RowKit
open Go.Proofs.Ytdfiofjnijnodaa.fi

set_option maxHeartbeats 4000000 in
set_option maxRecDepth 100000 in
theorem do_2 (w : World) (Y : Nat → Prop) (q K : Nat) (vn vs vo : Value) (r : Int) (N S : List DF) (O : List DO) (nm s : ByteArray) (n : Int) (h : DocI w Y q K vn vs vo r N S O) (hK : K ≤ 300) (hs : s.size ≤ 300) (hfit : fitB nm = true) (hneg : ¬ n < 0) (k : Nat) (hat : atI nm N = (k : Int)) (hk : k < N.length) (f : DF) (hf : N[k]? = some f) (hx : ¬ (f.2.1.size : Int) < n) :
    Calls Try.prog 21 #[.pointer (some ⟨q, 0, none⟩), .agg #[.int .i64 2, .string nm, .string s, .int .i64 n]] w (DoR Y q K w) := by
  have hz : (w.alloc (.cells #[.int .i64 2, .string nm, .string s, .int .i64 n] 61)).heap.size = w.heap.size + 1 := by simp
  have hb0 : Below w.heap.size w (w.alloc (.cells #[.int .i64 2, .string nm, .string s, .int .i64 n] 61)) := (Below.refl _ w).alloc (Nat.le_refl _) _
  have ho0 : OpB (w.alloc (.cells #[.int .i64 2, .string nm, .string s, .int .i64 n] 61)) w.heap.size 2 nm s n := heap_alloc_new w _
  obtain ⟨b0, b1, b2, b3⟩ := ho0.cells
  obtain ⟨c0, c1, c2, c3⟩ := (h.blk.below hb0).cells
  have hn0 := h.n.below hb0
  have hlN := h.ln
  have hbN : Bd 1000000 N := h.bn.mono (by omega)
  obtain ⟨g, c, rfl, _, hgc, hgm⟩ := hn0.form2 hk
  unfold maxLen at hgm
  have hI0 : (0 : Int) ≤ (k : Int) := by omega
  have hI1 : (k : Int) < (N.length : Int) := by omega
  have hqn : q ≠ w.heap.size := Nat.ne_of_lt (lt_of_block h.blk)
  have HH := Lib.hid h
  have HB0 := Lib.hid hb0
  have HO0 := Lib.hid ho0
  have HN0 := Lib.hid hn0
  have HBN := Lib.hid hbN
  have HAT := Lib.hid hat
  clear hat
  obtain ⟨m1, m2, m3⟩ := hn0.cells hf
  obtain ⟨x, y, u⟩ := f
  simp only at hx m1 m2 m3
  clear hf
  clear h hb0 ho0 hz hn0 hbN
  go_enter Try.func21, Try.ntmps21
  go_wp2_with (first | (go_at_call 42; ((with_reducible refine (fits_any5 _ nm).mono ?_); rintro e w' ⟨rfl, rfl⟩; rw [hfit])))
  go_quiet ((go_at_call 43; exact Calls.quiet_of_same (at_says _ 0 _ N nm _ (HN0.out.drewN _) HAT.out)))
  go_wp2_with fail
  go_quiet (fail)
  go_wp2_with fail
  go_quiet (fail)
  go_wp2_with fail
  refine wp_region_held_drew (S := (fun W => W.cell? ⟨w.heap.size, 0, none⟩ = some (.int .i64 2) ∧ W.cell? ⟨w.heap.size, 1, none⟩ = some (.string nm) ∧ W.cell? ⟨w.heap.size, 2, none⟩ = some (.string s) ∧ W.cell? ⟨w.heap.size, 3, none⟩ = some (.int .i64 n))) (by kernel_rfl) (by first | (go_keep; done) | (dsimp only; go_keep)) (fun hHeld => ?_)
  refine wpAnyH_take (i := 0) (v := ?_) (fata fat0) (by kernel_rfl) (by kernel_rfl) (by kernel_rfl) (fun _ _ _ h => h) (Or.inl ⟨by rfl, ?_⟩) (by assumption) ?_
  rotate_left
  · (intro w hSw; (try dsimp only at hSw); go_simp; (first | done | with_reducible rfl))
  try simp only [Act.put, List.setIfInBounds_toArray, List.set_cons_zero, List.set_cons_succ]
  refine wpAnyH_take (i := 1) (v := ?_) (fata (fatS fat0)) (by kernel_rfl) (by kernel_rfl) (by kernel_rfl) (fun _ _ _ h => h) (Or.inl ⟨by rfl, ?_⟩) (by assumption) ?_
  rotate_left
  · (intro w hSw; (try dsimp only at hSw); go_simp; (first | done | with_reducible rfl))
  try simp only [Act.put, List.setIfInBounds_toArray, List.set_cons_zero, List.set_cons_succ]
  refine wpAnyH_take (i := 2) (v := ?_) (fata (fatS (fatS fat0))) (by kernel_rfl) (by kernel_rfl) (by kernel_rfl) (fun _ _ _ h => h) (Or.inl ⟨by rfl, ?_⟩) (by assumption) ?_
  rotate_left
  · (intro w hSw; (try dsimp only at hSw); go_simp; (first | done | with_reducible rfl))
  try simp only [Act.put, List.setIfInBounds_toArray, List.set_cons_zero, List.set_cons_succ]
  refine wpAnyH_take (i := 3) (v := ?_) (fata (fatS (fatS (fatS fat0)))) (by kernel_rfl) (by kernel_rfl) (by kernel_rfl) (fun _ _ _ h => h) (Or.inl ⟨by rfl, ?_⟩) (by assumption) ?_
  rotate_left
  · (intro w hSw; (try dsimp only at hSw); go_simp; (first | done | with_reducible rfl))
  try simp only [Act.put, List.setIfInBounds_toArray, List.set_cons_zero, List.set_cons_succ]
  refine wpAnyH_take (i := 5) (v := ?_) (fata (fatS (fatS (fatS (fatS (fatS fat0)))))) (by kernel_rfl) (by kernel_rfl) (by kernel_rfl) (fun _ _ _ h => h) (Or.inl ⟨by rfl, ?_⟩) (by assumption) ?_
  rotate_left
  · (intro w hSw; (try dsimp only at hSw); go_simp; (first | done | with_reducible rfl))
  try simp only [Act.put, List.setIfInBounds_toArray, List.set_cons_zero, List.set_cons_succ]
  refine wpAnyH_take (i := 6) (v := ?_) (fata (fatS (fatS (fatS (fatS (fatS (fatS fat0))))))) (by kernel_rfl) (by kernel_rfl) (by kernel_rfl) (fun _ _ _ h => h) (Or.inl ⟨by rfl, ?_⟩) (by assumption) ?_
  rotate_left
  · (intro w hSw; (try dsimp only at hSw); go_simp; (first | done | with_reducible rfl))
  try simp only [Act.put, List.setIfInBounds_toArray, List.set_cons_zero, List.set_cons_succ]
  refine wpAnyH_take (i := 7) (v := ?_) (fata (fatS (fatS (fatS (fatS (fatS (fatS (fatS fat0)))))))) (by kernel_rfl) (by kernel_rfl) (by kernel_rfl) (fun _ _ _ h => h) (Or.inl ⟨by rfl, ?_⟩) (by assumption) ?_
  rotate_left
  · (intro w hSw; (try dsimp only at hSw); go_simp; (first | done | with_reducible rfl))
  try simp only [Act.put, List.setIfInBounds_toArray, List.set_cons_zero, List.set_cons_succ]
  refine wpAnyH_take (i := 8) (v := ?_) (fata (fatS (fatS (fatS (fatS (fatS (fatS (fatS (fatS fat0))))))))) (by kernel_rfl) (by kernel_rfl) (by kernel_rfl) (fun _ _ _ h => h) (Or.inl ⟨by rfl, ?_⟩) (by assumption) ?_
  rotate_left
  · (intro w hSw; (try dsimp only at hSw); go_simp; (first | done | with_reducible rfl))
  try simp only [Act.put, List.setIfInBounds_toArray, List.set_cons_zero, List.set_cons_succ]
  refine wpAnyH_ready (rs := [4]) (by kernel_rfl) (by simp) ?_
  refine AllReadyH.cons (fata (fatS (fatS (fatS (fatS fat0))))) (fun K hK => ?_) AllReadyH.nil
  go_simp
  refine hK.out _ _ (by first | (go_keep; done) | (dsimp only; go_keep; done) | exact ⟨by go_simp, by go_simp, by go_simp, by go_simp⟩) (fun hHeld => ?_)
  clear hK K
  try simp only [Act.put, List.setIfInBounds_toArray, List.set_cons_zero, List.set_cons_succ]
  refine wpAnyH_ready (rs := [9]) (by kernel_rfl) (by simp) ?_
  refine AllReadyH.cons (fata (fatS (fatS (fatS (fatS (fatS (fatS (fatS (fatS (fatS fat0)))))))))) (fun K hK => ?_) AllReadyH.nil
  go_simp
  ((with_reducible refine (does_any _ _ N nm s 2 n _ (HN0.out.drewN _) (by omega) HBN.out (by omega) (by decide)).mono ?_); rintro e w2 ⟨v2, L2, rfl, h2, hl2, hbd2, hb2⟩; obtain ⟨A2, n2, c2', rfl⟩ := h2.shape; have hb3 : Below (w.heap.size + 1) (w.alloc (.cells #[.int .i64 2, .string nm, .string s, .int .i64 n] 61)) w2 := (und hb2).mono (by simp); have h3 : FR w2 (w.heap.size + 1) (.slice A2 n2 c2') L2 := h2.mono (by simp); have hd2 := (HH.out.blk.below HB0.out).below (hb3.mono (by simp)); obtain ⟨d0, d1, d2, d3⟩ := hd2.cells; have df0 := hd2.free 0; obtain ⟨e0, e1, e2, e3⟩ := (HO0.out.below (hb3.mono (by simp))).cells; have H2 := Lib.hid h3; have HB2 := Lib.hid hb3; have HD2 := Lib.hid hd2; have HBD := Lib.hid hbd2; clear h2 hb2 hb3 h3 hd2 hbd2)
  go_wp2_with fail
  refine hK.out _ _ (by first | (go_keep; done) | (dsimp only; go_keep; done) | exact ⟨by go_simp, by go_simp, by go_simp, by go_simp⟩) (fun hHeld => ?_)
  clear hK K
  try simp only [Act.put, List.setIfInBounds_toArray, List.set_cons_zero, List.set_cons_succ]
  refine wpAnyH_take (i := 10) (v := ?_) (fata (fatS (fatS (fatS (fatS (fatS (fatS (fatS (fatS (fatS (fatS fat0))))))))))) (by kernel_rfl) (by kernel_rfl) (by kernel_rfl) (fun _ _ _ h => h) (Or.inl ⟨by rfl, ?_⟩) (by assumption) ?_
  rotate_left
  · (intro w hSw; (try dsimp only at hSw); go_simp; (first | done | with_reducible rfl))
  try simp only [Act.put, List.setIfInBounds_toArray, List.set_cons_zero, List.set_cons_succ]
  refine wpAnyH_take (i := 11) (v := ?_) (fata (fatS (fatS (fatS (fatS (fatS (fatS (fatS (fatS (fatS (fatS (fatS fat0)))))))))))) (by kernel_rfl) (by kernel_rfl) (by kernel_rfl) (fun _ _ _ h => h) (Or.inl ⟨by rfl, ?_⟩) (by assumption) ?_
  rotate_left
  · (intro w hSw; (try dsimp only at hSw); go_simp; (first | done | with_reducible rfl))
  try simp only [Act.put, List.setIfInBounds_toArray, List.set_cons_zero, List.set_cons_succ]
  refine wpAnyH_ready (rs := [12]) (by kernel_rfl) (by simp) ?_
  refine AllReadyH.cons (fata (fatS (fatS (fatS (fatS (fatS (fatS (fatS (fatS (fatS (fatS (fatS (fatS fat0))))))))))))) (fun K hK => ?_) AllReadyH.nil
  go_simp
  refine hK.out _ _ (by first | (go_keep; done) | (dsimp only; go_keep; done) | exact ⟨by go_simp, by go_simp, by go_simp, by go_simp⟩) (fun hHeld => ?_)
  clear hK K
  try simp only [Act.put, List.setIfInBounds_toArray, List.set_cons_zero, List.set_cons_succ]
  refine wpAnyH_done (by kernel_rfl) ?_ _
  have hd3 := HD2.out.set0 (.slice A2 n2 c2')
  have hr3 : FR (w2.setCell ⟨q, 0, none⟩ (.slice A2 n2 c2')) (w.heap.size + 1) (.slice A2 n2 c2') L2 := H2.out.far (show q < w.heap.size + 1 by have := lt_of_block HH.out.blk; omega) _
  have ho3 : OpB (w2.setCell ⟨q, 0, none⟩ (.slice A2 n2 c2')) w.heap.size 2 nm s n := (Below.heap_setCell _ _ _ _ (Ne.symm hqn)).trans (HO0.out.below (HB2.out.mono (by simp)))
  have hO3 : OR (w2.setCell ⟨q, 0, none⟩ (.slice A2 n2 c2')) 0 vo O := (HH.out.o.below (HB0.out.trans (HB2.out.mono (by simp)))).kept fun g hg _ cs hh => Below.heap_setCell _ _ _ _ fun e => by
    have h1 := HD2.out
    unfold DocB at h1
    rw [e, h1] at hh
    simp at hh
  have hs3 : w.heap.size + 1 ≤ (w2.setCell ⟨q, 0, none⟩ (.slice A2 n2 c2')).heap.size := by rw [World.size_setCell]; have := HB2.out.size; rw [World.size_alloc] at this; exact this
  have hon3 : Only (fun i => i = q) w (w2.setCell ⟨q, 0, none⟩ (.slice A2 n2 c2')) := Only.trans (Only.of_below (HB0.out.trans (HB2.out.mono (by simp)))) (S' := fun i => i = q) ⟨rfl, rfl, rfl, by rw [World.size_setCell]; exact Nat.le_refl _, fun i hi hq => Below.heap_setCell _ _ _ _ hq⟩ fun i _ h => h
  generalize w2.setCell ⟨q, 0, none⟩ (.slice A2 n2 c2') = W3 at *
  obtain ⟨f0, f1, f2, f3⟩ := hd3.cells
  have ff := hd3.free 2
  obtain ⟨i0, i1, i2, i3⟩ := ho3.cells
  have HD3 := Lib.hid hd3
  have HR3 := Lib.hid hr3
  have HO3 := Lib.hid ho3
  have HRO3 := Lib.hid hO3
  have HON3 := Lib.hid hon3
  have hq3 : q < W3.heap.size := lt_of_block hd3
  have hw3 : w.heap.size < W3.heap.size := lt_of_block ho3
  obtain ⟨A5, c5, rfl⟩ := hO3.shape
  have hlO : O.length ≤ 300 := by have := HH.out.ls; omega
  generalize hN5 : O.length = n5 at *
  clear hd3 hr3 ho3 hO3 hon3 d0 d1 d2 d3 df0 e0 e1 e2 e3 HD2 H2 HB2
  go_wp2_with fail
  refine wp_region_held_drew (S := (fun W => W.cell? ⟨w.heap.size, 0, none⟩ = some (.int .i64 2) ∧ W.cell? ⟨w.heap.size, 1, none⟩ = some (.string nm) ∧ W.cell? ⟨w.heap.size, 2, none⟩ = some (.string s) ∧ W.cell? ⟨w.heap.size, 3, none⟩ = some (.int .i64 n))) (by kernel_rfl) (by first | (go_keep; done) | (dsimp only; go_keep)) (fun hHeld => ?_)
  refine wpAnyH_take (i := 0) (v := ?_) (fata fat0) (by kernel_rfl) (by kernel_rfl) (by kernel_rfl) (fun _ _ _ h => h) (Or.inl ⟨by rfl, ?_⟩) (by assumption) ?_
  rotate_left
  · (intro w hSw; (try dsimp only at hSw); go_simp; (first | done | with_reducible rfl))
  try simp only [Act.put, List.setIfInBounds_toArray, List.set_cons_zero, List.set_cons_succ]
  refine wpAnyH_take (i := 2) (v := ?_) (fata (fatS (fatS fat0))) (by kernel_rfl) (by kernel_rfl) (by kernel_rfl) (fun _ _ _ h => h) (Or.inl ⟨by rfl, ?_⟩) (by assumption) ?_
  rotate_left
  · (intro w hSw; (try dsimp only at hSw); go_simp; (first | done | with_reducible rfl))
  try simp only [Act.put, List.setIfInBounds_toArray, List.set_cons_zero, List.set_cons_succ]
  refine wpAnyH_take (i := 3) (v := ?_) (fata (fatS (fatS (fatS fat0)))) (by kernel_rfl) (by kernel_rfl) (by kernel_rfl) (fun _ _ _ h => h) (Or.inl ⟨by rfl, ?_⟩) (by assumption) ?_
  rotate_left
  · (intro w hSw; (try dsimp only at hSw); go_simp; (first | done | with_reducible rfl))
  try simp only [Act.put, List.setIfInBounds_toArray, List.set_cons_zero, List.set_cons_succ]
  refine wpAnyH_take (i := 4) (v := ?_) (fata (fatS (fatS (fatS (fatS fat0))))) (by kernel_rfl) (by kernel_rfl) (by kernel_rfl) (fun _ _ _ h => h) (Or.inl ⟨by rfl, ?_⟩) (by assumption) ?_
  rotate_left
  · (intro w hSw; (try dsimp only at hSw); go_simp; (first | done | with_reducible rfl))
  try simp only [Act.put, List.setIfInBounds_toArray, List.set_cons_zero, List.set_cons_succ]
  refine wpAnyH_take (i := 7) (v := ?_) (fata (fatS (fatS (fatS (fatS (fatS (fatS (fatS fat0)))))))) (by kernel_rfl) (by kernel_rfl) (by kernel_rfl) (fun _ _ _ h => h) (Or.inl ⟨by rfl, ?_⟩) (by assumption) ?_
  rotate_left
  · (intro w hSw; (try dsimp only at hSw); go_simp; (first | done | with_reducible rfl))
  try simp only [Act.put, List.setIfInBounds_toArray, List.set_cons_zero, List.set_cons_succ]
  refine wpAnyH_ready (rs := [1, 5, 8]) (by kernel_rfl) (by simp) ?_
  refine AllReadyH.cons (fata (fatS fat0)) (fun K hK => ?_) (AllReadyH.cons (fata (fatS (fatS (fatS (fatS (fatS fat0)))))) (fun K hK => ?_) (AllReadyH.cons (fata (fatS (fatS (fatS (fatS (fatS (fatS (fatS (fatS fat0))))))))) (fun K hK => ?_) (AllReadyH.nil)))
  · go_simp
    refine hK.out _ _ (by first | (go_keep; done) | (dsimp only; go_keep; done) | exact ⟨by go_simp, by go_simp, by go_simp, by go_simp⟩) (fun hHeld => ?_)
    clear hK K
    try simp only [Act.put, List.setIfInBounds_toArray, List.set_cons_zero, List.set_cons_succ]
    refine wpAnyH_ready (rs := [5, 8]) (by kernel_rfl) (by simp) ?_
    refine AllReadyH.cons (fata (fatS (fatS (fatS (fatS (fatS fat0)))))) (fun K hK => ?_) (AllReadyH.cons (fata (fatS (fatS (fatS (fatS (fatS (fatS (fatS (fatS fat0))))))))) (fun K hK => ?_) (AllReadyH.nil))
    · go_simp
      refine hK.out _ _ (by first | (go_keep; done) | (dsimp only; go_keep; done) | exact ⟨by go_simp, by go_simp, by go_simp, by go_simp⟩) (fun hHeld => ?_)
      clear hK K
      try simp only [Act.put, List.setIfInBounds_toArray, List.set_cons_zero, List.set_cons_succ]
      refine wpAnyH_ready (rs := [6, 8]) (by kernel_rfl) (by simp) ?_
      refine AllReadyH.cons (fata (fatS (fatS (fatS (fatS (fatS (fatS fat0))))))) (fun K hK => ?_) (AllReadyH.cons (fata (fatS (fatS (fatS (fatS (fatS (fatS (fatS (fatS fat0))))))))) (fun K hK => ?_) (AllReadyH.nil))
      · ((refine step_appendO rfl _ _ rfl W3.heap.size (.slice (some ⟨W3.heap.size, 0, none⟩) 0 0) [] rfl (OR.new0 W3) _ O rfl (HRO3.out.src.below (Below.drew ((Below.refl _ W3).alloc (Nat.le_refl _) _))) (by simp only [List.length_nil]; omega) (by first | (simp; done) | (simp; omega)) ?_; intro A6 n6 c6 w4 h6 hb6 hg6; rw [List.nil_append] at h6; have hw4 : W3.heap.size + 1 ≤ w4.heap.size := (by have h7 := hb6.size; simp at h7; omega); have hbw4 : Below W3.heap.size W3 w4 := ((Below.refl _ W3).alloc (Nat.le_refl _) _).trans (show Below W3.heap.size (W3.alloc (.cells #[] 61)) w4 from ⟨hb6.os, hb6.tape, hb6.output, hb6.size, fun k hk => hb6.block k (by omega)⟩); obtain ⟨k0, k1, k2, k3⟩ := (HO3.out.below hbw4).cells; have HW4 := Lib.hid hbw4; have H6 := Lib.hid h6; have HG6 := Lib.hid hg6; skip; clear h6 hb6 hg6 hbw4))
        refine hK.out _ _ (by first | (go_keep; done) | (dsimp only; go_keep; done) | exact ⟨by go_simp, by go_simp, by go_simp, by go_simp⟩) (fun hHeld => ?_)
        clear hK K
        try simp only [Act.put, List.setIfInBounds_toArray, List.set_cons_zero, List.set_cons_succ]
        refine wpAnyH_ready (rs := [8]) (by kernel_rfl) (by simp) ?_
        refine AllReadyH.cons (fata (fatS (fatS (fatS (fatS (fatS (fatS (fatS (fatS fat0))))))))) (fun K hK => ?_) (AllReadyH.nil)
        go_simp
        refine hK.out _ _ (by first | (go_keep; done) | (dsimp only; go_keep; done) | exact ⟨by go_simp, by go_simp, by go_simp, by go_simp⟩) (fun hHeld => ?_)
        clear hK K
        try simp only [Act.put, List.setIfInBounds_toArray, List.set_cons_zero, List.set_cons_succ]
        refine wpAnyH_ready (rs := [9]) (by kernel_rfl) (by simp) ?_
        refine AllReadyH.cons (fata (fatS (fatS (fatS (fatS (fatS (fatS (fatS (fatS (fatS fat0)))))))))) (fun K hK => ?_) (AllReadyH.nil)
        ((refine step_appendO rfl _ _ rfl W3.heap.size (.slice A6 n6 c6) O rfl ((World.ownsRow.alloc H6.out _ : OR _ _ _ _)) _ [(2, nm, s, n)] rfl (srcO_one w4 (2, nm, s, n)) (by simp only [List.length_cons, List.length_nil]; omega) (by first | omega | (simp; omega)) ?_; intro A9 n9 c9 w5 h9 hb9 hg9; have hbw5 : Below W3.heap.size W3 w5 := (HW4.out.alloc HW4.out.size (.cells #[.int .i64 2, .string nm, .string s, .int .i64 n] 61)).trans (show Below W3.heap.size (w4.alloc (.cells #[.int .i64 2, .string nm, .string s, .int .i64 n] 61)) w5 from ⟨hb9.os, hb9.tape, hb9.output, hb9.size, fun k hk => hb9.block k (by omega)⟩); obtain ⟨l0, l1, l2, l3⟩ := (HO3.out.below hbw5).cells; obtain ⟨p0, p1, p2, p3⟩ := (HD3.out.below hbw5).cells; have pf := (HD3.out.below hbw5).free 2; have HW5 := Lib.hid hbw5; have H9 := Lib.hid (OR.mono (B' := w.heap.size + 1) h9 (by omega)); clear h9 hb9 hg9 hbw5))
        refine hK.out _ _ (by first | (go_keep; done) | (dsimp only; go_keep; done) | exact ⟨by go_simp, by go_simp, by go_simp, by go_simp⟩) (fun hHeld => ?_)
        clear hK K
        try simp only [Act.put, List.setIfInBounds_toArray, List.set_cons_zero, List.set_cons_succ]
        refine wpAnyH_take (i := 10) (v := ?_) (fata (fatS (fatS (fatS (fatS (fatS (fatS (fatS (fatS (fatS (fatS fat0))))))))))) (by kernel_rfl) (by kernel_rfl) (by kernel_rfl) (fun _ _ _ h => h) (Or.inl ⟨by rfl, ?_⟩) (by assumption) ?_
        rotate_left
        · (intro w hSw; (try dsimp only at hSw); go_simp; (first | done | with_reducible rfl))
        try simp only [Act.put, List.setIfInBounds_toArray, List.set_cons_zero, List.set_cons_succ]
        refine wpAnyH_take (i := 11) (v := ?_) (fata (fatS (fatS (fatS (fatS (fatS (fatS (fatS (fatS (fatS (fatS (fatS fat0)))))))))))) (by kernel_rfl) (by kernel_rfl) (by kernel_rfl) (fun _ _ _ h => h) (Or.inl ⟨by rfl, ?_⟩) (by assumption) ?_
        rotate_left
        · (intro w hSw; (try dsimp only at hSw); go_simp; (first | done | with_reducible rfl))
        try simp only [Act.put, List.setIfInBounds_toArray, List.set_cons_zero, List.set_cons_succ]
        refine wpAnyH_ready (rs := [12]) (by kernel_rfl) (by simp) ?_
        refine AllReadyH.cons (fata (fatS (fatS (fatS (fatS (fatS (fatS (fatS (fatS (fatS (fatS (fatS (fatS fat0))))))))))))) (fun K hK => ?_) AllReadyH.nil
        go_simp
        refine hK.out _ _ (by first | (go_keep; done) | (dsimp only; go_keep; done) | exact ⟨by go_simp, by go_simp, by go_simp, by go_simp⟩) (fun hHeld => ?_)
        clear hK K
        try simp only [Act.put, List.setIfInBounds_toArray, List.set_cons_zero, List.set_cons_succ]
        refine wpAnyH_done (by kernel_rfl) ?_ _
        go_wp2
        go_ret
        exact ⟨⟨_, rfl⟩, DocI.fin HH.out HON3.out HD3.out HR3.out HW5.out H9.out (by omega) hq3 hl2 HBD.out ⟨⟨by show (0 : Int) ≤ 2; decide, by show (2 : Int) ≤ 4; decide⟩, hs⟩⟩
      · go_simp
        refine hK.out _ _ (by first | (go_keep; done) | (dsimp only; go_keep; done) | exact ⟨by go_simp, by go_simp, by go_simp, by go_simp⟩) (fun hHeld => ?_)
        clear hK K
        try simp only [Act.put, List.setIfInBounds_toArray, List.set_cons_zero, List.set_cons_succ]
        refine wpAnyH_ready (rs := [6]) (by kernel_rfl) (by simp) ?_
        refine AllReadyH.cons (fata (fatS (fatS (fatS (fatS (fatS (fatS fat0))))))) (fun K hK => ?_) (AllReadyH.nil)
        ((refine step_appendO rfl _ _ rfl W3.heap.size (.slice (some ⟨W3.heap.size, 0, none⟩) 0 0) [] rfl ((World.ownsRow.alloc (OR.new0 W3) _ : OR _ _ _ _)) _ O rfl (HRO3.out.src.below (Below.drew (((Below.refl _ W3).alloc (Nat.le_refl _) _).alloc (by rw [World.size_alloc]; omega) _))) (by simp only [List.length_nil]; omega) (by first | (simp; done) | (simp; omega)) ?_; intro A6 n6 c6 w4 h6 hb6 hg6; rw [List.nil_append] at h6; have hw4 : W3.heap.size + 1 ≤ w4.heap.size := (by have h7 := hb6.size; simp at h7; omega); have hbw4 : Below W3.heap.size W3 w4 := (((Below.refl _ W3).alloc (Nat.le_refl _) _).alloc (by rw [World.size_alloc]; omega) _).trans (show Below W3.heap.size ((W3.alloc (.cells #[] 61)).alloc (.cells #[.int .i64 2, .string nm, .string s, .int .i64 n] 61)) w4 from ⟨hb6.os, hb6.tape, hb6.output, hb6.size, fun k hk => hb6.block k (by omega)⟩); obtain ⟨k0, k1, k2, k3⟩ := (HO3.out.below hbw4).cells; have HW4 := Lib.hid hbw4; have H6 := Lib.hid h6; have HG6 := Lib.hid hg6; have HS1 := Lib.hid (SrcO.grown (row := some W3.heap.size) (by have h := srcO_one (W3.alloc (.cells #[] 61)) (2, nm, s, n); rw [World.size_alloc] at h; exact h) (w' := w4) ⟨hg6.os, hg6.tape, hg6.output, hg6.size, hg6.block⟩ (by simp) : SrcO w4 (.slice (some ⟨W3.heap.size + 1, 0, none⟩) 1 1) [(2, nm, s, n)]); clear h6 hb6 hg6 hbw4))
        refine hK.out _ _ (by first | (go_keep; done) | (dsimp only; go_keep; done) | exact ⟨by go_simp, by go_simp, by go_simp, by go_simp⟩) (fun hHeld => ?_)
        clear hK K
        try simp only [Act.put, List.setIfInBounds_toArray, List.set_cons_zero, List.set_cons_succ]
        refine wpAnyH_ready (rs := [9]) (by kernel_rfl) (by simp) ?_
        refine AllReadyH.cons (fata (fatS (fatS (fatS (fatS (fatS (fatS (fatS (fatS (fatS fat0)))))))))) (fun K hK => ?_) (AllReadyH.nil)
        ((refine step_appendO rfl _ _ rfl W3.heap.size (.slice A6 n6 c6) O rfl H6.out _ [(2, nm, s, n)] rfl HS1.out (by simp only [List.length_cons, List.length_nil]; omega) (by first | omega | (simp; omega)) ?_; intro A9 n9 c9 w5 h9 hb9 hg9; have hbw5 : Below W3.heap.size W3 w5 := (HW4.out).trans (show Below W3.heap.size w4 w5 from ⟨hb9.os, hb9.tape, hb9.output, hb9.size, fun k hk => hb9.block k (by omega)⟩); obtain ⟨l0, l1, l2, l3⟩ := (HO3.out.below hbw5).cells; obtain ⟨p0, p1, p2, p3⟩ := (HD3.out.below hbw5).cells; have pf := (HD3.out.below hbw5).free 2; have HW5 := Lib.hid hbw5; have H9 := Lib.hid (OR.mono (B' := w.heap.size + 1) h9 (by omega)); clear h9 hb9 hg9 hbw5))
        refine hK.out _ _ (by first | (go_keep; done) | (dsimp only; go_keep; done) | exact ⟨by go_simp, by go_simp, by go_simp, by go_simp⟩) (fun hHeld => ?_)
        clear hK K
        try simp only [Act.put, List.setIfInBounds_toArray, List.set_cons_zero, List.set_cons_succ]
        refine wpAnyH_take (i := 10) (v := ?_) (fata (fatS (fatS (fatS (fatS (fatS (fatS (fatS (fatS (fatS (fatS fat0))))))))))) (by kernel_rfl) (by kernel_rfl) (by kernel_rfl) (fun _ _ _ h => h) (Or.inl ⟨by rfl, ?_⟩) (by assumption) ?_
        rotate_left
        · (intro w hSw; (try dsimp only at hSw); go_simp; (first | done | with_reducible rfl))
        try simp only [Act.put, List.setIfInBounds_toArray, List.set_cons_zero, List.set_cons_succ]
        refine wpAnyH_take (i := 11) (v := ?_) (fata (fatS (fatS (fatS (fatS (fatS (fatS (fatS (fatS (fatS (fatS (fatS fat0)))))))))))) (by kernel_rfl) (by kernel_rfl) (by kernel_rfl) (fun _ _ _ h => h) (Or.inl ⟨by rfl, ?_⟩) (by assumption) ?_
        rotate_left
        · (intro w hSw; (try dsimp only at hSw); go_simp; (first | done | with_reducible rfl))
        try simp only [Act.put, List.setIfInBounds_toArray, List.set_cons_zero, List.set_cons_succ]
        refine wpAnyH_ready (rs := [12]) (by kernel_rfl) (by simp) ?_
        refine AllReadyH.cons (fata (fatS (fatS (fatS (fatS (fatS (fatS (fatS (fatS (fatS (fatS (fatS (fatS fat0))))))))))))) (fun K hK => ?_) AllReadyH.nil
        go_simp
        refine hK.out _ _ (by first | (go_keep; done) | (dsimp only; go_keep; done) | exact ⟨by go_simp, by go_simp, by go_simp, by go_simp⟩) (fun hHeld => ?_)
        clear hK K
        try simp only [Act.put, List.setIfInBounds_toArray, List.set_cons_zero, List.set_cons_succ]
        refine wpAnyH_done (by kernel_rfl) ?_ _
        go_wp2
        go_ret
        exact ⟨⟨_, rfl⟩, DocI.fin HH.out HON3.out HD3.out HR3.out HW5.out H9.out (by omega) hq3 hl2 HBD.out ⟨⟨by show (0 : Int) ≤ 2; decide, by show (2 : Int) ≤ 4; decide⟩, hs⟩⟩
    · go_simp
      refine hK.out _ _ (by first | (go_keep; done) | (dsimp only; go_keep; done) | exact ⟨by go_simp, by go_simp, by go_simp, by go_simp⟩) (fun hHeld => ?_)
      clear hK K
      try simp only [Act.put, List.setIfInBounds_toArray, List.set_cons_zero, List.set_cons_succ]
      refine wpAnyH_ready (rs := [5]) (by kernel_rfl) (by simp) ?_
      refine AllReadyH.cons (fata (fatS (fatS (fatS (fatS (fatS fat0)))))) (fun K hK => ?_) (AllReadyH.nil)
      go_simp
      refine hK.out _ _ (by first | (go_keep; done) | (dsimp only; go_keep; done) | exact ⟨by go_simp, by go_simp, by go_simp, by go_simp⟩) (fun hHeld => ?_)
      clear hK K
      try simp only [Act.put, List.setIfInBounds_toArray, List.set_cons_zero, List.set_cons_succ]
      refine wpAnyH_ready (rs := [6]) (by kernel_rfl) (by simp) ?_
      refine AllReadyH.cons (fata (fatS (fatS (fatS (fatS (fatS (fatS fat0))))))) (fun K hK => ?_) (AllReadyH.nil)
      ((refine step_appendO rfl _ _ rfl W3.heap.size (.slice (some ⟨W3.heap.size, 0, none⟩) 0 0) [] rfl ((World.ownsRow.alloc (OR.new0 W3) _ : OR _ _ _ _)) _ O rfl (HRO3.out.src.below (Below.drew (((Below.refl _ W3).alloc (Nat.le_refl _) _).alloc (by rw [World.size_alloc]; omega) _))) (by simp only [List.length_nil]; omega) (by first | (simp; done) | (simp; omega)) ?_; intro A6 n6 c6 w4 h6 hb6 hg6; rw [List.nil_append] at h6; have hw4 : W3.heap.size + 1 ≤ w4.heap.size := (by have h7 := hb6.size; simp at h7; omega); have hbw4 : Below W3.heap.size W3 w4 := (((Below.refl _ W3).alloc (Nat.le_refl _) _).alloc (by rw [World.size_alloc]; omega) _).trans (show Below W3.heap.size ((W3.alloc (.cells #[] 61)).alloc (.cells #[.int .i64 2, .string nm, .string s, .int .i64 n] 61)) w4 from ⟨hb6.os, hb6.tape, hb6.output, hb6.size, fun k hk => hb6.block k (by omega)⟩); obtain ⟨k0, k1, k2, k3⟩ := (HO3.out.below hbw4).cells; have HW4 := Lib.hid hbw4; have H6 := Lib.hid h6; have HG6 := Lib.hid hg6; have HS1 := Lib.hid (SrcO.grown (row := some W3.heap.size) (by have h := srcO_one (W3.alloc (.cells #[] 61)) (2, nm, s, n); rw [World.size_alloc] at h; exact h) (w' := w4) ⟨hg6.os, hg6.tape, hg6.output, hg6.size, hg6.block⟩ (by simp) : SrcO w4 (.slice (some ⟨W3.heap.size + 1, 0, none⟩) 1 1) [(2, nm, s, n)]); clear h6 hb6 hg6 hbw4))
      refine hK.out _ _ (by first | (go_keep; done) | (dsimp only; go_keep; done) | exact ⟨by go_simp, by go_simp, by go_simp, by go_simp⟩) (fun hHeld => ?_)
      clear hK K
      try simp only [Act.put, List.setIfInBounds_toArray, List.set_cons_zero, List.set_cons_succ]
      refine wpAnyH_ready (rs := [9]) (by kernel_rfl) (by simp) ?_
      refine AllReadyH.cons (fata (fatS (fatS (fatS (fatS (fatS (fatS (fatS (fatS (fatS fat0)))))))))) (fun K hK => ?_) (AllReadyH.nil)
      ((refine step_appendO rfl _ _ rfl W3.heap.size (.slice A6 n6 c6) O rfl H6.out _ [(2, nm, s, n)] rfl HS1.out (by simp only [List.length_cons, List.length_nil]; omega) (by first | omega | (simp; omega)) ?_; intro A9 n9 c9 w5 h9 hb9 hg9; have hbw5 : Below W3.heap.size W3 w5 := (HW4.out).trans (show Below W3.heap.size w4 w5 from ⟨hb9.os, hb9.tape, hb9.output, hb9.size, fun k hk => hb9.block k (by omega)⟩); obtain ⟨l0, l1, l2, l3⟩ := (HO3.out.below hbw5).cells; obtain ⟨p0, p1, p2, p3⟩ := (HD3.out.below hbw5).cells; have pf := (HD3.out.below hbw5).free 2; have HW5 := Lib.hid hbw5; have H9 := Lib.hid (OR.mono (B' := w.heap.size + 1) h9 (by omega)); clear h9 hb9 hg9 hbw5))
      refine hK.out _ _ (by first | (go_keep; done) | (dsimp only; go_keep; done) | exact ⟨by go_simp, by go_simp, by go_simp, by go_simp⟩) (fun hHeld => ?_)
      clear hK K
      try simp only [Act.put, List.setIfInBounds_toArray, List.set_cons_zero, List.set_cons_succ]
      refine wpAnyH_take (i := 10) (v := ?_) (fata (fatS (fatS (fatS (fatS (fatS (fatS (fatS (fatS (fatS (fatS fat0))))))))))) (by kernel_rfl) (by kernel_rfl) (by kernel_rfl) (fun _ _ _ h => h) (Or.inl ⟨by rfl, ?_⟩) (by assumption) ?_
      rotate_left
      · (intro w hSw; (try dsimp only at hSw); go_simp; (first | done | with_reducible rfl))
      try simp only [Act.put, List.setIfInBounds_toArray, List.set_cons_zero, List.set_cons_succ]
      refine wpAnyH_take (i := 11) (v := ?_) (fata (fatS (fatS (fatS (fatS (fatS (fatS (fatS (fatS (fatS (fatS (fatS fat0)))))))))))) (by kernel_rfl) (by kernel_rfl) (by kernel_rfl) (fun _ _ _ h => h) (Or.inl ⟨by rfl, ?_⟩) (by assumption) ?_
      rotate_left
      · (intro w hSw; (try dsimp only at hSw); go_simp; (first | done | with_reducible rfl))
      try simp only [Act.put, List.setIfInBounds_toArray, List.set_cons_zero, List.set_cons_succ]
      refine wpAnyH_ready (rs := [12]) (by kernel_rfl) (by simp) ?_
      refine AllReadyH.cons (fata (fatS (fatS (fatS (fatS (fatS (fatS (fatS (fatS (fatS (fatS (fatS (fatS fat0))))))))))))) (fun K hK => ?_) AllReadyH.nil
      go_simp
      refine hK.out _ _ (by first | (go_keep; done) | (dsimp only; go_keep; done) | exact ⟨by go_simp, by go_simp, by go_simp, by go_simp⟩) (fun hHeld => ?_)
      clear hK K
      try simp only [Act.put, List.setIfInBounds_toArray, List.set_cons_zero, List.set_cons_succ]
      refine wpAnyH_done (by kernel_rfl) ?_ _
      go_wp2
      go_ret
      exact ⟨⟨_, rfl⟩, DocI.fin HH.out HON3.out HD3.out HR3.out HW5.out H9.out (by omega) hq3 hl2 HBD.out ⟨⟨by show (0 : Int) ≤ 2; decide, by show (2 : Int) ≤ 4; decide⟩, hs⟩⟩
  · go_simp
    refine hK.out _ _ (by first | (go_keep; done) | (dsimp only; go_keep; done) | exact ⟨by go_simp, by go_simp, by go_simp, by go_simp⟩) (fun hHeld => ?_)
    clear hK K
    try simp only [Act.put, List.setIfInBounds_toArray, List.set_cons_zero, List.set_cons_succ]
    refine wpAnyH_ready (rs := [1, 8]) (by kernel_rfl) (by simp) ?_
    refine AllReadyH.cons (fata (fatS fat0)) (fun K hK => ?_) (AllReadyH.cons (fata (fatS (fatS (fatS (fatS (fatS (fatS (fatS (fatS fat0))))))))) (fun K hK => ?_) (AllReadyH.nil))
    · go_simp
      refine hK.out _ _ (by first | (go_keep; done) | (dsimp only; go_keep; done) | exact ⟨by go_simp, by go_simp, by go_simp, by go_simp⟩) (fun hHeld => ?_)
      clear hK K
      try simp only [Act.put, List.setIfInBounds_toArray, List.set_cons_zero, List.set_cons_succ]
      refine wpAnyH_ready (rs := [6, 8]) (by kernel_rfl) (by simp) ?_
      refine AllReadyH.cons (fata (fatS (fatS (fatS (fatS (fatS (fatS fat0))))))) (fun K hK => ?_) (AllReadyH.cons (fata (fatS (fatS (fatS (fatS (fatS (fatS (fatS (fatS fat0))))))))) (fun K hK => ?_) (AllReadyH.nil))
      · ((refine step_appendO rfl _ _ rfl W3.heap.size (.slice (some ⟨W3.heap.size, 0, none⟩) 0 0) [] rfl (OR.new0 W3) _ O rfl (HRO3.out.src.below (Below.drew ((Below.refl _ W3).alloc (Nat.le_refl _) _))) (by simp only [List.length_nil]; omega) (by first | (simp; done) | (simp; omega)) ?_; intro A6 n6 c6 w4 h6 hb6 hg6; rw [List.nil_append] at h6; have hw4 : W3.heap.size + 1 ≤ w4.heap.size := (by have h7 := hb6.size; simp at h7; omega); have hbw4 : Below W3.heap.size W3 w4 := ((Below.refl _ W3).alloc (Nat.le_refl _) _).trans (show Below W3.heap.size (W3.alloc (.cells #[] 61)) w4 from ⟨hb6.os, hb6.tape, hb6.output, hb6.size, fun k hk => hb6.block k (by omega)⟩); obtain ⟨k0, k1, k2, k3⟩ := (HO3.out.below hbw4).cells; have HW4 := Lib.hid hbw4; have H6 := Lib.hid h6; have HG6 := Lib.hid hg6; skip; clear h6 hb6 hg6 hbw4))
        refine hK.out _ _ (by first | (go_keep; done) | (dsimp only; go_keep; done) | exact ⟨by go_simp, by go_simp, by go_simp, by go_simp⟩) (fun hHeld => ?_)
        clear hK K
        try simp only [Act.put, List.setIfInBounds_toArray, List.set_cons_zero, List.set_cons_succ]
        refine wpAnyH_ready (rs := [8]) (by kernel_rfl) (by simp) ?_
        refine AllReadyH.cons (fata (fatS (fatS (fatS (fatS (fatS (fatS (fatS (fatS fat0))))))))) (fun K hK => ?_) (AllReadyH.nil)
        go_simp
        refine hK.out _ _ (by first | (go_keep; done) | (dsimp only; go_keep; done) | exact ⟨by go_simp, by go_simp, by go_simp, by go_simp⟩) (fun hHeld => ?_)
        clear hK K
        try simp only [Act.put, List.setIfInBounds_toArray, List.set_cons_zero, List.set_cons_succ]
        refine wpAnyH_ready (rs := [9]) (by kernel_rfl) (by simp) ?_
        refine AllReadyH.cons (fata (fatS (fatS (fatS (fatS (fatS (fatS (fatS (fatS (fatS fat0)))))))))) (fun K hK => ?_) (AllReadyH.nil)
        ((refine step_appendO rfl _ _ rfl W3.heap.size (.slice A6 n6 c6) O rfl ((World.ownsRow.alloc H6.out _ : OR _ _ _ _)) _ [(2, nm, s, n)] rfl (srcO_one w4 (2, nm, s, n)) (by simp only [List.length_cons, List.length_nil]; omega) (by first | omega | (simp; omega)) ?_; intro A9 n9 c9 w5 h9 hb9 hg9; have hbw5 : Below W3.heap.size W3 w5 := (HW4.out.alloc HW4.out.size (.cells #[.int .i64 2, .string nm, .string s, .int .i64 n] 61)).trans (show Below W3.heap.size (w4.alloc (.cells #[.int .i64 2, .string nm, .string s, .int .i64 n] 61)) w5 from ⟨hb9.os, hb9.tape, hb9.output, hb9.size, fun k hk => hb9.block k (by omega)⟩); obtain ⟨l0, l1, l2, l3⟩ := (HO3.out.below hbw5).cells; obtain ⟨p0, p1, p2, p3⟩ := (HD3.out.below hbw5).cells; have pf := (HD3.out.below hbw5).free 2; have HW5 := Lib.hid hbw5; have H9 := Lib.hid (OR.mono (B' := w.heap.size + 1) h9 (by omega)); clear h9 hb9 hg9 hbw5))
        refine hK.out _ _ (by first | (go_keep; done) | (dsimp only; go_keep; done) | exact ⟨by go_simp, by go_simp, by go_simp, by go_simp⟩) (fun hHeld => ?_)
        clear hK K
        try simp only [Act.put, List.setIfInBounds_toArray, List.set_cons_zero, List.set_cons_succ]
        refine wpAnyH_take (i := 10) (v := ?_) (fata (fatS (fatS (fatS (fatS (fatS (fatS (fatS (fatS (fatS (fatS fat0))))))))))) (by kernel_rfl) (by kernel_rfl) (by kernel_rfl) (fun _ _ _ h => h) (Or.inl ⟨by rfl, ?_⟩) (by assumption) ?_
        rotate_left
        · (intro w hSw; (try dsimp only at hSw); go_simp; (first | done | with_reducible rfl))
        try simp only [Act.put, List.setIfInBounds_toArray, List.set_cons_zero, List.set_cons_succ]
        refine wpAnyH_take (i := 11) (v := ?_) (fata (fatS (fatS (fatS (fatS (fatS (fatS (fatS (fatS (fatS (fatS (fatS fat0)))))))))))) (by kernel_rfl) (by kernel_rfl) (by kernel_rfl) (fun _ _ _ h => h) (Or.inl ⟨by rfl, ?_⟩) (by assumption) ?_
        rotate_left
        · (intro w hSw; (try dsimp only at hSw); go_simp; (first | done | with_reducible rfl))
        try simp only [Act.put, List.setIfInBounds_toArray, List.set_cons_zero, List.set_cons_succ]
        refine wpAnyH_ready (rs := [12]) (by kernel_rfl) (by simp) ?_
        refine AllReadyH.cons (fata (fatS (fatS (fatS (fatS (fatS (fatS (fatS (fatS (fatS (fatS (fatS (fatS fat0))))))))))))) (fun K hK => ?_) AllReadyH.nil
        go_simp
        refine hK.out _ _ (by first | (go_keep; done) | (dsimp only; go_keep; done) | exact ⟨by go_simp, by go_simp, by go_simp, by go_simp⟩) (fun hHeld => ?_)
        clear hK K
        try simp only [Act.put, List.setIfInBounds_toArray, List.set_cons_zero, List.set_cons_succ]
        refine wpAnyH_done (by kernel_rfl) ?_ _
        go_wp2
        go_ret
        exact ⟨⟨_, rfl⟩, DocI.fin HH.out HON3.out HD3.out HR3.out HW5.out H9.out (by omega) hq3 hl2 HBD.out ⟨⟨by show (0 : Int) ≤ 2; decide, by show (2 : Int) ≤ 4; decide⟩, hs⟩⟩
      · go_simp
        refine hK.out _ _ (by first | (go_keep; done) | (dsimp only; go_keep; done) | exact ⟨by go_simp, by go_simp, by go_simp, by go_simp⟩) (fun hHeld => ?_)
        clear hK K
        try simp only [Act.put, List.setIfInBounds_toArray, List.set_cons_zero, List.set_cons_succ]
        refine wpAnyH_ready (rs := [6]) (by kernel_rfl) (by simp) ?_
        refine AllReadyH.cons (fata (fatS (fatS (fatS (fatS (fatS (fatS fat0))))))) (fun K hK => ?_) (AllReadyH.nil)
        ((refine step_appendO rfl _ _ rfl W3.heap.size (.slice (some ⟨W3.heap.size, 0, none⟩) 0 0) [] rfl ((World.ownsRow.alloc (OR.new0 W3) _ : OR _ _ _ _)) _ O rfl (HRO3.out.src.below (Below.drew (((Below.refl _ W3).alloc (Nat.le_refl _) _).alloc (by rw [World.size_alloc]; omega) _))) (by simp only [List.length_nil]; omega) (by first | (simp; done) | (simp; omega)) ?_; intro A6 n6 c6 w4 h6 hb6 hg6; rw [List.nil_append] at h6; have hw4 : W3.heap.size + 1 ≤ w4.heap.size := (by have h7 := hb6.size; simp at h7; omega); have hbw4 : Below W3.heap.size W3 w4 := (((Below.refl _ W3).alloc (Nat.le_refl _) _).alloc (by rw [World.size_alloc]; omega) _).trans (show Below W3.heap.size ((W3.alloc (.cells #[] 61)).alloc (.cells #[.int .i64 2, .string nm, .string s, .int .i64 n] 61)) w4 from ⟨hb6.os, hb6.tape, hb6.output, hb6.size, fun k hk => hb6.block k (by omega)⟩); obtain ⟨k0, k1, k2, k3⟩ := (HO3.out.below hbw4).cells; have HW4 := Lib.hid hbw4; have H6 := Lib.hid h6; have HG6 := Lib.hid hg6; have HS1 := Lib.hid (SrcO.grown (row := some W3.heap.size) (by have h := srcO_one (W3.alloc (.cells #[] 61)) (2, nm, s, n); rw [World.size_alloc] at h; exact h) (w' := w4) ⟨hg6.os, hg6.tape, hg6.output, hg6.size, hg6.block⟩ (by simp) : SrcO w4 (.slice (some ⟨W3.heap.size + 1, 0, none⟩) 1 1) [(2, nm, s, n)]); clear h6 hb6 hg6 hbw4))
        refine hK.out _ _ (by first | (go_keep; done) | (dsimp only; go_keep; done) | exact ⟨by go_simp, by go_simp, by go_simp, by go_simp⟩) (fun hHeld => ?_)
        clear hK K
        try simp only [Act.put, List.setIfInBounds_toArray, List.set_cons_zero, List.set_cons_succ]
        refine wpAnyH_ready (rs := [9]) (by kernel_rfl) (by simp) ?_
        refine AllReadyH.cons (fata (fatS (fatS (fatS (fatS (fatS (fatS (fatS (fatS (fatS fat0)))))))))) (fun K hK => ?_) (AllReadyH.nil)
        ((refine step_appendO rfl _ _ rfl W3.heap.size (.slice A6 n6 c6) O rfl H6.out _ [(2, nm, s, n)] rfl HS1.out (by simp only [List.length_cons, List.length_nil]; omega) (by first | omega | (simp; omega)) ?_; intro A9 n9 c9 w5 h9 hb9 hg9; have hbw5 : Below W3.heap.size W3 w5 := (HW4.out).trans (show Below W3.heap.size w4 w5 from ⟨hb9.os, hb9.tape, hb9.output, hb9.size, fun k hk => hb9.block k (by omega)⟩); obtain ⟨l0, l1, l2, l3⟩ := (HO3.out.below hbw5).cells; obtain ⟨p0, p1, p2, p3⟩ := (HD3.out.below hbw5).cells; have pf := (HD3.out.below hbw5).free 2; have HW5 := Lib.hid hbw5; have H9 := Lib.hid (OR.mono (B' := w.heap.size + 1) h9 (by omega)); clear h9 hb9 hg9 hbw5))
        refine hK.out _ _ (by first | (go_keep; done) | (dsimp only; go_keep; done) | exact ⟨by go_simp, by go_simp, by go_simp, by go_simp⟩) (fun hHeld => ?_)
        clear hK K
        try simp only [Act.put, List.setIfInBounds_toArray, List.set_cons_zero, List.set_cons_succ]
        refine wpAnyH_take (i := 10) (v := ?_) (fata (fatS (fatS (fatS (fatS (fatS (fatS (fatS (fatS (fatS (fatS fat0))))))))))) (by kernel_rfl) (by kernel_rfl) (by kernel_rfl) (fun _ _ _ h => h) (Or.inl ⟨by rfl, ?_⟩) (by assumption) ?_
        rotate_left
        · (intro w hSw; (try dsimp only at hSw); go_simp; (first | done | with_reducible rfl))
        try simp only [Act.put, List.setIfInBounds_toArray, List.set_cons_zero, List.set_cons_succ]
        refine wpAnyH_take (i := 11) (v := ?_) (fata (fatS (fatS (fatS (fatS (fatS (fatS (fatS (fatS (fatS (fatS (fatS fat0)))))))))))) (by kernel_rfl) (by kernel_rfl) (by kernel_rfl) (fun _ _ _ h => h) (Or.inl ⟨by rfl, ?_⟩) (by assumption) ?_
        rotate_left
        · (intro w hSw; (try dsimp only at hSw); go_simp; (first | done | with_reducible rfl))
        try simp only [Act.put, List.setIfInBounds_toArray, List.set_cons_zero, List.set_cons_succ]
        refine wpAnyH_ready (rs := [12]) (by kernel_rfl) (by simp) ?_
        refine AllReadyH.cons (fata (fatS (fatS (fatS (fatS (fatS (fatS (fatS (fatS (fatS (fatS (fatS (fatS fat0))))))))))))) (fun K hK => ?_) AllReadyH.nil
        go_simp
        refine hK.out _ _ (by first | (go_keep; done) | (dsimp only; go_keep; done) | exact ⟨by go_simp, by go_simp, by go_simp, by go_simp⟩) (fun hHeld => ?_)
        clear hK K
        try simp only [Act.put, List.setIfInBounds_toArray, List.set_cons_zero, List.set_cons_succ]
        refine wpAnyH_done (by kernel_rfl) ?_ _
        go_wp2
        go_ret
        exact ⟨⟨_, rfl⟩, DocI.fin HH.out HON3.out HD3.out HR3.out HW5.out H9.out (by omega) hq3 hl2 HBD.out ⟨⟨by show (0 : Int) ≤ 2; decide, by show (2 : Int) ≤ 4; decide⟩, hs⟩⟩
    · go_simp
      refine hK.out _ _ (by first | (go_keep; done) | (dsimp only; go_keep; done) | exact ⟨by go_simp, by go_simp, by go_simp, by go_simp⟩) (fun hHeld => ?_)
      clear hK K
      try simp only [Act.put, List.setIfInBounds_toArray, List.set_cons_zero, List.set_cons_succ]
      refine wpAnyH_ready (rs := [1]) (by kernel_rfl) (by simp) ?_
      refine AllReadyH.cons (fata (fatS fat0)) (fun K hK => ?_) (AllReadyH.nil)
      go_simp
      refine hK.out _ _ (by first | (go_keep; done) | (dsimp only; go_keep; done) | exact ⟨by go_simp, by go_simp, by go_simp, by go_simp⟩) (fun hHeld => ?_)
      clear hK K
      try simp only [Act.put, List.setIfInBounds_toArray, List.set_cons_zero, List.set_cons_succ]
      refine wpAnyH_ready (rs := [6]) (by kernel_rfl) (by simp) ?_
      refine AllReadyH.cons (fata (fatS (fatS (fatS (fatS (fatS (fatS fat0))))))) (fun K hK => ?_) (AllReadyH.nil)
      ((refine step_appendO rfl _ _ rfl (W3.heap.size + 1) (.slice (some ⟨W3.heap.size + 1, 0, none⟩) 0 0) [] rfl (by have h := OR.new0 (W3.alloc (.cells #[.int .i64 2, .string nm, .string s, .int .i64 n] 61)); rw [World.size_alloc] at h; exact h) _ O rfl (HRO3.out.src.below (Below.drew (((Below.refl _ W3).alloc (Nat.le_refl _) _).alloc (by rw [World.size_alloc]; omega) _))) (by simp only [List.length_nil]; omega) (by first | (simp; done) | (simp; omega)) ?_; intro A6 n6 c6 w4 h6 hb6 hg6; rw [List.nil_append] at h6; have hw4 : W3.heap.size + 1 ≤ w4.heap.size := (by have h7 := hb6.size; simp at h7; omega); have hbw4 : Below W3.heap.size W3 w4 := (((Below.refl _ W3).alloc (Nat.le_refl _) _).alloc (by rw [World.size_alloc]; omega) _).trans (show Below W3.heap.size ((W3.alloc (.cells #[.int .i64 2, .string nm, .string s, .int .i64 n] 61)).alloc (.cells #[] 61)) w4 from ⟨hb6.os, hb6.tape, hb6.output, hb6.size, fun k hk => hb6.block k (by omega)⟩); obtain ⟨k0, k1, k2, k3⟩ := (HO3.out.below hbw4).cells; have HW4 := Lib.hid hbw4; have H6 := Lib.hid h6; have HG6 := Lib.hid hg6; have HS1 := Lib.hid (((srcO_one W3 (2, nm, s, n)).below ((Below.refl _ _).alloc (Nat.le_refl _) (.cells #[] 61))).grown (row := some (W3.heap.size + 1)) (w' := w4) ⟨hg6.os, hg6.tape, hg6.output, hg6.size, hg6.block⟩ (by simp) : SrcO w4 (.slice (some ⟨W3.heap.size, 0, none⟩) 1 1) [(2, nm, s, n)]); clear h6 hb6 hg6 hbw4))
      refine hK.out _ _ (by first | (go_keep; done) | (dsimp only; go_keep; done) | exact ⟨by go_simp, by go_simp, by go_simp, by go_simp⟩) (fun hHeld => ?_)
      clear hK K
      try simp only [Act.put, List.setIfInBounds_toArray, List.set_cons_zero, List.set_cons_succ]
      refine wpAnyH_ready (rs := [9]) (by kernel_rfl) (by simp) ?_
      refine AllReadyH.cons (fata (fatS (fatS (fatS (fatS (fatS (fatS (fatS (fatS (fatS fat0)))))))))) (fun K hK => ?_) (AllReadyH.nil)
      ((refine step_appendO rfl _ _ rfl (W3.heap.size + 1) (.slice A6 n6 c6) O rfl H6.out _ [(2, nm, s, n)] rfl HS1.out (by simp only [List.length_cons, List.length_nil]; omega) (by first | omega | (simp; omega)) ?_; intro A9 n9 c9 w5 h9 hb9 hg9; have hbw5 : Below W3.heap.size W3 w5 := (HW4.out).trans (show Below W3.heap.size w4 w5 from ⟨hb9.os, hb9.tape, hb9.output, hb9.size, fun k hk => hb9.block k (by omega)⟩); obtain ⟨l0, l1, l2, l3⟩ := (HO3.out.below hbw5).cells; obtain ⟨p0, p1, p2, p3⟩ := (HD3.out.below hbw5).cells; have pf := (HD3.out.below hbw5).free 2; have HW5 := Lib.hid hbw5; have H9 := Lib.hid (OR.mono (B' := w.heap.size + 1) h9 (by omega)); clear h9 hb9 hg9 hbw5))
      refine hK.out _ _ (by first | (go_keep; done) | (dsimp only; go_keep; done) | exact ⟨by go_simp, by go_simp, by go_simp, by go_simp⟩) (fun hHeld => ?_)
      clear hK K
      try simp only [Act.put, List.setIfInBounds_toArray, List.set_cons_zero, List.set_cons_succ]
      refine wpAnyH_take (i := 10) (v := ?_) (fata (fatS (fatS (fatS (fatS (fatS (fatS (fatS (fatS (fatS (fatS fat0))))))))))) (by kernel_rfl) (by kernel_rfl) (by kernel_rfl) (fun _ _ _ h => h) (Or.inl ⟨by rfl, ?_⟩) (by assumption) ?_
      rotate_left
      · (intro w hSw; (try dsimp only at hSw); go_simp; (first | done | with_reducible rfl))
      try simp only [Act.put, List.setIfInBounds_toArray, List.set_cons_zero, List.set_cons_succ]
      refine wpAnyH_take (i := 11) (v := ?_) (fata (fatS (fatS (fatS (fatS (fatS (fatS (fatS (fatS (fatS (fatS (fatS fat0)))))))))))) (by kernel_rfl) (by kernel_rfl) (by kernel_rfl) (fun _ _ _ h => h) (Or.inl ⟨by rfl, ?_⟩) (by assumption) ?_
      rotate_left
      · (intro w hSw; (try dsimp only at hSw); go_simp; (first | done | with_reducible rfl))
      try simp only [Act.put, List.setIfInBounds_toArray, List.set_cons_zero, List.set_cons_succ]
      refine wpAnyH_ready (rs := [12]) (by kernel_rfl) (by simp) ?_
      refine AllReadyH.cons (fata (fatS (fatS (fatS (fatS (fatS (fatS (fatS (fatS (fatS (fatS (fatS (fatS fat0))))))))))))) (fun K hK => ?_) AllReadyH.nil
      go_simp
      refine hK.out _ _ (by first | (go_keep; done) | (dsimp only; go_keep; done) | exact ⟨by go_simp, by go_simp, by go_simp, by go_simp⟩) (fun hHeld => ?_)
      clear hK K
      try simp only [Act.put, List.setIfInBounds_toArray, List.set_cons_zero, List.set_cons_succ]
      refine wpAnyH_done (by kernel_rfl) ?_ _
      go_wp2
      go_ret
      exact ⟨⟨_, rfl⟩, DocI.fin HH.out HON3.out HD3.out HR3.out HW5.out H9.out (by omega) hq3 hl2 HBD.out ⟨⟨by show (0 : Int) ≤ 2; decide, by show (2 : Int) ≤ 4; decide⟩, hs⟩⟩
  · go_simp
    refine hK.out _ _ (by first | (go_keep; done) | (dsimp only; go_keep; done) | exact ⟨by go_simp, by go_simp, by go_simp, by go_simp⟩) (fun hHeld => ?_)
    clear hK K
    try simp only [Act.put, List.setIfInBounds_toArray, List.set_cons_zero, List.set_cons_succ]
    refine wpAnyH_ready (rs := [1, 5]) (by kernel_rfl) (by simp) ?_
    refine AllReadyH.cons (fata (fatS fat0)) (fun K hK => ?_) (AllReadyH.cons (fata (fatS (fatS (fatS (fatS (fatS fat0)))))) (fun K hK => ?_) (AllReadyH.nil))
    · go_simp
      refine hK.out _ _ (by first | (go_keep; done) | (dsimp only; go_keep; done) | exact ⟨by go_simp, by go_simp, by go_simp, by go_simp⟩) (fun hHeld => ?_)
      clear hK K
      try simp only [Act.put, List.setIfInBounds_toArray, List.set_cons_zero, List.set_cons_succ]
      refine wpAnyH_ready (rs := [5]) (by kernel_rfl) (by simp) ?_
      refine AllReadyH.cons (fata (fatS (fatS (fatS (fatS (fatS fat0)))))) (fun K hK => ?_) (AllReadyH.nil)
      go_simp
      refine hK.out _ _ (by first | (go_keep; done) | (dsimp only; go_keep; done) | exact ⟨by go_simp, by go_simp, by go_simp, by go_simp⟩) (fun hHeld => ?_)
      clear hK K
      try simp only [Act.put, List.setIfInBounds_toArray, List.set_cons_zero, List.set_cons_succ]
      refine wpAnyH_ready (rs := [6]) (by kernel_rfl) (by simp) ?_
      refine AllReadyH.cons (fata (fatS (fatS (fatS (fatS (fatS (fatS fat0))))))) (fun K hK => ?_) (AllReadyH.nil)
      ((refine step_appendO rfl _ _ rfl (W3.heap.size + 1) (.slice (some ⟨W3.heap.size + 1, 0, none⟩) 0 0) [] rfl (by have h := OR.new0 (W3.alloc (.cells #[.int .i64 2, .string nm, .string s, .int .i64 n] 61)); rw [World.size_alloc] at h; exact h) _ O rfl (HRO3.out.src.below (Below.drew (((Below.refl _ W3).alloc (Nat.le_refl _) _).alloc (by rw [World.size_alloc]; omega) _))) (by simp only [List.length_nil]; omega) (by first | (simp; done) | (simp; omega)) ?_; intro A6 n6 c6 w4 h6 hb6 hg6; rw [List.nil_append] at h6; have hw4 : W3.heap.size + 1 ≤ w4.heap.size := (by have h7 := hb6.size; simp at h7; omega); have hbw4 : Below W3.heap.size W3 w4 := (((Below.refl _ W3).alloc (Nat.le_refl _) _).alloc (by rw [World.size_alloc]; omega) _).trans (show Below W3.heap.size ((W3.alloc (.cells #[.int .i64 2, .string nm, .string s, .int .i64 n] 61)).alloc (.cells #[] 61)) w4 from ⟨hb6.os, hb6.tape, hb6.output, hb6.size, fun k hk => hb6.block k (by omega)⟩); obtain ⟨k0, k1, k2, k3⟩ := (HO3.out.below hbw4).cells; have HW4 := Lib.hid hbw4; have H6 := Lib.hid h6; have HG6 := Lib.hid hg6; have HS1 := Lib.hid (((srcO_one W3 (2, nm, s, n)).below ((Below.refl _ _).alloc (Nat.le_refl _) (.cells #[] 61))).grown (row := some (W3.heap.size + 1)) (w' := w4) ⟨hg6.os, hg6.tape, hg6.output, hg6.size, hg6.block⟩ (by simp) : SrcO w4 (.slice (some ⟨W3.heap.size, 0, none⟩) 1 1) [(2, nm, s, n)]); clear h6 hb6 hg6 hbw4))
      refine hK.out _ _ (by first | (go_keep; done) | (dsimp only; go_keep; done) | exact ⟨by go_simp, by go_simp, by go_simp, by go_simp⟩) (fun hHeld => ?_)
      clear hK K
      try simp only [Act.put, List.setIfInBounds_toArray, List.set_cons_zero, List.set_cons_succ]
      refine wpAnyH_ready (rs := [9]) (by kernel_rfl) (by simp) ?_
      refine AllReadyH.cons (fata (fatS (fatS (fatS (fatS (fatS (fatS (fatS (fatS (fatS fat0)))))))))) (fun K hK => ?_) (AllReadyH.nil)
      ((refine step_appendO rfl _ _ rfl (W3.heap.size + 1) (.slice A6 n6 c6) O rfl H6.out _ [(2, nm, s, n)] rfl HS1.out (by simp only [List.length_cons, List.length_nil]; omega) (by first | omega | (simp; omega)) ?_; intro A9 n9 c9 w5 h9 hb9 hg9; have hbw5 : Below W3.heap.size W3 w5 := (HW4.out).trans (show Below W3.heap.size w4 w5 from ⟨hb9.os, hb9.tape, hb9.output, hb9.size, fun k hk => hb9.block k (by omega)⟩); obtain ⟨l0, l1, l2, l3⟩ := (HO3.out.below hbw5).cells; obtain ⟨p0, p1, p2, p3⟩ := (HD3.out.below hbw5).cells; have pf := (HD3.out.below hbw5).free 2; have HW5 := Lib.hid hbw5; have H9 := Lib.hid (OR.mono (B' := w.heap.size + 1) h9 (by omega)); clear h9 hb9 hg9 hbw5))
      refine hK.out _ _ (by first | (go_keep; done) | (dsimp only; go_keep; done) | exact ⟨by go_simp, by go_simp, by go_simp, by go_simp⟩) (fun hHeld => ?_)
      clear hK K
      try simp only [Act.put, List.setIfInBounds_toArray, List.set_cons_zero, List.set_cons_succ]
      refine wpAnyH_take (i := 10) (v := ?_) (fata (fatS (fatS (fatS (fatS (fatS (fatS (fatS (fatS (fatS (fatS fat0))))))))))) (by kernel_rfl) (by kernel_rfl) (by kernel_rfl) (fun _ _ _ h => h) (Or.inl ⟨by rfl, ?_⟩) (by assumption) ?_
      rotate_left
      · (intro w hSw; (try dsimp only at hSw); go_simp; (first | done | with_reducible rfl))
      try simp only [Act.put, List.setIfInBounds_toArray, List.set_cons_zero, List.set_cons_succ]
      refine wpAnyH_take (i := 11) (v := ?_) (fata (fatS (fatS (fatS (fatS (fatS (fatS (fatS (fatS (fatS (fatS (fatS fat0)))))))))))) (by kernel_rfl) (by kernel_rfl) (by kernel_rfl) (fun _ _ _ h => h) (Or.inl ⟨by rfl, ?_⟩) (by assumption) ?_
      rotate_left
      · (intro w hSw; (try dsimp only at hSw); go_simp; (first | done | with_reducible rfl))
      try simp only [Act.put, List.setIfInBounds_toArray, List.set_cons_zero, List.set_cons_succ]
      refine wpAnyH_ready (rs := [12]) (by kernel_rfl) (by simp) ?_
      refine AllReadyH.cons (fata (fatS (fatS (fatS (fatS (fatS (fatS (fatS (fatS (fatS (fatS (fatS (fatS fat0))))))))))))) (fun K hK => ?_) AllReadyH.nil
      go_simp
      refine hK.out _ _ (by first | (go_keep; done) | (dsimp only; go_keep; done) | exact ⟨by go_simp, by go_simp, by go_simp, by go_simp⟩) (fun hHeld => ?_)
      clear hK K
      try simp only [Act.put, List.setIfInBounds_toArray, List.set_cons_zero, List.set_cons_succ]
      refine wpAnyH_done (by kernel_rfl) ?_ _
      go_wp2
      go_ret
      exact ⟨⟨_, rfl⟩, DocI.fin HH.out HON3.out HD3.out HR3.out HW5.out H9.out (by omega) hq3 hl2 HBD.out ⟨⟨by show (0 : Int) ≤ 2; decide, by show (2 : Int) ≤ 4; decide⟩, hs⟩⟩
    · go_simp
      refine hK.out _ _ (by first | (go_keep; done) | (dsimp only; go_keep; done) | exact ⟨by go_simp, by go_simp, by go_simp, by go_simp⟩) (fun hHeld => ?_)
      clear hK K
      try simp only [Act.put, List.setIfInBounds_toArray, List.set_cons_zero, List.set_cons_succ]
      refine wpAnyH_ready (rs := [1]) (by kernel_rfl) (by simp) ?_
      refine AllReadyH.cons (fata (fatS fat0)) (fun K hK => ?_) (AllReadyH.nil)
      go_simp
      refine hK.out _ _ (by first | (go_keep; done) | (dsimp only; go_keep; done) | exact ⟨by go_simp, by go_simp, by go_simp, by go_simp⟩) (fun hHeld => ?_)
      clear hK K
      try simp only [Act.put, List.setIfInBounds_toArray, List.set_cons_zero, List.set_cons_succ]
      refine wpAnyH_ready (rs := [6]) (by kernel_rfl) (by simp) ?_
      refine AllReadyH.cons (fata (fatS (fatS (fatS (fatS (fatS (fatS fat0))))))) (fun K hK => ?_) (AllReadyH.nil)
      ((refine step_appendO rfl _ _ rfl (W3.heap.size + 1) (.slice (some ⟨W3.heap.size + 1, 0, none⟩) 0 0) [] rfl (by have h := OR.new0 (W3.alloc (.cells #[.int .i64 2, .string nm, .string s, .int .i64 n] 61)); rw [World.size_alloc] at h; exact h) _ O rfl (HRO3.out.src.below (Below.drew (((Below.refl _ W3).alloc (Nat.le_refl _) _).alloc (by rw [World.size_alloc]; omega) _))) (by simp only [List.length_nil]; omega) (by first | (simp; done) | (simp; omega)) ?_; intro A6 n6 c6 w4 h6 hb6 hg6; rw [List.nil_append] at h6; have hw4 : W3.heap.size + 1 ≤ w4.heap.size := (by have h7 := hb6.size; simp at h7; omega); have hbw4 : Below W3.heap.size W3 w4 := (((Below.refl _ W3).alloc (Nat.le_refl _) _).alloc (by rw [World.size_alloc]; omega) _).trans (show Below W3.heap.size ((W3.alloc (.cells #[.int .i64 2, .string nm, .string s, .int .i64 n] 61)).alloc (.cells #[] 61)) w4 from ⟨hb6.os, hb6.tape, hb6.output, hb6.size, fun k hk => hb6.block k (by omega)⟩); obtain ⟨k0, k1, k2, k3⟩ := (HO3.out.below hbw4).cells; have HW4 := Lib.hid hbw4; have H6 := Lib.hid h6; have HG6 := Lib.hid hg6; have HS1 := Lib.hid (((srcO_one W3 (2, nm, s, n)).below ((Below.refl _ _).alloc (Nat.le_refl _) (.cells #[] 61))).grown (row := some (W3.heap.size + 1)) (w' := w4) ⟨hg6.os, hg6.tape, hg6.output, hg6.size, hg6.block⟩ (by simp) : SrcO w4 (.slice (some ⟨W3.heap.size, 0, none⟩) 1 1) [(2, nm, s, n)]); clear h6 hb6 hg6 hbw4))
      refine hK.out _ _ (by first | (go_keep; done) | (dsimp only; go_keep; done) | exact ⟨by go_simp, by go_simp, by go_simp, by go_simp⟩) (fun hHeld => ?_)
      clear hK K
      try simp only [Act.put, List.setIfInBounds_toArray, List.set_cons_zero, List.set_cons_succ]
      refine wpAnyH_ready (rs := [9]) (by kernel_rfl) (by simp) ?_
      refine AllReadyH.cons (fata (fatS (fatS (fatS (fatS (fatS (fatS (fatS (fatS (fatS fat0)))))))))) (fun K hK => ?_) (AllReadyH.nil)
      ((refine step_appendO rfl _ _ rfl (W3.heap.size + 1) (.slice A6 n6 c6) O rfl H6.out _ [(2, nm, s, n)] rfl HS1.out (by simp only [List.length_cons, List.length_nil]; omega) (by first | omega | (simp; omega)) ?_; intro A9 n9 c9 w5 h9 hb9 hg9; have hbw5 : Below W3.heap.size W3 w5 := (HW4.out).trans (show Below W3.heap.size w4 w5 from ⟨hb9.os, hb9.tape, hb9.output, hb9.size, fun k hk => hb9.block k (by omega)⟩); obtain ⟨l0, l1, l2, l3⟩ := (HO3.out.below hbw5).cells; obtain ⟨p0, p1, p2, p3⟩ := (HD3.out.below hbw5).cells; have pf := (HD3.out.below hbw5).free 2; have HW5 := Lib.hid hbw5; have H9 := Lib.hid (OR.mono (B' := w.heap.size + 1) h9 (by omega)); clear h9 hb9 hg9 hbw5))
      refine hK.out _ _ (by first | (go_keep; done) | (dsimp only; go_keep; done) | exact ⟨by go_simp, by go_simp, by go_simp, by go_simp⟩) (fun hHeld => ?_)
      clear hK K
      try simp only [Act.put, List.setIfInBounds_toArray, List.set_cons_zero, List.set_cons_succ]
      refine wpAnyH_take (i := 10) (v := ?_) (fata (fatS (fatS (fatS (fatS (fatS (fatS (fatS (fatS (fatS (fatS fat0))))))))))) (by kernel_rfl) (by kernel_rfl) (by kernel_rfl) (fun _ _ _ h => h) (Or.inl ⟨by rfl, ?_⟩) (by assumption) ?_
      rotate_left
      · (intro w hSw; (try dsimp only at hSw); go_simp; (first | done | with_reducible rfl))
      try simp only [Act.put, List.setIfInBounds_toArray, List.set_cons_zero, List.set_cons_succ]
      refine wpAnyH_take (i := 11) (v := ?_) (fata (fatS (fatS (fatS (fatS (fatS (fatS (fatS (fatS (fatS (fatS (fatS fat0)))))))))))) (by kernel_rfl) (by kernel_rfl) (by kernel_rfl) (fun _ _ _ h => h) (Or.inl ⟨by rfl, ?_⟩) (by assumption) ?_
      rotate_left
      · (intro w hSw; (try dsimp only at hSw); go_simp; (first | done | with_reducible rfl))
      try simp only [Act.put, List.setIfInBounds_toArray, List.set_cons_zero, List.set_cons_succ]
      refine wpAnyH_ready (rs := [12]) (by kernel_rfl) (by simp) ?_
      refine AllReadyH.cons (fata (fatS (fatS (fatS (fatS (fatS (fatS (fatS (fatS (fatS (fatS (fatS (fatS fat0))))))))))))) (fun K hK => ?_) AllReadyH.nil
      go_simp
      refine hK.out _ _ (by first | (go_keep; done) | (dsimp only; go_keep; done) | exact ⟨by go_simp, by go_simp, by go_simp, by go_simp⟩) (fun hHeld => ?_)
      clear hK K
      try simp only [Act.put, List.setIfInBounds_toArray, List.set_cons_zero, List.set_cons_succ]
      refine wpAnyH_done (by kernel_rfl) ?_ _
      go_wp2
      go_ret
      exact ⟨⟨_, rfl⟩, DocI.fin HH.out HON3.out HD3.out HR3.out HW5.out H9.out (by omega) hq3 hl2 HBD.out ⟨⟨by show (0 : Int) ≤ 2; decide, by show (2 : Int) ≤ 4; decide⟩, hs⟩⟩
end Go.Proofs.Ytdfiofjnijnodaa.gn
