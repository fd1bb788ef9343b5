/- The contracts of the operations: Cut, Rename. -/
import Derived.Test.YtmaohncddjhgeaaGreatMFiP
import Derived.BigQuiet
section
set_option linter.unusedVariables false
set_option maxRecDepth 100000
namespace Go.Proofs.YtmaohncddjhgeaaGreat.gn
open Go.RowKit
open Go.Proofs.YtmaohncddjhgeaaGreat.fi

theorem bdrewN {m : Nat} {w w' : World} (k : Nat) (h : Below m w w') : Below m w (w'.drewN k) := ⟨h.os, h.tape, h.output, h.size, h.block⟩
theorem BoxI.far {w : World} {b : Nat} {l : Int} (h : BoxI w b l) {p : Addr} (hp : b ≠ p.block) (u : Value) : BoxI (w.setCell p u) b l := (Below.heap_setCell w p u b hp).trans h

set_option maxHeartbeats 8000000 in
set_option maxRecDepth 100000 in
theorem cut_any (w : World) (X : Nat → Prop) (D : Nat → Option FS) (d : Nat) (s : FS) (hS : Sys w X D) (hd : D d = some s) (hwt : s.wt ≤ 1099511627776) (n : Nm) (hn : n.length ≤ 281474976710656) (k : Int) :
    Calls Tryz.prog 133 #[.pointer (some ⟨d, 0, none⟩), .string (str n), .int .i64 k] w (Does X (upd D d (s.cut n k).2) (.int .i64 (s.cut n k).1) w) := by
  have hz : (w.alloc (.cells #[.string (str n)] 9)).heap.size = w.heap.size + 1 := by simp
  have hbel0 : Below w.heap.size w (w.alloc (.cells #[.string (str n)] 9)) := (Below.refl _ w).alloc (Nat.le_refl _) _
  have hbel : Below w.heap.size w ((w.alloc (.cells #[.string (str n)] 9)).alloc (.cells #[.int .i64 k] 3)) := hbel0.alloc (by rw [hz]; omega) _
  have hbx : BoxS ((w.alloc (.cells #[.string (str n)] 9)).alloc (.cells #[.int .i64 k] 3)) w.heap.size n := BoxS.below (heap_alloc_new w _) ((Below.refl _ _).alloc (Nat.le_refl _) _)
  have hbt : BoxI ((w.alloc (.cells #[.string (str n)] 9)).alloc (.cells #[.int .i64 k] 3)) (w.heap.size + 1) k := by
    have h := heap_alloc_new (w.alloc (.cells #[.string (str n)] 9)) (.cells #[.int .i64 k] 3)
    rw [hz] at h
    exact h
  have b0 := cell_of_one hbx
  have b1 := cell_of_one hbt
  have hS0 := hS.below hbel
  have HS := Lib.hid hS
  have HB := Lib.hid hbel
  have HX := Lib.hid hbx
  have HXT := Lib.hid hbt
  have HD := Lib.hid hd
  by_cases hl : s.look n = 0
  · have hv := look_ok hl
    have hnz : (str n).size ≤ 281474976710656 := by rw [str_size]; exact hn
    have HF := Lib.hid (find_yes2 _ X D d s hS0 hd n hl)
    have HL := Lib.hid hl
    have hlm : ∀ A m c f, fi.get n s.now = some f → Byt w A m c f.1 → (s.bytes n).length = m := fun A m c f hg hy => by
      unfold FS.bytes
      rw [if_pos HL.out, hg]
      exact hy.1
    clear hS hS0 hbel hbel0 hbx hbt hl hd hz hlm
    by_cases hk : k < 0
    · have he : s.cut n k = (2, s) := by unfold FS.cut; rw [if_neg (by rw [HL.out]; simp), if_neg (by rw [HL.out]; decide), if_pos (.inl hk)]
      rw [he]
      have hdk : decide (k < 0) = true := by simpa using hk
      clear he
      go_enter Tryz.func133, Tryz.ntmps133
      go_wp2_with (go_at_call 34; ((with_reducible refine HF.out.mono ?_); rintro e w1 ⟨p, rfl, hb1, A, m, c, f, hg, hb, hy⟩; obtain ⟨d0, d1, d2, d3⟩ := (show BlkF w1 p A m c f.2 from (hb1.block p (lt_of_block hb)).trans hb).cells; have ht1 := HXT.out.below hb1; have b2 := cell_of_one ht1; have HB1 := Lib.hid hb1; clear hb1 hg hb hy))
      go_quiet (fail)
      go_wp2
      go_ret
      exact Does.same HS.out HD.out (bdrewN nq (HB.out.trans (HB1.out.mono HB.out.size)))
    · have hdk : decide (k < 0) = false := by simpa using hk
      by_cases hm : ((s.bytes n).length : Int) < k
      · have he : s.cut n k = (2, s) := by unfold FS.cut; rw [if_neg (by rw [HL.out]; simp), if_neg (by rw [HL.out]; decide), if_pos (.inr hm)]
        rw [he]
        have HM := Lib.hid hm
        clear he hm
        go_enter Tryz.func133, Tryz.ntmps133
        go_wp2_with (go_at_call 34; ((with_reducible refine HF.out.mono ?_); rintro e w1 ⟨p, rfl, hb1, A, m, c, f, hg, hb, hy⟩; obtain ⟨d0, d1, d2, d3⟩ := (show BlkF w1 p A m c f.2 from (hb1.block p (lt_of_block hb)).trans hb).cells; have ht1 := HXT.out.below hb1; have b2 := cell_of_one ht1; have hmk : (m : Int) < k := (by have h1 := HM.out; unfold FS.bytes at h1; rw [if_pos HL.out, hg] at h1; have h2 := hy.1; simp at h1; omega); have HB1 := Lib.hid hb1; clear hb1 hg hb hy))
        go_quiet (fail)
        go_wp2
        go_ret
        exact Does.same HS.out HD.out (bdrewN nq (HB.out.trans (HB1.out.mono HB.out.size)))
      · obtain ⟨j, rfl⟩ : ∃ j : Nat, k = (j : Int) := ⟨k.toNat, by omega⟩
        have he : s.cut n (j : Int) = (0, s.done (.cut n j)) := by unfold FS.cut; rw [if_neg (by rw [HL.out]; simp), if_neg (by rw [HL.out]; decide), if_neg (by omega)]; simp
        rw [he]
        have HM := Lib.hid hm
        clear he hm
        have hjf : ∀ f, fi.get n s.now = some f → j ≤ f.1.length := fun f hf => by
          have h1 := HM.out
          unfold FS.bytes at h1
          rw [if_pos HL.out, hf] at h1
          simp at h1
          omega
        have HJ := Lib.hid hjf
        clear hjf
        go_enter Tryz.func133, Tryz.ntmps133
        go_wp2_with (go_at_call 34; ((with_reducible refine HF.out.mono ?_); rintro e w1 ⟨p, rfl, hb1, A, m, c, f, hg, hb, hy⟩; obtain ⟨d0, d1, d2, d3⟩ := (show BlkF w1 p A m c f.2 from (hb1.block p (lt_of_block hb)).trans hb).cells; have ht1 := HXT.out.below hb1; have b2 := cell_of_one ht1; have hmk : ¬ (m : Int) < (j : Int) := (by have h1 := HJ.out f hg; have h2 := hy.1; omega); have hx1 := HX.out.below hb1; have HX1 := Lib.hid hx1; have HT1 := Lib.hid ht1; have HB1 := Lib.hid hb1; clear hb1 hg hb hy hx1 ht1))
        go_quiet (fail)
        have HX2 : Hid (BoxS (w1.drewN nq) w.heap.size n) := HX1.out.below (bdrewN nq (Below.refl _ _))
        have HT2 : Hid (BoxI (w1.drewN nq) (w.heap.size + 1) (j : Int)) := HT1.out.below (bdrewN nq (Below.refl _ _))
        have b3 := cell_of_one HX2.out
        go_wp2_with (first
          | (go_at_call 37; ((with_reducible refine (clone_any (str n) _ hnz).mono ?_); rintro e w2 ⟨rfl, hb2⟩; have hx2 := HX2.out.below hb2; have ht2 := HT2.out.below hb2; have b4 := cell_of_one hx2; have b5 := hx2.free; have h3 : Below w.heap.size w (w2.setCell ⟨w.heap.size, 0, none⟩ (.string (str n))) := ((HB.out.trans ((bdrewN nq HB1.out).mono HB.out.size)).trans (hb2.mono (Nat.le_trans HB.out.size HB1.out.size))).setCell (Nat.le_refl _) _; have HP := Lib.hid (perform_cut w _ X D d s HS.out HD.out hwt h3 w.heap.size (w.heap.size + 1) n j (hx2.set_ n) (Nat.le_refl _) hv (ht2.far (show w.heap.size + 1 ≠ w.heap.size by omega) _) (Nat.le_succ _) HJ.out); clear hb2 hx2 ht2 h3))
          | (go_at_call 38; ((with_reducible refine HP.out.mono ?_); rintro e w4 ⟨rfl, h4, h5⟩; have H4 := Lib.hid h4; have H5 := Lib.hid h5; clear h4 h5)))
        go_ret
        exact ⟨rfl, H4.out, H5.out⟩
  · have HF := Lib.hid (find_no2 _ X D d s hS0 hd n hl)
    have HL := Lib.hid hl
    have hl2 : s.look n = 2 ∨ s.look n = 7 := (look_cases s n).resolve_left hl
    clear hS hS0 hbel hbel0 hbx hbt hl hd hz
    rcases hl2 with hl2 | hl2
    · have he : s.cut n k = (2, s) := by unfold FS.cut; rw [if_neg (by rw [hl2]; simp), if_pos (by rw [hl2]; decide), hl2]
      rw [he]
      rw [hl2] at HF
      clear he
      go_enter Tryz.func133, Tryz.ntmps133
      go_wp2_with (go_at_call 34; ((with_reducible refine HF.out.mono ?_); rintro e w1 ⟨rfl, hb1⟩; have HB1 := Lib.hid hb1; clear hb1))
      go_ret
      exact Does.same HS.out HD.out (HB.out.trans (HB1.out.mono HB.out.size))
    · rw [hl2] at HF
      by_cases hk : k < 0
      · have he : s.cut n k = (2, s) := by unfold FS.cut; rw [if_pos ⟨hl2, hk⟩]
        rw [he]
        clear he
        go_enter Tryz.func133, Tryz.ntmps133
        go_wp2_with (go_at_call 34; ((with_reducible refine HF.out.mono ?_); rintro e w1 ⟨rfl, hb1⟩; have ht1 := HXT.out.below hb1; have b2 := cell_of_one ht1; have HB1 := Lib.hid hb1; clear hb1))
        go_ret
        exact Does.same HS.out HD.out (HB.out.trans (HB1.out.mono HB.out.size))
      · have he : s.cut n k = (7, s) := by unfold FS.cut; rw [if_neg (fun h => hk h.2), if_pos (by rw [hl2]; decide), hl2]
        rw [he]
        clear he
        go_enter Tryz.func133, Tryz.ntmps133
        go_wp2_with (go_at_call 34; ((with_reducible refine HF.out.mono ?_); rintro e w1 ⟨rfl, hb1⟩; have ht1 := HXT.out.below hb1; have b2 := cell_of_one ht1; have HB1 := Lib.hid hb1; clear hb1))
        go_ret
        exact Does.same HS.out HD.out (HB.out.trans (HB1.out.mono HB.out.size))

set_option maxHeartbeats 16000000 in
set_option maxRecDepth 100000 in
theorem rename_any (w : World) (X : Nat → Prop) (D : Nat → Option FS) (d : Nat) (s : FS) (hS : Sys w X D) (hd : D d = some s) (hwt : s.wt ≤ 1099511627776) (n : Nm) (hn : n.length ≤ 281474976710656) (m : Nm) (hm : m.length ≤ 281474976710656) :
    Calls Tryz.prog 100 #[.pointer (some ⟨d, 0, none⟩), .string (str n), .string (str m)] w (Does X (upd D d (s.ren n m).2) (.int .i64 (s.ren n m).1) w) := by
  have hz : (w.alloc (.cells #[.string (str n)] 9)).heap.size = w.heap.size + 1 := by simp
  have hbel0 : Below w.heap.size w (w.alloc (.cells #[.string (str n)] 9)) := (Below.refl _ w).alloc (Nat.le_refl _) _
  have hbel1 : Below w.heap.size w ((w.alloc (.cells #[.string (str n)] 9)).alloc (.cells #[.string (str m)] 9)) := hbel0.alloc (by rw [hz]; omega) _
  have hz1 : ((w.alloc (.cells #[.string (str n)] 9)).alloc (.cells #[.string (str m)] 9)).heap.size = w.heap.size + 1 + 1 := by simp
  have hbx1 : BoxS ((w.alloc (.cells #[.string (str n)] 9)).alloc (.cells #[.string (str m)] 9)) w.heap.size n := BoxS.below (heap_alloc_new w _) ((Below.refl _ _).alloc (Nat.le_refl _) _)
  have hbt1 : BoxS ((w.alloc (.cells #[.string (str n)] 9)).alloc (.cells #[.string (str m)] 9)) (w.heap.size + 1) m := by
    have h := heap_alloc_new (w.alloc (.cells #[.string (str n)] 9)) (.cells #[.string (str m)] 9)
    rw [hz] at h
    exact h
  have hz2 : ((w.alloc (.cells #[.string (str n)] 9)).alloc (.cells #[.string (str m)] 9)).heap.size ≤ (((w.alloc (.cells #[.string (str n)] 9)).alloc (.cells #[.string (str m)] 9)).alloc (.cells #[.string (str n), .string (str m)] 9)).heap.size := by simp
  have hbl2 : Below ((w.alloc (.cells #[.string (str n)] 9)).alloc (.cells #[.string (str m)] 9)).heap.size ((w.alloc (.cells #[.string (str n)] 9)).alloc (.cells #[.string (str m)] 9)) (((w.alloc (.cells #[.string (str n)] 9)).alloc (.cells #[.string (str m)] 9)).alloc (.cells #[.string (str n), .string (str m)] 9)) := (Below.refl _ _).alloc (Nat.le_refl _) _
  have hrow : (((w.alloc (.cells #[.string (str n)] 9)).alloc (.cells #[.string (str m)] 9)).alloc (.cells #[.string (str n), .string (str m)] 9)).heap[w.heap.size + 1 + 1]? = some (.cells #[.string (str n), .string (str m)] 9 (0, 0)) := by
    have h := heap_alloc_new ((w.alloc (.cells #[.string (str n)] 9)).alloc (.cells #[.string (str m)] 9)) (.cells #[.string (str n), .string (str m)] 9)
    rw [hz1] at h
    exact h
  have hns : ∀ j (hj : j < [n, m].length), (((w.alloc (.cells #[.string (str n)] 9)).alloc (.cells #[.string (str m)] 9)).alloc (.cells #[.string (str n), .string (str m)] 9)).cell? ⟨w.heap.size + 1 + 1, j, none⟩ = some (.string (str [n, m][j])) := fun j hj => by
    rw [cell_of_row _ _ j _ _ _ hrow]
    have hj2 : j < 2 := hj
    match j, hj2 with
    | 0, _ => rfl
    | 1, _ => rfl
  have hbel := hbel1.trans (hbl2.mono hbel1.size)
  have hbx := hbx1.below hbl2
  have hbt := hbt1.below hbl2
  have b0' := cell_of_one hbx1
  have b1' := cell_of_one hbt1
  have b0 := cell_of_one hbx
  have b1 := cell_of_one hbt
  have hS0 := hS.below hbel
  have hcd : (((w.alloc (.cells #[.string (str n)] 9)).alloc (.cells #[.string (str m)] 9)).alloc (.cells #[.string (str n), .string (str m)] 9)).cell? ⟨d, 0, none⟩ = some (.pointer (some ⟨d, 0, none⟩)) := by
    obtain ⟨TT, role, ga, g1, g2⟩ := hS0
    obtain ⟨nb, sb, v, hk⟩ := g2 d s hd
    exact hk.blk.cells.1
  have hc1 := check_any _ d (w.heap.size + 1 + 1) 2 [n, m] hcd hns (by simp) (by simp)
  simp only [List.length_cons, List.length_nil, Nat.zero_add] at hc1
  have HC := Lib.hid hc1
  have HS := Lib.hid hS
  have HB := Lib.hid hbel
  have HX := Lib.hid hbx
  have HXT := Lib.hid hbt
  have HD := Lib.hid hd
  have HS0 := Lib.hid hS0
  clear hc1 hcd hns hrow hz2 hbl2 hbel hbel0 hbel1 hbx hbx1 hbt hbt1 hz hz1 hS0 hS hd
  cases hv : (valid n && valid m) with
  | false =>
    have h2 : chk [n, m] = 2 := by simp [chk]; intro a; rw [a] at hv; simpa using hv
    have he : s.ren n m = (2, s) := by unfold FS.ren; rw [if_pos (by rw [hv]; rfl)]
    rw [he]
    rw [h2] at HC
    clear h2 he hv
    go_enter Tryz.func100, Tryz.ntmps100
    go_wp2_with (go_at_call 70; ((with_reducible refine HC.out.mono ?_); rintro e w' ⟨rfl, rfl⟩))
    go_ret
    exact Does.same HS.out HD.out HB.out
  | true =>
    obtain ⟨hv1, hv2⟩ : valid n = true ∧ valid m = true := by simpa using hv
    have h2 : chk [n, m] = 0 := by simp [chk, hv1, hv2]
    rw [h2] at HC
    by_cases hl : s.look n = 0
    · have he : s.ren n m = (0, s.done (.ren n m)) := by unfold FS.ren; rw [if_neg (by rw [hv]; decide), if_neg (by rw [hl]; decide)]
      rw [he]
      have hnz : (str n).size ≤ 281474976710656 := by rw [str_size]; exact hn
      have hmz : (str m).size ≤ 281474976710656 := by rw [str_size]; exact hm
      have hlv1 := valid_len hv1
      have hlv2 := valid_len hv2
      have HF := Lib.hid (find_yes2 _ X D d s HS0.out HD.out n hl)
      clear h2 he hv hv1 hv2 hl
      go_enter Tryz.func100, Tryz.ntmps100
      go_wp2_with (first
        | (go_at_call 70; ((with_reducible refine HC.out.mono ?_); rintro e w' ⟨rfl, rfl⟩))
        | (go_at_call 34; ((with_reducible refine HF.out.mono ?_); rintro e w1 ⟨p, rfl, hb1, _⟩; have hx1 := HX.out.below hb1.drew; have b1 := cell_of_one hx1; have ht1 := HXT.out.below hb1.drew; have b2 := cell_of_one ht1; have HX2 := Lib.hid hx1; have HT2 := Lib.hid ht1; have HB1 := Lib.hid hb1; clear hb1 hx1 ht1)))
      have HB12 : Hid (Below w.heap.size w w1.drew) := (HB.out.trans (HB1.out.mono HB.out.size)).drew
      go_region_held3 (fun W => W.cell? ⟨w.heap.size, 0, none⟩ = some (.string (str n)) ∧ W.cell? ⟨w.heap.size + 1, 0, none⟩ = some (.string (str m)))
        (refine ⟨?_, ?_⟩ <;> first
          | go_keep
          | exact cell_of_one (HX4.out.set_ n)
          | exact cell_of_one (HT4.out.set_ m)
          | exact cell_of_one ((HX4.out.set_ n).far (show w.heap.size ≠ w.heap.size + 1 by omega) _)
          | exact cell_of_one ((HX4.out.far (show w.heap.size ≠ w.heap.size + 1 by omega) _).set_ n)
          | exact cell_of_one ((HT4.out.far (show w.heap.size + 1 ≠ w.heap.size by omega) _).set_ m)
          | exact cell_of_one ((HT4.out.set_ m).far (show w.heap.size + 1 ≠ w.heap.size by omega) _)
          | exact cell_of_one (HX4.out.far (show w.heap.size ≠ w.heap.size + 1 by omega) _)
          | exact cell_of_one (HT4.out.far (show w.heap.size + 1 ≠ w.heap.size by omega) _))
        (first
          | (go_at_call 37; ((with_reducible refine (clone_any (str n) _ hnz).mono ?_); rintro e w3 ⟨rfl, hb3⟩; have hx3 := HX2.out.below hb3; have ht3 := HT2.out.below hb3; have b5 := cell_of_one hx3; have b6 := cell_of_one ht3; have HX3 := Lib.hid hx3; have HT3 := Lib.hid ht3; have HB3 := Lib.hid hb3; clear hx3 ht3 hb3))
          | (go_at_call 37; ((with_reducible refine (clone_any (str m) _ hmz).mono ?_); rintro e w4 ⟨rfl, hb4⟩; have hx4 := HX3.out.below hb4; have ht4 := HT3.out.below hb4; have b7 := cell_of_one hx4; have b8 := cell_of_one ht4; have b9 := hx4.free; have b10 := ht4.free; have HX4 := Lib.hid hx4; have HT4 := Lib.hid ht4; have HB4 := Lib.hid hb4; clear hx4 ht4 hb4)))
      have h5 : Below w.heap.size w ((w4.setCell ⟨w.heap.size, 0, none⟩ (.string (str n))).setCell ⟨w.heap.size + 1, 0, none⟩ (.string (str m))) :=
        (((HB12.out.trans (HB3.out.mono HB12.out.size)).trans (HB4.out.mono (Nat.le_trans HB12.out.size HB3.out.size))).setCell (Nat.le_refl _) _).setCell (Nat.le_succ _) _
      have HP := Lib.hid (perform_ren w _ X D d s HS.out HD.out hwt h5 w.heap.size (w.heap.size + 1) n m ((HX4.out.set_ n).far (show w.heap.size ≠ w.heap.size + 1 by omega) _) (Nat.le_refl _) hlv1 ((HT4.out.far (show w.heap.size + 1 ≠ w.heap.size by omega) _).set_ m) (Nat.le_succ _) hlv2)
      clear h5
      go_wp2_with (go_at_call 38; ((with_reducible refine HP.out.mono ?_); rintro e w6 ⟨rfl, h6, h7⟩; have H6 := Lib.hid h6; have H7 := Lib.hid h7; clear h6 h7))
      go_ret
      exact ⟨rfl, H6.out, H7.out⟩
    · have he : s.ren n m = (s.look n, s) := by unfold FS.ren; rw [if_neg (by rw [hv]; decide), if_pos hl]
      rw [he]
      have hne : (s.look n != 0) = true := by simpa using hl
      have HF := Lib.hid (find_no2 _ X D d s HS0.out HD.out n hl)
      clear h2 he hv hv1 hv2 hl
      go_enter Tryz.func100, Tryz.ntmps100
      go_wp2_with (first
        | (go_at_call 70; ((with_reducible refine HC.out.mono ?_); rintro e w' ⟨rfl, rfl⟩))
        | (go_at_call 34; ((with_reducible refine HF.out.mono ?_); rintro e w1 ⟨rfl, hb1⟩; have HB1 := Lib.hid hb1; clear hb1)))
      go_ret
      exact Does.same HS.out HD.out (HB.out.trans (HB1.out.mono HB.out.size))
end Go.Proofs.YtmaohncddjhgeaaGreat.gn
end
