/- The contracts of the operations: Remove, Append. -/
import Derived.Test.YtpbgckpjgfjmgaaFiP
set_option linter.unusedVariables false
set_option maxRecDepth 100000
namespace Go.Proofs.Ytpbgckpjgfjmgaa.gn
open Go.RowKit
open Go.Proofs.Ytpbgckpjgfjmgaa.fi

theorem look_ok {s : FS} {n : Nm} (h : s.look n = 0) : n.length ≤ 32 := valid_len (look_zero h).1

set_option maxHeartbeats 8000000 in
set_option maxRecDepth 100000 in
theorem remove_any (w : World) (X : Nat → Prop) (D : Nat → Option FS) (d : Nat) (s : FS) (hS : Sys w X D) (hd : D d = some s) (hwt : s.wt ≤ 1099511627776) (n : Nm) (hn : n.length ≤ 281474976710656) :
    Calls Try.prog 62 #[.pointer (some ⟨d, 0, none⟩), .string (str n)] w (Does X (upd D d (s.rem n).2) (.int .i64 (s.rem n).1) w) := by
  have hbel : Below w.heap.size w (w.alloc (.cells #[.string (str n)] 9)) := (Below.refl _ w).alloc (Nat.le_refl _) _
  have hbx : BoxS (w.alloc (.cells #[.string (str n)] 9)) w.heap.size n := heap_alloc_new w _
  have b0 := cell_of_one hbx
  have hS0 := hS.below hbel
  have HS := Lib.hid hS
  have HB := Lib.hid hbel
  have HX := Lib.hid hbx
  have HD := Lib.hid hd
  by_cases hl : s.look n = 0
  · have he : s.rem n = (0, s.done (.rem n)) := by unfold FS.rem; rw [if_neg (by rw [hl]; decide)]
    rw [he]
    have hv := look_ok hl
    have hnz : (str n).size ≤ 281474976710656 := by rw [str_size]; exact hn
    have HF := Lib.hid (find_yes2 _ X D d s hS0 hd n hl)
    clear hS hS0 hbel hbx hl he hd
    go_enter Try.func62, Try.ntmps62
    go_wp2_with (first
      | (go_at_call 28; ((with_reducible refine HF.out.mono ?_); rintro e w1 ⟨p, rfl, hb1, _⟩; have hx1 := HX.out.below hb1; have b1 := cell_of_one hx1; have HX1 := Lib.hid hx1; have HB1 := Lib.hid hb1; clear hb1 hx1))
      | (go_at_call 29; ((with_reducible refine (clone_any (str n) _ hnz).mono ?_); rintro e w2 ⟨rfl, hb2⟩; have hx2 := HX1.out.below hb2; have b2 := cell_of_one hx2; have b3 := hx2.free; have h3 : Below w.heap.size w (w2.setCell ⟨w.heap.size, 0, none⟩ (.string (str n))) := ((HB.out.trans (HB1.out.mono HB.out.size)).trans (hb2.mono (Nat.le_trans HB.out.size HB1.out.size))).setCell (Nat.le_refl _) _; have HP := Lib.hid (perform_rem w _ X D d s HS.out HD.out hwt h3 w.heap.size n (hx2.set_ n) (Nat.le_refl _) hv); clear hb2 hx2 h3))
      | (go_at_call 30; ((with_reducible refine HP.out.mono ?_); rintro e w4 ⟨rfl, h4, h5⟩; have H4 := Lib.hid h4; have H5 := Lib.hid h5; clear h4 h5)))
    go_ret
    exact ⟨rfl, H4.out, H5.out⟩
  · have he : s.rem n = (s.look n, s) := by unfold FS.rem; rw [if_pos hl]
    rw [he]
    have hne : (s.look n != 0) = true := by simpa using hl
    have HF := Lib.hid (find_no2 _ X D d s hS0 hd n hl)
    clear hS hS0 hbel hbx hl he hd
    go_enter Try.func62, Try.ntmps62
    go_wp2_with (go_at_call 28; ((with_reducible refine HF.out.mono ?_); rintro e w1 ⟨rfl, hb1⟩; have HB1 := Lib.hid hb1; clear hb1))
    go_ret
    exact Does.same HS.out HD.out (HB.out.trans (HB1.out.mono HB.out.size))

set_option maxHeartbeats 16000000 in
set_option maxRecDepth 100000 in
theorem append_any (w : World) (X : Nat → Prop) (D : Nat → Option FS) (d : Nat) (s : FS) (hS : Sys w X D) (hd : D d = some s) (hwt : s.wt ≤ 549755813888) (n : Nm) (hn : n.length ≤ 281474976710656) (t : List UInt8) (ht : t.length ≤ 281474976710656) :
    Calls Try.prog 14 #[.pointer (some ⟨d, 0, none⟩), .string (str n), .string (str t)] w (Does X (upd D d (s.app n t).2) (.int .i64 (s.app n t).1) w) := by
  have hz : (w.alloc (.cells #[.string (str n)] 9)).heap.size = w.heap.size + 1 := by simp
  have hbel0 : Below w.heap.size w (w.alloc (.cells #[.string (str n)] 9)) := (Below.refl _ w).alloc (Nat.le_refl _) _
  have hbel : Below w.heap.size w ((w.alloc (.cells #[.string (str n)] 9)).alloc (.cells #[.string (str t)] 9)) := hbel0.alloc (by rw [hz]; omega) _
  have hbx : BoxS ((w.alloc (.cells #[.string (str n)] 9)).alloc (.cells #[.string (str t)] 9)) w.heap.size n := BoxS.below (heap_alloc_new w _) ((Below.refl _ _).alloc (Nat.le_refl _) _)
  have hbt : BoxS ((w.alloc (.cells #[.string (str n)] 9)).alloc (.cells #[.string (str t)] 9)) (w.heap.size + 1) t := by
    have h := heap_alloc_new (w.alloc (.cells #[.string (str n)] 9)) (.cells #[.string (str t)] 9)
    rw [hz] at h
    exact h
  have b0 := cell_of_one hbx
  have b1 := cell_of_one hbt
  have hS0 := hS.below hbel
  have HS := Lib.hid hS
  have HB := Lib.hid hbel
  have HX := Lib.hid hbx
  have HXT := Lib.hid hbt
  have HD := Lib.hid hd
  by_cases hl : s.look n = 0
  · have hv := look_ok hl
    have hnz : (str n).size ≤ 281474976710656 := by rw [str_size]; exact hn
    have htz : (str t).size ≤ 281474976710656 := by rw [str_size]; exact ht
    have HTZ : Hid ((str t).size = t.length) := str_size t
    have HF := Lib.hid (find_yes2 _ X D d s hS0 hd n hl)
    have HL := Lib.hid hl
    have hlb : s.left ≤ 16777216 := by have h1 := (hS.ok hd).room; unfold FS.left; omega
    have hlb2 : -1099511627776 ≤ s.left := by have h1 := (hS.ok hd).wt_now; have h2 := tot_wt s.now; unfold FS.left; omega
    clear hS hS0 hbel hbel0 hbx hbt hl hd hz
    by_cases hr : s.left < (t.length : Int)
    · have he : s.app n t = (6, s) := by unfold FS.app; rw [if_neg (by rw [HL.out]; decide), if_pos hr]
      rw [he]
      have hr1 : s.left < ((str t).size : Int) := by have := HTZ.out; omega
      clear he hr
      go_enter Try.func14, Try.ntmps14
      go_wp2_with (go_at_call 28; ((with_reducible refine HF.out.mono ?_); rintro e w1 ⟨p, rfl, hb1, _⟩; have hx1 := HX.out.below hb1; have b1 := cell_of_one hx1; have ht1 := HXT.out.below hb1; have b2 := cell_of_one ht1; have hs1 : Sys w1.drew X D := (HS.out.below (HB.out.trans (hb1.mono HB.out.size))).below (Below.refl _ _).drew; have HX1 := Lib.hid hx1; have HT1 := Lib.hid ht1; have HB1 := Lib.hid hb1; have HS1 := Lib.hid hs1; clear hb1 hx1 ht1 hs1))
      go_region_held3 (fun W => W.cell? ⟨w.heap.size + 1, 0, none⟩ = some (.string (str t))) (go_keep)
        (first | (go_at_call 32; ((with_reducible refine (room_any _ X D d s HS1.out HD.out (by omega)).mono ?_); rintro e w2 ⟨rfl, hb2⟩; have ht2 := HT1.out.below (Below.trans (Below.refl _ _).drew hb2); have b3 := cell_of_one ht2; have hx2 := HX1.out.below (Below.trans (Below.refl _ _).drew hb2); have b4 := cell_of_one hx2; have HT2 := Lib.hid ht2; have HX2 := Lib.hid hx2; have HB2 := Lib.hid hb2; clear hb2 ht2 hx2)))
      go_wp2
      go_ret
      exact Does.same HS.out HD.out ((HB.out.trans (HB1.out.mono HB.out.size)).trans (Below.trans (Below.refl _ _).drew (HB2.out.mono (Nat.le_trans HB.out.size HB1.out.size))))
    · have he : s.app n t = (0, s.done (.app n t)) := by unfold FS.app; rw [if_neg (by rw [HL.out]; decide), if_neg hr]
      rw [he]
      have hr1 : ¬ s.left < ((str t).size : Int) := by have := HTZ.out; omega
      have htl : t.length ≤ 549755813888 := by omega
      clear he hr
      go_enter Try.func14, Try.ntmps14
      go_wp2_with (go_at_call 28; ((with_reducible refine HF.out.mono ?_); rintro e w1 ⟨p, rfl, hb1, _⟩; have hx1 := HX.out.below hb1; have b1 := cell_of_one hx1; have ht1 := HXT.out.below hb1; have b2 := cell_of_one ht1; have hs1 : Sys w1.drew X D := (HS.out.below (HB.out.trans (hb1.mono HB.out.size))).below (Below.refl _ _).drew; have HX1 := Lib.hid hx1; have HT1 := Lib.hid ht1; have HB1 := Lib.hid hb1; have HS1 := Lib.hid hs1; clear hb1 hx1 ht1 hs1))
      go_region_held3 (fun W => W.cell? ⟨w.heap.size + 1, 0, none⟩ = some (.string (str t))) (go_keep)
        (first | (go_at_call 32; ((with_reducible refine (room_any _ X D d s HS1.out HD.out (by omega)).mono ?_); rintro e w2 ⟨rfl, hb2⟩; have ht2 := HT1.out.below (Below.trans (Below.refl _ _).drew hb2); have b3 := cell_of_one ht2; have hx2 := HX1.out.below (Below.trans (Below.refl _ _).drew hb2); have b4 := cell_of_one hx2; have HT2 := Lib.hid ht2; have HX2 := Lib.hid hx2; have HB2 := Lib.hid hb2; clear hb2 ht2 hx2)))
      have hs2 : Sys w2.drew X D := (HS1.out.below HB2.out).below (Below.refl _ _).drew
      have HB12 : Hid (Below w.heap.size w w2.drew) := ((HB.out.trans (HB1.out.mono HB.out.size)).trans (Below.trans (Below.refl _ _).drew (HB2.out.mono (Nat.le_trans HB.out.size HB1.out.size)))).drew
      clear hs2
      go_wp2
      go_region_held3 (fun W => W.cell? ⟨w.heap.size, 0, none⟩ = some (.string (str n)) ∧ W.cell? ⟨w.heap.size + 1, 0, none⟩ = some (.string (str t)))
        (refine ⟨?_, ?_⟩ <;> first
          | go_keep
          | exact cell_of_one (HX4.out.set_ n)
          | exact cell_of_one (HT4.out.set_ t)
          | exact cell_of_one ((HX4.out.set_ n).far (show w.heap.size ≠ w.heap.size + 1 by omega) _)
          | exact cell_of_one ((HX4.out.far (show w.heap.size ≠ w.heap.size + 1 by omega) _).set_ n)
          | exact cell_of_one ((HT4.out.far (show w.heap.size + 1 ≠ w.heap.size by omega) _).set_ t)
          | exact cell_of_one ((HT4.out.set_ t).far (show w.heap.size + 1 ≠ w.heap.size by omega) _)
          | exact cell_of_one (HX4.out.far (show w.heap.size ≠ w.heap.size + 1 by omega) _)
          | exact cell_of_one (HT4.out.far (show w.heap.size + 1 ≠ w.heap.size by omega) _))
        (first
          | (go_at_call 29; ((with_reducible refine (clone_any (str n) _ hnz).mono ?_); rintro e w3 ⟨rfl, hb3⟩; have hx3 := HX2.out.below (Below.trans (Below.refl _ _).drew hb3); have ht3 := HT2.out.below (Below.trans (Below.refl _ _).drew hb3); have b5 := cell_of_one hx3; have b6 := cell_of_one ht3; have HX3 := Lib.hid hx3; have HT3 := Lib.hid ht3; have HB3 := Lib.hid hb3; clear hx3 ht3 hb3))
          | (go_at_call 29; ((with_reducible refine (clone_any (str t) _ htz).mono ?_); rintro e w4 ⟨rfl, hb4⟩; have hx4 := HX3.out.below hb4; have ht4 := HT3.out.below hb4; have b7 := cell_of_one hx4; have b8 := cell_of_one ht4; have b9 := hx4.free; have b10 := ht4.free; have HX4 := Lib.hid hx4; have HT4 := Lib.hid ht4; have HB4 := Lib.hid hb4; clear hx4 ht4 hb4)))
      have h5 : Below w.heap.size w ((w4.setCell ⟨w.heap.size, 0, none⟩ (.string (str n))).setCell ⟨w.heap.size + 1, 0, none⟩ (.string (str t))) :=
        (((HB12.out.trans (HB3.out.mono HB12.out.size)).trans (HB4.out.mono (Nat.le_trans HB12.out.size HB3.out.size))).setCell (Nat.le_refl _) _).setCell (Nat.le_succ _) _
      have HP := Lib.hid (perform_app w _ X D d s HS.out HD.out hwt h5 w.heap.size (w.heap.size + 1) n t ((HX4.out.set_ n).far (show w.heap.size ≠ w.heap.size + 1 by omega) _) (Nat.le_refl _) hv ((HT4.out.far (show w.heap.size + 1 ≠ w.heap.size by omega) _).set_ t) (Nat.le_succ _) htl)
      clear h5
      go_wp2_with (go_at_call 30; ((with_reducible refine HP.out.mono ?_); rintro e w6 ⟨rfl, h6, h7⟩; have H6 := Lib.hid h6; have H7 := Lib.hid h7; clear h6 h7))
      go_ret
      exact ⟨rfl, H6.out, H7.out⟩
  · have he : s.app n t = (s.look n, s) := by unfold FS.app; rw [if_pos hl]
    rw [he]
    have hne : (s.look n != 0) = true := by simpa using hl
    have HF := Lib.hid (find_no2 _ X D d s hS0 hd n hl)
    clear hS hS0 hbel hbel0 hbx hbt hl he hd hz
    go_enter Try.func14, Try.ntmps14
    go_wp2_with (go_at_call 28; ((with_reducible refine HF.out.mono ?_); rintro e w1 ⟨rfl, hb1⟩; have HB1 := Lib.hid hb1; clear hb1))
    go_ret
    exact Does.same HS.out HD.out (HB.out.trans (HB1.out.mono HB.out.size))
end Go.Proofs.Ytpbgckpjgfjmgaa.gn
