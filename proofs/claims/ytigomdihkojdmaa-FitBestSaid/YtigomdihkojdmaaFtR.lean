/- The statements' own head: its walk. -/
import Derived.Test.YtigomdihkojdmaaFtP
namespace Go.Proofs.Ytigomdihkojdmaa.gn
open Go.RowKit Go.Shelf
open Go.Proofs.Ytigomdihkojdmaa.sp

/-- How it stands: the shape's box. -/
structure HdI (w : World) (B8 : Nat) (W : World) : Prop where
  hB : Below w.heap.size w W
  bX : BoxA W B8 28 #[.int .i64 3, .int .i64 10, .int .i64 2, .int .i64 4, .int .i64 50, .int .i64 1]
theorem HdI.next {w W W' : World} {B8 : Nat} (h : HdI w B8 W) (hb : Below W.heap.size W W') : HdI w B8 W' := ⟨h.hB.trans (hb.mono h.hB.size), h.bX.next hb⟩
theorem HdI.drew {w W : World} {B8 : Nat} (h : HdI w B8 W) : HdI w B8 W.drew := h.next (Below.refl _ W).drew
theorem HdI.alloc {w W : World} {B8 : Nat} (h : HdI w B8 W) (o : Obj) : HdI w B8 (W.alloc o) := h.next ((Below.refl _ W).alloc (Nat.le_refl _) o)
theorem HdI.other {w W : World} {B8 B : Nat} (h : HdI w B8 W) (hlt : B8 < B) (h0 : w.heap.size ≤ B8) (j : Nat) (v : Value) : HdI w B8 (W.setCell ⟨B, j, none⟩ v) := ⟨h.hB.setCell (p := ⟨B, j, none⟩) (by show w.heap.size ≤ B; omega) _, h.bX.other (by omega) j v⟩
/-- And that of the slot. -/
structure HdK (w : World) (B8 B9 : Nat) (W : World) : Prop where
  i : HdI w B8 W
  bZ : BoxA W B9 30 #[.int .i64 5, .int .i64 8, .int .i64 18]
theorem HdK.next {w W W' : World} {B8 B9 : Nat} (h : HdK w B8 B9 W) (hb : Below W.heap.size W W') : HdK w B8 B9 W' := ⟨h.i.next hb, h.bZ.next hb⟩
theorem HdK.drew {w W : World} {B8 B9 : Nat} (h : HdK w B8 B9 W) : HdK w B8 B9 W.drew := h.next (Below.refl _ W).drew
theorem HdK.alloc {w W : World} {B8 B9 : Nat} (h : HdK w B8 B9 W) (o : Obj) : HdK w B8 B9 (W.alloc o) := h.next ((Below.refl _ W).alloc (Nat.le_refl _) o)
theorem HdK.other {w W : World} {B8 B9 B : Nat} (h : HdK w B8 B9 W) (hlt : B9 < B) (h1 : B8 < B9) (h0 : w.heap.size ≤ B8) (j : Nat) (v : Value) : HdK w B8 B9 (W.setCell ⟨B, j, none⟩ v) := ⟨h.i.other (by omega) h0 j v, h.bZ.other (by omega) j v⟩
/-- What Take left. -/
structure HdL (w : World) (B8 B9 B11 : Nat) (v : Rv) (W : World) : Prop where
  k : HdK w B8 B9 W
  bR : BoxA W B11 26 v.c
  hR : RoomV W v R2
theorem HdL.next {w W W' : World} {B8 B9 B11 : Nat} {v : Rv} (h : HdL w B8 B9 B11 v W) (hb : Below W.heap.size W W') : HdL w B8 B9 B11 v W' := ⟨h.k.next hb, h.bR.next hb, RoomI.below h.hR hb⟩
theorem HdL.alloc {w W : World} {B8 B9 B11 : Nat} {v : Rv} (h : HdL w B8 B9 B11 v W) (o : Obj) : HdL w B8 B9 B11 v (W.alloc o) := h.next ((Below.refl _ W).alloc (Nat.le_refl _) o)

set_option maxRecDepth 100000 in
set_option maxHeartbeats 4000000 in
theorem head_any (w : World) : Calls Try.prog 7 #[] w (TellsB true w) := by
  have hP0 : Prof (((w.alloc (.cells #[.int .i64 0, .int .i64 2, .int .i64 4] 2)).alloc (.cells #[.int .i64 5, .int .i64 2, .int .i64 5] 2)).alloc (.cells #[.slice (some ⟨w.heap.size, 0, none⟩) 3 3, .slice (some ⟨w.heap.size + 1, 0, none⟩) 3 3] 24)) (.agg #[.slice (some ⟨w.heap.size, 0, none⟩) 3 3, .slice (some ⟨w.heap.size + 1, 0, none⟩) 3 3]) [0, 2, 4] [5, 2, 5] := ⟨_, _, rfl, ((row3 w 0 2 4).alloc (.cells #[.int .i64 5, .int .i64 2, .int .i64 5] 2)).alloc _, (by have h := (row3 (w.alloc (.cells #[.int .i64 0, .int .i64 2, .int .i64 4] 2)) 5 2 5).alloc (.cells #[.slice (some ⟨w.heap.size, 0, none⟩) 3 3, .slice (some ⟨w.heap.size + 1, 0, none⟩) 3 3] 24); rw [World.size_alloc] at h; exact h)⟩
  have bS0 := BoxA.new ((w.alloc (.cells #[.int .i64 0, .int .i64 2, .int .i64 4] 2)).alloc (.cells #[.int .i64 5, .int .i64 2, .int .i64 5] 2)) 24 #[.slice (some ⟨w.heap.size, 0, none⟩) 3 3, .slice (some ⟨w.heap.size + 1, 0, none⟩) 3 3]
  simp only [World.size_alloc] at bS0
  have hb0 : Below w.heap.size w (((w.alloc (.cells #[.int .i64 0, .int .i64 2, .int .i64 4] 2)).alloc (.cells #[.int .i64 5, .int .i64 2, .int .i64 5] 2)).alloc (.cells #[.slice (some ⟨w.heap.size, 0, none⟩) 3 3, .slice (some ⟨w.heap.size + 1, 0, none⟩) 3 3] 24)) := (((Below.refl _ w).alloc (Nat.le_refl _) _).alloc (by simp) _).alloc (by simp; omega) _
  have HP0 := Lib.hid hP0
  have HS0 := Lib.hid (And.intro hb0 bS0)
  clear hP0 bS0 hb0
  go_enter Try.func7, Try.ntmps7
  go_wp2_with (first
    | (go_at_call 15; ((with_reducible refine (head_first1 HP0.out).mono ?_); rintro e w1 ⟨rfl, hb⟩; have bS := HS0.out.2.next hb; have s0 := bS.cell 0 (.slice (some ⟨w.heap.size, 0, none⟩) 3 3); have s1 := bS.cell 1 (.slice (some ⟨w.heap.size + 1, 0, none⟩) 3 3); have HP1 := Lib.hid (HP0.out.below hb (Nat.le_refl _)); have HS1 := Lib.hid (And.intro (HS0.out.1.trans (hb.mono HS0.out.1.size)) bS); clear hb bS))
    | (go_at_call 15; ((with_reducible refine (head_first2 HP1.out).mono ?_); rintro e w2 ⟨rfl, hb⟩; have bS := HS1.out.2.next hb; have s0 := bS.cell 0 (.slice (some ⟨w.heap.size, 0, none⟩) 3 3); have s1 := bS.cell 1 (.slice (some ⟨w.heap.size + 1, 0, none⟩) 3 3); have HP2 := Lib.hid (HP1.out.below hb (Nat.le_refl _)); have HS2 := Lib.hid (And.intro (HS1.out.1.trans (hb.mono HS1.out.1.size)) bS); clear hb bS))
    | (go_at_call 15; ((with_reducible refine (head_first3 HP2.out).mono ?_); rintro e w3 ⟨rfl, hb⟩; have bS := HS2.out.2.next hb; have s0 := bS.cell 0 (.slice (some ⟨w.heap.size, 0, none⟩) 3 3); have s1 := bS.cell 1 (.slice (some ⟨w.heap.size + 1, 0, none⟩) 3 3); have HP3 := Lib.hid (HP2.out.below hb (Nat.le_refl _)); have HS3 := Lib.hid (And.intro (HS2.out.1.trans (hb.mono HS2.out.1.size)) bS); clear hb bS)))
  have hB3 := HS3.out.1.alloc HS3.out.1.size (.cells #[.int .i64 3, .int .i64 10, .int .i64 2, .int .i64 4, .int .i64 50, .int .i64 1] 28)
  have bX := BoxA.new w3 28 #[.int .i64 3, .int .i64 10, .int .i64 2, .int .i64 4, .int .i64 50, .int .i64 1]
  have hle : w.heap.size ≤ w3.heap.size := HS3.out.1.size
  generalize hW : w3.alloc (.cells #[.int .i64 3, .int .i64 10, .int .i64 2, .int .i64 4, .int .i64 50, .int .i64 1] 28) = W5 at *
  generalize w3.heap.size = B8 at *
  have HJ5 : Hid (HdI w B8 W5) := (⟨hB3, bX⟩ : HdI w B8 W5)
  have HLE := Lib.hid hle
  clear hW HP0 HP1 HP2 HP3 HS0 HS1 HS2 HS3 s0 s1 hB3 bX hle
  have HAL := Lib.hid fun (W : World) => always_any 4 100 2 (q_le _ (by decide)) (q_le _ (by decide)) (q_le _ (by decide)) W
  have kx0 := HJ5.out.bX.cell 0 (.int .i64 3)
  have kx1 := HJ5.out.bX.cell 1 (.int .i64 10)
  have kx2 := HJ5.out.bX.cell 2 (.int .i64 2)
  have kx3 := HJ5.out.bX.cell 3 (.int .i64 4)
  have kx4 := HJ5.out.bX.cell 4 (.int .i64 50)
  have kx5 := HJ5.out.bX.cell 5 (.int .i64 1)
  go_region_held3 (fun W => W.cell? ⟨B8, 0, none⟩ = some (.int .i64 3) ∧ W.cell? ⟨B8, 1, none⟩ = some (.int .i64 10) ∧ W.cell? ⟨B8, 2, none⟩ = some (.int .i64 2) ∧ W.cell? ⟨B8, 3, none⟩ = some (.int .i64 4) ∧ W.cell? ⟨B8, 4, none⟩ = some (.int .i64 50) ∧ W.cell? ⟨B8, 5, none⟩ = some (.int .i64 1)) (go_keep) (first
    | (go_at_call 16; ((with_reducible refine (HAL.out _).mono ?_); rintro e w6 ⟨v6, rfl, hR6, hb6⟩; have HR6 := Lib.hid hR6; clear hR6; (first | (have K := HJ5.out.drew.next hb6; have kx0 := K.bX.cell 0 (.int .i64 3); have kx1 := K.bX.cell 1 (.int .i64 10); have kx2 := K.bX.cell 2 (.int .i64 2); have kx3 := K.bX.cell 3 (.int .i64 4); have kx4 := K.bX.cell 4 (.int .i64 50); have kx5 := K.bX.cell 5 (.int .i64 1); have HK6 := Lib.hid K; clear K hb6) | (have K := (HJ5.out.alloc (.cells #[.int .i64 0, .int .i64 0, .int .i64 0] 30)).drew.next hb6; have Z6 := BoxA.next hb6 (BoxA.new W5 30 #[.int .i64 0, .int .i64 0, .int .i64 0]).drew; have kx0 := K.bX.cell 0 (.int .i64 3); have kx1 := K.bX.cell 1 (.int .i64 10); have kx2 := K.bX.cell 2 (.int .i64 2); have kx3 := K.bX.cell 3 (.int .i64 4); have kx4 := K.bX.cell 4 (.int .i64 50); have kx5 := K.bX.cell 5 (.int .i64 1); have u0 := Z6.cell 0 (.int .i64 0); have u1 := Z6.cell 1 (.int .i64 0); have u2 := Z6.cell 2 (.int .i64 0); have v0 := Z6.free 0; have v1 := Z6.free 1; have v2 := Z6.free 2; have HZ := Lib.hid Z6; have n0 : W5.heap.size ≠ B8 := (by have h := (show B8 < W5.heap.size from HJ5.out.bX.lt); omega); have m0 := n0.symm; have HK6 := Lib.hid K; clear K Z6 hb6))))
    | (go_at_call 8; ((with_reducible refine (head_slot (by first | exact HR6.out | exact RoomI.below HR6.out ((Below.refl _ _).alloc (Nat.le_refl _) _))).mono ?_); rintro e w7 ⟨rfl, hb7⟩; (first | (have K := HK6.out.next hb7; have kx0 := K.bX.cell 0 (.int .i64 3); have kx1 := K.bX.cell 1 (.int .i64 10); have kx2 := K.bX.cell 2 (.int .i64 2); have kx3 := K.bX.cell 3 (.int .i64 4); have kx4 := K.bX.cell 4 (.int .i64 50); have kx5 := K.bX.cell 5 (.int .i64 1); (try (have Z7 := BoxA.next hb7 HZ.out; have u0 := Z7.cell 0 (.int .i64 0); have u1 := Z7.cell 1 (.int .i64 0); have u2 := Z7.cell 2 (.int .i64 0); have v0 := Z7.free 0; have v1 := Z7.free 1; have v2 := Z7.free 2; have HZ := Lib.hid Z7; clear Z7)); have HK7 := Lib.hid K; clear K hb7) | (have K := (HK6.out.alloc (.cells #[.int .i64 0, .int .i64 0, .int .i64 0] 30)).next hb7; have Z7 := BoxA.next hb7 (BoxA.new _ 30 #[.int .i64 0, .int .i64 0, .int .i64 0]); have kx0 := K.bX.cell 0 (.int .i64 3); have kx1 := K.bX.cell 1 (.int .i64 10); have kx2 := K.bX.cell 2 (.int .i64 2); have kx3 := K.bX.cell 3 (.int .i64 4); have kx4 := K.bX.cell 4 (.int .i64 50); have kx5 := K.bX.cell 5 (.int .i64 1); have u0 := Z7.cell 0 (.int .i64 0); have u1 := Z7.cell 1 (.int .i64 0); have u2 := Z7.cell 2 (.int .i64 0); have v0 := Z7.free 0; have v1 := Z7.free 1; have v2 := Z7.free 2; have HZ := Lib.hid Z7; have n0 : w6.heap.size ≠ B8 := (by have h := (show B8 < w6.heap.size from HK6.out.bX.lt); omega); have m0 := n0.symm; have HK7 := Lib.hid K; clear K Z7 hb7)))))
  all_goals
    first
        | (generalize hX : World.setCell (World.setCell (World.setCell w7 ⟨W5.heap.size, 0, none⟩ (.int .i64 5)) ⟨W5.heap.size, 1, none⟩ (.int .i64 8)) ⟨W5.heap.size, 2, none⟩ (.int .i64 18) = X9
           refine (?_ : Exit.then _ _ Exit.normal _ X9)
           have hlt : B8 < W5.heap.size := HJ5.out.bX.lt
           have K9 : HdK w B8 W5.heap.size X9 := (by rw [← hX]; exact ⟨(((HK7.out.other hlt HLE.out 0 _).other hlt HLE.out 1 _).other hlt HLE.out 2 _), (((HZ.out.set 0 (.int .i64 5)).set 1 (.int .i64 8)).set 2 (.int .i64 18))⟩)
           clear HZ u0 u1 u2 v0 v1 v2 n0 m0
           clear hX
           generalize W5.heap.size = B9 at *)
        | (generalize hX : World.setCell (World.setCell (World.setCell w7 ⟨w6.heap.size, 0, none⟩ (.int .i64 5)) ⟨w6.heap.size, 1, none⟩ (.int .i64 8)) ⟨w6.heap.size, 2, none⟩ (.int .i64 18) = X9
           refine (?_ : Exit.then _ _ Exit.normal _ X9)
           have hlt : B8 < w6.heap.size := HK6.out.bX.lt
           have K9 : HdK w B8 w6.heap.size X9 := (by rw [← hX]; exact ⟨(((HK7.out.other hlt HLE.out 0 _).other hlt HLE.out 1 _).other hlt HLE.out 2 _), (((HZ.out.set 0 (.int .i64 5)).set 1 (.int .i64 8)).set 2 (.int .i64 18))⟩)
           clear HZ u0 u1 u2 v0 v1 v2 n0 m0
           clear hX
           generalize w6.heap.size = B9 at *)
        | (generalize hX : World.alloc w7 (.cells #[.int .i64 5, .int .i64 8, .int .i64 18] 30) = X9
           refine (?_ : Exit.then _ _ Exit.normal _ X9)
           have hlt : B8 < w7.heap.size := HK7.out.bX.lt
           have K9 : HdK w B8 w7.heap.size X9 := (by rw [← hX]; exact ⟨HK7.out.alloc _, BoxA.new w7 _ _⟩)
           clear hX
           generalize w7.heap.size = B9 at *)
    have HJ9 := Lib.hid K9
    have HLT := Lib.hid hlt
    have kx0 := K9.i.bX.cell 0 (.int .i64 3)
    have kx1 := K9.i.bX.cell 1 (.int .i64 10)
    have kx2 := K9.i.bX.cell 2 (.int .i64 2)
    have kx3 := K9.i.bX.cell 3 (.int .i64 4)
    have kx4 := K9.i.bX.cell 4 (.int .i64 50)
    have kx5 := K9.i.bX.cell 5 (.int .i64 1)
    have kz0 := K9.bZ.cell 0 (.int .i64 5)
    have kz1 := K9.bZ.cell 1 (.int .i64 8)
    have kz2 := K9.bZ.cell 2 (.int .i64 18)
    clear K9 hlt HK6 HK7 HR6
    go_wp2_with fail
    go_region_held3 (fun W => W.cell? ⟨B8, 0, none⟩ = some (.int .i64 3) ∧ W.cell? ⟨B8, 1, none⟩ = some (.int .i64 10) ∧ W.cell? ⟨B8, 2, none⟩ = some (.int .i64 2) ∧ W.cell? ⟨B8, 3, none⟩ = some (.int .i64 4) ∧ W.cell? ⟨B8, 4, none⟩ = some (.int .i64 50) ∧ W.cell? ⟨B8, 5, none⟩ = some (.int .i64 1) ∧ W.cell? ⟨B9, 0, none⟩ = some (.int .i64 5) ∧ W.cell? ⟨B9, 1, none⟩ = some (.int .i64 8) ∧ W.cell? ⟨B9, 2, none⟩ = some (.int .i64 18)) (go_keep) (first
      | (go_at_call 16; ((with_reducible refine (HAL.out _).mono ?_); rintro e w16 ⟨v16, rfl, hR6, hb6⟩; have HR6 := Lib.hid hR6; clear hR6; (first | (have K := HJ9.out.drew.next hb6; have kx0 := K.i.bX.cell 0 (.int .i64 3); have kx1 := K.i.bX.cell 1 (.int .i64 10); have kx2 := K.i.bX.cell 2 (.int .i64 2); have kx3 := K.i.bX.cell 3 (.int .i64 4); have kx4 := K.i.bX.cell 4 (.int .i64 50); have kx5 := K.i.bX.cell 5 (.int .i64 1); have kz0 := K.bZ.cell 0 (.int .i64 5); have kz1 := K.bZ.cell 1 (.int .i64 8); have kz2 := K.bZ.cell 2 (.int .i64 18); have HK6 := Lib.hid K; clear K hb6) | (have K := (HJ9.out.alloc (.cells #[.slice none 0 0, .slice none 0 0, .slice none 0 0, .slice none 0 0, .slice none 0 0, .slice none 0 0] 26)).drew.next hb6; have Z6 := BoxA.next hb6 (BoxA.new X9 26 #[.slice none 0 0, .slice none 0 0, .slice none 0 0, .slice none 0 0, .slice none 0 0, .slice none 0 0]).drew; have kx0 := K.i.bX.cell 0 (.int .i64 3); have kx1 := K.i.bX.cell 1 (.int .i64 10); have kx2 := K.i.bX.cell 2 (.int .i64 2); have kx3 := K.i.bX.cell 3 (.int .i64 4); have kx4 := K.i.bX.cell 4 (.int .i64 50); have kx5 := K.i.bX.cell 5 (.int .i64 1); have kz0 := K.bZ.cell 0 (.int .i64 5); have kz1 := K.bZ.cell 1 (.int .i64 8); have kz2 := K.bZ.cell 2 (.int .i64 18); have u0 := Z6.cell 0 (.slice none 0 0); have u1 := Z6.cell 1 (.slice none 0 0); have u2 := Z6.cell 2 (.slice none 0 0); have u3 := Z6.cell 3 (.slice none 0 0); have u4 := Z6.cell 4 (.slice none 0 0); have u5 := Z6.cell 5 (.slice none 0 0); have v0 := Z6.free 0; have v1 := Z6.free 1; have v2 := Z6.free 2; have v3 := Z6.free 3; have v4 := Z6.free 4; have v5 := Z6.free 5; have HZ := Lib.hid Z6; have n0 : X9.heap.size ≠ B8 := (by have h := (show B8 < X9.heap.size from HJ9.out.i.bX.lt); omega); have n1 : X9.heap.size ≠ B9 := (by have h := (show B9 < X9.heap.size from HJ9.out.bZ.lt); omega); have m0 := n0.symm; have m1 := n1.symm; have HK6 := Lib.hid K; clear K Z6 hb6))))
      | (go_at_call 10; ((with_reducible refine (head_take (by first | exact HR6.out | exact RoomI.below HR6.out ((Below.refl _ _).alloc (Nat.le_refl _) _))).mono ?_); rintro e w17 ⟨v17, rfl, hR7, hM2, hb7⟩; have HR7 := Lib.hid (And.intro hR7 hM2); clear hR7 hM2; (first | (have K := HK6.out.next hb7; have kx0 := K.i.bX.cell 0 (.int .i64 3); have kx1 := K.i.bX.cell 1 (.int .i64 10); have kx2 := K.i.bX.cell 2 (.int .i64 2); have kx3 := K.i.bX.cell 3 (.int .i64 4); have kx4 := K.i.bX.cell 4 (.int .i64 50); have kx5 := K.i.bX.cell 5 (.int .i64 1); have kz0 := K.bZ.cell 0 (.int .i64 5); have kz1 := K.bZ.cell 1 (.int .i64 8); have kz2 := K.bZ.cell 2 (.int .i64 18); (try (have Z7 := BoxA.next hb7 HZ.out; have u0 := Z7.cell 0 (.slice none 0 0); have u1 := Z7.cell 1 (.slice none 0 0); have u2 := Z7.cell 2 (.slice none 0 0); have u3 := Z7.cell 3 (.slice none 0 0); have u4 := Z7.cell 4 (.slice none 0 0); have u5 := Z7.cell 5 (.slice none 0 0); have v0 := Z7.free 0; have v1 := Z7.free 1; have v2 := Z7.free 2; have v3 := Z7.free 3; have v4 := Z7.free 4; have v5 := Z7.free 5; have HZ := Lib.hid Z7; clear Z7)); have HK7 := Lib.hid K; clear K hb7) | (have K := (HK6.out.alloc (.cells #[.slice none 0 0, .slice none 0 0, .slice none 0 0, .slice none 0 0, .slice none 0 0, .slice none 0 0] 26)).next hb7; have Z7 := BoxA.next hb7 (BoxA.new _ 26 #[.slice none 0 0, .slice none 0 0, .slice none 0 0, .slice none 0 0, .slice none 0 0, .slice none 0 0]); have kx0 := K.i.bX.cell 0 (.int .i64 3); have kx1 := K.i.bX.cell 1 (.int .i64 10); have kx2 := K.i.bX.cell 2 (.int .i64 2); have kx3 := K.i.bX.cell 3 (.int .i64 4); have kx4 := K.i.bX.cell 4 (.int .i64 50); have kx5 := K.i.bX.cell 5 (.int .i64 1); have kz0 := K.bZ.cell 0 (.int .i64 5); have kz1 := K.bZ.cell 1 (.int .i64 8); have kz2 := K.bZ.cell 2 (.int .i64 18); have u0 := Z7.cell 0 (.slice none 0 0); have u1 := Z7.cell 1 (.slice none 0 0); have u2 := Z7.cell 2 (.slice none 0 0); have u3 := Z7.cell 3 (.slice none 0 0); have u4 := Z7.cell 4 (.slice none 0 0); have u5 := Z7.cell 5 (.slice none 0 0); have v0 := Z7.free 0; have v1 := Z7.free 1; have v2 := Z7.free 2; have v3 := Z7.free 3; have v4 := Z7.free 4; have v5 := Z7.free 5; have HZ := Lib.hid Z7; have n0 : w16.heap.size ≠ B8 := (by have h := (show B8 < w16.heap.size from HK6.out.i.bX.lt); omega); have n1 : w16.heap.size ≠ B9 := (by have h := (show B9 < w16.heap.size from HK6.out.bZ.lt); omega); have m0 := n0.symm; have m1 := n1.symm; have HK7 := Lib.hid K; clear K Z7 hb7)))))
    all_goals
      first
        | (generalize hX : World.setCell (World.setCell (World.setCell (World.setCell (World.setCell (World.setCell w17 ⟨X9.heap.size, 0, none⟩ (.slice v17.p1 v17.q1 v17.r1)) ⟨X9.heap.size, 1, none⟩ (.slice v17.p2 v17.q2 v17.r2)) ⟨X9.heap.size, 2, none⟩ (.slice v17.p3 v17.q3 v17.r3)) ⟨X9.heap.size, 3, none⟩ (.slice v17.p4 v17.q4 v17.r4)) ⟨X9.heap.size, 4, none⟩ (.slice v17.p5 v17.q5 v17.r5)) ⟨X9.heap.size, 5, none⟩ (.slice v17.p6 v17.q6 v17.r6) = X11
           refine (?_ : Exit.then _ _ Exit.normal _ X11)
           have hlt : B9 < X9.heap.size := HJ9.out.bZ.lt
           have K9 : HdL w B8 B9 X9.heap.size v17 X11 := (by rw [← hX]; exact ⟨((((((HK7.out.other hlt HLT.out HLE.out 0 _).other hlt HLT.out HLE.out 1 _).other hlt HLT.out HLE.out 2 _).other hlt HLT.out HLE.out 3 _).other hlt HLT.out HLE.out 4 _).other hlt HLT.out HLE.out 5 _), ((((((HZ.out.set 0 (.slice v17.p1 v17.q1 v17.r1)).set 1 (.slice v17.p2 v17.q2 v17.r2)).set 2 (.slice v17.p3 v17.q3 v17.r3)).set 3 (.slice v17.p4 v17.q4 v17.r4)).set 4 (.slice v17.p5 v17.q5 v17.r5)).set 5 (.slice v17.p6 v17.q6 v17.r6)), room_six HZ.out HR7.out.1⟩)
           clear HZ u0 u1 u2 u3 u4 u5 v0 v1 v2 v3 v4 v5 n0 n1 m0 m1
           clear hX
           generalize X9.heap.size = B11 at *)
        | (generalize hX : World.setCell (World.setCell (World.setCell (World.setCell (World.setCell (World.setCell w17 ⟨w16.heap.size, 0, none⟩ (.slice v17.p1 v17.q1 v17.r1)) ⟨w16.heap.size, 1, none⟩ (.slice v17.p2 v17.q2 v17.r2)) ⟨w16.heap.size, 2, none⟩ (.slice v17.p3 v17.q3 v17.r3)) ⟨w16.heap.size, 3, none⟩ (.slice v17.p4 v17.q4 v17.r4)) ⟨w16.heap.size, 4, none⟩ (.slice v17.p5 v17.q5 v17.r5)) ⟨w16.heap.size, 5, none⟩ (.slice v17.p6 v17.q6 v17.r6) = X11
           refine (?_ : Exit.then _ _ Exit.normal _ X11)
           have hlt : B9 < w16.heap.size := HK6.out.bZ.lt
           have K9 : HdL w B8 B9 w16.heap.size v17 X11 := (by rw [← hX]; exact ⟨((((((HK7.out.other hlt HLT.out HLE.out 0 _).other hlt HLT.out HLE.out 1 _).other hlt HLT.out HLE.out 2 _).other hlt HLT.out HLE.out 3 _).other hlt HLT.out HLE.out 4 _).other hlt HLT.out HLE.out 5 _), ((((((HZ.out.set 0 (.slice v17.p1 v17.q1 v17.r1)).set 1 (.slice v17.p2 v17.q2 v17.r2)).set 2 (.slice v17.p3 v17.q3 v17.r3)).set 3 (.slice v17.p4 v17.q4 v17.r4)).set 4 (.slice v17.p5 v17.q5 v17.r5)).set 5 (.slice v17.p6 v17.q6 v17.r6)), room_six HZ.out HR7.out.1⟩)
           clear HZ u0 u1 u2 u3 u4 u5 v0 v1 v2 v3 v4 v5 n0 n1 m0 m1
           clear hX
           generalize w16.heap.size = B11 at *)
        | (generalize hX : World.alloc w17 (.cells #[.slice v17.p1 v17.q1 v17.r1, .slice v17.p2 v17.q2 v17.r2, .slice v17.p3 v17.q3 v17.r3, .slice v17.p4 v17.q4 v17.r4, .slice v17.p5 v17.q5 v17.r5, .slice v17.p6 v17.q6 v17.r6] 26) = X11
           refine (?_ : Exit.then _ _ Exit.normal _ X11)
           have hlt : B9 < w17.heap.size := HK7.out.bZ.lt
           have K9 : HdL w B8 B9 w17.heap.size v17 X11 := (by rw [← hX]; exact ⟨HK7.out.alloc _, BoxA.new w17 _ _, RoomI.below HR7.out.1 ((Below.refl _ _).alloc (Nat.le_refl _) _)⟩)
           clear hX
           generalize w17.heap.size = B11 at *)
      have HJ11 := Lib.hid K9
      have kx0 := K9.k.i.bX.cell 0 (.int .i64 3)
      have kx1 := K9.k.i.bX.cell 1 (.int .i64 10)
      have kx2 := K9.k.i.bX.cell 2 (.int .i64 2)
      have kx3 := K9.k.i.bX.cell 3 (.int .i64 4)
      have kx4 := K9.k.i.bX.cell 4 (.int .i64 50)
      have kx5 := K9.k.i.bX.cell 5 (.int .i64 1)
      have kz0 := K9.k.bZ.cell 0 (.int .i64 5)
      have kz1 := K9.k.bZ.cell 1 (.int .i64 8)
      have kz2 := K9.k.bZ.cell 2 (.int .i64 18)
      have kr0 := K9.bR.cell 0 (.slice v17.p1 v17.q1 v17.r1)
      have kr1 := K9.bR.cell 1 (.slice v17.p2 v17.q2 v17.r2)
      have kr2 := K9.bR.cell 2 (.slice v17.p3 v17.q3 v17.r3)
      have kr3 := K9.bR.cell 3 (.slice v17.p4 v17.q4 v17.r4)
      have kr4 := K9.bR.cell 4 (.slice v17.p5 v17.q5 v17.r5)
      have kr5 := K9.bR.cell 5 (.slice v17.p6 v17.q6 v17.r6)
      clear K9 hlt HK6 HK7 HR6
      go_wp2_with (first
        | (go_at_call 8; ((with_reducible refine (head_slot2 HJ11.out.hR HR7.out.2).mono ?_); rintro e w18 ⟨rfl, hb8⟩; have K := (HJ11.out.next hb8).alloc (.cells #[.int .i64 5, .int .i64 18, .int .i64 28] 30); have kx0 := K.k.i.bX.cell 0 (.int .i64 3); have kx1 := K.k.i.bX.cell 1 (.int .i64 10); have kx2 := K.k.i.bX.cell 2 (.int .i64 2); have kx3 := K.k.i.bX.cell 3 (.int .i64 4); have kx4 := K.k.i.bX.cell 4 (.int .i64 50); have kx5 := K.k.i.bX.cell 5 (.int .i64 1); have kz0 := K.k.bZ.cell 0 (.int .i64 5); have kz1 := K.k.bZ.cell 1 (.int .i64 8); have kz2 := K.k.bZ.cell 2 (.int .i64 18); have kr0 := K.bR.cell 0 (.slice v17.p1 v17.q1 v17.r1); have kr1 := K.bR.cell 1 (.slice v17.p2 v17.q2 v17.r2); have kr2 := K.bR.cell 2 (.slice v17.p3 v17.q3 v17.r3); have kr3 := K.bR.cell 3 (.slice v17.p4 v17.q4 v17.r4); have kr4 := K.bR.cell 4 (.slice v17.p5 v17.q5 v17.r5); have kr5 := K.bR.cell 5 (.slice v17.p6 v17.q6 v17.r6); have b13 := BoxA.new w18 30 #[.int .i64 5, .int .i64 18, .int .i64 28]; have y0 := b13.cell 0 (.int .i64 5); have y1 := b13.cell 1 (.int .i64 18); have y2 := b13.cell 2 (.int .i64 28); have HJ13 := Lib.hid K; clear K hb8 b13))
        | (go_at_call 9; ((with_reducible refine (head_is HJ13.out.hR HR7.out.2).mono ?_); rintro e w19 ⟨rfl, hb9⟩; have HB := Lib.hid (HJ13.out.k.i.hB.trans (hb9.mono HJ13.out.k.i.hB.size)); clear hb9)))
      go_ret
      exact ⟨rfl, HB.out⟩

end Go.Proofs.Ytigomdihkojdmaa.gn
