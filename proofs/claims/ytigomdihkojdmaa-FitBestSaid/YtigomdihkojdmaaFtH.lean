/- Is, of what may be. -/
import Derived.Test.YtigomdihkojdmaaFtG
namespace Go.Proofs.Ytigomdihkojdmaa.gn
open Go.RowKit Go.Shelf
open Go.Proofs.Ytigomdihkojdmaa.sp
attribute [local go_sem ↓] Go.wp_at_zero Go.wp_at_succ

theorem BoxA.setRow {W : World} {g : Nat} {t : TypeId} {cs old : Array Value} (h : BoxA W g t old) : BoxA (W.setRow g cs) g t cs := setRow_heap _ _ _ _ _ _ h

/-- With the windows' box. -/
structure Rxl (w : World) (v : Rv) (R : Rw) (x : Shp) (a b : Slt) (g : Nat) (W : World) : Prop where
  s : Rxa w v R x a W
  bL : BoxA W g 58 (partsC x b)
theorem Rxl.next {w W W' : World} {v : Rv} {R : Rw} {x : Shp} {a b : Slt} {g : Nat} (h : Rxl w v R x a b g W) (hb : Below W.heap.size W W') : Rxl w v R x a b g W' := ⟨h.s.next hb, h.bL.next hb⟩

def zeroP : Array Value := #[.int .i64 0, .int .i64 0, .int .i64 0, .nilFunc, .int .i64 0, .int .i64 0, .int .i64 0, .nilFunc, .int .i64 0, .int .i64 0, .int .i64 0, .nilFunc, .int .i64 0, .int .i64 0, .int .i64 0, .nilFunc]
theorem ix4_0 (x : Shp) (b : Slt) (w : World) : (Instr.index 58 (.agg (partsC x b)) (.int .i64 0)).run Try.prog w = .ok (.agg #[.int .i64 b.s, .int .i64 x.i, .int .i64 x.l, .func (.func 32) #[] #[]]) w := by kernel_rfl
theorem ix4_1 (x : Shp) (b : Slt) (w : World) : (Instr.index 58 (.agg (partsC x b)) (.int .i64 1)).run Try.prog w = .ok (.agg #[.int .i64 b.c, .int .i64 x.w, .int .i64 x.n, .func (.func 33) #[] #[]]) w := by kernel_rfl
theorem ix4_2 (x : Shp) (b : Slt) (w : World) : (Instr.index 58 (.agg (partsC x b)) (.int .i64 2)).run Try.prog w = .ok (.agg #[.int .i64 b.o, .int .i64 x.o, .int .i64 x.l, .func (.func 32) #[] #[]]) w := by kernel_rfl
theorem ix4_3 (x : Shp) (b : Slt) (w : World) : (Instr.index 58 (.agg (partsC x b)) (.int .i64 3)).run Try.prog w = .ok (.agg #[.int .i64 b.s, .int .i64 (b.o + x.o - b.s), .int .i64 x.b, .func (.func 34) #[] #[]]) w := by kernel_rfl

set_option maxRecDepth 100000 in
set_option maxHeartbeats 2000000 in
theorem is_good {w : World} {v : Rv} {R : Rw} {r : Rm} {x : Shp} {a : Slt} (h : RoomV w v R) (hr : r.Ok) (hR : R.Is r) (hx : x.Q) (hs : Q a.s) (hc : Q a.c) (ho : Q a.o) :
    Calls Try.prog 9 #[.agg v.c, shpV x, sltV a] w (TellsB (isB R x a) w) := by
  have hv : vld3 R x [a.s, a.c, a.o] = true := vld3_yes (Rw.ok_iff.2 ⟨r, hr, hR⟩) hx (quant3.2 ⟨hs, hc, ho⟩)
  have HV := Lib.hid hv
  have S := Rxa.new x a h
  have S1 := S.next ((Below.refl _ _).alloc (Nat.le_refl _) (.cells #[.int .i64 a.s, .int .i64 a.c, .int .i64 a.o] 2))
  have HV3 := Lib.hid (valid3_any (x := x) (l := [a.s, a.c, a.o]) S1.hR (row3 _ a.s a.c a.o))
  simp only [World.size_alloc] at HV3
  have HS1 := Lib.hid S1
  have i1 := hx.i.1
  have i2 := hx.i.2
  have w1 := hx.w.1
  have w2 := hx.w.2
  have o1 := hx.o.1
  have o2 := hx.o.2
  have HP := Lib.hid fun (W : World) => parts_any x a W (by have := ho.1; omega) (by have := ho.2; omega) (by have := ho.1; have := hs.2; omega) (by have := ho.2; have := hs.1; omega)
  have HX := Lib.hid (And.intro hr (And.intro hR (And.intro hx (And.intro hs (And.intro hc ho)))))
  clear S S1 h hv hr hR hx
  unfold shpV shpC sltV sltC at *
  go_enter Try.func9, Try.ntmps9
  go_wp2_with (first
    | (go_at_call 17; refine HV3.out.mono ?_; rintro e w1 ⟨rfl, hb1⟩; rw [HV.out]; have S1 := HS1.out.next hb1; have x0 := S1.bX.cell 0 (.int .i64 x.i); have x1 := S1.bX.cell 1 (.int .i64 x.w); have x2 := S1.bX.cell 2 (.int .i64 x.o); have x3 := S1.bX.cell 3 (.int .i64 x.n); have x4 := S1.bX.cell 4 (.int .i64 x.b); have x5 := S1.bX.cell 5 (.int .i64 x.l); have a0 := S1.bA.cell 0 (.int .i64 a.s); have a1 := S1.bA.cell 1 (.int .i64 a.c); have a2 := S1.bA.cell 2 (.int .i64 a.o); have HS2 := Lib.hid S1; clear hb1 S1)
    | (go_at_call 18; refine (HP.out _).mono ?_; rintro e w2 ⟨rfl, hb2⟩; have HS3 := Lib.hid (HS2.out.next hb2); clear hb2 x0 x1 x2 x3 x4 x5 a0 a1 a2)
    | (refine wpList_store_row rfl _ _ _ rfl w2.heap.size (partsC x a) rfl rfl _ _ (World.alloc_heap_new w2 _) (by kernel_rfl) rfl (by kernel_rfl) ?_))
  have bL0 : BoxA ((w2.alloc (.cells zeroP 58)).setRow w2.heap.size (partsC x a)) w2.heap.size 58 (partsC x a) := (BoxA.new w2 _ _).setRow
  have hb3 : Below w2.heap.size w2 ((w2.alloc (.cells zeroP 58)).setRow w2.heap.size (partsC x a)) := below_setRow ((Below.refl _ _).alloc (Nat.le_refl _) _) (Nat.le_refl _) _
  unfold zeroP at bL0 hb3
  generalize hg : w2.heap.size = g at *
  generalize (World.setRow (w2.alloc (.cells #[.int .i64 0, .int .i64 0, .int .i64 0, .nilFunc, .int .i64 0, .int .i64 0, .int .i64 0, .nilFunc, .int .i64 0, .int .i64 0, .int .i64 0, .nilFunc, .int .i64 0, .int .i64 0, .int .i64 0, .nilFunc] 58)) g (partsC x a)) = W3 at *
  have S3 : Rxl w v R x a a g W3 := ⟨HS3.out.next (by rw [hg]; exact hb3), bL0⟩
  clear bL0 hb3
  replace S3 := S3.next (Below.refl _ W3).drew
  have HS := Lib.hid S3
  have a1 := S3.s.bA.cell 1 (.int .i64 a.c)
  have a2 := S3.s.bA.cell 2 (.int .i64 a.o)
  have l0 := S3.bL.cell 0 (.int .i64 a.s)
  have l1 := S3.bL.cell 1 (.int .i64 x.i)
  have l2 := S3.bL.cell 2 (.int .i64 x.l)
  have l3 := S3.bL.cell 3 (.func (.func 32) #[] #[])
  have l4 := S3.bL.cell 4 (.int .i64 a.c)
  have l5 := S3.bL.cell 5 (.int .i64 x.w)
  have l6 := S3.bL.cell 6 (.int .i64 x.n)
  have l7 := S3.bL.cell 7 (.func (.func 33) #[] #[])
  clear S3
  have HE1 := Lib.hid fun (W : World) => end_any a.s x.i x.l 32 W (by have := hs.1; omega) (by have := hs.2; omega)
  have HE2 := Lib.hid fun (W : World) => end_any a.c x.w x.n 33 W (by have := hc.1; omega) (by have := hc.2; omega)
  unfold prtC at HE1 HE2
  by_cases hA : a.c < a.s + x.i
  · have d1 : decide (a.c < a.s + x.i) = true := decide_eq_true hA
    have hfin : Hid (isB R x a = false) := isB_no fun ⟨_, r', _, _, hsl⟩ => by have := hsl.c; omega
    clear hA
    refine wp_region_held_drew (S := (fun W => W.cell? ⟨w.heap.size + 1 + 1, 1, none⟩ = some (.int .i64 a.c) ∧ W.cell? ⟨w.heap.size + 1 + 1, 2, none⟩ = some (.int .i64 a.o) ∧ W.cell? ⟨g, 0, none⟩ = some (.int .i64 a.s) ∧ W.cell? ⟨g, 1, none⟩ = some (.int .i64 x.i) ∧ W.cell? ⟨g, 2, none⟩ = some (.int .i64 x.l) ∧ W.cell? ⟨g, 3, none⟩ = some (.func (.func 32) #[] #[]) ∧ W.cell? ⟨g, 4, none⟩ = some (.int .i64 a.c) ∧ W.cell? ⟨g, 5, none⟩ = some (.int .i64 x.w) ∧ W.cell? ⟨g, 6, none⟩ = some (.int .i64 x.n) ∧ W.cell? ⟨g, 7, none⟩ = some (.func (.func 33) #[] #[]))) (by kernel_rfl) (by first | (go_keep; done) | (dsimp only; go_keep)) (fun hHeld => ?_)
    refine wpAnyH_take (i := 0) (v := ?_) (ata at0) (by kernel_rfl) (by kernel_rfl) (by kernel_rfl) (fun _ _ _ h => h) (Or.inl ⟨by rfl, ?_⟩) (by assumption) ?_
    rotate_left
    · (intro w hSw; (try dsimp only at hSw); go_simp; (first | done | with_reducible rfl))
    try simp only [Act.put, List.setIfInBounds_toArray, List.set_cons_zero, List.set_cons_succ]
    refine wpAnyH_take (i := 1) (v := ?_) (ata (atS at0)) (by kernel_rfl) (by kernel_rfl) (by kernel_rfl) (fun _ _ _ h => h) (Or.inl ⟨by rfl, ?_⟩) (by assumption) ?_
    rotate_left
    · (intro w hSw; (try dsimp only at hSw); go_simp; (first | done | with_reducible rfl))
    try simp only [Act.put, List.setIfInBounds_toArray, List.set_cons_zero, List.set_cons_succ]
    refine wpAnyH_take (i := 2) (v := ?_) (ata (atS (atS at0))) (by kernel_rfl) (by kernel_rfl) (by kernel_rfl) (fun _ _ _ h => h) (Or.inl ⟨by rfl, ?_⟩) (by assumption) ?_
    rotate_left
    · (intro w hSw; (try dsimp only at hSw); go_simp; (first | done | with_reducible rfl))
    try simp only [Act.put, List.setIfInBounds_toArray, List.set_cons_zero, List.set_cons_succ]
    refine wpAnyH_take (i := 3) (v := ?_) (ata (atS (atS (atS at0)))) (by kernel_rfl) (by kernel_rfl) (by kernel_rfl) (fun _ _ _ h => h) (Or.inl ⟨by rfl, ?_⟩) (by assumption) ?_
    rotate_left
    · (intro w hSw; (try dsimp only at hSw); go_simp; (first | done | with_reducible rfl))
    try simp only [Act.put, List.setIfInBounds_toArray, List.set_cons_zero, List.set_cons_succ]
    refine wpAnyH_ready (rs := [4]) (by kernel_rfl) (by simp) ?_
    refine AllReadyH.cons (ata (atS (atS (atS (atS at0))))) (fun K hK => ?_) AllReadyH.nil
    go_simp
    (go_at_call 20; refine (HE1.out _).mono ?_; rintro e w4 ⟨rfl, hb4⟩; have S4 := HS.out.next hb4; have a1 := S4.s.bA.cell 1 (.int .i64 a.c); have a2 := S4.s.bA.cell 2 (.int .i64 a.o); have l0 := S4.bL.cell 0 (.int .i64 a.s); have l1 := S4.bL.cell 1 (.int .i64 x.i); have l2 := S4.bL.cell 2 (.int .i64 x.l); have l3 := S4.bL.cell 3 (.func (.func 32) #[] #[]); have l4 := S4.bL.cell 4 (.int .i64 a.c); have l5 := S4.bL.cell 5 (.int .i64 x.w); have l6 := S4.bL.cell 6 (.int .i64 x.n); have l7 := S4.bL.cell 7 (.func (.func 33) #[] #[]); have HS := Lib.hid S4; clear hb4 S4)
    go_wp2_with fail
    refine hK.out _ _ (by first | (go_keep; done) | (dsimp only; go_keep)) (fun hHeld => ?_)
    clear hK K
    try simp only [Act.put, List.setIfInBounds_toArray, List.set_cons_zero, List.set_cons_succ]
    refine wpAnyH_take (i := 5) (v := ?_) (ata (atS (atS (atS (atS (atS at0)))))) (by kernel_rfl) (by kernel_rfl) (by kernel_rfl) (fun _ _ _ h => h) (Or.inl ⟨by rfl, ?_⟩) (by assumption) ?_
    rotate_left
    · (intro w hSw; (try dsimp only at hSw); go_simp; (first | done | with_reducible rfl))
    try simp only [Act.put, List.setIfInBounds_toArray, List.set_cons_zero, List.set_cons_succ]
    refine wpAnyH_take (i := 6) (v := ?_) (ata (atS (atS (atS (atS (atS (atS at0))))))) (by kernel_rfl) (by kernel_rfl) (by kernel_rfl) (fun _ _ _ h => h) (Or.inl ⟨by rfl, ?_⟩) (by assumption) ?_
    rotate_left
    · (intro w hSw; (try dsimp only at hSw); go_simp; (first | done | with_reducible rfl))
    try simp only [Act.put, List.setIfInBounds_toArray, List.set_cons_zero, List.set_cons_succ]
    refine wpAnyH_take (i := 7) (v := undef) (ata (atS (atS (atS (atS (atS (atS (atS at0)))))))) (by kernel_rfl) (by kernel_rfl) (by kernel_rfl) (fun _ _ _ h => h) (Or.inr ⟨by rfl, rfl⟩) (by assumption) ?_
    try simp only [Act.put, List.setIfInBounds_toArray, List.set_cons_zero, List.set_cons_succ]
    refine wpAnyH_take (i := 8) (v := undef) (ata (atS (atS (atS (atS (atS (atS (atS (atS at0))))))))) (by kernel_rfl) (by kernel_rfl) (by kernel_rfl) (fun _ _ _ h => h) (Or.inr ⟨by rfl, rfl⟩) (by assumption) ?_
    try simp only [Act.put, List.setIfInBounds_toArray, List.set_cons_zero, List.set_cons_succ]
    refine wpAnyH_take (i := 9) (v := undef) (ata (atS (atS (atS (atS (atS (atS (atS (atS (atS at0)))))))))) (by kernel_rfl) (by kernel_rfl) (by kernel_rfl) (fun _ _ _ h => h) (Or.inr ⟨by rfl, rfl⟩) (by assumption) ?_
    try simp only [Act.put, List.setIfInBounds_toArray, List.set_cons_zero, List.set_cons_succ]
    refine wpAnyH_take (i := 10) (v := undef) (ata (atS (atS (atS (atS (atS (atS (atS (atS (atS (atS at0))))))))))) (by kernel_rfl) (by kernel_rfl) (by kernel_rfl) (fun _ _ _ h => h) (Or.inr ⟨by rfl, rfl⟩) (by assumption) ?_
    try simp only [Act.put, List.setIfInBounds_toArray, List.set_cons_zero, List.set_cons_succ]
    refine wpAnyH_take (i := 11) (v := undef) (ata (atS (atS (atS (atS (atS (atS (atS (atS (atS (atS (atS at0)))))))))))) (by kernel_rfl) (by kernel_rfl) (by kernel_rfl) (fun _ _ _ h => h) (Or.inr ⟨by rfl, rfl⟩) (by assumption) ?_
    try simp only [Act.put, List.setIfInBounds_toArray, List.set_cons_zero, List.set_cons_succ]
    refine wpAnyH_take (i := 12) (v := undef) (ata (atS (atS (atS (atS (atS (atS (atS (atS (atS (atS (atS (atS at0))))))))))))) (by kernel_rfl) (by kernel_rfl) (by kernel_rfl) (fun _ _ _ h => h) (Or.inr ⟨by rfl, rfl⟩) (by assumption) ?_
    try simp only [Act.put, List.setIfInBounds_toArray, List.set_cons_zero, List.set_cons_succ]
    refine wpAnyH_take (i := 13) (v := ?_) (ata (atS (atS (atS (atS (atS (atS (atS (atS (atS (atS (atS (atS (atS at0)))))))))))))) (by kernel_rfl) (by kernel_rfl) (by kernel_rfl) (fun _ _ _ h => h) (Or.inl ⟨by rfl, ?_⟩) (by assumption) ?_
    rotate_left
    · (intro w hSw; (try dsimp only at hSw); go_simp; (first | done | with_reducible rfl))
    try simp only [Act.put, List.setIfInBounds_toArray, List.set_cons_zero, List.set_cons_succ]
    refine wpAnyH_done (by kernel_rfl) ?_ _
    go_wp2
    go_ret
    exact ⟨ret_bool hfin.out.symm, HS.out.s.hB⟩
  · have d1 : decide (a.c < a.s + x.i) = false := decide_eq_false hA
    by_cases hB : a.o < a.c + x.w
    · have d2 : decide (a.o < a.c + x.w) = true := decide_eq_true hB
      have hfin : Hid (isB R x a = false) := isB_no fun ⟨_, r', _, _, hsl⟩ => by have := hsl.o; omega
      clear hA hB
      go_region_held3 (fun W => W.cell? ⟨w.heap.size + 1 + 1, 1, none⟩ = some (.int .i64 a.c) ∧ W.cell? ⟨w.heap.size + 1 + 1, 2, none⟩ = some (.int .i64 a.o) ∧ W.cell? ⟨g, 0, none⟩ = some (.int .i64 a.s) ∧ W.cell? ⟨g, 1, none⟩ = some (.int .i64 x.i) ∧ W.cell? ⟨g, 2, none⟩ = some (.int .i64 x.l) ∧ W.cell? ⟨g, 3, none⟩ = some (.func (.func 32) #[] #[]) ∧ W.cell? ⟨g, 4, none⟩ = some (.int .i64 a.c) ∧ W.cell? ⟨g, 5, none⟩ = some (.int .i64 x.w) ∧ W.cell? ⟨g, 6, none⟩ = some (.int .i64 x.n) ∧ W.cell? ⟨g, 7, none⟩ = some (.func (.func 33) #[] #[])) (go_keep) (first | (go_at_call 20; refine (HE1.out _).mono ?_; rintro e w4 ⟨rfl, hb4⟩; have S4 := HS.out.next hb4; have a1 := S4.s.bA.cell 1 (.int .i64 a.c); have a2 := S4.s.bA.cell 2 (.int .i64 a.o); have l0 := S4.bL.cell 0 (.int .i64 a.s); have l1 := S4.bL.cell 1 (.int .i64 x.i); have l2 := S4.bL.cell 2 (.int .i64 x.l); have l3 := S4.bL.cell 3 (.func (.func 32) #[] #[]); have l4 := S4.bL.cell 4 (.int .i64 a.c); have l5 := S4.bL.cell 5 (.int .i64 x.w); have l6 := S4.bL.cell 6 (.int .i64 x.n); have l7 := S4.bL.cell 7 (.func (.func 33) #[] #[]); have HS := Lib.hid S4; clear hb4 S4) | (go_at_call 20; refine (HE2.out _).mono ?_; rintro e w4 ⟨rfl, hb4⟩; have S4 := HS.out.next hb4; have a1 := S4.s.bA.cell 1 (.int .i64 a.c); have a2 := S4.s.bA.cell 2 (.int .i64 a.o); have l0 := S4.bL.cell 0 (.int .i64 a.s); have l1 := S4.bL.cell 1 (.int .i64 x.i); have l2 := S4.bL.cell 2 (.int .i64 x.l); have l3 := S4.bL.cell 3 (.func (.func 32) #[] #[]); have l4 := S4.bL.cell 4 (.int .i64 a.c); have l5 := S4.bL.cell 5 (.int .i64 x.w); have l6 := S4.bL.cell 6 (.int .i64 x.n); have l7 := S4.bL.cell 7 (.func (.func 33) #[] #[]); have HS := Lib.hid S4; clear hb4 S4))
      all_goals
        go_wp2
        go_ret
        exact ⟨ret_bool hfin.out.symm, HS.out.s.hB⟩
    · have d2 : decide (a.o < a.c + x.w) = false := decide_eq_false hB
      have HAB := Lib.hid (And.intro hA hB)
      clear hA hB
      go_region_held3 (fun W => W.cell? ⟨w.heap.size + 1 + 1, 1, none⟩ = some (.int .i64 a.c) ∧ W.cell? ⟨w.heap.size + 1 + 1, 2, none⟩ = some (.int .i64 a.o) ∧ W.cell? ⟨g, 0, none⟩ = some (.int .i64 a.s) ∧ W.cell? ⟨g, 1, none⟩ = some (.int .i64 x.i) ∧ W.cell? ⟨g, 2, none⟩ = some (.int .i64 x.l) ∧ W.cell? ⟨g, 3, none⟩ = some (.func (.func 32) #[] #[]) ∧ W.cell? ⟨g, 4, none⟩ = some (.int .i64 a.c) ∧ W.cell? ⟨g, 5, none⟩ = some (.int .i64 x.w) ∧ W.cell? ⟨g, 6, none⟩ = some (.int .i64 x.n) ∧ W.cell? ⟨g, 7, none⟩ = some (.func (.func 33) #[] #[])) (go_keep) (first | (go_at_call 20; refine (HE1.out _).mono ?_; rintro e w4 ⟨rfl, hb4⟩; have S4 := HS.out.next hb4; have a1 := S4.s.bA.cell 1 (.int .i64 a.c); have a2 := S4.s.bA.cell 2 (.int .i64 a.o); have l0 := S4.bL.cell 0 (.int .i64 a.s); have l1 := S4.bL.cell 1 (.int .i64 x.i); have l2 := S4.bL.cell 2 (.int .i64 x.l); have l3 := S4.bL.cell 3 (.func (.func 32) #[] #[]); have l4 := S4.bL.cell 4 (.int .i64 a.c); have l5 := S4.bL.cell 5 (.int .i64 x.w); have l6 := S4.bL.cell 6 (.int .i64 x.n); have l7 := S4.bL.cell 7 (.func (.func 33) #[] #[]); have HS := Lib.hid S4; clear hb4 S4) | (go_at_call 20; refine (HE2.out _).mono ?_; rintro e w4 ⟨rfl, hb4⟩; have S4 := HS.out.next hb4; have a1 := S4.s.bA.cell 1 (.int .i64 a.c); have a2 := S4.s.bA.cell 2 (.int .i64 a.o); have l0 := S4.bL.cell 0 (.int .i64 a.s); have l1 := S4.bL.cell 1 (.int .i64 x.i); have l2 := S4.bL.cell 2 (.int .i64 x.l); have l3 := S4.bL.cell 3 (.func (.func 32) #[] #[]); have l4 := S4.bL.cell 4 (.int .i64 a.c); have l5 := S4.bL.cell 5 (.int .i64 x.w); have l6 := S4.bL.cell 6 (.int .i64 x.n); have l7 := S4.bL.cell 7 (.func (.func 33) #[] #[]); have HS := Lib.hid S4; clear hb4 S4))
      have hLb := HS.out.bL
      go_wp2_with (refine wpList_load_row rfl _ _ rfl g rfl 58 (partsC x a) (0, 0) _ hLb Try.underlying58 rfl (by kernel_rfl) ?_)
      have hS5 := HS.out.s
      have HS5 := Lib.hid hS5
      clear hLb hS5 hg HV HV3 HS1 HP HS2 HS3 HE1 HE2
      go_loopw [39] (fun i wr => ∃ k : Nat, k ≤ 4 ∧ i = .int .i64 (k : Int) ∧ Rxa w v R x a wr ∧ (0 < k → FitsAt r.l a.s x.i x.l) ∧ (1 < k → FitsAt r.n a.c x.w x.n) ∧ (2 < k → FitsAt r.l a.o x.o x.l) ∧ (3 < k → FitsAt r.b a.s (a.o + x.o - a.s) x.b)) (fun i _ => 4 - (intOf i).toNat)
      case atStart => exact ⟨0, by omega, rfl, HS5.out, fun h => by omega, fun h => by omega, fun h => by omega, fun h => by omega⟩
      case round =>
        obtain ⟨k, hk, rfl, hS, hk0, hk1, hk2, hk3⟩ := hrel
        have HK := Lib.hid (And.intro hk0 (And.intro hk1 (And.intro hk2 hk3)))
        have HSw := Lib.hid hS
        clear hk0 hk1 hk2 hk3 hS
        match k, hk with
        | 0, _ =>
          have hix := ix4_0 x a
          have bP : BoxA ((wr.alloc (.cells #[.int .i64 0, .int .i64 0, .int .i64 0, .nilFunc] 57)).setRow wr.heap.size #[.int .i64 a.s, .int .i64 x.i, .int .i64 x.l, .func (.func 32) #[] #[]]) wr.heap.size 57 #[.int .i64 a.s, .int .i64 x.i, .int .i64 x.l, .func (.func 32) #[] #[]] := (BoxA.new wr _ _).setRow
          have hN := HSw.out.next (below_setRow ((Below.refl _ wr).alloc (Nat.le_refl _) (.cells #[.int .i64 0, .int .i64 0, .int .i64 0, .nilFunc] 57)) (Nat.le_refl _) #[.int .i64 a.s, .int .i64 x.i, .int .i64 x.l, .func (.func 32) #[] #[]])
          obtain ⟨W4, hW4⟩ : ∃ W4, ((wr.alloc (.cells #[.int .i64 0, .int .i64 0, .int .i64 0, .nilFunc] 57)).setRow wr.heap.size #[.int .i64 a.s, .int .i64 x.i, .int .i64 x.l, .func (.func 32) #[] #[]]) = W4 := ⟨_, rfl⟩
          rw [hW4] at bP hN
          have s0 := bP.cell 0 (.int .i64 a.s)
          have s1 := bP.cell 1 (.int .i64 x.i)
          have s2 := bP.cell 2 (.int .i64 x.l)
          have s3 := bP.cell 3 (.func (.func 32) #[] #[])
          have r0 := hN.bR.cell 0 (.slice v.p1 v.q1 v.r1)
          have r1 := hN.bR.cell 1 (.slice v.p2 v.q2 v.r2)
          have r2 := hN.bR.cell 2 (.slice v.p3 v.q3 v.r3)
          have r3 := hN.bR.cell 3 (.slice v.p4 v.q4 v.r4)
          have r4 := hN.bR.cell 4 (.slice v.p5 v.q5 v.r5)
          have r5 := hN.bR.cell 5 (.slice v.p6 v.q6 v.r6)
          have HN := Lib.hid hN
          clear bP hN
          have HC := Lib.hid (fitsl_any (f := a.s) (l := x.i) (n := x.l) HN.out.hR HX.out.1 HX.out.2.1 hs (by have := hs.1; have := hc.1; have := ho.1; have := HAB.out; omega) (by have := hs.2; have := hc.2; have := ho.2; omega) HX.out.2.2.1.l.2)
          unfold prtC at HC
          by_cases hF : FitsAt r.l a.s x.i x.l
          · have e0 : Hid (fitB r.l a.s x.i x.l = true) := fitB_yes hF
            have hF := Lib.hid hF
            go_wp2_with (first | (refine wpList_store_row rfl _ _ _ rfl wr.heap.size #[.int .i64 a.s, .int .i64 x.i, .int .i64 x.l, .func (.func 32) #[] #[]] rfl rfl _ _ (World.alloc_heap_new wr _) (by kernel_rfl) rfl (by kernel_rfl) ?_; rw [hW4]) | (go_at_call 22; refine HC.out.mono ?_; rintro e w1 ⟨rfl, hb1⟩; rw [e0.out]; have HB2 := Lib.hid (HN.out.next hb1); clear hb1))
            go_roundw
            case rel => exact ⟨1, by omega, by go_num, HB2.out, fun _ => hF.out, fun h => by omega, fun h => by omega, fun h => by omega⟩
            case measure => simp [intOf]
          · have e0 : Hid (fitB r.l a.s x.i x.l = false) := fitB_no hF
            have hfin : Hid (isB R x a = false) := by
              show isB R x a = false
              cases e : isB R x a with
              | false => rfl
              | true => exact absurd ((isB_of HX.out.2.2.1 HX.out.1 HX.out.2.1).1 e).inn hF
            clear hF
            go_wp2_with (first | (refine wpList_store_row rfl _ _ _ rfl wr.heap.size #[.int .i64 a.s, .int .i64 x.i, .int .i64 x.l, .func (.func 32) #[] #[]] rfl rfl _ _ (World.alloc_heap_new wr _) (by kernel_rfl) rfl (by kernel_rfl) ?_; rw [hW4]) | (go_at_call 22; refine HC.out.mono ?_; rintro e w1 ⟨rfl, hb1⟩; rw [e0.out]; have HB2 := Lib.hid (HN.out.next hb1); clear hb1))
            go_ret
            exact ⟨ret_bool hfin.out.symm, HB2.out.hB⟩
        | 1, _ =>
          have hix := ix4_1 x a
          have bP : BoxA ((wr.alloc (.cells #[.int .i64 0, .int .i64 0, .int .i64 0, .nilFunc] 57)).setRow wr.heap.size #[.int .i64 a.c, .int .i64 x.w, .int .i64 x.n, .func (.func 33) #[] #[]]) wr.heap.size 57 #[.int .i64 a.c, .int .i64 x.w, .int .i64 x.n, .func (.func 33) #[] #[]] := (BoxA.new wr _ _).setRow
          have hN := HSw.out.next (below_setRow ((Below.refl _ wr).alloc (Nat.le_refl _) (.cells #[.int .i64 0, .int .i64 0, .int .i64 0, .nilFunc] 57)) (Nat.le_refl _) #[.int .i64 a.c, .int .i64 x.w, .int .i64 x.n, .func (.func 33) #[] #[]])
          obtain ⟨W4, hW4⟩ : ∃ W4, ((wr.alloc (.cells #[.int .i64 0, .int .i64 0, .int .i64 0, .nilFunc] 57)).setRow wr.heap.size #[.int .i64 a.c, .int .i64 x.w, .int .i64 x.n, .func (.func 33) #[] #[]]) = W4 := ⟨_, rfl⟩
          rw [hW4] at bP hN
          have s0 := bP.cell 0 (.int .i64 a.c)
          have s1 := bP.cell 1 (.int .i64 x.w)
          have s2 := bP.cell 2 (.int .i64 x.n)
          have s3 := bP.cell 3 (.func (.func 33) #[] #[])
          have r0 := hN.bR.cell 0 (.slice v.p1 v.q1 v.r1)
          have r1 := hN.bR.cell 1 (.slice v.p2 v.q2 v.r2)
          have r2 := hN.bR.cell 2 (.slice v.p3 v.q3 v.r3)
          have r3 := hN.bR.cell 3 (.slice v.p4 v.q4 v.r4)
          have r4 := hN.bR.cell 4 (.slice v.p5 v.q5 v.r5)
          have r5 := hN.bR.cell 5 (.slice v.p6 v.q6 v.r6)
          have HN := Lib.hid hN
          clear bP hN
          have HC := Lib.hid (fitsn_any (f := a.c) (l := x.w) (n := x.n) HN.out.hR HX.out.1 HX.out.2.1 hc (by have := hs.1; have := hc.1; have := ho.1; have := HAB.out; omega) (by have := hs.2; have := hc.2; have := ho.2; omega) HX.out.2.2.1.n.2)
          unfold prtC at HC
          by_cases hF : FitsAt r.n a.c x.w x.n
          · have e0 : Hid (fitB r.n a.c x.w x.n = true) := fitB_yes hF
            have hF := Lib.hid hF
            go_wp2_with (first | (refine wpList_store_row rfl _ _ _ rfl wr.heap.size #[.int .i64 a.c, .int .i64 x.w, .int .i64 x.n, .func (.func 33) #[] #[]] rfl rfl _ _ (World.alloc_heap_new wr _) (by kernel_rfl) rfl (by kernel_rfl) ?_; rw [hW4]) | (go_at_call 22; refine HC.out.mono ?_; rintro e w1 ⟨rfl, hb1⟩; rw [e0.out]; have HB2 := Lib.hid (HN.out.next hb1); clear hb1))
            go_roundw
            case rel => exact ⟨2, by omega, by go_num, HB2.out, fun h => HK.out.1 (by omega), fun _ => hF.out, fun h => by omega, fun h => by omega⟩
            case measure => simp [intOf]
          · have e0 : Hid (fitB r.n a.c x.w x.n = false) := fitB_no hF
            have hfin : Hid (isB R x a = false) := by
              show isB R x a = false
              cases e : isB R x a with
              | false => rfl
              | true => exact absurd ((isB_of HX.out.2.2.1 HX.out.1 HX.out.2.1).1 e).work hF
            clear hF
            go_wp2_with (first | (refine wpList_store_row rfl _ _ _ rfl wr.heap.size #[.int .i64 a.c, .int .i64 x.w, .int .i64 x.n, .func (.func 33) #[] #[]] rfl rfl _ _ (World.alloc_heap_new wr _) (by kernel_rfl) rfl (by kernel_rfl) ?_; rw [hW4]) | (go_at_call 22; refine HC.out.mono ?_; rintro e w1 ⟨rfl, hb1⟩; rw [e0.out]; have HB2 := Lib.hid (HN.out.next hb1); clear hb1))
            go_ret
            exact ⟨ret_bool hfin.out.symm, HB2.out.hB⟩
        | 2, _ =>
          have hix := ix4_2 x a
          have bP : BoxA ((wr.alloc (.cells #[.int .i64 0, .int .i64 0, .int .i64 0, .nilFunc] 57)).setRow wr.heap.size #[.int .i64 a.o, .int .i64 x.o, .int .i64 x.l, .func (.func 32) #[] #[]]) wr.heap.size 57 #[.int .i64 a.o, .int .i64 x.o, .int .i64 x.l, .func (.func 32) #[] #[]] := (BoxA.new wr _ _).setRow
          have hN := HSw.out.next (below_setRow ((Below.refl _ wr).alloc (Nat.le_refl _) (.cells #[.int .i64 0, .int .i64 0, .int .i64 0, .nilFunc] 57)) (Nat.le_refl _) #[.int .i64 a.o, .int .i64 x.o, .int .i64 x.l, .func (.func 32) #[] #[]])
          obtain ⟨W4, hW4⟩ : ∃ W4, ((wr.alloc (.cells #[.int .i64 0, .int .i64 0, .int .i64 0, .nilFunc] 57)).setRow wr.heap.size #[.int .i64 a.o, .int .i64 x.o, .int .i64 x.l, .func (.func 32) #[] #[]]) = W4 := ⟨_, rfl⟩
          rw [hW4] at bP hN
          have s0 := bP.cell 0 (.int .i64 a.o)
          have s1 := bP.cell 1 (.int .i64 x.o)
          have s2 := bP.cell 2 (.int .i64 x.l)
          have s3 := bP.cell 3 (.func (.func 32) #[] #[])
          have r0 := hN.bR.cell 0 (.slice v.p1 v.q1 v.r1)
          have r1 := hN.bR.cell 1 (.slice v.p2 v.q2 v.r2)
          have r2 := hN.bR.cell 2 (.slice v.p3 v.q3 v.r3)
          have r3 := hN.bR.cell 3 (.slice v.p4 v.q4 v.r4)
          have r4 := hN.bR.cell 4 (.slice v.p5 v.q5 v.r5)
          have r5 := hN.bR.cell 5 (.slice v.p6 v.q6 v.r6)
          have HN := Lib.hid hN
          clear bP hN
          have HC := Lib.hid (fitsl_any (f := a.o) (l := x.o) (n := x.l) HN.out.hR HX.out.1 HX.out.2.1 ho (by have := hs.1; have := hc.1; have := ho.1; have := HAB.out; omega) (by have := hs.2; have := hc.2; have := ho.2; omega) HX.out.2.2.1.l.2)
          unfold prtC at HC
          by_cases hF : FitsAt r.l a.o x.o x.l
          · have e0 : Hid (fitB r.l a.o x.o x.l = true) := fitB_yes hF
            have hF := Lib.hid hF
            go_wp2_with (first | (refine wpList_store_row rfl _ _ _ rfl wr.heap.size #[.int .i64 a.o, .int .i64 x.o, .int .i64 x.l, .func (.func 32) #[] #[]] rfl rfl _ _ (World.alloc_heap_new wr _) (by kernel_rfl) rfl (by kernel_rfl) ?_; rw [hW4]) | (go_at_call 22; refine HC.out.mono ?_; rintro e w1 ⟨rfl, hb1⟩; rw [e0.out]; have HB2 := Lib.hid (HN.out.next hb1); clear hb1))
            go_roundw
            case rel => exact ⟨3, by omega, by go_num, HB2.out, fun h => HK.out.1 (by omega), fun h => HK.out.2.1 (by omega), fun _ => hF.out, fun h => by omega⟩
            case measure => simp [intOf]
          · have e0 : Hid (fitB r.l a.o x.o x.l = false) := fitB_no hF
            have hfin : Hid (isB R x a = false) := by
              show isB R x a = false
              cases e : isB R x a with
              | false => rfl
              | true => exact absurd ((isB_of HX.out.2.2.1 HX.out.1 HX.out.2.1).1 e).out hF
            clear hF
            go_wp2_with (first | (refine wpList_store_row rfl _ _ _ rfl wr.heap.size #[.int .i64 a.o, .int .i64 x.o, .int .i64 x.l, .func (.func 32) #[] #[]] rfl rfl _ _ (World.alloc_heap_new wr _) (by kernel_rfl) rfl (by kernel_rfl) ?_; rw [hW4]) | (go_at_call 22; refine HC.out.mono ?_; rintro e w1 ⟨rfl, hb1⟩; rw [e0.out]; have HB2 := Lib.hid (HN.out.next hb1); clear hb1))
            go_ret
            exact ⟨ret_bool hfin.out.symm, HB2.out.hB⟩
        | 3, _ =>
          have hix := ix4_3 x a
          have bP : BoxA ((wr.alloc (.cells #[.int .i64 0, .int .i64 0, .int .i64 0, .nilFunc] 57)).setRow wr.heap.size #[.int .i64 a.s, .int .i64 (a.o + x.o - a.s), .int .i64 x.b, .func (.func 34) #[] #[]]) wr.heap.size 57 #[.int .i64 a.s, .int .i64 (a.o + x.o - a.s), .int .i64 x.b, .func (.func 34) #[] #[]] := (BoxA.new wr _ _).setRow
          have hN := HSw.out.next (below_setRow ((Below.refl _ wr).alloc (Nat.le_refl _) (.cells #[.int .i64 0, .int .i64 0, .int .i64 0, .nilFunc] 57)) (Nat.le_refl _) #[.int .i64 a.s, .int .i64 (a.o + x.o - a.s), .int .i64 x.b, .func (.func 34) #[] #[]])
          obtain ⟨W4, hW4⟩ : ∃ W4, ((wr.alloc (.cells #[.int .i64 0, .int .i64 0, .int .i64 0, .nilFunc] 57)).setRow wr.heap.size #[.int .i64 a.s, .int .i64 (a.o + x.o - a.s), .int .i64 x.b, .func (.func 34) #[] #[]]) = W4 := ⟨_, rfl⟩
          rw [hW4] at bP hN
          have s0 := bP.cell 0 (.int .i64 a.s)
          have s1 := bP.cell 1 (.int .i64 (a.o + x.o - a.s))
          have s2 := bP.cell 2 (.int .i64 x.b)
          have s3 := bP.cell 3 (.func (.func 34) #[] #[])
          have r0 := hN.bR.cell 0 (.slice v.p1 v.q1 v.r1)
          have r1 := hN.bR.cell 1 (.slice v.p2 v.q2 v.r2)
          have r2 := hN.bR.cell 2 (.slice v.p3 v.q3 v.r3)
          have r3 := hN.bR.cell 3 (.slice v.p4 v.q4 v.r4)
          have r4 := hN.bR.cell 4 (.slice v.p5 v.q5 v.r5)
          have r5 := hN.bR.cell 5 (.slice v.p6 v.q6 v.r6)
          have HN := Lib.hid hN
          clear bP hN
          have HC := Lib.hid (fitsb_any (f := a.s) (l := (a.o + x.o - a.s)) (n := x.b) HN.out.hR HX.out.1 HX.out.2.1 hs (by have := hs.1; have := hc.1; have := ho.1; have := HAB.out; omega) (by have := hs.2; have := hc.2; have := ho.2; omega) HX.out.2.2.1.b.2)
          unfold prtC at HC
          by_cases hF : FitsAt r.b a.s (a.o + x.o - a.s) x.b
          · have e0 : Hid (fitB r.b a.s (a.o + x.o - a.s) x.b = true) := fitB_yes hF
            have hF := Lib.hid hF
            go_wp2_with (first | (refine wpList_store_row rfl _ _ _ rfl wr.heap.size #[.int .i64 a.s, .int .i64 (a.o + x.o - a.s), .int .i64 x.b, .func (.func 34) #[] #[]] rfl rfl _ _ (World.alloc_heap_new wr _) (by kernel_rfl) rfl (by kernel_rfl) ?_; rw [hW4]) | (go_at_call 22; refine HC.out.mono ?_; rintro e w1 ⟨rfl, hb1⟩; rw [e0.out]; have HB2 := Lib.hid (HN.out.next hb1); clear hb1))
            go_roundw
            case rel => exact ⟨4, by omega, by go_num, HB2.out, fun h => HK.out.1 (by omega), fun h => HK.out.2.1 (by omega), fun h => HK.out.2.2.1 (by omega), fun _ => hF.out⟩
            case measure => simp [intOf]
          · have e0 : Hid (fitB r.b a.s (a.o + x.o - a.s) x.b = false) := fitB_no hF
            have hfin : Hid (isB R x a = false) := by
              show isB R x a = false
              cases e : isB R x a with
              | false => rfl
              | true => exact absurd ((isB_of HX.out.2.2.1 HX.out.1 HX.out.2.1).1 e).held hF
            clear hF
            go_wp2_with (first | (refine wpList_store_row rfl _ _ _ rfl wr.heap.size #[.int .i64 a.s, .int .i64 (a.o + x.o - a.s), .int .i64 x.b, .func (.func 34) #[] #[]] rfl rfl _ _ (World.alloc_heap_new wr _) (by kernel_rfl) rfl (by kernel_rfl) ?_; rw [hW4]) | (go_at_call 22; refine HC.out.mono ?_; rintro e w1 ⟨rfl, hb1⟩; rw [e0.out]; have HB2 := Lib.hid (HN.out.next hb1); clear hb1))
            go_ret
            exact ⟨ret_bool hfin.out.symm, HB2.out.hB⟩
        | 4, _ =>
          have hfin : Hid (isB R x a = true) := (isB_of HX.out.2.2.1 HX.out.1 HX.out.2.1).2 ⟨hs, hc, ho, HK.out.1 (by omega), by have := HAB.out.1; omega, HK.out.2.1 (by omega), by have := HAB.out.2; omega, HK.out.2.2.1 (by omega), HK.out.2.2.2 (by omega)⟩
          go_wp2
          go_ret
          exact ⟨ret_bool hfin.out.symm, HSw.out.hB⟩
end Go.Proofs.Ytigomdihkojdmaa.gn
