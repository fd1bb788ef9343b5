/- Take and Give of a slot, by the function that takes or gives: the walk. -/
import Derived.Test.YtigomdihkojdmaaFtK
namespace Go.Proofs.Ytigomdihkojdmaa.gn
open Go.RowKit Go.Shelf
open Go.Proofs.Ytigomdihkojdmaa.sp
attribute [local go_sem ↓] Go.wp_at_zero Go.wp_at_succ

set_option maxRecDepth 100000 in
set_option maxHeartbeats 4000000 in
theorem change_slot (dg : FuncId) (d : Int → Int) (hdg : ∀ (v : Value) (lo hi n : Int) (w : World), (callFunc dg #[v, .int .i64 lo, .int .i64 hi, .int .i64 n]).run Try.prog w = .ok (.enter dg #[v, .int .i64 lo, .int .i64 hi, .int .i64 n]) w)
    (hdo : ∀ (w : World) (v : Value) (L : List (Int × Int)) (lo hi n : Int), Prof w v (L.map Prod.fst) (L.map Prod.snd) → Ok L → Q lo → Q hi → Q n → Calls Try.prog dg #[v, .int .i64 lo, .int .i64 hi, .int .i64 n] w (Turns L lo hi (d n) w))
    {w : World} {v : Rv} {R : Rw} {r : Rm} {x : Shp} {a : Slt} (h : RoomV w v R) (hr : r.Ok) (hR : R.Is r) (hx : x.Q) (hf : Fine d r x a) :
    Calls Try.prog 23 #[.agg v.c, shpV x, sltV a, .func (.func dg) #[] #[]] w fun e w' => ∃ (v' : Rv) (R' : Rw) (r' : Rm), e = .returned (.tuple #[.agg v'.c, .int .i64 0]) ∧ Stg d r x a 4 r' ∧ r'.Ok ∧ R'.Is r' ∧ RoomV w' v' R' ∧ Below w.heap.size w w' ∧
      r'.n.length ≤ r.n.length + 8 ∧ r'.b.length ≤ r.b.length + 8 ∧ r'.l.length ≤ r.l.length + 8 := by
  have hv : vld3 R x [a.s, a.c, a.o] = true := vld3_yes (Rw.ok_iff.2 ⟨r, hr, hR⟩) hx (quant3.2 ⟨hf.s, hf.c, hf.o⟩)
  have HV := Lib.hid hv
  have i1 := hx.i.1
  have i2 := hx.i.2
  have w1 := hx.w.1
  have w2 := hx.w.2
  have o1 := hx.o.1
  have o2 := hx.o.2
  have s1 := hf.s.1
  have s2 := hf.s.2
  have c1 := hf.c.1
  have c2 := hf.c.2
  have t1 := hf.o.1
  have t2 := hf.o.2
  have HP := Lib.hid fun (W : World) => parts_any x a W (by omega) (by omega) (by omega) (by omega)
  have S := Rxa.new x a h
  have bO := BoxA.new (((w.alloc (.cells v.c 26)).alloc (.cells (shpC x) 28)).alloc (.cells (sltC a) 30)) 26 #[.slice none 0 0, .slice none 0 0, .slice none 0 0, .slice none 0 0, .slice none 0 0, .slice none 0 0]
  have S1 := (S.next ((Below.refl _ _).alloc (Nat.le_refl _) (.cells #[.slice none 0 0, .slice none 0 0, .slice none 0 0, .slice none 0 0, .slice none 0 0, .slice none 0 0] 26))).next ((Below.refl _ _).alloc (Nat.le_refl _) (.cells #[.int .i64 a.s, .int .i64 a.c, .int .i64 a.o] 2))
  have HV3 := Lib.hid (valid3_any (x := x) (l := [a.s, a.c, a.o]) S1.hR (row3 _ a.s a.c a.o))
  have bO1 := bO.alloc (.cells #[.int .i64 a.s, .int .i64 a.c, .int .i64 a.o] 2)
  simp only [World.size_alloc] at HV3 bO1
  have HS1 := Lib.hid (And.intro S1 bO1)
  have HX := Lib.hid (And.intro hr (And.intro hR hx))
  have HFI := Lib.hid hf
  have HDO := Lib.hid hdo
  clear h hv hr hR hx hf S S1 bO bO1 hdo
  unfold shpV shpC sltV sltC at *
  go_enter Try.func23, Try.ntmps23
  go_wp2_with (first
    | (go_at_call 17; refine HV3.out.mono ?_; rintro e w1 ⟨rfl, hb1⟩; rw [HV.out]; have S2 := HS1.out.1.next hb1; have O2 := HS1.out.2.next hb1; have x0 := S2.bX.cell 0 (.int .i64 x.i); have x1 := S2.bX.cell 1 (.int .i64 x.w); have x2 := S2.bX.cell 2 (.int .i64 x.o); have x3 := S2.bX.cell 3 (.int .i64 x.n); have x4 := S2.bX.cell 4 (.int .i64 x.b); have x5 := S2.bX.cell 5 (.int .i64 x.l); have a0 := S2.bA.cell 0 (.int .i64 a.s); have a1 := S2.bA.cell 1 (.int .i64 a.c); have a2 := S2.bA.cell 2 (.int .i64 a.o); have HS2 := Lib.hid (And.intro S2 O2); clear hb1 S2 O2)
    | (go_at_call 18; refine (HP.out _).mono ?_; rintro e w2 ⟨rfl, hb2⟩; have HS3 := Lib.hid (And.intro (HS2.out.1.next hb2) (HS2.out.2.next hb2)); clear hb2 x0 x1 x2 x3 x4 x5 a0 a1 a2))
  go_loopw [29] (fun i wr => ∃ (k : Nat) (u : Rv) (T : Rw) (y : Rm), k ≤ 4 ∧ i = .int .i64 (k : Int) ∧ CJ w u T wr ∧ T.Is y ∧ y.Ok ∧ Stg d r x a k y ∧ (y.n.length ≤ r.n.length + 2 * k ∧ y.b.length ≤ r.b.length + 2 * k ∧ y.l.length ≤ r.l.length + 2 * k)) (fun i _ => 4 - (intOf i).toNat)
  case atStart => exact ⟨0, v, R, r, by omega, rfl, ⟨HS3.out.1.bR, HS3.out.2, HS3.out.1.hB, HS3.out.1.hR⟩, HX.out.2.1, HX.out.1, rfl, by omega, by omega, by omega⟩
  case round =>
    obtain ⟨k, u, T, y, hk, rfl, hJ, hIs, hOk, hSt, hl⟩ := hrel
    have HJr := Lib.hid hJ
    clear hJ HV HV3 HP HS1 HS2 HS3
    by_cases hk4 : k < 4
    · obtain ⟨f, l, n, hi, g, o, L, p1, p2, q1, r1, q2, r2, hP⟩ := prt (u := u) HX.out.2.2 HFI.out hIs hOk k hk4 hSt hl
      have hix := hP.ix
      have hen := hP.en
      have HPr := Lib.hid hP
      have HC := Lib.hid (And.intro hIs (And.intro hOk (And.intro hSt hl)))
      clear hIs hOk hSt hl hP
      have bP : BoxA ((wr.alloc (.cells #[.int .i64 0, .int .i64 0, .int .i64 0, .nilFunc] 57)).setRow wr.heap.size #[.int .i64 f, .int .i64 l, .int .i64 n, .func (.func g) #[] #[]]) wr.heap.size 57 #[.int .i64 f, .int .i64 l, .int .i64 n, .func (.func g) #[] #[]] := (BoxA.new wr _ _).setRow
      have hJ5 := HJr.out.next (below_setRow ((Below.refl _ wr).alloc (Nat.le_refl _) (.cells #[.int .i64 0, .int .i64 0, .int .i64 0, .nilFunc] 57)) (Nat.le_refl _) #[.int .i64 f, .int .i64 l, .int .i64 n, .func (.func g) #[] #[]])
      obtain ⟨W5, hW5⟩ : ∃ W5, ((wr.alloc (.cells #[.int .i64 0, .int .i64 0, .int .i64 0, .nilFunc] 57)).setRow wr.heap.size #[.int .i64 f, .int .i64 l, .int .i64 n, .func (.func g) #[] #[]]) = W5 := ⟨_, rfl⟩
      rw [hW5] at bP hJ5
      have HP5 := Lib.hid bP
      have HJ5 := Lib.hid hJ5
      have HE := Lib.hid fun (W : World) => end_any f l n g W (by have := HPr.out.sum; have := HPr.out.qh.1; omega) (by have := HPr.out.sum; have := HPr.out.qh.2; omega)
      have HOF : Hid (of (f + l) = hi) := by show _ = _; rw [HPr.out.sum]; exact of_id HPr.out.qh
      have HPT := Lib.hid fun (W : World) (hJ : CJ w u T W) => HDO.out W (.agg #[.slice p1 q1 r1, .slice p2 q2 r2]) L f hi n (HPr.out.pr W hJ.hR) HPr.out.ok HPr.out.qf HPr.out.qh HPr.out.qn
      unfold prtC at HE
      have hk4' : (k : Int) < 4 := by omega
      clear bP hJ5
      go_wp2_with (refine wpList_store_row rfl _ _ _ rfl wr.heap.size #[.int .i64 f, .int .i64 l, .int .i64 n, .func (.func g) #[] #[]] rfl rfl _ _ (World.alloc_heap_new wr _) (by kernel_rfl) rfl (by kernel_rfl) ?_; rw [hW5])
      clear hW5 hix
      have kp0 := HP5.out.cell 0 (.int .i64 f); have kp1 := HP5.out.cell 1 (.int .i64 l); have kp2 := HP5.out.cell 2 (.int .i64 n); have kp3 := HP5.out.cell 3 (.func (.func g) #[] #[]); have kr0 := HJ5.out.bR.cell o (.slice p1 q1 r1) HPr.out.c1; have kr1 := HJ5.out.bR.cell (o + 1) (.slice p2 q2 r2) HPr.out.c2
      go_region_held3 (fun W => W.cell? ⟨wr.heap.size, 0, none⟩ = some (.int .i64 f) ∧ W.cell? ⟨wr.heap.size, 1, none⟩ = some (.int .i64 l) ∧ W.cell? ⟨wr.heap.size, 2, none⟩ = some (.int .i64 n) ∧ W.cell? ⟨wr.heap.size, 3, none⟩ = some (.func (.func g) #[] #[]) ∧ W.cell? ⟨w.heap.size, o, none⟩ = some (.slice p1 q1 r1) ∧ W.cell? ⟨w.heap.size, o + 1, none⟩ = some (.slice p2 q2 r2)) (go_keep) (first
        | (go_at_call 20; refine (HE.out _).mono ?_; rintro e w6 ⟨rfl, hb6⟩; (first | (have J6 := HJ5.out.drew.next hb6; have P6 := BoxA.next hb6 HP5.out.drew; have kp0 := P6.cell 0 (.int .i64 f); have kp1 := P6.cell 1 (.int .i64 l); have kp2 := P6.cell 2 (.int .i64 n); have kp3 := P6.cell 3 (.func (.func g) #[] #[]); have kr0 := J6.bR.cell o (.slice p1 q1 r1) HPr.out.c1; have kr1 := J6.bR.cell (o + 1) (.slice p2 q2 r2) HPr.out.c2; have HJ6 := Lib.hid J6; have HP6 := Lib.hid P6; clear J6 P6 hb6) | (have J6 := (HJ5.out.alloc (.cells #[.slice none 0 0, .slice none 0 0] 24)).drew.next hb6; have P6 := BoxA.next hb6 (HP5.out.alloc (.cells #[.slice none 0 0, .slice none 0 0] 24)).drew; have Z6 := BoxA.next hb6 (BoxA.new W5 24 #[.slice none 0 0, .slice none 0 0]).drew; have kp0 := P6.cell 0 (.int .i64 f); have kp1 := P6.cell 1 (.int .i64 l); have kp2 := P6.cell 2 (.int .i64 n); have kp3 := P6.cell 3 (.func (.func g) #[] #[]); have kr0 := J6.bR.cell o (.slice p1 q1 r1) HPr.out.c1; have kr1 := J6.bR.cell (o + 1) (.slice p2 q2 r2) HPr.out.c2; have z0 := Z6.cell 0 (.slice none 0 0); have z1 := Z6.cell 1 (.slice none 0 0); have zf0 := Z6.free 0; have zf1 := Z6.free 1; have HZ := Lib.hid Z6; have zn1 : W5.heap.size ≠ wr.heap.size := (by have h : wr.heap.size < W5.heap.size := HP5.out.lt; omega); have zn2 : W5.heap.size ≠ w.heap.size := (by have h : w.heap.size < W5.heap.size := HJ5.out.bR.lt; omega); have zn3 : wr.heap.size ≠ W5.heap.size := zn1.symm; have zn4 : w.heap.size ≠ W5.heap.size := zn2.symm; have HJ6 := Lib.hid J6; have HP6 := Lib.hid P6; clear J6 P6 Z6 hb6)))
        | (go_at_call 38; refine (of_any _ _).mono ?_; rintro e w8 ⟨rfl, rfl⟩; rw [HOF.out])
        | ((with_reducible refine (HPr.out.of _ _).mono ?_); rintro e w5 ⟨rfl, rfl⟩)
        | ((with_reducible refine (HPT.out _ (by first | exact HJ6.out | exact HJ6.out.alloc _)).mono ?_); rintro e w7 ⟨c, M, a1, n1, c1, a2, n2, c2, rfl, hres, o1, o2, hb7⟩; obtain ⟨rfl, hT, hM, hMl⟩ := Res.good hres HPr.out.len HPr.out.good; clear hres; (first | (have J7 := HJ6.out.next hb7; have P7 := BoxA.next hb7 HP6.out; have kp0 := P7.cell 0 (.int .i64 f); have kp1 := P7.cell 1 (.int .i64 l); have kp2 := P7.cell 2 (.int .i64 n); have kp3 := P7.cell 3 (.func (.func g) #[] #[]); have kr0 := J7.bR.cell o (.slice p1 q1 r1) HPr.out.c1; have kr1 := J7.bR.cell (o + 1) (.slice p2 q2 r2) HPr.out.c2; (try (have Z7 := BoxA.next hb7 HZ.out; have z0 := Z7.cell 0 (.slice none 0 0); have z1 := Z7.cell 1 (.slice none 0 0); have zf0 := Z7.free 0; have zf1 := Z7.free 1; have HZ := Lib.hid Z7; clear Z7)); have HJ7 := Lib.hid J7; have HP7 := Lib.hid P7; clear J7 P7 hb7) | (have J7 := (HJ6.out.alloc (.cells #[.slice none 0 0, .slice none 0 0] 24)).next hb7; have P7 := BoxA.next hb7 (HP6.out.alloc (.cells #[.slice none 0 0, .slice none 0 0] 24)); have Z7 := BoxA.next hb7 (BoxA.new _ 24 #[.slice none 0 0, .slice none 0 0]); have kp0 := P7.cell 0 (.int .i64 f); have kp1 := P7.cell 1 (.int .i64 l); have kp2 := P7.cell 2 (.int .i64 n); have kp3 := P7.cell 3 (.func (.func g) #[] #[]); have kr0 := J7.bR.cell o (.slice p1 q1 r1) HPr.out.c1; have kr1 := J7.bR.cell (o + 1) (.slice p2 q2 r2) HPr.out.c2; have z0 := Z7.cell 0 (.slice none 0 0); have z1 := Z7.cell 1 (.slice none 0 0); have zf0 := Z7.free 0; have zf1 := Z7.free 1; have HZ := Lib.hid Z7; have zn1 : w6.heap.size ≠ wr.heap.size := (by have h : wr.heap.size < w6.heap.size := HP6.out.lt; omega); have zn2 : w6.heap.size ≠ w.heap.size := (by have h : w.heap.size < w6.heap.size := HJ6.out.bR.lt; omega); have zn3 : wr.heap.size ≠ w6.heap.size := zn1.symm; have zn4 : w.heap.size ≠ w6.heap.size := zn2.symm; have HJ7 := Lib.hid J7; have HP7 := Lib.hid P7; clear J7 P7 Z7 hb7))))
      all_goals
        have I1 := o1.ints (by rw [List.length_map]; have := hM.le; unfold maxLen; omega)
        have I2 := o2.ints (by rw [List.length_map]; have := hM.le; unfold maxLen; omega)
        first
        | (generalize hX : World.setCell (World.setCell w7 ⟨W5.heap.size, 0, none⟩ (.slice a1 n1 c1)) ⟨W5.heap.size, 1, none⟩ (.slice a2 n2 c2) = X
           refine (?_ : Exit.then _ _ Exit.normal _ X)
           have hB3 : w.heap.size + 3 < W5.heap.size := (by have h : w.heap.size + 1 + 1 + 1 < W5.heap.size := HJ5.out.bO.lt; omega)
           have hB4 : wr.heap.size < W5.heap.size := HP5.out.lt
           have J9 : CJ w u T X := (by rw [← hX]; exact (HJ7.out.setZ HZ.out (sl_two _ _ _ _ _ _) hB3 0 _).setZ (HZ.out.set 0 (.slice a1 n1 c1)) (sl_two _ _ _ _ _ _) hB3 1 _)
           have P9 : BoxA X wr.heap.size 57 #[.int .i64 f, .int .i64 l, .int .i64 n, .func (.func g) #[] #[]] := (by rw [← hX]; exact (HP7.out.other (by omega) 0 _).other (by omega) 1 _)
           have Z9 : BoxA X W5.heap.size 24 #[.slice a1 n1 c1, .slice a2 n2 c2] := (by rw [← hX]; exact (HZ.out.set 0 (.slice a1 n1 c1)).set 1 (.slice a2 n2 c2))
           have K1 : Ints X (.slice a1 n1 c1) (M.map Prod.fst) := (by rw [← hX]; exact (I1.setN (noInt_box HZ.out (sl_two _ _ _ _ _ _)) 0 _).setN (noInt_box (HZ.out.set 0 (.slice a1 n1 c1)) (sl_two _ _ _ _ _ _)) 1 _)
           have K2 : Ints X (.slice a2 n2 c2) (M.map Prod.snd) := (by rw [← hX]; exact (I2.setN (noInt_box HZ.out (sl_two _ _ _ _ _ _)) 0 _).setN (noInt_box (HZ.out.set 0 (.slice a1 n1 c1)) (sl_two _ _ _ _ _ _)) 1 _)
           clear hX zn1 zn2 zn3 zn4 z0 z1 zf0 zf1 HZ
           generalize W5.heap.size = B at *)
        | (generalize hX : World.setCell (World.setCell w7 ⟨w6.heap.size, 0, none⟩ (.slice a1 n1 c1)) ⟨w6.heap.size, 1, none⟩ (.slice a2 n2 c2) = X
           refine (?_ : Exit.then _ _ Exit.normal _ X)
           have hB3 : w.heap.size + 3 < w6.heap.size := (by have h : w.heap.size + 1 + 1 + 1 < w6.heap.size := HJ6.out.bO.lt; omega)
           have hB4 : wr.heap.size < w6.heap.size := HP6.out.lt
           have J9 : CJ w u T X := (by rw [← hX]; exact (HJ7.out.setZ HZ.out (sl_two _ _ _ _ _ _) hB3 0 _).setZ (HZ.out.set 0 (.slice a1 n1 c1)) (sl_two _ _ _ _ _ _) hB3 1 _)
           have P9 : BoxA X wr.heap.size 57 #[.int .i64 f, .int .i64 l, .int .i64 n, .func (.func g) #[] #[]] := (by rw [← hX]; exact (HP7.out.other (by omega) 0 _).other (by omega) 1 _)
           have Z9 : BoxA X w6.heap.size 24 #[.slice a1 n1 c1, .slice a2 n2 c2] := (by rw [← hX]; exact (HZ.out.set 0 (.slice a1 n1 c1)).set 1 (.slice a2 n2 c2))
           have K1 : Ints X (.slice a1 n1 c1) (M.map Prod.fst) := (by rw [← hX]; exact (I1.setN (noInt_box HZ.out (sl_two _ _ _ _ _ _)) 0 _).setN (noInt_box (HZ.out.set 0 (.slice a1 n1 c1)) (sl_two _ _ _ _ _ _)) 1 _)
           have K2 : Ints X (.slice a2 n2 c2) (M.map Prod.snd) := (by rw [← hX]; exact (I2.setN (noInt_box HZ.out (sl_two _ _ _ _ _ _)) 0 _).setN (noInt_box (HZ.out.set 0 (.slice a1 n1 c1)) (sl_two _ _ _ _ _ _)) 1 _)
           clear hX zn1 zn2 zn3 zn4 z0 z1 zf0 zf1 HZ
           generalize w6.heap.size = B at *)
        | (generalize hX : World.alloc w7 (.cells #[.slice a1 n1 c1, .slice a2 n2 c2] 24) = X
           refine (?_ : Exit.then _ _ Exit.normal _ X)
           have hB3 : w.heap.size + 3 < w7.heap.size := (by have h : w.heap.size + 1 + 1 + 1 < w7.heap.size := HJ7.out.bO.lt; omega)
           have hB4 : wr.heap.size < w7.heap.size := HP7.out.lt
           have J9 : CJ w u T X := (by rw [← hX]; exact HJ7.out.alloc _)
           have P9 : BoxA X wr.heap.size 57 #[.int .i64 f, .int .i64 l, .int .i64 n, .func (.func g) #[] #[]] := (by rw [← hX]; exact HP7.out.alloc _)
           have Z9 : BoxA X w7.heap.size 24 #[.slice a1 n1 c1, .slice a2 n2 c2] := (by rw [← hX]; exact BoxA.new w7 _ _)
           have K1 : Ints X (.slice a1 n1 c1) (M.map Prod.fst) := (by rw [← hX]; exact I1.alloc _)
           have K2 : Ints X (.slice a2 n2 c2) (M.map Prod.snd) := (by rw [← hX]; exact I2.alloc _)
           clear hX
           generalize w7.heap.size = B at *)
        have kp3 := P9.cell 3 (.func (.func g) #[] #[])
        have kz0 := Z9.cell 0 (.slice a1 n1 c1)
        have kz1 := Z9.cell 1 (.slice a2 n2 c2)
        obtain ⟨u', T', y', hu, hT', hy', hS', hl', hnx⟩ := HPr.out.next M a1 n1 c1 a2 n2 c2 hT hM hMl
        have HN := Lib.hid (And.intro hu (And.intro hT' (And.intro hy' (And.intro hS' (And.intro hl' hnx)))))
        clear hu hT' hy' hS' hl' hnx I1 I2 o1 o2 hT hM hMl HJ7 HP7
        have zb1 : wr.heap.size ≠ B := by omega
        have zb2 : B ≠ wr.heap.size := by omega
        have zb3 : w.heap.size ≠ B := by omega
        have zb4 : B ≠ w.heap.size := by omega
        have zb5 : w.heap.size ≠ wr.heap.size := by have := HJr.out.bR.lt; omega
        have zb6 : wr.heap.size ≠ w.heap.size := zb5.symm
        have kr0 := J9.bR.cell o (.slice p1 q1 r1) HPr.out.c1
        have kr1 := J9.bR.cell (o + 1) (.slice p2 q2 r2) HPr.out.c2
        have kf0 := J9.bR.free o
        have kf1 := J9.bR.free (o + 1)
        have HJ9 := Lib.hid J9
        have HK9 := Lib.hid (And.intro K1 K2)
        clear J9 P9 Z9 K1 K2
        go_wp2_with fail
        refine wp_region_held_drew (S := (fun W => W.cell? ⟨wr.heap.size, 3, none⟩ = some (.func (.func g) #[] #[]) ∧ W.cell? ⟨B, 0, none⟩ = some (.slice a1 n1 c1) ∧ W.cell? ⟨B, 1, none⟩ = some (.slice a2 n2 c2))) (by kernel_rfl) (by (first | (go_keep; done) | (dsimp only; go_keep))) (fun hHeld => ?_)
        refine wpAnyH_take (i := 0) (v := ?_) (ata at0) (by kernel_rfl) (by kernel_rfl) (by kernel_rfl) (fun _ _ _ h => h) (Or.inl ⟨by rfl, ?_⟩) (by assumption) ?_
        rotate_left
        · (intro w hSw; (try dsimp only at hSw); go_simp; (first | done | with_reducible rfl))
        try simp only [Act.put, List.setIfInBounds_toArray, List.set_cons_zero, List.set_cons_succ]
        refine wpAnyH_take (i := 1) (v := ?_) (ata (atS at0)) (by kernel_rfl) (by kernel_rfl) (by kernel_rfl) (fun _ _ _ h => h) (Or.inl ⟨by rfl, ?_⟩) (by assumption) ?_
        rotate_left
        · (intro w hSw; (try dsimp only at hSw); go_simp; (first | done | with_reducible rfl))
        try simp only [Act.put, List.setIfInBounds_toArray, List.set_cons_zero, List.set_cons_succ]
        refine wpAnyH_take (i := 3) (v := ?_) (ata (atS (atS (atS at0)))) (by kernel_rfl) (by kernel_rfl) (by kernel_rfl) (fun _ _ _ h => h) (Or.inl ⟨by rfl, ?_⟩) (by assumption) ?_
        rotate_left
        · (intro w hSw; (try dsimp only at hSw); go_simp; (first | done | with_reducible rfl))
        try simp only [Act.put, List.setIfInBounds_toArray, List.set_cons_zero, List.set_cons_succ]
        refine wpAnyH_ready (rs := [2]) (by kernel_rfl) (by simp) ?_
        refine AllReadyH.cons (ata (atS (atS at0))) (fun K hK => ?_) AllReadyH.nil
        go_simp
        ((with_reducible refine (HPr.out.of _ _).mono ?_); rintro e w9 ⟨rfl, rfl⟩)
        go_wp2_with fail
        refine hK.out _ _ (by (first | (go_keep; done) | (dsimp only; go_keep))) (fun hHeld => ?_)
        clear hK K
        try simp only [Act.put, List.setIfInBounds_toArray, List.set_cons_zero, List.set_cons_succ]
        refine wpAnyH_take (i := 4) (v := ?_) (ata (atS (atS (atS (atS at0))))) (by kernel_rfl) (by kernel_rfl) (by kernel_rfl) (fun _ _ _ h => h) (Or.inl ⟨by rfl, ?_⟩) (by assumption) ?_
        rotate_left
        · (intro w hSw; (try dsimp only at hSw); go_simp; (first | done | with_reducible rfl))
        try simp only [Act.put, List.setIfInBounds_toArray, List.set_cons_zero, List.set_cons_succ]
        refine wpAnyH_ready (rs := [5]) (by kernel_rfl) (by simp) ?_
        refine AllReadyH.cons (ata (atS (atS (atS (atS (atS at0)))))) (fun K hK => ?_) AllReadyH.nil
        go_simp
        refine hK.out _ _ (by (first | (go_keep; done) | (dsimp only; go_keep))) (fun hHeld => ?_)
        clear hK K
        try simp only [Act.put, List.setIfInBounds_toArray, List.set_cons_zero, List.set_cons_succ]
        refine wpAnyH_done (by kernel_rfl) ?_ _
        clear kr0 kr1 kf0 kf1 kp3 kz0 kz1
        go_wp2
        go_roundw
        case rel => exact ⟨k + 1, u', T', y', by omega, by go_num, CJ.putR HJ9.out HN.out.1 HN.out.2.2.2.2.2 HK9.out.1 HK9.out.2, HN.out.2.1, HN.out.2.2.1, HN.out.2.2.2.1, HN.out.2.2.2.2.1⟩
        case measure => simp [intOf]; omega
    · obtain rfl : k = 4 := by omega
      have HC := Lib.hid (And.intro hIs (And.intro hOk (And.intro hSt hl)))
      have r0 := HJr.out.bR.cell 0 (.slice u.p1 u.q1 u.r1)
      have r1 := HJr.out.bR.cell 1 (.slice u.p2 u.q2 u.r2)
      have r2 := HJr.out.bR.cell 2 (.slice u.p3 u.q3 u.r3)
      have r3 := HJr.out.bR.cell 3 (.slice u.p4 u.q4 u.r4)
      have r4 := HJr.out.bR.cell 4 (.slice u.p5 u.q5 u.r5)
      have r5 := HJr.out.bR.cell 5 (.slice u.p6 u.q6 u.r6)
      have b0 := HJr.out.bO.cell 0 (.slice none 0 0)
      have b1 := HJr.out.bO.cell 1 (.slice none 0 0)
      have b2 := HJr.out.bO.cell 2 (.slice none 0 0)
      have b3 := HJr.out.bO.cell 3 (.slice none 0 0)
      have b4 := HJr.out.bO.cell 4 (.slice none 0 0)
      have b5 := HJr.out.bO.cell 5 (.slice none 0 0)
      have f0 := HJr.out.bO.free 0
      have f1 := HJr.out.bO.free 1
      have f2 := HJr.out.bO.free 2
      have f3 := HJr.out.bO.free 3
      have f4 := HJr.out.bO.free 4
      have f5 := HJr.out.bO.free 5
      clear hIs hOk hSt hl hk4
      go_wp2
      have bQ := (((((HJr.out.bO.set 0 (.slice u.p1 u.q1 u.r1)).set 1 (.slice u.p2 u.q2 u.r2)).set 2 (.slice u.p3 u.q3 u.r3)).set 3 (.slice u.p4 u.q4 u.r4)).set 4 (.slice u.p5 u.q5 u.r5)).set 5 (.slice u.p6 u.q6 u.r6)
      have y0 := bQ.cell 0 (.slice u.p1 u.q1 u.r1)
      have y1 := bQ.cell 1 (.slice u.p2 u.q2 u.r2)
      have y2 := bQ.cell 2 (.slice u.p3 u.q3 u.r3)
      have y3 := bQ.cell 3 (.slice u.p4 u.q4 u.r4)
      have y4 := bQ.cell 4 (.slice u.p5 u.q5 u.r5)
      have y5 := bQ.cell 5 (.slice u.p6 u.q6 u.r6)
      refine bodyPost_ret (v := .tuple #[.agg u.c, .int .i64 0]) (by simp [results, Try.results23, go_sem, y0, y1, y2, y3, y4, y5]) rfl ⟨u, T, y, rfl, HC.out.2.2.1, HC.out.2.1, HC.out.1, ?_, ?_, by have := HC.out.2.2.2; omega, by have := HC.out.2.2.2; omega, by have := HC.out.2.2.2; omega⟩
      · exact room_six HJr.out.bO HJr.out.hR
      · exact (((((HJr.out.hB.setCell (p := ⟨w.heap.size + 1 + 1 + 1, 0, none⟩) (by simp; omega) _).setCell (p := ⟨w.heap.size + 1 + 1 + 1, 1, none⟩) (by simp; omega) _).setCell (p := ⟨w.heap.size + 1 + 1 + 1, 2, none⟩) (by simp; omega) _).setCell (p := ⟨w.heap.size + 1 + 1 + 1, 3, none⟩) (by simp; omega) _).setCell (p := ⟨w.heap.size + 1 + 1 + 1, 4, none⟩) (by simp; omega) _).setCell (p := ⟨w.heap.size + 1 + 1 + 1, 5, none⟩) (by simp; omega) _
end Go.Proofs.Ytigomdihkojdmaa.gn
