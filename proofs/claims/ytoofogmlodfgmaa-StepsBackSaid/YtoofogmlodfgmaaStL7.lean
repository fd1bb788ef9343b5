/- StepsBack: the law's walk. -/
import Derived.Test.YtoofogmlodfgmaaStL5
import Derived.Test.YtoofogmlodfgmaaStL6
namespace Go.Proofs.Ytoofogmlodfgmaa.gn
open Go.RowKit Go.Shelf
open Go.Proofs.Ytoofogmlodfgmaa.sp

set_option maxRecDepth 20000 in
set_option maxHeartbeats 16000000 in
theorem back_law (v1 v2 : Value) (a1 a2 : Option Addr) (n1 n2 c1 c2 : Nat) (at_ m : List Int) (lo hi n lo' hi' n' t : Int) (w : World) (e1 : v1 = .slice a1 n1 c1) (e2 : v2 = .slice a2 n2 c2) (hP : Prof w (.agg #[v1, v2]) at_ m) (hl1 : at_.length = n1) (hl2 : m.length = n2) :
    Calls Try.prog 4 #[.agg #[v1, v2, .int .i64 lo, .int .i64 hi, .int .i64 n, .int .i64 lo', .int .i64 hi', .int .i64 n', .int .i64 t]] w (Yes w) := by
  subst e1 e2
  go_enter Try.func4, Try.ntmps4
  obtain ⟨W0, hW0⟩ : ∃ W0, w.alloc (.cells #[.slice a1 n1 c1, .slice a2 n2 c2, .int .i64 lo, .int .i64 hi, .int .i64 n, .int .i64 lo', .int .i64 hi', .int .i64 n', .int .i64 t] 44) = W0 := ⟨_, rfl⟩
  have bW : Box9 W0 w.heap.size 44 (.slice a1 n1 c1) (.slice a2 n2 c2) (.int .i64 lo) (.int .i64 hi) (.int .i64 n) (.int .i64 lo') (.int .i64 hi') (.int .i64 n') (.int .i64 t) := by rw [← hW0]; exact Box9.new w _ _ _ _ _ _ _ _ _ _
  have hb0 : Below w.heap.size w W0 := by rw [← hW0]; exact (Below.refl _ _).alloc (Nat.le_refl _) _
  have HP0 := Lib.hid (hP.below hb0 (Nat.le_refl _))
  have HB0 := Lib.hid hb0
  have HW := Lib.hid bW
  have HE := Lib.hid hW0
  clear hP hb0 bW hW0
  go_upto_region 1 with fail
  rw [HE.out]
  clear HE
  go_cut [3, 4, 5, 6] (fun s3 s4 s5 s6 wx => BackCut w (.slice a1 n1 c1) (.slice a2 n2 c2) at_ m lo hi n lo' hi' n' t s3 s4 s5 s6 wx)
  case first =>
    obtain ⟨g0, g1, g2, g3, g4, g5, g6, g7, g8⟩ := HW.out.cell
    go_region_held3 (fun W => W.cell? ⟨w.heap.size, 0, none⟩ = some (.slice a1 n1 c1) ∧ W.cell? ⟨w.heap.size, 1, none⟩ = some (.slice a2 n2 c2) ∧ W.cell? ⟨w.heap.size, 2, none⟩ = some (.int .i64 lo) ∧ W.cell? ⟨w.heap.size, 3, none⟩ = some (.int .i64 hi) ∧ W.cell? ⟨w.heap.size, 4, none⟩ = some (.int .i64 n) ∧ W.cell? ⟨w.heap.size, 5, none⟩ = some (.int .i64 lo') ∧ W.cell? ⟨w.heap.size, 6, none⟩ = some (.int .i64 hi') ∧ W.cell? ⟨w.heap.size, 7, none⟩ = some (.int .i64 n') ∧ W.cell? ⟨w.heap.size, 8, none⟩ = some (.int .i64 t)) (simp (config := { maxDischargeDepth := 8 }) [*, World.cell?_alloc_some]) (fail)
    all_goals
      clear g0 g1 g2 g3 g4 g5 g6 g7 g8 HW
      obtain ⟨W3, hW3, h1, h2, h3, hb⟩ := al3 W0 _ _ _
      rw [hW3]
      go_wp2_with fail
      go_meet
      have hbb := HB0.out.trans (hb.mono HB0.out.size)
      have hpp := HP0.out.below hb (Nat.le_refl _)
      first
        | exact ⟨_, _, _, rfl, rfl, rfl, rfl, h1, h2, h3, hbb, hpp⟩
        | exact ⟨_, _, _, rfl, rfl, rfl, rfl, h1, h3, h2, hbb, hpp⟩
        | exact ⟨_, _, _, rfl, rfl, rfl, rfl, h2, h1, h3, hbb, hpp⟩
        | exact ⟨_, _, _, rfl, rfl, rfl, rfl, h3, h1, h2, hbb, hpp⟩
        | exact ⟨_, _, _, rfl, rfl, rfl, rfl, h2, h3, h1, hbb, hpp⟩
        | exact ⟨_, _, _, rfl, rfl, rfl, rfl, h3, h2, h1, hbb, hpp⟩
  case rest =>
    obtain ⟨g, gw, gv, rfl, rfl, rfl, rfl, S0⟩ := hcut
    have s0 := S0.bS.cell0
    have s1 := S0.bS.cell1
    have HS0 := Lib.hid S0
    clear S0 HP0 HB0 HW
    by_cases hgt : 60 < n1 ∨ 60 < n2
    · have HG := Lib.hid fun W => great_yes a1 a2 n1 n2 c1 c2 hgt W
      clear hgt
      go_wp2_with fail
      refine (HG.out _).mono ?_
      rintro e w1 ⟨rfl, hb⟩
      have HS1x := HS0.out.next hb
      have HS1 := Lib.hid HS1x
      clear hb HS1x
      go_wp2_with fail
      refine (head_any _).mono ?_
      rintro e wz ⟨rfl, hbz⟩
      have HZ := Lib.hid (HS1.out.next hbz)
      clear hbz
      go_wp2
      go_ret
      exact ⟨rfl, HZ.out.hB⟩
    · have HG := Lib.hid fun W => great_no a1 a2 n1 n2 c1 c2 (by omega) (by omega) W
      have hlen : at_.length ≤ 60 := by omega
      clear hgt
      go_wp2_with fail
      refine (HG.out _).mono ?_
      rintro e w1 ⟨rfl, hb⟩
      have HS1x := HS0.out.next hb
      have s0 := HS1x.bS.cell0
      have s1 := HS1x.bS.cell1
      have HS1 := Lib.hid HS1x
      clear hb HS1x
      by_cases hok : OkP at_ m
      · have HC := Lib.hid (chk_yes hok)
        obtain ⟨L, hL, rfl, rfl⟩ := hok
        go_wp2_with fail
        refine (check_any HS1.out.hP).mono ?_
        rintro e w2 ⟨rfl, hb⟩
        rw [HC.out]
        have HS2x := HS1.out.next hb
        have t0 := HS2x.bW.cell0
        have t1 := HS2x.bW.cell1
        have t2 := HS2x.bW.cell2
        have HS2 := Lib.hid HS2x
        clear hb HS2x
        by_cases hf : Q lo ∧ Q hi ∧ Q n
        · have HF := Lib.hid (fine_yes hf.1 hf.2.1 hf.2.2)
          go_wp2_with fail
          refine (fine_any _ _ _ _).mono ?_
          rintro e w3 ⟨rfl, hb⟩
          rw [HF.out]
          have HS3x := HS2.out.next hb
          have r0 := HS3x.bV.cell0
          have r1 := HS3x.bV.cell1
          have r2 := HS3x.bV.cell2
          have HS3 := Lib.hid HS3x
          clear hb HS3x
          by_cases hf' : Q lo' ∧ Q hi' ∧ Q n'
          · have HF' := Lib.hid (fine_yes hf'.1 hf'.2.1 hf'.2.2)
            go_wp2_with fail
            refine (fine_any _ _ _ _).mono ?_
            rintro e w4 ⟨rfl, hb⟩
            rw [HF'.out]
            have HS4x := HS3.out.next hb
            have s0 := HS4x.bS.cell0
            have s1 := HS4x.bS.cell1
            have t0 := HS4x.bW.cell0
            have t1 := HS4x.bW.cell1
            have t2 := HS4x.bW.cell2
            have r0 := HS4x.bV.cell0
            have r1 := HS4x.bV.cell1
            have r2 := HS4x.bV.cell2
            have HS4 := Lib.hid HS4x
            clear hb HS4x
            by_cases ht : Q t
            · have HT := Lib.hid (qb_yes ht)
              rw [List.length_map] at hlen
              have HQ := Lib.hid (And.intro hf (And.intro hf' (And.intro ht (And.intro hL hlen))))
              clear hf hf' ht hL hlen
              go_wp2_with fail
              refine (quantity_any _ _).mono ?_
              rintro e w5 ⟨rfl, rfl⟩
              rw [HT.out]
              go_wp2_with fail
              refine (take_yes HS4.out.hP HQ.out.2.2.2.1 HQ.out.1.1 HQ.out.1.2.1 HQ.out.1.2.2).mono ?_
              rintro e w6 ⟨c, M, a3, n3, c3, a4, n4, c4, rfl, hres, o1, o2, hb6⟩
              have S6 := HS4.out.next hb6
              have hLl := HQ.out.2.2.2.2
              rcases hres.small (show L.length ≤ 1998 by omega) with ⟨rfl, hT, hM, hMl⟩ | ⟨rfl, rfl, hbad⟩
              · have hbx := Bx.new o1 o2 hM
                have s0 := S6.bS.cell0
                have s1 := S6.bS.cell1
                have t0 := S6.bW.cell0
                have t1 := S6.bW.cell1
                have t2 := S6.bW.cell2
                have ls := S6.bS.lt
                have lw := S6.bW.lt
                have HS6 := Lib.hid (S6.alloc (.cells #[.slice a3 n3 c3, .slice a4 n4 c4] 24))
                have HA := Lib.hid hbx
                have HM := Lib.hid (And.intro hT (And.intro hM hMl))
                clear hres o1 o2 hb6 S6 hT hM hMl hLl hbx
                go_wp2_with fail
                refine (give_yes HA.out.p HM.out.2.1 HQ.out.1.1 HQ.out.1.2.1 HQ.out.1.2.2).mono ?_
                rintro e w7 ⟨c', M', a5, n5, c5, a6, n6, c6, rfl, hres, o1, o2, hb7⟩
                have hLl := HQ.out.2.2.2.2
                have hMl := HM.out.2.2
                obtain ⟨rfl, hT', hM', hMl'⟩ := hres.good (by omega) (give_good HQ.out.2.2.2.1 HM.out.1)
                have S7 := HS6.out.next hb7
                have A7 := HA.out.next hb7
                have B7 := Bx.new o1 o2 hM'
                have HSm := Lib.hid (give_same HM.out.1 hT')
                have s0 := S7.bS.cell0
                have s1 := S7.bS.cell1
                have t0 := S7.bW.cell0
                have t1 := S7.bW.cell1
                have t2 := S7.bW.cell2
                have x0 := A7.b.cell0
                have x1 := A7.b.cell1
                have ls := S7.bS.lt
                have lw := S7.bW.lt
                have lx := A7.b.lt
                have HS7 := Lib.hid (S7.alloc (.cells #[.slice a5 n5 c5, .slice a6 n6 c6] 24))
                have HA7 := Lib.hid (A7.alloc (.cells #[.slice a5 n5 c5, .slice a6 n6 c6] 24))
                have HB7 := Lib.hid B7
                have HM' := Lib.hid (And.intro hM' hMl')
                clear hres o1 o2 hb7 S7 A7 B7 hT' hM' hMl' hLl hMl
                go_wp2_with fail
                generalize w6.heap.size = ga at *
                generalize w7.heap.size = gb at *
                go_cut [114] (fun s114 wx => s114 = .bool false ∧ SB w (.slice a1 n1 c1) (.slice a2 n2 c2) (L.map Prod.fst) (L.map Prod.snd) lo hi n lo' hi' n' g gw gv wx ∧ Bx (.slice a3 n3 c3) (.slice a4 n4 c4) M ga wx)
                case first =>
                  clear s0 s1 t0 t1 t2 x0 x1 ls lw lx
                  have HLe := Lib.hid (fun h => turned_least HQ.out.2.2.2.1 HM.out.1 HM.out.2.1 HQ.out.1.1 HQ.out.1.2.1 h)
                  generalize hl : lst L lo hi = l1 at *
                  have HL := Lib.hid hl
                  clear hl
                  have b0 := HB7.out.b.cell0
                  have b1 := HB7.out.b.cell1
                  have s0 := HS7.out.bS.cell0
                  have s1 := HS7.out.bS.cell1
                  have t0 := HS7.out.bW.cell0
                  have t1 := HS7.out.bW.cell1
                  have t2 := HS7.out.bW.cell2
                  have HS7d := Lib.hid HS7.out.drew
                  have HA7d := Lib.hid HA7.out.drew
                  have HB7d := Lib.hid HB7.out.drew
                  generalize hW7 : w7.alloc (.cells #[.slice a5 n5 c5, .slice a6 n6 c6] 24) = W7 at *
                  clear hW7
                  by_cases hlt : l1 < n
                  · have d1 : decide (l1 < n) = true := decide_eq_true hlt
                    have d2 : decide (lo < hi) = false := decide_eq_false fun h => by have := HLe.out h; omega
                    clear hlt
                    go_region_held3 (fun W => W.cell? ⟨gb, 0, none⟩ = some (.slice a5 n5 c5) ∧ W.cell? ⟨gb, 1, none⟩ = some (.slice a6 n6 c6) ∧ W.cell? ⟨g, 0, none⟩ = some (.slice a1 n1 c1) ∧ W.cell? ⟨g, 1, none⟩ = some (.slice a2 n2 c2) ∧ W.cell? ⟨gw, 0, none⟩ = some (.int .i64 lo) ∧ W.cell? ⟨gw, 1, none⟩ = some (.int .i64 hi) ∧ W.cell? ⟨gw, 2, none⟩ = some (.int .i64 n)) (go_keep)
                      (first
                        | (go_at_call 20; ((with_reducible refine (same_yes HB7d.out.p HS7d.out.hP HM'.out.1 HQ.out.2.2.2.1 (by have := HM'.out.2; have := HM.out.2.2; have := HQ.out.2.2.2.2; omega) (by have := HQ.out.2.2.2.2; omega)).mono ?_); rintro e w8 ⟨rfl, hb8⟩; rw [HSm.out]; have S8 := HS7d.out.next hb8; have A8 := HA7d.out.next hb8; have B8 := HB7d.out.next hb8; have s0 := S8.bS.cell0; have s1 := S8.bS.cell1; have t0 := S8.bW.cell0; have t1 := S8.bW.cell1; have t2 := S8.bW.cell2; have b0 := B8.b.cell0; have b1 := B8.b.cell1; have HS8 := Lib.hid S8; have HA8 := Lib.hid A8; have HB8 := Lib.hid B8; clear hb8 S8 A8 B8))
                        | (go_at_call 19; ((with_reducible refine (leastf_yes HS8.out.hP HQ.out.2.2.2.1 HQ.out.1.1 HQ.out.1.2.1).mono ?_); rintro e w9 ⟨rfl, hb9⟩; rw [HL.out]; have S9 := HS8.out.next hb9; have A9 := HA8.out.next hb9; have B9 := HB8.out.next hb9; have s0 := S9.bS.cell0; have s1 := S9.bS.cell1; have t0 := S9.bW.cell0; have t1 := S9.bW.cell1; have t2 := S9.bW.cell2; have b0 := B9.b.cell0; have b1 := B9.b.cell1; have HS9 := Lib.hid S9; have HA9 := Lib.hid A9; clear hb9 S9 A9 B9)))
                    all_goals
                      go_wp2_with fail
                      go_meet
                      exact ⟨rfl, HS9.out, HA9.out⟩
                  · have d1 : decide (l1 < n) = false := decide_eq_false hlt
                    clear hlt
                    refine wp_region_held_drew (S := (fun W => W.cell? ⟨gb, 0, none⟩ = some (.slice a5 n5 c5) ∧ W.cell? ⟨gb, 1, none⟩ = some (.slice a6 n6 c6) ∧ W.cell? ⟨g, 0, none⟩ = some (.slice a1 n1 c1) ∧ W.cell? ⟨g, 1, none⟩ = some (.slice a2 n2 c2) ∧ W.cell? ⟨gw, 0, none⟩ = some (.int .i64 lo) ∧ W.cell? ⟨gw, 1, none⟩ = some (.int .i64 hi) ∧ W.cell? ⟨gw, 2, none⟩ = some (.int .i64 n))) (by kernel_rfl) (by first | (go_keep; done) | (dsimp only; go_keep)) (fun hHeld => ?_)
                    refine wpAnyH_take (i := 0) (v := ?_) (ata at0) (by kernel_rfl) (by kernel_rfl) (by kernel_rfl) (fun _ _ _ h => h) (Or.inl ⟨by rfl, ?_⟩) (by assumption) ?_
                    rotate_left
                    · (intro w hSw; (try dsimp only at hSw); go_simp; (first | done | with_reducible rfl))
                    try simp only [Act.put, List.setIfInBounds_toArray, List.set_cons_zero, List.set_cons_succ]
                    refine wpAnyH_take (i := 1) (v := ?_) (ata (atS at0)) (by kernel_rfl) (by kernel_rfl) (by kernel_rfl) (fun _ _ _ h => h) (Or.inl ⟨by rfl, ?_⟩) (by assumption) ?_
                    rotate_left
                    · (intro w hSw; (try dsimp only at hSw); go_simp; (first | done | with_reducible rfl))
                    try simp only [Act.put, List.setIfInBounds_toArray, List.set_cons_zero, List.set_cons_succ]
                    refine wpAnyH_take (i := 2) (v := ?_) (ata (atS (atS at0))) (by kernel_rfl) (by kernel_rfl) (by kernel_rfl) (fun _ _ _ h => h) (Or.inl ⟨by rfl, ?_⟩) (by assumption) ?_
                    rotate_left
                    · (intro w hSw; (try dsimp only at hSw); go_simp; (first | done | with_reducible rfl))
                    try simp only [Act.put, List.setIfInBounds_toArray, List.set_cons_zero, List.set_cons_succ]
                    refine wpAnyH_take (i := 3) (v := ?_) (ata (atS (atS (atS at0)))) (by kernel_rfl) (by kernel_rfl) (by kernel_rfl) (fun _ _ _ h => h) (Or.inl ⟨by rfl, ?_⟩) (by assumption) ?_
                    rotate_left
                    · (intro w hSw; (try dsimp only at hSw); go_simp; (first | done | with_reducible rfl))
                    try simp only [Act.put, List.setIfInBounds_toArray, List.set_cons_zero, List.set_cons_succ]
                    refine wpAnyH_take (i := 4) (v := ?_) (ata (atS (atS (atS (atS at0))))) (by kernel_rfl) (by kernel_rfl) (by kernel_rfl) (fun _ _ _ h => h) (Or.inl ⟨by rfl, ?_⟩) (by assumption) ?_
                    rotate_left
                    · (intro w hSw; (try dsimp only at hSw); go_simp; (first | done | with_reducible rfl))
                    try simp only [Act.put, List.setIfInBounds_toArray, List.set_cons_zero, List.set_cons_succ]
                    refine wpAnyH_ready (rs := [5]) (by kernel_rfl) (by simp) ?_
                    refine AllReadyH.cons (ata (atS (atS (atS (atS (atS at0)))))) (fun K hK => ?_) AllReadyH.nil
                    go_simp
                    (go_at_call 20; ((with_reducible refine (same_yes HB7d.out.p HS7d.out.hP HM'.out.1 HQ.out.2.2.2.1 (by have := HM'.out.2; have := HM.out.2.2; have := HQ.out.2.2.2.2; omega) (by have := HQ.out.2.2.2.2; omega)).mono ?_); rintro e w8 ⟨rfl, hb8⟩; rw [HSm.out]; have S8 := HS7d.out.next hb8; have A8 := HA7d.out.next hb8; have B8 := HB7d.out.next hb8; have s0 := S8.bS.cell0; have s1 := S8.bS.cell1; have t0 := S8.bW.cell0; have t1 := S8.bW.cell1; have t2 := S8.bW.cell2; have b0 := B8.b.cell0; have b1 := B8.b.cell1; have HS8 := Lib.hid S8; have HA8 := Lib.hid A8; have HB8 := Lib.hid B8; clear hb8 S8 A8 B8))
                    go_wp2_with fail
                    refine hK.out _ _ (by first | (go_keep; done) | (dsimp only; go_keep)) (fun hHeld => ?_)
                    clear hK K
                    try simp only [Act.put, List.setIfInBounds_toArray, List.set_cons_zero, List.set_cons_succ]
                    refine wpAnyH_take (i := 6) (v := ?_) (ata (atS (atS (atS (atS (atS (atS at0))))))) (by kernel_rfl) (by kernel_rfl) (by kernel_rfl) (fun _ _ _ h => h) (Or.inl ⟨by rfl, ?_⟩) (by assumption) ?_
                    rotate_left
                    · (intro w hSw; (try dsimp only at hSw); go_simp; (first | done | with_reducible rfl))
                    try simp only [Act.put, List.setIfInBounds_toArray, List.set_cons_zero, List.set_cons_succ]
                    refine wpAnyH_take (i := 7) (v := ?_) (ata (atS (atS (atS (atS (atS (atS (atS at0)))))))) (by kernel_rfl) (by kernel_rfl) (by kernel_rfl) (fun _ _ _ h => h) (Or.inl ⟨by rfl, ?_⟩) (by assumption) ?_
                    rotate_left
                    · (intro w hSw; (try dsimp only at hSw); go_simp; (first | done | with_reducible rfl))
                    try simp only [Act.put, List.setIfInBounds_toArray, List.set_cons_zero, List.set_cons_succ]
                    refine wpAnyH_take (i := 8) (v := ?_) (ata (atS (atS (atS (atS (atS (atS (atS (atS at0))))))))) (by kernel_rfl) (by kernel_rfl) (by kernel_rfl) (fun _ _ _ h => h) (Or.inl ⟨by rfl, ?_⟩) (by assumption) ?_
                    rotate_left
                    · (intro w hSw; (try dsimp only at hSw); go_simp; (first | done | with_reducible rfl))
                    try simp only [Act.put, List.setIfInBounds_toArray, List.set_cons_zero, List.set_cons_succ]
                    refine wpAnyH_take (i := 9) (v := ?_) (ata (atS (atS (atS (atS (atS (atS (atS (atS (atS at0)))))))))) (by kernel_rfl) (by kernel_rfl) (by kernel_rfl) (fun _ _ _ h => h) (Or.inl ⟨by rfl, ?_⟩) (by assumption) ?_
                    rotate_left
                    · (intro w hSw; (try dsimp only at hSw); go_simp; (first | done | with_reducible rfl))
                    try simp only [Act.put, List.setIfInBounds_toArray, List.set_cons_zero, List.set_cons_succ]
                    refine wpAnyH_take (i := 10) (v := ?_) (ata (atS (atS (atS (atS (atS (atS (atS (atS (atS (atS at0))))))))))) (by kernel_rfl) (by kernel_rfl) (by kernel_rfl) (fun _ _ _ h => h) (Or.inl ⟨by rfl, ?_⟩) (by assumption) ?_
                    rotate_left
                    · (intro w hSw; (try dsimp only at hSw); go_simp; (first | done | with_reducible rfl))
                    try simp only [Act.put, List.setIfInBounds_toArray, List.set_cons_zero, List.set_cons_succ]
                    refine wpAnyH_take (i := 11) (v := ?_) (ata (atS (atS (atS (atS (atS (atS (atS (atS (atS (atS (atS at0)))))))))))) (by kernel_rfl) (by kernel_rfl) (by kernel_rfl) (fun _ _ _ h => h) (Or.inl ⟨by rfl, ?_⟩) (by assumption) ?_
                    rotate_left
                    · (intro w hSw; (try dsimp only at hSw); go_simp; (first | done | with_reducible rfl))
                    try simp only [Act.put, List.setIfInBounds_toArray, List.set_cons_zero, List.set_cons_succ]
                    refine wpAnyH_take (i := 12) (v := ?_) (ata (atS (atS (atS (atS (atS (atS (atS (atS (atS (atS (atS (atS at0))))))))))))) (by kernel_rfl) (by kernel_rfl) (by kernel_rfl) (fun _ _ _ h => h) (Or.inl ⟨by rfl, ?_⟩) (by assumption) ?_
                    rotate_left
                    · (intro w hSw; (try dsimp only at hSw); go_simp; (first | done | with_reducible rfl))
                    try simp only [Act.put, List.setIfInBounds_toArray, List.set_cons_zero, List.set_cons_succ]
                    refine wpAnyH_take (i := 13) (v := ?_) (ata (atS (atS (atS (atS (atS (atS (atS (atS (atS (atS (atS (atS (atS at0)))))))))))))) (by kernel_rfl) (by kernel_rfl) (by kernel_rfl) (fun _ _ _ h => h) (Or.inl ⟨by rfl, ?_⟩) (by assumption) ?_
                    rotate_left
                    · (intro w hSw; (try dsimp only at hSw); go_simp; (first | done | with_reducible rfl))
                    try simp only [Act.put, List.setIfInBounds_toArray, List.set_cons_zero, List.set_cons_succ]
                    refine wpAnyH_take (i := 15) (v := ?_) (ata (atS (atS (atS (atS (atS (atS (atS (atS (atS (atS (atS (atS (atS (atS (atS at0)))))))))))))))) (by kernel_rfl) (by kernel_rfl) (by kernel_rfl) (fun _ _ _ h => h) (Or.inl ⟨by rfl, ?_⟩) (by assumption) ?_
                    rotate_left
                    · (intro w hSw; (try dsimp only at hSw); go_simp; (first | done | with_reducible rfl))
                    try simp only [Act.put, List.setIfInBounds_toArray, List.set_cons_zero, List.set_cons_succ]
                    refine wpAnyH_take (i := 16) (v := ?_) (ata (atS (atS (atS (atS (atS (atS (atS (atS (atS (atS (atS (atS (atS (atS (atS (atS at0))))))))))))))))) (by kernel_rfl) (by kernel_rfl) (by kernel_rfl) (fun _ _ _ h => h) (Or.inl ⟨by rfl, ?_⟩) (by assumption) ?_
                    rotate_left
                    · (intro w hSw; (try dsimp only at hSw); go_simp; (first | done | with_reducible rfl))
                    try simp only [Act.put, List.setIfInBounds_toArray, List.set_cons_zero, List.set_cons_succ]
                    refine wpAnyH_ready (rs := [14]) (by kernel_rfl) (by simp) ?_
                    refine AllReadyH.cons (ata (atS (atS (atS (atS (atS (atS (atS (atS (atS (atS (atS (atS (atS (atS at0))))))))))))))) (fun K hK => ?_) AllReadyH.nil
                    go_simp
                    (go_at_call 19; ((with_reducible refine (leastf_yes HS8.out.hP HQ.out.2.2.2.1 HQ.out.1.1 HQ.out.1.2.1).mono ?_); rintro e w9 ⟨rfl, hb9⟩; rw [HL.out]; have S9 := HS8.out.next hb9; have A9 := HA8.out.next hb9; have B9 := HB8.out.next hb9; have s0 := S9.bS.cell0; have s1 := S9.bS.cell1; have t0 := S9.bW.cell0; have t1 := S9.bW.cell1; have t2 := S9.bW.cell2; have b0 := B9.b.cell0; have b1 := B9.b.cell1; have HS9 := Lib.hid S9; have HA9 := Lib.hid A9; clear hb9 S9 A9 B9))
                    go_wp2_with fail
                    refine hK.out _ _ (by first | (go_keep; done) | (dsimp only; go_keep)) (fun hHeld => ?_)
                    clear hK K
                    try simp only [Act.put, List.setIfInBounds_toArray, List.set_cons_zero, List.set_cons_succ]
                    refine wpAnyH_take (i := 17) (v := ?_) (ata (atS (atS (atS (atS (atS (atS (atS (atS (atS (atS (atS (atS (atS (atS (atS (atS (atS at0)))))))))))))))))) (by kernel_rfl) (by kernel_rfl) (by kernel_rfl) (fun _ _ _ h => h) (Or.inl ⟨by rfl, ?_⟩) (by assumption) ?_
                    rotate_left
                    · (intro w hSw; (try dsimp only at hSw); go_simp; (first | done | with_reducible rfl))
                    try simp only [Act.put, List.setIfInBounds_toArray, List.set_cons_zero, List.set_cons_succ]
                    refine wpAnyH_take (i := 18) (v := ?_) (ata (atS (atS (atS (atS (atS (atS (atS (atS (atS (atS (atS (atS (atS (atS (atS (atS (atS (atS at0))))))))))))))))))) (by kernel_rfl) (by kernel_rfl) (by kernel_rfl) (fun _ _ _ h => h) (Or.inl ⟨by rfl, ?_⟩) (by assumption) ?_
                    rotate_left
                    · (intro w hSw; (try dsimp only at hSw); go_simp; (first | done | with_reducible rfl))
                    try simp only [Act.put, List.setIfInBounds_toArray, List.set_cons_zero, List.set_cons_succ]
                    refine wpAnyH_take (i := 19) (v := undef) (ata (atS (atS (atS (atS (atS (atS (atS (atS (atS (atS (atS (atS (atS (atS (atS (atS (atS (atS (atS at0)))))))))))))))))))) (by kernel_rfl) (by kernel_rfl) (by kernel_rfl) (fun _ _ _ h => h) (Or.inr ⟨by rfl, rfl⟩) (by assumption) ?_
                    try simp only [Act.put, List.setIfInBounds_toArray, List.set_cons_zero, List.set_cons_succ]
                    refine wpAnyH_take (i := 20) (v := undef) (ata (atS (atS (atS (atS (atS (atS (atS (atS (atS (atS (atS (atS (atS (atS (atS (atS (atS (atS (atS (atS at0))))))))))))))))))))) (by kernel_rfl) (by kernel_rfl) (by kernel_rfl) (fun _ _ _ h => h) (Or.inr ⟨by rfl, rfl⟩) (by assumption) ?_
                    try simp only [Act.put, List.setIfInBounds_toArray, List.set_cons_zero, List.set_cons_succ]
                    refine wpAnyH_take (i := 21) (v := undef) (ata (atS (atS (atS (atS (atS (atS (atS (atS (atS (atS (atS (atS (atS (atS (atS (atS (atS (atS (atS (atS (atS at0)))))))))))))))))))))) (by kernel_rfl) (by kernel_rfl) (by kernel_rfl) (fun _ _ _ h => h) (Or.inr ⟨by rfl, rfl⟩) (by assumption) ?_
                    try simp only [Act.put, List.setIfInBounds_toArray, List.set_cons_zero, List.set_cons_succ]
                    refine wpAnyH_take (i := 22) (v := undef) (ata (atS (atS (atS (atS (atS (atS (atS (atS (atS (atS (atS (atS (atS (atS (atS (atS (atS (atS (atS (atS (atS (atS at0))))))))))))))))))))))) (by kernel_rfl) (by kernel_rfl) (by kernel_rfl) (fun _ _ _ h => h) (Or.inr ⟨by rfl, rfl⟩) (by assumption) ?_
                    try simp only [Act.put, List.setIfInBounds_toArray, List.set_cons_zero, List.set_cons_succ]
                    refine wpAnyH_take (i := 23) (v := undef) (ata (atS (atS (atS (atS (atS (atS (atS (atS (atS (atS (atS (atS (atS (atS (atS (atS (atS (atS (atS (atS (atS (atS (atS at0)))))))))))))))))))))))) (by kernel_rfl) (by kernel_rfl) (by kernel_rfl) (fun _ _ _ h => h) (Or.inr ⟨by rfl, rfl⟩) (by assumption) ?_
                    try simp only [Act.put, List.setIfInBounds_toArray, List.set_cons_zero, List.set_cons_succ]
                    refine wpAnyH_take (i := 24) (v := ?_) (ata (atS (atS (atS (atS (atS (atS (atS (atS (atS (atS (atS (atS (atS (atS (atS (atS (atS (atS (atS (atS (atS (atS (atS (atS at0))))))))))))))))))))))))) (by kernel_rfl) (by kernel_rfl) (by kernel_rfl) (fun _ _ _ h => h) (Or.inl ⟨by rfl, ?_⟩) (by assumption) ?_
                    rotate_left
                    · (intro w hSw; (try dsimp only at hSw); go_simp; (first | done | with_reducible rfl))
                    try simp only [Act.put, List.setIfInBounds_toArray, List.set_cons_zero, List.set_cons_succ]
                    refine wpAnyH_take (i := 25) (v := ?_) (ata (atS (atS (atS (atS (atS (atS (atS (atS (atS (atS (atS (atS (atS (atS (atS (atS (atS (atS (atS (atS (atS (atS (atS (atS (atS at0)))))))))))))))))))))))))) (by kernel_rfl) (by kernel_rfl) (by kernel_rfl) (fun _ _ _ h => h) (Or.inl ⟨by rfl, ?_⟩) (by assumption) ?_
                    rotate_left
                    · (intro w hSw; (try dsimp only at hSw); go_simp; (first | done | with_reducible rfl))
                    try simp only [Act.put, List.setIfInBounds_toArray, List.set_cons_zero, List.set_cons_succ]
                    refine wpAnyH_done (by kernel_rfl) ?_ _
                    go_wp2_with fail
                    go_meet
                    exact ⟨rfl, HS9.out, HA9.out⟩
                case rest =>
                  obtain ⟨rfl, S8, A8⟩ := hcut
                  have s0 := S8.bS.cell0
                  have s1 := S8.bS.cell1
                  have HS8 := Lib.hid S8
                  have HA8 := Lib.hid A8
                  clear S8 A8 HS7 HA7 HB7 HSm HM'
                  go_wp2_with fail
                  refine (at_yes (t := t) HS8.out.hP HQ.out.2.2.2.1 HQ.out.2.2.1).mono ?_
                  rintro e w9 ⟨rfl, hb9⟩
                  have S9 := HS8.out.next hb9
                  have A9 := HA8.out.next hb9
                  have t0 := S9.bW.cell0
                  have t1 := S9.bW.cell1
                  have t2 := S9.bW.cell2
                  have hat := turned_at HM.out.1 HQ.out.2.2.1
                  have hx0 := (HQ.out.2.2.2.1.val HQ.out.2.2.1.1).1
                  have hx1 := (HQ.out.2.2.2.1.val HQ.out.2.2.1.1).2
                  have hy0 := (HM.out.2.1.val HQ.out.2.2.1.1).1
                  have HAtM := Lib.hid fun (W : World) (A : Bx (.slice a3 n3 c3) (.slice a4 n4 c4) M ga W) => at_yes (t := t) A.p HM.out.2.1 HQ.out.2.2.1
                  generalize val L t = x at *
                  generalize val M t = y at *
                  have HAt := Lib.hid hat
                  have HS9 := Lib.hid S9
                  have HA9 := Lib.hid A9
                  clear hb9 S9 A9 hat
                  obtain ⟨inb, hinb⟩ : ∃ inb : Bool, inb = (decide (lo ≤ t) && decide (t < hi)) := ⟨_, rfl⟩
                  have HIn := Lib.hid hinb
                  clear hinb
                  go_upto_region 11 with fail
                  go_cut [11, 127] (fun s11 s127 wx => s11 = .int .i64 x ∧ s127 = .bool inb ∧ SB w (.slice a1 n1 c1) (.slice a2 n2 c2) (L.map Prod.fst) (L.map Prod.snd) lo hi n lo' hi' n' g gw gv wx ∧ Bx (.slice a3 n3 c3) (.slice a4 n4 c4) M ga wx)
                  case first =>
                    by_cases h1 : lo ≤ t
                    · have d1 : decide (lo ≤ t) = true := decide_eq_true h1
                      by_cases h2 : t < hi
                      · have d2 : decide (t < hi) = true := decide_eq_true h2
                        have HE : Hid (inb = true) := Lib.hid (by rw [HIn.out, d1, d2]; rfl)
                        clear h1 h2
                        go_wp2_with fail
                        go_meet
                        exact ⟨rfl, by rw [HE.out], HS9.out, HA9.out⟩
                      · have d2 : decide (t < hi) = false := decide_eq_false h2
                        have HE : Hid (inb = false) := Lib.hid (by rw [HIn.out, d1, d2]; rfl)
                        clear h1 h2
                        go_wp2_with fail
                        go_meet
                        exact ⟨rfl, by rw [HE.out], HS9.out, HA9.out⟩
                    · have d1 : decide (lo ≤ t) = false := decide_eq_false h1
                      have HE : Hid (inb = false) := Lib.hid (by rw [HIn.out, d1]; rfl)
                      clear h1
                      go_wp2_with fail
                      go_meet
                      exact ⟨rfl, by rw [HE.out], HS9.out, HA9.out⟩
                  case rest =>
                  obtain ⟨rfl, rfl, S9, A9⟩ := hcut
                  have t2 := S9.bW.cell2
                  have HS9 := Lib.hid S9
                  have HA9 := Lib.hid A9
                  clear S9 A9
                  go_upto_if 127 with fail
                  go_cut [11] (fun s11 wx => s11 = .int .i64 y ∧ SB w (.slice a1 n1 c1) (.slice a2 n2 c2) (L.map Prod.fst) (L.map Prod.snd) lo hi n lo' hi' n' g gw gv wx ∧ Bx (.slice a3 n3 c3) (.slice a4 n4 c4) M ga wx)
                  case first =>
                    cases inb with
                    | true =>
                      have e0 := HAt.out
                      have e1 := HIn.out
                      rw [eq_comm, Bool.and_eq_true, decide_eq_true_iff, decide_eq_true_iff] at e1
                      rw [if_pos e1] at e0
                      clear e1
                      have b0 : 0 ≤ x - n := by omega
                      have b1 : x - n ≤ 1099511627776 := by have := HQ.out.1.2.2.1; omega
                      have HE := Lib.hid e0
                      clear e0
                      go_wp2_with fail
                      go_meet
                      exact ⟨by rw [HE.out], HS9.out, HA9.out⟩
                    | false =>
                      have e0 := HAt.out
                      have e1 := HIn.out
                      rw [if_neg fun h => by rw [decide_eq_true h.1, decide_eq_true h.2] at e1; cases e1] at e0
                      have HE := Lib.hid e0
                      clear e0 e1
                      go_wp2_with fail
                      go_meet
                      exact ⟨by rw [HE.out], HS9.out, HA9.out⟩
                  case rest =>
                    obtain ⟨rfl, S10, A10⟩ := hcut
                    have x0 := A10.b.cell0
                    have x1 := A10.b.cell1
                    have HS10 := Lib.hid S10
                    have HA10 := Lib.hid A10
                    clear S10 A10 HAt HIn HS9 HA9 t0 t1 s0 s1
                    go_wp2_with fail
                    refine (HAtM.out _ HA10.out).mono ?_
                    rintro e w11 ⟨rfl, hb11⟩
                    have S11 := HS10.out.next hb11
                    have A11 := HA10.out.next hb11
                    have r0 := S11.bV.cell0
                    have r1 := S11.bV.cell1
                    have r2 := S11.bV.cell2
                    have x0 := A11.b.cell0
                    have x1 := A11.b.cell1
                    have HS11 := Lib.hid S11
                    have HA11 := Lib.hid A11
                    clear hb11 S11 A11 HAtM
                    go_wp2_with fail
                    refine (take_yes HA11.out.p HM.out.2.1 HQ.out.2.1.1 HQ.out.2.1.2.1 HQ.out.2.1.2.2).mono ?_
                    rintro e w12 ⟨c', C, a7, n7, c7, a8, n8, c8, rfl, hres, o1, o2, hb12⟩
                    have S12 := HS11.out.next hb12
                    have HLl := HQ.out.2.2.2.2
                    have HMl := HM.out.2.2
                    have s0 := S12.bS.cell0
                    have s1 := S12.bS.cell1
                    have t0 := S12.bW.cell0
                    have t1 := S12.bW.cell1
                    have t2 := S12.bW.cell2
                    have r0 := S12.bV.cell0
                    have r1 := S12.bV.cell1
                    have r2 := S12.bV.cell2
                    have ls := S12.bS.lt
                    have lv := S12.bV.lt
                    have HS12 := Lib.hid (S12.alloc (.cells #[.slice a7 n7 c7, .slice a8 n8 c8] 24))
                    rcases hres.small (show M.length ≤ 1998 by omega) with ⟨rfl, hT2, hC, hCl⟩ | ⟨rfl, rfl, hbad⟩
                    · have hbx := Bx.new o1 o2 hC
                      have HC12 := Lib.hid hbx
                      have HC' := Lib.hid (And.intro hT2 (And.intro hC hCl))
                      clear hres o1 o2 hb12 S12 hT2 hC hCl HLl HMl hbx
                      go_wp2_with fail
                      refine (take_yes HS12.out.hP HQ.out.2.2.2.1 HQ.out.2.1.1 HQ.out.2.1.2.1 HQ.out.2.1.2.2).mono ?_
                      rintro e w13 ⟨c', D, a9, n9, c9, a10, n10, c10, rfl, hres, o1, o2, hb13⟩
                      obtain ⟨rfl, hT3, hD, hDl⟩ := hres.good (by have := HQ.out.2.2.2.2; omega) (two_good HQ.out.2.2.2.1 HC'.out.2.1 HQ.out.1.2.2 HQ.out.2.1.2.2 HM.out.1 HC'.out.1)
                      have S13 := HS12.out.next hb13
                      have C13 := HC12.out.next hb13
                      have hbx := Bx.new o1 o2 hD
                      have t0 := S13.bW.cell0
                      have t1 := S13.bW.cell1
                      have t2 := S13.bW.cell2
                      have lw := S13.bW.lt
                      have HS13 := Lib.hid (S13.alloc (.cells #[.slice a9 n9 c9, .slice a10 n10 c10] 24))
                      have HC13 := Lib.hid (C13.alloc (.cells #[.slice a9 n9 c9, .slice a10 n10 c10] 24))
                      have HD13 := Lib.hid hbx
                      have HD' := Lib.hid (And.intro hT3 (And.intro hD hDl))
                      clear hres o1 o2 hb13 S13 C13 hT3 hD hDl hbx ls lv
                      go_wp2_with fail
                      refine (take_yes HD13.out.p HD'.out.2.1 HQ.out.1.1 HQ.out.1.2.1 HQ.out.1.2.2).mono ?_
                      rintro e w14 ⟨c', X, a11, n11, c11, a12, n12, c12, rfl, hres, o1, o2, hb14⟩
                      obtain ⟨rfl, hT4, hX, hXl⟩ := hres.good (by have := HQ.out.2.2.2.2; have := HD'.out.2.2; omega) (fun q hq => by rw [two_good2 HM.out.1 HC'.out.1 HD'.out.1 q hq]; exact HC'.out.2.1.val hq.1)
                      have S14 := HS13.out.next hb14
                      have C14 := HC13.out.next hb14
                      have hbx := Bx.new o1 o2 hX
                      have y0 := C14.b.cell0
                      have y1 := C14.b.cell1
                      have lc := C14.b.lt
                      have HTs := Lib.hid (two_same HM.out.1 HC'.out.1 HD'.out.1 hT4)
                      have HS14 := Lib.hid (S14.alloc (.cells #[.slice a11 n11 c11, .slice a12 n12 c12] 24))
                      have HC14 := Lib.hid (C14.alloc (.cells #[.slice a11 n11 c11, .slice a12 n12 c12] 24))
                      have HX14 := Lib.hid hbx
                      have HX' := Lib.hid (And.intro hX hXl)
                      clear hres o1 o2 hb14 S14 C14 hT4 hX hXl hbx
                      go_wp2_with fail
                      refine (same_yes HC14.out.p HX14.out.p HC'.out.2.1 HX'.out.1 (by have := HC'.out.2.2; have := HM.out.2.2; have := HQ.out.2.2.2.2; omega) (by have := HX'.out.2; have := HD'.out.2.2; have := HQ.out.2.2.2.2; omega)).mono ?_
                      rintro e w15 ⟨rfl, hb15⟩
                      rw [HTs.out]
                      have HS15 := Lib.hid (HS14.out.next hb15)
                      clear hb15 y0 y1 lc
                      go_wp2_with fail
                      refine (head_any _).mono ?_
                      rintro e w16 ⟨rfl, hb16⟩
                      have HS16 := Lib.hid (HS15.out.next hb16)
                      clear hb16
                      go_wp2
                      go_ret
                      exact ⟨rfl, HS16.out.hB⟩
                    · clear hres o1 o2 hb12 S12 hbad HLl HMl
                      go_wp2_with fail
                      refine (take_yes HS12.out.hP HQ.out.2.2.2.1 HQ.out.2.1.1 HQ.out.2.1.2.1 HQ.out.2.1.2.2).mono ?_
                      rintro e w13 ⟨c', D, a9, n9, c9, a10, n10, c10, rfl, hres, o1, o2, hb13⟩
                      have HS13 := Lib.hid ((HS12.out.next hb13).alloc (.cells #[.slice a9 n9 c9, .slice a10 n10 c10] 24))
                      clear hres o1 o2 hb13
                      go_wp2_with fail
                      refine (head_any _).mono ?_
                      rintro e wz ⟨rfl, hbz⟩
                      have HZ := Lib.hid (HS13.out.next hbz)
                      clear hbz
                      go_wp2
                      go_ret
                      exact ⟨rfl, HZ.out.hB⟩
              · have hlt := bad_least HQ.out.2.2.2.1 HQ.out.1.1 HQ.out.1.2.1 HQ.out.1.2.2 hbad
                have s0 := S6.bS.cell0
                have s1 := S6.bS.cell1
                have t0 := S6.bW.cell0
                have t1 := S6.bW.cell1
                have t2 := S6.bW.cell2
                have HS6 := Lib.hid (S6.alloc (.cells #[.slice a3 n3 c3, .slice a4 n4 c4] 24))
                clear hres o1 o2 hb6 S6 hbad hLl
                have d1 : decide (lst L lo hi < n) = true := decide_eq_true hlt
                generalize hl : lst L lo hi = ls at *
                have HL := Lib.hid hl
                clear hl
                have HS6d := Lib.hid HS6.out.drew
                go_wp2_with fail
                go_region_held3 (fun W => W.cell? ⟨g, 0, none⟩ = some (.slice a1 n1 c1) ∧ W.cell? ⟨g, 1, none⟩ = some (.slice a2 n2 c2) ∧ W.cell? ⟨gw, 0, none⟩ = some (.int .i64 lo) ∧ W.cell? ⟨gw, 1, none⟩ = some (.int .i64 hi) ∧ W.cell? ⟨gw, 2, none⟩ = some (.int .i64 n)) (go_keep)
                  (first
                    | (go_at_call 19; ((with_reducible refine (leastf_yes HS6d.out.hP HQ.out.2.2.2.1 HQ.out.1.1 HQ.out.1.2.1).mono ?_); rintro e w7 ⟨rfl, hb7⟩; rw [HL.out]; have S7 := HS6d.out.next hb7; have s0 := S7.bS.cell0; have s1 := S7.bS.cell1; have t0 := S7.bW.cell0; have t1 := S7.bW.cell1; have t2 := S7.bW.cell2; have HS7 := Lib.hid S7; clear hb7 S7))
                    | (go_at_call 9; ((with_reducible refine (head_any _).mono ?_); rintro e w8 ⟨rfl, hb8⟩; have S8 := HS7.out.next hb8; have s0 := S8.bS.cell0; have s1 := S8.bS.cell1; have t0 := S8.bW.cell0; have t1 := S8.bW.cell1; have t2 := S8.bW.cell2; have HS8 := Lib.hid S8; clear hb8 S8)))
                all_goals
                  go_wp2
                  go_ret
                  exact ⟨rfl, HS8.out.hB⟩
            · have HT := Lib.hid (qb_no ht)
              go_wp2_with fail
              refine (quantity_any _ _).mono ?_
              rintro e w5 ⟨rfl, rfl⟩
              rw [HT.out]
              go_wp2_with fail
              refine (head_any _).mono ?_
              rintro e wz ⟨rfl, hbz⟩
              have HZ := Lib.hid (HS4.out.next hbz)
              clear hbz
              go_wp2
              go_ret
              exact ⟨rfl, HZ.out.hB⟩
          · have HF' := Lib.hid (fine_no hf')
            go_wp2_with fail
            refine (fine_any _ _ _ _).mono ?_
            rintro e w4 ⟨rfl, hb⟩
            rw [HF'.out]
            have HS4x := HS3.out.next hb
            have HS4 := Lib.hid HS4x
            clear hb HS4x
            go_wp2_with fail
            refine (head_any _).mono ?_
            rintro e wz ⟨rfl, hbz⟩
            have HZ := Lib.hid (HS4.out.next hbz)
            clear hbz
            go_wp2
            go_ret
            exact ⟨rfl, HZ.out.hB⟩
        · have HF := Lib.hid (fine_no hf)
          go_wp2_with fail
          refine (fine_any _ _ _ _).mono ?_
          rintro e w3 ⟨rfl, hb⟩
          rw [HF.out]
          have HS3x := HS2.out.next hb
          have HS3 := Lib.hid HS3x
          clear hb HS3x
          go_wp2_with fail
          refine (head_any _).mono ?_
          rintro e wz ⟨rfl, hbz⟩
          have HZ := Lib.hid (HS3.out.next hbz)
          clear hbz
          go_wp2
          go_ret
          exact ⟨rfl, HZ.out.hB⟩
      · have HC := Lib.hid (chk_no hok)
        go_wp2_with fail
        refine (check_any HS1.out.hP).mono ?_
        rintro e w2 ⟨rfl, hb⟩
        rw [HC.out]
        have HS2x := HS1.out.next hb
        have HS2 := Lib.hid HS2x
        clear hb HS2x
        go_wp2_with fail
        refine (head_any _).mono ?_
        rintro e wz ⟨rfl, hbz⟩
        have HZ := Lib.hid (HS2.out.next hbz)
        clear hbz
        go_wp2
        go_ret
        exact ⟨rfl, HZ.out.hB⟩
end Go.Proofs.Ytoofogmlodfgmaa.gn
