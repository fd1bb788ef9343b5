/- Drain; the document's Same of two that are the same; Great (written by gen_poQ.py). -/
import Derived.Test.YtdjpnlkhdilakaaPoO
set_option linter.unusedVariables false
set_option linter.unusedSimpArgs false
set_option maxRecDepth 100000
namespace Go.Proofs.Ytdjpnlkhdilakaa.gn
open Go.RowKit Go.Shelf Go.Sort Go.Lib
open Go.Proofs.Ytdjpnlkhdilakaa.ex
open Go.Proofs.Ytdjpnlkhdilakaa.po (Nm U less Pl)

attribute [local go_sem] Oper.semAt_some
attribute [local go_sem ↓] Go.wp_at_zero Go.wp_at_succ

set_option maxHeartbeats 8000000 in
theorem Drain_yes {w : World} {v : Value} {p : Pl} (h : PolW w v p) (hv : po.Valid p) (b : Bool) :
    Calls Try.prog 17 #[v, .bool b] w fun e w' => ∃ va, e = .returned (.tuple #[va, .int .i64 0]) ∧ PolV w' va { p with drain := b } ∧ RowKit.Below w.heap.size w w' := by
  have HV := Lib.hid hv
  clear hv
  obtain ⟨⟨vf, vu, rfl, hf, hu⟩, hl, hlu⟩ := h
  obtain ⟨pf, cf, rfl⟩ := hf.len
  obtain ⟨pu, cu, rfl, hle⟩ := hu.2
  have g0 := GW.new (w := w) hf hu
  obtain ⟨size, grain, quota, drain, best, fr, us⟩ := p
  (try dsimp only at *)
  obtain ⟨W0, hW0⟩ : ∃ W0, (w.alloc (boxP ⟨size, grain, quota, drain, best, fr, us⟩ (.slice pf fr.length cf) (.slice pu us.length cu))).alloc (.cells zeroC 25) = W0 := ⟨_, rfl⟩
  rw [hW0] at g0
  have HL := Lib.hid (And.intro hl hlu)
  have HG0 := Lib.hid g0
  have k0 := (GW.pb g0).k0; (try dsimp only at k0); have k1 := (GW.pb g0).k1; (try dsimp only at k1); have k2 := (GW.pb g0).k2; (try dsimp only at k2); have k3 := (GW.pb g0).k3; (try dsimp only at k3); have k4 := (GW.pb g0).k4; (try dsimp only at k4); have k5 := (GW.pb g0).k5; (try dsimp only at k5); have k6 := (GW.pb g0).k6; (try dsimp only at k6)
  clear g0 hf hu hl hlu
  have mixed : Try.prog.follows .mixedOrders = true := by kernel_rfl
  go_enter Try.func17, Try.ntmps17
  go_upto_region 3 with (first | (go_at_call 10; refine (Check_yes (HG0.out.pw HL.out.1 HL.out.2) HV.out).mono ?_; rintro e w1 ⟨rfl, hb1⟩; have g1 := HG0.out.next hb1; have HG1 := Lib.hid g1; have j0 := (GW.pb g1).k0; (try dsimp only at j0); have j1 := (GW.pb g1).k1; (try dsimp only at j1); have j2 := (GW.pb g1).k2; (try dsimp only at j2); have j3 := (GW.pb g1).k3; (try dsimp only at j3); have j4 := (GW.pb g1).k4; (try dsimp only at j4); have j5 := (GW.pb g1).k5; (try dsimp only at j5); have j6 := (GW.pb g1).k6; (try dsimp only at j6); clear hb1 g1))
  have gD := HG1.out.next (Below.refl _ w1).drew
  have HGD := Lib.hid gD
  clear gD
  refine wp_region_held_drew (S := (fun _ => True)) (by kernel_rfl) (by exact trivial) (fun hHeld => ?_)
  refine wpAnyH_take (i := 0) (v := ?_) (ata at0) (by kernel_rfl) (by kernel_rfl) (by kernel_rfl) (fun _ _ _ h => h) (Or.inl ⟨by rfl, ?_⟩) (by assumption) ?_
  rotate_left
  · (intro w hSw; (try dsimp only at hSw); go_simp; (first | done | with_reducible rfl))
  try simp only [Act.put, List.setIfInBounds_toArray, List.set_cons_zero, List.set_cons_succ]
  refine wpAnyH_take (i := 1) (v := ?_) (ata (atS at0)) (by kernel_rfl) (by kernel_rfl) (by kernel_rfl) (fun _ _ _ h => h) (Or.inl ⟨by rfl, ?_⟩) (by assumption) ?_
  rotate_left
  · (intro w hSw; (try dsimp only at hSw); go_simp; (first | done | with_reducible rfl))
  try simp only [Act.put, List.setIfInBounds_toArray, List.set_cons_zero, List.set_cons_succ]
  refine wpAnyH_take (i := 4) (v := ?_) (ata (atS (atS (atS (atS at0))))) (by kernel_rfl) (by kernel_rfl) (by kernel_rfl) (fun _ _ _ h => h) (Or.inl ⟨by rfl, ?_⟩) (by assumption) ?_
  rotate_left
  · (intro w hSw; (try dsimp only at hSw); go_simp; (first | done | with_reducible rfl))
  try simp only [Act.put, List.setIfInBounds_toArray, List.set_cons_zero, List.set_cons_succ]
  refine wpAnyH_ready (rs := [2, 5]) (by kernel_rfl) (by simp) ?_
  refine AllReadyH.cons (ata (atS (atS at0))) (fun K hK => ?_) (AllReadyH.cons (ata (atS (atS (atS (atS (atS at0)))))) (fun K hK => ?_) AllReadyH.nil)
  · go_simp
    refine hK.out _ _ (by exact trivial) (fun hHeld => ?_)
    clear hK K
    try simp only [Act.put, List.setIfInBounds_toArray, List.set_cons_zero, List.set_cons_succ]
    refine wpAnyH_ready (rs := [3, 5]) (by kernel_rfl) (by simp) ?_
    refine AllReadyH.cons (ata (atS (atS (atS at0)))) (fun K hK => ?_) (AllReadyH.cons (ata (atS (atS (atS (atS (atS at0)))))) (fun K hK => ?_) AllReadyH.nil)
    · go_simp
      (go_at_call 35; refine (copiedX_any HGD.out.hf (by have := HL.out.1; show fr.length ≤ 4000; omega)).mono ?_; rintro e w2 ⟨q2, c2, rfl, hA, hb2⟩; have hz1 := HGD.out.hb.size; have g2 := HGD.out.next hb2; have HG2 := Lib.hid g2; have HA2 := Lib.hid hA; have a0 := (GW.pb g2).k0; (try dsimp only at a0); have a1 := (GW.pb g2).k1; (try dsimp only at a1); have a2 := (GW.pb g2).k2; (try dsimp only at a2); have a3 := (GW.pb g2).k3; (try dsimp only at a3); have a4 := (GW.pb g2).k4; (try dsimp only at a4); have a5 := (GW.pb g2).k5; (try dsimp only at a5); have a6 := (GW.pb g2).k6; (try dsimp only at a6); clear hb2 g2 hA)
      go_wp2_with fail
      refine hK.out _ _ (by exact trivial) (fun hHeld => ?_)
      clear hK K
      try simp only [Act.put, List.setIfInBounds_toArray, List.set_cons_zero, List.set_cons_succ]
      refine wpAnyH_ready (rs := [5]) (by kernel_rfl) (by simp) ?_
      refine AllReadyH.cons (ata (atS (atS (atS (atS (atS at0)))))) (fun K hK => ?_) AllReadyH.nil
      go_simp
      refine hK.out _ _ (by exact trivial) (fun hHeld => ?_)
      clear hK K
      try simp only [Act.put, List.setIfInBounds_toArray, List.set_cons_zero, List.set_cons_succ]
      refine wpAnyH_take (i := 7) (v := ?_) (ata (atS (atS (atS (atS (atS (atS (atS at0)))))))) (by kernel_rfl) (by kernel_rfl) (by kernel_rfl) (fun _ _ _ h => h) (Or.inl ⟨by rfl, ?_⟩) (by assumption) ?_
      rotate_left
      · (intro w hSw; (try dsimp only at hSw); go_simp; (first | done | with_reducible rfl))
      try simp only [Act.put, List.setIfInBounds_toArray, List.set_cons_zero, List.set_cons_succ]
      refine wpAnyH_ready (rs := [6]) (by kernel_rfl) (by simp) ?_
      refine AllReadyH.cons (ata (atS (atS (atS (atS (atS (atS at0))))))) (fun K hK => ?_) AllReadyH.nil
      go_simp
      (go_at_call 36; refine (copiedU_any HG2.out.hu (by have := HL.out.2; show us.length ≤ 4000; omega)).mono ?_; rintro e w3 ⟨q3, c3, rfl, hA, hb3⟩; have g3 := HG2.out.next hb3; have HG3 := Lib.hid g3; have HA3 := Lib.hid hA; have hA2 := HA2.out.next hb3; have HB2 := Lib.hid hA2; have m0 := (GW.pb g3).k0; (try dsimp only at m0); have m1 := (GW.pb g3).k1; (try dsimp only at m1); have m2 := (GW.pb g3).k2; (try dsimp only at m2); have m3 := (GW.pb g3).k3; (try dsimp only at m3); have m4 := (GW.pb g3).k4; (try dsimp only at m4); have m5 := (GW.pb g3).k5; (try dsimp only at m5); have m6 := (GW.pb g3).k6; (try dsimp only at m6); have f3 := frozen_of_row w3 _ 3 _ _ g3.hB; have f5 := frozen_of_row w3 _ 5 _ _ g3.hB; have f6 := frozen_of_row w3 _ 6 _ _ g3.hB; clear hb3 g3 hA hA2)
      go_wp2_with fail
      refine hK.out _ _ (by exact trivial) (fun hHeld => ?_)
      clear hK K
      try simp only [Act.put, List.setIfInBounds_toArray, List.set_cons_zero, List.set_cons_succ]
      refine wpAnyH_ready (rs := [8]) (by kernel_rfl) (by simp) ?_
      refine AllReadyH.cons (ata (atS (atS (atS (atS (atS (atS (atS (atS at0))))))))) (fun K hK => ?_) AllReadyH.nil
      go_simp
      refine hK.out _ _ (by exact trivial) (fun hHeld => ?_)
      clear hK K
      try simp only [Act.put, List.setIfInBounds_toArray, List.set_cons_zero, List.set_cons_succ]
      refine wpAnyH_take (i := 9) (v := ?_) (ata (atS (atS (atS (atS (atS (atS (atS (atS (atS at0)))))))))) (by kernel_rfl) (by kernel_rfl) (by kernel_rfl) (fun _ _ _ h => h) (Or.inl ⟨by rfl, ?_⟩) (by assumption) ?_
      rotate_left
      · (intro w hSw; (try dsimp only at hSw); go_simp; (first | done | with_reducible rfl))
      try simp only [Act.put, List.setIfInBounds_toArray, List.set_cons_zero, List.set_cons_succ]
      refine wpAnyH_ready (rs := [10]) (by kernel_rfl) (by simp) ?_
      refine AllReadyH.cons (ata (atS (atS (atS (atS (atS (atS (atS (atS (atS (atS at0))))))))))) (fun K hK => ?_) AllReadyH.nil
      go_simp
      refine hK.out _ _ (by exact trivial) (fun hHeld => ?_)
      clear hK K
      try simp only [Act.put, List.setIfInBounds_toArray, List.set_cons_zero, List.set_cons_succ]
      refine wpAnyH_take (i := 11) (v := ?_) (ata (atS (atS (atS (atS (atS (atS (atS (atS (atS (atS (atS at0)))))))))))) (by kernel_rfl) (by kernel_rfl) (by kernel_rfl) (fun _ _ _ h => h) (Or.inl ⟨by rfl, ?_⟩) (by assumption) ?_
      rotate_left
      · (intro w hSw; (try dsimp only at hSw); go_simp; (first | done | with_reducible rfl))
      try simp only [Act.put, List.setIfInBounds_toArray, List.set_cons_zero, List.set_cons_succ]
      refine wpAnyH_ready (rs := [12]) (by kernel_rfl) (by simp) ?_
      refine AllReadyH.cons (ata (atS (atS (atS (atS (atS (atS (atS (atS (atS (atS (atS (atS at0))))))))))))) (fun K hK => ?_) AllReadyH.nil
      go_simp
      refine hK.out _ _ (by exact trivial) (fun hHeld => ?_)
      clear hK K
      try simp only [Act.put, List.setIfInBounds_toArray, List.set_cons_zero, List.set_cons_succ]
      refine wpAnyH_done (by kernel_rfl) ?_ _
      go_wp2_with (refine wpList_store_row rfl _ _ _ rfl (w.heap.size + 1) #[.int .i64 size, .int .i64 grain, .int .i64 quota, .bool b, .bool best, .slice q2 fr.length c2, .slice q3 us.length c3] rfl rfl 25 zeroC ((Below.heap_setCell _ _ _ _ (by simp)).trans ((Below.heap_setCell _ _ _ _ (by simp)).trans ((Below.heap_setCell _ _ _ _ (by simp)).trans HG3.out.hR))) (by kernel_rfl) rfl (by kernel_rfl) ?_)
      have hR5 : (((w3.setCell ⟨w.heap.size, 3, none⟩ (.bool b)).setCell ⟨w.heap.size, 5, none⟩ (.slice q2 fr.length c2)).setCell ⟨w.heap.size, 6, none⟩ (.slice q3 us.length c3)).heap[w.heap.size + 1]? = some (.cells zeroC 25 (0, 0)) := ((Below.heap_setCell _ _ _ _ (by simp)).trans ((Below.heap_setCell _ _ _ _ (by simp)).trans ((Below.heap_setCell _ _ _ _ (by simp)).trans HG3.out.hR)))
      have y0 := row_cells hR5 (cs := #[.int .i64 size, .int .i64 grain, .int .i64 quota, .bool b, .bool best, .slice q2 fr.length c2, .slice q3 us.length c3]) 0 _ rfl
      have y1 := row_cells hR5 (cs := #[.int .i64 size, .int .i64 grain, .int .i64 quota, .bool b, .bool best, .slice q2 fr.length c2, .slice q3 us.length c3]) 1 _ rfl
      have y2 := row_cells hR5 (cs := #[.int .i64 size, .int .i64 grain, .int .i64 quota, .bool b, .bool best, .slice q2 fr.length c2, .slice q3 us.length c3]) 2 _ rfl
      have y3 := row_cells hR5 (cs := #[.int .i64 size, .int .i64 grain, .int .i64 quota, .bool b, .bool best, .slice q2 fr.length c2, .slice q3 us.length c3]) 3 _ rfl
      have y4 := row_cells hR5 (cs := #[.int .i64 size, .int .i64 grain, .int .i64 quota, .bool b, .bool best, .slice q2 fr.length c2, .slice q3 us.length c3]) 4 _ rfl
      have y5 := row_cells hR5 (cs := #[.int .i64 size, .int .i64 grain, .int .i64 quota, .bool b, .bool best, .slice q2 fr.length c2, .slice q3 us.length c3]) 5 _ rfl
      have y6 := row_cells hR5 (cs := #[.int .i64 size, .int .i64 grain, .int .i64 quota, .bool b, .bool best, .slice q2 fr.length c2, .slice q3 us.length c3]) 6 _ rfl
      refine bodyPost_ret (v := .tuple #[.agg #[.int .i64 size, .int .i64 grain, .int .i64 quota, .bool b, .bool best, .slice q2 fr.length c2, .slice q3 us.length c3], .int .i64 0]) (by simp [results, Try.results17, go_sem, y0, y1, y2, y3, y4, y5, y6]) rfl ?_
      have hsame : Same w.heap.size (w.heap.size + 2) w3 ((((w3.setCell ⟨w.heap.size, 3, none⟩ (.bool b)).setCell ⟨w.heap.size, 5, none⟩ (.slice q2 fr.length c2)).setCell ⟨w.heap.size, 6, none⟩ (.slice q3 us.length c3)).setRow (w.heap.size + 1) #[.int .i64 size, .int .i64 grain, .int .i64 quota, .bool b, .bool best, .slice q2 fr.length c2, .slice q3 us.length c3]) := (Same.set _ _ _ _ (Nat.le_refl _) (by omega)).trans ((Same.set _ _ _ _ (Nat.le_refl _) (by omega)).trans ((Same.set _ _ _ _ (Nat.le_refl _) (by omega)).trans (Same.row _ _ _ (by omega) (by omega))))
      have hge : w.heap.size + 2 ≤ w1.heap.size := by have := (Array.getElem?_eq_some_iff.1 HG1.out.hR).1; omega
      have hge2 : w.heap.size + 2 ≤ w2.heap.size := by have := (Array.getElem?_eq_some_iff.1 HG2.out.hR).1; omega
      have r7 : RdC ((((w3.setCell ⟨w.heap.size, 3, none⟩ (.bool b)).setCell ⟨w.heap.size, 5, none⟩ (.slice q2 fr.length c2)).setCell ⟨w.heap.size, 6, none⟩ (.slice q3 us.length c3)).setRow (w.heap.size + 1) #[.int .i64 size, .int .i64 grain, .int .i64 quota, .bool b, .bool best, .slice q2 fr.length c2, .slice q3 us.length c3]) _ _ _ := (((ApC.off HB2.out w.heap.size (w.heap.size + 2) hge)).same hsame).rdc
      have ru : RdC ((((w3.setCell ⟨w.heap.size, 3, none⟩ (.bool b)).setCell ⟨w.heap.size, 5, none⟩ (.slice q2 fr.length c2)).setCell ⟨w.heap.size, 6, none⟩ (.slice q3 us.length c3)).setRow (w.heap.size + 1) #[.int .i64 size, .int .i64 grain, .int .i64 quota, .bool b, .bool best, .slice q2 fr.length c2, .slice q3 us.length c3]) _ _ _ := ((ApC.off HA3.out w.heap.size (w.heap.size + 2) hge2).same hsame).rdc
      obtain ⟨pq, cq, hq2, hle2⟩ := HA3.out.form
      refine ⟨_, rfl, ?_, below_setRow (((HG3.out.hb.setCell (Nat.le_refl _) _).setCell (Nat.le_refl _) _).setCell (Nat.le_refl _) _) (by omega) _⟩
      exact ⟨_, _, rfl, r7.rd, ru, pq, cq, hq2, hle2⟩
    · go_simp
      refine hK.out _ _ (by exact trivial) (fun hHeld => ?_)
      clear hK K
      try simp only [Act.put, List.setIfInBounds_toArray, List.set_cons_zero, List.set_cons_succ]
      refine wpAnyH_take (i := 7) (v := ?_) (ata (atS (atS (atS (atS (atS (atS (atS at0)))))))) (by kernel_rfl) (by kernel_rfl) (by kernel_rfl) (fun _ _ _ h => h) (Or.inl ⟨by rfl, ?_⟩) (by assumption) ?_
      rotate_left
      · (intro w hSw; (try dsimp only at hSw); go_simp; (first | done | with_reducible rfl))
      try simp only [Act.put, List.setIfInBounds_toArray, List.set_cons_zero, List.set_cons_succ]
      refine wpAnyH_ready (rs := [3]) (by kernel_rfl) (by simp) ?_
      refine AllReadyH.cons (ata (atS (atS (atS at0)))) (fun K hK => ?_) AllReadyH.nil
      go_simp
      (go_at_call 35; refine (copiedX_any HGD.out.hf (by have := HL.out.1; show fr.length ≤ 4000; omega)).mono ?_; rintro e w2 ⟨q2, c2, rfl, hA, hb2⟩; have hz1 := HGD.out.hb.size; have g2 := HGD.out.next hb2; have HG2 := Lib.hid g2; have HA2 := Lib.hid hA; have a0 := (GW.pb g2).k0; (try dsimp only at a0); have a1 := (GW.pb g2).k1; (try dsimp only at a1); have a2 := (GW.pb g2).k2; (try dsimp only at a2); have a3 := (GW.pb g2).k3; (try dsimp only at a3); have a4 := (GW.pb g2).k4; (try dsimp only at a4); have a5 := (GW.pb g2).k5; (try dsimp only at a5); have a6 := (GW.pb g2).k6; (try dsimp only at a6); clear hb2 g2 hA)
      go_wp2_with fail
      refine hK.out _ _ (by exact trivial) (fun hHeld => ?_)
      clear hK K
      try simp only [Act.put, List.setIfInBounds_toArray, List.set_cons_zero, List.set_cons_succ]
      refine wpAnyH_ready (rs := [6]) (by kernel_rfl) (by simp) ?_
      refine AllReadyH.cons (ata (atS (atS (atS (atS (atS (atS at0))))))) (fun K hK => ?_) AllReadyH.nil
      go_simp
      (go_at_call 36; refine (copiedU_any HG2.out.hu (by have := HL.out.2; show us.length ≤ 4000; omega)).mono ?_; rintro e w3 ⟨q3, c3, rfl, hA, hb3⟩; have g3 := HG2.out.next hb3; have HG3 := Lib.hid g3; have HA3 := Lib.hid hA; have hA2 := HA2.out.next hb3; have HB2 := Lib.hid hA2; have m0 := (GW.pb g3).k0; (try dsimp only at m0); have m1 := (GW.pb g3).k1; (try dsimp only at m1); have m2 := (GW.pb g3).k2; (try dsimp only at m2); have m3 := (GW.pb g3).k3; (try dsimp only at m3); have m4 := (GW.pb g3).k4; (try dsimp only at m4); have m5 := (GW.pb g3).k5; (try dsimp only at m5); have m6 := (GW.pb g3).k6; (try dsimp only at m6); have f3 := frozen_of_row w3 _ 3 _ _ g3.hB; have f5 := frozen_of_row w3 _ 5 _ _ g3.hB; have f6 := frozen_of_row w3 _ 6 _ _ g3.hB; clear hb3 g3 hA hA2)
      go_wp2_with fail
      refine hK.out _ _ (by exact trivial) (fun hHeld => ?_)
      clear hK K
      try simp only [Act.put, List.setIfInBounds_toArray, List.set_cons_zero, List.set_cons_succ]
      refine wpAnyH_ready (rs := [8]) (by kernel_rfl) (by simp) ?_
      refine AllReadyH.cons (ata (atS (atS (atS (atS (atS (atS (atS (atS at0))))))))) (fun K hK => ?_) AllReadyH.nil
      go_simp
      refine hK.out _ _ (by exact trivial) (fun hHeld => ?_)
      clear hK K
      try simp only [Act.put, List.setIfInBounds_toArray, List.set_cons_zero, List.set_cons_succ]
      refine wpAnyH_take (i := 9) (v := ?_) (ata (atS (atS (atS (atS (atS (atS (atS (atS (atS at0)))))))))) (by kernel_rfl) (by kernel_rfl) (by kernel_rfl) (fun _ _ _ h => h) (Or.inl ⟨by rfl, ?_⟩) (by assumption) ?_
      rotate_left
      · (intro w hSw; (try dsimp only at hSw); go_simp; (first | done | with_reducible rfl))
      try simp only [Act.put, List.setIfInBounds_toArray, List.set_cons_zero, List.set_cons_succ]
      refine wpAnyH_ready (rs := [10]) (by kernel_rfl) (by simp) ?_
      refine AllReadyH.cons (ata (atS (atS (atS (atS (atS (atS (atS (atS (atS (atS at0))))))))))) (fun K hK => ?_) AllReadyH.nil
      go_simp
      refine hK.out _ _ (by exact trivial) (fun hHeld => ?_)
      clear hK K
      try simp only [Act.put, List.setIfInBounds_toArray, List.set_cons_zero, List.set_cons_succ]
      refine wpAnyH_take (i := 11) (v := ?_) (ata (atS (atS (atS (atS (atS (atS (atS (atS (atS (atS (atS at0)))))))))))) (by kernel_rfl) (by kernel_rfl) (by kernel_rfl) (fun _ _ _ h => h) (Or.inl ⟨by rfl, ?_⟩) (by assumption) ?_
      rotate_left
      · (intro w hSw; (try dsimp only at hSw); go_simp; (first | done | with_reducible rfl))
      try simp only [Act.put, List.setIfInBounds_toArray, List.set_cons_zero, List.set_cons_succ]
      refine wpAnyH_ready (rs := [12]) (by kernel_rfl) (by simp) ?_
      refine AllReadyH.cons (ata (atS (atS (atS (atS (atS (atS (atS (atS (atS (atS (atS (atS at0))))))))))))) (fun K hK => ?_) AllReadyH.nil
      go_simp
      refine hK.out _ _ (by exact trivial) (fun hHeld => ?_)
      clear hK K
      try simp only [Act.put, List.setIfInBounds_toArray, List.set_cons_zero, List.set_cons_succ]
      refine wpAnyH_done (by kernel_rfl) ?_ _
      go_wp2_with (refine wpList_store_row rfl _ _ _ rfl (w.heap.size + 1) #[.int .i64 size, .int .i64 grain, .int .i64 quota, .bool b, .bool best, .slice q2 fr.length c2, .slice q3 us.length c3] rfl rfl 25 zeroC ((Below.heap_setCell _ _ _ _ (by simp)).trans ((Below.heap_setCell _ _ _ _ (by simp)).trans ((Below.heap_setCell _ _ _ _ (by simp)).trans HG3.out.hR))) (by kernel_rfl) rfl (by kernel_rfl) ?_)
      have hR5 : (((w3.setCell ⟨w.heap.size, 3, none⟩ (.bool b)).setCell ⟨w.heap.size, 5, none⟩ (.slice q2 fr.length c2)).setCell ⟨w.heap.size, 6, none⟩ (.slice q3 us.length c3)).heap[w.heap.size + 1]? = some (.cells zeroC 25 (0, 0)) := ((Below.heap_setCell _ _ _ _ (by simp)).trans ((Below.heap_setCell _ _ _ _ (by simp)).trans ((Below.heap_setCell _ _ _ _ (by simp)).trans HG3.out.hR)))
      have y0 := row_cells hR5 (cs := #[.int .i64 size, .int .i64 grain, .int .i64 quota, .bool b, .bool best, .slice q2 fr.length c2, .slice q3 us.length c3]) 0 _ rfl
      have y1 := row_cells hR5 (cs := #[.int .i64 size, .int .i64 grain, .int .i64 quota, .bool b, .bool best, .slice q2 fr.length c2, .slice q3 us.length c3]) 1 _ rfl
      have y2 := row_cells hR5 (cs := #[.int .i64 size, .int .i64 grain, .int .i64 quota, .bool b, .bool best, .slice q2 fr.length c2, .slice q3 us.length c3]) 2 _ rfl
      have y3 := row_cells hR5 (cs := #[.int .i64 size, .int .i64 grain, .int .i64 quota, .bool b, .bool best, .slice q2 fr.length c2, .slice q3 us.length c3]) 3 _ rfl
      have y4 := row_cells hR5 (cs := #[.int .i64 size, .int .i64 grain, .int .i64 quota, .bool b, .bool best, .slice q2 fr.length c2, .slice q3 us.length c3]) 4 _ rfl
      have y5 := row_cells hR5 (cs := #[.int .i64 size, .int .i64 grain, .int .i64 quota, .bool b, .bool best, .slice q2 fr.length c2, .slice q3 us.length c3]) 5 _ rfl
      have y6 := row_cells hR5 (cs := #[.int .i64 size, .int .i64 grain, .int .i64 quota, .bool b, .bool best, .slice q2 fr.length c2, .slice q3 us.length c3]) 6 _ rfl
      refine bodyPost_ret (v := .tuple #[.agg #[.int .i64 size, .int .i64 grain, .int .i64 quota, .bool b, .bool best, .slice q2 fr.length c2, .slice q3 us.length c3], .int .i64 0]) (by simp [results, Try.results17, go_sem, y0, y1, y2, y3, y4, y5, y6]) rfl ?_
      have hsame : Same w.heap.size (w.heap.size + 2) w3 ((((w3.setCell ⟨w.heap.size, 3, none⟩ (.bool b)).setCell ⟨w.heap.size, 5, none⟩ (.slice q2 fr.length c2)).setCell ⟨w.heap.size, 6, none⟩ (.slice q3 us.length c3)).setRow (w.heap.size + 1) #[.int .i64 size, .int .i64 grain, .int .i64 quota, .bool b, .bool best, .slice q2 fr.length c2, .slice q3 us.length c3]) := (Same.set _ _ _ _ (Nat.le_refl _) (by omega)).trans ((Same.set _ _ _ _ (Nat.le_refl _) (by omega)).trans ((Same.set _ _ _ _ (Nat.le_refl _) (by omega)).trans (Same.row _ _ _ (by omega) (by omega))))
      have hge : w.heap.size + 2 ≤ w1.heap.size := by have := (Array.getElem?_eq_some_iff.1 HG1.out.hR).1; omega
      have hge2 : w.heap.size + 2 ≤ w2.heap.size := by have := (Array.getElem?_eq_some_iff.1 HG2.out.hR).1; omega
      have r7 : RdC ((((w3.setCell ⟨w.heap.size, 3, none⟩ (.bool b)).setCell ⟨w.heap.size, 5, none⟩ (.slice q2 fr.length c2)).setCell ⟨w.heap.size, 6, none⟩ (.slice q3 us.length c3)).setRow (w.heap.size + 1) #[.int .i64 size, .int .i64 grain, .int .i64 quota, .bool b, .bool best, .slice q2 fr.length c2, .slice q3 us.length c3]) _ _ _ := (((ApC.off HB2.out w.heap.size (w.heap.size + 2) hge)).same hsame).rdc
      have ru : RdC ((((w3.setCell ⟨w.heap.size, 3, none⟩ (.bool b)).setCell ⟨w.heap.size, 5, none⟩ (.slice q2 fr.length c2)).setCell ⟨w.heap.size, 6, none⟩ (.slice q3 us.length c3)).setRow (w.heap.size + 1) #[.int .i64 size, .int .i64 grain, .int .i64 quota, .bool b, .bool best, .slice q2 fr.length c2, .slice q3 us.length c3]) _ _ _ := ((ApC.off HA3.out w.heap.size (w.heap.size + 2) hge2).same hsame).rdc
      obtain ⟨pq, cq, hq2, hle2⟩ := HA3.out.form
      refine ⟨_, rfl, ?_, below_setRow (((HG3.out.hb.setCell (Nat.le_refl _) _).setCell (Nat.le_refl _) _).setCell (Nat.le_refl _) _) (by omega) _⟩
      exact ⟨_, _, rfl, r7.rd, ru, pq, cq, hq2, hle2⟩
  · go_simp
    refine hK.out _ _ (by exact trivial) (fun hHeld => ?_)
    clear hK K
    try simp only [Act.put, List.setIfInBounds_toArray, List.set_cons_zero, List.set_cons_succ]
    refine wpAnyH_ready (rs := [2]) (by kernel_rfl) (by simp) ?_
    refine AllReadyH.cons (ata (atS (atS at0))) (fun K hK => ?_) AllReadyH.nil
    go_simp
    refine hK.out _ _ (by exact trivial) (fun hHeld => ?_)
    clear hK K
    try simp only [Act.put, List.setIfInBounds_toArray, List.set_cons_zero, List.set_cons_succ]
    refine wpAnyH_take (i := 7) (v := ?_) (ata (atS (atS (atS (atS (atS (atS (atS at0)))))))) (by kernel_rfl) (by kernel_rfl) (by kernel_rfl) (fun _ _ _ h => h) (Or.inl ⟨by rfl, ?_⟩) (by assumption) ?_
    rotate_left
    · (intro w hSw; (try dsimp only at hSw); go_simp; (first | done | with_reducible rfl))
    try simp only [Act.put, List.setIfInBounds_toArray, List.set_cons_zero, List.set_cons_succ]
    refine wpAnyH_ready (rs := [3]) (by kernel_rfl) (by simp) ?_
    refine AllReadyH.cons (ata (atS (atS (atS at0)))) (fun K hK => ?_) AllReadyH.nil
    go_simp
    (go_at_call 35; refine (copiedX_any HGD.out.hf (by have := HL.out.1; show fr.length ≤ 4000; omega)).mono ?_; rintro e w2 ⟨q2, c2, rfl, hA, hb2⟩; have hz1 := HGD.out.hb.size; have g2 := HGD.out.next hb2; have HG2 := Lib.hid g2; have HA2 := Lib.hid hA; have a0 := (GW.pb g2).k0; (try dsimp only at a0); have a1 := (GW.pb g2).k1; (try dsimp only at a1); have a2 := (GW.pb g2).k2; (try dsimp only at a2); have a3 := (GW.pb g2).k3; (try dsimp only at a3); have a4 := (GW.pb g2).k4; (try dsimp only at a4); have a5 := (GW.pb g2).k5; (try dsimp only at a5); have a6 := (GW.pb g2).k6; (try dsimp only at a6); clear hb2 g2 hA)
    go_wp2_with fail
    refine hK.out _ _ (by exact trivial) (fun hHeld => ?_)
    clear hK K
    try simp only [Act.put, List.setIfInBounds_toArray, List.set_cons_zero, List.set_cons_succ]
    refine wpAnyH_ready (rs := [6]) (by kernel_rfl) (by simp) ?_
    refine AllReadyH.cons (ata (atS (atS (atS (atS (atS (atS at0))))))) (fun K hK => ?_) AllReadyH.nil
    go_simp
    (go_at_call 36; refine (copiedU_any HG2.out.hu (by have := HL.out.2; show us.length ≤ 4000; omega)).mono ?_; rintro e w3 ⟨q3, c3, rfl, hA, hb3⟩; have g3 := HG2.out.next hb3; have HG3 := Lib.hid g3; have HA3 := Lib.hid hA; have hA2 := HA2.out.next hb3; have HB2 := Lib.hid hA2; have m0 := (GW.pb g3).k0; (try dsimp only at m0); have m1 := (GW.pb g3).k1; (try dsimp only at m1); have m2 := (GW.pb g3).k2; (try dsimp only at m2); have m3 := (GW.pb g3).k3; (try dsimp only at m3); have m4 := (GW.pb g3).k4; (try dsimp only at m4); have m5 := (GW.pb g3).k5; (try dsimp only at m5); have m6 := (GW.pb g3).k6; (try dsimp only at m6); have f3 := frozen_of_row w3 _ 3 _ _ g3.hB; have f5 := frozen_of_row w3 _ 5 _ _ g3.hB; have f6 := frozen_of_row w3 _ 6 _ _ g3.hB; clear hb3 g3 hA hA2)
    go_wp2_with fail
    refine hK.out _ _ (by exact trivial) (fun hHeld => ?_)
    clear hK K
    try simp only [Act.put, List.setIfInBounds_toArray, List.set_cons_zero, List.set_cons_succ]
    refine wpAnyH_ready (rs := [8]) (by kernel_rfl) (by simp) ?_
    refine AllReadyH.cons (ata (atS (atS (atS (atS (atS (atS (atS (atS at0))))))))) (fun K hK => ?_) AllReadyH.nil
    go_simp
    refine hK.out _ _ (by exact trivial) (fun hHeld => ?_)
    clear hK K
    try simp only [Act.put, List.setIfInBounds_toArray, List.set_cons_zero, List.set_cons_succ]
    refine wpAnyH_take (i := 9) (v := ?_) (ata (atS (atS (atS (atS (atS (atS (atS (atS (atS at0)))))))))) (by kernel_rfl) (by kernel_rfl) (by kernel_rfl) (fun _ _ _ h => h) (Or.inl ⟨by rfl, ?_⟩) (by assumption) ?_
    rotate_left
    · (intro w hSw; (try dsimp only at hSw); go_simp; (first | done | with_reducible rfl))
    try simp only [Act.put, List.setIfInBounds_toArray, List.set_cons_zero, List.set_cons_succ]
    refine wpAnyH_ready (rs := [10]) (by kernel_rfl) (by simp) ?_
    refine AllReadyH.cons (ata (atS (atS (atS (atS (atS (atS (atS (atS (atS (atS at0))))))))))) (fun K hK => ?_) AllReadyH.nil
    go_simp
    refine hK.out _ _ (by exact trivial) (fun hHeld => ?_)
    clear hK K
    try simp only [Act.put, List.setIfInBounds_toArray, List.set_cons_zero, List.set_cons_succ]
    refine wpAnyH_take (i := 11) (v := ?_) (ata (atS (atS (atS (atS (atS (atS (atS (atS (atS (atS (atS at0)))))))))))) (by kernel_rfl) (by kernel_rfl) (by kernel_rfl) (fun _ _ _ h => h) (Or.inl ⟨by rfl, ?_⟩) (by assumption) ?_
    rotate_left
    · (intro w hSw; (try dsimp only at hSw); go_simp; (first | done | with_reducible rfl))
    try simp only [Act.put, List.setIfInBounds_toArray, List.set_cons_zero, List.set_cons_succ]
    refine wpAnyH_ready (rs := [12]) (by kernel_rfl) (by simp) ?_
    refine AllReadyH.cons (ata (atS (atS (atS (atS (atS (atS (atS (atS (atS (atS (atS (atS at0))))))))))))) (fun K hK => ?_) AllReadyH.nil
    go_simp
    refine hK.out _ _ (by exact trivial) (fun hHeld => ?_)
    clear hK K
    try simp only [Act.put, List.setIfInBounds_toArray, List.set_cons_zero, List.set_cons_succ]
    refine wpAnyH_done (by kernel_rfl) ?_ _
    go_wp2_with (refine wpList_store_row rfl _ _ _ rfl (w.heap.size + 1) #[.int .i64 size, .int .i64 grain, .int .i64 quota, .bool b, .bool best, .slice q2 fr.length c2, .slice q3 us.length c3] rfl rfl 25 zeroC ((Below.heap_setCell _ _ _ _ (by simp)).trans ((Below.heap_setCell _ _ _ _ (by simp)).trans ((Below.heap_setCell _ _ _ _ (by simp)).trans HG3.out.hR))) (by kernel_rfl) rfl (by kernel_rfl) ?_)
    have hR5 : (((w3.setCell ⟨w.heap.size, 3, none⟩ (.bool b)).setCell ⟨w.heap.size, 5, none⟩ (.slice q2 fr.length c2)).setCell ⟨w.heap.size, 6, none⟩ (.slice q3 us.length c3)).heap[w.heap.size + 1]? = some (.cells zeroC 25 (0, 0)) := ((Below.heap_setCell _ _ _ _ (by simp)).trans ((Below.heap_setCell _ _ _ _ (by simp)).trans ((Below.heap_setCell _ _ _ _ (by simp)).trans HG3.out.hR)))
    have y0 := row_cells hR5 (cs := #[.int .i64 size, .int .i64 grain, .int .i64 quota, .bool b, .bool best, .slice q2 fr.length c2, .slice q3 us.length c3]) 0 _ rfl
    have y1 := row_cells hR5 (cs := #[.int .i64 size, .int .i64 grain, .int .i64 quota, .bool b, .bool best, .slice q2 fr.length c2, .slice q3 us.length c3]) 1 _ rfl
    have y2 := row_cells hR5 (cs := #[.int .i64 size, .int .i64 grain, .int .i64 quota, .bool b, .bool best, .slice q2 fr.length c2, .slice q3 us.length c3]) 2 _ rfl
    have y3 := row_cells hR5 (cs := #[.int .i64 size, .int .i64 grain, .int .i64 quota, .bool b, .bool best, .slice q2 fr.length c2, .slice q3 us.length c3]) 3 _ rfl
    have y4 := row_cells hR5 (cs := #[.int .i64 size, .int .i64 grain, .int .i64 quota, .bool b, .bool best, .slice q2 fr.length c2, .slice q3 us.length c3]) 4 _ rfl
    have y5 := row_cells hR5 (cs := #[.int .i64 size, .int .i64 grain, .int .i64 quota, .bool b, .bool best, .slice q2 fr.length c2, .slice q3 us.length c3]) 5 _ rfl
    have y6 := row_cells hR5 (cs := #[.int .i64 size, .int .i64 grain, .int .i64 quota, .bool b, .bool best, .slice q2 fr.length c2, .slice q3 us.length c3]) 6 _ rfl
    refine bodyPost_ret (v := .tuple #[.agg #[.int .i64 size, .int .i64 grain, .int .i64 quota, .bool b, .bool best, .slice q2 fr.length c2, .slice q3 us.length c3], .int .i64 0]) (by simp [results, Try.results17, go_sem, y0, y1, y2, y3, y4, y5, y6]) rfl ?_
    have hsame : Same w.heap.size (w.heap.size + 2) w3 ((((w3.setCell ⟨w.heap.size, 3, none⟩ (.bool b)).setCell ⟨w.heap.size, 5, none⟩ (.slice q2 fr.length c2)).setCell ⟨w.heap.size, 6, none⟩ (.slice q3 us.length c3)).setRow (w.heap.size + 1) #[.int .i64 size, .int .i64 grain, .int .i64 quota, .bool b, .bool best, .slice q2 fr.length c2, .slice q3 us.length c3]) := (Same.set _ _ _ _ (Nat.le_refl _) (by omega)).trans ((Same.set _ _ _ _ (Nat.le_refl _) (by omega)).trans ((Same.set _ _ _ _ (Nat.le_refl _) (by omega)).trans (Same.row _ _ _ (by omega) (by omega))))
    have hge : w.heap.size + 2 ≤ w1.heap.size := by have := (Array.getElem?_eq_some_iff.1 HG1.out.hR).1; omega
    have hge2 : w.heap.size + 2 ≤ w2.heap.size := by have := (Array.getElem?_eq_some_iff.1 HG2.out.hR).1; omega
    have r7 : RdC ((((w3.setCell ⟨w.heap.size, 3, none⟩ (.bool b)).setCell ⟨w.heap.size, 5, none⟩ (.slice q2 fr.length c2)).setCell ⟨w.heap.size, 6, none⟩ (.slice q3 us.length c3)).setRow (w.heap.size + 1) #[.int .i64 size, .int .i64 grain, .int .i64 quota, .bool b, .bool best, .slice q2 fr.length c2, .slice q3 us.length c3]) _ _ _ := (((ApC.off HB2.out w.heap.size (w.heap.size + 2) hge)).same hsame).rdc
    have ru : RdC ((((w3.setCell ⟨w.heap.size, 3, none⟩ (.bool b)).setCell ⟨w.heap.size, 5, none⟩ (.slice q2 fr.length c2)).setCell ⟨w.heap.size, 6, none⟩ (.slice q3 us.length c3)).setRow (w.heap.size + 1) #[.int .i64 size, .int .i64 grain, .int .i64 quota, .bool b, .bool best, .slice q2 fr.length c2, .slice q3 us.length c3]) _ _ _ := ((ApC.off HA3.out w.heap.size (w.heap.size + 2) hge2).same hsame).rdc
    obtain ⟨pq, cq, hq2, hle2⟩ := HA3.out.form
    refine ⟨_, rfl, ?_, below_setRow (((HG3.out.hb.setCell (Nat.le_refl _) _).setCell (Nat.le_refl _) _).setCell (Nat.le_refl _) _) (by omega) _⟩
    exact ⟨_, _, rfl, r7.rd, ru, pq, cq, hq2, hle2⟩

/-- Two pools' boxes. -/
structure SW (w W : World) (p : Pl) (vf vu uf uu : Value) : Prop where
  hb : RowKit.Below w.heap.size w W
  f1 : Rd W vf p.free
  u1 : RdU W vu p.uses
  f2 : Rd W uf p.free
  u2 : RdU W uu p.uses
  b1 : PB W w.heap.size p vf vu
  b2 : PB W (w.heap.size + 1) p uf uu
theorem SW.next {w W W' : World} {p : Pl} {vf vu uf uu : Value} (h : SW w W p vf vu uf uu) (hb : RowKit.Below W.heap.size W W') : SW w W' p vf vu uf uu :=
  ⟨h.hb.trans (hb.mono h.hb.size), h.f1.next hb, h.u1.next hb, h.f2.next hb, h.u2.next hb, h.b1.next hb, h.b2.next hb⟩
theorem SW.new {w : World} {p : Pl} {vf vu uf uu : Value} (f1 : Rd w vf p.free) (u1 : RdU w vu p.uses) (f2 : Rd w uf p.free) (u2 : RdU w uu p.uses) : SW w ((w.alloc (boxP p vf vu)).alloc (boxP p uf uu)) p vf vu uf uu := by
  have hb : RowKit.Below w.heap.size w ((w.alloc (boxP p vf vu)).alloc (boxP p uf uu)) := ((Below.refl _ w).alloc (Nat.le_refl _) _).alloc (by simp) _
  have b2 := PB.new (w.alloc (boxP p vf vu)) p uf uu
  rw [World.size_alloc] at b2
  exact ⟨hb, f1.next hb, u1.next hb, f2.next hb, u2.next hb, (PB.new w p vf vu).next (below_box _ _), b2⟩
set_option maxHeartbeats 4000000 in
theorem PSame_yes {w : World} {v u : Value} {p : Pl} (h1 : PolV w v p) (h2 : PolV w u p) (hl : p.free.length ≤ 4000) (hlu : p.uses.length ≤ 4000) : Calls Try.prog 9 #[v, u] w (TellsB true w) := by
  obtain ⟨vf, vu, rfl, f1, u1⟩ := h1
  obtain ⟨uf, uu, rfl, f2, u2⟩ := h2
  have s0 := SW.new f1 u1 f2 u2
  obtain ⟨p1, c1, rfl⟩ := f1.len
  obtain ⟨p2, c2, rfl⟩ := f2.len
  obtain ⟨q1, d1, rfl, _⟩ := u1.2
  obtain ⟨q2, d2, rfl, _⟩ := u2.2
  clear f1 f2 u1 u2
  have hne : ((p.uses.length : Int) != (p.uses.length : Int)) = false := by simp
  have hdr : (!(p.drain == p.drain)) = false := by simp
  have hbe : (!(p.best == p.best)) = false := by simp
  have mixed : Try.prog.follows .mixedOrders = true := by kernel_rfl
  obtain ⟨size, grain, quota, drain, best, fr, us⟩ := p
  (try dsimp only at *)
  obtain ⟨W0, hW0⟩ : ∃ W0, (w.alloc (boxP ⟨size, grain, quota, drain, best, fr, us⟩ (.slice p1 fr.length c1) (.slice q1 us.length d1))).alloc (boxP ⟨size, grain, quota, drain, best, fr, us⟩ (.slice p2 fr.length c2) (.slice q2 us.length d2)) = W0 := ⟨_, rfl⟩
  rw [hW0] at s0
  have HS0 := Lib.hid s0
  have k0 := s0.b1.k0; (try dsimp only at k0); have k1 := s0.b1.k1; (try dsimp only at k1); have k2 := s0.b1.k2; (try dsimp only at k2); have k3 := s0.b1.k3; (try dsimp only at k3); have k4 := s0.b1.k4; (try dsimp only at k4); have k5 := s0.b1.k5; (try dsimp only at k5); have k6 := s0.b1.k6; (try dsimp only at k6)
  have m0 := s0.b2.k0; (try dsimp only at m0); have m1 := s0.b2.k1; (try dsimp only at m1); have m2 := s0.b2.k2; (try dsimp only at m2); have m3 := s0.b2.k3; (try dsimp only at m3); have m4 := s0.b2.k4; (try dsimp only at m4); have m5 := s0.b2.k5; (try dsimp only at m5); have m6 := s0.b2.k6; (try dsimp only at m6)
  clear s0
  go_enter Try.func9, Try.ntmps9
  go_upto_region 4 with (go_at_call 18; refine (Same_yes HS0.out.f1 HS0.out.f2 hl).mono ?_; rintro e w1 ⟨rfl, hb1⟩; have s1 := HS0.out.next hb1; have HS1 := Lib.hid s1; have i6 := s1.b1.k6; have j6 := s1.b2.k6; (try dsimp only at i6); (try dsimp only at j6); clear s1 hb1)
  go_loopw [5] (fun s5 wr => ∃ k : Nat, s5 = .int .i64 k ∧ k ≤ us.length ∧ ∃ q, wr = w1.drewN q) (fun s5 _ => us.length - (intOf s5).toNat)
  case atStart => exact ⟨0, rfl, Nat.zero_le _, 0, rfl⟩
  case round =>
    obtain ⟨k, rfl, hk, q, hwr⟩ := hrel
    subst hwr
    by_cases hlt : k < us.length
    · obtain ⟨b1, o1, rfl, hb1, e1, e2⟩ := HS1.out.u1.at_ hlt
      obtain ⟨b2, o2, rfl, hb2, e3, e4⟩ := HS1.out.u2.at_ hlt
      (try dsimp only at *)
      generalize us[k]! = x at *
      obtain ⟨x1, x2⟩ := x
      (try dsimp only at *)
      generalize str x1 = sx at *
      go_wp2
      go_quiet (fail)
      go_wp2
      go_roundw
      case rel => exact ⟨k + 1, by go_num, by omega, _, rfl⟩
      case measure => simp [intOf]; omega
    · obtain rfl : k = us.length := by omega
      go_wp2
      go_ret
      exact ⟨rfl, HS1.out.hb.trans ⟨rfl, rfl, rfl, Nat.le_refl _, fun _ _ => rfl⟩⟩

end Go.Proofs.Ytdjpnlkhdilakaa.gn
