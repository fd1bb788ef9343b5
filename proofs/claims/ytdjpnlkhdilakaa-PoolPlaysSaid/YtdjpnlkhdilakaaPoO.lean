/- Return: the contracts (written by gen_poO.py). -/
import Derived.Test.YtdjpnlkhdilakaaPoL
set_option linter.unusedVariables false
set_option linter.unusedSimpArgs false
set_option maxRecDepth 100000
namespace Go.Proofs.Ytdjpnlkhdilakaa.gn
open Go.RowKit Go.Shelf Go.Sort Go.Lib
open Go.Proofs.Ytdjpnlkhdilakaa.ex
open Go.Proofs.Ytdjpnlkhdilakaa.po (Nm U less Pl)

attribute [local go_sem] Oper.semAt_some
attribute [local go_sem ↓] Go.wp_at_zero Go.wp_at_succ

/-- What is given back, as far as Return asks it of the row alone. -/
structure RAsk (p : Pl) (u : Nm) (l : List X) : Prop where
  v : po.Valid p
  nm : po.Nam u
  ne : l ≠ []
  fl : Fine l
  il : po.Ins p l
theorem ROk_ask {p : Pl} {u : Nm} {l : List X} (h : po.ROk p u l) : RAsk p u l := ⟨h.v, h.nm, h.ne, h.fl, h.il⟩
set_option maxHeartbeats 4000000 in
theorem Return_1 {w : World} {v vl : Value} {p : Pl} {l : List X} (h : PolW w v p) (u : Nm) (hr : Rd w vl l) (ha : RAsk p u l) (hz : po.lk p.uses u = 0) : Calls Try.prog 15 #[v, .string (str u), vl] w (FailsR 7 w) := by
  have HV : Hid (po.Valid p) := ha.v
  have HN := fun W => name_any u W
  rw [decide_eq_true ha.nm] at HN
  have hln : (((l.length : Nat) : Int) == 0) = false := beq_eq_false_iff_ne.2 fun e => ha.ne (List.eq_nil_of_length_eq_zero (by omega))
  have hln2 : (l.length == 0) = false := beq_eq_false_iff_ne.2 fun e => ha.ne (List.eq_nil_of_length_eq_zero e)
  have hln3 : ¬ l.length = 0 := fun e => ha.ne (List.eq_nil_of_length_eq_zero e)
  have HFL := Lib.hid ha.fl
  have HIN : Hid (insB p l = true) := (insB_iff ha.fl.2.1 ha.v.vb.gp).2 ha.il
  have hgp := ha.v.vb.gp
  have HGP : Hid (0 < p.grain) := hgp
  clear hgp
  have b2 := po.lk_pos ha.v.pos u
  have b3 := po.lk_sm ha.v.pos u
  have b4 := ha.v.va
  have b5 := ha.v.vb.s.2
  have b6 := (tot_pos ha.v.vf.2.1).1
  have b9 : po.lk p.uses u ≤ 1099511627776 := by omega
  have t0 := (tot_pos ha.fl.2.1).1
  have t1 := tot_top ha.fl.2.1 ha.fl.2.2
  clear b3 b4 b5 b6
  clear ha
  obtain ⟨⟨vf, vu, rfl, hf, hu⟩, hl, hlu⟩ := h
  obtain ⟨pf, cf, rfl⟩ := hf.len
  obtain ⟨pu, cu, rfl, hle⟩ := hu.2
  have g0 := GW.new (w := w) hf hu
  have HRL := Lib.hid fun (W : World) (hb : RowKit.Below w.heap.size w W) => hr.next hb
  obtain ⟨pl, cl, rfl⟩ := hr.len
  have HUS := Lib.hid fun (W : World) (h : GW w W p (.slice pf p.free.length cf) (.slice pu p.uses.length cu)) => used_any (v := aggP p (.slice pf p.free.length cf) (.slice pu p.uses.length cu)) u ⟨_, _, rfl, h.hf, h.hu⟩ HV.out.vr (by omega)
  obtain ⟨size, grain, quota, drain, best, fr, us⟩ := p
  (try dsimp only at *)
  obtain ⟨W0, hW0⟩ : ∃ W0, (w.alloc (boxP ⟨size, grain, quota, drain, best, fr, us⟩ (.slice pf fr.length cf) (.slice pu us.length cu))).alloc (.cells zeroC 25) = W0 := ⟨_, rfl⟩
  rw [hW0] at g0
  have HL := Lib.hid (And.intro hl hlu)
  have HG0 := Lib.hid g0
  have k0 := (GW.pb g0).k0; (try dsimp only at k0); have k1 := (GW.pb g0).k1; (try dsimp only at k1); have k2 := (GW.pb g0).k2; (try dsimp only at k2); have k3 := (GW.pb g0).k3; (try dsimp only at k3); have k4 := (GW.pb g0).k4; (try dsimp only at k4); have k5 := (GW.pb g0).k5; (try dsimp only at k5); have k6 := (GW.pb g0).k6; (try dsimp only at k6)
  clear g0 hf hu hl hlu
  clear hr
  have HCF := Lib.hid (chk_fine HFL.out)
  generalize hT : tot l = T at *
  have HTE := Lib.hid hT
  clear hT
  rw [hz] at HUS
  generalize str u = su at *
  go_enter Try.func15, Try.ntmps15
  go_wp2_with (first | (go_at_call 10; refine (Check_yes (HG0.out.pw HL.out.1 HL.out.2) HV.out).mono ?_; rintro e w1 ⟨rfl, hb1⟩; have g1 := HG0.out.next hb1; have HG1 := Lib.hid g1; have j0 := (GW.pb g1).k0; (try dsimp only at j0); have j1 := (GW.pb g1).k1; (try dsimp only at j1); have j2 := (GW.pb g1).k2; (try dsimp only at j2); have j3 := (GW.pb g1).k3; (try dsimp only at j3); have j4 := (GW.pb g1).k4; (try dsimp only at j4); have j5 := (GW.pb g1).k5; (try dsimp only at j5); have j6 := (GW.pb g1).k6; (try dsimp only at j6); clear hb1 g1) | (go_at_call 21; refine (HN _).mono ?_; rintro e w1 ⟨rfl, rfl⟩) | (go_at_call 23; refine (HUS.out _ HG1.out).mono ?_; rintro e w2 ⟨rfl, hb2⟩; have g2 := HG1.out.next hb2; have HG2 := Lib.hid g2; have i0 := (GW.pb g2).k0; (try dsimp only at i0); have i1 := (GW.pb g2).k1; (try dsimp only at i1); have i2 := (GW.pb g2).k2; (try dsimp only at i2); have i3 := (GW.pb g2).k3; (try dsimp only at i3); have i4 := (GW.pb g2).k4; (try dsimp only at i4); have i5 := (GW.pb g2).k5; (try dsimp only at i5); have i6 := (GW.pb g2).k6; (try dsimp only at i6); clear hb2 g2) | (refine wpList_store_row rfl _ _ _ rfl (w.heap.size + 1) zeroC rfl rfl 25 zeroC HG2.out.hR (by kernel_rfl) rfl (by kernel_rfl) ?_))
  have y0 := row_cells HG2.out.hR (cs := zeroC) 0 _ rfl
  have y1 := row_cells HG2.out.hR (cs := zeroC) 1 _ rfl
  have y2 := row_cells HG2.out.hR (cs := zeroC) 2 _ rfl
  have y3 := row_cells HG2.out.hR (cs := zeroC) 3 _ rfl
  have y4 := row_cells HG2.out.hR (cs := zeroC) 4 _ rfl
  have y5 := row_cells HG2.out.hR (cs := zeroC) 5 _ rfl
  have y6 := row_cells HG2.out.hR (cs := zeroC) 6 _ rfl
  exact bodyPost_ret (v := .tuple #[.agg zeroC, .int .i64 7]) (by simp [results, Try.results15, go_sem, y0, y1, y2, y3, y4, y5, y6]) rfl ⟨rfl, below_setRow HG2.out.hb (by omega) _⟩
set_option maxHeartbeats 4000000 in
theorem Return_2 {w : World} {v vl : Value} {p : Pl} {l : List X} (h : PolW w v p) (u : Nm) (hr : Rd w vl l) (ha : RAsk p u l) (hz : po.lk p.uses u ≠ 0) (ht : po.lk p.uses u < tot l) : Calls Try.prog 15 #[v, .string (str u), vl] w (FailsR 110 w) := by
  have HV : Hid (po.Valid p) := ha.v
  have HN := fun W => name_any u W
  rw [decide_eq_true ha.nm] at HN
  have hln : (((l.length : Nat) : Int) == 0) = false := beq_eq_false_iff_ne.2 fun e => ha.ne (List.eq_nil_of_length_eq_zero (by omega))
  have hln2 : (l.length == 0) = false := beq_eq_false_iff_ne.2 fun e => ha.ne (List.eq_nil_of_length_eq_zero e)
  have hln3 : ¬ l.length = 0 := fun e => ha.ne (List.eq_nil_of_length_eq_zero e)
  have HFL := Lib.hid ha.fl
  have HIN : Hid (insB p l = true) := (insB_iff ha.fl.2.1 ha.v.vb.gp).2 ha.il
  have hgp := ha.v.vb.gp
  have HGP : Hid (0 < p.grain) := hgp
  clear hgp
  have b2 := po.lk_pos ha.v.pos u
  have b3 := po.lk_sm ha.v.pos u
  have b4 := ha.v.va
  have b5 := ha.v.vb.s.2
  have b6 := (tot_pos ha.v.vf.2.1).1
  have b9 : po.lk p.uses u ≤ 1099511627776 := by omega
  have t0 := (tot_pos ha.fl.2.1).1
  have t1 := tot_top ha.fl.2.1 ha.fl.2.2
  clear b3 b4 b5 b6
  have hz2 : (po.lk p.uses u == 0) = false := beq_eq_false_iff_ne.2 hz
  have d1 : decide (po.lk p.uses u < tot l) = true := decide_eq_true ht
  clear hz ht
  clear ha
  obtain ⟨⟨vf, vu, rfl, hf, hu⟩, hl, hlu⟩ := h
  obtain ⟨pf, cf, rfl⟩ := hf.len
  obtain ⟨pu, cu, rfl, hle⟩ := hu.2
  have g0 := GW.new (w := w) hf hu
  have HRL := Lib.hid fun (W : World) (hb : RowKit.Below w.heap.size w W) => hr.next hb
  obtain ⟨pl, cl, rfl⟩ := hr.len
  have HUS := Lib.hid fun (W : World) (h : GW w W p (.slice pf p.free.length cf) (.slice pu p.uses.length cu)) => used_any (v := aggP p (.slice pf p.free.length cf) (.slice pu p.uses.length cu)) u ⟨_, _, rfl, h.hf, h.hu⟩ HV.out.vr (by omega)
  obtain ⟨size, grain, quota, drain, best, fr, us⟩ := p
  (try dsimp only at *)
  obtain ⟨W0, hW0⟩ : ∃ W0, (w.alloc (boxP ⟨size, grain, quota, drain, best, fr, us⟩ (.slice pf fr.length cf) (.slice pu us.length cu))).alloc (.cells zeroC 25) = W0 := ⟨_, rfl⟩
  rw [hW0] at g0
  have HL := Lib.hid (And.intro hl hlu)
  have HG0 := Lib.hid g0
  have k0 := (GW.pb g0).k0; (try dsimp only at k0); have k1 := (GW.pb g0).k1; (try dsimp only at k1); have k2 := (GW.pb g0).k2; (try dsimp only at k2); have k3 := (GW.pb g0).k3; (try dsimp only at k3); have k4 := (GW.pb g0).k4; (try dsimp only at k4); have k5 := (GW.pb g0).k5; (try dsimp only at k5); have k6 := (GW.pb g0).k6; (try dsimp only at k6)
  clear g0 hf hu hl hlu
  clear hr
  have HCF := Lib.hid (chk_fine HFL.out)
  generalize hT : tot l = T at *
  have HTE := Lib.hid hT
  clear hT
  generalize hU : po.lk us u = has at *
  have HUE := Lib.hid hU
  clear hU
  generalize str u = su at *
  go_enter Try.func15, Try.ntmps15
  go_wp2_with (first | (go_at_call 10; refine (Check_yes (HG0.out.pw HL.out.1 HL.out.2) HV.out).mono ?_; rintro e w1 ⟨rfl, hb1⟩; have g1 := HG0.out.next hb1; have HG1 := Lib.hid g1; have j0 := (GW.pb g1).k0; (try dsimp only at j0); have j1 := (GW.pb g1).k1; (try dsimp only at j1); have j2 := (GW.pb g1).k2; (try dsimp only at j2); have j3 := (GW.pb g1).k3; (try dsimp only at j3); have j4 := (GW.pb g1).k4; (try dsimp only at j4); have j5 := (GW.pb g1).k5; (try dsimp only at j5); have j6 := (GW.pb g1).k6; (try dsimp only at j6); clear hb1 g1) | (go_at_call 21; refine (HN _).mono ?_; rintro e w1 ⟨rfl, rfl⟩) | (go_at_call 23; refine (HUS.out _ HG1.out).mono ?_; rintro e w2 ⟨rfl, hb2⟩; have g2 := HG1.out.next hb2; have HG2 := Lib.hid g2; have i0 := (GW.pb g2).k0; (try dsimp only at i0); have i1 := (GW.pb g2).k1; (try dsimp only at i1); have i2 := (GW.pb g2).k2; (try dsimp only at i2); have i3 := (GW.pb g2).k3; (try dsimp only at i3); have i4 := (GW.pb g2).k4; (try dsimp only at i4); have i5 := (GW.pb g2).k5; (try dsimp only at i5); have i6 := (GW.pb g2).k6; (try dsimp only at i6); clear hb2 g2) | (go_at_call 26; refine (check_any (HRL.out _ HG2.out.hb) HFL.out.1).mono ?_; rintro e w3 ⟨rfl, hb3⟩; rw [HCF.out]; have g3 := HG2.out.next hb3; have HG3 := Lib.hid g3; have p0 := (GW.pb g3).k0; (try dsimp only at p0); have p1 := (GW.pb g3).k1; (try dsimp only at p1); have p2 := (GW.pb g3).k2; (try dsimp only at p2); have p3 := (GW.pb g3).k3; (try dsimp only at p3); have p4 := (GW.pb g3).k4; (try dsimp only at p4); have p5 := (GW.pb g3).k5; (try dsimp only at p5); have p6 := (GW.pb g3).k6; (try dsimp only at p6); clear hb3 g3) | (go_at_call 29; refine (inside_any ⟨size, grain, quota, drain, best, fr, us⟩ (.slice pf fr.length cf) (.slice pu us.length cu) HGP.out (HRL.out _ HG3.out.hb) (by have := HFL.out.1; omega)).mono ?_; rintro e w4 ⟨rfl, hb4⟩; rw [HIN.out]; have g4 := HG3.out.next hb4; have HG4 := Lib.hid g4; have m0 := (GW.pb g4).k0; (try dsimp only at m0); have m1 := (GW.pb g4).k1; (try dsimp only at m1); have m2 := (GW.pb g4).k2; (try dsimp only at m2); have m3 := (GW.pb g4).k3; (try dsimp only at m3); have m4 := (GW.pb g4).k4; (try dsimp only at m4); have m5 := (GW.pb g4).k5; (try dsimp only at m5); have m6 := (GW.pb g4).k6; (try dsimp only at m6); clear hb4 g4) | (go_at_call 11; refine (Total_any (HRL.out _ HG4.out.hb) HFL.out).mono ?_; rintro e w5 ⟨rfl, hb5⟩; rw [HTE.out]; have g5 := HG4.out.next hb5; have HG5 := Lib.hid g5; have q0 := (GW.pb g5).k0; (try dsimp only at q0); have q1 := (GW.pb g5).k1; (try dsimp only at q1); have q2 := (GW.pb g5).k2; (try dsimp only at q2); have q3 := (GW.pb g5).k3; (try dsimp only at q3); have q4 := (GW.pb g5).k4; (try dsimp only at q4); have q5 := (GW.pb g5).k5; (try dsimp only at q5); have q6 := (GW.pb g5).k6; (try dsimp only at q6); clear hb5 g5) | (refine wpList_store_row rfl _ _ _ rfl (w.heap.size + 1) zeroC rfl rfl 25 zeroC HG5.out.hR (by kernel_rfl) rfl (by kernel_rfl) ?_))
  have y0 := row_cells HG5.out.hR (cs := zeroC) 0 _ rfl
  have y1 := row_cells HG5.out.hR (cs := zeroC) 1 _ rfl
  have y2 := row_cells HG5.out.hR (cs := zeroC) 2 _ rfl
  have y3 := row_cells HG5.out.hR (cs := zeroC) 3 _ rfl
  have y4 := row_cells HG5.out.hR (cs := zeroC) 4 _ rfl
  have y5 := row_cells HG5.out.hR (cs := zeroC) 5 _ rfl
  have y6 := row_cells HG5.out.hR (cs := zeroC) 6 _ rfl
  exact bodyPost_ret (v := .tuple #[.agg zeroC, .int .i64 110]) (by simp [results, Try.results15, go_sem, y0, y1, y2, y3, y4, y5, y6]) rfl ⟨rfl, below_setRow HG5.out.hb (by omega) _⟩
set_option maxHeartbeats 4000000 in
theorem Return_3 {w : World} {v vl : Value} {p : Pl} {l : List X} (h : PolW w v p) (u : Nm) (hr : Rd w vl l) (ha : RAsk p u l) (hz : po.lk p.uses u ≠ 0) (ht : ¬ po.lk p.uses u < tot l) (hap : ¬ Apart (p.free ++ l)) : Calls Try.prog 15 #[v, .string (str u), vl] w (FailsR 110 w) := by
  have HV : Hid (po.Valid p) := ha.v
  have HN := fun W => name_any u W
  rw [decide_eq_true ha.nm] at HN
  have hln : (((l.length : Nat) : Int) == 0) = false := beq_eq_false_iff_ne.2 fun e => ha.ne (List.eq_nil_of_length_eq_zero (by omega))
  have hln2 : (l.length == 0) = false := beq_eq_false_iff_ne.2 fun e => ha.ne (List.eq_nil_of_length_eq_zero e)
  have hln3 : ¬ l.length = 0 := fun e => ha.ne (List.eq_nil_of_length_eq_zero e)
  have HFL := Lib.hid ha.fl
  have HIN : Hid (insB p l = true) := (insB_iff ha.fl.2.1 ha.v.vb.gp).2 ha.il
  have hgp := ha.v.vb.gp
  have HGP : Hid (0 < p.grain) := hgp
  clear hgp
  have b2 := po.lk_pos ha.v.pos u
  have b3 := po.lk_sm ha.v.pos u
  have b4 := ha.v.va
  have b5 := ha.v.vb.s.2
  have b6 := (tot_pos ha.v.vf.2.1).1
  have b9 : po.lk p.uses u ≤ 1099511627776 := by omega
  have t0 := (tot_pos ha.fl.2.1).1
  have t1 := tot_top ha.fl.2.1 ha.fl.2.2
  clear b3 b4 b5 b6
  have hz2 : (po.lk p.uses u == 0) = false := beq_eq_false_iff_ne.2 hz
  have d1 : decide (po.lk p.uses u < tot l) = false := decide_eq_false ht
  have HAP : Hid (¬ Apart (p.free ++ l)) := hap
  clear hz ht hap
  clear ha
  obtain ⟨⟨vf, vu, rfl, hf, hu⟩, hl, hlu⟩ := h
  obtain ⟨pf, cf, rfl⟩ := hf.len
  obtain ⟨pu, cu, rfl, hle⟩ := hu.2
  have g0 := GW.new (w := w) hf hu
  have HRL := Lib.hid fun (W : World) (hb : RowKit.Below w.heap.size w W) => hr.next hb
  obtain ⟨pl, cl, rfl⟩ := hr.len
  have HUS := Lib.hid fun (W : World) (h : GW w W p (.slice pf p.free.length cf) (.slice pu p.uses.length cu)) => used_any (v := aggP p (.slice pf p.free.length cf) (.slice pu p.uses.length cu)) u ⟨_, _, rfl, h.hf, h.hu⟩ HV.out.vr (by omega)
  obtain ⟨size, grain, quota, drain, best, fr, us⟩ := p
  (try dsimp only at *)
  obtain ⟨W0, hW0⟩ : ∃ W0, (w.alloc (boxP ⟨size, grain, quota, drain, best, fr, us⟩ (.slice pf fr.length cf) (.slice pu us.length cu))).alloc (.cells zeroC 25) = W0 := ⟨_, rfl⟩
  rw [hW0] at g0
  have HL := Lib.hid (And.intro hl hlu)
  have HG0 := Lib.hid g0
  have k0 := (GW.pb g0).k0; (try dsimp only at k0); have k1 := (GW.pb g0).k1; (try dsimp only at k1); have k2 := (GW.pb g0).k2; (try dsimp only at k2); have k3 := (GW.pb g0).k3; (try dsimp only at k3); have k4 := (GW.pb g0).k4; (try dsimp only at k4); have k5 := (GW.pb g0).k5; (try dsimp only at k5); have k6 := (GW.pb g0).k6; (try dsimp only at k6)
  clear g0 hf hu hl hlu
  clear hr
  have HCF := Lib.hid (chk_fine HFL.out)
  generalize hT : tot l = T at *
  have HTE := Lib.hid hT
  clear hT
  generalize hU : po.lk us u = has at *
  have HUE := Lib.hid hU
  clear hU
  generalize str u = su at *
  go_enter Try.func15, Try.ntmps15
  go_wp2_with (first | (go_at_call 10; refine (Check_yes (HG0.out.pw HL.out.1 HL.out.2) HV.out).mono ?_; rintro e w1 ⟨rfl, hb1⟩; have g1 := HG0.out.next hb1; have HG1 := Lib.hid g1; have j0 := (GW.pb g1).k0; (try dsimp only at j0); have j1 := (GW.pb g1).k1; (try dsimp only at j1); have j2 := (GW.pb g1).k2; (try dsimp only at j2); have j3 := (GW.pb g1).k3; (try dsimp only at j3); have j4 := (GW.pb g1).k4; (try dsimp only at j4); have j5 := (GW.pb g1).k5; (try dsimp only at j5); have j6 := (GW.pb g1).k6; (try dsimp only at j6); clear hb1 g1) | (go_at_call 21; refine (HN _).mono ?_; rintro e w1 ⟨rfl, rfl⟩) | (go_at_call 23; refine (HUS.out _ HG1.out).mono ?_; rintro e w2 ⟨rfl, hb2⟩; have g2 := HG1.out.next hb2; have HG2 := Lib.hid g2; have i0 := (GW.pb g2).k0; (try dsimp only at i0); have i1 := (GW.pb g2).k1; (try dsimp only at i1); have i2 := (GW.pb g2).k2; (try dsimp only at i2); have i3 := (GW.pb g2).k3; (try dsimp only at i3); have i4 := (GW.pb g2).k4; (try dsimp only at i4); have i5 := (GW.pb g2).k5; (try dsimp only at i5); have i6 := (GW.pb g2).k6; (try dsimp only at i6); clear hb2 g2) | (go_at_call 26; refine (check_any (HRL.out _ HG2.out.hb) HFL.out.1).mono ?_; rintro e w3 ⟨rfl, hb3⟩; rw [HCF.out]; have g3 := HG2.out.next hb3; have HG3 := Lib.hid g3; have p0 := (GW.pb g3).k0; (try dsimp only at p0); have p1 := (GW.pb g3).k1; (try dsimp only at p1); have p2 := (GW.pb g3).k2; (try dsimp only at p2); have p3 := (GW.pb g3).k3; (try dsimp only at p3); have p4 := (GW.pb g3).k4; (try dsimp only at p4); have p5 := (GW.pb g3).k5; (try dsimp only at p5); have p6 := (GW.pb g3).k6; (try dsimp only at p6); clear hb3 g3) | (go_at_call 29; refine (inside_any ⟨size, grain, quota, drain, best, fr, us⟩ (.slice pf fr.length cf) (.slice pu us.length cu) HGP.out (HRL.out _ HG3.out.hb) (by have := HFL.out.1; omega)).mono ?_; rintro e w4 ⟨rfl, hb4⟩; rw [HIN.out]; have g4 := HG3.out.next hb4; have HG4 := Lib.hid g4; have m0 := (GW.pb g4).k0; (try dsimp only at m0); have m1 := (GW.pb g4).k1; (try dsimp only at m1); have m2 := (GW.pb g4).k2; (try dsimp only at m2); have m3 := (GW.pb g4).k3; (try dsimp only at m3); have m4 := (GW.pb g4).k4; (try dsimp only at m4); have m5 := (GW.pb g4).k5; (try dsimp only at m5); have m6 := (GW.pb g4).k6; (try dsimp only at m6); clear hb4 g4) | (go_at_call 11; refine (Total_any (HRL.out _ HG4.out.hb) HFL.out).mono ?_; rintro e w5 ⟨rfl, hb5⟩; rw [HTE.out]; have g5 := HG4.out.next hb5; have HG5 := Lib.hid g5; have q0 := (GW.pb g5).k0; (try dsimp only at q0); have q1 := (GW.pb g5).k1; (try dsimp only at q1); have q2 := (GW.pb g5).k2; (try dsimp only at q2); have q3 := (GW.pb g5).k3; (try dsimp only at q3); have q4 := (GW.pb g5).k4; (try dsimp only at q4); have q5 := (GW.pb g5).k5; (try dsimp only at q5); have q6 := (GW.pb g5).k6; (try dsimp only at q6); clear hb5 g5) | (go_at_call 34; refine (Give_no HG5.out.hf (HRL.out _ HG5.out.hb) HV.out.vf HFL.out HAP.out).mono ?_; rintro e w6 ⟨rfl, hb6⟩; have HG6 := Lib.hid (HG5.out.next hb6); clear hb6) | (refine wpList_store_row rfl _ _ _ rfl (w.heap.size + 1) zeroC rfl rfl 25 zeroC HG6.out.hR (by kernel_rfl) rfl (by kernel_rfl) ?_))
  have y0 := row_cells HG6.out.hR (cs := zeroC) 0 _ rfl
  have y1 := row_cells HG6.out.hR (cs := zeroC) 1 _ rfl
  have y2 := row_cells HG6.out.hR (cs := zeroC) 2 _ rfl
  have y3 := row_cells HG6.out.hR (cs := zeroC) 3 _ rfl
  have y4 := row_cells HG6.out.hR (cs := zeroC) 4 _ rfl
  have y5 := row_cells HG6.out.hR (cs := zeroC) 5 _ rfl
  have y6 := row_cells HG6.out.hR (cs := zeroC) 6 _ rfl
  exact bodyPost_ret (v := .tuple #[.agg zeroC, .int .i64 110]) (by simp [results, Try.results15, go_sem, y0, y1, y2, y3, y4, y5, y6]) rfl ⟨rfl, below_setRow HG6.out.hb (by omega) _⟩
set_option maxHeartbeats 8000000 in
theorem Return_new {w : World} {v vl : Value} {p : Pl} {l : List X} (h : PolW w v p) (u : Nm) (hr : Rd w vl l) (hok : po.ROk p u l) :
    Calls Try.prog 15 #[v, .string (str u), vl] w fun e w' => ∃ va, e = .returned (.tuple #[va, .int .i64 0]) ∧ PolN w.heap.size w' va (po.rP p u l) ∧ RowKit.Below w.heap.size w w' := by
  have ha := ROk_ask hok
  have HOK := Lib.hid hok
  have HV : Hid (po.Valid p) := ha.v
  have HN := fun W => name_any u W
  rw [decide_eq_true ha.nm] at HN
  have hln : (((l.length : Nat) : Int) == 0) = false := beq_eq_false_iff_ne.2 fun e => ha.ne (List.eq_nil_of_length_eq_zero (by omega))
  have hln2 : (l.length == 0) = false := beq_eq_false_iff_ne.2 fun e => ha.ne (List.eq_nil_of_length_eq_zero e)
  have hln3 : ¬ l.length = 0 := fun e => ha.ne (List.eq_nil_of_length_eq_zero e)
  have HFL := Lib.hid ha.fl
  have HIN : Hid (insB p l = true) := (insB_iff ha.fl.2.1 ha.v.vb.gp).2 ha.il
  have hgp := ha.v.vb.gp
  have HGP : Hid (0 < p.grain) := hgp
  clear hgp
  have b2 := po.lk_pos ha.v.pos u
  have b3 := po.lk_sm ha.v.pos u
  have b4 := ha.v.va
  have b5 := ha.v.vb.s.2
  have b6 := (tot_pos ha.v.vf.2.1).1
  have b9 : po.lk p.uses u ≤ 1099511627776 := by omega
  have t0 := (tot_pos ha.fl.2.1).1
  have t1 := tot_top ha.fl.2.1 ha.fl.2.2
  clear b3 b4 b5 b6
  have t2 := (tot_pos ha.fl.2.1).2 ha.ne
  have t3 := hok.le
  have hz2 : (po.lk p.uses u == 0) = false := beq_eq_false_iff_ne.2 (by omega)
  have d1 : decide (po.lk p.uses u < tot l) = false := decide_eq_false (by omega)
  have HRP : Hid (po.rP p u l = ⟨p.size, p.grain, p.quota, p.drain, p.best, nrm (p.free ++ l), po.withU p.uses u (po.lk p.uses u - tot l)⟩) := rfl
  clear hok ha
  obtain ⟨⟨vf, vu, rfl, hf, hu⟩, hl, hlu⟩ := h
  obtain ⟨pf, cf, rfl⟩ := hf.len
  obtain ⟨pu, cu, rfl, hle⟩ := hu.2
  have g0 := GW.new (w := w) hf hu
  have HRL := Lib.hid fun (W : World) (hb : RowKit.Below w.heap.size w W) => hr.next hb
  obtain ⟨pl, cl, rfl⟩ := hr.len
  have HUS := Lib.hid fun (W : World) (h : GW w W p (.slice pf p.free.length cf) (.slice pu p.uses.length cu)) => used_any (v := aggP p (.slice pf p.free.length cf) (.slice pu p.uses.length cu)) u ⟨_, _, rfl, h.hf, h.hu⟩ HV.out.vr (by omega)
  have HWI := Lib.hid fun (W : World) (h : GW w W p (.slice pf p.free.length cf) (.slice pu p.uses.length cu)) => with_any u (po.lk p.uses u - tot l) h.hu HV.out.vr (by omega)
  obtain ⟨size, grain, quota, drain, best, fr, us⟩ := p
  (try dsimp only at *)
  obtain ⟨W0, hW0⟩ : ∃ W0, (w.alloc (boxP ⟨size, grain, quota, drain, best, fr, us⟩ (.slice pf fr.length cf) (.slice pu us.length cu))).alloc (.cells zeroC 25) = W0 := ⟨_, rfl⟩
  rw [hW0] at g0
  have HL := Lib.hid (And.intro hl hlu)
  have HG0 := Lib.hid g0
  have k0 := (GW.pb g0).k0; (try dsimp only at k0); have k1 := (GW.pb g0).k1; (try dsimp only at k1); have k2 := (GW.pb g0).k2; (try dsimp only at k2); have k3 := (GW.pb g0).k3; (try dsimp only at k3); have k4 := (GW.pb g0).k4; (try dsimp only at k4); have k5 := (GW.pb g0).k5; (try dsimp only at k5); have k6 := (GW.pb g0).k6; (try dsimp only at k6)
  clear g0 hf hu hl hlu
  clear hr
  have HCF := Lib.hid (chk_fine HFL.out)
  generalize hT : tot l = T at *
  have HTE := Lib.hid hT
  clear hT
  generalize hU : po.lk us u = has at *
  have HUE := Lib.hid hU
  clear hU
  generalize hUW : po.withU us u (has - T) = UW at *
  have hwr : IntKind.i64.wrap (has - T) = has - T := by rw [IntKind.wrap_i64]; omega
  have mixed : Try.prog.follows .mixedOrders = true := by kernel_rfl
  generalize str u = su at *
  go_enter Try.func15, Try.ntmps15
  go_upto_region 11 with (first | (go_at_call 10; refine (Check_yes (HG0.out.pw HL.out.1 HL.out.2) HV.out).mono ?_; rintro e w1 ⟨rfl, hb1⟩; have g1 := HG0.out.next hb1; have HG1 := Lib.hid g1; have j0 := (GW.pb g1).k0; (try dsimp only at j0); have j1 := (GW.pb g1).k1; (try dsimp only at j1); have j2 := (GW.pb g1).k2; (try dsimp only at j2); have j3 := (GW.pb g1).k3; (try dsimp only at j3); have j4 := (GW.pb g1).k4; (try dsimp only at j4); have j5 := (GW.pb g1).k5; (try dsimp only at j5); have j6 := (GW.pb g1).k6; (try dsimp only at j6); clear hb1 g1) | (go_at_call 21; refine (HN _).mono ?_; rintro e w1 ⟨rfl, rfl⟩) | (go_at_call 23; refine (HUS.out _ HG1.out).mono ?_; rintro e w2 ⟨rfl, hb2⟩; have g2 := HG1.out.next hb2; have HG2 := Lib.hid g2; have i0 := (GW.pb g2).k0; (try dsimp only at i0); have i1 := (GW.pb g2).k1; (try dsimp only at i1); have i2 := (GW.pb g2).k2; (try dsimp only at i2); have i3 := (GW.pb g2).k3; (try dsimp only at i3); have i4 := (GW.pb g2).k4; (try dsimp only at i4); have i5 := (GW.pb g2).k5; (try dsimp only at i5); have i6 := (GW.pb g2).k6; (try dsimp only at i6); clear hb2 g2) | (go_at_call 26; refine (check_any (HRL.out _ HG2.out.hb) HFL.out.1).mono ?_; rintro e w3 ⟨rfl, hb3⟩; rw [HCF.out]; have g3 := HG2.out.next hb3; have HG3 := Lib.hid g3; have p0 := (GW.pb g3).k0; (try dsimp only at p0); have p1 := (GW.pb g3).k1; (try dsimp only at p1); have p2 := (GW.pb g3).k2; (try dsimp only at p2); have p3 := (GW.pb g3).k3; (try dsimp only at p3); have p4 := (GW.pb g3).k4; (try dsimp only at p4); have p5 := (GW.pb g3).k5; (try dsimp only at p5); have p6 := (GW.pb g3).k6; (try dsimp only at p6); clear hb3 g3) | (go_at_call 29; refine (inside_any ⟨size, grain, quota, drain, best, fr, us⟩ (.slice pf fr.length cf) (.slice pu us.length cu) HGP.out (HRL.out _ HG3.out.hb) (by have := HFL.out.1; omega)).mono ?_; rintro e w4 ⟨rfl, hb4⟩; rw [HIN.out]; have g4 := HG3.out.next hb4; have HG4 := Lib.hid g4; have m0 := (GW.pb g4).k0; (try dsimp only at m0); have m1 := (GW.pb g4).k1; (try dsimp only at m1); have m2 := (GW.pb g4).k2; (try dsimp only at m2); have m3 := (GW.pb g4).k3; (try dsimp only at m3); have m4 := (GW.pb g4).k4; (try dsimp only at m4); have m5 := (GW.pb g4).k5; (try dsimp only at m5); have m6 := (GW.pb g4).k6; (try dsimp only at m6); clear hb4 g4) | (go_at_call 11; refine (Total_any (HRL.out _ HG4.out.hb) HFL.out).mono ?_; rintro e w5 ⟨rfl, hb5⟩; rw [HTE.out]; have g5 := HG4.out.next hb5; have HG5 := Lib.hid g5; have q0 := (GW.pb g5).k0; (try dsimp only at q0); have q1 := (GW.pb g5).k1; (try dsimp only at q1); have q2 := (GW.pb g5).k2; (try dsimp only at q2); have q3 := (GW.pb g5).k3; (try dsimp only at q3); have q4 := (GW.pb g5).k4; (try dsimp only at q4); have q5 := (GW.pb g5).k5; (try dsimp only at q5); have q6 := (GW.pb g5).k6; (try dsimp only at q6); clear hb5 g5) | (go_at_call 34; refine (Give_yes HG5.out.hf (HRL.out _ HG5.out.hb) HV.out.vf HFL.out HOK.out.ap HOK.out.ln).mono ?_; rintro e w6 ⟨v6, rfl, O6, hb6⟩; obtain ⟨p6, c6, hv6⟩ := O6.rd.len; subst hv6; have hz5 := HG5.out.hb.size; have g6 := HG5.out.next hb6; have HG6 := Lib.hid g6; have HO6 := Lib.hid O6; have a0 := (GW.pb g6).k0; (try dsimp only at a0); have a1 := (GW.pb g6).k1; (try dsimp only at a1); have a2 := (GW.pb g6).k2; (try dsimp only at a2); have a3 := (GW.pb g6).k3; (try dsimp only at a3); have a4 := (GW.pb g6).k4; (try dsimp only at a4); have a5 := (GW.pb g6).k5; (try dsimp only at a5); have a6 := (GW.pb g6).k6; (try dsimp only at a6); clear hb6 g6 O6))
  have HJ := Lib.hid HRP
  obtain ⟨J, hJ⟩ : ∃ J, nrm (fr ++ l) = J := ⟨_, rfl⟩
  rw [hJ] at HRP HO6 ⊢
  have gD := HG6.out.next (Below.refl _ w6).drew
  have HGD := Lib.hid gD
  have oD := HO6.out.next (Below.refl _ w6).drew
  have HOD := Lib.hid oD
  clear gD oD HJ hJ
  refine wp_region_held_drew (S := (fun _ => True)) (by kernel_rfl) (by exact trivial) (fun hHeld => ?_)
  refine wpAnyH_take (i := 0) (v := ?_) (ata at0) (by kernel_rfl) (by kernel_rfl) (by kernel_rfl) (fun _ _ _ h => h) (Or.inl ⟨by rfl, ?_⟩) (by assumption) ?_
  rotate_left
  · (intro w hSw; (try dsimp only at hSw); go_simp; (first | done | with_reducible rfl))
  try simp only [Act.put, List.setIfInBounds_toArray, List.set_cons_zero, List.set_cons_succ]
  refine wpAnyH_take (i := 1) (v := ?_) (ata (atS at0)) (by kernel_rfl) (by kernel_rfl) (by kernel_rfl) (fun _ _ _ h => h) (Or.inl ⟨by rfl, ?_⟩) (by assumption) ?_
  rotate_left
  · (intro w hSw; (try dsimp only at hSw); go_simp; (first | done | with_reducible rfl))
  try simp only [Act.put, List.setIfInBounds_toArray, List.set_cons_zero, List.set_cons_succ]
  refine wpAnyH_take (i := 3) (v := ?_) (ata (atS (atS (atS at0)))) (by kernel_rfl) (by kernel_rfl) (by kernel_rfl) (fun _ _ _ h => h) (Or.inl ⟨by rfl, ?_⟩) (by assumption) ?_
  rotate_left
  · (intro w hSw; (try dsimp only at hSw); go_simp; (first | done | with_reducible rfl))
  try simp only [Act.put, List.setIfInBounds_toArray, List.set_cons_zero, List.set_cons_succ]
  refine wpAnyH_take (i := 4) (v := ?_) (ata (atS (atS (atS (atS at0))))) (by kernel_rfl) (by kernel_rfl) (by kernel_rfl) (fun _ _ _ h => h) (Or.inl ⟨by rfl, ?_⟩) (by assumption) ?_
  rotate_left
  · (intro w hSw; (try dsimp only at hSw); go_simp; (first | done | with_reducible rfl))
  try simp only [Act.put, List.setIfInBounds_toArray, List.set_cons_zero, List.set_cons_succ]
  refine wpAnyH_take (i := 5) (v := ?_) (ata (atS (atS (atS (atS (atS at0)))))) (by kernel_rfl) (by kernel_rfl) (by kernel_rfl) (fun _ _ _ h => h) (Or.inl ⟨by rfl, ?_⟩) (by assumption) ?_
  rotate_left
  · (intro w hSw; (try dsimp only at hSw); go_simp; (first | done | with_reducible rfl))
  try simp only [Act.put, List.setIfInBounds_toArray, List.set_cons_zero, List.set_cons_succ]
  refine wpAnyH_ready (rs := [2, 6]) (by kernel_rfl) (by simp) ?_
  refine AllReadyH.cons (ata (atS (atS at0))) (fun K hK => ?_) (AllReadyH.cons (ata (atS (atS (atS (atS (atS (atS at0))))))) (fun K hK => ?_) AllReadyH.nil)
  · go_simp
    refine hK.out _ _ (by exact trivial) (fun hHeld => ?_)
    clear hK K
    try simp only [Act.put, List.setIfInBounds_toArray, List.set_cons_zero, List.set_cons_succ]
    refine wpAnyH_take (i := 9) (v := ?_) (ata (atS (atS (atS (atS (atS (atS (atS (atS (atS at0)))))))))) (by kernel_rfl) (by kernel_rfl) (by kernel_rfl) (fun _ _ _ h => h) (Or.inl ⟨by rfl, ?_⟩) (by assumption) ?_
    rotate_left
    · (intro w hSw; (try dsimp only at hSw); go_simp; (first | done | with_reducible rfl))
    try simp only [Act.put, List.setIfInBounds_toArray, List.set_cons_zero, List.set_cons_succ]
    refine wpAnyH_ready (rs := [6]) (by kernel_rfl) (by simp) ?_
    refine AllReadyH.cons (ata (atS (atS (atS (atS (atS (atS at0))))))) (fun K hK => ?_) AllReadyH.nil
    go_simp
    (go_at_call 11; refine (Total_any (HRL.out _ HGD.out.hb) HFL.out).mono ?_; rintro e w7 ⟨rfl, hb7⟩; rw [HTE.out]; have g7 := HGD.out.next hb7; have HG7 := Lib.hid g7; have O7 := HOD.out.next hb7; have HO7 := Lib.hid O7; have b0 := (GW.pb g7).k0; (try dsimp only at b0); have b1 := (GW.pb g7).k1; (try dsimp only at b1); have b2 := (GW.pb g7).k2; (try dsimp only at b2); have b3 := (GW.pb g7).k3; (try dsimp only at b3); have b4 := (GW.pb g7).k4; (try dsimp only at b4); have b5 := (GW.pb g7).k5; (try dsimp only at b5); have b6 := (GW.pb g7).k6; (try dsimp only at b6); clear hb7 g7 O7)
    go_wp2_with fail
    refine hK.out _ _ (by exact trivial) (fun hHeld => ?_)
    clear hK K
    try simp only [Act.put, List.setIfInBounds_toArray, List.set_cons_zero, List.set_cons_succ]
    refine wpAnyH_take (i := 7) (v := ?_) (ata (atS (atS (atS (atS (atS (atS (atS at0)))))))) (by kernel_rfl) (by kernel_rfl) (by kernel_rfl) (fun _ _ _ h => h) (Or.inl ⟨by rfl, ?_⟩) (by assumption) ?_
    rotate_left
    · (intro w hSw; (try dsimp only at hSw); go_simp; (first | done | with_reducible rfl))
    try simp only [Act.put, List.setIfInBounds_toArray, List.set_cons_zero, List.set_cons_succ]
    refine wpAnyH_ready (rs := [8]) (by kernel_rfl) (by simp) ?_
    refine AllReadyH.cons (ata (atS (atS (atS (atS (atS (atS (atS (atS at0))))))))) (fun K hK => ?_) AllReadyH.nil
    go_simp
    (go_at_call 25; refine (HWI.out _ HG7.out).mono ?_; rintro e w8 ⟨qw, cw, rfl, hA, hb8⟩; have g8 := HG7.out.next hb8; have HG8 := Lib.hid g8; have O8 := HO7.out.next hb8; have HO8 := Lib.hid O8; have m0 := (GW.pb g8).k0; (try dsimp only at m0); have m1 := (GW.pb g8).k1; (try dsimp only at m1); have m2 := (GW.pb g8).k2; (try dsimp only at m2); have m3 := (GW.pb g8).k3; (try dsimp only at m3); have m4 := (GW.pb g8).k4; (try dsimp only at m4); have m5 := (GW.pb g8).k5; (try dsimp only at m5); have m6 := (GW.pb g8).k6; (try dsimp only at m6); have f5 := frozen_of_row w8 _ 5 _ _ g8.hB; have f6 := frozen_of_row w8 _ 6 _ _ g8.hB; have HA8 := Lib.hid hA; clear hA hb8 g8 O8)
    go_wp2_with fail
    refine hK.out _ _ (by exact trivial) (fun hHeld => ?_)
    clear hK K
    try simp only [Act.put, List.setIfInBounds_toArray, List.set_cons_zero, List.set_cons_succ]
    refine wpAnyH_ready (rs := [10]) (by kernel_rfl) (by simp) ?_
    refine AllReadyH.cons (ata (atS (atS (atS (atS (atS (atS (atS (atS (atS (atS at0))))))))))) (fun K hK => ?_) AllReadyH.nil
    go_simp
    refine hK.out _ _ (by exact trivial) (fun hHeld => ?_)
    clear hK K
    try simp only [Act.put, List.setIfInBounds_toArray, List.set_cons_zero, List.set_cons_succ]
    refine wpAnyH_take (i := 11) (v := ?_) (ata (atS (atS (atS (atS (atS (atS (atS (atS (atS (atS (atS at0)))))))))))) (by kernel_rfl) (by kernel_rfl) (by kernel_rfl) (fun _ _ _ h => h) (Or.inl ⟨by rfl, ?_⟩) (by assumption) ?_
    rotate_left
    · (intro w hSw; (try dsimp only at hSw); go_simp; (first | done | with_reducible rfl))
    try simp only [Act.put, List.setIfInBounds_toArray, List.set_cons_zero, List.set_cons_succ]
    refine wpAnyH_ready (rs := [12]) (by kernel_rfl) (by simp) ?_
    refine AllReadyH.cons (ata (atS (atS (atS (atS (atS (atS (atS (atS (atS (atS (atS (atS at0))))))))))))) (fun K hK => ?_) AllReadyH.nil
    go_simp
    refine hK.out _ _ (by exact trivial) (fun hHeld => ?_)
    clear hK K
    try simp only [Act.put, List.setIfInBounds_toArray, List.set_cons_zero, List.set_cons_succ]
    refine wpAnyH_done (by kernel_rfl) ?_ _
    go_wp2_with (refine wpList_store_row rfl _ _ _ rfl (w.heap.size + 1) #[.int .i64 size, .int .i64 grain, .int .i64 quota, .bool drain, .bool best, .slice p6 J.length c6, .slice qw UW.length cw] rfl rfl 25 zeroC ((Below.heap_setCell _ _ _ _ (by simp)).trans ((Below.heap_setCell _ _ _ _ (by simp)).trans HG8.out.hR)) (by kernel_rfl) rfl (by kernel_rfl) ?_)
    have hR5 : ((w8.setCell ⟨w.heap.size, 5, none⟩ (.slice p6 J.length c6)).setCell ⟨w.heap.size, 6, none⟩ (.slice qw UW.length cw)).heap[w.heap.size + 1]? = some (.cells zeroC 25 (0, 0)) := (Below.heap_setCell _ _ _ _ (by simp)).trans ((Below.heap_setCell _ _ _ _ (by simp)).trans HG8.out.hR)
    have y0 := row_cells hR5 (cs := #[.int .i64 size, .int .i64 grain, .int .i64 quota, .bool drain, .bool best, .slice p6 J.length c6, .slice qw UW.length cw]) 0 _ rfl
    have y1 := row_cells hR5 (cs := #[.int .i64 size, .int .i64 grain, .int .i64 quota, .bool drain, .bool best, .slice p6 J.length c6, .slice qw UW.length cw]) 1 _ rfl
    have y2 := row_cells hR5 (cs := #[.int .i64 size, .int .i64 grain, .int .i64 quota, .bool drain, .bool best, .slice p6 J.length c6, .slice qw UW.length cw]) 2 _ rfl
    have y3 := row_cells hR5 (cs := #[.int .i64 size, .int .i64 grain, .int .i64 quota, .bool drain, .bool best, .slice p6 J.length c6, .slice qw UW.length cw]) 3 _ rfl
    have y4 := row_cells hR5 (cs := #[.int .i64 size, .int .i64 grain, .int .i64 quota, .bool drain, .bool best, .slice p6 J.length c6, .slice qw UW.length cw]) 4 _ rfl
    have y5 := row_cells hR5 (cs := #[.int .i64 size, .int .i64 grain, .int .i64 quota, .bool drain, .bool best, .slice p6 J.length c6, .slice qw UW.length cw]) 5 _ rfl
    have y6 := row_cells hR5 (cs := #[.int .i64 size, .int .i64 grain, .int .i64 quota, .bool drain, .bool best, .slice p6 J.length c6, .slice qw UW.length cw]) 6 _ rfl
    refine bodyPost_ret (v := .tuple #[.agg #[.int .i64 size, .int .i64 grain, .int .i64 quota, .bool drain, .bool best, .slice p6 J.length c6, .slice qw UW.length cw], .int .i64 0]) (by simp [results, Try.results15, go_sem, y0, y1, y2, y3, y4, y5, y6]) rfl ?_
    have hsame : Same 0 (w.heap.size + 2) w8 (((w8.setCell ⟨w.heap.size, 5, none⟩ (.slice p6 J.length c6)).setCell ⟨w.heap.size, 6, none⟩ (.slice qw UW.length cw)).setRow (w.heap.size + 1) #[.int .i64 size, .int .i64 grain, .int .i64 quota, .bool drain, .bool best, .slice p6 J.length c6, .slice qw UW.length cw]) := (Same.set _ _ _ _ (Nat.zero_le _) (by omega)).trans ((Same.set _ _ _ _ (Nat.zero_le _) (by omega)).trans (Same.row _ _ _ (Nat.zero_le _) (by omega)))
    have hge : w.heap.size + 2 ≤ w5.heap.size := by have := (Array.getElem?_eq_some_iff.1 HG5.out.hR).1; omega
    have hge7 : w.heap.size + 2 ≤ w7.heap.size := by have := (Array.getElem?_eq_some_iff.1 HG7.out.hR).1; omega
    have r7 : RdO 0 w.heap.size (((w8.setCell ⟨w.heap.size, 5, none⟩ (.slice p6 J.length c6)).setCell ⟨w.heap.size, 6, none⟩ (.slice qw UW.length cw)).setRow (w.heap.size + 1) #[.int .i64 size, .int .i64 grain, .int .i64 quota, .bool drain, .bool best, .slice p6 J.length c6, .slice qw UW.length cw]) _ _ _ := (((ApC.off (.inr HO8.out) 0 (w.heap.size + 2) hge)).same hsame).sub (Nat.le_refl _) (by omega)
    have ru : RdO 0 w.heap.size (((w8.setCell ⟨w.heap.size, 5, none⟩ (.slice p6 J.length c6)).setCell ⟨w.heap.size, 6, none⟩ (.slice qw UW.length cw)).setRow (w.heap.size + 1) #[.int .i64 size, .int .i64 grain, .int .i64 quota, .bool drain, .bool best, .slice p6 J.length c6, .slice qw UW.length cw]) _ _ _ := ((ApC.off HA8.out 0 (w.heap.size + 2) hge7).same hsame).sub (Nat.le_refl _) (by omega)
    obtain ⟨pq, cq, hq2, hle2⟩ := HA8.out.form
    refine ⟨_, rfl, ?_, below_setRow (((HG8.out.hb.setCell (Nat.le_refl _) _).setCell (Nat.le_refl _) _)) (by omega) _⟩
    rw [HRP.out]
    exact ⟨_, _, rfl, r7, ru, pq, cq, hq2, hle2⟩
  · go_simp
    (go_at_call 11; refine (Total_any (HRL.out _ HGD.out.hb) HFL.out).mono ?_; rintro e w7 ⟨rfl, hb7⟩; rw [HTE.out]; have g7 := HGD.out.next hb7; have HG7 := Lib.hid g7; have O7 := HOD.out.next hb7; have HO7 := Lib.hid O7; have b0 := (GW.pb g7).k0; (try dsimp only at b0); have b1 := (GW.pb g7).k1; (try dsimp only at b1); have b2 := (GW.pb g7).k2; (try dsimp only at b2); have b3 := (GW.pb g7).k3; (try dsimp only at b3); have b4 := (GW.pb g7).k4; (try dsimp only at b4); have b5 := (GW.pb g7).k5; (try dsimp only at b5); have b6 := (GW.pb g7).k6; (try dsimp only at b6); clear hb7 g7 O7)
    go_wp2_with fail
    refine hK.out _ _ (by exact trivial) (fun hHeld => ?_)
    clear hK K
    try simp only [Act.put, List.setIfInBounds_toArray, List.set_cons_zero, List.set_cons_succ]
    refine wpAnyH_take (i := 7) (v := ?_) (ata (atS (atS (atS (atS (atS (atS (atS at0)))))))) (by kernel_rfl) (by kernel_rfl) (by kernel_rfl) (fun _ _ _ h => h) (Or.inl ⟨by rfl, ?_⟩) (by assumption) ?_
    rotate_left
    · (intro w hSw; (try dsimp only at hSw); go_simp; (first | done | with_reducible rfl))
    try simp only [Act.put, List.setIfInBounds_toArray, List.set_cons_zero, List.set_cons_succ]
    refine wpAnyH_ready (rs := [2]) (by kernel_rfl) (by simp) ?_
    refine AllReadyH.cons (ata (atS (atS at0))) (fun K hK => ?_) AllReadyH.nil
    go_simp
    refine hK.out _ _ (by exact trivial) (fun hHeld => ?_)
    clear hK K
    try simp only [Act.put, List.setIfInBounds_toArray, List.set_cons_zero, List.set_cons_succ]
    refine wpAnyH_take (i := 9) (v := ?_) (ata (atS (atS (atS (atS (atS (atS (atS (atS (atS at0)))))))))) (by kernel_rfl) (by kernel_rfl) (by kernel_rfl) (fun _ _ _ h => h) (Or.inl ⟨by rfl, ?_⟩) (by assumption) ?_
    rotate_left
    · (intro w hSw; (try dsimp only at hSw); go_simp; (first | done | with_reducible rfl))
    try simp only [Act.put, List.setIfInBounds_toArray, List.set_cons_zero, List.set_cons_succ]
    refine wpAnyH_ready (rs := [8]) (by kernel_rfl) (by simp) ?_
    refine AllReadyH.cons (ata (atS (atS (atS (atS (atS (atS (atS (atS at0))))))))) (fun K hK => ?_) AllReadyH.nil
    go_simp
    (go_at_call 25; refine (HWI.out _ HG7.out).mono ?_; rintro e w8 ⟨qw, cw, rfl, hA, hb8⟩; have g8 := HG7.out.next hb8; have HG8 := Lib.hid g8; have O8 := HO7.out.next hb8; have HO8 := Lib.hid O8; have m0 := (GW.pb g8).k0; (try dsimp only at m0); have m1 := (GW.pb g8).k1; (try dsimp only at m1); have m2 := (GW.pb g8).k2; (try dsimp only at m2); have m3 := (GW.pb g8).k3; (try dsimp only at m3); have m4 := (GW.pb g8).k4; (try dsimp only at m4); have m5 := (GW.pb g8).k5; (try dsimp only at m5); have m6 := (GW.pb g8).k6; (try dsimp only at m6); have f5 := frozen_of_row w8 _ 5 _ _ g8.hB; have f6 := frozen_of_row w8 _ 6 _ _ g8.hB; have HA8 := Lib.hid hA; clear hA hb8 g8 O8)
    go_wp2_with fail
    refine hK.out _ _ (by exact trivial) (fun hHeld => ?_)
    clear hK K
    try simp only [Act.put, List.setIfInBounds_toArray, List.set_cons_zero, List.set_cons_succ]
    refine wpAnyH_ready (rs := [10]) (by kernel_rfl) (by simp) ?_
    refine AllReadyH.cons (ata (atS (atS (atS (atS (atS (atS (atS (atS (atS (atS at0))))))))))) (fun K hK => ?_) AllReadyH.nil
    go_simp
    refine hK.out _ _ (by exact trivial) (fun hHeld => ?_)
    clear hK K
    try simp only [Act.put, List.setIfInBounds_toArray, List.set_cons_zero, List.set_cons_succ]
    refine wpAnyH_take (i := 11) (v := ?_) (ata (atS (atS (atS (atS (atS (atS (atS (atS (atS (atS (atS at0)))))))))))) (by kernel_rfl) (by kernel_rfl) (by kernel_rfl) (fun _ _ _ h => h) (Or.inl ⟨by rfl, ?_⟩) (by assumption) ?_
    rotate_left
    · (intro w hSw; (try dsimp only at hSw); go_simp; (first | done | with_reducible rfl))
    try simp only [Act.put, List.setIfInBounds_toArray, List.set_cons_zero, List.set_cons_succ]
    refine wpAnyH_ready (rs := [12]) (by kernel_rfl) (by simp) ?_
    refine AllReadyH.cons (ata (atS (atS (atS (atS (atS (atS (atS (atS (atS (atS (atS (atS at0))))))))))))) (fun K hK => ?_) AllReadyH.nil
    go_simp
    refine hK.out _ _ (by exact trivial) (fun hHeld => ?_)
    clear hK K
    try simp only [Act.put, List.setIfInBounds_toArray, List.set_cons_zero, List.set_cons_succ]
    refine wpAnyH_done (by kernel_rfl) ?_ _
    go_wp2_with (refine wpList_store_row rfl _ _ _ rfl (w.heap.size + 1) #[.int .i64 size, .int .i64 grain, .int .i64 quota, .bool drain, .bool best, .slice p6 J.length c6, .slice qw UW.length cw] rfl rfl 25 zeroC ((Below.heap_setCell _ _ _ _ (by simp)).trans ((Below.heap_setCell _ _ _ _ (by simp)).trans HG8.out.hR)) (by kernel_rfl) rfl (by kernel_rfl) ?_)
    have hR5 : ((w8.setCell ⟨w.heap.size, 5, none⟩ (.slice p6 J.length c6)).setCell ⟨w.heap.size, 6, none⟩ (.slice qw UW.length cw)).heap[w.heap.size + 1]? = some (.cells zeroC 25 (0, 0)) := (Below.heap_setCell _ _ _ _ (by simp)).trans ((Below.heap_setCell _ _ _ _ (by simp)).trans HG8.out.hR)
    have y0 := row_cells hR5 (cs := #[.int .i64 size, .int .i64 grain, .int .i64 quota, .bool drain, .bool best, .slice p6 J.length c6, .slice qw UW.length cw]) 0 _ rfl
    have y1 := row_cells hR5 (cs := #[.int .i64 size, .int .i64 grain, .int .i64 quota, .bool drain, .bool best, .slice p6 J.length c6, .slice qw UW.length cw]) 1 _ rfl
    have y2 := row_cells hR5 (cs := #[.int .i64 size, .int .i64 grain, .int .i64 quota, .bool drain, .bool best, .slice p6 J.length c6, .slice qw UW.length cw]) 2 _ rfl
    have y3 := row_cells hR5 (cs := #[.int .i64 size, .int .i64 grain, .int .i64 quota, .bool drain, .bool best, .slice p6 J.length c6, .slice qw UW.length cw]) 3 _ rfl
    have y4 := row_cells hR5 (cs := #[.int .i64 size, .int .i64 grain, .int .i64 quota, .bool drain, .bool best, .slice p6 J.length c6, .slice qw UW.length cw]) 4 _ rfl
    have y5 := row_cells hR5 (cs := #[.int .i64 size, .int .i64 grain, .int .i64 quota, .bool drain, .bool best, .slice p6 J.length c6, .slice qw UW.length cw]) 5 _ rfl
    have y6 := row_cells hR5 (cs := #[.int .i64 size, .int .i64 grain, .int .i64 quota, .bool drain, .bool best, .slice p6 J.length c6, .slice qw UW.length cw]) 6 _ rfl
    refine bodyPost_ret (v := .tuple #[.agg #[.int .i64 size, .int .i64 grain, .int .i64 quota, .bool drain, .bool best, .slice p6 J.length c6, .slice qw UW.length cw], .int .i64 0]) (by simp [results, Try.results15, go_sem, y0, y1, y2, y3, y4, y5, y6]) rfl ?_
    have hsame : Same 0 (w.heap.size + 2) w8 (((w8.setCell ⟨w.heap.size, 5, none⟩ (.slice p6 J.length c6)).setCell ⟨w.heap.size, 6, none⟩ (.slice qw UW.length cw)).setRow (w.heap.size + 1) #[.int .i64 size, .int .i64 grain, .int .i64 quota, .bool drain, .bool best, .slice p6 J.length c6, .slice qw UW.length cw]) := (Same.set _ _ _ _ (Nat.zero_le _) (by omega)).trans ((Same.set _ _ _ _ (Nat.zero_le _) (by omega)).trans (Same.row _ _ _ (Nat.zero_le _) (by omega)))
    have hge : w.heap.size + 2 ≤ w5.heap.size := by have := (Array.getElem?_eq_some_iff.1 HG5.out.hR).1; omega
    have hge7 : w.heap.size + 2 ≤ w7.heap.size := by have := (Array.getElem?_eq_some_iff.1 HG7.out.hR).1; omega
    have r7 : RdO 0 w.heap.size (((w8.setCell ⟨w.heap.size, 5, none⟩ (.slice p6 J.length c6)).setCell ⟨w.heap.size, 6, none⟩ (.slice qw UW.length cw)).setRow (w.heap.size + 1) #[.int .i64 size, .int .i64 grain, .int .i64 quota, .bool drain, .bool best, .slice p6 J.length c6, .slice qw UW.length cw]) _ _ _ := (((ApC.off (.inr HO8.out) 0 (w.heap.size + 2) hge)).same hsame).sub (Nat.le_refl _) (by omega)
    have ru : RdO 0 w.heap.size (((w8.setCell ⟨w.heap.size, 5, none⟩ (.slice p6 J.length c6)).setCell ⟨w.heap.size, 6, none⟩ (.slice qw UW.length cw)).setRow (w.heap.size + 1) #[.int .i64 size, .int .i64 grain, .int .i64 quota, .bool drain, .bool best, .slice p6 J.length c6, .slice qw UW.length cw]) _ _ _ := ((ApC.off HA8.out 0 (w.heap.size + 2) hge7).same hsame).sub (Nat.le_refl _) (by omega)
    obtain ⟨pq, cq, hq2, hle2⟩ := HA8.out.form
    refine ⟨_, rfl, ?_, below_setRow (((HG8.out.hb.setCell (Nat.le_refl _) _).setCell (Nat.le_refl _) _)) (by omega) _⟩
    rw [HRP.out]
    exact ⟨_, _, rfl, r7, ru, pq, cq, hq2, hle2⟩
theorem Return_yes {w : World} {v vl : Value} {p : Pl} {l : List X} (h : PolW w v p) (u : Nm) (hr : Rd w vl l) (hok : po.ROk p u l) :
    Calls Try.prog 15 #[v, .string (str u), vl] w fun e w' => ∃ va, e = .returned (.tuple #[va, .int .i64 0]) ∧ PolV w' va (po.rP p u l) ∧ RowKit.Below w.heap.size w w' := by
  refine (Return_new h u hr hok).mono ?_
  rintro e w' ⟨va, he, h1, h3⟩
  exact ⟨va, he, h1.v, h3⟩
end Go.Proofs.Ytdjpnlkhdilakaa.gn
