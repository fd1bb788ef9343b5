/- Grant: the contracts, behind the quota (written by gen_poL.py). -/
import Derived.Test.YtdjpnlkhdilakaaPoK
set_option linter.unusedVariables false
set_option linter.unusedSimpArgs false
set_option maxRecDepth 100000
namespace Go.Proofs.Ytdjpnlkhdilakaa.gn
open Go.RowKit Go.Shelf Go.Sort Go.Lib
open Go.Proofs.Ytdjpnlkhdilakaa.ex
open Go.Proofs.Ytdjpnlkhdilakaa.po (Nm U less Pl)

attribute [local go_sem] Oper.semAt_some
attribute [local go_sem ↓] Go.wp_at_zero Go.wp_at_succ

/-- As Rd, in no block below base; a pool whose rows are so. -/
def RdN (base : Nat) (w : World) (v : Value) (l : List X) : Prop := RdO 0 base w v l.length (fl l)
def PolN (base : Nat) (w : World) (v : Value) (p : Pl) : Prop := ∃ vf vu, v = aggP p vf vu ∧ RdN base w vf p.free ∧ RdO 0 base w vu p.uses.length (flU p.uses) ∧ ∃ q c, vu = .slice q p.uses.length c ∧ p.uses.length ≤ c
theorem RdN.rd {base : Nat} {w : World} {v : Value} {l : List X} (h : RdN base w v l) : Rd w v l := (RdO.rdc h).rd
theorem PolN.v {base : Nat} {w : World} {v : Value} {p : Pl} (h : PolN base w v p) : PolV w v p := by
  obtain ⟨vf, vu, e, h1, h2, q, c, h3⟩ := h
  exact ⟨vf, vu, e, h1.rd, h2.rdc, q, c, h3⟩
theorem RdO.sub {lo hi lo' hi' : Nat} {w : World} {v : Value} {n : Nat} {cs : List Value} (h : RdO lo hi w v n cs) (h1 : lo ≤ lo') (h2 : hi' ≤ hi) : RdO lo' hi' w v n cs := by
  rcases h with h | ⟨b, off, c, e, hb, k, hc⟩
  · exact .inl h
  · exact .inr ⟨b, off, c, e, hb, k.imp (fun k => Nat.lt_of_lt_of_le k h1) (Nat.le_trans h2), hc⟩
set_option maxHeartbeats 2000000 in
theorem Grant_7a {w : World} {v : Value} {p : Pl} (h : PolW w v p) (u : Nm) (n : Int) (hv : po.Valid p) (hn0 : 0 < n) (hn1 : n ≤ 1099511627776) (hu : po.Nam u) (hd : p.drain = false) (hq : 0 < p.quota) (hg : ¬ p.quota - po.lk p.uses u < po.gr n p.grain) (ht : tot p.free < po.gr n p.grain) : Calls Try.prog 8 #[v, .string (str u), .int .i64 n] w (FailsG 6 w) := by
  have HV : Hid (po.Valid p) := hv
  have HQ := fun W => pquantity_any n W
  rw [show quant n = true from decide_eq_true ⟨by omega, hn1⟩] at HQ
  have hz : (n == 0) = false := beq_eq_false_iff_ne.2 (by omega)
  have HN := fun W => name_any u W
  rw [decide_eq_true hu] at HN
  have HGR : ∀ W, Calls Try.prog 22 #[.int .i64 n, .int .i64 p.grain] W fun e w' => e = .returned (.int .i64 (po.gr n p.grain)) ∧ W = w' := fun W => grain_any n p.grain W
  have b1 := po.gr_bd n p.grain
  have b2 := po.lk_pos hv.pos u
  have b3 := po.lk_sm hv.pos u
  have b4 := hv.va
  have b5 := hv.vb.s.2
  have b6 := (tot_pos hv.vf.2.1).1
  have b7 := hv.vb.q.2
  have b8 := hv.vb.q.1
  have b9 : po.lk p.uses u ≤ 1099511627776 := by omega
  clear b3 b4 b5 b6
  have d1 : decide (0 < p.quota) = true := decide_eq_true hq
  have d2 : decide (p.quota - po.lk p.uses u < po.gr n p.grain) = false := decide_eq_false hg
  clear hv hu hn0 hn1 hq hg
  obtain ⟨⟨vf, vu, rfl, hf, hu⟩, hl, hlu⟩ := h
  obtain ⟨pf, cf, rfl⟩ := hf.len
  obtain ⟨pu, cu, rfl, hle⟩ := hu.2
  have g0 := GW.new (w := w) hf hu
  have HUS := Lib.hid fun (W : World) (h : GW w W p (.slice pf p.free.length cf) (.slice pu p.uses.length cu)) => used_any (v := aggP p (.slice pf p.free.length cf) (.slice pu p.uses.length cu)) u ⟨_, _, rfl, h.hf, h.hu⟩ HV.out.vr (by omega)
  have HTK := Lib.hid fun (W : World) (h : GW w W p (.slice pf p.free.length cf) (.slice pu p.uses.length cu)) => Take_full p.best h.hf (po.gr_bd n p.grain) HV.out.vf ht
  obtain ⟨size, grain, quota, drain, best, fr, us⟩ := p
  (try dsimp only at *)
  obtain ⟨W0, hW0⟩ : ∃ W0, (w.alloc (boxP ⟨size, grain, quota, drain, best, fr, us⟩ (.slice pf fr.length cf) (.slice pu us.length cu))).alloc (.cells zeroC 25) = W0 := ⟨_, rfl⟩
  rw [hW0] at g0
  have HL := Lib.hid (And.intro hl hlu)
  have HG0 := Lib.hid g0
  have k0 := (GW.pb g0).k0; (try dsimp only at k0); have k1 := (GW.pb g0).k1; (try dsimp only at k1); have k2 := (GW.pb g0).k2; (try dsimp only at k2); have k3 := (GW.pb g0).k3; (try dsimp only at k3); have k4 := (GW.pb g0).k4; (try dsimp only at k4); have k5 := (GW.pb g0).k5; (try dsimp only at k5); have k6 := (GW.pb g0).k6; (try dsimp only at k6)
  clear g0 hf hu hl hlu
  subst hd
  clear ht
  generalize hG : po.gr n grain = G at *
  generalize hU : po.lk us u = has at *
  generalize str u = su at *
  go_enter Try.func8, Try.ntmps8
  go_wp2_with (first | (go_at_call 10; refine (Check_yes (HG0.out.pw HL.out.1 HL.out.2) HV.out).mono ?_; rintro e w1 ⟨rfl, hb1⟩; have g1 := HG0.out.next hb1; have HG1 := Lib.hid g1; have j0 := (GW.pb g1).k0; (try dsimp only at j0); have j1 := (GW.pb g1).k1; (try dsimp only at j1); have j2 := (GW.pb g1).k2; (try dsimp only at j2); have j3 := (GW.pb g1).k3; (try dsimp only at j3); have j4 := (GW.pb g1).k4; (try dsimp only at j4); have j5 := (GW.pb g1).k5; (try dsimp only at j5); have j6 := (GW.pb g1).k6; (try dsimp only at j6); clear hb1 g1) | (go_at_call 20; refine (HQ _).mono ?_; rintro e w1 ⟨rfl, rfl⟩) | (go_at_call 21; refine (HN _).mono ?_; rintro e w1 ⟨rfl, rfl⟩) | (go_at_call 22; refine (HGR _).mono ?_; rintro e w1 ⟨rfl, rfl⟩) | (go_at_call 23; refine (HUS.out _ HG1.out).mono ?_; rintro e w2 ⟨rfl, hb2⟩; have g2 := HG1.out.next hb2; have HG2 := Lib.hid g2; have i0 := (GW.pb g2).k0; (try dsimp only at i0); have i1 := (GW.pb g2).k1; (try dsimp only at i1); have i2 := (GW.pb g2).k2; (try dsimp only at i2); have i3 := (GW.pb g2).k3; (try dsimp only at i3); have i4 := (GW.pb g2).k4; (try dsimp only at i4); have i5 := (GW.pb g2).k5; (try dsimp only at i5); have i6 := (GW.pb g2).k6; (try dsimp only at i6); clear hb2 g2) | (go_at_call 24; refine (HTK.out _ HG2.out).mono ?_; rintro e w3 ⟨rfl, hb3⟩; have HG3 := Lib.hid (HG2.out.next hb3); clear hb3) | (refine wpList_store_row rfl _ _ _ rfl (w.heap.size + 1) zeroC rfl rfl 25 zeroC HG3.out.hR (by kernel_rfl) rfl (by kernel_rfl) ?_))
  have y0 := row_cells HG3.out.hR (cs := zeroC) 0 _ rfl
  have y1 := row_cells HG3.out.hR (cs := zeroC) 1 _ rfl
  have y2 := row_cells HG3.out.hR (cs := zeroC) 2 _ rfl
  have y3 := row_cells HG3.out.hR (cs := zeroC) 3 _ rfl
  have y4 := row_cells HG3.out.hR (cs := zeroC) 4 _ rfl
  have y5 := row_cells HG3.out.hR (cs := zeroC) 5 _ rfl
  have y6 := row_cells HG3.out.hR (cs := zeroC) 6 _ rfl
  exact bodyPost_ret (v := .tuple #[.agg zeroC, .slice none 0 0, .int .i64 6]) (by simp [results, Try.results8, go_sem, y0, y1, y2, y3, y4, y5, y6]) rfl ⟨rfl, below_setRow HG3.out.hb (by omega) _⟩
set_option maxHeartbeats 4000000 in
theorem Grant_ya {w : World} {v : Value} {p : Pl} (h : PolW w v p) (u : Nm) (n : Int) (hok : po.GOk p u n) (hq : 0 < p.quota) (hg : ¬ p.quota - po.lk p.uses u < po.gr n p.grain) : Calls Try.prog 8 #[v, .string (str u), .int .i64 n] w fun e w' => ∃ va vt, e = .returned (.tuple #[va, vt, .int .i64 0]) ∧ PolN w.heap.size w' va (po.gP p u n) ∧ RdN w.heap.size w' vt (po.gT p n) ∧ RowKit.Below w.heap.size w w' := by
  have hv := hok.can.v
  have hn0 := hok.can.n0
  have hn1 := hok.can.n1
  have hu := hok.can.nm
  have hd := hok.nd
  have HOK := Lib.hid hok
  have HV : Hid (po.Valid p) := hv
  have HQ := fun W => pquantity_any n W
  rw [show quant n = true from decide_eq_true ⟨by omega, hn1⟩] at HQ
  have hz : (n == 0) = false := beq_eq_false_iff_ne.2 (by omega)
  have HN := fun W => name_any u W
  rw [decide_eq_true hu] at HN
  have HGR : ∀ W, Calls Try.prog 22 #[.int .i64 n, .int .i64 p.grain] W fun e w' => e = .returned (.int .i64 (po.gr n p.grain)) ∧ W = w' := fun W => grain_any n p.grain W
  have b1 := po.gr_bd n p.grain
  have b2 := po.lk_pos hv.pos u
  have b3 := po.lk_sm hv.pos u
  have b4 := hv.va
  have b5 := hv.vb.s.2
  have b6 := (tot_pos hv.vf.2.1).1
  have b7 := hv.vb.q.2
  have b8 := hv.vb.q.1
  have b9 : po.lk p.uses u ≤ 1099511627776 := by omega
  clear b3 b4 b5 b6
  have d1 : decide (0 < p.quota) = true := decide_eq_true hq
  have d2 : decide (p.quota - po.lk p.uses u < po.gr n p.grain) = false := decide_eq_false hg
  clear hv hu hn0 hn1 hq hg
  obtain ⟨⟨vf, vu, rfl, hf, hu⟩, hl, hlu⟩ := h
  obtain ⟨pf, cf, rfl⟩ := hf.len
  obtain ⟨pu, cu, rfl, hle⟩ := hu.2
  have g0 := GW.new (w := w) hf hu
  have HUS := Lib.hid fun (W : World) (h : GW w W p (.slice pf p.free.length cf) (.slice pu p.uses.length cu)) => used_any (v := aggP p (.slice pf p.free.length cf) (.slice pu p.uses.length cu)) u ⟨_, _, rfl, h.hf, h.hu⟩ HV.out.vr (by omega)
  have HTK := Lib.hid fun (W : World) (h : GW w W p (.slice pf p.free.length cf) (.slice pu p.uses.length cu)) => Take_ok p.best h.hf (po.gr_bd n p.grain) HV.out.vf hok.le
  have HWI := Lib.hid fun (W : World) (h : GW w W p (.slice pf p.free.length cf) (.slice pu p.uses.length cu)) => with_any u (po.lk p.uses u + po.gr n p.grain) h.hu HV.out.vr (by omega)
  obtain ⟨size, grain, quota, drain, best, fr, us⟩ := p
  (try dsimp only at *)
  obtain ⟨W0, hW0⟩ : ∃ W0, (w.alloc (boxP ⟨size, grain, quota, drain, best, fr, us⟩ (.slice pf fr.length cf) (.slice pu us.length cu))).alloc (.cells zeroC 25) = W0 := ⟨_, rfl⟩
  rw [hW0] at g0
  have HL := Lib.hid (And.intro hl hlu)
  have HG0 := Lib.hid g0
  have k0 := (GW.pb g0).k0; (try dsimp only at k0); have k1 := (GW.pb g0).k1; (try dsimp only at k1); have k2 := (GW.pb g0).k2; (try dsimp only at k2); have k3 := (GW.pb g0).k3; (try dsimp only at k3); have k4 := (GW.pb g0).k4; (try dsimp only at k4); have k5 := (GW.pb g0).k5; (try dsimp only at k5); have k6 := (GW.pb g0).k6; (try dsimp only at k6)
  clear g0 hf hu hl hlu
  subst hd
  clear hok
  generalize hG : po.gr n grain = G at *
  generalize hU : po.lk us u = has at *
  have HE := Lib.hid (And.intro hG hU)
  clear hG hU
  have hwr : IntKind.i64.wrap (has + G) = has + G := by rw [IntKind.wrap_i64]; omega
  generalize hsu : str u = su at *
  have HSU := Lib.hid hsu
  clear hsu
  go_enter Try.func8, Try.ntmps8
  go_wp2_with (first | (go_at_call 10; refine (Check_yes (HG0.out.pw HL.out.1 HL.out.2) HV.out).mono ?_; rintro e w1 ⟨rfl, hb1⟩; have g1 := HG0.out.next hb1; have HG1 := Lib.hid g1; have j0 := (GW.pb g1).k0; (try dsimp only at j0); have j1 := (GW.pb g1).k1; (try dsimp only at j1); have j2 := (GW.pb g1).k2; (try dsimp only at j2); have j3 := (GW.pb g1).k3; (try dsimp only at j3); have j4 := (GW.pb g1).k4; (try dsimp only at j4); have j5 := (GW.pb g1).k5; (try dsimp only at j5); have j6 := (GW.pb g1).k6; (try dsimp only at j6); clear hb1 g1) | (go_at_call 20; refine (HQ _).mono ?_; rintro e w1 ⟨rfl, rfl⟩) | (go_at_call 21; refine (HN _).mono ?_; rintro e w1 ⟨rfl, rfl⟩) | (go_at_call 22; refine (HGR _).mono ?_; rintro e w1 ⟨rfl, rfl⟩) | (go_at_call 23; refine (HUS.out _ HG1.out).mono ?_; rintro e w2 ⟨rfl, hb2⟩; have g2 := HG1.out.next hb2; have HG2 := Lib.hid g2; have i0 := (GW.pb g2).k0; (try dsimp only at i0); have i1 := (GW.pb g2).k1; (try dsimp only at i1); have i2 := (GW.pb g2).k2; (try dsimp only at i2); have i3 := (GW.pb g2).k3; (try dsimp only at i3); have i4 := (GW.pb g2).k4; (try dsimp only at i4); have i5 := (GW.pb g2).k5; (try dsimp only at i5); have i6 := (GW.pb g2).k6; (try dsimp only at i6); clear hb2 g2) | (go_at_call 24; refine (HTK.out _ HG2.out).mono ?_; intro e w3 hT; obtain ⟨v6, v7, s, k, rfl, O6, O7, _, hs0, hs1, hb3⟩ := hT; have hz2 := HG2.out.hb.size; have g3 := HG2.out.next hb3; have HG3 := Lib.hid g3; have q0 := (GW.pb g3).k0; (try dsimp only at q0); have q1 := (GW.pb g3).k1; (try dsimp only at q1); have q2 := (GW.pb g3).k2; (try dsimp only at q2); have q3 := (GW.pb g3).k3; (try dsimp only at q3); have q4 := (GW.pb g3).k4; (try dsimp only at q4); have q5 := (GW.pb g3).k5; (try dsimp only at q5); have q6 := (GW.pb g3).k6; (try dsimp only at q6); obtain ⟨p7, c7, hv7⟩ := O7.rd.len; subst hv7; have HT3 := Lib.hid (And.intro O6 (And.intro O7 (And.intro hs0 hs1))); clear O6 O7 hs0 hs1 hb3 g3) | (go_at_call 25; refine (HWI.out _ HG3.out).mono ?_; rintro e w4 ⟨qw, cw, rfl, hA, hb4⟩; have g4 := HG3.out.next hb4; have HG4 := Lib.hid g4; have m0 := (GW.pb g4).k0; (try dsimp only at m0); have m1 := (GW.pb g4).k1; (try dsimp only at m1); have m2 := (GW.pb g4).k2; (try dsimp only at m2); have m3 := (GW.pb g4).k3; (try dsimp only at m3); have m4 := (GW.pb g4).k4; (try dsimp only at m4); have m5 := (GW.pb g4).k5; (try dsimp only at m5); have m6 := (GW.pb g4).k6; (try dsimp only at m6); have f5 := frozen_of_row w4 _ 5 _ _ g4.hB; have f6 := frozen_of_row w4 _ 6 _ _ g4.hB; have HA4 := Lib.hid (And.intro hA hb4); clear hA hb4 g4) | (refine wpList_store_row rfl _ _ _ rfl (w.heap.size + 1) #[.int .i64 size, .int .i64 grain, .int .i64 quota, .bool false, .bool best, .slice p7 s.rest.length c7, .slice qw (po.withU us u (has + G)).length cw] rfl rfl 25 zeroC ((Below.heap_setCell _ _ _ _ (by simp)).trans ((Below.heap_setCell _ _ _ _ (by simp)).trans HG4.out.hR)) (by kernel_rfl) rfl (by kernel_rfl) ?_))
  have hR5 : ((w4.setCell ⟨w.heap.size, 5, none⟩ (.slice p7 s.rest.length c7)).setCell ⟨w.heap.size, 6, none⟩ (.slice qw (po.withU us u (has + G)).length cw)).heap[w.heap.size + 1]? = some (.cells zeroC 25 (0, 0)) := (Below.heap_setCell _ _ _ _ (by simp)).trans ((Below.heap_setCell _ _ _ _ (by simp)).trans HG4.out.hR)
  have y0 := row_cells hR5 (cs := #[.int .i64 size, .int .i64 grain, .int .i64 quota, .bool false, .bool best, .slice p7 s.rest.length c7, .slice qw (po.withU us u (has + G)).length cw]) 0 _ rfl
  have y1 := row_cells hR5 (cs := #[.int .i64 size, .int .i64 grain, .int .i64 quota, .bool false, .bool best, .slice p7 s.rest.length c7, .slice qw (po.withU us u (has + G)).length cw]) 1 _ rfl
  have y2 := row_cells hR5 (cs := #[.int .i64 size, .int .i64 grain, .int .i64 quota, .bool false, .bool best, .slice p7 s.rest.length c7, .slice qw (po.withU us u (has + G)).length cw]) 2 _ rfl
  have y3 := row_cells hR5 (cs := #[.int .i64 size, .int .i64 grain, .int .i64 quota, .bool false, .bool best, .slice p7 s.rest.length c7, .slice qw (po.withU us u (has + G)).length cw]) 3 _ rfl
  have y4 := row_cells hR5 (cs := #[.int .i64 size, .int .i64 grain, .int .i64 quota, .bool false, .bool best, .slice p7 s.rest.length c7, .slice qw (po.withU us u (has + G)).length cw]) 4 _ rfl
  have y5 := row_cells hR5 (cs := #[.int .i64 size, .int .i64 grain, .int .i64 quota, .bool false, .bool best, .slice p7 s.rest.length c7, .slice qw (po.withU us u (has + G)).length cw]) 5 _ rfl
  have y6 := row_cells hR5 (cs := #[.int .i64 size, .int .i64 grain, .int .i64 quota, .bool false, .bool best, .slice p7 s.rest.length c7, .slice qw (po.withU us u (has + G)).length cw]) 6 _ rfl
  refine bodyPost_ret (v := .tuple #[.agg #[.int .i64 size, .int .i64 grain, .int .i64 quota, .bool false, .bool best, .slice p7 s.rest.length c7, .slice qw (po.withU us u (has + G)).length cw], v6, .int .i64 0]) (by simp [results, Try.results8, go_sem, y0, y1, y2, y3, y4, y5, y6]) rfl ?_
  obtain ⟨O6, O7, hs0, hs1⟩ := HT3.out
  obtain ⟨hA, hb4⟩ := HA4.out
  have hss : s = po.gst ⟨size, grain, quota, false, best, fr, us⟩ n := by
    unfold po.gst
    rw [HE.out.1]
    rw [hs1] at hs0 ⊢
    refine tk_same best k _ _ (by omega) ?_
    have := HOK.out.done
    unfold po.gst at this
    rw [HE.out.1] at this
    exact this
  have hsame : Same 0 (w.heap.size + 2) w4 (((w4.setCell ⟨w.heap.size, 5, none⟩ (.slice p7 s.rest.length c7)).setCell ⟨w.heap.size, 6, none⟩ (.slice qw (po.withU us u (has + G)).length cw)).setRow (w.heap.size + 1) #[.int .i64 size, .int .i64 grain, .int .i64 quota, .bool false, .bool best, .slice p7 s.rest.length c7, .slice qw (po.withU us u (has + G)).length cw]) :=
    (Same.set _ _ _ _ (Nat.zero_le _) (by omega)).trans ((Same.set _ _ _ _ (Nat.zero_le _) (by omega)).trans (Same.row _ _ _ (Nat.zero_le _) (by omega)))
  have hge : w.heap.size + 2 ≤ w2.heap.size := by
    have := (Array.getElem?_eq_some_iff.1 HG2.out.hR).1
    omega
  have hge3 : w.heap.size + 2 ≤ w3.heap.size := by
    have := (Array.getElem?_eq_some_iff.1 HG3.out.hR).1
    omega
  have r7 : RdO 0 w.heap.size (((w4.setCell ⟨w.heap.size, 5, none⟩ (.slice p7 s.rest.length c7)).setCell ⟨w.heap.size, 6, none⟩ (.slice qw (po.withU us u (has + G)).length cw)).setRow (w.heap.size + 1) #[.int .i64 size, .int .i64 grain, .int .i64 quota, .bool false, .bool best, .slice p7 s.rest.length c7, .slice qw (po.withU us u (has + G)).length cw]) _ _ _ := (((ApC.off (.inr O7) 0 (w.heap.size + 2) hge).next hb4).same hsame).sub (Nat.le_refl _) (by omega)
  have r6 : RdO 0 w.heap.size (((w4.setCell ⟨w.heap.size, 5, none⟩ (.slice p7 s.rest.length c7)).setCell ⟨w.heap.size, 6, none⟩ (.slice qw (po.withU us u (has + G)).length cw)).setRow (w.heap.size + 1) #[.int .i64 size, .int .i64 grain, .int .i64 quota, .bool false, .bool best, .slice p7 s.rest.length c7, .slice qw (po.withU us u (has + G)).length cw]) _ _ _ := (((ApC.off (.inr O6) 0 (w.heap.size + 2) hge).next hb4).same hsame).sub (Nat.le_refl _) (by omega)
  have ru : RdO 0 w.heap.size (((w4.setCell ⟨w.heap.size, 5, none⟩ (.slice p7 s.rest.length c7)).setCell ⟨w.heap.size, 6, none⟩ (.slice qw (po.withU us u (has + G)).length cw)).setRow (w.heap.size + 1) #[.int .i64 size, .int .i64 grain, .int .i64 quota, .bool false, .bool best, .slice p7 s.rest.length c7, .slice qw (po.withU us u (has + G)).length cw]) _ _ _ := ((ApC.off hA 0 (w.heap.size + 2) hge3).same hsame).sub (Nat.le_refl _) (by omega)
  obtain ⟨pq, cq, hq2, hle2⟩ := hA.form
  have eP : po.gP ⟨size, grain, quota, false, best, fr, us⟩ u n = ⟨size, grain, quota, false, best, s.rest, po.withU us u (has + G)⟩ := by
    unfold po.gP po.gR
    rw [← hss]
    dsimp only
    rw [HE.out.1, HE.out.2]
  refine ⟨_, _, rfl, ?_, ?_, below_setRow (((HG4.out.hb.setCell (Nat.le_refl _) _).setCell (Nat.le_refl _) _)) (by omega) _⟩
  · rw [eP]
    exact ⟨_, _, rfl, r7, ru, pq, cq, hq2, hle2⟩
  · unfold po.gT
    rw [← hss]
    exact r6
set_option maxHeartbeats 2000000 in
theorem Grant_7b {w : World} {v : Value} {p : Pl} (h : PolW w v p) (u : Nm) (n : Int) (hv : po.Valid p) (hn0 : 0 < n) (hn1 : n ≤ 1099511627776) (hu : po.Nam u) (hd : p.drain = false) (hq : ¬ 0 < p.quota) (ht : tot p.free < po.gr n p.grain) : Calls Try.prog 8 #[v, .string (str u), .int .i64 n] w (FailsG 6 w) := by
  have HV : Hid (po.Valid p) := hv
  have HQ := fun W => pquantity_any n W
  rw [show quant n = true from decide_eq_true ⟨by omega, hn1⟩] at HQ
  have hz : (n == 0) = false := beq_eq_false_iff_ne.2 (by omega)
  have HN := fun W => name_any u W
  rw [decide_eq_true hu] at HN
  have HGR : ∀ W, Calls Try.prog 22 #[.int .i64 n, .int .i64 p.grain] W fun e w' => e = .returned (.int .i64 (po.gr n p.grain)) ∧ W = w' := fun W => grain_any n p.grain W
  have b1 := po.gr_bd n p.grain
  have b2 := po.lk_pos hv.pos u
  have b3 := po.lk_sm hv.pos u
  have b4 := hv.va
  have b5 := hv.vb.s.2
  have b6 := (tot_pos hv.vf.2.1).1
  have b7 := hv.vb.q.2
  have b8 := hv.vb.q.1
  have b9 : po.lk p.uses u ≤ 1099511627776 := by omega
  clear b3 b4 b5 b6
  have d1 : decide (0 < p.quota) = false := decide_eq_false hq
  clear hv hu hn0 hn1 hq
  obtain ⟨⟨vf, vu, rfl, hf, hu⟩, hl, hlu⟩ := h
  obtain ⟨pf, cf, rfl⟩ := hf.len
  obtain ⟨pu, cu, rfl, hle⟩ := hu.2
  have g0 := GW.new (w := w) hf hu
  have HUS := Lib.hid fun (W : World) (h : GW w W p (.slice pf p.free.length cf) (.slice pu p.uses.length cu)) => used_any (v := aggP p (.slice pf p.free.length cf) (.slice pu p.uses.length cu)) u ⟨_, _, rfl, h.hf, h.hu⟩ HV.out.vr (by omega)
  have HTK := Lib.hid fun (W : World) (h : GW w W p (.slice pf p.free.length cf) (.slice pu p.uses.length cu)) => Take_full p.best h.hf (po.gr_bd n p.grain) HV.out.vf ht
  obtain ⟨size, grain, quota, drain, best, fr, us⟩ := p
  (try dsimp only at *)
  obtain ⟨W0, hW0⟩ : ∃ W0, (w.alloc (boxP ⟨size, grain, quota, drain, best, fr, us⟩ (.slice pf fr.length cf) (.slice pu us.length cu))).alloc (.cells zeroC 25) = W0 := ⟨_, rfl⟩
  rw [hW0] at g0
  have HL := Lib.hid (And.intro hl hlu)
  have HG0 := Lib.hid g0
  have k0 := (GW.pb g0).k0; (try dsimp only at k0); have k1 := (GW.pb g0).k1; (try dsimp only at k1); have k2 := (GW.pb g0).k2; (try dsimp only at k2); have k3 := (GW.pb g0).k3; (try dsimp only at k3); have k4 := (GW.pb g0).k4; (try dsimp only at k4); have k5 := (GW.pb g0).k5; (try dsimp only at k5); have k6 := (GW.pb g0).k6; (try dsimp only at k6)
  clear g0 hf hu hl hlu
  subst hd
  clear ht
  generalize hG : po.gr n grain = G at *
  generalize hU : po.lk us u = has at *
  generalize str u = su at *
  go_enter Try.func8, Try.ntmps8
  go_wp2_with (first | (go_at_call 10; refine (Check_yes (HG0.out.pw HL.out.1 HL.out.2) HV.out).mono ?_; rintro e w1 ⟨rfl, hb1⟩; have g1 := HG0.out.next hb1; have HG1 := Lib.hid g1; have j0 := (GW.pb g1).k0; (try dsimp only at j0); have j1 := (GW.pb g1).k1; (try dsimp only at j1); have j2 := (GW.pb g1).k2; (try dsimp only at j2); have j3 := (GW.pb g1).k3; (try dsimp only at j3); have j4 := (GW.pb g1).k4; (try dsimp only at j4); have j5 := (GW.pb g1).k5; (try dsimp only at j5); have j6 := (GW.pb g1).k6; (try dsimp only at j6); clear hb1 g1) | (go_at_call 20; refine (HQ _).mono ?_; rintro e w1 ⟨rfl, rfl⟩) | (go_at_call 21; refine (HN _).mono ?_; rintro e w1 ⟨rfl, rfl⟩) | (go_at_call 22; refine (HGR _).mono ?_; rintro e w1 ⟨rfl, rfl⟩) | (go_at_call 23; refine (HUS.out _ HG1.out).mono ?_; rintro e w2 ⟨rfl, hb2⟩; have g2 := HG1.out.next hb2; have HG2 := Lib.hid g2; have i0 := (GW.pb g2).k0; (try dsimp only at i0); have i1 := (GW.pb g2).k1; (try dsimp only at i1); have i2 := (GW.pb g2).k2; (try dsimp only at i2); have i3 := (GW.pb g2).k3; (try dsimp only at i3); have i4 := (GW.pb g2).k4; (try dsimp only at i4); have i5 := (GW.pb g2).k5; (try dsimp only at i5); have i6 := (GW.pb g2).k6; (try dsimp only at i6); clear hb2 g2) | (go_at_call 24; refine (HTK.out _ HG2.out).mono ?_; rintro e w3 ⟨rfl, hb3⟩; have HG3 := Lib.hid (HG2.out.next hb3); clear hb3) | (refine wpList_store_row rfl _ _ _ rfl (w.heap.size + 1) zeroC rfl rfl 25 zeroC HG3.out.hR (by kernel_rfl) rfl (by kernel_rfl) ?_))
  have y0 := row_cells HG3.out.hR (cs := zeroC) 0 _ rfl
  have y1 := row_cells HG3.out.hR (cs := zeroC) 1 _ rfl
  have y2 := row_cells HG3.out.hR (cs := zeroC) 2 _ rfl
  have y3 := row_cells HG3.out.hR (cs := zeroC) 3 _ rfl
  have y4 := row_cells HG3.out.hR (cs := zeroC) 4 _ rfl
  have y5 := row_cells HG3.out.hR (cs := zeroC) 5 _ rfl
  have y6 := row_cells HG3.out.hR (cs := zeroC) 6 _ rfl
  exact bodyPost_ret (v := .tuple #[.agg zeroC, .slice none 0 0, .int .i64 6]) (by simp [results, Try.results8, go_sem, y0, y1, y2, y3, y4, y5, y6]) rfl ⟨rfl, below_setRow HG3.out.hb (by omega) _⟩
set_option maxHeartbeats 4000000 in
theorem Grant_yb {w : World} {v : Value} {p : Pl} (h : PolW w v p) (u : Nm) (n : Int) (hok : po.GOk p u n) (hq : ¬ 0 < p.quota) : Calls Try.prog 8 #[v, .string (str u), .int .i64 n] w fun e w' => ∃ va vt, e = .returned (.tuple #[va, vt, .int .i64 0]) ∧ PolN w.heap.size w' va (po.gP p u n) ∧ RdN w.heap.size w' vt (po.gT p n) ∧ RowKit.Below w.heap.size w w' := by
  have hv := hok.can.v
  have hn0 := hok.can.n0
  have hn1 := hok.can.n1
  have hu := hok.can.nm
  have hd := hok.nd
  have HOK := Lib.hid hok
  have HV : Hid (po.Valid p) := hv
  have HQ := fun W => pquantity_any n W
  rw [show quant n = true from decide_eq_true ⟨by omega, hn1⟩] at HQ
  have hz : (n == 0) = false := beq_eq_false_iff_ne.2 (by omega)
  have HN := fun W => name_any u W
  rw [decide_eq_true hu] at HN
  have HGR : ∀ W, Calls Try.prog 22 #[.int .i64 n, .int .i64 p.grain] W fun e w' => e = .returned (.int .i64 (po.gr n p.grain)) ∧ W = w' := fun W => grain_any n p.grain W
  have b1 := po.gr_bd n p.grain
  have b2 := po.lk_pos hv.pos u
  have b3 := po.lk_sm hv.pos u
  have b4 := hv.va
  have b5 := hv.vb.s.2
  have b6 := (tot_pos hv.vf.2.1).1
  have b7 := hv.vb.q.2
  have b8 := hv.vb.q.1
  have b9 : po.lk p.uses u ≤ 1099511627776 := by omega
  clear b3 b4 b5 b6
  have d1 : decide (0 < p.quota) = false := decide_eq_false hq
  clear hv hu hn0 hn1 hq
  obtain ⟨⟨vf, vu, rfl, hf, hu⟩, hl, hlu⟩ := h
  obtain ⟨pf, cf, rfl⟩ := hf.len
  obtain ⟨pu, cu, rfl, hle⟩ := hu.2
  have g0 := GW.new (w := w) hf hu
  have HUS := Lib.hid fun (W : World) (h : GW w W p (.slice pf p.free.length cf) (.slice pu p.uses.length cu)) => used_any (v := aggP p (.slice pf p.free.length cf) (.slice pu p.uses.length cu)) u ⟨_, _, rfl, h.hf, h.hu⟩ HV.out.vr (by omega)
  have HTK := Lib.hid fun (W : World) (h : GW w W p (.slice pf p.free.length cf) (.slice pu p.uses.length cu)) => Take_ok p.best h.hf (po.gr_bd n p.grain) HV.out.vf hok.le
  have HWI := Lib.hid fun (W : World) (h : GW w W p (.slice pf p.free.length cf) (.slice pu p.uses.length cu)) => with_any u (po.lk p.uses u + po.gr n p.grain) h.hu HV.out.vr (by omega)
  obtain ⟨size, grain, quota, drain, best, fr, us⟩ := p
  (try dsimp only at *)
  obtain ⟨W0, hW0⟩ : ∃ W0, (w.alloc (boxP ⟨size, grain, quota, drain, best, fr, us⟩ (.slice pf fr.length cf) (.slice pu us.length cu))).alloc (.cells zeroC 25) = W0 := ⟨_, rfl⟩
  rw [hW0] at g0
  have HL := Lib.hid (And.intro hl hlu)
  have HG0 := Lib.hid g0
  have k0 := (GW.pb g0).k0; (try dsimp only at k0); have k1 := (GW.pb g0).k1; (try dsimp only at k1); have k2 := (GW.pb g0).k2; (try dsimp only at k2); have k3 := (GW.pb g0).k3; (try dsimp only at k3); have k4 := (GW.pb g0).k4; (try dsimp only at k4); have k5 := (GW.pb g0).k5; (try dsimp only at k5); have k6 := (GW.pb g0).k6; (try dsimp only at k6)
  clear g0 hf hu hl hlu
  subst hd
  clear hok
  generalize hG : po.gr n grain = G at *
  generalize hU : po.lk us u = has at *
  have HE := Lib.hid (And.intro hG hU)
  clear hG hU
  have hwr : IntKind.i64.wrap (has + G) = has + G := by rw [IntKind.wrap_i64]; omega
  generalize hsu : str u = su at *
  have HSU := Lib.hid hsu
  clear hsu
  go_enter Try.func8, Try.ntmps8
  go_wp2_with (first | (go_at_call 10; refine (Check_yes (HG0.out.pw HL.out.1 HL.out.2) HV.out).mono ?_; rintro e w1 ⟨rfl, hb1⟩; have g1 := HG0.out.next hb1; have HG1 := Lib.hid g1; have j0 := (GW.pb g1).k0; (try dsimp only at j0); have j1 := (GW.pb g1).k1; (try dsimp only at j1); have j2 := (GW.pb g1).k2; (try dsimp only at j2); have j3 := (GW.pb g1).k3; (try dsimp only at j3); have j4 := (GW.pb g1).k4; (try dsimp only at j4); have j5 := (GW.pb g1).k5; (try dsimp only at j5); have j6 := (GW.pb g1).k6; (try dsimp only at j6); clear hb1 g1) | (go_at_call 20; refine (HQ _).mono ?_; rintro e w1 ⟨rfl, rfl⟩) | (go_at_call 21; refine (HN _).mono ?_; rintro e w1 ⟨rfl, rfl⟩) | (go_at_call 22; refine (HGR _).mono ?_; rintro e w1 ⟨rfl, rfl⟩) | (go_at_call 23; refine (HUS.out _ HG1.out).mono ?_; rintro e w2 ⟨rfl, hb2⟩; have g2 := HG1.out.next hb2; have HG2 := Lib.hid g2; have i0 := (GW.pb g2).k0; (try dsimp only at i0); have i1 := (GW.pb g2).k1; (try dsimp only at i1); have i2 := (GW.pb g2).k2; (try dsimp only at i2); have i3 := (GW.pb g2).k3; (try dsimp only at i3); have i4 := (GW.pb g2).k4; (try dsimp only at i4); have i5 := (GW.pb g2).k5; (try dsimp only at i5); have i6 := (GW.pb g2).k6; (try dsimp only at i6); clear hb2 g2) | (go_at_call 24; refine (HTK.out _ HG2.out).mono ?_; intro e w3 hT; obtain ⟨v6, v7, s, k, rfl, O6, O7, _, hs0, hs1, hb3⟩ := hT; have hz2 := HG2.out.hb.size; have g3 := HG2.out.next hb3; have HG3 := Lib.hid g3; have q0 := (GW.pb g3).k0; (try dsimp only at q0); have q1 := (GW.pb g3).k1; (try dsimp only at q1); have q2 := (GW.pb g3).k2; (try dsimp only at q2); have q3 := (GW.pb g3).k3; (try dsimp only at q3); have q4 := (GW.pb g3).k4; (try dsimp only at q4); have q5 := (GW.pb g3).k5; (try dsimp only at q5); have q6 := (GW.pb g3).k6; (try dsimp only at q6); obtain ⟨p7, c7, hv7⟩ := O7.rd.len; subst hv7; have HT3 := Lib.hid (And.intro O6 (And.intro O7 (And.intro hs0 hs1))); clear O6 O7 hs0 hs1 hb3 g3) | (go_at_call 25; refine (HWI.out _ HG3.out).mono ?_; rintro e w4 ⟨qw, cw, rfl, hA, hb4⟩; have g4 := HG3.out.next hb4; have HG4 := Lib.hid g4; have m0 := (GW.pb g4).k0; (try dsimp only at m0); have m1 := (GW.pb g4).k1; (try dsimp only at m1); have m2 := (GW.pb g4).k2; (try dsimp only at m2); have m3 := (GW.pb g4).k3; (try dsimp only at m3); have m4 := (GW.pb g4).k4; (try dsimp only at m4); have m5 := (GW.pb g4).k5; (try dsimp only at m5); have m6 := (GW.pb g4).k6; (try dsimp only at m6); have f5 := frozen_of_row w4 _ 5 _ _ g4.hB; have f6 := frozen_of_row w4 _ 6 _ _ g4.hB; have HA4 := Lib.hid (And.intro hA hb4); clear hA hb4 g4) | (refine wpList_store_row rfl _ _ _ rfl (w.heap.size + 1) #[.int .i64 size, .int .i64 grain, .int .i64 quota, .bool false, .bool best, .slice p7 s.rest.length c7, .slice qw (po.withU us u (has + G)).length cw] rfl rfl 25 zeroC ((Below.heap_setCell _ _ _ _ (by simp)).trans ((Below.heap_setCell _ _ _ _ (by simp)).trans HG4.out.hR)) (by kernel_rfl) rfl (by kernel_rfl) ?_))
  have hR5 : ((w4.setCell ⟨w.heap.size, 5, none⟩ (.slice p7 s.rest.length c7)).setCell ⟨w.heap.size, 6, none⟩ (.slice qw (po.withU us u (has + G)).length cw)).heap[w.heap.size + 1]? = some (.cells zeroC 25 (0, 0)) := (Below.heap_setCell _ _ _ _ (by simp)).trans ((Below.heap_setCell _ _ _ _ (by simp)).trans HG4.out.hR)
  have y0 := row_cells hR5 (cs := #[.int .i64 size, .int .i64 grain, .int .i64 quota, .bool false, .bool best, .slice p7 s.rest.length c7, .slice qw (po.withU us u (has + G)).length cw]) 0 _ rfl
  have y1 := row_cells hR5 (cs := #[.int .i64 size, .int .i64 grain, .int .i64 quota, .bool false, .bool best, .slice p7 s.rest.length c7, .slice qw (po.withU us u (has + G)).length cw]) 1 _ rfl
  have y2 := row_cells hR5 (cs := #[.int .i64 size, .int .i64 grain, .int .i64 quota, .bool false, .bool best, .slice p7 s.rest.length c7, .slice qw (po.withU us u (has + G)).length cw]) 2 _ rfl
  have y3 := row_cells hR5 (cs := #[.int .i64 size, .int .i64 grain, .int .i64 quota, .bool false, .bool best, .slice p7 s.rest.length c7, .slice qw (po.withU us u (has + G)).length cw]) 3 _ rfl
  have y4 := row_cells hR5 (cs := #[.int .i64 size, .int .i64 grain, .int .i64 quota, .bool false, .bool best, .slice p7 s.rest.length c7, .slice qw (po.withU us u (has + G)).length cw]) 4 _ rfl
  have y5 := row_cells hR5 (cs := #[.int .i64 size, .int .i64 grain, .int .i64 quota, .bool false, .bool best, .slice p7 s.rest.length c7, .slice qw (po.withU us u (has + G)).length cw]) 5 _ rfl
  have y6 := row_cells hR5 (cs := #[.int .i64 size, .int .i64 grain, .int .i64 quota, .bool false, .bool best, .slice p7 s.rest.length c7, .slice qw (po.withU us u (has + G)).length cw]) 6 _ rfl
  refine bodyPost_ret (v := .tuple #[.agg #[.int .i64 size, .int .i64 grain, .int .i64 quota, .bool false, .bool best, .slice p7 s.rest.length c7, .slice qw (po.withU us u (has + G)).length cw], v6, .int .i64 0]) (by simp [results, Try.results8, go_sem, y0, y1, y2, y3, y4, y5, y6]) rfl ?_
  obtain ⟨O6, O7, hs0, hs1⟩ := HT3.out
  obtain ⟨hA, hb4⟩ := HA4.out
  have hss : s = po.gst ⟨size, grain, quota, false, best, fr, us⟩ n := by
    unfold po.gst
    rw [HE.out.1]
    rw [hs1] at hs0 ⊢
    refine tk_same best k _ _ (by omega) ?_
    have := HOK.out.done
    unfold po.gst at this
    rw [HE.out.1] at this
    exact this
  have hsame : Same 0 (w.heap.size + 2) w4 (((w4.setCell ⟨w.heap.size, 5, none⟩ (.slice p7 s.rest.length c7)).setCell ⟨w.heap.size, 6, none⟩ (.slice qw (po.withU us u (has + G)).length cw)).setRow (w.heap.size + 1) #[.int .i64 size, .int .i64 grain, .int .i64 quota, .bool false, .bool best, .slice p7 s.rest.length c7, .slice qw (po.withU us u (has + G)).length cw]) :=
    (Same.set _ _ _ _ (Nat.zero_le _) (by omega)).trans ((Same.set _ _ _ _ (Nat.zero_le _) (by omega)).trans (Same.row _ _ _ (Nat.zero_le _) (by omega)))
  have hge : w.heap.size + 2 ≤ w2.heap.size := by
    have := (Array.getElem?_eq_some_iff.1 HG2.out.hR).1
    omega
  have hge3 : w.heap.size + 2 ≤ w3.heap.size := by
    have := (Array.getElem?_eq_some_iff.1 HG3.out.hR).1
    omega
  have r7 : RdO 0 w.heap.size (((w4.setCell ⟨w.heap.size, 5, none⟩ (.slice p7 s.rest.length c7)).setCell ⟨w.heap.size, 6, none⟩ (.slice qw (po.withU us u (has + G)).length cw)).setRow (w.heap.size + 1) #[.int .i64 size, .int .i64 grain, .int .i64 quota, .bool false, .bool best, .slice p7 s.rest.length c7, .slice qw (po.withU us u (has + G)).length cw]) _ _ _ := (((ApC.off (.inr O7) 0 (w.heap.size + 2) hge).next hb4).same hsame).sub (Nat.le_refl _) (by omega)
  have r6 : RdO 0 w.heap.size (((w4.setCell ⟨w.heap.size, 5, none⟩ (.slice p7 s.rest.length c7)).setCell ⟨w.heap.size, 6, none⟩ (.slice qw (po.withU us u (has + G)).length cw)).setRow (w.heap.size + 1) #[.int .i64 size, .int .i64 grain, .int .i64 quota, .bool false, .bool best, .slice p7 s.rest.length c7, .slice qw (po.withU us u (has + G)).length cw]) _ _ _ := (((ApC.off (.inr O6) 0 (w.heap.size + 2) hge).next hb4).same hsame).sub (Nat.le_refl _) (by omega)
  have ru : RdO 0 w.heap.size (((w4.setCell ⟨w.heap.size, 5, none⟩ (.slice p7 s.rest.length c7)).setCell ⟨w.heap.size, 6, none⟩ (.slice qw (po.withU us u (has + G)).length cw)).setRow (w.heap.size + 1) #[.int .i64 size, .int .i64 grain, .int .i64 quota, .bool false, .bool best, .slice p7 s.rest.length c7, .slice qw (po.withU us u (has + G)).length cw]) _ _ _ := ((ApC.off hA 0 (w.heap.size + 2) hge3).same hsame).sub (Nat.le_refl _) (by omega)
  obtain ⟨pq, cq, hq2, hle2⟩ := hA.form
  have eP : po.gP ⟨size, grain, quota, false, best, fr, us⟩ u n = ⟨size, grain, quota, false, best, s.rest, po.withU us u (has + G)⟩ := by
    unfold po.gP po.gR
    rw [← hss]
    dsimp only
    rw [HE.out.1, HE.out.2]
  refine ⟨_, _, rfl, ?_, ?_, below_setRow (((HG4.out.hb.setCell (Nat.le_refl _) _).setCell (Nat.le_refl _) _)) (by omega) _⟩
  · rw [eP]
    exact ⟨_, _, rfl, r7, ru, pq, cq, hq2, hle2⟩
  · unfold po.gT
    rw [← hss]
    exact r6
theorem Grant_new {w : World} {v : Value} {p : Pl} (h : PolW w v p) (u : Nm) (n : Int) (hok : po.GOk p u n) : Calls Try.prog 8 #[v, .string (str u), .int .i64 n] w fun e w' => ∃ va vt, e = .returned (.tuple #[va, vt, .int .i64 0]) ∧ PolN w.heap.size w' va (po.gP p u n) ∧ RdN w.heap.size w' vt (po.gT p n) ∧ RowKit.Below w.heap.size w w' := by
  by_cases hq : 0 < p.quota
  · exact Grant_ya h u n hok hq fun hg => hok.qu ⟨hq, hg⟩
  · exact Grant_yb h u n hok hq
theorem Grant_yes {w : World} {v : Value} {p : Pl} (h : PolW w v p) (u : Nm) (n : Int) (hok : po.GOk p u n) : Calls Try.prog 8 #[v, .string (str u), .int .i64 n] w fun e w' => ∃ va vt, e = .returned (.tuple #[va, vt, .int .i64 0]) ∧ PolV w' va (po.gP p u n) ∧ Rd w' vt (po.gT p n) ∧ RowKit.Below w.heap.size w w' := by
  refine (Grant_new h u n hok).mono ?_
  rintro e w' ⟨va, vt, he, h1, h2, h3⟩
  exact ⟨va, vt, he, h1.v, h2.rd, h3⟩
theorem Grant_no {w : World} {v : Value} {p : Pl} (h : PolW w v p) (u : Nm) (n : Int) (hno : po.gcode p u n ≠ 0) : Calls Try.prog 8 #[v, .string (str u), .int .i64 n] w (FailsG (po.gcode p u n) w) := by
  by_cases hv : po.Valid p
  · by_cases hn : po.Qt n
    · by_cases h0 : n = 0
      · rw [show po.gcode p u n = 2 from if_neg fun hc => by have := hc.n0; omega]
        exact Grant_3 h u n hv h0
      · have hn0 : 0 < n := by have := hn.1; omega
        by_cases hu : po.Nam u
        · have hc : po.CanG p u n := ⟨hv, hn0, hn.2, hu⟩
          unfold po.gcode at hno ⊢
          rw [if_pos hc] at hno ⊢
          cases hd : p.drain with
          | true => rw [if_pos rfl]; exact Grant_5 h u n hv hn0 hn.2 hu hd
          | false =>
            rw [hd] at hno
            rw [if_neg (show ¬ (false = true) by simp)] at hno ⊢
            by_cases hq : 0 < p.quota ∧ p.quota - po.lk p.uses u < po.gr n p.grain
            · rw [if_pos hq]; exact Grant_6 h u n hv hn0 hn.2 hu hd hq.1 hq.2
            · rw [if_neg hq] at hno ⊢
              by_cases ht : tot p.free < po.gr n p.grain
              · rw [if_pos ht]
                by_cases h1 : 0 < p.quota
                · exact Grant_7a h u n hv hn0 hn.2 hu hd h1 (fun h2 => hq ⟨h1, h2⟩) ht
                · exact Grant_7b h u n hv hn0 hn.2 hu hd h1 ht
              · rw [if_neg ht] at hno; exact absurd rfl hno
        · rw [show po.gcode p u n = 2 from if_neg fun hc => hu hc.nm]
          exact Grant_4 h u n hv hn0 hn.2 hu
    · rw [show po.gcode p u n = 2 from if_neg fun hc => hn ⟨by have := hc.n0; omega, hc.n1⟩]
      exact Grant_2 h u n hv hn
  · rw [show po.gcode p u n = 2 from if_neg fun hc => hv hc.v]
    exact Grant_1 h u n hv
end Go.Proofs.Ytdjpnlkhdilakaa.gn
