/- Grant: the contracts (written by gen_poK.py). -/
import Derived.Test.YtdjpnlkhdilakaaPoI
set_option linter.unusedVariables false
set_option linter.unusedSimpArgs false
set_option maxRecDepth 100000
namespace Go.Proofs.Ytdjpnlkhdilakaa.gn
open Go.RowKit Go.Shelf Go.Sort Go.Lib
open Go.Proofs.Ytdjpnlkhdilakaa.ex
open Go.Proofs.Ytdjpnlkhdilakaa.po (Nm U less Pl)

attribute [local go_sem] Oper.semAt_some
attribute [local go_sem ↓] Go.wp_at_zero Go.wp_at_succ

abbrev zeroPl : Pl := ⟨0, 0, 0, false, false, [], []⟩
abbrev zeroC : Array Value := #[.int .i64 0, .int .i64 0, .int .i64 0, .bool false, .bool false, .slice none 0 0, .slice none 0 0]
theorem zero_v (w : World) : PolV w (.agg zeroC) zeroPl := ⟨.slice none 0 0, .slice none 0 0, rfl, .inl ⟨none, 0, rfl, rfl, fun _ => rfl⟩, .inl ⟨none, 0, rfl, rfl, rfl, fun _ => rfl⟩, none, 0, rfl, Nat.le_refl _⟩
/-- How a call that takes a pool, and tells one, stands: the pool's box, the result's. -/
structure GW (w W : World) (p : Pl) (vf vu : Value) : Prop where
  hb : RowKit.Below w.heap.size w W
  hf : Rd W vf p.free
  hu : RdU W vu p.uses
  hB : W.heap[w.heap.size]? = some (.cells #[.int .i64 p.size, .int .i64 p.grain, .int .i64 p.quota, .bool p.drain, .bool p.best, vf, vu] 25 (0, 0))
  hR : W.heap[w.heap.size + 1]? = some (.cells zeroC 25 (0, 0))
theorem GW.next {w W W' : World} {p : Pl} {vf vu : Value} (h : GW w W p vf vu) (hb : RowKit.Below W.heap.size W W') : GW w W' p vf vu :=
  ⟨h.hb.trans (hb.mono h.hb.size), h.hf.next hb, h.hu.next hb, (hb.block _ (Array.getElem?_eq_some_iff.1 h.hB).1).trans h.hB, (hb.block _ (Array.getElem?_eq_some_iff.1 h.hR).1).trans h.hR⟩
theorem GW.pb {w W : World} {p : Pl} {vf vu : Value} (h : GW w W p vf vu) : PB W w.heap.size p vf vu :=
  ⟨cell_of_row _ _ 0 _ _ (0, 0) h.hB, cell_of_row _ _ 1 _ _ (0, 0) h.hB, cell_of_row _ _ 2 _ _ (0, 0) h.hB, cell_of_row _ _ 3 _ _ (0, 0) h.hB, cell_of_row _ _ 4 _ _ (0, 0) h.hB, cell_of_row _ _ 5 _ _ (0, 0) h.hB, cell_of_row _ _ 6 _ _ (0, 0) h.hB⟩
theorem GW.new {w : World} {p : Pl} {vf vu : Value} (hf : Rd w vf p.free) (hu : RdU w vu p.uses) : GW w ((w.alloc (boxP p vf vu)).alloc (.cells zeroC 25)) p vf vu := by
  have hb : RowKit.Below w.heap.size w ((w.alloc (boxP p vf vu)).alloc (.cells zeroC 25)) := ((Below.refl _ w).alloc (Nat.le_refl _) _).alloc (by simp) _
  have h1 := World.alloc_heap_new w (boxP p vf vu)
  have h2 := World.alloc_heap_new (w.alloc (boxP p vf vu)) (.cells zeroC 25)
  rw [World.size_alloc] at h2
  exact ⟨hb, hf.next hb, hu.next hb, (Below.heap_alloc _ _ _ (by simp)).trans h1, h2⟩
theorem GW.pw {w W : World} {p : Pl} {vf vu : Value} (h : GW w W p vf vu) (hl : p.free.length ≤ 1000) (hlu : p.uses.length ≤ 3800) : PolW W (aggP p vf vu) p := ⟨⟨vf, vu, rfl, h.hf, h.hu⟩, hl, hlu⟩
/-- The result's cells, once they are stored. -/
theorem row_cells {W : World} {R : Nat} {old cs : Array Value} {t : TypeId} (h : W.heap[R]? = some (.cells old t (0, 0))) (j : Nat) (v : Value) (hv : cs[j]? = some v) : (W.setRow R cs).cell? ⟨R, j, none⟩ = some v := by
  rw [cell_of_row _ _ j _ _ (0, 0) (setRow_heap W R old cs t (0, 0) h)]; exact hv
/-- It tells no pool, and an error. -/
def FailsG (c : Int) (w : World) (e : Ending) (w' : World) : Prop := e = .returned (.tuple #[.agg zeroC, .slice none 0 0, .int .i64 c]) ∧ RowKit.Below w.heap.size w w'
def FailsR (c : Int) (w : World) (e : Ending) (w' : World) : Prop := e = .returned (.tuple #[.agg zeroC, .int .i64 c]) ∧ RowKit.Below w.heap.size w w'
set_option maxHeartbeats 2000000 in
theorem Grant_1 {w : World} {v : Value} {p : Pl} (h : PolW w v p) (u : Nm) (n : Int) (hv : ¬ po.Valid p) : Calls Try.prog 8 #[v, .string (str u), .int .i64 n] w (FailsG 2 w) := by
  have HV : Hid (¬ po.Valid p) := hv
  clear hv
  obtain ⟨⟨vf, vu, rfl, hf, hu⟩, hl, hlu⟩ := h
  obtain ⟨pf, cf, rfl⟩ := hf.len
  obtain ⟨pu, cu, rfl, hle⟩ := hu.2
  have g0 := GW.new (w := w) hf hu
  obtain ⟨size, grain, quota, drain, best, fr, us⟩ := p
  (try dsimp only at *)
  obtain ⟨W0, hW0⟩ : ∃ W0, (w.alloc (boxP ⟨size, grain, quota, drain, best, fr, us⟩ (.slice pf fr.length cf) (.slice pu us.length cu))).alloc (.cells zeroC 25) = W0 := ⟨_, rfl⟩
  rw [hW0] at g0
  have HL := Lib.hid (And.intro hl hlu)
  have HG0 := Lib.hid g0
  have k0 := (GW.pb g0).k0; (try dsimp only at k0); have k1 := (GW.pb g0).k1; (try dsimp only at k1); have k2 := (GW.pb g0).k2; (try dsimp only at k2); have k3 := (GW.pb g0).k3; (try dsimp only at k3); have k4 := (GW.pb g0).k4; (try dsimp only at k4); have k5 := (GW.pb g0).k5; (try dsimp only at k5); have k6 := (GW.pb g0).k6; (try dsimp only at k6)
  clear g0 hf hu hl hlu
  generalize str u = su at *
  go_enter Try.func8, Try.ntmps8
  go_wp2_with (first | (go_at_call 10; refine (Check_no (HG0.out.pw HL.out.1 HL.out.2) HV.out).mono ?_; rintro e w1 ⟨rfl, hb1⟩; have g1 := HG0.out.next hb1; have HG1 := Lib.hid g1; have j0 := (GW.pb g1).k0; (try dsimp only at j0); have j1 := (GW.pb g1).k1; (try dsimp only at j1); have j2 := (GW.pb g1).k2; (try dsimp only at j2); have j3 := (GW.pb g1).k3; (try dsimp only at j3); have j4 := (GW.pb g1).k4; (try dsimp only at j4); have j5 := (GW.pb g1).k5; (try dsimp only at j5); have j6 := (GW.pb g1).k6; (try dsimp only at j6); clear hb1 g1) | (refine wpList_store_row rfl _ _ _ rfl (w.heap.size + 1) zeroC rfl rfl 25 zeroC HG1.out.hR (by kernel_rfl) rfl (by kernel_rfl) ?_))
  have y0 := row_cells HG1.out.hR (cs := zeroC) 0 _ rfl
  have y1 := row_cells HG1.out.hR (cs := zeroC) 1 _ rfl
  have y2 := row_cells HG1.out.hR (cs := zeroC) 2 _ rfl
  have y3 := row_cells HG1.out.hR (cs := zeroC) 3 _ rfl
  have y4 := row_cells HG1.out.hR (cs := zeroC) 4 _ rfl
  have y5 := row_cells HG1.out.hR (cs := zeroC) 5 _ rfl
  have y6 := row_cells HG1.out.hR (cs := zeroC) 6 _ rfl
  exact bodyPost_ret (v := .tuple #[.agg zeroC, .slice none 0 0, .int .i64 2]) (by simp [results, Try.results8, go_sem, y0, y1, y2, y3, y4, y5, y6]) rfl ⟨rfl, below_setRow HG1.out.hb (by omega) _⟩
set_option maxHeartbeats 2000000 in
theorem Grant_2 {w : World} {v : Value} {p : Pl} (h : PolW w v p) (u : Nm) (n : Int) (hv : po.Valid p) (hn : ¬ po.Qt n) : Calls Try.prog 8 #[v, .string (str u), .int .i64 n] w (FailsG 2 w) := by
  have HV : Hid (po.Valid p) := hv
  have HQ := fun W => pquantity_any n W
  rw [show quant n = false from decide_eq_false hn] at HQ
  clear hv hn
  obtain ⟨⟨vf, vu, rfl, hf, hu⟩, hl, hlu⟩ := h
  obtain ⟨pf, cf, rfl⟩ := hf.len
  obtain ⟨pu, cu, rfl, hle⟩ := hu.2
  have g0 := GW.new (w := w) hf hu
  obtain ⟨size, grain, quota, drain, best, fr, us⟩ := p
  (try dsimp only at *)
  obtain ⟨W0, hW0⟩ : ∃ W0, (w.alloc (boxP ⟨size, grain, quota, drain, best, fr, us⟩ (.slice pf fr.length cf) (.slice pu us.length cu))).alloc (.cells zeroC 25) = W0 := ⟨_, rfl⟩
  rw [hW0] at g0
  have HL := Lib.hid (And.intro hl hlu)
  have HG0 := Lib.hid g0
  have k0 := (GW.pb g0).k0; (try dsimp only at k0); have k1 := (GW.pb g0).k1; (try dsimp only at k1); have k2 := (GW.pb g0).k2; (try dsimp only at k2); have k3 := (GW.pb g0).k3; (try dsimp only at k3); have k4 := (GW.pb g0).k4; (try dsimp only at k4); have k5 := (GW.pb g0).k5; (try dsimp only at k5); have k6 := (GW.pb g0).k6; (try dsimp only at k6)
  clear g0 hf hu hl hlu
  generalize str u = su at *
  go_enter Try.func8, Try.ntmps8
  go_wp2_with (first | (go_at_call 10; refine (Check_yes (HG0.out.pw HL.out.1 HL.out.2) HV.out).mono ?_; rintro e w1 ⟨rfl, hb1⟩; have g1 := HG0.out.next hb1; have HG1 := Lib.hid g1; have j0 := (GW.pb g1).k0; (try dsimp only at j0); have j1 := (GW.pb g1).k1; (try dsimp only at j1); have j2 := (GW.pb g1).k2; (try dsimp only at j2); have j3 := (GW.pb g1).k3; (try dsimp only at j3); have j4 := (GW.pb g1).k4; (try dsimp only at j4); have j5 := (GW.pb g1).k5; (try dsimp only at j5); have j6 := (GW.pb g1).k6; (try dsimp only at j6); clear hb1 g1) | (go_at_call 20; refine (HQ _).mono ?_; rintro e w1 ⟨rfl, rfl⟩) | (refine wpList_store_row rfl _ _ _ rfl (w.heap.size + 1) zeroC rfl rfl 25 zeroC HG1.out.hR (by kernel_rfl) rfl (by kernel_rfl) ?_))
  have y0 := row_cells HG1.out.hR (cs := zeroC) 0 _ rfl
  have y1 := row_cells HG1.out.hR (cs := zeroC) 1 _ rfl
  have y2 := row_cells HG1.out.hR (cs := zeroC) 2 _ rfl
  have y3 := row_cells HG1.out.hR (cs := zeroC) 3 _ rfl
  have y4 := row_cells HG1.out.hR (cs := zeroC) 4 _ rfl
  have y5 := row_cells HG1.out.hR (cs := zeroC) 5 _ rfl
  have y6 := row_cells HG1.out.hR (cs := zeroC) 6 _ rfl
  exact bodyPost_ret (v := .tuple #[.agg zeroC, .slice none 0 0, .int .i64 2]) (by simp [results, Try.results8, go_sem, y0, y1, y2, y3, y4, y5, y6]) rfl ⟨rfl, below_setRow HG1.out.hb (by omega) _⟩
set_option maxHeartbeats 2000000 in
theorem Grant_3 {w : World} {v : Value} {p : Pl} (h : PolW w v p) (u : Nm) (n : Int) (hv : po.Valid p) (hn : n = 0) : Calls Try.prog 8 #[v, .string (str u), .int .i64 n] w (FailsG 2 w) := by
  subst hn
  have HV : Hid (po.Valid p) := hv
  have HQ := fun W => pquantity_any 0 W
  rw [show quant 0 = true from rfl] at HQ
  clear hv
  obtain ⟨⟨vf, vu, rfl, hf, hu⟩, hl, hlu⟩ := h
  obtain ⟨pf, cf, rfl⟩ := hf.len
  obtain ⟨pu, cu, rfl, hle⟩ := hu.2
  have g0 := GW.new (w := w) hf hu
  obtain ⟨size, grain, quota, drain, best, fr, us⟩ := p
  (try dsimp only at *)
  obtain ⟨W0, hW0⟩ : ∃ W0, (w.alloc (boxP ⟨size, grain, quota, drain, best, fr, us⟩ (.slice pf fr.length cf) (.slice pu us.length cu))).alloc (.cells zeroC 25) = W0 := ⟨_, rfl⟩
  rw [hW0] at g0
  have HL := Lib.hid (And.intro hl hlu)
  have HG0 := Lib.hid g0
  have k0 := (GW.pb g0).k0; (try dsimp only at k0); have k1 := (GW.pb g0).k1; (try dsimp only at k1); have k2 := (GW.pb g0).k2; (try dsimp only at k2); have k3 := (GW.pb g0).k3; (try dsimp only at k3); have k4 := (GW.pb g0).k4; (try dsimp only at k4); have k5 := (GW.pb g0).k5; (try dsimp only at k5); have k6 := (GW.pb g0).k6; (try dsimp only at k6)
  clear g0 hf hu hl hlu
  generalize str u = su at *
  go_enter Try.func8, Try.ntmps8
  go_wp2_with (first | (go_at_call 10; refine (Check_yes (HG0.out.pw HL.out.1 HL.out.2) HV.out).mono ?_; rintro e w1 ⟨rfl, hb1⟩; have g1 := HG0.out.next hb1; have HG1 := Lib.hid g1; have j0 := (GW.pb g1).k0; (try dsimp only at j0); have j1 := (GW.pb g1).k1; (try dsimp only at j1); have j2 := (GW.pb g1).k2; (try dsimp only at j2); have j3 := (GW.pb g1).k3; (try dsimp only at j3); have j4 := (GW.pb g1).k4; (try dsimp only at j4); have j5 := (GW.pb g1).k5; (try dsimp only at j5); have j6 := (GW.pb g1).k6; (try dsimp only at j6); clear hb1 g1) | (go_at_call 20; refine (HQ _).mono ?_; rintro e w1 ⟨rfl, rfl⟩) | (refine wpList_store_row rfl _ _ _ rfl (w.heap.size + 1) zeroC rfl rfl 25 zeroC HG1.out.hR (by kernel_rfl) rfl (by kernel_rfl) ?_))
  have y0 := row_cells HG1.out.hR (cs := zeroC) 0 _ rfl
  have y1 := row_cells HG1.out.hR (cs := zeroC) 1 _ rfl
  have y2 := row_cells HG1.out.hR (cs := zeroC) 2 _ rfl
  have y3 := row_cells HG1.out.hR (cs := zeroC) 3 _ rfl
  have y4 := row_cells HG1.out.hR (cs := zeroC) 4 _ rfl
  have y5 := row_cells HG1.out.hR (cs := zeroC) 5 _ rfl
  have y6 := row_cells HG1.out.hR (cs := zeroC) 6 _ rfl
  exact bodyPost_ret (v := .tuple #[.agg zeroC, .slice none 0 0, .int .i64 2]) (by simp [results, Try.results8, go_sem, y0, y1, y2, y3, y4, y5, y6]) rfl ⟨rfl, below_setRow HG1.out.hb (by omega) _⟩
set_option maxHeartbeats 2000000 in
theorem Grant_4 {w : World} {v : Value} {p : Pl} (h : PolW w v p) (u : Nm) (n : Int) (hv : po.Valid p) (hn0 : 0 < n) (hn1 : n ≤ 1099511627776) (hu : ¬ po.Nam u) : Calls Try.prog 8 #[v, .string (str u), .int .i64 n] w (FailsG 2 w) := by
  have HV : Hid (po.Valid p) := hv
  have HQ := fun W => pquantity_any n W
  rw [show quant n = true from decide_eq_true ⟨by omega, hn1⟩] at HQ
  have hz : (n == 0) = false := beq_eq_false_iff_ne.2 (by omega)
  have HN := fun W => name_any u W
  rw [decide_eq_false hu] at HN
  clear hv hu hn0 hn1
  obtain ⟨⟨vf, vu, rfl, hf, hu⟩, hl, hlu⟩ := h
  obtain ⟨pf, cf, rfl⟩ := hf.len
  obtain ⟨pu, cu, rfl, hle⟩ := hu.2
  have g0 := GW.new (w := w) hf hu
  obtain ⟨size, grain, quota, drain, best, fr, us⟩ := p
  (try dsimp only at *)
  obtain ⟨W0, hW0⟩ : ∃ W0, (w.alloc (boxP ⟨size, grain, quota, drain, best, fr, us⟩ (.slice pf fr.length cf) (.slice pu us.length cu))).alloc (.cells zeroC 25) = W0 := ⟨_, rfl⟩
  rw [hW0] at g0
  have HL := Lib.hid (And.intro hl hlu)
  have HG0 := Lib.hid g0
  have k0 := (GW.pb g0).k0; (try dsimp only at k0); have k1 := (GW.pb g0).k1; (try dsimp only at k1); have k2 := (GW.pb g0).k2; (try dsimp only at k2); have k3 := (GW.pb g0).k3; (try dsimp only at k3); have k4 := (GW.pb g0).k4; (try dsimp only at k4); have k5 := (GW.pb g0).k5; (try dsimp only at k5); have k6 := (GW.pb g0).k6; (try dsimp only at k6)
  clear g0 hf hu hl hlu
  generalize str u = su at *
  go_enter Try.func8, Try.ntmps8
  go_wp2_with (first | (go_at_call 10; refine (Check_yes (HG0.out.pw HL.out.1 HL.out.2) HV.out).mono ?_; rintro e w1 ⟨rfl, hb1⟩; have g1 := HG0.out.next hb1; have HG1 := Lib.hid g1; have j0 := (GW.pb g1).k0; (try dsimp only at j0); have j1 := (GW.pb g1).k1; (try dsimp only at j1); have j2 := (GW.pb g1).k2; (try dsimp only at j2); have j3 := (GW.pb g1).k3; (try dsimp only at j3); have j4 := (GW.pb g1).k4; (try dsimp only at j4); have j5 := (GW.pb g1).k5; (try dsimp only at j5); have j6 := (GW.pb g1).k6; (try dsimp only at j6); clear hb1 g1) | (go_at_call 20; refine (HQ _).mono ?_; rintro e w1 ⟨rfl, rfl⟩) | (go_at_call 21; refine (HN _).mono ?_; rintro e w1 ⟨rfl, rfl⟩) | (refine wpList_store_row rfl _ _ _ rfl (w.heap.size + 1) zeroC rfl rfl 25 zeroC HG1.out.hR (by kernel_rfl) rfl (by kernel_rfl) ?_))
  have y0 := row_cells HG1.out.hR (cs := zeroC) 0 _ rfl
  have y1 := row_cells HG1.out.hR (cs := zeroC) 1 _ rfl
  have y2 := row_cells HG1.out.hR (cs := zeroC) 2 _ rfl
  have y3 := row_cells HG1.out.hR (cs := zeroC) 3 _ rfl
  have y4 := row_cells HG1.out.hR (cs := zeroC) 4 _ rfl
  have y5 := row_cells HG1.out.hR (cs := zeroC) 5 _ rfl
  have y6 := row_cells HG1.out.hR (cs := zeroC) 6 _ rfl
  exact bodyPost_ret (v := .tuple #[.agg zeroC, .slice none 0 0, .int .i64 2]) (by simp [results, Try.results8, go_sem, y0, y1, y2, y3, y4, y5, y6]) rfl ⟨rfl, below_setRow HG1.out.hb (by omega) _⟩
set_option maxHeartbeats 2000000 in
theorem Grant_5 {w : World} {v : Value} {p : Pl} (h : PolW w v p) (u : Nm) (n : Int) (hv : po.Valid p) (hn0 : 0 < n) (hn1 : n ≤ 1099511627776) (hu : po.Nam u) (hd : p.drain = true) : Calls Try.prog 8 #[v, .string (str u), .int .i64 n] w (FailsG 9 w) := by
  have HV : Hid (po.Valid p) := hv
  have HQ := fun W => pquantity_any n W
  rw [show quant n = true from decide_eq_true ⟨by omega, hn1⟩] at HQ
  have hz : (n == 0) = false := beq_eq_false_iff_ne.2 (by omega)
  have HN := fun W => name_any u W
  rw [decide_eq_true hu] at HN
  clear hv hu hn0 hn1
  obtain ⟨⟨vf, vu, rfl, hf, hu⟩, hl, hlu⟩ := h
  obtain ⟨pf, cf, rfl⟩ := hf.len
  obtain ⟨pu, cu, rfl, hle⟩ := hu.2
  have g0 := GW.new (w := w) hf hu
  obtain ⟨size, grain, quota, drain, best, fr, us⟩ := p
  (try dsimp only at *)
  obtain ⟨W0, hW0⟩ : ∃ W0, (w.alloc (boxP ⟨size, grain, quota, drain, best, fr, us⟩ (.slice pf fr.length cf) (.slice pu us.length cu))).alloc (.cells zeroC 25) = W0 := ⟨_, rfl⟩
  rw [hW0] at g0
  have HL := Lib.hid (And.intro hl hlu)
  have HG0 := Lib.hid g0
  have k0 := (GW.pb g0).k0; (try dsimp only at k0); have k1 := (GW.pb g0).k1; (try dsimp only at k1); have k2 := (GW.pb g0).k2; (try dsimp only at k2); have k3 := (GW.pb g0).k3; (try dsimp only at k3); have k4 := (GW.pb g0).k4; (try dsimp only at k4); have k5 := (GW.pb g0).k5; (try dsimp only at k5); have k6 := (GW.pb g0).k6; (try dsimp only at k6)
  clear g0 hf hu hl hlu
  subst hd
  generalize str u = su at *
  go_enter Try.func8, Try.ntmps8
  go_wp2_with (first | (go_at_call 10; refine (Check_yes (HG0.out.pw HL.out.1 HL.out.2) HV.out).mono ?_; rintro e w1 ⟨rfl, hb1⟩; have g1 := HG0.out.next hb1; have HG1 := Lib.hid g1; have j0 := (GW.pb g1).k0; (try dsimp only at j0); have j1 := (GW.pb g1).k1; (try dsimp only at j1); have j2 := (GW.pb g1).k2; (try dsimp only at j2); have j3 := (GW.pb g1).k3; (try dsimp only at j3); have j4 := (GW.pb g1).k4; (try dsimp only at j4); have j5 := (GW.pb g1).k5; (try dsimp only at j5); have j6 := (GW.pb g1).k6; (try dsimp only at j6); clear hb1 g1) | (go_at_call 20; refine (HQ _).mono ?_; rintro e w1 ⟨rfl, rfl⟩) | (go_at_call 21; refine (HN _).mono ?_; rintro e w1 ⟨rfl, rfl⟩) | (refine wpList_store_row rfl _ _ _ rfl (w.heap.size + 1) zeroC rfl rfl 25 zeroC HG1.out.hR (by kernel_rfl) rfl (by kernel_rfl) ?_))
  have y0 := row_cells HG1.out.hR (cs := zeroC) 0 _ rfl
  have y1 := row_cells HG1.out.hR (cs := zeroC) 1 _ rfl
  have y2 := row_cells HG1.out.hR (cs := zeroC) 2 _ rfl
  have y3 := row_cells HG1.out.hR (cs := zeroC) 3 _ rfl
  have y4 := row_cells HG1.out.hR (cs := zeroC) 4 _ rfl
  have y5 := row_cells HG1.out.hR (cs := zeroC) 5 _ rfl
  have y6 := row_cells HG1.out.hR (cs := zeroC) 6 _ rfl
  exact bodyPost_ret (v := .tuple #[.agg zeroC, .slice none 0 0, .int .i64 9]) (by simp [results, Try.results8, go_sem, y0, y1, y2, y3, y4, y5, y6]) rfl ⟨rfl, below_setRow HG1.out.hb (by omega) _⟩
set_option maxHeartbeats 2000000 in
theorem Grant_6 {w : World} {v : Value} {p : Pl} (h : PolW w v p) (u : Nm) (n : Int) (hv : po.Valid p) (hn0 : 0 < n) (hn1 : n ≤ 1099511627776) (hu : po.Nam u) (hd : p.drain = false) (hq : 0 < p.quota) (hg : p.quota - po.lk p.uses u < po.gr n p.grain) : Calls Try.prog 8 #[v, .string (str u), .int .i64 n] w (FailsG 120 w) := by
  have HV : Hid (po.Valid p) := hv
  have HQ := fun W => pquantity_any n W
  rw [show quant n = true from decide_eq_true ⟨by omega, hn1⟩] at HQ
  have hz : (n == 0) = false := beq_eq_false_iff_ne.2 (by omega)
  have HN := fun W => name_any u W
  rw [decide_eq_true hu] at HN
  have HGR : ∀ W, Calls Try.prog 22 #[.int .i64 n, .int .i64 p.grain] W fun e w' => e = .returned (.int .i64 (po.gr n p.grain)) ∧ W = w' := fun W => grain_any n p.grain W
  have b1 := po.gr_bd n p.grain
  have b2 := po.lk_pos hv.pos u
  have b3 := po.lk_sm hv.pos u
  have b4 := hv.va
  have b5 := hv.vb.s.2
  have b6 := (tot_pos hv.vf.2.1).1
  have b7 := hv.vb.q.2
  have b8 := hv.vb.q.1
  have b9 : po.lk p.uses u ≤ 1099511627776 := by omega
  clear b3 b4 b5 b6
  have d1 : decide (0 < p.quota) = true := decide_eq_true hq
  have d2 : decide (p.quota - po.lk p.uses u < po.gr n p.grain) = true := decide_eq_true hg
  clear hv hu hn0 hn1 hq hg
  obtain ⟨⟨vf, vu, rfl, hf, hu⟩, hl, hlu⟩ := h
  obtain ⟨pf, cf, rfl⟩ := hf.len
  obtain ⟨pu, cu, rfl, hle⟩ := hu.2
  have g0 := GW.new (w := w) hf hu
  have HUS := Lib.hid fun (W : World) (h : GW w W p (.slice pf p.free.length cf) (.slice pu p.uses.length cu)) => used_any (v := aggP p (.slice pf p.free.length cf) (.slice pu p.uses.length cu)) u ⟨_, _, rfl, h.hf, h.hu⟩ HV.out.vr (by omega)
  obtain ⟨size, grain, quota, drain, best, fr, us⟩ := p
  (try dsimp only at *)
  obtain ⟨W0, hW0⟩ : ∃ W0, (w.alloc (boxP ⟨size, grain, quota, drain, best, fr, us⟩ (.slice pf fr.length cf) (.slice pu us.length cu))).alloc (.cells zeroC 25) = W0 := ⟨_, rfl⟩
  rw [hW0] at g0
  have HL := Lib.hid (And.intro hl hlu)
  have HG0 := Lib.hid g0
  have k0 := (GW.pb g0).k0; (try dsimp only at k0); have k1 := (GW.pb g0).k1; (try dsimp only at k1); have k2 := (GW.pb g0).k2; (try dsimp only at k2); have k3 := (GW.pb g0).k3; (try dsimp only at k3); have k4 := (GW.pb g0).k4; (try dsimp only at k4); have k5 := (GW.pb g0).k5; (try dsimp only at k5); have k6 := (GW.pb g0).k6; (try dsimp only at k6)
  clear g0 hf hu hl hlu
  subst hd
  generalize hG : po.gr n grain = G at *
  generalize hU : po.lk us u = has at *
  generalize str u = su at *
  go_enter Try.func8, Try.ntmps8
  go_wp2_with (first | (go_at_call 10; refine (Check_yes (HG0.out.pw HL.out.1 HL.out.2) HV.out).mono ?_; rintro e w1 ⟨rfl, hb1⟩; have g1 := HG0.out.next hb1; have HG1 := Lib.hid g1; have j0 := (GW.pb g1).k0; (try dsimp only at j0); have j1 := (GW.pb g1).k1; (try dsimp only at j1); have j2 := (GW.pb g1).k2; (try dsimp only at j2); have j3 := (GW.pb g1).k3; (try dsimp only at j3); have j4 := (GW.pb g1).k4; (try dsimp only at j4); have j5 := (GW.pb g1).k5; (try dsimp only at j5); have j6 := (GW.pb g1).k6; (try dsimp only at j6); clear hb1 g1) | (go_at_call 20; refine (HQ _).mono ?_; rintro e w1 ⟨rfl, rfl⟩) | (go_at_call 21; refine (HN _).mono ?_; rintro e w1 ⟨rfl, rfl⟩) | (go_at_call 22; refine (HGR _).mono ?_; rintro e w1 ⟨rfl, rfl⟩) | (go_at_call 23; refine (HUS.out _ HG1.out).mono ?_; rintro e w2 ⟨rfl, hb2⟩; have g2 := HG1.out.next hb2; have HG2 := Lib.hid g2; have i0 := (GW.pb g2).k0; (try dsimp only at i0); have i1 := (GW.pb g2).k1; (try dsimp only at i1); have i2 := (GW.pb g2).k2; (try dsimp only at i2); have i3 := (GW.pb g2).k3; (try dsimp only at i3); have i4 := (GW.pb g2).k4; (try dsimp only at i4); have i5 := (GW.pb g2).k5; (try dsimp only at i5); have i6 := (GW.pb g2).k6; (try dsimp only at i6); clear hb2 g2) | (refine wpList_store_row rfl _ _ _ rfl (w.heap.size + 1) zeroC rfl rfl 25 zeroC HG2.out.hR (by kernel_rfl) rfl (by kernel_rfl) ?_))
  have y0 := row_cells HG2.out.hR (cs := zeroC) 0 _ rfl
  have y1 := row_cells HG2.out.hR (cs := zeroC) 1 _ rfl
  have y2 := row_cells HG2.out.hR (cs := zeroC) 2 _ rfl
  have y3 := row_cells HG2.out.hR (cs := zeroC) 3 _ rfl
  have y4 := row_cells HG2.out.hR (cs := zeroC) 4 _ rfl
  have y5 := row_cells HG2.out.hR (cs := zeroC) 5 _ rfl
  have y6 := row_cells HG2.out.hR (cs := zeroC) 6 _ rfl
  exact bodyPost_ret (v := .tuple #[.agg zeroC, .slice none 0 0, .int .i64 120]) (by simp [results, Try.results8, go_sem, y0, y1, y2, y3, y4, y5, y6]) rfl ⟨rfl, below_setRow HG2.out.hb (by omega) _⟩
end Go.Proofs.Ytdjpnlkhdilakaa.gn
