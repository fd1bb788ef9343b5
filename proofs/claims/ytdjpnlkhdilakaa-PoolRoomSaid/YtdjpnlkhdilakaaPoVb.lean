/- PoolRoom: the walk, its last part (written by gen_poV.py). -/
import Derived.Test.YtdjpnlkhdilakaaPoV
set_option linter.unusedVariables false
set_option linter.unusedSimpArgs false
set_option maxRecDepth 100000
namespace Go.Proofs.Ytdjpnlkhdilakaa.gn
open Go.RowKit Go.Shelf Go.Sort Go.Lib
open Go.Proofs.Ytdjpnlkhdilakaa.ex
open Go.Proofs.Ytdjpnlkhdilakaa.po (Nm U less Pl)

attribute [local go_sem] Oper.semAt_some
attribute [local go_sem ↓] Go.wp_at_zero Go.wp_at_succ

set_option maxHeartbeats 16000000 in
theorem room_B6 {w : World} {vf vu vl : Value} {p : Pl} {l : List X} (hf : Rd w vf p.free) (hu : RdU w vu p.uses) (hl : Rd w vl l) (u : Nm) (n : Int) (hgr : grB p.free.length p.uses.length l.length (str u).size = false)(hl1 : p.free.length ≤ 1000) (hl2 : p.uses.length ≤ 3800) (hv0 : po.Valid p) (hn : ¬ n < 1) (hdp : p.drain = false) (hgc : po.gcode p u n ≠ 0) (h6 : po.gcode p u n = 6) :
    Calls Try.prog 5 #[aggA p vf vu (str u) n vl] w (TellsB true w) := by
  obtain ⟨pf, cf, rfl⟩ := hf.len
  obtain ⟨pu, cu, rfl, _⟩ := hu.2
  obtain ⟨pl, cl, rfl⟩ := hl.len
  have mixed : Try.prog.follows .mixedOrders = true := by kernel_rfl
  obtain ⟨su, hsu⟩ : ∃ su, str u = su := ⟨_, rfl⟩
  have A : AX (w.alloc (.cells #[.int .i64 p.size, .int .i64 p.grain, .int .i64 p.quota, .bool p.drain, .bool p.best, .slice pf p.free.length cf, .slice pu p.uses.length cu, .string su, .int .i64 n, .slice pl l.length cl] 27)) w.heap.size p (.slice pf p.free.length cf) (.slice pu p.uses.length cu) su n (.slice pl l.length cl) l := AX.new hf hu hl su n
  obtain ⟨W0, hW0⟩ : ∃ W0, w.alloc (.cells #[.int .i64 p.size, .int .i64 p.grain, .int .i64 p.quota, .bool p.drain, .bool p.best, .slice pf p.free.length cf, .slice pu p.uses.length cu, .string su, .int .i64 n, .slice pl l.length cl] 27) = W0 := ⟨_, rfl⟩
  have HB : Hid (RowKit.Below w.heap.size w W0) := by show RowKit.Below _ _ _; rw [← hW0]; exact below_box _ _
  rw [hW0] at A
  clear hf hu hl
  have cg := great_any p pf pu pl p.free.length cf p.uses.length cu l.length cl (str u) n W0
  rw [hgr, hsu] at cg
  rw [hsu]
  have a0 := A.pb.k0; have a1 := A.pb.k1; have a2 := A.pb.k2; have a3 := A.pb.k3; have a4 := A.pb.k4; have a5 := A.pb.k5; have a6 := A.pb.k6; have a7 := A.pb.k7; have a8 := A.pb.k8; have a9 := A.pb.k9
  have HDP := Lib.hid hdp
  clear hdp
  have d0 : decide (n < 1) = false := decide_eq_false hn
  have hn0 : 0 < n := by omega
  clear hn
  go_enter Try.func5, Try.ntmps5
  go_wp2_with fail
  clear hW0
  refine Calls.mono (cg) ?_
  rintro e z1 ⟨rfl, hb⟩
  clear a0 a1 a2 a3 a4 a5 a6 a7 a8 a9
  clear cg
  have hx1 : RowKit.Below W0.heap.size W0 z1 := by
    refine Below.trans ?_ (hb.mono ?_)
    · (first | exact Below.refl _ _ | exact (Below.refl _ _).alloc (by simp) _ | exact ((Below.refl _ _).alloc (by simp) _).alloc (by simp) _ | exact (((Below.refl _ _).alloc (by simp) _).alloc (by simp) _).alloc (by simp) _)
    · first | exact Nat.le_refl _ | (simp; done) | (simp; omega)
  replace A := A.next hx1
  replace HB := Lib.hid (HB.out.trans (hx1.mono HB.out.size))
  have a0 := A.pb.k0; have a1 := A.pb.k1; have a2 := A.pb.k2; have a3 := A.pb.k3; have a4 := A.pb.k4; have a5 := A.pb.k5; have a6 := A.pb.k6; have a7 := A.pb.k7; have a8 := A.pb.k8; have a9 := A.pb.k9
  clear hb hx1
  go_wp2_with fail
  refine Calls.mono (Check_yes (A.w hl1 hl2) hv0) ?_
  rintro e z2 ⟨rfl, hb⟩
  clear a0 a1 a2 a3 a4 a5 a6 a7 a8 a9
  have hx2 : RowKit.Below z1.heap.size z1 z2 := by
    refine Below.trans ?_ (hb.mono ?_)
    · (first | exact Below.refl _ _ | exact (Below.refl _ _).alloc (by simp) _ | exact ((Below.refl _ _).alloc (by simp) _).alloc (by simp) _ | exact (((Below.refl _ _).alloc (by simp) _).alloc (by simp) _).alloc (by simp) _)
    · first | exact Nat.le_refl _ | (simp; done) | (simp; omega)
  replace A := A.next hx2
  replace HB := Lib.hid (HB.out.trans (hx2.mono HB.out.size))
  have a0 := A.pb.k0; have a1 := A.pb.k1; have a2 := A.pb.k2; have a3 := A.pb.k3; have a4 := A.pb.k4; have a5 := A.pb.k5; have a6 := A.pb.k6; have a7 := A.pb.k7; have a8 := A.pb.k8; have a9 := A.pb.k9
  clear hb hx2
  go_wp2_with fail
  refine Calls.mono ((by have := Grant_no (A.w hl1 hl2) u n hgc; rwa [hsu] at this)) ?_
  rintro e z3 ⟨rfl, hb⟩
  clear a0 a1 a2 a3 a4 a5 a6 a7 a8 a9
  have hx3 : RowKit.Below z2.heap.size z2 z3 := by
    refine Below.trans ?_ (hb.mono ?_)
    · (first | exact Below.refl _ _ | exact (Below.refl _ _).alloc (by simp) _ | exact ((Below.refl _ _).alloc (by simp) _).alloc (by simp) _ | exact (((Below.refl _ _).alloc (by simp) _).alloc (by simp) _).alloc (by simp) _)
    · first | exact Nat.le_refl _ | (simp; done) | (simp; omega)
  replace A := A.next hx3
  replace HB := Lib.hid (HB.out.trans (hx3.mono HB.out.size))
  have a0 := A.pb.k0; have a1 := A.pb.k1; have a2 := A.pb.k2; have a3 := A.pb.k3; have a4 := A.pb.k4; have a5 := A.pb.k5; have a6 := A.pb.k6; have a7 := A.pb.k7; have a8 := A.pb.k8; have a9 := A.pb.k9
  clear hb hx3
  have lta := A.pb.lt
  go_wp2_with fail
  clear lta
  obtain ⟨y4, hy4⟩ : ∃ y, z3.alloc (.cells #[.int .i64 0, .int .i64 0, .int .i64 0, .bool false, .bool false, .slice none 0 0, .slice none 0 0] 25) = y := ⟨_, rfl⟩
  have hx4 : RowKit.Below z3.heap.size z3 y4 := by rw [← hy4]; exact below_box _ _
  clear a0 a1 a2 a3 a4 a5 a6 a7 a8 a9
  replace A := A.next hx4
  replace HB := Lib.hid (HB.out.trans (hx4.mono HB.out.size))
  have a0 := A.pb.k0; have a1 := A.pb.k1; have a2 := A.pb.k2; have a3 := A.pb.k3; have a4 := A.pb.k4; have a5 := A.pb.k5; have a6 := A.pb.k6; have a7 := A.pb.k7; have a8 := A.pb.k8; have a9 := A.pb.k9
  have Xza : PX y4 z3.heap.size zeroPl (.slice none 0 0) (.slice none 0 0) := by rw [← hy4]; exact PX.new (p := zeroPl) (.inl ⟨none, 0, rfl, rfl, fun _ => rfl⟩) (nilU _)
  have xza0 := Xza.pb.k0; have xza1 := Xza.pb.k1; have xza2 := Xza.pb.k2; have xza3 := Xza.pb.k3; have xza4 := Xza.pb.k4; have xza5 := Xza.pb.k5; have xza6 := Xza.pb.k6
  rw [hy4]
  clear hy4
  obtain ⟨D, hDD⟩ : ∃ D, ({ p with drain := true } : Pl) = D := ⟨_, rfl⟩
  have hvD : po.Valid D := by rw [← hDD]; exact hv0.dr true
  have hdD : D.drain = true := by rw [← hDD]
  have hfD : tot D.free = tot p.free := by rw [← hDD]
  have hd1 : D.free.length ≤ 1000 := by rw [← hDD]; exact hl1
  have hd2 : D.uses.length ≤ 3800 := by rw [← hDD]; exact hl2
  have hgD := po.gcode_drain (u := u) (n := n) hdD
  have HFD := Lib.hid hfD
  have HDD := Lib.hid hDD
  clear hdD hfD hDD
  refine Calls.mono (Drain_yes (A.w hl1 hl2) hv0 true) ?_
  rintro e z5 ⟨va, rfl, hv, hb⟩
  clear a0 a1 a2 a3 a4 a5 a6 a7 a8 a9 xza0 xza1 xza2 xza3 xza4 xza5 xza6
  rw [HDD.out] at hv
  have hx5 : RowKit.Below y4.heap.size y4 z5 := by
    refine Below.trans ?_ (hb.mono ?_)
    · (first | exact Below.refl _ _ | exact (Below.refl _ _).alloc (by simp) _ | exact ((Below.refl _ _).alloc (by simp) _).alloc (by simp) _ | exact (((Below.refl _ _).alloc (by simp) _).alloc (by simp) _).alloc (by simp) _)
    · first | exact Nat.le_refl _ | (simp; done) | (simp; omega)
  replace A := A.next hx5
  replace Xza := Xza.next hx5
  replace HB := Lib.hid (HB.out.trans (hx5.mono HB.out.size))
  have a0 := A.pb.k0; have a1 := A.pb.k1; have a2 := A.pb.k2; have a3 := A.pb.k3; have a4 := A.pb.k4; have a5 := A.pb.k5; have a6 := A.pb.k6; have a7 := A.pb.k7; have a8 := A.pb.k8; have a9 := A.pb.k9
  have xza0 := Xza.pb.k0; have xza1 := Xza.pb.k1; have xza2 := Xza.pb.k2; have xza3 := Xza.pb.k3; have xza4 := Xza.pb.k4; have xza5 := Xza.pb.k5; have xza6 := Xza.pb.k6
  clear hb hx5
  obtain ⟨vfd, vud, rfl, hfd, hud⟩ := hv
  obtain ⟨afd, cfd, rfl⟩ := hfd.len
  obtain ⟨aud, cud, rfl, _⟩ := hud.2
  have Xd : PX (z5.alloc (.cells #[.int .i64 D.size, .int .i64 D.grain, .int .i64 D.quota, .bool D.drain, .bool D.best, .slice afd D.free.length cfd, .slice aud D.uses.length cud] 25)) z5.heap.size D (.slice afd D.free.length cfd) (.slice aud D.uses.length cud) := PX.new hfd hud
  obtain ⟨y6, hy6⟩ : ∃ y, z5.alloc (.cells #[.int .i64 D.size, .int .i64 D.grain, .int .i64 D.quota, .bool D.drain, .bool D.best, .slice afd D.free.length cfd, .slice aud D.uses.length cud] 25) = y := ⟨_, rfl⟩
  have hx6 : RowKit.Below z5.heap.size z5 y6 := by rw [← hy6]; exact below_box _ _
  clear a0 a1 a2 a3 a4 a5 a6 a7 a8 a9 xza0 xza1 xza2 xza3 xza4 xza5 xza6
  replace A := A.next hx6
  replace Xza := Xza.next hx6
  replace HB := Lib.hid (HB.out.trans (hx6.mono HB.out.size))
  have a0 := A.pb.k0; have a1 := A.pb.k1; have a2 := A.pb.k2; have a3 := A.pb.k3; have a4 := A.pb.k4; have a5 := A.pb.k5; have a6 := A.pb.k6; have a7 := A.pb.k7; have a8 := A.pb.k8; have a9 := A.pb.k9
  have xza0 := Xza.pb.k0; have xza1 := Xza.pb.k1; have xza2 := Xza.pb.k2; have xza3 := Xza.pb.k3; have xza4 := Xza.pb.k4; have xza5 := Xza.pb.k5; have xza6 := Xza.pb.k6
  rw [hy6] at Xd
  clear hfd hud
  have xd0 := Xd.pb.k0; have xd1 := Xd.pb.k1; have xd2 := Xd.pb.k2; have xd3 := Xd.pb.k3; have xd4 := Xd.pb.k4; have xd5 := Xd.pb.k5; have xd6 := Xd.pb.k6
  go_wp2_with fail
  clear hy6
  refine Calls.mono ((by have := Grant_no (Xd.w hd1 hd2) u n (by rcases hgD with e | e <;> rw [e] <;> decide); rwa [hsu] at this)) ?_
  rintro e z7 ⟨rfl, hb⟩
  clear a0 a1 a2 a3 a4 a5 a6 a7 a8 a9 xza0 xza1 xza2 xza3 xza4 xza5 xza6 xd0 xd1 xd2 xd3 xd4 xd5 xd6
  have hx7 : RowKit.Below y6.heap.size y6 z7 := by
    refine Below.trans ?_ (hb.mono ?_)
    · (first | exact Below.refl _ _ | exact (Below.refl _ _).alloc (by simp) _ | exact ((Below.refl _ _).alloc (by simp) _).alloc (by simp) _ | exact (((Below.refl _ _).alloc (by simp) _).alloc (by simp) _).alloc (by simp) _)
    · first | exact Nat.le_refl _ | (simp; done) | (simp; omega)
  replace A := A.next hx7
  replace Xza := Xza.next hx7
  replace Xd := Xd.next hx7
  replace HB := Lib.hid (HB.out.trans (hx7.mono HB.out.size))
  have a0 := A.pb.k0; have a1 := A.pb.k1; have a2 := A.pb.k2; have a3 := A.pb.k3; have a4 := A.pb.k4; have a5 := A.pb.k5; have a6 := A.pb.k6; have a7 := A.pb.k7; have a8 := A.pb.k8; have a9 := A.pb.k9
  have xza0 := Xza.pb.k0; have xza1 := Xza.pb.k1; have xza2 := Xza.pb.k2; have xza3 := Xza.pb.k3; have xza4 := Xza.pb.k4; have xza5 := Xza.pb.k5; have xza6 := Xza.pb.k6
  have xd0 := Xd.pb.k0; have xd1 := Xd.pb.k1; have xd2 := Xd.pb.k2; have xd3 := Xd.pb.k3; have xd4 := Xd.pb.k4; have xd5 := Xd.pb.k5; have xd6 := Xd.pb.k6
  clear hb hx7
  generalize po.gcode D u n = g at *
  have hg2 : (g != 2) = false ∨ ((g != 2) = true ∧ (g != 9) = false) := by rcases hgD with e | e <;> subst e <;> simp
  have lta := A.pb.lt
  have ltxza := Xza.pb.lt
  have ltxd := Xd.pb.lt
  go_wp2_with fail
  clear lta
  clear ltxza
  clear ltxd
  obtain ⟨y8, hy8⟩ : ∃ y, z7.alloc (.cells #[.int .i64 0, .int .i64 0, .int .i64 0, .bool false, .bool false, .slice none 0 0, .slice none 0 0] 25) = y := ⟨_, rfl⟩
  have hx8 : RowKit.Below z7.heap.size z7 y8 := by rw [← hy8]; exact below_box _ _
  clear a0 a1 a2 a3 a4 a5 a6 a7 a8 a9 xza0 xza1 xza2 xza3 xza4 xza5 xza6 xd0 xd1 xd2 xd3 xd4 xd5 xd6
  replace A := A.next hx8
  replace Xza := Xza.next hx8
  replace Xd := Xd.next hx8
  replace HB := Lib.hid (HB.out.trans (hx8.mono HB.out.size))
  have a0 := A.pb.k0; have a1 := A.pb.k1; have a2 := A.pb.k2; have a3 := A.pb.k3; have a4 := A.pb.k4; have a5 := A.pb.k5; have a6 := A.pb.k6; have a7 := A.pb.k7; have a8 := A.pb.k8; have a9 := A.pb.k9
  have xza0 := Xza.pb.k0; have xza1 := Xza.pb.k1; have xza2 := Xza.pb.k2; have xza3 := Xza.pb.k3; have xza4 := Xza.pb.k4; have xza5 := Xza.pb.k5; have xza6 := Xza.pb.k6
  have xd0 := Xd.pb.k0; have xd1 := Xd.pb.k1; have xd2 := Xd.pb.k2; have xd3 := Xd.pb.k3; have xd4 := Xd.pb.k4; have xd5 := Xd.pb.k5; have xd6 := Xd.pb.k6
  rw [hy8]
  clear hy8
  obtain ⟨O, hOO⟩ : ∃ O, ({ D with drain := false } : Pl) = O := ⟨_, rfl⟩
  have hvO : po.Valid O := by rw [← hOO]; exact hvD.dr false
  have ho1 : O.free.length ≤ 1000 := by rw [← hOO]; exact hd1
  have ho2 : O.uses.length ≤ 3800 := by rw [← hOO]; exact hd2
  have HOO := Lib.hid hOO
  clear hOO
  refine Calls.mono (Drain_yes (Xd.w hd1 hd2) hvD false) ?_
  rintro e z9 ⟨va, rfl, hv, hb⟩
  clear a0 a1 a2 a3 a4 a5 a6 a7 a8 a9 xza0 xza1 xza2 xza3 xza4 xza5 xza6 xd0 xd1 xd2 xd3 xd4 xd5 xd6
  rw [HOO.out] at hv
  have hx9 : RowKit.Below y8.heap.size y8 z9 := by
    refine Below.trans ?_ (hb.mono ?_)
    · (first | exact Below.refl _ _ | exact (Below.refl _ _).alloc (by simp) _ | exact ((Below.refl _ _).alloc (by simp) _).alloc (by simp) _ | exact (((Below.refl _ _).alloc (by simp) _).alloc (by simp) _).alloc (by simp) _)
    · first | exact Nat.le_refl _ | (simp; done) | (simp; omega)
  replace A := A.next hx9
  replace Xza := Xza.next hx9
  replace Xd := Xd.next hx9
  replace HB := Lib.hid (HB.out.trans (hx9.mono HB.out.size))
  have a0 := A.pb.k0; have a1 := A.pb.k1; have a2 := A.pb.k2; have a3 := A.pb.k3; have a4 := A.pb.k4; have a5 := A.pb.k5; have a6 := A.pb.k6; have a7 := A.pb.k7; have a8 := A.pb.k8; have a9 := A.pb.k9
  have xza0 := Xza.pb.k0; have xza1 := Xza.pb.k1; have xza2 := Xza.pb.k2; have xza3 := Xza.pb.k3; have xza4 := Xza.pb.k4; have xza5 := Xza.pb.k5; have xza6 := Xza.pb.k6
  have xd0 := Xd.pb.k0; have xd1 := Xd.pb.k1; have xd2 := Xd.pb.k2; have xd3 := Xd.pb.k3; have xd4 := Xd.pb.k4; have xd5 := Xd.pb.k5; have xd6 := Xd.pb.k6
  clear hb hx9
  obtain ⟨vfo, vuo, rfl, hfo, huo⟩ := hv
  obtain ⟨afo, cfo, rfl⟩ := hfo.len
  obtain ⟨auo, cuo, rfl, _⟩ := huo.2
  have Xo : PX (z9.alloc (.cells #[.int .i64 O.size, .int .i64 O.grain, .int .i64 O.quota, .bool O.drain, .bool O.best, .slice afo O.free.length cfo, .slice auo O.uses.length cuo] 25)) z9.heap.size O (.slice afo O.free.length cfo) (.slice auo O.uses.length cuo) := PX.new hfo huo
  obtain ⟨y10, hy10⟩ : ∃ y, z9.alloc (.cells #[.int .i64 O.size, .int .i64 O.grain, .int .i64 O.quota, .bool O.drain, .bool O.best, .slice afo O.free.length cfo, .slice auo O.uses.length cuo] 25) = y := ⟨_, rfl⟩
  have hx10 : RowKit.Below z9.heap.size z9 y10 := by rw [← hy10]; exact below_box _ _
  clear a0 a1 a2 a3 a4 a5 a6 a7 a8 a9 xza0 xza1 xza2 xza3 xza4 xza5 xza6 xd0 xd1 xd2 xd3 xd4 xd5 xd6
  replace A := A.next hx10
  replace Xza := Xza.next hx10
  replace Xd := Xd.next hx10
  replace HB := Lib.hid (HB.out.trans (hx10.mono HB.out.size))
  have a0 := A.pb.k0; have a1 := A.pb.k1; have a2 := A.pb.k2; have a3 := A.pb.k3; have a4 := A.pb.k4; have a5 := A.pb.k5; have a6 := A.pb.k6; have a7 := A.pb.k7; have a8 := A.pb.k8; have a9 := A.pb.k9
  have xza0 := Xza.pb.k0; have xza1 := Xza.pb.k1; have xza2 := Xza.pb.k2; have xza3 := Xza.pb.k3; have xza4 := Xza.pb.k4; have xza5 := Xza.pb.k5; have xza6 := Xza.pb.k6
  have xd0 := Xd.pb.k0; have xd1 := Xd.pb.k1; have xd2 := Xd.pb.k2; have xd3 := Xd.pb.k3; have xd4 := Xd.pb.k4; have xd5 := Xd.pb.k5; have xd6 := Xd.pb.k6
  rw [hy10] at Xo
  clear hfo huo
  have xo0 := Xo.pb.k0; have xo1 := Xo.pb.k1; have xo2 := Xo.pb.k2; have xo3 := Xo.pb.k3; have xo4 := Xo.pb.k4; have xo5 := Xo.pb.k5; have xo6 := Xo.pb.k6
  go_wp2_with fail
  clear hy10
  have HOp : Hid (O = p) := by show O = p; rw [← HOO.out, ← HDD.out]; exact dr_back HDP.out
  have hOc : po.gcode O u n = po.gcode p u n := by rw [HOp.out]
  refine Calls.mono ((by have := Grant_no (Xo.w ho1 ho2) u n (by rw [hOc]; exact hgc); rwa [hsu, hOc] at this)) ?_
  rintro e z11 ⟨rfl, hb⟩
  clear a0 a1 a2 a3 a4 a5 a6 a7 a8 a9 xza0 xza1 xza2 xza3 xza4 xza5 xza6 xd0 xd1 xd2 xd3 xd4 xd5 xd6 xo0 xo1 xo2 xo3 xo4 xo5 xo6
  have hx11 : RowKit.Below y10.heap.size y10 z11 := by
    refine Below.trans ?_ (hb.mono ?_)
    · (first | exact Below.refl _ _ | exact (Below.refl _ _).alloc (by simp) _ | exact ((Below.refl _ _).alloc (by simp) _).alloc (by simp) _ | exact (((Below.refl _ _).alloc (by simp) _).alloc (by simp) _).alloc (by simp) _)
    · first | exact Nat.le_refl _ | (simp; done) | (simp; omega)
  replace A := A.next hx11
  replace Xza := Xza.next hx11
  replace Xd := Xd.next hx11
  replace Xo := Xo.next hx11
  replace HB := Lib.hid (HB.out.trans (hx11.mono HB.out.size))
  have a0 := A.pb.k0; have a1 := A.pb.k1; have a2 := A.pb.k2; have a3 := A.pb.k3; have a4 := A.pb.k4; have a5 := A.pb.k5; have a6 := A.pb.k6; have a7 := A.pb.k7; have a8 := A.pb.k8; have a9 := A.pb.k9
  have xza0 := Xza.pb.k0; have xza1 := Xza.pb.k1; have xza2 := Xza.pb.k2; have xza3 := Xza.pb.k3; have xza4 := Xza.pb.k4; have xza5 := Xza.pb.k5; have xza6 := Xza.pb.k6
  have xd0 := Xd.pb.k0; have xd1 := Xd.pb.k1; have xd2 := Xd.pb.k2; have xd3 := Xd.pb.k3; have xd4 := Xd.pb.k4; have xd5 := Xd.pb.k5; have xd6 := Xd.pb.k6
  have xo0 := Xo.pb.k0; have xo1 := Xo.pb.k1; have xo2 := Xo.pb.k2; have xo3 := Xo.pb.k3; have xo4 := Xo.pb.k4; have xo5 := Xo.pb.k5; have xo6 := Xo.pb.k6
  clear hb hx11
  clear hOc
  have lta := A.pb.lt
  have ltxza := Xza.pb.lt
  have ltxd := Xd.pb.lt
  have ltxo := Xo.pb.lt
  go_upto_region 8 with fail
  clear lta
  clear ltxza
  clear ltxd
  clear ltxo
  obtain ⟨y12, hy12⟩ : ∃ y, z11.alloc (.cells #[.int .i64 0, .int .i64 0, .int .i64 0, .bool false, .bool false, .slice none 0 0, .slice none 0 0] 25) = y := ⟨_, rfl⟩
  have hx12 : RowKit.Below z11.heap.size z11 y12 := by rw [← hy12]; exact below_box _ _
  clear a0 a1 a2 a3 a4 a5 a6 a7 a8 a9 xza0 xza1 xza2 xza3 xza4 xza5 xza6 xd0 xd1 xd2 xd3 xd4 xd5 xd6 xo0 xo1 xo2 xo3 xo4 xo5 xo6
  replace A := A.next hx12
  replace Xza := Xza.next hx12
  replace Xd := Xd.next hx12
  replace Xo := Xo.next hx12
  replace HB := Lib.hid (HB.out.trans (hx12.mono HB.out.size))
  have a0 := A.pb.k0; have a1 := A.pb.k1; have a2 := A.pb.k2; have a3 := A.pb.k3; have a4 := A.pb.k4; have a5 := A.pb.k5; have a6 := A.pb.k6; have a7 := A.pb.k7; have a8 := A.pb.k8; have a9 := A.pb.k9
  have xza0 := Xza.pb.k0; have xza1 := Xza.pb.k1; have xza2 := Xza.pb.k2; have xza3 := Xza.pb.k3; have xza4 := Xza.pb.k4; have xza5 := Xza.pb.k5; have xza6 := Xza.pb.k6
  have xd0 := Xd.pb.k0; have xd1 := Xd.pb.k1; have xd2 := Xd.pb.k2; have xd3 := Xd.pb.k3; have xd4 := Xd.pb.k4; have xd5 := Xd.pb.k5; have xd6 := Xd.pb.k6
  have xo0 := Xo.pb.k0; have xo1 := Xo.pb.k1; have xo2 := Xo.pb.k2; have xo3 := Xo.pb.k3; have xo4 := Xo.pb.k4; have xo5 := Xo.pb.k5; have xo6 := Xo.pb.k6
  have Xzb : PX y12 z11.heap.size zeroPl (.slice none 0 0) (.slice none 0 0) := by rw [← hy12]; exact PX.new (p := zeroPl) (.inl ⟨none, 0, rfl, rfl, fun _ => rfl⟩) (nilU _)
  have xzb0 := Xzb.pb.k0; have xzb1 := Xzb.pb.k1; have xzb2 := Xzb.pb.k2; have xzb3 := Xzb.pb.k3; have xzb4 := Xzb.pb.k4; have xzb5 := Xzb.pb.k5; have xzb6 := Xzb.pb.k6
  rw [hy12]
  clear hy12
  have hf6 := @po.gcode_free p u n
  generalize po.gcode p u n = ec at *
  rcases hg2 with hg2 | hg2
  · have HY : Hid (RowKit.Below y12.heap.size y12 y12.drew) := (Below.refl _ y12).drew
    refine wp_region_held_drew (S := (fun W => W.cell? ⟨w.heap.size, 0, none⟩ = some (.int .i64 p.size) ∧ W.cell? ⟨w.heap.size, 1, none⟩ = some (.int .i64 p.grain) ∧ W.cell? ⟨w.heap.size, 2, none⟩ = some (.int .i64 p.quota) ∧ W.cell? ⟨w.heap.size, 3, none⟩ = some (.bool p.drain) ∧ W.cell? ⟨w.heap.size, 4, none⟩ = some (.bool p.best) ∧ W.cell? ⟨w.heap.size, 5, none⟩ = some (.slice pf p.free.length cf) ∧ W.cell? ⟨w.heap.size, 6, none⟩ = some (.slice pu p.uses.length cu) ∧ W.cell? ⟨w.heap.size, 7, none⟩ = some (.string su) ∧ W.cell? ⟨w.heap.size, 8, none⟩ = some (.int .i64 n) ∧ W.cell? ⟨w.heap.size, 9, none⟩ = some (.slice pl l.length cl) ∧ W.cell? ⟨z5.heap.size, 0, none⟩ = some (.int .i64 D.size) ∧ W.cell? ⟨z5.heap.size, 1, none⟩ = some (.int .i64 D.grain) ∧ W.cell? ⟨z5.heap.size, 2, none⟩ = some (.int .i64 D.quota) ∧ W.cell? ⟨z5.heap.size, 3, none⟩ = some (.bool D.drain) ∧ W.cell? ⟨z5.heap.size, 4, none⟩ = some (.bool D.best) ∧ W.cell? ⟨z5.heap.size, 5, none⟩ = some (.slice afd D.free.length cfd) ∧ W.cell? ⟨z5.heap.size, 6, none⟩ = some (.slice aud D.uses.length cud))) (by kernel_rfl) (by first | (go_keep; done) | (dsimp only; go_keep)) (fun hHeld => ?_)
    refine wpAnyH_take (i := 0) (v := ?_) (ata at0) (by kernel_rfl) (by kernel_rfl) (by kernel_rfl) (fun _ _ _ h => h) (Or.inl ⟨by rfl, ?_⟩) (by assumption) ?_
    rotate_left
    · (intro w hSw; (try dsimp only at hSw); go_simp; (first | done | with_reducible rfl))
    try simp only [Act.put, List.setIfInBounds_toArray, List.set_cons_zero, List.set_cons_succ]
    refine wpAnyH_take (i := 1) (v := ?_) (ata (atS at0)) (by kernel_rfl) (by kernel_rfl) (by kernel_rfl) (fun _ _ _ h => h) (Or.inl ⟨by rfl, ?_⟩) (by assumption) ?_
    rotate_left
    · (intro w hSw; (try dsimp only at hSw); go_simp; (first | done | with_reducible rfl))
    try simp only [Act.put, List.setIfInBounds_toArray, List.set_cons_zero, List.set_cons_succ]
    refine wpAnyH_take (i := 2) (v := ?_) (ata (atS (atS at0))) (by kernel_rfl) (by kernel_rfl) (by kernel_rfl) (fun _ _ _ h => h) (Or.inl ⟨by rfl, ?_⟩) (by assumption) ?_
    rotate_left
    · (intro w hSw; (try dsimp only at hSw); go_simp; (first | done | with_reducible rfl))
    try simp only [Act.put, List.setIfInBounds_toArray, List.set_cons_zero, List.set_cons_succ]
    refine wpAnyH_take (i := 3) (v := ?_) (ata (atS (atS (atS at0)))) (by kernel_rfl) (by kernel_rfl) (by kernel_rfl) (fun _ _ _ h => h) (Or.inl ⟨by rfl, ?_⟩) (by assumption) ?_
    rotate_left
    · (intro w hSw; (try dsimp only at hSw); go_simp; (first | done | with_reducible rfl))
    try simp only [Act.put, List.setIfInBounds_toArray, List.set_cons_zero, List.set_cons_succ]
    refine wpAnyH_take (i := 4) (v := ?_) (ata (atS (atS (atS (atS at0))))) (by kernel_rfl) (by kernel_rfl) (by kernel_rfl) (fun _ _ _ h => h) (Or.inl ⟨by rfl, ?_⟩) (by assumption) ?_
    rotate_left
    · (intro w hSw; (try dsimp only at hSw); go_simp; (first | done | with_reducible rfl))
    try simp only [Act.put, List.setIfInBounds_toArray, List.set_cons_zero, List.set_cons_succ]
    refine wpAnyH_take (i := 5) (v := ?_) (ata (atS (atS (atS (atS (atS at0)))))) (by kernel_rfl) (by kernel_rfl) (by kernel_rfl) (fun _ _ _ h => h) (Or.inl ⟨by rfl, ?_⟩) (by assumption) ?_
    rotate_left
    · (intro w hSw; (try dsimp only at hSw); go_simp; (first | done | with_reducible rfl))
    try simp only [Act.put, List.setIfInBounds_toArray, List.set_cons_zero, List.set_cons_succ]
    refine wpAnyH_take (i := 6) (v := ?_) (ata (atS (atS (atS (atS (atS (atS at0))))))) (by kernel_rfl) (by kernel_rfl) (by kernel_rfl) (fun _ _ _ h => h) (Or.inl ⟨by rfl, ?_⟩) (by assumption) ?_
    rotate_left
    · (intro w hSw; (try dsimp only at hSw); go_simp; (first | done | with_reducible rfl))
    try simp only [Act.put, List.setIfInBounds_toArray, List.set_cons_zero, List.set_cons_succ]
    refine wpAnyH_take (i := 7) (v := ?_) (ata (atS (atS (atS (atS (atS (atS (atS at0)))))))) (by kernel_rfl) (by kernel_rfl) (by kernel_rfl) (fun _ _ _ h => h) (Or.inl ⟨by rfl, ?_⟩) (by assumption) ?_
    rotate_left
    · (intro w hSw; (try dsimp only at hSw); go_simp; (first | done | with_reducible rfl))
    try simp only [Act.put, List.setIfInBounds_toArray, List.set_cons_zero, List.set_cons_succ]
    refine wpAnyH_take (i := 9) (v := ?_) (ata (atS (atS (atS (atS (atS (atS (atS (atS (atS at0)))))))))) (by kernel_rfl) (by kernel_rfl) (by kernel_rfl) (fun _ _ _ h => h) (Or.inl ⟨by rfl, ?_⟩) (by assumption) ?_
    rotate_left
    · (intro w hSw; (try dsimp only at hSw); go_simp; (first | done | with_reducible rfl))
    try simp only [Act.put, List.setIfInBounds_toArray, List.set_cons_zero, List.set_cons_succ]
    refine wpAnyH_take (i := 10) (v := ?_) (ata (atS (atS (atS (atS (atS (atS (atS (atS (atS (atS at0))))))))))) (by kernel_rfl) (by kernel_rfl) (by kernel_rfl) (fun _ _ _ h => h) (Or.inl ⟨by rfl, ?_⟩) (by assumption) ?_
    rotate_left
    · (intro w hSw; (try dsimp only at hSw); go_simp; (first | done | with_reducible rfl))
    try simp only [Act.put, List.setIfInBounds_toArray, List.set_cons_zero, List.set_cons_succ]
    refine wpAnyH_ready (rs := [8]) (by kernel_rfl) (by simp) ?_
    refine AllReadyH.cons (ata (atS (atS (atS (atS (atS (atS (atS (atS at0))))))))) (fun K hK => ?_) AllReadyH.nil
    go_simp
    (go_at_call 12; (with_reducible refine (Free_yes ((Xd.next HY.out).w hd1 hd2) hvD).mono ?_); rintro e w1 ⟨rfl, hb1⟩; rw [HFD.out]; have hY := HY.out.trans (hb1.mono HY.out.size); have HY := Lib.hid hY; clear a0 a1 a2 a3 a4 a5 a6 a7 a8 a9 xd0 xd1 xd2 xd3 xd4 xd5 xd6; have hA := A.next hY; have hD := Xd.next hY; have a0 := hA.pb.k0; have a1 := hA.pb.k1; have a2 := hA.pb.k2; have a3 := hA.pb.k3; have a4 := hA.pb.k4; have a5 := hA.pb.k5; have a6 := hA.pb.k6; have a7 := hA.pb.k7; have a8 := hA.pb.k8; have a9 := hA.pb.k9; have xd0 := hD.pb.k0; have xd1 := hD.pb.k1; have xd2 := hD.pb.k2; have xd3 := hD.pb.k3; have xd4 := hD.pb.k4; have xd5 := hD.pb.k5; have xd6 := hD.pb.k6; clear hb1 hY hA hD)
    go_wp2_with fail
    refine hK.out _ _ (by first | (go_keep; done) | (dsimp only; go_keep)) (fun hHeld => ?_)
    clear hK K
    try simp only [Act.put, List.setIfInBounds_toArray, List.set_cons_zero, List.set_cons_succ]
    refine wpAnyH_ready (rs := [11]) (by kernel_rfl) (by simp) ?_
    refine AllReadyH.cons (ata (atS (atS (atS (atS (atS (atS (atS (atS (atS (atS (atS at0)))))))))))) (fun K hK => ?_) AllReadyH.nil
    go_simp
    (go_at_call 12; (with_reducible refine (Free_yes ((A.next HY.out).w hl1 hl2) hv0).mono ?_); rintro e w1 ⟨rfl, hb1⟩; have hY := HY.out.trans (hb1.mono HY.out.size); have HY := Lib.hid hY; clear a0 a1 a2 a3 a4 a5 a6 a7 a8 a9 xd0 xd1 xd2 xd3 xd4 xd5 xd6; have hA := A.next hY; have hD := Xd.next hY; have a0 := hA.pb.k0; have a1 := hA.pb.k1; have a2 := hA.pb.k2; have a3 := hA.pb.k3; have a4 := hA.pb.k4; have a5 := hA.pb.k5; have a6 := hA.pb.k6; have a7 := hA.pb.k7; have a8 := hA.pb.k8; have a9 := hA.pb.k9; have xd0 := hD.pb.k0; have xd1 := hD.pb.k1; have xd2 := hD.pb.k2; have xd3 := hD.pb.k3; have xd4 := hD.pb.k4; have xd5 := hD.pb.k5; have xd6 := hD.pb.k6; clear hb1 hY hA hD)
    go_wp2_with fail
    refine hK.out _ _ (by first | (go_keep; done) | (dsimp only; go_keep)) (fun hHeld => ?_)
    clear hK K
    try simp only [Act.put, List.setIfInBounds_toArray, List.set_cons_zero, List.set_cons_succ]
    refine wpAnyH_take (i := 12) (v := ?_) (ata (atS (atS (atS (atS (atS (atS (atS (atS (atS (atS (atS (atS at0))))))))))))) (by kernel_rfl) (by kernel_rfl) (by kernel_rfl) (fun _ _ _ h => h) (Or.inl ⟨by rfl, ?_⟩) (by assumption) ?_
    rotate_left
    · (intro w hSw; (try dsimp only at hSw); go_simp; (first | done | with_reducible rfl))
    try simp only [Act.put, List.setIfInBounds_toArray, List.set_cons_zero, List.set_cons_succ]
    refine wpAnyH_take (i := 13) (v := ?_) (ata (atS (atS (atS (atS (atS (atS (atS (atS (atS (atS (atS (atS (atS at0)))))))))))))) (by kernel_rfl) (by kernel_rfl) (by kernel_rfl) (fun _ _ _ h => h) (Or.inl ⟨by rfl, ?_⟩) (by assumption) ?_
    rotate_left
    · (intro w hSw; (try dsimp only at hSw); go_simp; (first | done | with_reducible rfl))
    try simp only [Act.put, List.setIfInBounds_toArray, List.set_cons_zero, List.set_cons_succ]
    refine wpAnyH_take (i := 14) (v := ?_) (ata (atS (atS (atS (atS (atS (atS (atS (atS (atS (atS (atS (atS (atS (atS at0))))))))))))))) (by kernel_rfl) (by kernel_rfl) (by kernel_rfl) (fun _ _ _ h => h) (Or.inl ⟨by rfl, ?_⟩) (by assumption) ?_
    rotate_left
    · (intro w hSw; (try dsimp only at hSw); go_simp; (first | done | with_reducible rfl))
    try simp only [Act.put, List.setIfInBounds_toArray, List.set_cons_zero, List.set_cons_succ]
    refine wpAnyH_take (i := 15) (v := ?_) (ata (atS (atS (atS (atS (atS (atS (atS (atS (atS (atS (atS (atS (atS (atS (atS at0)))))))))))))))) (by kernel_rfl) (by kernel_rfl) (by kernel_rfl) (fun _ _ _ h => h) (Or.inl ⟨by rfl, ?_⟩) (by assumption) ?_
    rotate_left
    · (intro w hSw; (try dsimp only at hSw); go_simp; (first | done | with_reducible rfl))
    try simp only [Act.put, List.setIfInBounds_toArray, List.set_cons_zero, List.set_cons_succ]
    refine wpAnyH_take (i := 16) (v := ?_) (ata (atS (atS (atS (atS (atS (atS (atS (atS (atS (atS (atS (atS (atS (atS (atS (atS at0))))))))))))))))) (by kernel_rfl) (by kernel_rfl) (by kernel_rfl) (fun _ _ _ h => h) (Or.inl ⟨by rfl, ?_⟩) (by assumption) ?_
    rotate_left
    · (intro w hSw; (try dsimp only at hSw); go_simp; (first | done | with_reducible rfl))
    try simp only [Act.put, List.setIfInBounds_toArray, List.set_cons_zero, List.set_cons_succ]
    refine wpAnyH_take (i := 17) (v := ?_) (ata (atS (atS (atS (atS (atS (atS (atS (atS (atS (atS (atS (atS (atS (atS (atS (atS (atS at0)))))))))))))))))) (by kernel_rfl) (by kernel_rfl) (by kernel_rfl) (fun _ _ _ h => h) (Or.inl ⟨by rfl, ?_⟩) (by assumption) ?_
    rotate_left
    · (intro w hSw; (try dsimp only at hSw); go_simp; (first | done | with_reducible rfl))
    try simp only [Act.put, List.setIfInBounds_toArray, List.set_cons_zero, List.set_cons_succ]
    refine wpAnyH_take (i := 18) (v := undef) (ata (atS (atS (atS (atS (atS (atS (atS (atS (atS (atS (atS (atS (atS (atS (atS (atS (atS (atS at0))))))))))))))))))) (by kernel_rfl) (by kernel_rfl) (by kernel_rfl) (fun _ _ _ h => h) (Or.inr ⟨by rfl, rfl⟩) (by assumption) ?_
    try simp only [Act.put, List.setIfInBounds_toArray, List.set_cons_zero, List.set_cons_succ]
    refine wpAnyH_take (i := 19) (v := undef) (ata (atS (atS (atS (atS (atS (atS (atS (atS (atS (atS (atS (atS (atS (atS (atS (atS (atS (atS (atS at0)))))))))))))))))))) (by kernel_rfl) (by kernel_rfl) (by kernel_rfl) (fun _ _ _ h => h) (Or.inr ⟨by rfl, rfl⟩) (by assumption) ?_
    try simp only [Act.put, List.setIfInBounds_toArray, List.set_cons_zero, List.set_cons_succ]
    refine wpAnyH_take (i := 20) (v := ?_) (ata (atS (atS (atS (atS (atS (atS (atS (atS (atS (atS (atS (atS (atS (atS (atS (atS (atS (atS (atS (atS at0))))))))))))))))))))) (by kernel_rfl) (by kernel_rfl) (by kernel_rfl) (fun _ _ _ h => h) (Or.inl ⟨by rfl, ?_⟩) (by assumption) ?_
    rotate_left
    · (intro w hSw; (try dsimp only at hSw); go_simp; (first | done | with_reducible rfl))
    try simp only [Act.put, List.setIfInBounds_toArray, List.set_cons_zero, List.set_cons_succ]
    refine wpAnyH_take (i := 21) (v := ?_) (ata (atS (atS (atS (atS (atS (atS (atS (atS (atS (atS (atS (atS (atS (atS (atS (atS (atS (atS (atS (atS (atS at0)))))))))))))))))))))) (by kernel_rfl) (by kernel_rfl) (by kernel_rfl) (fun _ _ _ h => h) (Or.inl ⟨by rfl, ?_⟩) (by assumption) ?_
    rotate_left
    · (intro w hSw; (try dsimp only at hSw); go_simp; (first | done | with_reducible rfl))
    try simp only [Act.put, List.setIfInBounds_toArray, List.set_cons_zero, List.set_cons_succ]
    refine wpAnyH_done (by kernel_rfl) ?_ _
    have hx8 := HY.out
    replace A := A.next hx8
    replace Xza := Xza.next hx8
    replace Xd := Xd.next hx8
    replace Xo := Xo.next hx8
    replace Xzb := Xzb.next hx8
    replace HB := Lib.hid (HB.out.trans (hx8.mono HB.out.size))
    have xza0 := Xza.pb.k0; have xza1 := Xza.pb.k1; have xza2 := Xza.pb.k2; have xza3 := Xza.pb.k3; have xza4 := Xza.pb.k4; have xza5 := Xza.pb.k5; have xza6 := Xza.pb.k6
    have xo0 := Xo.pb.k0; have xo1 := Xo.pb.k1; have xo2 := Xo.pb.k2; have xo3 := Xo.pb.k3; have xo4 := Xo.pb.k4; have xo5 := Xo.pb.k5; have xo6 := Xo.pb.k6
    have xzb0 := Xzb.pb.k0; have xzb1 := Xzb.pb.k1; have xzb2 := Xzb.pb.k2; have xzb3 := Xzb.pb.k3; have xzb4 := Xzb.pb.k4; have xzb5 := Xzb.pb.k5; have xzb6 := Xzb.pb.k6
    clear HY hx8
    have hdp := HDP.out
    go_upto_region 12 with fail
    clear hdp
    go_wp2_with fail
    refine Calls.mono (PSame_yes Xza.v Xzb.v (by simp) (by simp)) ?_
    rintro e z13 ⟨rfl, hb⟩
    clear a0 a1 a2 a3 a4 a5 a6 a7 a8 a9 xza0 xza1 xza2 xza3 xza4 xza5 xza6 xd0 xd1 xd2 xd3 xd4 xd5 xd6 xo0 xo1 xo2 xo3 xo4 xo5 xo6 xzb0 xzb1 xzb2 xzb3 xzb4 xzb5 xzb6
    have hx13 : RowKit.Below w1.heap.size w1 z13 := by
      refine Below.trans ?_ (hb.mono ?_)
      · (first | exact Below.refl _ _ | exact (Below.refl _ _).alloc (by simp) _ | exact ((Below.refl _ _).alloc (by simp) _).alloc (by simp) _ | exact (((Below.refl _ _).alloc (by simp) _).alloc (by simp) _).alloc (by simp) _)
      · first | exact Nat.le_refl _ | (simp; done) | (simp; omega)
    replace A := A.next hx13
    replace Xza := Xza.next hx13
    replace Xd := Xd.next hx13
    replace Xo := Xo.next hx13
    replace Xzb := Xzb.next hx13
    replace HB := Lib.hid (HB.out.trans (hx13.mono HB.out.size))
    have a0 := A.pb.k0; have a1 := A.pb.k1; have a2 := A.pb.k2; have a3 := A.pb.k3; have a4 := A.pb.k4; have a5 := A.pb.k5; have a6 := A.pb.k6; have a7 := A.pb.k7; have a8 := A.pb.k8; have a9 := A.pb.k9
    have xza0 := Xza.pb.k0; have xza1 := Xza.pb.k1; have xza2 := Xza.pb.k2; have xza3 := Xza.pb.k3; have xza4 := Xza.pb.k4; have xza5 := Xza.pb.k5; have xza6 := Xza.pb.k6
    have xd0 := Xd.pb.k0; have xd1 := Xd.pb.k1; have xd2 := Xd.pb.k2; have xd3 := Xd.pb.k3; have xd4 := Xd.pb.k4; have xd5 := Xd.pb.k5; have xd6 := Xd.pb.k6
    have xo0 := Xo.pb.k0; have xo1 := Xo.pb.k1; have xo2 := Xo.pb.k2; have xo3 := Xo.pb.k3; have xo4 := Xo.pb.k4; have xo5 := Xo.pb.k5; have xo6 := Xo.pb.k6
    have xzb0 := Xzb.pb.k0; have xzb1 := Xzb.pb.k1; have xzb2 := Xzb.pb.k2; have xzb3 := Xzb.pb.k3; have xzb4 := Xzb.pb.k4; have xzb5 := Xzb.pb.k5; have xzb6 := Xzb.pb.k6
    clear hb hx13
    go_wp2_with fail
    have j0 := hf6 h6
    subst h6
    refine Calls.mono (Same_yes (l := []) (nil_x _) (nil_x _) (by simp)) ?_
    rintro e z14 ⟨rfl, hb⟩
    clear a0 a1 a2 a3 a4 a5 a6 a7 a8 a9 xza0 xza1 xza2 xza3 xza4 xza5 xza6 xd0 xd1 xd2 xd3 xd4 xd5 xd6 xo0 xo1 xo2 xo3 xo4 xo5 xo6 xzb0 xzb1 xzb2 xzb3 xzb4 xzb5 xzb6
    have hx14 : RowKit.Below z13.heap.size z13 z14 := by
      refine Below.trans ?_ (hb.mono ?_)
      · (first | exact Below.refl _ _ | exact (Below.refl _ _).alloc (by simp) _ | exact ((Below.refl _ _).alloc (by simp) _).alloc (by simp) _ | exact (((Below.refl _ _).alloc (by simp) _).alloc (by simp) _).alloc (by simp) _)
      · first | exact Nat.le_refl _ | (simp; done) | (simp; omega)
    replace A := A.next hx14
    replace Xza := Xza.next hx14
    replace Xd := Xd.next hx14
    replace Xo := Xo.next hx14
    replace Xzb := Xzb.next hx14
    replace HB := Lib.hid (HB.out.trans (hx14.mono HB.out.size))
    have a0 := A.pb.k0; have a1 := A.pb.k1; have a2 := A.pb.k2; have a3 := A.pb.k3; have a4 := A.pb.k4; have a5 := A.pb.k5; have a6 := A.pb.k6; have a7 := A.pb.k7; have a8 := A.pb.k8; have a9 := A.pb.k9
    have xza0 := Xza.pb.k0; have xza1 := Xza.pb.k1; have xza2 := Xza.pb.k2; have xza3 := Xza.pb.k3; have xza4 := Xza.pb.k4; have xza5 := Xza.pb.k5; have xza6 := Xza.pb.k6
    have xd0 := Xd.pb.k0; have xd1 := Xd.pb.k1; have xd2 := Xd.pb.k2; have xd3 := Xd.pb.k3; have xd4 := Xd.pb.k4; have xd5 := Xd.pb.k5; have xd6 := Xd.pb.k6
    have xo0 := Xo.pb.k0; have xo1 := Xo.pb.k1; have xo2 := Xo.pb.k2; have xo3 := Xo.pb.k3; have xo4 := Xo.pb.k4; have xo5 := Xo.pb.k5; have xo6 := Xo.pb.k6
    have xzb0 := Xzb.pb.k0; have xzb1 := Xzb.pb.k1; have xzb2 := Xzb.pb.k2; have xzb3 := Xzb.pb.k3; have xzb4 := Xzb.pb.k4; have xzb5 := Xzb.pb.k5; have xzb6 := Xzb.pb.k6
    clear hb hx14
    go_upto_region 15 with fail
    obtain ⟨j, hj⟩ : ∃ j, po.gcode p u (tot p.free) = j := ⟨_, rfl⟩
    obtain ⟨fr, hfr⟩ : ∃ fr, tot p.free = fr := ⟨_, rfl⟩
    have HCJ : Hid (∀ W, PolW W (aggP p (.slice pf p.free.length cf) (.slice pu p.uses.length cu)) p → Calls Try.prog 8 #[aggP p (.slice pf p.free.length cf) (.slice pu p.uses.length cu), .string su, .int .i64 fr] W (GrantS j W)) := fun W h => by have := Grant_some h u (tot p.free); rwa [hsu, hj, hfr] at this
    have HFR := Lib.hid hfr
    rw [hj, hfr] at j0
    clear hj hfr hf6
    have KK : Hid (∀ W, RowKit.Below z14.heap.size z14 W → (fun W => W.cell? ⟨w.heap.size, 0, none⟩ = some (.int .i64 p.size) ∧ W.cell? ⟨w.heap.size, 1, none⟩ = some (.int .i64 p.grain) ∧ W.cell? ⟨w.heap.size, 2, none⟩ = some (.int .i64 p.quota) ∧ W.cell? ⟨w.heap.size, 3, none⟩ = some (.bool p.drain) ∧ W.cell? ⟨w.heap.size, 4, none⟩ = some (.bool p.best) ∧ W.cell? ⟨w.heap.size, 5, none⟩ = some (.slice pf p.free.length cf) ∧ W.cell? ⟨w.heap.size, 6, none⟩ = some (.slice pu p.uses.length cu) ∧ W.cell? ⟨w.heap.size, 7, none⟩ = some (.string su) ∧ W.cell? ⟨w.heap.size, 8, none⟩ = some (.int .i64 n) ∧ W.cell? ⟨w.heap.size, 9, none⟩ = some (.slice pl l.length cl)) W) := fun W hb => ⟨(A.next hb).pb.k0, (A.next hb).pb.k1, (A.next hb).pb.k2, (A.next hb).pb.k3, (A.next hb).pb.k4, (A.next hb).pb.k5, (A.next hb).pb.k6, (A.next hb).pb.k7, (A.next hb).pb.k8, (A.next hb).pb.k9⟩
    have HY : Hid (RowKit.Below z14.heap.size z14 z14.drew) := (Below.refl _ z14).drew
    refine wp_region_held_drew (S := (fun W => W.cell? ⟨w.heap.size, 0, none⟩ = some (.int .i64 p.size) ∧ W.cell? ⟨w.heap.size, 1, none⟩ = some (.int .i64 p.grain) ∧ W.cell? ⟨w.heap.size, 2, none⟩ = some (.int .i64 p.quota) ∧ W.cell? ⟨w.heap.size, 3, none⟩ = some (.bool p.drain) ∧ W.cell? ⟨w.heap.size, 4, none⟩ = some (.bool p.best) ∧ W.cell? ⟨w.heap.size, 5, none⟩ = some (.slice pf p.free.length cf) ∧ W.cell? ⟨w.heap.size, 6, none⟩ = some (.slice pu p.uses.length cu) ∧ W.cell? ⟨w.heap.size, 7, none⟩ = some (.string su) ∧ W.cell? ⟨w.heap.size, 8, none⟩ = some (.int .i64 n) ∧ W.cell? ⟨w.heap.size, 9, none⟩ = some (.slice pl l.length cl))) (by kernel_rfl) (by exact KK.out _ HY.out) (fun hHeld => ?_)
    refine wpAnyH_take (i := 0) (v := ?_) (ata at0) (by kernel_rfl) (by kernel_rfl) (by kernel_rfl) (fun _ _ _ h => h) (Or.inl ⟨by rfl, ?_⟩) (by assumption) ?_
    rotate_left
    · (intro w hSw; (try dsimp only at hSw); go_simp; (first | done | with_reducible rfl))
    try simp only [Act.put, List.setIfInBounds_toArray, List.set_cons_zero, List.set_cons_succ]
    refine wpAnyH_take (i := 1) (v := ?_) (ata (atS at0)) (by kernel_rfl) (by kernel_rfl) (by kernel_rfl) (fun _ _ _ h => h) (Or.inl ⟨by rfl, ?_⟩) (by assumption) ?_
    rotate_left
    · (intro w hSw; (try dsimp only at hSw); go_simp; (first | done | with_reducible rfl))
    try simp only [Act.put, List.setIfInBounds_toArray, List.set_cons_zero, List.set_cons_succ]
    refine wpAnyH_take (i := 2) (v := ?_) (ata (atS (atS at0))) (by kernel_rfl) (by kernel_rfl) (by kernel_rfl) (fun _ _ _ h => h) (Or.inl ⟨by rfl, ?_⟩) (by assumption) ?_
    rotate_left
    · (intro w hSw; (try dsimp only at hSw); go_simp; (first | done | with_reducible rfl))
    try simp only [Act.put, List.setIfInBounds_toArray, List.set_cons_zero, List.set_cons_succ]
    refine wpAnyH_take (i := 3) (v := ?_) (ata (atS (atS (atS at0)))) (by kernel_rfl) (by kernel_rfl) (by kernel_rfl) (fun _ _ _ h => h) (Or.inl ⟨by rfl, ?_⟩) (by assumption) ?_
    rotate_left
    · (intro w hSw; (try dsimp only at hSw); go_simp; (first | done | with_reducible rfl))
    try simp only [Act.put, List.setIfInBounds_toArray, List.set_cons_zero, List.set_cons_succ]
    refine wpAnyH_take (i := 4) (v := ?_) (ata (atS (atS (atS (atS at0))))) (by kernel_rfl) (by kernel_rfl) (by kernel_rfl) (fun _ _ _ h => h) (Or.inl ⟨by rfl, ?_⟩) (by assumption) ?_
    rotate_left
    · (intro w hSw; (try dsimp only at hSw); go_simp; (first | done | with_reducible rfl))
    try simp only [Act.put, List.setIfInBounds_toArray, List.set_cons_zero, List.set_cons_succ]
    refine wpAnyH_take (i := 5) (v := ?_) (ata (atS (atS (atS (atS (atS at0)))))) (by kernel_rfl) (by kernel_rfl) (by kernel_rfl) (fun _ _ _ h => h) (Or.inl ⟨by rfl, ?_⟩) (by assumption) ?_
    rotate_left
    · (intro w hSw; (try dsimp only at hSw); go_simp; (first | done | with_reducible rfl))
    try simp only [Act.put, List.setIfInBounds_toArray, List.set_cons_zero, List.set_cons_succ]
    refine wpAnyH_ready (rs := [6, 12]) (by kernel_rfl) (by simp) ?_
    refine AllReadyH.cons (ata (atS (atS (atS (atS (atS (atS at0))))))) (fun K hK => ?_) (AllReadyH.cons (ata (atS (atS (atS (atS (atS (atS (atS (atS (atS (atS (atS (atS at0))))))))))))) (fun K hK => ?_) AllReadyH.nil)
    · go_simp
      (go_at_call 12; (with_reducible refine (Free_yes ((A.next HY.out).w hl1 hl2) hv0).mono ?_); rintro e w6 ⟨rfl, hb1⟩; rw [HFR.out]; have hY := HY.out.trans (hb1.mono HY.out.size); have HY := Lib.hid hY; clear hb1 hY)
      go_wp2_with fail
      refine hK.out _ _ (by exact KK.out _ HY.out) (fun hHeld => ?_)
      clear hK K
      try simp only [Act.put, List.setIfInBounds_toArray, List.set_cons_zero, List.set_cons_succ]
      refine wpAnyH_ready (rs := [7, 12]) (by kernel_rfl) (by simp) ?_
      refine AllReadyH.cons (ata (atS (atS (atS (atS (atS (atS (atS at0)))))))) (fun K hK => ?_) (AllReadyH.cons (ata (atS (atS (atS (atS (atS (atS (atS (atS (atS (atS (atS (atS at0))))))))))))) (fun K hK => ?_) AllReadyH.nil)
      · go_simp
        (go_at_call 8; (with_reducible refine (HCJ.out _ ((A.next HY.out).w hl1 hl2)).mono ?_); intro e w7 hG; obtain ⟨ga, gb, gc, gd, ge, gp1, gn1, gq1, gp2, gn2, gq2, gvt, rfl, hb1⟩ := hG; have hY := HY.out.trans (hb1.mono HY.out.size); have HY := Lib.hid hY; clear hb1 hY)
        go_wp2_with fail
        refine hK.out _ _ (by exact KK.out _ HY.out) (fun hHeld => ?_)
        clear hK K
        try simp only [Act.put, List.setIfInBounds_toArray, List.set_cons_zero, List.set_cons_succ]
        refine wpAnyH_take (i := 8) (v := ?_) (ata (atS (atS (atS (atS (atS (atS (atS (atS at0))))))))) (by kernel_rfl) (by kernel_rfl) (by kernel_rfl) (fun _ _ _ h => h) (Or.inl ⟨by rfl, ?_⟩) (by assumption) ?_
        rotate_left
        · (intro w hSw; (try dsimp only at hSw); go_simp; (first | done | with_reducible rfl))
        try simp only [Act.put, List.setIfInBounds_toArray, List.set_cons_zero, List.set_cons_succ]
        refine wpAnyH_take (i := 9) (v := ?_) (ata (atS (atS (atS (atS (atS (atS (atS (atS (atS at0)))))))))) (by kernel_rfl) (by kernel_rfl) (by kernel_rfl) (fun _ _ _ h => h) (Or.inl ⟨by rfl, ?_⟩) (by assumption) ?_
        rotate_left
        · (intro w hSw; (try dsimp only at hSw); go_simp; (first | done | with_reducible rfl))
        try simp only [Act.put, List.setIfInBounds_toArray, List.set_cons_zero, List.set_cons_succ]
        refine wpAnyH_take (i := 10) (v := ?_) (ata (atS (atS (atS (atS (atS (atS (atS (atS (atS (atS at0))))))))))) (by kernel_rfl) (by kernel_rfl) (by kernel_rfl) (fun _ _ _ h => h) (Or.inl ⟨by rfl, ?_⟩) (by assumption) ?_
        rotate_left
        · (intro w hSw; (try dsimp only at hSw); go_simp; (first | done | with_reducible rfl))
        try simp only [Act.put, List.setIfInBounds_toArray, List.set_cons_zero, List.set_cons_succ]
        refine wpAnyH_take (i := 11) (v := ?_) (ata (atS (atS (atS (atS (atS (atS (atS (atS (atS (atS (atS at0)))))))))))) (by kernel_rfl) (by kernel_rfl) (by kernel_rfl) (fun _ _ _ h => h) (Or.inl ⟨by rfl, ?_⟩) (by assumption) ?_
        rotate_left
        · (intro w hSw; (try dsimp only at hSw); go_simp; (first | done | with_reducible rfl))
        try simp only [Act.put, List.setIfInBounds_toArray, List.set_cons_zero, List.set_cons_succ]
        refine wpAnyH_ready (rs := [12]) (by kernel_rfl) (by simp) ?_
        refine AllReadyH.cons (ata (atS (atS (atS (atS (atS (atS (atS (atS (atS (atS (atS (atS at0))))))))))))) (fun K hK => ?_) AllReadyH.nil
        go_simp
        refine hK.out _ _ (by exact KK.out _ (HY.out.alloc HY.out.size _)) (fun hHeld => ?_)
        clear hK K
        try simp only [Act.put, List.setIfInBounds_toArray, List.set_cons_zero, List.set_cons_succ]
        have hBy : z14.heap.size ≤ w7.heap.size := HY.out.size
        obtain ⟨ya, hya⟩ : ∃ y, World.alloc w7 (.cells #[.int .i64 0, .int .i64 0, .int .i64 0, .bool false, .bool false, .slice none 0 0, .slice none 0 0] 25) = y := ⟨_, rfl⟩
        rw [hya]
        have hYa : RowKit.Below z14.heap.size z14 ya := by rw [← hya]; exact HY.out.alloc HY.out.size _
        have HY := Lib.hid hYa
        have HZ : Hid (ya.heap[w7.heap.size]? = some (.cells #[.int .i64 0, .int .i64 0, .int .i64 0, .bool false, .bool false, .slice none 0 0, .slice none 0 0] 25 (0, 0))) := by show _ = _; rw [← hya]; exact World.alloc_heap_new w7 _
        clear hya hYa
        refine wpAnyH_ready (rs := [13]) (by kernel_rfl) (by simp) ?_
        refine AllReadyH.cons (ata (atS (atS (atS (atS (atS (atS (atS (atS (atS (atS (atS (atS (atS at0)))))))))))))) (fun K hK => ?_) AllReadyH.nil
        refine wp_store_row _ _ _ rfl w7.heap.size #[.int .i64 ga, .int .i64 gb, .int .i64 gc, .bool gd, .bool ge, .slice gp1 gn1 gq1, .slice gp2 gn2 gq2] rfl rfl 25 #[.int .i64 0, .int .i64 0, .int .i64 0, .bool false, .bool false, .slice none 0 0, .slice none 0 0] HZ.out (by kernel_rfl) rfl (by kernel_rfl) ?_
        refine hK.out _ _ (by exact KK.out _ (below_setRow HY.out hBy _)) (fun hHeld => ?_)
        clear hK K
        try simp only [Act.put, List.setIfInBounds_toArray, List.set_cons_zero, List.set_cons_succ]
        refine wpAnyH_take (i := 14) (v := ?_) (ata (atS (atS (atS (atS (atS (atS (atS (atS (atS (atS (atS (atS (atS (atS at0))))))))))))))) (by kernel_rfl) (by kernel_rfl) (by kernel_rfl) (fun _ _ _ h => h) (Or.inl ⟨by rfl, ?_⟩) (by assumption) ?_
        rotate_left
        · (intro w hSw; (try dsimp only at hSw); go_simp; (first | done | with_reducible rfl))
        try simp only [Act.put, List.setIfInBounds_toArray, List.set_cons_zero, List.set_cons_succ]
        refine wpAnyH_take (i := 15) (v := ?_) (ata (atS (atS (atS (atS (atS (atS (atS (atS (atS (atS (atS (atS (atS (atS (atS at0)))))))))))))))) (by kernel_rfl) (by kernel_rfl) (by kernel_rfl) (fun _ _ _ h => h) (Or.inl ⟨by rfl, ?_⟩) (by assumption) ?_
        rotate_left
        · (intro w hSw; (try dsimp only at hSw); go_simp; (first | done | with_reducible rfl))
        try simp only [Act.put, List.setIfInBounds_toArray, List.set_cons_zero, List.set_cons_succ]
        refine wpAnyH_done (by kernel_rfl) ?_ _
        have hYf := below_setRow HY.out hBy #[.int .i64 ga, .int .i64 gb, .int .i64 gc, .bool gd, .bool ge, .slice gp1 gn1 gq1, .slice gp2 gn2 gq2]
        replace A := A.next hYf
        replace HB := Lib.hid (HB.out.trans (hYf.mono HB.out.size))
        clear HY KK HZ hBy HCJ
        rcases j0 with j0 | ⟨j1, j0⟩ | j0
        · subst j0
          have a0 := A.pb.k0; have a1 := A.pb.k1; have a2 := A.pb.k2; have a3 := A.pb.k3; have a4 := A.pb.k4; have a5 := A.pb.k5; have a6 := A.pb.k6; have a7 := A.pb.k7; have a8 := A.pb.k8; have a9 := A.pb.k9
          go_wp2_with fail
          refine Calls.mono (head_any _) ?_
          rintro e z20 ⟨rfl, hb⟩
          have hx20 : RowKit.Below (World.setRow ya w7.heap.size #[.int .i64 ga, .int .i64 gb, .int .i64 gc, .bool gd, .bool ge, .slice gp1 gn1 gq1, .slice gp2 gn2 gq2]).heap.size (World.setRow ya w7.heap.size #[.int .i64 ga, .int .i64 gb, .int .i64 gc, .bool gd, .bool ge, .slice gp1 gn1 gq1, .slice gp2 gn2 gq2]) z20 := by
            refine Below.trans ?_ (hb.mono ?_)
            · (first | exact Below.refl _ _ | exact (Below.refl _ _).alloc (by simp) _ | exact ((Below.refl _ _).alloc (by simp) _).alloc (by simp) _ | exact (((Below.refl _ _).alloc (by simp) _).alloc (by simp) _).alloc (by simp) _)
            · first | exact Nat.le_refl _ | (simp; done) | (simp; omega)
          replace A := A.next hx20
          replace HB := Lib.hid (HB.out.trans (hx20.mono HB.out.size))
          clear hb hx20
          go_wp2_with fail
          go_ret
          exact ⟨rfl, HB.out⟩
        · subst j0
          have j2 : (fr == 0) = true := by rw [j1]; rfl
          have a0 := A.pb.k0; have a1 := A.pb.k1; have a2 := A.pb.k2; have a3 := A.pb.k3; have a4 := A.pb.k4; have a5 := A.pb.k5; have a6 := A.pb.k6; have a7 := A.pb.k7; have a8 := A.pb.k8; have a9 := A.pb.k9
          go_wp2_with fail
          refine Calls.mono ((by have := Free_yes (A.w hl1 hl2) hv0; rwa [HFR.out] at this)) ?_
          rintro e z20 ⟨rfl, hb⟩
          clear a0 a1 a2 a3 a4 a5 a6 a7 a8 a9
          have hx20 : RowKit.Below (World.setRow ya w7.heap.size #[.int .i64 ga, .int .i64 gb, .int .i64 gc, .bool gd, .bool ge, .slice gp1 gn1 gq1, .slice gp2 gn2 gq2]).heap.size (World.setRow ya w7.heap.size #[.int .i64 ga, .int .i64 gb, .int .i64 gc, .bool gd, .bool ge, .slice gp1 gn1 gq1, .slice gp2 gn2 gq2]) z20 := by
            refine Below.trans ?_ (hb.mono ?_)
            · (first | exact Below.refl _ _ | exact (Below.refl _ _).alloc (by simp) _ | exact ((Below.refl _ _).alloc (by simp) _).alloc (by simp) _ | exact (((Below.refl _ _).alloc (by simp) _).alloc (by simp) _).alloc (by simp) _)
            · first | exact Nat.le_refl _ | (simp; done) | (simp; omega)
          replace A := A.next hx20
          replace HB := Lib.hid (HB.out.trans (hx20.mono HB.out.size))
          have a0 := A.pb.k0; have a1 := A.pb.k1; have a2 := A.pb.k2; have a3 := A.pb.k3; have a4 := A.pb.k4; have a5 := A.pb.k5; have a6 := A.pb.k6; have a7 := A.pb.k7; have a8 := A.pb.k8; have a9 := A.pb.k9
          clear hb hx20
          go_wp2_with fail
          refine Calls.mono (head_any _) ?_
          rintro e z21 ⟨rfl, hb⟩
          have hx21 : RowKit.Below z20.heap.size z20 z21 := by
            refine Below.trans ?_ (hb.mono ?_)
            · (first | exact Below.refl _ _ | exact (Below.refl _ _).alloc (by simp) _ | exact ((Below.refl _ _).alloc (by simp) _).alloc (by simp) _ | exact (((Below.refl _ _).alloc (by simp) _).alloc (by simp) _).alloc (by simp) _)
            · first | exact Nat.le_refl _ | (simp; done) | (simp; omega)
          replace A := A.next hx21
          replace HB := Lib.hid (HB.out.trans (hx21.mono HB.out.size))
          clear hb hx21
          go_wp2_with fail
          go_ret
          exact ⟨rfl, HB.out⟩
        · by_cases hf0 : fr = 0
          · subst j0
            have j2 : (fr == 0) = true := by rw [hf0]; rfl
            clear hf0
            have a0 := A.pb.k0; have a1 := A.pb.k1; have a2 := A.pb.k2; have a3 := A.pb.k3; have a4 := A.pb.k4; have a5 := A.pb.k5; have a6 := A.pb.k6; have a7 := A.pb.k7; have a8 := A.pb.k8; have a9 := A.pb.k9
            go_wp2_with fail
            refine Calls.mono ((by have := Free_yes (A.w hl1 hl2) hv0; rwa [HFR.out] at this)) ?_
            rintro e z20 ⟨rfl, hb⟩
            clear a0 a1 a2 a3 a4 a5 a6 a7 a8 a9
            have hx20 : RowKit.Below (World.setRow ya w7.heap.size #[.int .i64 ga, .int .i64 gb, .int .i64 gc, .bool gd, .bool ge, .slice gp1 gn1 gq1, .slice gp2 gn2 gq2]).heap.size (World.setRow ya w7.heap.size #[.int .i64 ga, .int .i64 gb, .int .i64 gc, .bool gd, .bool ge, .slice gp1 gn1 gq1, .slice gp2 gn2 gq2]) z20 := by
              refine Below.trans ?_ (hb.mono ?_)
              · (first | exact Below.refl _ _ | exact (Below.refl _ _).alloc (by simp) _ | exact ((Below.refl _ _).alloc (by simp) _).alloc (by simp) _ | exact (((Below.refl _ _).alloc (by simp) _).alloc (by simp) _).alloc (by simp) _)
              · first | exact Nat.le_refl _ | (simp; done) | (simp; omega)
            replace A := A.next hx20
            replace HB := Lib.hid (HB.out.trans (hx20.mono HB.out.size))
            have a0 := A.pb.k0; have a1 := A.pb.k1; have a2 := A.pb.k2; have a3 := A.pb.k3; have a4 := A.pb.k4; have a5 := A.pb.k5; have a6 := A.pb.k6; have a7 := A.pb.k7; have a8 := A.pb.k8; have a9 := A.pb.k9
            clear hb hx20
            go_wp2_with fail
            refine Calls.mono (head_any _) ?_
            rintro e z21 ⟨rfl, hb⟩
            have hx21 : RowKit.Below z20.heap.size z20 z21 := by
              refine Below.trans ?_ (hb.mono ?_)
              · (first | exact Below.refl _ _ | exact (Below.refl _ _).alloc (by simp) _ | exact ((Below.refl _ _).alloc (by simp) _).alloc (by simp) _ | exact (((Below.refl _ _).alloc (by simp) _).alloc (by simp) _).alloc (by simp) _)
              · first | exact Nat.le_refl _ | (simp; done) | (simp; omega)
            replace A := A.next hx21
            replace HB := Lib.hid (HB.out.trans (hx21.mono HB.out.size))
            clear hb hx21
            go_wp2_with fail
            go_ret
            exact ⟨rfl, HB.out⟩
          · subst j0
            have j2 : (fr == 0) = false := beq_eq_false_iff_ne.2 hf0
            clear hf0
            have a0 := A.pb.k0; have a1 := A.pb.k1; have a2 := A.pb.k2; have a3 := A.pb.k3; have a4 := A.pb.k4; have a5 := A.pb.k5; have a6 := A.pb.k6; have a7 := A.pb.k7; have a8 := A.pb.k8; have a9 := A.pb.k9
            go_wp2_with fail
            refine Calls.mono ((by have := Free_yes (A.w hl1 hl2) hv0; rwa [HFR.out] at this)) ?_
            rintro e z20 ⟨rfl, hb⟩
            clear a0 a1 a2 a3 a4 a5 a6 a7 a8 a9
            have hx20 : RowKit.Below (World.setRow ya w7.heap.size #[.int .i64 ga, .int .i64 gb, .int .i64 gc, .bool gd, .bool ge, .slice gp1 gn1 gq1, .slice gp2 gn2 gq2]).heap.size (World.setRow ya w7.heap.size #[.int .i64 ga, .int .i64 gb, .int .i64 gc, .bool gd, .bool ge, .slice gp1 gn1 gq1, .slice gp2 gn2 gq2]) z20 := by
              refine Below.trans ?_ (hb.mono ?_)
              · (first | exact Below.refl _ _ | exact (Below.refl _ _).alloc (by simp) _ | exact ((Below.refl _ _).alloc (by simp) _).alloc (by simp) _ | exact (((Below.refl _ _).alloc (by simp) _).alloc (by simp) _).alloc (by simp) _)
              · first | exact Nat.le_refl _ | (simp; done) | (simp; omega)
            replace A := A.next hx20
            replace HB := Lib.hid (HB.out.trans (hx20.mono HB.out.size))
            have a0 := A.pb.k0; have a1 := A.pb.k1; have a2 := A.pb.k2; have a3 := A.pb.k3; have a4 := A.pb.k4; have a5 := A.pb.k5; have a6 := A.pb.k6; have a7 := A.pb.k7; have a8 := A.pb.k8; have a9 := A.pb.k9
            clear hb hx20
            go_wp2_with fail
            refine Calls.mono (head_any _) ?_
            rintro e z21 ⟨rfl, hb⟩
            have hx21 : RowKit.Below z20.heap.size z20 z21 := by
              refine Below.trans ?_ (hb.mono ?_)
              · (first | exact Below.refl _ _ | exact (Below.refl _ _).alloc (by simp) _ | exact ((Below.refl _ _).alloc (by simp) _).alloc (by simp) _ | exact (((Below.refl _ _).alloc (by simp) _).alloc (by simp) _).alloc (by simp) _)
              · first | exact Nat.le_refl _ | (simp; done) | (simp; omega)
            replace A := A.next hx21
            replace HB := Lib.hid (HB.out.trans (hx21.mono HB.out.size))
            clear hb hx21
            go_wp2_with fail
            go_ret
            exact ⟨rfl, HB.out⟩
      · go_simp
        refine hK.out _ _ (by exact KK.out _ (HY.out.alloc HY.out.size _)) (fun hHeld => ?_)
        clear hK K
        try simp only [Act.put, List.setIfInBounds_toArray, List.set_cons_zero, List.set_cons_succ]
        have hBy : z14.heap.size ≤ w6.heap.size := HY.out.size
        obtain ⟨ya, hya⟩ : ∃ y, World.alloc w6 (.cells #[.int .i64 0, .int .i64 0, .int .i64 0, .bool false, .bool false, .slice none 0 0, .slice none 0 0] 25) = y := ⟨_, rfl⟩
        rw [hya]
        have hYa : RowKit.Below z14.heap.size z14 ya := by rw [← hya]; exact HY.out.alloc HY.out.size _
        have HY := Lib.hid hYa
        have HZ : Hid (ya.heap[w6.heap.size]? = some (.cells #[.int .i64 0, .int .i64 0, .int .i64 0, .bool false, .bool false, .slice none 0 0, .slice none 0 0] 25 (0, 0))) := by show _ = _; rw [← hya]; exact World.alloc_heap_new w6 _
        clear hya hYa
        refine wpAnyH_ready (rs := [7]) (by kernel_rfl) (by simp) ?_
        refine AllReadyH.cons (ata (atS (atS (atS (atS (atS (atS (atS at0)))))))) (fun K hK => ?_) AllReadyH.nil
        go_simp
        (go_at_call 8; (with_reducible refine (HCJ.out _ ((A.next HY.out).w hl1 hl2)).mono ?_); intro e w7 hG; obtain ⟨ga, gb, gc, gd, ge, gp1, gn1, gq1, gp2, gn2, gq2, gvt, rfl, hb1⟩ := hG; have hY := HY.out.trans (hb1.mono HY.out.size); have hZ := (hb1.block w6.heap.size (Array.getElem?_eq_some_iff.1 HZ.out).1).trans HZ.out; have HZ := Lib.hid hZ; clear hZ; have HY := Lib.hid hY; clear hb1 hY)
        go_wp2_with fail
        refine hK.out _ _ (by exact KK.out _ HY.out) (fun hHeld => ?_)
        clear hK K
        try simp only [Act.put, List.setIfInBounds_toArray, List.set_cons_zero, List.set_cons_succ]
        refine wpAnyH_take (i := 8) (v := ?_) (ata (atS (atS (atS (atS (atS (atS (atS (atS at0))))))))) (by kernel_rfl) (by kernel_rfl) (by kernel_rfl) (fun _ _ _ h => h) (Or.inl ⟨by rfl, ?_⟩) (by assumption) ?_
        rotate_left
        · (intro w hSw; (try dsimp only at hSw); go_simp; (first | done | with_reducible rfl))
        try simp only [Act.put, List.setIfInBounds_toArray, List.set_cons_zero, List.set_cons_succ]
        refine wpAnyH_take (i := 9) (v := ?_) (ata (atS (atS (atS (atS (atS (atS (atS (atS (atS at0)))))))))) (by kernel_rfl) (by kernel_rfl) (by kernel_rfl) (fun _ _ _ h => h) (Or.inl ⟨by rfl, ?_⟩) (by assumption) ?_
        rotate_left
        · (intro w hSw; (try dsimp only at hSw); go_simp; (first | done | with_reducible rfl))
        try simp only [Act.put, List.setIfInBounds_toArray, List.set_cons_zero, List.set_cons_succ]
        refine wpAnyH_take (i := 10) (v := ?_) (ata (atS (atS (atS (atS (atS (atS (atS (atS (atS (atS at0))))))))))) (by kernel_rfl) (by kernel_rfl) (by kernel_rfl) (fun _ _ _ h => h) (Or.inl ⟨by rfl, ?_⟩) (by assumption) ?_
        rotate_left
        · (intro w hSw; (try dsimp only at hSw); go_simp; (first | done | with_reducible rfl))
        try simp only [Act.put, List.setIfInBounds_toArray, List.set_cons_zero, List.set_cons_succ]
        refine wpAnyH_take (i := 11) (v := ?_) (ata (atS (atS (atS (atS (atS (atS (atS (atS (atS (atS (atS at0)))))))))))) (by kernel_rfl) (by kernel_rfl) (by kernel_rfl) (fun _ _ _ h => h) (Or.inl ⟨by rfl, ?_⟩) (by assumption) ?_
        rotate_left
        · (intro w hSw; (try dsimp only at hSw); go_simp; (first | done | with_reducible rfl))
        try simp only [Act.put, List.setIfInBounds_toArray, List.set_cons_zero, List.set_cons_succ]
        refine wpAnyH_ready (rs := [13]) (by kernel_rfl) (by simp) ?_
        refine AllReadyH.cons (ata (atS (atS (atS (atS (atS (atS (atS (atS (atS (atS (atS (atS (atS at0)))))))))))))) (fun K hK => ?_) AllReadyH.nil
        refine wp_store_row _ _ _ rfl w6.heap.size #[.int .i64 ga, .int .i64 gb, .int .i64 gc, .bool gd, .bool ge, .slice gp1 gn1 gq1, .slice gp2 gn2 gq2] rfl rfl 25 #[.int .i64 0, .int .i64 0, .int .i64 0, .bool false, .bool false, .slice none 0 0, .slice none 0 0] HZ.out (by kernel_rfl) rfl (by kernel_rfl) ?_
        refine hK.out _ _ (by exact KK.out _ (below_setRow HY.out hBy _)) (fun hHeld => ?_)
        clear hK K
        try simp only [Act.put, List.setIfInBounds_toArray, List.set_cons_zero, List.set_cons_succ]
        refine wpAnyH_take (i := 14) (v := ?_) (ata (atS (atS (atS (atS (atS (atS (atS (atS (atS (atS (atS (atS (atS (atS at0))))))))))))))) (by kernel_rfl) (by kernel_rfl) (by kernel_rfl) (fun _ _ _ h => h) (Or.inl ⟨by rfl, ?_⟩) (by assumption) ?_
        rotate_left
        · (intro w hSw; (try dsimp only at hSw); go_simp; (first | done | with_reducible rfl))
        try simp only [Act.put, List.setIfInBounds_toArray, List.set_cons_zero, List.set_cons_succ]
        refine wpAnyH_take (i := 15) (v := ?_) (ata (atS (atS (atS (atS (atS (atS (atS (atS (atS (atS (atS (atS (atS (atS (atS at0)))))))))))))))) (by kernel_rfl) (by kernel_rfl) (by kernel_rfl) (fun _ _ _ h => h) (Or.inl ⟨by rfl, ?_⟩) (by assumption) ?_
        rotate_left
        · (intro w hSw; (try dsimp only at hSw); go_simp; (first | done | with_reducible rfl))
        try simp only [Act.put, List.setIfInBounds_toArray, List.set_cons_zero, List.set_cons_succ]
        refine wpAnyH_done (by kernel_rfl) ?_ _
        have hYf := below_setRow HY.out hBy #[.int .i64 ga, .int .i64 gb, .int .i64 gc, .bool gd, .bool ge, .slice gp1 gn1 gq1, .slice gp2 gn2 gq2]
        replace A := A.next hYf
        replace HB := Lib.hid (HB.out.trans (hYf.mono HB.out.size))
        clear HY KK HZ hBy HCJ
        rcases j0 with j0 | ⟨j1, j0⟩ | j0
        · subst j0
          have a0 := A.pb.k0; have a1 := A.pb.k1; have a2 := A.pb.k2; have a3 := A.pb.k3; have a4 := A.pb.k4; have a5 := A.pb.k5; have a6 := A.pb.k6; have a7 := A.pb.k7; have a8 := A.pb.k8; have a9 := A.pb.k9
          go_wp2_with fail
          refine Calls.mono (head_any _) ?_
          rintro e z20 ⟨rfl, hb⟩
          have hx20 : RowKit.Below (World.setRow w7 w6.heap.size #[.int .i64 ga, .int .i64 gb, .int .i64 gc, .bool gd, .bool ge, .slice gp1 gn1 gq1, .slice gp2 gn2 gq2]).heap.size (World.setRow w7 w6.heap.size #[.int .i64 ga, .int .i64 gb, .int .i64 gc, .bool gd, .bool ge, .slice gp1 gn1 gq1, .slice gp2 gn2 gq2]) z20 := by
            refine Below.trans ?_ (hb.mono ?_)
            · (first | exact Below.refl _ _ | exact (Below.refl _ _).alloc (by simp) _ | exact ((Below.refl _ _).alloc (by simp) _).alloc (by simp) _ | exact (((Below.refl _ _).alloc (by simp) _).alloc (by simp) _).alloc (by simp) _)
            · first | exact Nat.le_refl _ | (simp; done) | (simp; omega)
          replace A := A.next hx20
          replace HB := Lib.hid (HB.out.trans (hx20.mono HB.out.size))
          clear hb hx20
          go_wp2_with fail
          go_ret
          exact ⟨rfl, HB.out⟩
        · subst j0
          have j2 : (fr == 0) = true := by rw [j1]; rfl
          have a0 := A.pb.k0; have a1 := A.pb.k1; have a2 := A.pb.k2; have a3 := A.pb.k3; have a4 := A.pb.k4; have a5 := A.pb.k5; have a6 := A.pb.k6; have a7 := A.pb.k7; have a8 := A.pb.k8; have a9 := A.pb.k9
          go_wp2_with fail
          refine Calls.mono ((by have := Free_yes (A.w hl1 hl2) hv0; rwa [HFR.out] at this)) ?_
          rintro e z20 ⟨rfl, hb⟩
          clear a0 a1 a2 a3 a4 a5 a6 a7 a8 a9
          have hx20 : RowKit.Below (World.setRow w7 w6.heap.size #[.int .i64 ga, .int .i64 gb, .int .i64 gc, .bool gd, .bool ge, .slice gp1 gn1 gq1, .slice gp2 gn2 gq2]).heap.size (World.setRow w7 w6.heap.size #[.int .i64 ga, .int .i64 gb, .int .i64 gc, .bool gd, .bool ge, .slice gp1 gn1 gq1, .slice gp2 gn2 gq2]) z20 := by
            refine Below.trans ?_ (hb.mono ?_)
            · (first | exact Below.refl _ _ | exact (Below.refl _ _).alloc (by simp) _ | exact ((Below.refl _ _).alloc (by simp) _).alloc (by simp) _ | exact (((Below.refl _ _).alloc (by simp) _).alloc (by simp) _).alloc (by simp) _)
            · first | exact Nat.le_refl _ | (simp; done) | (simp; omega)
          replace A := A.next hx20
          replace HB := Lib.hid (HB.out.trans (hx20.mono HB.out.size))
          have a0 := A.pb.k0; have a1 := A.pb.k1; have a2 := A.pb.k2; have a3 := A.pb.k3; have a4 := A.pb.k4; have a5 := A.pb.k5; have a6 := A.pb.k6; have a7 := A.pb.k7; have a8 := A.pb.k8; have a9 := A.pb.k9
          clear hb hx20
          go_wp2_with fail
          refine Calls.mono (head_any _) ?_
          rintro e z21 ⟨rfl, hb⟩
          have hx21 : RowKit.Below z20.heap.size z20 z21 := by
            refine Below.trans ?_ (hb.mono ?_)
            · (first | exact Below.refl _ _ | exact (Below.refl _ _).alloc (by simp) _ | exact ((Below.refl _ _).alloc (by simp) _).alloc (by simp) _ | exact (((Below.refl _ _).alloc (by simp) _).alloc (by simp) _).alloc (by simp) _)
            · first | exact Nat.le_refl _ | (simp; done) | (simp; omega)
          replace A := A.next hx21
          replace HB := Lib.hid (HB.out.trans (hx21.mono HB.out.size))
          clear hb hx21
          go_wp2_with fail
          go_ret
          exact ⟨rfl, HB.out⟩
        · by_cases hf0 : fr = 0
          · subst j0
            have j2 : (fr == 0) = true := by rw [hf0]; rfl
            clear hf0
            have a0 := A.pb.k0; have a1 := A.pb.k1; have a2 := A.pb.k2; have a3 := A.pb.k3; have a4 := A.pb.k4; have a5 := A.pb.k5; have a6 := A.pb.k6; have a7 := A.pb.k7; have a8 := A.pb.k8; have a9 := A.pb.k9
            go_wp2_with fail
            refine Calls.mono ((by have := Free_yes (A.w hl1 hl2) hv0; rwa [HFR.out] at this)) ?_
            rintro e z20 ⟨rfl, hb⟩
            clear a0 a1 a2 a3 a4 a5 a6 a7 a8 a9
            have hx20 : RowKit.Below (World.setRow w7 w6.heap.size #[.int .i64 ga, .int .i64 gb, .int .i64 gc, .bool gd, .bool ge, .slice gp1 gn1 gq1, .slice gp2 gn2 gq2]).heap.size (World.setRow w7 w6.heap.size #[.int .i64 ga, .int .i64 gb, .int .i64 gc, .bool gd, .bool ge, .slice gp1 gn1 gq1, .slice gp2 gn2 gq2]) z20 := by
              refine Below.trans ?_ (hb.mono ?_)
              · (first | exact Below.refl _ _ | exact (Below.refl _ _).alloc (by simp) _ | exact ((Below.refl _ _).alloc (by simp) _).alloc (by simp) _ | exact (((Below.refl _ _).alloc (by simp) _).alloc (by simp) _).alloc (by simp) _)
              · first | exact Nat.le_refl _ | (simp; done) | (simp; omega)
            replace A := A.next hx20
            replace HB := Lib.hid (HB.out.trans (hx20.mono HB.out.size))
            have a0 := A.pb.k0; have a1 := A.pb.k1; have a2 := A.pb.k2; have a3 := A.pb.k3; have a4 := A.pb.k4; have a5 := A.pb.k5; have a6 := A.pb.k6; have a7 := A.pb.k7; have a8 := A.pb.k8; have a9 := A.pb.k9
            clear hb hx20
            go_wp2_with fail
            refine Calls.mono (head_any _) ?_
            rintro e z21 ⟨rfl, hb⟩
            have hx21 : RowKit.Below z20.heap.size z20 z21 := by
              refine Below.trans ?_ (hb.mono ?_)
              · (first | exact Below.refl _ _ | exact (Below.refl _ _).alloc (by simp) _ | exact ((Below.refl _ _).alloc (by simp) _).alloc (by simp) _ | exact (((Below.refl _ _).alloc (by simp) _).alloc (by simp) _).alloc (by simp) _)
              · first | exact Nat.le_refl _ | (simp; done) | (simp; omega)
            replace A := A.next hx21
            replace HB := Lib.hid (HB.out.trans (hx21.mono HB.out.size))
            clear hb hx21
            go_wp2_with fail
            go_ret
            exact ⟨rfl, HB.out⟩
          · subst j0
            have j2 : (fr == 0) = false := beq_eq_false_iff_ne.2 hf0
            clear hf0
            have a0 := A.pb.k0; have a1 := A.pb.k1; have a2 := A.pb.k2; have a3 := A.pb.k3; have a4 := A.pb.k4; have a5 := A.pb.k5; have a6 := A.pb.k6; have a7 := A.pb.k7; have a8 := A.pb.k8; have a9 := A.pb.k9
            go_wp2_with fail
            refine Calls.mono ((by have := Free_yes (A.w hl1 hl2) hv0; rwa [HFR.out] at this)) ?_
            rintro e z20 ⟨rfl, hb⟩
            clear a0 a1 a2 a3 a4 a5 a6 a7 a8 a9
            have hx20 : RowKit.Below (World.setRow w7 w6.heap.size #[.int .i64 ga, .int .i64 gb, .int .i64 gc, .bool gd, .bool ge, .slice gp1 gn1 gq1, .slice gp2 gn2 gq2]).heap.size (World.setRow w7 w6.heap.size #[.int .i64 ga, .int .i64 gb, .int .i64 gc, .bool gd, .bool ge, .slice gp1 gn1 gq1, .slice gp2 gn2 gq2]) z20 := by
              refine Below.trans ?_ (hb.mono ?_)
              · (first | exact Below.refl _ _ | exact (Below.refl _ _).alloc (by simp) _ | exact ((Below.refl _ _).alloc (by simp) _).alloc (by simp) _ | exact (((Below.refl _ _).alloc (by simp) _).alloc (by simp) _).alloc (by simp) _)
              · first | exact Nat.le_refl _ | (simp; done) | (simp; omega)
            replace A := A.next hx20
            replace HB := Lib.hid (HB.out.trans (hx20.mono HB.out.size))
            have a0 := A.pb.k0; have a1 := A.pb.k1; have a2 := A.pb.k2; have a3 := A.pb.k3; have a4 := A.pb.k4; have a5 := A.pb.k5; have a6 := A.pb.k6; have a7 := A.pb.k7; have a8 := A.pb.k8; have a9 := A.pb.k9
            clear hb hx20
            go_wp2_with fail
            refine Calls.mono (head_any _) ?_
            rintro e z21 ⟨rfl, hb⟩
            have hx21 : RowKit.Below z20.heap.size z20 z21 := by
              refine Below.trans ?_ (hb.mono ?_)
              · (first | exact Below.refl _ _ | exact (Below.refl _ _).alloc (by simp) _ | exact ((Below.refl _ _).alloc (by simp) _).alloc (by simp) _ | exact (((Below.refl _ _).alloc (by simp) _).alloc (by simp) _).alloc (by simp) _)
              · first | exact Nat.le_refl _ | (simp; done) | (simp; omega)
            replace A := A.next hx21
            replace HB := Lib.hid (HB.out.trans (hx21.mono HB.out.size))
            clear hb hx21
            go_wp2_with fail
            go_ret
            exact ⟨rfl, HB.out⟩
    · go_simp
      refine hK.out _ _ (by exact KK.out _ (HY.out.alloc HY.out.size _)) (fun hHeld => ?_)
      clear hK K
      try simp only [Act.put, List.setIfInBounds_toArray, List.set_cons_zero, List.set_cons_succ]
      have hBy : z14.heap.size ≤ z14.heap.size := Nat.le_refl _
      obtain ⟨ya, hya⟩ : ∃ y, World.drew (World.alloc z14 (.cells #[.int .i64 0, .int .i64 0, .int .i64 0, .bool false, .bool false, .slice none 0 0, .slice none 0 0] 25)) = y := ⟨_, rfl⟩
      rw [hya]
      have hYa : RowKit.Below z14.heap.size z14 ya := by rw [← hya]; exact ((Below.refl _ z14).alloc (Nat.le_refl _) _).drew
      have HY := Lib.hid hYa
      have HZ : Hid (ya.heap[z14.heap.size]? = some (.cells #[.int .i64 0, .int .i64 0, .int .i64 0, .bool false, .bool false, .slice none 0 0, .slice none 0 0] 25 (0, 0))) := by show _ = _; rw [← hya]; exact World.alloc_heap_new z14 _
      clear hya hYa
      refine wpAnyH_ready (rs := [6]) (by kernel_rfl) (by simp) ?_
      refine AllReadyH.cons (ata (atS (atS (atS (atS (atS (atS at0))))))) (fun K hK => ?_) AllReadyH.nil
      go_simp
      (go_at_call 12; (with_reducible refine (Free_yes ((A.next HY.out).w hl1 hl2) hv0).mono ?_); rintro e w6 ⟨rfl, hb1⟩; rw [HFR.out]; have hY := HY.out.trans (hb1.mono HY.out.size); have hZ := (hb1.block z14.heap.size (Array.getElem?_eq_some_iff.1 HZ.out).1).trans HZ.out; have HZ := Lib.hid hZ; clear hZ; have HY := Lib.hid hY; clear hb1 hY)
      go_wp2_with fail
      refine hK.out _ _ (by exact KK.out _ HY.out) (fun hHeld => ?_)
      clear hK K
      try simp only [Act.put, List.setIfInBounds_toArray, List.set_cons_zero, List.set_cons_succ]
      refine wpAnyH_ready (rs := [7]) (by kernel_rfl) (by simp) ?_
      refine AllReadyH.cons (ata (atS (atS (atS (atS (atS (atS (atS at0)))))))) (fun K hK => ?_) AllReadyH.nil
      go_simp
      (go_at_call 8; (with_reducible refine (HCJ.out _ ((A.next HY.out).w hl1 hl2)).mono ?_); intro e w7 hG; obtain ⟨ga, gb, gc, gd, ge, gp1, gn1, gq1, gp2, gn2, gq2, gvt, rfl, hb1⟩ := hG; have hY := HY.out.trans (hb1.mono HY.out.size); have hZ := (hb1.block z14.heap.size (Array.getElem?_eq_some_iff.1 HZ.out).1).trans HZ.out; have HZ := Lib.hid hZ; clear hZ; have HY := Lib.hid hY; clear hb1 hY)
      go_wp2_with fail
      refine hK.out _ _ (by exact KK.out _ HY.out) (fun hHeld => ?_)
      clear hK K
      try simp only [Act.put, List.setIfInBounds_toArray, List.set_cons_zero, List.set_cons_succ]
      refine wpAnyH_take (i := 8) (v := ?_) (ata (atS (atS (atS (atS (atS (atS (atS (atS at0))))))))) (by kernel_rfl) (by kernel_rfl) (by kernel_rfl) (fun _ _ _ h => h) (Or.inl ⟨by rfl, ?_⟩) (by assumption) ?_
      rotate_left
      · (intro w hSw; (try dsimp only at hSw); go_simp; (first | done | with_reducible rfl))
      try simp only [Act.put, List.setIfInBounds_toArray, List.set_cons_zero, List.set_cons_succ]
      refine wpAnyH_take (i := 9) (v := ?_) (ata (atS (atS (atS (atS (atS (atS (atS (atS (atS at0)))))))))) (by kernel_rfl) (by kernel_rfl) (by kernel_rfl) (fun _ _ _ h => h) (Or.inl ⟨by rfl, ?_⟩) (by assumption) ?_
      rotate_left
      · (intro w hSw; (try dsimp only at hSw); go_simp; (first | done | with_reducible rfl))
      try simp only [Act.put, List.setIfInBounds_toArray, List.set_cons_zero, List.set_cons_succ]
      refine wpAnyH_take (i := 10) (v := ?_) (ata (atS (atS (atS (atS (atS (atS (atS (atS (atS (atS at0))))))))))) (by kernel_rfl) (by kernel_rfl) (by kernel_rfl) (fun _ _ _ h => h) (Or.inl ⟨by rfl, ?_⟩) (by assumption) ?_
      rotate_left
      · (intro w hSw; (try dsimp only at hSw); go_simp; (first | done | with_reducible rfl))
      try simp only [Act.put, List.setIfInBounds_toArray, List.set_cons_zero, List.set_cons_succ]
      refine wpAnyH_take (i := 11) (v := ?_) (ata (atS (atS (atS (atS (atS (atS (atS (atS (atS (atS (atS at0)))))))))))) (by kernel_rfl) (by kernel_rfl) (by kernel_rfl) (fun _ _ _ h => h) (Or.inl ⟨by rfl, ?_⟩) (by assumption) ?_
      rotate_left
      · (intro w hSw; (try dsimp only at hSw); go_simp; (first | done | with_reducible rfl))
      try simp only [Act.put, List.setIfInBounds_toArray, List.set_cons_zero, List.set_cons_succ]
      refine wpAnyH_ready (rs := [13]) (by kernel_rfl) (by simp) ?_
      refine AllReadyH.cons (ata (atS (atS (atS (atS (atS (atS (atS (atS (atS (atS (atS (atS (atS at0)))))))))))))) (fun K hK => ?_) AllReadyH.nil
      refine wp_store_row _ _ _ rfl z14.heap.size #[.int .i64 ga, .int .i64 gb, .int .i64 gc, .bool gd, .bool ge, .slice gp1 gn1 gq1, .slice gp2 gn2 gq2] rfl rfl 25 #[.int .i64 0, .int .i64 0, .int .i64 0, .bool false, .bool false, .slice none 0 0, .slice none 0 0] HZ.out (by kernel_rfl) rfl (by kernel_rfl) ?_
      refine hK.out _ _ (by exact KK.out _ (below_setRow HY.out hBy _)) (fun hHeld => ?_)
      clear hK K
      try simp only [Act.put, List.setIfInBounds_toArray, List.set_cons_zero, List.set_cons_succ]
      refine wpAnyH_take (i := 14) (v := ?_) (ata (atS (atS (atS (atS (atS (atS (atS (atS (atS (atS (atS (atS (atS (atS at0))))))))))))))) (by kernel_rfl) (by kernel_rfl) (by kernel_rfl) (fun _ _ _ h => h) (Or.inl ⟨by rfl, ?_⟩) (by assumption) ?_
      rotate_left
      · (intro w hSw; (try dsimp only at hSw); go_simp; (first | done | with_reducible rfl))
      try simp only [Act.put, List.setIfInBounds_toArray, List.set_cons_zero, List.set_cons_succ]
      refine wpAnyH_take (i := 15) (v := ?_) (ata (atS (atS (atS (atS (atS (atS (atS (atS (atS (atS (atS (atS (atS (atS (atS at0)))))))))))))))) (by kernel_rfl) (by kernel_rfl) (by kernel_rfl) (fun _ _ _ h => h) (Or.inl ⟨by rfl, ?_⟩) (by assumption) ?_
      rotate_left
      · (intro w hSw; (try dsimp only at hSw); go_simp; (first | done | with_reducible rfl))
      try simp only [Act.put, List.setIfInBounds_toArray, List.set_cons_zero, List.set_cons_succ]
      refine wpAnyH_done (by kernel_rfl) ?_ _
      have hYf := below_setRow HY.out hBy #[.int .i64 ga, .int .i64 gb, .int .i64 gc, .bool gd, .bool ge, .slice gp1 gn1 gq1, .slice gp2 gn2 gq2]
      replace A := A.next hYf
      replace HB := Lib.hid (HB.out.trans (hYf.mono HB.out.size))
      clear HY KK HZ hBy HCJ
      rcases j0 with j0 | ⟨j1, j0⟩ | j0
      · subst j0
        have a0 := A.pb.k0; have a1 := A.pb.k1; have a2 := A.pb.k2; have a3 := A.pb.k3; have a4 := A.pb.k4; have a5 := A.pb.k5; have a6 := A.pb.k6; have a7 := A.pb.k7; have a8 := A.pb.k8; have a9 := A.pb.k9
        go_wp2_with fail
        refine Calls.mono (head_any _) ?_
        rintro e z20 ⟨rfl, hb⟩
        have hx20 : RowKit.Below (World.setRow w7 z14.heap.size #[.int .i64 ga, .int .i64 gb, .int .i64 gc, .bool gd, .bool ge, .slice gp1 gn1 gq1, .slice gp2 gn2 gq2]).heap.size (World.setRow w7 z14.heap.size #[.int .i64 ga, .int .i64 gb, .int .i64 gc, .bool gd, .bool ge, .slice gp1 gn1 gq1, .slice gp2 gn2 gq2]) z20 := by
          refine Below.trans ?_ (hb.mono ?_)
          · (first | exact Below.refl _ _ | exact (Below.refl _ _).alloc (by simp) _ | exact ((Below.refl _ _).alloc (by simp) _).alloc (by simp) _ | exact (((Below.refl _ _).alloc (by simp) _).alloc (by simp) _).alloc (by simp) _)
          · first | exact Nat.le_refl _ | (simp; done) | (simp; omega)
        replace A := A.next hx20
        replace HB := Lib.hid (HB.out.trans (hx20.mono HB.out.size))
        clear hb hx20
        go_wp2_with fail
        go_ret
        exact ⟨rfl, HB.out⟩
      · subst j0
        have j2 : (fr == 0) = true := by rw [j1]; rfl
        have a0 := A.pb.k0; have a1 := A.pb.k1; have a2 := A.pb.k2; have a3 := A.pb.k3; have a4 := A.pb.k4; have a5 := A.pb.k5; have a6 := A.pb.k6; have a7 := A.pb.k7; have a8 := A.pb.k8; have a9 := A.pb.k9
        go_wp2_with fail
        refine Calls.mono ((by have := Free_yes (A.w hl1 hl2) hv0; rwa [HFR.out] at this)) ?_
        rintro e z20 ⟨rfl, hb⟩
        clear a0 a1 a2 a3 a4 a5 a6 a7 a8 a9
        have hx20 : RowKit.Below (World.setRow w7 z14.heap.size #[.int .i64 ga, .int .i64 gb, .int .i64 gc, .bool gd, .bool ge, .slice gp1 gn1 gq1, .slice gp2 gn2 gq2]).heap.size (World.setRow w7 z14.heap.size #[.int .i64 ga, .int .i64 gb, .int .i64 gc, .bool gd, .bool ge, .slice gp1 gn1 gq1, .slice gp2 gn2 gq2]) z20 := by
          refine Below.trans ?_ (hb.mono ?_)
          · (first | exact Below.refl _ _ | exact (Below.refl _ _).alloc (by simp) _ | exact ((Below.refl _ _).alloc (by simp) _).alloc (by simp) _ | exact (((Below.refl _ _).alloc (by simp) _).alloc (by simp) _).alloc (by simp) _)
          · first | exact Nat.le_refl _ | (simp; done) | (simp; omega)
        replace A := A.next hx20
        replace HB := Lib.hid (HB.out.trans (hx20.mono HB.out.size))
        have a0 := A.pb.k0; have a1 := A.pb.k1; have a2 := A.pb.k2; have a3 := A.pb.k3; have a4 := A.pb.k4; have a5 := A.pb.k5; have a6 := A.pb.k6; have a7 := A.pb.k7; have a8 := A.pb.k8; have a9 := A.pb.k9
        clear hb hx20
        go_wp2_with fail
        refine Calls.mono (head_any _) ?_
        rintro e z21 ⟨rfl, hb⟩
        have hx21 : RowKit.Below z20.heap.size z20 z21 := by
          refine Below.trans ?_ (hb.mono ?_)
          · (first | exact Below.refl _ _ | exact (Below.refl _ _).alloc (by simp) _ | exact ((Below.refl _ _).alloc (by simp) _).alloc (by simp) _ | exact (((Below.refl _ _).alloc (by simp) _).alloc (by simp) _).alloc (by simp) _)
          · first | exact Nat.le_refl _ | (simp; done) | (simp; omega)
        replace A := A.next hx21
        replace HB := Lib.hid (HB.out.trans (hx21.mono HB.out.size))
        clear hb hx21
        go_wp2_with fail
        go_ret
        exact ⟨rfl, HB.out⟩
      · by_cases hf0 : fr = 0
        · subst j0
          have j2 : (fr == 0) = true := by rw [hf0]; rfl
          clear hf0
          have a0 := A.pb.k0; have a1 := A.pb.k1; have a2 := A.pb.k2; have a3 := A.pb.k3; have a4 := A.pb.k4; have a5 := A.pb.k5; have a6 := A.pb.k6; have a7 := A.pb.k7; have a8 := A.pb.k8; have a9 := A.pb.k9
          go_wp2_with fail
          refine Calls.mono ((by have := Free_yes (A.w hl1 hl2) hv0; rwa [HFR.out] at this)) ?_
          rintro e z20 ⟨rfl, hb⟩
          clear a0 a1 a2 a3 a4 a5 a6 a7 a8 a9
          have hx20 : RowKit.Below (World.setRow w7 z14.heap.size #[.int .i64 ga, .int .i64 gb, .int .i64 gc, .bool gd, .bool ge, .slice gp1 gn1 gq1, .slice gp2 gn2 gq2]).heap.size (World.setRow w7 z14.heap.size #[.int .i64 ga, .int .i64 gb, .int .i64 gc, .bool gd, .bool ge, .slice gp1 gn1 gq1, .slice gp2 gn2 gq2]) z20 := by
            refine Below.trans ?_ (hb.mono ?_)
            · (first | exact Below.refl _ _ | exact (Below.refl _ _).alloc (by simp) _ | exact ((Below.refl _ _).alloc (by simp) _).alloc (by simp) _ | exact (((Below.refl _ _).alloc (by simp) _).alloc (by simp) _).alloc (by simp) _)
            · first | exact Nat.le_refl _ | (simp; done) | (simp; omega)
          replace A := A.next hx20
          replace HB := Lib.hid (HB.out.trans (hx20.mono HB.out.size))
          have a0 := A.pb.k0; have a1 := A.pb.k1; have a2 := A.pb.k2; have a3 := A.pb.k3; have a4 := A.pb.k4; have a5 := A.pb.k5; have a6 := A.pb.k6; have a7 := A.pb.k7; have a8 := A.pb.k8; have a9 := A.pb.k9
          clear hb hx20
          go_wp2_with fail
          refine Calls.mono (head_any _) ?_
          rintro e z21 ⟨rfl, hb⟩
          have hx21 : RowKit.Below z20.heap.size z20 z21 := by
            refine Below.trans ?_ (hb.mono ?_)
            · (first | exact Below.refl _ _ | exact (Below.refl _ _).alloc (by simp) _ | exact ((Below.refl _ _).alloc (by simp) _).alloc (by simp) _ | exact (((Below.refl _ _).alloc (by simp) _).alloc (by simp) _).alloc (by simp) _)
            · first | exact Nat.le_refl _ | (simp; done) | (simp; omega)
          replace A := A.next hx21
          replace HB := Lib.hid (HB.out.trans (hx21.mono HB.out.size))
          clear hb hx21
          go_wp2_with fail
          go_ret
          exact ⟨rfl, HB.out⟩
        · subst j0
          have j2 : (fr == 0) = false := beq_eq_false_iff_ne.2 hf0
          clear hf0
          have a0 := A.pb.k0; have a1 := A.pb.k1; have a2 := A.pb.k2; have a3 := A.pb.k3; have a4 := A.pb.k4; have a5 := A.pb.k5; have a6 := A.pb.k6; have a7 := A.pb.k7; have a8 := A.pb.k8; have a9 := A.pb.k9
          go_wp2_with fail
          refine Calls.mono ((by have := Free_yes (A.w hl1 hl2) hv0; rwa [HFR.out] at this)) ?_
          rintro e z20 ⟨rfl, hb⟩
          clear a0 a1 a2 a3 a4 a5 a6 a7 a8 a9
          have hx20 : RowKit.Below (World.setRow w7 z14.heap.size #[.int .i64 ga, .int .i64 gb, .int .i64 gc, .bool gd, .bool ge, .slice gp1 gn1 gq1, .slice gp2 gn2 gq2]).heap.size (World.setRow w7 z14.heap.size #[.int .i64 ga, .int .i64 gb, .int .i64 gc, .bool gd, .bool ge, .slice gp1 gn1 gq1, .slice gp2 gn2 gq2]) z20 := by
            refine Below.trans ?_ (hb.mono ?_)
            · (first | exact Below.refl _ _ | exact (Below.refl _ _).alloc (by simp) _ | exact ((Below.refl _ _).alloc (by simp) _).alloc (by simp) _ | exact (((Below.refl _ _).alloc (by simp) _).alloc (by simp) _).alloc (by simp) _)
            · first | exact Nat.le_refl _ | (simp; done) | (simp; omega)
          replace A := A.next hx20
          replace HB := Lib.hid (HB.out.trans (hx20.mono HB.out.size))
          have a0 := A.pb.k0; have a1 := A.pb.k1; have a2 := A.pb.k2; have a3 := A.pb.k3; have a4 := A.pb.k4; have a5 := A.pb.k5; have a6 := A.pb.k6; have a7 := A.pb.k7; have a8 := A.pb.k8; have a9 := A.pb.k9
          clear hb hx20
          go_wp2_with fail
          refine Calls.mono (head_any _) ?_
          rintro e z21 ⟨rfl, hb⟩
          have hx21 : RowKit.Below z20.heap.size z20 z21 := by
            refine Below.trans ?_ (hb.mono ?_)
            · (first | exact Below.refl _ _ | exact (Below.refl _ _).alloc (by simp) _ | exact ((Below.refl _ _).alloc (by simp) _).alloc (by simp) _ | exact (((Below.refl _ _).alloc (by simp) _).alloc (by simp) _).alloc (by simp) _)
            · first | exact Nat.le_refl _ | (simp; done) | (simp; omega)
          replace A := A.next hx21
          replace HB := Lib.hid (HB.out.trans (hx21.mono HB.out.size))
          clear hb hx21
          go_wp2_with fail
          go_ret
          exact ⟨rfl, HB.out⟩
  · obtain ⟨hg2, hg3⟩ := hg2
    have HY : Hid (RowKit.Below y12.heap.size y12 y12.drew) := (Below.refl _ y12).drew
    go_region_held3 (fun W => W.cell? ⟨w.heap.size, 0, none⟩ = some (.int .i64 p.size) ∧ W.cell? ⟨w.heap.size, 1, none⟩ = some (.int .i64 p.grain) ∧ W.cell? ⟨w.heap.size, 2, none⟩ = some (.int .i64 p.quota) ∧ W.cell? ⟨w.heap.size, 3, none⟩ = some (.bool p.drain) ∧ W.cell? ⟨w.heap.size, 4, none⟩ = some (.bool p.best) ∧ W.cell? ⟨w.heap.size, 5, none⟩ = some (.slice pf p.free.length cf) ∧ W.cell? ⟨w.heap.size, 6, none⟩ = some (.slice pu p.uses.length cu) ∧ W.cell? ⟨w.heap.size, 7, none⟩ = some (.string su) ∧ W.cell? ⟨w.heap.size, 8, none⟩ = some (.int .i64 n) ∧ W.cell? ⟨w.heap.size, 9, none⟩ = some (.slice pl l.length cl) ∧ W.cell? ⟨z5.heap.size, 0, none⟩ = some (.int .i64 D.size) ∧ W.cell? ⟨z5.heap.size, 1, none⟩ = some (.int .i64 D.grain) ∧ W.cell? ⟨z5.heap.size, 2, none⟩ = some (.int .i64 D.quota) ∧ W.cell? ⟨z5.heap.size, 3, none⟩ = some (.bool D.drain) ∧ W.cell? ⟨z5.heap.size, 4, none⟩ = some (.bool D.best) ∧ W.cell? ⟨z5.heap.size, 5, none⟩ = some (.slice afd D.free.length cfd) ∧ W.cell? ⟨z5.heap.size, 6, none⟩ = some (.slice aud D.uses.length cud)) (go_keep) (first | (go_at_call 12; (with_reducible refine (Free_yes ((Xd.next HY.out).w hd1 hd2) hvD).mono ?_); rintro e w1 ⟨rfl, hb1⟩; rw [HFD.out]; have hY := HY.out.trans (hb1.mono HY.out.size); have HY := Lib.hid hY; clear a0 a1 a2 a3 a4 a5 a6 a7 a8 a9 xd0 xd1 xd2 xd3 xd4 xd5 xd6; have hA := A.next hY; have hD := Xd.next hY; have a0 := hA.pb.k0; have a1 := hA.pb.k1; have a2 := hA.pb.k2; have a3 := hA.pb.k3; have a4 := hA.pb.k4; have a5 := hA.pb.k5; have a6 := hA.pb.k6; have a7 := hA.pb.k7; have a8 := hA.pb.k8; have a9 := hA.pb.k9; have xd0 := hD.pb.k0; have xd1 := hD.pb.k1; have xd2 := hD.pb.k2; have xd3 := hD.pb.k3; have xd4 := hD.pb.k4; have xd5 := hD.pb.k5; have xd6 := hD.pb.k6; clear hb1 hY hA hD) | (go_at_call 12; (with_reducible refine (Free_yes ((A.next HY.out).w hl1 hl2) hv0).mono ?_); rintro e w1 ⟨rfl, hb1⟩; have hY := HY.out.trans (hb1.mono HY.out.size); have HY := Lib.hid hY; clear a0 a1 a2 a3 a4 a5 a6 a7 a8 a9 xd0 xd1 xd2 xd3 xd4 xd5 xd6; have hA := A.next hY; have hD := Xd.next hY; have a0 := hA.pb.k0; have a1 := hA.pb.k1; have a2 := hA.pb.k2; have a3 := hA.pb.k3; have a4 := hA.pb.k4; have a5 := hA.pb.k5; have a6 := hA.pb.k6; have a7 := hA.pb.k7; have a8 := hA.pb.k8; have a9 := hA.pb.k9; have xd0 := hD.pb.k0; have xd1 := hD.pb.k1; have xd2 := hD.pb.k2; have xd3 := hD.pb.k3; have xd4 := hD.pb.k4; have xd5 := hD.pb.k5; have xd6 := hD.pb.k6; clear hb1 hY hA hD))
    have hx8 := HY.out
    replace A := A.next hx8
    replace Xza := Xza.next hx8
    replace Xd := Xd.next hx8
    replace Xo := Xo.next hx8
    replace Xzb := Xzb.next hx8
    replace HB := Lib.hid (HB.out.trans (hx8.mono HB.out.size))
    have xza0 := Xza.pb.k0; have xza1 := Xza.pb.k1; have xza2 := Xza.pb.k2; have xza3 := Xza.pb.k3; have xza4 := Xza.pb.k4; have xza5 := Xza.pb.k5; have xza6 := Xza.pb.k6
    have xo0 := Xo.pb.k0; have xo1 := Xo.pb.k1; have xo2 := Xo.pb.k2; have xo3 := Xo.pb.k3; have xo4 := Xo.pb.k4; have xo5 := Xo.pb.k5; have xo6 := Xo.pb.k6
    have xzb0 := Xzb.pb.k0; have xzb1 := Xzb.pb.k1; have xzb2 := Xzb.pb.k2; have xzb3 := Xzb.pb.k3; have xzb4 := Xzb.pb.k4; have xzb5 := Xzb.pb.k5; have xzb6 := Xzb.pb.k6
    clear HY hx8
    have hdp := HDP.out
    go_upto_region 12 with fail
    clear hdp
    go_wp2_with fail
    refine Calls.mono (PSame_yes Xza.v Xzb.v (by simp) (by simp)) ?_
    rintro e z13 ⟨rfl, hb⟩
    clear a0 a1 a2 a3 a4 a5 a6 a7 a8 a9 xza0 xza1 xza2 xza3 xza4 xza5 xza6 xd0 xd1 xd2 xd3 xd4 xd5 xd6 xo0 xo1 xo2 xo3 xo4 xo5 xo6 xzb0 xzb1 xzb2 xzb3 xzb4 xzb5 xzb6
    have hx13 : RowKit.Below w1.heap.size w1 z13 := by
      refine Below.trans ?_ (hb.mono ?_)
      · (first | exact Below.refl _ _ | exact (Below.refl _ _).alloc (by simp) _ | exact ((Below.refl _ _).alloc (by simp) _).alloc (by simp) _ | exact (((Below.refl _ _).alloc (by simp) _).alloc (by simp) _).alloc (by simp) _)
      · first | exact Nat.le_refl _ | (simp; done) | (simp; omega)
    replace A := A.next hx13
    replace Xza := Xza.next hx13
    replace Xd := Xd.next hx13
    replace Xo := Xo.next hx13
    replace Xzb := Xzb.next hx13
    replace HB := Lib.hid (HB.out.trans (hx13.mono HB.out.size))
    have a0 := A.pb.k0; have a1 := A.pb.k1; have a2 := A.pb.k2; have a3 := A.pb.k3; have a4 := A.pb.k4; have a5 := A.pb.k5; have a6 := A.pb.k6; have a7 := A.pb.k7; have a8 := A.pb.k8; have a9 := A.pb.k9
    have xza0 := Xza.pb.k0; have xza1 := Xza.pb.k1; have xza2 := Xza.pb.k2; have xza3 := Xza.pb.k3; have xza4 := Xza.pb.k4; have xza5 := Xza.pb.k5; have xza6 := Xza.pb.k6
    have xd0 := Xd.pb.k0; have xd1 := Xd.pb.k1; have xd2 := Xd.pb.k2; have xd3 := Xd.pb.k3; have xd4 := Xd.pb.k4; have xd5 := Xd.pb.k5; have xd6 := Xd.pb.k6
    have xo0 := Xo.pb.k0; have xo1 := Xo.pb.k1; have xo2 := Xo.pb.k2; have xo3 := Xo.pb.k3; have xo4 := Xo.pb.k4; have xo5 := Xo.pb.k5; have xo6 := Xo.pb.k6
    have xzb0 := Xzb.pb.k0; have xzb1 := Xzb.pb.k1; have xzb2 := Xzb.pb.k2; have xzb3 := Xzb.pb.k3; have xzb4 := Xzb.pb.k4; have xzb5 := Xzb.pb.k5; have xzb6 := Xzb.pb.k6
    clear hb hx13
    go_wp2_with fail
    have j0 := hf6 h6
    subst h6
    refine Calls.mono (Same_yes (l := []) (nil_x _) (nil_x _) (by simp)) ?_
    rintro e z14 ⟨rfl, hb⟩
    clear a0 a1 a2 a3 a4 a5 a6 a7 a8 a9 xza0 xza1 xza2 xza3 xza4 xza5 xza6 xd0 xd1 xd2 xd3 xd4 xd5 xd6 xo0 xo1 xo2 xo3 xo4 xo5 xo6 xzb0 xzb1 xzb2 xzb3 xzb4 xzb5 xzb6
    have hx14 : RowKit.Below z13.heap.size z13 z14 := by
      refine Below.trans ?_ (hb.mono ?_)
      · (first | exact Below.refl _ _ | exact (Below.refl _ _).alloc (by simp) _ | exact ((Below.refl _ _).alloc (by simp) _).alloc (by simp) _ | exact (((Below.refl _ _).alloc (by simp) _).alloc (by simp) _).alloc (by simp) _)
      · first | exact Nat.le_refl _ | (simp; done) | (simp; omega)
    replace A := A.next hx14
    replace Xza := Xza.next hx14
    replace Xd := Xd.next hx14
    replace Xo := Xo.next hx14
    replace Xzb := Xzb.next hx14
    replace HB := Lib.hid (HB.out.trans (hx14.mono HB.out.size))
    have a0 := A.pb.k0; have a1 := A.pb.k1; have a2 := A.pb.k2; have a3 := A.pb.k3; have a4 := A.pb.k4; have a5 := A.pb.k5; have a6 := A.pb.k6; have a7 := A.pb.k7; have a8 := A.pb.k8; have a9 := A.pb.k9
    have xza0 := Xza.pb.k0; have xza1 := Xza.pb.k1; have xza2 := Xza.pb.k2; have xza3 := Xza.pb.k3; have xza4 := Xza.pb.k4; have xza5 := Xza.pb.k5; have xza6 := Xza.pb.k6
    have xd0 := Xd.pb.k0; have xd1 := Xd.pb.k1; have xd2 := Xd.pb.k2; have xd3 := Xd.pb.k3; have xd4 := Xd.pb.k4; have xd5 := Xd.pb.k5; have xd6 := Xd.pb.k6
    have xo0 := Xo.pb.k0; have xo1 := Xo.pb.k1; have xo2 := Xo.pb.k2; have xo3 := Xo.pb.k3; have xo4 := Xo.pb.k4; have xo5 := Xo.pb.k5; have xo6 := Xo.pb.k6
    have xzb0 := Xzb.pb.k0; have xzb1 := Xzb.pb.k1; have xzb2 := Xzb.pb.k2; have xzb3 := Xzb.pb.k3; have xzb4 := Xzb.pb.k4; have xzb5 := Xzb.pb.k5; have xzb6 := Xzb.pb.k6
    clear hb hx14
    go_upto_region 15 with fail
    obtain ⟨j, hj⟩ : ∃ j, po.gcode p u (tot p.free) = j := ⟨_, rfl⟩
    obtain ⟨fr, hfr⟩ : ∃ fr, tot p.free = fr := ⟨_, rfl⟩
    have HCJ : Hid (∀ W, PolW W (aggP p (.slice pf p.free.length cf) (.slice pu p.uses.length cu)) p → Calls Try.prog 8 #[aggP p (.slice pf p.free.length cf) (.slice pu p.uses.length cu), .string su, .int .i64 fr] W (GrantS j W)) := fun W h => by have := Grant_some h u (tot p.free); rwa [hsu, hj, hfr] at this
    have HFR := Lib.hid hfr
    rw [hj, hfr] at j0
    clear hj hfr hf6
    have KK : Hid (∀ W, RowKit.Below z14.heap.size z14 W → (fun W => W.cell? ⟨w.heap.size, 0, none⟩ = some (.int .i64 p.size) ∧ W.cell? ⟨w.heap.size, 1, none⟩ = some (.int .i64 p.grain) ∧ W.cell? ⟨w.heap.size, 2, none⟩ = some (.int .i64 p.quota) ∧ W.cell? ⟨w.heap.size, 3, none⟩ = some (.bool p.drain) ∧ W.cell? ⟨w.heap.size, 4, none⟩ = some (.bool p.best) ∧ W.cell? ⟨w.heap.size, 5, none⟩ = some (.slice pf p.free.length cf) ∧ W.cell? ⟨w.heap.size, 6, none⟩ = some (.slice pu p.uses.length cu) ∧ W.cell? ⟨w.heap.size, 7, none⟩ = some (.string su) ∧ W.cell? ⟨w.heap.size, 8, none⟩ = some (.int .i64 n) ∧ W.cell? ⟨w.heap.size, 9, none⟩ = some (.slice pl l.length cl)) W) := fun W hb => ⟨(A.next hb).pb.k0, (A.next hb).pb.k1, (A.next hb).pb.k2, (A.next hb).pb.k3, (A.next hb).pb.k4, (A.next hb).pb.k5, (A.next hb).pb.k6, (A.next hb).pb.k7, (A.next hb).pb.k8, (A.next hb).pb.k9⟩
    have HY : Hid (RowKit.Below z14.heap.size z14 z14.drew) := (Below.refl _ z14).drew
    refine wp_region_held_drew (S := (fun W => W.cell? ⟨w.heap.size, 0, none⟩ = some (.int .i64 p.size) ∧ W.cell? ⟨w.heap.size, 1, none⟩ = some (.int .i64 p.grain) ∧ W.cell? ⟨w.heap.size, 2, none⟩ = some (.int .i64 p.quota) ∧ W.cell? ⟨w.heap.size, 3, none⟩ = some (.bool p.drain) ∧ W.cell? ⟨w.heap.size, 4, none⟩ = some (.bool p.best) ∧ W.cell? ⟨w.heap.size, 5, none⟩ = some (.slice pf p.free.length cf) ∧ W.cell? ⟨w.heap.size, 6, none⟩ = some (.slice pu p.uses.length cu) ∧ W.cell? ⟨w.heap.size, 7, none⟩ = some (.string su) ∧ W.cell? ⟨w.heap.size, 8, none⟩ = some (.int .i64 n) ∧ W.cell? ⟨w.heap.size, 9, none⟩ = some (.slice pl l.length cl))) (by kernel_rfl) (by exact KK.out _ HY.out) (fun hHeld => ?_)
    refine wpAnyH_take (i := 0) (v := ?_) (ata at0) (by kernel_rfl) (by kernel_rfl) (by kernel_rfl) (fun _ _ _ h => h) (Or.inl ⟨by rfl, ?_⟩) (by assumption) ?_
    rotate_left
    · (intro w hSw; (try dsimp only at hSw); go_simp; (first | done | with_reducible rfl))
    try simp only [Act.put, List.setIfInBounds_toArray, List.set_cons_zero, List.set_cons_succ]
    refine wpAnyH_take (i := 1) (v := ?_) (ata (atS at0)) (by kernel_rfl) (by kernel_rfl) (by kernel_rfl) (fun _ _ _ h => h) (Or.inl ⟨by rfl, ?_⟩) (by assumption) ?_
    rotate_left
    · (intro w hSw; (try dsimp only at hSw); go_simp; (first | done | with_reducible rfl))
    try simp only [Act.put, List.setIfInBounds_toArray, List.set_cons_zero, List.set_cons_succ]
    refine wpAnyH_take (i := 2) (v := ?_) (ata (atS (atS at0))) (by kernel_rfl) (by kernel_rfl) (by kernel_rfl) (fun _ _ _ h => h) (Or.inl ⟨by rfl, ?_⟩) (by assumption) ?_
    rotate_left
    · (intro w hSw; (try dsimp only at hSw); go_simp; (first | done | with_reducible rfl))
    try simp only [Act.put, List.setIfInBounds_toArray, List.set_cons_zero, List.set_cons_succ]
    refine wpAnyH_take (i := 3) (v := ?_) (ata (atS (atS (atS at0)))) (by kernel_rfl) (by kernel_rfl) (by kernel_rfl) (fun _ _ _ h => h) (Or.inl ⟨by rfl, ?_⟩) (by assumption) ?_
    rotate_left
    · (intro w hSw; (try dsimp only at hSw); go_simp; (first | done | with_reducible rfl))
    try simp only [Act.put, List.setIfInBounds_toArray, List.set_cons_zero, List.set_cons_succ]
    refine wpAnyH_take (i := 4) (v := ?_) (ata (atS (atS (atS (atS at0))))) (by kernel_rfl) (by kernel_rfl) (by kernel_rfl) (fun _ _ _ h => h) (Or.inl ⟨by rfl, ?_⟩) (by assumption) ?_
    rotate_left
    · (intro w hSw; (try dsimp only at hSw); go_simp; (first | done | with_reducible rfl))
    try simp only [Act.put, List.setIfInBounds_toArray, List.set_cons_zero, List.set_cons_succ]
    refine wpAnyH_take (i := 5) (v := ?_) (ata (atS (atS (atS (atS (atS at0)))))) (by kernel_rfl) (by kernel_rfl) (by kernel_rfl) (fun _ _ _ h => h) (Or.inl ⟨by rfl, ?_⟩) (by assumption) ?_
    rotate_left
    · (intro w hSw; (try dsimp only at hSw); go_simp; (first | done | with_reducible rfl))
    try simp only [Act.put, List.setIfInBounds_toArray, List.set_cons_zero, List.set_cons_succ]
    refine wpAnyH_ready (rs := [6, 12]) (by kernel_rfl) (by simp) ?_
    refine AllReadyH.cons (ata (atS (atS (atS (atS (atS (atS at0))))))) (fun K hK => ?_) (AllReadyH.cons (ata (atS (atS (atS (atS (atS (atS (atS (atS (atS (atS (atS (atS at0))))))))))))) (fun K hK => ?_) AllReadyH.nil)
    · go_simp
      (go_at_call 12; (with_reducible refine (Free_yes ((A.next HY.out).w hl1 hl2) hv0).mono ?_); rintro e w6 ⟨rfl, hb1⟩; rw [HFR.out]; have hY := HY.out.trans (hb1.mono HY.out.size); have HY := Lib.hid hY; clear hb1 hY)
      go_wp2_with fail
      refine hK.out _ _ (by exact KK.out _ HY.out) (fun hHeld => ?_)
      clear hK K
      try simp only [Act.put, List.setIfInBounds_toArray, List.set_cons_zero, List.set_cons_succ]
      refine wpAnyH_ready (rs := [7, 12]) (by kernel_rfl) (by simp) ?_
      refine AllReadyH.cons (ata (atS (atS (atS (atS (atS (atS (atS at0)))))))) (fun K hK => ?_) (AllReadyH.cons (ata (atS (atS (atS (atS (atS (atS (atS (atS (atS (atS (atS (atS at0))))))))))))) (fun K hK => ?_) AllReadyH.nil)
      · go_simp
        (go_at_call 8; (with_reducible refine (HCJ.out _ ((A.next HY.out).w hl1 hl2)).mono ?_); intro e w7 hG; obtain ⟨ga, gb, gc, gd, ge, gp1, gn1, gq1, gp2, gn2, gq2, gvt, rfl, hb1⟩ := hG; have hY := HY.out.trans (hb1.mono HY.out.size); have HY := Lib.hid hY; clear hb1 hY)
        go_wp2_with fail
        refine hK.out _ _ (by exact KK.out _ HY.out) (fun hHeld => ?_)
        clear hK K
        try simp only [Act.put, List.setIfInBounds_toArray, List.set_cons_zero, List.set_cons_succ]
        refine wpAnyH_take (i := 8) (v := ?_) (ata (atS (atS (atS (atS (atS (atS (atS (atS at0))))))))) (by kernel_rfl) (by kernel_rfl) (by kernel_rfl) (fun _ _ _ h => h) (Or.inl ⟨by rfl, ?_⟩) (by assumption) ?_
        rotate_left
        · (intro w hSw; (try dsimp only at hSw); go_simp; (first | done | with_reducible rfl))
        try simp only [Act.put, List.setIfInBounds_toArray, List.set_cons_zero, List.set_cons_succ]
        refine wpAnyH_take (i := 9) (v := ?_) (ata (atS (atS (atS (atS (atS (atS (atS (atS (atS at0)))))))))) (by kernel_rfl) (by kernel_rfl) (by kernel_rfl) (fun _ _ _ h => h) (Or.inl ⟨by rfl, ?_⟩) (by assumption) ?_
        rotate_left
        · (intro w hSw; (try dsimp only at hSw); go_simp; (first | done | with_reducible rfl))
        try simp only [Act.put, List.setIfInBounds_toArray, List.set_cons_zero, List.set_cons_succ]
        refine wpAnyH_take (i := 10) (v := ?_) (ata (atS (atS (atS (atS (atS (atS (atS (atS (atS (atS at0))))))))))) (by kernel_rfl) (by kernel_rfl) (by kernel_rfl) (fun _ _ _ h => h) (Or.inl ⟨by rfl, ?_⟩) (by assumption) ?_
        rotate_left
        · (intro w hSw; (try dsimp only at hSw); go_simp; (first | done | with_reducible rfl))
        try simp only [Act.put, List.setIfInBounds_toArray, List.set_cons_zero, List.set_cons_succ]
        refine wpAnyH_take (i := 11) (v := ?_) (ata (atS (atS (atS (atS (atS (atS (atS (atS (atS (atS (atS at0)))))))))))) (by kernel_rfl) (by kernel_rfl) (by kernel_rfl) (fun _ _ _ h => h) (Or.inl ⟨by rfl, ?_⟩) (by assumption) ?_
        rotate_left
        · (intro w hSw; (try dsimp only at hSw); go_simp; (first | done | with_reducible rfl))
        try simp only [Act.put, List.setIfInBounds_toArray, List.set_cons_zero, List.set_cons_succ]
        refine wpAnyH_ready (rs := [12]) (by kernel_rfl) (by simp) ?_
        refine AllReadyH.cons (ata (atS (atS (atS (atS (atS (atS (atS (atS (atS (atS (atS (atS at0))))))))))))) (fun K hK => ?_) AllReadyH.nil
        go_simp
        refine hK.out _ _ (by exact KK.out _ (HY.out.alloc HY.out.size _)) (fun hHeld => ?_)
        clear hK K
        try simp only [Act.put, List.setIfInBounds_toArray, List.set_cons_zero, List.set_cons_succ]
        have hBy : z14.heap.size ≤ w7.heap.size := HY.out.size
        obtain ⟨ya, hya⟩ : ∃ y, World.alloc w7 (.cells #[.int .i64 0, .int .i64 0, .int .i64 0, .bool false, .bool false, .slice none 0 0, .slice none 0 0] 25) = y := ⟨_, rfl⟩
        rw [hya]
        have hYa : RowKit.Below z14.heap.size z14 ya := by rw [← hya]; exact HY.out.alloc HY.out.size _
        have HY := Lib.hid hYa
        have HZ : Hid (ya.heap[w7.heap.size]? = some (.cells #[.int .i64 0, .int .i64 0, .int .i64 0, .bool false, .bool false, .slice none 0 0, .slice none 0 0] 25 (0, 0))) := by show _ = _; rw [← hya]; exact World.alloc_heap_new w7 _
        clear hya hYa
        refine wpAnyH_ready (rs := [13]) (by kernel_rfl) (by simp) ?_
        refine AllReadyH.cons (ata (atS (atS (atS (atS (atS (atS (atS (atS (atS (atS (atS (atS (atS at0)))))))))))))) (fun K hK => ?_) AllReadyH.nil
        refine wp_store_row _ _ _ rfl w7.heap.size #[.int .i64 ga, .int .i64 gb, .int .i64 gc, .bool gd, .bool ge, .slice gp1 gn1 gq1, .slice gp2 gn2 gq2] rfl rfl 25 #[.int .i64 0, .int .i64 0, .int .i64 0, .bool false, .bool false, .slice none 0 0, .slice none 0 0] HZ.out (by kernel_rfl) rfl (by kernel_rfl) ?_
        refine hK.out _ _ (by exact KK.out _ (below_setRow HY.out hBy _)) (fun hHeld => ?_)
        clear hK K
        try simp only [Act.put, List.setIfInBounds_toArray, List.set_cons_zero, List.set_cons_succ]
        refine wpAnyH_take (i := 14) (v := ?_) (ata (atS (atS (atS (atS (atS (atS (atS (atS (atS (atS (atS (atS (atS (atS at0))))))))))))))) (by kernel_rfl) (by kernel_rfl) (by kernel_rfl) (fun _ _ _ h => h) (Or.inl ⟨by rfl, ?_⟩) (by assumption) ?_
        rotate_left
        · (intro w hSw; (try dsimp only at hSw); go_simp; (first | done | with_reducible rfl))
        try simp only [Act.put, List.setIfInBounds_toArray, List.set_cons_zero, List.set_cons_succ]
        refine wpAnyH_take (i := 15) (v := ?_) (ata (atS (atS (atS (atS (atS (atS (atS (atS (atS (atS (atS (atS (atS (atS (atS at0)))))))))))))))) (by kernel_rfl) (by kernel_rfl) (by kernel_rfl) (fun _ _ _ h => h) (Or.inl ⟨by rfl, ?_⟩) (by assumption) ?_
        rotate_left
        · (intro w hSw; (try dsimp only at hSw); go_simp; (first | done | with_reducible rfl))
        try simp only [Act.put, List.setIfInBounds_toArray, List.set_cons_zero, List.set_cons_succ]
        refine wpAnyH_done (by kernel_rfl) ?_ _
        have hYf := below_setRow HY.out hBy #[.int .i64 ga, .int .i64 gb, .int .i64 gc, .bool gd, .bool ge, .slice gp1 gn1 gq1, .slice gp2 gn2 gq2]
        replace A := A.next hYf
        replace HB := Lib.hid (HB.out.trans (hYf.mono HB.out.size))
        clear HY KK HZ hBy HCJ
        rcases j0 with j0 | ⟨j1, j0⟩ | j0
        · subst j0
          have a0 := A.pb.k0; have a1 := A.pb.k1; have a2 := A.pb.k2; have a3 := A.pb.k3; have a4 := A.pb.k4; have a5 := A.pb.k5; have a6 := A.pb.k6; have a7 := A.pb.k7; have a8 := A.pb.k8; have a9 := A.pb.k9
          go_wp2_with fail
          refine Calls.mono (head_any _) ?_
          rintro e z20 ⟨rfl, hb⟩
          have hx20 : RowKit.Below (World.setRow ya w7.heap.size #[.int .i64 ga, .int .i64 gb, .int .i64 gc, .bool gd, .bool ge, .slice gp1 gn1 gq1, .slice gp2 gn2 gq2]).heap.size (World.setRow ya w7.heap.size #[.int .i64 ga, .int .i64 gb, .int .i64 gc, .bool gd, .bool ge, .slice gp1 gn1 gq1, .slice gp2 gn2 gq2]) z20 := by
            refine Below.trans ?_ (hb.mono ?_)
            · (first | exact Below.refl _ _ | exact (Below.refl _ _).alloc (by simp) _ | exact ((Below.refl _ _).alloc (by simp) _).alloc (by simp) _ | exact (((Below.refl _ _).alloc (by simp) _).alloc (by simp) _).alloc (by simp) _)
            · first | exact Nat.le_refl _ | (simp; done) | (simp; omega)
          replace A := A.next hx20
          replace HB := Lib.hid (HB.out.trans (hx20.mono HB.out.size))
          clear hb hx20
          go_wp2_with fail
          go_ret
          exact ⟨rfl, HB.out⟩
        · subst j0
          have j2 : (fr == 0) = true := by rw [j1]; rfl
          have a0 := A.pb.k0; have a1 := A.pb.k1; have a2 := A.pb.k2; have a3 := A.pb.k3; have a4 := A.pb.k4; have a5 := A.pb.k5; have a6 := A.pb.k6; have a7 := A.pb.k7; have a8 := A.pb.k8; have a9 := A.pb.k9
          go_wp2_with fail
          refine Calls.mono ((by have := Free_yes (A.w hl1 hl2) hv0; rwa [HFR.out] at this)) ?_
          rintro e z20 ⟨rfl, hb⟩
          clear a0 a1 a2 a3 a4 a5 a6 a7 a8 a9
          have hx20 : RowKit.Below (World.setRow ya w7.heap.size #[.int .i64 ga, .int .i64 gb, .int .i64 gc, .bool gd, .bool ge, .slice gp1 gn1 gq1, .slice gp2 gn2 gq2]).heap.size (World.setRow ya w7.heap.size #[.int .i64 ga, .int .i64 gb, .int .i64 gc, .bool gd, .bool ge, .slice gp1 gn1 gq1, .slice gp2 gn2 gq2]) z20 := by
            refine Below.trans ?_ (hb.mono ?_)
            · (first | exact Below.refl _ _ | exact (Below.refl _ _).alloc (by simp) _ | exact ((Below.refl _ _).alloc (by simp) _).alloc (by simp) _ | exact (((Below.refl _ _).alloc (by simp) _).alloc (by simp) _).alloc (by simp) _)
            · first | exact Nat.le_refl _ | (simp; done) | (simp; omega)
          replace A := A.next hx20
          replace HB := Lib.hid (HB.out.trans (hx20.mono HB.out.size))
          have a0 := A.pb.k0; have a1 := A.pb.k1; have a2 := A.pb.k2; have a3 := A.pb.k3; have a4 := A.pb.k4; have a5 := A.pb.k5; have a6 := A.pb.k6; have a7 := A.pb.k7; have a8 := A.pb.k8; have a9 := A.pb.k9
          clear hb hx20
          go_wp2_with fail
          refine Calls.mono (head_any _) ?_
          rintro e z21 ⟨rfl, hb⟩
          have hx21 : RowKit.Below z20.heap.size z20 z21 := by
            refine Below.trans ?_ (hb.mono ?_)
            · (first | exact Below.refl _ _ | exact (Below.refl _ _).alloc (by simp) _ | exact ((Below.refl _ _).alloc (by simp) _).alloc (by simp) _ | exact (((Below.refl _ _).alloc (by simp) _).alloc (by simp) _).alloc (by simp) _)
            · first | exact Nat.le_refl _ | (simp; done) | (simp; omega)
          replace A := A.next hx21
          replace HB := Lib.hid (HB.out.trans (hx21.mono HB.out.size))
          clear hb hx21
          go_wp2_with fail
          go_ret
          exact ⟨rfl, HB.out⟩
        · by_cases hf0 : fr = 0
          · subst j0
            have j2 : (fr == 0) = true := by rw [hf0]; rfl
            clear hf0
            have a0 := A.pb.k0; have a1 := A.pb.k1; have a2 := A.pb.k2; have a3 := A.pb.k3; have a4 := A.pb.k4; have a5 := A.pb.k5; have a6 := A.pb.k6; have a7 := A.pb.k7; have a8 := A.pb.k8; have a9 := A.pb.k9
            go_wp2_with fail
            refine Calls.mono ((by have := Free_yes (A.w hl1 hl2) hv0; rwa [HFR.out] at this)) ?_
            rintro e z20 ⟨rfl, hb⟩
            clear a0 a1 a2 a3 a4 a5 a6 a7 a8 a9
            have hx20 : RowKit.Below (World.setRow ya w7.heap.size #[.int .i64 ga, .int .i64 gb, .int .i64 gc, .bool gd, .bool ge, .slice gp1 gn1 gq1, .slice gp2 gn2 gq2]).heap.size (World.setRow ya w7.heap.size #[.int .i64 ga, .int .i64 gb, .int .i64 gc, .bool gd, .bool ge, .slice gp1 gn1 gq1, .slice gp2 gn2 gq2]) z20 := by
              refine Below.trans ?_ (hb.mono ?_)
              · (first | exact Below.refl _ _ | exact (Below.refl _ _).alloc (by simp) _ | exact ((Below.refl _ _).alloc (by simp) _).alloc (by simp) _ | exact (((Below.refl _ _).alloc (by simp) _).alloc (by simp) _).alloc (by simp) _)
              · first | exact Nat.le_refl _ | (simp; done) | (simp; omega)
            replace A := A.next hx20
            replace HB := Lib.hid (HB.out.trans (hx20.mono HB.out.size))
            have a0 := A.pb.k0; have a1 := A.pb.k1; have a2 := A.pb.k2; have a3 := A.pb.k3; have a4 := A.pb.k4; have a5 := A.pb.k5; have a6 := A.pb.k6; have a7 := A.pb.k7; have a8 := A.pb.k8; have a9 := A.pb.k9
            clear hb hx20
            go_wp2_with fail
            refine Calls.mono (head_any _) ?_
            rintro e z21 ⟨rfl, hb⟩
            have hx21 : RowKit.Below z20.heap.size z20 z21 := by
              refine Below.trans ?_ (hb.mono ?_)
              · (first | exact Below.refl _ _ | exact (Below.refl _ _).alloc (by simp) _ | exact ((Below.refl _ _).alloc (by simp) _).alloc (by simp) _ | exact (((Below.refl _ _).alloc (by simp) _).alloc (by simp) _).alloc (by simp) _)
              · first | exact Nat.le_refl _ | (simp; done) | (simp; omega)
            replace A := A.next hx21
            replace HB := Lib.hid (HB.out.trans (hx21.mono HB.out.size))
            clear hb hx21
            go_wp2_with fail
            go_ret
            exact ⟨rfl, HB.out⟩
          · subst j0
            have j2 : (fr == 0) = false := beq_eq_false_iff_ne.2 hf0
            clear hf0
            have a0 := A.pb.k0; have a1 := A.pb.k1; have a2 := A.pb.k2; have a3 := A.pb.k3; have a4 := A.pb.k4; have a5 := A.pb.k5; have a6 := A.pb.k6; have a7 := A.pb.k7; have a8 := A.pb.k8; have a9 := A.pb.k9
            go_wp2_with fail
            refine Calls.mono ((by have := Free_yes (A.w hl1 hl2) hv0; rwa [HFR.out] at this)) ?_
            rintro e z20 ⟨rfl, hb⟩
            clear a0 a1 a2 a3 a4 a5 a6 a7 a8 a9
            have hx20 : RowKit.Below (World.setRow ya w7.heap.size #[.int .i64 ga, .int .i64 gb, .int .i64 gc, .bool gd, .bool ge, .slice gp1 gn1 gq1, .slice gp2 gn2 gq2]).heap.size (World.setRow ya w7.heap.size #[.int .i64 ga, .int .i64 gb, .int .i64 gc, .bool gd, .bool ge, .slice gp1 gn1 gq1, .slice gp2 gn2 gq2]) z20 := by
              refine Below.trans ?_ (hb.mono ?_)
              · (first | exact Below.refl _ _ | exact (Below.refl _ _).alloc (by simp) _ | exact ((Below.refl _ _).alloc (by simp) _).alloc (by simp) _ | exact (((Below.refl _ _).alloc (by simp) _).alloc (by simp) _).alloc (by simp) _)
              · first | exact Nat.le_refl _ | (simp; done) | (simp; omega)
            replace A := A.next hx20
            replace HB := Lib.hid (HB.out.trans (hx20.mono HB.out.size))
            have a0 := A.pb.k0; have a1 := A.pb.k1; have a2 := A.pb.k2; have a3 := A.pb.k3; have a4 := A.pb.k4; have a5 := A.pb.k5; have a6 := A.pb.k6; have a7 := A.pb.k7; have a8 := A.pb.k8; have a9 := A.pb.k9
            clear hb hx20
            go_wp2_with fail
            refine Calls.mono (head_any _) ?_
            rintro e z21 ⟨rfl, hb⟩
            have hx21 : RowKit.Below z20.heap.size z20 z21 := by
              refine Below.trans ?_ (hb.mono ?_)
              · (first | exact Below.refl _ _ | exact (Below.refl _ _).alloc (by simp) _ | exact ((Below.refl _ _).alloc (by simp) _).alloc (by simp) _ | exact (((Below.refl _ _).alloc (by simp) _).alloc (by simp) _).alloc (by simp) _)
              · first | exact Nat.le_refl _ | (simp; done) | (simp; omega)
            replace A := A.next hx21
            replace HB := Lib.hid (HB.out.trans (hx21.mono HB.out.size))
            clear hb hx21
            go_wp2_with fail
            go_ret
            exact ⟨rfl, HB.out⟩
      · go_simp
        refine hK.out _ _ (by exact KK.out _ (HY.out.alloc HY.out.size _)) (fun hHeld => ?_)
        clear hK K
        try simp only [Act.put, List.setIfInBounds_toArray, List.set_cons_zero, List.set_cons_succ]
        have hBy : z14.heap.size ≤ w6.heap.size := HY.out.size
        obtain ⟨ya, hya⟩ : ∃ y, World.alloc w6 (.cells #[.int .i64 0, .int .i64 0, .int .i64 0, .bool false, .bool false, .slice none 0 0, .slice none 0 0] 25) = y := ⟨_, rfl⟩
        rw [hya]
        have hYa : RowKit.Below z14.heap.size z14 ya := by rw [← hya]; exact HY.out.alloc HY.out.size _
        have HY := Lib.hid hYa
        have HZ : Hid (ya.heap[w6.heap.size]? = some (.cells #[.int .i64 0, .int .i64 0, .int .i64 0, .bool false, .bool false, .slice none 0 0, .slice none 0 0] 25 (0, 0))) := by show _ = _; rw [← hya]; exact World.alloc_heap_new w6 _
        clear hya hYa
        refine wpAnyH_ready (rs := [7]) (by kernel_rfl) (by simp) ?_
        refine AllReadyH.cons (ata (atS (atS (atS (atS (atS (atS (atS at0)))))))) (fun K hK => ?_) AllReadyH.nil
        go_simp
        (go_at_call 8; (with_reducible refine (HCJ.out _ ((A.next HY.out).w hl1 hl2)).mono ?_); intro e w7 hG; obtain ⟨ga, gb, gc, gd, ge, gp1, gn1, gq1, gp2, gn2, gq2, gvt, rfl, hb1⟩ := hG; have hY := HY.out.trans (hb1.mono HY.out.size); have hZ := (hb1.block w6.heap.size (Array.getElem?_eq_some_iff.1 HZ.out).1).trans HZ.out; have HZ := Lib.hid hZ; clear hZ; have HY := Lib.hid hY; clear hb1 hY)
        go_wp2_with fail
        refine hK.out _ _ (by exact KK.out _ HY.out) (fun hHeld => ?_)
        clear hK K
        try simp only [Act.put, List.setIfInBounds_toArray, List.set_cons_zero, List.set_cons_succ]
        refine wpAnyH_take (i := 8) (v := ?_) (ata (atS (atS (atS (atS (atS (atS (atS (atS at0))))))))) (by kernel_rfl) (by kernel_rfl) (by kernel_rfl) (fun _ _ _ h => h) (Or.inl ⟨by rfl, ?_⟩) (by assumption) ?_
        rotate_left
        · (intro w hSw; (try dsimp only at hSw); go_simp; (first | done | with_reducible rfl))
        try simp only [Act.put, List.setIfInBounds_toArray, List.set_cons_zero, List.set_cons_succ]
        refine wpAnyH_take (i := 9) (v := ?_) (ata (atS (atS (atS (atS (atS (atS (atS (atS (atS at0)))))))))) (by kernel_rfl) (by kernel_rfl) (by kernel_rfl) (fun _ _ _ h => h) (Or.inl ⟨by rfl, ?_⟩) (by assumption) ?_
        rotate_left
        · (intro w hSw; (try dsimp only at hSw); go_simp; (first | done | with_reducible rfl))
        try simp only [Act.put, List.setIfInBounds_toArray, List.set_cons_zero, List.set_cons_succ]
        refine wpAnyH_take (i := 10) (v := ?_) (ata (atS (atS (atS (atS (atS (atS (atS (atS (atS (atS at0))))))))))) (by kernel_rfl) (by kernel_rfl) (by kernel_rfl) (fun _ _ _ h => h) (Or.inl ⟨by rfl, ?_⟩) (by assumption) ?_
        rotate_left
        · (intro w hSw; (try dsimp only at hSw); go_simp; (first | done | with_reducible rfl))
        try simp only [Act.put, List.setIfInBounds_toArray, List.set_cons_zero, List.set_cons_succ]
        refine wpAnyH_take (i := 11) (v := ?_) (ata (atS (atS (atS (atS (atS (atS (atS (atS (atS (atS (atS at0)))))))))))) (by kernel_rfl) (by kernel_rfl) (by kernel_rfl) (fun _ _ _ h => h) (Or.inl ⟨by rfl, ?_⟩) (by assumption) ?_
        rotate_left
        · (intro w hSw; (try dsimp only at hSw); go_simp; (first | done | with_reducible rfl))
        try simp only [Act.put, List.setIfInBounds_toArray, List.set_cons_zero, List.set_cons_succ]
        refine wpAnyH_ready (rs := [13]) (by kernel_rfl) (by simp) ?_
        refine AllReadyH.cons (ata (atS (atS (atS (atS (atS (atS (atS (atS (atS (atS (atS (atS (atS at0)))))))))))))) (fun K hK => ?_) AllReadyH.nil
        refine wp_store_row _ _ _ rfl w6.heap.size #[.int .i64 ga, .int .i64 gb, .int .i64 gc, .bool gd, .bool ge, .slice gp1 gn1 gq1, .slice gp2 gn2 gq2] rfl rfl 25 #[.int .i64 0, .int .i64 0, .int .i64 0, .bool false, .bool false, .slice none 0 0, .slice none 0 0] HZ.out (by kernel_rfl) rfl (by kernel_rfl) ?_
        refine hK.out _ _ (by exact KK.out _ (below_setRow HY.out hBy _)) (fun hHeld => ?_)
        clear hK K
        try simp only [Act.put, List.setIfInBounds_toArray, List.set_cons_zero, List.set_cons_succ]
        refine wpAnyH_take (i := 14) (v := ?_) (ata (atS (atS (atS (atS (atS (atS (atS (atS (atS (atS (atS (atS (atS (atS at0))))))))))))))) (by kernel_rfl) (by kernel_rfl) (by kernel_rfl) (fun _ _ _ h => h) (Or.inl ⟨by rfl, ?_⟩) (by assumption) ?_
        rotate_left
        · (intro w hSw; (try dsimp only at hSw); go_simp; (first | done | with_reducible rfl))
        try simp only [Act.put, List.setIfInBounds_toArray, List.set_cons_zero, List.set_cons_succ]
        refine wpAnyH_take (i := 15) (v := ?_) (ata (atS (atS (atS (atS (atS (atS (atS (atS (atS (atS (atS (atS (atS (atS (atS at0)))))))))))))))) (by kernel_rfl) (by kernel_rfl) (by kernel_rfl) (fun _ _ _ h => h) (Or.inl ⟨by rfl, ?_⟩) (by assumption) ?_
        rotate_left
        · (intro w hSw; (try dsimp only at hSw); go_simp; (first | done | with_reducible rfl))
        try simp only [Act.put, List.setIfInBounds_toArray, List.set_cons_zero, List.set_cons_succ]
        refine wpAnyH_done (by kernel_rfl) ?_ _
        have hYf := below_setRow HY.out hBy #[.int .i64 ga, .int .i64 gb, .int .i64 gc, .bool gd, .bool ge, .slice gp1 gn1 gq1, .slice gp2 gn2 gq2]
        replace A := A.next hYf
        replace HB := Lib.hid (HB.out.trans (hYf.mono HB.out.size))
        clear HY KK HZ hBy HCJ
        rcases j0 with j0 | ⟨j1, j0⟩ | j0
        · subst j0
          have a0 := A.pb.k0; have a1 := A.pb.k1; have a2 := A.pb.k2; have a3 := A.pb.k3; have a4 := A.pb.k4; have a5 := A.pb.k5; have a6 := A.pb.k6; have a7 := A.pb.k7; have a8 := A.pb.k8; have a9 := A.pb.k9
          go_wp2_with fail
          refine Calls.mono (head_any _) ?_
          rintro e z20 ⟨rfl, hb⟩
          have hx20 : RowKit.Below (World.setRow w7 w6.heap.size #[.int .i64 ga, .int .i64 gb, .int .i64 gc, .bool gd, .bool ge, .slice gp1 gn1 gq1, .slice gp2 gn2 gq2]).heap.size (World.setRow w7 w6.heap.size #[.int .i64 ga, .int .i64 gb, .int .i64 gc, .bool gd, .bool ge, .slice gp1 gn1 gq1, .slice gp2 gn2 gq2]) z20 := by
            refine Below.trans ?_ (hb.mono ?_)
            · (first | exact Below.refl _ _ | exact (Below.refl _ _).alloc (by simp) _ | exact ((Below.refl _ _).alloc (by simp) _).alloc (by simp) _ | exact (((Below.refl _ _).alloc (by simp) _).alloc (by simp) _).alloc (by simp) _)
            · first | exact Nat.le_refl _ | (simp; done) | (simp; omega)
          replace A := A.next hx20
          replace HB := Lib.hid (HB.out.trans (hx20.mono HB.out.size))
          clear hb hx20
          go_wp2_with fail
          go_ret
          exact ⟨rfl, HB.out⟩
        · subst j0
          have j2 : (fr == 0) = true := by rw [j1]; rfl
          have a0 := A.pb.k0; have a1 := A.pb.k1; have a2 := A.pb.k2; have a3 := A.pb.k3; have a4 := A.pb.k4; have a5 := A.pb.k5; have a6 := A.pb.k6; have a7 := A.pb.k7; have a8 := A.pb.k8; have a9 := A.pb.k9
          go_wp2_with fail
          refine Calls.mono ((by have := Free_yes (A.w hl1 hl2) hv0; rwa [HFR.out] at this)) ?_
          rintro e z20 ⟨rfl, hb⟩
          clear a0 a1 a2 a3 a4 a5 a6 a7 a8 a9
          have hx20 : RowKit.Below (World.setRow w7 w6.heap.size #[.int .i64 ga, .int .i64 gb, .int .i64 gc, .bool gd, .bool ge, .slice gp1 gn1 gq1, .slice gp2 gn2 gq2]).heap.size (World.setRow w7 w6.heap.size #[.int .i64 ga, .int .i64 gb, .int .i64 gc, .bool gd, .bool ge, .slice gp1 gn1 gq1, .slice gp2 gn2 gq2]) z20 := by
            refine Below.trans ?_ (hb.mono ?_)
            · (first | exact Below.refl _ _ | exact (Below.refl _ _).alloc (by simp) _ | exact ((Below.refl _ _).alloc (by simp) _).alloc (by simp) _ | exact (((Below.refl _ _).alloc (by simp) _).alloc (by simp) _).alloc (by simp) _)
            · first | exact Nat.le_refl _ | (simp; done) | (simp; omega)
          replace A := A.next hx20
          replace HB := Lib.hid (HB.out.trans (hx20.mono HB.out.size))
          have a0 := A.pb.k0; have a1 := A.pb.k1; have a2 := A.pb.k2; have a3 := A.pb.k3; have a4 := A.pb.k4; have a5 := A.pb.k5; have a6 := A.pb.k6; have a7 := A.pb.k7; have a8 := A.pb.k8; have a9 := A.pb.k9
          clear hb hx20
          go_wp2_with fail
          refine Calls.mono (head_any _) ?_
          rintro e z21 ⟨rfl, hb⟩
          have hx21 : RowKit.Below z20.heap.size z20 z21 := by
            refine Below.trans ?_ (hb.mono ?_)
            · (first | exact Below.refl _ _ | exact (Below.refl _ _).alloc (by simp) _ | exact ((Below.refl _ _).alloc (by simp) _).alloc (by simp) _ | exact (((Below.refl _ _).alloc (by simp) _).alloc (by simp) _).alloc (by simp) _)
            · first | exact Nat.le_refl _ | (simp; done) | (simp; omega)
          replace A := A.next hx21
          replace HB := Lib.hid (HB.out.trans (hx21.mono HB.out.size))
          clear hb hx21
          go_wp2_with fail
          go_ret
          exact ⟨rfl, HB.out⟩
        · by_cases hf0 : fr = 0
          · subst j0
            have j2 : (fr == 0) = true := by rw [hf0]; rfl
            clear hf0
            have a0 := A.pb.k0; have a1 := A.pb.k1; have a2 := A.pb.k2; have a3 := A.pb.k3; have a4 := A.pb.k4; have a5 := A.pb.k5; have a6 := A.pb.k6; have a7 := A.pb.k7; have a8 := A.pb.k8; have a9 := A.pb.k9
            go_wp2_with fail
            refine Calls.mono ((by have := Free_yes (A.w hl1 hl2) hv0; rwa [HFR.out] at this)) ?_
            rintro e z20 ⟨rfl, hb⟩
            clear a0 a1 a2 a3 a4 a5 a6 a7 a8 a9
            have hx20 : RowKit.Below (World.setRow w7 w6.heap.size #[.int .i64 ga, .int .i64 gb, .int .i64 gc, .bool gd, .bool ge, .slice gp1 gn1 gq1, .slice gp2 gn2 gq2]).heap.size (World.setRow w7 w6.heap.size #[.int .i64 ga, .int .i64 gb, .int .i64 gc, .bool gd, .bool ge, .slice gp1 gn1 gq1, .slice gp2 gn2 gq2]) z20 := by
              refine Below.trans ?_ (hb.mono ?_)
              · (first | exact Below.refl _ _ | exact (Below.refl _ _).alloc (by simp) _ | exact ((Below.refl _ _).alloc (by simp) _).alloc (by simp) _ | exact (((Below.refl _ _).alloc (by simp) _).alloc (by simp) _).alloc (by simp) _)
              · first | exact Nat.le_refl _ | (simp; done) | (simp; omega)
            replace A := A.next hx20
            replace HB := Lib.hid (HB.out.trans (hx20.mono HB.out.size))
            have a0 := A.pb.k0; have a1 := A.pb.k1; have a2 := A.pb.k2; have a3 := A.pb.k3; have a4 := A.pb.k4; have a5 := A.pb.k5; have a6 := A.pb.k6; have a7 := A.pb.k7; have a8 := A.pb.k8; have a9 := A.pb.k9
            clear hb hx20
            go_wp2_with fail
            refine Calls.mono (head_any _) ?_
            rintro e z21 ⟨rfl, hb⟩
            have hx21 : RowKit.Below z20.heap.size z20 z21 := by
              refine Below.trans ?_ (hb.mono ?_)
              · (first | exact Below.refl _ _ | exact (Below.refl _ _).alloc (by simp) _ | exact ((Below.refl _ _).alloc (by simp) _).alloc (by simp) _ | exact (((Below.refl _ _).alloc (by simp) _).alloc (by simp) _).alloc (by simp) _)
              · first | exact Nat.le_refl _ | (simp; done) | (simp; omega)
            replace A := A.next hx21
            replace HB := Lib.hid (HB.out.trans (hx21.mono HB.out.size))
            clear hb hx21
            go_wp2_with fail
            go_ret
            exact ⟨rfl, HB.out⟩
          · subst j0
            have j2 : (fr == 0) = false := beq_eq_false_iff_ne.2 hf0
            clear hf0
            have a0 := A.pb.k0; have a1 := A.pb.k1; have a2 := A.pb.k2; have a3 := A.pb.k3; have a4 := A.pb.k4; have a5 := A.pb.k5; have a6 := A.pb.k6; have a7 := A.pb.k7; have a8 := A.pb.k8; have a9 := A.pb.k9
            go_wp2_with fail
            refine Calls.mono ((by have := Free_yes (A.w hl1 hl2) hv0; rwa [HFR.out] at this)) ?_
            rintro e z20 ⟨rfl, hb⟩
            clear a0 a1 a2 a3 a4 a5 a6 a7 a8 a9
            have hx20 : RowKit.Below (World.setRow w7 w6.heap.size #[.int .i64 ga, .int .i64 gb, .int .i64 gc, .bool gd, .bool ge, .slice gp1 gn1 gq1, .slice gp2 gn2 gq2]).heap.size (World.setRow w7 w6.heap.size #[.int .i64 ga, .int .i64 gb, .int .i64 gc, .bool gd, .bool ge, .slice gp1 gn1 gq1, .slice gp2 gn2 gq2]) z20 := by
              refine Below.trans ?_ (hb.mono ?_)
              · (first | exact Below.refl _ _ | exact (Below.refl _ _).alloc (by simp) _ | exact ((Below.refl _ _).alloc (by simp) _).alloc (by simp) _ | exact (((Below.refl _ _).alloc (by simp) _).alloc (by simp) _).alloc (by simp) _)
              · first | exact Nat.le_refl _ | (simp; done) | (simp; omega)
            replace A := A.next hx20
            replace HB := Lib.hid (HB.out.trans (hx20.mono HB.out.size))
            have a0 := A.pb.k0; have a1 := A.pb.k1; have a2 := A.pb.k2; have a3 := A.pb.k3; have a4 := A.pb.k4; have a5 := A.pb.k5; have a6 := A.pb.k6; have a7 := A.pb.k7; have a8 := A.pb.k8; have a9 := A.pb.k9
            clear hb hx20
            go_wp2_with fail
            refine Calls.mono (head_any _) ?_
            rintro e z21 ⟨rfl, hb⟩
            have hx21 : RowKit.Below z20.heap.size z20 z21 := by
              refine Below.trans ?_ (hb.mono ?_)
              · (first | exact Below.refl _ _ | exact (Below.refl _ _).alloc (by simp) _ | exact ((Below.refl _ _).alloc (by simp) _).alloc (by simp) _ | exact (((Below.refl _ _).alloc (by simp) _).alloc (by simp) _).alloc (by simp) _)
              · first | exact Nat.le_refl _ | (simp; done) | (simp; omega)
            replace A := A.next hx21
            replace HB := Lib.hid (HB.out.trans (hx21.mono HB.out.size))
            clear hb hx21
            go_wp2_with fail
            go_ret
            exact ⟨rfl, HB.out⟩
    · go_simp
      refine hK.out _ _ (by exact KK.out _ (HY.out.alloc HY.out.size _)) (fun hHeld => ?_)
      clear hK K
      try simp only [Act.put, List.setIfInBounds_toArray, List.set_cons_zero, List.set_cons_succ]
      have hBy : z14.heap.size ≤ z14.heap.size := Nat.le_refl _
      obtain ⟨ya, hya⟩ : ∃ y, World.drew (World.alloc z14 (.cells #[.int .i64 0, .int .i64 0, .int .i64 0, .bool false, .bool false, .slice none 0 0, .slice none 0 0] 25)) = y := ⟨_, rfl⟩
      rw [hya]
      have hYa : RowKit.Below z14.heap.size z14 ya := by rw [← hya]; exact ((Below.refl _ z14).alloc (Nat.le_refl _) _).drew
      have HY := Lib.hid hYa
      have HZ : Hid (ya.heap[z14.heap.size]? = some (.cells #[.int .i64 0, .int .i64 0, .int .i64 0, .bool false, .bool false, .slice none 0 0, .slice none 0 0] 25 (0, 0))) := by show _ = _; rw [← hya]; exact World.alloc_heap_new z14 _
      clear hya hYa
      refine wpAnyH_ready (rs := [6]) (by kernel_rfl) (by simp) ?_
      refine AllReadyH.cons (ata (atS (atS (atS (atS (atS (atS at0))))))) (fun K hK => ?_) AllReadyH.nil
      go_simp
      (go_at_call 12; (with_reducible refine (Free_yes ((A.next HY.out).w hl1 hl2) hv0).mono ?_); rintro e w6 ⟨rfl, hb1⟩; rw [HFR.out]; have hY := HY.out.trans (hb1.mono HY.out.size); have hZ := (hb1.block z14.heap.size (Array.getElem?_eq_some_iff.1 HZ.out).1).trans HZ.out; have HZ := Lib.hid hZ; clear hZ; have HY := Lib.hid hY; clear hb1 hY)
      go_wp2_with fail
      refine hK.out _ _ (by exact KK.out _ HY.out) (fun hHeld => ?_)
      clear hK K
      try simp only [Act.put, List.setIfInBounds_toArray, List.set_cons_zero, List.set_cons_succ]
      refine wpAnyH_ready (rs := [7]) (by kernel_rfl) (by simp) ?_
      refine AllReadyH.cons (ata (atS (atS (atS (atS (atS (atS (atS at0)))))))) (fun K hK => ?_) AllReadyH.nil
      go_simp
      (go_at_call 8; (with_reducible refine (HCJ.out _ ((A.next HY.out).w hl1 hl2)).mono ?_); intro e w7 hG; obtain ⟨ga, gb, gc, gd, ge, gp1, gn1, gq1, gp2, gn2, gq2, gvt, rfl, hb1⟩ := hG; have hY := HY.out.trans (hb1.mono HY.out.size); have hZ := (hb1.block z14.heap.size (Array.getElem?_eq_some_iff.1 HZ.out).1).trans HZ.out; have HZ := Lib.hid hZ; clear hZ; have HY := Lib.hid hY; clear hb1 hY)
      go_wp2_with fail
      refine hK.out _ _ (by exact KK.out _ HY.out) (fun hHeld => ?_)
      clear hK K
      try simp only [Act.put, List.setIfInBounds_toArray, List.set_cons_zero, List.set_cons_succ]
      refine wpAnyH_take (i := 8) (v := ?_) (ata (atS (atS (atS (atS (atS (atS (atS (atS at0))))))))) (by kernel_rfl) (by kernel_rfl) (by kernel_rfl) (fun _ _ _ h => h) (Or.inl ⟨by rfl, ?_⟩) (by assumption) ?_
      rotate_left
      · (intro w hSw; (try dsimp only at hSw); go_simp; (first | done | with_reducible rfl))
      try simp only [Act.put, List.setIfInBounds_toArray, List.set_cons_zero, List.set_cons_succ]
      refine wpAnyH_take (i := 9) (v := ?_) (ata (atS (atS (atS (atS (atS (atS (atS (atS (atS at0)))))))))) (by kernel_rfl) (by kernel_rfl) (by kernel_rfl) (fun _ _ _ h => h) (Or.inl ⟨by rfl, ?_⟩) (by assumption) ?_
      rotate_left
      · (intro w hSw; (try dsimp only at hSw); go_simp; (first | done | with_reducible rfl))
      try simp only [Act.put, List.setIfInBounds_toArray, List.set_cons_zero, List.set_cons_succ]
      refine wpAnyH_take (i := 10) (v := ?_) (ata (atS (atS (atS (atS (atS (atS (atS (atS (atS (atS at0))))))))))) (by kernel_rfl) (by kernel_rfl) (by kernel_rfl) (fun _ _ _ h => h) (Or.inl ⟨by rfl, ?_⟩) (by assumption) ?_
      rotate_left
      · (intro w hSw; (try dsimp only at hSw); go_simp; (first | done | with_reducible rfl))
      try simp only [Act.put, List.setIfInBounds_toArray, List.set_cons_zero, List.set_cons_succ]
      refine wpAnyH_take (i := 11) (v := ?_) (ata (atS (atS (atS (atS (atS (atS (atS (atS (atS (atS (atS at0)))))))))))) (by kernel_rfl) (by kernel_rfl) (by kernel_rfl) (fun _ _ _ h => h) (Or.inl ⟨by rfl, ?_⟩) (by assumption) ?_
      rotate_left
      · (intro w hSw; (try dsimp only at hSw); go_simp; (first | done | with_reducible rfl))
      try simp only [Act.put, List.setIfInBounds_toArray, List.set_cons_zero, List.set_cons_succ]
      refine wpAnyH_ready (rs := [13]) (by kernel_rfl) (by simp) ?_
      refine AllReadyH.cons (ata (atS (atS (atS (atS (atS (atS (atS (atS (atS (atS (atS (atS (atS at0)))))))))))))) (fun K hK => ?_) AllReadyH.nil
      refine wp_store_row _ _ _ rfl z14.heap.size #[.int .i64 ga, .int .i64 gb, .int .i64 gc, .bool gd, .bool ge, .slice gp1 gn1 gq1, .slice gp2 gn2 gq2] rfl rfl 25 #[.int .i64 0, .int .i64 0, .int .i64 0, .bool false, .bool false, .slice none 0 0, .slice none 0 0] HZ.out (by kernel_rfl) rfl (by kernel_rfl) ?_
      refine hK.out _ _ (by exact KK.out _ (below_setRow HY.out hBy _)) (fun hHeld => ?_)
      clear hK K
      try simp only [Act.put, List.setIfInBounds_toArray, List.set_cons_zero, List.set_cons_succ]
      refine wpAnyH_take (i := 14) (v := ?_) (ata (atS (atS (atS (atS (atS (atS (atS (atS (atS (atS (atS (atS (atS (atS at0))))))))))))))) (by kernel_rfl) (by kernel_rfl) (by kernel_rfl) (fun _ _ _ h => h) (Or.inl ⟨by rfl, ?_⟩) (by assumption) ?_
      rotate_left
      · (intro w hSw; (try dsimp only at hSw); go_simp; (first | done | with_reducible rfl))
      try simp only [Act.put, List.setIfInBounds_toArray, List.set_cons_zero, List.set_cons_succ]
      refine wpAnyH_take (i := 15) (v := ?_) (ata (atS (atS (atS (atS (atS (atS (atS (atS (atS (atS (atS (atS (atS (atS (atS at0)))))))))))))))) (by kernel_rfl) (by kernel_rfl) (by kernel_rfl) (fun _ _ _ h => h) (Or.inl ⟨by rfl, ?_⟩) (by assumption) ?_
      rotate_left
      · (intro w hSw; (try dsimp only at hSw); go_simp; (first | done | with_reducible rfl))
      try simp only [Act.put, List.setIfInBounds_toArray, List.set_cons_zero, List.set_cons_succ]
      refine wpAnyH_done (by kernel_rfl) ?_ _
      have hYf := below_setRow HY.out hBy #[.int .i64 ga, .int .i64 gb, .int .i64 gc, .bool gd, .bool ge, .slice gp1 gn1 gq1, .slice gp2 gn2 gq2]
      replace A := A.next hYf
      replace HB := Lib.hid (HB.out.trans (hYf.mono HB.out.size))
      clear HY KK HZ hBy HCJ
      rcases j0 with j0 | ⟨j1, j0⟩ | j0
      · subst j0
        have a0 := A.pb.k0; have a1 := A.pb.k1; have a2 := A.pb.k2; have a3 := A.pb.k3; have a4 := A.pb.k4; have a5 := A.pb.k5; have a6 := A.pb.k6; have a7 := A.pb.k7; have a8 := A.pb.k8; have a9 := A.pb.k9
        go_wp2_with fail
        refine Calls.mono (head_any _) ?_
        rintro e z20 ⟨rfl, hb⟩
        have hx20 : RowKit.Below (World.setRow w7 z14.heap.size #[.int .i64 ga, .int .i64 gb, .int .i64 gc, .bool gd, .bool ge, .slice gp1 gn1 gq1, .slice gp2 gn2 gq2]).heap.size (World.setRow w7 z14.heap.size #[.int .i64 ga, .int .i64 gb, .int .i64 gc, .bool gd, .bool ge, .slice gp1 gn1 gq1, .slice gp2 gn2 gq2]) z20 := by
          refine Below.trans ?_ (hb.mono ?_)
          · (first | exact Below.refl _ _ | exact (Below.refl _ _).alloc (by simp) _ | exact ((Below.refl _ _).alloc (by simp) _).alloc (by simp) _ | exact (((Below.refl _ _).alloc (by simp) _).alloc (by simp) _).alloc (by simp) _)
          · first | exact Nat.le_refl _ | (simp; done) | (simp; omega)
        replace A := A.next hx20
        replace HB := Lib.hid (HB.out.trans (hx20.mono HB.out.size))
        clear hb hx20
        go_wp2_with fail
        go_ret
        exact ⟨rfl, HB.out⟩
      · subst j0
        have j2 : (fr == 0) = true := by rw [j1]; rfl
        have a0 := A.pb.k0; have a1 := A.pb.k1; have a2 := A.pb.k2; have a3 := A.pb.k3; have a4 := A.pb.k4; have a5 := A.pb.k5; have a6 := A.pb.k6; have a7 := A.pb.k7; have a8 := A.pb.k8; have a9 := A.pb.k9
        go_wp2_with fail
        refine Calls.mono ((by have := Free_yes (A.w hl1 hl2) hv0; rwa [HFR.out] at this)) ?_
        rintro e z20 ⟨rfl, hb⟩
        clear a0 a1 a2 a3 a4 a5 a6 a7 a8 a9
        have hx20 : RowKit.Below (World.setRow w7 z14.heap.size #[.int .i64 ga, .int .i64 gb, .int .i64 gc, .bool gd, .bool ge, .slice gp1 gn1 gq1, .slice gp2 gn2 gq2]).heap.size (World.setRow w7 z14.heap.size #[.int .i64 ga, .int .i64 gb, .int .i64 gc, .bool gd, .bool ge, .slice gp1 gn1 gq1, .slice gp2 gn2 gq2]) z20 := by
          refine Below.trans ?_ (hb.mono ?_)
          · (first | exact Below.refl _ _ | exact (Below.refl _ _).alloc (by simp) _ | exact ((Below.refl _ _).alloc (by simp) _).alloc (by simp) _ | exact (((Below.refl _ _).alloc (by simp) _).alloc (by simp) _).alloc (by simp) _)
          · first | exact Nat.le_refl _ | (simp; done) | (simp; omega)
        replace A := A.next hx20
        replace HB := Lib.hid (HB.out.trans (hx20.mono HB.out.size))
        have a0 := A.pb.k0; have a1 := A.pb.k1; have a2 := A.pb.k2; have a3 := A.pb.k3; have a4 := A.pb.k4; have a5 := A.pb.k5; have a6 := A.pb.k6; have a7 := A.pb.k7; have a8 := A.pb.k8; have a9 := A.pb.k9
        clear hb hx20
        go_wp2_with fail
        refine Calls.mono (head_any _) ?_
        rintro e z21 ⟨rfl, hb⟩
        have hx21 : RowKit.Below z20.heap.size z20 z21 := by
          refine Below.trans ?_ (hb.mono ?_)
          · (first | exact Below.refl _ _ | exact (Below.refl _ _).alloc (by simp) _ | exact ((Below.refl _ _).alloc (by simp) _).alloc (by simp) _ | exact (((Below.refl _ _).alloc (by simp) _).alloc (by simp) _).alloc (by simp) _)
          · first | exact Nat.le_refl _ | (simp; done) | (simp; omega)
        replace A := A.next hx21
        replace HB := Lib.hid (HB.out.trans (hx21.mono HB.out.size))
        clear hb hx21
        go_wp2_with fail
        go_ret
        exact ⟨rfl, HB.out⟩
      · by_cases hf0 : fr = 0
        · subst j0
          have j2 : (fr == 0) = true := by rw [hf0]; rfl
          clear hf0
          have a0 := A.pb.k0; have a1 := A.pb.k1; have a2 := A.pb.k2; have a3 := A.pb.k3; have a4 := A.pb.k4; have a5 := A.pb.k5; have a6 := A.pb.k6; have a7 := A.pb.k7; have a8 := A.pb.k8; have a9 := A.pb.k9
          go_wp2_with fail
          refine Calls.mono ((by have := Free_yes (A.w hl1 hl2) hv0; rwa [HFR.out] at this)) ?_
          rintro e z20 ⟨rfl, hb⟩
          clear a0 a1 a2 a3 a4 a5 a6 a7 a8 a9
          have hx20 : RowKit.Below (World.setRow w7 z14.heap.size #[.int .i64 ga, .int .i64 gb, .int .i64 gc, .bool gd, .bool ge, .slice gp1 gn1 gq1, .slice gp2 gn2 gq2]).heap.size (World.setRow w7 z14.heap.size #[.int .i64 ga, .int .i64 gb, .int .i64 gc, .bool gd, .bool ge, .slice gp1 gn1 gq1, .slice gp2 gn2 gq2]) z20 := by
            refine Below.trans ?_ (hb.mono ?_)
            · (first | exact Below.refl _ _ | exact (Below.refl _ _).alloc (by simp) _ | exact ((Below.refl _ _).alloc (by simp) _).alloc (by simp) _ | exact (((Below.refl _ _).alloc (by simp) _).alloc (by simp) _).alloc (by simp) _)
            · first | exact Nat.le_refl _ | (simp; done) | (simp; omega)
          replace A := A.next hx20
          replace HB := Lib.hid (HB.out.trans (hx20.mono HB.out.size))
          have a0 := A.pb.k0; have a1 := A.pb.k1; have a2 := A.pb.k2; have a3 := A.pb.k3; have a4 := A.pb.k4; have a5 := A.pb.k5; have a6 := A.pb.k6; have a7 := A.pb.k7; have a8 := A.pb.k8; have a9 := A.pb.k9
          clear hb hx20
          go_wp2_with fail
          refine Calls.mono (head_any _) ?_
          rintro e z21 ⟨rfl, hb⟩
          have hx21 : RowKit.Below z20.heap.size z20 z21 := by
            refine Below.trans ?_ (hb.mono ?_)
            · (first | exact Below.refl _ _ | exact (Below.refl _ _).alloc (by simp) _ | exact ((Below.refl _ _).alloc (by simp) _).alloc (by simp) _ | exact (((Below.refl _ _).alloc (by simp) _).alloc (by simp) _).alloc (by simp) _)
            · first | exact Nat.le_refl _ | (simp; done) | (simp; omega)
          replace A := A.next hx21
          replace HB := Lib.hid (HB.out.trans (hx21.mono HB.out.size))
          clear hb hx21
          go_wp2_with fail
          go_ret
          exact ⟨rfl, HB.out⟩
        · subst j0
          have j2 : (fr == 0) = false := beq_eq_false_iff_ne.2 hf0
          clear hf0
          have a0 := A.pb.k0; have a1 := A.pb.k1; have a2 := A.pb.k2; have a3 := A.pb.k3; have a4 := A.pb.k4; have a5 := A.pb.k5; have a6 := A.pb.k6; have a7 := A.pb.k7; have a8 := A.pb.k8; have a9 := A.pb.k9
          go_wp2_with fail
          refine Calls.mono ((by have := Free_yes (A.w hl1 hl2) hv0; rwa [HFR.out] at this)) ?_
          rintro e z20 ⟨rfl, hb⟩
          clear a0 a1 a2 a3 a4 a5 a6 a7 a8 a9
          have hx20 : RowKit.Below (World.setRow w7 z14.heap.size #[.int .i64 ga, .int .i64 gb, .int .i64 gc, .bool gd, .bool ge, .slice gp1 gn1 gq1, .slice gp2 gn2 gq2]).heap.size (World.setRow w7 z14.heap.size #[.int .i64 ga, .int .i64 gb, .int .i64 gc, .bool gd, .bool ge, .slice gp1 gn1 gq1, .slice gp2 gn2 gq2]) z20 := by
            refine Below.trans ?_ (hb.mono ?_)
            · (first | exact Below.refl _ _ | exact (Below.refl _ _).alloc (by simp) _ | exact ((Below.refl _ _).alloc (by simp) _).alloc (by simp) _ | exact (((Below.refl _ _).alloc (by simp) _).alloc (by simp) _).alloc (by simp) _)
            · first | exact Nat.le_refl _ | (simp; done) | (simp; omega)
          replace A := A.next hx20
          replace HB := Lib.hid (HB.out.trans (hx20.mono HB.out.size))
          have a0 := A.pb.k0; have a1 := A.pb.k1; have a2 := A.pb.k2; have a3 := A.pb.k3; have a4 := A.pb.k4; have a5 := A.pb.k5; have a6 := A.pb.k6; have a7 := A.pb.k7; have a8 := A.pb.k8; have a9 := A.pb.k9
          clear hb hx20
          go_wp2_with fail
          refine Calls.mono (head_any _) ?_
          rintro e z21 ⟨rfl, hb⟩
          have hx21 : RowKit.Below z20.heap.size z20 z21 := by
            refine Below.trans ?_ (hb.mono ?_)
            · (first | exact Below.refl _ _ | exact (Below.refl _ _).alloc (by simp) _ | exact ((Below.refl _ _).alloc (by simp) _).alloc (by simp) _ | exact (((Below.refl _ _).alloc (by simp) _).alloc (by simp) _).alloc (by simp) _)
            · first | exact Nat.le_refl _ | (simp; done) | (simp; omega)
          replace A := A.next hx21
          replace HB := Lib.hid (HB.out.trans (hx21.mono HB.out.size))
          clear hb hx21
          go_wp2_with fail
          go_ret
          exact ⟨rfl, HB.out⟩
theorem room_law {w : World} {vf vu vl : Value} {p : Pl} {l : List X} (hf : Rd w vf p.free) (hu : RdU w vu p.uses) (hl : Rd w vl l) (u : Nm) (n : Int) :
    Calls Try.prog 5 #[aggA p vf vu (str u) n vl] w (TellsB true w) := by
  cases hgr : grB p.free.length p.uses.length l.length (str u).size with
  | true => exact room_great hf hu hl u n hgr
  | false =>
    have hlen : p.free.length ≤ 40 ∧ p.uses.length ≤ 20 := by
      have h := hgr
      unfold grB at h
      rw [Bool.not_eq_false', decide_eq_true_iff] at h
      exact ⟨h.1, h.2.1⟩
    have hl1 : p.free.length ≤ 1000 := by omega
    have hl2 : p.uses.length ≤ 3800 := by omega
    by_cases hv : po.Valid p
    · by_cases hn : n < 1
      · exact room_low hf hu hl u n hgr hl1 hl2 hv hn
      · cases hd : p.drain with
        | true =>
          by_cases hi : po.gcode { p with drain := false } u n = 0
          · exact room_I1 hf hu hl u n hgr hl1 hl2 hv hn hd hi
          · exact room_I2 hf hu hl u n hgr hl1 hl2 hv hn hd hi
        | false =>
          by_cases hg : po.gcode p u n = 0
          · exact room_A hf hu hl u n hgr hl1 hl2 hv hn hd hg
          · by_cases h6 : po.gcode p u n = 6
            · exact room_B6 hf hu hl u n hgr hl1 hl2 hv hn hd hg h6
            · exact room_B1 hf hu hl u n hgr hl1 hl2 hv hn hd hg h6
    · exact room_inv hf hu hl u n hgr hl1 hl2 hv
end Go.Proofs.Ytdjpnlkhdilakaa.gn
