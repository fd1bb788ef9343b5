/- PoolRoom: the walk (written by gen_poV.py). -/
import Derived.Test.YtdjpnlkhdilakaaPoT
set_option linter.unusedVariables false
set_option linter.unusedSimpArgs false
set_option maxRecDepth 100000
namespace Go.Proofs.Ytdjpnlkhdilakaa.gn
open Go.RowKit Go.Shelf Go.Sort Go.Lib
open Go.Proofs.Ytdjpnlkhdilakaa.ex
open Go.Proofs.Ytdjpnlkhdilakaa.po (Nm U less Pl)

attribute [local go_sem] Oper.semAt_some
attribute [local go_sem ↓] Go.wp_at_zero Go.wp_at_succ

theorem nil_x (w : World) : Rd w (.slice none 0 0) [] := .inl ⟨none, 0, rfl, rfl, fun _ => rfl⟩
/-- What Grant answers, as far as its form goes. -/
def GrantS (j : Int) (w : World) (e : Ending) (w' : World) : Prop := ∃ (a b c : Int) (d f : Bool) (p1 : Option Addr) (n1 q1 : Nat) (p2 : Option Addr) (n2 q2 : Nat) (vt : Value), e = .returned (.tuple #[.agg #[.int .i64 a, .int .i64 b, .int .i64 c, .bool d, .bool f, .slice p1 n1 q1, .slice p2 n2 q2], vt, .int .i64 j]) ∧ RowKit.Below w.heap.size w w'
theorem Grant_some {w : World} {v : Value} {p : Pl} (h : PolW w v p) (u : Nm) (n : Int) : Calls Try.prog 8 #[v, .string (str u), .int .i64 n] w (GrantS (po.gcode p u n) w) := by
  by_cases hg : po.gcode p u n = 0
  · rw [hg]
    refine (Grant_yes h u n (po.gcode_ok.1 hg)).mono ?_
    rintro e w' ⟨va, vt, rfl, ⟨vf, vu, rfl, hf, hu⟩, _, hb⟩
    obtain ⟨p1, c1, rfl⟩ := hf.len
    obtain ⟨p2, c2, rfl, _⟩ := hu.2
    exact ⟨_, _, _, _, _, _, _, _, _, _, _, vt, rfl, hb⟩
  · refine (Grant_no h u n hg).mono ?_
    rintro e w' ⟨rfl, hb⟩
    exact ⟨0, 0, 0, false, false, none, 0, 0, none, 0, 0, .slice none 0 0, rfl, hb⟩
theorem dr_back {p : Pl} (h : p.drain = false) : ({ ({ p with drain := true } : Pl) with drain := false } : Pl) = p := by
  obtain ⟨a, b, c, dd, e, f, g⟩ := p
  dsimp only at h
  rw [h]
theorem dr_same {p : Pl} (h : p.drain = true) : ({ p with drain := true } : Pl) = p := by
  obtain ⟨a, b, c, dd, e, f, g⟩ := p
  dsimp only at h
  rw [h]
set_option maxHeartbeats 8000000 in
theorem room_great {w : World} {vf vu vl : Value} {p : Pl} {l : List X} (hf : Rd w vf p.free) (hu : RdU w vu p.uses) (hl : Rd w vl l) (u : Nm) (n : Int) (hgr : grB p.free.length p.uses.length l.length (str u).size = true) :
    Calls Try.prog 5 #[aggA p vf vu (str u) n vl] w (TellsB true w) := by
  obtain ⟨pf, cf, rfl⟩ := hf.len
  obtain ⟨pu, cu, rfl, _⟩ := hu.2
  obtain ⟨pl, cl, rfl⟩ := hl.len
  have mixed : Try.prog.follows .mixedOrders = true := by kernel_rfl
  obtain ⟨su, hsu⟩ : ∃ su, str u = su := ⟨_, rfl⟩
  have A : AX (w.alloc (.cells #[.int .i64 p.size, .int .i64 p.grain, .int .i64 p.quota, .bool p.drain, .bool p.best, .slice pf p.free.length cf, .slice pu p.uses.length cu, .string su, .int .i64 n, .slice pl l.length cl] 27)) w.heap.size p (.slice pf p.free.length cf) (.slice pu p.uses.length cu) su n (.slice pl l.length cl) l := AX.new hf hu hl su n
  obtain ⟨W0, hW0⟩ : ∃ W0, w.alloc (.cells #[.int .i64 p.size, .int .i64 p.grain, .int .i64 p.quota, .bool p.drain, .bool p.best, .slice pf p.free.length cf, .slice pu p.uses.length cu, .string su, .int .i64 n, .slice pl l.length cl] 27) = W0 := ⟨_, rfl⟩
  have HB : Hid (RowKit.Below w.heap.size w W0) := by show RowKit.Below _ _ _; rw [← hW0]; exact below_box _ _
  rw [hW0] at A
  clear hf hu hl
  have cg := great_any p pf pu pl p.free.length cf p.uses.length cu l.length cl (str u) n W0
  rw [hgr, hsu] at cg
  rw [hsu]
  have a0 := A.pb.k0; have a1 := A.pb.k1; have a2 := A.pb.k2; have a3 := A.pb.k3; have a4 := A.pb.k4; have a5 := A.pb.k5; have a6 := A.pb.k6; have a7 := A.pb.k7; have a8 := A.pb.k8; have a9 := A.pb.k9
  go_enter Try.func5, Try.ntmps5
  go_wp2_with fail
  clear hW0
  refine Calls.mono (cg) ?_
  rintro e z1 ⟨rfl, hb⟩
  clear a0 a1 a2 a3 a4 a5 a6 a7 a8 a9
  clear cg
  have hx1 : RowKit.Below W0.heap.size W0 z1 := by
    refine Below.trans ?_ (hb.mono ?_)
    · (first | exact Below.refl _ _ | exact (Below.refl _ _).alloc (by simp) _ | exact ((Below.refl _ _).alloc (by simp) _).alloc (by simp) _ | exact (((Below.refl _ _).alloc (by simp) _).alloc (by simp) _).alloc (by simp) _)
    · first | exact Nat.le_refl _ | (simp; done) | (simp; omega)
  replace A := A.next hx1
  replace HB := Lib.hid (HB.out.trans (hx1.mono HB.out.size))
  have a0 := A.pb.k0; have a1 := A.pb.k1; have a2 := A.pb.k2; have a3 := A.pb.k3; have a4 := A.pb.k4; have a5 := A.pb.k5; have a6 := A.pb.k6; have a7 := A.pb.k7; have a8 := A.pb.k8; have a9 := A.pb.k9
  clear hb hx1
  go_wp2_with fail
  refine Calls.mono (head_any _) ?_
  rintro e z2 ⟨rfl, hb⟩
  clear a0 a1 a2 a3 a4 a5 a6 a7 a8 a9
  have hx2 : RowKit.Below z1.heap.size z1 z2 := by
    refine Below.trans ?_ (hb.mono ?_)
    · (first | exact Below.refl _ _ | exact (Below.refl _ _).alloc (by simp) _ | exact ((Below.refl _ _).alloc (by simp) _).alloc (by simp) _ | exact (((Below.refl _ _).alloc (by simp) _).alloc (by simp) _).alloc (by simp) _)
    · first | exact Nat.le_refl _ | (simp; done) | (simp; omega)
  replace A := A.next hx2
  replace HB := Lib.hid (HB.out.trans (hx2.mono HB.out.size))
  have a0 := A.pb.k0; have a1 := A.pb.k1; have a2 := A.pb.k2; have a3 := A.pb.k3; have a4 := A.pb.k4; have a5 := A.pb.k5; have a6 := A.pb.k6; have a7 := A.pb.k7; have a8 := A.pb.k8; have a9 := A.pb.k9
  clear hb hx2
  go_wp2_with fail
  go_ret
  exact ⟨rfl, HB.out⟩
set_option maxHeartbeats 8000000 in
theorem room_inv {w : World} {vf vu vl : Value} {p : Pl} {l : List X} (hf : Rd w vf p.free) (hu : RdU w vu p.uses) (hl : Rd w vl l) (u : Nm) (n : Int) (hgr : grB p.free.length p.uses.length l.length (str u).size = false)(hl1 : p.free.length ≤ 1000) (hl2 : p.uses.length ≤ 3800) (hv0 : ¬ po.Valid p) :
    Calls Try.prog 5 #[aggA p vf vu (str u) n vl] w (TellsB true w) := by
  obtain ⟨pf, cf, rfl⟩ := hf.len
  obtain ⟨pu, cu, rfl, _⟩ := hu.2
  obtain ⟨pl, cl, rfl⟩ := hl.len
  have mixed : Try.prog.follows .mixedOrders = true := by kernel_rfl
  obtain ⟨su, hsu⟩ : ∃ su, str u = su := ⟨_, rfl⟩
  have A : AX (w.alloc (.cells #[.int .i64 p.size, .int .i64 p.grain, .int .i64 p.quota, .bool p.drain, .bool p.best, .slice pf p.free.length cf, .slice pu p.uses.length cu, .string su, .int .i64 n, .slice pl l.length cl] 27)) w.heap.size p (.slice pf p.free.length cf) (.slice pu p.uses.length cu) su n (.slice pl l.length cl) l := AX.new hf hu hl su n
  obtain ⟨W0, hW0⟩ : ∃ W0, w.alloc (.cells #[.int .i64 p.size, .int .i64 p.grain, .int .i64 p.quota, .bool p.drain, .bool p.best, .slice pf p.free.length cf, .slice pu p.uses.length cu, .string su, .int .i64 n, .slice pl l.length cl] 27) = W0 := ⟨_, rfl⟩
  have HB : Hid (RowKit.Below w.heap.size w W0) := by show RowKit.Below _ _ _; rw [← hW0]; exact below_box _ _
  rw [hW0] at A
  clear hf hu hl
  have cg := great_any p pf pu pl p.free.length cf p.uses.length cu l.length cl (str u) n W0
  rw [hgr, hsu] at cg
  rw [hsu]
  have a0 := A.pb.k0; have a1 := A.pb.k1; have a2 := A.pb.k2; have a3 := A.pb.k3; have a4 := A.pb.k4; have a5 := A.pb.k5; have a6 := A.pb.k6; have a7 := A.pb.k7; have a8 := A.pb.k8; have a9 := A.pb.k9
  go_enter Try.func5, Try.ntmps5
  go_wp2_with fail
  clear hW0
  refine Calls.mono (cg) ?_
  rintro e z1 ⟨rfl, hb⟩
  clear a0 a1 a2 a3 a4 a5 a6 a7 a8 a9
  clear cg
  have hx1 : RowKit.Below W0.heap.size W0 z1 := by
    refine Below.trans ?_ (hb.mono ?_)
    · (first | exact Below.refl _ _ | exact (Below.refl _ _).alloc (by simp) _ | exact ((Below.refl _ _).alloc (by simp) _).alloc (by simp) _ | exact (((Below.refl _ _).alloc (by simp) _).alloc (by simp) _).alloc (by simp) _)
    · first | exact Nat.le_refl _ | (simp; done) | (simp; omega)
  replace A := A.next hx1
  replace HB := Lib.hid (HB.out.trans (hx1.mono HB.out.size))
  have a0 := A.pb.k0; have a1 := A.pb.k1; have a2 := A.pb.k2; have a3 := A.pb.k3; have a4 := A.pb.k4; have a5 := A.pb.k5; have a6 := A.pb.k6; have a7 := A.pb.k7; have a8 := A.pb.k8; have a9 := A.pb.k9
  clear hb hx1
  go_wp2_with fail
  refine Calls.mono (Check_no (A.w hl1 hl2) hv0) ?_
  rintro e z2 ⟨rfl, hb⟩
  clear a0 a1 a2 a3 a4 a5 a6 a7 a8 a9
  have hx2 : RowKit.Below z1.heap.size z1 z2 := by
    refine Below.trans ?_ (hb.mono ?_)
    · (first | exact Below.refl _ _ | exact (Below.refl _ _).alloc (by simp) _ | exact ((Below.refl _ _).alloc (by simp) _).alloc (by simp) _ | exact (((Below.refl _ _).alloc (by simp) _).alloc (by simp) _).alloc (by simp) _)
    · first | exact Nat.le_refl _ | (simp; done) | (simp; omega)
  replace A := A.next hx2
  replace HB := Lib.hid (HB.out.trans (hx2.mono HB.out.size))
  have a0 := A.pb.k0; have a1 := A.pb.k1; have a2 := A.pb.k2; have a3 := A.pb.k3; have a4 := A.pb.k4; have a5 := A.pb.k5; have a6 := A.pb.k6; have a7 := A.pb.k7; have a8 := A.pb.k8; have a9 := A.pb.k9
  clear hb hx2
  go_wp2_with fail
  refine Calls.mono (head_any _) ?_
  rintro e z3 ⟨rfl, hb⟩
  clear a0 a1 a2 a3 a4 a5 a6 a7 a8 a9
  have hx3 : RowKit.Below z2.heap.size z2 z3 := by
    refine Below.trans ?_ (hb.mono ?_)
    · (first | exact Below.refl _ _ | exact (Below.refl _ _).alloc (by simp) _ | exact ((Below.refl _ _).alloc (by simp) _).alloc (by simp) _ | exact (((Below.refl _ _).alloc (by simp) _).alloc (by simp) _).alloc (by simp) _)
    · first | exact Nat.le_refl _ | (simp; done) | (simp; omega)
  replace A := A.next hx3
  replace HB := Lib.hid (HB.out.trans (hx3.mono HB.out.size))
  have a0 := A.pb.k0; have a1 := A.pb.k1; have a2 := A.pb.k2; have a3 := A.pb.k3; have a4 := A.pb.k4; have a5 := A.pb.k5; have a6 := A.pb.k6; have a7 := A.pb.k7; have a8 := A.pb.k8; have a9 := A.pb.k9
  clear hb hx3
  go_wp2_with fail
  go_ret
  exact ⟨rfl, HB.out⟩
set_option maxHeartbeats 8000000 in
theorem room_low {w : World} {vf vu vl : Value} {p : Pl} {l : List X} (hf : Rd w vf p.free) (hu : RdU w vu p.uses) (hl : Rd w vl l) (u : Nm) (n : Int) (hgr : grB p.free.length p.uses.length l.length (str u).size = false)(hl1 : p.free.length ≤ 1000) (hl2 : p.uses.length ≤ 3800) (hv0 : po.Valid p) (hn : n < 1) :
    Calls Try.prog 5 #[aggA p vf vu (str u) n vl] w (TellsB true w) := by
  obtain ⟨pf, cf, rfl⟩ := hf.len
  obtain ⟨pu, cu, rfl, _⟩ := hu.2
  obtain ⟨pl, cl, rfl⟩ := hl.len
  have mixed : Try.prog.follows .mixedOrders = true := by kernel_rfl
  obtain ⟨su, hsu⟩ : ∃ su, str u = su := ⟨_, rfl⟩
  have A : AX (w.alloc (.cells #[.int .i64 p.size, .int .i64 p.grain, .int .i64 p.quota, .bool p.drain, .bool p.best, .slice pf p.free.length cf, .slice pu p.uses.length cu, .string su, .int .i64 n, .slice pl l.length cl] 27)) w.heap.size p (.slice pf p.free.length cf) (.slice pu p.uses.length cu) su n (.slice pl l.length cl) l := AX.new hf hu hl su n
  obtain ⟨W0, hW0⟩ : ∃ W0, w.alloc (.cells #[.int .i64 p.size, .int .i64 p.grain, .int .i64 p.quota, .bool p.drain, .bool p.best, .slice pf p.free.length cf, .slice pu p.uses.length cu, .string su, .int .i64 n, .slice pl l.length cl] 27) = W0 := ⟨_, rfl⟩
  have HB : Hid (RowKit.Below w.heap.size w W0) := by show RowKit.Below _ _ _; rw [← hW0]; exact below_box _ _
  rw [hW0] at A
  clear hf hu hl
  have cg := great_any p pf pu pl p.free.length cf p.uses.length cu l.length cl (str u) n W0
  rw [hgr, hsu] at cg
  rw [hsu]
  have a0 := A.pb.k0; have a1 := A.pb.k1; have a2 := A.pb.k2; have a3 := A.pb.k3; have a4 := A.pb.k4; have a5 := A.pb.k5; have a6 := A.pb.k6; have a7 := A.pb.k7; have a8 := A.pb.k8; have a9 := A.pb.k9
  have d0 : decide (n < 1) = true := decide_eq_true hn
  clear hn
  go_enter Try.func5, Try.ntmps5
  go_wp2_with fail
  clear hW0
  refine Calls.mono (cg) ?_
  rintro e z1 ⟨rfl, hb⟩
  clear a0 a1 a2 a3 a4 a5 a6 a7 a8 a9
  clear cg
  have hx1 : RowKit.Below W0.heap.size W0 z1 := by
    refine Below.trans ?_ (hb.mono ?_)
    · (first | exact Below.refl _ _ | exact (Below.refl _ _).alloc (by simp) _ | exact ((Below.refl _ _).alloc (by simp) _).alloc (by simp) _ | exact (((Below.refl _ _).alloc (by simp) _).alloc (by simp) _).alloc (by simp) _)
    · first | exact Nat.le_refl _ | (simp; done) | (simp; omega)
  replace A := A.next hx1
  replace HB := Lib.hid (HB.out.trans (hx1.mono HB.out.size))
  have a0 := A.pb.k0; have a1 := A.pb.k1; have a2 := A.pb.k2; have a3 := A.pb.k3; have a4 := A.pb.k4; have a5 := A.pb.k5; have a6 := A.pb.k6; have a7 := A.pb.k7; have a8 := A.pb.k8; have a9 := A.pb.k9
  clear hb hx1
  go_wp2_with fail
  refine Calls.mono (Check_yes (A.w hl1 hl2) hv0) ?_
  rintro e z2 ⟨rfl, hb⟩
  clear a0 a1 a2 a3 a4 a5 a6 a7 a8 a9
  have hx2 : RowKit.Below z1.heap.size z1 z2 := by
    refine Below.trans ?_ (hb.mono ?_)
    · (first | exact Below.refl _ _ | exact (Below.refl _ _).alloc (by simp) _ | exact ((Below.refl _ _).alloc (by simp) _).alloc (by simp) _ | exact (((Below.refl _ _).alloc (by simp) _).alloc (by simp) _).alloc (by simp) _)
    · first | exact Nat.le_refl _ | (simp; done) | (simp; omega)
  replace A := A.next hx2
  replace HB := Lib.hid (HB.out.trans (hx2.mono HB.out.size))
  have a0 := A.pb.k0; have a1 := A.pb.k1; have a2 := A.pb.k2; have a3 := A.pb.k3; have a4 := A.pb.k4; have a5 := A.pb.k5; have a6 := A.pb.k6; have a7 := A.pb.k7; have a8 := A.pb.k8; have a9 := A.pb.k9
  clear hb hx2
  go_wp2_with fail
  refine Calls.mono (head_any _) ?_
  rintro e z3 ⟨rfl, hb⟩
  clear a0 a1 a2 a3 a4 a5 a6 a7 a8 a9
  have hx3 : RowKit.Below z2.heap.size z2 z3 := by
    refine Below.trans ?_ (hb.mono ?_)
    · (first | exact Below.refl _ _ | exact (Below.refl _ _).alloc (by simp) _ | exact ((Below.refl _ _).alloc (by simp) _).alloc (by simp) _ | exact (((Below.refl _ _).alloc (by simp) _).alloc (by simp) _).alloc (by simp) _)
    · first | exact Nat.le_refl _ | (simp; done) | (simp; omega)
  replace A := A.next hx3
  replace HB := Lib.hid (HB.out.trans (hx3.mono HB.out.size))
  have a0 := A.pb.k0; have a1 := A.pb.k1; have a2 := A.pb.k2; have a3 := A.pb.k3; have a4 := A.pb.k4; have a5 := A.pb.k5; have a6 := A.pb.k6; have a7 := A.pb.k7; have a8 := A.pb.k8; have a9 := A.pb.k9
  clear hb hx3
  go_wp2_with fail
  go_ret
  exact ⟨rfl, HB.out⟩
set_option maxHeartbeats 8000000 in
theorem room_I1 {w : World} {vf vu vl : Value} {p : Pl} {l : List X} (hf : Rd w vf p.free) (hu : RdU w vu p.uses) (hl : Rd w vl l) (u : Nm) (n : Int) (hgr : grB p.free.length p.uses.length l.length (str u).size = false)(hl1 : p.free.length ≤ 1000) (hl2 : p.uses.length ≤ 3800) (hv0 : po.Valid p) (hn : ¬ n < 1) (hdp : p.drain = true) (hio : po.gcode { p with drain := false } u n = 0) :
    Calls Try.prog 5 #[aggA p vf vu (str u) n vl] w (TellsB true w) := by
  obtain ⟨pf, cf, rfl⟩ := hf.len
  obtain ⟨pu, cu, rfl, _⟩ := hu.2
  obtain ⟨pl, cl, rfl⟩ := hl.len
  have mixed : Try.prog.follows .mixedOrders = true := by kernel_rfl
  obtain ⟨su, hsu⟩ : ∃ su, str u = su := ⟨_, rfl⟩
  have A : AX (w.alloc (.cells #[.int .i64 p.size, .int .i64 p.grain, .int .i64 p.quota, .bool p.drain, .bool p.best, .slice pf p.free.length cf, .slice pu p.uses.length cu, .string su, .int .i64 n, .slice pl l.length cl] 27)) w.heap.size p (.slice pf p.free.length cf) (.slice pu p.uses.length cu) su n (.slice pl l.length cl) l := AX.new hf hu hl su n
  obtain ⟨W0, hW0⟩ : ∃ W0, w.alloc (.cells #[.int .i64 p.size, .int .i64 p.grain, .int .i64 p.quota, .bool p.drain, .bool p.best, .slice pf p.free.length cf, .slice pu p.uses.length cu, .string su, .int .i64 n, .slice pl l.length cl] 27) = W0 := ⟨_, rfl⟩
  have HB : Hid (RowKit.Below w.heap.size w W0) := by show RowKit.Below _ _ _; rw [← hW0]; exact below_box _ _
  rw [hW0] at A
  clear hf hu hl
  have cg := great_any p pf pu pl p.free.length cf p.uses.length cu l.length cl (str u) n W0
  rw [hgr, hsu] at cg
  rw [hsu]
  have a0 := A.pb.k0; have a1 := A.pb.k1; have a2 := A.pb.k2; have a3 := A.pb.k3; have a4 := A.pb.k4; have a5 := A.pb.k5; have a6 := A.pb.k6; have a7 := A.pb.k7; have a8 := A.pb.k8; have a9 := A.pb.k9
  have HDP := Lib.hid hdp
  clear hdp
  have d0 : decide (n < 1) = false := decide_eq_false hn
  have hn0 : 0 < n := by omega
  clear hn
  go_enter Try.func5, Try.ntmps5
  go_wp2_with fail
  clear hW0
  refine Calls.mono (cg) ?_
  rintro e z1 ⟨rfl, hb⟩
  clear a0 a1 a2 a3 a4 a5 a6 a7 a8 a9
  clear cg
  have hx1 : RowKit.Below W0.heap.size W0 z1 := by
    refine Below.trans ?_ (hb.mono ?_)
    · (first | exact Below.refl _ _ | exact (Below.refl _ _).alloc (by simp) _ | exact ((Below.refl _ _).alloc (by simp) _).alloc (by simp) _ | exact (((Below.refl _ _).alloc (by simp) _).alloc (by simp) _).alloc (by simp) _)
    · first | exact Nat.le_refl _ | (simp; done) | (simp; omega)
  replace A := A.next hx1
  replace HB := Lib.hid (HB.out.trans (hx1.mono HB.out.size))
  have a0 := A.pb.k0; have a1 := A.pb.k1; have a2 := A.pb.k2; have a3 := A.pb.k3; have a4 := A.pb.k4; have a5 := A.pb.k5; have a6 := A.pb.k6; have a7 := A.pb.k7; have a8 := A.pb.k8; have a9 := A.pb.k9
  clear hb hx1
  go_wp2_with fail
  refine Calls.mono (Check_yes (A.w hl1 hl2) hv0) ?_
  rintro e z2 ⟨rfl, hb⟩
  clear a0 a1 a2 a3 a4 a5 a6 a7 a8 a9
  have hx2 : RowKit.Below z1.heap.size z1 z2 := by
    refine Below.trans ?_ (hb.mono ?_)
    · (first | exact Below.refl _ _ | exact (Below.refl _ _).alloc (by simp) _ | exact ((Below.refl _ _).alloc (by simp) _).alloc (by simp) _ | exact (((Below.refl _ _).alloc (by simp) _).alloc (by simp) _).alloc (by simp) _)
    · first | exact Nat.le_refl _ | (simp; done) | (simp; omega)
  replace A := A.next hx2
  replace HB := Lib.hid (HB.out.trans (hx2.mono HB.out.size))
  have a0 := A.pb.k0; have a1 := A.pb.k1; have a2 := A.pb.k2; have a3 := A.pb.k3; have a4 := A.pb.k4; have a5 := A.pb.k5; have a6 := A.pb.k6; have a7 := A.pb.k7; have a8 := A.pb.k8; have a9 := A.pb.k9
  clear hb hx2
  go_wp2_with fail
  have hge := po.gcode_drain (u := u) (n := n) HDP.out
  refine Calls.mono ((by have := Grant_no (A.w hl1 hl2) u n (by rcases hge with e | e <;> rw [e] <;> decide); rwa [hsu] at this)) ?_
  rintro e z3 ⟨rfl, hb⟩
  clear a0 a1 a2 a3 a4 a5 a6 a7 a8 a9
  have hx3 : RowKit.Below z2.heap.size z2 z3 := by
    refine Below.trans ?_ (hb.mono ?_)
    · (first | exact Below.refl _ _ | exact (Below.refl _ _).alloc (by simp) _ | exact ((Below.refl _ _).alloc (by simp) _).alloc (by simp) _ | exact (((Below.refl _ _).alloc (by simp) _).alloc (by simp) _).alloc (by simp) _)
    · first | exact Nat.le_refl _ | (simp; done) | (simp; omega)
  replace A := A.next hx3
  replace HB := Lib.hid (HB.out.trans (hx3.mono HB.out.size))
  have a0 := A.pb.k0; have a1 := A.pb.k1; have a2 := A.pb.k2; have a3 := A.pb.k3; have a4 := A.pb.k4; have a5 := A.pb.k5; have a6 := A.pb.k6; have a7 := A.pb.k7; have a8 := A.pb.k8; have a9 := A.pb.k9
  clear hb hx3
  generalize hE : po.gcode p u n = ec at *
  have he2 : (ec == 9) = true ∨ ((ec == 9) = false ∧ (ec == 2) = true) := by rcases hge with e | e <;> subst e <;> simp
  clear hE
  have lta := A.pb.lt
  go_wp2_with fail
  clear lta
  obtain ⟨y4, hy4⟩ : ∃ y, z3.alloc (.cells #[.int .i64 0, .int .i64 0, .int .i64 0, .bool false, .bool false, .slice none 0 0, .slice none 0 0] 25) = y := ⟨_, rfl⟩
  have hx4 : RowKit.Below z3.heap.size z3 y4 := by rw [← hy4]; exact below_box _ _
  clear a0 a1 a2 a3 a4 a5 a6 a7 a8 a9
  replace A := A.next hx4
  replace HB := Lib.hid (HB.out.trans (hx4.mono HB.out.size))
  have a0 := A.pb.k0; have a1 := A.pb.k1; have a2 := A.pb.k2; have a3 := A.pb.k3; have a4 := A.pb.k4; have a5 := A.pb.k5; have a6 := A.pb.k6; have a7 := A.pb.k7; have a8 := A.pb.k8; have a9 := A.pb.k9
  rw [hy4]
  clear hy4
  obtain ⟨D, hDD⟩ : ∃ D, ({ p with drain := true } : Pl) = D := ⟨_, rfl⟩
  have hvD : po.Valid D := by rw [← hDD]; exact hv0.dr true
  have hdD : D.drain = true := by rw [← hDD]
  have hfD : tot D.free = tot p.free := by rw [← hDD]
  have hd1 : D.free.length ≤ 1000 := by rw [← hDD]; exact hl1
  have hd2 : D.uses.length ≤ 3800 := by rw [← hDD]; exact hl2
  have hgD := po.gcode_drain (u := u) (n := n) hdD
  have HFD := Lib.hid hfD
  have HDD := Lib.hid hDD
  clear hdD hfD hDD
  refine Calls.mono (Drain_yes (A.w hl1 hl2) hv0 true) ?_
  rintro e z5 ⟨va, rfl, hv, hb⟩
  clear a0 a1 a2 a3 a4 a5 a6 a7 a8 a9
  rw [HDD.out] at hv
  have hx5 : RowKit.Below y4.heap.size y4 z5 := by
    refine Below.trans ?_ (hb.mono ?_)
    · (first | exact Below.refl _ _ | exact (Below.refl _ _).alloc (by simp) _ | exact ((Below.refl _ _).alloc (by simp) _).alloc (by simp) _ | exact (((Below.refl _ _).alloc (by simp) _).alloc (by simp) _).alloc (by simp) _)
    · first | exact Nat.le_refl _ | (simp; done) | (simp; omega)
  replace A := A.next hx5
  replace HB := Lib.hid (HB.out.trans (hx5.mono HB.out.size))
  have a0 := A.pb.k0; have a1 := A.pb.k1; have a2 := A.pb.k2; have a3 := A.pb.k3; have a4 := A.pb.k4; have a5 := A.pb.k5; have a6 := A.pb.k6; have a7 := A.pb.k7; have a8 := A.pb.k8; have a9 := A.pb.k9
  clear hb hx5
  obtain ⟨vfd, vud, rfl, hfd, hud⟩ := hv
  obtain ⟨afd, cfd, rfl⟩ := hfd.len
  obtain ⟨aud, cud, rfl, _⟩ := hud.2
  have Xd : PX (z5.alloc (.cells #[.int .i64 D.size, .int .i64 D.grain, .int .i64 D.quota, .bool D.drain, .bool D.best, .slice afd D.free.length cfd, .slice aud D.uses.length cud] 25)) z5.heap.size D (.slice afd D.free.length cfd) (.slice aud D.uses.length cud) := PX.new hfd hud
  obtain ⟨y6, hy6⟩ : ∃ y, z5.alloc (.cells #[.int .i64 D.size, .int .i64 D.grain, .int .i64 D.quota, .bool D.drain, .bool D.best, .slice afd D.free.length cfd, .slice aud D.uses.length cud] 25) = y := ⟨_, rfl⟩
  have hx6 : RowKit.Below z5.heap.size z5 y6 := by rw [← hy6]; exact below_box _ _
  clear a0 a1 a2 a3 a4 a5 a6 a7 a8 a9
  replace A := A.next hx6
  replace HB := Lib.hid (HB.out.trans (hx6.mono HB.out.size))
  have a0 := A.pb.k0; have a1 := A.pb.k1; have a2 := A.pb.k2; have a3 := A.pb.k3; have a4 := A.pb.k4; have a5 := A.pb.k5; have a6 := A.pb.k6; have a7 := A.pb.k7; have a8 := A.pb.k8; have a9 := A.pb.k9
  rw [hy6] at Xd
  clear hfd hud
  have xd0 := Xd.pb.k0; have xd1 := Xd.pb.k1; have xd2 := Xd.pb.k2; have xd3 := Xd.pb.k3; have xd4 := Xd.pb.k4; have xd5 := Xd.pb.k5; have xd6 := Xd.pb.k6
  go_wp2_with fail
  clear hy6
  refine Calls.mono ((by have := Grant_no (Xd.w hd1 hd2) u n (by rcases hgD with e | e <;> rw [e] <;> decide); rwa [hsu] at this)) ?_
  rintro e z7 ⟨rfl, hb⟩
  clear a0 a1 a2 a3 a4 a5 a6 a7 a8 a9 xd0 xd1 xd2 xd3 xd4 xd5 xd6
  have hx7 : RowKit.Below y6.heap.size y6 z7 := by
    refine Below.trans ?_ (hb.mono ?_)
    · (first | exact Below.refl _ _ | exact (Below.refl _ _).alloc (by simp) _ | exact ((Below.refl _ _).alloc (by simp) _).alloc (by simp) _ | exact (((Below.refl _ _).alloc (by simp) _).alloc (by simp) _).alloc (by simp) _)
    · first | exact Nat.le_refl _ | (simp; done) | (simp; omega)
  replace A := A.next hx7
  replace Xd := Xd.next hx7
  replace HB := Lib.hid (HB.out.trans (hx7.mono HB.out.size))
  have a0 := A.pb.k0; have a1 := A.pb.k1; have a2 := A.pb.k2; have a3 := A.pb.k3; have a4 := A.pb.k4; have a5 := A.pb.k5; have a6 := A.pb.k6; have a7 := A.pb.k7; have a8 := A.pb.k8; have a9 := A.pb.k9
  have xd0 := Xd.pb.k0; have xd1 := Xd.pb.k1; have xd2 := Xd.pb.k2; have xd3 := Xd.pb.k3; have xd4 := Xd.pb.k4; have xd5 := Xd.pb.k5; have xd6 := Xd.pb.k6
  clear hb hx7
  generalize po.gcode D u n = g at *
  have hg2 : (g != 2) = false ∨ ((g != 2) = true ∧ (g != 9) = false) := by rcases hgD with e | e <;> subst e <;> simp
  have lta := A.pb.lt
  have ltxd := Xd.pb.lt
  go_wp2_with fail
  clear lta
  clear ltxd
  obtain ⟨y8, hy8⟩ : ∃ y, z7.alloc (.cells #[.int .i64 0, .int .i64 0, .int .i64 0, .bool false, .bool false, .slice none 0 0, .slice none 0 0] 25) = y := ⟨_, rfl⟩
  have hx8 : RowKit.Below z7.heap.size z7 y8 := by rw [← hy8]; exact below_box _ _
  clear a0 a1 a2 a3 a4 a5 a6 a7 a8 a9 xd0 xd1 xd2 xd3 xd4 xd5 xd6
  replace A := A.next hx8
  replace Xd := Xd.next hx8
  replace HB := Lib.hid (HB.out.trans (hx8.mono HB.out.size))
  have a0 := A.pb.k0; have a1 := A.pb.k1; have a2 := A.pb.k2; have a3 := A.pb.k3; have a4 := A.pb.k4; have a5 := A.pb.k5; have a6 := A.pb.k6; have a7 := A.pb.k7; have a8 := A.pb.k8; have a9 := A.pb.k9
  have xd0 := Xd.pb.k0; have xd1 := Xd.pb.k1; have xd2 := Xd.pb.k2; have xd3 := Xd.pb.k3; have xd4 := Xd.pb.k4; have xd5 := Xd.pb.k5; have xd6 := Xd.pb.k6
  rw [hy8]
  clear hy8
  obtain ⟨O, hOO⟩ : ∃ O, ({ D with drain := false } : Pl) = O := ⟨_, rfl⟩
  have hvO : po.Valid O := by rw [← hOO]; exact hvD.dr false
  have ho1 : O.free.length ≤ 1000 := by rw [← hOO]; exact hd1
  have ho2 : O.uses.length ≤ 3800 := by rw [← hOO]; exact hd2
  have HOO := Lib.hid hOO
  clear hOO
  refine Calls.mono (Drain_yes (Xd.w hd1 hd2) hvD false) ?_
  rintro e z9 ⟨va, rfl, hv, hb⟩
  clear a0 a1 a2 a3 a4 a5 a6 a7 a8 a9 xd0 xd1 xd2 xd3 xd4 xd5 xd6
  rw [HOO.out] at hv
  have hx9 : RowKit.Below y8.heap.size y8 z9 := by
    refine Below.trans ?_ (hb.mono ?_)
    · (first | exact Below.refl _ _ | exact (Below.refl _ _).alloc (by simp) _ | exact ((Below.refl _ _).alloc (by simp) _).alloc (by simp) _ | exact (((Below.refl _ _).alloc (by simp) _).alloc (by simp) _).alloc (by simp) _)
    · first | exact Nat.le_refl _ | (simp; done) | (simp; omega)
  replace A := A.next hx9
  replace Xd := Xd.next hx9
  replace HB := Lib.hid (HB.out.trans (hx9.mono HB.out.size))
  have a0 := A.pb.k0; have a1 := A.pb.k1; have a2 := A.pb.k2; have a3 := A.pb.k3; have a4 := A.pb.k4; have a5 := A.pb.k5; have a6 := A.pb.k6; have a7 := A.pb.k7; have a8 := A.pb.k8; have a9 := A.pb.k9
  have xd0 := Xd.pb.k0; have xd1 := Xd.pb.k1; have xd2 := Xd.pb.k2; have xd3 := Xd.pb.k3; have xd4 := Xd.pb.k4; have xd5 := Xd.pb.k5; have xd6 := Xd.pb.k6
  clear hb hx9
  obtain ⟨vfo, vuo, rfl, hfo, huo⟩ := hv
  obtain ⟨afo, cfo, rfl⟩ := hfo.len
  obtain ⟨auo, cuo, rfl, _⟩ := huo.2
  have Xo : PX (z9.alloc (.cells #[.int .i64 O.size, .int .i64 O.grain, .int .i64 O.quota, .bool O.drain, .bool O.best, .slice afo O.free.length cfo, .slice auo O.uses.length cuo] 25)) z9.heap.size O (.slice afo O.free.length cfo) (.slice auo O.uses.length cuo) := PX.new hfo huo
  obtain ⟨y10, hy10⟩ : ∃ y, z9.alloc (.cells #[.int .i64 O.size, .int .i64 O.grain, .int .i64 O.quota, .bool O.drain, .bool O.best, .slice afo O.free.length cfo, .slice auo O.uses.length cuo] 25) = y := ⟨_, rfl⟩
  have hx10 : RowKit.Below z9.heap.size z9 y10 := by rw [← hy10]; exact below_box _ _
  clear a0 a1 a2 a3 a4 a5 a6 a7 a8 a9 xd0 xd1 xd2 xd3 xd4 xd5 xd6
  replace A := A.next hx10
  replace Xd := Xd.next hx10
  replace HB := Lib.hid (HB.out.trans (hx10.mono HB.out.size))
  have a0 := A.pb.k0; have a1 := A.pb.k1; have a2 := A.pb.k2; have a3 := A.pb.k3; have a4 := A.pb.k4; have a5 := A.pb.k5; have a6 := A.pb.k6; have a7 := A.pb.k7; have a8 := A.pb.k8; have a9 := A.pb.k9
  have xd0 := Xd.pb.k0; have xd1 := Xd.pb.k1; have xd2 := Xd.pb.k2; have xd3 := Xd.pb.k3; have xd4 := Xd.pb.k4; have xd5 := Xd.pb.k5; have xd6 := Xd.pb.k6
  rw [hy10] at Xo
  clear hfo huo
  have xo0 := Xo.pb.k0; have xo1 := Xo.pb.k1; have xo2 := Xo.pb.k2; have xo3 := Xo.pb.k3; have xo4 := Xo.pb.k4; have xo5 := Xo.pb.k5; have xo6 := Xo.pb.k6
  go_wp2_with fail
  clear hy10
  have hOe : ({ p with drain := false } : Pl) = O := by rw [← HOO.out, ← HDD.out]
  rw [hOe] at hio
  clear hOe
  have hgk := po.gcode_ok.1 hio
  refine Calls.mono ((by have := Grant_yes (Xo.w ho1 ho2) u n hgk; rwa [hsu] at this)) ?_
  rintro e z11 ⟨va, vt, rfl, hv, ht, hb⟩
  clear a0 a1 a2 a3 a4 a5 a6 a7 a8 a9 xd0 xd1 xd2 xd3 xd4 xd5 xd6 xo0 xo1 xo2 xo3 xo4 xo5 xo6
  generalize po.gP O u n = Q at *
  generalize po.gT O n = T at *
  obtain ⟨pt, ct, rfl⟩ := ht.len
  have hx11 : RowKit.Below y10.heap.size y10 z11 := by
    refine Below.trans ?_ (hb.mono ?_)
    · (first | exact Below.refl _ _ | exact (Below.refl _ _).alloc (by simp) _ | exact ((Below.refl _ _).alloc (by simp) _).alloc (by simp) _ | exact (((Below.refl _ _).alloc (by simp) _).alloc (by simp) _).alloc (by simp) _)
    · first | exact Nat.le_refl _ | (simp; done) | (simp; omega)
  replace A := A.next hx11
  replace Xd := Xd.next hx11
  replace Xo := Xo.next hx11
  replace HB := Lib.hid (HB.out.trans (hx11.mono HB.out.size))
  have a0 := A.pb.k0; have a1 := A.pb.k1; have a2 := A.pb.k2; have a3 := A.pb.k3; have a4 := A.pb.k4; have a5 := A.pb.k5; have a6 := A.pb.k6; have a7 := A.pb.k7; have a8 := A.pb.k8; have a9 := A.pb.k9
  have xd0 := Xd.pb.k0; have xd1 := Xd.pb.k1; have xd2 := Xd.pb.k2; have xd3 := Xd.pb.k3; have xd4 := Xd.pb.k4; have xd5 := Xd.pb.k5; have xd6 := Xd.pb.k6
  have xo0 := Xo.pb.k0; have xo1 := Xo.pb.k1; have xo2 := Xo.pb.k2; have xo3 := Xo.pb.k3; have xo4 := Xo.pb.k4; have xo5 := Xo.pb.k5; have xo6 := Xo.pb.k6
  clear hb hx11
  obtain ⟨vfb, vub, rfl, hfb, hub⟩ := hv
  obtain ⟨afb, cfb, rfl⟩ := hfb.len
  obtain ⟨aub, cub, rfl, _⟩ := hub.2
  have Xb : PX (z11.alloc (.cells #[.int .i64 Q.size, .int .i64 Q.grain, .int .i64 Q.quota, .bool Q.drain, .bool Q.best, .slice afb Q.free.length cfb, .slice aub Q.uses.length cub] 25)) z11.heap.size Q (.slice afb Q.free.length cfb) (.slice aub Q.uses.length cub) := PX.new hfb hub
  obtain ⟨y12, hy12⟩ : ∃ y, z11.alloc (.cells #[.int .i64 Q.size, .int .i64 Q.grain, .int .i64 Q.quota, .bool Q.drain, .bool Q.best, .slice afb Q.free.length cfb, .slice aub Q.uses.length cub] 25) = y := ⟨_, rfl⟩
  have hx12 : RowKit.Below z11.heap.size z11 y12 := by rw [← hy12]; exact below_box _ _
  clear a0 a1 a2 a3 a4 a5 a6 a7 a8 a9 xd0 xd1 xd2 xd3 xd4 xd5 xd6 xo0 xo1 xo2 xo3 xo4 xo5 xo6
  replace A := A.next hx12
  replace Xd := Xd.next hx12
  replace Xo := Xo.next hx12
  replace HB := Lib.hid (HB.out.trans (hx12.mono HB.out.size))
  have a0 := A.pb.k0; have a1 := A.pb.k1; have a2 := A.pb.k2; have a3 := A.pb.k3; have a4 := A.pb.k4; have a5 := A.pb.k5; have a6 := A.pb.k6; have a7 := A.pb.k7; have a8 := A.pb.k8; have a9 := A.pb.k9
  have xd0 := Xd.pb.k0; have xd1 := Xd.pb.k1; have xd2 := Xd.pb.k2; have xd3 := Xd.pb.k3; have xd4 := Xd.pb.k4; have xd5 := Xd.pb.k5; have xd6 := Xd.pb.k6
  have xo0 := Xo.pb.k0; have xo1 := Xo.pb.k1; have xo2 := Xo.pb.k2; have xo3 := Xo.pb.k3; have xo4 := Xo.pb.k4; have xo5 := Xo.pb.k5; have xo6 := Xo.pb.k6
  rw [hy12] at Xb
  clear hfb hub
  go_upto_region 8 with fail
  clear hy12
  rcases hg2 with hg2 | hg2
  · have HY : Hid (RowKit.Below y12.heap.size y12 y12.drew) := (Below.refl _ y12).drew
    refine wp_region_held_drew (S := (fun W => W.cell? ⟨w.heap.size, 0, none⟩ = some (.int .i64 p.size) ∧ W.cell? ⟨w.heap.size, 1, none⟩ = some (.int .i64 p.grain) ∧ W.cell? ⟨w.heap.size, 2, none⟩ = some (.int .i64 p.quota) ∧ W.cell? ⟨w.heap.size, 3, none⟩ = some (.bool p.drain) ∧ W.cell? ⟨w.heap.size, 4, none⟩ = some (.bool p.best) ∧ W.cell? ⟨w.heap.size, 5, none⟩ = some (.slice pf p.free.length cf) ∧ W.cell? ⟨w.heap.size, 6, none⟩ = some (.slice pu p.uses.length cu) ∧ W.cell? ⟨w.heap.size, 7, none⟩ = some (.string su) ∧ W.cell? ⟨w.heap.size, 8, none⟩ = some (.int .i64 n) ∧ W.cell? ⟨w.heap.size, 9, none⟩ = some (.slice pl l.length cl) ∧ W.cell? ⟨z5.heap.size, 0, none⟩ = some (.int .i64 D.size) ∧ W.cell? ⟨z5.heap.size, 1, none⟩ = some (.int .i64 D.grain) ∧ W.cell? ⟨z5.heap.size, 2, none⟩ = some (.int .i64 D.quota) ∧ W.cell? ⟨z5.heap.size, 3, none⟩ = some (.bool D.drain) ∧ W.cell? ⟨z5.heap.size, 4, none⟩ = some (.bool D.best) ∧ W.cell? ⟨z5.heap.size, 5, none⟩ = some (.slice afd D.free.length cfd) ∧ W.cell? ⟨z5.heap.size, 6, none⟩ = some (.slice aud D.uses.length cud))) (by kernel_rfl) (by first | (go_keep; done) | (dsimp only; go_keep)) (fun hHeld => ?_)
    refine wpAnyH_take (i := 0) (v := ?_) (ata at0) (by kernel_rfl) (by kernel_rfl) (by kernel_rfl) (fun _ _ _ h => h) (Or.inl ⟨by rfl, ?_⟩) (by assumption) ?_
    rotate_left
    · (intro w hSw; (try dsimp only at hSw); go_simp; (first | done | with_reducible rfl))
    try simp only [Act.put, List.setIfInBounds_toArray, List.set_cons_zero, List.set_cons_succ]
    refine wpAnyH_take (i := 1) (v := ?_) (ata (atS at0)) (by kernel_rfl) (by kernel_rfl) (by kernel_rfl) (fun _ _ _ h => h) (Or.inl ⟨by rfl, ?_⟩) (by assumption) ?_
    rotate_left
    · (intro w hSw; (try dsimp only at hSw); go_simp; (first | done | with_reducible rfl))
    try simp only [Act.put, List.setIfInBounds_toArray, List.set_cons_zero, List.set_cons_succ]
    refine wpAnyH_take (i := 2) (v := ?_) (ata (atS (atS at0))) (by kernel_rfl) (by kernel_rfl) (by kernel_rfl) (fun _ _ _ h => h) (Or.inl ⟨by rfl, ?_⟩) (by assumption) ?_
    rotate_left
    · (intro w hSw; (try dsimp only at hSw); go_simp; (first | done | with_reducible rfl))
    try simp only [Act.put, List.setIfInBounds_toArray, List.set_cons_zero, List.set_cons_succ]
    refine wpAnyH_take (i := 3) (v := ?_) (ata (atS (atS (atS at0)))) (by kernel_rfl) (by kernel_rfl) (by kernel_rfl) (fun _ _ _ h => h) (Or.inl ⟨by rfl, ?_⟩) (by assumption) ?_
    rotate_left
    · (intro w hSw; (try dsimp only at hSw); go_simp; (first | done | with_reducible rfl))
    try simp only [Act.put, List.setIfInBounds_toArray, List.set_cons_zero, List.set_cons_succ]
    refine wpAnyH_take (i := 4) (v := ?_) (ata (atS (atS (atS (atS at0))))) (by kernel_rfl) (by kernel_rfl) (by kernel_rfl) (fun _ _ _ h => h) (Or.inl ⟨by rfl, ?_⟩) (by assumption) ?_
    rotate_left
    · (intro w hSw; (try dsimp only at hSw); go_simp; (first | done | with_reducible rfl))
    try simp only [Act.put, List.setIfInBounds_toArray, List.set_cons_zero, List.set_cons_succ]
    refine wpAnyH_take (i := 5) (v := ?_) (ata (atS (atS (atS (atS (atS at0)))))) (by kernel_rfl) (by kernel_rfl) (by kernel_rfl) (fun _ _ _ h => h) (Or.inl ⟨by rfl, ?_⟩) (by assumption) ?_
    rotate_left
    · (intro w hSw; (try dsimp only at hSw); go_simp; (first | done | with_reducible rfl))
    try simp only [Act.put, List.setIfInBounds_toArray, List.set_cons_zero, List.set_cons_succ]
    refine wpAnyH_take (i := 6) (v := ?_) (ata (atS (atS (atS (atS (atS (atS at0))))))) (by kernel_rfl) (by kernel_rfl) (by kernel_rfl) (fun _ _ _ h => h) (Or.inl ⟨by rfl, ?_⟩) (by assumption) ?_
    rotate_left
    · (intro w hSw; (try dsimp only at hSw); go_simp; (first | done | with_reducible rfl))
    try simp only [Act.put, List.setIfInBounds_toArray, List.set_cons_zero, List.set_cons_succ]
    refine wpAnyH_take (i := 7) (v := ?_) (ata (atS (atS (atS (atS (atS (atS (atS at0)))))))) (by kernel_rfl) (by kernel_rfl) (by kernel_rfl) (fun _ _ _ h => h) (Or.inl ⟨by rfl, ?_⟩) (by assumption) ?_
    rotate_left
    · (intro w hSw; (try dsimp only at hSw); go_simp; (first | done | with_reducible rfl))
    try simp only [Act.put, List.setIfInBounds_toArray, List.set_cons_zero, List.set_cons_succ]
    refine wpAnyH_take (i := 9) (v := ?_) (ata (atS (atS (atS (atS (atS (atS (atS (atS (atS at0)))))))))) (by kernel_rfl) (by kernel_rfl) (by kernel_rfl) (fun _ _ _ h => h) (Or.inl ⟨by rfl, ?_⟩) (by assumption) ?_
    rotate_left
    · (intro w hSw; (try dsimp only at hSw); go_simp; (first | done | with_reducible rfl))
    try simp only [Act.put, List.setIfInBounds_toArray, List.set_cons_zero, List.set_cons_succ]
    refine wpAnyH_take (i := 10) (v := ?_) (ata (atS (atS (atS (atS (atS (atS (atS (atS (atS (atS at0))))))))))) (by kernel_rfl) (by kernel_rfl) (by kernel_rfl) (fun _ _ _ h => h) (Or.inl ⟨by rfl, ?_⟩) (by assumption) ?_
    rotate_left
    · (intro w hSw; (try dsimp only at hSw); go_simp; (first | done | with_reducible rfl))
    try simp only [Act.put, List.setIfInBounds_toArray, List.set_cons_zero, List.set_cons_succ]
    refine wpAnyH_ready (rs := [8]) (by kernel_rfl) (by simp) ?_
    refine AllReadyH.cons (ata (atS (atS (atS (atS (atS (atS (atS (atS at0))))))))) (fun K hK => ?_) AllReadyH.nil
    go_simp
    (go_at_call 12; (with_reducible refine (Free_yes ((Xd.next HY.out).w hd1 hd2) hvD).mono ?_); rintro e w1 ⟨rfl, hb1⟩; rw [HFD.out]; have hY := HY.out.trans (hb1.mono HY.out.size); have HY := Lib.hid hY; clear a0 a1 a2 a3 a4 a5 a6 a7 a8 a9 xd0 xd1 xd2 xd3 xd4 xd5 xd6; have hA := A.next hY; have hD := Xd.next hY; have a0 := hA.pb.k0; have a1 := hA.pb.k1; have a2 := hA.pb.k2; have a3 := hA.pb.k3; have a4 := hA.pb.k4; have a5 := hA.pb.k5; have a6 := hA.pb.k6; have a7 := hA.pb.k7; have a8 := hA.pb.k8; have a9 := hA.pb.k9; have xd0 := hD.pb.k0; have xd1 := hD.pb.k1; have xd2 := hD.pb.k2; have xd3 := hD.pb.k3; have xd4 := hD.pb.k4; have xd5 := hD.pb.k5; have xd6 := hD.pb.k6; clear hb1 hY hA hD)
    go_wp2_with fail
    refine hK.out _ _ (by first | (go_keep; done) | (dsimp only; go_keep)) (fun hHeld => ?_)
    clear hK K
    try simp only [Act.put, List.setIfInBounds_toArray, List.set_cons_zero, List.set_cons_succ]
    refine wpAnyH_ready (rs := [11]) (by kernel_rfl) (by simp) ?_
    refine AllReadyH.cons (ata (atS (atS (atS (atS (atS (atS (atS (atS (atS (atS (atS at0)))))))))))) (fun K hK => ?_) AllReadyH.nil
    go_simp
    (go_at_call 12; (with_reducible refine (Free_yes ((A.next HY.out).w hl1 hl2) hv0).mono ?_); rintro e w1 ⟨rfl, hb1⟩; have hY := HY.out.trans (hb1.mono HY.out.size); have HY := Lib.hid hY; clear a0 a1 a2 a3 a4 a5 a6 a7 a8 a9 xd0 xd1 xd2 xd3 xd4 xd5 xd6; have hA := A.next hY; have hD := Xd.next hY; have a0 := hA.pb.k0; have a1 := hA.pb.k1; have a2 := hA.pb.k2; have a3 := hA.pb.k3; have a4 := hA.pb.k4; have a5 := hA.pb.k5; have a6 := hA.pb.k6; have a7 := hA.pb.k7; have a8 := hA.pb.k8; have a9 := hA.pb.k9; have xd0 := hD.pb.k0; have xd1 := hD.pb.k1; have xd2 := hD.pb.k2; have xd3 := hD.pb.k3; have xd4 := hD.pb.k4; have xd5 := hD.pb.k5; have xd6 := hD.pb.k6; clear hb1 hY hA hD)
    go_wp2_with fail
    refine hK.out _ _ (by first | (go_keep; done) | (dsimp only; go_keep)) (fun hHeld => ?_)
    clear hK K
    try simp only [Act.put, List.setIfInBounds_toArray, List.set_cons_zero, List.set_cons_succ]
    refine wpAnyH_take (i := 12) (v := ?_) (ata (atS (atS (atS (atS (atS (atS (atS (atS (atS (atS (atS (atS at0))))))))))))) (by kernel_rfl) (by kernel_rfl) (by kernel_rfl) (fun _ _ _ h => h) (Or.inl ⟨by rfl, ?_⟩) (by assumption) ?_
    rotate_left
    · (intro w hSw; (try dsimp only at hSw); go_simp; (first | done | with_reducible rfl))
    try simp only [Act.put, List.setIfInBounds_toArray, List.set_cons_zero, List.set_cons_succ]
    refine wpAnyH_take (i := 13) (v := ?_) (ata (atS (atS (atS (atS (atS (atS (atS (atS (atS (atS (atS (atS (atS at0)))))))))))))) (by kernel_rfl) (by kernel_rfl) (by kernel_rfl) (fun _ _ _ h => h) (Or.inl ⟨by rfl, ?_⟩) (by assumption) ?_
    rotate_left
    · (intro w hSw; (try dsimp only at hSw); go_simp; (first | done | with_reducible rfl))
    try simp only [Act.put, List.setIfInBounds_toArray, List.set_cons_zero, List.set_cons_succ]
    refine wpAnyH_take (i := 14) (v := ?_) (ata (atS (atS (atS (atS (atS (atS (atS (atS (atS (atS (atS (atS (atS (atS at0))))))))))))))) (by kernel_rfl) (by kernel_rfl) (by kernel_rfl) (fun _ _ _ h => h) (Or.inl ⟨by rfl, ?_⟩) (by assumption) ?_
    rotate_left
    · (intro w hSw; (try dsimp only at hSw); go_simp; (first | done | with_reducible rfl))
    try simp only [Act.put, List.setIfInBounds_toArray, List.set_cons_zero, List.set_cons_succ]
    refine wpAnyH_take (i := 15) (v := ?_) (ata (atS (atS (atS (atS (atS (atS (atS (atS (atS (atS (atS (atS (atS (atS (atS at0)))))))))))))))) (by kernel_rfl) (by kernel_rfl) (by kernel_rfl) (fun _ _ _ h => h) (Or.inl ⟨by rfl, ?_⟩) (by assumption) ?_
    rotate_left
    · (intro w hSw; (try dsimp only at hSw); go_simp; (first | done | with_reducible rfl))
    try simp only [Act.put, List.setIfInBounds_toArray, List.set_cons_zero, List.set_cons_succ]
    refine wpAnyH_take (i := 16) (v := ?_) (ata (atS (atS (atS (atS (atS (atS (atS (atS (atS (atS (atS (atS (atS (atS (atS (atS at0))))))))))))))))) (by kernel_rfl) (by kernel_rfl) (by kernel_rfl) (fun _ _ _ h => h) (Or.inl ⟨by rfl, ?_⟩) (by assumption) ?_
    rotate_left
    · (intro w hSw; (try dsimp only at hSw); go_simp; (first | done | with_reducible rfl))
    try simp only [Act.put, List.setIfInBounds_toArray, List.set_cons_zero, List.set_cons_succ]
    refine wpAnyH_take (i := 17) (v := ?_) (ata (atS (atS (atS (atS (atS (atS (atS (atS (atS (atS (atS (atS (atS (atS (atS (atS (atS at0)))))))))))))))))) (by kernel_rfl) (by kernel_rfl) (by kernel_rfl) (fun _ _ _ h => h) (Or.inl ⟨by rfl, ?_⟩) (by assumption) ?_
    rotate_left
    · (intro w hSw; (try dsimp only at hSw); go_simp; (first | done | with_reducible rfl))
    try simp only [Act.put, List.setIfInBounds_toArray, List.set_cons_zero, List.set_cons_succ]
    refine wpAnyH_take (i := 18) (v := undef) (ata (atS (atS (atS (atS (atS (atS (atS (atS (atS (atS (atS (atS (atS (atS (atS (atS (atS (atS at0))))))))))))))))))) (by kernel_rfl) (by kernel_rfl) (by kernel_rfl) (fun _ _ _ h => h) (Or.inr ⟨by rfl, rfl⟩) (by assumption) ?_
    try simp only [Act.put, List.setIfInBounds_toArray, List.set_cons_zero, List.set_cons_succ]
    refine wpAnyH_take (i := 19) (v := undef) (ata (atS (atS (atS (atS (atS (atS (atS (atS (atS (atS (atS (atS (atS (atS (atS (atS (atS (atS (atS at0)))))))))))))))))))) (by kernel_rfl) (by kernel_rfl) (by kernel_rfl) (fun _ _ _ h => h) (Or.inr ⟨by rfl, rfl⟩) (by assumption) ?_
    try simp only [Act.put, List.setIfInBounds_toArray, List.set_cons_zero, List.set_cons_succ]
    refine wpAnyH_take (i := 20) (v := ?_) (ata (atS (atS (atS (atS (atS (atS (atS (atS (atS (atS (atS (atS (atS (atS (atS (atS (atS (atS (atS (atS at0))))))))))))))))))))) (by kernel_rfl) (by kernel_rfl) (by kernel_rfl) (fun _ _ _ h => h) (Or.inl ⟨by rfl, ?_⟩) (by assumption) ?_
    rotate_left
    · (intro w hSw; (try dsimp only at hSw); go_simp; (first | done | with_reducible rfl))
    try simp only [Act.put, List.setIfInBounds_toArray, List.set_cons_zero, List.set_cons_succ]
    refine wpAnyH_take (i := 21) (v := ?_) (ata (atS (atS (atS (atS (atS (atS (atS (atS (atS (atS (atS (atS (atS (atS (atS (atS (atS (atS (atS (atS (atS at0)))))))))))))))))))))) (by kernel_rfl) (by kernel_rfl) (by kernel_rfl) (fun _ _ _ h => h) (Or.inl ⟨by rfl, ?_⟩) (by assumption) ?_
    rotate_left
    · (intro w hSw; (try dsimp only at hSw); go_simp; (first | done | with_reducible rfl))
    try simp only [Act.put, List.setIfInBounds_toArray, List.set_cons_zero, List.set_cons_succ]
    refine wpAnyH_done (by kernel_rfl) ?_ _
    have hx8 := HY.out
    replace A := A.next hx8
    replace Xd := Xd.next hx8
    replace Xo := Xo.next hx8
    replace Xb := Xb.next hx8
    replace HB := Lib.hid (HB.out.trans (hx8.mono HB.out.size))
    have xo0 := Xo.pb.k0; have xo1 := Xo.pb.k1; have xo2 := Xo.pb.k2; have xo3 := Xo.pb.k3; have xo4 := Xo.pb.k4; have xo5 := Xo.pb.k5; have xo6 := Xo.pb.k6
    clear HY hx8
    have hdp := HDP.out
    go_upto_region 11 with fail
    clear hdp
    rcases he2 with he2 | ⟨he2, he3⟩
    · go_wp2_with fail
      refine Calls.mono (head_any _) ?_
      rintro e z13 ⟨rfl, hb⟩
      clear a0 a1 a2 a3 a4 a5 a6 a7 a8 a9 xd0 xd1 xd2 xd3 xd4 xd5 xd6 xo0 xo1 xo2 xo3 xo4 xo5 xo6
      have hx13 : RowKit.Below w1.heap.size w1 z13 := by
        refine Below.trans ?_ (hb.mono ?_)
        · (first | exact Below.refl _ _ | exact (Below.refl _ _).alloc (by simp) _ | exact ((Below.refl _ _).alloc (by simp) _).alloc (by simp) _ | exact (((Below.refl _ _).alloc (by simp) _).alloc (by simp) _).alloc (by simp) _)
        · first | exact Nat.le_refl _ | (simp; done) | (simp; omega)
      replace A := A.next hx13
      replace Xd := Xd.next hx13
      replace Xo := Xo.next hx13
      replace Xb := Xb.next hx13
      replace HB := Lib.hid (HB.out.trans (hx13.mono HB.out.size))
      have a0 := A.pb.k0; have a1 := A.pb.k1; have a2 := A.pb.k2; have a3 := A.pb.k3; have a4 := A.pb.k4; have a5 := A.pb.k5; have a6 := A.pb.k6; have a7 := A.pb.k7; have a8 := A.pb.k8; have a9 := A.pb.k9
      have xd0 := Xd.pb.k0; have xd1 := Xd.pb.k1; have xd2 := Xd.pb.k2; have xd3 := Xd.pb.k3; have xd4 := Xd.pb.k4; have xd5 := Xd.pb.k5; have xd6 := Xd.pb.k6
      have xo0 := Xo.pb.k0; have xo1 := Xo.pb.k1; have xo2 := Xo.pb.k2; have xo3 := Xo.pb.k3; have xo4 := Xo.pb.k4; have xo5 := Xo.pb.k5; have xo6 := Xo.pb.k6
      clear hb hx13
      go_wp2_with fail
      go_ret
      exact ⟨rfl, HB.out⟩
    · go_wp2_with fail
      refine Calls.mono (head_any _) ?_
      rintro e z13 ⟨rfl, hb⟩
      clear a0 a1 a2 a3 a4 a5 a6 a7 a8 a9 xd0 xd1 xd2 xd3 xd4 xd5 xd6 xo0 xo1 xo2 xo3 xo4 xo5 xo6
      have hx13 : RowKit.Below w1.heap.size w1 z13 := by
        refine Below.trans ?_ (hb.mono ?_)
        · (first | exact Below.refl _ _ | exact (Below.refl _ _).alloc (by simp) _ | exact ((Below.refl _ _).alloc (by simp) _).alloc (by simp) _ | exact (((Below.refl _ _).alloc (by simp) _).alloc (by simp) _).alloc (by simp) _)
        · first | exact Nat.le_refl _ | (simp; done) | (simp; omega)
      replace A := A.next hx13
      replace Xd := Xd.next hx13
      replace Xo := Xo.next hx13
      replace Xb := Xb.next hx13
      replace HB := Lib.hid (HB.out.trans (hx13.mono HB.out.size))
      have a0 := A.pb.k0; have a1 := A.pb.k1; have a2 := A.pb.k2; have a3 := A.pb.k3; have a4 := A.pb.k4; have a5 := A.pb.k5; have a6 := A.pb.k6; have a7 := A.pb.k7; have a8 := A.pb.k8; have a9 := A.pb.k9
      have xd0 := Xd.pb.k0; have xd1 := Xd.pb.k1; have xd2 := Xd.pb.k2; have xd3 := Xd.pb.k3; have xd4 := Xd.pb.k4; have xd5 := Xd.pb.k5; have xd6 := Xd.pb.k6
      have xo0 := Xo.pb.k0; have xo1 := Xo.pb.k1; have xo2 := Xo.pb.k2; have xo3 := Xo.pb.k3; have xo4 := Xo.pb.k4; have xo5 := Xo.pb.k5; have xo6 := Xo.pb.k6
      clear hb hx13
      go_wp2_with fail
      go_ret
      exact ⟨rfl, HB.out⟩
  · obtain ⟨hg2, hg3⟩ := hg2
    have HY : Hid (RowKit.Below y12.heap.size y12 y12.drew) := (Below.refl _ y12).drew
    go_region_held3 (fun W => W.cell? ⟨w.heap.size, 0, none⟩ = some (.int .i64 p.size) ∧ W.cell? ⟨w.heap.size, 1, none⟩ = some (.int .i64 p.grain) ∧ W.cell? ⟨w.heap.size, 2, none⟩ = some (.int .i64 p.quota) ∧ W.cell? ⟨w.heap.size, 3, none⟩ = some (.bool p.drain) ∧ W.cell? ⟨w.heap.size, 4, none⟩ = some (.bool p.best) ∧ W.cell? ⟨w.heap.size, 5, none⟩ = some (.slice pf p.free.length cf) ∧ W.cell? ⟨w.heap.size, 6, none⟩ = some (.slice pu p.uses.length cu) ∧ W.cell? ⟨w.heap.size, 7, none⟩ = some (.string su) ∧ W.cell? ⟨w.heap.size, 8, none⟩ = some (.int .i64 n) ∧ W.cell? ⟨w.heap.size, 9, none⟩ = some (.slice pl l.length cl) ∧ W.cell? ⟨z5.heap.size, 0, none⟩ = some (.int .i64 D.size) ∧ W.cell? ⟨z5.heap.size, 1, none⟩ = some (.int .i64 D.grain) ∧ W.cell? ⟨z5.heap.size, 2, none⟩ = some (.int .i64 D.quota) ∧ W.cell? ⟨z5.heap.size, 3, none⟩ = some (.bool D.drain) ∧ W.cell? ⟨z5.heap.size, 4, none⟩ = some (.bool D.best) ∧ W.cell? ⟨z5.heap.size, 5, none⟩ = some (.slice afd D.free.length cfd) ∧ W.cell? ⟨z5.heap.size, 6, none⟩ = some (.slice aud D.uses.length cud)) (go_keep) (first | (go_at_call 12; (with_reducible refine (Free_yes ((Xd.next HY.out).w hd1 hd2) hvD).mono ?_); rintro e w1 ⟨rfl, hb1⟩; rw [HFD.out]; have hY := HY.out.trans (hb1.mono HY.out.size); have HY := Lib.hid hY; clear a0 a1 a2 a3 a4 a5 a6 a7 a8 a9 xd0 xd1 xd2 xd3 xd4 xd5 xd6; have hA := A.next hY; have hD := Xd.next hY; have a0 := hA.pb.k0; have a1 := hA.pb.k1; have a2 := hA.pb.k2; have a3 := hA.pb.k3; have a4 := hA.pb.k4; have a5 := hA.pb.k5; have a6 := hA.pb.k6; have a7 := hA.pb.k7; have a8 := hA.pb.k8; have a9 := hA.pb.k9; have xd0 := hD.pb.k0; have xd1 := hD.pb.k1; have xd2 := hD.pb.k2; have xd3 := hD.pb.k3; have xd4 := hD.pb.k4; have xd5 := hD.pb.k5; have xd6 := hD.pb.k6; clear hb1 hY hA hD) | (go_at_call 12; (with_reducible refine (Free_yes ((A.next HY.out).w hl1 hl2) hv0).mono ?_); rintro e w1 ⟨rfl, hb1⟩; have hY := HY.out.trans (hb1.mono HY.out.size); have HY := Lib.hid hY; clear a0 a1 a2 a3 a4 a5 a6 a7 a8 a9 xd0 xd1 xd2 xd3 xd4 xd5 xd6; have hA := A.next hY; have hD := Xd.next hY; have a0 := hA.pb.k0; have a1 := hA.pb.k1; have a2 := hA.pb.k2; have a3 := hA.pb.k3; have a4 := hA.pb.k4; have a5 := hA.pb.k5; have a6 := hA.pb.k6; have a7 := hA.pb.k7; have a8 := hA.pb.k8; have a9 := hA.pb.k9; have xd0 := hD.pb.k0; have xd1 := hD.pb.k1; have xd2 := hD.pb.k2; have xd3 := hD.pb.k3; have xd4 := hD.pb.k4; have xd5 := hD.pb.k5; have xd6 := hD.pb.k6; clear hb1 hY hA hD))
    have hx8 := HY.out
    replace A := A.next hx8
    replace Xd := Xd.next hx8
    replace Xo := Xo.next hx8
    replace Xb := Xb.next hx8
    replace HB := Lib.hid (HB.out.trans (hx8.mono HB.out.size))
    have xo0 := Xo.pb.k0; have xo1 := Xo.pb.k1; have xo2 := Xo.pb.k2; have xo3 := Xo.pb.k3; have xo4 := Xo.pb.k4; have xo5 := Xo.pb.k5; have xo6 := Xo.pb.k6
    clear HY hx8
    have hdp := HDP.out
    go_upto_region 11 with fail
    clear hdp
    rcases he2 with he2 | ⟨he2, he3⟩
    · go_wp2_with fail
      refine Calls.mono (head_any _) ?_
      rintro e z13 ⟨rfl, hb⟩
      clear a0 a1 a2 a3 a4 a5 a6 a7 a8 a9 xd0 xd1 xd2 xd3 xd4 xd5 xd6 xo0 xo1 xo2 xo3 xo4 xo5 xo6
      have hx13 : RowKit.Below w1.heap.size w1 z13 := by
        refine Below.trans ?_ (hb.mono ?_)
        · (first | exact Below.refl _ _ | exact (Below.refl _ _).alloc (by simp) _ | exact ((Below.refl _ _).alloc (by simp) _).alloc (by simp) _ | exact (((Below.refl _ _).alloc (by simp) _).alloc (by simp) _).alloc (by simp) _)
        · first | exact Nat.le_refl _ | (simp; done) | (simp; omega)
      replace A := A.next hx13
      replace Xd := Xd.next hx13
      replace Xo := Xo.next hx13
      replace Xb := Xb.next hx13
      replace HB := Lib.hid (HB.out.trans (hx13.mono HB.out.size))
      have a0 := A.pb.k0; have a1 := A.pb.k1; have a2 := A.pb.k2; have a3 := A.pb.k3; have a4 := A.pb.k4; have a5 := A.pb.k5; have a6 := A.pb.k6; have a7 := A.pb.k7; have a8 := A.pb.k8; have a9 := A.pb.k9
      have xd0 := Xd.pb.k0; have xd1 := Xd.pb.k1; have xd2 := Xd.pb.k2; have xd3 := Xd.pb.k3; have xd4 := Xd.pb.k4; have xd5 := Xd.pb.k5; have xd6 := Xd.pb.k6
      have xo0 := Xo.pb.k0; have xo1 := Xo.pb.k1; have xo2 := Xo.pb.k2; have xo3 := Xo.pb.k3; have xo4 := Xo.pb.k4; have xo5 := Xo.pb.k5; have xo6 := Xo.pb.k6
      clear hb hx13
      go_wp2_with fail
      go_ret
      exact ⟨rfl, HB.out⟩
    · go_wp2_with fail
      refine Calls.mono (head_any _) ?_
      rintro e z13 ⟨rfl, hb⟩
      clear a0 a1 a2 a3 a4 a5 a6 a7 a8 a9 xd0 xd1 xd2 xd3 xd4 xd5 xd6 xo0 xo1 xo2 xo3 xo4 xo5 xo6
      have hx13 : RowKit.Below w1.heap.size w1 z13 := by
        refine Below.trans ?_ (hb.mono ?_)
        · (first | exact Below.refl _ _ | exact (Below.refl _ _).alloc (by simp) _ | exact ((Below.refl _ _).alloc (by simp) _).alloc (by simp) _ | exact (((Below.refl _ _).alloc (by simp) _).alloc (by simp) _).alloc (by simp) _)
        · first | exact Nat.le_refl _ | (simp; done) | (simp; omega)
      replace A := A.next hx13
      replace Xd := Xd.next hx13
      replace Xo := Xo.next hx13
      replace Xb := Xb.next hx13
      replace HB := Lib.hid (HB.out.trans (hx13.mono HB.out.size))
      have a0 := A.pb.k0; have a1 := A.pb.k1; have a2 := A.pb.k2; have a3 := A.pb.k3; have a4 := A.pb.k4; have a5 := A.pb.k5; have a6 := A.pb.k6; have a7 := A.pb.k7; have a8 := A.pb.k8; have a9 := A.pb.k9
      have xd0 := Xd.pb.k0; have xd1 := Xd.pb.k1; have xd2 := Xd.pb.k2; have xd3 := Xd.pb.k3; have xd4 := Xd.pb.k4; have xd5 := Xd.pb.k5; have xd6 := Xd.pb.k6
      have xo0 := Xo.pb.k0; have xo1 := Xo.pb.k1; have xo2 := Xo.pb.k2; have xo3 := Xo.pb.k3; have xo4 := Xo.pb.k4; have xo5 := Xo.pb.k5; have xo6 := Xo.pb.k6
      clear hb hx13
      go_wp2_with fail
      go_ret
      exact ⟨rfl, HB.out⟩
set_option maxHeartbeats 8000000 in
theorem room_I2 {w : World} {vf vu vl : Value} {p : Pl} {l : List X} (hf : Rd w vf p.free) (hu : RdU w vu p.uses) (hl : Rd w vl l) (u : Nm) (n : Int) (hgr : grB p.free.length p.uses.length l.length (str u).size = false)(hl1 : p.free.length ≤ 1000) (hl2 : p.uses.length ≤ 3800) (hv0 : po.Valid p) (hn : ¬ n < 1) (hdp : p.drain = true) (hio : ¬ po.gcode { p with drain := false } u n = 0) :
    Calls Try.prog 5 #[aggA p vf vu (str u) n vl] w (TellsB true w) := by
  obtain ⟨pf, cf, rfl⟩ := hf.len
  obtain ⟨pu, cu, rfl, _⟩ := hu.2
  obtain ⟨pl, cl, rfl⟩ := hl.len
  have mixed : Try.prog.follows .mixedOrders = true := by kernel_rfl
  obtain ⟨su, hsu⟩ : ∃ su, str u = su := ⟨_, rfl⟩
  have A : AX (w.alloc (.cells #[.int .i64 p.size, .int .i64 p.grain, .int .i64 p.quota, .bool p.drain, .bool p.best, .slice pf p.free.length cf, .slice pu p.uses.length cu, .string su, .int .i64 n, .slice pl l.length cl] 27)) w.heap.size p (.slice pf p.free.length cf) (.slice pu p.uses.length cu) su n (.slice pl l.length cl) l := AX.new hf hu hl su n
  obtain ⟨W0, hW0⟩ : ∃ W0, w.alloc (.cells #[.int .i64 p.size, .int .i64 p.grain, .int .i64 p.quota, .bool p.drain, .bool p.best, .slice pf p.free.length cf, .slice pu p.uses.length cu, .string su, .int .i64 n, .slice pl l.length cl] 27) = W0 := ⟨_, rfl⟩
  have HB : Hid (RowKit.Below w.heap.size w W0) := by show RowKit.Below _ _ _; rw [← hW0]; exact below_box _ _
  rw [hW0] at A
  clear hf hu hl
  have cg := great_any p pf pu pl p.free.length cf p.uses.length cu l.length cl (str u) n W0
  rw [hgr, hsu] at cg
  rw [hsu]
  have a0 := A.pb.k0; have a1 := A.pb.k1; have a2 := A.pb.k2; have a3 := A.pb.k3; have a4 := A.pb.k4; have a5 := A.pb.k5; have a6 := A.pb.k6; have a7 := A.pb.k7; have a8 := A.pb.k8; have a9 := A.pb.k9
  have HDP := Lib.hid hdp
  clear hdp
  have d0 : decide (n < 1) = false := decide_eq_false hn
  have hn0 : 0 < n := by omega
  clear hn
  go_enter Try.func5, Try.ntmps5
  go_wp2_with fail
  clear hW0
  refine Calls.mono (cg) ?_
  rintro e z1 ⟨rfl, hb⟩
  clear a0 a1 a2 a3 a4 a5 a6 a7 a8 a9
  clear cg
  have hx1 : RowKit.Below W0.heap.size W0 z1 := by
    refine Below.trans ?_ (hb.mono ?_)
    · (first | exact Below.refl _ _ | exact (Below.refl _ _).alloc (by simp) _ | exact ((Below.refl _ _).alloc (by simp) _).alloc (by simp) _ | exact (((Below.refl _ _).alloc (by simp) _).alloc (by simp) _).alloc (by simp) _)
    · first | exact Nat.le_refl _ | (simp; done) | (simp; omega)
  replace A := A.next hx1
  replace HB := Lib.hid (HB.out.trans (hx1.mono HB.out.size))
  have a0 := A.pb.k0; have a1 := A.pb.k1; have a2 := A.pb.k2; have a3 := A.pb.k3; have a4 := A.pb.k4; have a5 := A.pb.k5; have a6 := A.pb.k6; have a7 := A.pb.k7; have a8 := A.pb.k8; have a9 := A.pb.k9
  clear hb hx1
  go_wp2_with fail
  refine Calls.mono (Check_yes (A.w hl1 hl2) hv0) ?_
  rintro e z2 ⟨rfl, hb⟩
  clear a0 a1 a2 a3 a4 a5 a6 a7 a8 a9
  have hx2 : RowKit.Below z1.heap.size z1 z2 := by
    refine Below.trans ?_ (hb.mono ?_)
    · (first | exact Below.refl _ _ | exact (Below.refl _ _).alloc (by simp) _ | exact ((Below.refl _ _).alloc (by simp) _).alloc (by simp) _ | exact (((Below.refl _ _).alloc (by simp) _).alloc (by simp) _).alloc (by simp) _)
    · first | exact Nat.le_refl _ | (simp; done) | (simp; omega)
  replace A := A.next hx2
  replace HB := Lib.hid (HB.out.trans (hx2.mono HB.out.size))
  have a0 := A.pb.k0; have a1 := A.pb.k1; have a2 := A.pb.k2; have a3 := A.pb.k3; have a4 := A.pb.k4; have a5 := A.pb.k5; have a6 := A.pb.k6; have a7 := A.pb.k7; have a8 := A.pb.k8; have a9 := A.pb.k9
  clear hb hx2
  go_wp2_with fail
  have hge := po.gcode_drain (u := u) (n := n) HDP.out
  refine Calls.mono ((by have := Grant_no (A.w hl1 hl2) u n (by rcases hge with e | e <;> rw [e] <;> decide); rwa [hsu] at this)) ?_
  rintro e z3 ⟨rfl, hb⟩
  clear a0 a1 a2 a3 a4 a5 a6 a7 a8 a9
  have hx3 : RowKit.Below z2.heap.size z2 z3 := by
    refine Below.trans ?_ (hb.mono ?_)
    · (first | exact Below.refl _ _ | exact (Below.refl _ _).alloc (by simp) _ | exact ((Below.refl _ _).alloc (by simp) _).alloc (by simp) _ | exact (((Below.refl _ _).alloc (by simp) _).alloc (by simp) _).alloc (by simp) _)
    · first | exact Nat.le_refl _ | (simp; done) | (simp; omega)
  replace A := A.next hx3
  replace HB := Lib.hid (HB.out.trans (hx3.mono HB.out.size))
  have a0 := A.pb.k0; have a1 := A.pb.k1; have a2 := A.pb.k2; have a3 := A.pb.k3; have a4 := A.pb.k4; have a5 := A.pb.k5; have a6 := A.pb.k6; have a7 := A.pb.k7; have a8 := A.pb.k8; have a9 := A.pb.k9
  clear hb hx3
  generalize hE : po.gcode p u n = ec at *
  have he2 : (ec == 9) = true ∨ ((ec == 9) = false ∧ (ec == 2) = true) := by rcases hge with e | e <;> subst e <;> simp
  clear hE
  have lta := A.pb.lt
  go_wp2_with fail
  clear lta
  obtain ⟨y4, hy4⟩ : ∃ y, z3.alloc (.cells #[.int .i64 0, .int .i64 0, .int .i64 0, .bool false, .bool false, .slice none 0 0, .slice none 0 0] 25) = y := ⟨_, rfl⟩
  have hx4 : RowKit.Below z3.heap.size z3 y4 := by rw [← hy4]; exact below_box _ _
  clear a0 a1 a2 a3 a4 a5 a6 a7 a8 a9
  replace A := A.next hx4
  replace HB := Lib.hid (HB.out.trans (hx4.mono HB.out.size))
  have a0 := A.pb.k0; have a1 := A.pb.k1; have a2 := A.pb.k2; have a3 := A.pb.k3; have a4 := A.pb.k4; have a5 := A.pb.k5; have a6 := A.pb.k6; have a7 := A.pb.k7; have a8 := A.pb.k8; have a9 := A.pb.k9
  rw [hy4]
  clear hy4
  obtain ⟨D, hDD⟩ : ∃ D, ({ p with drain := true } : Pl) = D := ⟨_, rfl⟩
  have hvD : po.Valid D := by rw [← hDD]; exact hv0.dr true
  have hdD : D.drain = true := by rw [← hDD]
  have hfD : tot D.free = tot p.free := by rw [← hDD]
  have hd1 : D.free.length ≤ 1000 := by rw [← hDD]; exact hl1
  have hd2 : D.uses.length ≤ 3800 := by rw [← hDD]; exact hl2
  have hgD := po.gcode_drain (u := u) (n := n) hdD
  have HFD := Lib.hid hfD
  have HDD := Lib.hid hDD
  clear hdD hfD hDD
  refine Calls.mono (Drain_yes (A.w hl1 hl2) hv0 true) ?_
  rintro e z5 ⟨va, rfl, hv, hb⟩
  clear a0 a1 a2 a3 a4 a5 a6 a7 a8 a9
  rw [HDD.out] at hv
  have hx5 : RowKit.Below y4.heap.size y4 z5 := by
    refine Below.trans ?_ (hb.mono ?_)
    · (first | exact Below.refl _ _ | exact (Below.refl _ _).alloc (by simp) _ | exact ((Below.refl _ _).alloc (by simp) _).alloc (by simp) _ | exact (((Below.refl _ _).alloc (by simp) _).alloc (by simp) _).alloc (by simp) _)
    · first | exact Nat.le_refl _ | (simp; done) | (simp; omega)
  replace A := A.next hx5
  replace HB := Lib.hid (HB.out.trans (hx5.mono HB.out.size))
  have a0 := A.pb.k0; have a1 := A.pb.k1; have a2 := A.pb.k2; have a3 := A.pb.k3; have a4 := A.pb.k4; have a5 := A.pb.k5; have a6 := A.pb.k6; have a7 := A.pb.k7; have a8 := A.pb.k8; have a9 := A.pb.k9
  clear hb hx5
  obtain ⟨vfd, vud, rfl, hfd, hud⟩ := hv
  obtain ⟨afd, cfd, rfl⟩ := hfd.len
  obtain ⟨aud, cud, rfl, _⟩ := hud.2
  have Xd : PX (z5.alloc (.cells #[.int .i64 D.size, .int .i64 D.grain, .int .i64 D.quota, .bool D.drain, .bool D.best, .slice afd D.free.length cfd, .slice aud D.uses.length cud] 25)) z5.heap.size D (.slice afd D.free.length cfd) (.slice aud D.uses.length cud) := PX.new hfd hud
  obtain ⟨y6, hy6⟩ : ∃ y, z5.alloc (.cells #[.int .i64 D.size, .int .i64 D.grain, .int .i64 D.quota, .bool D.drain, .bool D.best, .slice afd D.free.length cfd, .slice aud D.uses.length cud] 25) = y := ⟨_, rfl⟩
  have hx6 : RowKit.Below z5.heap.size z5 y6 := by rw [← hy6]; exact below_box _ _
  clear a0 a1 a2 a3 a4 a5 a6 a7 a8 a9
  replace A := A.next hx6
  replace HB := Lib.hid (HB.out.trans (hx6.mono HB.out.size))
  have a0 := A.pb.k0; have a1 := A.pb.k1; have a2 := A.pb.k2; have a3 := A.pb.k3; have a4 := A.pb.k4; have a5 := A.pb.k5; have a6 := A.pb.k6; have a7 := A.pb.k7; have a8 := A.pb.k8; have a9 := A.pb.k9
  rw [hy6] at Xd
  clear hfd hud
  have xd0 := Xd.pb.k0; have xd1 := Xd.pb.k1; have xd2 := Xd.pb.k2; have xd3 := Xd.pb.k3; have xd4 := Xd.pb.k4; have xd5 := Xd.pb.k5; have xd6 := Xd.pb.k6
  go_wp2_with fail
  clear hy6
  refine Calls.mono ((by have := Grant_no (Xd.w hd1 hd2) u n (by rcases hgD with e | e <;> rw [e] <;> decide); rwa [hsu] at this)) ?_
  rintro e z7 ⟨rfl, hb⟩
  clear a0 a1 a2 a3 a4 a5 a6 a7 a8 a9 xd0 xd1 xd2 xd3 xd4 xd5 xd6
  have hx7 : RowKit.Below y6.heap.size y6 z7 := by
    refine Below.trans ?_ (hb.mono ?_)
    · (first | exact Below.refl _ _ | exact (Below.refl _ _).alloc (by simp) _ | exact ((Below.refl _ _).alloc (by simp) _).alloc (by simp) _ | exact (((Below.refl _ _).alloc (by simp) _).alloc (by simp) _).alloc (by simp) _)
    · first | exact Nat.le_refl _ | (simp; done) | (simp; omega)
  replace A := A.next hx7
  replace Xd := Xd.next hx7
  replace HB := Lib.hid (HB.out.trans (hx7.mono HB.out.size))
  have a0 := A.pb.k0; have a1 := A.pb.k1; have a2 := A.pb.k2; have a3 := A.pb.k3; have a4 := A.pb.k4; have a5 := A.pb.k5; have a6 := A.pb.k6; have a7 := A.pb.k7; have a8 := A.pb.k8; have a9 := A.pb.k9
  have xd0 := Xd.pb.k0; have xd1 := Xd.pb.k1; have xd2 := Xd.pb.k2; have xd3 := Xd.pb.k3; have xd4 := Xd.pb.k4; have xd5 := Xd.pb.k5; have xd6 := Xd.pb.k6
  clear hb hx7
  generalize po.gcode D u n = g at *
  have hg2 : (g != 2) = false ∨ ((g != 2) = true ∧ (g != 9) = false) := by rcases hgD with e | e <;> subst e <;> simp
  have lta := A.pb.lt
  have ltxd := Xd.pb.lt
  go_wp2_with fail
  clear lta
  clear ltxd
  obtain ⟨y8, hy8⟩ : ∃ y, z7.alloc (.cells #[.int .i64 0, .int .i64 0, .int .i64 0, .bool false, .bool false, .slice none 0 0, .slice none 0 0] 25) = y := ⟨_, rfl⟩
  have hx8 : RowKit.Below z7.heap.size z7 y8 := by rw [← hy8]; exact below_box _ _
  clear a0 a1 a2 a3 a4 a5 a6 a7 a8 a9 xd0 xd1 xd2 xd3 xd4 xd5 xd6
  replace A := A.next hx8
  replace Xd := Xd.next hx8
  replace HB := Lib.hid (HB.out.trans (hx8.mono HB.out.size))
  have a0 := A.pb.k0; have a1 := A.pb.k1; have a2 := A.pb.k2; have a3 := A.pb.k3; have a4 := A.pb.k4; have a5 := A.pb.k5; have a6 := A.pb.k6; have a7 := A.pb.k7; have a8 := A.pb.k8; have a9 := A.pb.k9
  have xd0 := Xd.pb.k0; have xd1 := Xd.pb.k1; have xd2 := Xd.pb.k2; have xd3 := Xd.pb.k3; have xd4 := Xd.pb.k4; have xd5 := Xd.pb.k5; have xd6 := Xd.pb.k6
  rw [hy8]
  clear hy8
  obtain ⟨O, hOO⟩ : ∃ O, ({ D with drain := false } : Pl) = O := ⟨_, rfl⟩
  have hvO : po.Valid O := by rw [← hOO]; exact hvD.dr false
  have ho1 : O.free.length ≤ 1000 := by rw [← hOO]; exact hd1
  have ho2 : O.uses.length ≤ 3800 := by rw [← hOO]; exact hd2
  have HOO := Lib.hid hOO
  clear hOO
  refine Calls.mono (Drain_yes (Xd.w hd1 hd2) hvD false) ?_
  rintro e z9 ⟨va, rfl, hv, hb⟩
  clear a0 a1 a2 a3 a4 a5 a6 a7 a8 a9 xd0 xd1 xd2 xd3 xd4 xd5 xd6
  rw [HOO.out] at hv
  have hx9 : RowKit.Below y8.heap.size y8 z9 := by
    refine Below.trans ?_ (hb.mono ?_)
    · (first | exact Below.refl _ _ | exact (Below.refl _ _).alloc (by simp) _ | exact ((Below.refl _ _).alloc (by simp) _).alloc (by simp) _ | exact (((Below.refl _ _).alloc (by simp) _).alloc (by simp) _).alloc (by simp) _)
    · first | exact Nat.le_refl _ | (simp; done) | (simp; omega)
  replace A := A.next hx9
  replace Xd := Xd.next hx9
  replace HB := Lib.hid (HB.out.trans (hx9.mono HB.out.size))
  have a0 := A.pb.k0; have a1 := A.pb.k1; have a2 := A.pb.k2; have a3 := A.pb.k3; have a4 := A.pb.k4; have a5 := A.pb.k5; have a6 := A.pb.k6; have a7 := A.pb.k7; have a8 := A.pb.k8; have a9 := A.pb.k9
  have xd0 := Xd.pb.k0; have xd1 := Xd.pb.k1; have xd2 := Xd.pb.k2; have xd3 := Xd.pb.k3; have xd4 := Xd.pb.k4; have xd5 := Xd.pb.k5; have xd6 := Xd.pb.k6
  clear hb hx9
  obtain ⟨vfo, vuo, rfl, hfo, huo⟩ := hv
  obtain ⟨afo, cfo, rfl⟩ := hfo.len
  obtain ⟨auo, cuo, rfl, _⟩ := huo.2
  have Xo : PX (z9.alloc (.cells #[.int .i64 O.size, .int .i64 O.grain, .int .i64 O.quota, .bool O.drain, .bool O.best, .slice afo O.free.length cfo, .slice auo O.uses.length cuo] 25)) z9.heap.size O (.slice afo O.free.length cfo) (.slice auo O.uses.length cuo) := PX.new hfo huo
  obtain ⟨y10, hy10⟩ : ∃ y, z9.alloc (.cells #[.int .i64 O.size, .int .i64 O.grain, .int .i64 O.quota, .bool O.drain, .bool O.best, .slice afo O.free.length cfo, .slice auo O.uses.length cuo] 25) = y := ⟨_, rfl⟩
  have hx10 : RowKit.Below z9.heap.size z9 y10 := by rw [← hy10]; exact below_box _ _
  clear a0 a1 a2 a3 a4 a5 a6 a7 a8 a9 xd0 xd1 xd2 xd3 xd4 xd5 xd6
  replace A := A.next hx10
  replace Xd := Xd.next hx10
  replace HB := Lib.hid (HB.out.trans (hx10.mono HB.out.size))
  have a0 := A.pb.k0; have a1 := A.pb.k1; have a2 := A.pb.k2; have a3 := A.pb.k3; have a4 := A.pb.k4; have a5 := A.pb.k5; have a6 := A.pb.k6; have a7 := A.pb.k7; have a8 := A.pb.k8; have a9 := A.pb.k9
  have xd0 := Xd.pb.k0; have xd1 := Xd.pb.k1; have xd2 := Xd.pb.k2; have xd3 := Xd.pb.k3; have xd4 := Xd.pb.k4; have xd5 := Xd.pb.k5; have xd6 := Xd.pb.k6
  rw [hy10] at Xo
  clear hfo huo
  have xo0 := Xo.pb.k0; have xo1 := Xo.pb.k1; have xo2 := Xo.pb.k2; have xo3 := Xo.pb.k3; have xo4 := Xo.pb.k4; have xo5 := Xo.pb.k5; have xo6 := Xo.pb.k6
  go_wp2_with fail
  clear hy10
  have hOe : ({ p with drain := false } : Pl) = O := by rw [← HOO.out, ← HDD.out]
  rw [hOe] at hio
  clear hOe
  refine Calls.mono ((by have := Grant_no (Xo.w ho1 ho2) u n hio; rwa [hsu] at this)) ?_
  rintro e z11 ⟨rfl, hb⟩
  clear a0 a1 a2 a3 a4 a5 a6 a7 a8 a9 xd0 xd1 xd2 xd3 xd4 xd5 xd6 xo0 xo1 xo2 xo3 xo4 xo5 xo6
  have hx11 : RowKit.Below y10.heap.size y10 z11 := by
    refine Below.trans ?_ (hb.mono ?_)
    · (first | exact Below.refl _ _ | exact (Below.refl _ _).alloc (by simp) _ | exact ((Below.refl _ _).alloc (by simp) _).alloc (by simp) _ | exact (((Below.refl _ _).alloc (by simp) _).alloc (by simp) _).alloc (by simp) _)
    · first | exact Nat.le_refl _ | (simp; done) | (simp; omega)
  replace A := A.next hx11
  replace Xd := Xd.next hx11
  replace Xo := Xo.next hx11
  replace HB := Lib.hid (HB.out.trans (hx11.mono HB.out.size))
  have a0 := A.pb.k0; have a1 := A.pb.k1; have a2 := A.pb.k2; have a3 := A.pb.k3; have a4 := A.pb.k4; have a5 := A.pb.k5; have a6 := A.pb.k6; have a7 := A.pb.k7; have a8 := A.pb.k8; have a9 := A.pb.k9
  have xd0 := Xd.pb.k0; have xd1 := Xd.pb.k1; have xd2 := Xd.pb.k2; have xd3 := Xd.pb.k3; have xd4 := Xd.pb.k4; have xd5 := Xd.pb.k5; have xd6 := Xd.pb.k6
  have xo0 := Xo.pb.k0; have xo1 := Xo.pb.k1; have xo2 := Xo.pb.k2; have xo3 := Xo.pb.k3; have xo4 := Xo.pb.k4; have xo5 := Xo.pb.k5; have xo6 := Xo.pb.k6
  clear hb hx11
  have lta := A.pb.lt
  have ltxd := Xd.pb.lt
  have ltxo := Xo.pb.lt
  go_upto_region 8 with fail
  clear lta
  clear ltxd
  clear ltxo
  obtain ⟨y12, hy12⟩ : ∃ y, z11.alloc (.cells #[.int .i64 0, .int .i64 0, .int .i64 0, .bool false, .bool false, .slice none 0 0, .slice none 0 0] 25) = y := ⟨_, rfl⟩
  have hx12 : RowKit.Below z11.heap.size z11 y12 := by rw [← hy12]; exact below_box _ _
  clear a0 a1 a2 a3 a4 a5 a6 a7 a8 a9 xd0 xd1 xd2 xd3 xd4 xd5 xd6 xo0 xo1 xo2 xo3 xo4 xo5 xo6
  replace A := A.next hx12
  replace Xd := Xd.next hx12
  replace Xo := Xo.next hx12
  replace HB := Lib.hid (HB.out.trans (hx12.mono HB.out.size))
  have a0 := A.pb.k0; have a1 := A.pb.k1; have a2 := A.pb.k2; have a3 := A.pb.k3; have a4 := A.pb.k4; have a5 := A.pb.k5; have a6 := A.pb.k6; have a7 := A.pb.k7; have a8 := A.pb.k8; have a9 := A.pb.k9
  have xd0 := Xd.pb.k0; have xd1 := Xd.pb.k1; have xd2 := Xd.pb.k2; have xd3 := Xd.pb.k3; have xd4 := Xd.pb.k4; have xd5 := Xd.pb.k5; have xd6 := Xd.pb.k6
  have xo0 := Xo.pb.k0; have xo1 := Xo.pb.k1; have xo2 := Xo.pb.k2; have xo3 := Xo.pb.k3; have xo4 := Xo.pb.k4; have xo5 := Xo.pb.k5; have xo6 := Xo.pb.k6
  rw [hy12]
  clear hy12
  rcases hg2 with hg2 | hg2
  · have HY : Hid (RowKit.Below y12.heap.size y12 y12.drew) := (Below.refl _ y12).drew
    refine wp_region_held_drew (S := (fun W => W.cell? ⟨w.heap.size, 0, none⟩ = some (.int .i64 p.size) ∧ W.cell? ⟨w.heap.size, 1, none⟩ = some (.int .i64 p.grain) ∧ W.cell? ⟨w.heap.size, 2, none⟩ = some (.int .i64 p.quota) ∧ W.cell? ⟨w.heap.size, 3, none⟩ = some (.bool p.drain) ∧ W.cell? ⟨w.heap.size, 4, none⟩ = some (.bool p.best) ∧ W.cell? ⟨w.heap.size, 5, none⟩ = some (.slice pf p.free.length cf) ∧ W.cell? ⟨w.heap.size, 6, none⟩ = some (.slice pu p.uses.length cu) ∧ W.cell? ⟨w.heap.size, 7, none⟩ = some (.string su) ∧ W.cell? ⟨w.heap.size, 8, none⟩ = some (.int .i64 n) ∧ W.cell? ⟨w.heap.size, 9, none⟩ = some (.slice pl l.length cl) ∧ W.cell? ⟨z5.heap.size, 0, none⟩ = some (.int .i64 D.size) ∧ W.cell? ⟨z5.heap.size, 1, none⟩ = some (.int .i64 D.grain) ∧ W.cell? ⟨z5.heap.size, 2, none⟩ = some (.int .i64 D.quota) ∧ W.cell? ⟨z5.heap.size, 3, none⟩ = some (.bool D.drain) ∧ W.cell? ⟨z5.heap.size, 4, none⟩ = some (.bool D.best) ∧ W.cell? ⟨z5.heap.size, 5, none⟩ = some (.slice afd D.free.length cfd) ∧ W.cell? ⟨z5.heap.size, 6, none⟩ = some (.slice aud D.uses.length cud))) (by kernel_rfl) (by first | (go_keep; done) | (dsimp only; go_keep)) (fun hHeld => ?_)
    refine wpAnyH_take (i := 0) (v := ?_) (ata at0) (by kernel_rfl) (by kernel_rfl) (by kernel_rfl) (fun _ _ _ h => h) (Or.inl ⟨by rfl, ?_⟩) (by assumption) ?_
    rotate_left
    · (intro w hSw; (try dsimp only at hSw); go_simp; (first | done | with_reducible rfl))
    try simp only [Act.put, List.setIfInBounds_toArray, List.set_cons_zero, List.set_cons_succ]
    refine wpAnyH_take (i := 1) (v := ?_) (ata (atS at0)) (by kernel_rfl) (by kernel_rfl) (by kernel_rfl) (fun _ _ _ h => h) (Or.inl ⟨by rfl, ?_⟩) (by assumption) ?_
    rotate_left
    · (intro w hSw; (try dsimp only at hSw); go_simp; (first | done | with_reducible rfl))
    try simp only [Act.put, List.setIfInBounds_toArray, List.set_cons_zero, List.set_cons_succ]
    refine wpAnyH_take (i := 2) (v := ?_) (ata (atS (atS at0))) (by kernel_rfl) (by kernel_rfl) (by kernel_rfl) (fun _ _ _ h => h) (Or.inl ⟨by rfl, ?_⟩) (by assumption) ?_
    rotate_left
    · (intro w hSw; (try dsimp only at hSw); go_simp; (first | done | with_reducible rfl))
    try simp only [Act.put, List.setIfInBounds_toArray, List.set_cons_zero, List.set_cons_succ]
    refine wpAnyH_take (i := 3) (v := ?_) (ata (atS (atS (atS at0)))) (by kernel_rfl) (by kernel_rfl) (by kernel_rfl) (fun _ _ _ h => h) (Or.inl ⟨by rfl, ?_⟩) (by assumption) ?_
    rotate_left
    · (intro w hSw; (try dsimp only at hSw); go_simp; (first | done | with_reducible rfl))
    try simp only [Act.put, List.setIfInBounds_toArray, List.set_cons_zero, List.set_cons_succ]
    refine wpAnyH_take (i := 4) (v := ?_) (ata (atS (atS (atS (atS at0))))) (by kernel_rfl) (by kernel_rfl) (by kernel_rfl) (fun _ _ _ h => h) (Or.inl ⟨by rfl, ?_⟩) (by assumption) ?_
    rotate_left
    · (intro w hSw; (try dsimp only at hSw); go_simp; (first | done | with_reducible rfl))
    try simp only [Act.put, List.setIfInBounds_toArray, List.set_cons_zero, List.set_cons_succ]
    refine wpAnyH_take (i := 5) (v := ?_) (ata (atS (atS (atS (atS (atS at0)))))) (by kernel_rfl) (by kernel_rfl) (by kernel_rfl) (fun _ _ _ h => h) (Or.inl ⟨by rfl, ?_⟩) (by assumption) ?_
    rotate_left
    · (intro w hSw; (try dsimp only at hSw); go_simp; (first | done | with_reducible rfl))
    try simp only [Act.put, List.setIfInBounds_toArray, List.set_cons_zero, List.set_cons_succ]
    refine wpAnyH_take (i := 6) (v := ?_) (ata (atS (atS (atS (atS (atS (atS at0))))))) (by kernel_rfl) (by kernel_rfl) (by kernel_rfl) (fun _ _ _ h => h) (Or.inl ⟨by rfl, ?_⟩) (by assumption) ?_
    rotate_left
    · (intro w hSw; (try dsimp only at hSw); go_simp; (first | done | with_reducible rfl))
    try simp only [Act.put, List.setIfInBounds_toArray, List.set_cons_zero, List.set_cons_succ]
    refine wpAnyH_take (i := 7) (v := ?_) (ata (atS (atS (atS (atS (atS (atS (atS at0)))))))) (by kernel_rfl) (by kernel_rfl) (by kernel_rfl) (fun _ _ _ h => h) (Or.inl ⟨by rfl, ?_⟩) (by assumption) ?_
    rotate_left
    · (intro w hSw; (try dsimp only at hSw); go_simp; (first | done | with_reducible rfl))
    try simp only [Act.put, List.setIfInBounds_toArray, List.set_cons_zero, List.set_cons_succ]
    refine wpAnyH_take (i := 9) (v := ?_) (ata (atS (atS (atS (atS (atS (atS (atS (atS (atS at0)))))))))) (by kernel_rfl) (by kernel_rfl) (by kernel_rfl) (fun _ _ _ h => h) (Or.inl ⟨by rfl, ?_⟩) (by assumption) ?_
    rotate_left
    · (intro w hSw; (try dsimp only at hSw); go_simp; (first | done | with_reducible rfl))
    try simp only [Act.put, List.setIfInBounds_toArray, List.set_cons_zero, List.set_cons_succ]
    refine wpAnyH_take (i := 10) (v := ?_) (ata (atS (atS (atS (atS (atS (atS (atS (atS (atS (atS at0))))))))))) (by kernel_rfl) (by kernel_rfl) (by kernel_rfl) (fun _ _ _ h => h) (Or.inl ⟨by rfl, ?_⟩) (by assumption) ?_
    rotate_left
    · (intro w hSw; (try dsimp only at hSw); go_simp; (first | done | with_reducible rfl))
    try simp only [Act.put, List.setIfInBounds_toArray, List.set_cons_zero, List.set_cons_succ]
    refine wpAnyH_ready (rs := [8]) (by kernel_rfl) (by simp) ?_
    refine AllReadyH.cons (ata (atS (atS (atS (atS (atS (atS (atS (atS at0))))))))) (fun K hK => ?_) AllReadyH.nil
    go_simp
    (go_at_call 12; (with_reducible refine (Free_yes ((Xd.next HY.out).w hd1 hd2) hvD).mono ?_); rintro e w1 ⟨rfl, hb1⟩; rw [HFD.out]; have hY := HY.out.trans (hb1.mono HY.out.size); have HY := Lib.hid hY; clear a0 a1 a2 a3 a4 a5 a6 a7 a8 a9 xd0 xd1 xd2 xd3 xd4 xd5 xd6; have hA := A.next hY; have hD := Xd.next hY; have a0 := hA.pb.k0; have a1 := hA.pb.k1; have a2 := hA.pb.k2; have a3 := hA.pb.k3; have a4 := hA.pb.k4; have a5 := hA.pb.k5; have a6 := hA.pb.k6; have a7 := hA.pb.k7; have a8 := hA.pb.k8; have a9 := hA.pb.k9; have xd0 := hD.pb.k0; have xd1 := hD.pb.k1; have xd2 := hD.pb.k2; have xd3 := hD.pb.k3; have xd4 := hD.pb.k4; have xd5 := hD.pb.k5; have xd6 := hD.pb.k6; clear hb1 hY hA hD)
    go_wp2_with fail
    refine hK.out _ _ (by first | (go_keep; done) | (dsimp only; go_keep)) (fun hHeld => ?_)
    clear hK K
    try simp only [Act.put, List.setIfInBounds_toArray, List.set_cons_zero, List.set_cons_succ]
    refine wpAnyH_ready (rs := [11]) (by kernel_rfl) (by simp) ?_
    refine AllReadyH.cons (ata (atS (atS (atS (atS (atS (atS (atS (atS (atS (atS (atS at0)))))))))))) (fun K hK => ?_) AllReadyH.nil
    go_simp
    (go_at_call 12; (with_reducible refine (Free_yes ((A.next HY.out).w hl1 hl2) hv0).mono ?_); rintro e w1 ⟨rfl, hb1⟩; have hY := HY.out.trans (hb1.mono HY.out.size); have HY := Lib.hid hY; clear a0 a1 a2 a3 a4 a5 a6 a7 a8 a9 xd0 xd1 xd2 xd3 xd4 xd5 xd6; have hA := A.next hY; have hD := Xd.next hY; have a0 := hA.pb.k0; have a1 := hA.pb.k1; have a2 := hA.pb.k2; have a3 := hA.pb.k3; have a4 := hA.pb.k4; have a5 := hA.pb.k5; have a6 := hA.pb.k6; have a7 := hA.pb.k7; have a8 := hA.pb.k8; have a9 := hA.pb.k9; have xd0 := hD.pb.k0; have xd1 := hD.pb.k1; have xd2 := hD.pb.k2; have xd3 := hD.pb.k3; have xd4 := hD.pb.k4; have xd5 := hD.pb.k5; have xd6 := hD.pb.k6; clear hb1 hY hA hD)
    go_wp2_with fail
    refine hK.out _ _ (by first | (go_keep; done) | (dsimp only; go_keep)) (fun hHeld => ?_)
    clear hK K
    try simp only [Act.put, List.setIfInBounds_toArray, List.set_cons_zero, List.set_cons_succ]
    refine wpAnyH_take (i := 12) (v := ?_) (ata (atS (atS (atS (atS (atS (atS (atS (atS (atS (atS (atS (atS at0))))))))))))) (by kernel_rfl) (by kernel_rfl) (by kernel_rfl) (fun _ _ _ h => h) (Or.inl ⟨by rfl, ?_⟩) (by assumption) ?_
    rotate_left
    · (intro w hSw; (try dsimp only at hSw); go_simp; (first | done | with_reducible rfl))
    try simp only [Act.put, List.setIfInBounds_toArray, List.set_cons_zero, List.set_cons_succ]
    refine wpAnyH_take (i := 13) (v := ?_) (ata (atS (atS (atS (atS (atS (atS (atS (atS (atS (atS (atS (atS (atS at0)))))))))))))) (by kernel_rfl) (by kernel_rfl) (by kernel_rfl) (fun _ _ _ h => h) (Or.inl ⟨by rfl, ?_⟩) (by assumption) ?_
    rotate_left
    · (intro w hSw; (try dsimp only at hSw); go_simp; (first | done | with_reducible rfl))
    try simp only [Act.put, List.setIfInBounds_toArray, List.set_cons_zero, List.set_cons_succ]
    refine wpAnyH_take (i := 14) (v := ?_) (ata (atS (atS (atS (atS (atS (atS (atS (atS (atS (atS (atS (atS (atS (atS at0))))))))))))))) (by kernel_rfl) (by kernel_rfl) (by kernel_rfl) (fun _ _ _ h => h) (Or.inl ⟨by rfl, ?_⟩) (by assumption) ?_
    rotate_left
    · (intro w hSw; (try dsimp only at hSw); go_simp; (first | done | with_reducible rfl))
    try simp only [Act.put, List.setIfInBounds_toArray, List.set_cons_zero, List.set_cons_succ]
    refine wpAnyH_take (i := 15) (v := ?_) (ata (atS (atS (atS (atS (atS (atS (atS (atS (atS (atS (atS (atS (atS (atS (atS at0)))))))))))))))) (by kernel_rfl) (by kernel_rfl) (by kernel_rfl) (fun _ _ _ h => h) (Or.inl ⟨by rfl, ?_⟩) (by assumption) ?_
    rotate_left
    · (intro w hSw; (try dsimp only at hSw); go_simp; (first | done | with_reducible rfl))
    try simp only [Act.put, List.setIfInBounds_toArray, List.set_cons_zero, List.set_cons_succ]
    refine wpAnyH_take (i := 16) (v := ?_) (ata (atS (atS (atS (atS (atS (atS (atS (atS (atS (atS (atS (atS (atS (atS (atS (atS at0))))))))))))))))) (by kernel_rfl) (by kernel_rfl) (by kernel_rfl) (fun _ _ _ h => h) (Or.inl ⟨by rfl, ?_⟩) (by assumption) ?_
    rotate_left
    · (intro w hSw; (try dsimp only at hSw); go_simp; (first | done | with_reducible rfl))
    try simp only [Act.put, List.setIfInBounds_toArray, List.set_cons_zero, List.set_cons_succ]
    refine wpAnyH_take (i := 17) (v := ?_) (ata (atS (atS (atS (atS (atS (atS (atS (atS (atS (atS (atS (atS (atS (atS (atS (atS (atS at0)))))))))))))))))) (by kernel_rfl) (by kernel_rfl) (by kernel_rfl) (fun _ _ _ h => h) (Or.inl ⟨by rfl, ?_⟩) (by assumption) ?_
    rotate_left
    · (intro w hSw; (try dsimp only at hSw); go_simp; (first | done | with_reducible rfl))
    try simp only [Act.put, List.setIfInBounds_toArray, List.set_cons_zero, List.set_cons_succ]
    refine wpAnyH_take (i := 18) (v := undef) (ata (atS (atS (atS (atS (atS (atS (atS (atS (atS (atS (atS (atS (atS (atS (atS (atS (atS (atS at0))))))))))))))))))) (by kernel_rfl) (by kernel_rfl) (by kernel_rfl) (fun _ _ _ h => h) (Or.inr ⟨by rfl, rfl⟩) (by assumption) ?_
    try simp only [Act.put, List.setIfInBounds_toArray, List.set_cons_zero, List.set_cons_succ]
    refine wpAnyH_take (i := 19) (v := undef) (ata (atS (atS (atS (atS (atS (atS (atS (atS (atS (atS (atS (atS (atS (atS (atS (atS (atS (atS (atS at0)))))))))))))))))))) (by kernel_rfl) (by kernel_rfl) (by kernel_rfl) (fun _ _ _ h => h) (Or.inr ⟨by rfl, rfl⟩) (by assumption) ?_
    try simp only [Act.put, List.setIfInBounds_toArray, List.set_cons_zero, List.set_cons_succ]
    refine wpAnyH_take (i := 20) (v := ?_) (ata (atS (atS (atS (atS (atS (atS (atS (atS (atS (atS (atS (atS (atS (atS (atS (atS (atS (atS (atS (atS at0))))))))))))))))))))) (by kernel_rfl) (by kernel_rfl) (by kernel_rfl) (fun _ _ _ h => h) (Or.inl ⟨by rfl, ?_⟩) (by assumption) ?_
    rotate_left
    · (intro w hSw; (try dsimp only at hSw); go_simp; (first | done | with_reducible rfl))
    try simp only [Act.put, List.setIfInBounds_toArray, List.set_cons_zero, List.set_cons_succ]
    refine wpAnyH_take (i := 21) (v := ?_) (ata (atS (atS (atS (atS (atS (atS (atS (atS (atS (atS (atS (atS (atS (atS (atS (atS (atS (atS (atS (atS (atS at0)))))))))))))))))))))) (by kernel_rfl) (by kernel_rfl) (by kernel_rfl) (fun _ _ _ h => h) (Or.inl ⟨by rfl, ?_⟩) (by assumption) ?_
    rotate_left
    · (intro w hSw; (try dsimp only at hSw); go_simp; (first | done | with_reducible rfl))
    try simp only [Act.put, List.setIfInBounds_toArray, List.set_cons_zero, List.set_cons_succ]
    refine wpAnyH_done (by kernel_rfl) ?_ _
    have hx8 := HY.out
    replace A := A.next hx8
    replace Xd := Xd.next hx8
    replace Xo := Xo.next hx8
    replace HB := Lib.hid (HB.out.trans (hx8.mono HB.out.size))
    have xo0 := Xo.pb.k0; have xo1 := Xo.pb.k1; have xo2 := Xo.pb.k2; have xo3 := Xo.pb.k3; have xo4 := Xo.pb.k4; have xo5 := Xo.pb.k5; have xo6 := Xo.pb.k6
    clear HY hx8
    have hdp := HDP.out
    go_upto_region 11 with fail
    clear hdp
    rcases he2 with he2 | ⟨he2, he3⟩
    · go_wp2_with fail
      refine Calls.mono (head_any _) ?_
      rintro e z13 ⟨rfl, hb⟩
      clear a0 a1 a2 a3 a4 a5 a6 a7 a8 a9 xd0 xd1 xd2 xd3 xd4 xd5 xd6 xo0 xo1 xo2 xo3 xo4 xo5 xo6
      have hx13 : RowKit.Below w1.heap.size w1 z13 := by
        refine Below.trans ?_ (hb.mono ?_)
        · (first | exact Below.refl _ _ | exact (Below.refl _ _).alloc (by simp) _ | exact ((Below.refl _ _).alloc (by simp) _).alloc (by simp) _ | exact (((Below.refl _ _).alloc (by simp) _).alloc (by simp) _).alloc (by simp) _)
        · first | exact Nat.le_refl _ | (simp; done) | (simp; omega)
      replace A := A.next hx13
      replace Xd := Xd.next hx13
      replace Xo := Xo.next hx13
      replace HB := Lib.hid (HB.out.trans (hx13.mono HB.out.size))
      have a0 := A.pb.k0; have a1 := A.pb.k1; have a2 := A.pb.k2; have a3 := A.pb.k3; have a4 := A.pb.k4; have a5 := A.pb.k5; have a6 := A.pb.k6; have a7 := A.pb.k7; have a8 := A.pb.k8; have a9 := A.pb.k9
      have xd0 := Xd.pb.k0; have xd1 := Xd.pb.k1; have xd2 := Xd.pb.k2; have xd3 := Xd.pb.k3; have xd4 := Xd.pb.k4; have xd5 := Xd.pb.k5; have xd6 := Xd.pb.k6
      have xo0 := Xo.pb.k0; have xo1 := Xo.pb.k1; have xo2 := Xo.pb.k2; have xo3 := Xo.pb.k3; have xo4 := Xo.pb.k4; have xo5 := Xo.pb.k5; have xo6 := Xo.pb.k6
      clear hb hx13
      go_wp2_with fail
      go_ret
      exact ⟨rfl, HB.out⟩
    · go_wp2_with fail
      refine Calls.mono (head_any _) ?_
      rintro e z13 ⟨rfl, hb⟩
      clear a0 a1 a2 a3 a4 a5 a6 a7 a8 a9 xd0 xd1 xd2 xd3 xd4 xd5 xd6 xo0 xo1 xo2 xo3 xo4 xo5 xo6
      have hx13 : RowKit.Below w1.heap.size w1 z13 := by
        refine Below.trans ?_ (hb.mono ?_)
        · (first | exact Below.refl _ _ | exact (Below.refl _ _).alloc (by simp) _ | exact ((Below.refl _ _).alloc (by simp) _).alloc (by simp) _ | exact (((Below.refl _ _).alloc (by simp) _).alloc (by simp) _).alloc (by simp) _)
        · first | exact Nat.le_refl _ | (simp; done) | (simp; omega)
      replace A := A.next hx13
      replace Xd := Xd.next hx13
      replace Xo := Xo.next hx13
      replace HB := Lib.hid (HB.out.trans (hx13.mono HB.out.size))
      have a0 := A.pb.k0; have a1 := A.pb.k1; have a2 := A.pb.k2; have a3 := A.pb.k3; have a4 := A.pb.k4; have a5 := A.pb.k5; have a6 := A.pb.k6; have a7 := A.pb.k7; have a8 := A.pb.k8; have a9 := A.pb.k9
      have xd0 := Xd.pb.k0; have xd1 := Xd.pb.k1; have xd2 := Xd.pb.k2; have xd3 := Xd.pb.k3; have xd4 := Xd.pb.k4; have xd5 := Xd.pb.k5; have xd6 := Xd.pb.k6
      have xo0 := Xo.pb.k0; have xo1 := Xo.pb.k1; have xo2 := Xo.pb.k2; have xo3 := Xo.pb.k3; have xo4 := Xo.pb.k4; have xo5 := Xo.pb.k5; have xo6 := Xo.pb.k6
      clear hb hx13
      go_wp2_with fail
      go_ret
      exact ⟨rfl, HB.out⟩
  · obtain ⟨hg2, hg3⟩ := hg2
    have HY : Hid (RowKit.Below y12.heap.size y12 y12.drew) := (Below.refl _ y12).drew
    go_region_held3 (fun W => W.cell? ⟨w.heap.size, 0, none⟩ = some (.int .i64 p.size) ∧ W.cell? ⟨w.heap.size, 1, none⟩ = some (.int .i64 p.grain) ∧ W.cell? ⟨w.heap.size, 2, none⟩ = some (.int .i64 p.quota) ∧ W.cell? ⟨w.heap.size, 3, none⟩ = some (.bool p.drain) ∧ W.cell? ⟨w.heap.size, 4, none⟩ = some (.bool p.best) ∧ W.cell? ⟨w.heap.size, 5, none⟩ = some (.slice pf p.free.length cf) ∧ W.cell? ⟨w.heap.size, 6, none⟩ = some (.slice pu p.uses.length cu) ∧ W.cell? ⟨w.heap.size, 7, none⟩ = some (.string su) ∧ W.cell? ⟨w.heap.size, 8, none⟩ = some (.int .i64 n) ∧ W.cell? ⟨w.heap.size, 9, none⟩ = some (.slice pl l.length cl) ∧ W.cell? ⟨z5.heap.size, 0, none⟩ = some (.int .i64 D.size) ∧ W.cell? ⟨z5.heap.size, 1, none⟩ = some (.int .i64 D.grain) ∧ W.cell? ⟨z5.heap.size, 2, none⟩ = some (.int .i64 D.quota) ∧ W.cell? ⟨z5.heap.size, 3, none⟩ = some (.bool D.drain) ∧ W.cell? ⟨z5.heap.size, 4, none⟩ = some (.bool D.best) ∧ W.cell? ⟨z5.heap.size, 5, none⟩ = some (.slice afd D.free.length cfd) ∧ W.cell? ⟨z5.heap.size, 6, none⟩ = some (.slice aud D.uses.length cud)) (go_keep) (first | (go_at_call 12; (with_reducible refine (Free_yes ((Xd.next HY.out).w hd1 hd2) hvD).mono ?_); rintro e w1 ⟨rfl, hb1⟩; rw [HFD.out]; have hY := HY.out.trans (hb1.mono HY.out.size); have HY := Lib.hid hY; clear a0 a1 a2 a3 a4 a5 a6 a7 a8 a9 xd0 xd1 xd2 xd3 xd4 xd5 xd6; have hA := A.next hY; have hD := Xd.next hY; have a0 := hA.pb.k0; have a1 := hA.pb.k1; have a2 := hA.pb.k2; have a3 := hA.pb.k3; have a4 := hA.pb.k4; have a5 := hA.pb.k5; have a6 := hA.pb.k6; have a7 := hA.pb.k7; have a8 := hA.pb.k8; have a9 := hA.pb.k9; have xd0 := hD.pb.k0; have xd1 := hD.pb.k1; have xd2 := hD.pb.k2; have xd3 := hD.pb.k3; have xd4 := hD.pb.k4; have xd5 := hD.pb.k5; have xd6 := hD.pb.k6; clear hb1 hY hA hD) | (go_at_call 12; (with_reducible refine (Free_yes ((A.next HY.out).w hl1 hl2) hv0).mono ?_); rintro e w1 ⟨rfl, hb1⟩; have hY := HY.out.trans (hb1.mono HY.out.size); have HY := Lib.hid hY; clear a0 a1 a2 a3 a4 a5 a6 a7 a8 a9 xd0 xd1 xd2 xd3 xd4 xd5 xd6; have hA := A.next hY; have hD := Xd.next hY; have a0 := hA.pb.k0; have a1 := hA.pb.k1; have a2 := hA.pb.k2; have a3 := hA.pb.k3; have a4 := hA.pb.k4; have a5 := hA.pb.k5; have a6 := hA.pb.k6; have a7 := hA.pb.k7; have a8 := hA.pb.k8; have a9 := hA.pb.k9; have xd0 := hD.pb.k0; have xd1 := hD.pb.k1; have xd2 := hD.pb.k2; have xd3 := hD.pb.k3; have xd4 := hD.pb.k4; have xd5 := hD.pb.k5; have xd6 := hD.pb.k6; clear hb1 hY hA hD))
    have hx8 := HY.out
    replace A := A.next hx8
    replace Xd := Xd.next hx8
    replace Xo := Xo.next hx8
    replace HB := Lib.hid (HB.out.trans (hx8.mono HB.out.size))
    have xo0 := Xo.pb.k0; have xo1 := Xo.pb.k1; have xo2 := Xo.pb.k2; have xo3 := Xo.pb.k3; have xo4 := Xo.pb.k4; have xo5 := Xo.pb.k5; have xo6 := Xo.pb.k6
    clear HY hx8
    have hdp := HDP.out
    go_upto_region 11 with fail
    clear hdp
    rcases he2 with he2 | ⟨he2, he3⟩
    · go_wp2_with fail
      refine Calls.mono (head_any _) ?_
      rintro e z13 ⟨rfl, hb⟩
      clear a0 a1 a2 a3 a4 a5 a6 a7 a8 a9 xd0 xd1 xd2 xd3 xd4 xd5 xd6 xo0 xo1 xo2 xo3 xo4 xo5 xo6
      have hx13 : RowKit.Below w1.heap.size w1 z13 := by
        refine Below.trans ?_ (hb.mono ?_)
        · (first | exact Below.refl _ _ | exact (Below.refl _ _).alloc (by simp) _ | exact ((Below.refl _ _).alloc (by simp) _).alloc (by simp) _ | exact (((Below.refl _ _).alloc (by simp) _).alloc (by simp) _).alloc (by simp) _)
        · first | exact Nat.le_refl _ | (simp; done) | (simp; omega)
      replace A := A.next hx13
      replace Xd := Xd.next hx13
      replace Xo := Xo.next hx13
      replace HB := Lib.hid (HB.out.trans (hx13.mono HB.out.size))
      have a0 := A.pb.k0; have a1 := A.pb.k1; have a2 := A.pb.k2; have a3 := A.pb.k3; have a4 := A.pb.k4; have a5 := A.pb.k5; have a6 := A.pb.k6; have a7 := A.pb.k7; have a8 := A.pb.k8; have a9 := A.pb.k9
      have xd0 := Xd.pb.k0; have xd1 := Xd.pb.k1; have xd2 := Xd.pb.k2; have xd3 := Xd.pb.k3; have xd4 := Xd.pb.k4; have xd5 := Xd.pb.k5; have xd6 := Xd.pb.k6
      have xo0 := Xo.pb.k0; have xo1 := Xo.pb.k1; have xo2 := Xo.pb.k2; have xo3 := Xo.pb.k3; have xo4 := Xo.pb.k4; have xo5 := Xo.pb.k5; have xo6 := Xo.pb.k6
      clear hb hx13
      go_wp2_with fail
      go_ret
      exact ⟨rfl, HB.out⟩
    · go_wp2_with fail
      refine Calls.mono (head_any _) ?_
      rintro e z13 ⟨rfl, hb⟩
      clear a0 a1 a2 a3 a4 a5 a6 a7 a8 a9 xd0 xd1 xd2 xd3 xd4 xd5 xd6 xo0 xo1 xo2 xo3 xo4 xo5 xo6
      have hx13 : RowKit.Below w1.heap.size w1 z13 := by
        refine Below.trans ?_ (hb.mono ?_)
        · (first | exact Below.refl _ _ | exact (Below.refl _ _).alloc (by simp) _ | exact ((Below.refl _ _).alloc (by simp) _).alloc (by simp) _ | exact (((Below.refl _ _).alloc (by simp) _).alloc (by simp) _).alloc (by simp) _)
        · first | exact Nat.le_refl _ | (simp; done) | (simp; omega)
      replace A := A.next hx13
      replace Xd := Xd.next hx13
      replace Xo := Xo.next hx13
      replace HB := Lib.hid (HB.out.trans (hx13.mono HB.out.size))
      have a0 := A.pb.k0; have a1 := A.pb.k1; have a2 := A.pb.k2; have a3 := A.pb.k3; have a4 := A.pb.k4; have a5 := A.pb.k5; have a6 := A.pb.k6; have a7 := A.pb.k7; have a8 := A.pb.k8; have a9 := A.pb.k9
      have xd0 := Xd.pb.k0; have xd1 := Xd.pb.k1; have xd2 := Xd.pb.k2; have xd3 := Xd.pb.k3; have xd4 := Xd.pb.k4; have xd5 := Xd.pb.k5; have xd6 := Xd.pb.k6
      have xo0 := Xo.pb.k0; have xo1 := Xo.pb.k1; have xo2 := Xo.pb.k2; have xo3 := Xo.pb.k3; have xo4 := Xo.pb.k4; have xo5 := Xo.pb.k5; have xo6 := Xo.pb.k6
      clear hb hx13
      go_wp2_with fail
      go_ret
      exact ⟨rfl, HB.out⟩
set_option maxHeartbeats 8000000 in
theorem room_A {w : World} {vf vu vl : Value} {p : Pl} {l : List X} (hf : Rd w vf p.free) (hu : RdU w vu p.uses) (hl : Rd w vl l) (u : Nm) (n : Int) (hgr : grB p.free.length p.uses.length l.length (str u).size = false)(hl1 : p.free.length ≤ 1000) (hl2 : p.uses.length ≤ 3800) (hv0 : po.Valid p) (hn : ¬ n < 1) (hdp : p.drain = false) (hgc : po.gcode p u n = 0) :
    Calls Try.prog 5 #[aggA p vf vu (str u) n vl] w (TellsB true w) := by
  obtain ⟨pf, cf, rfl⟩ := hf.len
  obtain ⟨pu, cu, rfl, _⟩ := hu.2
  obtain ⟨pl, cl, rfl⟩ := hl.len
  have mixed : Try.prog.follows .mixedOrders = true := by kernel_rfl
  obtain ⟨su, hsu⟩ : ∃ su, str u = su := ⟨_, rfl⟩
  have A : AX (w.alloc (.cells #[.int .i64 p.size, .int .i64 p.grain, .int .i64 p.quota, .bool p.drain, .bool p.best, .slice pf p.free.length cf, .slice pu p.uses.length cu, .string su, .int .i64 n, .slice pl l.length cl] 27)) w.heap.size p (.slice pf p.free.length cf) (.slice pu p.uses.length cu) su n (.slice pl l.length cl) l := AX.new hf hu hl su n
  obtain ⟨W0, hW0⟩ : ∃ W0, w.alloc (.cells #[.int .i64 p.size, .int .i64 p.grain, .int .i64 p.quota, .bool p.drain, .bool p.best, .slice pf p.free.length cf, .slice pu p.uses.length cu, .string su, .int .i64 n, .slice pl l.length cl] 27) = W0 := ⟨_, rfl⟩
  have HB : Hid (RowKit.Below w.heap.size w W0) := by show RowKit.Below _ _ _; rw [← hW0]; exact below_box _ _
  rw [hW0] at A
  clear hf hu hl
  have cg := great_any p pf pu pl p.free.length cf p.uses.length cu l.length cl (str u) n W0
  rw [hgr, hsu] at cg
  rw [hsu]
  have a0 := A.pb.k0; have a1 := A.pb.k1; have a2 := A.pb.k2; have a3 := A.pb.k3; have a4 := A.pb.k4; have a5 := A.pb.k5; have a6 := A.pb.k6; have a7 := A.pb.k7; have a8 := A.pb.k8; have a9 := A.pb.k9
  have HDP := Lib.hid hdp
  clear hdp
  have d0 : decide (n < 1) = false := decide_eq_false hn
  have hn0 : 0 < n := by omega
  clear hn
  go_enter Try.func5, Try.ntmps5
  go_wp2_with fail
  clear hW0
  refine Calls.mono (cg) ?_
  rintro e z1 ⟨rfl, hb⟩
  clear a0 a1 a2 a3 a4 a5 a6 a7 a8 a9
  clear cg
  have hx1 : RowKit.Below W0.heap.size W0 z1 := by
    refine Below.trans ?_ (hb.mono ?_)
    · (first | exact Below.refl _ _ | exact (Below.refl _ _).alloc (by simp) _ | exact ((Below.refl _ _).alloc (by simp) _).alloc (by simp) _ | exact (((Below.refl _ _).alloc (by simp) _).alloc (by simp) _).alloc (by simp) _)
    · first | exact Nat.le_refl _ | (simp; done) | (simp; omega)
  replace A := A.next hx1
  replace HB := Lib.hid (HB.out.trans (hx1.mono HB.out.size))
  have a0 := A.pb.k0; have a1 := A.pb.k1; have a2 := A.pb.k2; have a3 := A.pb.k3; have a4 := A.pb.k4; have a5 := A.pb.k5; have a6 := A.pb.k6; have a7 := A.pb.k7; have a8 := A.pb.k8; have a9 := A.pb.k9
  clear hb hx1
  go_wp2_with fail
  refine Calls.mono (Check_yes (A.w hl1 hl2) hv0) ?_
  rintro e z2 ⟨rfl, hb⟩
  clear a0 a1 a2 a3 a4 a5 a6 a7 a8 a9
  have hx2 : RowKit.Below z1.heap.size z1 z2 := by
    refine Below.trans ?_ (hb.mono ?_)
    · (first | exact Below.refl _ _ | exact (Below.refl _ _).alloc (by simp) _ | exact ((Below.refl _ _).alloc (by simp) _).alloc (by simp) _ | exact (((Below.refl _ _).alloc (by simp) _).alloc (by simp) _).alloc (by simp) _)
    · first | exact Nat.le_refl _ | (simp; done) | (simp; omega)
  replace A := A.next hx2
  replace HB := Lib.hid (HB.out.trans (hx2.mono HB.out.size))
  have a0 := A.pb.k0; have a1 := A.pb.k1; have a2 := A.pb.k2; have a3 := A.pb.k3; have a4 := A.pb.k4; have a5 := A.pb.k5; have a6 := A.pb.k6; have a7 := A.pb.k7; have a8 := A.pb.k8; have a9 := A.pb.k9
  clear hb hx2
  go_wp2_with fail
  have hgk := po.gcode_ok.1 hgc
  have hq1 : (po.gP p u n).free.length ≤ 1000 := by have := hgk.tf.lR; show (po.gR p n).length ≤ 1000; omega
  have hq2 : (po.gP p u n).uses.length ≤ 3900 := by have := len_with p.uses u (po.lk p.uses u + po.gr n p.grain); show (po.withU p.uses u _).length ≤ 3900; omega
  have hq3 : (po.gT p n).length ≤ 4000 := by have := hgk.tf.lT; omega
  refine Calls.mono ((by have := Grant_yes (A.w hl1 hl2) u n hgk; rwa [hsu] at this)) ?_
  rintro e z3 ⟨va, vt, rfl, hv, ht, hb⟩
  clear a0 a1 a2 a3 a4 a5 a6 a7 a8 a9
  obtain ⟨Q, hQ⟩ : ∃ Q, po.gP p u n = Q := ⟨_, rfl⟩
  obtain ⟨T, hT⟩ : ∃ T, po.gT p n = T := ⟨_, rfl⟩
  rw [hQ] at hv hq1 hq2; rw [hT] at ht hq3
  have HQ := Lib.hid hQ; have HT := Lib.hid hT; clear hQ hT
  obtain ⟨pt, ct, rfl⟩ := ht.len
  have hx3 : RowKit.Below z2.heap.size z2 z3 := by
    refine Below.trans ?_ (hb.mono ?_)
    · (first | exact Below.refl _ _ | exact (Below.refl _ _).alloc (by simp) _ | exact ((Below.refl _ _).alloc (by simp) _).alloc (by simp) _ | exact (((Below.refl _ _).alloc (by simp) _).alloc (by simp) _).alloc (by simp) _)
    · first | exact Nat.le_refl _ | (simp; done) | (simp; omega)
  replace A := A.next hx3
  replace HB := Lib.hid (HB.out.trans (hx3.mono HB.out.size))
  have a0 := A.pb.k0; have a1 := A.pb.k1; have a2 := A.pb.k2; have a3 := A.pb.k3; have a4 := A.pb.k4; have a5 := A.pb.k5; have a6 := A.pb.k6; have a7 := A.pb.k7; have a8 := A.pb.k8; have a9 := A.pb.k9
  clear hb hx3
  obtain ⟨vfq, vuq, rfl, hfq, huq⟩ := hv
  obtain ⟨afq, cfq, rfl⟩ := hfq.len
  obtain ⟨auq, cuq, rfl, _⟩ := huq.2
  have Xq : PX (z3.alloc (.cells #[.int .i64 Q.size, .int .i64 Q.grain, .int .i64 Q.quota, .bool Q.drain, .bool Q.best, .slice afq Q.free.length cfq, .slice auq Q.uses.length cuq] 25)) z3.heap.size Q (.slice afq Q.free.length cfq) (.slice auq Q.uses.length cuq) := PX.new hfq huq
  obtain ⟨y4, hy4⟩ : ∃ y, z3.alloc (.cells #[.int .i64 Q.size, .int .i64 Q.grain, .int .i64 Q.quota, .bool Q.drain, .bool Q.best, .slice afq Q.free.length cfq, .slice auq Q.uses.length cuq] 25) = y := ⟨_, rfl⟩
  have hx4 : RowKit.Below z3.heap.size z3 y4 := by rw [← hy4]; exact below_box _ _
  clear a0 a1 a2 a3 a4 a5 a6 a7 a8 a9
  replace A := A.next hx4
  replace ht := ht.next hx4
  replace HB := Lib.hid (HB.out.trans (hx4.mono HB.out.size))
  have a0 := A.pb.k0; have a1 := A.pb.k1; have a2 := A.pb.k2; have a3 := A.pb.k3; have a4 := A.pb.k4; have a5 := A.pb.k5; have a6 := A.pb.k6; have a7 := A.pb.k7; have a8 := A.pb.k8; have a9 := A.pb.k9
  rw [hy4] at Xq
  clear hfq huq
  have xq0 := Xq.pb.k0; have xq1 := Xq.pb.k1; have xq2 := Xq.pb.k2; have xq3 := Xq.pb.k3; have xq4 := Xq.pb.k4; have xq5 := Xq.pb.k5; have xq6 := Xq.pb.k6
  go_wp2_with fail
  clear hy4
  obtain ⟨D, hDD⟩ : ∃ D, ({ p with drain := true } : Pl) = D := ⟨_, rfl⟩
  have hvD : po.Valid D := by rw [← hDD]; exact hv0.dr true
  have hdD : D.drain = true := by rw [← hDD]
  have hfD : tot D.free = tot p.free := by rw [← hDD]
  have hd1 : D.free.length ≤ 1000 := by rw [← hDD]; exact hl1
  have hd2 : D.uses.length ≤ 3800 := by rw [← hDD]; exact hl2
  have hgD := po.gcode_drain (u := u) (n := n) hdD
  have HFD := Lib.hid hfD
  have HDD := Lib.hid hDD
  clear hdD hfD hDD
  refine Calls.mono (Drain_yes (A.w hl1 hl2) hv0 true) ?_
  rintro e z5 ⟨va, rfl, hv, hb⟩
  clear a0 a1 a2 a3 a4 a5 a6 a7 a8 a9 xq0 xq1 xq2 xq3 xq4 xq5 xq6
  rw [HDD.out] at hv
  have hx5 : RowKit.Below y4.heap.size y4 z5 := by
    refine Below.trans ?_ (hb.mono ?_)
    · (first | exact Below.refl _ _ | exact (Below.refl _ _).alloc (by simp) _ | exact ((Below.refl _ _).alloc (by simp) _).alloc (by simp) _ | exact (((Below.refl _ _).alloc (by simp) _).alloc (by simp) _).alloc (by simp) _)
    · first | exact Nat.le_refl _ | (simp; done) | (simp; omega)
  replace A := A.next hx5
  replace ht := ht.next hx5
  replace Xq := Xq.next hx5
  replace HB := Lib.hid (HB.out.trans (hx5.mono HB.out.size))
  have a0 := A.pb.k0; have a1 := A.pb.k1; have a2 := A.pb.k2; have a3 := A.pb.k3; have a4 := A.pb.k4; have a5 := A.pb.k5; have a6 := A.pb.k6; have a7 := A.pb.k7; have a8 := A.pb.k8; have a9 := A.pb.k9
  have xq0 := Xq.pb.k0; have xq1 := Xq.pb.k1; have xq2 := Xq.pb.k2; have xq3 := Xq.pb.k3; have xq4 := Xq.pb.k4; have xq5 := Xq.pb.k5; have xq6 := Xq.pb.k6
  clear hb hx5
  obtain ⟨vfd, vud, rfl, hfd, hud⟩ := hv
  obtain ⟨afd, cfd, rfl⟩ := hfd.len
  obtain ⟨aud, cud, rfl, _⟩ := hud.2
  have Xd : PX (z5.alloc (.cells #[.int .i64 D.size, .int .i64 D.grain, .int .i64 D.quota, .bool D.drain, .bool D.best, .slice afd D.free.length cfd, .slice aud D.uses.length cud] 25)) z5.heap.size D (.slice afd D.free.length cfd) (.slice aud D.uses.length cud) := PX.new hfd hud
  obtain ⟨y6, hy6⟩ : ∃ y, z5.alloc (.cells #[.int .i64 D.size, .int .i64 D.grain, .int .i64 D.quota, .bool D.drain, .bool D.best, .slice afd D.free.length cfd, .slice aud D.uses.length cud] 25) = y := ⟨_, rfl⟩
  have hx6 : RowKit.Below z5.heap.size z5 y6 := by rw [← hy6]; exact below_box _ _
  clear a0 a1 a2 a3 a4 a5 a6 a7 a8 a9 xq0 xq1 xq2 xq3 xq4 xq5 xq6
  replace A := A.next hx6
  replace ht := ht.next hx6
  replace Xq := Xq.next hx6
  replace HB := Lib.hid (HB.out.trans (hx6.mono HB.out.size))
  have a0 := A.pb.k0; have a1 := A.pb.k1; have a2 := A.pb.k2; have a3 := A.pb.k3; have a4 := A.pb.k4; have a5 := A.pb.k5; have a6 := A.pb.k6; have a7 := A.pb.k7; have a8 := A.pb.k8; have a9 := A.pb.k9
  have xq0 := Xq.pb.k0; have xq1 := Xq.pb.k1; have xq2 := Xq.pb.k2; have xq3 := Xq.pb.k3; have xq4 := Xq.pb.k4; have xq5 := Xq.pb.k5; have xq6 := Xq.pb.k6
  rw [hy6] at Xd
  clear hfd hud
  have xd0 := Xd.pb.k0; have xd1 := Xd.pb.k1; have xd2 := Xd.pb.k2; have xd3 := Xd.pb.k3; have xd4 := Xd.pb.k4; have xd5 := Xd.pb.k5; have xd6 := Xd.pb.k6
  go_wp2_with fail
  clear hy6
  refine Calls.mono ((by have := Grant_no (Xd.w hd1 hd2) u n (by rcases hgD with e | e <;> rw [e] <;> decide); rwa [hsu] at this)) ?_
  rintro e z7 ⟨rfl, hb⟩
  clear a0 a1 a2 a3 a4 a5 a6 a7 a8 a9 xq0 xq1 xq2 xq3 xq4 xq5 xq6 xd0 xd1 xd2 xd3 xd4 xd5 xd6
  have hx7 : RowKit.Below y6.heap.size y6 z7 := by
    refine Below.trans ?_ (hb.mono ?_)
    · (first | exact Below.refl _ _ | exact (Below.refl _ _).alloc (by simp) _ | exact ((Below.refl _ _).alloc (by simp) _).alloc (by simp) _ | exact (((Below.refl _ _).alloc (by simp) _).alloc (by simp) _).alloc (by simp) _)
    · first | exact Nat.le_refl _ | (simp; done) | (simp; omega)
  replace A := A.next hx7
  replace ht := ht.next hx7
  replace Xq := Xq.next hx7
  replace Xd := Xd.next hx7
  replace HB := Lib.hid (HB.out.trans (hx7.mono HB.out.size))
  have a0 := A.pb.k0; have a1 := A.pb.k1; have a2 := A.pb.k2; have a3 := A.pb.k3; have a4 := A.pb.k4; have a5 := A.pb.k5; have a6 := A.pb.k6; have a7 := A.pb.k7; have a8 := A.pb.k8; have a9 := A.pb.k9
  have xq0 := Xq.pb.k0; have xq1 := Xq.pb.k1; have xq2 := Xq.pb.k2; have xq3 := Xq.pb.k3; have xq4 := Xq.pb.k4; have xq5 := Xq.pb.k5; have xq6 := Xq.pb.k6
  have xd0 := Xd.pb.k0; have xd1 := Xd.pb.k1; have xd2 := Xd.pb.k2; have xd3 := Xd.pb.k3; have xd4 := Xd.pb.k4; have xd5 := Xd.pb.k5; have xd6 := Xd.pb.k6
  clear hb hx7
  generalize po.gcode D u n = g at *
  have hg2 : (g != 2) = false ∨ ((g != 2) = true ∧ (g != 9) = false) := by rcases hgD with e | e <;> subst e <;> simp
  have lta := A.pb.lt
  have ltxq := Xq.pb.lt
  have ltxd := Xd.pb.lt
  go_wp2_with fail
  clear lta
  clear ltxq
  clear ltxd
  obtain ⟨y8, hy8⟩ : ∃ y, z7.alloc (.cells #[.int .i64 0, .int .i64 0, .int .i64 0, .bool false, .bool false, .slice none 0 0, .slice none 0 0] 25) = y := ⟨_, rfl⟩
  have hx8 : RowKit.Below z7.heap.size z7 y8 := by rw [← hy8]; exact below_box _ _
  clear a0 a1 a2 a3 a4 a5 a6 a7 a8 a9 xq0 xq1 xq2 xq3 xq4 xq5 xq6 xd0 xd1 xd2 xd3 xd4 xd5 xd6
  replace A := A.next hx8
  replace ht := ht.next hx8
  replace Xq := Xq.next hx8
  replace Xd := Xd.next hx8
  replace HB := Lib.hid (HB.out.trans (hx8.mono HB.out.size))
  have a0 := A.pb.k0; have a1 := A.pb.k1; have a2 := A.pb.k2; have a3 := A.pb.k3; have a4 := A.pb.k4; have a5 := A.pb.k5; have a6 := A.pb.k6; have a7 := A.pb.k7; have a8 := A.pb.k8; have a9 := A.pb.k9
  have xq0 := Xq.pb.k0; have xq1 := Xq.pb.k1; have xq2 := Xq.pb.k2; have xq3 := Xq.pb.k3; have xq4 := Xq.pb.k4; have xq5 := Xq.pb.k5; have xq6 := Xq.pb.k6
  have xd0 := Xd.pb.k0; have xd1 := Xd.pb.k1; have xd2 := Xd.pb.k2; have xd3 := Xd.pb.k3; have xd4 := Xd.pb.k4; have xd5 := Xd.pb.k5; have xd6 := Xd.pb.k6
  rw [hy8]
  clear hy8
  obtain ⟨O, hOO⟩ : ∃ O, ({ D with drain := false } : Pl) = O := ⟨_, rfl⟩
  have hvO : po.Valid O := by rw [← hOO]; exact hvD.dr false
  have ho1 : O.free.length ≤ 1000 := by rw [← hOO]; exact hd1
  have ho2 : O.uses.length ≤ 3800 := by rw [← hOO]; exact hd2
  have HOO := Lib.hid hOO
  clear hOO
  refine Calls.mono (Drain_yes (Xd.w hd1 hd2) hvD false) ?_
  rintro e z9 ⟨va, rfl, hv, hb⟩
  clear a0 a1 a2 a3 a4 a5 a6 a7 a8 a9 xq0 xq1 xq2 xq3 xq4 xq5 xq6 xd0 xd1 xd2 xd3 xd4 xd5 xd6
  rw [HOO.out] at hv
  have hx9 : RowKit.Below y8.heap.size y8 z9 := by
    refine Below.trans ?_ (hb.mono ?_)
    · (first | exact Below.refl _ _ | exact (Below.refl _ _).alloc (by simp) _ | exact ((Below.refl _ _).alloc (by simp) _).alloc (by simp) _ | exact (((Below.refl _ _).alloc (by simp) _).alloc (by simp) _).alloc (by simp) _)
    · first | exact Nat.le_refl _ | (simp; done) | (simp; omega)
  replace A := A.next hx9
  replace ht := ht.next hx9
  replace Xq := Xq.next hx9
  replace Xd := Xd.next hx9
  replace HB := Lib.hid (HB.out.trans (hx9.mono HB.out.size))
  have a0 := A.pb.k0; have a1 := A.pb.k1; have a2 := A.pb.k2; have a3 := A.pb.k3; have a4 := A.pb.k4; have a5 := A.pb.k5; have a6 := A.pb.k6; have a7 := A.pb.k7; have a8 := A.pb.k8; have a9 := A.pb.k9
  have xq0 := Xq.pb.k0; have xq1 := Xq.pb.k1; have xq2 := Xq.pb.k2; have xq3 := Xq.pb.k3; have xq4 := Xq.pb.k4; have xq5 := Xq.pb.k5; have xq6 := Xq.pb.k6
  have xd0 := Xd.pb.k0; have xd1 := Xd.pb.k1; have xd2 := Xd.pb.k2; have xd3 := Xd.pb.k3; have xd4 := Xd.pb.k4; have xd5 := Xd.pb.k5; have xd6 := Xd.pb.k6
  clear hb hx9
  obtain ⟨vfo, vuo, rfl, hfo, huo⟩ := hv
  obtain ⟨afo, cfo, rfl⟩ := hfo.len
  obtain ⟨auo, cuo, rfl, _⟩ := huo.2
  have Xo : PX (z9.alloc (.cells #[.int .i64 O.size, .int .i64 O.grain, .int .i64 O.quota, .bool O.drain, .bool O.best, .slice afo O.free.length cfo, .slice auo O.uses.length cuo] 25)) z9.heap.size O (.slice afo O.free.length cfo) (.slice auo O.uses.length cuo) := PX.new hfo huo
  obtain ⟨y10, hy10⟩ : ∃ y, z9.alloc (.cells #[.int .i64 O.size, .int .i64 O.grain, .int .i64 O.quota, .bool O.drain, .bool O.best, .slice afo O.free.length cfo, .slice auo O.uses.length cuo] 25) = y := ⟨_, rfl⟩
  have hx10 : RowKit.Below z9.heap.size z9 y10 := by rw [← hy10]; exact below_box _ _
  clear a0 a1 a2 a3 a4 a5 a6 a7 a8 a9 xq0 xq1 xq2 xq3 xq4 xq5 xq6 xd0 xd1 xd2 xd3 xd4 xd5 xd6
  replace A := A.next hx10
  replace ht := ht.next hx10
  replace Xq := Xq.next hx10
  replace Xd := Xd.next hx10
  replace HB := Lib.hid (HB.out.trans (hx10.mono HB.out.size))
  have a0 := A.pb.k0; have a1 := A.pb.k1; have a2 := A.pb.k2; have a3 := A.pb.k3; have a4 := A.pb.k4; have a5 := A.pb.k5; have a6 := A.pb.k6; have a7 := A.pb.k7; have a8 := A.pb.k8; have a9 := A.pb.k9
  have xq0 := Xq.pb.k0; have xq1 := Xq.pb.k1; have xq2 := Xq.pb.k2; have xq3 := Xq.pb.k3; have xq4 := Xq.pb.k4; have xq5 := Xq.pb.k5; have xq6 := Xq.pb.k6
  have xd0 := Xd.pb.k0; have xd1 := Xd.pb.k1; have xd2 := Xd.pb.k2; have xd3 := Xd.pb.k3; have xd4 := Xd.pb.k4; have xd5 := Xd.pb.k5; have xd6 := Xd.pb.k6
  rw [hy10] at Xo
  clear hfo huo
  have xo0 := Xo.pb.k0; have xo1 := Xo.pb.k1; have xo2 := Xo.pb.k2; have xo3 := Xo.pb.k3; have xo4 := Xo.pb.k4; have xo5 := Xo.pb.k5; have xo6 := Xo.pb.k6
  go_wp2_with fail
  clear hy10
  have HOp : Hid (O = p) := by show O = p; rw [← HOO.out, ← HDD.out]; exact dr_back HDP.out
  refine Calls.mono ((by have := Grant_yes (Xo.w ho1 ho2) u n (by rw [HOp.out]; exact hgk); rwa [hsu] at this)) ?_
  rintro e z11 ⟨va, vt2, rfl, hv, ht2, hb⟩
  clear a0 a1 a2 a3 a4 a5 a6 a7 a8 a9 xq0 xq1 xq2 xq3 xq4 xq5 xq6 xd0 xd1 xd2 xd3 xd4 xd5 xd6 xo0 xo1 xo2 xo3 xo4 xo5 xo6
  rw [HOp.out, HQ.out] at hv; rw [HOp.out, HT.out] at ht2
  obtain ⟨pt2, ct2, rfl⟩ := ht2.len
  have hx11 : RowKit.Below y10.heap.size y10 z11 := by
    refine Below.trans ?_ (hb.mono ?_)
    · (first | exact Below.refl _ _ | exact (Below.refl _ _).alloc (by simp) _ | exact ((Below.refl _ _).alloc (by simp) _).alloc (by simp) _ | exact (((Below.refl _ _).alloc (by simp) _).alloc (by simp) _).alloc (by simp) _)
    · first | exact Nat.le_refl _ | (simp; done) | (simp; omega)
  replace A := A.next hx11
  replace ht := ht.next hx11
  replace Xq := Xq.next hx11
  replace Xd := Xd.next hx11
  replace Xo := Xo.next hx11
  replace HB := Lib.hid (HB.out.trans (hx11.mono HB.out.size))
  have a0 := A.pb.k0; have a1 := A.pb.k1; have a2 := A.pb.k2; have a3 := A.pb.k3; have a4 := A.pb.k4; have a5 := A.pb.k5; have a6 := A.pb.k6; have a7 := A.pb.k7; have a8 := A.pb.k8; have a9 := A.pb.k9
  have xq0 := Xq.pb.k0; have xq1 := Xq.pb.k1; have xq2 := Xq.pb.k2; have xq3 := Xq.pb.k3; have xq4 := Xq.pb.k4; have xq5 := Xq.pb.k5; have xq6 := Xq.pb.k6
  have xd0 := Xd.pb.k0; have xd1 := Xd.pb.k1; have xd2 := Xd.pb.k2; have xd3 := Xd.pb.k3; have xd4 := Xd.pb.k4; have xd5 := Xd.pb.k5; have xd6 := Xd.pb.k6
  have xo0 := Xo.pb.k0; have xo1 := Xo.pb.k1; have xo2 := Xo.pb.k2; have xo3 := Xo.pb.k3; have xo4 := Xo.pb.k4; have xo5 := Xo.pb.k5; have xo6 := Xo.pb.k6
  clear hb hx11
  obtain ⟨vfb, vub, rfl, hfb, hub⟩ := hv
  obtain ⟨afb, cfb, rfl⟩ := hfb.len
  obtain ⟨aub, cub, rfl, _⟩ := hub.2
  have Xb : PX (z11.alloc (.cells #[.int .i64 Q.size, .int .i64 Q.grain, .int .i64 Q.quota, .bool Q.drain, .bool Q.best, .slice afb Q.free.length cfb, .slice aub Q.uses.length cub] 25)) z11.heap.size Q (.slice afb Q.free.length cfb) (.slice aub Q.uses.length cub) := PX.new hfb hub
  obtain ⟨y12, hy12⟩ : ∃ y, z11.alloc (.cells #[.int .i64 Q.size, .int .i64 Q.grain, .int .i64 Q.quota, .bool Q.drain, .bool Q.best, .slice afb Q.free.length cfb, .slice aub Q.uses.length cub] 25) = y := ⟨_, rfl⟩
  have hx12 : RowKit.Below z11.heap.size z11 y12 := by rw [← hy12]; exact below_box _ _
  clear a0 a1 a2 a3 a4 a5 a6 a7 a8 a9 xq0 xq1 xq2 xq3 xq4 xq5 xq6 xd0 xd1 xd2 xd3 xd4 xd5 xd6 xo0 xo1 xo2 xo3 xo4 xo5 xo6
  replace A := A.next hx12
  replace ht := ht.next hx12
  replace Xq := Xq.next hx12
  replace Xd := Xd.next hx12
  replace Xo := Xo.next hx12
  replace ht2 := ht2.next hx12
  replace HB := Lib.hid (HB.out.trans (hx12.mono HB.out.size))
  have a0 := A.pb.k0; have a1 := A.pb.k1; have a2 := A.pb.k2; have a3 := A.pb.k3; have a4 := A.pb.k4; have a5 := A.pb.k5; have a6 := A.pb.k6; have a7 := A.pb.k7; have a8 := A.pb.k8; have a9 := A.pb.k9
  have xq0 := Xq.pb.k0; have xq1 := Xq.pb.k1; have xq2 := Xq.pb.k2; have xq3 := Xq.pb.k3; have xq4 := Xq.pb.k4; have xq5 := Xq.pb.k5; have xq6 := Xq.pb.k6
  have xd0 := Xd.pb.k0; have xd1 := Xd.pb.k1; have xd2 := Xd.pb.k2; have xd3 := Xd.pb.k3; have xd4 := Xd.pb.k4; have xd5 := Xd.pb.k5; have xd6 := Xd.pb.k6
  have xo0 := Xo.pb.k0; have xo1 := Xo.pb.k1; have xo2 := Xo.pb.k2; have xo3 := Xo.pb.k3; have xo4 := Xo.pb.k4; have xo5 := Xo.pb.k5; have xo6 := Xo.pb.k6
  rw [hy12] at Xb
  clear hfb hub
  have xb0 := Xb.pb.k0; have xb1 := Xb.pb.k1; have xb2 := Xb.pb.k2; have xb3 := Xb.pb.k3; have xb4 := Xb.pb.k4; have xb5 := Xb.pb.k5; have xb6 := Xb.pb.k6
  go_upto_region 8 with fail
  clear hy12
  rcases hg2 with hg2 | hg2
  · have HY : Hid (RowKit.Below y12.heap.size y12 y12.drew) := (Below.refl _ y12).drew
    refine wp_region_held_drew (S := (fun W => W.cell? ⟨w.heap.size, 0, none⟩ = some (.int .i64 p.size) ∧ W.cell? ⟨w.heap.size, 1, none⟩ = some (.int .i64 p.grain) ∧ W.cell? ⟨w.heap.size, 2, none⟩ = some (.int .i64 p.quota) ∧ W.cell? ⟨w.heap.size, 3, none⟩ = some (.bool p.drain) ∧ W.cell? ⟨w.heap.size, 4, none⟩ = some (.bool p.best) ∧ W.cell? ⟨w.heap.size, 5, none⟩ = some (.slice pf p.free.length cf) ∧ W.cell? ⟨w.heap.size, 6, none⟩ = some (.slice pu p.uses.length cu) ∧ W.cell? ⟨w.heap.size, 7, none⟩ = some (.string su) ∧ W.cell? ⟨w.heap.size, 8, none⟩ = some (.int .i64 n) ∧ W.cell? ⟨w.heap.size, 9, none⟩ = some (.slice pl l.length cl) ∧ W.cell? ⟨z5.heap.size, 0, none⟩ = some (.int .i64 D.size) ∧ W.cell? ⟨z5.heap.size, 1, none⟩ = some (.int .i64 D.grain) ∧ W.cell? ⟨z5.heap.size, 2, none⟩ = some (.int .i64 D.quota) ∧ W.cell? ⟨z5.heap.size, 3, none⟩ = some (.bool D.drain) ∧ W.cell? ⟨z5.heap.size, 4, none⟩ = some (.bool D.best) ∧ W.cell? ⟨z5.heap.size, 5, none⟩ = some (.slice afd D.free.length cfd) ∧ W.cell? ⟨z5.heap.size, 6, none⟩ = some (.slice aud D.uses.length cud))) (by kernel_rfl) (by first | (go_keep; done) | (dsimp only; go_keep)) (fun hHeld => ?_)
    refine wpAnyH_take (i := 0) (v := ?_) (ata at0) (by kernel_rfl) (by kernel_rfl) (by kernel_rfl) (fun _ _ _ h => h) (Or.inl ⟨by rfl, ?_⟩) (by assumption) ?_
    rotate_left
    · (intro w hSw; (try dsimp only at hSw); go_simp; (first | done | with_reducible rfl))
    try simp only [Act.put, List.setIfInBounds_toArray, List.set_cons_zero, List.set_cons_succ]
    refine wpAnyH_take (i := 1) (v := ?_) (ata (atS at0)) (by kernel_rfl) (by kernel_rfl) (by kernel_rfl) (fun _ _ _ h => h) (Or.inl ⟨by rfl, ?_⟩) (by assumption) ?_
    rotate_left
    · (intro w hSw; (try dsimp only at hSw); go_simp; (first | done | with_reducible rfl))
    try simp only [Act.put, List.setIfInBounds_toArray, List.set_cons_zero, List.set_cons_succ]
    refine wpAnyH_take (i := 2) (v := ?_) (ata (atS (atS at0))) (by kernel_rfl) (by kernel_rfl) (by kernel_rfl) (fun _ _ _ h => h) (Or.inl ⟨by rfl, ?_⟩) (by assumption) ?_
    rotate_left
    · (intro w hSw; (try dsimp only at hSw); go_simp; (first | done | with_reducible rfl))
    try simp only [Act.put, List.setIfInBounds_toArray, List.set_cons_zero, List.set_cons_succ]
    refine wpAnyH_take (i := 3) (v := ?_) (ata (atS (atS (atS at0)))) (by kernel_rfl) (by kernel_rfl) (by kernel_rfl) (fun _ _ _ h => h) (Or.inl ⟨by rfl, ?_⟩) (by assumption) ?_
    rotate_left
    · (intro w hSw; (try dsimp only at hSw); go_simp; (first | done | with_reducible rfl))
    try simp only [Act.put, List.setIfInBounds_toArray, List.set_cons_zero, List.set_cons_succ]
    refine wpAnyH_take (i := 4) (v := ?_) (ata (atS (atS (atS (atS at0))))) (by kernel_rfl) (by kernel_rfl) (by kernel_rfl) (fun _ _ _ h => h) (Or.inl ⟨by rfl, ?_⟩) (by assumption) ?_
    rotate_left
    · (intro w hSw; (try dsimp only at hSw); go_simp; (first | done | with_reducible rfl))
    try simp only [Act.put, List.setIfInBounds_toArray, List.set_cons_zero, List.set_cons_succ]
    refine wpAnyH_take (i := 5) (v := ?_) (ata (atS (atS (atS (atS (atS at0)))))) (by kernel_rfl) (by kernel_rfl) (by kernel_rfl) (fun _ _ _ h => h) (Or.inl ⟨by rfl, ?_⟩) (by assumption) ?_
    rotate_left
    · (intro w hSw; (try dsimp only at hSw); go_simp; (first | done | with_reducible rfl))
    try simp only [Act.put, List.setIfInBounds_toArray, List.set_cons_zero, List.set_cons_succ]
    refine wpAnyH_take (i := 6) (v := ?_) (ata (atS (atS (atS (atS (atS (atS at0))))))) (by kernel_rfl) (by kernel_rfl) (by kernel_rfl) (fun _ _ _ h => h) (Or.inl ⟨by rfl, ?_⟩) (by assumption) ?_
    rotate_left
    · (intro w hSw; (try dsimp only at hSw); go_simp; (first | done | with_reducible rfl))
    try simp only [Act.put, List.setIfInBounds_toArray, List.set_cons_zero, List.set_cons_succ]
    refine wpAnyH_take (i := 7) (v := ?_) (ata (atS (atS (atS (atS (atS (atS (atS at0)))))))) (by kernel_rfl) (by kernel_rfl) (by kernel_rfl) (fun _ _ _ h => h) (Or.inl ⟨by rfl, ?_⟩) (by assumption) ?_
    rotate_left
    · (intro w hSw; (try dsimp only at hSw); go_simp; (first | done | with_reducible rfl))
    try simp only [Act.put, List.setIfInBounds_toArray, List.set_cons_zero, List.set_cons_succ]
    refine wpAnyH_take (i := 9) (v := ?_) (ata (atS (atS (atS (atS (atS (atS (atS (atS (atS at0)))))))))) (by kernel_rfl) (by kernel_rfl) (by kernel_rfl) (fun _ _ _ h => h) (Or.inl ⟨by rfl, ?_⟩) (by assumption) ?_
    rotate_left
    · (intro w hSw; (try dsimp only at hSw); go_simp; (first | done | with_reducible rfl))
    try simp only [Act.put, List.setIfInBounds_toArray, List.set_cons_zero, List.set_cons_succ]
    refine wpAnyH_take (i := 10) (v := ?_) (ata (atS (atS (atS (atS (atS (atS (atS (atS (atS (atS at0))))))))))) (by kernel_rfl) (by kernel_rfl) (by kernel_rfl) (fun _ _ _ h => h) (Or.inl ⟨by rfl, ?_⟩) (by assumption) ?_
    rotate_left
    · (intro w hSw; (try dsimp only at hSw); go_simp; (first | done | with_reducible rfl))
    try simp only [Act.put, List.setIfInBounds_toArray, List.set_cons_zero, List.set_cons_succ]
    refine wpAnyH_ready (rs := [8]) (by kernel_rfl) (by simp) ?_
    refine AllReadyH.cons (ata (atS (atS (atS (atS (atS (atS (atS (atS at0))))))))) (fun K hK => ?_) AllReadyH.nil
    go_simp
    (go_at_call 12; (with_reducible refine (Free_yes ((Xd.next HY.out).w hd1 hd2) hvD).mono ?_); rintro e w1 ⟨rfl, hb1⟩; rw [HFD.out]; have hY := HY.out.trans (hb1.mono HY.out.size); have HY := Lib.hid hY; clear a0 a1 a2 a3 a4 a5 a6 a7 a8 a9 xd0 xd1 xd2 xd3 xd4 xd5 xd6; have hA := A.next hY; have hD := Xd.next hY; have a0 := hA.pb.k0; have a1 := hA.pb.k1; have a2 := hA.pb.k2; have a3 := hA.pb.k3; have a4 := hA.pb.k4; have a5 := hA.pb.k5; have a6 := hA.pb.k6; have a7 := hA.pb.k7; have a8 := hA.pb.k8; have a9 := hA.pb.k9; have xd0 := hD.pb.k0; have xd1 := hD.pb.k1; have xd2 := hD.pb.k2; have xd3 := hD.pb.k3; have xd4 := hD.pb.k4; have xd5 := hD.pb.k5; have xd6 := hD.pb.k6; clear hb1 hY hA hD)
    go_wp2_with fail
    refine hK.out _ _ (by first | (go_keep; done) | (dsimp only; go_keep)) (fun hHeld => ?_)
    clear hK K
    try simp only [Act.put, List.setIfInBounds_toArray, List.set_cons_zero, List.set_cons_succ]
    refine wpAnyH_ready (rs := [11]) (by kernel_rfl) (by simp) ?_
    refine AllReadyH.cons (ata (atS (atS (atS (atS (atS (atS (atS (atS (atS (atS (atS at0)))))))))))) (fun K hK => ?_) AllReadyH.nil
    go_simp
    (go_at_call 12; (with_reducible refine (Free_yes ((A.next HY.out).w hl1 hl2) hv0).mono ?_); rintro e w1 ⟨rfl, hb1⟩; have hY := HY.out.trans (hb1.mono HY.out.size); have HY := Lib.hid hY; clear a0 a1 a2 a3 a4 a5 a6 a7 a8 a9 xd0 xd1 xd2 xd3 xd4 xd5 xd6; have hA := A.next hY; have hD := Xd.next hY; have a0 := hA.pb.k0; have a1 := hA.pb.k1; have a2 := hA.pb.k2; have a3 := hA.pb.k3; have a4 := hA.pb.k4; have a5 := hA.pb.k5; have a6 := hA.pb.k6; have a7 := hA.pb.k7; have a8 := hA.pb.k8; have a9 := hA.pb.k9; have xd0 := hD.pb.k0; have xd1 := hD.pb.k1; have xd2 := hD.pb.k2; have xd3 := hD.pb.k3; have xd4 := hD.pb.k4; have xd5 := hD.pb.k5; have xd6 := hD.pb.k6; clear hb1 hY hA hD)
    go_wp2_with fail
    refine hK.out _ _ (by first | (go_keep; done) | (dsimp only; go_keep)) (fun hHeld => ?_)
    clear hK K
    try simp only [Act.put, List.setIfInBounds_toArray, List.set_cons_zero, List.set_cons_succ]
    refine wpAnyH_take (i := 12) (v := ?_) (ata (atS (atS (atS (atS (atS (atS (atS (atS (atS (atS (atS (atS at0))))))))))))) (by kernel_rfl) (by kernel_rfl) (by kernel_rfl) (fun _ _ _ h => h) (Or.inl ⟨by rfl, ?_⟩) (by assumption) ?_
    rotate_left
    · (intro w hSw; (try dsimp only at hSw); go_simp; (first | done | with_reducible rfl))
    try simp only [Act.put, List.setIfInBounds_toArray, List.set_cons_zero, List.set_cons_succ]
    refine wpAnyH_take (i := 13) (v := ?_) (ata (atS (atS (atS (atS (atS (atS (atS (atS (atS (atS (atS (atS (atS at0)))))))))))))) (by kernel_rfl) (by kernel_rfl) (by kernel_rfl) (fun _ _ _ h => h) (Or.inl ⟨by rfl, ?_⟩) (by assumption) ?_
    rotate_left
    · (intro w hSw; (try dsimp only at hSw); go_simp; (first | done | with_reducible rfl))
    try simp only [Act.put, List.setIfInBounds_toArray, List.set_cons_zero, List.set_cons_succ]
    refine wpAnyH_take (i := 14) (v := ?_) (ata (atS (atS (atS (atS (atS (atS (atS (atS (atS (atS (atS (atS (atS (atS at0))))))))))))))) (by kernel_rfl) (by kernel_rfl) (by kernel_rfl) (fun _ _ _ h => h) (Or.inl ⟨by rfl, ?_⟩) (by assumption) ?_
    rotate_left
    · (intro w hSw; (try dsimp only at hSw); go_simp; (first | done | with_reducible rfl))
    try simp only [Act.put, List.setIfInBounds_toArray, List.set_cons_zero, List.set_cons_succ]
    refine wpAnyH_take (i := 15) (v := ?_) (ata (atS (atS (atS (atS (atS (atS (atS (atS (atS (atS (atS (atS (atS (atS (atS at0)))))))))))))))) (by kernel_rfl) (by kernel_rfl) (by kernel_rfl) (fun _ _ _ h => h) (Or.inl ⟨by rfl, ?_⟩) (by assumption) ?_
    rotate_left
    · (intro w hSw; (try dsimp only at hSw); go_simp; (first | done | with_reducible rfl))
    try simp only [Act.put, List.setIfInBounds_toArray, List.set_cons_zero, List.set_cons_succ]
    refine wpAnyH_take (i := 16) (v := ?_) (ata (atS (atS (atS (atS (atS (atS (atS (atS (atS (atS (atS (atS (atS (atS (atS (atS at0))))))))))))))))) (by kernel_rfl) (by kernel_rfl) (by kernel_rfl) (fun _ _ _ h => h) (Or.inl ⟨by rfl, ?_⟩) (by assumption) ?_
    rotate_left
    · (intro w hSw; (try dsimp only at hSw); go_simp; (first | done | with_reducible rfl))
    try simp only [Act.put, List.setIfInBounds_toArray, List.set_cons_zero, List.set_cons_succ]
    refine wpAnyH_take (i := 17) (v := ?_) (ata (atS (atS (atS (atS (atS (atS (atS (atS (atS (atS (atS (atS (atS (atS (atS (atS (atS at0)))))))))))))))))) (by kernel_rfl) (by kernel_rfl) (by kernel_rfl) (fun _ _ _ h => h) (Or.inl ⟨by rfl, ?_⟩) (by assumption) ?_
    rotate_left
    · (intro w hSw; (try dsimp only at hSw); go_simp; (first | done | with_reducible rfl))
    try simp only [Act.put, List.setIfInBounds_toArray, List.set_cons_zero, List.set_cons_succ]
    refine wpAnyH_take (i := 18) (v := undef) (ata (atS (atS (atS (atS (atS (atS (atS (atS (atS (atS (atS (atS (atS (atS (atS (atS (atS (atS at0))))))))))))))))))) (by kernel_rfl) (by kernel_rfl) (by kernel_rfl) (fun _ _ _ h => h) (Or.inr ⟨by rfl, rfl⟩) (by assumption) ?_
    try simp only [Act.put, List.setIfInBounds_toArray, List.set_cons_zero, List.set_cons_succ]
    refine wpAnyH_take (i := 19) (v := undef) (ata (atS (atS (atS (atS (atS (atS (atS (atS (atS (atS (atS (atS (atS (atS (atS (atS (atS (atS (atS at0)))))))))))))))))))) (by kernel_rfl) (by kernel_rfl) (by kernel_rfl) (fun _ _ _ h => h) (Or.inr ⟨by rfl, rfl⟩) (by assumption) ?_
    try simp only [Act.put, List.setIfInBounds_toArray, List.set_cons_zero, List.set_cons_succ]
    refine wpAnyH_take (i := 20) (v := ?_) (ata (atS (atS (atS (atS (atS (atS (atS (atS (atS (atS (atS (atS (atS (atS (atS (atS (atS (atS (atS (atS at0))))))))))))))))))))) (by kernel_rfl) (by kernel_rfl) (by kernel_rfl) (fun _ _ _ h => h) (Or.inl ⟨by rfl, ?_⟩) (by assumption) ?_
    rotate_left
    · (intro w hSw; (try dsimp only at hSw); go_simp; (first | done | with_reducible rfl))
    try simp only [Act.put, List.setIfInBounds_toArray, List.set_cons_zero, List.set_cons_succ]
    refine wpAnyH_take (i := 21) (v := ?_) (ata (atS (atS (atS (atS (atS (atS (atS (atS (atS (atS (atS (atS (atS (atS (atS (atS (atS (atS (atS (atS (atS at0)))))))))))))))))))))) (by kernel_rfl) (by kernel_rfl) (by kernel_rfl) (fun _ _ _ h => h) (Or.inl ⟨by rfl, ?_⟩) (by assumption) ?_
    rotate_left
    · (intro w hSw; (try dsimp only at hSw); go_simp; (first | done | with_reducible rfl))
    try simp only [Act.put, List.setIfInBounds_toArray, List.set_cons_zero, List.set_cons_succ]
    refine wpAnyH_done (by kernel_rfl) ?_ _
    have hx8 := HY.out
    replace A := A.next hx8
    replace ht := ht.next hx8
    replace Xq := Xq.next hx8
    replace Xd := Xd.next hx8
    replace Xo := Xo.next hx8
    replace ht2 := ht2.next hx8
    replace Xb := Xb.next hx8
    replace HB := Lib.hid (HB.out.trans (hx8.mono HB.out.size))
    have xq0 := Xq.pb.k0; have xq1 := Xq.pb.k1; have xq2 := Xq.pb.k2; have xq3 := Xq.pb.k3; have xq4 := Xq.pb.k4; have xq5 := Xq.pb.k5; have xq6 := Xq.pb.k6
    have xo0 := Xo.pb.k0; have xo1 := Xo.pb.k1; have xo2 := Xo.pb.k2; have xo3 := Xo.pb.k3; have xo4 := Xo.pb.k4; have xo5 := Xo.pb.k5; have xo6 := Xo.pb.k6
    have xb0 := Xb.pb.k0; have xb1 := Xb.pb.k1; have xb2 := Xb.pb.k2; have xb3 := Xb.pb.k3; have xb4 := Xb.pb.k4; have xb5 := Xb.pb.k5; have xb6 := Xb.pb.k6
    clear HY hx8
    have hdp := HDP.out
    go_upto_region 12 with fail
    clear hdp
    go_wp2_with fail
    refine Calls.mono (PSame_yes Xq.v Xb.v (by omega) (by omega)) ?_
    rintro e z13 ⟨rfl, hb⟩
    clear a0 a1 a2 a3 a4 a5 a6 a7 a8 a9 xq0 xq1 xq2 xq3 xq4 xq5 xq6 xd0 xd1 xd2 xd3 xd4 xd5 xd6 xo0 xo1 xo2 xo3 xo4 xo5 xo6 xb0 xb1 xb2 xb3 xb4 xb5 xb6
    have hx13 : RowKit.Below w1.heap.size w1 z13 := by
      refine Below.trans ?_ (hb.mono ?_)
      · (first | exact Below.refl _ _ | exact (Below.refl _ _).alloc (by simp) _ | exact ((Below.refl _ _).alloc (by simp) _).alloc (by simp) _ | exact (((Below.refl _ _).alloc (by simp) _).alloc (by simp) _).alloc (by simp) _)
      · first | exact Nat.le_refl _ | (simp; done) | (simp; omega)
    replace A := A.next hx13
    replace ht := ht.next hx13
    replace Xq := Xq.next hx13
    replace Xd := Xd.next hx13
    replace Xo := Xo.next hx13
    replace ht2 := ht2.next hx13
    replace Xb := Xb.next hx13
    replace HB := Lib.hid (HB.out.trans (hx13.mono HB.out.size))
    have a0 := A.pb.k0; have a1 := A.pb.k1; have a2 := A.pb.k2; have a3 := A.pb.k3; have a4 := A.pb.k4; have a5 := A.pb.k5; have a6 := A.pb.k6; have a7 := A.pb.k7; have a8 := A.pb.k8; have a9 := A.pb.k9
    have xq0 := Xq.pb.k0; have xq1 := Xq.pb.k1; have xq2 := Xq.pb.k2; have xq3 := Xq.pb.k3; have xq4 := Xq.pb.k4; have xq5 := Xq.pb.k5; have xq6 := Xq.pb.k6
    have xd0 := Xd.pb.k0; have xd1 := Xd.pb.k1; have xd2 := Xd.pb.k2; have xd3 := Xd.pb.k3; have xd4 := Xd.pb.k4; have xd5 := Xd.pb.k5; have xd6 := Xd.pb.k6
    have xo0 := Xo.pb.k0; have xo1 := Xo.pb.k1; have xo2 := Xo.pb.k2; have xo3 := Xo.pb.k3; have xo4 := Xo.pb.k4; have xo5 := Xo.pb.k5; have xo6 := Xo.pb.k6
    have xb0 := Xb.pb.k0; have xb1 := Xb.pb.k1; have xb2 := Xb.pb.k2; have xb3 := Xb.pb.k3; have xb4 := Xb.pb.k4; have xb5 := Xb.pb.k5; have xb6 := Xb.pb.k6
    clear hb hx13
    go_wp2_with fail
    refine Calls.mono (Same_yes ht ht2 hq3) ?_
    rintro e z14 ⟨rfl, hb⟩
    clear a0 a1 a2 a3 a4 a5 a6 a7 a8 a9 xq0 xq1 xq2 xq3 xq4 xq5 xq6 xd0 xd1 xd2 xd3 xd4 xd5 xd6 xo0 xo1 xo2 xo3 xo4 xo5 xo6 xb0 xb1 xb2 xb3 xb4 xb5 xb6
    have hx14 : RowKit.Below z13.heap.size z13 z14 := by
      refine Below.trans ?_ (hb.mono ?_)
      · (first | exact Below.refl _ _ | exact (Below.refl _ _).alloc (by simp) _ | exact ((Below.refl _ _).alloc (by simp) _).alloc (by simp) _ | exact (((Below.refl _ _).alloc (by simp) _).alloc (by simp) _).alloc (by simp) _)
      · first | exact Nat.le_refl _ | (simp; done) | (simp; omega)
    replace A := A.next hx14
    replace ht := ht.next hx14
    replace Xq := Xq.next hx14
    replace Xd := Xd.next hx14
    replace Xo := Xo.next hx14
    replace ht2 := ht2.next hx14
    replace Xb := Xb.next hx14
    replace HB := Lib.hid (HB.out.trans (hx14.mono HB.out.size))
    have a0 := A.pb.k0; have a1 := A.pb.k1; have a2 := A.pb.k2; have a3 := A.pb.k3; have a4 := A.pb.k4; have a5 := A.pb.k5; have a6 := A.pb.k6; have a7 := A.pb.k7; have a8 := A.pb.k8; have a9 := A.pb.k9
    have xq0 := Xq.pb.k0; have xq1 := Xq.pb.k1; have xq2 := Xq.pb.k2; have xq3 := Xq.pb.k3; have xq4 := Xq.pb.k4; have xq5 := Xq.pb.k5; have xq6 := Xq.pb.k6
    have xd0 := Xd.pb.k0; have xd1 := Xd.pb.k1; have xd2 := Xd.pb.k2; have xd3 := Xd.pb.k3; have xd4 := Xd.pb.k4; have xd5 := Xd.pb.k5; have xd6 := Xd.pb.k6
    have xo0 := Xo.pb.k0; have xo1 := Xo.pb.k1; have xo2 := Xo.pb.k2; have xo3 := Xo.pb.k3; have xo4 := Xo.pb.k4; have xo5 := Xo.pb.k5; have xo6 := Xo.pb.k6
    have xb0 := Xb.pb.k0; have xb1 := Xb.pb.k1; have xb2 := Xb.pb.k2; have xb3 := Xb.pb.k3; have xb4 := Xb.pb.k4; have xb5 := Xb.pb.k5; have xb6 := Xb.pb.k6
    clear hb hx14
    go_wp2_with fail
    refine Calls.mono (head_any _) ?_
    rintro e z15 ⟨rfl, hb⟩
    clear a0 a1 a2 a3 a4 a5 a6 a7 a8 a9 xq0 xq1 xq2 xq3 xq4 xq5 xq6 xd0 xd1 xd2 xd3 xd4 xd5 xd6 xo0 xo1 xo2 xo3 xo4 xo5 xo6 xb0 xb1 xb2 xb3 xb4 xb5 xb6
    have hx15 : RowKit.Below z14.heap.size z14 z15 := by
      refine Below.trans ?_ (hb.mono ?_)
      · (first | exact Below.refl _ _ | exact (Below.refl _ _).alloc (by simp) _ | exact ((Below.refl _ _).alloc (by simp) _).alloc (by simp) _ | exact (((Below.refl _ _).alloc (by simp) _).alloc (by simp) _).alloc (by simp) _)
      · first | exact Nat.le_refl _ | (simp; done) | (simp; omega)
    replace A := A.next hx15
    replace ht := ht.next hx15
    replace Xq := Xq.next hx15
    replace Xd := Xd.next hx15
    replace Xo := Xo.next hx15
    replace ht2 := ht2.next hx15
    replace Xb := Xb.next hx15
    replace HB := Lib.hid (HB.out.trans (hx15.mono HB.out.size))
    have a0 := A.pb.k0; have a1 := A.pb.k1; have a2 := A.pb.k2; have a3 := A.pb.k3; have a4 := A.pb.k4; have a5 := A.pb.k5; have a6 := A.pb.k6; have a7 := A.pb.k7; have a8 := A.pb.k8; have a9 := A.pb.k9
    have xq0 := Xq.pb.k0; have xq1 := Xq.pb.k1; have xq2 := Xq.pb.k2; have xq3 := Xq.pb.k3; have xq4 := Xq.pb.k4; have xq5 := Xq.pb.k5; have xq6 := Xq.pb.k6
    have xd0 := Xd.pb.k0; have xd1 := Xd.pb.k1; have xd2 := Xd.pb.k2; have xd3 := Xd.pb.k3; have xd4 := Xd.pb.k4; have xd5 := Xd.pb.k5; have xd6 := Xd.pb.k6
    have xo0 := Xo.pb.k0; have xo1 := Xo.pb.k1; have xo2 := Xo.pb.k2; have xo3 := Xo.pb.k3; have xo4 := Xo.pb.k4; have xo5 := Xo.pb.k5; have xo6 := Xo.pb.k6
    have xb0 := Xb.pb.k0; have xb1 := Xb.pb.k1; have xb2 := Xb.pb.k2; have xb3 := Xb.pb.k3; have xb4 := Xb.pb.k4; have xb5 := Xb.pb.k5; have xb6 := Xb.pb.k6
    clear hb hx15
    go_wp2_with fail
    go_ret
    exact ⟨rfl, HB.out⟩
  · obtain ⟨hg2, hg3⟩ := hg2
    have HY : Hid (RowKit.Below y12.heap.size y12 y12.drew) := (Below.refl _ y12).drew
    go_region_held3 (fun W => W.cell? ⟨w.heap.size, 0, none⟩ = some (.int .i64 p.size) ∧ W.cell? ⟨w.heap.size, 1, none⟩ = some (.int .i64 p.grain) ∧ W.cell? ⟨w.heap.size, 2, none⟩ = some (.int .i64 p.quota) ∧ W.cell? ⟨w.heap.size, 3, none⟩ = some (.bool p.drain) ∧ W.cell? ⟨w.heap.size, 4, none⟩ = some (.bool p.best) ∧ W.cell? ⟨w.heap.size, 5, none⟩ = some (.slice pf p.free.length cf) ∧ W.cell? ⟨w.heap.size, 6, none⟩ = some (.slice pu p.uses.length cu) ∧ W.cell? ⟨w.heap.size, 7, none⟩ = some (.string su) ∧ W.cell? ⟨w.heap.size, 8, none⟩ = some (.int .i64 n) ∧ W.cell? ⟨w.heap.size, 9, none⟩ = some (.slice pl l.length cl) ∧ W.cell? ⟨z5.heap.size, 0, none⟩ = some (.int .i64 D.size) ∧ W.cell? ⟨z5.heap.size, 1, none⟩ = some (.int .i64 D.grain) ∧ W.cell? ⟨z5.heap.size, 2, none⟩ = some (.int .i64 D.quota) ∧ W.cell? ⟨z5.heap.size, 3, none⟩ = some (.bool D.drain) ∧ W.cell? ⟨z5.heap.size, 4, none⟩ = some (.bool D.best) ∧ W.cell? ⟨z5.heap.size, 5, none⟩ = some (.slice afd D.free.length cfd) ∧ W.cell? ⟨z5.heap.size, 6, none⟩ = some (.slice aud D.uses.length cud)) (go_keep) (first | (go_at_call 12; (with_reducible refine (Free_yes ((Xd.next HY.out).w hd1 hd2) hvD).mono ?_); rintro e w1 ⟨rfl, hb1⟩; rw [HFD.out]; have hY := HY.out.trans (hb1.mono HY.out.size); have HY := Lib.hid hY; clear a0 a1 a2 a3 a4 a5 a6 a7 a8 a9 xd0 xd1 xd2 xd3 xd4 xd5 xd6; have hA := A.next hY; have hD := Xd.next hY; have a0 := hA.pb.k0; have a1 := hA.pb.k1; have a2 := hA.pb.k2; have a3 := hA.pb.k3; have a4 := hA.pb.k4; have a5 := hA.pb.k5; have a6 := hA.pb.k6; have a7 := hA.pb.k7; have a8 := hA.pb.k8; have a9 := hA.pb.k9; have xd0 := hD.pb.k0; have xd1 := hD.pb.k1; have xd2 := hD.pb.k2; have xd3 := hD.pb.k3; have xd4 := hD.pb.k4; have xd5 := hD.pb.k5; have xd6 := hD.pb.k6; clear hb1 hY hA hD) | (go_at_call 12; (with_reducible refine (Free_yes ((A.next HY.out).w hl1 hl2) hv0).mono ?_); rintro e w1 ⟨rfl, hb1⟩; have hY := HY.out.trans (hb1.mono HY.out.size); have HY := Lib.hid hY; clear a0 a1 a2 a3 a4 a5 a6 a7 a8 a9 xd0 xd1 xd2 xd3 xd4 xd5 xd6; have hA := A.next hY; have hD := Xd.next hY; have a0 := hA.pb.k0; have a1 := hA.pb.k1; have a2 := hA.pb.k2; have a3 := hA.pb.k3; have a4 := hA.pb.k4; have a5 := hA.pb.k5; have a6 := hA.pb.k6; have a7 := hA.pb.k7; have a8 := hA.pb.k8; have a9 := hA.pb.k9; have xd0 := hD.pb.k0; have xd1 := hD.pb.k1; have xd2 := hD.pb.k2; have xd3 := hD.pb.k3; have xd4 := hD.pb.k4; have xd5 := hD.pb.k5; have xd6 := hD.pb.k6; clear hb1 hY hA hD))
    have hx8 := HY.out
    replace A := A.next hx8
    replace ht := ht.next hx8
    replace Xq := Xq.next hx8
    replace Xd := Xd.next hx8
    replace Xo := Xo.next hx8
    replace ht2 := ht2.next hx8
    replace Xb := Xb.next hx8
    replace HB := Lib.hid (HB.out.trans (hx8.mono HB.out.size))
    have xq0 := Xq.pb.k0; have xq1 := Xq.pb.k1; have xq2 := Xq.pb.k2; have xq3 := Xq.pb.k3; have xq4 := Xq.pb.k4; have xq5 := Xq.pb.k5; have xq6 := Xq.pb.k6
    have xo0 := Xo.pb.k0; have xo1 := Xo.pb.k1; have xo2 := Xo.pb.k2; have xo3 := Xo.pb.k3; have xo4 := Xo.pb.k4; have xo5 := Xo.pb.k5; have xo6 := Xo.pb.k6
    have xb0 := Xb.pb.k0; have xb1 := Xb.pb.k1; have xb2 := Xb.pb.k2; have xb3 := Xb.pb.k3; have xb4 := Xb.pb.k4; have xb5 := Xb.pb.k5; have xb6 := Xb.pb.k6
    clear HY hx8
    have hdp := HDP.out
    go_upto_region 12 with fail
    clear hdp
    go_wp2_with fail
    refine Calls.mono (PSame_yes Xq.v Xb.v (by omega) (by omega)) ?_
    rintro e z13 ⟨rfl, hb⟩
    clear a0 a1 a2 a3 a4 a5 a6 a7 a8 a9 xq0 xq1 xq2 xq3 xq4 xq5 xq6 xd0 xd1 xd2 xd3 xd4 xd5 xd6 xo0 xo1 xo2 xo3 xo4 xo5 xo6 xb0 xb1 xb2 xb3 xb4 xb5 xb6
    have hx13 : RowKit.Below w1.heap.size w1 z13 := by
      refine Below.trans ?_ (hb.mono ?_)
      · (first | exact Below.refl _ _ | exact (Below.refl _ _).alloc (by simp) _ | exact ((Below.refl _ _).alloc (by simp) _).alloc (by simp) _ | exact (((Below.refl _ _).alloc (by simp) _).alloc (by simp) _).alloc (by simp) _)
      · first | exact Nat.le_refl _ | (simp; done) | (simp; omega)
    replace A := A.next hx13
    replace ht := ht.next hx13
    replace Xq := Xq.next hx13
    replace Xd := Xd.next hx13
    replace Xo := Xo.next hx13
    replace ht2 := ht2.next hx13
    replace Xb := Xb.next hx13
    replace HB := Lib.hid (HB.out.trans (hx13.mono HB.out.size))
    have a0 := A.pb.k0; have a1 := A.pb.k1; have a2 := A.pb.k2; have a3 := A.pb.k3; have a4 := A.pb.k4; have a5 := A.pb.k5; have a6 := A.pb.k6; have a7 := A.pb.k7; have a8 := A.pb.k8; have a9 := A.pb.k9
    have xq0 := Xq.pb.k0; have xq1 := Xq.pb.k1; have xq2 := Xq.pb.k2; have xq3 := Xq.pb.k3; have xq4 := Xq.pb.k4; have xq5 := Xq.pb.k5; have xq6 := Xq.pb.k6
    have xd0 := Xd.pb.k0; have xd1 := Xd.pb.k1; have xd2 := Xd.pb.k2; have xd3 := Xd.pb.k3; have xd4 := Xd.pb.k4; have xd5 := Xd.pb.k5; have xd6 := Xd.pb.k6
    have xo0 := Xo.pb.k0; have xo1 := Xo.pb.k1; have xo2 := Xo.pb.k2; have xo3 := Xo.pb.k3; have xo4 := Xo.pb.k4; have xo5 := Xo.pb.k5; have xo6 := Xo.pb.k6
    have xb0 := Xb.pb.k0; have xb1 := Xb.pb.k1; have xb2 := Xb.pb.k2; have xb3 := Xb.pb.k3; have xb4 := Xb.pb.k4; have xb5 := Xb.pb.k5; have xb6 := Xb.pb.k6
    clear hb hx13
    go_wp2_with fail
    refine Calls.mono (Same_yes ht ht2 hq3) ?_
    rintro e z14 ⟨rfl, hb⟩
    clear a0 a1 a2 a3 a4 a5 a6 a7 a8 a9 xq0 xq1 xq2 xq3 xq4 xq5 xq6 xd0 xd1 xd2 xd3 xd4 xd5 xd6 xo0 xo1 xo2 xo3 xo4 xo5 xo6 xb0 xb1 xb2 xb3 xb4 xb5 xb6
    have hx14 : RowKit.Below z13.heap.size z13 z14 := by
      refine Below.trans ?_ (hb.mono ?_)
      · (first | exact Below.refl _ _ | exact (Below.refl _ _).alloc (by simp) _ | exact ((Below.refl _ _).alloc (by simp) _).alloc (by simp) _ | exact (((Below.refl _ _).alloc (by simp) _).alloc (by simp) _).alloc (by simp) _)
      · first | exact Nat.le_refl _ | (simp; done) | (simp; omega)
    replace A := A.next hx14
    replace ht := ht.next hx14
    replace Xq := Xq.next hx14
    replace Xd := Xd.next hx14
    replace Xo := Xo.next hx14
    replace ht2 := ht2.next hx14
    replace Xb := Xb.next hx14
    replace HB := Lib.hid (HB.out.trans (hx14.mono HB.out.size))
    have a0 := A.pb.k0; have a1 := A.pb.k1; have a2 := A.pb.k2; have a3 := A.pb.k3; have a4 := A.pb.k4; have a5 := A.pb.k5; have a6 := A.pb.k6; have a7 := A.pb.k7; have a8 := A.pb.k8; have a9 := A.pb.k9
    have xq0 := Xq.pb.k0; have xq1 := Xq.pb.k1; have xq2 := Xq.pb.k2; have xq3 := Xq.pb.k3; have xq4 := Xq.pb.k4; have xq5 := Xq.pb.k5; have xq6 := Xq.pb.k6
    have xd0 := Xd.pb.k0; have xd1 := Xd.pb.k1; have xd2 := Xd.pb.k2; have xd3 := Xd.pb.k3; have xd4 := Xd.pb.k4; have xd5 := Xd.pb.k5; have xd6 := Xd.pb.k6
    have xo0 := Xo.pb.k0; have xo1 := Xo.pb.k1; have xo2 := Xo.pb.k2; have xo3 := Xo.pb.k3; have xo4 := Xo.pb.k4; have xo5 := Xo.pb.k5; have xo6 := Xo.pb.k6
    have xb0 := Xb.pb.k0; have xb1 := Xb.pb.k1; have xb2 := Xb.pb.k2; have xb3 := Xb.pb.k3; have xb4 := Xb.pb.k4; have xb5 := Xb.pb.k5; have xb6 := Xb.pb.k6
    clear hb hx14
    go_wp2_with fail
    refine Calls.mono (head_any _) ?_
    rintro e z15 ⟨rfl, hb⟩
    clear a0 a1 a2 a3 a4 a5 a6 a7 a8 a9 xq0 xq1 xq2 xq3 xq4 xq5 xq6 xd0 xd1 xd2 xd3 xd4 xd5 xd6 xo0 xo1 xo2 xo3 xo4 xo5 xo6 xb0 xb1 xb2 xb3 xb4 xb5 xb6
    have hx15 : RowKit.Below z14.heap.size z14 z15 := by
      refine Below.trans ?_ (hb.mono ?_)
      · (first | exact Below.refl _ _ | exact (Below.refl _ _).alloc (by simp) _ | exact ((Below.refl _ _).alloc (by simp) _).alloc (by simp) _ | exact (((Below.refl _ _).alloc (by simp) _).alloc (by simp) _).alloc (by simp) _)
      · first | exact Nat.le_refl _ | (simp; done) | (simp; omega)
    replace A := A.next hx15
    replace ht := ht.next hx15
    replace Xq := Xq.next hx15
    replace Xd := Xd.next hx15
    replace Xo := Xo.next hx15
    replace ht2 := ht2.next hx15
    replace Xb := Xb.next hx15
    replace HB := Lib.hid (HB.out.trans (hx15.mono HB.out.size))
    have a0 := A.pb.k0; have a1 := A.pb.k1; have a2 := A.pb.k2; have a3 := A.pb.k3; have a4 := A.pb.k4; have a5 := A.pb.k5; have a6 := A.pb.k6; have a7 := A.pb.k7; have a8 := A.pb.k8; have a9 := A.pb.k9
    have xq0 := Xq.pb.k0; have xq1 := Xq.pb.k1; have xq2 := Xq.pb.k2; have xq3 := Xq.pb.k3; have xq4 := Xq.pb.k4; have xq5 := Xq.pb.k5; have xq6 := Xq.pb.k6
    have xd0 := Xd.pb.k0; have xd1 := Xd.pb.k1; have xd2 := Xd.pb.k2; have xd3 := Xd.pb.k3; have xd4 := Xd.pb.k4; have xd5 := Xd.pb.k5; have xd6 := Xd.pb.k6
    have xo0 := Xo.pb.k0; have xo1 := Xo.pb.k1; have xo2 := Xo.pb.k2; have xo3 := Xo.pb.k3; have xo4 := Xo.pb.k4; have xo5 := Xo.pb.k5; have xo6 := Xo.pb.k6
    have xb0 := Xb.pb.k0; have xb1 := Xb.pb.k1; have xb2 := Xb.pb.k2; have xb3 := Xb.pb.k3; have xb4 := Xb.pb.k4; have xb5 := Xb.pb.k5; have xb6 := Xb.pb.k6
    clear hb hx15
    go_wp2_with fail
    go_ret
    exact ⟨rfl, HB.out⟩
set_option maxHeartbeats 8000000 in
theorem room_B1 {w : World} {vf vu vl : Value} {p : Pl} {l : List X} (hf : Rd w vf p.free) (hu : RdU w vu p.uses) (hl : Rd w vl l) (u : Nm) (n : Int) (hgr : grB p.free.length p.uses.length l.length (str u).size = false)(hl1 : p.free.length ≤ 1000) (hl2 : p.uses.length ≤ 3800) (hv0 : po.Valid p) (hn : ¬ n < 1) (hdp : p.drain = false) (hgc : po.gcode p u n ≠ 0) (h6 : po.gcode p u n ≠ 6) :
    Calls Try.prog 5 #[aggA p vf vu (str u) n vl] w (TellsB true w) := by
  obtain ⟨pf, cf, rfl⟩ := hf.len
  obtain ⟨pu, cu, rfl, _⟩ := hu.2
  obtain ⟨pl, cl, rfl⟩ := hl.len
  have mixed : Try.prog.follows .mixedOrders = true := by kernel_rfl
  obtain ⟨su, hsu⟩ : ∃ su, str u = su := ⟨_, rfl⟩
  have A : AX (w.alloc (.cells #[.int .i64 p.size, .int .i64 p.grain, .int .i64 p.quota, .bool p.drain, .bool p.best, .slice pf p.free.length cf, .slice pu p.uses.length cu, .string su, .int .i64 n, .slice pl l.length cl] 27)) w.heap.size p (.slice pf p.free.length cf) (.slice pu p.uses.length cu) su n (.slice pl l.length cl) l := AX.new hf hu hl su n
  obtain ⟨W0, hW0⟩ : ∃ W0, w.alloc (.cells #[.int .i64 p.size, .int .i64 p.grain, .int .i64 p.quota, .bool p.drain, .bool p.best, .slice pf p.free.length cf, .slice pu p.uses.length cu, .string su, .int .i64 n, .slice pl l.length cl] 27) = W0 := ⟨_, rfl⟩
  have HB : Hid (RowKit.Below w.heap.size w W0) := by show RowKit.Below _ _ _; rw [← hW0]; exact below_box _ _
  rw [hW0] at A
  clear hf hu hl
  have cg := great_any p pf pu pl p.free.length cf p.uses.length cu l.length cl (str u) n W0
  rw [hgr, hsu] at cg
  rw [hsu]
  have a0 := A.pb.k0; have a1 := A.pb.k1; have a2 := A.pb.k2; have a3 := A.pb.k3; have a4 := A.pb.k4; have a5 := A.pb.k5; have a6 := A.pb.k6; have a7 := A.pb.k7; have a8 := A.pb.k8; have a9 := A.pb.k9
  have HDP := Lib.hid hdp
  clear hdp
  have d0 : decide (n < 1) = false := decide_eq_false hn
  have hn0 : 0 < n := by omega
  clear hn
  go_enter Try.func5, Try.ntmps5
  go_wp2_with fail
  clear hW0
  refine Calls.mono (cg) ?_
  rintro e z1 ⟨rfl, hb⟩
  clear a0 a1 a2 a3 a4 a5 a6 a7 a8 a9
  clear cg
  have hx1 : RowKit.Below W0.heap.size W0 z1 := by
    refine Below.trans ?_ (hb.mono ?_)
    · (first | exact Below.refl _ _ | exact (Below.refl _ _).alloc (by simp) _ | exact ((Below.refl _ _).alloc (by simp) _).alloc (by simp) _ | exact (((Below.refl _ _).alloc (by simp) _).alloc (by simp) _).alloc (by simp) _)
    · first | exact Nat.le_refl _ | (simp; done) | (simp; omega)
  replace A := A.next hx1
  replace HB := Lib.hid (HB.out.trans (hx1.mono HB.out.size))
  have a0 := A.pb.k0; have a1 := A.pb.k1; have a2 := A.pb.k2; have a3 := A.pb.k3; have a4 := A.pb.k4; have a5 := A.pb.k5; have a6 := A.pb.k6; have a7 := A.pb.k7; have a8 := A.pb.k8; have a9 := A.pb.k9
  clear hb hx1
  go_wp2_with fail
  refine Calls.mono (Check_yes (A.w hl1 hl2) hv0) ?_
  rintro e z2 ⟨rfl, hb⟩
  clear a0 a1 a2 a3 a4 a5 a6 a7 a8 a9
  have hx2 : RowKit.Below z1.heap.size z1 z2 := by
    refine Below.trans ?_ (hb.mono ?_)
    · (first | exact Below.refl _ _ | exact (Below.refl _ _).alloc (by simp) _ | exact ((Below.refl _ _).alloc (by simp) _).alloc (by simp) _ | exact (((Below.refl _ _).alloc (by simp) _).alloc (by simp) _).alloc (by simp) _)
    · first | exact Nat.le_refl _ | (simp; done) | (simp; omega)
  replace A := A.next hx2
  replace HB := Lib.hid (HB.out.trans (hx2.mono HB.out.size))
  have a0 := A.pb.k0; have a1 := A.pb.k1; have a2 := A.pb.k2; have a3 := A.pb.k3; have a4 := A.pb.k4; have a5 := A.pb.k5; have a6 := A.pb.k6; have a7 := A.pb.k7; have a8 := A.pb.k8; have a9 := A.pb.k9
  clear hb hx2
  go_wp2_with fail
  refine Calls.mono ((by have := Grant_no (A.w hl1 hl2) u n hgc; rwa [hsu] at this)) ?_
  rintro e z3 ⟨rfl, hb⟩
  clear a0 a1 a2 a3 a4 a5 a6 a7 a8 a9
  have hx3 : RowKit.Below z2.heap.size z2 z3 := by
    refine Below.trans ?_ (hb.mono ?_)
    · (first | exact Below.refl _ _ | exact (Below.refl _ _).alloc (by simp) _ | exact ((Below.refl _ _).alloc (by simp) _).alloc (by simp) _ | exact (((Below.refl _ _).alloc (by simp) _).alloc (by simp) _).alloc (by simp) _)
    · first | exact Nat.le_refl _ | (simp; done) | (simp; omega)
  replace A := A.next hx3
  replace HB := Lib.hid (HB.out.trans (hx3.mono HB.out.size))
  have a0 := A.pb.k0; have a1 := A.pb.k1; have a2 := A.pb.k2; have a3 := A.pb.k3; have a4 := A.pb.k4; have a5 := A.pb.k5; have a6 := A.pb.k6; have a7 := A.pb.k7; have a8 := A.pb.k8; have a9 := A.pb.k9
  clear hb hx3
  have lta := A.pb.lt
  go_wp2_with fail
  clear lta
  obtain ⟨y4, hy4⟩ : ∃ y, z3.alloc (.cells #[.int .i64 0, .int .i64 0, .int .i64 0, .bool false, .bool false, .slice none 0 0, .slice none 0 0] 25) = y := ⟨_, rfl⟩
  have hx4 : RowKit.Below z3.heap.size z3 y4 := by rw [← hy4]; exact below_box _ _
  clear a0 a1 a2 a3 a4 a5 a6 a7 a8 a9
  replace A := A.next hx4
  replace HB := Lib.hid (HB.out.trans (hx4.mono HB.out.size))
  have a0 := A.pb.k0; have a1 := A.pb.k1; have a2 := A.pb.k2; have a3 := A.pb.k3; have a4 := A.pb.k4; have a5 := A.pb.k5; have a6 := A.pb.k6; have a7 := A.pb.k7; have a8 := A.pb.k8; have a9 := A.pb.k9
  have Xza : PX y4 z3.heap.size zeroPl (.slice none 0 0) (.slice none 0 0) := by rw [← hy4]; exact PX.new (p := zeroPl) (.inl ⟨none, 0, rfl, rfl, fun _ => rfl⟩) (nilU _)
  have xza0 := Xza.pb.k0; have xza1 := Xza.pb.k1; have xza2 := Xza.pb.k2; have xza3 := Xza.pb.k3; have xza4 := Xza.pb.k4; have xza5 := Xza.pb.k5; have xza6 := Xza.pb.k6
  rw [hy4]
  clear hy4
  obtain ⟨D, hDD⟩ : ∃ D, ({ p with drain := true } : Pl) = D := ⟨_, rfl⟩
  have hvD : po.Valid D := by rw [← hDD]; exact hv0.dr true
  have hdD : D.drain = true := by rw [← hDD]
  have hfD : tot D.free = tot p.free := by rw [← hDD]
  have hd1 : D.free.length ≤ 1000 := by rw [← hDD]; exact hl1
  have hd2 : D.uses.length ≤ 3800 := by rw [← hDD]; exact hl2
  have hgD := po.gcode_drain (u := u) (n := n) hdD
  have HFD := Lib.hid hfD
  have HDD := Lib.hid hDD
  clear hdD hfD hDD
  refine Calls.mono (Drain_yes (A.w hl1 hl2) hv0 true) ?_
  rintro e z5 ⟨va, rfl, hv, hb⟩
  clear a0 a1 a2 a3 a4 a5 a6 a7 a8 a9 xza0 xza1 xza2 xza3 xza4 xza5 xza6
  rw [HDD.out] at hv
  have hx5 : RowKit.Below y4.heap.size y4 z5 := by
    refine Below.trans ?_ (hb.mono ?_)
    · (first | exact Below.refl _ _ | exact (Below.refl _ _).alloc (by simp) _ | exact ((Below.refl _ _).alloc (by simp) _).alloc (by simp) _ | exact (((Below.refl _ _).alloc (by simp) _).alloc (by simp) _).alloc (by simp) _)
    · first | exact Nat.le_refl _ | (simp; done) | (simp; omega)
  replace A := A.next hx5
  replace Xza := Xza.next hx5
  replace HB := Lib.hid (HB.out.trans (hx5.mono HB.out.size))
  have a0 := A.pb.k0; have a1 := A.pb.k1; have a2 := A.pb.k2; have a3 := A.pb.k3; have a4 := A.pb.k4; have a5 := A.pb.k5; have a6 := A.pb.k6; have a7 := A.pb.k7; have a8 := A.pb.k8; have a9 := A.pb.k9
  have xza0 := Xza.pb.k0; have xza1 := Xza.pb.k1; have xza2 := Xza.pb.k2; have xza3 := Xza.pb.k3; have xza4 := Xza.pb.k4; have xza5 := Xza.pb.k5; have xza6 := Xza.pb.k6
  clear hb hx5
  obtain ⟨vfd, vud, rfl, hfd, hud⟩ := hv
  obtain ⟨afd, cfd, rfl⟩ := hfd.len
  obtain ⟨aud, cud, rfl, _⟩ := hud.2
  have Xd : PX (z5.alloc (.cells #[.int .i64 D.size, .int .i64 D.grain, .int .i64 D.quota, .bool D.drain, .bool D.best, .slice afd D.free.length cfd, .slice aud D.uses.length cud] 25)) z5.heap.size D (.slice afd D.free.length cfd) (.slice aud D.uses.length cud) := PX.new hfd hud
  obtain ⟨y6, hy6⟩ : ∃ y, z5.alloc (.cells #[.int .i64 D.size, .int .i64 D.grain, .int .i64 D.quota, .bool D.drain, .bool D.best, .slice afd D.free.length cfd, .slice aud D.uses.length cud] 25) = y := ⟨_, rfl⟩
  have hx6 : RowKit.Below z5.heap.size z5 y6 := by rw [← hy6]; exact below_box _ _
  clear a0 a1 a2 a3 a4 a5 a6 a7 a8 a9 xza0 xza1 xza2 xza3 xza4 xza5 xza6
  replace A := A.next hx6
  replace Xza := Xza.next hx6
  replace HB := Lib.hid (HB.out.trans (hx6.mono HB.out.size))
  have a0 := A.pb.k0; have a1 := A.pb.k1; have a2 := A.pb.k2; have a3 := A.pb.k3; have a4 := A.pb.k4; have a5 := A.pb.k5; have a6 := A.pb.k6; have a7 := A.pb.k7; have a8 := A.pb.k8; have a9 := A.pb.k9
  have xza0 := Xza.pb.k0; have xza1 := Xza.pb.k1; have xza2 := Xza.pb.k2; have xza3 := Xza.pb.k3; have xza4 := Xza.pb.k4; have xza5 := Xza.pb.k5; have xza6 := Xza.pb.k6
  rw [hy6] at Xd
  clear hfd hud
  have xd0 := Xd.pb.k0; have xd1 := Xd.pb.k1; have xd2 := Xd.pb.k2; have xd3 := Xd.pb.k3; have xd4 := Xd.pb.k4; have xd5 := Xd.pb.k5; have xd6 := Xd.pb.k6
  go_wp2_with fail
  clear hy6
  refine Calls.mono ((by have := Grant_no (Xd.w hd1 hd2) u n (by rcases hgD with e | e <;> rw [e] <;> decide); rwa [hsu] at this)) ?_
  rintro e z7 ⟨rfl, hb⟩
  clear a0 a1 a2 a3 a4 a5 a6 a7 a8 a9 xza0 xza1 xza2 xza3 xza4 xza5 xza6 xd0 xd1 xd2 xd3 xd4 xd5 xd6
  have hx7 : RowKit.Below y6.heap.size y6 z7 := by
    refine Below.trans ?_ (hb.mono ?_)
    · (first | exact Below.refl _ _ | exact (Below.refl _ _).alloc (by simp) _ | exact ((Below.refl _ _).alloc (by simp) _).alloc (by simp) _ | exact (((Below.refl _ _).alloc (by simp) _).alloc (by simp) _).alloc (by simp) _)
    · first | exact Nat.le_refl _ | (simp; done) | (simp; omega)
  replace A := A.next hx7
  replace Xza := Xza.next hx7
  replace Xd := Xd.next hx7
  replace HB := Lib.hid (HB.out.trans (hx7.mono HB.out.size))
  have a0 := A.pb.k0; have a1 := A.pb.k1; have a2 := A.pb.k2; have a3 := A.pb.k3; have a4 := A.pb.k4; have a5 := A.pb.k5; have a6 := A.pb.k6; have a7 := A.pb.k7; have a8 := A.pb.k8; have a9 := A.pb.k9
  have xza0 := Xza.pb.k0; have xza1 := Xza.pb.k1; have xza2 := Xza.pb.k2; have xza3 := Xza.pb.k3; have xza4 := Xza.pb.k4; have xza5 := Xza.pb.k5; have xza6 := Xza.pb.k6
  have xd0 := Xd.pb.k0; have xd1 := Xd.pb.k1; have xd2 := Xd.pb.k2; have xd3 := Xd.pb.k3; have xd4 := Xd.pb.k4; have xd5 := Xd.pb.k5; have xd6 := Xd.pb.k6
  clear hb hx7
  generalize po.gcode D u n = g at *
  have hg2 : (g != 2) = false ∨ ((g != 2) = true ∧ (g != 9) = false) := by rcases hgD with e | e <;> subst e <;> simp
  have lta := A.pb.lt
  have ltxza := Xza.pb.lt
  have ltxd := Xd.pb.lt
  go_wp2_with fail
  clear lta
  clear ltxza
  clear ltxd
  obtain ⟨y8, hy8⟩ : ∃ y, z7.alloc (.cells #[.int .i64 0, .int .i64 0, .int .i64 0, .bool false, .bool false, .slice none 0 0, .slice none 0 0] 25) = y := ⟨_, rfl⟩
  have hx8 : RowKit.Below z7.heap.size z7 y8 := by rw [← hy8]; exact below_box _ _
  clear a0 a1 a2 a3 a4 a5 a6 a7 a8 a9 xza0 xza1 xza2 xza3 xza4 xza5 xza6 xd0 xd1 xd2 xd3 xd4 xd5 xd6
  replace A := A.next hx8
  replace Xza := Xza.next hx8
  replace Xd := Xd.next hx8
  replace HB := Lib.hid (HB.out.trans (hx8.mono HB.out.size))
  have a0 := A.pb.k0; have a1 := A.pb.k1; have a2 := A.pb.k2; have a3 := A.pb.k3; have a4 := A.pb.k4; have a5 := A.pb.k5; have a6 := A.pb.k6; have a7 := A.pb.k7; have a8 := A.pb.k8; have a9 := A.pb.k9
  have xza0 := Xza.pb.k0; have xza1 := Xza.pb.k1; have xza2 := Xza.pb.k2; have xza3 := Xza.pb.k3; have xza4 := Xza.pb.k4; have xza5 := Xza.pb.k5; have xza6 := Xza.pb.k6
  have xd0 := Xd.pb.k0; have xd1 := Xd.pb.k1; have xd2 := Xd.pb.k2; have xd3 := Xd.pb.k3; have xd4 := Xd.pb.k4; have xd5 := Xd.pb.k5; have xd6 := Xd.pb.k6
  rw [hy8]
  clear hy8
  obtain ⟨O, hOO⟩ : ∃ O, ({ D with drain := false } : Pl) = O := ⟨_, rfl⟩
  have hvO : po.Valid O := by rw [← hOO]; exact hvD.dr false
  have ho1 : O.free.length ≤ 1000 := by rw [← hOO]; exact hd1
  have ho2 : O.uses.length ≤ 3800 := by rw [← hOO]; exact hd2
  have HOO := Lib.hid hOO
  clear hOO
  refine Calls.mono (Drain_yes (Xd.w hd1 hd2) hvD false) ?_
  rintro e z9 ⟨va, rfl, hv, hb⟩
  clear a0 a1 a2 a3 a4 a5 a6 a7 a8 a9 xza0 xza1 xza2 xza3 xza4 xza5 xza6 xd0 xd1 xd2 xd3 xd4 xd5 xd6
  rw [HOO.out] at hv
  have hx9 : RowKit.Below y8.heap.size y8 z9 := by
    refine Below.trans ?_ (hb.mono ?_)
    · (first | exact Below.refl _ _ | exact (Below.refl _ _).alloc (by simp) _ | exact ((Below.refl _ _).alloc (by simp) _).alloc (by simp) _ | exact (((Below.refl _ _).alloc (by simp) _).alloc (by simp) _).alloc (by simp) _)
    · first | exact Nat.le_refl _ | (simp; done) | (simp; omega)
  replace A := A.next hx9
  replace Xza := Xza.next hx9
  replace Xd := Xd.next hx9
  replace HB := Lib.hid (HB.out.trans (hx9.mono HB.out.size))
  have a0 := A.pb.k0; have a1 := A.pb.k1; have a2 := A.pb.k2; have a3 := A.pb.k3; have a4 := A.pb.k4; have a5 := A.pb.k5; have a6 := A.pb.k6; have a7 := A.pb.k7; have a8 := A.pb.k8; have a9 := A.pb.k9
  have xza0 := Xza.pb.k0; have xza1 := Xza.pb.k1; have xza2 := Xza.pb.k2; have xza3 := Xza.pb.k3; have xza4 := Xza.pb.k4; have xza5 := Xza.pb.k5; have xza6 := Xza.pb.k6
  have xd0 := Xd.pb.k0; have xd1 := Xd.pb.k1; have xd2 := Xd.pb.k2; have xd3 := Xd.pb.k3; have xd4 := Xd.pb.k4; have xd5 := Xd.pb.k5; have xd6 := Xd.pb.k6
  clear hb hx9
  obtain ⟨vfo, vuo, rfl, hfo, huo⟩ := hv
  obtain ⟨afo, cfo, rfl⟩ := hfo.len
  obtain ⟨auo, cuo, rfl, _⟩ := huo.2
  have Xo : PX (z9.alloc (.cells #[.int .i64 O.size, .int .i64 O.grain, .int .i64 O.quota, .bool O.drain, .bool O.best, .slice afo O.free.length cfo, .slice auo O.uses.length cuo] 25)) z9.heap.size O (.slice afo O.free.length cfo) (.slice auo O.uses.length cuo) := PX.new hfo huo
  obtain ⟨y10, hy10⟩ : ∃ y, z9.alloc (.cells #[.int .i64 O.size, .int .i64 O.grain, .int .i64 O.quota, .bool O.drain, .bool O.best, .slice afo O.free.length cfo, .slice auo O.uses.length cuo] 25) = y := ⟨_, rfl⟩
  have hx10 : RowKit.Below z9.heap.size z9 y10 := by rw [← hy10]; exact below_box _ _
  clear a0 a1 a2 a3 a4 a5 a6 a7 a8 a9 xza0 xza1 xza2 xza3 xza4 xza5 xza6 xd0 xd1 xd2 xd3 xd4 xd5 xd6
  replace A := A.next hx10
  replace Xza := Xza.next hx10
  replace Xd := Xd.next hx10
  replace HB := Lib.hid (HB.out.trans (hx10.mono HB.out.size))
  have a0 := A.pb.k0; have a1 := A.pb.k1; have a2 := A.pb.k2; have a3 := A.pb.k3; have a4 := A.pb.k4; have a5 := A.pb.k5; have a6 := A.pb.k6; have a7 := A.pb.k7; have a8 := A.pb.k8; have a9 := A.pb.k9
  have xza0 := Xza.pb.k0; have xza1 := Xza.pb.k1; have xza2 := Xza.pb.k2; have xza3 := Xza.pb.k3; have xza4 := Xza.pb.k4; have xza5 := Xza.pb.k5; have xza6 := Xza.pb.k6
  have xd0 := Xd.pb.k0; have xd1 := Xd.pb.k1; have xd2 := Xd.pb.k2; have xd3 := Xd.pb.k3; have xd4 := Xd.pb.k4; have xd5 := Xd.pb.k5; have xd6 := Xd.pb.k6
  rw [hy10] at Xo
  clear hfo huo
  have xo0 := Xo.pb.k0; have xo1 := Xo.pb.k1; have xo2 := Xo.pb.k2; have xo3 := Xo.pb.k3; have xo4 := Xo.pb.k4; have xo5 := Xo.pb.k5; have xo6 := Xo.pb.k6
  go_wp2_with fail
  clear hy10
  have HOp : Hid (O = p) := by show O = p; rw [← HOO.out, ← HDD.out]; exact dr_back HDP.out
  have hOc : po.gcode O u n = po.gcode p u n := by rw [HOp.out]
  refine Calls.mono ((by have := Grant_no (Xo.w ho1 ho2) u n (by rw [hOc]; exact hgc); rwa [hsu, hOc] at this)) ?_
  rintro e z11 ⟨rfl, hb⟩
  clear a0 a1 a2 a3 a4 a5 a6 a7 a8 a9 xza0 xza1 xza2 xza3 xza4 xza5 xza6 xd0 xd1 xd2 xd3 xd4 xd5 xd6 xo0 xo1 xo2 xo3 xo4 xo5 xo6
  have hx11 : RowKit.Below y10.heap.size y10 z11 := by
    refine Below.trans ?_ (hb.mono ?_)
    · (first | exact Below.refl _ _ | exact (Below.refl _ _).alloc (by simp) _ | exact ((Below.refl _ _).alloc (by simp) _).alloc (by simp) _ | exact (((Below.refl _ _).alloc (by simp) _).alloc (by simp) _).alloc (by simp) _)
    · first | exact Nat.le_refl _ | (simp; done) | (simp; omega)
  replace A := A.next hx11
  replace Xza := Xza.next hx11
  replace Xd := Xd.next hx11
  replace Xo := Xo.next hx11
  replace HB := Lib.hid (HB.out.trans (hx11.mono HB.out.size))
  have a0 := A.pb.k0; have a1 := A.pb.k1; have a2 := A.pb.k2; have a3 := A.pb.k3; have a4 := A.pb.k4; have a5 := A.pb.k5; have a6 := A.pb.k6; have a7 := A.pb.k7; have a8 := A.pb.k8; have a9 := A.pb.k9
  have xza0 := Xza.pb.k0; have xza1 := Xza.pb.k1; have xza2 := Xza.pb.k2; have xza3 := Xza.pb.k3; have xza4 := Xza.pb.k4; have xza5 := Xza.pb.k5; have xza6 := Xza.pb.k6
  have xd0 := Xd.pb.k0; have xd1 := Xd.pb.k1; have xd2 := Xd.pb.k2; have xd3 := Xd.pb.k3; have xd4 := Xd.pb.k4; have xd5 := Xd.pb.k5; have xd6 := Xd.pb.k6
  have xo0 := Xo.pb.k0; have xo1 := Xo.pb.k1; have xo2 := Xo.pb.k2; have xo3 := Xo.pb.k3; have xo4 := Xo.pb.k4; have xo5 := Xo.pb.k5; have xo6 := Xo.pb.k6
  clear hb hx11
  clear hOc
  have lta := A.pb.lt
  have ltxza := Xza.pb.lt
  have ltxd := Xd.pb.lt
  have ltxo := Xo.pb.lt
  go_upto_region 8 with fail
  clear lta
  clear ltxza
  clear ltxd
  clear ltxo
  obtain ⟨y12, hy12⟩ : ∃ y, z11.alloc (.cells #[.int .i64 0, .int .i64 0, .int .i64 0, .bool false, .bool false, .slice none 0 0, .slice none 0 0] 25) = y := ⟨_, rfl⟩
  have hx12 : RowKit.Below z11.heap.size z11 y12 := by rw [← hy12]; exact below_box _ _
  clear a0 a1 a2 a3 a4 a5 a6 a7 a8 a9 xza0 xza1 xza2 xza3 xza4 xza5 xza6 xd0 xd1 xd2 xd3 xd4 xd5 xd6 xo0 xo1 xo2 xo3 xo4 xo5 xo6
  replace A := A.next hx12
  replace Xza := Xza.next hx12
  replace Xd := Xd.next hx12
  replace Xo := Xo.next hx12
  replace HB := Lib.hid (HB.out.trans (hx12.mono HB.out.size))
  have a0 := A.pb.k0; have a1 := A.pb.k1; have a2 := A.pb.k2; have a3 := A.pb.k3; have a4 := A.pb.k4; have a5 := A.pb.k5; have a6 := A.pb.k6; have a7 := A.pb.k7; have a8 := A.pb.k8; have a9 := A.pb.k9
  have xza0 := Xza.pb.k0; have xza1 := Xza.pb.k1; have xza2 := Xza.pb.k2; have xza3 := Xza.pb.k3; have xza4 := Xza.pb.k4; have xza5 := Xza.pb.k5; have xza6 := Xza.pb.k6
  have xd0 := Xd.pb.k0; have xd1 := Xd.pb.k1; have xd2 := Xd.pb.k2; have xd3 := Xd.pb.k3; have xd4 := Xd.pb.k4; have xd5 := Xd.pb.k5; have xd6 := Xd.pb.k6
  have xo0 := Xo.pb.k0; have xo1 := Xo.pb.k1; have xo2 := Xo.pb.k2; have xo3 := Xo.pb.k3; have xo4 := Xo.pb.k4; have xo5 := Xo.pb.k5; have xo6 := Xo.pb.k6
  have Xzb : PX y12 z11.heap.size zeroPl (.slice none 0 0) (.slice none 0 0) := by rw [← hy12]; exact PX.new (p := zeroPl) (.inl ⟨none, 0, rfl, rfl, fun _ => rfl⟩) (nilU _)
  have xzb0 := Xzb.pb.k0; have xzb1 := Xzb.pb.k1; have xzb2 := Xzb.pb.k2; have xzb3 := Xzb.pb.k3; have xzb4 := Xzb.pb.k4; have xzb5 := Xzb.pb.k5; have xzb6 := Xzb.pb.k6
  rw [hy12]
  clear hy12
  have hf6 := @po.gcode_free p u n
  generalize po.gcode p u n = ec at *
  rcases hg2 with hg2 | hg2
  · have HY : Hid (RowKit.Below y12.heap.size y12 y12.drew) := (Below.refl _ y12).drew
    refine wp_region_held_drew (S := (fun W => W.cell? ⟨w.heap.size, 0, none⟩ = some (.int .i64 p.size) ∧ W.cell? ⟨w.heap.size, 1, none⟩ = some (.int .i64 p.grain) ∧ W.cell? ⟨w.heap.size, 2, none⟩ = some (.int .i64 p.quota) ∧ W.cell? ⟨w.heap.size, 3, none⟩ = some (.bool p.drain) ∧ W.cell? ⟨w.heap.size, 4, none⟩ = some (.bool p.best) ∧ W.cell? ⟨w.heap.size, 5, none⟩ = some (.slice pf p.free.length cf) ∧ W.cell? ⟨w.heap.size, 6, none⟩ = some (.slice pu p.uses.length cu) ∧ W.cell? ⟨w.heap.size, 7, none⟩ = some (.string su) ∧ W.cell? ⟨w.heap.size, 8, none⟩ = some (.int .i64 n) ∧ W.cell? ⟨w.heap.size, 9, none⟩ = some (.slice pl l.length cl) ∧ W.cell? ⟨z5.heap.size, 0, none⟩ = some (.int .i64 D.size) ∧ W.cell? ⟨z5.heap.size, 1, none⟩ = some (.int .i64 D.grain) ∧ W.cell? ⟨z5.heap.size, 2, none⟩ = some (.int .i64 D.quota) ∧ W.cell? ⟨z5.heap.size, 3, none⟩ = some (.bool D.drain) ∧ W.cell? ⟨z5.heap.size, 4, none⟩ = some (.bool D.best) ∧ W.cell? ⟨z5.heap.size, 5, none⟩ = some (.slice afd D.free.length cfd) ∧ W.cell? ⟨z5.heap.size, 6, none⟩ = some (.slice aud D.uses.length cud))) (by kernel_rfl) (by first | (go_keep; done) | (dsimp only; go_keep)) (fun hHeld => ?_)
    refine wpAnyH_take (i := 0) (v := ?_) (ata at0) (by kernel_rfl) (by kernel_rfl) (by kernel_rfl) (fun _ _ _ h => h) (Or.inl ⟨by rfl, ?_⟩) (by assumption) ?_
    rotate_left
    · (intro w hSw; (try dsimp only at hSw); go_simp; (first | done | with_reducible rfl))
    try simp only [Act.put, List.setIfInBounds_toArray, List.set_cons_zero, List.set_cons_succ]
    refine wpAnyH_take (i := 1) (v := ?_) (ata (atS at0)) (by kernel_rfl) (by kernel_rfl) (by kernel_rfl) (fun _ _ _ h => h) (Or.inl ⟨by rfl, ?_⟩) (by assumption) ?_
    rotate_left
    · (intro w hSw; (try dsimp only at hSw); go_simp; (first | done | with_reducible rfl))
    try simp only [Act.put, List.setIfInBounds_toArray, List.set_cons_zero, List.set_cons_succ]
    refine wpAnyH_take (i := 2) (v := ?_) (ata (atS (atS at0))) (by kernel_rfl) (by kernel_rfl) (by kernel_rfl) (fun _ _ _ h => h) (Or.inl ⟨by rfl, ?_⟩) (by assumption) ?_
    rotate_left
    · (intro w hSw; (try dsimp only at hSw); go_simp; (first | done | with_reducible rfl))
    try simp only [Act.put, List.setIfInBounds_toArray, List.set_cons_zero, List.set_cons_succ]
    refine wpAnyH_take (i := 3) (v := ?_) (ata (atS (atS (atS at0)))) (by kernel_rfl) (by kernel_rfl) (by kernel_rfl) (fun _ _ _ h => h) (Or.inl ⟨by rfl, ?_⟩) (by assumption) ?_
    rotate_left
    · (intro w hSw; (try dsimp only at hSw); go_simp; (first | done | with_reducible rfl))
    try simp only [Act.put, List.setIfInBounds_toArray, List.set_cons_zero, List.set_cons_succ]
    refine wpAnyH_take (i := 4) (v := ?_) (ata (atS (atS (atS (atS at0))))) (by kernel_rfl) (by kernel_rfl) (by kernel_rfl) (fun _ _ _ h => h) (Or.inl ⟨by rfl, ?_⟩) (by assumption) ?_
    rotate_left
    · (intro w hSw; (try dsimp only at hSw); go_simp; (first | done | with_reducible rfl))
    try simp only [Act.put, List.setIfInBounds_toArray, List.set_cons_zero, List.set_cons_succ]
    refine wpAnyH_take (i := 5) (v := ?_) (ata (atS (atS (atS (atS (atS at0)))))) (by kernel_rfl) (by kernel_rfl) (by kernel_rfl) (fun _ _ _ h => h) (Or.inl ⟨by rfl, ?_⟩) (by assumption) ?_
    rotate_left
    · (intro w hSw; (try dsimp only at hSw); go_simp; (first | done | with_reducible rfl))
    try simp only [Act.put, List.setIfInBounds_toArray, List.set_cons_zero, List.set_cons_succ]
    refine wpAnyH_take (i := 6) (v := ?_) (ata (atS (atS (atS (atS (atS (atS at0))))))) (by kernel_rfl) (by kernel_rfl) (by kernel_rfl) (fun _ _ _ h => h) (Or.inl ⟨by rfl, ?_⟩) (by assumption) ?_
    rotate_left
    · (intro w hSw; (try dsimp only at hSw); go_simp; (first | done | with_reducible rfl))
    try simp only [Act.put, List.setIfInBounds_toArray, List.set_cons_zero, List.set_cons_succ]
    refine wpAnyH_take (i := 7) (v := ?_) (ata (atS (atS (atS (atS (atS (atS (atS at0)))))))) (by kernel_rfl) (by kernel_rfl) (by kernel_rfl) (fun _ _ _ h => h) (Or.inl ⟨by rfl, ?_⟩) (by assumption) ?_
    rotate_left
    · (intro w hSw; (try dsimp only at hSw); go_simp; (first | done | with_reducible rfl))
    try simp only [Act.put, List.setIfInBounds_toArray, List.set_cons_zero, List.set_cons_succ]
    refine wpAnyH_take (i := 9) (v := ?_) (ata (atS (atS (atS (atS (atS (atS (atS (atS (atS at0)))))))))) (by kernel_rfl) (by kernel_rfl) (by kernel_rfl) (fun _ _ _ h => h) (Or.inl ⟨by rfl, ?_⟩) (by assumption) ?_
    rotate_left
    · (intro w hSw; (try dsimp only at hSw); go_simp; (first | done | with_reducible rfl))
    try simp only [Act.put, List.setIfInBounds_toArray, List.set_cons_zero, List.set_cons_succ]
    refine wpAnyH_take (i := 10) (v := ?_) (ata (atS (atS (atS (atS (atS (atS (atS (atS (atS (atS at0))))))))))) (by kernel_rfl) (by kernel_rfl) (by kernel_rfl) (fun _ _ _ h => h) (Or.inl ⟨by rfl, ?_⟩) (by assumption) ?_
    rotate_left
    · (intro w hSw; (try dsimp only at hSw); go_simp; (first | done | with_reducible rfl))
    try simp only [Act.put, List.setIfInBounds_toArray, List.set_cons_zero, List.set_cons_succ]
    refine wpAnyH_ready (rs := [8]) (by kernel_rfl) (by simp) ?_
    refine AllReadyH.cons (ata (atS (atS (atS (atS (atS (atS (atS (atS at0))))))))) (fun K hK => ?_) AllReadyH.nil
    go_simp
    (go_at_call 12; (with_reducible refine (Free_yes ((Xd.next HY.out).w hd1 hd2) hvD).mono ?_); rintro e w1 ⟨rfl, hb1⟩; rw [HFD.out]; have hY := HY.out.trans (hb1.mono HY.out.size); have HY := Lib.hid hY; clear a0 a1 a2 a3 a4 a5 a6 a7 a8 a9 xd0 xd1 xd2 xd3 xd4 xd5 xd6; have hA := A.next hY; have hD := Xd.next hY; have a0 := hA.pb.k0; have a1 := hA.pb.k1; have a2 := hA.pb.k2; have a3 := hA.pb.k3; have a4 := hA.pb.k4; have a5 := hA.pb.k5; have a6 := hA.pb.k6; have a7 := hA.pb.k7; have a8 := hA.pb.k8; have a9 := hA.pb.k9; have xd0 := hD.pb.k0; have xd1 := hD.pb.k1; have xd2 := hD.pb.k2; have xd3 := hD.pb.k3; have xd4 := hD.pb.k4; have xd5 := hD.pb.k5; have xd6 := hD.pb.k6; clear hb1 hY hA hD)
    go_wp2_with fail
    refine hK.out _ _ (by first | (go_keep; done) | (dsimp only; go_keep)) (fun hHeld => ?_)
    clear hK K
    try simp only [Act.put, List.setIfInBounds_toArray, List.set_cons_zero, List.set_cons_succ]
    refine wpAnyH_ready (rs := [11]) (by kernel_rfl) (by simp) ?_
    refine AllReadyH.cons (ata (atS (atS (atS (atS (atS (atS (atS (atS (atS (atS (atS at0)))))))))))) (fun K hK => ?_) AllReadyH.nil
    go_simp
    (go_at_call 12; (with_reducible refine (Free_yes ((A.next HY.out).w hl1 hl2) hv0).mono ?_); rintro e w1 ⟨rfl, hb1⟩; have hY := HY.out.trans (hb1.mono HY.out.size); have HY := Lib.hid hY; clear a0 a1 a2 a3 a4 a5 a6 a7 a8 a9 xd0 xd1 xd2 xd3 xd4 xd5 xd6; have hA := A.next hY; have hD := Xd.next hY; have a0 := hA.pb.k0; have a1 := hA.pb.k1; have a2 := hA.pb.k2; have a3 := hA.pb.k3; have a4 := hA.pb.k4; have a5 := hA.pb.k5; have a6 := hA.pb.k6; have a7 := hA.pb.k7; have a8 := hA.pb.k8; have a9 := hA.pb.k9; have xd0 := hD.pb.k0; have xd1 := hD.pb.k1; have xd2 := hD.pb.k2; have xd3 := hD.pb.k3; have xd4 := hD.pb.k4; have xd5 := hD.pb.k5; have xd6 := hD.pb.k6; clear hb1 hY hA hD)
    go_wp2_with fail
    refine hK.out _ _ (by first | (go_keep; done) | (dsimp only; go_keep)) (fun hHeld => ?_)
    clear hK K
    try simp only [Act.put, List.setIfInBounds_toArray, List.set_cons_zero, List.set_cons_succ]
    refine wpAnyH_take (i := 12) (v := ?_) (ata (atS (atS (atS (atS (atS (atS (atS (atS (atS (atS (atS (atS at0))))))))))))) (by kernel_rfl) (by kernel_rfl) (by kernel_rfl) (fun _ _ _ h => h) (Or.inl ⟨by rfl, ?_⟩) (by assumption) ?_
    rotate_left
    · (intro w hSw; (try dsimp only at hSw); go_simp; (first | done | with_reducible rfl))
    try simp only [Act.put, List.setIfInBounds_toArray, List.set_cons_zero, List.set_cons_succ]
    refine wpAnyH_take (i := 13) (v := ?_) (ata (atS (atS (atS (atS (atS (atS (atS (atS (atS (atS (atS (atS (atS at0)))))))))))))) (by kernel_rfl) (by kernel_rfl) (by kernel_rfl) (fun _ _ _ h => h) (Or.inl ⟨by rfl, ?_⟩) (by assumption) ?_
    rotate_left
    · (intro w hSw; (try dsimp only at hSw); go_simp; (first | done | with_reducible rfl))
    try simp only [Act.put, List.setIfInBounds_toArray, List.set_cons_zero, List.set_cons_succ]
    refine wpAnyH_take (i := 14) (v := ?_) (ata (atS (atS (atS (atS (atS (atS (atS (atS (atS (atS (atS (atS (atS (atS at0))))))))))))))) (by kernel_rfl) (by kernel_rfl) (by kernel_rfl) (fun _ _ _ h => h) (Or.inl ⟨by rfl, ?_⟩) (by assumption) ?_
    rotate_left
    · (intro w hSw; (try dsimp only at hSw); go_simp; (first | done | with_reducible rfl))
    try simp only [Act.put, List.setIfInBounds_toArray, List.set_cons_zero, List.set_cons_succ]
    refine wpAnyH_take (i := 15) (v := ?_) (ata (atS (atS (atS (atS (atS (atS (atS (atS (atS (atS (atS (atS (atS (atS (atS at0)))))))))))))))) (by kernel_rfl) (by kernel_rfl) (by kernel_rfl) (fun _ _ _ h => h) (Or.inl ⟨by rfl, ?_⟩) (by assumption) ?_
    rotate_left
    · (intro w hSw; (try dsimp only at hSw); go_simp; (first | done | with_reducible rfl))
    try simp only [Act.put, List.setIfInBounds_toArray, List.set_cons_zero, List.set_cons_succ]
    refine wpAnyH_take (i := 16) (v := ?_) (ata (atS (atS (atS (atS (atS (atS (atS (atS (atS (atS (atS (atS (atS (atS (atS (atS at0))))))))))))))))) (by kernel_rfl) (by kernel_rfl) (by kernel_rfl) (fun _ _ _ h => h) (Or.inl ⟨by rfl, ?_⟩) (by assumption) ?_
    rotate_left
    · (intro w hSw; (try dsimp only at hSw); go_simp; (first | done | with_reducible rfl))
    try simp only [Act.put, List.setIfInBounds_toArray, List.set_cons_zero, List.set_cons_succ]
    refine wpAnyH_take (i := 17) (v := ?_) (ata (atS (atS (atS (atS (atS (atS (atS (atS (atS (atS (atS (atS (atS (atS (atS (atS (atS at0)))))))))))))))))) (by kernel_rfl) (by kernel_rfl) (by kernel_rfl) (fun _ _ _ h => h) (Or.inl ⟨by rfl, ?_⟩) (by assumption) ?_
    rotate_left
    · (intro w hSw; (try dsimp only at hSw); go_simp; (first | done | with_reducible rfl))
    try simp only [Act.put, List.setIfInBounds_toArray, List.set_cons_zero, List.set_cons_succ]
    refine wpAnyH_take (i := 18) (v := undef) (ata (atS (atS (atS (atS (atS (atS (atS (atS (atS (atS (atS (atS (atS (atS (atS (atS (atS (atS at0))))))))))))))))))) (by kernel_rfl) (by kernel_rfl) (by kernel_rfl) (fun _ _ _ h => h) (Or.inr ⟨by rfl, rfl⟩) (by assumption) ?_
    try simp only [Act.put, List.setIfInBounds_toArray, List.set_cons_zero, List.set_cons_succ]
    refine wpAnyH_take (i := 19) (v := undef) (ata (atS (atS (atS (atS (atS (atS (atS (atS (atS (atS (atS (atS (atS (atS (atS (atS (atS (atS (atS at0)))))))))))))))))))) (by kernel_rfl) (by kernel_rfl) (by kernel_rfl) (fun _ _ _ h => h) (Or.inr ⟨by rfl, rfl⟩) (by assumption) ?_
    try simp only [Act.put, List.setIfInBounds_toArray, List.set_cons_zero, List.set_cons_succ]
    refine wpAnyH_take (i := 20) (v := ?_) (ata (atS (atS (atS (atS (atS (atS (atS (atS (atS (atS (atS (atS (atS (atS (atS (atS (atS (atS (atS (atS at0))))))))))))))))))))) (by kernel_rfl) (by kernel_rfl) (by kernel_rfl) (fun _ _ _ h => h) (Or.inl ⟨by rfl, ?_⟩) (by assumption) ?_
    rotate_left
    · (intro w hSw; (try dsimp only at hSw); go_simp; (first | done | with_reducible rfl))
    try simp only [Act.put, List.setIfInBounds_toArray, List.set_cons_zero, List.set_cons_succ]
    refine wpAnyH_take (i := 21) (v := ?_) (ata (atS (atS (atS (atS (atS (atS (atS (atS (atS (atS (atS (atS (atS (atS (atS (atS (atS (atS (atS (atS (atS at0)))))))))))))))))))))) (by kernel_rfl) (by kernel_rfl) (by kernel_rfl) (fun _ _ _ h => h) (Or.inl ⟨by rfl, ?_⟩) (by assumption) ?_
    rotate_left
    · (intro w hSw; (try dsimp only at hSw); go_simp; (first | done | with_reducible rfl))
    try simp only [Act.put, List.setIfInBounds_toArray, List.set_cons_zero, List.set_cons_succ]
    refine wpAnyH_done (by kernel_rfl) ?_ _
    have hx8 := HY.out
    replace A := A.next hx8
    replace Xza := Xza.next hx8
    replace Xd := Xd.next hx8
    replace Xo := Xo.next hx8
    replace Xzb := Xzb.next hx8
    replace HB := Lib.hid (HB.out.trans (hx8.mono HB.out.size))
    have xza0 := Xza.pb.k0; have xza1 := Xza.pb.k1; have xza2 := Xza.pb.k2; have xza3 := Xza.pb.k3; have xza4 := Xza.pb.k4; have xza5 := Xza.pb.k5; have xza6 := Xza.pb.k6
    have xo0 := Xo.pb.k0; have xo1 := Xo.pb.k1; have xo2 := Xo.pb.k2; have xo3 := Xo.pb.k3; have xo4 := Xo.pb.k4; have xo5 := Xo.pb.k5; have xo6 := Xo.pb.k6
    have xzb0 := Xzb.pb.k0; have xzb1 := Xzb.pb.k1; have xzb2 := Xzb.pb.k2; have xzb3 := Xzb.pb.k3; have xzb4 := Xzb.pb.k4; have xzb5 := Xzb.pb.k5; have xzb6 := Xzb.pb.k6
    clear HY hx8
    have hdp := HDP.out
    go_upto_region 12 with fail
    clear hdp
    go_wp2_with fail
    refine Calls.mono (PSame_yes Xza.v Xzb.v (by simp) (by simp)) ?_
    rintro e z13 ⟨rfl, hb⟩
    clear a0 a1 a2 a3 a4 a5 a6 a7 a8 a9 xza0 xza1 xza2 xza3 xza4 xza5 xza6 xd0 xd1 xd2 xd3 xd4 xd5 xd6 xo0 xo1 xo2 xo3 xo4 xo5 xo6 xzb0 xzb1 xzb2 xzb3 xzb4 xzb5 xzb6
    have hx13 : RowKit.Below w1.heap.size w1 z13 := by
      refine Below.trans ?_ (hb.mono ?_)
      · (first | exact Below.refl _ _ | exact (Below.refl _ _).alloc (by simp) _ | exact ((Below.refl _ _).alloc (by simp) _).alloc (by simp) _ | exact (((Below.refl _ _).alloc (by simp) _).alloc (by simp) _).alloc (by simp) _)
      · first | exact Nat.le_refl _ | (simp; done) | (simp; omega)
    replace A := A.next hx13
    replace Xza := Xza.next hx13
    replace Xd := Xd.next hx13
    replace Xo := Xo.next hx13
    replace Xzb := Xzb.next hx13
    replace HB := Lib.hid (HB.out.trans (hx13.mono HB.out.size))
    have a0 := A.pb.k0; have a1 := A.pb.k1; have a2 := A.pb.k2; have a3 := A.pb.k3; have a4 := A.pb.k4; have a5 := A.pb.k5; have a6 := A.pb.k6; have a7 := A.pb.k7; have a8 := A.pb.k8; have a9 := A.pb.k9
    have xza0 := Xza.pb.k0; have xza1 := Xza.pb.k1; have xza2 := Xza.pb.k2; have xza3 := Xza.pb.k3; have xza4 := Xza.pb.k4; have xza5 := Xza.pb.k5; have xza6 := Xza.pb.k6
    have xd0 := Xd.pb.k0; have xd1 := Xd.pb.k1; have xd2 := Xd.pb.k2; have xd3 := Xd.pb.k3; have xd4 := Xd.pb.k4; have xd5 := Xd.pb.k5; have xd6 := Xd.pb.k6
    have xo0 := Xo.pb.k0; have xo1 := Xo.pb.k1; have xo2 := Xo.pb.k2; have xo3 := Xo.pb.k3; have xo4 := Xo.pb.k4; have xo5 := Xo.pb.k5; have xo6 := Xo.pb.k6
    have xzb0 := Xzb.pb.k0; have xzb1 := Xzb.pb.k1; have xzb2 := Xzb.pb.k2; have xzb3 := Xzb.pb.k3; have xzb4 := Xzb.pb.k4; have xzb5 := Xzb.pb.k5; have xzb6 := Xzb.pb.k6
    clear hb hx13
    go_wp2_with fail
    have j0 : (ec == 6) = false := beq_eq_false_iff_ne.2 h6
    refine Calls.mono (Same_yes (l := []) (nil_x _) (nil_x _) (by simp)) ?_
    rintro e z14 ⟨rfl, hb⟩
    clear a0 a1 a2 a3 a4 a5 a6 a7 a8 a9 xza0 xza1 xza2 xza3 xza4 xza5 xza6 xd0 xd1 xd2 xd3 xd4 xd5 xd6 xo0 xo1 xo2 xo3 xo4 xo5 xo6 xzb0 xzb1 xzb2 xzb3 xzb4 xzb5 xzb6
    have hx14 : RowKit.Below z13.heap.size z13 z14 := by
      refine Below.trans ?_ (hb.mono ?_)
      · (first | exact Below.refl _ _ | exact (Below.refl _ _).alloc (by simp) _ | exact ((Below.refl _ _).alloc (by simp) _).alloc (by simp) _ | exact (((Below.refl _ _).alloc (by simp) _).alloc (by simp) _).alloc (by simp) _)
      · first | exact Nat.le_refl _ | (simp; done) | (simp; omega)
    replace A := A.next hx14
    replace Xza := Xza.next hx14
    replace Xd := Xd.next hx14
    replace Xo := Xo.next hx14
    replace Xzb := Xzb.next hx14
    replace HB := Lib.hid (HB.out.trans (hx14.mono HB.out.size))
    have a0 := A.pb.k0; have a1 := A.pb.k1; have a2 := A.pb.k2; have a3 := A.pb.k3; have a4 := A.pb.k4; have a5 := A.pb.k5; have a6 := A.pb.k6; have a7 := A.pb.k7; have a8 := A.pb.k8; have a9 := A.pb.k9
    have xza0 := Xza.pb.k0; have xza1 := Xza.pb.k1; have xza2 := Xza.pb.k2; have xza3 := Xza.pb.k3; have xza4 := Xza.pb.k4; have xza5 := Xza.pb.k5; have xza6 := Xza.pb.k6
    have xd0 := Xd.pb.k0; have xd1 := Xd.pb.k1; have xd2 := Xd.pb.k2; have xd3 := Xd.pb.k3; have xd4 := Xd.pb.k4; have xd5 := Xd.pb.k5; have xd6 := Xd.pb.k6
    have xo0 := Xo.pb.k0; have xo1 := Xo.pb.k1; have xo2 := Xo.pb.k2; have xo3 := Xo.pb.k3; have xo4 := Xo.pb.k4; have xo5 := Xo.pb.k5; have xo6 := Xo.pb.k6
    have xzb0 := Xzb.pb.k0; have xzb1 := Xzb.pb.k1; have xzb2 := Xzb.pb.k2; have xzb3 := Xzb.pb.k3; have xzb4 := Xzb.pb.k4; have xzb5 := Xzb.pb.k5; have xzb6 := Xzb.pb.k6
    clear hb hx14
    go_wp2_with fail
    refine Calls.mono (head_any _) ?_
    rintro e z15 ⟨rfl, hb⟩
    clear a0 a1 a2 a3 a4 a5 a6 a7 a8 a9 xza0 xza1 xza2 xza3 xza4 xza5 xza6 xd0 xd1 xd2 xd3 xd4 xd5 xd6 xo0 xo1 xo2 xo3 xo4 xo5 xo6 xzb0 xzb1 xzb2 xzb3 xzb4 xzb5 xzb6
    have hx15 : RowKit.Below z14.heap.size z14 z15 := by
      refine Below.trans ?_ (hb.mono ?_)
      · (first | exact Below.refl _ _ | exact (Below.refl _ _).alloc (by simp) _ | exact ((Below.refl _ _).alloc (by simp) _).alloc (by simp) _ | exact (((Below.refl _ _).alloc (by simp) _).alloc (by simp) _).alloc (by simp) _)
      · first | exact Nat.le_refl _ | (simp; done) | (simp; omega)
    replace A := A.next hx15
    replace Xza := Xza.next hx15
    replace Xd := Xd.next hx15
    replace Xo := Xo.next hx15
    replace Xzb := Xzb.next hx15
    replace HB := Lib.hid (HB.out.trans (hx15.mono HB.out.size))
    have a0 := A.pb.k0; have a1 := A.pb.k1; have a2 := A.pb.k2; have a3 := A.pb.k3; have a4 := A.pb.k4; have a5 := A.pb.k5; have a6 := A.pb.k6; have a7 := A.pb.k7; have a8 := A.pb.k8; have a9 := A.pb.k9
    have xza0 := Xza.pb.k0; have xza1 := Xza.pb.k1; have xza2 := Xza.pb.k2; have xza3 := Xza.pb.k3; have xza4 := Xza.pb.k4; have xza5 := Xza.pb.k5; have xza6 := Xza.pb.k6
    have xd0 := Xd.pb.k0; have xd1 := Xd.pb.k1; have xd2 := Xd.pb.k2; have xd3 := Xd.pb.k3; have xd4 := Xd.pb.k4; have xd5 := Xd.pb.k5; have xd6 := Xd.pb.k6
    have xo0 := Xo.pb.k0; have xo1 := Xo.pb.k1; have xo2 := Xo.pb.k2; have xo3 := Xo.pb.k3; have xo4 := Xo.pb.k4; have xo5 := Xo.pb.k5; have xo6 := Xo.pb.k6
    have xzb0 := Xzb.pb.k0; have xzb1 := Xzb.pb.k1; have xzb2 := Xzb.pb.k2; have xzb3 := Xzb.pb.k3; have xzb4 := Xzb.pb.k4; have xzb5 := Xzb.pb.k5; have xzb6 := Xzb.pb.k6
    clear hb hx15
    go_wp2_with fail
    go_ret
    exact ⟨rfl, HB.out⟩
  · obtain ⟨hg2, hg3⟩ := hg2
    have HY : Hid (RowKit.Below y12.heap.size y12 y12.drew) := (Below.refl _ y12).drew
    go_region_held3 (fun W => W.cell? ⟨w.heap.size, 0, none⟩ = some (.int .i64 p.size) ∧ W.cell? ⟨w.heap.size, 1, none⟩ = some (.int .i64 p.grain) ∧ W.cell? ⟨w.heap.size, 2, none⟩ = some (.int .i64 p.quota) ∧ W.cell? ⟨w.heap.size, 3, none⟩ = some (.bool p.drain) ∧ W.cell? ⟨w.heap.size, 4, none⟩ = some (.bool p.best) ∧ W.cell? ⟨w.heap.size, 5, none⟩ = some (.slice pf p.free.length cf) ∧ W.cell? ⟨w.heap.size, 6, none⟩ = some (.slice pu p.uses.length cu) ∧ W.cell? ⟨w.heap.size, 7, none⟩ = some (.string su) ∧ W.cell? ⟨w.heap.size, 8, none⟩ = some (.int .i64 n) ∧ W.cell? ⟨w.heap.size, 9, none⟩ = some (.slice pl l.length cl) ∧ W.cell? ⟨z5.heap.size, 0, none⟩ = some (.int .i64 D.size) ∧ W.cell? ⟨z5.heap.size, 1, none⟩ = some (.int .i64 D.grain) ∧ W.cell? ⟨z5.heap.size, 2, none⟩ = some (.int .i64 D.quota) ∧ W.cell? ⟨z5.heap.size, 3, none⟩ = some (.bool D.drain) ∧ W.cell? ⟨z5.heap.size, 4, none⟩ = some (.bool D.best) ∧ W.cell? ⟨z5.heap.size, 5, none⟩ = some (.slice afd D.free.length cfd) ∧ W.cell? ⟨z5.heap.size, 6, none⟩ = some (.slice aud D.uses.length cud)) (go_keep) (first | (go_at_call 12; (with_reducible refine (Free_yes ((Xd.next HY.out).w hd1 hd2) hvD).mono ?_); rintro e w1 ⟨rfl, hb1⟩; rw [HFD.out]; have hY := HY.out.trans (hb1.mono HY.out.size); have HY := Lib.hid hY; clear a0 a1 a2 a3 a4 a5 a6 a7 a8 a9 xd0 xd1 xd2 xd3 xd4 xd5 xd6; have hA := A.next hY; have hD := Xd.next hY; have a0 := hA.pb.k0; have a1 := hA.pb.k1; have a2 := hA.pb.k2; have a3 := hA.pb.k3; have a4 := hA.pb.k4; have a5 := hA.pb.k5; have a6 := hA.pb.k6; have a7 := hA.pb.k7; have a8 := hA.pb.k8; have a9 := hA.pb.k9; have xd0 := hD.pb.k0; have xd1 := hD.pb.k1; have xd2 := hD.pb.k2; have xd3 := hD.pb.k3; have xd4 := hD.pb.k4; have xd5 := hD.pb.k5; have xd6 := hD.pb.k6; clear hb1 hY hA hD) | (go_at_call 12; (with_reducible refine (Free_yes ((A.next HY.out).w hl1 hl2) hv0).mono ?_); rintro e w1 ⟨rfl, hb1⟩; have hY := HY.out.trans (hb1.mono HY.out.size); have HY := Lib.hid hY; clear a0 a1 a2 a3 a4 a5 a6 a7 a8 a9 xd0 xd1 xd2 xd3 xd4 xd5 xd6; have hA := A.next hY; have hD := Xd.next hY; have a0 := hA.pb.k0; have a1 := hA.pb.k1; have a2 := hA.pb.k2; have a3 := hA.pb.k3; have a4 := hA.pb.k4; have a5 := hA.pb.k5; have a6 := hA.pb.k6; have a7 := hA.pb.k7; have a8 := hA.pb.k8; have a9 := hA.pb.k9; have xd0 := hD.pb.k0; have xd1 := hD.pb.k1; have xd2 := hD.pb.k2; have xd3 := hD.pb.k3; have xd4 := hD.pb.k4; have xd5 := hD.pb.k5; have xd6 := hD.pb.k6; clear hb1 hY hA hD))
    have hx8 := HY.out
    replace A := A.next hx8
    replace Xza := Xza.next hx8
    replace Xd := Xd.next hx8
    replace Xo := Xo.next hx8
    replace Xzb := Xzb.next hx8
    replace HB := Lib.hid (HB.out.trans (hx8.mono HB.out.size))
    have xza0 := Xza.pb.k0; have xza1 := Xza.pb.k1; have xza2 := Xza.pb.k2; have xza3 := Xza.pb.k3; have xza4 := Xza.pb.k4; have xza5 := Xza.pb.k5; have xza6 := Xza.pb.k6
    have xo0 := Xo.pb.k0; have xo1 := Xo.pb.k1; have xo2 := Xo.pb.k2; have xo3 := Xo.pb.k3; have xo4 := Xo.pb.k4; have xo5 := Xo.pb.k5; have xo6 := Xo.pb.k6
    have xzb0 := Xzb.pb.k0; have xzb1 := Xzb.pb.k1; have xzb2 := Xzb.pb.k2; have xzb3 := Xzb.pb.k3; have xzb4 := Xzb.pb.k4; have xzb5 := Xzb.pb.k5; have xzb6 := Xzb.pb.k6
    clear HY hx8
    have hdp := HDP.out
    go_upto_region 12 with fail
    clear hdp
    go_wp2_with fail
    refine Calls.mono (PSame_yes Xza.v Xzb.v (by simp) (by simp)) ?_
    rintro e z13 ⟨rfl, hb⟩
    clear a0 a1 a2 a3 a4 a5 a6 a7 a8 a9 xza0 xza1 xza2 xza3 xza4 xza5 xza6 xd0 xd1 xd2 xd3 xd4 xd5 xd6 xo0 xo1 xo2 xo3 xo4 xo5 xo6 xzb0 xzb1 xzb2 xzb3 xzb4 xzb5 xzb6
    have hx13 : RowKit.Below w1.heap.size w1 z13 := by
      refine Below.trans ?_ (hb.mono ?_)
      · (first | exact Below.refl _ _ | exact (Below.refl _ _).alloc (by simp) _ | exact ((Below.refl _ _).alloc (by simp) _).alloc (by simp) _ | exact (((Below.refl _ _).alloc (by simp) _).alloc (by simp) _).alloc (by simp) _)
      · first | exact Nat.le_refl _ | (simp; done) | (simp; omega)
    replace A := A.next hx13
    replace Xza := Xza.next hx13
    replace Xd := Xd.next hx13
    replace Xo := Xo.next hx13
    replace Xzb := Xzb.next hx13
    replace HB := Lib.hid (HB.out.trans (hx13.mono HB.out.size))
    have a0 := A.pb.k0; have a1 := A.pb.k1; have a2 := A.pb.k2; have a3 := A.pb.k3; have a4 := A.pb.k4; have a5 := A.pb.k5; have a6 := A.pb.k6; have a7 := A.pb.k7; have a8 := A.pb.k8; have a9 := A.pb.k9
    have xza0 := Xza.pb.k0; have xza1 := Xza.pb.k1; have xza2 := Xza.pb.k2; have xza3 := Xza.pb.k3; have xza4 := Xza.pb.k4; have xza5 := Xza.pb.k5; have xza6 := Xza.pb.k6
    have xd0 := Xd.pb.k0; have xd1 := Xd.pb.k1; have xd2 := Xd.pb.k2; have xd3 := Xd.pb.k3; have xd4 := Xd.pb.k4; have xd5 := Xd.pb.k5; have xd6 := Xd.pb.k6
    have xo0 := Xo.pb.k0; have xo1 := Xo.pb.k1; have xo2 := Xo.pb.k2; have xo3 := Xo.pb.k3; have xo4 := Xo.pb.k4; have xo5 := Xo.pb.k5; have xo6 := Xo.pb.k6
    have xzb0 := Xzb.pb.k0; have xzb1 := Xzb.pb.k1; have xzb2 := Xzb.pb.k2; have xzb3 := Xzb.pb.k3; have xzb4 := Xzb.pb.k4; have xzb5 := Xzb.pb.k5; have xzb6 := Xzb.pb.k6
    clear hb hx13
    go_wp2_with fail
    have j0 : (ec == 6) = false := beq_eq_false_iff_ne.2 h6
    refine Calls.mono (Same_yes (l := []) (nil_x _) (nil_x _) (by simp)) ?_
    rintro e z14 ⟨rfl, hb⟩
    clear a0 a1 a2 a3 a4 a5 a6 a7 a8 a9 xza0 xza1 xza2 xza3 xza4 xza5 xza6 xd0 xd1 xd2 xd3 xd4 xd5 xd6 xo0 xo1 xo2 xo3 xo4 xo5 xo6 xzb0 xzb1 xzb2 xzb3 xzb4 xzb5 xzb6
    have hx14 : RowKit.Below z13.heap.size z13 z14 := by
      refine Below.trans ?_ (hb.mono ?_)
      · (first | exact Below.refl _ _ | exact (Below.refl _ _).alloc (by simp) _ | exact ((Below.refl _ _).alloc (by simp) _).alloc (by simp) _ | exact (((Below.refl _ _).alloc (by simp) _).alloc (by simp) _).alloc (by simp) _)
      · first | exact Nat.le_refl _ | (simp; done) | (simp; omega)
    replace A := A.next hx14
    replace Xza := Xza.next hx14
    replace Xd := Xd.next hx14
    replace Xo := Xo.next hx14
    replace Xzb := Xzb.next hx14
    replace HB := Lib.hid (HB.out.trans (hx14.mono HB.out.size))
    have a0 := A.pb.k0; have a1 := A.pb.k1; have a2 := A.pb.k2; have a3 := A.pb.k3; have a4 := A.pb.k4; have a5 := A.pb.k5; have a6 := A.pb.k6; have a7 := A.pb.k7; have a8 := A.pb.k8; have a9 := A.pb.k9
    have xza0 := Xza.pb.k0; have xza1 := Xza.pb.k1; have xza2 := Xza.pb.k2; have xza3 := Xza.pb.k3; have xza4 := Xza.pb.k4; have xza5 := Xza.pb.k5; have xza6 := Xza.pb.k6
    have xd0 := Xd.pb.k0; have xd1 := Xd.pb.k1; have xd2 := Xd.pb.k2; have xd3 := Xd.pb.k3; have xd4 := Xd.pb.k4; have xd5 := Xd.pb.k5; have xd6 := Xd.pb.k6
    have xo0 := Xo.pb.k0; have xo1 := Xo.pb.k1; have xo2 := Xo.pb.k2; have xo3 := Xo.pb.k3; have xo4 := Xo.pb.k4; have xo5 := Xo.pb.k5; have xo6 := Xo.pb.k6
    have xzb0 := Xzb.pb.k0; have xzb1 := Xzb.pb.k1; have xzb2 := Xzb.pb.k2; have xzb3 := Xzb.pb.k3; have xzb4 := Xzb.pb.k4; have xzb5 := Xzb.pb.k5; have xzb6 := Xzb.pb.k6
    clear hb hx14
    go_wp2_with fail
    refine Calls.mono (head_any _) ?_
    rintro e z15 ⟨rfl, hb⟩
    clear a0 a1 a2 a3 a4 a5 a6 a7 a8 a9 xza0 xza1 xza2 xza3 xza4 xza5 xza6 xd0 xd1 xd2 xd3 xd4 xd5 xd6 xo0 xo1 xo2 xo3 xo4 xo5 xo6 xzb0 xzb1 xzb2 xzb3 xzb4 xzb5 xzb6
    have hx15 : RowKit.Below z14.heap.size z14 z15 := by
      refine Below.trans ?_ (hb.mono ?_)
      · (first | exact Below.refl _ _ | exact (Below.refl _ _).alloc (by simp) _ | exact ((Below.refl _ _).alloc (by simp) _).alloc (by simp) _ | exact (((Below.refl _ _).alloc (by simp) _).alloc (by simp) _).alloc (by simp) _)
      · first | exact Nat.le_refl _ | (simp; done) | (simp; omega)
    replace A := A.next hx15
    replace Xza := Xza.next hx15
    replace Xd := Xd.next hx15
    replace Xo := Xo.next hx15
    replace Xzb := Xzb.next hx15
    replace HB := Lib.hid (HB.out.trans (hx15.mono HB.out.size))
    have a0 := A.pb.k0; have a1 := A.pb.k1; have a2 := A.pb.k2; have a3 := A.pb.k3; have a4 := A.pb.k4; have a5 := A.pb.k5; have a6 := A.pb.k6; have a7 := A.pb.k7; have a8 := A.pb.k8; have a9 := A.pb.k9
    have xza0 := Xza.pb.k0; have xza1 := Xza.pb.k1; have xza2 := Xza.pb.k2; have xza3 := Xza.pb.k3; have xza4 := Xza.pb.k4; have xza5 := Xza.pb.k5; have xza6 := Xza.pb.k6
    have xd0 := Xd.pb.k0; have xd1 := Xd.pb.k1; have xd2 := Xd.pb.k2; have xd3 := Xd.pb.k3; have xd4 := Xd.pb.k4; have xd5 := Xd.pb.k5; have xd6 := Xd.pb.k6
    have xo0 := Xo.pb.k0; have xo1 := Xo.pb.k1; have xo2 := Xo.pb.k2; have xo3 := Xo.pb.k3; have xo4 := Xo.pb.k4; have xo5 := Xo.pb.k5; have xo6 := Xo.pb.k6
    have xzb0 := Xzb.pb.k0; have xzb1 := Xzb.pb.k1; have xzb2 := Xzb.pb.k2; have xzb3 := Xzb.pb.k3; have xzb4 := Xzb.pb.k4; have xzb5 := Xzb.pb.k5; have xzb6 := Xzb.pb.k6
    clear hb hx15
    go_wp2_with fail
    go_ret
    exact ⟨rfl, HB.out⟩
end Go.Proofs.Ytdjpnlkhdilakaa.gn
