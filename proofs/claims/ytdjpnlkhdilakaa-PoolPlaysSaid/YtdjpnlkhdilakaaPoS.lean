/- The head of the law file (written by gen_poS.py). -/
import Derived.Test.YtdjpnlkhdilakaaPoR
import Derived.Test.YtdjpnlkhdilakaaExU
set_option linter.unusedVariables false
set_option linter.unusedSimpArgs false
set_option maxRecDepth 100000
namespace Go.Proofs.Ytdjpnlkhdilakaa.gn
open Go.RowKit Go.Shelf Go.Sort Go.Lib
open Go.Proofs.Ytdjpnlkhdilakaa.ex
open Go.Proofs.Ytdjpnlkhdilakaa.po (Nm U less Pl)

attribute [local go_sem] Oper.semAt_some
attribute [local go_sem ↓] Go.wp_at_zero Go.wp_at_succ

/-- A pool in its box. -/
structure PX (W : World) (B : Nat) (p : Pl) (vf vu : Value) : Prop where
  pb : PB W B p vf vu
  hf : Rd W vf p.free
  hu : RdU W vu p.uses
theorem PX.next {W W' : World} {B : Nat} {p : Pl} {vf vu : Value} (h : PX W B p vf vu) (hb : RowKit.Below W.heap.size W W') : PX W' B p vf vu := ⟨h.pb.next hb, h.hf.next hb, h.hu.next hb⟩
theorem PX.new {w : World} {p : Pl} {vf vu : Value} (hf : Rd w vf p.free) (hu : RdU w vu p.uses) : PX (w.alloc (boxP p vf vu)) w.heap.size p vf vu := ⟨PB.new w p vf vu, hf.next (below_box _ _), hu.next (below_box _ _)⟩
theorem PX.v {W : World} {B : Nat} {p : Pl} {vf vu : Value} (h : PX W B p vf vu) : PolV W (aggP p vf vu) p := ⟨vf, vu, rfl, h.hf, h.hu⟩
theorem PX.w {W : World} {B : Nat} {p : Pl} {vf vu : Value} (h : PX W B p vf vu) (hl : p.free.length ≤ 1000) (hlu : p.uses.length ≤ 3800) : PolW W (aggP p vf vu) p := ⟨h.v, hl, hlu⟩

theorem len_with (l : List U) (u : Nm) (n : Int) : (po.withU l u n).length ≤ l.length + 1 := by
  rw [po.form_with]
  have h := po.pos_le l u
  obtain ⟨m, hm⟩ : ∃ m : List U, (if 0 < n then [(u, n)] else []) = m := ⟨_, rfl⟩
  have e : m.length ≤ 1 := by rw [← hm]; split <;> simp
  rw [hm, List.length_append, List.length_append, List.length_take, List.length_drop]
  split <;> omega
abbrev uA : Nm := [97]
def P0 : Pl := newP 100 8 40 false
theorem P0_eq : P0 = ⟨96, 8, 40, false, false, [(0, 96)], []⟩ := by unfold P0 newP; simp
theorem P0_valid : po.Valid P0 := by
  rw [P0_eq]
  refine ⟨⟨by decide, by decide, by decide, by decide, ⟨12, by decide⟩⟩, by decide, ⟨by decide, by simp⟩, ⟨?_, ?_⟩, .nil, fun u hu => (by cases hu), by decide⟩
  · intro x hx
    rw [List.mem_singleton.1 hx]
    exact ⟨⟨0, by decide⟩, ⟨12, by decide⟩⟩
  · intro x hx
    rw [List.mem_singleton.1 hx]
    decide
theorem P0_nok : NOk 100 8 40 false := ⟨by decide, by decide, P0_valid⟩
theorem gr_10 : po.gr 10 8 = 16 := by decide
theorem gr_30 : po.gr 30 8 = 32 := by decide
theorem P0_lens : P0.free.length ≤ 900 ∧ P0.free.length ≤ 1000 ∧ P0.uses.length ≤ 3800 := by rw [P0_eq]; simp
theorem P0_gok : po.GOk P0 uA 10 := by
  refine ⟨⟨P0_valid, by decide, by decide, by decide⟩, by rw [P0_eq], ?_, ?_⟩
  · rw [P0_eq]; show ¬ (0 < (40 : Int) ∧ (40 : Int) - 0 < po.gr 10 8); rw [gr_10]; decide
  · rw [P0_eq]; show po.gr 10 8 ≤ 96; rw [gr_10]; decide
theorem P0_took : po.gT P0 10 = [(0, 16)] := by
  rw [P0_eq]
  show nrm (tk false (po.gr 10 8).toNat ⟨nrm [(0, 96)], [], po.gr 10 8⟩).took = _
  rw [gr_10]
  rfl
def P1 : Pl := po.gP P0 uA 10
theorem P1_valid : po.Valid P1 := P0_gok.valid
theorem P1_lk : po.lk P1.uses uA = 16 := by
  show po.lk (po.gP P0 uA 10).uses uA = 16
  rw [P0_gok.lk, if_pos rfl, P0_eq]
  show 0 + po.gr 10 8 = 16
  rw [gr_10]; rfl
theorem P1_code : po.gcode P1 uA 30 = 120 := by
  unfold po.gcode
  rw [if_pos ⟨P1_valid, by decide, by decide, by decide⟩, P1_lk]
  have e1 : P1.drain = false := by show P0.drain = false; rw [P0_eq]
  have e2 : P1.quota = 40 := by show P0.quota = 40; rw [P0_eq]
  have e3 : P1.grain = 8 := by show P0.grain = 8; rw [P0_eq]
  rw [e1, e2, e3, gr_30]
  rfl
theorem P1_lens : P1.free.length ≤ 1000 ∧ P1.uses.length ≤ 3800 := by
  have h := P0_gok.tf.lR
  have h2 := P0_lens.1
  refine ⟨Nat.le_trans h P0_lens.2.1, ?_⟩
  have h3 := len_with P0.uses uA (po.lk P0.uses uA + po.gr 10 P0.grain)
  have h4 : P0.uses.length = 0 := by rw [P0_eq]; rfl
  have h5 : P1.uses.length ≤ P0.uses.length + 1 := h3
  omega
theorem P1_ret : po.ROk P1 uA (po.gT P0 10) ∧ po.rP P1 uA (po.gT P0 10) = P0 := P0_gok.back P0_lens.1
def PD : Pl := { P0 with drain := true }
theorem PD_code : po.gcode PD uA 10 = 9 := by
  unfold po.gcode
  rw [if_pos ⟨P0_valid.dr true, by decide, by decide, by decide⟩]
  rfl
theorem P0_no : ¬ NOk 1 0 0 false := fun h => absurd h.g (by decide)
theorem tot_P0 : tot P0.free = 96 := by rw [P0_eq]; rfl
theorem one_ext (w : World) (a b : Int) : Rd (w.alloc (.cells #[.int .i64 a, .int .i64 b] 54)) (.slice (some ⟨w.heap.size, 0, none⟩) 1 1) [(a, b)] := rd_lit rfl [(a, b)] _ 1 rfl rfl

set_option maxHeartbeats 4000000 in
theorem head_any (w : World) : Calls Try.prog 7 #[] w (TellsB true w) := by
  have HB := Lib.hid (Below.refl w.heap.size w)
  have hsA : (⟨#[97]⟩ : ByteArray) = str uA := rfl
  go_enter Try.func7, Try.ntmps7
  go_wp2_with fail
  have hnp : newP 100 8 40 false = P0 := rfl
  refine Calls.mono ((by have := New_yes P0_nok w; rwa [hnp] at this)) ?_
  rintro e z1 ⟨va, rfl, hv, hb⟩
  have hx1 : RowKit.Below w.heap.size w z1 := by
    refine Below.trans ?_ (hb.mono ?_)
    · (first | exact Below.refl _ _ | exact (Below.refl _ _).alloc (by simp) _ | exact ((Below.refl _ _).alloc (by simp) _).alloc (by simp) _ | exact (((Below.refl _ _).alloc (by simp) _).alloc (by simp) _).alloc (by simp) _)
    · first | exact Nat.le_refl _ | (simp; done) | (simp; omega)
  replace HB := Lib.hid (HB.out.trans (hx1.mono HB.out.size))
  clear hb hx1
  obtain ⟨vfp, vup, rfl, hfp, hup⟩ := hv
  obtain ⟨afp, cfp, rfl⟩ := hfp.len
  obtain ⟨aup, cup, rfl, _⟩ := hup.2
  have Xp : PX (z1.alloc (.cells #[.int .i64 P0.size, .int .i64 P0.grain, .int .i64 P0.quota, .bool P0.drain, .bool P0.best, .slice afp P0.free.length cfp, .slice aup P0.uses.length cup] 25)) z1.heap.size P0 (.slice afp P0.free.length cfp) (.slice aup P0.uses.length cup) := PX.new hfp hup
  obtain ⟨y2, hy2⟩ : ∃ y, z1.alloc (.cells #[.int .i64 P0.size, .int .i64 P0.grain, .int .i64 P0.quota, .bool P0.drain, .bool P0.best, .slice afp P0.free.length cfp, .slice aup P0.uses.length cup] 25) = y := ⟨_, rfl⟩
  have hx2 : RowKit.Below z1.heap.size z1 y2 := by rw [← hy2]; exact below_box _ _
  replace HB := Lib.hid (HB.out.trans (hx2.mono HB.out.size))
  rw [hy2] at Xp
  clear hfp hup
  have xp0 := Xp.pb.k0; have xp1 := Xp.pb.k1; have xp2 := Xp.pb.k2; have xp3 := Xp.pb.k3; have xp4 := Xp.pb.k4; have xp5 := Xp.pb.k5; have xp6 := Xp.pb.k6
  go_wp2_with fail
  clear hy2
  refine Calls.mono (Grant_yes (Xp.w P0_lens.2.1 P0_lens.2.2) uA 10 P0_gok) ?_
  rintro e z3 ⟨va, vt, rfl, hv, hvt, hb⟩
  clear xp0 xp1 xp2 xp3 xp4 xp5 xp6
  replace hv : PolV z3 va P1 := hv
  rw [P0_took] at hvt
  obtain ⟨at0, ct0, rfl⟩ := hvt.len
  have hx3 : RowKit.Below y2.heap.size y2 z3 := by
    refine Below.trans ?_ (hb.mono ?_)
    · (first | exact Below.refl _ _ | exact (Below.refl _ _).alloc (by simp) _ | exact ((Below.refl _ _).alloc (by simp) _).alloc (by simp) _ | exact (((Below.refl _ _).alloc (by simp) _).alloc (by simp) _).alloc (by simp) _)
    · first | exact Nat.le_refl _ | (simp; done) | (simp; omega)
  replace Xp := Xp.next hx3
  replace HB := Lib.hid (HB.out.trans (hx3.mono HB.out.size))
  have xp0 := Xp.pb.k0; have xp1 := Xp.pb.k1; have xp2 := Xp.pb.k2; have xp3 := Xp.pb.k3; have xp4 := Xp.pb.k4; have xp5 := Xp.pb.k5; have xp6 := Xp.pb.k6
  clear hb hx3
  obtain ⟨vfq, vuq, rfl, hfq, huq⟩ := hv
  obtain ⟨afq, cfq, rfl⟩ := hfq.len
  obtain ⟨auq, cuq, rfl, _⟩ := huq.2
  have Xq : PX (z3.alloc (.cells #[.int .i64 P1.size, .int .i64 P1.grain, .int .i64 P1.quota, .bool P1.drain, .bool P1.best, .slice afq P1.free.length cfq, .slice auq P1.uses.length cuq] 25)) z3.heap.size P1 (.slice afq P1.free.length cfq) (.slice auq P1.uses.length cuq) := PX.new hfq huq
  obtain ⟨y4, hy4⟩ : ∃ y, z3.alloc (.cells #[.int .i64 P1.size, .int .i64 P1.grain, .int .i64 P1.quota, .bool P1.drain, .bool P1.best, .slice afq P1.free.length cfq, .slice auq P1.uses.length cuq] 25) = y := ⟨_, rfl⟩
  have hx4 : RowKit.Below z3.heap.size z3 y4 := by rw [← hy4]; exact below_box _ _
  clear xp0 xp1 xp2 xp3 xp4 xp5 xp6
  replace Xp := Xp.next hx4
  replace hvt := hvt.next hx4
  replace HB := Lib.hid (HB.out.trans (hx4.mono HB.out.size))
  have xp0 := Xp.pb.k0; have xp1 := Xp.pb.k1; have xp2 := Xp.pb.k2; have xp3 := Xp.pb.k3; have xp4 := Xp.pb.k4; have xp5 := Xp.pb.k5; have xp6 := Xp.pb.k6
  rw [hy4] at Xq
  clear hfq huq
  have xq0 := Xq.pb.k0; have xq1 := Xq.pb.k1; have xq2 := Xq.pb.k2; have xq3 := Xq.pb.k3; have xq4 := Xq.pb.k4; have xq5 := Xq.pb.k5; have xq6 := Xq.pb.k6
  go_wp2_with fail
  clear hy4
  refine Calls.mono ((by have := Grant_no (Xq.w P1_lens.1 P1_lens.2) uA 30 (by rw [P1_code]; decide); rwa [P1_code] at this)) ?_
  rintro e z5 ⟨rfl, hb⟩
  clear xp0 xp1 xp2 xp3 xp4 xp5 xp6 xq0 xq1 xq2 xq3 xq4 xq5 xq6
  have hx5 : RowKit.Below y4.heap.size y4 z5 := by
    refine Below.trans ?_ (hb.mono ?_)
    · (first | exact Below.refl _ _ | exact (Below.refl _ _).alloc (by simp) _ | exact ((Below.refl _ _).alloc (by simp) _).alloc (by simp) _ | exact (((Below.refl _ _).alloc (by simp) _).alloc (by simp) _).alloc (by simp) _)
    · first | exact Nat.le_refl _ | (simp; done) | (simp; omega)
  replace Xp := Xp.next hx5
  replace hvt := hvt.next hx5
  replace Xq := Xq.next hx5
  replace HB := Lib.hid (HB.out.trans (hx5.mono HB.out.size))
  have xp0 := Xp.pb.k0; have xp1 := Xp.pb.k1; have xp2 := Xp.pb.k2; have xp3 := Xp.pb.k3; have xp4 := Xp.pb.k4; have xp5 := Xp.pb.k5; have xp6 := Xp.pb.k6
  have xq0 := Xq.pb.k0; have xq1 := Xq.pb.k1; have xq2 := Xq.pb.k2; have xq3 := Xq.pb.k3; have xq4 := Xq.pb.k4; have xq5 := Xq.pb.k5; have xq6 := Xq.pb.k6
  clear hb hx5
  have ltxp := Xp.pb.lt
  have ltxq := Xq.pb.lt
  go_wp2_with fail
  clear ltxp
  clear ltxq
  obtain ⟨y6, hy6⟩ : ∃ y, z5.alloc (.cells #[.int .i64 0, .int .i64 0, .int .i64 0, .bool false, .bool false, .slice none 0 0, .slice none 0 0] 25) = y := ⟨_, rfl⟩
  have hx6 : RowKit.Below z5.heap.size z5 y6 := by rw [← hy6]; exact below_box _ _
  clear xp0 xp1 xp2 xp3 xp4 xp5 xp6 xq0 xq1 xq2 xq3 xq4 xq5 xq6
  replace Xp := Xp.next hx6
  replace hvt := hvt.next hx6
  replace Xq := Xq.next hx6
  replace HB := Lib.hid (HB.out.trans (hx6.mono HB.out.size))
  have xp0 := Xp.pb.k0; have xp1 := Xp.pb.k1; have xp2 := Xp.pb.k2; have xp3 := Xp.pb.k3; have xp4 := Xp.pb.k4; have xp5 := Xp.pb.k5; have xp6 := Xp.pb.k6
  have xq0 := Xq.pb.k0; have xq1 := Xq.pb.k1; have xq2 := Xq.pb.k2; have xq3 := Xq.pb.k3; have xq4 := Xq.pb.k4; have xq5 := Xq.pb.k5; have xq6 := Xq.pb.k6
  rw [hy6]
  clear hy6
  refine Calls.mono ((by have := Return_yes (Xq.w P1_lens.1 P1_lens.2) uA (l := po.gT P0 10) (by rw [P0_took]; exact hvt) P1_ret.1; rwa [P1_ret.2] at this)) ?_
  rintro e z7 ⟨va, rfl, hv, hb⟩
  clear xp0 xp1 xp2 xp3 xp4 xp5 xp6 xq0 xq1 xq2 xq3 xq4 xq5 xq6
  have hx7 : RowKit.Below y6.heap.size y6 z7 := by
    refine Below.trans ?_ (hb.mono ?_)
    · (first | exact Below.refl _ _ | exact (Below.refl _ _).alloc (by simp) _ | exact ((Below.refl _ _).alloc (by simp) _).alloc (by simp) _ | exact (((Below.refl _ _).alloc (by simp) _).alloc (by simp) _).alloc (by simp) _)
    · first | exact Nat.le_refl _ | (simp; done) | (simp; omega)
  replace Xp := Xp.next hx7
  replace hvt := hvt.next hx7
  replace Xq := Xq.next hx7
  replace HB := Lib.hid (HB.out.trans (hx7.mono HB.out.size))
  have xp0 := Xp.pb.k0; have xp1 := Xp.pb.k1; have xp2 := Xp.pb.k2; have xp3 := Xp.pb.k3; have xp4 := Xp.pb.k4; have xp5 := Xp.pb.k5; have xp6 := Xp.pb.k6
  have xq0 := Xq.pb.k0; have xq1 := Xq.pb.k1; have xq2 := Xq.pb.k2; have xq3 := Xq.pb.k3; have xq4 := Xq.pb.k4; have xq5 := Xq.pb.k5; have xq6 := Xq.pb.k6
  clear hb hx7
  obtain ⟨vfr, vur, rfl, hfr, hur⟩ := hv
  obtain ⟨afr, cfr, rfl⟩ := hfr.len
  obtain ⟨aur, cur, rfl, _⟩ := hur.2
  have Xr : PX (z7.alloc (.cells #[.int .i64 P0.size, .int .i64 P0.grain, .int .i64 P0.quota, .bool P0.drain, .bool P0.best, .slice afr P0.free.length cfr, .slice aur P0.uses.length cur] 25)) z7.heap.size P0 (.slice afr P0.free.length cfr) (.slice aur P0.uses.length cur) := PX.new hfr hur
  obtain ⟨y8, hy8⟩ : ∃ y, z7.alloc (.cells #[.int .i64 P0.size, .int .i64 P0.grain, .int .i64 P0.quota, .bool P0.drain, .bool P0.best, .slice afr P0.free.length cfr, .slice aur P0.uses.length cur] 25) = y := ⟨_, rfl⟩
  have hx8 : RowKit.Below z7.heap.size z7 y8 := by rw [← hy8]; exact below_box _ _
  clear xp0 xp1 xp2 xp3 xp4 xp5 xp6 xq0 xq1 xq2 xq3 xq4 xq5 xq6
  replace Xp := Xp.next hx8
  replace hvt := hvt.next hx8
  replace Xq := Xq.next hx8
  replace HB := Lib.hid (HB.out.trans (hx8.mono HB.out.size))
  have xp0 := Xp.pb.k0; have xp1 := Xp.pb.k1; have xp2 := Xp.pb.k2; have xp3 := Xp.pb.k3; have xp4 := Xp.pb.k4; have xp5 := Xp.pb.k5; have xp6 := Xp.pb.k6
  have xq0 := Xq.pb.k0; have xq1 := Xq.pb.k1; have xq2 := Xq.pb.k2; have xq3 := Xq.pb.k3; have xq4 := Xq.pb.k4; have xq5 := Xq.pb.k5; have xq6 := Xq.pb.k6
  rw [hy8] at Xr
  clear hfr hur
  have xr0 := Xr.pb.k0; have xr1 := Xr.pb.k1; have xr2 := Xr.pb.k2; have xr3 := Xr.pb.k3; have xr4 := Xr.pb.k4; have xr5 := Xr.pb.k5; have xr6 := Xr.pb.k6
  go_wp2_with fail
  clear hy8
  refine Calls.mono (Drain_yes (Xp.w P0_lens.2.1 P0_lens.2.2) P0_valid true) ?_
  rintro e z9 ⟨va, rfl, hv, hb⟩
  clear xp0 xp1 xp2 xp3 xp4 xp5 xp6 xq0 xq1 xq2 xq3 xq4 xq5 xq6 xr0 xr1 xr2 xr3 xr4 xr5 xr6
  replace hv : PolV z9 va PD := hv
  have hx9 : RowKit.Below y8.heap.size y8 z9 := by
    refine Below.trans ?_ (hb.mono ?_)
    · (first | exact Below.refl _ _ | exact (Below.refl _ _).alloc (by simp) _ | exact ((Below.refl _ _).alloc (by simp) _).alloc (by simp) _ | exact (((Below.refl _ _).alloc (by simp) _).alloc (by simp) _).alloc (by simp) _)
    · first | exact Nat.le_refl _ | (simp; done) | (simp; omega)
  replace Xp := Xp.next hx9
  replace hvt := hvt.next hx9
  replace Xq := Xq.next hx9
  replace Xr := Xr.next hx9
  replace HB := Lib.hid (HB.out.trans (hx9.mono HB.out.size))
  have xp0 := Xp.pb.k0; have xp1 := Xp.pb.k1; have xp2 := Xp.pb.k2; have xp3 := Xp.pb.k3; have xp4 := Xp.pb.k4; have xp5 := Xp.pb.k5; have xp6 := Xp.pb.k6
  have xq0 := Xq.pb.k0; have xq1 := Xq.pb.k1; have xq2 := Xq.pb.k2; have xq3 := Xq.pb.k3; have xq4 := Xq.pb.k4; have xq5 := Xq.pb.k5; have xq6 := Xq.pb.k6
  have xr0 := Xr.pb.k0; have xr1 := Xr.pb.k1; have xr2 := Xr.pb.k2; have xr3 := Xr.pb.k3; have xr4 := Xr.pb.k4; have xr5 := Xr.pb.k5; have xr6 := Xr.pb.k6
  clear hb hx9
  obtain ⟨vfd, vud, rfl, hfd, hud⟩ := hv
  obtain ⟨afd, cfd, rfl⟩ := hfd.len
  obtain ⟨aud, cud, rfl, _⟩ := hud.2
  have Xd : PX (z9.alloc (.cells #[.int .i64 PD.size, .int .i64 PD.grain, .int .i64 PD.quota, .bool PD.drain, .bool PD.best, .slice afd PD.free.length cfd, .slice aud PD.uses.length cud] 25)) z9.heap.size PD (.slice afd PD.free.length cfd) (.slice aud PD.uses.length cud) := PX.new hfd hud
  obtain ⟨y10, hy10⟩ : ∃ y, z9.alloc (.cells #[.int .i64 PD.size, .int .i64 PD.grain, .int .i64 PD.quota, .bool PD.drain, .bool PD.best, .slice afd PD.free.length cfd, .slice aud PD.uses.length cud] 25) = y := ⟨_, rfl⟩
  have hx10 : RowKit.Below z9.heap.size z9 y10 := by rw [← hy10]; exact below_box _ _
  clear xp0 xp1 xp2 xp3 xp4 xp5 xp6 xq0 xq1 xq2 xq3 xq4 xq5 xq6 xr0 xr1 xr2 xr3 xr4 xr5 xr6
  replace Xp := Xp.next hx10
  replace hvt := hvt.next hx10
  replace Xq := Xq.next hx10
  replace Xr := Xr.next hx10
  replace HB := Lib.hid (HB.out.trans (hx10.mono HB.out.size))
  have xp0 := Xp.pb.k0; have xp1 := Xp.pb.k1; have xp2 := Xp.pb.k2; have xp3 := Xp.pb.k3; have xp4 := Xp.pb.k4; have xp5 := Xp.pb.k5; have xp6 := Xp.pb.k6
  have xq0 := Xq.pb.k0; have xq1 := Xq.pb.k1; have xq2 := Xq.pb.k2; have xq3 := Xq.pb.k3; have xq4 := Xq.pb.k4; have xq5 := Xq.pb.k5; have xq6 := Xq.pb.k6
  have xr0 := Xr.pb.k0; have xr1 := Xr.pb.k1; have xr2 := Xr.pb.k2; have xr3 := Xr.pb.k3; have xr4 := Xr.pb.k4; have xr5 := Xr.pb.k5; have xr6 := Xr.pb.k6
  rw [hy10] at Xd
  clear hfd hud
  have xd0 := Xd.pb.k0; have xd1 := Xd.pb.k1; have xd2 := Xd.pb.k2; have xd3 := Xd.pb.k3; have xd4 := Xd.pb.k4; have xd5 := Xd.pb.k5; have xd6 := Xd.pb.k6
  go_wp2_with fail
  clear hy10
  refine Calls.mono ((by have := Grant_no (Xd.w P0_lens.2.1 P0_lens.2.2) uA 10 (by rw [PD_code]; decide); rwa [PD_code] at this)) ?_
  rintro e z11 ⟨rfl, hb⟩
  clear xp0 xp1 xp2 xp3 xp4 xp5 xp6 xq0 xq1 xq2 xq3 xq4 xq5 xq6 xr0 xr1 xr2 xr3 xr4 xr5 xr6 xd0 xd1 xd2 xd3 xd4 xd5 xd6
  have hx11 : RowKit.Below y10.heap.size y10 z11 := by
    refine Below.trans ?_ (hb.mono ?_)
    · (first | exact Below.refl _ _ | exact (Below.refl _ _).alloc (by simp) _ | exact ((Below.refl _ _).alloc (by simp) _).alloc (by simp) _ | exact (((Below.refl _ _).alloc (by simp) _).alloc (by simp) _).alloc (by simp) _)
    · first | exact Nat.le_refl _ | (simp; done) | (simp; omega)
  replace Xp := Xp.next hx11
  replace hvt := hvt.next hx11
  replace Xq := Xq.next hx11
  replace Xr := Xr.next hx11
  replace Xd := Xd.next hx11
  replace HB := Lib.hid (HB.out.trans (hx11.mono HB.out.size))
  have xp0 := Xp.pb.k0; have xp1 := Xp.pb.k1; have xp2 := Xp.pb.k2; have xp3 := Xp.pb.k3; have xp4 := Xp.pb.k4; have xp5 := Xp.pb.k5; have xp6 := Xp.pb.k6
  have xq0 := Xq.pb.k0; have xq1 := Xq.pb.k1; have xq2 := Xq.pb.k2; have xq3 := Xq.pb.k3; have xq4 := Xq.pb.k4; have xq5 := Xq.pb.k5; have xq6 := Xq.pb.k6
  have xr0 := Xr.pb.k0; have xr1 := Xr.pb.k1; have xr2 := Xr.pb.k2; have xr3 := Xr.pb.k3; have xr4 := Xr.pb.k4; have xr5 := Xr.pb.k5; have xr6 := Xr.pb.k6
  have xd0 := Xd.pb.k0; have xd1 := Xd.pb.k1; have xd2 := Xd.pb.k2; have xd3 := Xd.pb.k3; have xd4 := Xd.pb.k4; have xd5 := Xd.pb.k5; have xd6 := Xd.pb.k6
  clear hb hx11
  have ltxp := Xp.pb.lt
  have ltxq := Xq.pb.lt
  have ltxr := Xr.pb.lt
  have ltxd := Xd.pb.lt
  go_wp2_with fail
  clear ltxp
  clear ltxq
  clear ltxr
  clear ltxd
  obtain ⟨y12, hy12⟩ : ∃ y, z11.alloc (.cells #[.int .i64 0, .int .i64 0, .int .i64 0, .bool false, .bool false, .slice none 0 0, .slice none 0 0] 25) = y := ⟨_, rfl⟩
  have hx12 : RowKit.Below z11.heap.size z11 y12 := by rw [← hy12]; exact below_box _ _
  clear xp0 xp1 xp2 xp3 xp4 xp5 xp6 xq0 xq1 xq2 xq3 xq4 xq5 xq6 xr0 xr1 xr2 xr3 xr4 xr5 xr6 xd0 xd1 xd2 xd3 xd4 xd5 xd6
  replace Xp := Xp.next hx12
  replace hvt := hvt.next hx12
  replace Xq := Xq.next hx12
  replace Xr := Xr.next hx12
  replace Xd := Xd.next hx12
  replace HB := Lib.hid (HB.out.trans (hx12.mono HB.out.size))
  have xp0 := Xp.pb.k0; have xp1 := Xp.pb.k1; have xp2 := Xp.pb.k2; have xp3 := Xp.pb.k3; have xp4 := Xp.pb.k4; have xp5 := Xp.pb.k5; have xp6 := Xp.pb.k6
  have xq0 := Xq.pb.k0; have xq1 := Xq.pb.k1; have xq2 := Xq.pb.k2; have xq3 := Xq.pb.k3; have xq4 := Xq.pb.k4; have xq5 := Xq.pb.k5; have xq6 := Xq.pb.k6
  have xr0 := Xr.pb.k0; have xr1 := Xr.pb.k1; have xr2 := Xr.pb.k2; have xr3 := Xr.pb.k3; have xr4 := Xr.pb.k4; have xr5 := Xr.pb.k5; have xr6 := Xr.pb.k6
  have xd0 := Xd.pb.k0; have xd1 := Xd.pb.k1; have xd2 := Xd.pb.k2; have xd3 := Xd.pb.k3; have xd4 := Xd.pb.k4; have xd5 := Xd.pb.k5; have xd6 := Xd.pb.k6
  rw [hy12]
  clear hy12
  refine Calls.mono (New_no P0_no _) ?_
  rintro e z13 ⟨rfl, hb⟩
  clear xp0 xp1 xp2 xp3 xp4 xp5 xp6 xq0 xq1 xq2 xq3 xq4 xq5 xq6 xr0 xr1 xr2 xr3 xr4 xr5 xr6 xd0 xd1 xd2 xd3 xd4 xd5 xd6
  have hx13 : RowKit.Below y12.heap.size y12 z13 := by
    refine Below.trans ?_ (hb.mono ?_)
    · (first | exact Below.refl _ _ | exact (Below.refl _ _).alloc (by simp) _ | exact ((Below.refl _ _).alloc (by simp) _).alloc (by simp) _ | exact (((Below.refl _ _).alloc (by simp) _).alloc (by simp) _).alloc (by simp) _)
    · first | exact Nat.le_refl _ | (simp; done) | (simp; omega)
  replace Xp := Xp.next hx13
  replace hvt := hvt.next hx13
  replace Xq := Xq.next hx13
  replace Xr := Xr.next hx13
  replace Xd := Xd.next hx13
  replace HB := Lib.hid (HB.out.trans (hx13.mono HB.out.size))
  have xp0 := Xp.pb.k0; have xp1 := Xp.pb.k1; have xp2 := Xp.pb.k2; have xp3 := Xp.pb.k3; have xp4 := Xp.pb.k4; have xp5 := Xp.pb.k5; have xp6 := Xp.pb.k6
  have xq0 := Xq.pb.k0; have xq1 := Xq.pb.k1; have xq2 := Xq.pb.k2; have xq3 := Xq.pb.k3; have xq4 := Xq.pb.k4; have xq5 := Xq.pb.k5; have xq6 := Xq.pb.k6
  have xr0 := Xr.pb.k0; have xr1 := Xr.pb.k1; have xr2 := Xr.pb.k2; have xr3 := Xr.pb.k3; have xr4 := Xr.pb.k4; have xr5 := Xr.pb.k5; have xr6 := Xr.pb.k6
  have xd0 := Xd.pb.k0; have xd1 := Xd.pb.k1; have xd2 := Xd.pb.k2; have xd3 := Xd.pb.k3; have xd4 := Xd.pb.k4; have xd5 := Xd.pb.k5; have xd6 := Xd.pb.k6
  clear hb hx13
  have ltxp := Xp.pb.lt
  have ltxq := Xq.pb.lt
  have ltxr := Xr.pb.lt
  have ltxd := Xd.pb.lt
  go_wp2_with fail
  clear ltxp
  clear ltxq
  clear ltxr
  clear ltxd
  obtain ⟨y14, hy14⟩ : ∃ y, z13.alloc (.cells #[.int .i64 0, .int .i64 0, .int .i64 0, .bool false, .bool false, .slice none 0 0, .slice none 0 0] 25) = y := ⟨_, rfl⟩
  have hx14 : RowKit.Below z13.heap.size z13 y14 := by rw [← hy14]; exact below_box _ _
  clear xp0 xp1 xp2 xp3 xp4 xp5 xp6 xq0 xq1 xq2 xq3 xq4 xq5 xq6 xr0 xr1 xr2 xr3 xr4 xr5 xr6 xd0 xd1 xd2 xd3 xd4 xd5 xd6
  replace Xp := Xp.next hx14
  replace hvt := hvt.next hx14
  replace Xq := Xq.next hx14
  replace Xr := Xr.next hx14
  replace Xd := Xd.next hx14
  replace HB := Lib.hid (HB.out.trans (hx14.mono HB.out.size))
  have xp0 := Xp.pb.k0; have xp1 := Xp.pb.k1; have xp2 := Xp.pb.k2; have xp3 := Xp.pb.k3; have xp4 := Xp.pb.k4; have xp5 := Xp.pb.k5; have xp6 := Xp.pb.k6
  have xq0 := Xq.pb.k0; have xq1 := Xq.pb.k1; have xq2 := Xq.pb.k2; have xq3 := Xq.pb.k3; have xq4 := Xq.pb.k4; have xq5 := Xq.pb.k5; have xq6 := Xq.pb.k6
  have xr0 := Xr.pb.k0; have xr1 := Xr.pb.k1; have xr2 := Xr.pb.k2; have xr3 := Xr.pb.k3; have xr4 := Xr.pb.k4; have xr5 := Xr.pb.k5; have xr6 := Xr.pb.k6
  have xd0 := Xd.pb.k0; have xd1 := Xd.pb.k1; have xd2 := Xd.pb.k2; have xd3 := Xd.pb.k3; have xd4 := Xd.pb.k4; have xd5 := Xd.pb.k5; have xd6 := Xd.pb.k6
  rw [hy14]
  clear hy14
  refine Calls.mono ((by have := Free_yes (Xp.w P0_lens.2.1 P0_lens.2.2) P0_valid; rwa [tot_P0] at this)) ?_
  rintro e z15 ⟨rfl, hb⟩
  clear xp0 xp1 xp2 xp3 xp4 xp5 xp6 xq0 xq1 xq2 xq3 xq4 xq5 xq6 xr0 xr1 xr2 xr3 xr4 xr5 xr6 xd0 xd1 xd2 xd3 xd4 xd5 xd6
  have hx15 : RowKit.Below y14.heap.size y14 z15 := by
    refine Below.trans ?_ (hb.mono ?_)
    · (first | exact Below.refl _ _ | exact (Below.refl _ _).alloc (by simp) _ | exact ((Below.refl _ _).alloc (by simp) _).alloc (by simp) _ | exact (((Below.refl _ _).alloc (by simp) _).alloc (by simp) _).alloc (by simp) _)
    · first | exact Nat.le_refl _ | (simp; done) | (simp; omega)
  replace Xp := Xp.next hx15
  replace hvt := hvt.next hx15
  replace Xq := Xq.next hx15
  replace Xr := Xr.next hx15
  replace Xd := Xd.next hx15
  replace HB := Lib.hid (HB.out.trans (hx15.mono HB.out.size))
  have xp0 := Xp.pb.k0; have xp1 := Xp.pb.k1; have xp2 := Xp.pb.k2; have xp3 := Xp.pb.k3; have xp4 := Xp.pb.k4; have xp5 := Xp.pb.k5; have xp6 := Xp.pb.k6
  have xq0 := Xq.pb.k0; have xq1 := Xq.pb.k1; have xq2 := Xq.pb.k2; have xq3 := Xq.pb.k3; have xq4 := Xq.pb.k4; have xq5 := Xq.pb.k5; have xq6 := Xq.pb.k6
  have xr0 := Xr.pb.k0; have xr1 := Xr.pb.k1; have xr2 := Xr.pb.k2; have xr3 := Xr.pb.k3; have xr4 := Xr.pb.k4; have xr5 := Xr.pb.k5; have xr6 := Xr.pb.k6
  have xd0 := Xd.pb.k0; have xd1 := Xd.pb.k1; have xd2 := Xd.pb.k2; have xd3 := Xd.pb.k3; have xd4 := Xd.pb.k4; have xd5 := Xd.pb.k5; have xd6 := Xd.pb.k6
  clear hb hx15
  obtain ⟨y16, hy16⟩ : ∃ y, z15.alloc (.cells #[.int .i64 0, .int .i64 16] 54) = y := ⟨_, rfl⟩
  have hx16 : RowKit.Below z15.heap.size z15 y16 := by rw [← hy16]; exact below_box _ _
  clear xp0 xp1 xp2 xp3 xp4 xp5 xp6 xq0 xq1 xq2 xq3 xq4 xq5 xq6 xr0 xr1 xr2 xr3 xr4 xr5 xr6 xd0 xd1 xd2 xd3 xd4 xd5 xd6
  replace Xp := Xp.next hx16
  replace hvt := hvt.next hx16
  replace Xq := Xq.next hx16
  replace Xr := Xr.next hx16
  replace Xd := Xd.next hx16
  replace HB := Lib.hid (HB.out.trans (hx16.mono HB.out.size))
  have xp0 := Xp.pb.k0; have xp1 := Xp.pb.k1; have xp2 := Xp.pb.k2; have xp3 := Xp.pb.k3; have xp4 := Xp.pb.k4; have xp5 := Xp.pb.k5; have xp6 := Xp.pb.k6
  have xq0 := Xq.pb.k0; have xq1 := Xq.pb.k1; have xq2 := Xq.pb.k2; have xq3 := Xq.pb.k3; have xq4 := Xq.pb.k4; have xq5 := Xq.pb.k5; have xq6 := Xq.pb.k6
  have xr0 := Xr.pb.k0; have xr1 := Xr.pb.k1; have xr2 := Xr.pb.k2; have xr3 := Xr.pb.k3; have xr4 := Xr.pb.k4; have xr5 := Xr.pb.k5; have xr6 := Xr.pb.k6
  have xd0 := Xd.pb.k0; have xd1 := Xd.pb.k1; have xd2 := Xd.pb.k2; have xd3 := Xd.pb.k3; have xd4 := Xd.pb.k4; have xd5 := Xd.pb.k5; have xd6 := Xd.pb.k6
  have hlit := one_ext z15 0 16
  rw [hy16] at hlit
  go_wp2_with fail
  clear hy16
  refine Calls.mono (Same_yes hvt hlit (by simp)) ?_
  rintro e z17 ⟨rfl, hb⟩
  clear xp0 xp1 xp2 xp3 xp4 xp5 xp6 xq0 xq1 xq2 xq3 xq4 xq5 xq6 xr0 xr1 xr2 xr3 xr4 xr5 xr6 xd0 xd1 xd2 xd3 xd4 xd5 xd6
  have hx17 : RowKit.Below y16.heap.size y16 z17 := by
    refine Below.trans ?_ (hb.mono ?_)
    · (first | exact Below.refl _ _ | exact (Below.refl _ _).alloc (by simp) _ | exact ((Below.refl _ _).alloc (by simp) _).alloc (by simp) _ | exact (((Below.refl _ _).alloc (by simp) _).alloc (by simp) _).alloc (by simp) _)
    · first | exact Nat.le_refl _ | (simp; done) | (simp; omega)
  replace Xp := Xp.next hx17
  replace hvt := hvt.next hx17
  replace Xq := Xq.next hx17
  replace Xr := Xr.next hx17
  replace Xd := Xd.next hx17
  replace hlit := hlit.next hx17
  replace HB := Lib.hid (HB.out.trans (hx17.mono HB.out.size))
  have xp0 := Xp.pb.k0; have xp1 := Xp.pb.k1; have xp2 := Xp.pb.k2; have xp3 := Xp.pb.k3; have xp4 := Xp.pb.k4; have xp5 := Xp.pb.k5; have xp6 := Xp.pb.k6
  have xq0 := Xq.pb.k0; have xq1 := Xq.pb.k1; have xq2 := Xq.pb.k2; have xq3 := Xq.pb.k3; have xq4 := Xq.pb.k4; have xq5 := Xq.pb.k5; have xq6 := Xq.pb.k6
  have xr0 := Xr.pb.k0; have xr1 := Xr.pb.k1; have xr2 := Xr.pb.k2; have xr3 := Xr.pb.k3; have xr4 := Xr.pb.k4; have xr5 := Xr.pb.k5; have xr6 := Xr.pb.k6
  have xd0 := Xd.pb.k0; have xd1 := Xd.pb.k1; have xd2 := Xd.pb.k2; have xd3 := Xd.pb.k3; have xd4 := Xd.pb.k4; have xd5 := Xd.pb.k5; have xd6 := Xd.pb.k6
  clear hb hx17
  go_wp2_with fail
  refine Calls.mono ((by have := Used_yes uA (Xq.w P1_lens.1 P1_lens.2) P1_valid; rwa [P1_lk] at this)) ?_
  rintro e z18 ⟨rfl, hb⟩
  clear xp0 xp1 xp2 xp3 xp4 xp5 xp6 xq0 xq1 xq2 xq3 xq4 xq5 xq6 xr0 xr1 xr2 xr3 xr4 xr5 xr6 xd0 xd1 xd2 xd3 xd4 xd5 xd6
  have hx18 : RowKit.Below z17.heap.size z17 z18 := by
    refine Below.trans ?_ (hb.mono ?_)
    · (first | exact Below.refl _ _ | exact (Below.refl _ _).alloc (by simp) _ | exact ((Below.refl _ _).alloc (by simp) _).alloc (by simp) _ | exact (((Below.refl _ _).alloc (by simp) _).alloc (by simp) _).alloc (by simp) _)
    · first | exact Nat.le_refl _ | (simp; done) | (simp; omega)
  replace Xp := Xp.next hx18
  replace hvt := hvt.next hx18
  replace Xq := Xq.next hx18
  replace Xr := Xr.next hx18
  replace Xd := Xd.next hx18
  replace hlit := hlit.next hx18
  replace HB := Lib.hid (HB.out.trans (hx18.mono HB.out.size))
  have xp0 := Xp.pb.k0; have xp1 := Xp.pb.k1; have xp2 := Xp.pb.k2; have xp3 := Xp.pb.k3; have xp4 := Xp.pb.k4; have xp5 := Xp.pb.k5; have xp6 := Xp.pb.k6
  have xq0 := Xq.pb.k0; have xq1 := Xq.pb.k1; have xq2 := Xq.pb.k2; have xq3 := Xq.pb.k3; have xq4 := Xq.pb.k4; have xq5 := Xq.pb.k5; have xq6 := Xq.pb.k6
  have xr0 := Xr.pb.k0; have xr1 := Xr.pb.k1; have xr2 := Xr.pb.k2; have xr3 := Xr.pb.k3; have xr4 := Xr.pb.k4; have xr5 := Xr.pb.k5; have xr6 := Xr.pb.k6
  have xd0 := Xd.pb.k0; have xd1 := Xd.pb.k1; have xd2 := Xd.pb.k2; have xd3 := Xd.pb.k3; have xd4 := Xd.pb.k4; have xd5 := Xd.pb.k5; have xd6 := Xd.pb.k6
  clear hb hx18
  go_wp2_with fail
  refine Calls.mono (PSame_yes Xr.v Xp.v (by have := P0_lens.2.1; omega) (by have := P0_lens.2.2; omega)) ?_
  rintro e z19 ⟨rfl, hb⟩
  clear xp0 xp1 xp2 xp3 xp4 xp5 xp6 xq0 xq1 xq2 xq3 xq4 xq5 xq6 xr0 xr1 xr2 xr3 xr4 xr5 xr6 xd0 xd1 xd2 xd3 xd4 xd5 xd6
  have hx19 : RowKit.Below z18.heap.size z18 z19 := by
    refine Below.trans ?_ (hb.mono ?_)
    · (first | exact Below.refl _ _ | exact (Below.refl _ _).alloc (by simp) _ | exact ((Below.refl _ _).alloc (by simp) _).alloc (by simp) _ | exact (((Below.refl _ _).alloc (by simp) _).alloc (by simp) _).alloc (by simp) _)
    · first | exact Nat.le_refl _ | (simp; done) | (simp; omega)
  replace Xp := Xp.next hx19
  replace hvt := hvt.next hx19
  replace Xq := Xq.next hx19
  replace Xr := Xr.next hx19
  replace Xd := Xd.next hx19
  replace hlit := hlit.next hx19
  replace HB := Lib.hid (HB.out.trans (hx19.mono HB.out.size))
  have xp0 := Xp.pb.k0; have xp1 := Xp.pb.k1; have xp2 := Xp.pb.k2; have xp3 := Xp.pb.k3; have xp4 := Xp.pb.k4; have xp5 := Xp.pb.k5; have xp6 := Xp.pb.k6
  have xq0 := Xq.pb.k0; have xq1 := Xq.pb.k1; have xq2 := Xq.pb.k2; have xq3 := Xq.pb.k3; have xq4 := Xq.pb.k4; have xq5 := Xq.pb.k5; have xq6 := Xq.pb.k6
  have xr0 := Xr.pb.k0; have xr1 := Xr.pb.k1; have xr2 := Xr.pb.k2; have xr3 := Xr.pb.k3; have xr4 := Xr.pb.k4; have xr5 := Xr.pb.k5; have xr6 := Xr.pb.k6
  have xd0 := Xd.pb.k0; have xd1 := Xd.pb.k1; have xd2 := Xd.pb.k2; have xd3 := Xd.pb.k3; have xd4 := Xd.pb.k4; have xd5 := Xd.pb.k5; have xd6 := Xd.pb.k6
  clear hb hx19
  go_wp2_with fail
  go_ret
  exact ⟨rfl, HB.out⟩
end Go.Proofs.Ytdjpnlkhdilakaa.gn
