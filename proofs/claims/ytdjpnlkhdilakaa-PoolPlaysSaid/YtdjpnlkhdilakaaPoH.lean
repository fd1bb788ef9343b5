/- Check of any pool; Free, Used of one that may be; sat.Grain. -/
import Derived.Test.YtdjpnlkhdilakaaPoG
import Derived.Test.YtdjpnlkhdilakaaSatM
set_option linter.unusedVariables false
set_option linter.unusedSimpArgs false
set_option maxRecDepth 100000
namespace Go.Proofs.Ytdjpnlkhdilakaa.gn
open Go.RowKit Go.Shelf Go.Sort Go.Lib
open Go.Proofs.Ytdjpnlkhdilakaa.ex
open Go.Proofs.Ytdjpnlkhdilakaa.po (Nm U less Pl)

attribute [local go_sem] Oper.semAt_some
attribute [local go_sem ↓] Go.wp_at_zero Go.wp_at_succ

/-- A pool that came in, or was made, of lengths that are looked at. -/
structure PolW (w : World) (v : Value) (p : Pl) : Prop where
  v : PolV w v p
  lf : p.free.length ≤ 1000
  lu : p.uses.length ≤ 3800
theorem PolW.next {w w' : World} {v : Value} {p : Pl} (h : PolW w v p) (hb : RowKit.Below w.heap.size w w') : PolW w' v p := ⟨h.v.next hb, h.lf, h.lu⟩
theorem Check_any {w : World} {v : Value} {p : Pl} (h : PolW w v p) : Calls Try.prog 10 #[v] w (Tells (vcode p) w) := by
  obtain ⟨⟨vf, vu, rfl, hf, hu⟩, hl, hlu⟩ := h
  cases q1 : quant p.size with
  | false => exact check_1 hf hu q1
  | true =>
    cases q2 : quant p.grain with
    | false => exact check_2 hf hu q1 q2
    | true =>
      cases q3 : quant p.quota with
      | false => exact check_3 hf hu q1 q2 q3
      | true =>
        by_cases h4 : p.grain = 0
        · exact check_4 hf hu q1 q2 q3 h4
        · by_cases h5 : p.grain ∣ p.size
          · have hb : po.Base p := ⟨quant_yes q1, quant_yes q2, quant_yes q3, h4, h5⟩
            by_cases h6 : Fine p.free
            · by_cases h7 : Normal p.free
              · by_cases h8 : po.Ins p p.free
                · exact check_d hf hu hb hl h6 h7 h8 (by omega)
                · exact check_c hf hu hb hl h6 h7 h8
              · exact check_b hf hu hb hl h6 h7
            · exact check_a hf hu hb hl h6
          · exact check_5 hf hu q1 q2 q3 h4 h5
theorem Check_yes {w : World} {v : Value} {p : Pl} (h : PolW w v p) (hv : po.Valid p) : Calls Try.prog 10 #[v] w (Tells 0 w) := by
  have := Check_any h
  rwa [vcode_yes hv] at this
theorem Check_no {w : World} {v : Value} {p : Pl} (h : PolW w v p) (hv : ¬ po.Valid p) : Calls Try.prog 10 #[v] w (Tells 2 w) := by
  have := Check_any h
  rwa [vcode_no hv] at this
set_option maxHeartbeats 1000000 in
theorem Free_yes {w : World} {v : Value} {p : Pl} (h : PolW w v p) (hv : po.Valid p) : Calls Try.prog 12 #[v] w (Tells (tot p.free) w) := by
  obtain ⟨⟨vf, vu, rfl, hf, hu⟩, hl, hlu⟩ := h
  obtain ⟨pf, cf, rfl⟩ := hf.len
  obtain ⟨pu, cu, rfl, hle⟩ := hu.2
  have ck := CkW.new (w := w) hf hu
  have cc := Check_yes (w := w.alloc (boxP p (.slice pf p.free.length cf) (.slice pu p.uses.length cu))) (v := aggP p (.slice pf p.free.length cf) (.slice pu p.uses.length cu)) ⟨⟨_, _, rfl, ck.hf, ck.hu⟩, hl, hlu⟩ hv
  have HF := Lib.hid hv.vf
  have k0 := ck.pb.k0; have k1 := ck.pb.k1; have k2 := ck.pb.k2; have k3 := ck.pb.k3; have k4 := ck.pb.k4; have k5 := ck.pb.k5; have k6 := ck.pb.k6
  have HC0 := Lib.hid ck
  clear ck hf hu hv
  obtain ⟨size, grain, quota, drain, best, fr, us⟩ := p
  (try dsimp only at *)
  go_enter Try.func12, Try.ntmps12
  go_wp2_with (first
    | (go_at_call 10; refine cc.mono ?_; rintro e w1 ⟨rfl, hb1⟩; have ck1 := HC0.out.next hb1; have HC1 := Lib.hid ck1; have j5 := ck1.pb.k5; (try dsimp only at j5); clear ck1 hb1 cc)
    | (go_at_call 11; refine (Total_any HC1.out.hf HF.out).mono ?_; rintro e w2 ⟨rfl, hb2⟩; have HC2 := Lib.hid (HC1.out.next hb2); clear hb2))
  go_ret
  exact ⟨rfl, HC2.out.hb⟩
set_option maxHeartbeats 1000000 in
theorem Used_yes {w : World} {v : Value} {p : Pl} (u : Nm) (h : PolW w v p) (hv : po.Valid p) : Calls Try.prog 14 #[v, .string (str u)] w (Tells (po.lk p.uses u) w) := by
  obtain ⟨⟨vf, vu, rfl, hf, hu⟩, hl, hlu⟩ := h
  obtain ⟨pf, cf, rfl⟩ := hf.len
  obtain ⟨pu, cu, rfl, hle⟩ := hu.2
  have ck := CkW.new (w := w) hf hu
  have cc := Check_yes (w := w.alloc (boxP p (.slice pf p.free.length cf) (.slice pu p.uses.length cu))) (v := aggP p (.slice pf p.free.length cf) (.slice pu p.uses.length cu)) ⟨⟨_, _, rfl, ck.hf, ck.hu⟩, hl, hlu⟩ hv
  have HU := Lib.hid fun (W : World) (h : CkW w W p (.slice pf p.free.length cf) (.slice pu p.uses.length cu)) => used_any (v := aggP p (.slice pf p.free.length cf) (.slice pu p.uses.length cu)) u ⟨_, _, rfl, h.hf, h.hu⟩ hv.vr (by omega)
  have k0 := ck.pb.k0; have k1 := ck.pb.k1; have k2 := ck.pb.k2; have k3 := ck.pb.k3; have k4 := ck.pb.k4; have k5 := ck.pb.k5; have k6 := ck.pb.k6
  have HC0 := Lib.hid ck
  clear ck hf hu hv
  generalize str u = su at *
  obtain ⟨size, grain, quota, drain, best, fr, us⟩ := p
  (try dsimp only at *)
  go_enter Try.func14, Try.ntmps14
  go_wp2_with (first
    | (go_at_call 10; refine cc.mono ?_; rintro e w1 ⟨rfl, hb1⟩; have ck1 := HC0.out.next hb1; have HC1 := Lib.hid ck1; have j0 := ck1.pb.k0; have j1 := ck1.pb.k1; have j2 := ck1.pb.k2; have j3 := ck1.pb.k3; have j4 := ck1.pb.k4; have j5 := ck1.pb.k5; have j6 := ck1.pb.k6; (try dsimp only at j0); (try dsimp only at j1); (try dsimp only at j2); (try dsimp only at j3); (try dsimp only at j4); (try dsimp only at j5); (try dsimp only at j6); clear ck1 hb1 cc)
    | (go_at_call 23; refine (HU.out _ HC1.out).mono ?_; rintro e w2 ⟨rfl, hb2⟩; have HC2 := Lib.hid (HC1.out.next hb2); clear hb2))
  go_ret
  exact ⟨rfl, HC2.out.hb⟩

end Go.Proofs.Ytdjpnlkhdilakaa.gn
