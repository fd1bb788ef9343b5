/- Check, Free, Used: the contracts (written by gen_poG.py). -/
import Derived.Test.YtdjpnlkhdilakaaPoF
set_option linter.unusedVariables false
set_option linter.unusedSimpArgs false
set_option maxRecDepth 100000
namespace Go.Proofs.Ytdjpnlkhdilakaa.gn
open Go.RowKit Go.Shelf Go.Sort Go.Lib
open Go.Proofs.Ytdjpnlkhdilakaa.ex
open Go.Proofs.Ytdjpnlkhdilakaa.po (Nm U less Pl)

attribute [local go_sem] Oper.semAt_some
attribute [local go_sem ↓] Go.wp_at_zero Go.wp_at_succ

theorem cmp_eq (a b : Nm) : (Go.Op.bytesLess (str a).toList (str b).toList || ((str a).toList == (str b).toList)) = !less b a := by
  rw [str_toList, str_toList, po.less_def]
  cases h : less a b with
  | true => rw [po.less_asymm h]; rfl
  | false =>
    rw [Bool.false_or]
    rcases po.less_tri h with e | e
    · subst e; rw [po.less_self]; simp
    · rw [e]
      have := po.less_ne e
      simpa using fun h2 => this h2.symm
abbrev boxU (u : Nm) (n : Int) : Obj := .cells #[.string (str u), .int .i64 n] 62
theorem check_ans {p : Pl} (hb : po.Base p) (h6 : Fine p.free) (h7 : Normal p.free) (h8 : po.Ins p p.free) : vcode p = if po.chkU p (p.size - tot p.free) [] p.uses = true then 0 else 2 := by
  cases h : po.chkU p (p.size - tot p.free) [] p.uses with
  | true => rw [if_pos rfl]; exact vcode_yes ((po.valid_iff hb h6 h7 h8).1 h)
  | false => rw [if_neg (by simp)]; exact vcode_no fun hv => by rw [(po.valid_iff hb h6 h7 h8).2 hv] at h; cases h
set_option maxHeartbeats 16000000 in
theorem check_d {w : World} {p : Pl} {vf vu : Value} (hf : Rd w vf p.free) (hu : RdU w vu p.uses) (hb : po.Base p) (hl : p.free.length ≤ 1000) (h6 : Fine p.free) (h7 : Normal p.free) (h8 : po.Ins p p.free) (hlu : p.uses.length ≤ 4000) : Calls Try.prog 10 #[aggP p vf vu] w (Tells (vcode p) w) := by
  have HV := Lib.hid (check_ans hb h6 h7 h8)
  have HK := Lib.hid (chk_fine h6)
  have HF := Lib.hid h6
  have HE : Hid (decide (nrm p.free = p.free) = true) := decide_eq_true ((po.normal_iff h6).2 h7)
  have HI : Hid (insB p p.free = true) := (insB_iff h7.1 hb.gp).2 h8
  have ht1 := po.ins_tot h7 hb.s.1 h8.2
  have ht0 := (tot_pos h6.2.1).1
  have hsT := hb.s.2
  obtain ⟨t, hT⟩ : ∃ t, tot p.free = t := ⟨_, rfl⟩
  rw [hT] at HV ht1 ht0
  have HT := Lib.hid hT
  obtain ⟨ans, hA⟩ : ∃ ans, po.chkU p (p.size - t) [] p.uses = ans := ⟨_, rfl⟩
  rw [hA] at HV
  have HA := Lib.hid hA
  clear h6 h7 h8 hT hA
  obtain ⟨pf, cf, rfl⟩ := hf.len
  obtain ⟨pu, cu, rfl, hle⟩ := hu.2
  have ck := CkW.new (w := w) hf hu
  have k0 := ck.pb.k0
  have k1 := ck.pb.k1
  have k2 := ck.pb.k2
  have k3 := ck.pb.k3
  have k4 := ck.pb.k4
  have k5 := ck.pb.k5
  have k6 := ck.pb.k6
  have c1 := fun W => pquantity_any p.size W
  rw [(show quant p.size = true from decide_eq_true hb.s)] at c1
  have c2 := fun W => pquantity_any p.grain W
  rw [(show quant p.grain = true from decide_eq_true hb.g)] at c2
  have c3 := fun W => pquantity_any p.quota W
  rw [(show quant p.quota = true from decide_eq_true hb.q)] at c3
  have hgp := hb.gp
  have HG : Hid (0 < p.grain) := hgp
  have g0 : (p.grain == 0) = false := beq_eq_false_iff_ne.2 hb.g0
  have hs0 : 0 ≤ p.size := hb.s.1
  have g1 : (p.size % p.grain != 0) = false := bne_eq_false_iff_eq.2 (Int.emod_eq_zero_of_dvd hb.d)
  have HL := Lib.hid hl
  have HC0 := Lib.hid ck
  have HQ := Lib.hid hb
  clear hf hu ck hb hl
  obtain ⟨size, grain, quota, drain, best, fr, us⟩ := p
  try dsimp only at *
  have mixed : Try.prog.follows .mixedOrders = true := by kernel_rfl
  obtain ⟨W1, hW1⟩ : ∃ W1, w.alloc (boxP ⟨size, grain, quota, drain, best, fr, us⟩ (.slice pf fr.length cf) (.slice pu us.length cu)) = W1 := ⟨_, rfl⟩
  rw [hW1] at HC0 k0 k1 k2 k3 k4 k5 k6
  go_enter Try.func10, Try.ntmps10
  go_upto_region 3 with (go_at_call 20; first | ((with_reducible refine (c1 _).mono ?_); rintro e w1 ⟨rfl, rfl⟩) | ((with_reducible refine (c2 _).mono ?_); rintro e w1 ⟨rfl, rfl⟩) | ((with_reducible refine (c3 _).mono ?_); rintro e w1 ⟨rfl, rfl⟩))
  try rw [hW1]
  have ckd := HC0.out.drew
  have HC0 := Lib.hid ckd
  clear hW1 c1 c2 c3 ckd
  go_region_held3 (fun W => W.cell? ⟨w.heap.size, 0, none⟩ = some (.int .i64 size) ∧ W.cell? ⟨w.heap.size, 1, none⟩ = some (.int .i64 grain) ∧ W.cell? ⟨w.heap.size, 2, none⟩ = some (.int .i64 quota) ∧ W.cell? ⟨w.heap.size, 3, none⟩ = some (.bool drain) ∧ W.cell? ⟨w.heap.size, 4, none⟩ = some (.bool best) ∧ W.cell? ⟨w.heap.size, 5, none⟩ = some (.slice pf fr.length cf) ∧ W.cell? ⟨w.heap.size, 6, none⟩ = some (.slice pu us.length cu)) (go_keep) (first | (go_at_call 26; refine (check_any HC0.out.hf HL.out).mono ?_; rintro e w1 ⟨rfl, hb1⟩; rw [HK.out]; have ck := HC0.out.next hb1; have HC1 := Lib.hid ck; have k0 := ck.pb.k0; (try dsimp only at k0); have k1 := ck.pb.k1; (try dsimp only at k1); have k2 := ck.pb.k2; (try dsimp only at k2); have k3 := ck.pb.k3; (try dsimp only at k3); have k4 := ck.pb.k4; (try dsimp only at k4); have k5 := ck.pb.k5; (try dsimp only at k5); have k6 := ck.pb.k6; (try dsimp only at k6); clear ck; clear hb1) | (go_at_call 28; refine (Norm_any HC1.out.hf HF.out).mono ?_; rintro e w2 ⟨vn, rfl, hn, hb2⟩; have HN := Lib.hid hn.rd; have ck := HC1.out.next hb2; have HC2 := Lib.hid ck; have k0 := ck.pb.k0; (try dsimp only at k0); have k1 := ck.pb.k1; (try dsimp only at k1); have k2 := ck.pb.k2; (try dsimp only at k2); have k3 := ck.pb.k3; (try dsimp only at k3); have k4 := ck.pb.k4; (try dsimp only at k4); have k5 := ck.pb.k5; (try dsimp only at k5); have k6 := ck.pb.k6; (try dsimp only at k6); clear ck; clear hn hb2) | (go_at_call 27; refine (equal_any HN.out HC2.out.hf (Nat.le_trans (nrm_of HF.out.2.1 HF.out.2.2).len (by have := HL.out; show fr.length ≤ 4000; omega)) (by have := HL.out; show fr.length ≤ 4000; omega)).mono ?_; rintro e w3 ⟨rfl, hb3⟩; rw [HE.out]; have ck := HC2.out.next hb3; have HC3 := Lib.hid ck; have k0 := ck.pb.k0; (try dsimp only at k0); have k1 := ck.pb.k1; (try dsimp only at k1); have k2 := ck.pb.k2; (try dsimp only at k2); have k3 := ck.pb.k3; (try dsimp only at k3); have k4 := ck.pb.k4; (try dsimp only at k4); have k5 := ck.pb.k5; (try dsimp only at k5); have k6 := ck.pb.k6; (try dsimp only at k6); clear ck; clear hb3) | (go_at_call 29; refine (inside_any ⟨size, grain, quota, drain, best, fr, us⟩ (.slice pf fr.length cf) (.slice pu us.length cu) HG.out HC3.out.hf (by have := HL.out; show fr.length ≤ 4000; omega)).mono ?_; rintro e w4 ⟨rfl, hb4⟩; rw [HI.out]; have ck := HC3.out.next hb4; have HC4 := Lib.hid ck; have k0 := ck.pb.k0; (try dsimp only at k0); have k1 := ck.pb.k1; (try dsimp only at k1); have k2 := ck.pb.k2; (try dsimp only at k2); have k3 := ck.pb.k3; (try dsimp only at k3); have k4 := ck.pb.k4; (try dsimp only at k4); have k5 := ck.pb.k5; (try dsimp only at k5); have k6 := ck.pb.k6; (try dsimp only at k6); clear ck; clear hb4))
  have ckd := HC4.out.drew
  have HD0 := Lib.hid ckd
  clear ckd HC0 HC1 HC2 HC3 HN
  have hwt : IntKind.i64.wrap (size - t) = size - t := by rw [IntKind.wrap_i64]; omega
  go_upto_region 5 with fail
  have HP : Hid (CkW w w4 ⟨size, grain, quota, drain, best, fr, us⟩ (.slice pf fr.length cf) (.slice pu us.length cu)) := HC4.out
  go_region_held3 (fun W => W.cell? ⟨w.heap.size, 0, none⟩ = some (.int .i64 size) ∧ W.cell? ⟨w.heap.size, 1, none⟩ = some (.int .i64 grain) ∧ W.cell? ⟨w.heap.size, 2, none⟩ = some (.int .i64 quota) ∧ W.cell? ⟨w.heap.size, 3, none⟩ = some (.bool drain) ∧ W.cell? ⟨w.heap.size, 4, none⟩ = some (.bool best) ∧ W.cell? ⟨w.heap.size, 5, none⟩ = some (.slice pf fr.length cf) ∧ W.cell? ⟨w.heap.size, 6, none⟩ = some (.slice pu us.length cu)) (go_keep) (first | (go_at_call 11; refine (Total_any HD0.out.hf HF.out).mono ?_; rintro e w5 ⟨rfl, hb5⟩; rw [HT.out]; have ck := HD0.out.next hb5; have HD1 := Lib.hid ck; have k0 := ck.pb.k0; (try dsimp only at k0); have k1 := ck.pb.k1; (try dsimp only at k1); have k2 := ck.pb.k2; (try dsimp only at k2); have k3 := ck.pb.k3; (try dsimp only at k3); have k4 := ck.pb.k4; (try dsimp only at k4); have k5 := ck.pb.k5; (try dsimp only at k5); have k6 := ck.pb.k6; (try dsimp only at k6); clear ck; clear hb5))
  clear k0 k1 k2 k3 k4 k5 k6
  have k6 := HD1.out.pb.k6
  (try dsimp only at k6)
  go_upto_region 8 with fail
  go_loopw [3, 4, 65] (fun s3 s4 s65 wr => ∃ (k : Nat) (left : Int) (last : Nm), s3 = .int .i64 left ∧ s4 = .string (str last) ∧ s65 = .int .i64 k ∧ k ≤ us.length ∧ 0 ≤ left ∧ left ≤ 1099511627776 ∧ Aside (CkW w wr ⟨size, grain, quota, drain, best, fr, us⟩ (.slice pf fr.length cf) (.slice pu us.length cu)) ∧ Aside (po.chkU ⟨size, grain, quota, drain, best, fr, us⟩ left last (us.drop k) = ans))
    (fun _ _ s65 _ => us.length - (intOf s65).toNat)
  case atStart => exact ⟨0, size - t, [], rfl, rfl, rfl, Nat.zero_le _, by omega, by omega, (show Aside (CkW w w5 ⟨size, grain, quota, drain, best, fr, us⟩ (.slice pf fr.length cf) (.slice pu us.length cu)) from HD1.out), (show Aside (po.chkU ⟨size, grain, quota, drain, best, fr, us⟩ (size - t) [] us = ans) from HA.out)⟩
  case round =>
    obtain ⟨k, left, last, rfl, rfl, rfl, hk, hl0, hl1, hck, hans⟩ := hrel
    clear k6
    by_cases hlt : k < us.length
    · obtain ⟨b, off, rfl, hbb, e0, e1⟩ := hck.out.hu.at_ hlt
      have hans2 := hans.out
      rw [drop_atU hlt] at hans2
      obtain ⟨D, hD⟩ : ∃ D, us.drop (k + 1) = D := ⟨_, rfl⟩
      rw [hD] at hans2
      have HDR := Lib.hid hD
      (try dsimp only at e0 e1)
      generalize us[k]! = x at *
      obtain ⟨un, N⟩ := x
      dsimp only at e0 e1
      have hck0 := hck.out
      clear hck hans hD
      obtain ⟨X, hX⟩ : ∃ X, wr.alloc (.cells #[.string (str un), .int .i64 N] 62) = X := ⟨_, rfl⟩
      have hbX : RowKit.Below wr.heap.size wr X := by rw [← hX]; exact below_box _ _
      have ckX := hck0.next hbX
      have hh : X.heap[wr.heap.size]? = some (boxU un N) := by rw [← hX]; exact World.alloc_heap_new _ _
      have u0 : X.cell? ⟨wr.heap.size, 0, none⟩ = some (.string (str un)) := cell_of_row _ _ 0 _ _ (0, 0) hh
      have u1 : X.cell? ⟨wr.heap.size, 1, none⟩ = some (.int .i64 N) := cell_of_row _ _ 1 _ _ (0, 0) hh
      have hltX : wr.heap.size < X.heap.size := by rw [← hX]; simp
      have cn := fun W => name_any un W
      have hcmp := cmp_eq un last
      have cuse := fun W => use_any ⟨size, grain, quota, drain, best, fr, us⟩ (.slice pf fr.length cf) (.slice (some ⟨b, off, none⟩) us.length cu) N HG.out W
      have HANS : Hid (((decide (po.Nam un) && less last un && decide (po.UseOk ⟨size, grain, quota, drain, best, fr, us⟩ N) && decide (N ≤ left)) && po.chkU ⟨size, grain, quota, drain, best, fr, us⟩ (left - N) un D) = ans) := hans2
      have HX := Lib.hid (And.intro ckX (And.intro hltX (And.intro u0 u1)))
      have k0 := ckX.pb.k0; have k1 := ckX.pb.k1; have k2 := ckX.pb.k2; have k3 := ckX.pb.k3; have k4 := ckX.pb.k4; have k5 := ckX.pb.k5; have k6 := ckX.pb.k6
      (try dsimp only at k0); (try dsimp only at k1); (try dsimp only at k2); (try dsimp only at k3); (try dsimp only at k4); (try dsimp only at k5); (try dsimp only at k6)
      have w6 := hck0.pb.k6
      (try dsimp only at w6)
      have HC := Lib.hid hck0
      clear hans2 ckX hbX hh hck0
      generalize hsu : str un = su at *
      generalize hsl : str last = sl at *
      cases d1 : decide (po.Nam un) with
      | false =>
        rw [d1] at cn
        have HV2 : Hid (vcode ⟨size, grain, quota, drain, best, fr, us⟩ = 2) := by show _ = _; rw [HV.out, ← HANS.out, d1]; rfl
        clear hcmp cuse
        go_wp2_with (go_at_call 21; refine (cn _).mono ?_; rintro e w' ⟨rfl, rfl⟩)
        go_ret
        exact ⟨by rw [HV2.out]; rfl, HX.out.1.hb⟩
      | true =>
        rw [d1] at cn
        cases d2 : less last un with
        | false =>
          rw [d2] at hcmp
          have hcmp : (Go.Op.bytesLess su.toList sl.toList || (su.toList == sl.toList)) = true := hcmp
          have HV2 : Hid (vcode ⟨size, grain, quota, drain, best, fr, us⟩ = 2) := by show _ = _; rw [HV.out, ← HANS.out, d1, d2]; rfl
          clear cuse
          go_wp2_with (go_at_call 21; refine (cn _).mono ?_; rintro e w' ⟨rfl, rfl⟩)
          go_ret
          exact ⟨by rw [HV2.out]; rfl, HX.out.1.hb⟩
        | true =>
          rw [d2] at hcmp
          have hcmp : (Go.Op.bytesLess su.toList sl.toList || (su.toList == sl.toList)) = false := hcmp
          cases d3 : decide (po.UseOk ⟨size, grain, quota, drain, best, fr, us⟩ N) with
          | false =>
            rw [d3] at cuse
            have HV2 : Hid (vcode ⟨size, grain, quota, drain, best, fr, us⟩ = 2) := by show _ = _; rw [HV.out, ← HANS.out, d1, d2, d3]; rfl
            go_wp2_with (first | (go_at_call 21; refine (cn _).mono ?_; rintro e w' ⟨rfl, rfl⟩) | (go_at_call 30; refine (cuse _).mono ?_; rintro e w6 ⟨rfl, hb6⟩; have HZ := Lib.hid (HX.out.1.next hb6); clear hb6))
            go_ret
            exact ⟨by rw [HV2.out]; rfl, HZ.out.hb⟩
          | true =>
            rw [d3] at cuse
            have hN0 : 0 < N := (of_decide_eq_true d3).1
            by_cases hgt : left < N
            · have d4 : decide (left < N) = true := decide_eq_true hgt
              have d5 : decide (N ≤ left) = false := decide_eq_false (by omega)
              have HV2 : Hid (vcode ⟨size, grain, quota, drain, best, fr, us⟩ = 2) := by show _ = _; rw [HV.out, ← HANS.out, d1, d2, d3, d5]; rfl
              clear hgt
              go_wp2_with (first | (go_at_call 21; refine (cn _).mono ?_; rintro e w' ⟨rfl, rfl⟩) | (go_at_call 30; refine (cuse _).mono ?_; rintro e w6 ⟨rfl, hb6⟩; have HZ := Lib.hid (HX.out.1.next hb6); have v1 : w6.cell? ⟨wr.heap.size, 1, none⟩ = some (.int .i64 N) := (hb6.cell (p := ⟨wr.heap.size, 1, none⟩) HX.out.2.1).trans HX.out.2.2.2; clear hb6))
              go_ret
              exact ⟨by rw [HV2.out]; rfl, HZ.out.hb⟩
            · have d4 : decide (left < N) = false := decide_eq_false hgt
              have d5 : decide (N ≤ left) = true := decide_eq_true (by omega)
              have HNX : Hid (po.chkU ⟨size, grain, quota, drain, best, fr, us⟩ (left - N) un D = ans) := by
                have := HANS.out
                rw [d1, d2, d3, d5] at this
                exact this
              have HSU := Lib.hid hsu
              clear hsu hsl
              go_wp2_with (first | (go_at_call 21; refine (cn _).mono ?_; rintro e w' ⟨rfl, rfl⟩) | (go_at_call 30; refine (cuse _).mono ?_; rintro e w6 ⟨rfl, hb6⟩; have HZ := Lib.hid (HX.out.1.next hb6); have v0 : w6.cell? ⟨wr.heap.size, 0, none⟩ = some (.string su) := (hb6.cell (p := ⟨wr.heap.size, 0, none⟩) HX.out.2.1).trans HX.out.2.2.1; have v1 : w6.cell? ⟨wr.heap.size, 1, none⟩ = some (.int .i64 N) := (hb6.cell (p := ⟨wr.heap.size, 1, none⟩) HX.out.2.1).trans HX.out.2.2.2; clear hb6))
              go_quiet (fail)
              go_wp2
              go_roundw
              case rel =>
                refine ⟨k + 1, left - N, un, rfl, by rw [HSU.out], by go_num, by omega, by omega, by omega, (show Aside (CkW w (w6.drewN nq) ⟨size, grain, quota, drain, best, fr, us⟩ (.slice pf fr.length cf) (.slice (some ⟨b, off, none⟩) us.length cu)) from HZ.out.next ⟨rfl, rfl, rfl, Nat.le_refl _, fun _ _ => rfl⟩), (show Aside (po.chkU ⟨size, grain, quota, drain, best, fr, us⟩ (left - N) un (us.drop (k + 1)) = ans) from by rw [HDR.out]; exact HNX.out)⟩
              case measure => simp [intOf]; omega
    · have hkk : k = us.length := by omega
      subst hkk
      have hans2 := hans.out
      rw [List.drop_length] at hans2
      have HANS : Hid (decide (¬ 0 < left) = ans) := hans2
      have HCK := Lib.hid hck.out
      clear hans hans2 hck
      by_cases hp : 0 < left
      · have d : decide (0 < left) = true := decide_eq_true hp
        have HV2 : Hid (vcode ⟨size, grain, quota, drain, best, fr, us⟩ = 2) := by show _ = _; rw [HV.out, ← HANS.out, decide_eq_false (fun h => h hp)]; rfl
        clear hp
        go_wp2
        go_ret
        exact ⟨by rw [HV2.out]; rfl, HCK.out.hb⟩
      · have d : decide (0 < left) = false := decide_eq_false hp
        have HV2 : Hid (vcode ⟨size, grain, quota, drain, best, fr, us⟩ = 0) := by show _ = _; rw [HV.out, ← HANS.out, decide_eq_true hp]; rfl
        clear hp
        go_wp2
        go_ret
        exact ⟨by rw [HV2.out]; rfl, HCK.out.hb⟩
end Go.Proofs.Ytdjpnlkhdilakaa.gn
