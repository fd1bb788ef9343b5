/- Check: the contract (written by gen_poF.py). -/
import Derived.Test.YtdjpnlkhdilakaaPoE
import Derived.Test.YtdjpnlkhdilakaaExT
import Derived.Deep.RegionHeld3
import Derived.Deep.DeepCutAuto
import Derived.Deep.DrawnRows
set_option linter.unusedVariables false
set_option linter.unusedSimpArgs false
set_option maxRecDepth 100000
namespace Go.Proofs.Ytdjpnlkhdilakaa.gn
open Go.RowKit Go.Shelf Go.Sort Go.Lib
open Go.Proofs.Ytdjpnlkhdilakaa.ex
open Go.Proofs.Ytdjpnlkhdilakaa.po (Nm U less Pl)

attribute [local go_sem] Oper.semAt_some
attribute [local go_sem ↓] Go.wp_at_zero Go.wp_at_succ

/-- The operations of a region, written out. -/
theorem at0 {α : Type} {o : α} {l : List α} : (o :: l)[0]? = some o := rfl
theorem atS {α : Type} {o x : α} {l : List α} {n : Nat} (h : l[n]? = some o) : (x :: l)[n + 1]? = some o := h
theorem ata {α : Type} {o : α} {l : List α} {n : Nat} (h : l[n]? = some o) : l.toArray[n]? = some o := by simpa using h

open Classical in
noncomputable def vcode (p : Pl) : Int := if po.Valid p then 0 else 2
theorem vcode_yes {p : Pl} (h : po.Valid p) : vcode p = 0 := if_pos h
theorem vcode_no {p : Pl} (h : ¬ po.Valid p) : vcode p = 2 := if_neg h
theorem drop_atU {l : List U} {k : Nat} (h : k < l.length) : l.drop k = l[k]! :: l.drop (k + 1) := by rw [getElem!_pos l k h, List.drop_eq_getElem_cons h]
theorem quant_no {n : Int} (h : quant n = false) : ¬ po.Qt n := of_decide_eq_false h
theorem quant_yes {n : Int} (h : quant n = true) : po.Qt n := of_decide_eq_true h

/-- The start of Check's walk. -/
structure CkW (w W : World) (p : Pl) (vf vu : Value) : Prop where
  pb : PB W w.heap.size p vf vu
  hb : RowKit.Below w.heap.size w W
  hf : Rd W vf p.free
  hu : RdU W vu p.uses
theorem CkW.next {w W W' : World} {p : Pl} {vf vu : Value} (h : CkW w W p vf vu) (hb : RowKit.Below W.heap.size W W') : CkW w W' p vf vu :=
  ⟨h.pb.next hb, h.hb.trans (hb.mono h.hb.size), h.hf.next hb, h.hu.next hb⟩
theorem CkW.drew {w W : World} {p : Pl} {vf vu : Value} (h : CkW w W p vf vu) : CkW w W.drew p vf vu := h.next (Below.refl _ W).drew
theorem CkW.new {w : World} {p : Pl} {vf vu : Value} (hf : Rd w vf p.free) (hu : RdU w vu p.uses) : CkW w (w.alloc (boxP p vf vu)) p vf vu :=
  have hb := below_box w (boxP p vf vu)
  ⟨PB.new w p vf vu, hb, hf.next hb, hu.next hb⟩

set_option maxHeartbeats 1000000 in
theorem check_1 {w : World} {p : Pl} {vf vu : Value} (hf : Rd w vf p.free) (hu : RdU w vu p.uses) (q1 : quant p.size = false) : Calls Try.prog 10 #[aggP p vf vu] w (Tells (vcode p) w) := by
  rw [vcode_no (fun h => quant_no q1 h.vb.s)]
  obtain ⟨pf, cf, rfl⟩ := hf.len
  obtain ⟨pu, cu, rfl, hle⟩ := hu.2
  have ck := CkW.new (w := w) hf hu
  have k0 := ck.pb.k0
  have k1 := ck.pb.k1
  have k2 := ck.pb.k2
  have k3 := ck.pb.k3
  have k4 := ck.pb.k4
  have k5 := ck.pb.k5
  have k6 := ck.pb.k6
  have c1 := fun W => pquantity_any p.size W
  rw [q1] at c1
  have HB := Lib.hid ck.hb
  clear hf hu ck
  obtain ⟨size, grain, quota, drain, best, fr, us⟩ := p
  try dsimp only at *
  go_enter Try.func10, Try.ntmps10
  go_wp2_with (go_at_call 20; first | ((with_reducible refine (c1 _).mono ?_); rintro e w1 ⟨rfl, rfl⟩))
  go_ret
  exact ⟨rfl, HB.out⟩
set_option maxHeartbeats 1000000 in
theorem check_2 {w : World} {p : Pl} {vf vu : Value} (hf : Rd w vf p.free) (hu : RdU w vu p.uses) (q1 : quant p.size = true) (q2 : quant p.grain = false) : Calls Try.prog 10 #[aggP p vf vu] w (Tells (vcode p) w) := by
  rw [vcode_no (fun h => quant_no q2 h.vb.g)]
  obtain ⟨pf, cf, rfl⟩ := hf.len
  obtain ⟨pu, cu, rfl, hle⟩ := hu.2
  have ck := CkW.new (w := w) hf hu
  have k0 := ck.pb.k0
  have k1 := ck.pb.k1
  have k2 := ck.pb.k2
  have k3 := ck.pb.k3
  have k4 := ck.pb.k4
  have k5 := ck.pb.k5
  have k6 := ck.pb.k6
  have c1 := fun W => pquantity_any p.size W
  rw [q1] at c1
  have c2 := fun W => pquantity_any p.grain W
  rw [q2] at c2
  have HB := Lib.hid ck.hb
  clear hf hu ck
  obtain ⟨size, grain, quota, drain, best, fr, us⟩ := p
  try dsimp only at *
  go_enter Try.func10, Try.ntmps10
  go_wp2_with (go_at_call 20; first | ((with_reducible refine (c1 _).mono ?_); rintro e w1 ⟨rfl, rfl⟩) | ((with_reducible refine (c2 _).mono ?_); rintro e w1 ⟨rfl, rfl⟩))
  go_ret
  exact ⟨rfl, HB.out⟩
set_option maxHeartbeats 1000000 in
theorem check_3 {w : World} {p : Pl} {vf vu : Value} (hf : Rd w vf p.free) (hu : RdU w vu p.uses) (q1 : quant p.size = true) (q2 : quant p.grain = true) (q3 : quant p.quota = false) : Calls Try.prog 10 #[aggP p vf vu] w (Tells (vcode p) w) := by
  rw [vcode_no (fun h => quant_no q3 h.vb.q)]
  obtain ⟨pf, cf, rfl⟩ := hf.len
  obtain ⟨pu, cu, rfl, hle⟩ := hu.2
  have ck := CkW.new (w := w) hf hu
  have k0 := ck.pb.k0
  have k1 := ck.pb.k1
  have k2 := ck.pb.k2
  have k3 := ck.pb.k3
  have k4 := ck.pb.k4
  have k5 := ck.pb.k5
  have k6 := ck.pb.k6
  have c1 := fun W => pquantity_any p.size W
  rw [q1] at c1
  have c2 := fun W => pquantity_any p.grain W
  rw [q2] at c2
  have c3 := fun W => pquantity_any p.quota W
  rw [q3] at c3
  have HB := Lib.hid ck.hb
  clear hf hu ck
  obtain ⟨size, grain, quota, drain, best, fr, us⟩ := p
  try dsimp only at *
  go_enter Try.func10, Try.ntmps10
  go_wp2_with (go_at_call 20; first | ((with_reducible refine (c1 _).mono ?_); rintro e w1 ⟨rfl, rfl⟩) | ((with_reducible refine (c2 _).mono ?_); rintro e w1 ⟨rfl, rfl⟩) | ((with_reducible refine (c3 _).mono ?_); rintro e w1 ⟨rfl, rfl⟩))
  go_ret
  exact ⟨rfl, HB.out⟩
set_option maxHeartbeats 1000000 in
theorem check_4 {w : World} {p : Pl} {vf vu : Value} (hf : Rd w vf p.free) (hu : RdU w vu p.uses) (q1 : quant p.size = true) (q2 : quant p.grain = true) (q3 : quant p.quota = true) (h4 : p.grain = 0) : Calls Try.prog 10 #[aggP p vf vu] w (Tells (vcode p) w) := by
  rw [vcode_no (fun h => h.vb.g0 h4)]
  obtain ⟨pf, cf, rfl⟩ := hf.len
  obtain ⟨pu, cu, rfl, hle⟩ := hu.2
  have ck := CkW.new (w := w) hf hu
  have k0 := ck.pb.k0
  have k1 := ck.pb.k1
  have k2 := ck.pb.k2
  have k3 := ck.pb.k3
  have k4 := ck.pb.k4
  have k5 := ck.pb.k5
  have k6 := ck.pb.k6
  have c1 := fun W => pquantity_any p.size W
  rw [q1] at c1
  have c2 := fun W => pquantity_any p.grain W
  rw [q2] at c2
  have c3 := fun W => pquantity_any p.quota W
  rw [q3] at c3
  have HB := Lib.hid ck.hb
  clear hf hu ck
  obtain ⟨size, grain, quota, drain, best, fr, us⟩ := p
  try dsimp only at *
  have g0 : (grain == 0) = true := by rw [h4]; rfl
  clear h4
  go_enter Try.func10, Try.ntmps10
  go_wp2_with (go_at_call 20; first | ((with_reducible refine (c1 _).mono ?_); rintro e w1 ⟨rfl, rfl⟩) | ((with_reducible refine (c2 _).mono ?_); rintro e w1 ⟨rfl, rfl⟩) | ((with_reducible refine (c3 _).mono ?_); rintro e w1 ⟨rfl, rfl⟩))
  go_ret
  exact ⟨rfl, HB.out⟩
set_option maxHeartbeats 1000000 in
theorem check_5 {w : World} {p : Pl} {vf vu : Value} (hf : Rd w vf p.free) (hu : RdU w vu p.uses) (q1 : quant p.size = true) (q2 : quant p.grain = true) (q3 : quant p.quota = true) (h4 : p.grain ≠ 0) (h5 : ¬ p.grain ∣ p.size) : Calls Try.prog 10 #[aggP p vf vu] w (Tells (vcode p) w) := by
  rw [vcode_no (fun h => h5 h.vb.d)]
  obtain ⟨pf, cf, rfl⟩ := hf.len
  obtain ⟨pu, cu, rfl, hle⟩ := hu.2
  have ck := CkW.new (w := w) hf hu
  have k0 := ck.pb.k0
  have k1 := ck.pb.k1
  have k2 := ck.pb.k2
  have k3 := ck.pb.k3
  have k4 := ck.pb.k4
  have k5 := ck.pb.k5
  have k6 := ck.pb.k6
  have c1 := fun W => pquantity_any p.size W
  rw [q1] at c1
  have c2 := fun W => pquantity_any p.grain W
  rw [q2] at c2
  have c3 := fun W => pquantity_any p.quota W
  rw [q3] at c3
  have HB := Lib.hid ck.hb
  clear hf hu ck
  obtain ⟨size, grain, quota, drain, best, fr, us⟩ := p
  try dsimp only at *
  have g0 : (grain == 0) = false := beq_eq_false_iff_ne.2 h4
  have hs0 : 0 ≤ size := (quant_yes q1).1
  have g1 : (size % grain != 0) = true := bne_iff_ne.2 fun e => h5 (Int.dvd_of_emod_eq_zero e)
  clear h5
  go_enter Try.func10, Try.ntmps10
  go_wp2_with (go_at_call 20; first | ((with_reducible refine (c1 _).mono ?_); rintro e w1 ⟨rfl, rfl⟩) | ((with_reducible refine (c2 _).mono ?_); rintro e w1 ⟨rfl, rfl⟩) | ((with_reducible refine (c3 _).mono ?_); rintro e w1 ⟨rfl, rfl⟩))
  go_ret
  exact ⟨rfl, HB.out⟩
set_option maxHeartbeats 4000000 in
theorem check_a {w : World} {p : Pl} {vf vu : Value} (hf : Rd w vf p.free) (hu : RdU w vu p.uses) (hb : po.Base p) (hl : p.free.length ≤ 1000) (h6 : ¬ Fine p.free) : Calls Try.prog 10 #[aggP p vf vu] w (Tells (vcode p) w) := by
  rw [vcode_no fun h => h6 h.vf]
  have HK := Lib.hid (chk_bad h6)
  clear h6
  obtain ⟨pf, cf, rfl⟩ := hf.len
  obtain ⟨pu, cu, rfl, hle⟩ := hu.2
  have ck := CkW.new (w := w) hf hu
  have k0 := ck.pb.k0
  have k1 := ck.pb.k1
  have k2 := ck.pb.k2
  have k3 := ck.pb.k3
  have k4 := ck.pb.k4
  have k5 := ck.pb.k5
  have k6 := ck.pb.k6
  have c1 := fun W => pquantity_any p.size W
  rw [(show quant p.size = true from decide_eq_true hb.s)] at c1
  have c2 := fun W => pquantity_any p.grain W
  rw [(show quant p.grain = true from decide_eq_true hb.g)] at c2
  have c3 := fun W => pquantity_any p.quota W
  rw [(show quant p.quota = true from decide_eq_true hb.q)] at c3
  have hgp := hb.gp
  have HG : Hid (0 < p.grain) := hgp
  have g0 : (p.grain == 0) = false := beq_eq_false_iff_ne.2 hb.g0
  have hs0 : 0 ≤ p.size := hb.s.1
  have g1 : (p.size % p.grain != 0) = false := bne_eq_false_iff_eq.2 (Int.emod_eq_zero_of_dvd hb.d)
  have HL := Lib.hid hl
  have HC0 := Lib.hid ck
  have HQ := Lib.hid hb
  clear hf hu ck hb hl
  obtain ⟨size, grain, quota, drain, best, fr, us⟩ := p
  try dsimp only at *
  have mixed : Try.prog.follows .mixedOrders = true := by kernel_rfl
  obtain ⟨W1, hW1⟩ : ∃ W1, w.alloc (boxP ⟨size, grain, quota, drain, best, fr, us⟩ (.slice pf fr.length cf) (.slice pu us.length cu)) = W1 := ⟨_, rfl⟩
  rw [hW1] at HC0 k0 k1 k2 k3 k4 k5 k6
  go_enter Try.func10, Try.ntmps10
  go_upto_region 3 with (go_at_call 20; first | ((with_reducible refine (c1 _).mono ?_); rintro e w1 ⟨rfl, rfl⟩) | ((with_reducible refine (c2 _).mono ?_); rintro e w1 ⟨rfl, rfl⟩) | ((with_reducible refine (c3 _).mono ?_); rintro e w1 ⟨rfl, rfl⟩))
  try rw [hW1]
  have ckd := HC0.out.drew
  have HC0 := Lib.hid ckd
  clear hW1 c1 c2 c3 ckd
  refine wp_region_held_drew (S := (fun W => W.cell? ⟨w.heap.size, 0, none⟩ = some (.int .i64 size) ∧ W.cell? ⟨w.heap.size, 1, none⟩ = some (.int .i64 grain) ∧ W.cell? ⟨w.heap.size, 2, none⟩ = some (.int .i64 quota) ∧ W.cell? ⟨w.heap.size, 3, none⟩ = some (.bool drain) ∧ W.cell? ⟨w.heap.size, 4, none⟩ = some (.bool best) ∧ W.cell? ⟨w.heap.size, 5, none⟩ = some (.slice pf fr.length cf) ∧ W.cell? ⟨w.heap.size, 6, none⟩ = some (.slice pu us.length cu))) (by kernel_rfl) (by first | (go_keep; done) | (dsimp only; go_keep)) (fun hHeld => ?_)
  refine wpAnyH_take (i := 0) (v := ?_) (ata at0) (by kernel_rfl) (by kernel_rfl) (by kernel_rfl) (fun _ _ _ h => h) (Or.inl ⟨by rfl, ?_⟩) (by assumption) ?_
  rotate_left
  · (intro w hSw; (try dsimp only at hSw); go_simp; (first | done | with_reducible rfl))
  try simp only [Act.put, List.setIfInBounds_toArray, List.set_cons_zero, List.set_cons_succ]
  refine wpAnyH_take (i := 1) (v := ?_) (ata (atS at0)) (by kernel_rfl) (by kernel_rfl) (by kernel_rfl) (fun _ _ _ h => h) (Or.inl ⟨by rfl, ?_⟩) (by assumption) ?_
  rotate_left
  · (intro w hSw; (try dsimp only at hSw); go_simp; (first | done | with_reducible rfl))
  try simp only [Act.put, List.setIfInBounds_toArray, List.set_cons_zero, List.set_cons_succ]
  refine wpAnyH_ready (rs := [2]) (by kernel_rfl) (by simp) ?_
  refine AllReadyH.cons (ata (atS (atS at0))) (fun K hK => ?_) AllReadyH.nil
  go_simp
  (go_at_call 26; refine (check_any HC0.out.hf HL.out).mono ?_; rintro e w1 ⟨rfl, hb1⟩; rw [HK.out]; have ck := HC0.out.next hb1; have HC1 := Lib.hid ck; have k0 := ck.pb.k0; (try dsimp only at k0); have k1 := ck.pb.k1; (try dsimp only at k1); have k2 := ck.pb.k2; (try dsimp only at k2); have k3 := ck.pb.k3; (try dsimp only at k3); have k4 := ck.pb.k4; (try dsimp only at k4); have k5 := ck.pb.k5; (try dsimp only at k5); have k6 := ck.pb.k6; (try dsimp only at k6); clear ck; clear hb1)
  go_wp2_with fail
  refine hK.out _ _ (by first | (go_keep; done) | (dsimp only; go_keep)) (fun hHeld => ?_)
  clear hK K
  try simp only [Act.put, List.setIfInBounds_toArray, List.set_cons_zero, List.set_cons_succ]
  refine wpAnyH_take (i := 3) (v := ?_) (ata (atS (atS (atS at0)))) (by kernel_rfl) (by kernel_rfl) (by kernel_rfl) (fun _ _ _ h => h) (Or.inl ⟨by rfl, ?_⟩) (by assumption) ?_
  rotate_left
  · (intro w hSw; (try dsimp only at hSw); go_simp; (first | done | with_reducible rfl))
  try simp only [Act.put, List.setIfInBounds_toArray, List.set_cons_zero, List.set_cons_succ]
  refine wpAnyH_take (i := 4) (v := ?_) (ata (atS (atS (atS (atS at0))))) (by kernel_rfl) (by kernel_rfl) (by kernel_rfl) (fun _ _ _ h => h) (Or.inl ⟨by rfl, ?_⟩) (by assumption) ?_
  rotate_left
  · (intro w hSw; (try dsimp only at hSw); go_simp; (first | done | with_reducible rfl))
  try simp only [Act.put, List.setIfInBounds_toArray, List.set_cons_zero, List.set_cons_succ]
  refine wpAnyH_take (i := 5) (v := undef) (ata (atS (atS (atS (atS (atS at0)))))) (by kernel_rfl) (by kernel_rfl) (by kernel_rfl) (fun _ _ _ h => h) (Or.inr ⟨by rfl, rfl⟩) (by assumption) ?_
  try simp only [Act.put, List.setIfInBounds_toArray, List.set_cons_zero, List.set_cons_succ]
  refine wpAnyH_take (i := 6) (v := undef) (ata (atS (atS (atS (atS (atS (atS at0))))))) (by kernel_rfl) (by kernel_rfl) (by kernel_rfl) (fun _ _ _ h => h) (Or.inr ⟨by rfl, rfl⟩) (by assumption) ?_
  try simp only [Act.put, List.setIfInBounds_toArray, List.set_cons_zero, List.set_cons_succ]
  refine wpAnyH_take (i := 7) (v := undef) (ata (atS (atS (atS (atS (atS (atS (atS at0)))))))) (by kernel_rfl) (by kernel_rfl) (by kernel_rfl) (fun _ _ _ h => h) (Or.inr ⟨by rfl, rfl⟩) (by assumption) ?_
  try simp only [Act.put, List.setIfInBounds_toArray, List.set_cons_zero, List.set_cons_succ]
  refine wpAnyH_take (i := 8) (v := undef) (ata (atS (atS (atS (atS (atS (atS (atS (atS at0))))))))) (by kernel_rfl) (by kernel_rfl) (by kernel_rfl) (fun _ _ _ h => h) (Or.inr ⟨by rfl, rfl⟩) (by assumption) ?_
  try simp only [Act.put, List.setIfInBounds_toArray, List.set_cons_zero, List.set_cons_succ]
  refine wpAnyH_take (i := 9) (v := undef) (ata (atS (atS (atS (atS (atS (atS (atS (atS (atS at0)))))))))) (by kernel_rfl) (by kernel_rfl) (by kernel_rfl) (fun _ _ _ h => h) (Or.inr ⟨by rfl, rfl⟩) (by assumption) ?_
  try simp only [Act.put, List.setIfInBounds_toArray, List.set_cons_zero, List.set_cons_succ]
  refine wpAnyH_take (i := 10) (v := undef) (ata (atS (atS (atS (atS (atS (atS (atS (atS (atS (atS at0))))))))))) (by kernel_rfl) (by kernel_rfl) (by kernel_rfl) (fun _ _ _ h => h) (Or.inr ⟨by rfl, rfl⟩) (by assumption) ?_
  try simp only [Act.put, List.setIfInBounds_toArray, List.set_cons_zero, List.set_cons_succ]
  refine wpAnyH_take (i := 11) (v := undef) (ata (atS (atS (atS (atS (atS (atS (atS (atS (atS (atS (atS at0)))))))))))) (by kernel_rfl) (by kernel_rfl) (by kernel_rfl) (fun _ _ _ h => h) (Or.inr ⟨by rfl, rfl⟩) (by assumption) ?_
  try simp only [Act.put, List.setIfInBounds_toArray, List.set_cons_zero, List.set_cons_succ]
  refine wpAnyH_take (i := 12) (v := ?_) (ata (atS (atS (atS (atS (atS (atS (atS (atS (atS (atS (atS (atS at0))))))))))))) (by kernel_rfl) (by kernel_rfl) (by kernel_rfl) (fun _ _ _ h => h) (Or.inl ⟨by rfl, ?_⟩) (by assumption) ?_
  rotate_left
  · (intro w hSw; (try dsimp only at hSw); go_simp; (first | done | with_reducible rfl))
  try simp only [Act.put, List.setIfInBounds_toArray, List.set_cons_zero, List.set_cons_succ]
  refine wpAnyH_take (i := 13) (v := ?_) (ata (atS (atS (atS (atS (atS (atS (atS (atS (atS (atS (atS (atS (atS at0)))))))))))))) (by kernel_rfl) (by kernel_rfl) (by kernel_rfl) (fun _ _ _ h => h) (Or.inl ⟨by rfl, ?_⟩) (by assumption) ?_
  rotate_left
  · (intro w hSw; (try dsimp only at hSw); go_simp; (first | done | with_reducible rfl))
  try simp only [Act.put, List.setIfInBounds_toArray, List.set_cons_zero, List.set_cons_succ]
  refine wpAnyH_take (i := 14) (v := undef) (ata (atS (atS (atS (atS (atS (atS (atS (atS (atS (atS (atS (atS (atS (atS at0))))))))))))))) (by kernel_rfl) (by kernel_rfl) (by kernel_rfl) (fun _ _ _ h => h) (Or.inr ⟨by rfl, rfl⟩) (by assumption) ?_
  try simp only [Act.put, List.setIfInBounds_toArray, List.set_cons_zero, List.set_cons_succ]
  refine wpAnyH_take (i := 15) (v := undef) (ata (atS (atS (atS (atS (atS (atS (atS (atS (atS (atS (atS (atS (atS (atS (atS at0)))))))))))))))) (by kernel_rfl) (by kernel_rfl) (by kernel_rfl) (fun _ _ _ h => h) (Or.inr ⟨by rfl, rfl⟩) (by assumption) ?_
  try simp only [Act.put, List.setIfInBounds_toArray, List.set_cons_zero, List.set_cons_succ]
  refine wpAnyH_take (i := 16) (v := undef) (ata (atS (atS (atS (atS (atS (atS (atS (atS (atS (atS (atS (atS (atS (atS (atS (atS at0))))))))))))))))) (by kernel_rfl) (by kernel_rfl) (by kernel_rfl) (fun _ _ _ h => h) (Or.inr ⟨by rfl, rfl⟩) (by assumption) ?_
  try simp only [Act.put, List.setIfInBounds_toArray, List.set_cons_zero, List.set_cons_succ]
  refine wpAnyH_take (i := 17) (v := undef) (ata (atS (atS (atS (atS (atS (atS (atS (atS (atS (atS (atS (atS (atS (atS (atS (atS (atS at0)))))))))))))))))) (by kernel_rfl) (by kernel_rfl) (by kernel_rfl) (fun _ _ _ h => h) (Or.inr ⟨by rfl, rfl⟩) (by assumption) ?_
  try simp only [Act.put, List.setIfInBounds_toArray, List.set_cons_zero, List.set_cons_succ]
  refine wpAnyH_take (i := 18) (v := undef) (ata (atS (atS (atS (atS (atS (atS (atS (atS (atS (atS (atS (atS (atS (atS (atS (atS (atS (atS at0))))))))))))))))))) (by kernel_rfl) (by kernel_rfl) (by kernel_rfl) (fun _ _ _ h => h) (Or.inr ⟨by rfl, rfl⟩) (by assumption) ?_
  try simp only [Act.put, List.setIfInBounds_toArray, List.set_cons_zero, List.set_cons_succ]
  refine wpAnyH_take (i := 19) (v := ?_) (ata (atS (atS (atS (atS (atS (atS (atS (atS (atS (atS (atS (atS (atS (atS (atS (atS (atS (atS (atS at0)))))))))))))))))))) (by kernel_rfl) (by kernel_rfl) (by kernel_rfl) (fun _ _ _ h => h) (Or.inl ⟨by rfl, ?_⟩) (by assumption) ?_
  rotate_left
  · (intro w hSw; (try dsimp only at hSw); go_simp; (first | done | with_reducible rfl))
  try simp only [Act.put, List.setIfInBounds_toArray, List.set_cons_zero, List.set_cons_succ]
  refine wpAnyH_done (by kernel_rfl) ?_ _
  go_wp2
  go_ret
  exact ⟨rfl, HC1.out.hb⟩
set_option maxHeartbeats 4000000 in
theorem check_b {w : World} {p : Pl} {vf vu : Value} (hf : Rd w vf p.free) (hu : RdU w vu p.uses) (hb : po.Base p) (hl : p.free.length ≤ 1000) (h6 : Fine p.free) (h7 : ¬ Normal p.free) : Calls Try.prog 10 #[aggP p vf vu] w (Tells (vcode p) w) := by
  rw [vcode_no fun h => h7 h.vn]
  have HK := Lib.hid (chk_fine h6)
  have HF := Lib.hid h6
  have HE : Hid (decide (nrm p.free = p.free) = false) := decide_eq_false fun e => h7 ((po.normal_iff h6).1 e)
  clear h6 h7
  obtain ⟨pf, cf, rfl⟩ := hf.len
  obtain ⟨pu, cu, rfl, hle⟩ := hu.2
  have ck := CkW.new (w := w) hf hu
  have k0 := ck.pb.k0
  have k1 := ck.pb.k1
  have k2 := ck.pb.k2
  have k3 := ck.pb.k3
  have k4 := ck.pb.k4
  have k5 := ck.pb.k5
  have k6 := ck.pb.k6
  have c1 := fun W => pquantity_any p.size W
  rw [(show quant p.size = true from decide_eq_true hb.s)] at c1
  have c2 := fun W => pquantity_any p.grain W
  rw [(show quant p.grain = true from decide_eq_true hb.g)] at c2
  have c3 := fun W => pquantity_any p.quota W
  rw [(show quant p.quota = true from decide_eq_true hb.q)] at c3
  have hgp := hb.gp
  have HG : Hid (0 < p.grain) := hgp
  have g0 : (p.grain == 0) = false := beq_eq_false_iff_ne.2 hb.g0
  have hs0 : 0 ≤ p.size := hb.s.1
  have g1 : (p.size % p.grain != 0) = false := bne_eq_false_iff_eq.2 (Int.emod_eq_zero_of_dvd hb.d)
  have HL := Lib.hid hl
  have HC0 := Lib.hid ck
  have HQ := Lib.hid hb
  clear hf hu ck hb hl
  obtain ⟨size, grain, quota, drain, best, fr, us⟩ := p
  try dsimp only at *
  have mixed : Try.prog.follows .mixedOrders = true := by kernel_rfl
  obtain ⟨W1, hW1⟩ : ∃ W1, w.alloc (boxP ⟨size, grain, quota, drain, best, fr, us⟩ (.slice pf fr.length cf) (.slice pu us.length cu)) = W1 := ⟨_, rfl⟩
  rw [hW1] at HC0 k0 k1 k2 k3 k4 k5 k6
  go_enter Try.func10, Try.ntmps10
  go_upto_region 3 with (go_at_call 20; first | ((with_reducible refine (c1 _).mono ?_); rintro e w1 ⟨rfl, rfl⟩) | ((with_reducible refine (c2 _).mono ?_); rintro e w1 ⟨rfl, rfl⟩) | ((with_reducible refine (c3 _).mono ?_); rintro e w1 ⟨rfl, rfl⟩))
  try rw [hW1]
  have ckd := HC0.out.drew
  have HC0 := Lib.hid ckd
  clear hW1 c1 c2 c3 ckd
  refine wp_region_held_drew (S := (fun W => W.cell? ⟨w.heap.size, 0, none⟩ = some (.int .i64 size) ∧ W.cell? ⟨w.heap.size, 1, none⟩ = some (.int .i64 grain) ∧ W.cell? ⟨w.heap.size, 2, none⟩ = some (.int .i64 quota) ∧ W.cell? ⟨w.heap.size, 3, none⟩ = some (.bool drain) ∧ W.cell? ⟨w.heap.size, 4, none⟩ = some (.bool best) ∧ W.cell? ⟨w.heap.size, 5, none⟩ = some (.slice pf fr.length cf) ∧ W.cell? ⟨w.heap.size, 6, none⟩ = some (.slice pu us.length cu))) (by kernel_rfl) (by first | (go_keep; done) | (dsimp only; go_keep)) (fun hHeld => ?_)
  refine wpAnyH_take (i := 0) (v := ?_) (ata at0) (by kernel_rfl) (by kernel_rfl) (by kernel_rfl) (fun _ _ _ h => h) (Or.inl ⟨by rfl, ?_⟩) (by assumption) ?_
  rotate_left
  · (intro w hSw; (try dsimp only at hSw); go_simp; (first | done | with_reducible rfl))
  try simp only [Act.put, List.setIfInBounds_toArray, List.set_cons_zero, List.set_cons_succ]
  refine wpAnyH_take (i := 1) (v := ?_) (ata (atS at0)) (by kernel_rfl) (by kernel_rfl) (by kernel_rfl) (fun _ _ _ h => h) (Or.inl ⟨by rfl, ?_⟩) (by assumption) ?_
  rotate_left
  · (intro w hSw; (try dsimp only at hSw); go_simp; (first | done | with_reducible rfl))
  try simp only [Act.put, List.setIfInBounds_toArray, List.set_cons_zero, List.set_cons_succ]
  refine wpAnyH_ready (rs := [2]) (by kernel_rfl) (by simp) ?_
  refine AllReadyH.cons (ata (atS (atS at0))) (fun K hK => ?_) AllReadyH.nil
  go_simp
  (go_at_call 26; refine (check_any HC0.out.hf HL.out).mono ?_; rintro e w1 ⟨rfl, hb1⟩; rw [HK.out]; have ck := HC0.out.next hb1; have HC1 := Lib.hid ck; have k0 := ck.pb.k0; (try dsimp only at k0); have k1 := ck.pb.k1; (try dsimp only at k1); have k2 := ck.pb.k2; (try dsimp only at k2); have k3 := ck.pb.k3; (try dsimp only at k3); have k4 := ck.pb.k4; (try dsimp only at k4); have k5 := ck.pb.k5; (try dsimp only at k5); have k6 := ck.pb.k6; (try dsimp only at k6); clear ck; clear hb1)
  go_wp2_with fail
  refine hK.out _ _ (by first | (go_keep; done) | (dsimp only; go_keep)) (fun hHeld => ?_)
  clear hK K
  try simp only [Act.put, List.setIfInBounds_toArray, List.set_cons_zero, List.set_cons_succ]
  refine wpAnyH_take (i := 3) (v := ?_) (ata (atS (atS (atS at0)))) (by kernel_rfl) (by kernel_rfl) (by kernel_rfl) (fun _ _ _ h => h) (Or.inl ⟨by rfl, ?_⟩) (by assumption) ?_
  rotate_left
  · (intro w hSw; (try dsimp only at hSw); go_simp; (first | done | with_reducible rfl))
  try simp only [Act.put, List.setIfInBounds_toArray, List.set_cons_zero, List.set_cons_succ]
  refine wpAnyH_take (i := 4) (v := ?_) (ata (atS (atS (atS (atS at0))))) (by kernel_rfl) (by kernel_rfl) (by kernel_rfl) (fun _ _ _ h => h) (Or.inl ⟨by rfl, ?_⟩) (by assumption) ?_
  rotate_left
  · (intro w hSw; (try dsimp only at hSw); go_simp; (first | done | with_reducible rfl))
  try simp only [Act.put, List.setIfInBounds_toArray, List.set_cons_zero, List.set_cons_succ]
  refine wpAnyH_take (i := 5) (v := ?_) (ata (atS (atS (atS (atS (atS at0)))))) (by kernel_rfl) (by kernel_rfl) (by kernel_rfl) (fun _ _ _ h => h) (Or.inl ⟨by rfl, ?_⟩) (by assumption) ?_
  rotate_left
  · (intro w hSw; (try dsimp only at hSw); go_simp; (first | done | with_reducible rfl))
  try simp only [Act.put, List.setIfInBounds_toArray, List.set_cons_zero, List.set_cons_succ]
  refine wpAnyH_take (i := 6) (v := ?_) (ata (atS (atS (atS (atS (atS (atS at0))))))) (by kernel_rfl) (by kernel_rfl) (by kernel_rfl) (fun _ _ _ h => h) (Or.inl ⟨by rfl, ?_⟩) (by assumption) ?_
  rotate_left
  · (intro w hSw; (try dsimp only at hSw); go_simp; (first | done | with_reducible rfl))
  try simp only [Act.put, List.setIfInBounds_toArray, List.set_cons_zero, List.set_cons_succ]
  refine wpAnyH_take (i := 8) (v := ?_) (ata (atS (atS (atS (atS (atS (atS (atS (atS at0))))))))) (by kernel_rfl) (by kernel_rfl) (by kernel_rfl) (fun _ _ _ h => h) (Or.inl ⟨by rfl, ?_⟩) (by assumption) ?_
  rotate_left
  · (intro w hSw; (try dsimp only at hSw); go_simp; (first | done | with_reducible rfl))
  try simp only [Act.put, List.setIfInBounds_toArray, List.set_cons_zero, List.set_cons_succ]
  refine wpAnyH_take (i := 9) (v := ?_) (ata (atS (atS (atS (atS (atS (atS (atS (atS (atS at0)))))))))) (by kernel_rfl) (by kernel_rfl) (by kernel_rfl) (fun _ _ _ h => h) (Or.inl ⟨by rfl, ?_⟩) (by assumption) ?_
  rotate_left
  · (intro w hSw; (try dsimp only at hSw); go_simp; (first | done | with_reducible rfl))
  try simp only [Act.put, List.setIfInBounds_toArray, List.set_cons_zero, List.set_cons_succ]
  refine wpAnyH_ready (rs := [7]) (by kernel_rfl) (by simp) ?_
  refine AllReadyH.cons (ata (atS (atS (atS (atS (atS (atS (atS at0)))))))) (fun K hK => ?_) AllReadyH.nil
  go_simp
  (go_at_call 28; refine (Norm_any HC1.out.hf HF.out).mono ?_; rintro e w2 ⟨vn, rfl, hn, hb2⟩; have HN := Lib.hid hn.rd; have ck := HC1.out.next hb2; have HC2 := Lib.hid ck; have k0 := ck.pb.k0; (try dsimp only at k0); have k1 := ck.pb.k1; (try dsimp only at k1); have k2 := ck.pb.k2; (try dsimp only at k2); have k3 := ck.pb.k3; (try dsimp only at k3); have k4 := ck.pb.k4; (try dsimp only at k4); have k5 := ck.pb.k5; (try dsimp only at k5); have k6 := ck.pb.k6; (try dsimp only at k6); clear ck; clear hn hb2)
  go_wp2_with fail
  refine hK.out _ _ (by first | (go_keep; done) | (dsimp only; go_keep)) (fun hHeld => ?_)
  clear hK K
  try simp only [Act.put, List.setIfInBounds_toArray, List.set_cons_zero, List.set_cons_succ]
  refine wpAnyH_ready (rs := [10]) (by kernel_rfl) (by simp) ?_
  refine AllReadyH.cons (ata (atS (atS (atS (atS (atS (atS (atS (atS (atS (atS at0))))))))))) (fun K hK => ?_) AllReadyH.nil
  go_simp
  (go_at_call 27; refine (equal_any HN.out HC2.out.hf (Nat.le_trans (nrm_of HF.out.2.1 HF.out.2.2).len (by have := HL.out; show fr.length ≤ 4000; omega)) (by have := HL.out; show fr.length ≤ 4000; omega)).mono ?_; rintro e w3 ⟨rfl, hb3⟩; rw [HE.out]; have ck := HC2.out.next hb3; have HC3 := Lib.hid ck; have k0 := ck.pb.k0; (try dsimp only at k0); have k1 := ck.pb.k1; (try dsimp only at k1); have k2 := ck.pb.k2; (try dsimp only at k2); have k3 := ck.pb.k3; (try dsimp only at k3); have k4 := ck.pb.k4; (try dsimp only at k4); have k5 := ck.pb.k5; (try dsimp only at k5); have k6 := ck.pb.k6; (try dsimp only at k6); clear ck; clear hb3)
  go_wp2_with fail
  refine hK.out _ _ (by first | (go_keep; done) | (dsimp only; go_keep)) (fun hHeld => ?_)
  clear hK K
  try simp only [Act.put, List.setIfInBounds_toArray, List.set_cons_zero, List.set_cons_succ]
  refine wpAnyH_take (i := 11) (v := ?_) (ata (atS (atS (atS (atS (atS (atS (atS (atS (atS (atS (atS at0)))))))))))) (by kernel_rfl) (by kernel_rfl) (by kernel_rfl) (fun _ _ _ h => h) (Or.inl ⟨by rfl, ?_⟩) (by assumption) ?_
  rotate_left
  · (intro w hSw; (try dsimp only at hSw); go_simp; (first | done | with_reducible rfl))
  try simp only [Act.put, List.setIfInBounds_toArray, List.set_cons_zero, List.set_cons_succ]
  refine wpAnyH_take (i := 12) (v := ?_) (ata (atS (atS (atS (atS (atS (atS (atS (atS (atS (atS (atS (atS at0))))))))))))) (by kernel_rfl) (by kernel_rfl) (by kernel_rfl) (fun _ _ _ h => h) (Or.inl ⟨by rfl, ?_⟩) (by assumption) ?_
  rotate_left
  · (intro w hSw; (try dsimp only at hSw); go_simp; (first | done | with_reducible rfl))
  try simp only [Act.put, List.setIfInBounds_toArray, List.set_cons_zero, List.set_cons_succ]
  refine wpAnyH_take (i := 13) (v := ?_) (ata (atS (atS (atS (atS (atS (atS (atS (atS (atS (atS (atS (atS (atS at0)))))))))))))) (by kernel_rfl) (by kernel_rfl) (by kernel_rfl) (fun _ _ _ h => h) (Or.inl ⟨by rfl, ?_⟩) (by assumption) ?_
  rotate_left
  · (intro w hSw; (try dsimp only at hSw); go_simp; (first | done | with_reducible rfl))
  try simp only [Act.put, List.setIfInBounds_toArray, List.set_cons_zero, List.set_cons_succ]
  refine wpAnyH_take (i := 14) (v := undef) (ata (atS (atS (atS (atS (atS (atS (atS (atS (atS (atS (atS (atS (atS (atS at0))))))))))))))) (by kernel_rfl) (by kernel_rfl) (by kernel_rfl) (fun _ _ _ h => h) (Or.inr ⟨by rfl, rfl⟩) (by assumption) ?_
  try simp only [Act.put, List.setIfInBounds_toArray, List.set_cons_zero, List.set_cons_succ]
  refine wpAnyH_take (i := 15) (v := undef) (ata (atS (atS (atS (atS (atS (atS (atS (atS (atS (atS (atS (atS (atS (atS (atS at0)))))))))))))))) (by kernel_rfl) (by kernel_rfl) (by kernel_rfl) (fun _ _ _ h => h) (Or.inr ⟨by rfl, rfl⟩) (by assumption) ?_
  try simp only [Act.put, List.setIfInBounds_toArray, List.set_cons_zero, List.set_cons_succ]
  refine wpAnyH_take (i := 16) (v := undef) (ata (atS (atS (atS (atS (atS (atS (atS (atS (atS (atS (atS (atS (atS (atS (atS (atS at0))))))))))))))))) (by kernel_rfl) (by kernel_rfl) (by kernel_rfl) (fun _ _ _ h => h) (Or.inr ⟨by rfl, rfl⟩) (by assumption) ?_
  try simp only [Act.put, List.setIfInBounds_toArray, List.set_cons_zero, List.set_cons_succ]
  refine wpAnyH_take (i := 17) (v := undef) (ata (atS (atS (atS (atS (atS (atS (atS (atS (atS (atS (atS (atS (atS (atS (atS (atS (atS at0)))))))))))))))))) (by kernel_rfl) (by kernel_rfl) (by kernel_rfl) (fun _ _ _ h => h) (Or.inr ⟨by rfl, rfl⟩) (by assumption) ?_
  try simp only [Act.put, List.setIfInBounds_toArray, List.set_cons_zero, List.set_cons_succ]
  refine wpAnyH_take (i := 18) (v := undef) (ata (atS (atS (atS (atS (atS (atS (atS (atS (atS (atS (atS (atS (atS (atS (atS (atS (atS (atS at0))))))))))))))))))) (by kernel_rfl) (by kernel_rfl) (by kernel_rfl) (fun _ _ _ h => h) (Or.inr ⟨by rfl, rfl⟩) (by assumption) ?_
  try simp only [Act.put, List.setIfInBounds_toArray, List.set_cons_zero, List.set_cons_succ]
  refine wpAnyH_take (i := 19) (v := ?_) (ata (atS (atS (atS (atS (atS (atS (atS (atS (atS (atS (atS (atS (atS (atS (atS (atS (atS (atS (atS at0)))))))))))))))))))) (by kernel_rfl) (by kernel_rfl) (by kernel_rfl) (fun _ _ _ h => h) (Or.inl ⟨by rfl, ?_⟩) (by assumption) ?_
  rotate_left
  · (intro w hSw; (try dsimp only at hSw); go_simp; (first | done | with_reducible rfl))
  try simp only [Act.put, List.setIfInBounds_toArray, List.set_cons_zero, List.set_cons_succ]
  refine wpAnyH_done (by kernel_rfl) ?_ _
  go_wp2
  go_ret
  exact ⟨rfl, HC3.out.hb⟩
set_option maxHeartbeats 4000000 in
theorem check_c {w : World} {p : Pl} {vf vu : Value} (hf : Rd w vf p.free) (hu : RdU w vu p.uses) (hb : po.Base p) (hl : p.free.length ≤ 1000) (h6 : Fine p.free) (h7 : Normal p.free) (h8 : ¬ po.Ins p p.free) : Calls Try.prog 10 #[aggP p vf vu] w (Tells (vcode p) w) := by
  rw [vcode_no fun h => h8 h.vi]
  have HK := Lib.hid (chk_fine h6)
  have HF := Lib.hid h6
  have HE : Hid (decide (nrm p.free = p.free) = true) := decide_eq_true ((po.normal_iff h6).2 h7)
  have HI : Hid (insB p p.free = false) := Bool.eq_false_iff.2 fun e => h8 ((insB_iff h7.1 hb.gp).1 e)
  clear h6 h7 h8
  obtain ⟨pf, cf, rfl⟩ := hf.len
  obtain ⟨pu, cu, rfl, hle⟩ := hu.2
  have ck := CkW.new (w := w) hf hu
  have k0 := ck.pb.k0
  have k1 := ck.pb.k1
  have k2 := ck.pb.k2
  have k3 := ck.pb.k3
  have k4 := ck.pb.k4
  have k5 := ck.pb.k5
  have k6 := ck.pb.k6
  have c1 := fun W => pquantity_any p.size W
  rw [(show quant p.size = true from decide_eq_true hb.s)] at c1
  have c2 := fun W => pquantity_any p.grain W
  rw [(show quant p.grain = true from decide_eq_true hb.g)] at c2
  have c3 := fun W => pquantity_any p.quota W
  rw [(show quant p.quota = true from decide_eq_true hb.q)] at c3
  have hgp := hb.gp
  have HG : Hid (0 < p.grain) := hgp
  have g0 : (p.grain == 0) = false := beq_eq_false_iff_ne.2 hb.g0
  have hs0 : 0 ≤ p.size := hb.s.1
  have g1 : (p.size % p.grain != 0) = false := bne_eq_false_iff_eq.2 (Int.emod_eq_zero_of_dvd hb.d)
  have HL := Lib.hid hl
  have HC0 := Lib.hid ck
  have HQ := Lib.hid hb
  clear hf hu ck hb hl
  obtain ⟨size, grain, quota, drain, best, fr, us⟩ := p
  try dsimp only at *
  have mixed : Try.prog.follows .mixedOrders = true := by kernel_rfl
  obtain ⟨W1, hW1⟩ : ∃ W1, w.alloc (boxP ⟨size, grain, quota, drain, best, fr, us⟩ (.slice pf fr.length cf) (.slice pu us.length cu)) = W1 := ⟨_, rfl⟩
  rw [hW1] at HC0 k0 k1 k2 k3 k4 k5 k6
  go_enter Try.func10, Try.ntmps10
  go_upto_region 3 with (go_at_call 20; first | ((with_reducible refine (c1 _).mono ?_); rintro e w1 ⟨rfl, rfl⟩) | ((with_reducible refine (c2 _).mono ?_); rintro e w1 ⟨rfl, rfl⟩) | ((with_reducible refine (c3 _).mono ?_); rintro e w1 ⟨rfl, rfl⟩))
  try rw [hW1]
  have ckd := HC0.out.drew
  have HC0 := Lib.hid ckd
  clear hW1 c1 c2 c3 ckd
  go_region_held3 (fun W => W.cell? ⟨w.heap.size, 0, none⟩ = some (.int .i64 size) ∧ W.cell? ⟨w.heap.size, 1, none⟩ = some (.int .i64 grain) ∧ W.cell? ⟨w.heap.size, 2, none⟩ = some (.int .i64 quota) ∧ W.cell? ⟨w.heap.size, 3, none⟩ = some (.bool drain) ∧ W.cell? ⟨w.heap.size, 4, none⟩ = some (.bool best) ∧ W.cell? ⟨w.heap.size, 5, none⟩ = some (.slice pf fr.length cf) ∧ W.cell? ⟨w.heap.size, 6, none⟩ = some (.slice pu us.length cu)) (go_keep) (first | (go_at_call 26; refine (check_any HC0.out.hf HL.out).mono ?_; rintro e w1 ⟨rfl, hb1⟩; rw [HK.out]; have ck := HC0.out.next hb1; have HC1 := Lib.hid ck; have k0 := ck.pb.k0; (try dsimp only at k0); have k1 := ck.pb.k1; (try dsimp only at k1); have k2 := ck.pb.k2; (try dsimp only at k2); have k3 := ck.pb.k3; (try dsimp only at k3); have k4 := ck.pb.k4; (try dsimp only at k4); have k5 := ck.pb.k5; (try dsimp only at k5); have k6 := ck.pb.k6; (try dsimp only at k6); clear ck; clear hb1) | (go_at_call 28; refine (Norm_any HC1.out.hf HF.out).mono ?_; rintro e w2 ⟨vn, rfl, hn, hb2⟩; have HN := Lib.hid hn.rd; have ck := HC1.out.next hb2; have HC2 := Lib.hid ck; have k0 := ck.pb.k0; (try dsimp only at k0); have k1 := ck.pb.k1; (try dsimp only at k1); have k2 := ck.pb.k2; (try dsimp only at k2); have k3 := ck.pb.k3; (try dsimp only at k3); have k4 := ck.pb.k4; (try dsimp only at k4); have k5 := ck.pb.k5; (try dsimp only at k5); have k6 := ck.pb.k6; (try dsimp only at k6); clear ck; clear hn hb2) | (go_at_call 27; refine (equal_any HN.out HC2.out.hf (Nat.le_trans (nrm_of HF.out.2.1 HF.out.2.2).len (by have := HL.out; show fr.length ≤ 4000; omega)) (by have := HL.out; show fr.length ≤ 4000; omega)).mono ?_; rintro e w3 ⟨rfl, hb3⟩; rw [HE.out]; have ck := HC2.out.next hb3; have HC3 := Lib.hid ck; have k0 := ck.pb.k0; (try dsimp only at k0); have k1 := ck.pb.k1; (try dsimp only at k1); have k2 := ck.pb.k2; (try dsimp only at k2); have k3 := ck.pb.k3; (try dsimp only at k3); have k4 := ck.pb.k4; (try dsimp only at k4); have k5 := ck.pb.k5; (try dsimp only at k5); have k6 := ck.pb.k6; (try dsimp only at k6); clear ck; clear hb3) | (go_at_call 29; refine (inside_any ⟨size, grain, quota, drain, best, fr, us⟩ (.slice pf fr.length cf) (.slice pu us.length cu) HG.out HC3.out.hf (by have := HL.out; show fr.length ≤ 4000; omega)).mono ?_; rintro e w4 ⟨rfl, hb4⟩; rw [HI.out]; have ck := HC3.out.next hb4; have HC4 := Lib.hid ck; have k0 := ck.pb.k0; (try dsimp only at k0); have k1 := ck.pb.k1; (try dsimp only at k1); have k2 := ck.pb.k2; (try dsimp only at k2); have k3 := ck.pb.k3; (try dsimp only at k3); have k4 := ck.pb.k4; (try dsimp only at k4); have k5 := ck.pb.k5; (try dsimp only at k5); have k6 := ck.pb.k6; (try dsimp only at k6); clear ck; clear hb4))
  all_goals
    go_wp2
    go_ret
    exact ⟨rfl, HC4.out.hb⟩
end Go.Proofs.Ytdjpnlkhdilakaa.gn
