/- PoolBack: the walk (written by gen_poU.py). -/
import Derived.Test.YtdjpnlkhdilakaaPoT
set_option linter.unusedVariables false
set_option linter.unusedSimpArgs false
set_option maxRecDepth 100000
namespace Go.Proofs.Ytdjpnlkhdilakaa.gn
open Go.RowKit Go.Shelf Go.Sort Go.Lib
open Go.Proofs.Ytdjpnlkhdilakaa.ex
open Go.Proofs.Ytdjpnlkhdilakaa.po (Nm U less Pl)

attribute [local go_sem] Oper.semAt_some
attribute [local go_sem ↓] Go.wp_at_zero Go.wp_at_succ

/-- How the law stands behind its Grant. -/
structure BkS (w W : World) (p : Pl) (vf vu : Value) (s : ByteArray) (n : Int) (vl : Value) (l : List X) (B : Nat) (Q : Pl) (qf qu vt : Value) (T : List X) : Prop where
  A : AX W w.heap.size p vf vu s n vl l
  Xa : PX W B Q qf qu
  t : Rd W vt T
  hb : RowKit.Below w.heap.size w W
theorem BkS.next {w W W' : World} {p : Pl} {vf vu : Value} {s : ByteArray} {n : Int} {vl : Value} {l : List X} {B : Nat} {Q : Pl} {qf qu vt : Value} {T : List X} (h : BkS w W p vf vu s n vl l B Q qf qu vt T) (hb : RowKit.Below W.heap.size W W') : BkS w W' p vf vu s n vl l B Q qf qu vt T :=
  ⟨h.A.next hb, h.Xa.next hb, h.t.next hb, h.hb.trans (hb.mono h.hb.size)⟩
/-- What is known of what was granted. -/
structure BkP (p Q : Pl) (u : Nm) (n : Int) (T : List X) (G : Int) : Prop where
  vp : po.Valid p
  vq : po.Valid Q
  fT : Fine T
  tT : tot T = G
  g0 : 0 < n
  g1 : n ≤ 1099511627776
  g2 : n ≤ G
  g3 : G < n + p.grain
  g4 : G ≤ tot p.free
  tq : tot Q.free = tot p.free - G
  ap : Apart (Q.free ++ T)
  lu : po.lk Q.uses u = po.lk p.uses u + G
  lo : ∀ o, o ≠ u → po.lk Q.uses o = po.lk p.uses o
  rok : po.ROk Q u T
  rp : po.rP Q u T = p
  ra : RAsk p u T
  tw : ¬ Apart (p.free ++ T)
  l1 : Q.free.length ≤ 1000
  l2 : Q.uses.length ≤ 3800
theorem ins_size {p Q : Pl} {u : Nm} {n : Int} {T : List X} {G : Int} (h : BkP p Q u n T G) : Q.size = p.size := by
  rw [← h.rp]
  rfl
theorem BkP.of {p : Pl} {u : Nm} {n : Int} (h : po.GOk p u n) (hl : p.free.length ≤ 900) (hu : p.uses.length ≤ 3000) : BkP p (po.gP p u n) u n (po.gT p n) (po.gr n p.grain) := by
  have hb := h.back hl
  have v := h.can.v
  refine ⟨v, h.valid, h.tf.fT hl, h.tf.tT, h.can.n0, h.can.n1, h.gg.2.1, h.gg.2.2, h.le, h.tf.tR, apart_comm.1 h.tf.ap, ?_, fun o ho => ?_, hb.1, hb.2, ⟨v, h.can.nm, h.neT, h.tf.fT hl, h.insT⟩, h.twice, ?_, ?_⟩
  · rw [h.lk, if_pos rfl]
  · rw [h.lk, if_neg ho]
  · have := h.tf.lR; show (po.gR p n).length ≤ 1000; omega
  · have := len_with p.uses u (po.lk p.uses u + po.gr n p.grain); show (po.withU p.uses u _).length ≤ 3800; omega
set_option maxHeartbeats 16000000 in
theorem back_law {w : World} {vf vu vl : Value} {p : Pl} {l : List X} (hf : Rd w vf p.free) (hu : RdU w vu p.uses) (hl : Rd w vl l) (u o : Nm) (n : Int) :
    Calls Try.prog 3 #[aggA p vf vu (str u) n vl, .string (str o)] w (TellsB true w) := by
  obtain ⟨pf, cf, rfl⟩ := hf.len
  obtain ⟨pu, cu, rfl, _⟩ := hu.2
  obtain ⟨pl, cl, rfl⟩ := hl.len
  have mixed : Try.prog.follows .mixedOrders = true := by kernel_rfl
  obtain ⟨su, hsu⟩ : ∃ su, str u = su := ⟨_, rfl⟩
  obtain ⟨so, hso⟩ : ∃ so, str o = so := ⟨_, rfl⟩
  have A : AX (w.alloc (.cells #[.int .i64 p.size, .int .i64 p.grain, .int .i64 p.quota, .bool p.drain, .bool p.best, .slice pf p.free.length cf, .slice pu p.uses.length cu, .string su, .int .i64 n, .slice pl l.length cl] 27)) w.heap.size p (.slice pf p.free.length cf) (.slice pu p.uses.length cu) su n (.slice pl l.length cl) l := AX.new hf hu hl su n
  obtain ⟨W0, hW0⟩ : ∃ W0, w.alloc (.cells #[.int .i64 p.size, .int .i64 p.grain, .int .i64 p.quota, .bool p.drain, .bool p.best, .slice pf p.free.length cf, .slice pu p.uses.length cu, .string su, .int .i64 n, .slice pl l.length cl] 27) = W0 := ⟨_, rfl⟩
  have HB : Hid (RowKit.Below w.heap.size w W0) := by show RowKit.Below _ _ _; rw [← hW0]; exact below_box _ _
  rw [hW0] at A
  rw [hsu, hso]
  clear hf hu hl
  have cg := great_any p pf pu pl p.free.length cf p.uses.length cu l.length cl su n W0
  have a0 := A.pb.k0; have a1 := A.pb.k1; have a2 := A.pb.k2; have a3 := A.pb.k3; have a4 := A.pb.k4; have a5 := A.pb.k5; have a6 := A.pb.k6; have a7 := A.pb.k7; have a8 := A.pb.k8; have a9 := A.pb.k9
  go_enter Try.func3, Try.ntmps3
  cases hgr : grB p.free.length p.uses.length l.length su.size with
  | true =>
    rw [hgr] at cg
    go_wp2_with fail
    clear hW0
    refine Calls.mono (cg) ?_
    rintro e z1 ⟨rfl, hb⟩
    clear a0 a1 a2 a3 a4 a5 a6 a7 a8 a9
    clear cg
    have hx1 : RowKit.Below W0.heap.size W0 z1 := by
      refine Below.trans ?_ (hb.mono ?_)
      · (first | exact Below.refl _ _ | exact (Below.refl _ _).alloc (by simp) _ | exact ((Below.refl _ _).alloc (by simp) _).alloc (by simp) _ | exact (((Below.refl _ _).alloc (by simp) _).alloc (by simp) _).alloc (by simp) _)
      · first | exact Nat.le_refl _ | (simp; done) | (simp; omega)
    replace A := A.next hx1
    replace HB := Lib.hid (HB.out.trans (hx1.mono HB.out.size))
    have a0 := A.pb.k0; have a1 := A.pb.k1; have a2 := A.pb.k2; have a3 := A.pb.k3; have a4 := A.pb.k4; have a5 := A.pb.k5; have a6 := A.pb.k6; have a7 := A.pb.k7; have a8 := A.pb.k8; have a9 := A.pb.k9
    clear hb hx1
    go_wp2_with fail
    refine Calls.mono (head_any _) ?_
    rintro e z2 ⟨rfl, hb⟩
    clear a0 a1 a2 a3 a4 a5 a6 a7 a8 a9
    have hx2 : RowKit.Below z1.heap.size z1 z2 := by
      refine Below.trans ?_ (hb.mono ?_)
      · (first | exact Below.refl _ _ | exact (Below.refl _ _).alloc (by simp) _ | exact ((Below.refl _ _).alloc (by simp) _).alloc (by simp) _ | exact (((Below.refl _ _).alloc (by simp) _).alloc (by simp) _).alloc (by simp) _)
      · first | exact Nat.le_refl _ | (simp; done) | (simp; omega)
    replace A := A.next hx2
    replace HB := Lib.hid (HB.out.trans (hx2.mono HB.out.size))
    have a0 := A.pb.k0; have a1 := A.pb.k1; have a2 := A.pb.k2; have a3 := A.pb.k3; have a4 := A.pb.k4; have a5 := A.pb.k5; have a6 := A.pb.k6; have a7 := A.pb.k7; have a8 := A.pb.k8; have a9 := A.pb.k9
    clear hb hx2
    go_wp2_with fail
    go_ret
    exact ⟨rfl, HB.out⟩
  | false =>
    rw [hgr] at cg
    have hlen : p.free.length ≤ 40 ∧ p.uses.length ≤ 20 := by
      unfold grB at hgr
      rw [Bool.not_eq_false', decide_eq_true_iff] at hgr
      exact ⟨hgr.1, hgr.2.1⟩
    have hl1 : p.free.length ≤ 1000 := by omega
    have hl2 : p.uses.length ≤ 3800 := by omega
    by_cases ho : 100 < so.size
    · have d0 : decide ((100 : Int) < (so.size : Int)) = true := decide_eq_true (by omega)
      clear ho
      go_wp2_with fail
      clear hW0
      refine Calls.mono (cg) ?_
      rintro e z1 ⟨rfl, hb⟩
      clear a0 a1 a2 a3 a4 a5 a6 a7 a8 a9
      clear cg
      have hx1 : RowKit.Below W0.heap.size W0 z1 := by
        refine Below.trans ?_ (hb.mono ?_)
        · (first | exact Below.refl _ _ | exact (Below.refl _ _).alloc (by simp) _ | exact ((Below.refl _ _).alloc (by simp) _).alloc (by simp) _ | exact (((Below.refl _ _).alloc (by simp) _).alloc (by simp) _).alloc (by simp) _)
        · first | exact Nat.le_refl _ | (simp; done) | (simp; omega)
      replace A := A.next hx1
      replace HB := Lib.hid (HB.out.trans (hx1.mono HB.out.size))
      have a0 := A.pb.k0; have a1 := A.pb.k1; have a2 := A.pb.k2; have a3 := A.pb.k3; have a4 := A.pb.k4; have a5 := A.pb.k5; have a6 := A.pb.k6; have a7 := A.pb.k7; have a8 := A.pb.k8; have a9 := A.pb.k9
      clear hb hx1
      go_wp2_with fail
      refine Calls.mono (head_any _) ?_
      rintro e z2 ⟨rfl, hb⟩
      clear a0 a1 a2 a3 a4 a5 a6 a7 a8 a9
      have hx2 : RowKit.Below z1.heap.size z1 z2 := by
        refine Below.trans ?_ (hb.mono ?_)
        · (first | exact Below.refl _ _ | exact (Below.refl _ _).alloc (by simp) _ | exact ((Below.refl _ _).alloc (by simp) _).alloc (by simp) _ | exact (((Below.refl _ _).alloc (by simp) _).alloc (by simp) _).alloc (by simp) _)
        · first | exact Nat.le_refl _ | (simp; done) | (simp; omega)
      replace A := A.next hx2
      replace HB := Lib.hid (HB.out.trans (hx2.mono HB.out.size))
      have a0 := A.pb.k0; have a1 := A.pb.k1; have a2 := A.pb.k2; have a3 := A.pb.k3; have a4 := A.pb.k4; have a5 := A.pb.k5; have a6 := A.pb.k6; have a7 := A.pb.k7; have a8 := A.pb.k8; have a9 := A.pb.k9
      clear hb hx2
      go_wp2_with fail
      go_ret
      exact ⟨rfl, HB.out⟩
    · have d0 : decide ((100 : Int) < (so.size : Int)) = false := decide_eq_false (by omega)
      clear ho
      go_wp2_with fail
      clear hW0
      refine Calls.mono (cg) ?_
      rintro e z1 ⟨rfl, hb⟩
      clear a0 a1 a2 a3 a4 a5 a6 a7 a8 a9
      clear cg
      have hx1 : RowKit.Below W0.heap.size W0 z1 := by
        refine Below.trans ?_ (hb.mono ?_)
        · (first | exact Below.refl _ _ | exact (Below.refl _ _).alloc (by simp) _ | exact ((Below.refl _ _).alloc (by simp) _).alloc (by simp) _ | exact (((Below.refl _ _).alloc (by simp) _).alloc (by simp) _).alloc (by simp) _)
        · first | exact Nat.le_refl _ | (simp; done) | (simp; omega)
      replace A := A.next hx1
      replace HB := Lib.hid (HB.out.trans (hx1.mono HB.out.size))
      have a0 := A.pb.k0; have a1 := A.pb.k1; have a2 := A.pb.k2; have a3 := A.pb.k3; have a4 := A.pb.k4; have a5 := A.pb.k5; have a6 := A.pb.k6; have a7 := A.pb.k7; have a8 := A.pb.k8; have a9 := A.pb.k9
      clear hb hx1
      go_wp2_with fail
      by_cases hgc : po.gcode p u n = 0
      · skip
        have hgk := po.gcode_ok.1 hgc
        have hP := BkP.of hgk (by omega) (by omega)
        refine Calls.mono ((by have := Grant_yes (A.w hl1 hl2) u n hgk; rwa [hsu] at this)) ?_
        rintro e z2 ⟨va, vt, rfl, hv, ht, hb⟩
        clear a0 a1 a2 a3 a4 a5 a6 a7 a8 a9
        generalize po.gP p u n = Q at *
        generalize po.gT p n = T at *
        generalize po.gr n p.grain = G at *
        obtain ⟨pt, ct, rfl⟩ := ht.len
        clear hgk hgc
        have hx2 : RowKit.Below z1.heap.size z1 z2 := by
          refine Below.trans ?_ (hb.mono ?_)
          · (first | exact Below.refl _ _ | exact (Below.refl _ _).alloc (by simp) _ | exact ((Below.refl _ _).alloc (by simp) _).alloc (by simp) _ | exact (((Below.refl _ _).alloc (by simp) _).alloc (by simp) _).alloc (by simp) _)
          · first | exact Nat.le_refl _ | (simp; done) | (simp; omega)
        replace A := A.next hx2
        replace HB := Lib.hid (HB.out.trans (hx2.mono HB.out.size))
        have a0 := A.pb.k0; have a1 := A.pb.k1; have a2 := A.pb.k2; have a3 := A.pb.k3; have a4 := A.pb.k4; have a5 := A.pb.k5; have a6 := A.pb.k6; have a7 := A.pb.k7; have a8 := A.pb.k8; have a9 := A.pb.k9
        clear hb hx2
        obtain ⟨vfq, vuq, rfl, hfq, huq⟩ := hv
        obtain ⟨afq, cfq, rfl⟩ := hfq.len
        obtain ⟨auq, cuq, rfl, _⟩ := huq.2
        have Xq : PX (z2.alloc (.cells #[.int .i64 Q.size, .int .i64 Q.grain, .int .i64 Q.quota, .bool Q.drain, .bool Q.best, .slice afq Q.free.length cfq, .slice auq Q.uses.length cuq] 25)) z2.heap.size Q (.slice afq Q.free.length cfq) (.slice auq Q.uses.length cuq) := PX.new hfq huq
        obtain ⟨y3, hy3⟩ : ∃ y, z2.alloc (.cells #[.int .i64 Q.size, .int .i64 Q.grain, .int .i64 Q.quota, .bool Q.drain, .bool Q.best, .slice afq Q.free.length cfq, .slice auq Q.uses.length cuq] 25) = y := ⟨_, rfl⟩
        have hx3 : RowKit.Below z2.heap.size z2 y3 := by rw [← hy3]; exact below_box _ _
        clear a0 a1 a2 a3 a4 a5 a6 a7 a8 a9
        replace A := A.next hx3
        replace ht := ht.next hx3
        replace HB := Lib.hid (HB.out.trans (hx3.mono HB.out.size))
        have a0 := A.pb.k0; have a1 := A.pb.k1; have a2 := A.pb.k2; have a3 := A.pb.k3; have a4 := A.pb.k4; have a5 := A.pb.k5; have a6 := A.pb.k6; have a7 := A.pb.k7; have a8 := A.pb.k8; have a9 := A.pb.k9
        rw [hy3] at Xq
        clear hfq huq
        have xq0 := Xq.pb.k0; have xq1 := Xq.pb.k1; have xq2 := Xq.pb.k2; have xq3 := Xq.pb.k3; have xq4 := Xq.pb.k4; have xq5 := Xq.pb.k5; have xq6 := Xq.pb.k6
        have HP := Lib.hid hP
        have n0 := hP.g0
        have n1 := hP.g1
        have e0 := hP.g2
        have e1 := hP.g3
        have e2 := hP.g4
        have e3 := tot_top hP.vp.vf.2.1 hP.vp.vf.2.2
        have e4 := hP.vp.vb.gp
        have e5 := hP.vp.vb.g.2
        have e6 := po.lk_pos hP.vp.pos u
        have e7 := po.lk_sm hP.vp.pos u
        have e8 := hP.vp.va
        have e9 := hP.vp.vb.s.2
        have b1 := po.lk_sm hP.vq.pos u
        have b2 := hP.vq.va
        have b3 := hP.lu
        have b4 := (tot_pos hP.vq.vf.2.1).1
        have b5 := ins_size hP
        have hkT : po.lk p.uses u + G ≤ 1099511627776 := by omega
        clear e7 e8 e9 b1 b2 b3 b4 b5
        have d1 : decide (G < n) = false := decide_eq_false (by omega)
        have d2 : decide (n + p.grain ≤ G) = false := decide_eq_false (by omega)
        have HS0 : Hid (BkS w y3 p (.slice pf p.free.length cf) (.slice pu p.uses.length cu) su n (.slice pl l.length cl) l z2.heap.size Q (.slice afq Q.free.length cfq) (.slice auq Q.uses.length cuq) (.slice pt T.length ct) T) := ⟨A, Xq, ht, HB.out⟩
        obtain ⟨fp, hfp⟩ : ∃ fp, tot p.free = fp := ⟨_, rfl⟩
        obtain ⟨kp, hkp⟩ : ∃ kp, po.lk p.uses u = kp := ⟨_, rfl⟩
        rw [hfp] at e2 e3; rw [hkp] at e6 hkT
        have w1 : IntKind.i64.wrap (n + p.grain) = n + p.grain := by rw [IntKind.wrap_i64]; omega
        have w2 : IntKind.i64.wrap (fp - G) = fp - G := by rw [IntKind.wrap_i64]; omega
        have w3 : IntKind.i64.wrap (kp + G) = kp + G := by rw [IntKind.wrap_i64]; omega
        have c1 : tot Q.free = fp - G := by rw [hP.tq, hfp]
        have c2 : po.lk Q.uses u = kp + G := by rw [hP.lu, hkp]
        have C := Lib.hid (And.intro hfp (And.intro hkp (And.intro c1 (And.intro c2 hP.tT))))
        clear hP hfp hkp c1 c2
        go_upto_region 6 with fail
        clear hy3
        have sD := HS0.out.next (Below.refl _ y3).drew
        have HS := Lib.hid sD
        clear sD
        go_region_held3 (fun W => W.cell? ⟨w.heap.size, 0, none⟩ = some (.int .i64 p.size) ∧ W.cell? ⟨w.heap.size, 1, none⟩ = some (.int .i64 p.grain) ∧ W.cell? ⟨w.heap.size, 2, none⟩ = some (.int .i64 p.quota) ∧ W.cell? ⟨w.heap.size, 3, none⟩ = some (.bool p.drain) ∧ W.cell? ⟨w.heap.size, 4, none⟩ = some (.bool p.best) ∧ W.cell? ⟨w.heap.size, 5, none⟩ = some (.slice pf p.free.length cf) ∧ W.cell? ⟨w.heap.size, 6, none⟩ = some (.slice pu p.uses.length cu) ∧ W.cell? ⟨w.heap.size, 7, none⟩ = some (.string su) ∧ W.cell? ⟨w.heap.size, 8, none⟩ = some (.int .i64 n) ∧ W.cell? ⟨w.heap.size, 9, none⟩ = some (.slice pl l.length cl) ∧ W.cell? ⟨z2.heap.size, 0, none⟩ = some (.int .i64 Q.size) ∧ W.cell? ⟨z2.heap.size, 1, none⟩ = some (.int .i64 Q.grain) ∧ W.cell? ⟨z2.heap.size, 2, none⟩ = some (.int .i64 Q.quota) ∧ W.cell? ⟨z2.heap.size, 3, none⟩ = some (.bool Q.drain) ∧ W.cell? ⟨z2.heap.size, 4, none⟩ = some (.bool Q.best) ∧ W.cell? ⟨z2.heap.size, 5, none⟩ = some (.slice afq Q.free.length cfq) ∧ W.cell? ⟨z2.heap.size, 6, none⟩ = some (.slice auq Q.uses.length cuq)) (go_keep) (first | (go_at_call 10; first | ((with_reducible refine (Check_yes (HS.out.Xa.w HP.out.l1 HP.out.l2) HP.out.vq).mono ?_); rintro e w1 ⟨rfl, hb1⟩; clear a0 a1 a2 a3 a4 a5 a6 a7 a8 a9 xq0 xq1 xq2 xq3 xq4 xq5 xq6; have s1 := HS.out.next hb1; have HS := Lib.hid s1; have a0 := s1.A.pb.k0; have a1 := s1.A.pb.k1; have a2 := s1.A.pb.k2; have a3 := s1.A.pb.k3; have a4 := s1.A.pb.k4; have a5 := s1.A.pb.k5; have a6 := s1.A.pb.k6; have a7 := s1.A.pb.k7; have a8 := s1.A.pb.k8; have a9 := s1.A.pb.k9; have xq0 := s1.Xa.pb.k0; have xq1 := s1.Xa.pb.k1; have xq2 := s1.Xa.pb.k2; have xq3 := s1.Xa.pb.k3; have xq4 := s1.Xa.pb.k4; have xq5 := s1.Xa.pb.k5; have xq6 := s1.Xa.pb.k6; clear s1 hb1)) | (go_at_call 11; first | ((with_reducible refine (Total_any HS.out.t HP.out.fT).mono ?_); rintro e w1 ⟨rfl, hb1⟩; rw [C.out.2.2.2.2]; clear a0 a1 a2 a3 a4 a5 a6 a7 a8 a9 xq0 xq1 xq2 xq3 xq4 xq5 xq6; have s1 := HS.out.next hb1; have HS := Lib.hid s1; have a0 := s1.A.pb.k0; have a1 := s1.A.pb.k1; have a2 := s1.A.pb.k2; have a3 := s1.A.pb.k3; have a4 := s1.A.pb.k4; have a5 := s1.A.pb.k5; have a6 := s1.A.pb.k6; have a7 := s1.A.pb.k7; have a8 := s1.A.pb.k8; have a9 := s1.A.pb.k9; have xq0 := s1.Xa.pb.k0; have xq1 := s1.Xa.pb.k1; have xq2 := s1.Xa.pb.k2; have xq3 := s1.Xa.pb.k3; have xq4 := s1.Xa.pb.k4; have xq5 := s1.Xa.pb.k5; have xq6 := s1.Xa.pb.k6; clear s1 hb1)) | (go_at_call 12; first | ((with_reducible refine (Free_yes (HS.out.Xa.w HP.out.l1 HP.out.l2) HP.out.vq).mono ?_); rintro e w1 ⟨rfl, hb1⟩; rw [C.out.2.2.1]; clear a0 a1 a2 a3 a4 a5 a6 a7 a8 a9 xq0 xq1 xq2 xq3 xq4 xq5 xq6; have s1 := HS.out.next hb1; have HS := Lib.hid s1; have a0 := s1.A.pb.k0; have a1 := s1.A.pb.k1; have a2 := s1.A.pb.k2; have a3 := s1.A.pb.k3; have a4 := s1.A.pb.k4; have a5 := s1.A.pb.k5; have a6 := s1.A.pb.k6; have a7 := s1.A.pb.k7; have a8 := s1.A.pb.k8; have a9 := s1.A.pb.k9; have xq0 := s1.Xa.pb.k0; have xq1 := s1.Xa.pb.k1; have xq2 := s1.Xa.pb.k2; have xq3 := s1.Xa.pb.k3; have xq4 := s1.Xa.pb.k4; have xq5 := s1.Xa.pb.k5; have xq6 := s1.Xa.pb.k6; clear s1 hb1) | ((with_reducible refine (Free_yes (HS.out.A.w hl1 hl2) HP.out.vp).mono ?_); rintro e w1 ⟨rfl, hb1⟩; rw [C.out.1]; clear a0 a1 a2 a3 a4 a5 a6 a7 a8 a9 xq0 xq1 xq2 xq3 xq4 xq5 xq6; have s1 := HS.out.next hb1; have HS := Lib.hid s1; have a0 := s1.A.pb.k0; have a1 := s1.A.pb.k1; have a2 := s1.A.pb.k2; have a3 := s1.A.pb.k3; have a4 := s1.A.pb.k4; have a5 := s1.A.pb.k5; have a6 := s1.A.pb.k6; have a7 := s1.A.pb.k7; have a8 := s1.A.pb.k8; have a9 := s1.A.pb.k9; have xq0 := s1.Xa.pb.k0; have xq1 := s1.Xa.pb.k1; have xq2 := s1.Xa.pb.k2; have xq3 := s1.Xa.pb.k3; have xq4 := s1.Xa.pb.k4; have xq5 := s1.Xa.pb.k5; have xq6 := s1.Xa.pb.k6; clear s1 hb1)) | (go_at_call 13; first | ((with_reducible refine (Meet_any HS.out.Xa.hf HS.out.t HP.out.vq.vf HP.out.fT).mono ?_); rintro e w1 ⟨rfl, hb1⟩; rw [decide_eq_true HP.out.ap]; clear a0 a1 a2 a3 a4 a5 a6 a7 a8 a9 xq0 xq1 xq2 xq3 xq4 xq5 xq6; have s1 := HS.out.next hb1; have HS := Lib.hid s1; have a0 := s1.A.pb.k0; have a1 := s1.A.pb.k1; have a2 := s1.A.pb.k2; have a3 := s1.A.pb.k3; have a4 := s1.A.pb.k4; have a5 := s1.A.pb.k5; have a6 := s1.A.pb.k6; have a7 := s1.A.pb.k7; have a8 := s1.A.pb.k8; have a9 := s1.A.pb.k9; have xq0 := s1.Xa.pb.k0; have xq1 := s1.Xa.pb.k1; have xq2 := s1.Xa.pb.k2; have xq3 := s1.Xa.pb.k3; have xq4 := s1.Xa.pb.k4; have xq5 := s1.Xa.pb.k5; have xq6 := s1.Xa.pb.k6; clear s1 hb1)) | (go_at_call 14; first | ((with_reducible refine ((show Calls Try.prog 14 #[aggP Q (.slice afq Q.free.length cfq) (.slice auq Q.uses.length cuq), .string su] _ _ from by have := Used_yes u (HS.out.Xa.w HP.out.l1 HP.out.l2) HP.out.vq; rwa [hsu] at this)).mono ?_); rintro e w1 ⟨rfl, hb1⟩; rw [C.out.2.2.2.1]; clear a0 a1 a2 a3 a4 a5 a6 a7 a8 a9 xq0 xq1 xq2 xq3 xq4 xq5 xq6; have s1 := HS.out.next hb1; have HS := Lib.hid s1; have a0 := s1.A.pb.k0; have a1 := s1.A.pb.k1; have a2 := s1.A.pb.k2; have a3 := s1.A.pb.k3; have a4 := s1.A.pb.k4; have a5 := s1.A.pb.k5; have a6 := s1.A.pb.k6; have a7 := s1.A.pb.k7; have a8 := s1.A.pb.k8; have a9 := s1.A.pb.k9; have xq0 := s1.Xa.pb.k0; have xq1 := s1.Xa.pb.k1; have xq2 := s1.Xa.pb.k2; have xq3 := s1.Xa.pb.k3; have xq4 := s1.Xa.pb.k4; have xq5 := s1.Xa.pb.k5; have xq6 := s1.Xa.pb.k6; clear s1 hb1) | ((with_reducible refine ((show Calls Try.prog 14 #[aggP p (.slice pf p.free.length cf) (.slice pu p.uses.length cu), .string su] _ _ from by have := Used_yes u (HS.out.A.w hl1 hl2) HP.out.vp; rwa [hsu] at this)).mono ?_); rintro e w1 ⟨rfl, hb1⟩; rw [C.out.2.1]; clear a0 a1 a2 a3 a4 a5 a6 a7 a8 a9 xq0 xq1 xq2 xq3 xq4 xq5 xq6; have s1 := HS.out.next hb1; have HS := Lib.hid s1; have a0 := s1.A.pb.k0; have a1 := s1.A.pb.k1; have a2 := s1.A.pb.k2; have a3 := s1.A.pb.k3; have a4 := s1.A.pb.k4; have a5 := s1.A.pb.k5; have a6 := s1.A.pb.k6; have a7 := s1.A.pb.k7; have a8 := s1.A.pb.k8; have a9 := s1.A.pb.k9; have xq0 := s1.Xa.pb.k0; have xq1 := s1.Xa.pb.k1; have xq2 := s1.Xa.pb.k2; have xq3 := s1.Xa.pb.k3; have xq4 := s1.Xa.pb.k4; have xq5 := s1.Xa.pb.k5; have xq6 := s1.Xa.pb.k6; clear s1 hb1)))
        go_upto_region 8 with fail
        have sD := HS.out.next (Below.refl _ w1).drew
        have HS := Lib.hid sD
        clear sD A Xq ht HB HS0
        obtain ⟨c, hc0, hcc⟩ := Return_bad HP.out.ra HP.out.tw
        have hcb : (c != 0) = true := bne_iff_ne.2 hc0
        by_cases hou : o = u
        · have heq : so = su := by rw [← hso, ← hsu, hou]
          clear hou; subst heq
          have q1 : (so.toList == so.toList) = true := by simp
          have q2 : (so.toList != so.toList) = false := by simp
          refine wp_region_held_drew (S := (fun W => W.cell? ⟨w.heap.size, 0, none⟩ = some (.int .i64 p.size) ∧ W.cell? ⟨w.heap.size, 1, none⟩ = some (.int .i64 p.grain) ∧ W.cell? ⟨w.heap.size, 2, none⟩ = some (.int .i64 p.quota) ∧ W.cell? ⟨w.heap.size, 3, none⟩ = some (.bool p.drain) ∧ W.cell? ⟨w.heap.size, 4, none⟩ = some (.bool p.best) ∧ W.cell? ⟨w.heap.size, 5, none⟩ = some (.slice pf p.free.length cf) ∧ W.cell? ⟨w.heap.size, 6, none⟩ = some (.slice pu p.uses.length cu) ∧ W.cell? ⟨w.heap.size, 7, none⟩ = some (.string so) ∧ W.cell? ⟨w.heap.size, 8, none⟩ = some (.int .i64 n) ∧ W.cell? ⟨w.heap.size, 9, none⟩ = some (.slice pl l.length cl) ∧ W.cell? ⟨z2.heap.size, 0, none⟩ = some (.int .i64 Q.size) ∧ W.cell? ⟨z2.heap.size, 1, none⟩ = some (.int .i64 Q.grain) ∧ W.cell? ⟨z2.heap.size, 2, none⟩ = some (.int .i64 Q.quota) ∧ W.cell? ⟨z2.heap.size, 3, none⟩ = some (.bool Q.drain) ∧ W.cell? ⟨z2.heap.size, 4, none⟩ = some (.bool Q.best) ∧ W.cell? ⟨z2.heap.size, 5, none⟩ = some (.slice afq Q.free.length cfq) ∧ W.cell? ⟨z2.heap.size, 6, none⟩ = some (.slice auq Q.uses.length cuq))) (by kernel_rfl) (by first | (go_keep; done) | (dsimp only; go_keep)) (fun hHeld => ?_)
          refine wpAnyH_take (i := 0) (v := ?_) (ata at0) (by kernel_rfl) (by kernel_rfl) (by kernel_rfl) (fun _ _ _ h => h) (Or.inl ⟨by rfl, ?_⟩) (by assumption) ?_
          rotate_left
          · (intro w hSw; (try dsimp only at hSw); go_simp; (first | done | with_reducible rfl))
          try simp only [Act.put, List.setIfInBounds_toArray, List.set_cons_zero, List.set_cons_succ]
          refine wpAnyH_take (i := 1) (v := ?_) (ata (atS at0)) (by kernel_rfl) (by kernel_rfl) (by kernel_rfl) (fun _ _ _ h => h) (Or.inl ⟨by rfl, ?_⟩) (by assumption) ?_
          rotate_left
          · (intro w hSw; (try dsimp only at hSw); go_simp; (first | done | with_reducible rfl))
          try simp only [Act.put, List.setIfInBounds_toArray, List.set_cons_zero, List.set_cons_succ]
          refine wpAnyH_take (i := 2) (v := ?_) (ata (atS (atS at0))) (by kernel_rfl) (by kernel_rfl) (by kernel_rfl) (fun _ _ _ h => h) (Or.inl ⟨by rfl, ?_⟩) (by assumption) ?_
          rotate_left
          · (intro w hSw; (try dsimp only at hSw); go_simp; (first | done | with_reducible rfl))
          try simp only [Act.put, List.setIfInBounds_toArray, List.set_cons_zero, List.set_cons_succ]
          refine wpAnyH_take (i := 3) (v := ?_) (ata (atS (atS (atS at0)))) (by kernel_rfl) (by kernel_rfl) (by kernel_rfl) (fun _ _ _ h => h) (Or.inl ⟨by rfl, ?_⟩) (by assumption) ?_
          rotate_left
          · (intro w hSw; (try dsimp only at hSw); go_simp; (first | done | with_reducible rfl))
          try simp only [Act.put, List.setIfInBounds_toArray, List.set_cons_zero, List.set_cons_succ]
          refine wpAnyH_take (i := 4) (v := ?_) (ata (atS (atS (atS (atS at0))))) (by kernel_rfl) (by kernel_rfl) (by kernel_rfl) (fun _ _ _ h => h) (Or.inl ⟨by rfl, ?_⟩) (by assumption) ?_
          rotate_left
          · (intro w hSw; (try dsimp only at hSw); go_simp; (first | done | with_reducible rfl))
          try simp only [Act.put, List.setIfInBounds_toArray, List.set_cons_zero, List.set_cons_succ]
          refine wpAnyH_take (i := 5) (v := undef) (ata (atS (atS (atS (atS (atS at0)))))) (by kernel_rfl) (by kernel_rfl) (by kernel_rfl) (fun _ _ _ h => h) (Or.inr ⟨by rfl, rfl⟩) (by assumption) ?_
          try simp only [Act.put, List.setIfInBounds_toArray, List.set_cons_zero, List.set_cons_succ]
          refine wpAnyH_take (i := 6) (v := undef) (ata (atS (atS (atS (atS (atS (atS at0))))))) (by kernel_rfl) (by kernel_rfl) (by kernel_rfl) (fun _ _ _ h => h) (Or.inr ⟨by rfl, rfl⟩) (by assumption) ?_
          try simp only [Act.put, List.setIfInBounds_toArray, List.set_cons_zero, List.set_cons_succ]
          refine wpAnyH_take (i := 7) (v := undef) (ata (atS (atS (atS (atS (atS (atS (atS at0)))))))) (by kernel_rfl) (by kernel_rfl) (by kernel_rfl) (fun _ _ _ h => h) (Or.inr ⟨by rfl, rfl⟩) (by assumption) ?_
          try simp only [Act.put, List.setIfInBounds_toArray, List.set_cons_zero, List.set_cons_succ]
          refine wpAnyH_take (i := 8) (v := undef) (ata (atS (atS (atS (atS (atS (atS (atS (atS at0))))))))) (by kernel_rfl) (by kernel_rfl) (by kernel_rfl) (fun _ _ _ h => h) (Or.inr ⟨by rfl, rfl⟩) (by assumption) ?_
          try simp only [Act.put, List.setIfInBounds_toArray, List.set_cons_zero, List.set_cons_succ]
          refine wpAnyH_take (i := 9) (v := undef) (ata (atS (atS (atS (atS (atS (atS (atS (atS (atS at0)))))))))) (by kernel_rfl) (by kernel_rfl) (by kernel_rfl) (fun _ _ _ h => h) (Or.inr ⟨by rfl, rfl⟩) (by assumption) ?_
          try simp only [Act.put, List.setIfInBounds_toArray, List.set_cons_zero, List.set_cons_succ]
          refine wpAnyH_take (i := 10) (v := undef) (ata (atS (atS (atS (atS (atS (atS (atS (atS (atS (atS at0))))))))))) (by kernel_rfl) (by kernel_rfl) (by kernel_rfl) (fun _ _ _ h => h) (Or.inr ⟨by rfl, rfl⟩) (by assumption) ?_
          try simp only [Act.put, List.setIfInBounds_toArray, List.set_cons_zero, List.set_cons_succ]
          refine wpAnyH_take (i := 11) (v := undef) (ata (atS (atS (atS (atS (atS (atS (atS (atS (atS (atS (atS at0)))))))))))) (by kernel_rfl) (by kernel_rfl) (by kernel_rfl) (fun _ _ _ h => h) (Or.inr ⟨by rfl, rfl⟩) (by assumption) ?_
          try simp only [Act.put, List.setIfInBounds_toArray, List.set_cons_zero, List.set_cons_succ]
          refine wpAnyH_take (i := 12) (v := undef) (ata (atS (atS (atS (atS (atS (atS (atS (atS (atS (atS (atS (atS at0))))))))))))) (by kernel_rfl) (by kernel_rfl) (by kernel_rfl) (fun _ _ _ h => h) (Or.inr ⟨by rfl, rfl⟩) (by assumption) ?_
          try simp only [Act.put, List.setIfInBounds_toArray, List.set_cons_zero, List.set_cons_succ]
          refine wpAnyH_take (i := 13) (v := ?_) (ata (atS (atS (atS (atS (atS (atS (atS (atS (atS (atS (atS (atS (atS at0)))))))))))))) (by kernel_rfl) (by kernel_rfl) (by kernel_rfl) (fun _ _ _ h => h) (Or.inl ⟨by rfl, ?_⟩) (by assumption) ?_
          rotate_left
          · (intro w hSw; (try dsimp only at hSw); go_simp; (first | done | with_reducible rfl))
          try simp only [Act.put, List.setIfInBounds_toArray, List.set_cons_zero, List.set_cons_succ]
          refine wpAnyH_done (by kernel_rfl) ?_ _
          have A := HS.out.A; have Xq := HS.out.Xa; have ht := HS.out.t; have HB := Lib.hid HS.out.hb
          clear HS
          go_wp2_with fail
          refine Calls.mono ((by have := Return_yes (Xq.w HP.out.l1 HP.out.l2) u ht HP.out.rok; rwa [HP.out.rp, hsu] at this)) ?_
          rintro e z4 ⟨va, rfl, hv, hb⟩
          clear a0 a1 a2 a3 a4 a5 a6 a7 a8 a9 xq0 xq1 xq2 xq3 xq4 xq5 xq6
          have hx4 : RowKit.Below w1.drew.heap.size w1.drew z4 := by
            refine Below.trans ?_ (hb.mono ?_)
            · (first | exact Below.refl _ _ | exact (Below.refl _ _).alloc (by simp) _ | exact ((Below.refl _ _).alloc (by simp) _).alloc (by simp) _ | exact (((Below.refl _ _).alloc (by simp) _).alloc (by simp) _).alloc (by simp) _)
            · first | exact Nat.le_refl _ | (simp; done) | (simp; omega)
          replace A := A.next hx4
          replace Xq := Xq.next hx4
          replace ht := ht.next hx4
          replace HB := Lib.hid (HB.out.trans (hx4.mono HB.out.size))
          have a0 := A.pb.k0; have a1 := A.pb.k1; have a2 := A.pb.k2; have a3 := A.pb.k3; have a4 := A.pb.k4; have a5 := A.pb.k5; have a6 := A.pb.k6; have a7 := A.pb.k7; have a8 := A.pb.k8; have a9 := A.pb.k9
          have xq0 := Xq.pb.k0; have xq1 := Xq.pb.k1; have xq2 := Xq.pb.k2; have xq3 := Xq.pb.k3; have xq4 := Xq.pb.k4; have xq5 := Xq.pb.k5; have xq6 := Xq.pb.k6
          clear hb hx4
          obtain ⟨vfb, vub, rfl, hfb, hub⟩ := hv
          obtain ⟨afb, cfb, rfl⟩ := hfb.len
          obtain ⟨aub, cub, rfl, _⟩ := hub.2
          have Xb : PX (z4.alloc (.cells #[.int .i64 p.size, .int .i64 p.grain, .int .i64 p.quota, .bool p.drain, .bool p.best, .slice afb p.free.length cfb, .slice aub p.uses.length cub] 25)) z4.heap.size p (.slice afb p.free.length cfb) (.slice aub p.uses.length cub) := PX.new hfb hub
          obtain ⟨y5, hy5⟩ : ∃ y, z4.alloc (.cells #[.int .i64 p.size, .int .i64 p.grain, .int .i64 p.quota, .bool p.drain, .bool p.best, .slice afb p.free.length cfb, .slice aub p.uses.length cub] 25) = y := ⟨_, rfl⟩
          have hx5 : RowKit.Below z4.heap.size z4 y5 := by rw [← hy5]; exact below_box _ _
          clear a0 a1 a2 a3 a4 a5 a6 a7 a8 a9 xq0 xq1 xq2 xq3 xq4 xq5 xq6
          replace A := A.next hx5
          replace Xq := Xq.next hx5
          replace ht := ht.next hx5
          replace HB := Lib.hid (HB.out.trans (hx5.mono HB.out.size))
          have a0 := A.pb.k0; have a1 := A.pb.k1; have a2 := A.pb.k2; have a3 := A.pb.k3; have a4 := A.pb.k4; have a5 := A.pb.k5; have a6 := A.pb.k6; have a7 := A.pb.k7; have a8 := A.pb.k8; have a9 := A.pb.k9
          have xq0 := Xq.pb.k0; have xq1 := Xq.pb.k1; have xq2 := Xq.pb.k2; have xq3 := Xq.pb.k3; have xq4 := Xq.pb.k4; have xq5 := Xq.pb.k5; have xq6 := Xq.pb.k6
          rw [hy5] at Xb
          clear hfb hub
          have xb0 := Xb.pb.k0; have xb1 := Xb.pb.k1; have xb2 := Xb.pb.k2; have xb3 := Xb.pb.k3; have xb4 := Xb.pb.k4; have xb5 := Xb.pb.k5; have xb6 := Xb.pb.k6
          go_wp2_with fail
          clear hy5
          refine Calls.mono ((by have := hcc (Xb.w hl1 hl2) ht; rwa [hsu] at this)) ?_
          rintro e z6 ⟨rfl, hb⟩
          clear a0 a1 a2 a3 a4 a5 a6 a7 a8 a9 xq0 xq1 xq2 xq3 xq4 xq5 xq6 xb0 xb1 xb2 xb3 xb4 xb5 xb6
          have hx6 : RowKit.Below y5.heap.size y5 z6 := by
            refine Below.trans ?_ (hb.mono ?_)
            · (first | exact Below.refl _ _ | exact (Below.refl _ _).alloc (by simp) _ | exact ((Below.refl _ _).alloc (by simp) _).alloc (by simp) _ | exact (((Below.refl _ _).alloc (by simp) _).alloc (by simp) _).alloc (by simp) _)
            · first | exact Nat.le_refl _ | (simp; done) | (simp; omega)
          replace A := A.next hx6
          replace Xq := Xq.next hx6
          replace ht := ht.next hx6
          replace Xb := Xb.next hx6
          replace HB := Lib.hid (HB.out.trans (hx6.mono HB.out.size))
          have a0 := A.pb.k0; have a1 := A.pb.k1; have a2 := A.pb.k2; have a3 := A.pb.k3; have a4 := A.pb.k4; have a5 := A.pb.k5; have a6 := A.pb.k6; have a7 := A.pb.k7; have a8 := A.pb.k8; have a9 := A.pb.k9
          have xq0 := Xq.pb.k0; have xq1 := Xq.pb.k1; have xq2 := Xq.pb.k2; have xq3 := Xq.pb.k3; have xq4 := Xq.pb.k4; have xq5 := Xq.pb.k5; have xq6 := Xq.pb.k6
          have xb0 := Xb.pb.k0; have xb1 := Xb.pb.k1; have xb2 := Xb.pb.k2; have xb3 := Xb.pb.k3; have xb4 := Xb.pb.k4; have xb5 := Xb.pb.k5; have xb6 := Xb.pb.k6
          clear hb hx6
          have lta := A.pb.lt
          have ltxq := Xq.pb.lt
          have ltxb := Xb.pb.lt
          go_wp2_with fail
          clear lta
          clear ltxq
          clear ltxb
          obtain ⟨y7, hy7⟩ : ∃ y, z6.alloc (.cells #[.int .i64 0, .int .i64 0, .int .i64 0, .bool false, .bool false, .slice none 0 0, .slice none 0 0] 25) = y := ⟨_, rfl⟩
          have hx7 : RowKit.Below z6.heap.size z6 y7 := by rw [← hy7]; exact below_box _ _
          clear a0 a1 a2 a3 a4 a5 a6 a7 a8 a9 xq0 xq1 xq2 xq3 xq4 xq5 xq6 xb0 xb1 xb2 xb3 xb4 xb5 xb6
          replace A := A.next hx7
          replace Xq := Xq.next hx7
          replace ht := ht.next hx7
          replace Xb := Xb.next hx7
          replace HB := Lib.hid (HB.out.trans (hx7.mono HB.out.size))
          have a0 := A.pb.k0; have a1 := A.pb.k1; have a2 := A.pb.k2; have a3 := A.pb.k3; have a4 := A.pb.k4; have a5 := A.pb.k5; have a6 := A.pb.k6; have a7 := A.pb.k7; have a8 := A.pb.k8; have a9 := A.pb.k9
          have xq0 := Xq.pb.k0; have xq1 := Xq.pb.k1; have xq2 := Xq.pb.k2; have xq3 := Xq.pb.k3; have xq4 := Xq.pb.k4; have xq5 := Xq.pb.k5; have xq6 := Xq.pb.k6
          have xb0 := Xb.pb.k0; have xb1 := Xb.pb.k1; have xb2 := Xb.pb.k2; have xb3 := Xb.pb.k3; have xb4 := Xb.pb.k4; have xb5 := Xb.pb.k5; have xb6 := Xb.pb.k6
          rw [hy7]
          clear hy7
          refine Calls.mono (PSame_yes Xb.v A.v (by omega) (by omega)) ?_
          rintro e z8 ⟨rfl, hb⟩
          clear a0 a1 a2 a3 a4 a5 a6 a7 a8 a9 xq0 xq1 xq2 xq3 xq4 xq5 xq6 xb0 xb1 xb2 xb3 xb4 xb5 xb6
          have hx8 : RowKit.Below y7.heap.size y7 z8 := by
            refine Below.trans ?_ (hb.mono ?_)
            · (first | exact Below.refl _ _ | exact (Below.refl _ _).alloc (by simp) _ | exact ((Below.refl _ _).alloc (by simp) _).alloc (by simp) _ | exact (((Below.refl _ _).alloc (by simp) _).alloc (by simp) _).alloc (by simp) _)
            · first | exact Nat.le_refl _ | (simp; done) | (simp; omega)
          replace A := A.next hx8
          replace Xq := Xq.next hx8
          replace ht := ht.next hx8
          replace Xb := Xb.next hx8
          replace HB := Lib.hid (HB.out.trans (hx8.mono HB.out.size))
          have a0 := A.pb.k0; have a1 := A.pb.k1; have a2 := A.pb.k2; have a3 := A.pb.k3; have a4 := A.pb.k4; have a5 := A.pb.k5; have a6 := A.pb.k6; have a7 := A.pb.k7; have a8 := A.pb.k8; have a9 := A.pb.k9
          have xq0 := Xq.pb.k0; have xq1 := Xq.pb.k1; have xq2 := Xq.pb.k2; have xq3 := Xq.pb.k3; have xq4 := Xq.pb.k4; have xq5 := Xq.pb.k5; have xq6 := Xq.pb.k6
          have xb0 := Xb.pb.k0; have xb1 := Xb.pb.k1; have xb2 := Xb.pb.k2; have xb3 := Xb.pb.k3; have xb4 := Xb.pb.k4; have xb5 := Xb.pb.k5; have xb6 := Xb.pb.k6
          clear hb hx8
          go_wp2_with fail
          refine Calls.mono (head_any _) ?_
          rintro e z9 ⟨rfl, hb⟩
          clear a0 a1 a2 a3 a4 a5 a6 a7 a8 a9 xq0 xq1 xq2 xq3 xq4 xq5 xq6 xb0 xb1 xb2 xb3 xb4 xb5 xb6
          have hx9 : RowKit.Below z8.heap.size z8 z9 := by
            refine Below.trans ?_ (hb.mono ?_)
            · (first | exact Below.refl _ _ | exact (Below.refl _ _).alloc (by simp) _ | exact ((Below.refl _ _).alloc (by simp) _).alloc (by simp) _ | exact (((Below.refl _ _).alloc (by simp) _).alloc (by simp) _).alloc (by simp) _)
            · first | exact Nat.le_refl _ | (simp; done) | (simp; omega)
          replace A := A.next hx9
          replace Xq := Xq.next hx9
          replace ht := ht.next hx9
          replace Xb := Xb.next hx9
          replace HB := Lib.hid (HB.out.trans (hx9.mono HB.out.size))
          have a0 := A.pb.k0; have a1 := A.pb.k1; have a2 := A.pb.k2; have a3 := A.pb.k3; have a4 := A.pb.k4; have a5 := A.pb.k5; have a6 := A.pb.k6; have a7 := A.pb.k7; have a8 := A.pb.k8; have a9 := A.pb.k9
          have xq0 := Xq.pb.k0; have xq1 := Xq.pb.k1; have xq2 := Xq.pb.k2; have xq3 := Xq.pb.k3; have xq4 := Xq.pb.k4; have xq5 := Xq.pb.k5; have xq6 := Xq.pb.k6
          have xb0 := Xb.pb.k0; have xb1 := Xb.pb.k1; have xb2 := Xb.pb.k2; have xb3 := Xb.pb.k3; have xb4 := Xb.pb.k4; have xb5 := Xb.pb.k5; have xb6 := Xb.pb.k6
          clear hb hx9
          go_wp2_with fail
          go_ret
          exact ⟨rfl, HB.out⟩
        · have hne : so ≠ su := fun e => hou (str_inj (by rw [hso, hsu, e]))
          have hl0 := HP.out.lo o hou
          have hne2 : ¬ so.toList = su.toList := fun e => hou (by rw [← hso, ← hsu, str_toList, str_toList] at e; exact e)
          have q1 : (so.toList == su.toList) = false := beq_eq_false_iff_ne.2 hne2
          have q2 : (so.toList != su.toList) = true := bne_iff_ne.2 hne2
          obtain ⟨ko, hko⟩ : ∃ ko, po.lk p.uses o = ko := ⟨_, rfl⟩
          have HKO := Lib.hid (And.intro (hl0.trans hko) hko)
          clear hou hne hne2 hl0 hko
          go_region_held3 (fun W => W.cell? ⟨w.heap.size, 0, none⟩ = some (.int .i64 p.size) ∧ W.cell? ⟨w.heap.size, 1, none⟩ = some (.int .i64 p.grain) ∧ W.cell? ⟨w.heap.size, 2, none⟩ = some (.int .i64 p.quota) ∧ W.cell? ⟨w.heap.size, 3, none⟩ = some (.bool p.drain) ∧ W.cell? ⟨w.heap.size, 4, none⟩ = some (.bool p.best) ∧ W.cell? ⟨w.heap.size, 5, none⟩ = some (.slice pf p.free.length cf) ∧ W.cell? ⟨w.heap.size, 6, none⟩ = some (.slice pu p.uses.length cu) ∧ W.cell? ⟨w.heap.size, 7, none⟩ = some (.string su) ∧ W.cell? ⟨w.heap.size, 8, none⟩ = some (.int .i64 n) ∧ W.cell? ⟨w.heap.size, 9, none⟩ = some (.slice pl l.length cl) ∧ W.cell? ⟨z2.heap.size, 0, none⟩ = some (.int .i64 Q.size) ∧ W.cell? ⟨z2.heap.size, 1, none⟩ = some (.int .i64 Q.grain) ∧ W.cell? ⟨z2.heap.size, 2, none⟩ = some (.int .i64 Q.quota) ∧ W.cell? ⟨z2.heap.size, 3, none⟩ = some (.bool Q.drain) ∧ W.cell? ⟨z2.heap.size, 4, none⟩ = some (.bool Q.best) ∧ W.cell? ⟨z2.heap.size, 5, none⟩ = some (.slice afq Q.free.length cfq) ∧ W.cell? ⟨z2.heap.size, 6, none⟩ = some (.slice auq Q.uses.length cuq)) (go_keep) (first | (go_at_call 14; first | ((with_reducible refine ((show Calls Try.prog 14 #[aggP Q (.slice afq Q.free.length cfq) (.slice auq Q.uses.length cuq), .string so] _ _ from by have := Used_yes o (HS.out.Xa.w HP.out.l1 HP.out.l2) HP.out.vq; rwa [hso] at this)).mono ?_); rintro e w1 ⟨rfl, hb1⟩; rw [HKO.out.1]; clear a0 a1 a2 a3 a4 a5 a6 a7 a8 a9 xq0 xq1 xq2 xq3 xq4 xq5 xq6; have s1 := HS.out.next hb1; have HS := Lib.hid s1; have a0 := s1.A.pb.k0; have a1 := s1.A.pb.k1; have a2 := s1.A.pb.k2; have a3 := s1.A.pb.k3; have a4 := s1.A.pb.k4; have a5 := s1.A.pb.k5; have a6 := s1.A.pb.k6; have a7 := s1.A.pb.k7; have a8 := s1.A.pb.k8; have a9 := s1.A.pb.k9; have xq0 := s1.Xa.pb.k0; have xq1 := s1.Xa.pb.k1; have xq2 := s1.Xa.pb.k2; have xq3 := s1.Xa.pb.k3; have xq4 := s1.Xa.pb.k4; have xq5 := s1.Xa.pb.k5; have xq6 := s1.Xa.pb.k6; clear s1 hb1) | ((with_reducible refine ((show Calls Try.prog 14 #[aggP p (.slice pf p.free.length cf) (.slice pu p.uses.length cu), .string so] _ _ from by have := Used_yes o (HS.out.A.w hl1 hl2) HP.out.vp; rwa [hso] at this)).mono ?_); rintro e w1 ⟨rfl, hb1⟩; rw [HKO.out.2]; clear a0 a1 a2 a3 a4 a5 a6 a7 a8 a9 xq0 xq1 xq2 xq3 xq4 xq5 xq6; have s1 := HS.out.next hb1; have HS := Lib.hid s1; have a0 := s1.A.pb.k0; have a1 := s1.A.pb.k1; have a2 := s1.A.pb.k2; have a3 := s1.A.pb.k3; have a4 := s1.A.pb.k4; have a5 := s1.A.pb.k5; have a6 := s1.A.pb.k6; have a7 := s1.A.pb.k7; have a8 := s1.A.pb.k8; have a9 := s1.A.pb.k9; have xq0 := s1.Xa.pb.k0; have xq1 := s1.Xa.pb.k1; have xq2 := s1.Xa.pb.k2; have xq3 := s1.Xa.pb.k3; have xq4 := s1.Xa.pb.k4; have xq5 := s1.Xa.pb.k5; have xq6 := s1.Xa.pb.k6; clear s1 hb1)))
          have A := HS.out.A; have Xq := HS.out.Xa; have ht := HS.out.t; have HB := Lib.hid HS.out.hb
          clear HS
          go_wp2_with fail
          refine Calls.mono ((by have := Return_yes (Xq.w HP.out.l1 HP.out.l2) u ht HP.out.rok; rwa [HP.out.rp, hsu] at this)) ?_
          rintro e z4 ⟨va, rfl, hv, hb⟩
          clear a0 a1 a2 a3 a4 a5 a6 a7 a8 a9 xq0 xq1 xq2 xq3 xq4 xq5 xq6
          have hx4 : RowKit.Below w1.heap.size w1 z4 := by
            refine Below.trans ?_ (hb.mono ?_)
            · (first | exact Below.refl _ _ | exact (Below.refl _ _).alloc (by simp) _ | exact ((Below.refl _ _).alloc (by simp) _).alloc (by simp) _ | exact (((Below.refl _ _).alloc (by simp) _).alloc (by simp) _).alloc (by simp) _)
            · first | exact Nat.le_refl _ | (simp; done) | (simp; omega)
          replace A := A.next hx4
          replace Xq := Xq.next hx4
          replace ht := ht.next hx4
          replace HB := Lib.hid (HB.out.trans (hx4.mono HB.out.size))
          have a0 := A.pb.k0; have a1 := A.pb.k1; have a2 := A.pb.k2; have a3 := A.pb.k3; have a4 := A.pb.k4; have a5 := A.pb.k5; have a6 := A.pb.k6; have a7 := A.pb.k7; have a8 := A.pb.k8; have a9 := A.pb.k9
          have xq0 := Xq.pb.k0; have xq1 := Xq.pb.k1; have xq2 := Xq.pb.k2; have xq3 := Xq.pb.k3; have xq4 := Xq.pb.k4; have xq5 := Xq.pb.k5; have xq6 := Xq.pb.k6
          clear hb hx4
          obtain ⟨vfb, vub, rfl, hfb, hub⟩ := hv
          obtain ⟨afb, cfb, rfl⟩ := hfb.len
          obtain ⟨aub, cub, rfl, _⟩ := hub.2
          have Xb : PX (z4.alloc (.cells #[.int .i64 p.size, .int .i64 p.grain, .int .i64 p.quota, .bool p.drain, .bool p.best, .slice afb p.free.length cfb, .slice aub p.uses.length cub] 25)) z4.heap.size p (.slice afb p.free.length cfb) (.slice aub p.uses.length cub) := PX.new hfb hub
          obtain ⟨y5, hy5⟩ : ∃ y, z4.alloc (.cells #[.int .i64 p.size, .int .i64 p.grain, .int .i64 p.quota, .bool p.drain, .bool p.best, .slice afb p.free.length cfb, .slice aub p.uses.length cub] 25) = y := ⟨_, rfl⟩
          have hx5 : RowKit.Below z4.heap.size z4 y5 := by rw [← hy5]; exact below_box _ _
          clear a0 a1 a2 a3 a4 a5 a6 a7 a8 a9 xq0 xq1 xq2 xq3 xq4 xq5 xq6
          replace A := A.next hx5
          replace Xq := Xq.next hx5
          replace ht := ht.next hx5
          replace HB := Lib.hid (HB.out.trans (hx5.mono HB.out.size))
          have a0 := A.pb.k0; have a1 := A.pb.k1; have a2 := A.pb.k2; have a3 := A.pb.k3; have a4 := A.pb.k4; have a5 := A.pb.k5; have a6 := A.pb.k6; have a7 := A.pb.k7; have a8 := A.pb.k8; have a9 := A.pb.k9
          have xq0 := Xq.pb.k0; have xq1 := Xq.pb.k1; have xq2 := Xq.pb.k2; have xq3 := Xq.pb.k3; have xq4 := Xq.pb.k4; have xq5 := Xq.pb.k5; have xq6 := Xq.pb.k6
          rw [hy5] at Xb
          clear hfb hub
          have xb0 := Xb.pb.k0; have xb1 := Xb.pb.k1; have xb2 := Xb.pb.k2; have xb3 := Xb.pb.k3; have xb4 := Xb.pb.k4; have xb5 := Xb.pb.k5; have xb6 := Xb.pb.k6
          go_wp2_with fail
          clear hy5
          refine Calls.mono ((by have := hcc (Xb.w hl1 hl2) ht; rwa [hsu] at this)) ?_
          rintro e z6 ⟨rfl, hb⟩
          clear a0 a1 a2 a3 a4 a5 a6 a7 a8 a9 xq0 xq1 xq2 xq3 xq4 xq5 xq6 xb0 xb1 xb2 xb3 xb4 xb5 xb6
          have hx6 : RowKit.Below y5.heap.size y5 z6 := by
            refine Below.trans ?_ (hb.mono ?_)
            · (first | exact Below.refl _ _ | exact (Below.refl _ _).alloc (by simp) _ | exact ((Below.refl _ _).alloc (by simp) _).alloc (by simp) _ | exact (((Below.refl _ _).alloc (by simp) _).alloc (by simp) _).alloc (by simp) _)
            · first | exact Nat.le_refl _ | (simp; done) | (simp; omega)
          replace A := A.next hx6
          replace Xq := Xq.next hx6
          replace ht := ht.next hx6
          replace Xb := Xb.next hx6
          replace HB := Lib.hid (HB.out.trans (hx6.mono HB.out.size))
          have a0 := A.pb.k0; have a1 := A.pb.k1; have a2 := A.pb.k2; have a3 := A.pb.k3; have a4 := A.pb.k4; have a5 := A.pb.k5; have a6 := A.pb.k6; have a7 := A.pb.k7; have a8 := A.pb.k8; have a9 := A.pb.k9
          have xq0 := Xq.pb.k0; have xq1 := Xq.pb.k1; have xq2 := Xq.pb.k2; have xq3 := Xq.pb.k3; have xq4 := Xq.pb.k4; have xq5 := Xq.pb.k5; have xq6 := Xq.pb.k6
          have xb0 := Xb.pb.k0; have xb1 := Xb.pb.k1; have xb2 := Xb.pb.k2; have xb3 := Xb.pb.k3; have xb4 := Xb.pb.k4; have xb5 := Xb.pb.k5; have xb6 := Xb.pb.k6
          clear hb hx6
          have lta := A.pb.lt
          have ltxq := Xq.pb.lt
          have ltxb := Xb.pb.lt
          go_wp2_with fail
          clear lta
          clear ltxq
          clear ltxb
          obtain ⟨y7, hy7⟩ : ∃ y, z6.alloc (.cells #[.int .i64 0, .int .i64 0, .int .i64 0, .bool false, .bool false, .slice none 0 0, .slice none 0 0] 25) = y := ⟨_, rfl⟩
          have hx7 : RowKit.Below z6.heap.size z6 y7 := by rw [← hy7]; exact below_box _ _
          clear a0 a1 a2 a3 a4 a5 a6 a7 a8 a9 xq0 xq1 xq2 xq3 xq4 xq5 xq6 xb0 xb1 xb2 xb3 xb4 xb5 xb6
          replace A := A.next hx7
          replace Xq := Xq.next hx7
          replace ht := ht.next hx7
          replace Xb := Xb.next hx7
          replace HB := Lib.hid (HB.out.trans (hx7.mono HB.out.size))
          have a0 := A.pb.k0; have a1 := A.pb.k1; have a2 := A.pb.k2; have a3 := A.pb.k3; have a4 := A.pb.k4; have a5 := A.pb.k5; have a6 := A.pb.k6; have a7 := A.pb.k7; have a8 := A.pb.k8; have a9 := A.pb.k9
          have xq0 := Xq.pb.k0; have xq1 := Xq.pb.k1; have xq2 := Xq.pb.k2; have xq3 := Xq.pb.k3; have xq4 := Xq.pb.k4; have xq5 := Xq.pb.k5; have xq6 := Xq.pb.k6
          have xb0 := Xb.pb.k0; have xb1 := Xb.pb.k1; have xb2 := Xb.pb.k2; have xb3 := Xb.pb.k3; have xb4 := Xb.pb.k4; have xb5 := Xb.pb.k5; have xb6 := Xb.pb.k6
          rw [hy7]
          clear hy7
          refine Calls.mono (PSame_yes Xb.v A.v (by omega) (by omega)) ?_
          rintro e z8 ⟨rfl, hb⟩
          clear a0 a1 a2 a3 a4 a5 a6 a7 a8 a9 xq0 xq1 xq2 xq3 xq4 xq5 xq6 xb0 xb1 xb2 xb3 xb4 xb5 xb6
          have hx8 : RowKit.Below y7.heap.size y7 z8 := by
            refine Below.trans ?_ (hb.mono ?_)
            · (first | exact Below.refl _ _ | exact (Below.refl _ _).alloc (by simp) _ | exact ((Below.refl _ _).alloc (by simp) _).alloc (by simp) _ | exact (((Below.refl _ _).alloc (by simp) _).alloc (by simp) _).alloc (by simp) _)
            · first | exact Nat.le_refl _ | (simp; done) | (simp; omega)
          replace A := A.next hx8
          replace Xq := Xq.next hx8
          replace ht := ht.next hx8
          replace Xb := Xb.next hx8
          replace HB := Lib.hid (HB.out.trans (hx8.mono HB.out.size))
          have a0 := A.pb.k0; have a1 := A.pb.k1; have a2 := A.pb.k2; have a3 := A.pb.k3; have a4 := A.pb.k4; have a5 := A.pb.k5; have a6 := A.pb.k6; have a7 := A.pb.k7; have a8 := A.pb.k8; have a9 := A.pb.k9
          have xq0 := Xq.pb.k0; have xq1 := Xq.pb.k1; have xq2 := Xq.pb.k2; have xq3 := Xq.pb.k3; have xq4 := Xq.pb.k4; have xq5 := Xq.pb.k5; have xq6 := Xq.pb.k6
          have xb0 := Xb.pb.k0; have xb1 := Xb.pb.k1; have xb2 := Xb.pb.k2; have xb3 := Xb.pb.k3; have xb4 := Xb.pb.k4; have xb5 := Xb.pb.k5; have xb6 := Xb.pb.k6
          clear hb hx8
          go_wp2_with fail
          refine Calls.mono (head_any _) ?_
          rintro e z9 ⟨rfl, hb⟩
          clear a0 a1 a2 a3 a4 a5 a6 a7 a8 a9 xq0 xq1 xq2 xq3 xq4 xq5 xq6 xb0 xb1 xb2 xb3 xb4 xb5 xb6
          have hx9 : RowKit.Below z8.heap.size z8 z9 := by
            refine Below.trans ?_ (hb.mono ?_)
            · (first | exact Below.refl _ _ | exact (Below.refl _ _).alloc (by simp) _ | exact ((Below.refl _ _).alloc (by simp) _).alloc (by simp) _ | exact (((Below.refl _ _).alloc (by simp) _).alloc (by simp) _).alloc (by simp) _)
            · first | exact Nat.le_refl _ | (simp; done) | (simp; omega)
          replace A := A.next hx9
          replace Xq := Xq.next hx9
          replace ht := ht.next hx9
          replace Xb := Xb.next hx9
          replace HB := Lib.hid (HB.out.trans (hx9.mono HB.out.size))
          have a0 := A.pb.k0; have a1 := A.pb.k1; have a2 := A.pb.k2; have a3 := A.pb.k3; have a4 := A.pb.k4; have a5 := A.pb.k5; have a6 := A.pb.k6; have a7 := A.pb.k7; have a8 := A.pb.k8; have a9 := A.pb.k9
          have xq0 := Xq.pb.k0; have xq1 := Xq.pb.k1; have xq2 := Xq.pb.k2; have xq3 := Xq.pb.k3; have xq4 := Xq.pb.k4; have xq5 := Xq.pb.k5; have xq6 := Xq.pb.k6
          have xb0 := Xb.pb.k0; have xb1 := Xb.pb.k1; have xb2 := Xb.pb.k2; have xb3 := Xb.pb.k3; have xb4 := Xb.pb.k4; have xb5 := Xb.pb.k5; have xb6 := Xb.pb.k6
          clear hb hx9
          go_wp2_with fail
          go_ret
          exact ⟨rfl, HB.out⟩
      · skip
        have hcb : (po.gcode p u n != 0) = true := bne_iff_ne.2 hgc
        refine Calls.mono ((by have := Grant_no (A.w hl1 hl2) u n hgc; rwa [hsu] at this)) ?_
        rintro e z2 ⟨rfl, hb⟩
        clear a0 a1 a2 a3 a4 a5 a6 a7 a8 a9
        have hx2 : RowKit.Below z1.heap.size z1 z2 := by
          refine Below.trans ?_ (hb.mono ?_)
          · (first | exact Below.refl _ _ | exact (Below.refl _ _).alloc (by simp) _ | exact ((Below.refl _ _).alloc (by simp) _).alloc (by simp) _ | exact (((Below.refl _ _).alloc (by simp) _).alloc (by simp) _).alloc (by simp) _)
          · first | exact Nat.le_refl _ | (simp; done) | (simp; omega)
        replace A := A.next hx2
        replace HB := Lib.hid (HB.out.trans (hx2.mono HB.out.size))
        have a0 := A.pb.k0; have a1 := A.pb.k1; have a2 := A.pb.k2; have a3 := A.pb.k3; have a4 := A.pb.k4; have a5 := A.pb.k5; have a6 := A.pb.k6; have a7 := A.pb.k7; have a8 := A.pb.k8; have a9 := A.pb.k9
        clear hb hx2
        have lta := A.pb.lt
        go_wp2_with fail
        clear lta
        obtain ⟨y3, hy3⟩ : ∃ y, z2.alloc (.cells #[.int .i64 0, .int .i64 0, .int .i64 0, .bool false, .bool false, .slice none 0 0, .slice none 0 0] 25) = y := ⟨_, rfl⟩
        have hx3 : RowKit.Below z2.heap.size z2 y3 := by rw [← hy3]; exact below_box _ _
        clear a0 a1 a2 a3 a4 a5 a6 a7 a8 a9
        replace A := A.next hx3
        replace HB := Lib.hid (HB.out.trans (hx3.mono HB.out.size))
        have a0 := A.pb.k0; have a1 := A.pb.k1; have a2 := A.pb.k2; have a3 := A.pb.k3; have a4 := A.pb.k4; have a5 := A.pb.k5; have a6 := A.pb.k6; have a7 := A.pb.k7; have a8 := A.pb.k8; have a9 := A.pb.k9
        rw [hy3]
        clear hy3
        refine Calls.mono (PSame_yes (p := zeroPl) (zero_v _) (zero_v _) (by simp) (by simp)) ?_
        rintro e z4 ⟨rfl, hb⟩
        clear a0 a1 a2 a3 a4 a5 a6 a7 a8 a9
        have hx4 : RowKit.Below y3.heap.size y3 z4 := by
          refine Below.trans ?_ (hb.mono ?_)
          · (first | exact Below.refl _ _ | exact (Below.refl _ _).alloc (by simp) _ | exact ((Below.refl _ _).alloc (by simp) _).alloc (by simp) _ | exact (((Below.refl _ _).alloc (by simp) _).alloc (by simp) _).alloc (by simp) _)
          · first | exact Nat.le_refl _ | (simp; done) | (simp; omega)
        replace A := A.next hx4
        replace HB := Lib.hid (HB.out.trans (hx4.mono HB.out.size))
        have a0 := A.pb.k0; have a1 := A.pb.k1; have a2 := A.pb.k2; have a3 := A.pb.k3; have a4 := A.pb.k4; have a5 := A.pb.k5; have a6 := A.pb.k6; have a7 := A.pb.k7; have a8 := A.pb.k8; have a9 := A.pb.k9
        clear hb hx4
        go_wp2_with fail
        refine Calls.mono (head_any _) ?_
        rintro e z5 ⟨rfl, hb⟩
        clear a0 a1 a2 a3 a4 a5 a6 a7 a8 a9
        have hx5 : RowKit.Below z4.heap.size z4 z5 := by
          refine Below.trans ?_ (hb.mono ?_)
          · (first | exact Below.refl _ _ | exact (Below.refl _ _).alloc (by simp) _ | exact ((Below.refl _ _).alloc (by simp) _).alloc (by simp) _ | exact (((Below.refl _ _).alloc (by simp) _).alloc (by simp) _).alloc (by simp) _)
          · first | exact Nat.le_refl _ | (simp; done) | (simp; omega)
        replace A := A.next hx5
        replace HB := Lib.hid (HB.out.trans (hx5.mono HB.out.size))
        have a0 := A.pb.k0; have a1 := A.pb.k1; have a2 := A.pb.k2; have a3 := A.pb.k3; have a4 := A.pb.k4; have a5 := A.pb.k5; have a6 := A.pb.k6; have a7 := A.pb.k7; have a8 := A.pb.k8; have a9 := A.pb.k9
        clear hb hx5
        go_wp2_with fail
        go_ret
        exact ⟨rfl, HB.out⟩
end Go.Proofs.Ytdjpnlkhdilakaa.gn
