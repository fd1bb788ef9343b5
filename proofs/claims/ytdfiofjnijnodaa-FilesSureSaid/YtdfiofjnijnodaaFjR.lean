/- FilesSure's walk. -/
import Derived.Test.YtdfiofjnijnodaaFjQ
set_option linter.unusedVariables false
namespace Go.Proofs.Ytdfiofjnijnodaa.gn
open Go.RowKit
open Go.Proofs.Ytdfiofjnijnodaa.fi

/-- What came in, and the two boxes. -/
structure Cx (w W : World) (v : Value) (L : List Ac) (f : Fault) (x : Ac) : Prop where
  box : BoxF W w.heap.size f
  act : ActB W (w.heap.size + 1) x
  row : Acs W v L
  bel : Below w.heap.size w W
theorem Cx.next {w W W' : World} {v : Value} {L : List Ac} {f : Fault} {x : Ac} (h : Cx w W v L f x) (hb : Below W.heap.size W W') : Cx w W' v L f x :=
  ⟨(hb.block _ (lt_of_block h.box)).trans h.box, (hb.block _ (lt_of_block h.act)).trans h.act, h.row.kept hb, h.bel.trans (hb.mono h.bel.size)⟩
theorem cx_start (w : World) (v : Value) (L : List Ac) (f : Fault) (x : Ac) (h : Acs w v L) :
    Cx w ((w.alloc (.cells #[.int .i64 f.keep, .int .u64 (f.lose : Int), .int .i64 f.cut] 25)).alloc (.cells (acv x) 27)) v L f x := by
  have hb0 : Below w.heap.size w (w.alloc (.cells #[.int .i64 f.keep, .int .u64 (f.lose : Int), .int .i64 f.cut] 25)) := (Below.refl _ w).alloc (Nat.le_refl _) _
  have hbx : BoxF (w.alloc (.cells #[.int .i64 f.keep, .int .u64 (f.lose : Int), .int .i64 f.cut] 25)) w.heap.size f := heap_alloc_new w _
  have hb1 : Below (w.alloc (.cells #[.int .i64 f.keep, .int .u64 (f.lose : Int), .int .i64 f.cut] 25)).heap.size (w.alloc (.cells #[.int .i64 f.keep, .int .u64 (f.lose : Int), .int .i64 f.cut] 25)) ((w.alloc (.cells #[.int .i64 f.keep, .int .u64 (f.lose : Int), .int .i64 f.cut] 25)).alloc (.cells (acv x) 27)) := (Below.refl _ _).alloc (Nat.le_refl _) _
  refine ⟨(hb1.block _ (lt_of_block hbx)).trans hbx, ?_, (h.kept hb0).kept hb1, hb0.trans (hb1.mono hb0.size)⟩
  have h2 := heap_alloc_new (w.alloc (.cells #[.int .i64 f.keep, .int .u64 (f.lose : Int), .int .i64 f.cut] 25)) (.cells (acv x) 27)
  have hz : (w.alloc (.cells #[.int .i64 f.keep, .int .u64 (f.lose : Int), .int .i64 f.cut] 25)).heap.size = w.heap.size + 1 := by simp
  rw [hz] at h2
  exact h2
/-- The row of the one act. -/
theorem acs_one (w : World) (x : Ac) (hx : AcW x) : Acs (w.alloc (.cells (acv x) 27)) (.slice (some ⟨w.heap.size, 0, none⟩) 1 1) [x] := by
  refine ⟨_, 1, rfl, Nat.le_refl _, by unfold maxLen; decide, .inr ⟨_, 0, rfl, fun j hj => ?_⟩, fun y hy => ?_⟩
  · have : j = 0 := by simpa using hj
    subst this
    exact ActB.cells (heap_alloc_new w _)
  · rw [List.mem_singleton.1 hy]
    exact hx

theorem acOk_of {x : Ac} (h : AcW x) (hb : bigA x = false) : AcOk x := by
  unfold bigA at hb
  simp only [Bool.or_eq_false_iff, decide_eq_false_iff_not] at hb
  exact ⟨h.t, by omega, by omega, h.f⟩
/-- Behind k acts. -/
def LoopA (W : World) (q d k : Nat) (wr : World) : Prop := ∃ s, s.wt ≤ 301 * k ∧ Q1 W q k d s wr

set_option maxHeartbeats 32000000 in
set_option maxRecDepth 100000 in
theorem sure_law (v : Value) (L : List Ac) (f : Fault) (hfl : f.lose < 18446744073709551616) (x : Ac) (hx : AcW x) (w : World) (hv : Acs w v L) :
    Calls Try.prog 3 #[v, .agg #[.int .i64 f.keep, .int .u64 (f.lose : Int), .int .i64 f.cut], .agg (acv x)] w fun e w' => e = .returned (.bool true) ∧ Below w.heap.size w w' := by
  have cx0 := cx_start w v L f x hv
  have G0 := Lib.hid (great_any _ v L cx0.row)
  have CX0 := Lib.hid cx0
  obtain ⟨A, c, rfl, _⟩ := hv
  cases hg : grt L with
  | true =>
    rw [hg] at G0
    clear cx0 hg
    unfold acv at *
    go_enter Try.func3, Try.ntmps3
    go_wp2_with (first
      | (go_at_call 5; ((with_reducible refine G0.out.mono ?_); rintro e w1 ⟨rfl, hb⟩; have CX1 := Lib.hid (CX0.out.next hb); clear hb))
      | (go_at_call 6; ((with_reducible refine (head_any _).mono ?_); rintro e w2 ⟨rfl, hb⟩; have CX2 := Lib.hid (CX1.out.next hb); clear hb)))
    go_ret
    exact ⟨rfl, CX2.out.bel⟩
  | false =>
    rw [hg] at G0
    have GX := Lib.hid fun W => great_any _ _ _ (acs_one W x hx)
    cases hgx : grt [x] with
    | true =>
      simp only [hgx] at GX
      clear cx0 hg hgx
      unfold acv at *
      go_enter Try.func3, Try.ntmps3
      go_wp2_with (first
        | (go_at_call 5; ((with_reducible refine G0.out.mono ?_); rintro e w1 ⟨rfl, hb⟩; have cx1 := CX0.out.next hb; obtain ⟨a0, a1, a2, a3, a4, a5, a6⟩ := cx1.act.cells; have CX1 := Lib.hid cx1; clear hb cx1))
        | (go_at_call 5; ((with_reducible refine (GX.out _).mono ?_); rintro e w2 ⟨rfl, hb⟩; have CX2 := Lib.hid ((CX1.out.next ((Below.refl _ _).alloc (Nat.le_refl _) _)).next hb); clear hb))
        | (go_at_call 6; ((with_reducible refine (head_any _).mono ?_); rintro e w3 ⟨rfl, hb⟩; have CX3 := Lib.hid (CX2.out.next hb); clear hb)))
      go_ret
      exact ⟨rfl, CX3.out.bel⟩
    | false =>
      simp only [hgx] at GX
      have hL : L.length ≤ 60 ∧ ∀ y ∈ L, bigA y = false := by
        unfold grt at hg
        simp only [Bool.or_eq_false_iff, decide_eq_false_iff_not, List.any_eq_false] at hg
        exact ⟨by omega, fun y hy => by simpa using hg.2 y hy⟩
      have hbx : bigA x = false := by
        unfold grt at hgx
        simpa using hgx
      have hxo := Lib.hid (acOk_of hx hbx)
      have HL := Lib.hid hL.2
      have hL60 := hL.1
      clear cx0 hg hgx hL hbx
      unfold acv at *
      go_enter Try.func3, Try.ntmps3
      go_wp2_with (first
        | (go_at_call 5; ((with_reducible refine G0.out.mono ?_); rintro e w1 ⟨rfl, hb⟩; have cx1 := CX0.out.next hb; obtain ⟨a0, a1, a2, a3, a4, a5, a6⟩ := cx1.act.cells; have CX1 := Lib.hid cx1; clear hb cx1))
        | (go_at_call 5; ((with_reducible refine (GX.out _).mono ?_); rintro e W ⟨rfl, hb⟩; have CX := Lib.hid ((CX1.out.next ((Below.refl _ _).alloc (Nat.le_refl _) _)).next hb); have N0 := Lib.hid (new_du W 5000); clear hb a0 a1 a2 a3 a4 a5 a6))
        | (go_at_call 7; ((with_reducible refine N0.out.mono ?_); rintro e w3 ⟨d, rfl, hS, hb⟩; have N1 := Lib.hid (dnew_du hS hb 5000 (by decide) (by decide)); clear hS hb))
        | (go_at_call 8; ((with_reducible refine N1.out.mono ?_); rintro e w4 ⟨rfl, hq⟩; have Q0 := Lib.hid hq; clear hq)))
      generalize hqq : w3.heap.size = q at *
      clear hqq
      go_loopw [9] (fun i wr => ∃ k : Nat, k ≤ L.length ∧ i = .int .i64 k ∧ LoopA W q d k wr) (fun i _ => L.length - (intOf i).toNat)
      case atStart => exact ⟨0, Nat.zero_le _, rfl, _, (by decide), Q0.out⟩
      case round =>
        obtain ⟨k, hk, rfl, s, hwt, h1⟩ := hrel
        have cxk := CX.out.next h1.bel
        have HS := Lib.hid h1
        have CXK := Lib.hid cxk
        by_cases hlt : k < L.length
        · obtain ⟨_, _, hA, _, _, hcx, haw⟩ := cxk.row
          cases hA
          obtain ⟨b, o, hA, hce⟩ : ∃ b o, A = some ⟨b, o, none⟩ ∧ ∀ j (h : j < L.length), ActC wr b (o + j * 7) L[j] := by
            rcases hcx with h | h
            · omega
            · exact h
          subst hA
          obtain ⟨y, hy⟩ : ∃ y, y = L[k] := ⟨_, rfl⟩
          have hc1 := hce k hlt
          have hyo := acOk_of (haw _ (List.getElem_mem hlt)) (HL.out _ (List.getElem_mem hlt))
          rw [← hy] at hc1 hyo
          obtain ⟨f0, f1, f2, f3, f4, f5, f6⟩ := hc1
          have hI0 : (0 : Int) ≤ (k : Int) := by omega
          have hI1 : (k : Int) < (L.length : Int) := by omega
          have HW := Lib.hid (act_wt h1.ok y)
          have hys := Lib.hid hyo.s
          have C1 := Lib.hid (do_du h1 (by omega) (by omega) y hyo)
          unfold acv at C1
          clear h1 cxk hce hcx haw hy hyo
          go_wp2_with (go_at_call 9; ((with_reducible refine C1.out.mono ?_); rintro e w5 ⟨⟨r, rfl⟩, hq⟩; have Q1' := Lib.hid hq; clear hq))
          go_roundw
          case rel => exact ⟨k + 1, by omega, by go_num, _, by have := HW.out; have := hys.out; omega, Q1'.out⟩
          case measure => simp [intOf]; omega
        · have hkL : k = L.length := by omega
          have hwt' : s.wt ≤ 549755813888 := by omega
          have hok := Lib.hid h1.ok
          have C1 := Lib.hid (copy_qn h1.qn (one1_at d s) hwt')
          clear h1 cxk
          have hact := act_wt hok.out x
          have hxs := hxo.out.s
          have hwc : (s.act x).wt ≤ 549755813888 := by omega
          have hwy : s.sync.wt ≤ 549755813888 := Nat.le_trans (FS.sync_wt hok.out) hwt'
          obtain ⟨sa, hsa⟩ : ∃ t, s.crash ⟨(s.op.length : Int), 0, 0⟩ = t := ⟨_, rfl⟩
          obtain ⟨sy, hsy⟩ : ∃ t, s.sync = t := ⟨_, rfl⟩
          obtain ⟨sb, hsb⟩ : ∃ t, sy.crash f = t := ⟨_, rfl⟩
          obtain ⟨sm, hsm⟩ : ∃ t, s.act x = t := ⟨_, rfl⟩
          obtain ⟨sc, hsc⟩ : ∃ t, sm.crash f = t := ⟨_, rfl⟩
          obtain ⟨m, hm⟩ : ∃ m, s.now.length = m := ⟨_, rfl⟩
          have EA := Lib.hid (show sa.now = s.now by rw [← hsa]; exact crash_all hok.out)
          have EB := Lib.hid (show sb.now = s.now by rw [← hsb, ← hsy]; exact crash_sync hok.out f)
          have OA := Lib.hid (show sa.op.length = 0 by rw [← hsa]; rfl)
          have OB := Lib.hid (show sb.op.length = 0 by rw [← hsb]; rfl)
          have WA : sa.wt ≤ 549755813888 := by
            have h1 := wt_crashes ⟨(s.op.length : Int), 0, 0⟩ s.op 0 hok.out.keyed
            rw [← hsa]
            simp only [FS.wt, FS.crash, wt_strip, wts] at h1 ⊢
            unfold FS.wt at hwt'
            omega
          have WB : sb.wt ≤ 549755813888 := by
            rw [hsy] at hwy
            have h1 := wt_crashes f sy.op 0 (T := sy.safe) (by rw [← hsy]; exact hok.out.sync.keyed)
            rw [← hsb]
            simp only [FS.wt, FS.crash, wt_strip, wts] at h1 ⊢
            unfold FS.wt at hwy
            omega
          rw [hsy] at hwy
          rw [hsm] at hwc
          have HSA := Lib.hid hsa
          have HSY := Lib.hid hsy
          have HSB := Lib.hid hsb
          have HSM := Lib.hid hsm
          have HSC := Lib.hid hsc
          have HM := Lib.hid hm
          clear hsa hsy hsb hsm hsc hm hact hxs
          go_wp2_with (first
            | (go_at_call 10; ((with_reducible refine C1.out.mono ?_); rintro e w5 ⟨a, rfl, ha, hq⟩; have da := Lib.hid (ha d s (one1_at d s)); have C2 := Lib.hid (copy_qn hq (sb_far (one1_at d s) da.out) hwt'); clear ha hq))
            | (go_at_call 10; ((with_reducible refine C2.out.mono ?_); rintro e w6 ⟨b, rfl, hb, hq⟩; have db := Lib.hid (hb d s (sb_far (one1_at d s) da.out)); have ab := Lib.hid (hb a s sb_at); have C3 := Lib.hid (copy_qn hq (sb_far (sb_far (one1_at d s) da.out) db.out) hwt'); clear hb hq))
            | (go_at_call 10; ((with_reducible refine C3.out.mono ?_); rintro e w7 ⟨c2, rfl, hb, hq⟩; have AP := Lib.hid (Apart4.mk da.out db.out (hb d s (sb_far (sb_far (one1_at d s) da.out) db.out)) ab.out (hb a s (sb_far sb_at ab.out)) (hb b s sb_at)); have QA := Lib.hid (Quad.mk (W := W) (q := q) (K := k) (d := d) (a := a) (b := b) (c := c2) (sd := s) (sa := s) (sb := s) (sc := s) (w := w7) ⟨_, hq, sb_far (sb_far (sb_far (one1_at d s) da.out) db.out) AP.out.dc, sb_far (sb_far sb_at ab.out) AP.out.ac, sb_far sb_at AP.out.bc, sb_at⟩); have C4 := Lib.hid QA.out.pend; clear hb hq))
            | (go_at_call 12; ((with_reducible refine C4.out.mono ?_); rintro e w8 ⟨rfl, hq⟩; have C5 := Lib.hid (hq.crashA AP.out hwt' ⟨(s.op.length : Int), 0, 0⟩ (by show 0 < 18446744073709551616; decide) (x := (s.op.length : Int)) (y := 0) (z := 0) rfl rfl rfl HSA.out); clear hq))
            | (go_at_call 11; ((with_reducible refine C5.out.mono ?_); rintro e w9 ⟨rfl, hq⟩; have C6 := Lib.hid (hq.syncB AP.out hwt' HSY.out); clear hq))
            | (go_at_call 13; ((with_reducible refine C6.out.mono ?_); rintro e w10 ⟨rfl, hq⟩; obtain ⟨b0, b1, b2⟩ := (CX.out.next hq.bel).box.cells; have C7 := Lib.hid (hq.crashB AP.out hwy f hfl HSB.out); clear hq))
            | (go_at_call 11; ((with_reducible refine C7.out.mono ?_); rintro e w11 ⟨rfl, hq⟩; obtain ⟨a0, a1, a2, a3, a4, a5, a6⟩ := (CX.out.next hq.bel).act.cells; have C8 := Lib.hid (hq.doC AP.out hwt' (by omega) x hxo.out HSM.out); unfold acv at C8; clear hq))
            | (go_at_call 9; ((with_reducible refine C8.out.mono ?_); rintro e w12 ⟨⟨r, rfl⟩, hq⟩; obtain ⟨d0, d1, d2⟩ := (CX.out.next hq.bel).box.cells; have C9 := Lib.hid (hq.crashC AP.out hwc f hfl HSC.out); clear hq))
            | (go_at_call 11; ((with_reducible refine C9.out.mono ?_); rintro e w13 ⟨rfl, hq⟩; have R0 := Lib.hid hq.rd; have C10 := Lib.hid (hq.rd.nmsD hwt' HM.out); clear hq))
            | (go_at_call 14; ((with_reducible refine C10.out.mono ?_); rintro e w14 ⟨A2, c3, rfl, hrow, hb, hm39⟩; have R1 := Lib.hid (R0.out.next hb); have ROW := Lib.hid hrow; clear hrow hb)))
          go_loopw [14] (fun i wr => ∃ j : Nat, j ≤ m ∧ i = .int .i64 j ∧ Below w14.heap.size w14 wr) (fun i _ => m - (intOf i).toNat)
          case atStart => exact ⟨0, Nat.zero_le _, rfl, Below.refl _ _⟩
          case round =>
            obtain ⟨j, hj, rfl, hb⟩ := hrel
            have R2 := Lib.hid (R1.out.next hb)
            have HB := Lib.hid hb
            by_cases hjm : j < m
            · obtain ⟨g, rfl, hnm⟩ : ∃ g, A2 = some ⟨g, 0, none⟩ ∧ ∀ j, j < m → ∃ n : Nm, w14.cell? ⟨g, j, none⟩ = some (.string (str n)) := by
                rcases ROW.out with h | h
                · omega
                · exact h
              obtain ⟨n, hn⟩ := hnm j hjm
              have hg14 := fcell_lt hn
              have HN := Lib.hid hn
              have c0 : wr.cell? ⟨g, j, none⟩ = some (.string (str n)) := (hb.cell (p := ⟨g, j, none⟩) hg14).trans hn
              obtain ⟨ys, hys⟩ : ∃ ys, ys = str (s.bytes n) := ⟨_, rfl⟩
              have YA := Lib.hid (hys.trans (by rw [bytes_now EA.out n] : str (s.bytes n) = str (sa.bytes n)))
              have YB := Lib.hid (hys.trans (by rw [bytes_now EB.out n] : str (s.bytes n) = str (sb.bytes n)))
              have RD := Lib.hid (R2.out.readD hys)
              have hJ0 : (0 : Int) ≤ (j : Int) := by omega
              have hJ1 : (j : Int) < (m : Int) := by omega
              have hJ2 : (m : Int) ≤ 549755813888 := by omega
              clear hnm hn hys hb
              go_wp2_with (first
                | (go_at_call 15; ((with_reducible refine RD.out.mono ?_); rintro e w15 ⟨rfl, hb⟩; have HB15 := Lib.hid (HB.out.trans (hb.mono HB.out.size)); have d0 : w15.cell? ⟨g, j, none⟩ = some (.string (str n)) := (HB15.out.cell (p := ⟨g, j, none⟩) hg14).trans HN.out; have R3 := Lib.hid (R2.out.next hb); have RA := Lib.hid (R3.out.readA YA.out); clear hb))
                | (go_at_call 15; ((with_reducible refine RA.out.mono ?_); rintro e w16 ⟨rfl, hb⟩; have HB16 := Lib.hid (HB15.out.trans (hb.mono HB15.out.size)); have e0 : w16.cell? ⟨g, j, none⟩ = some (.string (str n)) := (HB16.out.cell (p := ⟨g, j, none⟩) hg14).trans HN.out; have R4 := Lib.hid (R3.out.next hb); have RB := Lib.hid (R4.out.readB YB.out); clear hb))
                | (go_at_call 15; ((with_reducible refine RB.out.mono ?_); rintro e w17 ⟨rfl, hb⟩; have HB17 := Lib.hid (HB16.out.trans (hb.mono HB16.out.size)); clear hb)))
              go_roundw
              case rel => exact ⟨j + 1, by omega, by go_num, HB17.out⟩
              case measure => simp [intOf]; omega
            · have hjm2 : j = m := by omega
              have NA := Lib.hid (R2.out.nmsA WA (m := m) (by rw [EA.out]; exact HM.out))
              have hM0 : (0 : Int) ≤ (m : Int) := by omega
              have hM1 : (m : Int) ≤ 549755813888 := by omega
              clear hb
              go_wp2_with (first
                | (go_at_call 14; ((with_reducible refine NA.out.mono ?_); rintro e w15 ⟨A3, c4, rfl, _, hb, _⟩; have R3 := Lib.hid (R2.out.next hb); have NB := Lib.hid (R3.out.nmsB WB (m := m) (by rw [EB.out]; exact HM.out)); clear hb))
                | (go_at_call 14; ((with_reducible refine NB.out.mono ?_); rintro e w16 ⟨A4, c5, rfl, _, hb, _⟩; have R4 := Lib.hid (R3.out.next hb); have PA := Lib.hid (R4.out.pendA OA.out); clear hb))
                | (go_at_call 12; ((with_reducible refine PA.out.mono ?_); rintro e w17 ⟨rfl, hb⟩; have R5 := Lib.hid (R4.out.next hb); have PB := Lib.hid (R5.out.pendB OB.out); clear hb))
                | (go_at_call 12; ((with_reducible refine PB.out.mono ?_); rintro e w18 ⟨rfl, hb⟩; have R6 := Lib.hid (R5.out.next hb); clear hb))
                | (go_at_call 6; ((with_reducible refine (head_any _).mono ?_); rintro e w19 ⟨rfl, hb⟩; have R7 := Lib.hid (R6.out.next hb); clear hb)))
              go_ret
              exact ⟨rfl, CX.out.bel.trans (R7.out.bel.mono CX.out.bel.size)⟩
end Go.Proofs.Ytdfiofjnijnodaa.gn
