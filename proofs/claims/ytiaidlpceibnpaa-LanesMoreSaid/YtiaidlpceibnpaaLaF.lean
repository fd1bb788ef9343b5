/- The law LanesMore, over what Split answers. (Written by gen_laF.py.) -/
import Derived.Test.YtiaidlpceibnpaaLaE
set_option linter.unusedVariables false
set_option linter.unusedSimpArgs false
namespace Go.Proofs.Ytiaidlpceibnpaa.gn
open Go.RowKit
open Go.Proofs.Ytiaidlpceibnpaa.la (OkW Qy tot)

set_option maxRecDepth 100000 in
theorem qty_any (x : Int) (hx : i64 x) (w : World) : Calls Try.prog 5 #[.int .i64 x] w (fun e w' => e = .returned (.bool (decide (Qy x))) ∧ w' = w) := by
  unfold i64 at hx
  by_cases h1 : 0 ≤ x
  · by_cases h2 : x ≤ 1099511627776
    · rw [decide_eq_true (show Qy x from ⟨h1, h2⟩)]
      go_enter Try.func5, Try.ntmps5
      go_wp2
      go_ret
      exact ⟨rfl, rfl⟩
    · rw [decide_eq_false (show ¬ Qy x from fun h => h2 h.2)]
      go_enter Try.func5, Try.ntmps5
      go_wp2
      go_ret
      exact ⟨rfl, rfl⟩
  · rw [decide_eq_false (show ¬ Qy x from fun h => h1 h.1)]
    go_enter Try.func5, Try.ntmps5
    go_wp2
    go_ret
    exact ⟨rfl, rfl⟩
theorem ics_set : ∀ (l : List Int) (k : Nat) (x : Int), (ics l).set k (.int .i64 x) = ics (l.set k x)
  | [], k, x => rfl
  | y :: l, 0, x => rfl
  | y :: l, k + 1, x => by
    have := ics_set l k x
    simp only [ics, List.map_cons, List.set_cons_succ] at this ⊢
    rw [this]
theorem ApC.at {base : Nat} {e : TypeId} {size : Nat} {w : World} {p : Option Addr} {n c : Nat} {cs : List Value} (h : ApC base e size w (.slice p n c) n cs) (h0 : 0 < n) : ∃ g, p = some ⟨g, 0, none⟩ ∧ w.ownsRow base e size (.slice (some ⟨g, 0, none⟩) n c) n cs := by
  rcases h with ⟨_, _, hn, _⟩ | h
  · omega
  · obtain ⟨h1, ⟨_, hn⟩ | ⟨g, cap, cur, hv, r⟩⟩ := h
    · omega
    · simp only [Value.slice.injEq, true_and] at hv
      obtain ⟨rfl, rfl⟩ := hv
      exact ⟨g, rfl, h1, .inr ⟨g, c, cur, rfl, r⟩⟩
set_option maxRecDepth 100000 in
set_option maxHeartbeats 32000000 in
theorem more_law (SC : SplitC) {w : World} {lv : Value} {l : List Int} (h : RI w lv l) (hl : ∀ x ∈ l, i64 x) (hln : l.length ≤ 9223372036854775807) (T m : Int) (wh : Nat) (hT : i64 T) (hm : i64 m) (hwh : wh ≤ 255) :
    Calls Try.prog 3 #[.agg #[.int .i64 T, .int .i64 m, lv, .int .u8 wh]] w (TellsM (.bool true) w) := by
  obtain ⟨pl, ql, hlv, hf⟩ := h.form
  obtain ⟨n, hn⟩ : ∃ n, l.length = n := ⟨_, rfl⟩
  rw [hn] at hlv
  subst hlv
  obtain ⟨W, hW⟩ : ∃ W, w.alloc (.cells #[.int .i64 T, .int .i64 m, .slice pl n ql, .int .u8 wh] 24) = W := ⟨_, rfl⟩
  have hbx : BoxA W w.heap.size 24 #[.int .i64 T, .int .i64 m, .slice pl n ql, .int .u8 wh] := by rw [← hW]; exact BoxA.new _ _ _
  have hlw : Below w.heap.size w W := by rw [← hW]; exact (Below.refl _ _).alloc (Nat.le_refl _) _
  have HLW := Lib.hid hlw
  have HRI := Lib.hid (fun (Y : World) (hy : Below w.heap.size w Y) => (show RI Y (.slice pl n ql) l from h.next hy))
  have HN := Lib.hid hn
  have HF := Lib.hid hf
  have HLI := Lib.hid hl
  have HW := Lib.hid hW
  have HQ1 := Lib.hid (fun (Y : World) => qty_any T hT Y)
  have HQ2 := Lib.hid (fun (Y : World) => qty_any m hm Y)
  have c0 : W.cell? ⟨w.heap.size, 0, none⟩ = some (.int .i64 T) := BoxA.cell hbx 0 _ rfl
  have c1 : W.cell? ⟨w.heap.size, 1, none⟩ = some (.int .i64 m) := BoxA.cell hbx 1 _ rfl
  have c2 : W.cell? ⟨w.heap.size, 2, none⟩ = some (.slice pl n ql) := BoxA.cell hbx 2 _ rfl
  have c3 : W.cell? ⟨w.heap.size, 3, none⟩ = some (.int .u8 wh) := BoxA.cell hbx 3 _ rfl
  have clt : w.heap.size < W.heap.size := BoxA.lt hbx
  have hn9 : n ≤ 9223372036854775807 := by omega
  obtain ⟨t1, t2⟩ := hT
  obtain ⟨m1, m2⟩ := hm
  clear h hl hln hn hf hW hbx hlw
  by_cases g1 : 60 < n
  · go_enter Try.func3, Try.ntmps3
    go_upto_region 1 with fail
    rw [HW.out]
    go_quiet (fail)
    go_wp2_with (first
      | (go_at_call 5; (first
        | ((with_reducible refine (HQ1.out _).mono ?_); rintro e w' ⟨rfl, rfl⟩)
        | ((with_reducible refine (HQ2.out _).mono ?_); rintro e w' ⟨rfl, rfl⟩)))
      | (go_at_call 6; ((with_reducible refine (laHead_any SC _).mono ?_); rintro e w9 ⟨rfl, hb⟩); have HB9 := Lib.hid ((bel_drewN HLW.out).trans (hb.mono (bel_drewN HLW.out).size)); clear hb))
    go_ret
    exact ⟨rfl, HB9.out⟩
  by_cases g2 : n = 0
  · subst g2
    go_enter Try.func3, Try.ntmps3
    go_upto_region 1 with fail
    rw [HW.out]
    go_quiet (fail)
    go_wp2_with (first
      | (go_at_call 5; (first
        | ((with_reducible refine (HQ1.out _).mono ?_); rintro e w' ⟨rfl, rfl⟩)
        | ((with_reducible refine (HQ2.out _).mono ?_); rintro e w' ⟨rfl, rfl⟩)))
      | (go_at_call 6; ((with_reducible refine (laHead_any SC _).mono ?_); rintro e w9 ⟨rfl, hb⟩); have HB9 := Lib.hid ((bel_drewN HLW.out).trans (hb.mono (bel_drewN HLW.out).size)); clear hb))
    go_ret
    exact ⟨rfl, HB9.out⟩
  by_cases g3 : Qy T
  rotate_left
  · rw [decide_eq_false g3] at HQ1
    have hq3 : ¬ Qy T := g3
    clear g3
    go_enter Try.func3, Try.ntmps3
    go_upto_region 1 with fail
    rw [HW.out]
    go_quiet (fail)
    go_wp2_with (first
      | (go_at_call 5; (first
        | ((with_reducible refine (HQ1.out _).mono ?_); rintro e w' ⟨rfl, rfl⟩)
        | ((with_reducible refine (HQ2.out _).mono ?_); rintro e w' ⟨rfl, rfl⟩)))
      | (go_at_call 6; ((with_reducible refine (laHead_any SC _).mono ?_); rintro e w9 ⟨rfl, hb⟩); have HB9 := Lib.hid ((bel_drewN HLW.out).trans (hb.mono (bel_drewN HLW.out).size)); clear hb))
    go_ret
    exact ⟨rfl, HB9.out⟩
  rw [decide_eq_true g3] at HQ1
  by_cases g4 : Qy m
  rotate_left
  · rw [decide_eq_false g4] at HQ2
    clear g4
    go_enter Try.func3, Try.ntmps3
    go_upto_region 1 with fail
    rw [HW.out]
    go_quiet (fail)
    go_wp2_with (first
      | (go_at_call 5; (first
        | ((with_reducible refine (HQ1.out _).mono ?_); rintro e w' ⟨rfl, rfl⟩)
        | ((with_reducible refine (HQ2.out _).mono ?_); rintro e w' ⟨rfl, rfl⟩)))
      | (go_at_call 6; ((with_reducible refine (laHead_any SC _).mono ?_); rintro e w9 ⟨rfl, hb⟩); have HB9 := Lib.hid ((bel_drewN HLW.out).trans (hb.mono (bel_drewN HLW.out).size)); clear hb))
    go_ret
    exact ⟨rfl, HB9.out⟩
  rw [decide_eq_true g4] at HQ2
  obtain ⟨t3, t4⟩ := g3
  obtain ⟨m3, m4⟩ := g4
  by_cases g5 : T ≤ 1099511627776 - m
  rotate_left
  · go_enter Try.func3, Try.ntmps3
    go_upto_region 1 with fail
    rw [HW.out]
    go_quiet (fail)
    go_wp2_with (first
      | (go_at_call 5; (first
        | ((with_reducible refine (HQ1.out _).mono ?_); rintro e w' ⟨rfl, rfl⟩)
        | ((with_reducible refine (HQ2.out _).mono ?_); rintro e w' ⟨rfl, rfl⟩)))
      | (go_at_call 6; ((with_reducible refine (laHead_any SC _).mono ?_); rintro e w9 ⟨rfl, hb⟩); have HB9 := Lib.hid ((bel_drewN HLW.out).trans (hb.mono (bel_drewN HLW.out).size)); clear hb))
    go_ret
    exact ⟨rfl, HB9.out⟩
  have hn0 : 0 < n := by omega
  have e1 : ¬ ((60 : Int) < (n : Int)) := by omega
  have e2 : ((n : Int) == 0) = false := by rw [beq_eq_false_iff_ne]; omega
  have e3 : ¬ (1099511627776 - m < T) := by omega
  have e4 : (n : Int) ≤ 60 := by omega
  obtain ⟨kk, hk⟩ : ∃ k, wh % n = k := ⟨_, rfl⟩
  have hkk : (wh : Int) % (n : Int) = (kk : Int) := by rw [← hk]; exact (Int.natCast_emod wh n).symm
  have hkn : kk < n := by rw [← hk]; exact Nat.mod_lt _ hn0
  clear hk
  have HT := Lib.hid (show Qy T ∧ Qy (T + m) from ⟨⟨t3, t4⟩, ⟨by omega, by omega⟩⟩)
  have HS1 := Lib.hid (fun (Y : World) (hy : Below w.heap.size w Y) => SC (HRI.out Y hy) HLI.out (by rw [HN.out]; omega) T (by unfold i64; omega))
  have HS2 := Lib.hid (fun (Y : World) (hy : Below w.heap.size w Y) => SC (HRI.out Y hy) HLI.out (by rw [HN.out]; omega) (T + m) (by unfold i64; omega))
  clear g2
  go_enter Try.func3, Try.ntmps3
  go_upto_region 1 with fail
  rw [HW.out]
  go_quiet (fail)
  go_upto_region 5 with (first
    | (go_at_call 5; (first
      | ((with_reducible refine (HQ1.out _).mono ?_); rintro e w' ⟨rfl, rfl⟩)
      | ((with_reducible refine (HQ2.out _).mono ?_); rintro e w' ⟨rfl, rfl⟩)))
    | (go_at_call 7; ((with_reducible refine (HS1.out _ (bel_drewN HLW.out)).mono ?_); rintro e w3 hq); obtain ⟨v3, a, E3, rfl, hr, hb, hc⟩ := hq; have HR3 := Lib.hid hr; have B3 := Lib.hid ((bel_drewN HLW.out).trans (hb.mono (bel_drewN HLW.out).size)); have HC3 := Lib.hid hc; clear hr hb hc))
  go_upto_region 6 with (go_at_call 7; ((with_reducible refine (HS2.out _ B3.out).mono ?_); rintro e w4 hq); obtain ⟨v4, b, E4, rfl, hr, hb, hc⟩ := hq; have HR4 := Lib.hid hr; have H4 := Lib.hid hb; have B4 := Lib.hid (B3.out.trans (hb.mono B3.out.size)); have HC4 := Lib.hid hc; clear hr hb hc)
  clear c0 c1 c2 c3 clt e1 e2 e3
  by_cases hW : ∀ x ∈ l, Qy x
  rotate_left
  · obtain rfl : E3 = 2 := by
      rcases HC3.out with ⟨h1, _⟩ | ⟨_, h2, _⟩
      · exact absurd h1.2.2 hW
      · exact h2
    obtain rfl : E4 = 2 := by
      rcases HC4.out with ⟨h1, _⟩ | ⟨_, h2, _⟩
      · exact absurd h1.2.2 hW
      · exact h2
    clear hW
    go_wp2_with (go_at_call 6; ((with_reducible refine (laHead_any SC _).mono ?_); rintro e w9 ⟨rfl, hb⟩); have HB9 := Lib.hid ((B4.out).trans (hb.mono (B4.out).size)); clear hb)
    go_ret
    exact ⟨rfl, HB9.out⟩
  have HWQ := Lib.hid hW
  obtain ⟨rfl, hfa⟩ : E3 = 0 ∧ la.Fair T l a := by
    rcases HC3.out with ⟨_, h2, h3⟩ | ⟨h1, _, _⟩
    · exact ⟨h2, h3⟩
    · exact absurd ⟨by rw [HN.out]; omega, HT.out.1, hW⟩ h1
  obtain ⟨rfl, hfb⟩ : E4 = 0 ∧ la.Fair (T + m) l b := by
    rcases HC4.out with ⟨_, h2, h3⟩ | ⟨h1, _, _⟩
    · exact ⟨h2, h3⟩
    · exact absurd ⟨by rw [HN.out]; omega, HT.out.2, hW⟩ h1
  have HFA := Lib.hid hfa
  have HFB := Lib.hid hfb
  clear hW hfa hfb HC3 HC4
  go_upto_region 9 with fail
  rw [hkk]
  clear hkk
  obtain ⟨u, hu⟩ : ∃ u, l[kk]? = some u := ⟨_, List.getElem?_eq_getElem (by rw [HN.out]; exact hkn)⟩
  have HBL := Lib.hid ((Below.refl _ w4).alloc (Nat.le_refl w4.heap.size) (.cells #[] 2))
  have HRX := Lib.hid (show RdC (w4.alloc (.cells #[] 2)) (.slice pl n ql) n (ics l) by have := (HRI.out _ B4.out).next HBL.out; unfold RI at this; rw [HN.out] at this; exact this)
  have HXL := Lib.hid (show (ics l).length = n * 1 by rw [ics_len, HN.out, Nat.mul_one])
  go_upto_region 10 with (at_builtin; refine wpl_ap eltI64 rfl _ _ rfl (base := w4.heap.size) (v := .slice _ 0 0) (n := 0) (m := n) (cs := []) (ds := ics l) rfl (.inl ⟨_, rfl, rfl, rfl⟩) rfl HRX.out HXL.out (ics_one _) (by unfold maxLen; omega) (by omega) HBL.out.size ?_; intro p5 c5 w5 h1 h2 h3; simp only [Nat.zero_add, List.nil_append] at h1 h2 h3 ⊢; have HA5 := Lib.hid h1; have H5 := Lib.hid (HBL.out.trans h3); clear h1 h3)
  obtain ⟨g5, rfl, ho5⟩ := ApC.at HA5.out hn0
  have lg5 := World.ownsRow.lt ho5 g5 rfl
  have ce5 : w5.cell? ⟨g5, kk, none⟩ = some (.int .i64 u) := by
    have := World.ownsRow.cells ho5 rfl kk _ (ics_at hu)
    rwa [Addr.add_lit, Nat.zero_add] at this
  have fe5 := World.ownsRow.frozenAt ho5 kk
  obtain ⟨l5a, l5b⟩ := lg5
  have HO6 := Lib.hid (World.ownsRow.stored ho5 kk (.int .i64 0)).1
  clear ho5 hu
  go_upto_region 11 with fail
  obtain ⟨w6, hw6⟩ : ∃ w6, w5.setCell ⟨g5, kk, none⟩ (.int .i64 0) = w6 := ⟨_, rfl⟩
  rw [hw6] at HO6 ⊢
  have H6 := Lib.hid (show Below w4.heap.size w4 w6 by rw [← hw6]; exact H5.out.setCell l5a _)
  clear hw6 ce5 fe5 l5a l5b
  rw [ics_set] at HO6
  have HR6 := Lib.hid (show RI w6 (.slice (some ⟨g5, 0, none⟩) n c5) (l.set kk 0) by unfold RI; rw [List.length_set, HN.out]; exact ApC.rdc (.inr HO6.out))
  have HM0 := Lib.hid (show ∀ x ∈ l.set kk 0, Qy x from fun x hx => by
    rcases List.mem_or_eq_of_mem_set hx with h1 | h1
    · exact HWQ.out x h1
    · rw [h1]
      exact ⟨by omega, by omega⟩)
  have HS3 := Lib.hid (SC HR6.out (fun x hx => by
    have := HM0.out x hx
    unfold Qy at this
    unfold i64
    omega) (by rw [List.length_set, HN.out]; omega) T (by unfold i64; omega))
  go_upto_region 12 with (go_at_call 7; ((with_reducible refine HS3.out.mono ?_); rintro e w7 hq); obtain ⟨v7, d, E7, rfl, hr, hb, hc⟩ := hq; have HR7 := Lib.hid hr; have H7 := Lib.hid (H6.out.trans (hb.mono H6.out.size)); have HC7 := Lib.hid hc; clear hr hb hc)
  obtain ⟨rfl, hfc⟩ : E7 = 0 ∧ la.Fair T (l.set kk 0) d := by
    rcases HC7.out with ⟨_, h2, h3⟩ | ⟨h1, _, _⟩
    · exact ⟨h2, h3⟩
    · exact absurd ⟨by rw [List.length_set, HN.out]; omega, HT.out.1, HM0.out⟩ h1
  have HFC := Lib.hid hfc
  clear hfc HC7
  have B7 := Lib.hid (B4.out.trans (H7.out.mono B4.out.size))
  have LA := Lib.hid (show a.length = n by rw [HFA.out.len, HN.out])
  have LB := Lib.hid (show b.length = n by rw [HFB.out.len, HN.out])
  have LC := Lib.hid (show d.length = n by rw [HFC.out.len, List.length_set, HN.out])
  obtain ⟨pa, qa, hva, fa⟩ := HR3.out.form
  obtain ⟨pb, qb, hvb, fb⟩ := HR4.out.form
  obtain ⟨pd, qd, hvd, fd⟩ := HR7.out.form
  rw [LA.out] at hva
  rw [LB.out] at hvb
  rw [LC.out] at hvd
  subst hva
  subst hvb
  subst hvd
  have ne {x : List Int} (h : x.length = n) : x ≠ [] := fun e => by rw [e] at h; simp at h; omega
  obtain ⟨ka, oa, rfl, hka, hca⟩ := fa (ne LA.out)
  obtain ⟨kb, ob, rfl, hkb, hcb⟩ := fb (ne LB.out)
  obtain ⟨kd, od, rfl, hkd, hcd⟩ := fd (ne LC.out)
  obtain ⟨kl, ol, rfl, hkl, hcl⟩ := HF.out (ne HN.out)
  have HCE := Lib.hid (fun (Y : World) (hy : Below w7.heap.size w7 Y) (i : Nat) (x y z u : Int) (h1 : a[i]? = some x) (h2 : b[i]? = some y) (h3 : d[i]? = some z) (h4 : l[i]? = some u) =>
    (show (Y.cell? ⟨ka, oa + i, none⟩ = some (.int .i64 x) ∧ Y.cell? ⟨kb, ob + i, none⟩ = some (.int .i64 y) ∧ Y.cell? ⟨kd, od + i, none⟩ = some (.int .i64 z) ∧ Y.cell? ⟨kl, ol + i, none⟩ = some (.int .i64 u)) ∧ ka < Y.heap.size ∧ kb < Y.heap.size ∧ kd < Y.heap.size ∧ kl < Y.heap.size from by
      have q4 := H7.out.trans (hy.mono H7.out.size)
      have q3 := H4.out.trans (q4.mono H4.out.size)
      have q0 := B7.out.trans (hy.mono B7.out.size)
      exact ⟨⟨(low_cell q3 hka).trans (hca i x h1), (low_cell q4 hkb).trans (hcb i y h2), (low_cell hy hkd).trans (hcd i z h3), (low_cell q0 hkl).trans (hcl i u h4)⟩, Nat.lt_of_lt_of_le hka q3.size, Nat.lt_of_lt_of_le hkb q4.size, Nat.lt_of_lt_of_le hkd hy.size, Nat.lt_of_lt_of_le hkl q0.size⟩))
  clear hka hca hkb hcb hkd hcd hkl hcl
  have hnn : ((n : Int) != (n : Int)) = false := by simp
  go_upto_region 15 with fail
  go_loopw [15] (fun s15 wr => ∃ i : Nat, s15 = .int .i64 (i : Nat) ∧ i ≤ n ∧ Aside (Below w7.heap.size w7 wr)) (fun s15 _ => n - (intOf s15).toNat)
  case atStart => exact ⟨0, rfl, Nat.zero_le _, Below.refl _ _⟩
  case round =>
  obtain ⟨i, rfl, hi, hrow⟩ := hrel
  have HB := Lib.hid (show Below w7.heap.size w7 wr from hrow)
  clear hrow
  by_cases hin : i < n
  rotate_left
  · have hin2 : n = i := by omega
    subst hin2
    have HBw := Lib.hid (B7.out.trans (HB.out.mono B7.out.size))
    go_wp2_with (go_at_call 6; ((with_reducible refine (laHead_any SC _).mono ?_); rintro e w9 ⟨rfl, hb⟩); have HB9 := Lib.hid ((HBw.out).trans (hb.mono (HBw.out).size)); clear hb)
    go_ret
    exact ⟨rfl, HB9.out⟩
  obtain ⟨x, hx⟩ : ∃ x, a[i]? = some x := ⟨_, List.getElem?_eq_getElem (by rw [LA.out]; exact hin)⟩
  obtain ⟨y, hy⟩ : ∃ x, b[i]? = some x := ⟨_, List.getElem?_eq_getElem (by rw [LB.out]; exact hin)⟩
  obtain ⟨z, hz⟩ : ∃ x, d[i]? = some x := ⟨_, List.getElem?_eq_getElem (by rw [LC.out]; exact hin)⟩
  obtain ⟨u, hu⟩ : ∃ x, l[i]? = some x := ⟨_, List.getElem?_eq_getElem (by rw [HN.out]; exact hin)⟩
  obtain ⟨⟨ca, cb, cd, cl⟩, la1, lb1, ld1, ll1⟩ := HCE.out wr HB.out i x y z u hx hy hz hu
  have hxy : x ≤ y := la.no_less HFA.out HFB.out (by omega) rfl (fun _ => .inl rfl) rfl hx hy
  have hd1 : decide (y < x) = false := decide_eq_false (by omega)
  obtain ⟨qq, hqq⟩ : ∃ qq, T / (n : Int) = qq := ⟨_, rfl⟩
  have hq0 : 0 ≤ qq ∧ qq ≤ T ∧ qq * n ≤ T := by
    rw [← hqq]
    refine ⟨Int.ediv_nonneg t3 (by omega), Int.ediv_le_self _ t3, ?_⟩
    rw [Int.mul_comm]
    exact Int.mul_ediv_self_le (by omega)
  have hpt : min u qq ≤ x := la.part HFA.out (by rw [HN.out]; exact hq0.2.2) hx hu
  have hd2 : decide (x < min u qq) = false := decide_eq_false (by omega)
  have hqt : Int.tdiv T (n : Int) = qq := by rw [← hqq]; exact Int.tdiv_eq_ediv_of_nonneg t3
  have hqw : IntKind.i64.wrap qq = qq := by rw [IntKind.wrap_i64]; omega
  obtain ⟨q1, q2, q3⟩ := hq0
  by_cases hik : i = kk
  · have hd3 : ((i : Int) != (kk : Int)) = false := by rw [hik]; simp
    clear hik
    go_upto_region 17 with fail
    go_quiet (fail)
    go_wp2
    go_roundw
    case rel => exact ⟨i + 1, by go_num, by omega, bel_drewN HB.out⟩
    case measure => simp [intOf]; omega
  have hd3 : ((i : Int) != (kk : Int)) = true := by rw [bne_iff_ne]; omega
  have hxz : x ≤ z := la.no_less HFA.out HFC.out (Int.le_refl _) (by rw [List.length_set]) (la.set0 l kk) (by rw [List.getElem?_set_ne (fun e => hik e.symm)]) hx hz
  have hd4 : decide (z < x) = false := decide_eq_false (by omega)
  clear hik
  go_upto_region 17 with fail
  go_quiet (fail)
  go_wp2
  go_roundw
  case rel => exact ⟨i + 1, by go_num, by omega, bel_drewN HB.out⟩
  case measure => simp [intOf]; omega
end Go.Proofs.Ytiaidlpceibnpaa.gn
