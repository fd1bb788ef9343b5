/- The law BuffersBack, over the program's calls as premises. (Written by gen_buT.py, ahead of the code.) -/
import Derived.Test.YtkjffoebcblpoaaGreatMBuR
import Derived.Test.YtkjffoebcblpoaaGreatMBuQ
set_option linter.unusedVariables false
set_option linter.unusedSimpArgs false
namespace Go.Proofs.YtkjffoebcblpoaaGreat.gn
open Go.RowKit
open Go.Proofs.YtkjffoebcblpoaaGreat.bu (Bf May Valid addS refS unrefS dropS freeS findS ofS jobOk)

set_option maxRecDepth 100000 in
set_option maxHeartbeats 32000000 in
theorem back_law (PB : ProgB) {w : World} {lv : Value} {L : List (Bf × Gb)} {b : Bf} {ge gr : Value} {name user : List UInt8} {job : Int} (h : Ask w lv L (b, ⟨ge, gr⟩) name user job) :
    Calls Tryz.prog 4 #[.agg #[lv, .int .i64 b.job, .string (str b.name), .string (str b.user), .string (str b.pool), .bool b.opn, ge, gr, .string (str name), .string (str user), .int .i64 job]] w (TellsM (.bool true) w) := by
  obtain ⟨W, hW⟩ : ∃ W, w.alloc (.cells #[lv, .int .i64 b.job, .string (str b.name), .string (str b.user), .string (str b.pool), .bool b.opn, ge, gr, .string (str name), .string (str user), .int .i64 job] 28) = W := ⟨_, rfl⟩
  have hbx : BoxA W w.heap.size 28 #[lv, .int .i64 b.job, .string (str b.name), .string (str b.user), .string (str b.pool), .bool b.opn, ge, gr, .string (str name), .string (str user), .int .i64 job] := by rw [← hW]; exact BoxA.new _ _ _
  have hl : Below w.heap.size w W := by rw [← hW]; exact (Below.refl _ _).alloc (Nat.le_refl _) _
  have HBX := Lib.hid (fun (Y : World) (hy : Below W.heap.size W Y) => (show BoxA Y w.heap.size 28 #[lv, .int .i64 b.job, .string (str b.name), .string (str b.user), .string (str b.pool), .bool b.opn, ge, gr, .string (str name), .string (str user), .int .i64 job] from hbx.next hy))
  have HFIN := Lib.hid (fun (Y : World) (hy : Below W.heap.size W Y) => (show Below w.heap.size w Y from hl.trans (hy.mono hl.size)))
  have HCX := Lib.hid (fun (Y : World) (hy : Below W.heap.size W Y) => (show Y.cell? ⟨w.heap.size, 0, none⟩ = some lv ∧ Y.cell? ⟨w.heap.size, 8, none⟩ = some (.string (str name)) ∧ Y.cell? ⟨w.heap.size, 9, none⟩ = some (.string (str user)) ∧ Y.cell? ⟨w.heap.size, 10, none⟩ = some (.int .i64 job) ∧ w.heap.size < Y.heap.size from
    ⟨BoxA.cell (hbx.next hy) 0 _ rfl, BoxA.cell (hbx.next hy) 8 _ rfl, BoxA.cell (hbx.next hy) 9 _ rfl, BoxA.cell (hbx.next hy) 10 _ rfl, BoxA.lt (hbx.next hy)⟩))
  have HSZ := Lib.hid (show w.heap.size < W.heap.size from hbx.lt)
  have HGR := Lib.hid (fun (Y : World) (hy : Below W.heap.size W Y) => lgreat_any (h.next (hl.trans (hy.mono hl.size))))
  have HAR := Lib.hid (fun (Y : World) (hy : Below W.heap.size W Y) => range_row (hbx.next hy))
  have HW := Lib.hid hW
  have HWR := Lib.hid (Below.refl W.heap.size W)
  clear hW hbx hl
  obtain ⟨lg, hlg⟩ : ∃ t, lgB (L.map Prod.fst) b name user = t := ⟨_, rfl⟩
  rw [hlg] at HGR
  cases lg with
  | true =>
    clear h hlg
    go_enter Tryz.func4, Tryz.ntmps4
    apply wp_seq_k
    intro K hK
    apply wp_region_lit
    refine Great.wpList_boxTo rfl _ _ rfl _ rfl w.heap.size rfl #[lv, .int .i64 b.job, .string (str b.name), .string (str b.user), .string (str b.pool), .bool b.opn, ge, gr, .string (str name), .string (str user), .int .i64 job] rfl ?_
    rw [HW.out]
    go_wp2_with (first
      | (refine wpl_load_g (by rfl) _ _ rfl w.heap.size rfl _ _ _ _ (HBX.out _ HWR.out) Tryz.underlying28 rfl (by kernel_rfl) ?_)
      | (go_at_call 7; ((with_reducible refine (HGR.out _ HWR.out).mono ?_); rintro e w1 ⟨rfl, hb⟩); have A1 := Lib.hid hb; clear hb)
      | (go_at_call 8; ((with_reducible refine (lhead_any PB _).mono ?_); rintro e w2 ⟨rfl, hb⟩); have A2 := Lib.hid (A1.out.trans (hb.mono A1.out.size)); clear hb))
    go_ret
    exact ⟨rfl, HFIN.out _ A2.out⟩
  | false =>
    obtain ⟨k1, k2, k3, k4⟩ := lgB_look hlg
    have hlk : L.length ≤ 25 ∧ ∀ q ∈ L, BLook q.1 := ⟨by have := k1.1; rwa [List.length_map] at this, fun q hq => k1.2 _ (List.mem_map.2 ⟨q, hq, rfl⟩)⟩
    have hib := h.ib hlk
    have hbi := h.oneA.bi k2
    have hnm : name.length ≤ 140737488355328 := by omega
    have hus : user.length ≤ 140737488355328 := by omega
    have HADD := Lib.hid (fun (Y : World) (hy : Below W.heap.size W Y) => PB.add (hib.next (HFIN.out Y hy)) b ⟨ge, gr⟩ (h.one.next (HFIN.out Y hy)) hbi h.oneC)
    have HCHK := Lib.hid (fun (Y : World) (hy : Below W.heap.size W Y) => PB.check (hib.next (HFIN.out Y hy)))
    have HREF := Lib.hid (fun (Y : World) (hy : Below W.heap.size W Y) => PB.ref (hib.next (HFIN.out Y hy)) name user job h.job k3 k4)
    have HUNR := Lib.hid (fun (Y : World) (hy : Below W.heap.size W Y) => PB.unref (hib.next (HFIN.out Y hy)) job h.job)
    unfold bV bcs at HADD
    dsimp only at HADD
    have HJB := Lib.hid h.job
    have HOC := Lib.hid h.oneC
    have HBR := Lib.hid (fun (Y : World) (hy : Below W.heap.size W Y) => (show RB Y b ⟨ge, gr⟩ from h.one.next (HFIN.out Y hy)))
    have HIX := Lib.hid (fun (Y : World) (hy : Below W.heap.size W Y) => (show IB Y lv L from hib.next (HFIN.out Y hy)))
    have HLKB := Lib.hid k2
    obtain ⟨pb, qb, hgr, hgi⟩ := h.one.r.form
    have HGI := Lib.hid hgi
    clear hgi
    dsimp only at hgr
    obtain ⟨nb, hnb⟩ : ∃ x, b.refs.length = x := ⟨_, rfl⟩
    rw [hnb] at hgr
    have HNB := Lib.hid hnb
    have HCY := Lib.hid (fun (Y : World) (hy : Below W.heap.size W Y) => (show Y.cell? ⟨w.heap.size, 1, none⟩ = some (.int .i64 b.job) ∧ Y.cell? ⟨w.heap.size, 2, none⟩ = some (.string (str b.name)) ∧ Y.cell? ⟨w.heap.size, 3, none⟩ = some (.string (str b.user)) ∧ Y.cell? ⟨w.heap.size, 7, none⟩ = some (.slice pb nb qb) from
      ⟨BoxA.cell (HBX.out Y hy) 1 _ rfl, BoxA.cell (HBX.out Y hy) 2 _ rfl, BoxA.cell (HBX.out Y hy) 3 _ rfl, by rw [← hgr]; exact BoxA.cell (HBX.out Y hy) 7 _ rfl⟩))
    clear hgr hnb
    have HBI := Lib.hid hbi
    have HRL := Lib.hid (fun (Y : World) (hy : Below W.heap.size W Y) => (hib.rows.next (HFIN.out Y hy)).rows)
    have HIB := Lib.hid hib.bis
    clear h hlg k1 k2 k3 k4 hlk hib hbi hnm hus
    obtain ⟨la, ea, hae⟩ : ∃ x y, addS (L.map Prod.fst) b = (x, y) := ⟨_, _, rfl⟩
    rw [hae] at HADD
    dsimp only at HADD
    have HAE := Lib.hid hae
    obtain ⟨lr, er, hre⟩ : ∃ x y, refS (L.map Prod.fst) name user job = (x, y) := ⟨_, _, rfl⟩
    rw [hre] at HREF
    dsimp only at HREF
    have HRE := Lib.hid hre
    clear hae hre
    obtain ⟨c0, c8, c9, c10, clt⟩ := HCX.out _ HWR.out
    by_cases hV : Valid (L.map Prod.fst)
    rotate_left
    · rw [vE_no hV] at HCHK
      clear hV
      go_enter Tryz.func4, Tryz.ntmps4
      apply wp_seq_k
      intro K hK
      apply wp_region_lit
      refine Great.wpList_boxTo rfl _ _ rfl _ rfl w.heap.size rfl #[lv, .int .i64 b.job, .string (str b.name), .string (str b.user), .string (str b.pool), .bool b.opn, ge, gr, .string (str name), .string (str user), .int .i64 job] rfl ?_
      rw [HW.out]
      go_wp2_with (first
        | (refine wpl_load_g (by rfl) _ _ rfl w.heap.size rfl _ _ _ _ (HBX.out _ HWR.out) Tryz.underlying28 rfl (by kernel_rfl) ?_)
        | (go_at_call 7; ((with_reducible refine (HGR.out _ HWR.out).mono ?_); rintro e w1 ⟨rfl, hb⟩); have Aw1 := Lib.hid hb; clear hb; obtain ⟨c0, c8, c9, c10, clt⟩ := HCX.out _ Aw1.out)
        | (go_at_call 11; ((with_reducible refine (HCHK.out _ Aw1.out).mono ?_); rintro e w2 ⟨rfl, hb⟩); have Aw2 := Lib.hid (Aw1.out.trans (hb.mono Aw1.out.size)); clear hb)
        | (go_at_call 8; ((with_reducible refine (lhead_any PB _).mono ?_); rintro e w3 ⟨rfl, hb⟩); have A3 := Lib.hid (Aw2.out.trans (hb.mono Aw2.out.size)); clear hb))
      go_ret
      exact ⟨rfl, HFIN.out _ A3.out⟩
    rw [show vE (L.map Prod.fst) = 0 from if_pos hV] at HCHK
    have HV := Lib.hid hV
    clear hV
    go_enter Tryz.func4, Tryz.ntmps4
    apply wp_seq_k
    intro K hK
    apply wp_region_lit
    refine Great.wpList_boxTo rfl _ _ rfl _ rfl w.heap.size rfl #[lv, .int .i64 b.job, .string (str b.name), .string (str b.user), .string (str b.pool), .bool b.opn, ge, gr, .string (str name), .string (str user), .int .i64 job] rfl ?_
    rw [HW.out]
    go_upto_region 3 with (first
      | (refine wpl_load_g (by rfl) _ _ rfl w.heap.size rfl _ _ _ _ (HBX.out _ HWR.out) Tryz.underlying28 rfl (by kernel_rfl) ?_)
      | (go_at_call 7; ((with_reducible refine (HGR.out _ HWR.out).mono ?_); rintro e w1 ⟨rfl, hb⟩); have Hw1 := Lib.hid hb; have Aw1 := Lib.hid hb; clear hb; obtain ⟨c0, c8, c9, c10, clt⟩ := HCX.out _ Aw1.out)
      | (go_at_call 11; ((with_reducible refine (HCHK.out _ Aw1.out).mono ?_); rintro e w2 ⟨rfl, hb⟩); have Hw2 := Lib.hid hb; have Aw2 := Lib.hid (Aw1.out.trans (hb.mono Aw1.out.size)); clear hb))
    obtain ⟨c0, c8, c9, c10, clt⟩ := HCX.out _ Aw2.out
    go_upto_region 4 with (first
      | (refine wpList_load_mid rfl _ _ rfl w.heap.size 1 rfl [.int .i64 b.job, .string (str b.name), .string (str b.user), .string (str b.pool), .bool b.opn, ge, gr] _ (HAR.out _ Aw2.out) Tryz.underlying26 rfl (by kernel_rfl) ?_)
      | (go_at_call 9; ((with_reducible refine (HADD.out _ Aw2.out).mono ?_); rintro e w3 hq); obtain ⟨v3, M3, rfl, hm, ho, hi, hb⟩ := hq; have HM3 := Lib.hid hm; have HO3 := Lib.hid ho; have HI3 := Lib.hid (ho.ib hi); have Hw3 := Lib.hid hb; have Aw3 := Lib.hid (show Below W.heap.size W w3 from (Aw2.out).trans (hb.mono (Aw2.out).size)); clear hm ho hi hb))
    obtain ⟨c0, c8, c9, c10, clt⟩ := HCX.out _ Aw3.out
    obtain ⟨d1, d2, d3, d7⟩ := HCY.out _ Aw3.out
    by_cases hea : ea = 0
    rotate_left
    · have x0 : (ea == 0) = false := by rw [beq_eq_false_iff_ne]; exact hea
      clear hea
      go_upto_region 23 with (go_at_call 14; ((with_reducible refine (HREF.out _ Aw3.out).mono ?_); rintro e wA hq); obtain ⟨vA, MA, rfl, hm, hi, hb⟩ := hq.q; have HMA := Lib.hid hm; have HIA := Lib.hid hi; have HwA := Lib.hid hb; have AwA := Lib.hid (show Below W.heap.size W wA from (Aw3.out).trans (hb.mono (Aw3.out).size)); clear hm hi hb)
      obtain ⟨c0, c8, c9, c10, clt⟩ := HCX.out _ AwA.out
      by_cases her : er = 0
      rotate_left
      · have x9 : (er != 0) = true := by rw [bne_iff_ne]; exact her
        clear her
        go_wp2_with (go_at_call 8; ((with_reducible refine (lhead_any PB _).mono ?_); rintro e wH ⟨rfl, hb⟩); have AwH := Lib.hid ((AwA.out).trans (hb.mono (AwA.out).size)); clear hb)
        go_ret
        exact ⟨rfl, HFIN.out _ AwH.out⟩
      subst her
      obtain ⟨F1, F2, F3, F4⟩ := bu.ref_back HRE.out
      rw [F2] at HUNR
      dsimp only at HUNR
      have HF1 := Lib.hid F1
      have HF3 := Lib.hid F3
      clear F1 F2 F3 F4
      go_upto_region 26 with (go_at_call 16; ((with_reducible refine (HUNR.out _ AwA.out).mono ?_); rintro e wB hq); obtain ⟨vB, MB, rfl, hm, hi, hb⟩ := hq; have HMB := Lib.hid hm; have HIB_ := Lib.hid hi; have HwB := Lib.hid hb; have AwB := Lib.hid (show Below W.heap.size W wB from (AwA.out).trans (hb.mono (AwA.out).size)); clear hm hi hb)
      obtain ⟨c0, c8, c9, c10, clt⟩ := HCX.out _ AwB.out
      have HU2 := Lib.hid (PB.unref (HIA.out.next HwB.out) job HJB.out)
      rw [HMA.out, HF3.out] at HU2
      dsimp only at HU2
      go_upto_region 27 with (go_at_call 16; ((with_reducible refine (HU2.out).mono ?_); rintro e wC hq); obtain ⟨vC, MC, rfl, hm, hi, hb⟩ := hq; have HMC := Lib.hid hm; have HIC := Lib.hid hi; have HwC := Lib.hid hb; have AwC := Lib.hid (show Below W.heap.size W wC from (AwB.out).trans (hb.mono (AwB.out).size)); clear hm hi hb)
      obtain ⟨c0, c8, c9, c10, clt⟩ := HCX.out _ AwC.out
      have HSD := Lib.hid (dSameB_any (HIB_.out.rows.next HwC.out) HIC.out.rows HIB_.out.bis HIC.out.bis)
      rw [HMB.out, HMC.out, decide_eq_true rfl] at HSD
      go_wp2_with (first
        | (go_at_call 13; ((with_reducible refine HSD.out.mono ?_); rintro e wD ⟨rfl, hb⟩); have HwD := Lib.hid hb; have AwD := Lib.hid (AwC.out.trans (hb.mono AwC.out.size)); clear hb)
        | (go_at_call 11; have h1 := PB.check (HIA.out.next ((HwB.out.trans (HwC.out.mono HwB.out.size)).trans (HwD.out.mono (HwB.out.trans (HwC.out.mono HwB.out.size)).size))); rw [HMA.out, show vE lr = 0 from if_pos HF1.out] at h1; ((with_reducible refine h1.mono ?_); rintro e wE ⟨rfl, hb⟩); have AwE := Lib.hid (AwD.out.trans (hb.mono AwD.out.size)); clear hb h1)
        | (go_at_call 8; ((with_reducible refine (lhead_any PB _).mono ?_); rintro e wF ⟨rfl, hb⟩); have AwF := Lib.hid ((AwE.out).trans (hb.mono (AwE.out).size)); clear hb))
      go_ret
      exact ⟨rfl, HFIN.out _ AwF.out⟩
    subst hea
    have FV := Lib.hid (show Valid la by have := bu.add_valid (L.map Prod.fst) b; rw [HAE.out] at this; exact this)
    have x0 : True := trivial
    by_cases hj : b.job = 0
    rotate_left
    · obtain ⟨G1, G2⟩ := bu.add_of HAE.out hj
      have HF4 := Lib.hid (PB.free HI3.out b.job HBI.out.job)
      rw [HM3.out, G2] at HF4
      dsimp only at HF4
      have x1 : (b.job == 0) = false := by rw [beq_eq_false_iff_ne]; exact hj
      have HG1 := Lib.hid G1
      clear G1 G2 hj
      go_upto_region 6 with (first
        | (go_at_call 21; ((with_reducible refine HF4.out.mono ?_); rintro e w4 hq); obtain ⟨v4, M4, g4, rfl, hm, ho, hi, ht, hbi, hcb, hb⟩ := hq; have Hw4 := Lib.hid hb; have Aw4 := Lib.hid (show Below W.heap.size W w4 from (Aw3.out).trans (hb.mono (Aw3.out).size)); have HM4 := Lib.hid hm; have HI4 := Lib.hid (ho.ib hi); have HR4 := Lib.hid (ht.rb (fun q hq => (HI3.out.next hb).rows.rows q hq)); clear hm ho hi ht hbi hcb hb)
        | (refine wpList_store_row rfl _ _ _ rfl w4.heap.size (bcs b g4) rfl rfl _ _ (BoxA.new w4 _ _) (by kernel_rfl) rfl (bcs_all (HR4.out)) ?_))
      obtain ⟨W4, hW, hkW, hbW⟩ := box_endB w4 #[.int .i64 0, .string { data := #[] }, .string { data := #[] }, .string { data := #[] }, .bool false, .slice none 0 0, .slice none 0 0] (bcs b g4) 26
      rw [hW]
      have HX4 := Lib.hid (show BoxA W4 w4.heap.size 26 (bcs b g4) from hkW)
      have HW4 := Lib.hid hbW
      have AW4 := Lib.hid (show Below W.heap.size W W4 from Aw4.out.trans (hbW.mono Aw4.out.size))
      clear hW hkW hbW
      try simp only [Act.put]
      obtain ⟨c0, c8, c9, c10, clt⟩ := HCX.out _ AW4.out
      obtain ⟨d1, d2, d3, d7⟩ := HCY.out _ AW4.out
      have HF5 := Lib.hid (PB.of (HI3.out.next (Hw4.out.trans (HW4.out.mono Hw4.out.size))) b.job HBI.out.job)
      rw [HM3.out, HG1.out] at HF5
      dsimp only at HF5
      go_upto_region 7 with (first
        | (go_at_call 25; ((with_reducible refine HF5.out.mono ?_); rintro e w5 hq); obtain ⟨g5, rfl, ht, hbi, hcb, hb⟩ := hq; have Hw5 := Lib.hid hb; have Aw5 := Lib.hid (show Below W.heap.size W w5 from (AW4.out).trans (hb.mono (AW4.out).size)); have HR5 := Lib.hid (ht.rb (fun q hq => (HI3.out.next ((Hw4.out.trans (HW4.out.mono Hw4.out.size)).trans (hb.mono (Hw4.out.trans (HW4.out.mono Hw4.out.size)).size))).rows.rows q hq)); clear ht hbi hcb hb)
        | (refine wpList_store_row rfl _ _ _ rfl w5.heap.size (bcs b g5) rfl rfl _ _ (BoxA.new w5 _ _) (by kernel_rfl) rfl (bcs_all (HR5.out)) ?_))
      obtain ⟨W5, hW, hkW, hbW⟩ := box_endB w5 #[.int .i64 0, .string { data := #[] }, .string { data := #[] }, .string { data := #[] }, .bool false, .slice none 0 0, .slice none 0 0] (bcs b g5) 26
      rw [hW]
      have HX5 := Lib.hid (show BoxA W5 w5.heap.size 26 (bcs b g5) from hkW)
      have HW5 := Lib.hid hbW
      have AW5 := Lib.hid (show Below W.heap.size W W5 from Aw5.out.trans (hbW.mono Aw5.out.size))
      clear hW hkW hbW
      try simp only [Act.put]
      obtain ⟨c0, c8, c9, c10, clt⟩ := HCX.out _ AW5.out
      obtain ⟨d1, d2, d3, d7⟩ := HCY.out _ AW5.out
      have HSM := Lib.hid (fun (Y : World) (hy : Below w4.heap.size w4 Y) (ha : Below W.heap.size W Y) => dSameB_any (HI4.out.next hy).rows (HIX.out Y ha).rows HI4.out.bis HIB.out)
      rw [HM4.out, decide_eq_true rfl] at HSM
      go_upto_region 22 with (first
        | (go_at_call 20; have h1 : Calls Tryz.prog 20 #[.agg (bcs b g5), .agg #[.int .i64 b.job, .string (str b.name), .string (str b.user), .string (str b.pool), .bool b.opn, ge, gr]] W5 (TellsM (.bool true) W5) := (by have h2 := dOne_any b b g5 ⟨ge, gr⟩ W5 (HR5.out.next HW5.out) (HBR.out _ AW5.out) HBI.out HBI.out; rw [decide_eq_true rfl] at h2; exact h2); ((with_reducible refine h1.mono ?_); rintro e w6 ⟨rfl, hb⟩); have Hw6 := Lib.hid hb; have Aw6 := Lib.hid (show Below W.heap.size W w6 from (AW5.out).trans (hb.mono (AW5.out).size)); obtain ⟨c0, c8, c9, c10, clt⟩ := HCX.out _ Aw6.out; clear hb h1)
        | (go_at_call 20; have h1 : Calls Tryz.prog 20 #[.agg (bcs b g4), .agg #[.int .i64 b.job, .string (str b.name), .string (str b.user), .string (str b.pool), .bool b.opn, ge, gr]] w6 (TellsM (.bool true) w6) := (by have h2 := dOne_any b b g4 ⟨ge, gr⟩ w6 (HR4.out.next (((HW4.out.trans (Hw5.out.mono HW4.out.size)).trans (HW5.out.mono (HW4.out.trans (Hw5.out.mono HW4.out.size)).size)).trans (Hw6.out.mono ((HW4.out.trans (Hw5.out.mono HW4.out.size)).trans (HW5.out.mono (HW4.out.trans (Hw5.out.mono HW4.out.size)).size)).size))) (HBR.out _ Aw6.out) HBI.out HBI.out; rw [decide_eq_true rfl] at h2; exact h2); ((with_reducible refine h1.mono ?_); rintro e w7 ⟨rfl, hb⟩); have Hw7 := Lib.hid hb; have Aw7 := Lib.hid (show Below W.heap.size W w7 from (Aw6.out).trans (hb.mono (Aw6.out).size)); obtain ⟨c0, c8, c9, c10, clt⟩ := HCX.out _ Aw7.out; clear hb h1)
        | (refine wpl_load_g (by rfl) _ _ rfl w5.heap.size rfl _ _ _ _ HX5.out Tryz.underlying26 rfl (by kernel_rfl) ?_)
        | (refine wpl_load_g (by rfl) _ _ rfl w4.heap.size rfl _ _ _ _ (HX4.out.next ((Hw5.out.trans (HW5.out.mono Hw5.out.size)).trans (Hw6.out.mono (Hw5.out.trans (HW5.out.mono Hw5.out.size)).size))) Tryz.underlying26 rfl (by kernel_rfl) ?_)
        | (refine wpl_load_mid_g (by rfl) _ _ rfl w.heap.size 1 rfl [.int .i64 b.job, .string (str b.name), .string (str b.user), .string (str b.pool), .bool b.opn, ge, gr] _ (HAR.out _ AW5.out) Tryz.underlying26 rfl (by kernel_rfl) ?_)
        | (refine wpl_load_mid_g (by rfl) _ _ rfl w.heap.size 1 rfl [.int .i64 b.job, .string (str b.name), .string (str b.user), .string (str b.pool), .bool b.opn, ge, gr] _ (HAR.out _ Aw6.out) Tryz.underlying26 rfl (by kernel_rfl) ?_)
        | (go_at_call 13; ((with_reducible refine (HSM.out _ ((((HW4.out.trans (Hw5.out.mono HW4.out.size)).trans (HW5.out.mono (HW4.out.trans (Hw5.out.mono HW4.out.size)).size)).trans (Hw6.out.mono ((HW4.out.trans (Hw5.out.mono HW4.out.size)).trans (HW5.out.mono (HW4.out.trans (Hw5.out.mono HW4.out.size)).size)).size)).trans (Hw7.out.mono (((HW4.out.trans (Hw5.out.mono HW4.out.size)).trans (HW5.out.mono (HW4.out.trans (Hw5.out.mono HW4.out.size)).size)).trans (Hw6.out.mono ((HW4.out.trans (Hw5.out.mono HW4.out.size)).trans (HW5.out.mono (HW4.out.trans (Hw5.out.mono HW4.out.size)).size)).size)).size)) Aw7.out).mono ?_); rintro e w8 ⟨rfl, hb⟩); have Hw8 := Lib.hid hb; have Aw8 := Lib.hid (Aw7.out.trans (hb.mono Aw7.out.size)); clear hb)
        | (go_at_call 11; have h1 := PB.check (HI3.out.next ((((((Hw4.out.trans (HW4.out.mono Hw4.out.size)).trans (Hw5.out.mono (Hw4.out.trans (HW4.out.mono Hw4.out.size)).size)).trans (HW5.out.mono ((Hw4.out.trans (HW4.out.mono Hw4.out.size)).trans (Hw5.out.mono (Hw4.out.trans (HW4.out.mono Hw4.out.size)).size)).size)).trans (Hw6.out.mono (((Hw4.out.trans (HW4.out.mono Hw4.out.size)).trans (Hw5.out.mono (Hw4.out.trans (HW4.out.mono Hw4.out.size)).size)).trans (HW5.out.mono ((Hw4.out.trans (HW4.out.mono Hw4.out.size)).trans (Hw5.out.mono (Hw4.out.trans (HW4.out.mono Hw4.out.size)).size)).size)).size)).trans (Hw7.out.mono ((((Hw4.out.trans (HW4.out.mono Hw4.out.size)).trans (Hw5.out.mono (Hw4.out.trans (HW4.out.mono Hw4.out.size)).size)).trans (HW5.out.mono ((Hw4.out.trans (HW4.out.mono Hw4.out.size)).trans (Hw5.out.mono (Hw4.out.trans (HW4.out.mono Hw4.out.size)).size)).size)).trans (Hw6.out.mono (((Hw4.out.trans (HW4.out.mono Hw4.out.size)).trans (Hw5.out.mono (Hw4.out.trans (HW4.out.mono Hw4.out.size)).size)).trans (HW5.out.mono ((Hw4.out.trans (HW4.out.mono Hw4.out.size)).trans (Hw5.out.mono (Hw4.out.trans (HW4.out.mono Hw4.out.size)).size)).size)).size)).size)).trans (Hw8.out.mono (((((Hw4.out.trans (HW4.out.mono Hw4.out.size)).trans (Hw5.out.mono (Hw4.out.trans (HW4.out.mono Hw4.out.size)).size)).trans (HW5.out.mono ((Hw4.out.trans (HW4.out.mono Hw4.out.size)).trans (Hw5.out.mono (Hw4.out.trans (HW4.out.mono Hw4.out.size)).size)).size)).trans (Hw6.out.mono (((Hw4.out.trans (HW4.out.mono Hw4.out.size)).trans (Hw5.out.mono (Hw4.out.trans (HW4.out.mono Hw4.out.size)).size)).trans (HW5.out.mono ((Hw4.out.trans (HW4.out.mono Hw4.out.size)).trans (Hw5.out.mono (Hw4.out.trans (HW4.out.mono Hw4.out.size)).size)).size)).size)).trans (Hw7.out.mono ((((Hw4.out.trans (HW4.out.mono Hw4.out.size)).trans (Hw5.out.mono (Hw4.out.trans (HW4.out.mono Hw4.out.size)).size)).trans (HW5.out.mono ((Hw4.out.trans (HW4.out.mono Hw4.out.size)).trans (Hw5.out.mono (Hw4.out.trans (HW4.out.mono Hw4.out.size)).size)).size)).trans (Hw6.out.mono (((Hw4.out.trans (HW4.out.mono Hw4.out.size)).trans (Hw5.out.mono (Hw4.out.trans (HW4.out.mono Hw4.out.size)).size)).trans (HW5.out.mono ((Hw4.out.trans (HW4.out.mono Hw4.out.size)).trans (Hw5.out.mono (Hw4.out.trans (HW4.out.mono Hw4.out.size)).size)).size)).size)).size)).size))); rw [HM3.out, show vE la = 0 from if_pos FV.out] at h1; ((with_reducible refine h1.mono ?_); rintro e w9 ⟨rfl, hb⟩); have Hw9 := Lib.hid hb; have Aw9 := Lib.hid (Aw8.out.trans (hb.mono Aw8.out.size)); clear hb h1))
      obtain ⟨c0, c8, c9, c10, clt⟩ := HCX.out _ Aw9.out
      go_upto_region 23 with (go_at_call 14; ((with_reducible refine (HREF.out _ Aw9.out).mono ?_); rintro e wA hq); obtain ⟨vA, MA, rfl, hm, hi, hb⟩ := hq.q; have HMA := Lib.hid hm; have HIA := Lib.hid hi; have HwA := Lib.hid hb; have AwA := Lib.hid (show Below W.heap.size W wA from (Aw9.out).trans (hb.mono (Aw9.out).size)); clear hm hi hb)
      obtain ⟨c0, c8, c9, c10, clt⟩ := HCX.out _ AwA.out
      by_cases her : er = 0
      rotate_left
      · have x9 : (er != 0) = true := by rw [bne_iff_ne]; exact her
        clear her
        go_wp2_with (go_at_call 8; ((with_reducible refine (lhead_any PB _).mono ?_); rintro e wH ⟨rfl, hb⟩); have AwH := Lib.hid ((AwA.out).trans (hb.mono (AwA.out).size)); clear hb)
        go_ret
        exact ⟨rfl, HFIN.out _ AwH.out⟩
      subst her
      obtain ⟨F1, F2, F3, F4⟩ := bu.ref_back HRE.out
      rw [F2] at HUNR
      dsimp only at HUNR
      have HF1 := Lib.hid F1
      have HF3 := Lib.hid F3
      clear F1 F2 F3 F4
      go_upto_region 26 with (go_at_call 16; ((with_reducible refine (HUNR.out _ AwA.out).mono ?_); rintro e wB hq); obtain ⟨vB, MB, rfl, hm, hi, hb⟩ := hq; have HMB := Lib.hid hm; have HIB_ := Lib.hid hi; have HwB := Lib.hid hb; have AwB := Lib.hid (show Below W.heap.size W wB from (AwA.out).trans (hb.mono (AwA.out).size)); clear hm hi hb)
      obtain ⟨c0, c8, c9, c10, clt⟩ := HCX.out _ AwB.out
      have HU2 := Lib.hid (PB.unref (HIA.out.next HwB.out) job HJB.out)
      rw [HMA.out, HF3.out] at HU2
      dsimp only at HU2
      go_upto_region 27 with (go_at_call 16; ((with_reducible refine (HU2.out).mono ?_); rintro e wC hq); obtain ⟨vC, MC, rfl, hm, hi, hb⟩ := hq; have HMC := Lib.hid hm; have HIC := Lib.hid hi; have HwC := Lib.hid hb; have AwC := Lib.hid (show Below W.heap.size W wC from (AwB.out).trans (hb.mono (AwB.out).size)); clear hm hi hb)
      obtain ⟨c0, c8, c9, c10, clt⟩ := HCX.out _ AwC.out
      have HSD := Lib.hid (dSameB_any (HIB_.out.rows.next HwC.out) HIC.out.rows HIB_.out.bis HIC.out.bis)
      rw [HMB.out, HMC.out, decide_eq_true rfl] at HSD
      go_wp2_with (first
        | (go_at_call 13; ((with_reducible refine HSD.out.mono ?_); rintro e wD ⟨rfl, hb⟩); have HwD := Lib.hid hb; have AwD := Lib.hid (AwC.out.trans (hb.mono AwC.out.size)); clear hb)
        | (go_at_call 11; have h1 := PB.check (HIA.out.next ((HwB.out.trans (HwC.out.mono HwB.out.size)).trans (HwD.out.mono (HwB.out.trans (HwC.out.mono HwB.out.size)).size))); rw [HMA.out, show vE lr = 0 from if_pos HF1.out] at h1; ((with_reducible refine h1.mono ?_); rintro e wE ⟨rfl, hb⟩); have AwE := Lib.hid (AwD.out.trans (hb.mono AwD.out.size)); clear hb h1)
        | (go_at_call 8; ((with_reducible refine (lhead_any PB _).mono ?_); rintro e wF ⟨rfl, hb⟩); have AwF := Lib.hid ((AwE.out).trans (hb.mono (AwE.out).size)); clear hb))
      go_ret
      exact ⟨rfl, HFIN.out _ AwF.out⟩
    obtain ⟨Z1, Z2, Z3⟩ := bu.add_find HAE.out hj
    have x1 : (b.job == 0) = true := by rw [hj]; rfl
    have HZ2 := Lib.hid Z2
    have HZ3 := Lib.hid Z3
    clear Z2 Z3
    have HFJ := Lib.hid (PB.free HI3.out b.job HBI.out.job)
    obtain ⟨lf, hlf⟩ : ∃ x, (freeS (M3.map Prod.fst) b.job).1 = x := ⟨_, rfl⟩
    rw [hlf] at HFJ
    obtain ⟨bf, hbf⟩ : ∃ x, (freeS (M3.map Prod.fst) b.job).2.1 = x := ⟨_, rfl⟩
    rw [hbf] at HFJ
    obtain ⟨ef, hef⟩ : ∃ x, (freeS (M3.map Prod.fst) b.job).2.2 = x := ⟨_, rfl⟩
    rw [hef] at HFJ
    clear hlf hbf hef hj
    go_upto_region 6 with (first
      | (go_at_call 21; ((with_reducible refine HFJ.out.mono ?_); rintro e w4 hq); obtain ⟨v4, M4, g4, rfl, hm, ho, hi, ht, hbi, hcb, hb⟩ := hq; have Hw4 := Lib.hid hb; have Aw4 := Lib.hid (show Below W.heap.size W w4 from (Aw3.out).trans (hb.mono (Aw3.out).size)); have HR4 := Lib.hid (ht.rb (fun q hq => (HI3.out.next hb).rows.rows q hq)); clear hm ho hi ht hbi hcb hb)
      | (refine wpList_store_row rfl _ _ _ rfl w4.heap.size (bcs bf g4) rfl rfl _ _ (BoxA.new w4 _ _) (by kernel_rfl) rfl (bcs_all (HR4.out)) ?_))
    obtain ⟨W4, hW, hkW, hbW⟩ := box_endB w4 #[.int .i64 0, .string { data := #[] }, .string { data := #[] }, .string { data := #[] }, .bool false, .slice none 0 0, .slice none 0 0] (bcs bf g4) 26
    rw [hW]
    have HX4 := Lib.hid (show BoxA W4 w4.heap.size 26 (bcs bf g4) from hkW)
    have HW4 := Lib.hid hbW
    have AW4 := Lib.hid (show Below W.heap.size W W4 from Aw4.out.trans (hbW.mono Aw4.out.size))
    clear hW hkW hbW
    try simp only [Act.put]
    obtain ⟨c0, c8, c9, c10, clt⟩ := HCX.out _ AW4.out
    obtain ⟨d1, d2, d3, d7⟩ := HCY.out _ AW4.out
    have HOJ := Lib.hid (PB.of (HI3.out.next (Hw4.out.trans (HW4.out.mono Hw4.out.size))) b.job HBI.out.job)
    obtain ⟨bo, hbo⟩ : ∃ x, (ofS (M3.map Prod.fst) b.job).1 = x := ⟨_, rfl⟩
    rw [hbo] at HOJ
    obtain ⟨tq, htq⟩ : ∃ x, (ofS (M3.map Prod.fst) b.job).2 = x := ⟨_, rfl⟩
    rw [htq] at HOJ
    clear hbo htq
    go_upto_region 7 with (first
      | (go_at_call 25; ((with_reducible refine HOJ.out.mono ?_); rintro e w5 hq); obtain ⟨g5, rfl, ht, hbi, hcb, hb⟩ := hq; have Hw5 := Lib.hid hb; have Aw5 := Lib.hid (show Below W.heap.size W w5 from (AW4.out).trans (hb.mono (AW4.out).size)); have HR5 := Lib.hid (ht.rb (fun q hq => (HI3.out.next ((Hw4.out.trans (HW4.out.mono Hw4.out.size)).trans (hb.mono (Hw4.out.trans (HW4.out.mono Hw4.out.size)).size))).rows.rows q hq)); clear ht hbi hcb hb)
      | (refine wpList_store_row rfl _ _ _ rfl w5.heap.size (bcs bo g5) rfl rfl _ _ (BoxA.new w5 _ _) (by kernel_rfl) rfl (bcs_all (HR5.out)) ?_))
    obtain ⟨W5, hW, hkW, hbW⟩ := box_endB w5 #[.int .i64 0, .string { data := #[] }, .string { data := #[] }, .string { data := #[] }, .bool false, .slice none 0 0, .slice none 0 0] (bcs bo g5) 26
    rw [hW]
    have HX5 := Lib.hid (show BoxA W5 w5.heap.size 26 (bcs bo g5) from hkW)
    have HW5 := Lib.hid hbW
    have AW5 := Lib.hid (show Below W.heap.size W W5 from Aw5.out.trans (hbW.mono Aw5.out.size))
    clear hW hkW hbW
    try simp only [Act.put]
    obtain ⟨c0, c8, c9, c10, clt⟩ := HCX.out _ AW5.out
    obtain ⟨d1, d2, d3, d7⟩ := HCY.out _ AW5.out
    have HFD := Lib.hid (PB.find (HI3.out.next (((Hw4.out.trans (HW4.out.mono Hw4.out.size)).trans (Hw5.out.mono (Hw4.out.trans (HW4.out.mono Hw4.out.size)).size)).trans (HW5.out.mono ((Hw4.out.trans (HW4.out.mono Hw4.out.size)).trans (Hw5.out.mono (Hw4.out.trans (HW4.out.mono Hw4.out.size)).size)).size))) b.name HBI.out.ln)
    rw [HM3.out, Z1] at HFD
    dsimp only at HFD
    clear Z1
    go_upto_region 9 with (first
      | (go_at_call 23; ((with_reducible refine HFD.out.mono ?_); rintro e w6 hq); obtain ⟨g6, rfl, ht, hbi, hcb, hb⟩ := hq; have Hw6 := Lib.hid hb; have Aw6 := Lib.hid (show Below W.heap.size W w6 from (AW5.out).trans (hb.mono (AW5.out).size)); have HT6 := Lib.hid ht; clear ht hbi hcb hb)
      | (refine wpList_store_row rfl _ _ _ rfl w5.heap.size (bcs b g6) rfl rfl _ _ (HX5.out.next Hw6.out) (by kernel_rfl) rfl (bcs_all (HT6.out.rb (fun q hq => (HI3.out.next ((((Hw4.out.trans (HW4.out.mono Hw4.out.size)).trans (Hw5.out.mono (Hw4.out.trans (HW4.out.mono Hw4.out.size)).size)).trans (HW5.out.mono ((Hw4.out.trans (HW4.out.mono Hw4.out.size)).trans (Hw5.out.mono (Hw4.out.trans (HW4.out.mono Hw4.out.size)).size)).size)).trans (Hw6.out.mono (((Hw4.out.trans (HW4.out.mono Hw4.out.size)).trans (Hw5.out.mono (Hw4.out.trans (HW4.out.mono Hw4.out.size)).size)).trans (HW5.out.mono ((Hw4.out.trans (HW4.out.mono Hw4.out.size)).trans (Hw5.out.mono (Hw4.out.trans (HW4.out.mono Hw4.out.size)).size)).size)).size))).rows.rows q hq))) ?_))
    have HL5 := Lib.hid (show w5.heap.size < W5.heap.size from BoxA.lt HX5.out)
    have HNE := Lib.hid (show w4.heap.size ≠ w5.heap.size by have := BoxA.lt HX4.out; have := Hw5.out.size; omega)
    have HL4 := Lib.hid (show w4.heap.size < W5.heap.size by have := BoxA.lt HX4.out; have := Hw5.out.size; have := HW5.out.size; omega)
    obtain ⟨W6, hW⟩ : ∃ W6, w6.setRow w5.heap.size (bcs b g6) = W6 := ⟨_, rfl⟩
    rw [hW]
    have HX6 := Lib.hid (show BoxA W6 w5.heap.size 26 (bcs b g6) by rw [← hW]; exact setRow_heap _ _ _ _ _ _ (HX5.out.next Hw6.out))
    have HX4b := Lib.hid (show BoxA W6 w4.heap.size 26 (bcs bf g4) by rw [← hW]; exact (setRow_other _ _ _ _ HNE.out).trans (HX4.out.next ((Hw5.out.trans (HW5.out.mono Hw5.out.size)).trans (Hw6.out.mono (Hw5.out.trans (HW5.out.mono Hw5.out.size)).size))))
    have AW6 := Lib.hid (show Below W.heap.size W W6 by rw [← hW]; exact below_setRow Aw6.out Aw5.out.size _)
    have BW6 := Lib.hid (show Below w3.heap.size w3 W6 by rw [← hW]; exact below_setRow ((((Hw4.out.trans (HW4.out.mono Hw4.out.size)).trans (Hw5.out.mono (Hw4.out.trans (HW4.out.mono Hw4.out.size)).size)).trans (HW5.out.mono ((Hw4.out.trans (HW4.out.mono Hw4.out.size)).trans (Hw5.out.mono (Hw4.out.trans (HW4.out.mono Hw4.out.size)).size)).size)).trans (Hw6.out.mono (((Hw4.out.trans (HW4.out.mono Hw4.out.size)).trans (Hw5.out.mono (Hw4.out.trans (HW4.out.mono Hw4.out.size)).size)).trans (HW5.out.mono ((Hw4.out.trans (HW4.out.mono Hw4.out.size)).trans (Hw5.out.mono (Hw4.out.trans (HW4.out.mono Hw4.out.size)).size)).size)).size)) ((Hw4.out.trans (HW4.out.mono Hw4.out.size)).trans (Hw5.out.mono (Hw4.out.trans (HW4.out.mono Hw4.out.size)).size)).size _)
    have HT6b := Lib.hid (show ToldB M3 W5.heap.size W6 b g6 by rw [← hW]; exact HT6.out.set HL5.out _)
    have HR6 := Lib.hid (show RB W6 b g6 from ToldB.rb HT6b.out (fun q hq => (HI3.out.next BW6.out).rows.rows q hq))
    have HZ6 := Lib.hid (show W5.heap.size ≤ W6.heap.size by rw [← hW]; exact Nat.le_trans Hw6.out.size (by simp [World.setRow]))
    clear hW
    try simp only [Act.put]
    obtain ⟨c0, c8, c9, c10, clt⟩ := HCX.out _ AW6.out
    obtain ⟨d1, d2, d3, d7⟩ := HCY.out _ AW6.out
    have HUN := Lib.hid (PB.unref (HI3.out.next BW6.out) 1 (by decide))
    have VU := (bu.unrefS_valid (M3.map Prod.fst) 1).1
    obtain ⟨lu, hlu⟩ : ∃ x, (unrefS (M3.map Prod.fst) 1).1 = x := ⟨_, rfl⟩
    rw [hlu] at HUN VU
    obtain ⟨eu, heu⟩ : ∃ x, (unrefS (M3.map Prod.fst) 1).2 = x := ⟨_, rfl⟩
    rw [heu] at HUN
    have HVU := Lib.hid VU
    clear hlu heu VU
    go_upto_region 10 with (go_at_call 16; ((with_reducible refine HUN.out.mono ?_); rintro e w7 hq); obtain ⟨v7, M7, rfl, hm, hi, hb⟩ := hq; have Hw7 := Lib.hid hb; have HM7 := Lib.hid hm; have HI7 := Lib.hid hi; clear hm hi hb)
    obtain ⟨p7, q7, hv7, -⟩ := HI7.out.rows.form
    subst hv7
    have HB7 := Lib.hid (show Below W6.heap.size W6 w7 ∧ IB w7 (.slice p7 M7.length q7) M7 ∧ Valid (M7.map Prod.fst) from ⟨Hw7.out, HI7.out, by rw [HM7.out]; exact HVU.out⟩)
    have hn20 : nb ≤ 20 := by have := HLKB.out.refs; rw [HNB.out] at this; exact this
    go_upto_region 11 with fail
    go_loopw [10, 12] (fun s10 s12 wr => ∃ (i : Nat) (M : List (Bf × Gb)) (pv : Option Addr) (m cv : Nat), s10 = .slice pv m cv ∧ s12 = .int .i64 (i : Nat) ∧ i ≤ nb ∧ Aside (Below W6.heap.size W6 wr ∧ IB wr (.slice pv m cv) M ∧ Valid (M.map Prod.fst))) (fun _ s12 _ => nb - (intOf s12).toNat)
    case atStart => exact ⟨0, M7, _, _, _, rfl, rfl, Nat.zero_le _, HB7.out⟩
    case round =>
    obtain ⟨i, M, pv, m, cv, rfl, rfl, hi, ha⟩ := hrel
    have HLW := Lib.hid (show Below W6.heap.size W6 wr from ha.1)
    have HIV := Lib.hid (show IB wr (.slice pv m cv) M from ha.2.1)
    have HVV := Lib.hid (show Valid (M.map Prod.fst) from ha.2.2)
    clear ha
    have Awr := Lib.hid (AW6.out.trans (HLW.out.mono AW6.out.size))
    have BWr := Lib.hid (BW6.out.trans (HLW.out.mono BW6.out.size))
    obtain ⟨c0, c8, c9, c10, clt⟩ := HCX.out _ Awr.out
    obtain ⟨d1, d2, d3, d7⟩ := HCY.out _ Awr.out
    by_cases hin : i < nb
    · obtain ⟨x, hx⟩ : ∃ x, b.refs[i]? = some x := ⟨_, List.getElem?_eq_getElem (by rw [HNB.out]; exact hin)⟩
      obtain ⟨k, off, rfl, hk, hc⟩ := HGI.out (ne_of_at hx)
      have hk1 : k < wr.heap.size := Nat.lt_of_lt_of_le hk (HFIN.out _ Awr.out).size
      have e0 := hc i x hx
      rw [← (HFIN.out _ Awr.out).cell (p := ⟨k, off + i, none⟩) hk] at e0
      have HUL := Lib.hid (PB.unref HIV.out x (HBI.out.refs x (List.mem_of_getElem? hx)))
      have VU := (bu.unrefS_valid (M.map Prod.fst) x).1
      obtain ⟨lv2, hlu⟩ : ∃ y, (unrefS (M.map Prod.fst) x).1 = y := ⟨_, rfl⟩
      rw [hlu] at HUL VU
      obtain ⟨ev2, heu⟩ : ∃ y, (unrefS (M.map Prod.fst) x).2 = y := ⟨_, rfl⟩
      rw [heu] at HUL
      have HVL := Lib.hid VU
      have hi20 : i < 20 := by omega
      clear hlu heu VU hx hc hk
      go_wp2_with (go_at_call 16; ((with_reducible refine HUL.out.mono ?_); rintro e w8 hq); obtain ⟨v8, M8, rfl, hm, hi8, hb⟩ := hq; obtain ⟨p8, q8, hv8, -⟩ := hi8.rows.form; subst hv8; have HS8 := Lib.hid (show Below W6.heap.size W6 w8 ∧ IB w8 (.slice p8 M8.length q8) M8 ∧ Valid (M8.map Prod.fst) from ⟨HLW.out.trans (hb.mono HLW.out.size), hi8, by rw [hm]; exact HVL.out⟩); clear hm hi8 hb)
      go_roundw
      case rel => exact ⟨i + 1, M8, _, _, _, rfl, by go_num, by omega, HS8.out⟩
      case measure => simp [intOf]; omega
    · have hin2 : i = nb := by omega
      clear hin hi
      have HDR := Lib.hid (pdrop_any (HI3.out.next BWr.out).rows (HI3.out.next BWr.out).bis b.name b.user)
      rw [HM3.out] at HDR
      by_cases hre : b.refs = []
      rotate_left
      · have x2 : nb ≠ 0 := fun h0 => hre (List.eq_nil_of_length_eq_zero (by rw [HNB.out]; exact h0))
        rw [HZ2.out hre] at HDR
        obtain ⟨ld, hld⟩ : ∃ x, (dropS la b.name b.user).1 = x := ⟨_, rfl⟩
        rw [hld] at HDR
        obtain ⟨bd, hbd⟩ : ∃ x, (dropS la b.name b.user).2.1 = x := ⟨_, rfl⟩
        rw [hbd] at HDR
        clear hld hbd hre
        go_upto_region 15 with (first
          | (go_at_call 18; ((with_reducible refine HDR.out.mono ?_); rintro e w8 hq); obtain ⟨v8, M8, g8, rfl, hm, ho, hi, ht, hbi, hcb, hb⟩ := hq; have Hw8 := Lib.hid hb; have Aw8 := Lib.hid (show Below W.heap.size W w8 from (Awr.out).trans (hb.mono (Awr.out).size)); have BW8 := Lib.hid (BWr.out.trans (hb.mono BWr.out.size)); have HR8 := Lib.hid (ht.rb (fun q hq => (HI3.out.next BW8.out).rows.rows q hq)); clear hm ho hi ht hbi hcb hb)
          | (refine wpList_store_row rfl _ _ _ rfl w8.heap.size (bcs bd g8) rfl rfl _ _ (BoxA.new w8 _ _) (by kernel_rfl) rfl (bcs_all (HR8.out)) ?_))
        obtain ⟨W8, hW, hkW, hbW⟩ := box_endB w8 #[.int .i64 0, .string { data := #[] }, .string { data := #[] }, .string { data := #[] }, .bool false, .slice none 0 0, .slice none 0 0] (bcs bd g8) 26
        rw [hW]
        have HX8 := Lib.hid (show BoxA W8 w8.heap.size 26 (bcs bd g8) from hkW)
        have HW8 := Lib.hid hbW
        have AW8 := Lib.hid (show Below W.heap.size W W8 from Aw8.out.trans (hbW.mono Aw8.out.size))
        clear hW hkW hbW
        try simp only [Act.put]
        obtain ⟨c0, c8, c9, c10, clt⟩ := HCX.out _ AW8.out
        obtain ⟨d1, d2, d3, d7⟩ := HCY.out _ AW8.out
        have BW8b := Lib.hid (BW8.out.trans (HW8.out.mono BW8.out.size))
        have HLW8 := Lib.hid (HLW.out.trans (((Hw8.out.trans (HW8.out.mono Hw8.out.size))).mono HLW.out.size))
        have x3 : (0 : Int) < (nb : Int) := by omega
        have x4 : ((nb : Int) == 0) = false := by rw [beq_eq_false_iff_ne]; omega
        have HIV8 := Lib.hid (HIV.out.next ((Hw8.out.trans (HW8.out.mono Hw8.out.size))))
        go_wp2_with (first
          | (go_at_call 20; have h1 : Calls Tryz.prog 20 #[.agg (bcs b g6), .agg #[.int .i64 b.job, .string (str b.name), .string (str b.user), .string (str b.pool), .bool b.opn, ge, gr]] W8 (TellsM (.bool true) W8) := (by have h2 := dOne_any b b g6 ⟨ge, gr⟩ W8 (HR6.out.next HLW8.out) (HBR.out _ AW8.out) HBI.out HBI.out; rw [decide_eq_true rfl] at h2; exact h2); ((with_reducible refine h1.mono ?_); rintro e w9 ⟨rfl, hb⟩); have Hw9 := Lib.hid hb; have Aw9 := Lib.hid (show Below W.heap.size W w9 from (AW8.out).trans (hb.mono (AW8.out).size)); obtain ⟨c0, c8, c9, c10, clt⟩ := HCX.out _ Aw9.out; clear hb h1)
          | (refine wpl_load_g (by rfl) _ _ rfl w5.heap.size rfl _ _ _ _ (HX6.out.next HLW8.out) Tryz.underlying26 rfl (by kernel_rfl) ?_)
          | (refine wpl_load_mid_g (by rfl) _ _ rfl w.heap.size 1 rfl [.int .i64 b.job, .string (str b.name), .string (str b.user), .string (str b.pool), .bool b.opn, ge, gr] _ (HAR.out _ AW8.out) Tryz.underlying26 rfl (by kernel_rfl) ?_)
          | (go_at_call 11; first
            | (have h1 := PB.check (HI3.out.next (BW8b.out.trans (Hw9.out.mono BW8b.out.size))); rw [HM3.out, show vE la = 0 from if_pos FV.out] at h1; ((with_reducible refine h1.mono ?_); rintro e w10 ⟨rfl, hb⟩); have Hw10 := Lib.hid hb; have Aw10 := Lib.hid (Aw9.out.trans (hb.mono Aw9.out.size)); clear hb h1)
            | (have h1 := PB.check (HIV8.out.next (Hw9.out.trans (Hw10.out.mono Hw9.out.size))); rw [show vE (M.map Prod.fst) = 0 from if_pos HVV.out] at h1; ((with_reducible refine h1.mono ?_); rintro e w11 ⟨rfl, hb⟩); have Hw11 := Lib.hid hb; have Aw11 := Lib.hid (Aw10.out.trans (hb.mono Aw10.out.size)); clear hb h1))
          | (go_at_call 8; ((with_reducible refine (lhead_any PB _).mono ?_); rintro e w12 ⟨rfl, hb⟩); have Aw12 := Lib.hid ((Aw11.out).trans (hb.mono (Aw11.out).size)); clear hb))
        go_ret
        exact ⟨rfl, HFIN.out _ Aw12.out⟩
      have x2 : nb = 0 := by rw [← HNB.out, hre]; rfl
      rw [HZ3.out hre] at HDR
      dsimp only at HDR
      go_upto_region 15 with (first
        | (go_at_call 18; ((with_reducible refine HDR.out.mono ?_); rintro e w8 hq); obtain ⟨v8, M8, g8, rfl, hm, ho, hi, ht, hbi, hcb, hb⟩ := hq; have Hw8 := Lib.hid hb; have Aw8 := Lib.hid (show Below W.heap.size W w8 from (Awr.out).trans (hb.mono (Awr.out).size)); have BW8 := Lib.hid (BWr.out.trans (hb.mono BWr.out.size)); have HR8 := Lib.hid (ht.rb (fun q hq => (HI3.out.next BW8.out).rows.rows q hq)); clear hm ho hi ht hbi hcb hb)
        | (refine wpList_store_row rfl _ _ _ rfl w8.heap.size (bcs b g8) rfl rfl _ _ (BoxA.new w8 _ _) (by kernel_rfl) rfl (bcs_all (HR8.out)) ?_))
      obtain ⟨W8, hW, hkW, hbW⟩ := box_endB w8 #[.int .i64 0, .string { data := #[] }, .string { data := #[] }, .string { data := #[] }, .bool false, .slice none 0 0, .slice none 0 0] (bcs b g8) 26
      rw [hW]
      have HX8 := Lib.hid (show BoxA W8 w8.heap.size 26 (bcs b g8) from hkW)
      have HW8 := Lib.hid hbW
      have AW8 := Lib.hid (show Below W.heap.size W W8 from Aw8.out.trans (hbW.mono Aw8.out.size))
      clear hW hkW hbW
      try simp only [Act.put]
      obtain ⟨c0, c8, c9, c10, clt⟩ := HCX.out _ AW8.out
      obtain ⟨d1, d2, d3, d7⟩ := HCY.out _ AW8.out
      have BW8b := Lib.hid (BW8.out.trans (HW8.out.mono BW8.out.size))
      have HLW8 := Lib.hid (HLW.out.trans (((Hw8.out.trans (HW8.out.mono Hw8.out.size))).mono HLW.out.size))
      subst x2
      have HDR2 := Lib.hid (pdrop_any (HI3.out.next BW8b.out).rows (HI3.out.next BW8b.out).bis b.name b.user)
      rw [HM3.out, HZ3.out hre] at HDR2
      dsimp only at HDR2
      clear hre
      go_upto_region 20 with (first
        | (go_at_call 18; ((with_reducible refine HDR2.out.mono ?_); rintro e w9 hq); obtain ⟨v9, M9, g9, rfl, hm, ho, hi, ht, hbi, hcb, hb⟩ := hq; have Hw9 := Lib.hid hb; have Aw9 := Lib.hid (show Below W.heap.size W w9 from (AW8.out).trans (hb.mono (AW8.out).size)); have BW9 := Lib.hid (BW8b.out.trans (hb.mono BW8b.out.size)); have HT9 := Lib.hid ht; have HO9 := Lib.hid ho; have HM9 := Lib.hid hm; have HS9 := Lib.hid hi; clear hm ho hi ht hbi hcb hb)
        | (refine wpList_store_row rfl _ _ _ rfl w4.heap.size (bcs b g9) rfl rfl _ _ (HX4b.out.next (HLW8.out.trans (Hw9.out.mono HLW8.out.size))) (by kernel_rfl) rfl (bcs_all (HT9.out.rb (fun q hq => (HI3.out.next BW9.out).rows.rows q hq))) ?_))
      have HL8 := Lib.hid (show W5.heap.size ≤ W8.heap.size from Nat.le_trans HZ6.out HLW8.out.size)
      obtain ⟨W9, hW⟩ : ∃ W9, w9.setRow w4.heap.size (bcs b g9) = W9 := ⟨_, rfl⟩
      rw [hW]
      have HX9 := Lib.hid (show BoxA W9 w4.heap.size 26 (bcs b g9) by rw [← hW]; exact setRow_heap _ _ _ _ _ _ (HX4b.out.next (HLW8.out.trans (Hw9.out.mono HLW8.out.size))))
      have HX6b := Lib.hid (show BoxA W9 w5.heap.size 26 (bcs b g6) by rw [← hW]; exact (setRow_other _ _ _ _ HNE.out.symm).trans (HX6.out.next (HLW8.out.trans (Hw9.out.mono HLW8.out.size))))
      have AW9 := Lib.hid (show Below W.heap.size W W9 by rw [← hW]; exact below_setRow Aw9.out Aw4.out.size _)
      have BW9b := Lib.hid (show Below w3.heap.size w3 W9 by rw [← hW]; exact below_setRow BW9.out Hw4.out.size _)
      have HO9b := Lib.hid (show IB W9 v9 M9 by rw [← hW]; exact (HO9.out.set (Nat.lt_of_lt_of_le HL4.out HL8.out) _).ib HS9.out)
      have HR9 := Lib.hid (show RB W9 b g9 from ToldB.rb (show ToldB M3 W8.heap.size W9 b g9 by rw [← hW]; exact HT9.out.set (Nat.lt_of_lt_of_le HL4.out HL8.out) _) (fun q hq => (HI3.out.next BW9b.out).rows.rows q hq))
      have HR6b := Lib.hid (show RB W9 b g6 from ToldB.rb (show ToldB M3 W5.heap.size W9 b g6 by rw [← hW]; exact (HT6b.out.next (HLW8.out.trans (Hw9.out.mono HLW8.out.size))).set HL4.out _) (fun q hq => (HI3.out.next BW9b.out).rows.rows q hq))
      clear hW
      try simp only [Act.put]
      obtain ⟨c0, c8, c9, c10, clt⟩ := HCX.out _ AW9.out
      obtain ⟨d1, d2, d3, d7⟩ := HCY.out _ AW9.out
      have HSM := Lib.hid (fun (Y : World) (hy : Below W9.heap.size W9 Y) (ha : Below W.heap.size W Y) => dSameB_any (HO9b.out.next hy).rows (HIX.out Y ha).rows HO9b.out.bis HIB.out)
      rw [HM9.out, decide_eq_true rfl] at HSM
      go_upto_region 22 with (first
        | (go_at_call 20; have h1 : Calls Tryz.prog 20 #[.agg (bcs b g6), .agg #[.int .i64 b.job, .string (str b.name), .string (str b.user), .string (str b.pool), .bool b.opn, ge, gr]] W9 (TellsM (.bool true) W9) := (by have h2 := dOne_any b b g6 ⟨ge, gr⟩ W9 (HR6b.out) (HBR.out _ AW9.out) HBI.out HBI.out; rw [decide_eq_true rfl] at h2; exact h2); ((with_reducible refine h1.mono ?_); rintro e w10 ⟨rfl, hb⟩); have Hw10 := Lib.hid hb; have Aw10 := Lib.hid (show Below W.heap.size W w10 from (AW9.out).trans (hb.mono (AW9.out).size)); obtain ⟨c0, c8, c9, c10, clt⟩ := HCX.out _ Aw10.out; clear hb h1)
        | (go_at_call 20; have h1 : Calls Tryz.prog 20 #[.agg (bcs b g9), .agg #[.int .i64 b.job, .string (str b.name), .string (str b.user), .string (str b.pool), .bool b.opn, ge, gr]] w10 (TellsM (.bool true) w10) := (by have h2 := dOne_any b b g9 ⟨ge, gr⟩ w10 (HR9.out.next Hw10.out) (HBR.out _ Aw10.out) HBI.out HBI.out; rw [decide_eq_true rfl] at h2; exact h2); ((with_reducible refine h1.mono ?_); rintro e w11 ⟨rfl, hb⟩); have Hw11 := Lib.hid hb; have Aw11 := Lib.hid (show Below W.heap.size W w11 from (Aw10.out).trans (hb.mono (Aw10.out).size)); obtain ⟨c0, c8, c9, c10, clt⟩ := HCX.out _ Aw11.out; clear hb h1)
        | (refine wpl_load_g (by rfl) _ _ rfl w5.heap.size rfl _ _ _ _ HX6b.out Tryz.underlying26 rfl (by kernel_rfl) ?_)
        | (refine wpl_load_g (by rfl) _ _ rfl w4.heap.size rfl _ _ _ _ (HX9.out.next Hw10.out) Tryz.underlying26 rfl (by kernel_rfl) ?_)
        | (refine wpl_load_mid_g (by rfl) _ _ rfl w.heap.size 1 rfl [.int .i64 b.job, .string (str b.name), .string (str b.user), .string (str b.pool), .bool b.opn, ge, gr] _ (HAR.out _ AW9.out) Tryz.underlying26 rfl (by kernel_rfl) ?_)
        | (refine wpl_load_mid_g (by rfl) _ _ rfl w.heap.size 1 rfl [.int .i64 b.job, .string (str b.name), .string (str b.user), .string (str b.pool), .bool b.opn, ge, gr] _ (HAR.out _ Aw10.out) Tryz.underlying26 rfl (by kernel_rfl) ?_)
        | (go_at_call 13; ((with_reducible refine (HSM.out _ (Hw10.out.trans (Hw11.out.mono Hw10.out.size)) Aw11.out).mono ?_); rintro e w12 ⟨rfl, hb⟩); have Hw12 := Lib.hid hb; have Aw12 := Lib.hid (Aw11.out.trans (hb.mono Aw11.out.size)); clear hb)
        | (go_at_call 11; have h1 := PB.check (HI3.out.next (BW9b.out.trans ((((Hw10.out.trans (Hw11.out.mono Hw10.out.size)).trans (Hw12.out.mono (Hw10.out.trans (Hw11.out.mono Hw10.out.size)).size))).mono BW9b.out.size))); rw [HM3.out, show vE la = 0 from if_pos FV.out] at h1; ((with_reducible refine h1.mono ?_); rintro e w13 ⟨rfl, hb⟩); have Hw13 := Lib.hid hb; have Aw13 := Lib.hid (Aw12.out.trans (hb.mono Aw12.out.size)); clear hb h1))
      obtain ⟨c0, c8, c9, c10, clt⟩ := HCX.out _ Aw13.out
      go_upto_region 23 with (go_at_call 14; ((with_reducible refine (HREF.out _ Aw13.out).mono ?_); rintro e wA hq); obtain ⟨vA, MA, rfl, hm, hi, hb⟩ := hq.q; have HMA := Lib.hid hm; have HIA := Lib.hid hi; have HwA := Lib.hid hb; have AwA := Lib.hid (show Below W.heap.size W wA from (Aw13.out).trans (hb.mono (Aw13.out).size)); clear hm hi hb)
      obtain ⟨c0, c8, c9, c10, clt⟩ := HCX.out _ AwA.out
      by_cases her : er = 0
      rotate_left
      · have x9 : (er != 0) = true := by rw [bne_iff_ne]; exact her
        clear her
        go_wp2_with (go_at_call 8; ((with_reducible refine (lhead_any PB _).mono ?_); rintro e wH ⟨rfl, hb⟩); have AwH := Lib.hid ((AwA.out).trans (hb.mono (AwA.out).size)); clear hb)
        go_ret
        exact ⟨rfl, HFIN.out _ AwH.out⟩
      subst her
      obtain ⟨F1, F2, F3, F4⟩ := bu.ref_back HRE.out
      rw [F2] at HUNR
      dsimp only at HUNR
      have HF1 := Lib.hid F1
      have HF3 := Lib.hid F3
      clear F1 F2 F3 F4
      go_upto_region 26 with (go_at_call 16; ((with_reducible refine (HUNR.out _ AwA.out).mono ?_); rintro e wB hq); obtain ⟨vB, MB, rfl, hm, hi, hb⟩ := hq; have HMB := Lib.hid hm; have HIB_ := Lib.hid hi; have HwB := Lib.hid hb; have AwB := Lib.hid (show Below W.heap.size W wB from (AwA.out).trans (hb.mono (AwA.out).size)); clear hm hi hb)
      obtain ⟨c0, c8, c9, c10, clt⟩ := HCX.out _ AwB.out
      have HU2 := Lib.hid (PB.unref (HIA.out.next HwB.out) job HJB.out)
      rw [HMA.out, HF3.out] at HU2
      dsimp only at HU2
      go_upto_region 27 with (go_at_call 16; ((with_reducible refine (HU2.out).mono ?_); rintro e wC hq); obtain ⟨vC, MC, rfl, hm, hi, hb⟩ := hq; have HMC := Lib.hid hm; have HIC := Lib.hid hi; have HwC := Lib.hid hb; have AwC := Lib.hid (show Below W.heap.size W wC from (AwB.out).trans (hb.mono (AwB.out).size)); clear hm hi hb)
      obtain ⟨c0, c8, c9, c10, clt⟩ := HCX.out _ AwC.out
      have HSD := Lib.hid (dSameB_any (HIB_.out.rows.next HwC.out) HIC.out.rows HIB_.out.bis HIC.out.bis)
      rw [HMB.out, HMC.out, decide_eq_true rfl] at HSD
      go_wp2_with (first
        | (go_at_call 13; ((with_reducible refine HSD.out.mono ?_); rintro e wD ⟨rfl, hb⟩); have HwD := Lib.hid hb; have AwD := Lib.hid (AwC.out.trans (hb.mono AwC.out.size)); clear hb)
        | (go_at_call 11; have h1 := PB.check (HIA.out.next ((HwB.out.trans (HwC.out.mono HwB.out.size)).trans (HwD.out.mono (HwB.out.trans (HwC.out.mono HwB.out.size)).size))); rw [HMA.out, show vE lr = 0 from if_pos HF1.out] at h1; ((with_reducible refine h1.mono ?_); rintro e wE ⟨rfl, hb⟩); have AwE := Lib.hid (AwD.out.trans (hb.mono AwD.out.size)); clear hb h1)
        | (go_at_call 8; ((with_reducible refine (lhead_any PB _).mono ?_); rintro e wF ⟨rfl, hb⟩); have AwF := Lib.hid ((AwE.out).trans (hb.mono (AwE.out).size)); clear hb))
      go_ret
      exact ⟨rfl, HFIN.out _ AwF.out⟩
end Go.Proofs.YtkjffoebcblpoaaGreat.gn
