/- The law BuffersApart, over the program's calls as premises. (Written by gen_buS.py, ahead of the code.) -/
import Derived.Test.YtkjffoebcblpoaaGreatMBuR
section
set_option linter.unusedVariables false
set_option linter.unusedSimpArgs false
namespace Go.Proofs.YtkjffoebcblpoaaGreat.gn
open Go.RowKit
open Go.Proofs.YtkjffoebcblpoaaGreat.bu (Bf May Valid addS refS unrefS dropS freeS findS ofS jobOk)

theorem drop_sure (l : List Bf) (name user : List UInt8) : Valid (dropS l name user).1 ∧ ((dropS l name user).2.2 = 0 → (dropS l name user).1.length + 1 = l.length ∧ (findS (dropS l name user).1 name).2 = false ∧ (dropS l name user).2.1.user = user ∧ (dropS l name user).2.1.refs = [] ∧ (dropS l name user).2.1.job = 0 ∧ (dropS l name user).2.1.name = name) := by
  refine ⟨?_, fun h => (bu.drop_gone h).2⟩
  rcases bu.drop_cases l name user with ⟨h, _⟩ | ⟨i, b, hb, hv, _, _, _, _, hd⟩
  · rw [h]
    exact bu.nil_valid
  · rw [hd]
    exact bu.erase_valid hv i
theorem free_sure (l : List Bf) (job : Int) : Valid (freeS l job).1 ∧ ((freeS l job).2.2 = 0 → (freeS l job).1.length + 1 = l.length ∧ (ofS (freeS l job).1 job).2 = false ∧ (freeS l job).2.1.job = job) := by
  refine ⟨?_, fun h => (bu.free_gone h).2⟩
  rcases bu.free_cases l job with ⟨h, _⟩ | ⟨i, b, hb, hv, _, _, _, hd⟩
  · rw [h]
    exact bu.nil_valid
  · rw [hd]
    exact bu.erase_valid hv i
set_option maxRecDepth 100000 in
set_option maxHeartbeats 32000000 in
theorem apart_law (PB : ProgB) {w : World} {lv : Value} {L : List (Bf × Gb)} {b : Bf} {ge gr : Value} {name user : List UInt8} {job : Int} (h : Ask w lv L (b, ⟨ge, gr⟩) name user job) :
    Calls Tryz.prog 6 #[.agg #[lv, .int .i64 b.job, .string (str b.name), .string (str b.user), .string (str b.pool), .bool b.opn, ge, gr, .string (str name), .string (str user), .int .i64 job]] w (TellsM (.bool true) w) := by
  obtain ⟨W, hW⟩ : ∃ W, w.alloc (.cells #[lv, .int .i64 b.job, .string (str b.name), .string (str b.user), .string (str b.pool), .bool b.opn, ge, gr, .string (str name), .string (str user), .int .i64 job] 28) = W := ⟨_, rfl⟩
  have hbx : BoxA W w.heap.size 28 #[lv, .int .i64 b.job, .string (str b.name), .string (str b.user), .string (str b.pool), .bool b.opn, ge, gr, .string (str name), .string (str user), .int .i64 job] := by rw [← hW]; exact BoxA.new _ _ _
  have hl : Below w.heap.size w W := by rw [← hW]; exact (Below.refl _ _).alloc (Nat.le_refl _) _
  have HBX := Lib.hid (fun (Y : World) (hy : Below W.heap.size W Y) => (show BoxA Y w.heap.size 28 #[lv, .int .i64 b.job, .string (str b.name), .string (str b.user), .string (str b.pool), .bool b.opn, ge, gr, .string (str name), .string (str user), .int .i64 job] from hbx.next hy))
  have HFIN := Lib.hid (fun (Y : World) (hy : Below W.heap.size W Y) => (show Below w.heap.size w Y from hl.trans (hy.mono hl.size)))
  have HCX := Lib.hid (fun (Y : World) (hy : Below W.heap.size W Y) => (show Y.cell? ⟨w.heap.size, 0, none⟩ = some lv ∧ Y.cell? ⟨w.heap.size, 8, none⟩ = some (.string (str name)) ∧ Y.cell? ⟨w.heap.size, 9, none⟩ = some (.string (str user)) ∧ Y.cell? ⟨w.heap.size, 10, none⟩ = some (.int .i64 job) ∧ w.heap.size < Y.heap.size from
    ⟨BoxA.cell (hbx.next hy) 0 _ rfl, BoxA.cell (hbx.next hy) 8 _ rfl, BoxA.cell (hbx.next hy) 9 _ rfl, BoxA.cell (hbx.next hy) 10 _ rfl, BoxA.lt (hbx.next hy)⟩))
  have HSZ := Lib.hid (show w.heap.size < W.heap.size from hbx.lt)
  have HGR := Lib.hid (fun (Y : World) (hy : Below W.heap.size W Y) => lgreat_any (h.next (hl.trans (hy.mono hl.size))))
  have HAR := Lib.hid (fun (Y : World) (hy : Below W.heap.size W Y) => range_row (hbx.next hy))
  have HW := Lib.hid hW
  have HWR := Lib.hid (Below.refl W.heap.size W)
  clear hW hbx hl
  obtain ⟨lg, hlg⟩ : ∃ t, lgB (L.map Prod.fst) b name user = t := ⟨_, rfl⟩
  rw [hlg] at HGR
  cases lg with
  | true =>
    clear h hlg
    go_enter Tryz.func6, Tryz.ntmps6
    apply wp_seq_k
    intro K hK
    apply wp_region_lit
    refine Great.wpList_boxTo rfl _ _ rfl _ rfl w.heap.size rfl #[lv, .int .i64 b.job, .string (str b.name), .string (str b.user), .string (str b.pool), .bool b.opn, ge, gr, .string (str name), .string (str user), .int .i64 job] rfl ?_
    rw [HW.out]
    go_wp2_with (first
      | (refine wpl_load_g (by rfl) _ _ rfl w.heap.size rfl _ _ _ _ (HBX.out _ HWR.out) Tryz.underlying28 rfl (by kernel_rfl) ?_)
      | (go_at_call 7; ((with_reducible refine (HGR.out _ HWR.out).mono ?_); rintro e w1 ⟨rfl, hb⟩); have A1 := Lib.hid hb; clear hb)
      | (go_at_call 8; ((with_reducible refine (lhead_any PB _).mono ?_); rintro e w2 ⟨rfl, hb⟩); have A2 := Lib.hid (A1.out.trans (hb.mono A1.out.size)); clear hb))
    go_ret
    exact ⟨rfl, HFIN.out _ A2.out⟩
  | false =>
    obtain ⟨k1, k2, k3, k4⟩ := lgB_look hlg
    have hlk : L.length ≤ 25 ∧ ∀ q ∈ L, BLook q.1 := ⟨by have := k1.1; rwa [List.length_map] at this, fun q hq => k1.2 _ (List.mem_map.2 ⟨q, hq, rfl⟩)⟩
    have hib := h.ib hlk
    have hbi := h.oneA.bi k2
    have hnm : name.length ≤ 140737488355328 := by omega
    have hus : user.length ≤ 140737488355328 := by omega
    have HADD := Lib.hid (fun (Y : World) (hy : Below W.heap.size W Y) => PB.add (hib.next (HFIN.out Y hy)) b ⟨ge, gr⟩ (h.one.next (HFIN.out Y hy)) hbi h.oneC)
    have HCHK := Lib.hid (fun (Y : World) (hy : Below W.heap.size W Y) => PB.check (hib.next (HFIN.out Y hy)))
    have HREF := Lib.hid (fun (Y : World) (hy : Below W.heap.size W Y) => PB.ref (hib.next (HFIN.out Y hy)) name user job h.job k3 k4)
    have HUNR := Lib.hid (fun (Y : World) (hy : Below W.heap.size W Y) => PB.unref (hib.next (HFIN.out Y hy)) job h.job)
    have HDRP := Lib.hid (fun (Y : World) (hy : Below W.heap.size W Y) => PB.drop (hib.next (HFIN.out Y hy)) name user hnm hus)
    have HFRE := Lib.hid (fun (Y : World) (hy : Below W.heap.size W Y) => PB.free (hib.next (HFIN.out Y hy)) job h.job)
    unfold bV bcs at HADD
    dsimp only at HADD
    have HJB := Lib.hid h.job
    have HNM := Lib.hid hnm
    have HCAP := Lib.hid hib.cap.cap
    have hform := (hib.rows).form
    have hll : L.length ≤ 25 := hlk.1
    have FA := Lib.hid (bu.add_valid (L.map Prod.fst) b)
    have FR := Lib.hid (bu.ref_valid (L.map Prod.fst) name user job)
    have FU := Lib.hid (bu.unrefS_valid (L.map Prod.fst) job)
    have FD := Lib.hid (drop_sure (L.map Prod.fst) name user)
    have FF := Lib.hid (free_sure (L.map Prod.fst) job)
    have HBI := Lib.hid hbi
    have HRL := Lib.hid (fun (Y : World) (hy : Below W.heap.size W Y) => (hib.rows.next (HFIN.out Y hy)).rows)
    have HIB := Lib.hid hib.bis
    clear h hlg k1 k2 k3 k4 hlk hib hbi hnm hus
    obtain ⟨la, hgla⟩ : ∃ x, (addS (L.map Prod.fst) b).1 = x := ⟨_, rfl⟩
    rw [hgla] at HADD FA
    clear hgla
    obtain ⟨ea, hgea⟩ : ∃ x, (addS (L.map Prod.fst) b).2 = x := ⟨_, rfl⟩
    rw [hgea] at HADD
    clear hgea
    obtain ⟨lr, hglr⟩ : ∃ x, (refS (L.map Prod.fst) name user job).1 = x := ⟨_, rfl⟩
    rw [hglr] at HREF FR
    clear hglr
    obtain ⟨er, hger⟩ : ∃ x, (refS (L.map Prod.fst) name user job).2 = x := ⟨_, rfl⟩
    rw [hger] at HREF
    clear hger
    obtain ⟨lu, hglu⟩ : ∃ x, (unrefS (L.map Prod.fst) job).1 = x := ⟨_, rfl⟩
    rw [hglu] at HUNR FU
    clear hglu
    obtain ⟨eu, hgeu⟩ : ∃ x, (unrefS (L.map Prod.fst) job).2 = x := ⟨_, rfl⟩
    rw [hgeu] at HUNR
    clear hgeu
    obtain ⟨ld, hgld⟩ : ∃ x, (dropS (L.map Prod.fst) name user).1 = x := ⟨_, rfl⟩
    rw [hgld] at HDRP FD
    clear hgld
    obtain ⟨bd, hgbd⟩ : ∃ x, (dropS (L.map Prod.fst) name user).2.1 = x := ⟨_, rfl⟩
    rw [hgbd] at HDRP FD
    clear hgbd
    obtain ⟨ed, hged⟩ : ∃ x, (dropS (L.map Prod.fst) name user).2.2 = x := ⟨_, rfl⟩
    rw [hged] at HDRP FD
    clear hged
    obtain ⟨lf, hglf⟩ : ∃ x, (freeS (L.map Prod.fst) job).1 = x := ⟨_, rfl⟩
    rw [hglf] at HFRE FF
    clear hglf
    obtain ⟨bf, hgbf⟩ : ∃ x, (freeS (L.map Prod.fst) job).2.1 = x := ⟨_, rfl⟩
    rw [hgbf] at HFRE FF
    clear hgbf
    obtain ⟨ef, hgef⟩ : ∃ x, (freeS (L.map Prod.fst) job).2.2 = x := ⟨_, rfl⟩
    rw [hgef] at HFRE FF
    clear hgef
    obtain ⟨c0, c8, c9, c10, clt⟩ := HCX.out _ HWR.out
    by_cases hV : Valid (L.map Prod.fst)
    rotate_left
    · rw [vE_no hV] at HCHK
      clear hV
      go_enter Tryz.func6, Tryz.ntmps6
      apply wp_seq_k
      intro K hK
      apply wp_region_lit
      refine Great.wpList_boxTo rfl _ _ rfl _ rfl w.heap.size rfl #[lv, .int .i64 b.job, .string (str b.name), .string (str b.user), .string (str b.pool), .bool b.opn, ge, gr, .string (str name), .string (str user), .int .i64 job] rfl ?_
      rw [HW.out]
      go_wp2_with (first
        | (refine wpl_load_g (by rfl) _ _ rfl w.heap.size rfl _ _ _ _ (HBX.out _ HWR.out) Tryz.underlying28 rfl (by kernel_rfl) ?_)
        | (go_at_call 7; ((with_reducible refine (HGR.out _ HWR.out).mono ?_); rintro e w1 ⟨rfl, hb⟩); have Aw1 := Lib.hid hb; clear hb; obtain ⟨c0, c8, c9, c10, clt⟩ := HCX.out _ Aw1.out)
        | (go_at_call 11; ((with_reducible refine (HCHK.out _ Aw1.out).mono ?_); rintro e w2 ⟨rfl, hb⟩); have Aw2 := Lib.hid (Aw1.out.trans (hb.mono Aw1.out.size)); clear hb)
        | (go_at_call 8; ((with_reducible refine (lhead_any PB _).mono ?_); rintro e w3 ⟨rfl, hb⟩); have A3 := Lib.hid (Aw2.out.trans (hb.mono Aw2.out.size)); clear hb))
      go_ret
      exact ⟨rfl, HFIN.out _ A3.out⟩
    rw [show vE (L.map Prod.fst) = 0 from if_pos hV] at HCHK
    have HV := Lib.hid hV
    obtain ⟨n, hn⟩ : ∃ n, (L.map Prod.fst).length = n := ⟨_, rfl⟩
    rw [hn] at FR FU FD FF
    obtain ⟨p0, q0, hlv, -⟩ := hform
    rw [show L.length = n by rw [← hn, List.length_map]] at hlv hll
    subst hlv
    clear hV hn
    go_enter Tryz.func6, Tryz.ntmps6
    apply wp_seq_k
    intro K hK
    apply wp_region_lit
    refine Great.wpList_boxTo rfl _ _ rfl _ rfl w.heap.size rfl #[.slice p0 n q0, .int .i64 b.job, .string (str b.name), .string (str b.user), .string (str b.pool), .bool b.opn, ge, gr, .string (str name), .string (str user), .int .i64 job] rfl ?_
    rw [HW.out]
    go_upto_region 3 with (first
      | (refine wpl_load_g (by rfl) _ _ rfl w.heap.size rfl _ _ _ _ (HBX.out _ HWR.out) Tryz.underlying28 rfl (by kernel_rfl) ?_)
      | (go_at_call 7; ((with_reducible refine (HGR.out _ HWR.out).mono ?_); rintro e w1 ⟨rfl, hb⟩); have Hw1 := Lib.hid hb; have Aw1 := Lib.hid hb; clear hb; obtain ⟨c0, c8, c9, c10, clt⟩ := HCX.out _ Aw1.out)
      | (go_at_call 11; ((with_reducible refine (HCHK.out _ Aw1.out).mono ?_); rintro e w2 ⟨rfl, hb⟩); have Hw2 := Lib.hid hb; have Aw2 := Lib.hid (Aw1.out.trans (hb.mono Aw1.out.size)); clear hb))
    obtain ⟨c0, c8, c9, c10, clt⟩ := HCX.out _ Aw2.out
    go_upto_region 4 with (first
      | (refine wpList_load_mid rfl _ _ rfl w.heap.size 1 rfl [.int .i64 b.job, .string (str b.name), .string (str b.user), .string (str b.pool), .bool b.opn, ge, gr] _ (HAR.out _ Aw2.out) Tryz.underlying26 rfl (by kernel_rfl) ?_)
      | (go_at_call 9; ((with_reducible refine (HADD.out _ Aw2.out).mono ?_); rintro e w3 hq); obtain ⟨v3, M3, rfl, hm, hi, hb⟩ := hq.q; have Hw3 := Lib.hid hb; have Aw3 := Lib.hid (show Below W.heap.size W w3 from (Aw2.out).trans (hb.mono (Aw2.out).size)); have HM3 := Lib.hid hm; have HI3 := Lib.hid hi; clear hm hi; clear hb))
    obtain ⟨c0, c8, c9, c10, clt⟩ := HCX.out _ Aw3.out
    obtain ⟨p3, q3, hv3, -⟩ := HI3.out.rows.form
    rw [show M3.length = la.length by rw [← HM3.out, List.length_map]] at hv3
    subst hv3
    go_upto_region 5 with (first
      | (go_at_call 14; ((with_reducible refine (HREF.out _ Aw3.out).mono ?_); rintro e w4 hq); obtain ⟨v4, M4, rfl, hm, hi, hb⟩ := hq.q; have Hw4 := Lib.hid hb; have Aw4 := Lib.hid (show Below W.heap.size W w4 from (Aw3.out).trans (hb.mono (Aw3.out).size)); have HM4 := Lib.hid hm; have HI4 := Lib.hid hi; clear hm hi; clear hb))
    obtain ⟨c0, c8, c9, c10, clt⟩ := HCX.out _ Aw4.out
    obtain ⟨p4, q4, hv4, -⟩ := HI4.out.rows.form
    rw [show M4.length = lr.length by rw [← HM4.out, List.length_map]] at hv4
    subst hv4
    go_upto_region 6 with (first
      | (go_at_call 16; ((with_reducible refine (HUNR.out _ Aw4.out).mono ?_); rintro e w5 hq); obtain ⟨v5, M5, rfl, hm, hi, hb⟩ := hq; have Hw5 := Lib.hid hb; have Aw5 := Lib.hid (show Below W.heap.size W w5 from (Aw4.out).trans (hb.mono (Aw4.out).size)); have HM5 := Lib.hid hm; have HI5 := Lib.hid hi; clear hm hi; clear hb))
    obtain ⟨c0, c8, c9, c10, clt⟩ := HCX.out _ Aw5.out
    obtain ⟨p5, q5, hv5, -⟩ := HI5.out.rows.form
    rw [show M5.length = lu.length by rw [← HM5.out, List.length_map]] at hv5
    subst hv5
    go_upto_region 7 with (first
      | (go_at_call 18; ((with_reducible refine (HDRP.out _ Aw5.out).mono ?_); rintro e w6 hq); obtain ⟨v6, M6, g6, rfl, hm, hi, ht, hbi, hcb, hb⟩ := hq; have Hw6 := Lib.hid hb; have Aw6 := Lib.hid (show Below W.heap.size W w6 from (Aw5.out).trans (hb.mono (Aw5.out).size)); have HM6 := Lib.hid hm; have HI6 := Lib.hid hi; have HT6 := Lib.hid ht; clear hm hi ht hbi hcb; clear hb)
      | (refine wpList_store_row rfl _ _ _ rfl w6.heap.size (bcs bd g6) rfl rfl _ _ (BoxA.new w6 _ _) (by kernel_rfl) rfl (bcs_all (HT6.out.rb (HRL.out _ Aw6.out))) ?_))
    obtain ⟨W6, hW, hkW, hbW⟩ := box_endB w6 #[.int .i64 0, .string { data := #[] }, .string { data := #[] }, .string { data := #[] }, .bool false, .slice none 0 0, .slice none 0 0] (bcs bd g6) 26
    rw [hW]
    have HX6 := Lib.hid (show BoxA W6 w6.heap.size 26 (bcs bd g6) from hkW)
    have HW6 := Lib.hid hbW
    have AW6 := Lib.hid (show Below W.heap.size W W6 from Aw6.out.trans (hbW.mono Aw6.out.size))
    clear hW hkW hbW
    try simp only [Act.put]
    obtain ⟨c0, c8, c9, c10, clt⟩ := HCX.out _ AW6.out
    obtain ⟨p6, q6, hv6, -⟩ := HI6.out.rows.form
    rw [show M6.length = ld.length by rw [← HM6.out, List.length_map]] at hv6
    subst hv6
    go_upto_region 8 with (first
      | (go_at_call 21; ((with_reducible refine (HFRE.out _ AW6.out).mono ?_); rintro e w7 hq); obtain ⟨v7, M7, g7, rfl, hm, hi, ht, hbi, hcb, hb⟩ := hq.q; have Hw7 := Lib.hid hb; have Aw7 := Lib.hid (show Below W.heap.size W w7 from (AW6.out).trans (hb.mono (AW6.out).size)); have HM7 := Lib.hid hm; have HI7 := Lib.hid hi; have HT7 := Lib.hid ht; clear hm hi ht hbi hcb; clear hb)
      | (refine wpList_store_row rfl _ _ _ rfl w7.heap.size (bcs bf g7) rfl rfl _ _ (BoxA.new w7 _ _) (by kernel_rfl) rfl (bcs_all (HT7.out.rb (HRL.out _ Aw7.out))) ?_))
    obtain ⟨W7, hW, hkW, hbW⟩ := box_endB w7 #[.int .i64 0, .string { data := #[] }, .string { data := #[] }, .string { data := #[] }, .bool false, .slice none 0 0, .slice none 0 0] (bcs bf g7) 26
    rw [hW]
    have HX7 := Lib.hid (show BoxA W7 w7.heap.size 26 (bcs bf g7) from hkW)
    have HW7 := Lib.hid hbW
    have AW7 := Lib.hid (show Below W.heap.size W W7 from Aw7.out.trans (hbW.mono Aw7.out.size))
    clear hW hkW hbW
    try simp only [Act.put]
    obtain ⟨c0, c8, c9, c10, clt⟩ := HCX.out _ AW7.out
    obtain ⟨p7, q7, hv7, -⟩ := HI7.out.rows.form
    rw [show M7.length = lf.length by rw [← HM7.out, List.length_map]] at hv7
    subst hv7
    obtain ⟨W8, hW8⟩ : ∃ W8, W7.alloc (.cells #[.slice p3 la.length q3, .slice p4 lr.length q4, .slice p5 lu.length q5, .slice p6 ld.length q6, .slice p7 lf.length q7] 22) = W8 := ⟨_, rfl⟩
    have HY8 := Lib.hid (show BoxA W8 W7.heap.size 22 #[.slice p3 la.length q3, .slice p4 lr.length q4, .slice p5 lu.length q5, .slice p6 ld.length q6, .slice p7 lf.length q7] by rw [← hW8]; exact BoxA.new _ _ _)
    have HW8 := Lib.hid (show Below W7.heap.size W7 W8 by rw [← hW8]; exact (Below.refl _ _).alloc (Nat.le_refl _) _)
    have AW8 := Lib.hid (AW7.out.trans (HW8.out.mono AW7.out.size))
    go_upto_region 10 with fail
    try rw [hW8]
    clear hW8
    have HSEL := Lib.hid (show ∀ i : Nat, i < 5 → ∃ pi ni qi Mi, W8.cell? ⟨W7.heap.size, i, none⟩ = some (.slice pi ni qi) ∧ IB W7 (.slice pi ni qi) Mi ∧ Valid (Mi.map Prod.fst) from fun i hi => by
      obtain rfl | rfl | rfl | rfl | rfl : i = 0 ∨ i = 1 ∨ i = 2 ∨ i = 3 ∨ i = 4 := by omega
      · exact ⟨p3, la.length, q3, M3, BoxA.cell HY8.out 0 _ rfl, HI3.out.next (((((Hw4.out.trans (Hw5.out.mono Hw4.out.size)).trans (Hw6.out.mono (Hw4.out.trans (Hw5.out.mono Hw4.out.size)).size)).trans (HW6.out.mono ((Hw4.out.trans (Hw5.out.mono Hw4.out.size)).trans (Hw6.out.mono (Hw4.out.trans (Hw5.out.mono Hw4.out.size)).size)).size)).trans (Hw7.out.mono (((Hw4.out.trans (Hw5.out.mono Hw4.out.size)).trans (Hw6.out.mono (Hw4.out.trans (Hw5.out.mono Hw4.out.size)).size)).trans (HW6.out.mono ((Hw4.out.trans (Hw5.out.mono Hw4.out.size)).trans (Hw6.out.mono (Hw4.out.trans (Hw5.out.mono Hw4.out.size)).size)).size)).size)).trans (HW7.out.mono ((((Hw4.out.trans (Hw5.out.mono Hw4.out.size)).trans (Hw6.out.mono (Hw4.out.trans (Hw5.out.mono Hw4.out.size)).size)).trans (HW6.out.mono ((Hw4.out.trans (Hw5.out.mono Hw4.out.size)).trans (Hw6.out.mono (Hw4.out.trans (Hw5.out.mono Hw4.out.size)).size)).size)).trans (Hw7.out.mono (((Hw4.out.trans (Hw5.out.mono Hw4.out.size)).trans (Hw6.out.mono (Hw4.out.trans (Hw5.out.mono Hw4.out.size)).size)).trans (HW6.out.mono ((Hw4.out.trans (Hw5.out.mono Hw4.out.size)).trans (Hw6.out.mono (Hw4.out.trans (Hw5.out.mono Hw4.out.size)).size)).size)).size)).size)), by rw [HM3.out]; exact FA.out⟩
      · exact ⟨p4, lr.length, q4, M4, BoxA.cell HY8.out 1 _ rfl, HI4.out.next ((((Hw5.out.trans (Hw6.out.mono Hw5.out.size)).trans (HW6.out.mono (Hw5.out.trans (Hw6.out.mono Hw5.out.size)).size)).trans (Hw7.out.mono ((Hw5.out.trans (Hw6.out.mono Hw5.out.size)).trans (HW6.out.mono (Hw5.out.trans (Hw6.out.mono Hw5.out.size)).size)).size)).trans (HW7.out.mono (((Hw5.out.trans (Hw6.out.mono Hw5.out.size)).trans (HW6.out.mono (Hw5.out.trans (Hw6.out.mono Hw5.out.size)).size)).trans (Hw7.out.mono ((Hw5.out.trans (Hw6.out.mono Hw5.out.size)).trans (HW6.out.mono (Hw5.out.trans (Hw6.out.mono Hw5.out.size)).size)).size)).size)), by rw [HM4.out]; exact FR.out.1⟩
      · exact ⟨p5, lu.length, q5, M5, BoxA.cell HY8.out 2 _ rfl, HI5.out.next (((Hw6.out.trans (HW6.out.mono Hw6.out.size)).trans (Hw7.out.mono (Hw6.out.trans (HW6.out.mono Hw6.out.size)).size)).trans (HW7.out.mono ((Hw6.out.trans (HW6.out.mono Hw6.out.size)).trans (Hw7.out.mono (Hw6.out.trans (HW6.out.mono Hw6.out.size)).size)).size)), by rw [HM5.out]; exact FU.out.1⟩
      · exact ⟨p6, ld.length, q6, M6, BoxA.cell HY8.out 3 _ rfl, HI6.out.next ((HW6.out.trans (Hw7.out.mono HW6.out.size)).trans (HW7.out.mono (HW6.out.trans (Hw7.out.mono HW6.out.size)).size)), by rw [HM6.out]; exact FD.out.1⟩
      · exact ⟨p7, lf.length, q7, M7, BoxA.cell HY8.out 4 _ rfl, HI7.out.next HW7.out, by rw [HM7.out]; exact FF.out.1⟩)
    go_loopw [16] (fun s16 wr => ∃ i : Nat, s16 = .int .i64 (i : Nat) ∧ i ≤ 5 ∧ Aside (Below W8.heap.size W8 wr)) (fun s16 _ => 5 - (intOf s16).toNat)
    case atStart => exact ⟨0, rfl, by omega, Below.refl _ _⟩
    case round =>
    obtain ⟨i, rfl, hi, hrow⟩ := hrel
    have HLW := Lib.hid (show Below W8.heap.size W8 wr from hrow)
    clear hrow
    have Awr := Lib.hid (AW8.out.trans (HLW.out.mono AW8.out.size))
    have HSR := Lib.hid (HW8.out.trans (HLW.out.mono HW8.out.size))
    have lY : W7.heap.size < W8.heap.size := BoxA.lt HY8.out
    by_cases hin : i < 5
    · obtain ⟨pi, ni, qi, Mi, hc, hib, hv⟩ := HSEL.out i hin
      have HC := Lib.hid (PB.check (hib.next HSR.out))
      rw [show vE (Mi.map Prod.fst) = 0 from if_pos hv] at HC
      have ci : wr.cell? ⟨W7.heap.size, i, none⟩ = some (.slice pi ni qi) := (low_cell HLW.out lY).trans hc
      have li : W7.heap.size < wr.heap.size := Nat.lt_of_lt_of_le lY HLW.out.size
      clear hc hib hv lY
      go_wp2_with (go_at_call 11; ((with_reducible refine HC.out.mono ?_); rintro e w9 ⟨rfl, hb⟩); have HL9 := Lib.hid (HLW.out.trans (hb.mono HLW.out.size)); clear hb)
      go_roundw
      case rel => exact ⟨i + 1, by go_num, by omega, HL9.out⟩
      case measure => simp [intOf]; omega
    · obtain rfl : i = 5 := by omega
      clear hin lY
      obtain ⟨c0, c8, c9, c10, clt⟩ := HCX.out _ Awr.out
      obtain ⟨pg, qg, hg6, -⟩ := (HT6.out.rb (HRL.out _ Aw6.out)).r.form
      have HG6 := Lib.hid hg6
      clear hg6
      have lk6 : w6.heap.size < wr.heap.size := BoxA.lt (HX6.out.next ((Hw7.out.trans (HW7.out.mono Hw7.out.size)).trans (HSR.out.mono (Hw7.out.trans (HW7.out.mono Hw7.out.size)).size)))
      have lk7 : w7.heap.size < wr.heap.size := BoxA.lt (HX7.out.next HSR.out)
      go_upto_region 14 with fail
      go_cut [129] (fun s129 wx => s129 = .bool false ∧ wx = wr)
      case first =>
        by_cases hed : ed = 0
        · subst hed
          obtain ⟨D1, D2, D3, D4, D5, D6⟩ := FD.out.2 rfl
          have u0 : wr.cell? ⟨w6.heap.size, 0, none⟩ = some (.int .i64 0) := by rw [← D5]; exact BoxA.cell (HX6.out.next ((Hw7.out.trans (HW7.out.mono Hw7.out.size)).trans (HSR.out.mono (Hw7.out.trans (HW7.out.mono Hw7.out.size)).size))) 0 _ rfl
          have u1 : wr.cell? ⟨w6.heap.size, 1, none⟩ = some (.string (str name)) := by rw [← D6]; exact BoxA.cell (HX6.out.next ((Hw7.out.trans (HW7.out.mono Hw7.out.size)).trans (HSR.out.mono (Hw7.out.trans (HW7.out.mono Hw7.out.size)).size))) 1 _ rfl
          have u2 : wr.cell? ⟨w6.heap.size, 2, none⟩ = some (.string (str user)) := by rw [← D3]; exact BoxA.cell (HX6.out.next ((Hw7.out.trans (HW7.out.mono Hw7.out.size)).trans (HSR.out.mono (Hw7.out.trans (HW7.out.mono Hw7.out.size)).size))) 2 _ rfl
          have u6 : wr.cell? ⟨w6.heap.size, 6, none⟩ = some (.slice pg 0 qg) := by
            have h6 : wr.cell? ⟨w6.heap.size, 6, none⟩ = some g6.r := BoxA.cell (HX6.out.next ((Hw7.out.trans (HW7.out.mono Hw7.out.size)).trans (HSR.out.mono (Hw7.out.trans (HW7.out.mono Hw7.out.size)).size))) 6 _ rfl
            rw [h6, HG6.out, D4]
            rfl
          have x1 : ((ld.length : Int) != (n : Int) - 1) = false := by rw [bne_eq_false_iff_eq]; omega
          have x2 : 1 ≤ n := by omega
          clear D1 D2 D3 D4 D5 D6
          go_wp2
          go_meet
          case rel => exact ⟨rfl, rfl⟩
        · have x0 : (ed == 0) = false := by rw [beq_eq_false_iff_ne]; exact hed
          clear hed
          go_wp2
          go_meet
          case rel => exact ⟨rfl, rfl⟩
      case rest =>
      obtain ⟨rfl, rfl⟩ := hcut
      obtain ⟨wz, hwz⟩ : ∃ wz, wz = wc := ⟨_, rfl⟩
      subst hwz
      go_upto_region 16 with fail
      go_cut [147] (fun s147 wx => s147 = .bool false ∧ wx = wz)
      case first =>
        by_cases hef : ef = 0
        · subst hef
          obtain ⟨D1, D2, D3⟩ := FF.out.2 rfl
          have u0 : wz.cell? ⟨w7.heap.size, 0, none⟩ = some (.int .i64 job) := by rw [← D3]; exact BoxA.cell (HX7.out.next HSR.out) 0 _ rfl
          have x1 : ((lf.length : Int) != (n : Int) - 1) = false := by rw [bne_eq_false_iff_eq]; omega
          have x2 : 1 ≤ n := by omega
          have x3 : (job != job) = false := by simp
          clear D1 D2 D3
          go_wp2
          go_meet
          case rel => exact ⟨rfl, rfl⟩
        · have x0 : (ef == 0) = false := by rw [beq_eq_false_iff_ne]; exact hef
          clear hef
          go_wp2
          go_meet
          case rel => exact ⟨rfl, rfl⟩
      case rest =>
      obtain ⟨rfl, rfl⟩ := hcut
      obtain ⟨wy, hwy⟩ : ∃ wy, wy = wc := ⟨_, rfl⟩
      subst hwy
      have HF18 := Lib.hid (PB.find (HI6.out.next (((HW6.out.trans (Hw7.out.mono HW6.out.size)).trans (HW7.out.mono (HW6.out.trans (Hw7.out.mono HW6.out.size)).size)).trans (HSR.out.mono ((HW6.out.trans (Hw7.out.mono HW6.out.size)).trans (HW7.out.mono (HW6.out.trans (Hw7.out.mono HW6.out.size)).size)).size))) name HNM.out)
      rw [HM6.out] at HF18
      obtain ⟨bn, hbn⟩ : ∃ x, (findS ld name).1 = x := ⟨_, rfl⟩
      obtain ⟨tn, htn⟩ : ∃ x, (findS ld name).2 = x := ⟨_, rfl⟩
      rw [hbn, htn] at HF18
      rw [htn] at FD
      clear hbn htn
      go_upto_region 19 with (first
        | (go_at_call 23; ((with_reducible refine HF18.out.mono ?_); rintro e w18 ⟨g18, rfl, hrb, hbi, hcb, hb⟩); have HRB18 := Lib.hid (hrb.rb (fun q hq => (HI6.out.next ((((HW6.out.trans (Hw7.out.mono HW6.out.size)).trans (HW7.out.mono (HW6.out.trans (Hw7.out.mono HW6.out.size)).size)).trans (HSR.out.mono ((HW6.out.trans (Hw7.out.mono HW6.out.size)).trans (HW7.out.mono (HW6.out.trans (Hw7.out.mono HW6.out.size)).size)).size)).trans (hb.mono (((HW6.out.trans (Hw7.out.mono HW6.out.size)).trans (HW7.out.mono (HW6.out.trans (Hw7.out.mono HW6.out.size)).size)).trans (HSR.out.mono ((HW6.out.trans (Hw7.out.mono HW6.out.size)).trans (HW7.out.mono (HW6.out.trans (Hw7.out.mono HW6.out.size)).size)).size)).size))).rows.rows q hq)); have Hw18 := Lib.hid hb; have Aw18 := Lib.hid (Awr.out.trans (hb.mono Awr.out.size)); clear hrb hbi hcb hb)
        | (refine wpList_store_row rfl _ _ _ rfl w18.heap.size (bcs bn g18) rfl rfl _ _ (BoxA.new w18 _ _) (by kernel_rfl) rfl (bcs_all (HRB18.out)) ?_))
      obtain ⟨W18, hW, hkW, hbW⟩ := box_endB w18 #[.int .i64 0, .string { data := #[] }, .string { data := #[] }, .string { data := #[] }, .bool false, .slice none 0 0, .slice none 0 0] (bcs bn g18) 26
      rw [hW]
      have HX18 := Lib.hid (show BoxA W18 w18.heap.size 26 (bcs bn g18) from hkW)
      have HW18 := Lib.hid hbW
      have AW18 := Lib.hid (show Below W.heap.size W W18 from Aw18.out.trans (hbW.mono Aw18.out.size))
      clear hW hkW hbW
      try simp only [Act.put]
      obtain ⟨c0, c8, c9, c10, clt⟩ := HCX.out _ AW18.out
      have HF19 := Lib.hid (PB.of (HI7.out.next (((HW7.out.trans (HSR.out.mono HW7.out.size)).trans (Hw18.out.mono (HW7.out.trans (HSR.out.mono HW7.out.size)).size)).trans (HW18.out.mono ((HW7.out.trans (HSR.out.mono HW7.out.size)).trans (Hw18.out.mono (HW7.out.trans (HSR.out.mono HW7.out.size)).size)).size))) job HJB.out)
      rw [HM7.out] at HF19
      obtain ⟨bo, hbo⟩ : ∃ x, (ofS lf job).1 = x := ⟨_, rfl⟩
      obtain ⟨tq, htq⟩ : ∃ x, (ofS lf job).2 = x := ⟨_, rfl⟩
      rw [hbo, htq] at HF19
      rw [htq] at FF
      clear hbo htq
      go_upto_region 20 with (first
        | (go_at_call 25; ((with_reducible refine HF19.out.mono ?_); rintro e w19 ⟨g19, rfl, hrb, hbi, hcb, hb⟩); have HRB19 := Lib.hid (hrb.rb (fun q hq => (HI7.out.next ((((HW7.out.trans (HSR.out.mono HW7.out.size)).trans (Hw18.out.mono (HW7.out.trans (HSR.out.mono HW7.out.size)).size)).trans (HW18.out.mono ((HW7.out.trans (HSR.out.mono HW7.out.size)).trans (Hw18.out.mono (HW7.out.trans (HSR.out.mono HW7.out.size)).size)).size)).trans (hb.mono (((HW7.out.trans (HSR.out.mono HW7.out.size)).trans (Hw18.out.mono (HW7.out.trans (HSR.out.mono HW7.out.size)).size)).trans (HW18.out.mono ((HW7.out.trans (HSR.out.mono HW7.out.size)).trans (Hw18.out.mono (HW7.out.trans (HSR.out.mono HW7.out.size)).size)).size)).size))).rows.rows q hq)); have Hw19 := Lib.hid hb; have Aw19 := Lib.hid (AW18.out.trans (hb.mono AW18.out.size)); clear hrb hbi hcb hb)
        | (refine wpList_store_row rfl _ _ _ rfl w19.heap.size (bcs bo g19) rfl rfl _ _ (BoxA.new w19 _ _) (by kernel_rfl) rfl (bcs_all (HRB19.out)) ?_))
      obtain ⟨W19, hW, hkW, hbW⟩ := box_endB w19 #[.int .i64 0, .string { data := #[] }, .string { data := #[] }, .string { data := #[] }, .bool false, .slice none 0 0, .slice none 0 0] (bcs bo g19) 26
      rw [hW]
      have HX19 := Lib.hid (show BoxA W19 w19.heap.size 26 (bcs bo g19) from hkW)
      have HW19 := Lib.hid hbW
      have AW19 := Lib.hid (show Below W.heap.size W W19 from Aw19.out.trans (hbW.mono Aw19.out.size))
      clear hW hkW hbW
      try simp only [Act.put]
      obtain ⟨c0, c8, c9, c10, clt⟩ := HCX.out _ AW19.out
      have KD : (ed = 0 ∧ tn = false) ∨ (ed != 0) = true := by
        by_cases hed : ed = 0
        · exact .inl ⟨hed, (FD.out.2 hed).2.1⟩
        · exact .inr (by rw [bne_iff_ne]; exact hed)
      have KF : (ef = 0 ∧ tq = false) ∨ (ef != 0) = true := by
        by_cases hef : ef = 0
        · exact .inl ⟨hef, (FF.out.2 hef).2.1⟩
        · exact .inr (by rw [bne_iff_ne]; exact hef)
      have KR : ((lr.length : Int) == 0) = true ∨ (((lr.length : Int) == 0) = false ∧ ((lr.length : Int) == (n : Int)) = true) := by
        have h2 := FR.out.2
        by_cases h0 : lr.length = 0
        · exact .inl (by rw [beq_iff_eq]; omega)
        · exact .inr ⟨by rw [beq_eq_false_iff_ne]; omega, by rw [beq_iff_eq]; omega⟩
      have KU : ((lu.length : Int) == (n : Int)) = true ∨ (((lu.length : Int) == (n : Int)) = false ∧ (decide (job < 1) = true ∨ (decide (job < 1) = false ∧ decide (1073741824 < job) = true))) := by
        by_cases h0 : lu.length = n
        · exact .inl (by rw [beq_iff_eq]; omega)
        · refine .inr ⟨by rw [beq_eq_false_iff_ne]; omega, ?_⟩
          by_cases h1 : job < 1
          · exact .inl (decide_eq_true h1)
          · refine .inr ⟨decide_eq_false h1, decide_eq_true ?_⟩
            refine Classical.byContradiction fun h2 => h0 (FU.out.2 HV.out ⟨by omega, by omega⟩)
      rcases KD with ⟨rfl, rfl⟩ | x1 <;> rcases KF with ⟨rfl, rfl⟩ | x2 <;> rcases KR with x3 | ⟨x3, x4⟩ <;> rcases KU with x5 | ⟨x5, x6 | ⟨x6, x7⟩⟩
      all_goals (
        go_wp2_with (go_at_call 8; ((with_reducible refine (lhead_any PB _).mono ?_); rintro e w20 ⟨rfl, hb⟩); have Aw20 := Lib.hid (AW19.out.trans (hb.mono AW19.out.size)); clear hb)
        go_ret
        exact ⟨rfl, HFIN.out _ Aw20.out⟩)
end Go.Proofs.YtkjffoebcblpoaaGreat.gn
end
