/- The law BuffersOwn, over the program's calls as premises. (Written by gen_buV.py.) -/
import Derived.Test.YtkjffoebcblpoaaGreatBuVaZ
set_option linter.unusedVariables false
set_option linter.unusedSimpArgs false
namespace Go.Proofs.YtkjffoebcblpoaaGreat.gn
open Go.RowKit
open Go.Proofs.YtkjffoebcblpoaaGreat.bu (Bf May Valid addS refS unrefS dropS freeS findS ofS)

set_option maxRecDepth 100000 in
set_option maxHeartbeats 32000000 in
theorem own_law (PB : ProgB) {w : World} {lv : Value} {L : List (Bf × Gb)} {b : Bf} {ge gr : Value} {name user : List UInt8} {job : Int} (h : Ask w lv L (b, ⟨ge, gr⟩) name user job) :
    Calls Tryz.prog 5 #[.agg #[lv, .int .i64 b.job, .string (str b.name), .string (str b.user), .string (str b.pool), .bool b.opn, ge, gr, .string (str name), .string (str user), .int .i64 job]] w (TellsM (.bool true) w) := by
  obtain ⟨W, hW⟩ : ∃ W, w.alloc (.cells #[lv, .int .i64 b.job, .string (str b.name), .string (str b.user), .string (str b.pool), .bool b.opn, ge, gr, .string (str name), .string (str user), .int .i64 job] 28) = W := ⟨_, rfl⟩
  have hbx : BoxA W w.heap.size 28 #[lv, .int .i64 b.job, .string (str b.name), .string (str b.user), .string (str b.pool), .bool b.opn, ge, gr, .string (str name), .string (str user), .int .i64 job] := by rw [← hW]; exact BoxA.new _ _ _
  have hl : Below w.heap.size w W := by rw [← hW]; exact (Below.refl _ _).alloc (Nat.le_refl _) _
  have HBX := Lib.hid (fun (Y : World) (hy : Below W.heap.size W Y) => (show BoxA Y w.heap.size 28 #[lv, .int .i64 b.job, .string (str b.name), .string (str b.user), .string (str b.pool), .bool b.opn, ge, gr, .string (str name), .string (str user), .int .i64 job] from hbx.next hy))
  have HFIN := Lib.hid (fun (Y : World) (hy : Below W.heap.size W Y) => (show Below w.heap.size w Y from hl.trans (hy.mono hl.size)))
  have HCX := Lib.hid (fun (Y : World) (hy : Below W.heap.size W Y) => (show Y.cell? ⟨w.heap.size, 0, none⟩ = some lv ∧ Y.cell? ⟨w.heap.size, 8, none⟩ = some (.string (str name)) ∧ Y.cell? ⟨w.heap.size, 9, none⟩ = some (.string (str user)) ∧ Y.cell? ⟨w.heap.size, 10, none⟩ = some (.int .i64 job) ∧ w.heap.size < Y.heap.size from
    ⟨BoxA.cell (hbx.next hy) 0 _ rfl, BoxA.cell (hbx.next hy) 8 _ rfl, BoxA.cell (hbx.next hy) 9 _ rfl, BoxA.cell (hbx.next hy) 10 _ rfl, BoxA.lt (hbx.next hy)⟩))
  have HSZ := Lib.hid (show w.heap.size < W.heap.size from hbx.lt)
  have HGR := Lib.hid (fun (Y : World) (hy : Below W.heap.size W Y) => lgreat_any (h.next (hl.trans (hy.mono hl.size))))
  have HAR := Lib.hid (fun (Y : World) (hy : Below W.heap.size W Y) => range_row (hbx.next hy))
  have HW := Lib.hid hW
  have HWR := Lib.hid (Below.refl W.heap.size W)
  clear hW hbx hl
  obtain ⟨lg, hlg⟩ : ∃ t, lgB (L.map Prod.fst) b name user = t := ⟨_, rfl⟩
  rw [hlg] at HGR
  cases lg with
  | true =>
    clear h hlg
    go_enter Tryz.func5, Tryz.ntmps5
    apply wp_seq_k
    intro K hK
    apply wp_region_lit
    refine Great.wpList_boxTo rfl _ _ rfl _ rfl w.heap.size rfl #[lv, .int .i64 b.job, .string (str b.name), .string (str b.user), .string (str b.pool), .bool b.opn, ge, gr, .string (str name), .string (str user), .int .i64 job] rfl ?_
    rw [HW.out]
    go_wp2_with (first
      | (refine wpl_load_g (by rfl) _ _ rfl w.heap.size rfl _ _ _ _ (HBX.out _ HWR.out) Tryz.underlying28 rfl (by kernel_rfl) ?_)
      | (go_at_call 7; ((with_reducible refine (HGR.out _ HWR.out).mono ?_); rintro e w1 ⟨rfl, hb⟩); have A1 := Lib.hid hb; clear hb)
      | (go_at_call 8; ((with_reducible refine (lhead_any PB _).mono ?_); rintro e w2 ⟨rfl, hb⟩); have A2 := Lib.hid (A1.out.trans (hb.mono A1.out.size)); clear hb))
    go_ret
    exact ⟨rfl, HFIN.out _ A2.out⟩
  | false =>
    obtain ⟨k1, k2, k3, k4⟩ := lgB_look hlg
    have hlk : L.length ≤ 25 ∧ ∀ q ∈ L, BLook q.1 := ⟨by have := k1.1; rwa [List.length_map] at this, fun q hq => k1.2 _ (List.mem_map.2 ⟨q, hq, rfl⟩)⟩
    have hib := h.ib hlk
    have hbi := h.oneA.bi k2
    have hnm : name.length ≤ 140737488355328 := by omega
    have hus : user.length ≤ 140737488355328 := by omega
    have HIX := Lib.hid (fun (Y : World) (hy : Below W.heap.size W Y) => (show IB Y lv L from hib.next (HFIN.out Y hy)))
    have HADD := Lib.hid (fun (Y : World) (hy : Below W.heap.size W Y) => PB.add (hib.next (HFIN.out Y hy)) b ⟨ge, gr⟩ (h.one.next (HFIN.out Y hy)) hbi h.oneC)
    have HREF := Lib.hid (fun (Y : World) (hy : Below W.heap.size W Y) => PB.ref (hib.next (HFIN.out Y hy)) name user job h.job k3 k4)
    have HFRE := Lib.hid (fun (Y : World) (hy : Below W.heap.size W Y) => PB.free (hib.next (HFIN.out Y hy)) job h.job)
    unfold bV bcs at HADD
    dsimp only at HADD
    obtain ⟨pl, ql, hlv, hat⟩ := hib.rows.form
    obtain ⟨n, hn⟩ : ∃ n, L.length = n := ⟨_, rfl⟩
    have hn1 : n ≤ 25 := by rw [← hn]; exact hlk.1
    rw [hn] at hlv
    subst hlv
    have HAT := Lib.hid hat
    have HN := Lib.hid hn
    have HLQ := Lib.hid (show ∀ q ∈ L, BLook q.1 from hlk.2)
    clear hat hn
    have HBI := Lib.hid hbi
    have HRL := Lib.hid (fun (Y : World) (hy : Below W.heap.size W Y) => (hib.rows.next (HFIN.out Y hy)).rows)
    have HIB := Lib.hid hib.bis
    clear h hlg k1 k2 k3 k4 hlk hib hbi hnm hus
    obtain ⟨la, hgla⟩ : ∃ x, (addS (L.map Prod.fst) b).1 = x := ⟨_, rfl⟩
    rw [hgla] at HADD
    clear hgla
    obtain ⟨ea, hgea⟩ : ∃ x, (addS (L.map Prod.fst) b).2 = x := ⟨_, rfl⟩
    rw [hgea] at HADD
    clear hgea
    obtain ⟨lr, hglr⟩ : ∃ x, (refS (L.map Prod.fst) name user job).1 = x := ⟨_, rfl⟩
    rw [hglr] at HREF
    clear hglr
    obtain ⟨er, hger⟩ : ∃ x, (refS (L.map Prod.fst) name user job).2 = x := ⟨_, rfl⟩
    rw [hger] at HREF
    clear hger
    obtain ⟨lf, hglf⟩ : ∃ x, (freeS (L.map Prod.fst) job).1 = x := ⟨_, rfl⟩
    rw [hglf] at HFRE
    clear hglf
    obtain ⟨bf, hgbf⟩ : ∃ x, (freeS (L.map Prod.fst) job).2.1 = x := ⟨_, rfl⟩
    rw [hgbf] at HFRE
    clear hgbf
    obtain ⟨ef, hgef⟩ : ∃ x, (freeS (L.map Prod.fst) job).2.2 = x := ⟨_, rfl⟩
    rw [hgef] at HFRE
    clear hgef
    obtain ⟨c0, c8, c9, c10, clt⟩ := HCX.out _ HWR.out
    go_enter Tryz.func5, Tryz.ntmps5
    apply wp_seq_k
    intro K hK
    apply wp_region_lit
    refine Great.wpList_boxTo rfl _ _ rfl _ rfl w.heap.size rfl #[(.slice pl n ql), .int .i64 b.job, .string (str b.name), .string (str b.user), .string (str b.pool), .bool b.opn, ge, gr, .string (str name), .string (str user), .int .i64 job] rfl ?_
    rw [HW.out]
    go_upto_region 5 with (first
      | (refine wpl_load_g (by rfl) _ _ rfl w.heap.size rfl _ _ _ _ (HBX.out _ HWR.out) Tryz.underlying28 rfl (by kernel_rfl) ?_)
      | (go_at_call 7; ((with_reducible refine (HGR.out _ HWR.out).mono ?_); rintro e w1 ⟨rfl, hb⟩); have Aw1 := Lib.hid hb; clear hb))
    clear c0 c8 c9 c10 clt
    obtain ⟨base, hbase⟩ : ∃ base, w1.heap.size = base := ⟨_, rfl⟩
    have HBS := Lib.hid hbase
    clear hbase
    go_loopw [3, 4] (fun s3 s4 wr => ∃ (i : Nat) (M : List (Bf × Gb)) (pv : Option Addr) (m cv : Nat), s3 = .slice pv m cv ∧ s4 = .int .i64 (i : Nat) ∧ i ≤ n ∧ Aside (M.length = m ∧ m = i ∧ OwW L base w1 i M (.slice pv m cv) wr)) (fun _ s4 _ => n - (intOf s4).toNat)
    case atStart => exact ⟨0, [], none, 0, 0, rfl, rfl, Nat.zero_le _, rfl, rfl, (by simp), World.ownsRow_nil _ _ _ _, (fun p hp => by cases hp), (fun p hp => by cases hp), Below.refl _ _⟩
    case round =>
    obtain ⟨i, M, pv, m, cv, rfl, rfl, hi, hrow⟩ := hrel
    have HML := Lib.hid (show M.length = m from hrow.1)
    have HMI := Lib.hid (show m = i from hrow.2.1)
    have HR := Lib.hid (show OwW L base w1 i M (.slice pv m cv) wr from hrow.2.2)
    clear hrow
    have Awr := Lib.hid (show Below W.heap.size W wr from Aw1.out.trans (HR.out.low.mono (by rw [← HBS.out]; exact Aw1.out.size)))
    have HBW := Lib.hid (show base ≤ wr.heap.size by rw [← HBS.out]; exact HR.out.low.size)
    obtain ⟨c0, c8, c9, c10, clt⟩ := HCX.out _ Awr.out
    by_cases hin : i < n
    · obtain ⟨q, hq⟩ : ∃ q, L[i]? = some q := ⟨_, List.getElem?_eq_getElem (by rw [HN.out]; exact hin)⟩
      obtain ⟨kb, off, rfl, hk, hc⟩ := BC.of (HAT.out (ne_of_at hq))
      have HC := Lib.hid (show BC L kb off wr from hc.next hk (HFIN.out _ Awr.out))
      have HQ := Lib.hid hq
      have HQR := Lib.hid (fun (Y : World) (hy : Below W.heap.size W Y) => HRL.out Y hy q (List.mem_of_getElem? hq))
      have HQL := Lib.hid (HLQ.out q (List.mem_of_getElem? hq))
      have lkb : kb < wr.heap.size := Nat.lt_of_lt_of_le hk (HFIN.out _ Awr.out).size
      clear hq hk hc
      go_upto_region 8 with (first
        | (refine wpList_load_mid rfl _ _ rfl kb (off + i * 7) rfl [.int .i64 q.1.job, .string (str q.1.name), .string (str q.1.user), .string (str q.1.pool), .bool q.1.opn, q.2.e, q.2.r] _ (HC.out i q HQ.out) Tryz.underlying26 rfl (by kernel_rfl) ?_)
        | (refine wpList_store_row rfl _ _ _ rfl wr.heap.size (bcs q.1 q.2) rfl rfl _ _ (BoxA.new wr _ _) (by kernel_rfl) rfl (bcs_all (HQR.out _ Awr.out)) ?_))
      obtain ⟨Y1, hW1, hkW1, hbW1⟩ := box_endB wr #[.int .i64 0, .string { data := #[] }, .string { data := #[] }, .string { data := #[] }, .bool false, .slice none 0 0, .slice none 0 0] (bcs q.1 q.2) 26
      rw [hW1]
      have hg0 : wr.heap.size < Y1.heap.size := BoxA.lt hkW1
      obtain ⟨gb, hgb⟩ : ∃ gb, wr.heap.size = gb := ⟨_, rfl⟩
      have HGB := Lib.hid hgb
      have HX1 := Lib.hid (show BufB Y1 gb q.1 q.2 by rw [← hgb]; exact hkW1)
      have HL1 := Lib.hid (show Below gb wr Y1 by rw [← hgb]; exact hbW1)
      have AY1 := Lib.hid (show Below W.heap.size W Y1 from Awr.out.trans (hbW1.mono Awr.out.size))
      rw [hgb] at hg0 ⊢
      clear hW1 hkW1 hbW1 hgb lkb c0 c8 c9 c10 clt
      have c5 : Y1.cell? ⟨gb, 5, none⟩ = some q.2.e := HX1.out.cells.2.2.2.2.2.1
      try simp only [Act.put]

      obtain ⟨nx, hnx⟩ : ∃ x, q.1.exts.length = x := ⟨_, rfl⟩
      obtain ⟨nr, hnr⟩ : ∃ x, q.1.refs.length = x := ⟨_, rfl⟩
      have HNX := Lib.hid hnx
      have HNR := Lib.hid hnr
      have hx20 : nx ≤ 20 := by rw [← hnx]; exact HQL.out.exts
      have hr20 : nr ≤ 20 := by rw [← hnr]; exact HQL.out.refs
      clear hnx hnr
      have HBL := Lib.hid ((Below.refl _ Y1).alloc (Nat.le_refl Y1.heap.size) (.cells #[] 55))
      have HRX := Lib.hid (show RdC (Y1.alloc (.cells #[] 55)) q.2.e nx (xcs q.1.exts) by rw [← HNX.out]; exact (HQR.out _ (AY1.out.trans (HBL.out.mono AY1.out.size))).e)
      have HXL := Lib.hid (show (xcs q.1.exts).length = nx * 2 by rw [xcs_len, HNX.out])
      go_upto_region 9 with (at_builtin; refine wpl_ap eltXt rfl _ _ rfl (base := Y1.heap.size) (v := .slice _ 0 0) (n := 0) (m := nx) (cs := []) (ds := xcs q.1.exts) rfl (.inl ⟨_, rfl, rfl, rfl⟩) rfl HRX.out HXL.out (xcs_one _) (by unfold maxLen; omega) (by omega) HBL.out.size ?_; intro p2 c2 w2 h1 h2 h3; simp only [Nat.zero_add, List.nil_append] at h1 h2 h3 ⊢; have HA2 := Lib.hid h1; have HL2 := Lib.hid (HBL.out.trans h3); have HX2 := Lib.hid (HX1.out.next HL2.out); have hg2 : gb < w2.heap.size := BoxA.lt HX2.out; have e5 : w2.cell? ⟨gb, 5, none⟩ = some q.2.e := HX2.out.cells.2.2.2.2.2.1; have f5 : w2.frozen? ⟨gb, 5, none⟩ = false := BoxA.free HX2.out 5; clear h1 h3)
      obtain ⟨Y2, hW2⟩ : ∃ Y2, w2.setCell ⟨gb, 5, none⟩ (.slice p2 nx c2) = Y2 := ⟨_, rfl⟩
      rw [hW2]
      have HX3 := Lib.hid (show BufB Y2 gb q.1 ⟨.slice p2 nx c2, q.2.r⟩ by rw [← hW2]; exact BoxA.set HX2.out 5 _)
      have HA3 := Lib.hid (show ApC Y1.heap.size 55 2 Y2 (.slice p2 nx c2) nx (xcs q.1.exts) by rw [← hW2]; exact ApC.setCell HA2.out hg0)
      have HL3 := Lib.hid (show Below gb wr Y2 by rw [← hW2]; exact (HL1.out.trans (HL2.out.mono (Nat.le_of_lt hg0))).setCell (Nat.le_refl _) _)
      have hg3 : gb < Y2.heap.size := BoxA.lt HX3.out
      clear hW2 c5 e5 f5 hg2
      have c6 : Y2.cell? ⟨gb, 6, none⟩ = some q.2.r := HX3.out.cells.2.2.2.2.2.2.1
      try simp only [Act.put]
      have AY2 := Lib.hid (show Below W.heap.size W Y2 from Awr.out.trans ((show Below wr.heap.size wr Y2 by rw [HGB.out]; exact HL3.out).mono Awr.out.size))
      have HBM := Lib.hid ((Below.refl _ Y2).alloc (Nat.le_refl Y2.heap.size) (.cells #[] 2))
      have HRI := Lib.hid (show RdC (Y2.alloc (.cells #[] 2)) q.2.r nr (ics q.1.refs) by rw [← HNR.out]; exact (HQR.out _ (AY2.out.trans (HBM.out.mono AY2.out.size))).r)
      have HIL := Lib.hid (show (ics q.1.refs).length = nr * 1 by rw [ics_len, HNR.out, Nat.mul_one])
      go_upto_region 10 with (at_builtin; refine wpl_ap eltI64 rfl _ _ rfl (base := Y2.heap.size) (v := .slice _ 0 0) (n := 0) (m := nr) (cs := []) (ds := ics q.1.refs) rfl (.inl ⟨_, rfl, rfl, rfl⟩) rfl HRI.out HIL.out (ics_one _) (by unfold maxLen; omega) (by omega) HBM.out.size ?_; intro p4 c4 w4 h1 h2 h3; simp only [Nat.zero_add, List.nil_append] at h1 h2 h3 ⊢; have HA4 := Lib.hid h1; have HL4 := Lib.hid (HBM.out.trans h3); have HX4 := Lib.hid (HX3.out.next HL4.out); have hg4 : gb < w4.heap.size := BoxA.lt HX4.out; have e6 : w4.cell? ⟨gb, 6, none⟩ = some q.2.r := HX4.out.cells.2.2.2.2.2.2.1; have f6 : w4.frozen? ⟨gb, 6, none⟩ = false := BoxA.free HX4.out 6; clear h1 h3)
      obtain ⟨Y4, hW4⟩ : ∃ Y4, w4.setCell ⟨gb, 6, none⟩ (.slice p4 nr c4) = Y4 := ⟨_, rfl⟩
      rw [hW4]
      have HX5 := Lib.hid (show BufB Y4 gb q.1 ⟨.slice p2 nx c2, .slice p4 nr c4⟩ by rw [← hW4]; exact BoxA.set HX4.out 6 _)
      have HE5 := Lib.hid (show ApC Y1.heap.size 55 2 Y4 (.slice p2 nx c2) nx (xcs q.1.exts) by rw [← hW4]; exact ApC.setCell (ApC.next HA3.out HL4.out) hg0)
      have HR5 := Lib.hid (show ApC Y2.heap.size 2 1 Y4 (.slice p4 nr c4) nr (ics q.1.refs) by rw [← hW4]; exact ApC.setCell HA4.out hg3)
      have HL5 := Lib.hid (show Below gb wr Y4 by rw [← hW4]; exact (HL3.out.trans (HL4.out.mono (Nat.le_of_lt hg3))).setCell (Nat.le_refl _) _)
      have hg5 : gb < Y4.heap.size := BoxA.lt HX5.out
      have hg13 := Lib.hid (show base ≤ Y1.heap.size ∧ base ≤ Y2.heap.size by have := HBW.out; have := HGB.out; omega)
      clear hW4 c6 e6 f6 hg4 hg0 hg3
      try simp only [Act.put]
      have HAl := Lib.hid ((Below.refl _ Y4).alloc (Nat.le_refl Y4.heap.size) (.cells #[.int .i64 q.1.job, .string (str q.1.name), .string (str q.1.user), .string (str q.1.pool), .bool q.1.opn, .slice p2 nx c2, .slice p4 nr c4] 26))
      have HXa := Lib.hid (show BufB (Y4.alloc (.cells #[.int .i64 q.1.job, .string (str q.1.name), .string (str q.1.user), .string (str q.1.pool), .bool q.1.opn, .slice p2 nx c2, .slice p4 nr c4] 26)) Y4.heap.size q.1 ⟨.slice p2 nx c2, .slice p4 nr c4⟩ from BoxA.new _ _ _)
      have HY1 := Lib.hid (show Below wr.heap.size wr (Y4.alloc (.cells #[.int .i64 q.1.job, .string (str q.1.name), .string (str q.1.user), .string (str q.1.pool), .bool q.1.opn, .slice p2 nx c2, .slice p4 nr c4] 26)) from (show Below wr.heap.size wr Y4 by rw [HGB.out]; exact HL5.out).trans (HAl.out.mono (by rw [HGB.out]; exact Nat.le_of_lt hg5)))
      have HBa := Lib.hid (Nat.le_trans HBW.out HY1.out.size)
      have HEa := Lib.hid (show ApC base 55 2 (Y4.alloc (.cells #[.int .i64 q.1.job, .string (str q.1.name), .string (str q.1.user), .string (str q.1.pool), .bool q.1.opn, .slice p2 nx c2, .slice p4 nr c4] 26)) (.slice p2 nx c2) q.1.exts.length (xcs q.1.exts) by rw [HNX.out]; exact (HE5.out.next HAl.out).mono hg13.out.1)
      have HRa := Lib.hid (show OutI base (Y4.alloc (.cells #[.int .i64 q.1.job, .string (str q.1.name), .string (str q.1.user), .string (str q.1.pool), .bool q.1.opn, .slice p2 nx c2, .slice p4 nr c4] 26)) (.slice p4 nr c4) q.1.refs by unfold OutI; rw [HNR.out]; exact (HR5.out.next HAl.out).mono hg13.out.2)
      have HRB := Lib.hid (show RB Y4 q.1 ⟨.slice p2 nx c2, .slice p4 nr c4⟩ from ⟨by unfold RX; rw [HNX.out]; exact HE5.out.rdc, by unfold RI; rw [HNR.out]; exact HR5.out.rdc⟩)
      clear hg5
      go_wp2_with (first
        | (refine wpl_load_g (by rfl) _ _ rfl gb rfl _ _ _ _ (show BoxA Y4 gb 26 #[.int .i64 q.1.job, .string (str q.1.name), .string (str q.1.user), .string (str q.1.pool), .bool q.1.opn, .slice p2 nx c2, .slice p4 nr c4] from HX5.out) Tryz.underlying26 rfl (by kernel_rfl) ?_)
        | (at_builtin; refine wpl_bufG rfl _ _ rfl (v := .slice _ _ _) HML.out rfl (HR.out.row.next HY1.out) rfl HXa.out (bcs_one HRB.out) (by have := HMI.out; omega) HBa.out ?_; intro pp cc w8 h1 h3; have HO8 := Lib.hid h1; have HG8 := Lib.hid h3; clear h1 h3))
      go_roundw
      case rel => exact ⟨i + 1, _, _, _, _, rfl, by go_num, by omega, (by simp [HML.out]), (by rw [HMI.out]), HR.out.put HQ.out HY1.out HBW.out HEa.out HRa.out HG8.out HO8.out⟩
      case measure => simp [intOf]; omega
    · obtain rfl : i = n := by omega
      have HEQ := Lib.hid (show M.map Prod.fst = L.map Prod.fst by
        have := HR.out.eq
        rw [show i = (L.map Prod.fst).length by rw [List.length_map, HN.out], List.take_length] at this
        exact this)
      have HBS2 := Lib.hid (HR.out.bis HIB.out)
      obtain ⟨w2, hw2⟩ : ∃ w2, w2 = wr := ⟨_, rfl⟩
      subst hw2
      have HOW := Lib.hid (fun (Y : World) (hy : Below w2.heap.size w2 Y) => (show RBs Y (.slice pv m cv) M from HR.out.rbs.next hy))
      have Aw2 := Lib.hid Awr.out
      go_upto_region 12 with (first
        | (refine wpList_load_mid rfl _ _ rfl w.heap.size 1 rfl [.int .i64 b.job, .string (str b.name), .string (str b.user), .string (str b.pool), .bool b.opn, ge, gr] _ (HAR.out _ Aw2.out) Tryz.underlying26 rfl (by kernel_rfl) ?_)
        | (go_at_call 9; ((with_reducible refine (HADD.out _ Aw2.out).mono ?_); rintro e w3 hq); obtain ⟨v3, M3, rfl, hm, ho, hi3, hb⟩ := hq; have HO3 := Lib.hid ho; have HI3 := Lib.hid hi3; have Hw3 := Lib.hid hb; have Aw3 := Lib.hid (show Below W.heap.size W w3 from Aw2.out.trans (hb.mono Aw2.out.size)); clear hm ho hi3 hb))
      obtain ⟨c0, c8, c9, c10, clt⟩ := HCX.out _ Aw3.out
      go_upto_region 13 with (go_at_call 14; ((with_reducible refine (HREF.out _ Aw3.out).mono ?_); rintro e w4 hq); obtain ⟨v4, M4, rfl, hm, ho, hi3, hb⟩ := hq; have HO4 := Lib.hid ho; have HI4 := Lib.hid hi3; have Hw4 := Lib.hid hb; have Aw4 := Lib.hid (show Below W.heap.size W w4 from Aw3.out.trans (hb.mono Aw3.out.size)); clear hm ho hi3 hb)
      obtain ⟨c0, c8, c9, c10, clt⟩ := HCX.out _ Aw4.out
      go_upto_region 14 with (first
        | (go_at_call 21; ((with_reducible refine (HFRE.out _ Aw4.out).mono ?_); rintro e w5 hq); obtain ⟨v5, M5, g5, rfl, hm, ho, hi3, ht, hbi, hcb, hb⟩ := hq; have HO5 := Lib.hid ho; have HI5 := Lib.hid hi3; have Hw5 := Lib.hid hb; have Aw5 := Lib.hid (show Below W.heap.size W w5 from Aw4.out.trans (hb.mono Aw4.out.size)); have HT5 := Lib.hid (ht.rb (HRL.out _ Aw5.out)); clear hm ho hi3 ht hbi hcb hb)
        | (refine wpList_store_row rfl _ _ _ rfl w5.heap.size (bcs bf g5) rfl rfl _ _ (BoxA.new w5 _ _) (by kernel_rfl) rfl (bcs_all HT5.out) ?_))
      obtain ⟨W5, hW, hkW, hbW⟩ := box_endB w5 #[.int .i64 0, .string { data := #[] }, .string { data := #[] }, .string { data := #[] }, .bool false, .slice none 0 0, .slice none 0 0] (bcs bf g5) 26
      rw [hW]
      have HW5 := Lib.hid (show Below w5.heap.size w5 W5 from hbW)
      have AW5 := Lib.hid (show Below W.heap.size W W5 from Aw5.out.trans (hbW.mono Aw5.out.size))
      clear hW hkW hbW
      try simp only [Act.put]
      obtain ⟨p3, q3, hv3, hp3⟩ := HO3.out.form
      obtain ⟨p4, q4, hv4, hp4⟩ := HO4.out.form
      obtain ⟨p5, q5, hv5, hp5⟩ := HO5.out.form
      obtain ⟨n3, hn3⟩ : ∃ x, M3.length = x := ⟨_, rfl⟩
      obtain ⟨n4, hn4⟩ : ∃ x, M4.length = x := ⟨_, rfl⟩
      obtain ⟨n5, hn5⟩ : ∃ x, M5.length = x := ⟨_, rfl⟩
      rw [hn3] at hv3
      rw [hn4] at hv4
      rw [hn5] at hv5
      subst hv3
      subst hv4
      subst hv5
      obtain ⟨W6, hW6⟩ : ∃ W6, W5.alloc (.cells #[.slice p3 n3 q3, .slice p4 n4 q4, .slice p5 n5 q5] 22) = W6 := ⟨_, rfl⟩
      have HY6 := Lib.hid (show BoxA W6 W5.heap.size 22 #[.slice p3 n3 q3, .slice p4 n4 q4, .slice p5 n5 q5] by rw [← hW6]; exact BoxA.new _ _ _)
      have HW6 := Lib.hid (show Below W5.heap.size W5 W6 by rw [← hW6]; exact (Below.refl _ _).alloc (Nat.le_refl _) _)
      have AW6 := Lib.hid (AW5.out.trans (HW6.out.mono AW5.out.size))
      have HB6 := Lib.hid ((((Hw4.out.trans (Hw5.out.mono Hw4.out.size)).trans (HW5.out.mono (Hw4.out.trans (Hw5.out.mono Hw4.out.size)).size)).trans (HW6.out.mono ((Hw4.out.trans (Hw5.out.mono Hw4.out.size)).trans (HW5.out.mono (Hw4.out.trans (Hw5.out.mono Hw4.out.size)).size)).size)))
      have HSEL := Lib.hid (show ∀ i : Nat, i < 3 → ∃ pi ni qi Mi bi, W6.cell? ⟨W5.heap.size, i, none⟩ = some (.slice pi ni qi) ∧ Mi.length = ni ∧ w2.heap.size ≤ bi ∧ Own bi W6 (.slice pi ni qi) Mi ∧ BIs Mi ∧ (Mi ≠ [] → ∃ g, pi = some ⟨g, 0, none⟩) from fun i hi => by
        obtain rfl | rfl | rfl : i = 0 ∨ i = 1 ∨ i = 2 := by omega
        · exact ⟨p3, n3, q3, M3, w2.heap.size, BoxA.cell HY6.out 0 _ rfl, hn3, Nat.le_refl _, HO3.out.next (((Hw4.out.trans (Hw5.out.mono Hw4.out.size)).trans (HW5.out.mono (Hw4.out.trans (Hw5.out.mono Hw4.out.size)).size)).trans (HW6.out.mono ((Hw4.out.trans (Hw5.out.mono Hw4.out.size)).trans (HW5.out.mono (Hw4.out.trans (Hw5.out.mono Hw4.out.size)).size)).size)), HI3.out, hp3⟩
        · exact ⟨p4, n4, q4, M4, w3.heap.size, BoxA.cell HY6.out 1 _ rfl, hn4, Hw3.out.size, HO4.out.next ((Hw5.out.trans (HW5.out.mono Hw5.out.size)).trans (HW6.out.mono (Hw5.out.trans (HW5.out.mono Hw5.out.size)).size)), HI4.out, hp4⟩
        · exact ⟨p5, n5, q5, M5, w4.heap.size, BoxA.cell HY6.out 2 _ rfl, hn5, Nat.le_trans Hw3.out.size Hw4.out.size, HO5.out.next (HW5.out.trans (HW6.out.mono HW5.out.size)), HI5.out, hp5⟩)
      have HBB := Lib.hid (show Below w2.heap.size w2 W6 from ((((Hw3.out.trans (Hw4.out.mono Hw3.out.size)).trans (Hw5.out.mono (Hw3.out.trans (Hw4.out.mono Hw3.out.size)).size)).trans (HW5.out.mono ((Hw3.out.trans (Hw4.out.mono Hw3.out.size)).trans (Hw5.out.mono (Hw3.out.trans (Hw4.out.mono Hw3.out.size)).size)).size)).trans (HW6.out.mono (((Hw3.out.trans (Hw4.out.mono Hw3.out.size)).trans (Hw5.out.mono (Hw3.out.trans (Hw4.out.mono Hw3.out.size)).size)).trans (HW5.out.mono ((Hw3.out.trans (Hw4.out.mono Hw3.out.size)).trans (Hw5.out.mono (Hw3.out.trans (Hw4.out.mono Hw3.out.size)).size)).size)).size)))
      clear hp3 hp4 hp5 hn3 hn4 hn5
      go_upto_region 16 with fail
      try rw [hW6]
      clear hW6 c0 c8 c9 c10 clt
      go_loopw [14] (fun s14 wr => ∃ i : Nat, s14 = .int .i64 (i : Nat) ∧ i ≤ 3 ∧ Aside (Zed w2.heap.size W6 wr)) (fun s14 _ => 3 - (intOf s14).toNat)
      case atStart => exact ⟨0, rfl, Nat.zero_le _, Zed.refl _ _⟩
      case round =>
      obtain ⟨i3, rfl, hi3, hrow⟩ := hrel
      have HZ := Lib.hid (show Zed w2.heap.size W6 wr from hrow)
      clear hrow
      by_cases hin : i3 < 3
      · obtain ⟨pi, ni, qi, Mi, bi, h1, h2, h3, h4, h5, h6⟩ := HSEL.out i3 hin
        have hni : ni ≤ 140737488355328 := by rw [← h2]; exact h5.len
        have hc3 : ((i3 : Nat) : Int) < 3 := by omega
        have HCI := Lib.hid (fun (Y : World) (hz : Zed w2.heap.size W6 Y) => (show Y.cell? ⟨W5.heap.size, i3, none⟩ = some (.slice pi ni qi) ∧ W5.heap.size < Y.heap.size from ⟨(hz.cell HY6.out (by decide) (by decide) i3).trans h1, by rw [hz.size]; exact BoxA.lt HY6.out⟩))
        have HMN := Lib.hid h2
        have HBI2 := Lib.hid h3
        have HOI := Lib.hid h4
        have HIS := Lib.hid h5
        have HPI := Lib.hid h6
        clear h1 h2 h3 h4 h5 h6
        go_upto_region 19 with fail
        go_loopw [15] (fun s15 wr => ∃ k : Nat, s15 = .int .i64 (k : Nat) ∧ k ≤ ni ∧ Aside (Zed w2.heap.size W6 wr)) (fun s15 _ => ni - (intOf s15).toNat)
        case atStart => exact ⟨0, rfl, Nat.zero_le _, HZ.out⟩
        case round =>
        obtain ⟨k, rfl, hk, hrow⟩ := hrel
        have HZk := Lib.hid (show Zed w2.heap.size W6 wr from hrow)
        clear hrow
        obtain ⟨ci, li⟩ := HCI.out _ HZk.out
        by_cases hkn : k < ni
        · obtain ⟨q, hq⟩ : ∃ q, Mi[k]? = some q := ⟨_, List.getElem?_eq_getElem (by rw [HMN.out]; exact hkn)⟩
          obtain ⟨g, rfl⟩ := HPI.out (ne_of_at hq)
          obtain ⟨hcel, ⟨pe, ce, hve, hwe⟩, ⟨pr, cr, hvr, hwr⟩⟩ := Own.entry HOI.out HBI2.out hq
          have hbq := HIS.out.all q (List.mem_of_getElem? hq)
          obtain ⟨nx, hnx⟩ : ∃ x, q.1.exts.length = x := ⟨_, rfl⟩
          obtain ⟨nr, hnr⟩ : ∃ x, q.1.refs.length = x := ⟨_, rfl⟩
          have hx1 : nx ≤ 140737488355328 := by rw [← hnx]; exact hbq.le
          have hr1 : nr ≤ 140737488355328 := by rw [← hnr]; exact hbq.lr
          rw [hnx] at hve hwe
          rw [hnr] at hvr hwr
          have HCL := Lib.hid (fun (Y : World) (hz : Zed w2.heap.size W6 Y) => (show Y.cell? ⟨g, k * 7 + 5, none⟩ = some (.slice pe nx ce) ∧ Y.cell? ⟨g, k * 7 + 6, none⟩ = some (.slice pr nr cr) ∧ g < Y.heap.size from by have := hcel Y hz; rw [hve, hvr] at this; exact this))
          have HWE := Lib.hid hwe
          have HWR2 := Lib.hid hwr
          clear hq hcel hve hwe hvr hwr hbq hnx hnr
          go_upto_region 22 with fail
          clear ci li
          go_loopw [16] (fun s16 wr => ∃ j : Nat, s16 = .int .i64 (j : Nat) ∧ j ≤ nx ∧ Aside (Zed w2.heap.size W6 wr)) (fun s16 _ => nx - (intOf s16).toNat)
          case atStart => exact ⟨0, rfl, Nat.zero_le _, HZk.out⟩
          case round =>
          obtain ⟨j, rfl, hj, hrow⟩ := hrel
          have HZj := Lib.hid (show Zed w2.heap.size W6 wr from hrow)
          clear hrow
          obtain ⟨ci, li⟩ := HCI.out _ HZj.out
          obtain ⟨ce5, ce6, lg⟩ := HCL.out _ HZj.out
          by_cases hjn : j < nx
          · obtain ⟨gx, cx, rfl, hgx, hcx, hsz⟩ := HWE.out (by omega)
            have HTH := Lib.hid (HZj.out.there hcx (j := j * 2) (m := 2) (by omega))
            have HST := Lib.hid (Zed.sets hcx (.inl rfl) hgx [.int .i64 0, .int .i64 0] (j * 2) HZj.out)
            have lx := (HZj.out.one hcx (j := j * 2) (by omega)).2.2
            clear hcx hsz hgx
            go_wp2_with (refine wpList_store_mid rfl _ _ _ rfl gx (j * 2) #[.int .i64 0, .int .i64 0] (by first | rfl | simp) rfl HTH.out (by kernel_rfl) (by kernel_rfl) ?_)
            go_roundw
            case rel => first | exact ⟨j + 1, by go_num, by omega, HST.out⟩ | ((repeat apply Exists.intro); exact ⟨⟨j + 1, by go_num, by omega, HST.out⟩, rfl⟩)
            case measure => simp [intOf]; omega
          · obtain rfl : j = nx := by omega
            clear hjn hj
            go_upto_region 26 with fail
            clear ci li ce5 ce6 lg
            go_loopw [17] (fun s17 wr => ∃ l : Nat, s17 = .int .i64 (l : Nat) ∧ l ≤ nr ∧ Aside (Zed w2.heap.size W6 wr)) (fun s17 _ => nr - (intOf s17).toNat)
            case atStart => exact ⟨0, rfl, Nat.zero_le _, HZj.out⟩
            case round =>
            obtain ⟨l, rfl, hl, hrow⟩ := hrel
            have HZl := Lib.hid (show Zed w2.heap.size W6 wr from hrow)
            clear hrow
            obtain ⟨ci, li⟩ := HCI.out _ HZl.out
            obtain ⟨ce5, ce6, lg⟩ := HCL.out _ HZl.out
            by_cases hln : l < nr
            · obtain ⟨gx, cx, rfl, hgx, hcx, hsz⟩ := HWR2.out (by omega)
              have HST := Lib.hid (Zed.set HZl.out hcx (.inr rfl) hgx l (.int .i64 0))
              obtain ⟨⟨u0, hu0⟩, fu0, lx⟩ := HZl.out.one hcx (j := l) (by omega)
              clear hcx hsz hgx
              go_wp2
              go_roundw
              case rel => first | exact ⟨l + 1, by go_num, by omega, HST.out⟩ | ((repeat apply Exists.intro); exact ⟨⟨l + 1, by go_num, by omega, HST.out⟩, rfl⟩)
              case measure => simp [intOf]; omega
            · obtain rfl : l = nr := by omega
              go_wp2
              go_roundw
              case rel => first | exact ⟨k + 1, by go_num, by omega, HZl.out⟩ | ((repeat apply Exists.intro); exact ⟨⟨k + 1, by go_num, by omega, HZl.out⟩, rfl⟩)
              case measure => simp [intOf]; omega
        · obtain rfl : k = ni := by omega
          go_wp2
          go_roundw
          case rel => first | exact ⟨i3 + 1, by go_num, by omega, HZk.out⟩ | ((repeat apply Exists.intro); exact ⟨⟨i3 + 1, by go_num, by omega, HZk.out⟩, rfl⟩)
          case measure => simp [intOf]; omega
      · obtain rfl : i3 = 3 := by omega
        clear hin hi3
        have HL2 := Lib.hid (HBB.out.trans HZ.out.low)
        have Awr2 := Lib.hid (Aw2.out.trans (HL2.out.mono Aw2.out.size))
        obtain ⟨c0, c8, c9, c10, clt⟩ := HCX.out _ Awr2.out
        have HSM := Lib.hid (dSameB_any (HIX.out _ Awr2.out).rows (HOW.out _ HL2.out) HIB.out HBS2.out)
        rw [HEQ.out, decide_eq_true rfl] at HSM
        go_wp2_with (first
          | (go_at_call 13; ((with_reducible refine HSM.out.mono ?_); rintro e w8 ⟨rfl, hb⟩); have Aw8 := Lib.hid (Awr2.out.trans (hb.mono Awr2.out.size)); clear hb)
          | (go_at_call 8; ((with_reducible refine (lhead_any PB _).mono ?_); rintro e w9 ⟨rfl, hb⟩); have Aw9 := Lib.hid (Aw8.out.trans (hb.mono Aw8.out.size)); clear hb))
        go_ret
        exact ⟨rfl, HFIN.out _ Aw9.out⟩
end Go.Proofs.YtkjffoebcblpoaaGreat.gn
