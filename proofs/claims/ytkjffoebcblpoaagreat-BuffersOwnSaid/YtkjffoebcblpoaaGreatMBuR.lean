/- The law BuffersTell, over the program's calls as premises. (Written by gen_buR.py, ahead of the code.) -/
import Derived.Test.YtkjffoebcblpoaaGreatMBuQ
section
set_option linter.unusedVariables false
set_option linter.unusedSimpArgs false
namespace Go.Proofs.YtkjffoebcblpoaaGreat.gn
open Go.RowKit
open Go.Proofs.YtkjffoebcblpoaaGreat.bu (Bf May Valid addS refS unrefS dropS freeS findS ofS)

theorem Ask.next {W W' : World} {v : Value} {L : List (Bf × Gb)} {b : Bf × Gb} {name user : List UInt8} {job : Int} (h : Ask W v L b name user job) (hb : Below W.heap.size W W') : Ask W' v L b name user job :=
  ⟨h.rows.next hb, h.cap, h.all, h.caps, h.one.next hb, h.oneA, h.oneC, h.name, h.user, h.job⟩
/-- What the document's Drop and Free told, read later. -/
theorem drop_rb {L : List (Bf × Gb)} {b : Bf} {g : Gb} {w : World} (h : (b, g) ∈ L ∨ (b = Bf.zero ∧ g = gZ)) (hL : ∀ q ∈ L, RB w q.1 q.2) : RB w b g := by
  rcases h with h | ⟨rfl, rfl⟩
  · exact hL _ h
  · exact rb_zero w
theorem range_row {Y : World} {k : Nat} {lv ge gr : Value} {b : Bf} {name user : List UInt8} {job : Int} (h : BoxA Y k 28 #[lv, .int .i64 b.job, .string (str b.name), .string (str b.user), .string (str b.pool), .bool b.opn, ge, gr, .string (str name), .string (str user), .int .i64 job]) : Y.rangeAt k 1 [.int .i64 b.job, .string (str b.name), .string (str b.user), .string (str b.pool), .bool b.opn, ge, gr] := fun j u hu => BoxA.cell h (1 + j) u (by
  rcases j with _ | _ | _ | _ | _ | _ | _ | j
  all_goals first | exact hu | (simp at hu))
set_option maxRecDepth 100000 in
set_option maxHeartbeats 32000000 in
theorem tell_law (PB : ProgB) {w : World} {lv : Value} {L : List (Bf × Gb)} {b : Bf} {ge gr : Value} {name user : List UInt8} {job : Int} (h : Ask w lv L (b, ⟨ge, gr⟩) name user job) :
    Calls Tryz.prog 3 #[.agg #[lv, .int .i64 b.job, .string (str b.name), .string (str b.user), .string (str b.pool), .bool b.opn, ge, gr, .string (str name), .string (str user), .int .i64 job]] w (TellsM (.bool true) w) := by
  obtain ⟨W, hW⟩ : ∃ W, w.alloc (.cells #[lv, .int .i64 b.job, .string (str b.name), .string (str b.user), .string (str b.pool), .bool b.opn, ge, gr, .string (str name), .string (str user), .int .i64 job] 28) = W := ⟨_, rfl⟩
  have hbx : BoxA W w.heap.size 28 #[lv, .int .i64 b.job, .string (str b.name), .string (str b.user), .string (str b.pool), .bool b.opn, ge, gr, .string (str name), .string (str user), .int .i64 job] := by rw [← hW]; exact BoxA.new _ _ _
  have hl : Below w.heap.size w W := by rw [← hW]; exact (Below.refl _ _).alloc (Nat.le_refl _) _
  have HBX := Lib.hid (fun (Y : World) (hy : Below W.heap.size W Y) => (show BoxA Y w.heap.size 28 #[lv, .int .i64 b.job, .string (str b.name), .string (str b.user), .string (str b.pool), .bool b.opn, ge, gr, .string (str name), .string (str user), .int .i64 job] from hbx.next hy))
  have HFIN := Lib.hid (fun (Y : World) (hy : Below W.heap.size W Y) => (show Below w.heap.size w Y from hl.trans (hy.mono hl.size)))
  have HCX := Lib.hid (fun (Y : World) (hy : Below W.heap.size W Y) => (show Y.cell? ⟨w.heap.size, 0, none⟩ = some lv ∧ Y.cell? ⟨w.heap.size, 8, none⟩ = some (.string (str name)) ∧ Y.cell? ⟨w.heap.size, 9, none⟩ = some (.string (str user)) ∧ Y.cell? ⟨w.heap.size, 10, none⟩ = some (.int .i64 job) ∧ w.heap.size < Y.heap.size from
    ⟨BoxA.cell (hbx.next hy) 0 _ rfl, BoxA.cell (hbx.next hy) 8 _ rfl, BoxA.cell (hbx.next hy) 9 _ rfl, BoxA.cell (hbx.next hy) 10 _ rfl, BoxA.lt (hbx.next hy)⟩))
  have HSZ := Lib.hid (show w.heap.size < W.heap.size from hbx.lt)
  have HGR := Lib.hid (fun (Y : World) (hy : Below W.heap.size W Y) => lgreat_any (h.next (hl.trans (hy.mono hl.size))))
  have HAR := Lib.hid (fun (Y : World) (hy : Below W.heap.size W Y) => range_row (hbx.next hy))
  have HW := Lib.hid hW
  have HWR := Lib.hid (Below.refl W.heap.size W)
  clear hW hbx hl
  obtain ⟨lg, hlg⟩ : ∃ t, lgB (L.map Prod.fst) b name user = t := ⟨_, rfl⟩
  rw [hlg] at HGR
  cases lg with
  | true =>
    clear h hlg
    go_enter Tryz.func3, Tryz.ntmps3
    apply wp_seq_k
    intro K hK
    apply wp_region_lit
    refine Great.wpList_boxTo rfl _ _ rfl _ rfl w.heap.size rfl #[lv, .int .i64 b.job, .string (str b.name), .string (str b.user), .string (str b.pool), .bool b.opn, ge, gr, .string (str name), .string (str user), .int .i64 job] rfl ?_
    rw [HW.out]
    go_wp2_with (first
      | (refine wpl_load_g (by rfl) _ _ rfl w.heap.size rfl _ _ _ _ (HBX.out _ HWR.out) Tryz.underlying28 rfl (by kernel_rfl) ?_)
      | (go_at_call 7; ((with_reducible refine (HGR.out _ HWR.out).mono ?_); rintro e w1 ⟨rfl, hb⟩); have A1 := Lib.hid hb; clear hb)
      | (go_at_call 8; ((with_reducible refine (lhead_any PB _).mono ?_); rintro e w2 ⟨rfl, hb⟩); have A2 := Lib.hid (A1.out.trans (hb.mono A1.out.size)); clear hb))
    go_ret
    exact ⟨rfl, HFIN.out _ A2.out⟩
  | false =>
    obtain ⟨k1, k2, k3, k4⟩ := lgB_look hlg
    have hlk : L.length ≤ 25 ∧ ∀ q ∈ L, BLook q.1 := ⟨by have := k1.1; rwa [List.length_map] at this, fun q hq => k1.2 _ (List.mem_map.2 ⟨q, hq, rfl⟩)⟩
    have hib := h.ib hlk
    have hbi := h.oneA.bi k2
    have hnm : name.length ≤ 140737488355328 := by omega
    have hus : user.length ≤ 140737488355328 := by omega
    have HADD := Lib.hid (fun (Y : World) (hy : Below W.heap.size W Y) => PB.add (hib.next (HFIN.out Y hy)) b ⟨ge, gr⟩ (h.one.next (HFIN.out Y hy)) hbi h.oneC)
    have HADDd := Lib.hid (fun (Y : World) (hy : Below W.heap.size W Y) => dAdd_any (hib.next (HFIN.out Y hy)).rows hib.bis b ⟨ge, gr⟩ (h.one.next (HFIN.out Y hy)) hbi)
    have HCHK := Lib.hid (fun (Y : World) (hy : Below W.heap.size W Y) => PB.check (hib.next (HFIN.out Y hy)))
    have HCHKd := Lib.hid (fun (Y : World) (hy : Below W.heap.size W Y) => dCheckB_any (hib.next (HFIN.out Y hy)).rows hib.bis)
    have HREF := Lib.hid (fun (Y : World) (hy : Below W.heap.size W Y) => PB.ref (hib.next (HFIN.out Y hy)) name user job h.job k3 k4)
    have HREFd := Lib.hid (fun (Y : World) (hy : Below W.heap.size W Y) => dRef_any (hib.next (HFIN.out Y hy)).rows hib.bis name user job h.job)
    have HUNR := Lib.hid (fun (Y : World) (hy : Below W.heap.size W Y) => PB.unref (hib.next (HFIN.out Y hy)) job h.job)
    have HUNRd := Lib.hid (fun (Y : World) (hy : Below W.heap.size W Y) => dUnref_any (hib.next (HFIN.out Y hy)).rows hib.bis job h.job)
    have HDRP := Lib.hid (fun (Y : World) (hy : Below W.heap.size W Y) => PB.drop (hib.next (HFIN.out Y hy)) name user hnm hus)
    have HDRPd := Lib.hid (fun (Y : World) (hy : Below W.heap.size W Y) => dDrop_any (hib.next (HFIN.out Y hy)).rows hib.bis hib.capOk name user)
    have HFRE := Lib.hid (fun (Y : World) (hy : Below W.heap.size W Y) => PB.free (hib.next (HFIN.out Y hy)) job h.job)
    have HFREd := Lib.hid (fun (Y : World) (hy : Below W.heap.size W Y) => dFree_any (hib.next (HFIN.out Y hy)).rows hib.bis hib.capOk job)
    have HFND := Lib.hid (fun (Y : World) (hy : Below W.heap.size W Y) => PB.find (hib.next (HFIN.out Y hy)) name hnm)
    have HFNDd := Lib.hid (fun (Y : World) (hy : Below W.heap.size W Y) => dFind_any (hib.next (HFIN.out Y hy)).rows hib.bis name)
    have HOF := Lib.hid (fun (Y : World) (hy : Below W.heap.size W Y) => PB.of (hib.next (HFIN.out Y hy)) job h.job)
    have HOFd := Lib.hid (fun (Y : World) (hy : Below W.heap.size W Y) => dOf_any (hib.next (HFIN.out Y hy)).rows hib.bis job)
    unfold bV bcs at HADD HADDd
    dsimp only at HADD HADDd
    have HBI := Lib.hid hbi
    have HRL := Lib.hid (fun (Y : World) (hy : Below W.heap.size W Y) => (hib.rows.next (HFIN.out Y hy)).rows)
    have HIB := Lib.hid hib.bis
    clear h hlg k1 k2 k3 k4 hlk hib hbi hnm hus
    obtain ⟨la, hgla⟩ : ∃ x, (addS (L.map Prod.fst) b).1 = x := ⟨_, rfl⟩
    rw [hgla] at HADD HADDd
    clear hgla
    obtain ⟨ea, hgea⟩ : ∃ x, (addS (L.map Prod.fst) b).2 = x := ⟨_, rfl⟩
    rw [hgea] at HADD HADDd
    clear hgea
    obtain ⟨ec, hgec⟩ : ∃ x, vE (L.map Prod.fst) = x := ⟨_, rfl⟩
    rw [hgec] at HCHK HCHKd
    clear hgec
    obtain ⟨lr, hglr⟩ : ∃ x, (refS (L.map Prod.fst) name user job).1 = x := ⟨_, rfl⟩
    rw [hglr] at HREF HREFd
    clear hglr
    obtain ⟨er, hger⟩ : ∃ x, (refS (L.map Prod.fst) name user job).2 = x := ⟨_, rfl⟩
    rw [hger] at HREF HREFd
    clear hger
    obtain ⟨lu, hglu⟩ : ∃ x, (unrefS (L.map Prod.fst) job).1 = x := ⟨_, rfl⟩
    rw [hglu] at HUNR HUNRd
    clear hglu
    obtain ⟨eu, hgeu⟩ : ∃ x, (unrefS (L.map Prod.fst) job).2 = x := ⟨_, rfl⟩
    rw [hgeu] at HUNR HUNRd
    clear hgeu
    obtain ⟨ld, hgld⟩ : ∃ x, (dropS (L.map Prod.fst) name user).1 = x := ⟨_, rfl⟩
    rw [hgld] at HDRP HDRPd
    clear hgld
    obtain ⟨bd, hgbd⟩ : ∃ x, (dropS (L.map Prod.fst) name user).2.1 = x := ⟨_, rfl⟩
    rw [hgbd] at HDRP HDRPd
    clear hgbd
    obtain ⟨ed, hged⟩ : ∃ x, (dropS (L.map Prod.fst) name user).2.2 = x := ⟨_, rfl⟩
    rw [hged] at HDRP HDRPd
    clear hged
    obtain ⟨lf, hglf⟩ : ∃ x, (freeS (L.map Prod.fst) job).1 = x := ⟨_, rfl⟩
    rw [hglf] at HFRE HFREd
    clear hglf
    obtain ⟨bf, hgbf⟩ : ∃ x, (freeS (L.map Prod.fst) job).2.1 = x := ⟨_, rfl⟩
    rw [hgbf] at HFRE HFREd
    clear hgbf
    obtain ⟨ef, hgef⟩ : ∃ x, (freeS (L.map Prod.fst) job).2.2 = x := ⟨_, rfl⟩
    rw [hgef] at HFRE HFREd
    clear hgef
    obtain ⟨bn, hgbn⟩ : ∃ x, (findS (L.map Prod.fst) name).1 = x := ⟨_, rfl⟩
    rw [hgbn] at HFND HFNDd
    clear hgbn
    obtain ⟨tn, hgtn⟩ : ∃ x, (findS (L.map Prod.fst) name).2 = x := ⟨_, rfl⟩
    rw [hgtn] at HFND HFNDd
    clear hgtn
    obtain ⟨bo, hgbo⟩ : ∃ x, (ofS (L.map Prod.fst) job).1 = x := ⟨_, rfl⟩
    rw [hgbo] at HOF HOFd
    clear hgbo
    obtain ⟨tq, hgtq⟩ : ∃ x, (ofS (L.map Prod.fst) job).2 = x := ⟨_, rfl⟩
    rw [hgtq] at HOF HOFd
    clear hgtq
    have nea : (ea != ea) = false := by simp
    have nec : (ec != ec) = false := by simp
    have ner : (er != er) = false := by simp
    have neu : (eu != eu) = false := by simp
    have ned : (ed != ed) = false := by simp
    have nef : (ef != ef) = false := by simp
    have ntn : (tn == tn) = true := by simp
    have ntq : (tq == tq) = true := by simp
    obtain ⟨c0, c8, c9, c10, clt⟩ := HCX.out _ HWR.out
    go_enter Tryz.func3, Tryz.ntmps3
    apply wp_seq_k
    intro K hK
    apply wp_region_lit
    refine Great.wpList_boxTo rfl _ _ rfl _ rfl w.heap.size rfl #[lv, .int .i64 b.job, .string (str b.name), .string (str b.user), .string (str b.pool), .bool b.opn, ge, gr, .string (str name), .string (str user), .int .i64 job] rfl ?_
    rw [HW.out]
    go_upto_region 3 with (first
      | (refine wpl_load_g (by rfl) _ _ rfl w.heap.size rfl _ _ _ _ (HBX.out _ HWR.out) Tryz.underlying28 rfl (by kernel_rfl) ?_)
      | (go_at_call 7; ((with_reducible refine (HGR.out _ HWR.out).mono ?_); rintro e w1 ⟨rfl, hb⟩); have Hw1 := Lib.hid hb; have Aw1 := Lib.hid hb; clear hb))
    obtain ⟨c0, c8, c9, c10, clt⟩ := HCX.out _ Aw1.out
    go_upto_region 4 with (first
      | (refine wpList_load_mid rfl _ _ rfl w.heap.size 1 rfl [.int .i64 b.job, .string (str b.name), .string (str b.user), .string (str b.pool), .bool b.opn, ge, gr] _ (HAR.out _ Aw1.out) Tryz.underlying26 rfl (by kernel_rfl) ?_)
      | (go_at_call 9; ((with_reducible refine (HADD.out _ Aw1.out).mono ?_); rintro e w2 hq); obtain ⟨v2, M2, rfl, hm, hi, hb⟩ := hq.q; have Hw2 := Lib.hid hb; have Aw2 := Lib.hid (show Below W.heap.size W w2 from (Aw1.out).trans (hb.mono (Aw1.out).size)); have HM2 := Lib.hid hm; have HI2 := Lib.hid hi; clear hm hi; clear hb))
    obtain ⟨c0, c8, c9, c10, clt⟩ := HCX.out _ Aw2.out
    go_upto_region 5 with (first
      | (refine wpList_load_mid rfl _ _ rfl w.heap.size 1 rfl [.int .i64 b.job, .string (str b.name), .string (str b.user), .string (str b.pool), .bool b.opn, ge, gr] _ (HAR.out _ Aw2.out) Tryz.underlying26 rfl (by kernel_rfl) ?_)
      | (go_at_call 10; ((with_reducible refine (HADDd.out _ Aw2.out).mono ?_); rintro e w3 hq); obtain ⟨v3, M3, rfl, hm, hr, hi, hb⟩ := hq; have Hw3 := Lib.hid hb; have Aw3 := Lib.hid (show Below W.heap.size W w3 from (Aw2.out).trans (hb.mono (Aw2.out).size)); have HM3 := Lib.hid hm; have HR3 := Lib.hid hr; have HI3 := Lib.hid hi; clear hm hr hi; clear hb))
    obtain ⟨c0, c8, c9, c10, clt⟩ := HCX.out _ Aw3.out
    have Hw3d := Lib.hid (drew_lowB w3)
    have Aw3d := Lib.hid (show Below W.heap.size W w3.drew from Below.drew Aw3.out)
    refine wp_region_held_drew (S := (fun Y => Y.cell? ⟨w.heap.size, 0, none⟩ = some lv)) (by kernel_rfl) (by exact (HCX.out _ Aw3d.out).1) (fun hHeld => ?_)
    refine wpAnyH_take (i := 0) (v := ?_) (ata at0) (by kernel_rfl) (by kernel_rfl) (by kernel_rfl) (fun _ _ _ h => h) (Or.inl ⟨by rfl, ?_⟩) (by assumption) ?_
    rotate_left
    · (intro w hSw; (try dsimp only at hSw); go_simp; (first | done | with_reducible rfl))
    try simp only [Act.put, List.setIfInBounds_toArray, List.set_cons_zero, List.set_cons_succ]
    refine wpAnyH_take (i := 1) (v := ?_) (ata (atS at0)) (by kernel_rfl) (by kernel_rfl) (by kernel_rfl) (fun _ _ _ h => h) (Or.inl ⟨by rfl, ?_⟩) (by assumption) ?_
    rotate_left
    · (intro w hSw; (try dsimp only at hSw); go_simp; (first | done | with_reducible rfl))
    try simp only [Act.put, List.setIfInBounds_toArray, List.set_cons_zero, List.set_cons_succ]
    refine wpAnyH_take (i := 3) (v := ?_) (ata (atS (atS (atS at0)))) (by kernel_rfl) (by kernel_rfl) (by kernel_rfl) (fun _ _ _ h => h) (Or.inl ⟨by rfl, ?_⟩) (by assumption) ?_
    rotate_left
    · (intro w hSw; (try dsimp only at hSw); go_simp; (first | done | with_reducible rfl))
    try simp only [Act.put, List.setIfInBounds_toArray, List.set_cons_zero, List.set_cons_succ]
    refine wpAnyH_take (i := 4) (v := ?_) (ata (atS (atS (atS (atS at0))))) (by kernel_rfl) (by kernel_rfl) (by kernel_rfl) (fun _ _ _ h => h) (Or.inl ⟨by rfl, ?_⟩) (by assumption) ?_
    rotate_left
    · (intro w hSw; (try dsimp only at hSw); go_simp; (first | done | with_reducible rfl))
    try simp only [Act.put, List.setIfInBounds_toArray, List.set_cons_zero, List.set_cons_succ]
    refine wpAnyH_ready (rs := [2]) (by kernel_rfl) (by simp) ?_
    refine AllReadyH.cons (ata (atS (atS at0))) (fun K hK => ?_) AllReadyH.nil
    go_simp
    (go_at_call 11; ((with_reducible refine (HCHK.out _ Aw3d.out).mono ?_); rintro e w4 ⟨rfl, hb⟩); have Hw4 := Lib.hid hb; have Aw4 := Lib.hid (Aw3d.out.trans (hb.mono Aw3d.out.size)); clear hb)
    go_wp2_with fail
    refine hK.out _ _ (by exact (HCX.out _ Aw4.out).1) (fun hHeld => ?_)
    clear hK K
    try simp only [Act.put, List.setIfInBounds_toArray, List.set_cons_zero, List.set_cons_succ]
    refine wpAnyH_ready (rs := [5]) (by kernel_rfl) (by simp) ?_
    refine AllReadyH.cons (ata (atS (atS (atS (atS (atS at0)))))) (fun K hK => ?_) AllReadyH.nil
    go_simp
    (go_at_call 12; ((with_reducible refine (HCHKd.out _ Aw4.out).mono ?_); rintro e w5 ⟨rfl, hb⟩); have Hw5 := Lib.hid hb; have Aw5 := Lib.hid (Aw4.out.trans (hb.mono Aw4.out.size)); clear hb)
    go_wp2_with fail
    refine hK.out _ _ (by exact (HCX.out _ Aw5.out).1) (fun hHeld => ?_)
    clear hK K
    try simp only [Act.put, List.setIfInBounds_toArray, List.set_cons_zero, List.set_cons_succ]
    have HSw6 := Lib.hid (dSameB_any (HI2.out.rows.next (((Hw3.out.trans (Hw3d.out.mono Hw3.out.size)).trans (Hw4.out.mono (Hw3.out.trans (Hw3d.out.mono Hw3.out.size)).size)).trans (Hw5.out.mono ((Hw3.out.trans (Hw3d.out.mono Hw3.out.size)).trans (Hw4.out.mono (Hw3.out.trans (Hw3d.out.mono Hw3.out.size)).size)).size))) (HR3.out.next ((Hw3d.out.trans (Hw4.out.mono Hw3d.out.size)).trans (Hw5.out.mono (Hw3d.out.trans (Hw4.out.mono Hw3d.out.size)).size))) HI2.out.bis HI3.out)
    rw [HM2.out, HM3.out, decide_eq_true rfl] at HSw6
    refine wpAnyH_take (i := 6) (v := ?_) (ata (atS (atS (atS (atS (atS (atS at0))))))) (by kernel_rfl) (by kernel_rfl) (by kernel_rfl) (fun _ _ _ h => h) (Or.inl ⟨by rfl, ?_⟩) (by assumption) ?_
    rotate_left
    · (intro w hSw; (try dsimp only at hSw); go_simp; (first | done | with_reducible rfl))
    try simp only [Act.put, List.setIfInBounds_toArray, List.set_cons_zero, List.set_cons_succ]
    refine wpAnyH_take (i := 7) (v := ?_) (ata (atS (atS (atS (atS (atS (atS (atS at0)))))))) (by kernel_rfl) (by kernel_rfl) (by kernel_rfl) (fun _ _ _ h => h) (Or.inl ⟨by rfl, ?_⟩) (by assumption) ?_
    rotate_left
    · (intro w hSw; (try dsimp only at hSw); go_simp; (first | done | with_reducible rfl))
    try simp only [Act.put, List.setIfInBounds_toArray, List.set_cons_zero, List.set_cons_succ]
    refine wpAnyH_take (i := 8) (v := ?_) (ata (atS (atS (atS (atS (atS (atS (atS (atS at0))))))))) (by kernel_rfl) (by kernel_rfl) (by kernel_rfl) (fun _ _ _ h => h) (Or.inl ⟨by rfl, ?_⟩) (by assumption) ?_
    rotate_left
    · (intro w hSw; (try dsimp only at hSw); go_simp; (first | done | with_reducible rfl))
    try simp only [Act.put, List.setIfInBounds_toArray, List.set_cons_zero, List.set_cons_succ]
    refine wpAnyH_take (i := 9) (v := ?_) (ata (atS (atS (atS (atS (atS (atS (atS (atS (atS at0)))))))))) (by kernel_rfl) (by kernel_rfl) (by kernel_rfl) (fun _ _ _ h => h) (Or.inl ⟨by rfl, ?_⟩) (by assumption) ?_
    rotate_left
    · (intro w hSw; (try dsimp only at hSw); go_simp; (first | done | with_reducible rfl))
    try simp only [Act.put, List.setIfInBounds_toArray, List.set_cons_zero, List.set_cons_succ]
    refine wpAnyH_ready (rs := [10]) (by kernel_rfl) (by simp) ?_
    refine AllReadyH.cons (ata (atS (atS (atS (atS (atS (atS (atS (atS (atS (atS at0))))))))))) (fun K hK => ?_) AllReadyH.nil
    go_simp
    (go_at_call 13; ((with_reducible refine HSw6.out.mono ?_); rintro e w6 ⟨rfl, hb⟩); have Hw6 := Lib.hid hb; have Aw6 := Lib.hid (show Below W.heap.size W w6 from (Aw5.out).trans (hb.mono (Aw5.out).size)); clear hb)
    go_wp2_with fail
    refine hK.out _ _ (by exact (HCX.out _ Aw6.out).1) (fun hHeld => ?_)
    clear hK K
    try simp only [Act.put, List.setIfInBounds_toArray, List.set_cons_zero, List.set_cons_succ]
    refine wpAnyH_take (i := 11) (v := ?_) (ata (atS (atS (atS (atS (atS (atS (atS (atS (atS (atS (atS at0)))))))))))) (by kernel_rfl) (by kernel_rfl) (by kernel_rfl) (fun _ _ _ h => h) (Or.inl ⟨by rfl, ?_⟩) (by assumption) ?_
    rotate_left
    · (intro w hSw; (try dsimp only at hSw); go_simp; (first | done | with_reducible rfl))
    try simp only [Act.put, List.setIfInBounds_toArray, List.set_cons_zero, List.set_cons_succ]
    refine wpAnyH_take (i := 12) (v := ?_) (ata (atS (atS (atS (atS (atS (atS (atS (atS (atS (atS (atS (atS at0))))))))))))) (by kernel_rfl) (by kernel_rfl) (by kernel_rfl) (fun _ _ _ h => h) (Or.inl ⟨by rfl, ?_⟩) (by assumption) ?_
    rotate_left
    · (intro w hSw; (try dsimp only at hSw); go_simp; (first | done | with_reducible rfl))
    try simp only [Act.put, List.setIfInBounds_toArray, List.set_cons_zero, List.set_cons_succ]
    refine wpAnyH_take (i := 13) (v := ?_) (ata (atS (atS (atS (atS (atS (atS (atS (atS (atS (atS (atS (atS (atS at0)))))))))))))) (by kernel_rfl) (by kernel_rfl) (by kernel_rfl) (fun _ _ _ h => h) (Or.inl ⟨by rfl, ?_⟩) (by assumption) ?_
    rotate_left
    · (intro w hSw; (try dsimp only at hSw); go_simp; (first | done | with_reducible rfl))
    try simp only [Act.put, List.setIfInBounds_toArray, List.set_cons_zero, List.set_cons_succ]
    refine wpAnyH_take (i := 14) (v := ?_) (ata (atS (atS (atS (atS (atS (atS (atS (atS (atS (atS (atS (atS (atS (atS at0))))))))))))))) (by kernel_rfl) (by kernel_rfl) (by kernel_rfl) (fun _ _ _ h => h) (Or.inl ⟨by rfl, ?_⟩) (by assumption) ?_
    rotate_left
    · (intro w hSw; (try dsimp only at hSw); go_simp; (first | done | with_reducible rfl))
    try simp only [Act.put, List.setIfInBounds_toArray, List.set_cons_zero, List.set_cons_succ]
    refine wpAnyH_take (i := 15) (v := ?_) (ata (atS (atS (atS (atS (atS (atS (atS (atS (atS (atS (atS (atS (atS (atS (atS at0)))))))))))))))) (by kernel_rfl) (by kernel_rfl) (by kernel_rfl) (fun _ _ _ h => h) (Or.inl ⟨by rfl, ?_⟩) (by assumption) ?_
    rotate_left
    · (intro w hSw; (try dsimp only at hSw); go_simp; (first | done | with_reducible rfl))
    try simp only [Act.put, List.setIfInBounds_toArray, List.set_cons_zero, List.set_cons_succ]
    refine wpAnyH_take (i := 16) (v := ?_) (ata (atS (atS (atS (atS (atS (atS (atS (atS (atS (atS (atS (atS (atS (atS (atS (atS at0))))))))))))))))) (by kernel_rfl) (by kernel_rfl) (by kernel_rfl) (fun _ _ _ h => h) (Or.inl ⟨by rfl, ?_⟩) (by assumption) ?_
    rotate_left
    · (intro w hSw; (try dsimp only at hSw); go_simp; (first | done | with_reducible rfl))
    try simp only [Act.put, List.setIfInBounds_toArray, List.set_cons_zero, List.set_cons_succ]
    refine wpAnyH_take (i := 17) (v := ?_) (ata (atS (atS (atS (atS (atS (atS (atS (atS (atS (atS (atS (atS (atS (atS (atS (atS (atS at0)))))))))))))))))) (by kernel_rfl) (by kernel_rfl) (by kernel_rfl) (fun _ _ _ h => h) (Or.inl ⟨by rfl, ?_⟩) (by assumption) ?_
    rotate_left
    · (intro w hSw; (try dsimp only at hSw); go_simp; (first | done | with_reducible rfl))
    try simp only [Act.put, List.setIfInBounds_toArray, List.set_cons_zero, List.set_cons_succ]
    refine wpAnyH_done (by kernel_rfl) ?_ _
    obtain ⟨c0, c8, c9, c10, clt⟩ := HCX.out _ Aw6.out
    go_upto_region 7 with fail
    go_upto_region 8 with (first
      | (go_at_call 14; ((with_reducible refine (HREF.out _ Aw6.out).mono ?_); rintro e w7 hq); obtain ⟨v7, M7, rfl, hm, hi, hb⟩ := hq.q; have Hw7 := Lib.hid hb; have Aw7 := Lib.hid (show Below W.heap.size W w7 from (Aw6.out).trans (hb.mono (Aw6.out).size)); have HM7 := Lib.hid hm; have HI7 := Lib.hid hi; clear hm hi; clear hb))
    obtain ⟨c0, c8, c9, c10, clt⟩ := HCX.out _ Aw7.out
    go_upto_region 9 with (first
      | (go_at_call 15; ((with_reducible refine (HREFd.out _ Aw7.out).mono ?_); rintro e w8 hq); obtain ⟨v8, M8, rfl, hm, hr, hi, hb⟩ := hq; have Hw8 := Lib.hid hb; have Aw8 := Lib.hid (show Below W.heap.size W w8 from (Aw7.out).trans (hb.mono (Aw7.out).size)); have HM8 := Lib.hid hm; have HR8 := Lib.hid hr; have HI8 := Lib.hid hi; clear hm hr hi; clear hb))
    obtain ⟨c0, c8, c9, c10, clt⟩ := HCX.out _ Aw8.out
    have HSw9 := Lib.hid (dSameB_any (HI7.out.rows.next Hw8.out) (HR8.out.next (Below.refl _ _)) HI7.out.bis HI8.out)
    rw [HM7.out, HM8.out, decide_eq_true rfl] at HSw9
    go_upto_region 11 with (go_at_call 13; ((with_reducible refine HSw9.out.mono ?_); rintro e w9 ⟨rfl, hb⟩); have Hw9 := Lib.hid hb; have Aw9 := Lib.hid (show Below W.heap.size W w9 from (Aw8.out).trans (hb.mono (Aw8.out).size)); clear hb)
    obtain ⟨c0, c8, c9, c10, clt⟩ := HCX.out _ Aw9.out
    go_upto_region 12 with (first
      | (go_at_call 16; ((with_reducible refine (HUNR.out _ Aw9.out).mono ?_); rintro e w10 hq); obtain ⟨v10, M10, rfl, hm, hi, hb⟩ := hq; have Hw10 := Lib.hid hb; have Aw10 := Lib.hid (show Below W.heap.size W w10 from (Aw9.out).trans (hb.mono (Aw9.out).size)); have HM10 := Lib.hid hm; have HI10 := Lib.hid hi; clear hm hi; clear hb))
    obtain ⟨c0, c8, c9, c10, clt⟩ := HCX.out _ Aw10.out
    go_upto_region 13 with (first
      | (go_at_call 17; ((with_reducible refine (HUNRd.out _ Aw10.out).mono ?_); rintro e w11 hq); obtain ⟨v11, M11, rfl, hm, hr, hi, hb⟩ := hq; have Hw11 := Lib.hid hb; have Aw11 := Lib.hid (show Below W.heap.size W w11 from (Aw10.out).trans (hb.mono (Aw10.out).size)); have HM11 := Lib.hid hm; have HR11 := Lib.hid hr; have HI11 := Lib.hid hi; clear hm hr hi; clear hb))
    obtain ⟨c0, c8, c9, c10, clt⟩ := HCX.out _ Aw11.out
    have HSw12 := Lib.hid (dSameB_any (HI10.out.rows.next Hw11.out) (HR11.out.next (Below.refl _ _)) HI10.out.bis HI11.out)
    rw [HM10.out, HM11.out, decide_eq_true rfl] at HSw12
    go_upto_region 15 with (go_at_call 13; ((with_reducible refine HSw12.out.mono ?_); rintro e w12 ⟨rfl, hb⟩); have Hw12 := Lib.hid hb; have Aw12 := Lib.hid (show Below W.heap.size W w12 from (Aw11.out).trans (hb.mono (Aw11.out).size)); clear hb)
    obtain ⟨c0, c8, c9, c10, clt⟩ := HCX.out _ Aw12.out
    go_upto_region 16 with (first
      | (go_at_call 18; ((with_reducible refine (HDRP.out _ Aw12.out).mono ?_); rintro e w13 hq); obtain ⟨v13, M13, g13, rfl, hm, hi, ht, hbi, hcb, hb⟩ := hq; have Hw13 := Lib.hid hb; have Aw13 := Lib.hid (show Below W.heap.size W w13 from (Aw12.out).trans (hb.mono (Aw12.out).size)); have HM13 := Lib.hid hm; have HI13 := Lib.hid hi; have HT13 := Lib.hid ht; have HB13 := Lib.hid hbi; clear hm hi ht hbi hcb; clear hb)
      | (refine wpList_store_row rfl _ _ _ rfl w13.heap.size (bcs bd g13) rfl rfl _ _ (BoxA.new w13 _ _) (by kernel_rfl) rfl (bcs_all (HT13.out.rb (HRL.out _ Aw13.out))) ?_))
    obtain ⟨W13, hW, hkW, hbW⟩ := box_endB w13 #[.int .i64 0, .string { data := #[] }, .string { data := #[] }, .string { data := #[] }, .bool false, .slice none 0 0, .slice none 0 0] (bcs bd g13) 26
    rw [hW]
    have HX13 := Lib.hid (show BoxA W13 w13.heap.size 26 (bcs bd g13) from hkW)
    have HW13 := Lib.hid hbW
    have AW13 := Lib.hid (show Below W.heap.size W W13 from Aw13.out.trans (hbW.mono Aw13.out.size))
    clear hW hkW hbW
    try simp only [Act.put]
    obtain ⟨c0, c8, c9, c10, clt⟩ := HCX.out _ AW13.out
    go_upto_region 17 with (first
      | (go_at_call 19; ((with_reducible refine (HDRPd.out _ AW13.out).mono ?_); rintro e w14 hq); obtain ⟨v14, M14, g14, rfl, hm, ho, hin, hi, ht, hbi, hb⟩ := hq; have Hw14 := Lib.hid hb; have Aw14 := Lib.hid (show Below W.heap.size W w14 from (AW13.out).trans (hb.mono (AW13.out).size)); have HM14 := Lib.hid hm; have HO14 := Lib.hid ho; have HL14 := Lib.hid hin; have HI14 := Lib.hid hi; have HT14 := Lib.hid ht; clear hm ho hin hi ht hbi; clear hb)
      | (refine wpList_store_row rfl _ _ _ rfl w14.heap.size (bcs bd g14) rfl rfl _ _ (BoxA.new w14 _ _) (by kernel_rfl) rfl (bcs_all (drop_rb HT14.out (HRL.out _ Aw14.out))) ?_))
    obtain ⟨W14, hW, hkW, hbW⟩ := box_endB w14 #[.int .i64 0, .string { data := #[] }, .string { data := #[] }, .string { data := #[] }, .bool false, .slice none 0 0, .slice none 0 0] (bcs bd g14) 26
    rw [hW]
    have HX14 := Lib.hid (show BoxA W14 w14.heap.size 26 (bcs bd g14) from hkW)
    have HW14 := Lib.hid hbW
    have AW14 := Lib.hid (show Below W.heap.size W W14 from Aw14.out.trans (hbW.mono Aw14.out.size))
    clear hW hkW hbW
    try simp only [Act.put]
    obtain ⟨c0, c8, c9, c10, clt⟩ := HCX.out _ AW14.out
    have HSw15 := Lib.hid (dSameB_any (HI13.out.rows.next ((HW13.out.trans (Hw14.out.mono HW13.out.size)).trans (HW14.out.mono (HW13.out.trans (Hw14.out.mono HW13.out.size)).size))) ((HO14.out.next HW14.out).rbs (fun p hp => HRL.out _ AW14.out p (HL14.out p hp))) HI13.out.bis HI14.out)
    rw [HM13.out, HM14.out, decide_eq_true rfl] at HSw15
    go_upto_region 19 with (first
      | (go_at_call 13; ((with_reducible refine HSw15.out.mono ?_); rintro e w15 ⟨rfl, hb⟩); have Hw15 := Lib.hid hb; have Aw15 := Lib.hid (show Below W.heap.size W w15 from (AW14.out).trans (hb.mono (AW14.out).size)); clear hb)
      | (go_at_call 20; have h1 := dOne_any bd bd g13 g14 w15 (HT13.out.next (((HW13.out.trans (Hw14.out.mono HW13.out.size)).trans (HW14.out.mono (HW13.out.trans (Hw14.out.mono HW13.out.size)).size)).trans (Hw15.out.mono ((HW13.out.trans (Hw14.out.mono HW13.out.size)).trans (HW14.out.mono (HW13.out.trans (Hw14.out.mono HW13.out.size)).size)).size)) |>.rb (HRL.out _ Aw15.out)) (drop_rb HT14.out (HRL.out _ Aw15.out)) HB13.out HB13.out; unfold bV at h1; rw [decide_eq_true rfl] at h1; ((with_reducible refine h1.mono ?_); rintro e w16 ⟨rfl, hb⟩); have Hw16 := Lib.hid hb; have Aw16 := Lib.hid (show Below W.heap.size W w16 from (Aw15.out).trans (hb.mono (Aw15.out).size)); clear hb h1)
      | (refine wpl_load_g (by rfl) _ _ rfl w13.heap.size rfl _ _ _ _ (HX13.out.next ((Hw14.out.trans (HW14.out.mono Hw14.out.size)).trans (Hw15.out.mono (Hw14.out.trans (HW14.out.mono Hw14.out.size)).size))) Tryz.underlying26 rfl (by kernel_rfl) ?_)
      | (refine wpl_load_g (by rfl) _ _ rfl w14.heap.size rfl _ _ _ _ (HX14.out.next Hw15.out) Tryz.underlying26 rfl (by kernel_rfl) ?_))
    obtain ⟨c0, c8, c9, c10, clt⟩ := HCX.out _ Aw16.out
    have HS13 := Lib.hid (show w13.heap.size < w16.heap.size from Nat.lt_of_lt_of_le (BoxA.lt HX13.out) (((Hw14.out.trans (HW14.out.mono Hw14.out.size)).trans (Hw15.out.mono (Hw14.out.trans (HW14.out.mono Hw14.out.size)).size)).trans (Hw16.out.mono ((Hw14.out.trans (HW14.out.mono Hw14.out.size)).trans (Hw15.out.mono (Hw14.out.trans (HW14.out.mono Hw14.out.size)).size)).size)).size)
    have HS14 := Lib.hid (show w14.heap.size < w16.heap.size from Nat.lt_of_lt_of_le (BoxA.lt HX14.out) (Hw15.out.trans (Hw16.out.mono Hw15.out.size)).size)
    have HNE := Lib.hid (show w14.heap.size ≠ w13.heap.size by have := BoxA.lt HX13.out; have := Hw14.out.size; omega)
    go_upto_region 20 with (first
      | (go_at_call 21; ((with_reducible refine (HFRE.out _ Aw16.out).mono ?_); rintro e w17 hq); obtain ⟨v17, M17, g17, rfl, hm, ho, hi, ht, hbi, hcb, hb⟩ := hq; have Hw17 := Lib.hid hb; have Aw17 := Lib.hid (show Below W.heap.size W w17 from (Aw16.out).trans (hb.mono (Aw16.out).size)); have HM17 := Lib.hid hm; have HO17 := Lib.hid ho; have HI17 := Lib.hid hi; have HT17 := Lib.hid ht; have HB17 := Lib.hid hbi; clear hm ho hi ht hbi hcb; clear hb)
      | (refine wpList_store_row rfl _ _ _ rfl w13.heap.size (bcs bf g17) rfl rfl _ _ (HX13.out.next ((((Hw14.out.trans (HW14.out.mono Hw14.out.size)).trans (Hw15.out.mono (Hw14.out.trans (HW14.out.mono Hw14.out.size)).size)).trans (Hw16.out.mono ((Hw14.out.trans (HW14.out.mono Hw14.out.size)).trans (Hw15.out.mono (Hw14.out.trans (HW14.out.mono Hw14.out.size)).size)).size)).trans (Hw17.out.mono (((Hw14.out.trans (HW14.out.mono Hw14.out.size)).trans (Hw15.out.mono (Hw14.out.trans (HW14.out.mono Hw14.out.size)).size)).trans (Hw16.out.mono ((Hw14.out.trans (HW14.out.mono Hw14.out.size)).trans (Hw15.out.mono (Hw14.out.trans (HW14.out.mono Hw14.out.size)).size)).size)).size))) (by kernel_rfl) rfl (bcs_all (HT17.out.rb (HRL.out _ Aw17.out))) ?_))
    obtain ⟨W17, hW⟩ : ∃ W17, w17.setRow w13.heap.size (bcs bf g17) = W17 := ⟨_, rfl⟩
    rw [hW]
    have HX17 := Lib.hid (show BoxA W17 w13.heap.size 26 (bcs bf g17) by rw [← hW]; exact setRow_heap _ _ _ _ _ _ (HX13.out.next ((((Hw14.out.trans (HW14.out.mono Hw14.out.size)).trans (Hw15.out.mono (Hw14.out.trans (HW14.out.mono Hw14.out.size)).size)).trans (Hw16.out.mono ((Hw14.out.trans (HW14.out.mono Hw14.out.size)).trans (Hw15.out.mono (Hw14.out.trans (HW14.out.mono Hw14.out.size)).size)).size)).trans (Hw17.out.mono (((Hw14.out.trans (HW14.out.mono Hw14.out.size)).trans (Hw15.out.mono (Hw14.out.trans (HW14.out.mono Hw14.out.size)).size)).trans (Hw16.out.mono ((Hw14.out.trans (HW14.out.mono Hw14.out.size)).trans (Hw15.out.mono (Hw14.out.trans (HW14.out.mono Hw14.out.size)).size)).size)).size))))
    have HX14b := Lib.hid (show BoxA W17 w14.heap.size 26 (bcs bd g14) by rw [← hW]; exact (setRow_other _ _ _ _ HNE.out).trans (HX14.out.next ((Hw15.out.trans (Hw16.out.mono Hw15.out.size)).trans (Hw17.out.mono (Hw15.out.trans (Hw16.out.mono Hw15.out.size)).size))))
    have AW17 := Lib.hid (show Below W.heap.size W W17 by rw [← hW]; exact below_setRow Aw17.out Aw13.out.size _)
    have HO17b := Lib.hid (show Own w16.heap.size W17 v17 M17 by rw [← hW]; exact HO17.out.set HS13.out _)
    have HT17b := Lib.hid (show ToldB L w16.heap.size W17 bf g17 by rw [← hW]; exact HT17.out.set HS13.out _)
    have HZ17 := Lib.hid (show w16.heap.size ≤ W17.heap.size by rw [← hW]; exact (below_setRow (Hw17.out.mono (Nat.zero_le _)) (Nat.zero_le _) _).size)
    clear hW
    try simp only [Act.put]
    obtain ⟨c0, c8, c9, c10, clt⟩ := HCX.out _ AW17.out
    go_upto_region 21 with (first
      | (go_at_call 22; ((with_reducible refine (HFREd.out _ AW17.out).mono ?_); rintro e w18 hq); obtain ⟨v18, M18, g18, rfl, hm, ho, hin, hi, ht, hbi, hb⟩ := hq; have Hw18 := Lib.hid hb; have Aw18 := Lib.hid (show Below W.heap.size W w18 from (AW17.out).trans (hb.mono (AW17.out).size)); have HM18 := Lib.hid hm; have HO18 := Lib.hid ho; have HL18 := Lib.hid hin; have HI18 := Lib.hid hi; have HT18 := Lib.hid ht; clear hm ho hin hi ht hbi; clear hb)
      | (refine wpList_store_row rfl _ _ _ rfl w14.heap.size (bcs bf g18) rfl rfl _ _ (HX14b.out.next Hw18.out) (by kernel_rfl) rfl (bcs_all (drop_rb HT18.out (HRL.out _ Aw18.out))) ?_))
    obtain ⟨W18, hW⟩ : ∃ W18, w18.setRow w14.heap.size (bcs bf g18) = W18 := ⟨_, rfl⟩
    rw [hW]
    have HX18 := Lib.hid (show BoxA W18 w14.heap.size 26 (bcs bf g18) by rw [← hW]; exact setRow_heap _ _ _ _ _ _ (HX14b.out.next Hw18.out))
    have HX17b := Lib.hid (show BoxA W18 w13.heap.size 26 (bcs bf g17) by rw [← hW]; exact (setRow_other _ _ _ _ HNE.out.symm).trans (HX17.out.next Hw18.out))
    have AW18 := Lib.hid (show Below W.heap.size W W18 by rw [← hW]; exact below_setRow Aw18.out Aw14.out.size _)
    have HO17c := Lib.hid (show Own w16.heap.size W18 v17 M17 by rw [← hW]; exact (HO17b.out.next Hw18.out).set HS14.out _)
    have HT17c := Lib.hid (show ToldB L w16.heap.size W18 bf g17 by rw [← hW]; exact (HT17b.out.next Hw18.out).set HS14.out _)
    have HO18b := Lib.hid (show OutS W17.heap.size W18 v18 M18 by rw [← hW]; exact HO18.out.set (Nat.lt_of_lt_of_le HS14.out HZ17.out) _)
    clear hW
    try simp only [Act.put]
    obtain ⟨c0, c8, c9, c10, clt⟩ := HCX.out _ AW18.out
    have HSw19 := Lib.hid (dSameB_any (HO17c.out.ib HI17.out).rows (HO18b.out.rbs (fun p hp => HRL.out _ AW18.out p (HL18.out p hp))) HI17.out HI18.out)
    rw [HM17.out, HM18.out, decide_eq_true rfl] at HSw19
    go_upto_region 23 with (first
      | (go_at_call 13; ((with_reducible refine HSw19.out.mono ?_); rintro e w19 ⟨rfl, hb⟩); have Hw19 := Lib.hid hb; have Aw19 := Lib.hid (show Below W.heap.size W w19 from (AW18.out).trans (hb.mono (AW18.out).size)); clear hb)
      | (go_at_call 20; have h1 := dOne_any bf bf g17 g18 w19 ((HT17c.out.next Hw19.out).rb (HRL.out _ Aw19.out)) (drop_rb HT18.out (HRL.out _ Aw19.out)) HB17.out HB17.out; unfold bV at h1; rw [decide_eq_true rfl] at h1; ((with_reducible refine h1.mono ?_); rintro e w20 ⟨rfl, hb⟩); have Hw20 := Lib.hid hb; have Aw20 := Lib.hid (show Below W.heap.size W w20 from (Aw19.out).trans (hb.mono (Aw19.out).size)); clear hb h1)
      | (refine wpl_load_g (by rfl) _ _ rfl w13.heap.size rfl _ _ _ _ (HX17b.out.next Hw19.out) Tryz.underlying26 rfl (by kernel_rfl) ?_)
      | (refine wpl_load_g (by rfl) _ _ rfl w14.heap.size rfl _ _ _ _ (HX18.out.next Hw19.out) Tryz.underlying26 rfl (by kernel_rfl) ?_))
    obtain ⟨c0, c8, c9, c10, clt⟩ := HCX.out _ Aw20.out
    go_upto_region 24 with (first
      | (go_at_call 23; ((with_reducible refine (HFND.out _ Aw20.out).mono ?_); rintro e w21 hq); obtain ⟨g21, rfl, ht, hbi, hcb, hb⟩ := hq; have Hw21 := Lib.hid hb; have Aw21 := Lib.hid (show Below W.heap.size W w21 from (Aw20.out).trans (hb.mono (Aw20.out).size)); have HRB21 := Lib.hid (ht.rb (HRL.out _ Aw21.out)); have HB21 := Lib.hid hbi; clear ht hbi hcb; clear hb)
      | (refine wpList_store_row rfl _ _ _ rfl w21.heap.size (bcs bn g21) rfl rfl _ _ (BoxA.new w21 _ _) (by kernel_rfl) rfl (bcs_all (HRB21.out)) ?_))
    obtain ⟨W21, hW, hkW, hbW⟩ := box_endB w21 #[.int .i64 0, .string { data := #[] }, .string { data := #[] }, .string { data := #[] }, .bool false, .slice none 0 0, .slice none 0 0] (bcs bn g21) 26
    rw [hW]
    have HX21 := Lib.hid (show BoxA W21 w21.heap.size 26 (bcs bn g21) from hkW)
    have HW21 := Lib.hid hbW
    have AW21 := Lib.hid (show Below W.heap.size W W21 from Aw21.out.trans (hbW.mono Aw21.out.size))
    clear hW hkW hbW
    try simp only [Act.put]
    obtain ⟨c0, c8, c9, c10, clt⟩ := HCX.out _ AW21.out
    go_upto_region 25 with (first
      | (go_at_call 24; ((with_reducible refine (HFNDd.out _ AW21.out).mono ?_); rintro e w22 hq); obtain ⟨g22, rfl, hrb, hb⟩ := hq; have Hw22 := Lib.hid hb; have Aw22 := Lib.hid (show Below W.heap.size W w22 from (AW21.out).trans (hb.mono (AW21.out).size)); have HRB22 := Lib.hid hrb; clear hrb; clear hb)
      | (refine wpList_store_row rfl _ _ _ rfl w22.heap.size (bcs bn g22) rfl rfl _ _ (BoxA.new w22 _ _) (by kernel_rfl) rfl (bcs_all (HRB22.out)) ?_))
    obtain ⟨W22, hW, hkW, hbW⟩ := box_endB w22 #[.int .i64 0, .string { data := #[] }, .string { data := #[] }, .string { data := #[] }, .bool false, .slice none 0 0, .slice none 0 0] (bcs bn g22) 26
    rw [hW]
    have HX22 := Lib.hid (show BoxA W22 w22.heap.size 26 (bcs bn g22) from hkW)
    have HW22 := Lib.hid hbW
    have AW22 := Lib.hid (show Below W.heap.size W W22 from Aw22.out.trans (hbW.mono Aw22.out.size))
    clear hW hkW hbW
    try simp only [Act.put]
    obtain ⟨c0, c8, c9, c10, clt⟩ := HCX.out _ AW22.out
    go_upto_region 26 with (first
      | (go_at_call 25; ((with_reducible refine (HOF.out _ AW22.out).mono ?_); rintro e w23 hq); obtain ⟨g23, rfl, ht, hbi, hcb, hb⟩ := hq; have Hw23 := Lib.hid hb; have Aw23 := Lib.hid (show Below W.heap.size W w23 from (AW22.out).trans (hb.mono (AW22.out).size)); have HRB23 := Lib.hid (ht.rb (HRL.out _ Aw23.out)); have HB23 := Lib.hid hbi; clear ht hbi hcb; clear hb)
      | (refine wpList_store_row rfl _ _ _ rfl w23.heap.size (bcs bo g23) rfl rfl _ _ (BoxA.new w23 _ _) (by kernel_rfl) rfl (bcs_all (HRB23.out)) ?_))
    obtain ⟨W23, hW, hkW, hbW⟩ := box_endB w23 #[.int .i64 0, .string { data := #[] }, .string { data := #[] }, .string { data := #[] }, .bool false, .slice none 0 0, .slice none 0 0] (bcs bo g23) 26
    rw [hW]
    have HX23 := Lib.hid (show BoxA W23 w23.heap.size 26 (bcs bo g23) from hkW)
    have HW23 := Lib.hid hbW
    have AW23 := Lib.hid (show Below W.heap.size W W23 from Aw23.out.trans (hbW.mono Aw23.out.size))
    clear hW hkW hbW
    try simp only [Act.put]
    obtain ⟨c0, c8, c9, c10, clt⟩ := HCX.out _ AW23.out
    go_upto_region 27 with (first
      | (go_at_call 26; ((with_reducible refine (HOFd.out _ AW23.out).mono ?_); rintro e w24 hq); obtain ⟨g24, rfl, hrb, hb⟩ := hq; have Hw24 := Lib.hid hb; have Aw24 := Lib.hid (show Below W.heap.size W w24 from (AW23.out).trans (hb.mono (AW23.out).size)); have HRB24 := Lib.hid hrb; clear hrb; clear hb)
      | (refine wpList_store_row rfl _ _ _ rfl w24.heap.size (bcs bo g24) rfl rfl _ _ (BoxA.new w24 _ _) (by kernel_rfl) rfl (bcs_all (HRB24.out)) ?_))
    obtain ⟨W24, hW, hkW, hbW⟩ := box_endB w24 #[.int .i64 0, .string { data := #[] }, .string { data := #[] }, .string { data := #[] }, .bool false, .slice none 0 0, .slice none 0 0] (bcs bo g24) 26
    rw [hW]
    have HX24 := Lib.hid (show BoxA W24 w24.heap.size 26 (bcs bo g24) from hkW)
    have HW24 := Lib.hid hbW
    have AW24 := Lib.hid (show Below W.heap.size W W24 from Aw24.out.trans (hbW.mono Aw24.out.size))
    clear hW hkW hbW
    try simp only [Act.put]
    obtain ⟨c0, c8, c9, c10, clt⟩ := HCX.out _ AW24.out
    go_wp2_with (first
      | (go_at_call 20; have h1 := dOne_any bn bn g21 g22 W24 (HRB21.out.next ((((((HW21.out.trans (Hw22.out.mono HW21.out.size)).trans (HW22.out.mono (HW21.out.trans (Hw22.out.mono HW21.out.size)).size)).trans (Hw23.out.mono ((HW21.out.trans (Hw22.out.mono HW21.out.size)).trans (HW22.out.mono (HW21.out.trans (Hw22.out.mono HW21.out.size)).size)).size)).trans (HW23.out.mono (((HW21.out.trans (Hw22.out.mono HW21.out.size)).trans (HW22.out.mono (HW21.out.trans (Hw22.out.mono HW21.out.size)).size)).trans (Hw23.out.mono ((HW21.out.trans (Hw22.out.mono HW21.out.size)).trans (HW22.out.mono (HW21.out.trans (Hw22.out.mono HW21.out.size)).size)).size)).size)).trans (Hw24.out.mono ((((HW21.out.trans (Hw22.out.mono HW21.out.size)).trans (HW22.out.mono (HW21.out.trans (Hw22.out.mono HW21.out.size)).size)).trans (Hw23.out.mono ((HW21.out.trans (Hw22.out.mono HW21.out.size)).trans (HW22.out.mono (HW21.out.trans (Hw22.out.mono HW21.out.size)).size)).size)).trans (HW23.out.mono (((HW21.out.trans (Hw22.out.mono HW21.out.size)).trans (HW22.out.mono (HW21.out.trans (Hw22.out.mono HW21.out.size)).size)).trans (Hw23.out.mono ((HW21.out.trans (Hw22.out.mono HW21.out.size)).trans (HW22.out.mono (HW21.out.trans (Hw22.out.mono HW21.out.size)).size)).size)).size)).size)).trans (HW24.out.mono (((((HW21.out.trans (Hw22.out.mono HW21.out.size)).trans (HW22.out.mono (HW21.out.trans (Hw22.out.mono HW21.out.size)).size)).trans (Hw23.out.mono ((HW21.out.trans (Hw22.out.mono HW21.out.size)).trans (HW22.out.mono (HW21.out.trans (Hw22.out.mono HW21.out.size)).size)).size)).trans (HW23.out.mono (((HW21.out.trans (Hw22.out.mono HW21.out.size)).trans (HW22.out.mono (HW21.out.trans (Hw22.out.mono HW21.out.size)).size)).trans (Hw23.out.mono ((HW21.out.trans (Hw22.out.mono HW21.out.size)).trans (HW22.out.mono (HW21.out.trans (Hw22.out.mono HW21.out.size)).size)).size)).size)).trans (Hw24.out.mono ((((HW21.out.trans (Hw22.out.mono HW21.out.size)).trans (HW22.out.mono (HW21.out.trans (Hw22.out.mono HW21.out.size)).size)).trans (Hw23.out.mono ((HW21.out.trans (Hw22.out.mono HW21.out.size)).trans (HW22.out.mono (HW21.out.trans (Hw22.out.mono HW21.out.size)).size)).size)).trans (HW23.out.mono (((HW21.out.trans (Hw22.out.mono HW21.out.size)).trans (HW22.out.mono (HW21.out.trans (Hw22.out.mono HW21.out.size)).size)).trans (Hw23.out.mono ((HW21.out.trans (Hw22.out.mono HW21.out.size)).trans (HW22.out.mono (HW21.out.trans (Hw22.out.mono HW21.out.size)).size)).size)).size)).size)).size))) (HRB22.out.next ((((HW22.out.trans (Hw23.out.mono HW22.out.size)).trans (HW23.out.mono (HW22.out.trans (Hw23.out.mono HW22.out.size)).size)).trans (Hw24.out.mono ((HW22.out.trans (Hw23.out.mono HW22.out.size)).trans (HW23.out.mono (HW22.out.trans (Hw23.out.mono HW22.out.size)).size)).size)).trans (HW24.out.mono (((HW22.out.trans (Hw23.out.mono HW22.out.size)).trans (HW23.out.mono (HW22.out.trans (Hw23.out.mono HW22.out.size)).size)).trans (Hw24.out.mono ((HW22.out.trans (Hw23.out.mono HW22.out.size)).trans (HW23.out.mono (HW22.out.trans (Hw23.out.mono HW22.out.size)).size)).size)).size))) HB21.out HB21.out; unfold bV at h1; rw [decide_eq_true rfl] at h1; ((with_reducible refine h1.mono ?_); rintro e w25 ⟨rfl, hb⟩); have Hw25 := Lib.hid hb; have Aw25 := Lib.hid (show Below W.heap.size W w25 from (AW24.out).trans (hb.mono (AW24.out).size)); clear hb h1)
      | (go_at_call 20; have h1 := dOne_any bo bo g23 g24 w25 (HRB23.out.next (((HW23.out.trans (Hw24.out.mono HW23.out.size)).trans (HW24.out.mono (HW23.out.trans (Hw24.out.mono HW23.out.size)).size)).trans (Hw25.out.mono ((HW23.out.trans (Hw24.out.mono HW23.out.size)).trans (HW24.out.mono (HW23.out.trans (Hw24.out.mono HW23.out.size)).size)).size))) (HRB24.out.next (HW24.out.trans (Hw25.out.mono HW24.out.size))) HB23.out HB23.out; unfold bV at h1; rw [decide_eq_true rfl] at h1; ((with_reducible refine h1.mono ?_); rintro e w26 ⟨rfl, hb⟩); have Hw26 := Lib.hid hb; have Aw26 := Lib.hid (show Below W.heap.size W w26 from (Aw25.out).trans (hb.mono (Aw25.out).size)); clear hb h1)
      | (refine wpl_load_g (by rfl) _ _ rfl w21.heap.size rfl _ _ _ _ (HX21.out.next (((((Hw22.out.trans (HW22.out.mono Hw22.out.size)).trans (Hw23.out.mono (Hw22.out.trans (HW22.out.mono Hw22.out.size)).size)).trans (HW23.out.mono ((Hw22.out.trans (HW22.out.mono Hw22.out.size)).trans (Hw23.out.mono (Hw22.out.trans (HW22.out.mono Hw22.out.size)).size)).size)).trans (Hw24.out.mono (((Hw22.out.trans (HW22.out.mono Hw22.out.size)).trans (Hw23.out.mono (Hw22.out.trans (HW22.out.mono Hw22.out.size)).size)).trans (HW23.out.mono ((Hw22.out.trans (HW22.out.mono Hw22.out.size)).trans (Hw23.out.mono (Hw22.out.trans (HW22.out.mono Hw22.out.size)).size)).size)).size)).trans (HW24.out.mono ((((Hw22.out.trans (HW22.out.mono Hw22.out.size)).trans (Hw23.out.mono (Hw22.out.trans (HW22.out.mono Hw22.out.size)).size)).trans (HW23.out.mono ((Hw22.out.trans (HW22.out.mono Hw22.out.size)).trans (Hw23.out.mono (Hw22.out.trans (HW22.out.mono Hw22.out.size)).size)).size)).trans (Hw24.out.mono (((Hw22.out.trans (HW22.out.mono Hw22.out.size)).trans (Hw23.out.mono (Hw22.out.trans (HW22.out.mono Hw22.out.size)).size)).trans (HW23.out.mono ((Hw22.out.trans (HW22.out.mono Hw22.out.size)).trans (Hw23.out.mono (Hw22.out.trans (HW22.out.mono Hw22.out.size)).size)).size)).size)).size))) Tryz.underlying26 rfl (by kernel_rfl) ?_)
      | (refine wpl_load_g (by rfl) _ _ rfl w22.heap.size rfl _ _ _ _ (HX22.out.next (((Hw23.out.trans (HW23.out.mono Hw23.out.size)).trans (Hw24.out.mono (Hw23.out.trans (HW23.out.mono Hw23.out.size)).size)).trans (HW24.out.mono ((Hw23.out.trans (HW23.out.mono Hw23.out.size)).trans (Hw24.out.mono (Hw23.out.trans (HW23.out.mono Hw23.out.size)).size)).size))) Tryz.underlying26 rfl (by kernel_rfl) ?_)
      | (refine wpl_load_g (by rfl) _ _ rfl w23.heap.size rfl _ _ _ _ (HX23.out.next ((Hw24.out.trans (HW24.out.mono Hw24.out.size)).trans (Hw25.out.mono (Hw24.out.trans (HW24.out.mono Hw24.out.size)).size))) Tryz.underlying26 rfl (by kernel_rfl) ?_)
      | (refine wpl_load_g (by rfl) _ _ rfl w24.heap.size rfl _ _ _ _ (HX24.out.next Hw25.out) Tryz.underlying26 rfl (by kernel_rfl) ?_)
      | (go_at_call 8; ((with_reducible refine (lhead_any PB _).mono ?_); rintro e w27 ⟨rfl, hb⟩); have Aw27 := Lib.hid (Aw26.out.trans (hb.mono Aw26.out.size)); clear hb))
    go_ret
    exact ⟨rfl, HFIN.out _ Aw27.out⟩
end Go.Proofs.YtkjffoebcblpoaaGreat.gn
end
