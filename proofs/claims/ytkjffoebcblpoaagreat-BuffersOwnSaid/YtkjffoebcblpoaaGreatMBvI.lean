/- The program's apart. (Written by gen_bvI.py.) -/
import Derived.Test.YtkjffoebcblpoaaGreatMBvG
import Derived.Test.YtkjffoebcblpoaaGreatMGenAt
section
set_option linter.unusedVariables false
set_option linter.unusedSimpArgs false
set_option maxRecDepth 100000
namespace Go.Proofs.YtkjffoebcblpoaaGreat.gn
open Go.RowKit
open Go.Proofs.YtkjffoebcblpoaaGreat.ex (X Apart Ok Inc apL okx)
open Go.Proofs.YtkjffoebcblpoaaGreat.bu (Bf May catP Far)

theorem bu_chF {s : List X} {j : Nat} {x1 x2 y1 y2 : Int} (hx : s[j]? = some (x1, x2)) (hy : s[j + 1]? = some (y1, y2)) : chF s j = if y1 < x1 + x2 then false else chF s (j + 1) := chF_step hx hy
/-- A buffer's box stands where a row of extents grows. -/
theorem box_own {W w6 : World} {gb B : Nat} {x : Bf} {g : Gb} {v0 : Value} {l : List X} (hk : BufB W gb x g) (hg : W.grownBy w6 v0.ownBlock) (ho : OwnE B W v0 l) : w6.cell? ⟨gb, 3, none⟩ = some (.string (str x.pool)) ∧ w6.cell? ⟨gb, 5, none⟩ = some g.e := by
  have hne : some gb ≠ v0.ownBlock := fun e => by
    rcases ho.2 with ⟨rfl, _⟩ | ⟨g', cap, cur, rfl, _, hgg, _⟩
    · simp [Value.ownBlock] at e
    · simp [Value.ownBlock] at e
      subst e
      have h1 : W.heap[gb]? = some (.cells (bcs x g) 26 (0, 0)) := hk
      rw [h1] at hgg
      simp only [Option.some.injEq, Obj.cells.injEq] at hgg
      exact absurd hgg.2.1 (by decide)
  have hb : BufB w6 gb x g := (hg.block gb (BoxA.lt hk) hne).trans hk
  exact ⟨hb.cells.2.2.2.1, hb.cells.2.2.2.2.2.1⟩
theorem box_map {W w6 w7 : World} {gb b B : Nat} {x : Bf} {g : Gb} {v0 : Value} {l : List X} {L : List (Txt × Value)} (hs : w6.cell? ⟨gb, 3, none⟩ = some (.string (str x.pool)) ∧ w6.cell? ⟨gb, 5, none⟩ = some g.e) (hk : BufB W gb x g) (hg : W.grownBy w6 v0.ownBlock) (hm : But b w6 w7) (hmap : MapV W b L) (ho : OwnE B W v0 l) : w7.cell? ⟨gb, 3, none⟩ = some (.string (str x.pool)) ∧ w7.cell? ⟨gb, 5, none⟩ = some g.e := by
  have hne : gb ≠ b := by
    rintro rfl
    obtain ⟨es, c, h2⟩ := map_obj hmap
    have h1 : W.heap[gb]? = some (.cells (bcs x g) 26 (0, 0)) := hk
    rw [h1] at h2
    cases h2
  have hb : w7.heap[gb]? = w6.heap[gb]? := hm.block gb (Nat.lt_of_lt_of_le (BoxA.lt hk) hg.size) fun e => hne (by cases e; rfl)
  exact ⟨(World.cell?_of_block (a := ⟨gb, 3, none⟩) hb).trans hs.1, (World.cell?_of_block (a := ⟨gb, 5, none⟩) hb).trans hs.2⟩
theorem wp_look {o : Oper} {a : Act} {w : World} {K : Act → World → Prop} {Q : Exit → Act → World → Prop} (m x : Operand) (t e : TypeId) (hop : o.op = Op.lookup t m x false) (ht : Tryz.prog.underlying t = some (.map 9 e)) {z : Value} (hz : ∀ W, (zeroValue e).run Tryz.prog W = .ok z W)
    (b : Nat) (L : List (Txt × Value)) (hm : a.eval m = .map (some b)) (h : MapV w b L) (k : Txt) (hx : a.eval x = .string (str k)) (hk : k.length ≤ maxLen) (hK : K (a.put o.dst ((fi.get k L).getD z)) w) : o.wp Tryz.prog a w K Q := by
  have hrun := h.look ht (hz w) hk
  unfold Oper.wp
  simp [execOp, hop, hm, hx, hrun, Result.andThen]
  exact hK
theorem wp_mput {o : Oper} {a : Act} {w : World} {K : Act → World → Prop} {Q : Exit → Act → World → Prop} (m x y : Operand) (t e : TypeId) (hop : o.op = Op.mapUpdate t m x y) (ht : Tryz.prog.underlying t = some (.map 9 e))
    (b n : Nat) (L : List (Txt × Value)) (hm : a.eval m = .map (some b)) (h : MapV w b L) (hn : L.length ≤ n) (hn2 : n < 1000) (k : Txt) (hx : a.eval x = .string (str k)) (hk : k.length ≤ maxLen) (v : Value) (hy : a.eval y = v)
    (hK : ∀ w' L', MapV w' b L' → L'.length ≤ L.length + 1 → (∀ j, fi.get j L' = if j = k then some v else fi.get j L) → But b w w' → K (a.put o.dst undef) w') : o.wp Tryz.prog a w K Q := by
  obtain ⟨w', L', hrun, r1, r2, r3, r4⟩ := h.put2 (Nat.le_refl _) ht hk (show L.length < 1000 by omega) v
  unfold Oper.wp
  simp [execOp, hop, hm, hx, hy, hrun, Result.andThen]
  exact hK w' L' r1 r2 r3 r4
theorem wp_appE {o : Oper} {a : Act} {w : World} {K : Act → World → Prop} {Q : Exit → Act → World → Prop} (s x : Operand)
    (ho : o.op = .call { callee := .builtin .append, args := #[s, x], argTypes := #[23, 23] }) {B : Nat} {v u : Value} {l m : List X} (hs : a.eval s = v) (ha : OwnE B w v l) (hx : a.eval x = u) (hr : RX w u m) (hm : m ≠ [])
    (hl : l.length + m.length ≤ 1000000) (hb : B ≤ w.heap.size) (h : ∀ v' w', OwnE B w' v' (l ++ m) → w.grownBy w' v.ownBlock → (v'.ownBlock = v.ownBlock ∨ v'.ownBlock = some w.heap.size) → K (a.put o.dst v') w') : o.wp Tryz.prog a w K Q := by
  rcases hr with ⟨p, c, rfl, h0, _, _⟩ | ⟨k, off, c, rfl, hk, hc⟩
  · exact absurd (List.eq_nil_of_length_eq_zero h0) hm
  · have hpos : 0 < m.length := List.length_pos_iff.2 hm
    obtain ⟨v', w', hrun, h1, h2, h3⟩ := run_own (m := m.length) (c := c) (a := ⟨k, off, none⟩) eltXt o.type ha (fun j u hu => by rw [Addr.add_lit]; exact hc j u hu) (xcs_len m) (xcs_one m) (by unfold maxLen; omega) (by omega) hb hpos
    unfold Oper.wp
    simp [execOp, ho, resolve, invoke, builtin, hs, hx, hrun, Result.andThen]
    refine h v' w' ?_ h2 h3
    unfold OwnE
    rw [List.length_append, xcs_app]
    exact h1
set_option maxHeartbeats 16000000 in
theorem papart_any {w : World} {v : Value} {L0 : List (Bf × Gb)} (h : RBs w v L0) (hl : L0.length ≤ 201) (hM : ∀ q ∈ L0, May q.1) (hB : BIs L0) :
    Calls Tryz.prog 36 #[v] w (TellsM (.bool (decide ((L0.map Prod.fst).Pairwise Far))) w) := by
  obtain ⟨ans, hans⟩ : ∃ ans, decide ((L0.map Prod.fst).Pairwise Far) = ans := ⟨_, rfl⟩
  have hM' : ∀ b ∈ L0.map Prod.fst, May b := fun b hb => by
    obtain ⟨q, hq, rfl⟩ := List.mem_map.1 hb
    exact hM q hq
  have HANS := Lib.hid (show ans = decide (∀ x ∈ L0.map Prod.fst, Apart (catP (L0.map Prod.fst) x.pool)) by rw [← hans]; exact decide_eq_decide.2 (bu.catP_far hM').symm)
  rw [hans]
  have HRL := Lib.hid (fun (Y : World) (hy : Below w.heap.size w Y) => (h.next hy).rows)
  obtain ⟨p, c, rfl, f⟩ := h.form
  obtain ⟨n, hn⟩ : ∃ n, L0.length = n := ⟨_, rfl⟩
  have HF := Lib.hid f
  have HN := Lib.hid hn
  have HM := Lib.hid hM
  have HMM := Lib.hid hM'
  have HBI := Lib.hid hB
  rw [hn] at hl ⊢
  clear h f hn hans hM hM' hB
  have mixed : Tryz.prog.follows .mixedOrders = true := by kernel_rfl
  have hmm := @run_makeMap Tryz.prog
  obtain ⟨W0, hW0⟩ : ∃ W0, w.alloc (.map #[] 0) = W0 := ⟨_, rfl⟩
  have HP0 := Lib.hid (show PoolsW w.heap.size [] w.heap.size [] W0 by rw [← hW0]; exact PoolsW.new w _)
  have HL0 := Lib.hid (show Below w.heap.size w W0 by rw [← hW0]; exact (Below.refl _ _).alloc (Nat.le_refl _) _)
  have HW0 := Lib.hid hW0
  clear hW0
  go_enter Tryz.func36, Tryz.ntmps36
  go_upto_region 2 with fail
  rw [HW0.out]
  go_wp2
  go_loopw [12] (fun s12 wr => ∃ (i : Nat) (L : List (Txt × Value)), s12 = .int .i64 (i : Nat) ∧ i ≤ n ∧ Aside (PoolsW w.heap.size ((L0.map Prod.fst).take i) w.heap.size L wr) ∧ Aside (Below w.heap.size w wr)) (fun s12 _ => n - (intOf s12).toNat)
  case atStart => exact ⟨0, [], rfl, Nat.zero_le _, HP0.out, HL0.out⟩
  case round =>
    obtain ⟨i, L, rfl, hi, ha, hb⟩ := hrel
    have HA := Lib.hid (show PoolsW w.heap.size ((L0.map Prod.fst).take i) w.heap.size L wr from ha)
    have HB := Lib.hid (show Below w.heap.size w wr from hb)
    clear ha hb
    by_cases hin : i < n
    · obtain ⟨q, hq⟩ : ∃ q, L0[i]? = some q := ⟨_, List.getElem?_eq_getElem (by rw [HN.out]; exact hin)⟩
      obtain ⟨kb, off, rfl, hk, hc⟩ := BC.of (HF.out (ne_of_at hq))
      have HQR := Lib.hid (fun (Y : World) (hy : Below w.heap.size w Y) => HRL.out Y hy q (List.mem_of_getElem? hq))
      have HMQ := Lib.hid (HM.out q (List.mem_of_getElem? hq))
      have HBQ := Lib.hid (HBI.out.all q (List.mem_of_getElem? hq))
      have HC := Lib.hid (show BC L0 kb off wr from hc.next hk HB.out)
      have HQ := Lib.hid hq
      have HQF := Lib.hid (fst_at hq)
      have lkb : kb < wr.heap.size := Nat.lt_of_lt_of_le hk HB.out.size
      clear hq hk hc HF
      go_upto_region 5 with (first
        | (refine wpList_load_mid rfl _ _ rfl kb (off + i * 7) rfl [.int .i64 q.1.job, .string (str q.1.name), .string (str q.1.user), .string (str q.1.pool), .bool q.1.opn, q.2.e, q.2.r] _ (HC.out i q HQ.out) Tryz.underlying26 rfl (by kernel_rfl) ?_)
        | (refine wpList_store_row rfl _ _ _ rfl wr.heap.size (bcs q.1 q.2) rfl rfl _ _ (BoxA.new wr _ _) (by kernel_rfl) rfl (bcs_all (HQR.out _ HB.out)) ?_))
      obtain ⟨W1, hW1, hkW1, hbW1⟩ := box_endB wr #[.int .i64 0, .string { data := #[] }, .string { data := #[] }, .string { data := #[] }, .bool false, .slice none 0 0, .slice none 0 0] (bcs q.1 q.2) 26
      rw [hW1]
      obtain ⟨gb, hgb⟩ : ∃ gb, wr.heap.size = gb := ⟨_, rfl⟩
      have HGB := Lib.hid hgb
      have HKW := Lib.hid (show BufB W1 gb q.1 q.2 by rw [← hgb]; exact hkW1)
      have HBW := Lib.hid hbW1
      rw [hgb]
      clear hW1 hkW1 hbW1 lkb hgb
      try simp only [Act.put]
      have HWL := Lib.hid (HB.out.trans (HBW.out.mono HB.out.size))
      have HPL := Lib.hid (HA.out.next HBW.out)
      have HS1 := Lib.hid (show W1.drew.cell? ⟨gb, 3, none⟩ = some (.string (str q.1.pool)) ∧ W1.drew.cell? ⟨gb, 5, none⟩ = some q.2.e from ⟨HKW.out.cells.2.2.2.1, HKW.out.cells.2.2.2.2.2.1⟩)
      have HLN := Lib.hid (show L.length ≤ 500 by have := HA.out.few; rw [List.length_take] at this; omega)
      have HLK := Lib.hid (show q.1.pool.length ≤ maxLen by have := HBQ.out.lp; unfold maxLen; omega)
      have HEL := Lib.hid (show (catP ((L0.map Prod.fst).take i) q.1.pool).length + q.1.exts.length ≤ 1000000 by
        have h1 := bu.catP_len (l := (L0.map Prod.fst).take i) (n := 1000) (fun b hb => (HMM.out b (List.mem_of_mem_take hb)).2.2.2.1.1) q.1.pool
        have h2 := HMQ.out.2.2.2.1.1
        rw [List.length_take, List.length_map] at h1
        have h3 : min i L0.length * 1000 ≤ 201 * 1000 := Nat.mul_le_mul_right _ (by omega)
        omega)
      obtain ⟨v0, hv0⟩ : ∃ v0, (fi.get q.1.pool L).getD (.slice none 0 0) = v0 := ⟨_, rfl⟩
      have HV0 := Lib.hid hv0
      have HO0 := Lib.hid (show OwnE w.heap.size W1 v0 (catP ((L0.map Prod.fst).take i) q.1.pool) by rw [← hv0]; exact HPL.out.at _)
      clear hv0
      refine wp_region_held_drew (S := (fun W => W.cell? ⟨gb, 3, none⟩ = some (.string (str q.1.pool)) ∧ W.cell? ⟨gb, 5, none⟩ = some q.2.e)) (by kernel_rfl) (by exact HS1.out) (fun hHeld => ?_)
      refine wpAnyH_take (i := 0) (v := ?_) (ata at0) (by kernel_rfl) (by kernel_rfl) (by kernel_rfl) (fun _ _ _ h => h) (Or.inl ⟨by rfl, ?_⟩) (by assumption) ?_
      rotate_left
      · (intro w hSw; (try dsimp only at hSw); go_simp; (first | done | with_reducible rfl))
      try simp only [Act.put, List.setIfInBounds_toArray, List.set_cons_zero, List.set_cons_succ]
      refine wpAnyH_take (i := 1) (v := ?_) (ata (atS at0)) (by kernel_rfl) (by kernel_rfl) (by kernel_rfl) (fun _ _ _ h => h) (Or.inl ⟨by rfl, ?_⟩) (by assumption) ?_
      rotate_left
      · (intro w hSw; (try dsimp only at hSw); go_simp; (first | done | with_reducible rfl))
      try simp only [Act.put, List.setIfInBounds_toArray, List.set_cons_zero, List.set_cons_succ]
      refine wpAnyH_take (i := 2) (v := ?_) (ata (atS (atS at0))) (by kernel_rfl) (by kernel_rfl) (by kernel_rfl) (fun _ _ _ h => h) (Or.inl ⟨by rfl, ?_⟩) (by assumption) ?_
      rotate_left
      · (intro w hSw; (try dsimp only at hSw); go_simp; (first | done | with_reducible rfl))
      try simp only [Act.put, List.setIfInBounds_toArray, List.set_cons_zero, List.set_cons_succ]
      refine wpAnyH_take (i := 3) (v := ?_) (ata (atS (atS (atS at0)))) (by kernel_rfl) (by kernel_rfl) (by kernel_rfl) (fun _ _ _ h => h) (Or.inl ⟨by rfl, ?_⟩) (by assumption) ?_
      rotate_left
      · (intro w hSw; (try dsimp only at hSw); go_simp; (first | done | with_reducible rfl))
      try simp only [Act.put, List.setIfInBounds_toArray, List.set_cons_zero, List.set_cons_succ]
      refine wpAnyH_take (i := 4) (v := ?_) (ata (atS (atS (atS (atS at0))))) (by kernel_rfl) (by kernel_rfl) (by kernel_rfl) (fun _ _ _ h => h) (Or.inl ⟨by rfl, ?_⟩) (by assumption) ?_
      rotate_left
      · (intro w hSw; (try dsimp only at hSw); go_simp; (first | done | with_reducible rfl))
      try simp only [Act.put, List.setIfInBounds_toArray, List.set_cons_zero, List.set_cons_succ]
      refine wpAnyH_take (i := 5) (v := ?_) (ata (atS (atS (atS (atS (atS at0)))))) (by kernel_rfl) (by kernel_rfl) (by kernel_rfl) (fun _ _ _ h => h) (Or.inl ⟨by rfl, ?_⟩) (by assumption) ?_
      rotate_left
      · (intro w hSw; (try dsimp only at hSw); go_simp; (first | done | with_reducible rfl))
      try simp only [Act.put, List.setIfInBounds_toArray, List.set_cons_zero, List.set_cons_succ]
      refine wpAnyH_take (i := 7) (v := ?_) (ata (atS (atS (atS (atS (atS (atS (atS at0)))))))) (by kernel_rfl) (by kernel_rfl) (by kernel_rfl) (fun _ _ _ h => h) (Or.inl ⟨by rfl, ?_⟩) (by assumption) ?_
      rotate_left
      · (intro w hSw; (try dsimp only at hSw); go_simp; (first | done | with_reducible rfl))
      try simp only [Act.put, List.setIfInBounds_toArray, List.set_cons_zero, List.set_cons_succ]
      refine wpAnyH_take (i := 8) (v := ?_) (ata (atS (atS (atS (atS (atS (atS (atS (atS at0))))))))) (by kernel_rfl) (by kernel_rfl) (by kernel_rfl) (fun _ _ _ h => h) (Or.inl ⟨by rfl, ?_⟩) (by assumption) ?_
      rotate_left
      · (intro w hSw; (try dsimp only at hSw); go_simp; (first | done | with_reducible rfl))
      try simp only [Act.put, List.setIfInBounds_toArray, List.set_cons_zero, List.set_cons_succ]
      refine wpAnyH_ready (rs := [6]) (by kernel_rfl) (by simp) ?_
      refine AllReadyH.cons (ata (atS (atS (atS (atS (atS (atS at0))))))) (fun K hK => ?_) AllReadyH.nil
      refine wp_look _ _ 92 23 rfl Tryz.underlying92 (z := .slice none 0 0) (fun W => by kernel_rfl) w.heap.size L rfl (show MapV W1.drew w.heap.size L from HPL.out.map.drew) q.1.pool rfl HLK.out ?_
      rw [HV0.out]
      refine hK.out _ _ (by exact HS1.out) (fun hHeld => ?_)
      clear hK K
      try simp only [Act.put, List.setIfInBounds_toArray, List.set_cons_zero, List.set_cons_succ]
      refine wpAnyH_ready (rs := [9]) (by kernel_rfl) (by simp) ?_
      refine AllReadyH.cons (ata (atS (atS (atS (atS (atS (atS (atS (atS (atS at0)))))))))) (fun K hK => ?_) AllReadyH.nil
      refine wp_appE _ _ rfl (v := v0) rfl (show OwnE w.heap.size W1.drew v0 (catP ((L0.map Prod.fst).take i) q.1.pool) from HO0.out) rfl ((HQR.out _ HWL.out).e.next (drew_lowB _)) HMQ.out.2.2.1 HEL.out HWL.out.size ?_
      intro v6 w6 h6 g6 e6
      have HO6 := Lib.hid h6
      have HG6 := Lib.hid (show W1.grownBy w6 v0.ownBlock from ⟨g6.os, g6.tape, g6.output, g6.size, g6.block⟩)
      have HE6 := Lib.hid (show v6.ownBlock = v0.ownBlock ∨ v6.ownBlock = some W1.heap.size from e6)
      clear h6 g6 e6
      have HS6 := Lib.hid (box_own HKW.out HG6.out HO0.out)
      refine hK.out _ _ (by exact HS6.out) (fun hHeld => ?_)
      clear hK K
      try simp only [Act.put, List.setIfInBounds_toArray, List.set_cons_zero, List.set_cons_succ]
      refine wpAnyH_ready (rs := [10]) (by kernel_rfl) (by simp) ?_
      refine AllReadyH.cons (ata (atS (atS (atS (atS (atS (atS (atS (atS (atS (atS at0))))))))))) (fun K hK => ?_) AllReadyH.nil
      refine wp_mput _ _ _ 92 23 rfl Tryz.underlying92 w.heap.size 500 L rfl (show MapV w6 w.heap.size L from HPL.out.map.kept (HG6.out.block _ HPL.out.map.lt (own_map HO0.out HPL.out.map))) HLN.out (by decide) q.1.pool rfl HLK.out v6 rfl ?_
      intro w7 L7 m1 m2 m3 m4
      have HM7 := Lib.hid (And.intro m1 (And.intro m2 (And.intro m3 m4)))
      have HL7 := Lib.hid (show Below w.heap.size w w7 from (HWL.out.grown HG6.out HWL.out.size (fun g hg => (World.ownsRow.lt HO0.out g hg).1)).grown m4 (Nat.le_trans HWL.out.size HG6.out.size) (fun g hg => by cases hg; exact Nat.le_refl _))
      clear m1 m2 m3 m4
      have HS7 := Lib.hid (box_map HS6.out HKW.out HG6.out HM7.out.2.2.2 HPL.out.map HO0.out)
      refine hK.out _ _ (by exact HS7.out) (fun hHeld => ?_)
      clear hK K
      try simp only [Act.put, List.setIfInBounds_toArray, List.set_cons_zero, List.set_cons_succ]
      refine wpAnyH_done (by kernel_rfl) ?_ _
      go_wp2
      go_roundw
      case rel => exact ⟨i + 1, L7, by go_num, by omega, by
        have h1 := PoolsW.add (x := q.1) HPL.out (by exact HO6.out) (by rw [HV0.out]; exact HG6.out) (by rw [HV0.out]; exact HE6.out) HM7.out.1 HM7.out.2.1 HM7.out.2.2.1 HM7.out.2.2.2
        rw [take_snoc HQF.out] at h1
        exact h1, HL7.out⟩
      case measure => simp [intOf]; omega
    · obtain rfl : i = n := by omega
      have hA := HA.out
      rw [List.take_of_length_le (by rw [List.length_map, HN.out]; exact Nat.le_refl _)] at hA
      have HA2 := Lib.hid hA
      clear hA HA
      obtain ⟨w1, hw1⟩ : ∃ w1, w1 = wr := ⟨_, rfl⟩
      subst hw1
      go_upto_region 8 with (at_range; refine wpList_range_map _ rfl _ 92 _ rfl Tryz.underlying92 w.heap.size L rfl HA2.out.map ?_; intro w2 hrg hb2 hs2; have HRG := Lib.hid hrg; have HB2 := Lib.hid hb2; clear hrg hb2)
      have HRN := Lib.hid (HA2.out.range HB2.out HRG.out)
      have HRB := Lib.hid HA2.out.blocks
      have HNO := Lib.hid HA2.out.no
      have HBL2 := Lib.hid (HB.out.trans (HB2.out.mono HB.out.size))
      obtain ⟨r, hr⟩ : ∃ r, w1.heap.size = r := ⟨_, rfl⟩
      have HRS := Lib.hid (show w.heap.size ≤ r by rw [← hr]; exact HB.out.size)
      rw [hr] at HRN HRB HRG ⊢
      clear hr
      go_frame
      go_loopw [7] (fun _ wr => ∃ left cnt, Aside (RngW w.heap.size (L0.map Prod.fst) w.heap.size r L left cnt wr) ∧ Aside (Below w.heap.size w wr)) (fun _ wr => wr.rangeLeft w.heap.size r)
      case atStart => exact ⟨_, _, HRN.out, HBL2.out⟩
      case round =>
        obtain ⟨left, cnt, hrow, hbw⟩ := hrel
        have HR := Lib.hid (show RngW w.heap.size (L0.map Prod.fst) w.heap.size r L left cnt wr from hrow)
        have HBR := Lib.hid (show Below w.heap.size w wr from hbw)
        clear hrow hbw
        go_wp2_with (at_next; refine wpList_next_map _ rfl _ rfl w.heap.size r L left cnt rfl HR.out.rng ?_ ?_)
        · intro hc0 hl0
          have HFA := Lib.hid (show ans = true by
            rw [HANS.out]
            exact decide_eq_true (HR.out.end_ hl0 HNO.out))
          clear hc0 hl0
          go_wp2
          go_ret
          exact ⟨by rw [HFA.out]; rfl, HBR.out⟩
        · intro kp v w4 cnt4 hg hlj hrg4 hlt hbt hs4 hen
          have HG := Lib.hid hg
          have HG4 := Lib.hid hrg4
          have HLT := Lib.hid hlt
          have HBT := Lib.hid hbt
          have HO4 := Lib.hid (HR.out.own HRB.out hg hlj hbt)
          have HL4 := Lib.hid (show Below w.heap.size w w4 from HBR.out.grown hbt HBR.out.size (fun i hi => by cases hi; exact HRS.out))
          have HKN := Lib.hid (show (catP (L0.map Prod.fst) kp).length ≤ 1000000 by
            have h1 := bu.catP_len (l := L0.map Prod.fst) (n := 1000) (fun b hb => (HMM.out b hb).2.2.2.1.1) kp
            rw [List.length_map] at h1
            have h3 : L0.length * 1000 ≤ 201 * 1000 := Nat.mul_le_mul_right _ (by rw [HN.out]; omega)
            omega)
          have HSO := Lib.hid (sortX_any HO4.out.ownX HKN.out)
          clear hg hlj hrg4 hlt hbt hs4
          go_upto_region 11 with (go_at_call 69; ((with_reducible refine HSO.out.mono ?_); rintro e w5 ⟨rfl, hg5, s, hs5, hperm, hinc⟩); have HG5 := Lib.hid hg5; have HS5 := Lib.hid (And.intro hs5 (And.intro hperm hinc)); clear hg5 hs5 hperm hinc)
          clear hen
          obtain ⟨ps, cs, hvs⟩ := HS5.out.1.rd.len
          obtain ⟨m, hm⟩ : ∃ m, s.length = m := ⟨_, rfl⟩
          have HML := Lib.hid hm
          rw [hm] at hvs
          subst hvs
          have HMK := Lib.hid (show m ≤ 1000000 by rw [← hm, HS5.out.2.1.length_eq]; exact HKN.out)
          have hmk : m ≤ 1000000 := HMK.out
          clear hm
          have HOK := Lib.hid (show Ok s from (ex.ok_perm HS5.out.2.1).2 (bu.catP_ok HMM.out kp))
          have HAP := Lib.hid (show chF s 0 = decide (Apart (catP (L0.map Prod.fst) kp)) by rw [← chF_zero HOK.out]; exact ex.apL_apart HS5.out.2.1 HS5.out.2.2 (bu.catP_ok HMM.out kp))
          have HL5 := Lib.hid (show Below w.heap.size w w5 from HL4.out.grown HG5.out HL4.out.size (fun g hg => (World.ownsRow.lt HO4.out g hg).1))
          have HSR := Lib.hid (show RdS w5 (.slice ps m cs) s from HS5.out.1)
          go_wp2
          go_loopw [8] (fun s8 wi => ∃ (j : Nat), s8 = .int .i64 ((j : Int) + 1) ∧ j ≤ m ∧ Aside (chF s j = decide (Apart (catP (L0.map Prod.fst) kp))) ∧ Aside (Below w5.heap.size w5 wi)) (fun s8 _ => m - (intOf s8).toNat)
          case atStart => exact ⟨0, rfl, Nat.zero_le _, HAP.out, Below.refl _ _⟩
          case round =>
            obtain ⟨j, rfl, hj, hch, hb5⟩ := hrel
            have HCH := Lib.hid (show chF s j = decide (Apart (catP (L0.map Prod.fst) kp)) from hch)
            have HB5 := Lib.hid (show Below w5.heap.size w5 wr from hb5)
            clear hch hb5
            by_cases hjm : j + 1 < m
            · have hjm2 : (j : Int) + 1 < (m : Int) := by omega
              rcases HSR.out with ⟨he, _⟩ | ⟨k, off, c', he, hk, hc⟩
              · exfalso; simp only [Value.slice.injEq] at he; omega
              · simp only [Value.slice.injEq, true_and] at he
                obtain ⟨rfl, hmq, rfl⟩ := he
                clear hmq
                have c1 := hc j (by rw [HML.out]; omega)
                have c2 := hc (j + 1) (by rw [HML.out]; omega)
                have hx : s[j]? = some s[j]! := by rw [getElem!_pos s j (by rw [HML.out]; omega)]; exact List.getElem?_eq_getElem _
                have hy : s[j + 1]? = some s[j + 1]! := by rw [getElem!_pos s (j + 1) (by rw [HML.out]; omega)]; exact List.getElem?_eq_getElem _
                obtain ⟨x, hxe⟩ : ∃ x, s[j]! = x := ⟨_, rfl⟩
                obtain ⟨y, hye⟩ : ∃ y, s[j + 1]! = y := ⟨_, rfl⟩
                rw [hxe] at c1 hx
                rw [hye] at c2 hy
                obtain ⟨x1, x2⟩ := x
                obtain ⟨y1, y2⟩ := y
                dsimp only at c1 c2
                have hox := HOK.out _ (List.mem_of_getElem? hx)
                unfold ex.okx at hox
                dsimp only at hox
                have HST := Lib.hid (bu_chF hx hy)
                have HCC := Lib.hid (fun (Y : World) (hY : Below w5.heap.size w5 Y) => (show Y.cell? ⟨k, off + j * 2, none⟩ = some (.int .i64 x1) ∧ Y.cell? ⟨k, off + j * 2 + 1, none⟩ = some (.int .i64 x2) ∧ Y.cell? ⟨k, off + (j + 1) * 2, none⟩ = some (.int .i64 y1) from ⟨(low_cell hY hk).trans c1.1, (low_cell hY hk).trans c1.2, (low_cell hY hk).trans c2.1⟩))
                have hkk : k < wr.heap.size := Nat.lt_of_lt_of_le hk HB5.out.size
                have t1 : ((j : Int) + 1 - 1) = (j : Int) := by omega
                have t2 : ((j : Int) + 1).toNat = j + 1 := by omega
                have f1 : (0 : Int) ≤ (j : Int) + 1 := by omega
                have f2 : (0 : Int) ≤ (j : Int) := by omega
                have f3 : (j : Int) < (m : Int) := by omega
                have hw1 : IntKind.i64.wrap ((j : Int) + 1 - 1) = (j : Int) := by rw [IntKind.wrap_i64]; omega
                have hw2 : IntKind.i64.wrap (j : Int) = (j : Int) := by rw [IntKind.wrap_i64]; omega
                have hw3 : IntKind.i64.wrap (x1 + x2) = x1 + x2 := by rw [IntKind.wrap_i64]; omega
                clear hc hx hy hxe hye hox c1 c2
                go_upto_region 14 with fail
                have HD := Lib.hid (show Below w5.heap.size w5 wr.drew from HB5.out.drew)
                have HK0 := HCC.out _ HD.out
                go_region_held3 (fun W => W.cell? ⟨k, off + j * 2, none⟩ = some (.int .i64 x1) ∧ W.cell? ⟨k, off + j * 2 + 1, none⟩ = some (.int .i64 x2) ∧ W.cell? ⟨k, off + (j + 1) * 2, none⟩ = some (.int .i64 y1)) (exact HCC.out _ HD.out) (fail)
                obtain ⟨lb, hlb⟩ : ∃ lb, decide (y1 < x1 + x2) = lb := ⟨_, rfl⟩
                rw [hlb]
                have HLB := Lib.hid hlb
                clear hlb HK0
                cases lb with
                | true =>
                  have HFA := Lib.hid (show ans = false by
                    have h1 := HST.out
                    rw [if_pos (of_decide_eq_true HLB.out), HCH.out] at h1
                    have hna : ¬ Apart (catP (L0.map Prod.fst) kp) := of_decide_eq_false h1
                    rw [HANS.out]
                    refine decide_eq_false fun hall => ?_
                    by_cases hex : ∃ z ∈ L0.map Prod.fst, z.pool = kp
                    · obtain ⟨z, hz, rfl⟩ := hex
                      exact hna (hall z hz)
                    · rw [catP_none fun z hz e => hex ⟨z, hz, e⟩] at hna
                      exact hna .nil)
                  go_wp2
                  go_ret
                  exact ⟨by rw [HFA.out]; rfl, HL5.out.trans (HD.out.mono HL5.out.size)⟩
                | false =>
                  go_wp2
                  go_roundw
                  case rel => exact ⟨j + 1, by go_num, by omega, by
                    have h1 := HST.out
                    rw [if_neg (of_decide_eq_false HLB.out), HCH.out] at h1
                    exact h1.symm, HD.out⟩
                  case measure => simp [intOf]; omega
            · have hjm2 : ¬ (j : Int) + 1 < (m : Int) := by omega
              have HAF := Lib.hid (show Apart (catP (L0.map Prod.fst) kp) from of_decide_eq_true (by rw [← HCH.out]; exact chF_end (by rw [HML.out]; omega)))
              have HST := Lib.hid (HR.out.step HRB.out HG.out HG4.out HBT.out HG5.out HB5.out HAF.out)
              have HLF := Lib.hid (HL5.out.trans (HB5.out.mono HL5.out.size))
              go_wp2
              go_roundw
              case rel => exact ⟨_, cnt4, HST.out, HLF.out⟩
              case measure =>
                rw [HST.out.rng.left_eq, HR.out.rng.left_eq]
                exact HLT.out
end Go.Proofs.YtkjffoebcblpoaaGreat.gn
end
