/- The program's Add. (Written by gen_bvN.py.) -/
import Derived.Test.YtkjffoebcblpoaaGreatMBvK
import Derived.Test.YtkjffoebcblpoaaGreatMGenAt
section
set_option linter.unusedVariables false
set_option linter.unusedSimpArgs false
set_option maxRecDepth 100000
namespace Go.Proofs.YtkjffoebcblpoaaGreat.gn
open Go.RowKit
open Go.Proofs.YtkjffoebcblpoaaGreat.bu (Bf May Valid Far lt meet place same ins addS cmpB)

/-! ### plain -/
theorem far_ins {l : List Bf} {b : Bf} (hl : l.Pairwise Far) : (ins b l).Pairwise Far ↔ (l.any fun c => decide (c.pool = b.pool) && meet c.exts b.exts) = false := by
  constructor
  · intro h
    have h1 := ((bu.ins_perm b l).pairwise_iff (fun h => bu.Far.symm h)).1 h
    rw [List.any_eq_false]
    intro c hc hh
    rw [Bool.and_eq_true, decide_eq_true_eq] at hh
    have := (List.pairwise_cons.1 h1).1 c hc
    have h2 := bu.Far.symm this hh.1
    rw [h2] at hh
    cases hh.2
  · intro h
    rw [List.any_eq_false] at h
    refine bu.ins_far hl fun c hc he => ?_
    have := h c hc
    rw [Bool.and_eq_true, decide_eq_true_eq] at this
    cases hm : meet c.exts b.exts
    · rfl
    · exact absurd ⟨he, hm⟩ this
theorem place_any (l : List Bf) (job : Int) (name : List UInt8) : (place l job name).isSome = l.any (same job name) := List.findIdx?_isSome
theorem cmp_same (b q : Bf) : decide (cmpB q b = 0) = same b.job b.name q := by
  rw [Bool.eq_iff_iff, decide_eq_true_eq, bu.cmpB_zero, bu.same_iff]
/-- No row, and an error. -/
theorem rowP_no {w W : World} {E : Int} (hb : Below w.heap.size w W) : RowP w [] E (.returned (.tuple #[.slice none 0 0, .int .i64 E])) W :=
  ⟨_, [], rfl, rfl, ⟨OutS.nil _ _, (fun p hp => by cases hp), fun p hp => by cases hp⟩, bis_nil, hb⟩

theorem may_len {b : Bf} (h : May b) : b.exts.length ≤ 1000000 ∧ b.refs.length ≤ 1000000 := by
  refine ⟨by have := h.2.2.2.1.1; omega, ?_⟩
  by_cases h0 : b.job = 0
  · have := (h.2.2.2.2.2 h0).2.1
    omega
  · rw [(h.2.2.2.2.1 h0).2.2.2]
    simp
/-! ### the closure -/
theorem add1_any (W : World) (k : Nat) (b : Bf) (g : Gb) (q : Bf × Gb) (hk : BoxA W k 26 (bcs b g)) :
    Calls Tryz.prog 31 (#[.agg (bcs q.1 q.2)] ++ #[.pointer (some ⟨k, 0, none⟩)]) W fun e w' => e = .returned (.bool (same b.job b.name q.1)) ∧ Below W.heap.size W w' := by
  obtain ⟨x, he, hr⟩ := q
  dsimp only
  obtain ⟨W1, hW1⟩ : ∃ W1, W.alloc (.cells (bcs x ⟨he, hr⟩) 26) = W1 := ⟨_, rfl⟩
  have hb1 : BoxA W1 W.heap.size 26 (bcs x ⟨he, hr⟩) := by rw [← hW1]; exact BoxA.new _ _ _
  have hl1 : Below W.heap.size W W1 := by rw [← hW1]; exact (Below.refl _ _).alloc (Nat.le_refl _) _
  have hb2 := hk.next hl1
  have hc := compareB_any (x, ⟨he, hr⟩) (b, g) W1
  have HW := Lib.hid hW1
  have HL := Lib.hid hl1
  have HB1 := Lib.hid hb1
  have HB2 := Lib.hid hb2
  have hcs := cmp_same b x
  obtain ⟨z, hz⟩ : ∃ z, cmpB x b = z := ⟨_, rfl⟩
  dsimp only at hc
  rw [hz] at hc hcs
  have hcs2 : (z == 0) = same b.job b.name x := by rw [← hcs, Bool.eq_iff_iff, beq_iff_eq, decide_eq_true_eq]
  have HCS := Lib.hid hcs2
  have HC := Lib.hid hc
  unfold bV at HC
  unfold bcs at HW
  clear hk hW1 hl1 hb1 hb2 hc hz hcs hcs2
  show Calls _ _ #[.agg (bcs x ⟨he, hr⟩), .pointer (some ⟨k, 0, none⟩)] W _
  unfold bcs
  go_enter Tryz.func31, Tryz.ntmps31
  go_upto_region 1 with fail
  rw [HW.out]
  go_wp2_with (first
    | (refine wpl_load_g (by rfl) _ _ rfl W.heap.size rfl _ _ _ _ HB1.out Tryz.underlying26 rfl (by kernel_rfl) ?_)
    | (refine wpl_load_g (by rfl) _ _ rfl k rfl _ _ _ _ HB2.out Tryz.underlying26 rfl (by kernel_rfl) ?_)
    | (go_at_call 32; ((with_reducible refine HC.out.mono ?_); rintro e w5 ⟨rfl, n5, os5, rfl⟩)))
  go_ret
  exact ⟨by rw [← HCS.out]; rfl, HL.out.trans ((below_growB W1 n5 os5).mono HL.out.size)⟩

/-! ### one more, behind a row of the call's own: what it leaves -/
/-- Where a row grew: that row alone, or nothing that was there. -/
def AppG (base : Nat) (w w' : World) (v : Value) (n : Nat) (cs : List Value) : Prop := (w.ownsRow base 26 7 v n cs ∧ w.grownBy w' v.ownBlock) ∨ Below w.heap.size w w'
theorem ApC.appG {base base2 size2 : Nat} {w w' : World} {t2 : TypeId} (hne : 26 ≠ t2) {v u : Value} {n m : Nat} {cs ys : List Value} (h : ApC base2 t2 size2 w u m ys) (hg : AppG base w w' v n cs) : ApC base2 t2 size2 w' u m ys := by
  rcases hg with ⟨h1, h2⟩ | h1
  · exact h.grownT hne h1 h2
  · exact h.next h1
theorem wp_bufG2 {w : World} {o : Oper} {a : Act} {K : Act → World → Prop} {Q : Exit → Act → World → Prop} (s x : Operand)
    (ho : o.op = .call { callee := .builtin .append, args := #[s, x], argTypes := #[22, 22] })
    {base : Nat} {v : Value} {M : List (Bf × Gb)} (hs : a.eval s = v) (ha : OutS base w v M) {k c : Nat} {te : TypeId} {b : Bf} {g : Gb} (hx : a.eval x = .slice (some ⟨k, 0, none⟩) 1 c) (hk : BoxA w k te (bcs b g)) (hr : ∀ u ∈ (bcs b g).toList, u.oneCell' = true)
    (hl : M.length ≤ 1000000) (hb : base ≤ w.heap.size)
    (h : ∀ v' w', OutS base w' v' (M ++ [(b, g)]) → Below base w w' → AppG base w w' v M.length (bcl M) → K (a.put o.dst v') w') : o.wp Tryz.prog a w K Q := by
  have fin : ∀ v' w', (Builtin.append_ #[22, 22] o.type #[v, .slice (some ⟨k, 0, none⟩) 1 c]).run Tryz.prog w = .ok v' w' → ApC base 26 7 w' v' (M.length + 1) (bcl M ++ (bcs b g).toList) → Below base w w' → AppG base w w' v M.length (bcl M) → o.wp Tryz.prog a w K Q := fun v' w' hrun h2 h3 h4 => by
    unfold Oper.wp
    simp [execOp, ho, resolve, invoke, builtin, hs, hx, hrun, Result.andThen]
    refine h v' w' ⟨?_⟩ h3 h4
    rw [bcl_app, List.length_append]
    simpa [bcl] using h2
  rcases ha.row with ⟨p, rfl, hn, he⟩ | ho2
  · rw [hn, he] at fin
    obtain ⟨v', w', hrun, h2, h3⟩ := run_ap eltB o.type (base := w.heap.size) (v := .slice p 0 0) (n := 0) (cs := []) (.inl ⟨p, rfl, rfl, rfl⟩) (box_rdc (c := c) hk) rfl hr (by unfold maxLen; omega) (by omega) (Nat.le_refl _)
    exact fin v' w' hrun (h2.mono hb) (h3.mono hb) (.inr h3)
  · obtain ⟨v', w', hrun, h1, h2, h3⟩ := run_own (m := 1) (c := c) (a := ⟨k, 0, none⟩) eltB o.type ho2 (fun j u hu => by rw [Addr.add_lit, Nat.zero_add]; exact BoxA.cell hk j u (by simpa using hu)) rfl hr (by unfold maxLen; omega) (by omega) hb (by decide)
    exact fin v' w' hrun (.inr h1) ((Below.refl _ w).grown h2 hb fun k hk => (World.ownsRow.lt ho2 k hk).1) (.inl ⟨ho2, h2⟩)
theorem Own.app {base : Nat} {w w' : World} {v v' : Value} {M : List (Bf × Gb)} (h : Own base w v M) {b : Bf} {u : Gb} (he : ApC base 55 2 w u.e b.exts.length (xcs b.exts)) (hr : OutI base w u.r b.refs) (ho : OutS base w' v' (M ++ [(b, u)])) (hg : AppG base w w' v M.length (bcl M)) : Own base w' v' (M ++ [(b, u)]) := by
  refine ⟨ho, fun p hp => ?_, fun p hp => ?_⟩
  · rcases List.mem_append.1 hp with hp | hp
    · exact (h.e p hp).appG (by decide) hg
    · rw [List.mem_singleton.1 hp]; exact he.appG (by decide) hg
  · rcases List.mem_append.1 hp with hp | hp
    · exact ApC.appG (by decide) (h.r p hp) hg
    · rw [List.mem_singleton.1 hp]; exact ApC.appG (by decide) hr hg
theorem Own.mono {base B : Nat} {w : World} {v : Value} {M : List (Bf × Gb)} (h : Own base w v M) (hB : B ≤ base) : Own B w v M :=
  ⟨⟨h.row.row.mono hB⟩, fun p hp => (h.e p hp).mono hB, fun p hp => ApC.mono (h.r p hp) hB⟩
theorem Own.rbs {base : Nat} {w : World} {v : Value} {M : List (Bf × Gb)} (h : Own base w v M) : RBs w v M := h.row.rbs fun p hp => ⟨(h.e p hp).rdc, (h.r p hp).ri⟩
theorem Own.perm {base : Nat} {w w' : World} {v v' : Value} {M s : List (Bf × Gb)} (h : Own base w v M) (hb : Below w.heap.size w w') (hs : OutS base w' v' s) (hp : s.Perm M) : Own base w' v' s :=
  ⟨hs, fun p hp2 => (h.e p (hp.mem_iff.1 hp2)).next hb, fun p hp2 => ApC.next (h.r p (hp.mem_iff.1 hp2)) hb⟩

set_option maxHeartbeats 16000000 in
theorem padd_any {w : World} {v : Value} {L : List (Bf × Gb)} (h : RBs w v L) (hI : BIs L) (b : Bf) (g : Gb) (hb : RB w b g) (hbi : BI b) :
    Calls Tryz.prog 9 #[v, bV b g] w (RowP w (addS (L.map Prod.fst) b).1 (addS (L.map Prod.fst) b).2) := by
  obtain ⟨ge, gr⟩ := g
  obtain ⟨W, hW⟩ : ∃ W, w.alloc (.cells (bcs b ⟨ge, gr⟩) 26) = W := ⟨_, rfl⟩
  have hbx : BufB W w.heap.size b ⟨ge, gr⟩ := by rw [← hW]; exact BoxA.new _ _ _
  have hl : Below w.heap.size w W := by rw [← hW]; exact (Below.refl _ _).alloc (Nat.le_refl _) _
  have HCH := Lib.hid (pcheck_any (h.next hl) hI)
  have HVA := Lib.hid (fun (Y : World) (hy : Below W.heap.size W Y) => valid_any b ⟨ge, gr⟩ Y ((hb.next hl).next hy) hbi)
  have eg : ∀ args w, (callFunc 31 args).run Tryz.prog w = .ok (.enter 31 args) w := enters_of Tryz.func31 (by kernel_rfl) rfl
  have HAN := Lib.hid (fun (Y : World) (hy : Below W.heap.size W Y) => anyB_any ((h.next hl).next hy) hI.len 31 #[.pointer (some ⟨w.heap.size, 0, none⟩)] eg (same b.job b.name) fun Z q _ hz => add1_any Z w.heap.size b ⟨ge, gr⟩ q (BoxA.next (BoxA.next hbx hy) hz))
  have HBX := Lib.hid (fun (Y : World) (hY : Below W.heap.size W Y) => (show BoxA Y w.heap.size 26 (bcs b ⟨ge, gr⟩) from BoxA.next hbx hY))
  have HCO := Lib.hid (fun (hl2 : L.length ≤ 1000) (hx : ∀ q ∈ L, q.1.exts.length ≤ 1000000 ∧ q.1.refs.length ≤ 1000000) (Y : World) (hy : Below W.heap.size W Y) => copies_any ((h.next hl).next hy) hl2 hx)
  have HCF := Lib.hid (fun (he : b.exts.length ≤ 1000000) (hr : b.refs.length ≤ 1000000) (Y : World) (hy : Below W.heap.size W Y) => copyOf_any b ⟨ge, gr⟩ Y ((hb.next hl).next hy) he hr)
  have HFI := Lib.hid (fun (Y : World) (hy : Below W.heap.size W Y) => hl.trans (hy.mono hl.size))
  obtain ⟨p, c, rfl, -⟩ := h.form
  obtain ⟨n, hn⟩ : ∃ n, L.length = n := ⟨_, rfl⟩
  have HN := Lib.hid hn
  have HI := Lib.hid hI
  have HBI := Lib.hid hbi
  have HW := Lib.hid hW
  have hn47 : n ≤ 140737488355328 := by rw [← hn]; exact hI.len
  rw [hn] at HCH HAN HCO ⊢
  unfold bV at HVA HCF
  unfold bcs at HW
  clear h hI hb hbi hW hbx hl hn
  unfold bV
  by_cases hV : Valid (L.map Prod.fst)
  rotate_left
  · have HR := Lib.hid (show addS (L.map Prod.fst) b = ([], 170) by unfold bu.addS; rw [if_pos fun hh => hV hh.1])
    rw [vE_no hV] at HCH
    clear hV
    unfold bcs
    go_enter Tryz.func9, Tryz.ntmps9
    go_upto_region 1 with fail
    rw [HW.out]
    go_wp2_with (first
      | (go_at_call 11; ((with_reducible refine HCH.out.mono ?_); rintro e w5 ⟨rfl, hb⟩); have A5 := Lib.hid (show Below W.heap.size W w5 from hb); clear hb))
    go_ret2
    rw [HR.out]
    exact rowP_no (HFI.out _ A5.out)
  rw [show vE (L.map Prod.fst) = 0 from if_pos hV] at HCH
  by_cases hM : May b
  rotate_left
  · have HR := Lib.hid (show addS (L.map Prod.fst) b = ([], 170) by unfold bu.addS; rw [if_pos fun hh => hM hh.2])
    rw [decide_eq_false hM] at HVA
    clear hV hM
    unfold bcs
    go_enter Tryz.func9, Tryz.ntmps9
    go_upto_region 1 with fail
    rw [HW.out]
    go_wp2_with (first
      | (go_at_call 11; ((with_reducible refine HCH.out.mono ?_); rintro e w5 ⟨rfl, hb⟩); have A5 := Lib.hid (show Below W.heap.size W w5 from hb); clear hb)
      | (refine wpl_load_g (by rfl) _ _ rfl w.heap.size rfl _ _ _ _ (HBX.out _ A5.out) Tryz.underlying26 rfl (by kernel_rfl) ?_)
      | (go_at_call 29; ((with_reducible refine (HVA.out _ A5.out).mono ?_); rintro e w6 ⟨rfl, hb⟩); have A6 := Lib.hid (show Below W.heap.size W w6 from A5.out.trans (hb.mono A5.out.size)); clear hb))
    go_ret2
    rw [HR.out]
    exact rowP_no (HFI.out _ A6.out)
  rw [decide_eq_true hM] at HVA
  have HA0 := Lib.hid (show addS (L.map Prod.fst) b = if (place (L.map Prod.fst) b.job b.name).isSome = true then ([], 8) else if (L.map Prod.fst).length = 200 then ([], 6) else if ((L.map Prod.fst).any fun c => decide (c.pool = b.pool) && meet c.exts b.exts) = true then ([], 110) else (ins b (L.map Prod.fst), 0) by unfold bu.addS; rw [if_neg (not_not_intro ⟨hV, hM⟩)])
  have HVV := Lib.hid (And.intro hV hM)
  have hp := place_any (L.map Prod.fst) b.job b.name
  obtain ⟨an, han⟩ : ∃ an, ((L.map Prod.fst).any (same b.job b.name)) = an := ⟨_, rfl⟩
  rw [han] at HAN hp
  have HPL := Lib.hid hp
  clear hV hM hp han
  cases an with
  | true =>
    have HR := Lib.hid (show addS (L.map Prod.fst) b = ([], 8) by rw [HA0.out, if_pos HPL.out])
    unfold bcs
    go_enter Tryz.func9, Tryz.ntmps9
    go_upto_region 1 with fail
    rw [HW.out]
    go_wp2_with (first
      | (go_at_call 11; ((with_reducible refine HCH.out.mono ?_); rintro e w5 ⟨rfl, hb⟩); have A5 := Lib.hid (show Below W.heap.size W w5 from hb); clear hb)
      | (refine wpl_load_g (by rfl) _ _ rfl w.heap.size rfl _ _ _ _ (HBX.out _ A5.out) Tryz.underlying26 rfl (by kernel_rfl) ?_)
      | (go_at_call 29; ((with_reducible refine (HVA.out _ A5.out).mono ?_); rintro e w6 ⟨rfl, hb⟩); have A6 := Lib.hid (show Below W.heap.size W w6 from A5.out.trans (hb.mono A5.out.size)); clear hb)
      | (go_at_call 30; ((with_reducible refine (HAN.out _ A6.out).mono ?_); rintro e w7 ⟨rfl, hb⟩); have A7 := Lib.hid (show Below W.heap.size W w7 from A6.out.trans (hb.mono A6.out.size)); clear hb))
    go_ret2
    rw [HR.out]
    exact rowP_no (HFI.out _ A7.out)
  | false =>
  have HNS := Lib.hid (show ∀ c ∈ L.map Prod.fst, ¬ (c.job = b.job ∧ c.name = b.name) from bu.place_none (by
    have := HPL.out
    cases hpl : place (L.map Prod.fst) b.job b.name
    · rfl
    · rw [hpl] at this; cases this))
  have hn200 : n ≤ 200 := by
    have := HVV.out.1.1
    rwa [List.length_map, HN.out] at this
  by_cases h2 : n = 200
  · have HR := Lib.hid (show addS (L.map Prod.fst) b = ([], 6) by rw [HA0.out, if_neg (by rw [HPL.out]; decide), if_pos (by rw [List.length_map, HN.out]; exact h2)])
    have d2 : ((n : Int) == 200) = true := by rw [beq_iff_eq]; omega
    clear h2
    unfold bcs
    go_enter Tryz.func9, Tryz.ntmps9
    go_upto_region 1 with fail
    rw [HW.out]
    go_wp2_with (first
      | (go_at_call 11; ((with_reducible refine HCH.out.mono ?_); rintro e w5 ⟨rfl, hb⟩); have A5 := Lib.hid (show Below W.heap.size W w5 from hb); clear hb)
      | (refine wpl_load_g (by rfl) _ _ rfl w.heap.size rfl _ _ _ _ (HBX.out _ A5.out) Tryz.underlying26 rfl (by kernel_rfl) ?_)
      | (go_at_call 29; ((with_reducible refine (HVA.out _ A5.out).mono ?_); rintro e w6 ⟨rfl, hb⟩); have A6 := Lib.hid (show Below W.heap.size W w6 from A5.out.trans (hb.mono A5.out.size)); clear hb)
      | (go_at_call 30; ((with_reducible refine (HAN.out _ A6.out).mono ?_); rintro e w7 ⟨rfl, hb⟩); have A7 := Lib.hid (show Below W.heap.size W w7 from A6.out.trans (hb.mono A6.out.size)); clear hb))
    go_ret2
    rw [HR.out]
    exact rowP_no (HFI.out _ A7.out)
  have d2 : ((n : Int) == 200) = false := by rw [beq_eq_false_iff_ne]; omega
  have HA1 := Lib.hid (show addS (L.map Prod.fst) b = if ((L.map Prod.fst).any fun c => decide (c.pool = b.pool) && meet c.exts b.exts) = true then ([], 110) else (ins b (L.map Prod.fst), 0) by rw [HA0.out, if_neg (by rw [HPL.out]; decide), if_neg (by rw [List.length_map, HN.out]; exact h2)])
  have HLM := Lib.hid (show ∀ q ∈ L, q.1.exts.length ≤ 1000000 ∧ q.1.refs.length ≤ 1000000 from fun q hq => may_len (HVV.out.1.2.1 q.1 (List.mem_map.2 ⟨q, hq, rfl⟩)))
  have HC1 := Lib.hid (HCO.out (by omega) HLM.out)
  have HC2 := Lib.hid (HCF.out (may_len HVV.out.2).1 (may_len HVV.out.2).2)
  have HKP := Lib.hid (fun (Y : World) (hY : Below W.heap.size W Y) => (show Y.cell? ⟨w.heap.size, 0, none⟩ = some (.int .i64 b.job) ∧ Y.cell? ⟨w.heap.size, 1, none⟩ = some (.string (str b.name)) ∧ Y.cell? ⟨w.heap.size, 2, none⟩ = some (.string (str b.user)) ∧ Y.cell? ⟨w.heap.size, 3, none⟩ = some (.string (str b.pool)) ∧ Y.cell? ⟨w.heap.size, 4, none⟩ = some (.bool b.opn) ∧ Y.cell? ⟨w.heap.size, 5, none⟩ = some (ge) ∧ Y.cell? ⟨w.heap.size, 6, none⟩ = some (gr) from ⟨BoxA.cell (HBX.out Y hY) 0 _ rfl, BoxA.cell (HBX.out Y hY) 1 _ rfl, BoxA.cell (HBX.out Y hY) 2 _ rfl, BoxA.cell (HBX.out Y hY) 3 _ rfl, BoxA.cell (HBX.out Y hY) 4 _ rfl, BoxA.cell (HBX.out Y hY) 5 _ rfl, BoxA.cell (HBX.out Y hY) 6 _ rfl⟩))
  unfold bcs at HC2
  try dsimp only at HC2
  clear HCO HCF
  unfold bcs
  go_enter Tryz.func9, Tryz.ntmps9
  go_upto_region 1 with fail
  rw [HW.out]
  go_upto_region 7 with (first
      | (go_at_call 11; ((with_reducible refine HCH.out.mono ?_); rintro e w5 ⟨rfl, hb⟩); have A5 := Lib.hid (show Below W.heap.size W w5 from hb); clear hb)
      | (refine wpl_load_g (by rfl) _ _ rfl w.heap.size rfl _ _ _ _ (HBX.out _ A5.out) Tryz.underlying26 rfl (by kernel_rfl) ?_)
      | (go_at_call 29; ((with_reducible refine (HVA.out _ A5.out).mono ?_); rintro e w6 ⟨rfl, hb⟩); have A6 := Lib.hid (show Below W.heap.size W w6 from A5.out.trans (hb.mono A5.out.size)); clear hb)
      | (go_at_call 30; ((with_reducible refine (HAN.out _ A6.out).mono ?_); rintro e w7 ⟨rfl, hb⟩); have A7 := Lib.hid (show Below W.heap.size W w7 from A6.out.trans (hb.mono A6.out.size)); clear hb))
  have AD := Lib.hid (show Below W.heap.size W w7.drew from A7.out.drew)
  refine wp_region_held_drew (S := (fun Y => Y.cell? ⟨w.heap.size, 0, none⟩ = some (.int .i64 b.job) ∧ Y.cell? ⟨w.heap.size, 1, none⟩ = some (.string (str b.name)) ∧ Y.cell? ⟨w.heap.size, 2, none⟩ = some (.string (str b.user)) ∧ Y.cell? ⟨w.heap.size, 3, none⟩ = some (.string (str b.pool)) ∧ Y.cell? ⟨w.heap.size, 4, none⟩ = some (.bool b.opn) ∧ Y.cell? ⟨w.heap.size, 5, none⟩ = some (ge) ∧ Y.cell? ⟨w.heap.size, 6, none⟩ = some (gr))) (by kernel_rfl) (by exact HKP.out _ AD.out) (fun hHeld => ?_)
  refine wpAnyH_take (i := 0) (v := ?_) (ata at0) (by kernel_rfl) (by kernel_rfl) (by kernel_rfl) (fun _ _ _ h => h) (Or.inl ⟨by rfl, ?_⟩) (by assumption) ?_
  rotate_left
  · (intro w hSw; (try dsimp only at hSw); go_simp; (first | done | with_reducible rfl))
  try simp only [Act.put, List.setIfInBounds_toArray, List.set_cons_zero, List.set_cons_succ]
  refine wpAnyH_take (i := 2) (v := ?_) (ata (atS (atS at0))) (by kernel_rfl) (by kernel_rfl) (by kernel_rfl) (fun _ _ _ h => h) (Or.inl ⟨by rfl, ?_⟩) (by assumption) ?_
  rotate_left
  · (intro w hSw; (try dsimp only at hSw); go_simp; (first | done | with_reducible rfl))
  try simp only [Act.put, List.setIfInBounds_toArray, List.set_cons_zero, List.set_cons_succ]
  refine wpAnyH_ready (rs := [1]) (by kernel_rfl) (by simp) ?_
  refine AllReadyH.cons (ata (atS at0)) (fun K hK => ?_) AllReadyH.nil
  go_simp
  (go_at_call 34; ((with_reducible refine (HC1.out _ AD.out).mono ?_); rintro e w8 ⟨u8, M8x, rfl, hm8, ho8, hb8⟩); have A8 := Lib.hid (show Below W.heap.size W w8 from AD.out.trans (hb8.mono AD.out.size)); have M8 := Lib.hid (And.intro hm8 (show Own w7.heap.size w8 u8 M8x from ho8)); have M8sz := Lib.hid (show w7.heap.size ≤ w8.heap.size from hb8.size); clear hm8 ho8 hb8)
  go_wp2_with fail
  refine hK.out _ _ (by exact HKP.out _ A8.out) (fun hHeld => ?_)
  clear hK K
  try simp only [Act.put, List.setIfInBounds_toArray, List.set_cons_zero, List.set_cons_succ]
  refine wpAnyH_ready (rs := [3]) (by kernel_rfl) (by simp) ?_
  refine AllReadyH.cons (ata (atS (atS (atS at0)))) (fun K hK => ?_) AllReadyH.nil
  go_simp
  (go_at_call 35; ((with_reducible refine (HC2.out _ A8.out).mono ?_); rintro e w9 ⟨u9, rfl, he9, hr9, hb9⟩); have A9 := Lib.hid (show Below w8.heap.size w8 w9 from hb9); have E9 := Lib.hid (And.intro he9 hr9); clear he9 hr9 hb9; have HX9 := Lib.hid (show Below W.heap.size W w9 from A8.out.trans (A9.out.mono A8.out.size)); have R9 := Lib.hid (show RB w9 b u9 from ⟨E9.out.1.rdc, OutI.ri E9.out.2⟩); unfold bV bcs)
  go_wp2_with fail
  refine hK.out _ _ (by exact HKP.out _ HX9.out) (fun hHeld => ?_)
  clear hK K
  try simp only [Act.put, List.setIfInBounds_toArray, List.set_cons_zero, List.set_cons_succ]
  refine wpAnyH_ready (rs := [4]) (by kernel_rfl) (by simp) ?_
  refine AllReadyH.cons (ata (atS (atS (atS (atS at0))))) (fun K hK => ?_) AllReadyH.nil
  go_simp
  refine hK.out _ _ (by exact HKP.out _ (HX9.out.alloc HX9.out.size _)) (fun hHeld => ?_)
  clear hK K
  try simp only [Act.put, List.setIfInBounds_toArray, List.set_cons_zero, List.set_cons_succ]
  refine wpAnyH_ready (rs := [5]) (by kernel_rfl) (by simp) ?_
  refine AllReadyH.cons (ata (atS (atS (atS (atS (atS at0)))))) (fun K hK => ?_) AllReadyH.nil
  have HZ := Lib.hid (show Below w9.heap.size w9 (w9.alloc (.cells #[.int .i64 b.job, .string (str b.name), .string (str b.user), .string (str b.pool), .bool b.opn, u9.e, u9.r] 26)) from (Below.refl _ _).alloc (Nat.le_refl _) _)
  have HWL := Lib.hid (show w.heap.size ≤ w7.heap.size from (HFI.out _ A7.out).size)
  have O9 := Lib.hid (show Own w7.heap.size (w9.alloc (.cells #[.int .i64 b.job, .string (str b.name), .string (str b.user), .string (str b.pool), .bool b.opn, u9.e, u9.r] 26)) u8 M8x from (M8.out.2.next A9.out).next HZ.out)
  refine wp_bufG2 _ _ rfl (v := u8) rfl O9.out.row rfl (BoxA.new w9 26 (bcs b u9)) (bcs_one R9.out) (by rw [show M8x.length = n from by have := congrArg List.length M8.out.1; rw [List.length_map, List.length_map, HN.out] at this; exact this]; omega) (show w7.heap.size ≤ _ from Nat.le_trans (show w7.heap.size ≤ w8.heap.size from M8sz.out) (Nat.le_trans A9.out.size HZ.out.size)) ?_
  intro v10 w10 h10 hb10 hg10
  have O10 := Lib.hid (O9.out.app (show ApC w7.heap.size _ _ _ _ _ _ from ((E9.out.1.mono M8sz.out).next HZ.out)) (OutI.next (ApC.mono E9.out.2 M8sz.out) HZ.out) h10 hg10)
  have A10 := Lib.hid (show Below w7.heap.size w9 w10 from (HZ.out.mono (Nat.le_trans M8sz.out A9.out.size)).trans hb10)
  clear h10 hb10 hg10
  have HX10 := Lib.hid (show Below W.heap.size W w10 from HX9.out.trans (A10.out.mono A7.out.size))
  refine hK.out _ _ (by exact HKP.out _ HX10.out) (fun hHeld => ?_)
  clear hK K
  try simp only [Act.put, List.setIfInBounds_toArray, List.set_cons_zero, List.set_cons_succ]
  refine wpAnyH_ready (rs := [6]) (by kernel_rfl) (by simp) ?_
  refine AllReadyH.cons (ata (atS (atS (atS (atS (atS (atS at0))))))) (fun K hK => ?_) AllReadyH.nil
  go_simp
  (go_at_call 33; ((with_reducible refine (psorted_any O10.out.rbs (by simp) (by rw [List.length_append, show M8x.length = n from by have := congrArg List.length M8.out.1; rw [List.length_map, List.length_map, HN.out] at this; exact this]; simp; omega)).mono ?_); rintro e w11 ⟨u11, s11, rfl, ho11, hp11, hs11, hb11⟩); have S11 := Lib.hid (And.intro ho11 (And.intro hp11 hs11)); have B11 := Lib.hid (show Below w10.heap.size w10 w11 from hb11); clear ho11 hp11 hs11 hb11)
  go_wp2_with fail
  refine hK.out _ _ (by exact HKP.out _ (HX10.out.trans (B11.out.mono HX10.out.size))) (fun hHeld => ?_)
  clear hK K
  try simp only [Act.put, List.setIfInBounds_toArray, List.set_cons_zero, List.set_cons_succ]
  refine wpAnyH_take (i := 7) (v := ?_) (ata (atS (atS (atS (atS (atS (atS (atS at0)))))))) (by kernel_rfl) (by kernel_rfl) (by kernel_rfl) (fun _ _ _ h => h) (Or.inl ⟨by rfl, ?_⟩) (by assumption) ?_
  rotate_left
  · (intro w hSw; (try dsimp only at hSw); go_simp; (first | done | with_reducible rfl))
  try simp only [Act.put, List.setIfInBounds_toArray, List.set_cons_zero, List.set_cons_succ]
  refine wpAnyH_done (by kernel_rfl) ?_ _
  have HS := Lib.hid (show s11.map Prod.fst = ins b (L.map Prod.fst) from bu.sort_ins HVV.out.1.2.2.1 HNS.out (by
    have := S11.out.2.1.map Prod.fst
    rwa [List.map_append, M8.out.1] at this) S11.out.2.2)
  have HOW := Lib.hid (show Own w.heap.size w11 u11 s11 from (O10.out.mono HWL.out).perm B11.out ⟨S11.out.1.row.mono (HFI.out _ HX10.out).size⟩ S11.out.2.1)
  have HBS := Lib.hid (show BIs s11 from ⟨by
    have := congrArg List.length HS.out
    rw [List.length_map, bu.ins_len, List.length_map, HN.out] at this
    omega, fun q hq => by
    have : q.1 ∈ ins b (L.map Prod.fst) := by rw [← HS.out]; exact List.mem_map.2 ⟨q, hq, rfl⟩
    rcases bu.ins_mem.1 this with h9 | h9
    · rw [h9]; exact HBI.out
    · obtain ⟨q2, hq2, h10⟩ := List.mem_map.1 h9
      rw [← h10]; exact HI.out.all q2 hq2⟩)
  have HMS := Lib.hid (show ∀ q ∈ s11, May q.1 from fun q hq => by
    have : q.1 ∈ ins b (L.map Prod.fst) := by rw [← HS.out]; exact List.mem_map.2 ⟨q, hq, rfl⟩
    rcases bu.ins_mem.1 this with h9 | h9
    · rw [h9]; exact HVV.out.2
    · exact HVV.out.1.2.1 _ h9)
  have HAP := Lib.hid (papart_any HOW.out.rbs (by
    have := congrArg List.length HS.out
    rw [List.length_map, bu.ins_len, List.length_map, HN.out] at this
    omega) HMS.out HBS.out)
  rw [HS.out] at HAP
  have HFF := Lib.hid (far_ins (b := b) HVV.out.1.2.2.2)
  have A11 := Lib.hid (show Below w.heap.size w w11 from HFI.out _ (HX10.out.trans (B11.out.mono HX10.out.size)))
  by_cases hf : (ins b (L.map Prod.fst)).Pairwise Far
  · have HR := Lib.hid (show addS (L.map Prod.fst) b = (ins b (L.map Prod.fst), 0) by rw [HA1.out, if_neg (by rw [HFF.out.1 hf]; decide)])
    rw [decide_eq_true hf] at HAP
    clear hf
    go_wp2_with (go_at_call 36; ((with_reducible refine HAP.out.mono ?_); rintro e w12 ⟨rfl, hb⟩); have A12 := Lib.hid (show Below w11.heap.size w11 w12 from hb); clear hb)
    go_ret2
    exact ⟨u11, s11, by rw [HR.out]; rfl, by rw [HR.out]; exact HS.out, HOW.out.next A12.out, HBS.out, A11.out.trans (A12.out.mono A11.out.size)⟩
  · have HR := Lib.hid (show addS (L.map Prod.fst) b = ([], 110) by
      rw [HA1.out, if_pos]
      cases ha : (L.map Prod.fst).any fun c => decide (c.pool = b.pool) && meet c.exts b.exts
      · exact absurd (HFF.out.2 ha) hf
      · rfl)
    rw [decide_eq_false hf] at HAP
    clear hf
    go_wp2_with (go_at_call 36; ((with_reducible refine HAP.out.mono ?_); rintro e w12 ⟨rfl, hb⟩); have A12 := Lib.hid (show Below w11.heap.size w11 w12 from hb); clear hb)
    go_ret2
    rw [HR.out]
    exact rowP_no (A11.out.trans (A12.out.mono A11.out.size))
end Go.Proofs.YtkjffoebcblpoaaGreat.gn
end
