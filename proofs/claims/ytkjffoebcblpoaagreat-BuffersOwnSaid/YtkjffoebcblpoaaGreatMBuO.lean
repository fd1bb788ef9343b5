/- The document's answers for buffers: Unref. (Written by gen_buO.py, ahead of the code.) -/
import Derived.Test.YtkjffoebcblpoaaGreatMBuK
section
set_option linter.unusedVariables false
set_option linter.unusedSimpArgs false
namespace Go.Proofs.YtkjffoebcblpoaaGreat.gn
open Go.RowKit
open Go.Proofs.YtkjffoebcblpoaaGreat.bu (Bf May Valid jobOk unref)

/-! ### rows beside rows -/
theorem own_ne {base base2 size size2 : Nat} {W : World} {v u : Value} {n m : Nat} {xs ys : List Value} (h1 : W.ownsRow base 26 size v n xs) (h2 : W.ownsRow base2 2 size2 u m ys) : u.ownBlock = none ∨ u.ownBlock ≠ v.ownBlock := by
  obtain ⟨-, ⟨rfl, -⟩ | ⟨g, c, cur, rfl, -, hg, -⟩⟩ := h2
  · exact .inl rfl
  · obtain ⟨-, ⟨rfl, -⟩ | ⟨g', c', cur', rfl, -, hg', -⟩⟩ := h1
    · exact .inr (by simp [Value.ownBlock])
    · refine .inr fun e => ?_
      simp only [Value.ownBlock, Option.some.injEq] at e
      subst e
      rw [hg] at hg'
      simp only [Option.some.injEq, Obj.cells.injEq] at hg'
      exact absurd hg'.2.1 (by decide)
theorem OutI.grown {base base2 size : Nat} {W W' : World} {u v : Value} {l : List Int} {n : Nat} {xs : List Value} (h : OutI base W u l) (hv : W.ownsRow base2 26 size v n xs) (hg : W.grownBy W' v.ownBlock) : OutI base W' u l := by
  rcases h with h | h
  · exact .inl h
  · exact .inr (World.ownsRow.kept h hg (own_ne hv h))
/-- A row of buffers of the call's own. -/
def OwnB (base : Nat) (W : World) (v : Value) (M : List (Bf × Gb)) : Prop := W.ownsRow base 26 7 v M.length (bcl M)
theorem OwnB.next {base : Nat} {W W' : World} {v : Value} {M : List (Bf × Gb)} (h : OwnB base W v M) (hb : Below W.heap.size W W') : OwnB base W' v M := World.ownsRow.kept h (grown_new hb) (by cases hv : v.ownBlock <;> simp)
theorem OwnB.form {base : Nat} {W : World} {v : Value} {M : List (Bf × Gb)} (h : OwnB base W v M) : ∃ p c, v = .slice p M.length c := by
  obtain ⟨-, ⟨rfl, h⟩ | ⟨g, c, cur, rfl, -⟩⟩ := h
  · exact ⟨_, _, by rw [h]⟩
  · exact ⟨_, _, rfl⟩
theorem OwnB.low {base : Nat} {W W' : World} {v : Value} {M : List (Bf × Gb)} (h : OwnB base W v M) (hg : W.grownBy W' v.ownBlock) (hb : base ≤ W.heap.size) : Below base W W' := (Below.refl _ W).grown hg hb fun k hk => (World.ownsRow.lt h k hk).1
theorem wpl_bufG {w : World} {ops : Array Oper} {rest : List Oper} {o : Oper} {a : Act} {Q : Exit → Act → World → Prop} (hgd : o.guard = none) (s x : Operand)
    (ho : o.op = .call { callee := .builtin .append, args := #[s, x], argTypes := #[22, 22] })
    {base : Nat} {v : Value} {M : List (Bf × Gb)} {m : Nat} (hm : M.length = m) (hs : a.eval s = v) (ha : OwnB base w v M) {k c : Nat} {b : Bf} {g : Gb} (hx : a.eval x = .slice (some ⟨k, 0, none⟩) 1 c) (hk : BufB w k b g) (hr : ∀ u ∈ (bcs b g).toList, u.oneCell' = true)
    (hl : m ≤ 1000000) (hb : base ≤ w.heap.size)
    (h : ∀ p c w', OwnB base w' (.slice p (m + 1) c) (M ++ [(b, g)]) → w.grownBy w' v.ownBlock → wpList Tryz.prog ops Q rest (a.put o.dst (.slice p (m + 1) c)) w') :
    wpList Tryz.prog ops Q (o :: rest) a w := by
  subst hm
  refine wpList_plain hgd fun K hK => ?_
  obtain ⟨i, hi, hi1, hi2, hi3⟩ := eltB.inf
  obtain ⟨v', w', hrun, h2, h3, -⟩ := run_append_own (P := Tryz.prog) w base 22 o.type 26 i _ 7 112 eltB.und hi hi1 hi2 hi3 eltB.zs eltB.sz v M.length (bcl M) ha ⟨k, 0, none⟩ 1 c (bcs b g).toList (by rfl)
    (fun j u hu => by rw [Addr.add_lit, Nat.zero_add]; exact BoxA.cell hk j u (by simpa using hu)) hr (by unfold maxLen; omega) (by omega) hb
  have h4 : OwnB base w' v' (M ++ [(b, g)]) := by
    unfold OwnB
    rw [bcl_app, List.length_append]
    exact h2
  obtain ⟨p, c', rfl⟩ := h4.form
  rw [show (M ++ [(b, g)]).length = M.length + 1 by simp] at h4 hrun
  unfold Oper.wp
  simp [execOp, ho, resolve, invoke, builtin, hs, hx, hrun, Result.andThen]
  exact hK _ _ (h p c' w' h4 h3)
theorem bi_unref {b : Bf} (h : BI b) (job : Int) : BI (unref job b) := ⟨h.job, h.exts, fun r hr => h.refs r (List.mem_filter.1 hr).1, h.le, Nat.le_trans (List.length_filter_le _ _) h.lr, h.ln, h.lu, h.lp⟩
theorem wp_int {w : World} {o : Oper} {a : Act} {K : Act → World → Prop} {Q : Exit → Act → World → Prop} (s x : Operand)
    (ho : o.op = .call { callee := .builtin .append, args := #[s, x], argTypes := #[24, 24] })
    {base : Nat} {v : Value} {l : List Int} {m : Nat} (hm : l.length = m) (hs : a.eval s = v) (ha : OutI base w v l) {k c : Nat} {n : Int} (hx : a.eval x = .slice (some ⟨k, 0, none⟩) 1 c) (hk : BoxA w k 2 #[.int .i64 n]) (hl : m ≤ 1000000) (hb : base ≤ w.heap.size)
    (h : ∀ p c w', OutI base w' (.slice p (m + 1) c) (l ++ [n]) → Below base w w' → K (a.put o.dst (.slice p (m + 1) c)) w') : o.wp Tryz.prog a w K Q := by
  subst hm
  obtain ⟨v', w', hrun, h2, h3⟩ := run_ap eltI64 o.type (u := .slice (some ⟨k, 0, none⟩) 1 c) ha (box_rdc hk) rfl (by simp [Value.oneCell']) (by unfold maxLen; omega) (by omega) hb
  obtain ⟨p, c, rfl, hle⟩ := h2.form
  unfold Oper.wp
  simp [execOp, ho, resolve, invoke, builtin, hs, hx, hrun, Result.andThen]
  refine h p c w' ?_ h3
  unfold OutI
  rw [List.length_append, show ics (l ++ [n]) = ics l ++ [.int .i64 n] by simp [ics]]
  exact h2
theorem OutI.setCell {base g j : Nat} {W : World} {u x : Value} {l : List Int} (h : OutI base W u l) (hg : g < base) : OutI base (W.setCell ⟨g, j, none⟩ x) u l := by
  rcases h with h | ⟨h1, h2 | ⟨b, cap, cur, e, hb, hbb, r⟩⟩
  · exact .inl h
  · exact .inr ⟨h1, .inl h2⟩
  · exact .inr ⟨h1, .inr ⟨b, cap, cur, e, hb, (Below.heap_setCell _ _ _ _ (by show b ≠ g; omega)).trans hbb, r⟩⟩
/-- Where Unref stands. -/
structure UnW (L : List (Bf × Gb)) (job : Int) (base : Nat) (W0 : World) (i : Nat) (M : List (Bf × Gb)) (v : Value) (Y : World) : Prop where
  eq : M.map Prod.fst = ((L.map Prod.fst).take i).map (unref job)
  row : OwnB base Y v M
  e : ∀ p ∈ M, ∃ q ∈ L, p.2.e = q.2.e ∧ p.1 = unref job q.1
  r : ∀ p ∈ M, OutI base Y p.2.r p.1.refs
  low : Below base W0 Y
/-- Where its inner loop stands. -/
structure UnI (q : Bf) (ge : Value) (job : Int) (gb : Nat) (Y0 : World) (k : Nat) (o : List Int) (v : Value) (Y : World) : Prop where
  box : BufB Y gb q ⟨ge, v⟩
  row : OutI (gb + 1) Y v o
  eq : o = (q.refs.take k).filter (fun r => decide (r ≠ job))
  low : Below gb Y0 Y
theorem UnI.skip {q : Bf} {ge : Value} {job : Int} {gb : Nat} {Y0 : World} {k : Nat} {o : List Int} {v : Value} {Y : World} (h : UnI q ge job gb Y0 k o v Y) {x : Int} (hx : q.refs[k]? = some x) (he : x = job) : UnI q ge job gb Y0 (k + 1) o v Y :=
  ⟨h.box, h.row, by rw [bu.filter_at hx, if_pos he, List.append_nil]; exact h.eq, h.low⟩
theorem UnI.add {q : Bf} {ge : Value} {job : Int} {gb : Nat} {Y0 : World} {k : Nat} {o : List Int} {v : Value} {Y : World} (h : UnI q ge job gb Y0 k o v Y) {x : Int} (hx : q.refs[k]? = some x) (hne : x ≠ job) {Y6 : World} {u : Value} (hb : BufB Y6 gb q ⟨ge, v⟩) (hr : OutI (gb + 1) Y6 u (o ++ [x])) (hl : Below gb Y Y6) :
    UnI q ge job gb Y0 (k + 1) (o ++ [x]) u (Y6.setCell ⟨gb, 6, none⟩ u) :=
  ⟨BoxA.set hb 6 u, hr.setCell (Nat.lt_succ_self _), by rw [bu.filter_at hx, if_neg hne, ← h.eq], (h.low.trans hl).setCell (Nat.le_refl _) _⟩
theorem UnI.few {q : Bf} {ge : Value} {job : Int} {gb : Nat} {Y0 : World} {k : Nat} {o : List Int} {v : Value} {Y : World} (h : UnI q ge job gb Y0 k o v Y) : o.length ≤ k := by
  rw [h.eq]
  refine Nat.le_trans (List.length_filter_le _ _) ?_
  rw [List.length_take]
  omega
theorem UnW.put {L : List (Bf × Gb)} {job : Int} {base : Nat} {W0 : World} {i : Nat} {M : List (Bf × Gb)} {v u : Value} {Y Y1 Y' : World} {q : Bf × Gb} (h : UnW L job base W0 i M v Y) (hq : L[i]? = some q) (h1 : Below Y.heap.size Y Y1) (hb : base ≤ Y.heap.size) {r : Value} (hr : OutI base Y1 r (unref job q.1).refs) (hg : Y1.grownBy Y' v.ownBlock)
    (ho : OwnB base Y' u (M ++ [(unref job q.1, (⟨q.2.e, r⟩ : Gb))])) : UnW L job base W0 (i + 1) (M ++ [(unref job q.1, (⟨q.2.e, r⟩ : Gb))]) u Y' := by
  have hrow := h.row.next h1
  have hb1 : base ≤ Y1.heap.size := Nat.le_trans hb h1.size
  refine ⟨?_, ho, fun p hp => ?_, fun p hp => ?_, (h.low.trans (h1.mono hb)).trans (hrow.low hg hb1)⟩
  · rw [List.map_append, bu.map_at (fst_at hq), h.eq]
    rfl
  · rcases List.mem_append.1 hp with hp | hp
    · exact h.e p hp
    · rw [List.mem_singleton.1 hp]
      exact ⟨q, List.mem_of_getElem? hq, rfl, rfl⟩
  · rcases List.mem_append.1 hp with hp | hp
    · exact OutI.grown ((h.r p hp).next h1) hrow hg
    · rw [List.mem_singleton.1 hp]
      exact OutI.grown hr hrow hg
set_option maxRecDepth 100000 in
set_option maxHeartbeats 16000000 in
theorem dUnref_any {w : World} {v : Value} {L : List (Bf × Gb)} (h : RBs w v L) (hI : BIs L) (job : Int) (hjb : -9223372036854775808 ≤ job ∧ job ≤ 9223372036854775807) :
    Calls Tryz.prog 17 #[v, .int .i64 job] w (RowT w (bu.unrefS (L.map Prod.fst) job).1 (bu.unrefS (L.map Prod.fst) job).2) := by
  have HCH := Lib.hid (fun (Y : World) (hy : Below w.heap.size w Y) => dCheckB_any (h.next hy) hI)
  have HRL := Lib.hid (fun (Y : World) (hy : Below w.heap.size w Y) => (h.next hy).rows)
  have HJB := Lib.hid (fun Y => dJob_any job Y)
  obtain ⟨p, c, rfl, f⟩ := h.form
  obtain ⟨n, hn⟩ : ∃ n, L.length = n := ⟨_, rfl⟩
  rw [hn] at HCH
  rw [hn]
  have HF := Lib.hid f
  have HN := Lib.hid hn
  have HI := Lib.hid hI
  have hn1 : n ≤ 140737488355328 := by rw [← hn]; exact hI.len
  obtain ⟨j1, j2⟩ := hjb
  clear h hI f hn
  by_cases hV : Valid (L.map Prod.fst)
  rotate_left
  · have HR := Lib.hid (show bu.unrefS (L.map Prod.fst) job = ([], 170) by unfold bu.unrefS; rw [if_pos (fun hh => hV hh.1)])
    rw [vE_no hV] at HCH
    clear hV
    go_enter Tryz.func17, Tryz.ntmps17
    go_wp2_with (go_at_call 12; ((with_reducible refine (HCH.out _ (Below.refl _ _)).mono ?_); rintro e w5 ⟨rfl, hb⟩); have A5 := Lib.hid hb; clear hb)
    go_ret2
    rw [HR.out]
    exact rowT_no A5.out
  rw [show vE (L.map Prod.fst) = 0 from if_pos hV] at HCH
  by_cases hjo : jobOk job
  rotate_left
  · have HR := Lib.hid (show bu.unrefS (L.map Prod.fst) job = ([], 170) by unfold bu.unrefS; rw [if_pos (fun hh => hjo hh.2)])
    rw [decide_eq_false hjo] at HJB
    clear hV hjo
    go_enter Tryz.func17, Tryz.ntmps17
    go_wp2_with (first
      | (go_at_call 12; ((with_reducible refine (HCH.out _ (Below.refl _ _)).mono ?_); rintro e w5 ⟨rfl, hb⟩); have A5 := Lib.hid hb; clear hb)
      | (go_at_call 49; ((with_reducible refine (HJB.out _).mono ?_); rintro e w6 ⟨rfl, rfl⟩)))
    go_ret2
    rw [HR.out]
    exact rowT_no A5.out
  rw [decide_eq_true hjo] at HJB
  have HE := Lib.hid (show bu.unrefS (L.map Prod.fst) job = ((L.map Prod.fst).map (unref job), 0) by unfold bu.unrefS; rw [if_neg (not_not_intro ⟨hV, hjo⟩)])
  have hn2 : n ≤ 200 := by have := hV.1; rw [List.length_map, HN.out] at this; exact this
  have HV := Lib.hid hV
  clear hV hjo
  go_enter Tryz.func17, Tryz.ntmps17
  go_upto_region 5 with (first
    | (go_at_call 12; ((with_reducible refine (HCH.out _ (Below.refl _ _)).mono ?_); rintro e w5 ⟨rfl, hb⟩); have A5 := Lib.hid hb; clear hb)
    | (go_at_call 49; ((with_reducible refine (HJB.out _).mono ?_); rintro e w6 ⟨rfl, rfl⟩)))
  clear HCH HJB
  obtain ⟨base, hbase⟩ : ∃ base, w.heap.size = base := ⟨_, rfl⟩
  have HBS := Lib.hid hbase
  clear hbase
  go_loopw [6, 7] (fun s6 s7 wr => ∃ (i : Nat) (M : List (Bf × Gb)) (pv : Option Addr) (m cv : Nat), s6 = .slice pv m cv ∧ s7 = .int .i64 (i : Nat) ∧ i ≤ n ∧ Aside (M.length = m ∧ m = i ∧ UnW L job base w i M (.slice pv m cv) wr)) (fun _ s7 _ => n - (intOf s7).toNat)
  case atStart => exact ⟨0, [], none, 0, 0, rfl, rfl, Nat.zero_le _, rfl, rfl, (by simp), World.ownsRow_nil _ _ _ _, (fun p hp => by cases hp), (fun p hp => by cases hp), (by rw [← HBS.out]; exact A5.out)⟩
  case round =>
    obtain ⟨i, M, pv, m, cv, rfl, rfl, hi, hrow⟩ := hrel
    have HML := Lib.hid (show M.length = m from hrow.1)
    have HMI := Lib.hid (show m = i from hrow.2.1)
    have HR := Lib.hid (show UnW L job base w i M (.slice pv m cv) wr from hrow.2.2)
    clear hrow
    have HV0 := Lib.hid (show Below w.heap.size w wr by rw [HBS.out]; exact HR.out.low)
    have HBW := Lib.hid (show base ≤ wr.heap.size by rw [← HBS.out]; exact HV0.out.size)
    by_cases hin : i < n
    · obtain ⟨q, hq⟩ : ∃ q, L[i]? = some q := ⟨_, List.getElem?_eq_getElem (by rw [HN.out]; exact hin)⟩
      obtain ⟨kb, off, rfl, hk, hc⟩ := BC.of (HF.out (ne_of_at hq))
      have HC := Lib.hid (fun (Y : World) (hy : Below w.heap.size w Y) => (show BC L kb off Y from hc.next hk hy))
      have HK := Lib.hid hk
      have HQ := Lib.hid hq
      have HQI := Lib.hid (HI.out.all q (List.mem_of_getElem? hq))
      have HQR := Lib.hid (fun (Y : World) (hy : Below w.heap.size w Y) => HRL.out Y hy q (List.mem_of_getElem? hq))
      have hmq : May q.1 := HV.out.2.1 q.1 (List.mem_of_getElem? (fst_at hq))
      have hr200 : q.1.refs.length ≤ 1000000 := by
        by_cases h0 : q.1.job = 0
        · have := (hmq.2.2.2.2.2 h0).2.1
          omega
        · rw [(hmq.2.2.2.2.1 h0).2.2.2]
          simp
      obtain ⟨pr, cr, hgr, hfr⟩ := (HQR.out w (Below.refl _ _)).r.form
      obtain ⟨nr, hnr⟩ : ∃ n, q.1.refs.length = n := ⟨_, rfl⟩
      rw [hnr] at hgr hr200
      have HGR := Lib.hid hgr
      have HFR := Lib.hid hfr
      have HNR := Lib.hid hnr
      have lkb : kb < wr.heap.size := Nat.lt_of_lt_of_le hk HV0.out.size
      clear hq hk hc HF hmq hgr hfr hnr
      go_upto_region 8 with (first
        | (refine wpList_load_mid rfl _ _ rfl kb (off + i * 7) rfl [.int .i64 q.1.job, .string (str q.1.name), .string (str q.1.user), .string (str q.1.pool), .bool q.1.opn, q.2.e, q.2.r] _ (HC.out _ HV0.out i q HQ.out) Tryz.underlying26 rfl (by kernel_rfl) ?_)
        | (refine wpList_store_row rfl _ _ _ rfl wr.heap.size (bcs q.1 q.2) rfl rfl _ _ (BoxA.new wr _ _) (by kernel_rfl) rfl (bcs_all (HQR.out _ HV0.out)) ?_))
      obtain ⟨W1, hW1, hkW1, hbW1⟩ := box_endB wr #[.int .i64 0, .string { data := #[] }, .string { data := #[] }, .string { data := #[] }, .bool false, .slice none 0 0, .slice none 0 0] (bcs q.1 q.2) 26
      rw [hW1]
      have hg0 : wr.heap.size < W1.heap.size := BoxA.lt hkW1
      obtain ⟨gb, hgb⟩ : ∃ gb, wr.heap.size = gb := ⟨_, rfl⟩
      have HGB := Lib.hid hgb
      have HX1 := Lib.hid (show BufB W1 gb q.1 q.2 by rw [← hgb]; exact hkW1)
      have HL1 := Lib.hid (show Below gb wr W1 by rw [← hgb]; exact hbW1)
      rw [hgb] at hg0 ⊢
      clear hW1 hkW1 hbW1 hgb lkb
      have HSZ1 := Lib.hid hg0
      have c6 : W1.cell? ⟨gb, 6, none⟩ = some q.2.r := HX1.out.cells.2.2.2.2.2.2.1
      have f6 : W1.frozen? ⟨gb, 6, none⟩ = false := by have := HX1.out; unfold BufB BoxA at this; simp [World.frozen?, this]
      try simp only [Act.put]
      go_upto_region 10 with fail
      obtain ⟨W2, hW2⟩ : ∃ W2, W1.setCell ⟨gb, 6, none⟩ (.slice none 0 0) = W2 := ⟨_, rfl⟩
      have HX2 := Lib.hid (show BufB W2 gb q.1 ⟨q.2.e, .slice none 0 0⟩ by rw [← hW2]; exact BoxA.set HX1.out 6 _)
      have HL2 := Lib.hid (show Below gb wr W2 by rw [← hW2]; exact HL1.out.setCell (Nat.le_refl _) _)
      rw [hW2]
      clear hW2 c6 f6 hg0
      obtain ⟨w0, hw0⟩ : ∃ w0, w0 = wr := ⟨_, rfl⟩
      subst hw0
      have HGW := Lib.hid (show w.heap.size ≤ gb by rw [← HGB.out]; exact HV0.out.size)
      have HCE := Lib.hid (fun (Y : World) (hy : Below w.heap.size w Y) => (show Y.cell? ⟨kb, off + i * 7 + 6, none⟩ = some (.slice pr nr cr) from by rw [← HGR.out]; exact (HC.out Y hy).cell HQ.out 6 _ rfl))
      go_loopw [9] (fun s9 wi => ∃ (k : Nat) (o : List Int) (v : Value), s9 = .int .i64 (k : Nat) ∧ k ≤ nr ∧ Aside (UnI q.1 q.2.e job gb w0 k o v wi)) (fun s9 _ => nr - (intOf s9).toNat)
      case atStart => exact ⟨0, [], _, rfl, Nat.zero_le _, HX2.out, OutI.nil _ _, rfl, HL2.out⟩
      case round =>
        obtain ⟨k, o, v, rfl, hk, hrow⟩ := hrel
        have HU := Lib.hid (show UnI q.1 q.2.e job gb w0 k o v wr from hrow)
        clear hrow
        obtain ⟨pv2, cv2, hv2, -⟩ := HU.out.row.form
        obtain ⟨m2, hm2⟩ : ∃ m2, o.length = m2 := ⟨_, rfl⟩
        have hmk : m2 ≤ k := by rw [← hm2]; exact HU.out.few
        rw [hm2] at hv2
        subst hv2
        have HM2 := Lib.hid hm2
        have HMK := Lib.hid hmk
        have HVi := Lib.hid (show Below w.heap.size w wr from HV0.out.trans (HU.out.low.mono HGW.out))
        have c6 := HCE.out _ HVi.out
        have lkb : kb < wr.heap.size := Nat.lt_of_lt_of_le HK.out HVi.out.size
        have lgb : gb < wr.heap.size := BoxA.lt HU.out.box
        clear hm2 hmk
        by_cases hki : k < nr
        · obtain ⟨x, hx⟩ : ∃ x, q.1.refs[k]? = some x := ⟨_, List.getElem?_eq_getElem (by rw [HNR.out]; exact hki)⟩
          obtain ⟨kr, orr, rfl, hkr, hcr⟩ := HFR.out (ne_of_at hx)
          have HX := Lib.hid hx
          have HS1 := Lib.hid (fun (Y : World) (hy : Below w.heap.size w Y) => (show Y.cell? ⟨kb, off + i * 7 + 6, none⟩ = some (.slice (some ⟨kr, orr, none⟩) nr cr) ∧ Y.cell? ⟨kr, orr + k, none⟩ = some (.int .i64 x) from ⟨HCE.out _ hy, (low_cell hy hkr).trans (hcr k x hx)⟩))
          have lx : kr < wr.heap.size := Nat.lt_of_lt_of_le hkr HVi.out.size
          have cx := (HS1.out _ HVi.out).2
          clear hx hkr hcr
          by_cases hxe : x = job
          · have HXE := Lib.hid hxe
            have d1 : (x != job) = false := by rw [bne_eq_false_iff_eq]; exact hxe
            clear hxe
            go_wp2
            go_roundw
            case rel => exact ⟨k + 1, o, _, by go_num, by omega, HU.out.skip HX.out HXE.out⟩
            case measure => simp [intOf]; omega
          · have HXE := Lib.hid hxe
            have d1 : (x != job) = true := by rw [bne_iff_ne]; exact hxe
            clear hxe
            go_upto_region 13 with fail
            clear c6 cx
            have HDd := Lib.hid (show Below w.heap.size w wr.drew from Below.drew HVi.out)
            have HBd := Lib.hid (show BufB wr.drew gb q.1 ⟨q.2.e, .slice pv2 m2 cv2⟩ from HU.out.box.next (drew_lowB wr))
            have HLd := Lib.hid (show Below gb wr wr.drew from (drew_lowB wr).mono (Nat.le_of_lt lgb))
            have HAl := Lib.hid ((Below.refl _ wr.drew).alloc (Nat.le_refl wr.drew.heap.size) (.cells #[.int .i64 x] 2))
            have lgd : gb < wr.drew.heap.size := BoxA.lt HBd.out
            have HBa := Lib.hid (show BufB (wr.drew.alloc (.cells #[.int .i64 x] 2)) gb q.1 ⟨q.2.e, .slice pv2 m2 cv2⟩ from HBd.out.next HAl.out)
            have HLa := Lib.hid (HLd.out.trans (HAl.out.mono (Nat.le_of_lt lgd)))
            have HVa := Lib.hid (HDd.out.trans (HAl.out.mono HDd.out.size))
            have lga : gb < (wr.drew.alloc (.cells #[.int .i64 x] 2)).heap.size := BoxA.lt HBa.out
            have HLG := Lib.hid lga
            have HOa := Lib.hid (show OutI (gb + 1) (wr.drew.alloc (.cells #[.int .i64 x] 2)) (.slice pv2 m2 cv2) o from (HU.out.row.next (drew_lowB wr)).next HAl.out)
            have HXa := Lib.hid (show BoxA (wr.drew.alloc (.cells #[.int .i64 x] 2)) wr.drew.heap.size 2 #[.int .i64 x] from BoxA.new _ _ _)
            have cb0 : wr.drew.cell? ⟨gb, 6, none⟩ = some (.slice pv2 m2 cv2) := HBd.out.cells.2.2.2.2.2.2.1
            have cb1 : (wr.drew.alloc (.cells #[.int .i64 x] 2)).cell? ⟨gb, 6, none⟩ = some (.slice pv2 m2 cv2) := HBa.out.cells.2.2.2.2.2.2.1
            have cb3 : (wr.alloc (.cells #[.int .i64 x] 2)).cell? ⟨gb, 6, none⟩ = some (.slice pv2 m2 cv2) := cb1
            refine wp_region_held_drew (S := (fun Y => Y.cell? ⟨kb, off + i * 7 + 6, none⟩ = some (.slice (some ⟨kr, orr, none⟩) nr cr) ∧ Y.cell? ⟨kr, orr + k, none⟩ = some (.int .i64 x))) (by kernel_rfl) (by exact HS1.out _ HDd.out) (fun hHeld => ?_)
            refine wpAnyH_take (i := 0) (v := ?_) (ata at0) (by kernel_rfl) (by kernel_rfl) (by kernel_rfl) (fun _ _ _ h => h) (Or.inl ⟨by rfl, ?_⟩) (by assumption) ?_
            rotate_left
            · (intro w hSw; (try dsimp only at hSw); go_simp; (first | done | with_reducible rfl))
            try simp only [Act.put, List.setIfInBounds_toArray, List.set_cons_zero, List.set_cons_succ]
            refine wpAnyH_take (i := 2) (v := ?_) (ata (atS (atS at0))) (by kernel_rfl) (by kernel_rfl) (by kernel_rfl) (fun _ _ _ h => h) (Or.inl ⟨by rfl, ?_⟩) (by assumption) ?_
            rotate_left
            · (intro w hSw; (try dsimp only at hSw); go_simp; (first | done | with_reducible rfl))
            try simp only [Act.put, List.setIfInBounds_toArray, List.set_cons_zero, List.set_cons_succ]
            refine wpAnyH_take (i := 3) (v := ?_) (ata (atS (atS (atS at0)))) (by kernel_rfl) (by kernel_rfl) (by kernel_rfl) (fun _ _ _ h => h) (Or.inl ⟨by rfl, ?_⟩) (by assumption) ?_
            rotate_left
            · (intro w hSw; (try dsimp only at hSw); go_simp; (first | done | with_reducible rfl))
            try simp only [Act.put, List.setIfInBounds_toArray, List.set_cons_zero, List.set_cons_succ]
            refine wpAnyH_take (i := 4) (v := ?_) (ata (atS (atS (atS (atS at0))))) (by kernel_rfl) (by kernel_rfl) (by kernel_rfl) (fun _ _ _ h => h) (Or.inl ⟨by rfl, ?_⟩) (by assumption) ?_
            rotate_left
            · (intro w hSw; (try dsimp only at hSw); go_simp; (first | done | with_reducible rfl))
            try simp only [Act.put, List.setIfInBounds_toArray, List.set_cons_zero, List.set_cons_succ]
            refine wpAnyH_take (i := 5) (v := ?_) (ata (atS (atS (atS (atS (atS at0)))))) (by kernel_rfl) (by kernel_rfl) (by kernel_rfl) (fun _ _ _ h => h) (Or.inl ⟨by rfl, ?_⟩) (by assumption) ?_
            rotate_left
            · (intro w hSw; (try dsimp only at hSw); go_simp; (first | done | with_reducible rfl))
            try simp only [Act.put, List.setIfInBounds_toArray, List.set_cons_zero, List.set_cons_succ]
            refine wpAnyH_take (i := 6) (v := ?_) (ata (atS (atS (atS (atS (atS (atS at0))))))) (by kernel_rfl) (by kernel_rfl) (by kernel_rfl) (fun _ _ _ h => h) (Or.inl ⟨by rfl, ?_⟩) (by assumption) ?_
            rotate_left
            · (intro w hSw; (try dsimp only at hSw); go_simp; (first | done | with_reducible rfl))
            try simp only [Act.put, List.setIfInBounds_toArray, List.set_cons_zero, List.set_cons_succ]
            refine wpAnyH_take (i := 7) (v := ?_) (ata (atS (atS (atS (atS (atS (atS (atS at0)))))))) (by kernel_rfl) (by kernel_rfl) (by kernel_rfl) (fun _ _ _ h => h) (Or.inl ⟨by rfl, ?_⟩) (by assumption) ?_
            rotate_left
            · (intro w hSw; (try dsimp only at hSw); go_simp; (first | done | with_reducible rfl))
            try simp only [Act.put, List.setIfInBounds_toArray, List.set_cons_zero, List.set_cons_succ]
            refine wpAnyH_take (i := 8) (v := ?_) (ata (atS (atS (atS (atS (atS (atS (atS (atS at0))))))))) (by kernel_rfl) (by kernel_rfl) (by kernel_rfl) (fun _ _ _ h => h) (Or.inl ⟨by rfl, ?_⟩) (by assumption) ?_
            rotate_left
            · (intro w hSw; (try dsimp only at hSw); go_simp; (first | done | with_reducible rfl))
            try simp only [Act.put, List.setIfInBounds_toArray, List.set_cons_zero, List.set_cons_succ]
            refine wpAnyH_take (i := 9) (v := ?_) (ata (atS (atS (atS (atS (atS (atS (atS (atS (atS at0)))))))))) (by kernel_rfl) (by kernel_rfl) (by kernel_rfl) (fun _ _ _ h => h) (Or.inl ⟨by rfl, ?_⟩) (by assumption) ?_
            rotate_left
            · (intro w hSw; (try dsimp only at hSw); go_simp; (first | done | with_reducible rfl))
            try simp only [Act.put, List.setIfInBounds_toArray, List.set_cons_zero, List.set_cons_succ]
            refine wpAnyH_ready (rs := [1, 10]) (by kernel_rfl) (by simp) ?_
            refine AllReadyH.cons (ata (atS at0)) (fun K hK => ?_) (AllReadyH.cons (ata (atS (atS (atS (atS (atS (atS (atS (atS (atS (atS at0))))))))))) (fun K hK => ?_) AllReadyH.nil)
            · go_simp
              refine hK.out _ _ (by exact HS1.out _ HDd.out) (fun hHeld => ?_)
              clear hK K
              try simp only [Act.put, List.setIfInBounds_toArray, List.set_cons_zero, List.set_cons_succ]
              refine wpAnyH_ready (rs := [10]) (by kernel_rfl) (by simp) ?_
              refine AllReadyH.cons (ata (atS (atS (atS (atS (atS (atS (atS (atS (atS (atS at0))))))))))) (fun K hK => ?_) AllReadyH.nil
              go_simp
              refine hK.out _ _ (by exact HS1.out _ HVa.out) (fun hHeld => ?_)
              clear hK K
              try simp only [Act.put, List.setIfInBounds_toArray, List.set_cons_zero, List.set_cons_succ]
              refine wpAnyH_ready (rs := [11]) (by kernel_rfl) (by simp) ?_
              refine AllReadyH.cons (ata (atS (atS (atS (atS (atS (atS (atS (atS (atS (atS (atS at0)))))))))))) (fun K hK => ?_) AllReadyH.nil
              refine wp_int _ _ rfl (base := gb + 1) (m := m2) HM2.out (v := .slice pv2 m2 cv2) rfl HOa.out rfl HXa.out (by have := HMK.out; omega) HLG.out ?_
              intro p2 c2 w6 h1 h3
              have HO6 := Lib.hid h1
              have HB6 := Lib.hid (show BufB w6 gb q.1 ⟨q.2.e, .slice pv2 m2 cv2⟩ from (h3.block gb (Nat.lt_succ_self _)).trans HBa.out)
              have HL6 := Lib.hid (HLa.out.trans (h3.mono (Nat.le_succ gb)))
              have HV6 := Lib.hid (HVa.out.trans (h3.mono (Nat.le_succ_of_le HGW.out)))
              have cb2 : w6.cell? ⟨gb, 6, none⟩ = some (.slice pv2 m2 cv2) := HB6.out.cells.2.2.2.2.2.2.1
              have fb2 : w6.frozen? ⟨gb, 6, none⟩ = false := by have := HB6.out; unfold BufB BoxA at this; simp [World.frozen?, this]
              clear h1 h3
              refine hK.out _ _ (by exact HS1.out _ HV6.out) (fun hHeld => ?_)
              clear hK K
              try simp only [Act.put, List.setIfInBounds_toArray, List.set_cons_zero, List.set_cons_succ]
              refine wpAnyH_take (i := 12) (v := ?_) (ata (atS (atS (atS (atS (atS (atS (atS (atS (atS (atS (atS (atS at0))))))))))))) (by kernel_rfl) (by kernel_rfl) (by kernel_rfl) (fun _ _ _ h => h) (Or.inl ⟨by rfl, ?_⟩) (by assumption) ?_
              rotate_left
              · (intro w hSw; (try dsimp only at hSw); go_simp; (first | done | with_reducible rfl))
              try simp only [Act.put, List.setIfInBounds_toArray, List.set_cons_zero, List.set_cons_succ]
              refine wpAnyH_ready (rs := [13]) (by kernel_rfl) (by simp) ?_
              refine AllReadyH.cons (ata (atS (atS (atS (atS (atS (atS (atS (atS (atS (atS (atS (atS (atS at0)))))))))))))) (fun K hK => ?_) AllReadyH.nil
              go_simp
              refine hK.out _ _ (by exact HS1.out _ (HV6.out.setCell HGW.out _)) (fun hHeld => ?_)
              clear hK K
              try simp only [Act.put, List.setIfInBounds_toArray, List.set_cons_zero, List.set_cons_succ]
              refine wpAnyH_done (by kernel_rfl) ?_ _
              go_wp2
              go_roundw
              case rel => exact ⟨k + 1, o ++ [x], _, by go_num, by omega, HU.out.add HX.out HXE.out HB6.out HO6.out HL6.out⟩
              case measure => simp [intOf]; omega
            · go_simp
              refine hK.out _ _ (by exact HS1.out _ HVa.out) (fun hHeld => ?_)
              clear hK K
              try simp only [Act.put, List.setIfInBounds_toArray, List.set_cons_zero, List.set_cons_succ]
              refine wpAnyH_ready (rs := [1]) (by kernel_rfl) (by simp) ?_
              refine AllReadyH.cons (ata (atS at0)) (fun K hK => ?_) AllReadyH.nil
              go_simp
              refine hK.out _ _ (by exact HS1.out _ HVa.out) (fun hHeld => ?_)
              clear hK K
              try simp only [Act.put, List.setIfInBounds_toArray, List.set_cons_zero, List.set_cons_succ]
              refine wpAnyH_ready (rs := [11]) (by kernel_rfl) (by simp) ?_
              refine AllReadyH.cons (ata (atS (atS (atS (atS (atS (atS (atS (atS (atS (atS (atS at0)))))))))))) (fun K hK => ?_) AllReadyH.nil
              refine wp_int _ _ rfl (base := gb + 1) (m := m2) HM2.out (v := .slice pv2 m2 cv2) rfl HOa.out rfl HXa.out (by have := HMK.out; omega) HLG.out ?_
              intro p2 c2 w6 h1 h3
              have HO6 := Lib.hid h1
              have HB6 := Lib.hid (show BufB w6 gb q.1 ⟨q.2.e, .slice pv2 m2 cv2⟩ from (h3.block gb (Nat.lt_succ_self _)).trans HBa.out)
              have HL6 := Lib.hid (HLa.out.trans (h3.mono (Nat.le_succ gb)))
              have HV6 := Lib.hid (HVa.out.trans (h3.mono (Nat.le_succ_of_le HGW.out)))
              have cb2 : w6.cell? ⟨gb, 6, none⟩ = some (.slice pv2 m2 cv2) := HB6.out.cells.2.2.2.2.2.2.1
              have fb2 : w6.frozen? ⟨gb, 6, none⟩ = false := by have := HB6.out; unfold BufB BoxA at this; simp [World.frozen?, this]
              clear h1 h3
              refine hK.out _ _ (by exact HS1.out _ HV6.out) (fun hHeld => ?_)
              clear hK K
              try simp only [Act.put, List.setIfInBounds_toArray, List.set_cons_zero, List.set_cons_succ]
              refine wpAnyH_take (i := 12) (v := ?_) (ata (atS (atS (atS (atS (atS (atS (atS (atS (atS (atS (atS (atS at0))))))))))))) (by kernel_rfl) (by kernel_rfl) (by kernel_rfl) (fun _ _ _ h => h) (Or.inl ⟨by rfl, ?_⟩) (by assumption) ?_
              rotate_left
              · (intro w hSw; (try dsimp only at hSw); go_simp; (first | done | with_reducible rfl))
              try simp only [Act.put, List.setIfInBounds_toArray, List.set_cons_zero, List.set_cons_succ]
              refine wpAnyH_ready (rs := [13]) (by kernel_rfl) (by simp) ?_
              refine AllReadyH.cons (ata (atS (atS (atS (atS (atS (atS (atS (atS (atS (atS (atS (atS (atS at0)))))))))))))) (fun K hK => ?_) AllReadyH.nil
              go_simp
              refine hK.out _ _ (by exact HS1.out _ (HV6.out.setCell HGW.out _)) (fun hHeld => ?_)
              clear hK K
              try simp only [Act.put, List.setIfInBounds_toArray, List.set_cons_zero, List.set_cons_succ]
              refine wpAnyH_done (by kernel_rfl) ?_ _
              go_wp2
              go_roundw
              case rel => exact ⟨k + 1, o ++ [x], _, by go_num, by omega, HU.out.add HX.out HXE.out HB6.out HO6.out HL6.out⟩
              case measure => simp [intOf]; omega
        · obtain rfl : k = nr := by omega
          have HOX := Lib.hid (show o = (unref job q.1).refs by
            have := HU.out.eq
            rw [← HNR.out, List.take_length] at this
            exact this)
          have HRB := Lib.hid (show RB wr (unref job q.1) ⟨q.2.e, .slice pv2 m2 cv2⟩ from ⟨(HQR.out _ HVi.out).e, by
            have := HU.out.row.ri
            rw [HOX.out] at this
            exact this⟩)
          have HAl := Lib.hid ((Below.refl _ wr).alloc (Nat.le_refl wr.heap.size) (.cells #[.int .i64 q.1.job, .string (str q.1.name), .string (str q.1.user), .string (str q.1.pool), .bool q.1.opn, q.2.e, .slice pv2 m2 cv2] 26))
          have HXa := Lib.hid (show BufB (wr.alloc (.cells #[.int .i64 q.1.job, .string (str q.1.name), .string (str q.1.user), .string (str q.1.pool), .bool q.1.opn, q.2.e, .slice pv2 m2 cv2] 26)) wr.heap.size (unref job q.1) ⟨q.2.e, .slice pv2 m2 cv2⟩ from BoxA.new _ _ _)
          have HY1 := Lib.hid (show Below w0.heap.size w0 (wr.alloc (.cells #[.int .i64 q.1.job, .string (str q.1.name), .string (str q.1.user), .string (str q.1.pool), .bool q.1.opn, q.2.e, .slice pv2 m2 cv2] 26)) from (show Below w0.heap.size w0 wr by rw [HGB.out]; exact HU.out.low).trans (HAl.out.mono (by rw [HGB.out]; exact Nat.le_of_lt lgb)))
          have HBa := Lib.hid (show base ≤ (wr.alloc (.cells #[.int .i64 q.1.job, .string (str q.1.name), .string (str q.1.user), .string (str q.1.pool), .bool q.1.opn, q.2.e, .slice pv2 m2 cv2] 26)).heap.size from Nat.le_trans HBW.out HY1.out.size)
          have HOr := Lib.hid (show OutI base (wr.alloc (.cells #[.int .i64 q.1.job, .string (str q.1.name), .string (str q.1.user), .string (str q.1.pool), .bool q.1.opn, q.2.e, .slice pv2 m2 cv2] 26)) (.slice pv2 m2 cv2) (unref job q.1).refs by
            have h1 := (ApC.mono (B := base) (show ApC (gb + 1) 2 1 wr _ o.length (ics o) from HU.out.row) (by have := HGB.out; have := HBW.out; omega))
            rw [HOX.out] at h1
            exact OutI.next (show OutI base wr _ _ from h1) HAl.out)
          clear hki
          go_wp2_with (first
            | (refine wpl_load_g (by rfl) _ _ rfl gb rfl _ _ _ _ (show BoxA wr gb 26 #[.int .i64 q.1.job, .string (str q.1.name), .string (str q.1.user), .string (str q.1.pool), .bool q.1.opn, q.2.e, .slice pv2 m2 cv2] from HU.out.box) Tryz.underlying26 rfl (by kernel_rfl) ?_)
            | (at_builtin; refine wpl_bufG rfl _ _ rfl (v := .slice _ _ _) HML.out rfl (HR.out.row.next HY1.out) rfl HXa.out (bcs_one HRB.out) (by have := HMI.out; omega) HBa.out ?_; intro pp cc w8 h1 h3; have HO8 := Lib.hid h1; have HG8 := Lib.hid h3; clear h1 h3))
          go_roundw
          case rel => exact ⟨i + 1, _, _, _, _, rfl, by go_num, by omega, (by simp [HML.out]), (by rw [HMI.out]), HR.out.put HQ.out HY1.out HBW.out HOr.out HG8.out HO8.out⟩
          case measure => simp [intOf]; omega
    · obtain rfl : i = n := by omega
      clear hin
      have hfin := HR.out
      have HEQ := Lib.hid (show M.map Prod.fst = (L.map Prod.fst).map (unref job) by
        have := hfin.eq
        rw [show i = (L.map Prod.fst).length by rw [List.length_map, HN.out], List.take_length] at this
        exact this)
      have HRB := Lib.hid (show RBs wr (.slice pv m cv) M from ⟨(show ApC base _ 7 wr _ M.length (bcl M) from .inr hfin.row).rdc, fun p hp => by
        obtain ⟨q, hq, e1, e2⟩ := hfin.e p hp
        exact ⟨by rw [e1, e2]; exact (HRL.out _ HV0.out q hq).e, (hfin.r p hp).ri⟩⟩)
      have HBI := Lib.hid (show BIs M from ⟨by rw [HML.out, HMI.out]; exact hn1, fun p hp => by
        obtain ⟨q, hq, e1, e2⟩ := hfin.e p hp
        rw [e2]
        exact bi_unref (HI.out.all q hq) job⟩)
      clear hfin
      go_wp2
      go_ret2
      exact ⟨_, M, by rw [HE.out]; rfl, by rw [HE.out]; exact HEQ.out, HRB.out, HBI.out, HV0.out⟩
end Go.Proofs.YtkjffoebcblpoaaGreat.gn
end
