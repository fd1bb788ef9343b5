/- The document's answers for buffers: Ref. (Written by gen_buK.py, ahead of the code.) -/
import Derived.Test.YtkjffoebcblpoaaGreatMBuJ
section
set_option linter.unusedVariables false
set_option linter.unusedSimpArgs false
namespace Go.Proofs.YtkjffoebcblpoaaGreat.gn
open Go.RowKit
open Go.Proofs.YtkjffoebcblpoaaGreat.bu (Bf May Valid place refS RefS insR jobOk)

/-! ### rows of numbers -/
def OutI (base : Nat) (W : World) (v : Value) (l : List Int) : Prop := ApC base 2 1 W v l.length (ics l)
theorem OutI.nil (base : Nat) (W : World) : OutI base W (.slice none 0 0) [] := .inl ⟨none, rfl, rfl, rfl⟩
theorem OutI.next {base : Nat} {W W' : World} {v : Value} {l : List Int} (h : OutI base W v l) (hb : Below W.heap.size W W') : OutI base W' v l := ApC.next h hb
theorem OutI.ri {base : Nat} {W : World} {v : Value} {l : List Int} (h : OutI base W v l) : RI W v l := h.rdc
/-- A number more. -/
theorem wpl_int {w : World} {ops : Array Oper} {rest : List Oper} {o : Oper} {a : Act} {Q : Exit → Act → World → Prop} (hgd : o.guard = none) (s x : Operand)
    (ho : o.op = .call { callee := .builtin .append, args := #[s, x], argTypes := #[24, 24] })
    {base : Nat} {v : Value} {l : List Int} {m : Nat} (hm : l.length = m) (hs : a.eval s = v) (ha : OutI base w v l) {k c : Nat} {n : Int} (hx : a.eval x = .slice (some ⟨k, 0, none⟩) 1 c) (hk : BoxA w k 2 #[.int .i64 n]) (hl : m ≤ 1000000) (hb : base ≤ w.heap.size)
    (h : ∀ p c w', OutI base w' (.slice p (m + 1) c) (l ++ [n]) → Below base w w' → wpList Tryz.prog ops Q rest (a.put o.dst (.slice p (m + 1) c)) w') :
    wpList Tryz.prog ops Q (o :: rest) a w := by
  subst hm
  refine wpl_ap eltI64 hgd s x ho hs ha hx (box_rdc hk) rfl (by simp [Value.oneCell']) (by unfold maxLen; omega) (by omega) hb fun p c w' h1 h2 h3 => h p c w' ?_ h3
  unfold OutI
  rw [List.length_append, show ics (l ++ [n]) = ics l ++ [.int .i64 n] by simp [ics]]
  exact h1
/-! ### one row's uses set -/
theorem bcl_set : ∀ (L : List (Bf × Gb)) (i : Nat) (q : Bf × Gb) (r : List Int) (v : Value), L[i]? = some q → bcl (L.set i (({ q.1 with refs := r } : Bf), (⟨q.2.e, v⟩ : Gb))) = (bcl L).set (i * 7 + 6) v
  | [], i, q, r, v, h => by simp at h
  | p :: L, 0, q, r, v, h => by
    obtain rfl : p = q := by simpa using h
    simp [bcl, bcs]
  | p :: L, i + 1, q, r, v, h => by
    have ih := bcl_set L i q r v (by simpa using h)
    rw [List.set_cons_succ]
    simp only [bcl]
    rw [ih, show (i + 1) * 7 + 6 = (bcs p.1 p.2).toList.length + (i * 7 + 6) by simp [bcs]; omega, List.set_append_right _ _ (by omega)]
    simp
/-- Where a told row lies. -/
theorem OutS.place {base : Nat} {W : World} {v : Value} {M : List (Bf × Gb)} (h : OutS base W v M) (h0 : M ≠ []) : ∃ g c cur, v = .slice (some ⟨g, 0, none⟩) M.length c ∧ base ≤ g ∧ W.heap[g]? = some (.cells cur 26 (0, 0)) ∧ M.length * 7 ≤ cur.size ∧ ∀ (j : Nat) (u : Value), (bcl M)[j]? = some u → cur[j]? = some u := by
  have hl := bcl_len M
  rcases h.row with ⟨p, rfl, hn, _⟩ | h
  · exact absurd (List.eq_nil_of_length_eq_zero hn) h0
  · have hc := fun g => World.ownsRow.cells h (g := g)
    obtain ⟨h1, ⟨_, h2⟩ | ⟨g, cap, cur, rfl, hb, hg, hle, hcm, hcs, htk⟩⟩ := h
    · exact absurd (List.eq_nil_of_length_eq_zero h2) h0
    · refine ⟨g, cap, cur, rfl, hb, hg, ?_, fun j u hu => ?_⟩
      · have : (M.length * 7) ≤ cap * 7 := Nat.mul_le_mul_right _ hle
        omega
      · have := hc g rfl j u hu
        rw [Addr.add_lit, Nat.zero_add] at this
        simpa [World.cell?, hg] using this
/-- A row of which one buffer's uses were set. -/
theorem rbs_set {W : World} {g c : Nat} {cur : Array Value} {M : List (Bf × Gb)} {i : Nat} {q : Bf × Gb} {r : List Int} {v : Value} (hq : M[i]? = some q) (hg : W.heap[g]? = some (.cells cur 26 (0, 0))) (hsz : M.length * 7 ≤ cur.size)
    (hcur : ∀ (j : Nat) (u : Value), (bcl M)[j]? = some u → cur[j]? = some u) (hr : ∀ p ∈ M.set i (({ q.1 with refs := r } : Bf), (⟨q.2.e, v⟩ : Gb)), RB (W.setCell ⟨g, i * 7 + 6, none⟩ v) p.1 p.2) :
    RBs (W.setCell ⟨g, i * 7 + 6, none⟩ v) (.slice (some ⟨g, 0, none⟩) M.length c) (M.set i (({ q.1 with refs := r } : Bf), (⟨q.2.e, v⟩ : Gb))) := by
  have hi := (List.getElem?_eq_some_iff.1 hq).1
  have hset := heap_setCell hg v (j := i * 7 + 6)
  refine ⟨.inr ⟨g, 0, c, by rw [List.length_set], (Array.getElem?_eq_some_iff.1 hset).1, fun j u hu => ?_⟩, hr⟩
  rw [bcl_set M i q r v hq] at hu
  rw [Nat.zero_add]
  have hcell : (cur.setIfInBounds (i * 7 + 6) v)[j]? = some u := by
    rw [List.getElem?_set] at hu
    by_cases hj : i * 7 + 6 = j
    · subst hj
      rw [if_pos rfl] at hu
      split at hu
      · rw [← Option.some.inj hu]
        rw [Array.getElem?_setIfInBounds_self]
        rw [if_pos (by omega)]
      · cases hu
    · rw [if_neg hj] at hu
      rw [Array.getElem?_setIfInBounds_ne hj]
      exact hcur j u hu
  simp [World.cell?, hset, hcell]
/-- Where Ref stands. -/
structure RefW (br : List Int) (job : Int) (base : Nat) (W : World) (k : Nat) (done : Bool) (out : List Int) (v : Value) (Y : World) : Prop where
  st : RefS br job k out done
  row : OutI base Y v out
  low : Below base W Y
  len : out.length ≤ k + 1
theorem low_cell {B : Nat} {a w : World} (h : Below B a w) {k j : Nat} (hk : k < B) : w.cell? ⟨k, j, none⟩ = a.cell? ⟨k, j, none⟩ := Below.cell (p := ⟨k, j, none⟩) h hk
set_option maxRecDepth 100000 in
set_option maxHeartbeats 16000000 in
theorem dRef_any {w : World} {v : Value} {L : List (Bf × Gb)} (h : RBs w v L) (hI : BIs L) (name user : List UInt8) (job : Int) (hjb : -9223372036854775808 ≤ job ∧ job ≤ 9223372036854775807) :
    Calls Tryz.prog 15 #[v, .string (str name), .string (str user), .int .i64 job] w (RowT w (refS (L.map Prod.fst) name user job).1 (refS (L.map Prod.fst) name user job).2) := by
  have HCH := Lib.hid (fun (Y : World) (hy : Below w.heap.size w Y) => dCheckB_any (h.next hy) hI)
  have HPL := Lib.hid (fun (Y : World) (hy : Below w.heap.size w Y) => dplace_any (h.next hy) hI.len 0 name)
  have HRL := Lib.hid (fun (Y : World) (hy : Below w.heap.size w Y) => (h.next hy).rows)
  have HRS := Lib.hid (fun (Y : World) (hy : Below w.heap.size w Y) => h.next hy)
  have HJB := Lib.hid (fun Y => dJob_any job Y)
  obtain ⟨p, c, rfl, f⟩ := h.form
  obtain ⟨n, hn⟩ : ∃ n, L.length = n := ⟨_, rfl⟩
  rw [hn] at HCH HPL HRS
  rw [hn]
  have HF := Lib.hid f
  have HN := Lib.hid hn
  have HI := Lib.hid hI
  have hn1 : n ≤ 140737488355328 := by rw [← hn]; exact hI.len
  obtain ⟨j1, j2⟩ := hjb
  clear h hI f hn
  by_cases hV : Valid (L.map Prod.fst)
  rotate_left
  · have HR := Lib.hid (show refS (L.map Prod.fst) name user job = ([], 170) by unfold refS; rw [if_pos (fun hh => hV hh.1)])
    rw [vE_no hV] at HCH
    clear hV
    go_enter Tryz.func15, Tryz.ntmps15
    go_wp2_with (go_at_call 12; ((with_reducible refine (HCH.out _ (Below.refl _ _)).mono ?_); rintro e w5 ⟨rfl, hb⟩); have A5 := Lib.hid hb; clear hb)
    go_ret2
    rw [HR.out]
    exact rowT_no A5.out
  rw [show vE (L.map Prod.fst) = 0 from if_pos hV] at HCH
  by_cases hjo : jobOk job
  rotate_left
  · have HR := Lib.hid (show refS (L.map Prod.fst) name user job = ([], 170) by unfold refS; rw [if_pos (fun hh => hjo hh.2)])
    rw [decide_eq_false hjo] at HJB
    clear hV hjo
    go_enter Tryz.func15, Tryz.ntmps15
    go_wp2_with (first
      | (go_at_call 12; ((with_reducible refine (HCH.out _ (Below.refl _ _)).mono ?_); rintro e w5 ⟨rfl, hb⟩); have A5 := Lib.hid hb; clear hb)
      | (go_at_call 49; ((with_reducible refine (HJB.out _).mono ?_); rintro e w6 ⟨rfl, rfl⟩)))
    go_ret2
    rw [HR.out]
    exact rowT_no A5.out
  rw [decide_eq_true hjo] at HJB
  have HAS := Lib.hid (show refS (L.map Prod.fst) name user job = match place (L.map Prod.fst) 0 name with
    | none => ([], 7)
    | some i => match (L.map Prod.fst)[i]? with
      | none => ([], 7)
      | some b => if b.opn = false ∧ b.user ≠ user then ([], 171) else if job ∈ b.refs then ([], 8) else if b.refs.length = 200 then ([], 6)
        else ((L.map Prod.fst).set i { b with refs := insR job b.refs }, 0) by unfold refS; rw [if_neg (not_not_intro ⟨hV, hjo⟩)]; all_goals rfl)
  cases hpl : place (L.map Prod.fst) 0 name with
  | none =>
    have HR := Lib.hid (show refS (L.map Prod.fst) name user job = ([], 7) by rw [HAS.out, hpl])
    rw [hpl] at HPL
    unfold pI at HPL
    dsimp only at HPL
    clear hV hjo hpl
    go_enter Tryz.func15, Tryz.ntmps15
    go_wp2_with (first
      | (go_at_call 12; ((with_reducible refine (HCH.out _ (Below.refl _ _)).mono ?_); rintro e w5 ⟨rfl, hb⟩); have A5 := Lib.hid hb; clear hb)
      | (go_at_call 49; ((with_reducible refine (HJB.out _).mono ?_); rintro e w6 ⟨rfl, rfl⟩))
      | (go_at_call 38; ((with_reducible refine (HPL.out _ A5.out).mono ?_); rintro e w4 ⟨rfl, rfl⟩)))
    go_ret2
    rw [HR.out]
    exact rowT_no A5.out
  | some i =>
    obtain ⟨b0, hb0, hb1, -, hi⟩ := bu.place_some hpl
    rw [List.length_map, HN.out] at hi
    obtain ⟨q, hq⟩ : ∃ q, L[i]? = some q := ⟨_, List.getElem?_eq_getElem (by rw [HN.out]; exact hi)⟩
    have hqj : q.1.job = 0 := by
      have := fst_at hq
      rw [hb0] at this
      rw [← Option.some.inj this]
      exact hb1
    have HAT := Lib.hid (show refS (L.map Prod.fst) name user job = if q.1.opn = false ∧ q.1.user ≠ user then ([], 171) else if job ∈ q.1.refs then ([], 8) else if q.1.refs.length = 200 then ([], 6)
        else ((L.map Prod.fst).set i { q.1 with refs := insR job q.1.refs }, 0) by rw [HAS.out, hpl]; dsimp only; rw [fst_at hq])
    have hn2 : n ≤ 200 := by have := hV.1; rw [List.length_map, HN.out] at this; exact this
    have hmq : May q.1 := hV.2.1 q.1 (List.mem_of_getElem? (fst_at hq))
    have hr200 : q.1.refs.length ≤ 200 := (hmq.2.2.2.2.2 hqj).2.1
    obtain ⟨kb, off, rfl, hk, hc⟩ := BC.of (HF.out (ne_of_at hq))
    have HC := Lib.hid (fun (Y : World) (hy : Below w.heap.size w Y) => (show BC L kb off Y from hc.next hk hy))
    have HK := Lib.hid hk
    have HQ := Lib.hid hq
    rw [hpl] at HPL
    unfold pI at HPL
    dsimp only at HPL
    have d0 : decide ((i : Int) < 0) = false := decide_eq_false (by omega)
    have HQR := Lib.hid (fun (Y : World) (hy : Below w.heap.size w Y) => HRL.out Y hy q (List.mem_of_getElem? hq))
    have HQI := Lib.hid (HI.out.all q (List.mem_of_getElem? hq))
    clear hV hjo hpl hb0 hb1 hq hk hc HF HAS hmq hqj
    obtain ⟨⟨bj, bn, bu_, bp, bo, be, br⟩, ge, gr⟩ := q
    dsimp only at *
    obtain ⟨pr, cr, hgr, hfr⟩ := (HQR.out w (Below.refl _ _)).r.form
    dsimp only at hgr hfr
    subst hgr
    obtain ⟨nr, hnr⟩ : ∃ n, br.length = n := ⟨_, rfl⟩
    rw [hnr] at HQ HQR HAT hr200
    have HFR := Lib.hid hfr
    have HNR := Lib.hid hnr
    clear hfr hnr
    go_enter Tryz.func15, Tryz.ntmps15
    go_upto_region 6 with (first
      | (go_at_call 12; ((with_reducible refine (HCH.out _ (Below.refl _ _)).mono ?_); rintro e w5 ⟨rfl, hb⟩); have A5 := Lib.hid hb; clear hb)
      | (go_at_call 49; ((with_reducible refine (HJB.out _).mono ?_); rintro e w6 ⟨rfl, rfl⟩))
      | (go_at_call 38; ((with_reducible refine (HPL.out _ A5.out).mono ?_); rintro e w4 ⟨rfl, rfl⟩)))
    clear HCH HPL HJB d0
    have lkb : kb < w5.heap.size := Nat.lt_of_lt_of_le HK.out A5.out.size
    go_upto_region 7 with (first
      | (refine wpList_load_mid rfl _ _ rfl kb (off + i * 7) rfl [.int .i64 bj, .string (str bn), .string (str bu_), .string (str bp), .bool bo, ge, .slice pr nr cr] _ (HC.out _ A5.out i _ HQ.out) Tryz.underlying26 rfl (by kernel_rfl) ?_)
      | (refine wpList_store_row rfl _ _ _ rfl w5.heap.size (bcs (⟨bj, bn, bu_, bp, bo, be, br⟩ : Bf) (⟨ge, .slice pr nr cr⟩ : Gb)) rfl rfl _ _ (BoxA.new w5 _ _) (by kernel_rfl) rfl (bcs_all (HQR.out _ A5.out)) ?_))
    obtain ⟨W, hW, hkW, hbW⟩ := box_endB w5 #[.int .i64 0, .string { data := #[] }, .string { data := #[] }, .string { data := #[] }, .bool false, .slice none 0 0, .slice none 0 0] (bcs (⟨bj, bn, bu_, bp, bo, be, br⟩ : Bf) (⟨ge, .slice pr nr cr⟩ : Gb)) 26
    rw [hW]
    have AW := Lib.hid (A5.out.trans (hbW.mono A5.out.size))
    have hg0 : w5.heap.size < W.heap.size := BoxA.lt hkW
    obtain ⟨gb, hgb⟩ : ∃ gb, w5.heap.size = gb := ⟨_, rfl⟩
    rw [hgb] at hkW hg0 ⊢
    have HKB := Lib.hid (fun (Y : World) (hy : Below W.heap.size W Y) => (show BufB Y gb (⟨bj, bn, bu_, bp, bo, be, br⟩ : Bf) (⟨ge, .slice pr nr cr⟩ : Gb) from BoxA.next hkW hy))
    obtain ⟨base, hbase⟩ : ∃ base, W.heap.size = base := ⟨_, rfl⟩
    have HBS := Lib.hid hbase
    have HGB := Lib.hid hg0
    have HLW := Lib.hid (fun (Y : World) (hy : Below base W Y) => (show Below w.heap.size w Y from AW.out.trans (hy.mono (by rw [← HBS.out]; exact AW.out.size))))
    obtain ⟨c0, c1, c2, c3, c4, c5, c6, clt⟩ := (HKB.out _ (Below.refl _ _)).cells
    rw [hbase] at HKB
    clear hW hkW hbW hbase hg0 hgb c0 c1 c3 c5 lkb A5
    try simp only [Act.put]
    go_cut [41] (fun s41 wx => s41 = .bool (!bo && decide (bu_ ≠ user)) ∧ wx = W)
    case first =>
      clear c6 hr200
      cases bo with
      | true =>
        go_wp2
        go_meet
        case rel => exact ⟨rfl, rfl⟩
      | false =>
        by_cases hu : bu_ = user
        · have q1 : ((str bu_).toList == (str user).toList) = true := by rw [str_toList, str_toList, beq_iff_eq]; exact hu
          have q2 : (str bu_).toList = (str user).toList := by rw [hu]
          have q3 : decide (bu_ ≠ user) = false := decide_eq_false (fun hh => hh hu)
          clear hu
          go_wp2
          go_meet
          case rel => exact ⟨by rw [q3]; rfl, rfl⟩
        · have q1 : ((str bu_).toList == (str user).toList) = false := by rw [str_toList, str_toList, beq_eq_false_iff_ne]; exact hu
          have q2 : ¬ (str bu_).toList = (str user).toList := by rw [str_toList, str_toList]; exact hu
          have q3 : decide (bu_ ≠ user) = true := decide_eq_true hu
          clear hu
          go_wp2
          go_meet
          case rel => exact ⟨by rw [q3]; rfl, rfl⟩
    case rest =>
    obtain ⟨rfl, rfl⟩ := hcut
    obtain ⟨tt, htt⟩ : ∃ tt, (!bo && decide (bu_ ≠ user)) = tt := ⟨_, rfl⟩
    rw [htt]
    cases tt with
    | true =>
      have HR := Lib.hid (show refS (L.map Prod.fst) name user job = ([], 171) by
        rw [HAT.out, if_pos]
        rw [Bool.and_eq_true, Bool.not_eq_true', decide_eq_true_eq] at htt
        exact htt)
      clear htt
      go_wp2
      go_ret2
      rw [HR.out]
      exact rowT_no AW.out
    | false =>
      have HAU := Lib.hid (show refS (L.map Prod.fst) name user job = if job ∈ br then ([], 8) else if nr = 200 then ([], 6) else ((L.map Prod.fst).set i { (⟨bj, bn, bu_, bp, bo, be, br⟩ : Bf) with refs := insR job br }, 0) by
        rw [HAT.out, if_neg]
        intro hh
        rw [hh.1, decide_eq_true hh.2] at htt
        cases htt)
      clear htt HAT c2 c4 c6 clt
      obtain ⟨W0, hW0⟩ : ∃ W0, W0 = wc := ⟨_, rfl⟩
      subst hW0
      go_upto_region 12 with fail
      go_loopw [12, 13, 14] (fun s12 s13 s14 wr => ∃ (k : Nat) (done : Bool) (out : List Int) (pv : Option Addr) (m cv : Nat), s12 = .slice pv m cv ∧ s13 = .bool done ∧ s14 = .int .i64 (k : Nat) ∧ k ≤ nr ∧ Aside (out.length = m ∧ RefW br job base W0 k done out (.slice pv m cv) wr)) (fun _ _ s14 _ => nr - (intOf s14).toNat)
      case atStart => exact ⟨0, false, [], none, 0, 0, rfl, rfl, rfl, Nat.zero_le _, rfl, RefS.zero _ _, OutI.nil _ _, Below.refl _ _, Nat.zero_le _⟩
      case round =>
        obtain ⟨k, done, out, pv, m, cv, rfl, rfl, rfl, hk, hrow⟩ := hrel
        have HML := Lib.hid (show out.length = m from hrow.1)
        have HR := Lib.hid (show RefW br job base W0 k done out (.slice pv m cv) wr from hrow.2)
        have HV0 := Lib.hid (show Below base W0 wr from HR.out.low)
        clear hrow
        have HMB := Lib.hid (show m ≤ 300 by rw [← HML.out]; have := HR.out.len; omega)
        have HBW := Lib.hid (show base ≤ wr.heap.size by rw [← HBS.out]; exact HV0.out.size)
        obtain ⟨c0, c1, c2, c3, c4, c5, c6, clt⟩ := (HKB.out _ HV0.out).cells
        clear c0 c1 c2 c3 c4 c5
        by_cases hin : k < nr
        · obtain ⟨x, hx⟩ : ∃ x, br[k]? = some x := ⟨_, List.getElem?_eq_getElem (by rw [HNR.out]; exact hin)⟩
          obtain ⟨kr, orr, rfl, hkr, hcr⟩ := HFR.out (ne_of_at hx)
          have HX := Lib.hid hx
          have HXC := Lib.hid (fun (Y : World) (hy : Below base W0 Y) => (show Y.cell? ⟨kr, orr + k, none⟩ = some (.int .i64 x) ∧ kr < Y.heap.size from ⟨(low_cell (HLW.out _ hy) hkr).trans (hcr k x hx), Nat.lt_of_lt_of_le hkr (HLW.out _ hy).size⟩))
          obtain ⟨cx, lx⟩ := HXC.out _ HV0.out
          have HXI := Lib.hid (HQI.out.refs x (List.mem_of_getElem? hx))
          clear hx hkr hcr
          by_cases hxe : x = job
          · have HE := Lib.hid (show refS (L.map Prod.fst) name user job = ([], 8) by rw [HAU.out, if_pos]; rw [← hxe]; exact List.mem_of_getElem? HX.out)
            have d1 : (x == job) = true := by rw [beq_iff_eq]; exact hxe
            clear hxe
            go_wp2
            go_ret2
            rw [HE.out]
            exact rowT_no (HLW.out _ HV0.out)
          · have HNE := Lib.hid hxe
            have d1 : (x == job) = false := by rw [beq_eq_false_iff_ne]; exact hxe
            clear hxe
            go_upto_region 16 with fail
            go_cut [66] (fun s66 wx => s66 = .bool (!done && decide (job < x)) ∧ wx = wr)
            case first =>
              cases done with
              | true =>
                go_wp2
                go_meet
                case rel => exact ⟨rfl, rfl⟩
              | false =>
                obtain ⟨lb, hlb⟩ : ∃ lb, decide (job < x) = lb := ⟨_, rfl⟩
                have HLB := Lib.hid hlb
                go_wp2
                go_meet
                case rel => exact ⟨by first | rfl | (rw [HLB.out]; rfl), rfl⟩
            case rest =>
            obtain ⟨rfl, rfl⟩ := hcut
            obtain ⟨tt, htt⟩ : ∃ tt, (!done && decide (job < x)) = tt := ⟨_, rfl⟩
            rw [htt]
            have HTT := Lib.hid htt
            clear htt
            cases tt with
            | true =>
              have hdn : done = false ∧ job < x := by
                have := HTT.out
                rw [Bool.and_eq_true, Bool.not_eq_true', decide_eq_true_eq] at this
                exact this
              have HDN := Lib.hid hdn
              clear hdn
              have HXw6 := Lib.hid (show BoxA (wc.alloc (.cells #[.int .i64 job] 2)) wc.heap.size 2 #[.int .i64 job] from BoxA.new _ _ _)
              have HXWw6 := Lib.hid ((Below.refl _ wc).alloc (Nat.le_refl wc.heap.size) (.cells #[.int .i64 job] 2))
              go_upto_region 19 with (at_builtin; refine wpl_int rfl _ _ rfl (v := .slice _ _ _) HML.out rfl (HR.out.row.next HXWw6.out) rfl HXw6.out (by have := HMB.out; omega) (Nat.le_trans HBW.out HXWw6.out.size) ?_; intro pp cc w6 h1 h3; have HOw6 := Lib.hid h1; have HVw6 := Lib.hid (show Below base W0 w6 from (HV0.out.trans (HXWw6.out.mono HBW.out)).trans h3); clear h1 h3)
              have HB6 := Lib.hid (show base ≤ w6.heap.size by rw [← HBS.out]; exact HVw6.out.size)
              have HM6 := Lib.hid (show (out ++ [job]).length = m + 1 by simp [HML.out])
              obtain ⟨c0, c1, c2, c3, c4, c5, c6', clt'⟩ := (HKB.out _ HVw6.out).cells
              obtain ⟨cx', lx'⟩ := HXC.out _ HVw6.out
              clear c0 c1 c2 c3 c4 c5
              have HXw7 := Lib.hid (show BoxA (w6.alloc (.cells #[.int .i64 x] 2)) w6.heap.size 2 #[.int .i64 x] from BoxA.new _ _ _)
              have HXWw7 := Lib.hid ((Below.refl _ w6).alloc (Nat.le_refl w6.heap.size) (.cells #[.int .i64 x] 2))
              go_wp2_with (at_builtin; refine wpl_int rfl _ _ rfl (v := .slice _ _ _) HM6.out rfl (HOw6.out.next HXWw7.out) rfl HXw7.out (by have := HMB.out; omega) (Nat.le_trans HB6.out HXWw7.out.size) ?_; intro pp cc w7 h1 h3; have HOw7 := Lib.hid h1; have HVw7 := Lib.hid (show Below base W0 w7 from (HVw6.out.trans (HXWw7.out.mono HB6.out)).trans h3); clear h1 h3)
              go_roundw
              case rel => exact ⟨k + 1, true, out ++ [job] ++ [x], _, _, _, rfl, rfl, by go_num, by omega, (by simp [HML.out]), (by
                  have hst := HR.out.st
                  rw [HDN.out.1] at hst
                  exact hst.new HX.out HDN.out.2), HOw7.out, HVw7.out, (by have h9 := congrArg List.length (HR.out.st.2.2 HDN.out.1).1; rw [List.length_take] at h9; simp; omega)⟩
              case measure => simp [intOf]; omega
            | false =>
              have HXw7 := Lib.hid (show BoxA (wc.alloc (.cells #[.int .i64 x] 2)) wc.heap.size 2 #[.int .i64 x] from BoxA.new _ _ _)
              have HXWw7 := Lib.hid ((Below.refl _ wc).alloc (Nat.le_refl wc.heap.size) (.cells #[.int .i64 x] 2))
              go_wp2_with (at_builtin; refine wpl_int rfl _ _ rfl (v := .slice _ _ _) HML.out rfl (HR.out.row.next HXWw7.out) rfl HXw7.out (by have := HMB.out; omega) (Nat.le_trans HBW.out HXWw7.out.size) ?_; intro pp cc w7 h1 h3; have HOw7 := Lib.hid h1; have HVw7 := Lib.hid (show Below base W0 w7 from (HV0.out.trans (HXWw7.out.mono HBW.out)).trans h3); clear h1 h3)
              go_roundw
              case rel => exact ⟨k + 1, done, out ++ [x], _, _, _, rfl, rfl, by go_num, by omega, (by simp [HML.out]), (by
                  refine HR.out.st.old HX.out HNE.out ?_
                  have := HTT.out
                  rw [Bool.and_eq_false_iff, Bool.not_eq_false', decide_eq_false_iff_not] at this
                  exact this), HOw7.out, HVw7.out, (by have := HR.out.len; simp; omega)⟩
              case measure => simp [intOf]; omega
        · obtain rfl : k = nr := by omega
          have HST := Lib.hid (show job ∉ br ∧ (done = true → out = insR job br) ∧ (done = false → out ++ [job] = insR job br) by
            have hst := HR.out.st
            rw [← HNR.out] at hst
            exact hst.fin)
          have HAV := Lib.hid (show refS (L.map Prod.fst) name user job = if k = 200 then ([], 6) else ((L.map Prod.fst).set i { (⟨bj, bn, bu_, bp, bo, be, br⟩ : Bf) with refs := insR job br }, 0) by rw [HAU.out, if_neg HST.out.1])
          have HIL := Lib.hid (bu.insR_len job br)
          clear HAU hin hk
          cases done with
          | true =>
            have HOt := Lib.hid (show OutI base wr (.slice pv m cv) (insR job br) by rw [← HST.out.2.1 (by trivial)]; exact HR.out.row)
            have HMM := Lib.hid (show m = k + 1 by rw [← HML.out, HST.out.2.1 (by trivial), HIL.out, HNR.out])
            have HBt := Lib.hid (show base ≤ wr.heap.size by rw [← HBS.out]; exact HV0.out.size)
            by_cases h200 : k = 200
            · have HE := Lib.hid (show refS (L.map Prod.fst) name user job = ([], 6) by rw [HAV.out, if_pos h200])
              have d2 : decide ((200 : Int) < (m : Int)) = true := decide_eq_true (by have := HMM.out; omega)
              have d3 : 200 < m := by have := HMM.out; omega
              clear h200
              go_wp2
              go_ret2
              rw [HE.out]
              exact rowT_no (HLW.out _ HV0.out)
            · have HE := Lib.hid (show refS (L.map Prod.fst) name user job = ((L.map Prod.fst).set i { (⟨bj, bn, bu_, bp, bo, be, br⟩ : Bf) with refs := insR job br }, 0) by rw [HAV.out, if_neg h200])
              have d2 : decide ((200 : Int) < (m : Int)) = false := decide_eq_false (by have := HMM.out; have := hr200; omega)
              have d3 : ¬ 200 < m := by have := HMM.out; have := hr200; omega
              clear h200
              go_upto_region 26 with (at_builtin; refine wpl_bufs rfl _ _ rfl (M := []) (m := 0) rfl HN.out rfl (OutS.nil wr.heap.size _) rfl (HRS.out _ (HLW.out _ HV0.out)) (by omega) (Nat.le_refl _) ?_; intro pp9 cc9 w9 h1 h3; have HO9 := Lib.hid h1; have HV9 := Lib.hid h3; clear h1 h3)
              rw [List.nil_append, Nat.zero_add] at HO9
              try rw [Nat.zero_add]
              obtain ⟨g, c9, cur, hv9, hbg, hg9, hsz9, hcur9⟩ := HO9.out.place (ne_of_at HQ.out)
              injection hv9 with e1 e2 e3
              subst e1 e3
              clear e2
              have hcu : cur[i * 7 + 6]? = some (.slice pr k cr) := hcur9 _ _ (bcl_at L i _ HQ.out 6 _ (by omega) rfl)
              have hc9 : w9.cell? ⟨g, i * 7 + 6, none⟩ = some (.slice pr k cr) := by simp [World.cell?, hg9, hcu]
              have hf9 : w9.frozen? ⟨g, i * 7 + 6, none⟩ = false := by simp [World.frozen?, hg9]
              have lg9 : g < w9.heap.size := (Array.getElem?_eq_some_iff.1 hg9).1
              have HBG := Lib.hid hbg
              have HG9 := Lib.hid hg9
              have HSZ9 := Lib.hid hsz9
              have HCU9 := Lib.hid hcur9
              clear hbg hg9 hsz9 hcur9 hcu
              go_wp2
              go_ret2
              have hF9 : Below wr.heap.size wr (w9.setCell ⟨g, i * 7 + 6, none⟩ (.slice pv m cv)) := HV9.out.setCell HBG.out _
              have hfin := HLW.out _ (HV0.out.trans (hF9.mono HBt.out))
              have hmm9 : ∀ p ∈ L.set i (({ (⟨bj, bn, bu_, bp, bo, be, br⟩ : Bf) with refs := insR job br } : Bf), (⟨ge, .slice pv m cv⟩ : Gb)), p ∈ L ∨ p = (({ (⟨bj, bn, bu_, bp, bo, be, br⟩ : Bf) with refs := insR job br } : Bf), (⟨ge, .slice pv m cv⟩ : Gb)) := fun p hp => List.mem_or_eq_of_mem_set hp
              have hro := rbs_set (c := cc9) (r := insR job br) (v := .slice pv m cv) HQ.out HG9.out HSZ9.out HCU9.out (fun p hp => by
                rcases hmm9 p hp with hp | rfl
                · exact HRL.out _ hfin p hp
                · exact ⟨(HQR.out _ hfin).e, (HOt.out.ri).next hF9⟩)
              rw [HN.out] at hro
              refine ⟨_, _, by rw [HE.out]; rfl, by rw [HE.out, List.map_set], hro, ⟨by rw [List.length_set]; exact HI.out.len, fun p hp => ?_⟩, hfin⟩
              rcases hmm9 p hp with hp | rfl
              · exact HI.out.all p hp
              · refine ⟨HQI.out.job, HQI.out.exts, fun r hr => ?_, HQI.out.le, ?_, HQI.out.ln, HQI.out.lu, HQI.out.lp⟩
                · rcases bu.insR_mem.1 hr with rfl | hr
                  · exact ⟨j1, j2⟩
                  · exact HQI.out.refs r hr
                · show (insR job br).length ≤ _
                  rw [HIL.out, HNR.out]
                  omega
          | false =>
            have HXw8 := Lib.hid (show BoxA (wr.alloc (.cells #[.int .i64 job] 2)) wr.heap.size 2 #[.int .i64 job] from BoxA.new _ _ _)
            have HXWw8 := Lib.hid ((Below.refl _ wr).alloc (Nat.le_refl wr.heap.size) (.cells #[.int .i64 job] 2))
            go_upto_region 22 with (at_builtin; refine wpl_int rfl _ _ rfl (v := .slice _ _ _) HML.out rfl (HR.out.row.next HXWw8.out) rfl HXw8.out (by have := HMB.out; omega) (Nat.le_trans HBW.out HXWw8.out.size) ?_; intro pp cc w8 h1 h3; have HOw8 := Lib.hid h1; have HVw8 := Lib.hid (show Below base W0 w8 from (HV0.out.trans (HXWw8.out.mono HBW.out)).trans h3); clear h1 h3)
            obtain ⟨mm, hmm⟩ : ∃ mm, m + 1 = mm := ⟨_, rfl⟩
            rw [hmm] at HOw8 ⊢
            have HOt := Lib.hid (show OutI base w8 (.slice pp mm cc) (insR job br) by rw [← HST.out.2.2 (by trivial)]; exact HOw8.out)
            have HMM := Lib.hid (show mm = k + 1 by rw [← hmm, ← HML.out, ← HNR.out, ← HIL.out, ← HST.out.2.2 (by trivial)]; simp)
            clear hmm
            have HBt := Lib.hid (show base ≤ w8.heap.size by rw [← HBS.out]; exact HVw8.out.size)
            by_cases h200 : k = 200
            · have HE := Lib.hid (show refS (L.map Prod.fst) name user job = ([], 6) by rw [HAV.out, if_pos h200])
              have d2 : decide ((200 : Int) < (mm : Int)) = true := decide_eq_true (by have := HMM.out; omega)
              have d3 : 200 < mm := by have := HMM.out; omega
              clear h200
              go_wp2
              go_ret2
              rw [HE.out]
              exact rowT_no (HLW.out _ HVw8.out)
            · have HE := Lib.hid (show refS (L.map Prod.fst) name user job = ((L.map Prod.fst).set i { (⟨bj, bn, bu_, bp, bo, be, br⟩ : Bf) with refs := insR job br }, 0) by rw [HAV.out, if_neg h200])
              have d2 : decide ((200 : Int) < (mm : Int)) = false := decide_eq_false (by have := HMM.out; have := hr200; omega)
              have d3 : ¬ 200 < mm := by have := HMM.out; have := hr200; omega
              clear h200
              go_upto_region 26 with (at_builtin; refine wpl_bufs rfl _ _ rfl (M := []) (m := 0) rfl HN.out rfl (OutS.nil w8.heap.size _) rfl (HRS.out _ (HLW.out _ HVw8.out)) (by omega) (Nat.le_refl _) ?_; intro pp9 cc9 w9 h1 h3; have HO9 := Lib.hid h1; have HV9 := Lib.hid h3; clear h1 h3)
              rw [List.nil_append, Nat.zero_add] at HO9
              try rw [Nat.zero_add]
              obtain ⟨g, c9, cur, hv9, hbg, hg9, hsz9, hcur9⟩ := HO9.out.place (ne_of_at HQ.out)
              injection hv9 with e1 e2 e3
              subst e1 e3
              clear e2
              have hcu : cur[i * 7 + 6]? = some (.slice pr k cr) := hcur9 _ _ (bcl_at L i _ HQ.out 6 _ (by omega) rfl)
              have hc9 : w9.cell? ⟨g, i * 7 + 6, none⟩ = some (.slice pr k cr) := by simp [World.cell?, hg9, hcu]
              have hf9 : w9.frozen? ⟨g, i * 7 + 6, none⟩ = false := by simp [World.frozen?, hg9]
              have lg9 : g < w9.heap.size := (Array.getElem?_eq_some_iff.1 hg9).1
              have HBG := Lib.hid hbg
              have HG9 := Lib.hid hg9
              have HSZ9 := Lib.hid hsz9
              have HCU9 := Lib.hid hcur9
              clear hbg hg9 hsz9 hcur9 hcu
              go_wp2
              go_ret2
              have hF9 : Below w8.heap.size w8 (w9.setCell ⟨g, i * 7 + 6, none⟩ (.slice pp mm cc)) := HV9.out.setCell HBG.out _
              have hfin := HLW.out _ (HVw8.out.trans (hF9.mono HBt.out))
              have hmm9 : ∀ p ∈ L.set i (({ (⟨bj, bn, bu_, bp, bo, be, br⟩ : Bf) with refs := insR job br } : Bf), (⟨ge, .slice pp mm cc⟩ : Gb)), p ∈ L ∨ p = (({ (⟨bj, bn, bu_, bp, bo, be, br⟩ : Bf) with refs := insR job br } : Bf), (⟨ge, .slice pp mm cc⟩ : Gb)) := fun p hp => List.mem_or_eq_of_mem_set hp
              have hro := rbs_set (c := cc9) (r := insR job br) (v := .slice pp mm cc) HQ.out HG9.out HSZ9.out HCU9.out (fun p hp => by
                rcases hmm9 p hp with hp | rfl
                · exact HRL.out _ hfin p hp
                · exact ⟨(HQR.out _ hfin).e, (HOt.out.ri).next hF9⟩)
              rw [HN.out] at hro
              refine ⟨_, _, by rw [HE.out]; rfl, by rw [HE.out, List.map_set], hro, ⟨by rw [List.length_set]; exact HI.out.len, fun p hp => ?_⟩, hfin⟩
              rcases hmm9 p hp with hp | rfl
              · exact HI.out.all p hp
              · refine ⟨HQI.out.job, HQI.out.exts, fun r hr => ?_, HQI.out.le, ?_, HQI.out.ln, HQI.out.lu, HQI.out.lp⟩
                · rcases bu.insR_mem.1 hr with rfl | hr
                  · exact ⟨j1, j2⟩
                  · exact HQI.out.refs r hr
                · show (insR job br).length ≤ _
                  rw [HIL.out, HNR.out]
                  omega
end Go.Proofs.YtkjffoebcblpoaaGreat.gn
end
