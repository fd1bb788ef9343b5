/- The document's answers for buffers: Drop, Free. (Written by gen_buJ.py, ahead of the code.) -/
import Derived.Test.YtkjffoebcblpoaaGreatMBuI
section
set_option linter.unusedVariables false
set_option linter.unusedSimpArgs false
namespace Go.Proofs.YtkjffoebcblpoaaGreat.gn
open Go.RowKit
open Go.Proofs.YtkjffoebcblpoaaGreat.bu (Bf May Valid place dropS freeS jobOk)

/-- What Drop and Free tell. -/
def DropT (w : World) (L : List (Bf × Gb)) (l : List Bf) (b : Bf) (E : Int) (en : Ending) (w' : World) : Prop := ∃ v M g, en = .returned (.tuple #[v, bV b g, .int .i64 E]) ∧ M.map Prod.fst = l ∧ OutS w.heap.size w' v M ∧ (∀ p ∈ M, p ∈ L) ∧ BIs M ∧ ((b, g) ∈ L ∨ (b = Bf.zero ∧ g = gZ)) ∧ BI b ∧ Below w.heap.size w w'
theorem dropT_no {w W : World} {L : List (Bf × Gb)} {E : Int} (hb : Below w.heap.size w W) : DropT w L [] Bf.zero E (.returned (.tuple #[.slice none 0 0, .agg #[.int .i64 0, .string { data := #[] }, .string { data := #[] }, .string { data := #[] }, .bool false, .slice none 0 0, .slice none 0 0], .int .i64 E])) W := ⟨_, [], gZ, rfl, rfl, OutS.nil _ _, (fun p hp => by cases hp), bis_nil, .inr ⟨rfl, rfl⟩, bi_zero, hb⟩
theorem box_endB (w : World) (cs ds : Array Value) (t : TypeId) : ∃ W, (w.alloc (.cells cs t)).setRow w.heap.size ds = W ∧ BoxA W w.heap.size t ds ∧ Below w.heap.size w W :=
  ⟨_, rfl, setRow_heap _ _ _ _ _ _ (BoxA.new w t cs), below_setRow ((Below.refl _ _).alloc (Nat.le_refl _) _) (Nat.le_refl _) _⟩
theorem erase_map {α β : Type} (f : α → β) (L : List α) (i : Nat) : (L.eraseIdx i).map f = (L.map f).eraseIdx i := by
  rw [bu_erase, bu_erase, List.map_append, List.map_take, List.map_drop]
theorem mem_of_erase {α : Type} {L : List α} {i : Nat} {p : α} (h : p ∈ L.eraseIdx i) : p ∈ L := List.mem_of_mem_eraseIdx h
theorem bis_erase {L : List (Bf × Gb)} (h : BIs L) (i : Nat) : BIs (L.eraseIdx i) := ⟨Nat.le_trans (List.length_eraseIdx_le L i) h.len, fun q hq => h.all q (mem_of_erase hq)⟩
set_option maxRecDepth 100000 in
set_option maxHeartbeats 6400000 in
theorem dDrop_any {w : World} {v : Value} {L : List (Bf × Gb)} (h : RBs w v L) (hI : BIs L) (hcap : CapOk v) (name user : List UInt8) :
    Calls Tryz.prog 19 #[v, .string (str name), .string (str user)] w (DropT w L (dropS (L.map Prod.fst) name user).1 (dropS (L.map Prod.fst) name user).2.1 (dropS (L.map Prod.fst) name user).2.2) := by
  obtain ⟨W, hW⟩ : ∃ W, w.alloc (.cells #[.int .i64 0, .string { data := #[] }, .string { data := #[] }, .string { data := #[] }, .bool false, .slice none 0 0, .slice none 0 0] 26) = W := ⟨_, rfl⟩
  have hbx : BoxA W w.heap.size 26 #[.int .i64 0, .string { data := #[] }, .string { data := #[] }, .string { data := #[] }, .bool false, .slice none 0 0, .slice none 0 0] := by rw [← hW]; exact BoxA.new _ _ _
  have hl : Below w.heap.size w W := by rw [← hW]; exact (Below.refl _ _).alloc (Nat.le_refl _) _
  have HCH := Lib.hid (fun (Y : World) (hy : Below W.heap.size W Y) => dCheckB_any ((h.next hl).next hy) hI)
  have HPL := Lib.hid (fun (Y : World) (hy : Below W.heap.size W Y) => dplace_any ((h.next hl).next hy) hI.len 0 name)
  have HWO := Lib.hid (fun (Y : World) (hy : Below W.heap.size W Y) (hn : L.length ≤ 1000) (i : Nat) (q : Bf × Gb) (hq : L[i]? = some q) => dwithout_any ((h.next hl).next hy) hcap hn hq)
  have HRL := Lib.hid (fun (Y : World) (hy : Below w.heap.size w Y) => (h.next hy).rows)
  obtain ⟨p, c, rfl, f⟩ := (h.next hl).form
  obtain ⟨n, hn⟩ : ∃ n, L.length = n := ⟨_, rfl⟩
  rw [hn] at HCH HPL HWO
  rw [hn]
  have HF := Lib.hid f
  have HN := Lib.hid hn
  have HI := Lib.hid hI
  have hn1 : n ≤ 140737488355328 := by rw [← hn]; exact hI.len
  have HL := Lib.hid hl
  have HW := Lib.hid hW
  have HSZ := Lib.hid (show w.heap.size < W.heap.size from hbx.lt)
  have HBX := Lib.hid (fun (Y : World) (hy : Below W.heap.size W Y) => (show BoxA Y w.heap.size 26 #[.int .i64 0, .string { data := #[] }, .string { data := #[] }, .string { data := #[] }, .bool false, .slice none 0 0, .slice none 0 0] from hbx.next hy))
  have HFIN := Lib.hid (fun (Y : World) (hy : Below W.heap.size W Y) => (show Below w.heap.size w Y from hl.trans (hy.mono hl.size)))
  clear h hI hcap hW hbx hl f hn
  by_cases hV : Valid (L.map Prod.fst)
  rotate_left
  · have HR := Lib.hid (show dropS (L.map Prod.fst) name user = ([], Bf.zero, 170) by unfold dropS; rw [if_pos hV])
    rw [vE_no hV] at HCH
    clear hV
    go_enter Tryz.func19, Tryz.ntmps19
    go_upto_region 1 with fail
    rw [HW.out]
    go_wp2_with (first
      | (go_at_call 12; ((with_reducible refine (HCH.out _ (Below.refl _ _)).mono ?_); rintro e w5 ⟨rfl, hb⟩); have A5 := Lib.hid hb; clear hb)
      | (refine wpList_store_row rfl _ _ _ rfl w.heap.size #[.int .i64 0, .string { data := #[] }, .string { data := #[] }, .string { data := #[] }, .bool false, .slice none 0 0, .slice none 0 0] rfl rfl _ _ (HBX.out _ A5.out) (by kernel_rfl) rfl (by kernel_rfl) ?_))
    rw [HR.out]
    refine bodyPost_ret (v := .tuple #[.slice none 0 0, .agg #[.int .i64 0, .string { data := #[] }, .string { data := #[] }, .string { data := #[] }, .bool false, .slice none 0 0, .slice none 0 0], .int .i64 170]) (res_tct (p := 7) (u := 6) (v := 8) rfl _ _ w.heap.size _ #[.int .i64 0, .string { data := #[] }, .string { data := #[] }, .string { data := #[] }, .bool false, .slice none 0 0, .slice none 0 0] _ _ rfl (setRow_heap _ _ _ _ _ _ (HBX.out _ A5.out)) Tryz.underlying26 rfl (by kernel_rfl)) rfl ?_
    exact dropT_no (below_setRow (HFIN.out _ A5.out) (Nat.le_refl _) _)
  rw [show vE (L.map Prod.fst) = 0 from if_pos hV] at HCH
  cases hpl : place (L.map Prod.fst) 0 name with
  | none =>
    rw [hpl] at HPL
    unfold pI at HPL
    dsimp only at HPL
    have HR := Lib.hid (show dropS (L.map Prod.fst) name user = ([], Bf.zero, 7) by unfold dropS; rw [if_neg (not_not_intro hV), hpl])
    clear hV hpl
    go_enter Tryz.func19, Tryz.ntmps19
    go_upto_region 1 with fail
    rw [HW.out]
    go_wp2_with (first
      | (go_at_call 12; ((with_reducible refine (HCH.out _ (Below.refl _ _)).mono ?_); rintro e w5 ⟨rfl, hb⟩); have A5 := Lib.hid hb; clear hb)
      | (go_at_call 38; ((with_reducible refine (HPL.out _ A5.out).mono ?_); rintro e w4 ⟨rfl, rfl⟩))
      | (refine wpList_store_row rfl _ _ _ rfl w.heap.size #[.int .i64 0, .string { data := #[] }, .string { data := #[] }, .string { data := #[] }, .bool false, .slice none 0 0, .slice none 0 0] rfl rfl _ _ (HBX.out _ A5.out) (by kernel_rfl) rfl (by kernel_rfl) ?_))
    rw [HR.out]
    refine bodyPost_ret (v := .tuple #[.slice none 0 0, .agg #[.int .i64 0, .string { data := #[] }, .string { data := #[] }, .string { data := #[] }, .bool false, .slice none 0 0, .slice none 0 0], .int .i64 7]) (res_tct (p := 7) (u := 6) (v := 8) rfl _ _ w.heap.size _ #[.int .i64 0, .string { data := #[] }, .string { data := #[] }, .string { data := #[] }, .bool false, .slice none 0 0, .slice none 0 0] _ _ rfl (setRow_heap _ _ _ _ _ _ (HBX.out _ A5.out)) Tryz.underlying26 rfl (by kernel_rfl)) rfl ?_
    exact dropT_no (below_setRow (HFIN.out _ A5.out) (Nat.le_refl _) _)
  | some i =>
    obtain ⟨b0, hb0, -, -, hi⟩ := bu.place_some hpl
    rw [List.length_map, HN.out] at hi
    obtain ⟨q, hq⟩ : ∃ q, L[i]? = some q := ⟨_, List.getElem?_eq_getElem (by rw [HN.out]; exact hi)⟩
    have HR0 := Lib.hid (show dropS (L.map Prod.fst) name user = (if q.1.user ≠ user then ([], Bf.zero, 171) else if q.1.refs ≠ [] then ([], Bf.zero, 172) else ((L.map Prod.fst).eraseIdx i, q.1, 0)) by unfold dropS; rw [if_neg (not_not_intro hV), hpl]; dsimp only; rw [fst_at hq])
    have hn2 : n ≤ 200 := by have := hV.1; rw [List.length_map, HN.out] at this; exact this
    have hmq : May q.1 := hV.2.1 q.1 (List.mem_of_getElem? (fst_at hq))
    obtain ⟨kb, off, rfl, hk, hc⟩ := BC.of (HF.out (ne_of_at hq))
    have HC := Lib.hid (fun (Y : World) (hy : Below W.heap.size W Y) => (show BC L kb off Y from hc.next hk hy))
    have HK := Lib.hid hk
    have HQ := Lib.hid hq
    rw [hpl] at HPL
    unfold pI at HPL
    dsimp only at HPL
    have d0 : decide ((i : Int) < 0) = false := decide_eq_false (by omega)
    have HQR := Lib.hid (fun (Y : World) (hy : Below w.heap.size w Y) => HRL.out Y hy q (List.mem_of_getElem? hq))
    have HQI := Lib.hid (HI.out.all q (List.mem_of_getElem? hq))
    have HWI := Lib.hid (fun (Y : World) (hy : Below W.heap.size W Y) => HWO.out Y hy (by omega) i q hq)
    unfold bV at HWI
    clear hV hpl hb0 hq hk hc HF HWO
    obtain ⟨pr, cr, hgr, -⟩ := (HQR.out w (Below.refl _ _)).r.form
    obtain ⟨nr, hnr⟩ : ∃ n, q.1.refs.length = n := ⟨_, rfl⟩
    rw [hnr] at hgr
    have HGR := Lib.hid hgr
    have HNR := Lib.hid hnr
    have CE := Lib.hid (fun (Y : World) (hy : Below W.heap.size W Y) => (show Y.cell? ⟨kb, off + i * 7 + 2, none⟩ = some (.string (str q.1.user)) ∧ Y.cell? ⟨kb, off + i * 7 + 6, none⟩ = some (.slice pr nr cr) from ⟨(HC.out Y hy).cell HQ.out 2 _ rfl, by rw [← HGR.out]; exact (HC.out Y hy).cell HQ.out 6 _ rfl⟩))
    clear hgr hnr
    by_cases hu : q.1.user = user
    rotate_left
    · have HR := Lib.hid (show dropS (L.map Prod.fst) name user = ([], Bf.zero, 171) by rw [HR0.out, if_pos hu])
      have q1 : ((str q.1.user).toList == (str user).toList) = false := by rw [str_toList, str_toList, beq_eq_false_iff_ne]; exact hu
      have q2 : ¬ (str q.1.user).toList = (str user).toList := by rw [str_toList, str_toList]; exact hu
      clear hu
      go_enter Tryz.func19, Tryz.ntmps19
      go_upto_region 1 with fail
      rw [HW.out]
      go_wp2_with (first
        | (go_at_call 12; ((with_reducible refine (HCH.out _ (Below.refl _ _)).mono ?_); rintro e w5 ⟨rfl, hb⟩); have A5 := Lib.hid hb; obtain ⟨cq2, cq6⟩ := CE.out _ A5.out; have lq : kb < w5.heap.size := Nat.lt_of_lt_of_le HK.out A5.out.size; clear hb)
        | (go_at_call 38; ((with_reducible refine (HPL.out _ A5.out).mono ?_); rintro e w4 ⟨rfl, rfl⟩))
        | (refine wpList_store_row rfl _ _ _ rfl w.heap.size #[.int .i64 0, .string { data := #[] }, .string { data := #[] }, .string { data := #[] }, .bool false, .slice none 0 0, .slice none 0 0] rfl rfl _ _ (HBX.out _ A5.out) (by kernel_rfl) rfl (by kernel_rfl) ?_))
      rw [HR.out]
      refine bodyPost_ret (v := .tuple #[.slice none 0 0, .agg #[.int .i64 0, .string { data := #[] }, .string { data := #[] }, .string { data := #[] }, .bool false, .slice none 0 0, .slice none 0 0], .int .i64 171]) (res_tct (p := 7) (u := 6) (v := 8) rfl _ _ w.heap.size _ #[.int .i64 0, .string { data := #[] }, .string { data := #[] }, .string { data := #[] }, .bool false, .slice none 0 0, .slice none 0 0] _ _ rfl (setRow_heap _ _ _ _ _ _ (HBX.out _ A5.out)) Tryz.underlying26 rfl (by kernel_rfl)) rfl ?_
      exact dropT_no (below_setRow (HFIN.out _ A5.out) (Nat.le_refl _) _)
    have q1 : ((str q.1.user).toList == (str user).toList) = true := by rw [str_toList, str_toList, beq_iff_eq]; exact hu
    have q2 : (str q.1.user).toList = (str user).toList := by rw [hu]
    have HR1 := Lib.hid (HR0.out.trans (if_neg (not_not_intro hu)))
    clear hu
    by_cases hr : q.1.refs = []
    rotate_left
    · have HR := Lib.hid (show dropS (L.map Prod.fst) name user = ([], Bf.zero, 172) by rw [HR1.out, if_pos hr])
      have d9 : decide ((0 : Int) < (nr : Int)) = true := decide_eq_true (by have : nr ≠ 0 := fun e => hr (List.eq_nil_of_length_eq_zero (by rw [HNR.out]; exact e)); omega)
      have d8 : 0 < nr := by have : nr ≠ 0 := fun e => hr (List.eq_nil_of_length_eq_zero (by rw [HNR.out]; exact e)); omega
      clear hr
      go_enter Tryz.func19, Tryz.ntmps19
      go_upto_region 1 with fail
      rw [HW.out]
      go_wp2_with (first
        | (go_at_call 12; ((with_reducible refine (HCH.out _ (Below.refl _ _)).mono ?_); rintro e w5 ⟨rfl, hb⟩); have A5 := Lib.hid hb; obtain ⟨cq2, cq6⟩ := CE.out _ A5.out; have lq : kb < w5.heap.size := Nat.lt_of_lt_of_le HK.out A5.out.size; clear hb)
        | (go_at_call 38; ((with_reducible refine (HPL.out _ A5.out).mono ?_); rintro e w4 ⟨rfl, rfl⟩))
        | (refine wpList_store_row rfl _ _ _ rfl w.heap.size #[.int .i64 0, .string { data := #[] }, .string { data := #[] }, .string { data := #[] }, .bool false, .slice none 0 0, .slice none 0 0] rfl rfl _ _ (HBX.out _ A5.out) (by kernel_rfl) rfl (by kernel_rfl) ?_))
      rw [HR.out]
      refine bodyPost_ret (v := .tuple #[.slice none 0 0, .agg #[.int .i64 0, .string { data := #[] }, .string { data := #[] }, .string { data := #[] }, .bool false, .slice none 0 0, .slice none 0 0], .int .i64 172]) (res_tct (p := 7) (u := 6) (v := 8) rfl _ _ w.heap.size _ #[.int .i64 0, .string { data := #[] }, .string { data := #[] }, .string { data := #[] }, .bool false, .slice none 0 0, .slice none 0 0] _ _ rfl (setRow_heap _ _ _ _ _ _ (HBX.out _ A5.out)) Tryz.underlying26 rfl (by kernel_rfl)) rfl ?_
      exact dropT_no (below_setRow (HFIN.out _ A5.out) (Nat.le_refl _) _)
    have hnz : nr = 0 := by rw [← HNR.out, hr]; rfl
    have d9 : decide ((0 : Int) < (nr : Int)) = false := decide_eq_false (by omega)
    have d8 : ¬ 0 < nr := by omega
    clear hnz
    have HR := Lib.hid (HR1.out.trans (if_neg (not_not_intro hr)))
    clear hr
    go_enter Tryz.func19, Tryz.ntmps19
    go_upto_region 1 with fail
    rw [HW.out]
    go_upto_region 11 with (first
      | (go_at_call 12; ((with_reducible refine (HCH.out _ (Below.refl _ _)).mono ?_); rintro e w5 ⟨rfl, hb⟩); have A5 := Lib.hid hb; obtain ⟨cq2, cq6⟩ := CE.out _ A5.out; have lq : kb < w5.heap.size := Nat.lt_of_lt_of_le HK.out A5.out.size; clear hb)
      | (go_at_call 38; ((with_reducible refine (HPL.out _ A5.out).mono ?_); rintro e w4 ⟨rfl, rfl⟩))
      | (go_at_call 53; ((with_reducible refine (HWI.out _ A5.out).mono ?_); rintro e w8 ⟨v8, rfl, ho8, hc8, hb⟩); have HO8 := Lib.hid (show OutS W.heap.size w8 v8 (L.eraseIdx i) from ⟨ho8.row.mono A5.out.size⟩); have A8 := Lib.hid (A5.out.trans (hb.mono A5.out.size)); clear ho8 hc8 hb)
      | (refine wpList_store_row rfl _ _ _ rfl w8.heap.size (bcs q.1 q.2) rfl rfl _ _ (BoxA.new w8 _ _) (by kernel_rfl) rfl (bcs_all (HQR.out _ (HFIN.out _ A8.out))) ?_))
    obtain ⟨w9, hw9, hk9, hb9⟩ := box_endB w8 #[.int .i64 0, .string { data := #[] }, .string { data := #[] }, .string { data := #[] }, .bool false, .slice none 0 0, .slice none 0 0] (bcs q.1 q.2) 26
    rw [hw9]
    have A9 := Lib.hid (A8.out.trans (hb9.mono A8.out.size))
    have HO9 := Lib.hid (HO8.out.next hb9)
    have HK9 := Lib.hid (show BufB w9 w8.heap.size q.1 q.2 from hk9)
    have HS9 := Lib.hid (show w8.heap.size ≠ w.heap.size by have := HSZ.out; have := A8.out.size; omega)
    have HD9 := Lib.hid (show Below W.heap.size W w9.drew from Below.drew A9.out)
    clear hw9 hk9 hb9
    obtain ⟨k8, hk8⟩ : ∃ k8, w8.heap.size = k8 := ⟨_, rfl⟩
    rw [hk8] at HK9 HS9 ⊢
    clear hk8
    refine wp_region_held_drew (S := (fun Y => BufB Y k8 q.1 q.2)) (by kernel_rfl) (by exact (show BufB w9.drew k8 q.1 q.2 from HK9.out)) (fun hHeld => ?_)
    refine wpAnyH_take (i := 0) (v := ?_) (ata at0) (by kernel_rfl) (by kernel_rfl) (by kernel_rfl) (fun _ _ _ h => h) (Or.inl ⟨by rfl, ?_⟩) (by assumption) ?_
    rotate_left
    · (intro w hSw; (try dsimp only at hSw); go_simp; (first | done | with_reducible rfl))
    try simp only [Act.put, List.setIfInBounds_toArray, List.set_cons_zero, List.set_cons_succ]
    refine wpAnyH_take (i := 1) (v := .agg (bcs q.1 q.2)) (ata (atS at0)) (by kernel_rfl) (by kernel_rfl) (by kernel_rfl) (fun _ _ _ h => h) (Or.inl ⟨by rfl, ?_⟩) (by assumption) ?_
    · intro X hX; exact load_box _ rfl _ rfl (hX)
    try simp only [Act.put, List.setIfInBounds_toArray, List.set_cons_zero, List.set_cons_succ]
    refine wpAnyH_take (i := 2) (v := ?_) (ata (atS (atS at0))) (by kernel_rfl) (by kernel_rfl) (by kernel_rfl) (fun _ _ _ h => h) (Or.inl ⟨by rfl, ?_⟩) (by assumption) ?_
    rotate_left
    · (intro w hSw; (try dsimp only at hSw); go_simp; (first | done | with_reducible rfl))
    try simp only [Act.put, List.setIfInBounds_toArray, List.set_cons_zero, List.set_cons_succ]
    refine wpAnyH_ready (rs := [3]) (by kernel_rfl) (by simp) ?_
    refine AllReadyH.cons (ata (atS (atS (atS at0)))) (fun K hK => ?_) AllReadyH.nil
    refine wp_store_row _ _ _ rfl w.heap.size (bcs q.1 q.2) rfl rfl 26 #[.int .i64 0, .string { data := #[] }, .string { data := #[] }, .string { data := #[] }, .bool false, .slice none 0 0, .slice none 0 0] (HBX.out _ HD9.out) (by kernel_rfl) rfl (bcs_all (HQR.out _ (HFIN.out _ HD9.out))) ?_
    refine hK.out _ _ (by exact (setRow_other _ _ _ _ HS9.out).trans (show BufB w9.drew k8 q.1 q.2 from HK9.out)) (fun hHeld => ?_)
    clear hK K
    try simp only [Act.put, List.setIfInBounds_toArray, List.set_cons_zero, List.set_cons_succ]
    refine wpAnyH_take (i := 4) (v := ?_) (ata (atS (atS (atS (atS at0))))) (by kernel_rfl) (by kernel_rfl) (by kernel_rfl) (fun _ _ _ h => h) (Or.inl ⟨by rfl, ?_⟩) (by assumption) ?_
    rotate_left
    · (intro w hSw; (try dsimp only at hSw); go_simp; (first | done | with_reducible rfl))
    try simp only [Act.put, List.setIfInBounds_toArray, List.set_cons_zero, List.set_cons_succ]
    refine wpAnyH_done (by kernel_rfl) ?_ _
    go_wp2
    rw [HR.out]
    refine bodyPost_ret (v := .tuple #[v8, .agg (bcs q.1 q.2), .int .i64 0]) (res_tct (p := 7) (u := 6) (v := 8) rfl _ _ w.heap.size _ (bcs q.1 q.2) _ _ rfl (setRow_heap _ _ _ _ _ _ (HBX.out _ HD9.out)) Tryz.underlying26 rfl (by kernel_rfl)) rfl ?_
    have hfin := below_setRow (HFIN.out _ HD9.out) (Nat.le_refl _) (bcs q.1 q.2)
    exact ⟨_, L.eraseIdx i, q.2, rfl, erase_map _ _ _, ⟨((HO9.out.next (drew_lowB w9)).set HSZ.out _).row.mono (Nat.le_of_lt HSZ.out)⟩, (fun x hx => mem_of_erase hx), bis_erase HI.out i, .inl (List.mem_of_getElem? HQ.out), HQI.out, hfin⟩
set_option maxRecDepth 100000 in
set_option maxHeartbeats 6400000 in
theorem dFree_any {w : World} {v : Value} {L : List (Bf × Gb)} (h : RBs w v L) (hI : BIs L) (hcap : CapOk v) (job : Int) :
    Calls Tryz.prog 22 #[v, .int .i64 job] w (DropT w L (freeS (L.map Prod.fst) job).1 (freeS (L.map Prod.fst) job).2.1 (freeS (L.map Prod.fst) job).2.2) := by
  obtain ⟨W, hW⟩ : ∃ W, w.alloc (.cells #[.int .i64 0, .string { data := #[] }, .string { data := #[] }, .string { data := #[] }, .bool false, .slice none 0 0, .slice none 0 0] 26) = W := ⟨_, rfl⟩
  have hbx : BoxA W w.heap.size 26 #[.int .i64 0, .string { data := #[] }, .string { data := #[] }, .string { data := #[] }, .bool false, .slice none 0 0, .slice none 0 0] := by rw [← hW]; exact BoxA.new _ _ _
  have hl : Below w.heap.size w W := by rw [← hW]; exact (Below.refl _ _).alloc (Nat.le_refl _) _
  have HCH := Lib.hid (fun (Y : World) (hy : Below W.heap.size W Y) => dCheckB_any ((h.next hl).next hy) hI)
  have HPL := Lib.hid (fun (Y : World) (hy : Below W.heap.size W Y) => dplace_any ((h.next hl).next hy) hI.len job [])
  have HWO := Lib.hid (fun (Y : World) (hy : Below W.heap.size W Y) (hn : L.length ≤ 1000) (i : Nat) (q : Bf × Gb) (hq : L[i]? = some q) => dwithout_any ((h.next hl).next hy) hcap hn hq)
  have HRL := Lib.hid (fun (Y : World) (hy : Below w.heap.size w Y) => (h.next hy).rows)
  obtain ⟨p, c, rfl, f⟩ := (h.next hl).form
  obtain ⟨n, hn⟩ : ∃ n, L.length = n := ⟨_, rfl⟩
  rw [hn] at HCH HPL HWO
  rw [hn]
  rw [show str ([] : List UInt8) = { data := #[] } from rfl] at HPL
  have HF := Lib.hid f
  have HN := Lib.hid hn
  have HI := Lib.hid hI
  have hn1 : n ≤ 140737488355328 := by rw [← hn]; exact hI.len
  have HL := Lib.hid hl
  have HW := Lib.hid hW
  have HSZ := Lib.hid (show w.heap.size < W.heap.size from hbx.lt)
  have HBX := Lib.hid (fun (Y : World) (hy : Below W.heap.size W Y) => (show BoxA Y w.heap.size 26 #[.int .i64 0, .string { data := #[] }, .string { data := #[] }, .string { data := #[] }, .bool false, .slice none 0 0, .slice none 0 0] from hbx.next hy))
  have HFIN := Lib.hid (fun (Y : World) (hy : Below W.heap.size W Y) => (show Below w.heap.size w Y from hl.trans (hy.mono hl.size)))
  clear h hI hcap hW hbx hl f hn
  have HJB := Lib.hid (fun Y => dJob_any job Y)
  by_cases hV : Valid (L.map Prod.fst)
  rotate_left
  · have HR := Lib.hid (show freeS (L.map Prod.fst) job = ([], Bf.zero, 170) by unfold freeS; rw [if_pos (fun hh => hV hh.1)])
    rw [vE_no hV] at HCH
    clear hV
    go_enter Tryz.func22, Tryz.ntmps22
    go_upto_region 1 with fail
    rw [HW.out]
    go_wp2_with (first
      | (go_at_call 12; ((with_reducible refine (HCH.out _ (Below.refl _ _)).mono ?_); rintro e w5 ⟨rfl, hb⟩); have A5 := Lib.hid hb; clear hb)
      | (go_at_call 49; ((with_reducible refine (HJB.out _).mono ?_); rintro e w6 ⟨rfl, rfl⟩))
      | (refine wpList_store_row rfl _ _ _ rfl w.heap.size #[.int .i64 0, .string { data := #[] }, .string { data := #[] }, .string { data := #[] }, .bool false, .slice none 0 0, .slice none 0 0] rfl rfl _ _ (HBX.out _ A5.out) (by kernel_rfl) rfl (by kernel_rfl) ?_))
    rw [HR.out]
    refine bodyPost_ret (v := .tuple #[.slice none 0 0, .agg #[.int .i64 0, .string { data := #[] }, .string { data := #[] }, .string { data := #[] }, .bool false, .slice none 0 0, .slice none 0 0], .int .i64 170]) (res_tct (p := 5) (u := 4) (v := 6) rfl _ _ w.heap.size _ #[.int .i64 0, .string { data := #[] }, .string { data := #[] }, .string { data := #[] }, .bool false, .slice none 0 0, .slice none 0 0] _ _ rfl (setRow_heap _ _ _ _ _ _ (HBX.out _ A5.out)) Tryz.underlying26 rfl (by kernel_rfl)) rfl ?_
    exact dropT_no (below_setRow (HFIN.out _ A5.out) (Nat.le_refl _) _)
  rw [show vE (L.map Prod.fst) = 0 from if_pos hV] at HCH
  by_cases hjo : jobOk job
  rotate_left
  · have HR := Lib.hid (show freeS (L.map Prod.fst) job = ([], Bf.zero, 170) by unfold freeS; rw [if_pos (fun hh => hjo hh.2)])
    rw [decide_eq_false hjo] at HJB
    clear hV hjo
    go_enter Tryz.func22, Tryz.ntmps22
    go_upto_region 1 with fail
    rw [HW.out]
    go_wp2_with (first
      | (go_at_call 12; ((with_reducible refine (HCH.out _ (Below.refl _ _)).mono ?_); rintro e w5 ⟨rfl, hb⟩); have A5 := Lib.hid hb; clear hb)
      | (go_at_call 49; ((with_reducible refine (HJB.out _).mono ?_); rintro e w6 ⟨rfl, rfl⟩))
      | (refine wpList_store_row rfl _ _ _ rfl w.heap.size #[.int .i64 0, .string { data := #[] }, .string { data := #[] }, .string { data := #[] }, .bool false, .slice none 0 0, .slice none 0 0] rfl rfl _ _ (HBX.out _ A5.out) (by kernel_rfl) rfl (by kernel_rfl) ?_))
    rw [HR.out]
    refine bodyPost_ret (v := .tuple #[.slice none 0 0, .agg #[.int .i64 0, .string { data := #[] }, .string { data := #[] }, .string { data := #[] }, .bool false, .slice none 0 0, .slice none 0 0], .int .i64 170]) (res_tct (p := 5) (u := 4) (v := 6) rfl _ _ w.heap.size _ #[.int .i64 0, .string { data := #[] }, .string { data := #[] }, .string { data := #[] }, .bool false, .slice none 0 0, .slice none 0 0] _ _ rfl (setRow_heap _ _ _ _ _ _ (HBX.out _ A5.out)) Tryz.underlying26 rfl (by kernel_rfl)) rfl ?_
    exact dropT_no (below_setRow (HFIN.out _ A5.out) (Nat.le_refl _) _)
  rw [decide_eq_true hjo] at HJB
  cases hpl : place (L.map Prod.fst) job [] with
  | none =>
    rw [hpl] at HPL
    unfold pI at HPL
    dsimp only at HPL
    have HR := Lib.hid (show freeS (L.map Prod.fst) job = ([], Bf.zero, 7) by unfold freeS; rw [if_neg (not_not_intro ⟨hV, hjo⟩), hpl])
    clear hV hpl hjo
    go_enter Tryz.func22, Tryz.ntmps22
    go_upto_region 1 with fail
    rw [HW.out]
    go_wp2_with (first
      | (go_at_call 12; ((with_reducible refine (HCH.out _ (Below.refl _ _)).mono ?_); rintro e w5 ⟨rfl, hb⟩); have A5 := Lib.hid hb; clear hb)
      | (go_at_call 49; ((with_reducible refine (HJB.out _).mono ?_); rintro e w6 ⟨rfl, rfl⟩))
      | (go_at_call 38; ((with_reducible refine (HPL.out _ A5.out).mono ?_); rintro e w4 ⟨rfl, rfl⟩))
      | (refine wpList_store_row rfl _ _ _ rfl w.heap.size #[.int .i64 0, .string { data := #[] }, .string { data := #[] }, .string { data := #[] }, .bool false, .slice none 0 0, .slice none 0 0] rfl rfl _ _ (HBX.out _ A5.out) (by kernel_rfl) rfl (by kernel_rfl) ?_))
    rw [HR.out]
    refine bodyPost_ret (v := .tuple #[.slice none 0 0, .agg #[.int .i64 0, .string { data := #[] }, .string { data := #[] }, .string { data := #[] }, .bool false, .slice none 0 0, .slice none 0 0], .int .i64 7]) (res_tct (p := 5) (u := 4) (v := 6) rfl _ _ w.heap.size _ #[.int .i64 0, .string { data := #[] }, .string { data := #[] }, .string { data := #[] }, .bool false, .slice none 0 0, .slice none 0 0] _ _ rfl (setRow_heap _ _ _ _ _ _ (HBX.out _ A5.out)) Tryz.underlying26 rfl (by kernel_rfl)) rfl ?_
    exact dropT_no (below_setRow (HFIN.out _ A5.out) (Nat.le_refl _) _)
  | some i =>
    obtain ⟨b0, hb0, -, -, hi⟩ := bu.place_some hpl
    rw [List.length_map, HN.out] at hi
    obtain ⟨q, hq⟩ : ∃ q, L[i]? = some q := ⟨_, List.getElem?_eq_getElem (by rw [HN.out]; exact hi)⟩
    have HR0 := Lib.hid (show freeS (L.map Prod.fst) job = ((L.map Prod.fst).eraseIdx i, q.1, 0) by unfold freeS; rw [if_neg (not_not_intro ⟨hV, hjo⟩), hpl]; dsimp only; rw [fst_at hq])
    have hn2 : n ≤ 200 := by have := hV.1; rw [List.length_map, HN.out] at this; exact this
    have hmq : May q.1 := hV.2.1 q.1 (List.mem_of_getElem? (fst_at hq))
    obtain ⟨kb, off, rfl, hk, hc⟩ := BC.of (HF.out (ne_of_at hq))
    have HC := Lib.hid (fun (Y : World) (hy : Below W.heap.size W Y) => (show BC L kb off Y from hc.next hk hy))
    have HK := Lib.hid hk
    have HQ := Lib.hid hq
    rw [hpl] at HPL
    unfold pI at HPL
    dsimp only at HPL
    have d0 : decide ((i : Int) < 0) = false := decide_eq_false (by omega)
    have HQR := Lib.hid (fun (Y : World) (hy : Below w.heap.size w Y) => HRL.out Y hy q (List.mem_of_getElem? hq))
    have HQI := Lib.hid (HI.out.all q (List.mem_of_getElem? hq))
    have HWI := Lib.hid (fun (Y : World) (hy : Below W.heap.size W Y) => HWO.out Y hy (by omega) i q hq)
    unfold bV at HWI
    clear hV hpl hb0 hq hk hc HF HWO hjo
    have HR := Lib.hid HR0.out
    go_enter Tryz.func22, Tryz.ntmps22
    go_upto_region 1 with fail
    rw [HW.out]
    go_upto_region 7 with (first
      | (go_at_call 12; ((with_reducible refine (HCH.out _ (Below.refl _ _)).mono ?_); rintro e w5 ⟨rfl, hb⟩); have A5 := Lib.hid hb; clear hb)
      | (go_at_call 49; ((with_reducible refine (HJB.out _).mono ?_); rintro e w6 ⟨rfl, rfl⟩))
      | (go_at_call 38; ((with_reducible refine (HPL.out _ A5.out).mono ?_); rintro e w4 ⟨rfl, rfl⟩))
      | (go_at_call 53; ((with_reducible refine (HWI.out _ A5.out).mono ?_); rintro e w8 ⟨v8, rfl, ho8, hc8, hb⟩); have HO8 := Lib.hid (show OutS W.heap.size w8 v8 (L.eraseIdx i) from ⟨ho8.row.mono A5.out.size⟩); have A8 := Lib.hid (A5.out.trans (hb.mono A5.out.size)); clear ho8 hc8 hb)
      | (refine wpList_store_row rfl _ _ _ rfl w8.heap.size (bcs q.1 q.2) rfl rfl _ _ (BoxA.new w8 _ _) (by kernel_rfl) rfl (bcs_all (HQR.out _ (HFIN.out _ A8.out))) ?_))
    obtain ⟨w9, hw9, hk9, hb9⟩ := box_endB w8 #[.int .i64 0, .string { data := #[] }, .string { data := #[] }, .string { data := #[] }, .bool false, .slice none 0 0, .slice none 0 0] (bcs q.1 q.2) 26
    rw [hw9]
    have A9 := Lib.hid (A8.out.trans (hb9.mono A8.out.size))
    have HO9 := Lib.hid (HO8.out.next hb9)
    have HK9 := Lib.hid (show BufB w9 w8.heap.size q.1 q.2 from hk9)
    have HS9 := Lib.hid (show w8.heap.size ≠ w.heap.size by have := HSZ.out; have := A8.out.size; omega)
    have HD9 := Lib.hid (show Below W.heap.size W w9.drew from Below.drew A9.out)
    clear hw9 hk9 hb9
    obtain ⟨k8, hk8⟩ : ∃ k8, w8.heap.size = k8 := ⟨_, rfl⟩
    rw [hk8] at HK9 HS9 ⊢
    clear hk8
    refine wp_region_held_drew (S := (fun Y => BufB Y k8 q.1 q.2)) (by kernel_rfl) (by exact (show BufB w9.drew k8 q.1 q.2 from HK9.out)) (fun hHeld => ?_)
    refine wpAnyH_take (i := 0) (v := ?_) (ata at0) (by kernel_rfl) (by kernel_rfl) (by kernel_rfl) (fun _ _ _ h => h) (Or.inl ⟨by rfl, ?_⟩) (by assumption) ?_
    rotate_left
    · (intro w hSw; (try dsimp only at hSw); go_simp; (first | done | with_reducible rfl))
    try simp only [Act.put, List.setIfInBounds_toArray, List.set_cons_zero, List.set_cons_succ]
    refine wpAnyH_take (i := 1) (v := .agg (bcs q.1 q.2)) (ata (atS at0)) (by kernel_rfl) (by kernel_rfl) (by kernel_rfl) (fun _ _ _ h => h) (Or.inl ⟨by rfl, ?_⟩) (by assumption) ?_
    · intro X hX; exact load_box _ rfl _ rfl (hX)
    try simp only [Act.put, List.setIfInBounds_toArray, List.set_cons_zero, List.set_cons_succ]
    refine wpAnyH_take (i := 2) (v := ?_) (ata (atS (atS at0))) (by kernel_rfl) (by kernel_rfl) (by kernel_rfl) (fun _ _ _ h => h) (Or.inl ⟨by rfl, ?_⟩) (by assumption) ?_
    rotate_left
    · (intro w hSw; (try dsimp only at hSw); go_simp; (first | done | with_reducible rfl))
    try simp only [Act.put, List.setIfInBounds_toArray, List.set_cons_zero, List.set_cons_succ]
    refine wpAnyH_ready (rs := [3]) (by kernel_rfl) (by simp) ?_
    refine AllReadyH.cons (ata (atS (atS (atS at0)))) (fun K hK => ?_) AllReadyH.nil
    refine wp_store_row _ _ _ rfl w.heap.size (bcs q.1 q.2) rfl rfl 26 #[.int .i64 0, .string { data := #[] }, .string { data := #[] }, .string { data := #[] }, .bool false, .slice none 0 0, .slice none 0 0] (HBX.out _ HD9.out) (by kernel_rfl) rfl (bcs_all (HQR.out _ (HFIN.out _ HD9.out))) ?_
    refine hK.out _ _ (by exact (setRow_other _ _ _ _ HS9.out).trans (show BufB w9.drew k8 q.1 q.2 from HK9.out)) (fun hHeld => ?_)
    clear hK K
    try simp only [Act.put, List.setIfInBounds_toArray, List.set_cons_zero, List.set_cons_succ]
    refine wpAnyH_take (i := 4) (v := ?_) (ata (atS (atS (atS (atS at0))))) (by kernel_rfl) (by kernel_rfl) (by kernel_rfl) (fun _ _ _ h => h) (Or.inl ⟨by rfl, ?_⟩) (by assumption) ?_
    rotate_left
    · (intro w hSw; (try dsimp only at hSw); go_simp; (first | done | with_reducible rfl))
    try simp only [Act.put, List.setIfInBounds_toArray, List.set_cons_zero, List.set_cons_succ]
    refine wpAnyH_done (by kernel_rfl) ?_ _
    go_wp2
    rw [HR.out]
    refine bodyPost_ret (v := .tuple #[v8, .agg (bcs q.1 q.2), .int .i64 0]) (res_tct (p := 5) (u := 4) (v := 6) rfl _ _ w.heap.size _ (bcs q.1 q.2) _ _ rfl (setRow_heap _ _ _ _ _ _ (HBX.out _ HD9.out)) Tryz.underlying26 rfl (by kernel_rfl)) rfl ?_
    have hfin := below_setRow (HFIN.out _ HD9.out) (Nat.le_refl _) (bcs q.1 q.2)
    exact ⟨_, L.eraseIdx i, q.2, rfl, erase_map _ _ _, ⟨((HO9.out.next (drew_lowB w9)).set HSZ.out _).row.mono (Nat.le_of_lt HSZ.out)⟩, (fun x hx => mem_of_erase hx), bis_erase HI.out i, .inl (List.mem_of_getElem? HQ.out), HQI.out, hfin⟩
end Go.Proofs.YtkjffoebcblpoaaGreat.gn
end
