/- The document's answers for buffers: Find, Of, without, Drop, Free. (Written by gen_buH.py, ahead of the code.) -/
import Derived.Test.YtkjffoebcblpoaaGreatMBuG
section
set_option linter.unusedVariables false
set_option linter.unusedSimpArgs false
namespace Go.Proofs.YtkjffoebcblpoaaGreat.gn
open Go.RowKit
open Go.Proofs.YtkjffoebcblpoaaGreat.un (isName)
open Go.Proofs.YtkjffoebcblpoaaGreat.bu (Bf May Valid place findS ofS dropS freeS jobOk)

/-! ### results -/
theorem res_ct {P : Program} {fn : Func} {p u : Tmp} {ty : TypeId} (h : fn.results = #[.cell p ty, .tmp u]) (tmps : Array Value) (w : World) (g : Nat) (t : TypeId) (cs : Array Value) (fr : Nat × Nat) (d : TypeDesc)
    (hp : tmps.getD p undef = .pointer (some ⟨g, 0, none⟩)) (hg : w.heap[g]? = some (.cells cs t fr)) (hu : P.underlying ty = some d) (hd : (match d with | .struct _ | .array _ _ => true | _ => false) = true) (hi : (P.info? ty).map (·.size) = some cs.size) :
    (results fn tmps).run P w = .ok (.tuple #[.agg cs, tmps.getD u undef]) w := by
  have hp' : tmps[p]?.getD undef = .pointer (some ⟨g, 0, none⟩) := by simpa using hp
  simp [results, h, hp', asAddr, run_loadVar_row w g t ty cs fr d hg hu hd hi, Result.andThen]
theorem res_tc {P : Program} {fn : Func} {p u : Tmp} {ty : TypeId} (h : fn.results = #[.tmp u, .cell p ty]) (tmps : Array Value) (w : World) (g : Nat) (t : TypeId) (cs : Array Value) (fr : Nat × Nat) (d : TypeDesc)
    (hp : tmps.getD p undef = .pointer (some ⟨g, 0, none⟩)) (hg : w.heap[g]? = some (.cells cs t fr)) (hu : P.underlying ty = some d) (hd : (match d with | .struct _ | .array _ _ => true | _ => false) = true) (hi : (P.info? ty).map (·.size) = some cs.size) :
    (results fn tmps).run P w = .ok (.tuple #[tmps.getD u undef, .agg cs]) w := by
  have hp' : tmps[p]?.getD undef = .pointer (some ⟨g, 0, none⟩) := by simpa using hp
  simp [results, h, hp', asAddr, run_loadVar_row w g t ty cs fr d hg hu hd hi, Result.andThen]
theorem res_tct {P : Program} {fn : Func} {p u v : Tmp} {ty : TypeId} (h : fn.results = #[.tmp u, .cell p ty, .tmp v]) (tmps : Array Value) (w : World) (g : Nat) (t : TypeId) (cs : Array Value) (fr : Nat × Nat) (d : TypeDesc)
    (hp : tmps.getD p undef = .pointer (some ⟨g, 0, none⟩)) (hg : w.heap[g]? = some (.cells cs t fr)) (hu : P.underlying ty = some d) (hd : (match d with | .struct _ | .array _ _ => true | _ => false) = true) (hi : (P.info? ty).map (·.size) = some cs.size) :
    (results fn tmps).run P w = .ok (.tuple #[tmps.getD u undef, .agg cs, tmps.getD v undef]) w := by
  have hp' : tmps[p]?.getD undef = .pointer (some ⟨g, 0, none⟩) := by simpa using hp
  simp [results, h, hp', asAddr, run_loadVar_row w g t ty cs fr d hg hu hd hi, Result.andThen]
def gZ : Gb := ⟨.slice none 0 0, .slice none 0 0⟩
theorem rb_zero (W : World) : RB W Bf.zero gZ := ⟨.inl ⟨none, 0, rfl, rfl, rfl, fun _ => rfl⟩, .inl ⟨none, 0, rfl, rfl, rfl, fun _ => rfl⟩⟩
theorem bi_zero : BI Bf.zero := ⟨⟨by decide, by decide⟩, (fun x h => by cases h), (fun x h => by cases h), Nat.zero_le _, Nat.zero_le _, Nat.zero_le _, Nat.zero_le _, Nat.zero_le _⟩
theorem all_of {cs : List Value} (h : ∀ u ∈ cs, u.oneCell' = true) : cs.toArray.all (·.oneCell') = true := by
  simp only [List.all_toArray, List.all_eq_true]
  exact h
/-- A buffer is told, and whether it is. -/
def BufT (w : World) (b : Bf) (t : Bool) (en : Ending) (w' : World) : Prop := ∃ g, en = .returned (.tuple #[bV b g, .bool t]) ∧ RB w' b g ∧ Below w.heap.size w w'
set_option maxRecDepth 100000 in
set_option maxHeartbeats 6400000 in
theorem dFind_any {w : World} {v : Value} {L : List (Bf × Gb)} (h : RBs w v L) (hI : BIs L) (name : List UInt8) :
    Calls Tryz.prog 24 #[v, .string (str name)] w (BufT w (findS (L.map Prod.fst) name).1 (findS (L.map Prod.fst) name).2) := by
  obtain ⟨W, hW⟩ : ∃ W, w.alloc (.cells #[.int .i64 0, .string { data := #[] }, .string { data := #[] }, .string { data := #[] }, .bool false, .slice none 0 0, .slice none 0 0] 26) = W := ⟨_, rfl⟩
  have hbx : BoxA W w.heap.size 26 #[.int .i64 0, .string { data := #[] }, .string { data := #[] }, .string { data := #[] }, .bool false, .slice none 0 0, .slice none 0 0] := by rw [← hW]; exact BoxA.new _ _ _
  have hl : Below w.heap.size w W := by rw [← hW]; exact (Below.refl _ _).alloc (Nat.le_refl _) _
  have HCH := Lib.hid (fun (Y : World) (hy : Below W.heap.size W Y) => dCheckB_any ((h.next hl).next hy) hI)
  have HPL := Lib.hid (fun (Y : World) (hy : Below W.heap.size W Y) => dplace_any ((h.next hl).next hy) hI.len 0 name)
  have HRB := Lib.hid (fun (Y : World) (hy : Below w.heap.size w Y) => (h.next hy).rows)
  obtain ⟨p, c, rfl, f⟩ := (h.next hl).form
  obtain ⟨n, hn⟩ : ∃ n, L.length = n := ⟨_, rfl⟩
  rw [hn] at HCH HPL
  rw [hn]
  have HF := Lib.hid f
  have HN := Lib.hid hn
  have hn1 : n ≤ 140737488355328 := by rw [← hn]; exact hI.len
  have HL := Lib.hid hl
  have HW := Lib.hid hW
  have HBX := Lib.hid (fun (Y : World) (hy : Below W.heap.size W Y) => (show BoxA Y w.heap.size 26 #[.int .i64 0, .string { data := #[] }, .string { data := #[] }, .string { data := #[] }, .bool false, .slice none 0 0, .slice none 0 0] from hbx.next hy))
  have HFIN := Lib.hid (fun (Y : World) (hy : Below W.heap.size W Y) => (show Below w.heap.size w Y from hl.trans (hy.mono hl.size)))
  clear h hI hW hbx hl f hn
  by_cases hV : Valid (L.map Prod.fst)
  rotate_left
  · have HR := Lib.hid (show findS (L.map Prod.fst) name = (Bf.zero, false) by unfold findS; rw [if_pos hV])
    rw [vE_no hV] at HCH
    obtain ⟨pv, hpv⟩ : ∃ pv, pI (place (L.map Prod.fst) 0 name) = pv := ⟨_, rfl⟩
    rw [hpv] at HPL
    clear hV hpv
    go_enter Tryz.func24, Tryz.ntmps24
    go_upto_region 1 with fail
    rw [HW.out]
    go_wp2_with (first
      | (go_at_call 38; ((with_reducible refine (HPL.out _ (Below.refl _ _)).mono ?_); rintro e w4 ⟨rfl, rfl⟩))
      | (go_at_call 12; ((with_reducible refine (HCH.out _ (Below.refl _ _)).mono ?_); rintro e w5 ⟨rfl, hb⟩); have A5 := Lib.hid hb; clear hb)
      | (refine wpList_store_row rfl _ _ _ rfl w.heap.size #[.int .i64 0, .string { data := #[] }, .string { data := #[] }, .string { data := #[] }, .bool false, .slice none 0 0, .slice none 0 0] rfl rfl _ _ (HBX.out _ A5.out) (by kernel_rfl) rfl (by kernel_rfl) ?_))
    rw [HR.out]
    refine bodyPost_ret (v := .tuple #[.agg #[.int .i64 0, .string { data := #[] }, .string { data := #[] }, .string { data := #[] }, .bool false, .slice none 0 0, .slice none 0 0], .bool false]) (res_ct (p := 4) (u := 5) rfl _ _ w.heap.size _ #[.int .i64 0, .string { data := #[] }, .string { data := #[] }, .string { data := #[] }, .bool false, .slice none 0 0, .slice none 0 0] _ _ rfl (setRow_heap _ _ _ _ _ _ (HBX.out _ A5.out)) Tryz.underlying26 rfl (by kernel_rfl)) rfl ?_
    exact ⟨gZ, rfl, rb_zero _, below_setRow (HFIN.out _ A5.out) (Nat.le_refl _) _⟩
  rw [show vE (L.map Prod.fst) = 0 from if_pos hV] at HCH
  cases hpl : place (L.map Prod.fst) 0 name with
  | none =>
    rw [hpl] at HPL
    unfold pI at HPL
    dsimp only at HPL
    have HR := Lib.hid (show findS (L.map Prod.fst) name = (Bf.zero, false) by unfold findS; rw [if_neg (not_not_intro hV), hpl])
    clear hV hpl
    go_enter Tryz.func24, Tryz.ntmps24
    go_upto_region 1 with fail
    rw [HW.out]
    go_wp2_with (first
      | (go_at_call 38; ((with_reducible refine (HPL.out _ (Below.refl _ _)).mono ?_); rintro e w4 ⟨rfl, rfl⟩))
      | (go_at_call 12; ((with_reducible refine (HCH.out _ (Below.refl _ _)).mono ?_); rintro e w5 ⟨rfl, hb⟩); have A5 := Lib.hid hb; clear hb)
      | (refine wpList_store_row rfl _ _ _ rfl w.heap.size #[.int .i64 0, .string { data := #[] }, .string { data := #[] }, .string { data := #[] }, .bool false, .slice none 0 0, .slice none 0 0] rfl rfl _ _ (HBX.out _ A5.out) (by kernel_rfl) rfl (by kernel_rfl) ?_))
    rw [HR.out]
    refine bodyPost_ret (v := .tuple #[.agg #[.int .i64 0, .string { data := #[] }, .string { data := #[] }, .string { data := #[] }, .bool false, .slice none 0 0, .slice none 0 0], .bool false]) (res_ct (p := 4) (u := 5) rfl _ _ w.heap.size _ #[.int .i64 0, .string { data := #[] }, .string { data := #[] }, .string { data := #[] }, .bool false, .slice none 0 0, .slice none 0 0] _ _ rfl (setRow_heap _ _ _ _ _ _ (HBX.out _ A5.out)) Tryz.underlying26 rfl (by kernel_rfl)) rfl ?_
    exact ⟨gZ, rfl, rb_zero _, below_setRow (HFIN.out _ A5.out) (Nat.le_refl _) _⟩
  | some i =>
    obtain ⟨b0, hb0, -, -, hi⟩ := bu.place_some hpl
    rw [List.length_map, HN.out] at hi
    obtain ⟨q, hq⟩ : ∃ q, L[i]? = some q := ⟨_, List.getElem?_eq_getElem (by rw [HN.out]; exact hi)⟩
    have HR := Lib.hid (show findS (L.map Prod.fst) name = (q.1, true) by unfold findS; rw [if_neg (not_not_intro hV), hpl]; dsimp only; rw [fst_at hq])
    obtain ⟨kb, off, rfl, hk, hc⟩ := BC.of (HF.out (ne_of_at hq))
    have HC := Lib.hid (fun (Y : World) (hy : Below W.heap.size W Y) => (show BC L kb off Y from hc.next hk hy))
    have HQ := Lib.hid hq
    rw [hpl] at HPL
    unfold pI at HPL
    dsimp only at HPL
    have d0 : decide ((i : Int) < 0) = false := decide_eq_false (by omega)
    have HQR := Lib.hid (fun (Y : World) (hy : Below w.heap.size w Y) => HRB.out Y hy q (List.mem_of_getElem? hq))
    clear hV hpl hb0 hq hk hc HF
    go_enter Tryz.func24, Tryz.ntmps24
    go_upto_region 1 with fail
    rw [HW.out]
    go_wp2_with (first
      | (go_at_call 38; ((with_reducible refine (HPL.out _ (Below.refl _ _)).mono ?_); rintro e w4 ⟨rfl, rfl⟩))
      | (go_at_call 12; ((with_reducible refine (HCH.out _ (Below.refl _ _)).mono ?_); rintro e w5 ⟨rfl, hb⟩); have A5 := Lib.hid hb; clear hb)
      | (refine wpList_load_mid rfl _ _ rfl kb (off + i * 7) rfl [.int .i64 q.1.job, .string (str q.1.name), .string (str q.1.user), .string (str q.1.pool), .bool q.1.opn, q.2.e, q.2.r] _ (HC.out _ A5.out i q HQ.out) Tryz.underlying26 rfl (by kernel_rfl) ?_)
      | (refine wpList_store_row rfl _ _ _ rfl w.heap.size #[.int .i64 q.1.job, .string (str q.1.name), .string (str q.1.user), .string (str q.1.pool), .bool q.1.opn, q.2.e, q.2.r] rfl rfl _ _ (HBX.out _ A5.out) (by kernel_rfl) rfl (all_of (bcs_one (HQR.out _ (HFIN.out _ A5.out)))) ?_))
    rw [HR.out]
    refine bodyPost_ret (v := .tuple #[.agg #[.int .i64 q.1.job, .string (str q.1.name), .string (str q.1.user), .string (str q.1.pool), .bool q.1.opn, q.2.e, q.2.r], .bool true]) (res_ct (p := 4) (u := 5) rfl _ _ w.heap.size _ #[.int .i64 q.1.job, .string (str q.1.name), .string (str q.1.user), .string (str q.1.pool), .bool q.1.opn, q.2.e, q.2.r] _ _ rfl (setRow_heap _ _ _ _ _ _ (HBX.out _ A5.out)) Tryz.underlying26 rfl (by kernel_rfl)) rfl ?_
    exact ⟨q.2, rfl, HQR.out _ (below_setRow (HFIN.out _ A5.out) (Nat.le_refl _) _), below_setRow (HFIN.out _ A5.out) (Nat.le_refl _) _⟩
set_option maxRecDepth 100000 in
set_option maxHeartbeats 6400000 in
theorem dOf_any {w : World} {v : Value} {L : List (Bf × Gb)} (h : RBs w v L) (hI : BIs L) (job : Int) :
    Calls Tryz.prog 26 #[v, .int .i64 job] w (BufT w (ofS (L.map Prod.fst) job).1 (ofS (L.map Prod.fst) job).2) := by
  obtain ⟨W, hW⟩ : ∃ W, w.alloc (.cells #[.int .i64 0, .string { data := #[] }, .string { data := #[] }, .string { data := #[] }, .bool false, .slice none 0 0, .slice none 0 0] 26) = W := ⟨_, rfl⟩
  have hbx : BoxA W w.heap.size 26 #[.int .i64 0, .string { data := #[] }, .string { data := #[] }, .string { data := #[] }, .bool false, .slice none 0 0, .slice none 0 0] := by rw [← hW]; exact BoxA.new _ _ _
  have hl : Below w.heap.size w W := by rw [← hW]; exact (Below.refl _ _).alloc (Nat.le_refl _) _
  have HCH := Lib.hid (fun (Y : World) (hy : Below W.heap.size W Y) => dCheckB_any ((h.next hl).next hy) hI)
  have HPL := Lib.hid (fun (Y : World) (hy : Below W.heap.size W Y) => dplace_any ((h.next hl).next hy) hI.len job [])
  have HRB := Lib.hid (fun (Y : World) (hy : Below w.heap.size w Y) => (h.next hy).rows)
  obtain ⟨p, c, rfl, f⟩ := (h.next hl).form
  obtain ⟨n, hn⟩ : ∃ n, L.length = n := ⟨_, rfl⟩
  rw [hn] at HCH HPL
  rw [hn]
  rw [show str ([] : List UInt8) = { data := #[] } from rfl] at HPL
  have HF := Lib.hid f
  have HN := Lib.hid hn
  have hn1 : n ≤ 140737488355328 := by rw [← hn]; exact hI.len
  have HL := Lib.hid hl
  have HW := Lib.hid hW
  have HBX := Lib.hid (fun (Y : World) (hy : Below W.heap.size W Y) => (show BoxA Y w.heap.size 26 #[.int .i64 0, .string { data := #[] }, .string { data := #[] }, .string { data := #[] }, .bool false, .slice none 0 0, .slice none 0 0] from hbx.next hy))
  have HFIN := Lib.hid (fun (Y : World) (hy : Below W.heap.size W Y) => (show Below w.heap.size w Y from hl.trans (hy.mono hl.size)))
  clear h hI hW hbx hl f hn
  by_cases hV : Valid (L.map Prod.fst)
  rotate_left
  · have HR := Lib.hid (show ofS (L.map Prod.fst) job = (Bf.zero, false) by unfold ofS; rw [if_pos (.inl hV)])
    rw [vE_no hV] at HCH
    obtain ⟨pv, hpv⟩ : ∃ pv, pI (place (L.map Prod.fst) job []) = pv := ⟨_, rfl⟩
    rw [hpv] at HPL
    clear hV hpv
    go_enter Tryz.func26, Tryz.ntmps26
    go_upto_region 1 with fail
    rw [HW.out]
    go_wp2_with (first
      | (go_at_call 38; ((with_reducible refine (HPL.out _ (Below.refl _ _)).mono ?_); rintro e w4 ⟨rfl, rfl⟩))
      | (go_at_call 12; ((with_reducible refine (HCH.out _ (Below.refl _ _)).mono ?_); rintro e w5 ⟨rfl, hb⟩); have A5 := Lib.hid hb; clear hb)
      | (refine wpList_store_row rfl _ _ _ rfl w.heap.size #[.int .i64 0, .string { data := #[] }, .string { data := #[] }, .string { data := #[] }, .bool false, .slice none 0 0, .slice none 0 0] rfl rfl _ _ (HBX.out _ A5.out) (by kernel_rfl) rfl (by kernel_rfl) ?_))
    rw [HR.out]
    refine bodyPost_ret (v := .tuple #[.agg #[.int .i64 0, .string { data := #[] }, .string { data := #[] }, .string { data := #[] }, .bool false, .slice none 0 0, .slice none 0 0], .bool false]) (res_ct (p := 4) (u := 5) rfl _ _ w.heap.size _ #[.int .i64 0, .string { data := #[] }, .string { data := #[] }, .string { data := #[] }, .bool false, .slice none 0 0, .slice none 0 0] _ _ rfl (setRow_heap _ _ _ _ _ _ (HBX.out _ A5.out)) Tryz.underlying26 rfl (by kernel_rfl)) rfl ?_
    exact ⟨gZ, rfl, rb_zero _, below_setRow (HFIN.out _ A5.out) (Nat.le_refl _) _⟩
  rw [show vE (L.map Prod.fst) = 0 from if_pos hV] at HCH
  by_cases hj : job = 0
  · have HR := Lib.hid (show ofS (L.map Prod.fst) job = (Bf.zero, false) by unfold ofS; rw [if_pos (.inr hj)])
    have dj : (job == 0) = true := by rw [beq_iff_eq]; exact hj
    obtain ⟨pv, hpv⟩ : ∃ pv, place (L.map Prod.fst) job [] = pv := ⟨_, rfl⟩
    rw [hpv] at HPL
    clear hV hpv hj
    cases pv with
    | some i0 =>
      unfold pI at HPL
      dsimp only at HPL
      have d0 : decide ((i0 : Int) < 0) = false := decide_eq_false (by omega)
      go_enter Tryz.func26, Tryz.ntmps26
      go_upto_region 1 with fail
      rw [HW.out]
      go_wp2_with (first
        | (go_at_call 38; ((with_reducible refine (HPL.out _ (Below.refl _ _)).mono ?_); rintro e w4 ⟨rfl, rfl⟩))
        | (go_at_call 12; ((with_reducible refine (HCH.out _ (Below.refl _ _)).mono ?_); rintro e w5 ⟨rfl, hb⟩); have A5 := Lib.hid hb; clear hb)
        | (refine wpList_store_row rfl _ _ _ rfl w.heap.size #[.int .i64 0, .string { data := #[] }, .string { data := #[] }, .string { data := #[] }, .bool false, .slice none 0 0, .slice none 0 0] rfl rfl _ _ (HBX.out _ A5.out) (by kernel_rfl) rfl (by kernel_rfl) ?_))
      rw [HR.out]
      refine bodyPost_ret (v := .tuple #[.agg #[.int .i64 0, .string { data := #[] }, .string { data := #[] }, .string { data := #[] }, .bool false, .slice none 0 0, .slice none 0 0], .bool false]) (res_ct (p := 4) (u := 5) rfl _ _ w.heap.size _ #[.int .i64 0, .string { data := #[] }, .string { data := #[] }, .string { data := #[] }, .bool false, .slice none 0 0, .slice none 0 0] _ _ rfl (setRow_heap _ _ _ _ _ _ (HBX.out _ A5.out)) Tryz.underlying26 rfl (by kernel_rfl)) rfl ?_
      exact ⟨gZ, rfl, rb_zero _, below_setRow (HFIN.out _ A5.out) (Nat.le_refl _) _⟩
    | none =>
      unfold pI at HPL
      dsimp only at HPL
      go_enter Tryz.func26, Tryz.ntmps26
      go_upto_region 1 with fail
      rw [HW.out]
      go_wp2_with (first
        | (go_at_call 38; ((with_reducible refine (HPL.out _ (Below.refl _ _)).mono ?_); rintro e w4 ⟨rfl, rfl⟩))
        | (go_at_call 12; ((with_reducible refine (HCH.out _ (Below.refl _ _)).mono ?_); rintro e w5 ⟨rfl, hb⟩); have A5 := Lib.hid hb; clear hb)
        | (refine wpList_store_row rfl _ _ _ rfl w.heap.size #[.int .i64 0, .string { data := #[] }, .string { data := #[] }, .string { data := #[] }, .bool false, .slice none 0 0, .slice none 0 0] rfl rfl _ _ (HBX.out _ A5.out) (by kernel_rfl) rfl (by kernel_rfl) ?_))
      rw [HR.out]
      refine bodyPost_ret (v := .tuple #[.agg #[.int .i64 0, .string { data := #[] }, .string { data := #[] }, .string { data := #[] }, .bool false, .slice none 0 0, .slice none 0 0], .bool false]) (res_ct (p := 4) (u := 5) rfl _ _ w.heap.size _ #[.int .i64 0, .string { data := #[] }, .string { data := #[] }, .string { data := #[] }, .bool false, .slice none 0 0, .slice none 0 0] _ _ rfl (setRow_heap _ _ _ _ _ _ (HBX.out _ A5.out)) Tryz.underlying26 rfl (by kernel_rfl)) rfl ?_
      exact ⟨gZ, rfl, rb_zero _, below_setRow (HFIN.out _ A5.out) (Nat.le_refl _) _⟩
  have dj : (job == 0) = false := by rw [beq_eq_false_iff_ne]; exact hj
  cases hpl : place (L.map Prod.fst) job [] with
  | none =>
    rw [hpl] at HPL
    unfold pI at HPL
    dsimp only at HPL
    have HR := Lib.hid (show ofS (L.map Prod.fst) job = (Bf.zero, false) by unfold ofS; rw [if_neg (by rintro (hh | hh); exact hh hV; exact hj hh), hpl])
    clear hV hpl hj
    go_enter Tryz.func26, Tryz.ntmps26
    go_upto_region 1 with fail
    rw [HW.out]
    go_wp2_with (first
      | (go_at_call 38; ((with_reducible refine (HPL.out _ (Below.refl _ _)).mono ?_); rintro e w4 ⟨rfl, rfl⟩))
      | (go_at_call 12; ((with_reducible refine (HCH.out _ (Below.refl _ _)).mono ?_); rintro e w5 ⟨rfl, hb⟩); have A5 := Lib.hid hb; clear hb)
      | (refine wpList_store_row rfl _ _ _ rfl w.heap.size #[.int .i64 0, .string { data := #[] }, .string { data := #[] }, .string { data := #[] }, .bool false, .slice none 0 0, .slice none 0 0] rfl rfl _ _ (HBX.out _ A5.out) (by kernel_rfl) rfl (by kernel_rfl) ?_))
    rw [HR.out]
    refine bodyPost_ret (v := .tuple #[.agg #[.int .i64 0, .string { data := #[] }, .string { data := #[] }, .string { data := #[] }, .bool false, .slice none 0 0, .slice none 0 0], .bool false]) (res_ct (p := 4) (u := 5) rfl _ _ w.heap.size _ #[.int .i64 0, .string { data := #[] }, .string { data := #[] }, .string { data := #[] }, .bool false, .slice none 0 0, .slice none 0 0] _ _ rfl (setRow_heap _ _ _ _ _ _ (HBX.out _ A5.out)) Tryz.underlying26 rfl (by kernel_rfl)) rfl ?_
    exact ⟨gZ, rfl, rb_zero _, below_setRow (HFIN.out _ A5.out) (Nat.le_refl _) _⟩
  | some i =>
    obtain ⟨b0, hb0, -, -, hi⟩ := bu.place_some hpl
    rw [List.length_map, HN.out] at hi
    obtain ⟨q, hq⟩ : ∃ q, L[i]? = some q := ⟨_, List.getElem?_eq_getElem (by rw [HN.out]; exact hi)⟩
    have HR := Lib.hid (show ofS (L.map Prod.fst) job = (q.1, true) by unfold ofS; rw [if_neg (by rintro (hh | hh); exact hh hV; exact hj hh), hpl]; dsimp only; rw [fst_at hq])
    obtain ⟨kb, off, rfl, hk, hc⟩ := BC.of (HF.out (ne_of_at hq))
    have HC := Lib.hid (fun (Y : World) (hy : Below W.heap.size W Y) => (show BC L kb off Y from hc.next hk hy))
    have HQ := Lib.hid hq
    rw [hpl] at HPL
    unfold pI at HPL
    dsimp only at HPL
    have d0 : decide ((i : Int) < 0) = false := decide_eq_false (by omega)
    have HQR := Lib.hid (fun (Y : World) (hy : Below w.heap.size w Y) => HRB.out Y hy q (List.mem_of_getElem? hq))
    clear hV hpl hb0 hq hk hc HF hj
    go_enter Tryz.func26, Tryz.ntmps26
    go_upto_region 1 with fail
    rw [HW.out]
    go_wp2_with (first
      | (go_at_call 38; ((with_reducible refine (HPL.out _ (Below.refl _ _)).mono ?_); rintro e w4 ⟨rfl, rfl⟩))
      | (go_at_call 12; ((with_reducible refine (HCH.out _ (Below.refl _ _)).mono ?_); rintro e w5 ⟨rfl, hb⟩); have A5 := Lib.hid hb; clear hb)
      | (refine wpList_load_mid rfl _ _ rfl kb (off + i * 7) rfl [.int .i64 q.1.job, .string (str q.1.name), .string (str q.1.user), .string (str q.1.pool), .bool q.1.opn, q.2.e, q.2.r] _ (HC.out _ A5.out i q HQ.out) Tryz.underlying26 rfl (by kernel_rfl) ?_)
      | (refine wpList_store_row rfl _ _ _ rfl w.heap.size #[.int .i64 q.1.job, .string (str q.1.name), .string (str q.1.user), .string (str q.1.pool), .bool q.1.opn, q.2.e, q.2.r] rfl rfl _ _ (HBX.out _ A5.out) (by kernel_rfl) rfl (all_of (bcs_one (HQR.out _ (HFIN.out _ A5.out)))) ?_))
    rw [HR.out]
    refine bodyPost_ret (v := .tuple #[.agg #[.int .i64 q.1.job, .string (str q.1.name), .string (str q.1.user), .string (str q.1.pool), .bool q.1.opn, q.2.e, q.2.r], .bool true]) (res_ct (p := 4) (u := 5) rfl _ _ w.heap.size _ #[.int .i64 q.1.job, .string (str q.1.name), .string (str q.1.user), .string (str q.1.pool), .bool q.1.opn, q.2.e, q.2.r] _ _ rfl (setRow_heap _ _ _ _ _ _ (HBX.out _ A5.out)) Tryz.underlying26 rfl (by kernel_rfl)) rfl ?_
    exact ⟨q.2, rfl, HQR.out _ (below_setRow (HFIN.out _ A5.out) (Nat.le_refl _) _), below_setRow (HFIN.out _ A5.out) (Nat.le_refl _) _⟩
end Go.Proofs.YtkjffoebcblpoaaGreat.gn
end
