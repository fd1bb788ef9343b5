/- The program's Split: fill, and the whole. -/
import Derived.Test.YtiaidlpceibnpaaLaQ
import Derived.Laws.MakeOwn
import Derived.Deep.RegionHeld3
set_option linter.unusedVariables false
set_option linter.unusedSimpArgs false
namespace Go.Proofs.Ytiaidlpceibnpaa.gn
open Go.RowKit
open Go.Proofs.Ytiaidlpceibnpaa.la (OkW Qy tot cut fill)

/-- A row of the call's own of which the first cells are told. -/
structure FilW (w : World) (g n : Nat) (D : List Int) (Y : World) : Prop where
  row : ∃ cs : Array Value, Y.heap[g]? = some (.cells cs 2 (0, 0)) ∧ cs.size = n ∧ ∀ (j : Nat) (x : Int), D[j]? = some x → cs[j]? = some (.int .i64 x)
  low : Below w.heap.size w Y
theorem FilW.at {w : World} {g n : Nat} {D : List Int} {Y : World} (h : FilW w g n D Y) {j : Nat} (hj : j < n) : (∃ u, Y.cell? ⟨g, j, none⟩ = some u) ∧ Y.frozen? ⟨g, j, none⟩ = false ∧ g < Y.heap.size := by
  obtain ⟨cs, h1, h2, h3⟩ := h.row
  have hlt : j < cs.size := by omega
  exact ⟨⟨cs[j], by simp [World.cell?, h1, Array.getElem?_eq_getElem hlt]⟩, by simp [World.frozen?, h1], (Array.getElem?_eq_some_iff.1 h1).1⟩
theorem FilW.cell {w : World} {g n : Nat} {D : List Int} {Y : World} (h : FilW w g n D Y) {j : Nat} {x : Int} (hj : D[j]? = some x) : Y.cell? ⟨g, j, none⟩ = some (.int .i64 x) := by
  obtain ⟨cs, h1, h2, h3⟩ := h.row
  simp [World.cell?, h1, h3 j x hj]
theorem FilW.put {w : World} {g n i : Nat} {D : List Int} {Y : World} (h : FilW w g n D Y) (hg : w.heap.size ≤ g) (hD : D.length = i) (hi : i < n) (x : Int) : FilW w g n (D ++ [x]) (Y.setCell ⟨g, i, none⟩ (.int .i64 x)) := by
  obtain ⟨cs, h1, h2, h3⟩ := h.row
  refine ⟨⟨_, heap_setCell h1 _, by rw [Array.size_setIfInBounds]; exact h2, fun j y hj => ?_⟩, h.low.setCell hg _⟩
  rcases Nat.lt_trichotomy j i with hlt | he | hgt
  · rw [Array.getElem?_setIfInBounds_ne (by omega)]
    rw [List.getElem?_append_left (by omega)] at hj
    exact h3 j y hj
  · subst he
    rw [List.getElem?_append_right (by omega), hD, Nat.sub_self] at hj
    simp only [List.getElem?_cons_zero, Option.some.injEq] at hj
    subst hj
    rw [Array.getElem?_setIfInBounds_self_of_lt (by omega)]
  · rw [List.getElem?_eq_none (by rw [List.length_append, List.length_singleton]; omega)] at hj
    cases hj
theorem FilW.over {w : World} {g n i : Nat} {D : List Int} {y : Int} {Y : World} (h : FilW w g n (D ++ [y]) Y) (hg : w.heap.size ≤ g) (hD : D.length = i) (hi : i < n) (x : Int) : FilW w g n (D ++ [x]) (Y.setCell ⟨g, i, none⟩ (.int .i64 x)) := by
  refine FilW.put ⟨?_, h.low⟩ hg hD hi x
  obtain ⟨cs, h1, h2, h3⟩ := h.row
  refine ⟨cs, h1, h2, fun j z hj => h3 j z ?_⟩
  rw [List.getElem?_append_left (List.getElem?_eq_some_iff.1 hj).1]
  exact hj
theorem FilW.drewN {w : World} {g n : Nat} {D : List Int} {Y : World} (h : FilW w g n D Y) (q : Nat) : FilW w g n D (Y.drewN q) := ⟨h.row, bel_drewN h.low⟩
theorem FilW.ri {w : World} {g n : Nat} {D : List Int} {Y : World} (h : FilW w g n D Y) (hD : D.length = n) : RI Y (.slice (some ⟨g, 0, none⟩) n n) D := by
  obtain ⟨cs, h1, h2, h3⟩ := h.row
  refine .inr ⟨g, 0, n, by rw [hD], (Array.getElem?_eq_some_iff.1 h1).1, fun j u hu => ?_⟩
  have hj := (List.getElem?_eq_some_iff.1 hu).1
  rw [ics_len] at hj
  rw [ics_at (List.getElem?_eq_getElem hj)] at hu
  rw [← hu, Nat.zero_add]
  simp [World.cell?, h1, h3 j _ (List.getElem?_eq_getElem hj)]
theorem fill_yes {v r x : Int} {l : List Int} (h : v < x) (hr : 0 < r) : fill v r (x :: l) = (v + 1) :: fill v (r - 1) l := by
  unfold la.fill
  rw [if_pos ⟨h, hr⟩]
  cases l <;> rfl
theorem fill_no {v r x : Int} {l : List Int} (h : ¬ (v < x ∧ 0 < r)) : fill v r (x :: l) = min x v :: fill v r l := by
  conv => lhs; unfold la.fill
  rw [if_neg h]
theorem drop_at {l : List Int} {i : Nat} {x : Int} (h : l[i]? = some x) : l.drop i = x :: l.drop (i + 1) := by
  obtain ⟨hl, rfl⟩ := List.getElem?_eq_some_iff.1 h
  exact List.drop_eq_getElem_cons hl
set_option maxRecDepth 100000 in
set_option maxHeartbeats 6400000 in
theorem fill_any {w : World} {l : List Int} {c n : Nat} {p : Option Addr} {v r0 : Int} (hn : l.length = n) (hf : l ≠ [] → IAt w p l) (hq : ∀ x ∈ l, Qy x) (h1000 : n ≤ 1000) (hv0 : 0 ≤ v) (hv1 : v ≤ 1099511627776) (hr0 : 0 ≤ r0) (hr1 : r0 ≤ 1099511627776) :
    Calls Try.prog 13 #[.slice p n c, .int .i64 v, .int .i64 r0] w fun e w' => ∃ u, e = .returned u ∧ RI w' u (fill v r0 l) ∧ Below w.heap.size w w' := by
  obtain ⟨i0, hi, hz0, hz1, hz2⟩ := eltI64.inf
  obtain ⟨M, hM⟩ : ∃ M, M = madeCells (Value.int .i64 0).cells n := ⟨_, rfl⟩
  have hms : M.size = n := by rw [hM]; simp [madeCells, Value.cells]
  have hmk : ∀ W : World, (Instr.makeSlice 22 (.int .i64 (n : Int)) (.int .i64 (n : Int))).run Try.prog W = .ok (.slice (some ⟨W.heap.size, 0, none⟩) n n) (W.alloc (.cells M 2)) := fun W => by
    have h := run_make (P := Try.prog) W 22 2 i0 (.int .i64 0) Try.underlying22 hi hz0 .i64 .i64 n n (by omega) (by omega) (by rw [hz2]; omega) (by omega)
    rw [hz1] at h
    rw [hM]
    simpa using h
  obtain ⟨W1, hW1⟩ : ∃ W1, w.alloc (.cells M 2) = W1 := ⟨_, rfl⟩
  have HF0 := Lib.hid (show FilW w w.heap.size n [] W1 by rw [← hW1]; exact ⟨⟨M, heap_alloc_new _ _, hms, fun j x hj => by simp at hj⟩, (Below.refl _ _).alloc (Nat.le_refl _) _⟩)
  have HF := Lib.hid hf
  have HN := Lib.hid hn
  have HQ := Lib.hid hq
  have HW1 := Lib.hid hW1
  clear hn hf hq hW1 hz0 hz1 hz2 hi i0 hM hms
  go_enter Try.func13, Try.ntmps13
  go_upto_region 3 with fail
  rw [HW1.out]
  clear hmk
  go_loopw [2, 14] (fun s2 s14 wr => ∃ (i : Nat) (r : Int), s2 = .int .i64 r ∧ s14 = .int .i64 (i : Nat) ∧ i ≤ n ∧ 0 ≤ r ∧ r ≤ 1099511627776 ∧ Aside (∃ D, D.length = i ∧ fill v r0 l = D ++ fill v r (l.drop i) ∧ FilW w w.heap.size n D wr)) (fun _ s14 _ => n - (intOf s14).toNat)
  case atStart => exact ⟨0, r0, rfl, rfl, Nat.zero_le _, hr0, hr1, [], rfl, by simp, HF0.out⟩
  case round =>
  obtain ⟨i, r, rfl, rfl, hi, hra, hrb, hrow⟩ := hrel
  obtain ⟨D, hD, hfl, hfw⟩ := (show ∃ D, D.length = i ∧ fill v r0 l = D ++ fill v r (l.drop i) ∧ FilW w w.heap.size n D wr from hrow)
  have HD := Lib.hid hD
  have HFL := Lib.hid hfl
  have HFW := Lib.hid hfw
  clear hrow hD hfl hfw
  obtain ⟨wo, hwo⟩ : ∃ wo, wo = wr := ⟨_, rfl⟩
  subst hwo
  by_cases hin : i < n
  · obtain ⟨x, hx⟩ : ∃ x, l[i]? = some x := ⟨_, List.getElem?_eq_getElem (by rw [HN.out]; exact hin)⟩
    obtain ⟨k, off, rfl, hk, hc⟩ := HF.out (ne_of_at hx)
    have HCC := Lib.hid (fun (Y : World) (hy : Below w.heap.size w Y) => (low_cell hy hk).trans (hc i x hx))
    have c0 := HCC.out _ HFW.out.low
    have lk : k < wo.heap.size := Nat.lt_of_lt_of_le hk HFW.out.low.size
    have hkg : k ≠ w.heap.size := by omega
    obtain ⟨⟨u0, hu0⟩, fu0, lu0⟩ := HFW.out.at hin
    have hxq := HQ.out x (List.mem_of_getElem? hx)
    obtain ⟨hx0, hx1⟩ := hxq
    have HDR := Lib.hid (drop_at hx)
    clear hx hc hk
    by_cases hvx : v < x
    · have hmin : min x v = v := by omega
      by_cases hr : 0 < r
      · have HP1 := Lib.hid (HFW.out.put (Nat.le_refl _) HD.out hin v)
        have HS := Lib.hid (show fill v r0 l = (D ++ [v + 1]) ++ fill v (r - 1) (l.drop (i + 1)) by rw [HFL.out, HDR.out, fill_yes hvx hr, List.append_assoc]; rfl)
        have HL := Lib.hid (show (D ++ [v + 1]).length = i + 1 by rw [List.length_append, HD.out]; rfl)
        have q1 : decide (v < x) = true := decide_eq_true hvx
        have q2 : decide (0 < r) = true := decide_eq_true hr
        go_upto_region 6 with fail
        obtain ⟨w2, hw2⟩ : ∃ w2, wo.setCell ⟨w.heap.size, i, none⟩ (.int .i64 v) = w2 := ⟨_, rfl⟩
        rw [hw2] at HP1 ⊢
        clear hw2 c0 lk hu0 fu0 lu0 u0
        have c0 := HCC.out _ HP1.out.low
        have c1 : w2.cell? ⟨w.heap.size, i, none⟩ = some (.int .i64 v) := HP1.out.cell (by rw [List.getElem?_append_right (by rw [HD.out]; exact Nat.le_refl _), HD.out, Nat.sub_self]; rfl)
        obtain ⟨_, fu0, lu0⟩ := HP1.out.at hin
        go_wp2_with (go_quiet (fail))
        go_roundw
        case rel => exact ⟨i + 1, r - 1, rfl, by go_num, by omega, by omega, by omega, _, HL.out, HS.out, by first | exact (HP1.out.drewN _).over (Nat.le_refl _) HD.out hin (v + 1) | exact (HP1.out.over (Nat.le_refl _) HD.out hin (v + 1)).drewN _⟩
        case measure => simp [intOf]; omega
      · have HP1 := Lib.hid (HFW.out.put (Nat.le_refl _) HD.out hin v)
        have HS := Lib.hid (show fill v r0 l = (D ++ [v]) ++ fill v r (l.drop (i + 1)) by rw [HFL.out, HDR.out, fill_no (fun h => hr h.2), hmin, List.append_assoc]; rfl)
        have HL := Lib.hid (show (D ++ [v]).length = i + 1 by rw [List.length_append, HD.out]; rfl)
        have q1 : decide (v < x) = true := decide_eq_true hvx
        have q2 : decide (0 < r) = false := decide_eq_false hr
        go_upto_region 6 with fail
        obtain ⟨w2, hw2⟩ : ∃ w2, wo.setCell ⟨w.heap.size, i, none⟩ (.int .i64 v) = w2 := ⟨_, rfl⟩
        rw [hw2] at HP1 ⊢
        clear hw2 c0 lk hu0 fu0 lu0 u0
        have c0 := HCC.out _ HP1.out.low
        have c1 : w2.cell? ⟨w.heap.size, i, none⟩ = some (.int .i64 v) := HP1.out.cell (by rw [List.getElem?_append_right (by rw [HD.out]; exact Nat.le_refl _), HD.out, Nat.sub_self]; rfl)
        obtain ⟨_, fu0, lu0⟩ := HP1.out.at hin
        go_wp2_with (go_quiet (fail))
        go_roundw
        case rel => exact ⟨i + 1, r, rfl, by go_num, by omega, by omega, by omega, _, HL.out, HS.out, HP1.out.drewN _⟩
        case measure => simp [intOf]; omega
    · have hmin : min x v = x := by omega
      have HP1 := Lib.hid (HFW.out.put (Nat.le_refl _) HD.out hin x)
      have HS := Lib.hid (show fill v r0 l = (D ++ [x]) ++ fill v r (l.drop (i + 1)) by rw [HFL.out, HDR.out, fill_no (fun h => hvx h.1), hmin, List.append_assoc]; rfl)
      have HL := Lib.hid (show (D ++ [x]).length = i + 1 by rw [List.length_append, HD.out]; rfl)
      have q1 : decide (x < x) = false := decide_eq_false (by omega)
      go_upto_region 6 with fail
      obtain ⟨w2, hw2⟩ : ∃ w2, wo.setCell ⟨w.heap.size, i, none⟩ (.int .i64 x) = w2 := ⟨_, rfl⟩
      rw [hw2] at HP1 ⊢
      clear hw2 c0 lk hu0 fu0 lu0 u0
      have c0 := HCC.out _ HP1.out.low
      have c1 : w2.cell? ⟨w.heap.size, i, none⟩ = some (.int .i64 x) := HP1.out.cell (by rw [List.getElem?_append_right (by rw [HD.out]; exact Nat.le_refl _), HD.out, Nat.sub_self]; rfl)
      obtain ⟨_, fu0, lu0⟩ := HP1.out.at hin
      go_wp2_with (go_quiet (fail))
      go_roundw
      case rel => exact ⟨i + 1, r, rfl, by go_num, by omega, by omega, by omega, _, HL.out, HS.out, HP1.out.drewN _⟩
      case measure => simp [intOf]; omega
  · obtain rfl : i = n := by omega
    have HR := Lib.hid (show RI wo (.slice (some ⟨w.heap.size, 0, none⟩) i i) (fill v r0 l) by
      have h : fill v r0 l = D := by rw [HFL.out, List.drop_of_length_le (by rw [HN.out]; exact Nat.le_refl _)]; unfold la.fill; simp
      rw [h]
      exact HFW.out.ri HD.out)
    go_wp2
    go_ret
    exact ⟨_, rfl, HR.out, HFW.out.low⟩

set_option maxRecDepth 100000 in
set_option maxHeartbeats 6400000 in
theorem split_any : SplitC := by
  intro w v l hr h64 hlen T hT
  obtain ⟨p, c, rfl, hf⟩ := hr.form
  have HR := Lib.hid hr
  obtain ⟨n, hn⟩ : ∃ n, l.length = n := ⟨_, rfl⟩
  rw [hn] at HR ⊢
  obtain ⟨W, hW⟩ : ∃ W, w.alloc (.cells #[.slice p n c] 22) = W := ⟨_, rfl⟩
  have hbx : BoxA W w.heap.size 22 #[.slice p n c] := by rw [← hW]; exact BoxA.new _ _ _
  have hb : Below w.heap.size w W := by rw [← hW]; exact (Below.refl _ _).alloc (Nat.le_refl _) _
  have hfW : l ≠ [] → IAt W p l := fun h => by
    obtain ⟨k, off, h1, h2, h3⟩ := hf h
    exact ⟨k, off, h1, Nat.lt_of_lt_of_le h2 hb.size, fun j x hx => (low_cell hb h2).trans (h3 j x hx)⟩
  have b0 := BoxA.cell hbx 0 (.slice p n c)
  have hRW : RI W (.slice p n c) l := RI.next hr hb |> fun h => by rw [hn] at h; exact h
  have HQS := Lib.hid (lquantities_any hRW hlen)
  have HBX := Lib.hid hbx
  have HB := Lib.hid hb
  have HFW := Lib.hid hfW
  have HN := Lib.hid hn
  have HWW := Lib.hid hW
  have HT := Lib.hid hT
  have hn2 : n ≤ 140737488355328 := by omega
  clear hr hf hn hW hbx hb hfW hRW hT h64 hlen
  by_cases h1000 : n ≤ 1000
  rotate_left
  · have q0 : decide ((1000 : Int) < (n : Int)) = true := decide_eq_true (by omega)
    have q1 : decide (1000 < n) = true := decide_eq_true (by omega)
    go_enter Try.func7, Try.ntmps7
    go_upto_region 1 with fail
    rw [HWW.out]
    go_wp2
    go_ret2
    exact ⟨_, [], 2, rfl, ri_nil _, HB.out, .inr ⟨fun h => by have := h.1; rw [HN.out] at this; omega, rfl, rfl⟩⟩
  have q0 : decide ((1000 : Int) < (n : Int)) = false := decide_eq_false (by omega)
  have q1 : decide (1000 < n) = false := decide_eq_false (by omega)
  by_cases hqs : ∀ x ∈ l, Qy x
  rotate_left
  · rw [decide_eq_false hqs] at HQS
    have HNO := Lib.hid (show ¬ OkW T l from fun h => hqs h.2.2)
    clear hqs
    go_enter Try.func7, Try.ntmps7
    go_upto_region 1 with fail
    rw [HWW.out]
    go_wp2_with (go_at_call 9; ((with_reducible refine HQS.out.mono ?_); rintro e w' ⟨rfl, hw⟩; cases hw))
    go_ret2
    exact ⟨_, [], 2, rfl, ri_nil _, HB.out, .inr ⟨HNO.out, rfl, rfl⟩⟩
  rw [decide_eq_true hqs] at HQS
  have HQQ := Lib.hid hqs
  clear hqs
  have HQT := Lib.hid (fun w' => lquantity_any T w')
  by_cases hqt : Qy T
  rotate_left
  · rw [decide_eq_false hqt] at HQT
    have HNO := Lib.hid (show ¬ OkW T l from fun h => hqt h.2.1)
    clear hqt
    go_enter Try.func7, Try.ntmps7
    go_upto_region 1 with fail
    rw [HWW.out]
    go_wp2_with (first
      | (go_at_call 9; ((with_reducible refine HQS.out.mono ?_); rintro e w' ⟨rfl, hw⟩; cases hw))
      | (go_at_call 10; ((with_reducible refine (HQT.out _).mono ?_); rintro e w' ⟨rfl, hw⟩; cases hw)))
    go_ret2
    exact ⟨_, [], 2, rfl, ri_nil _, HB.out, .inr ⟨HNO.out, rfl, rfl⟩⟩
  rw [decide_eq_true hqt] at HQT
  obtain ⟨hT0, hT1⟩ := hqt
  have HOK := Lib.hid (show OkW T l from ⟨by rw [HN.out]; exact h1000, ⟨hT0, hT1⟩, HQQ.out⟩)
  have HHI := Lib.hid (highest_any HBX.out HN.out HFW.out HQQ.out h1000 hT0)
  go_enter Try.func7, Try.ntmps7
  go_upto_region 1 with fail
  rw [HWW.out]
  go_upto_region 5 with (first
      | (go_at_call 9; ((with_reducible refine HQS.out.mono ?_); rintro e w' ⟨rfl, hw⟩; cases hw))
      | (go_at_call 10; ((with_reducible refine (HQT.out _).mono ?_); rintro e w' ⟨rfl, hw⟩; cases hw))
      | (go_at_call 12; ((with_reducible refine HHI.out.mono ?_); rintro e w' hh; obtain ⟨lv, rfl, hw, h0, h1, h2, h3⟩ := hh; cases hw)))
  obtain ⟨s, hs⟩ : ∃ s, tot (cut lv l) = s := ⟨_, rfl⟩
  have hs0 : 0 ≤ s := by rw [← hs]; exact (cut_bd lv h0 l HQQ.out).1
  have HTK := Lib.hid (fun (Y : World) (hy : Below W.heap.size W Y) => takes_any (HBX.out.next hy) HN.out (fun h => by
    obtain ⟨k, off, h1, h2, h3⟩ := HFW.out h
    exact ⟨k, off, h1, Nat.lt_of_lt_of_le h2 hy.size, fun j x hx => (low_cell hy h2).trans (h3 j x hx)⟩) HQQ.out h1000 h0 h1)
  rw [hs] at HTK h2
  have hw : IntKind.i64.wrap (T - s) = T - s := by rw [IntKind.wrap_i64]; omega
  have HFI := Lib.hid (fun (Y : World) (hy : Below W.heap.size W Y) => fill_any (w := Y) (c := c) (p := p) (v := lv) (r0 := T - s) HN.out (fun h => by
    obtain ⟨k, off, h1, h2, h3⟩ := HFW.out h
    exact ⟨k, off, h1, Nat.lt_of_lt_of_le h2 hy.size, fun j x hx => (low_cell hy h2).trans (h3 j x hx)⟩) HQQ.out h1000 h0 h1 (by omega) (by omega))
  have HFA := Lib.hid (show la.Fair T l (fill lv (T - s) l) by
    rw [← hs]
    refine la.fair_fill h0 (fun x hx => (HQQ.out x hx).1) (by rw [hs]; exact h2) ?_
    rcases h3 with h3 | h3
    · exact .inl fun x hx => by rw [h3]; exact (HQQ.out x hx).2
    · exact .inr h3)
  clear hs h3
  go_region_held3 (fun Y => Y.cell? ⟨w.heap.size, 0, none⟩ = some (.slice p n c)) (first | assumption | exact c9 | exact (low_cell (drew_lowB _) (BoxA.lt HBX.out)).trans b0) (first
    | (go_at_call 11; ((with_reducible refine (HTK.out _ (by first | exact Below.refl _ _ | exact drew_lowB _)).mono ?_); rintro e w' ⟨rfl, hw'⟩; cases hw'))
    | (go_at_call 13; ((with_reducible refine (HFI.out _ (by first | exact Below.refl _ _ | exact drew_lowB _)).mono ?_); rintro e w9 ⟨u9, rfl, hr9, hb9⟩; have HR9 := Lib.hid hr9; have HB9 := Lib.hid (show Below W.heap.size W w9 from by first | exact hb9 | exact (drew_lowB W).trans hb9); have c9 : w9.cell? ⟨w.heap.size, 0, none⟩ = some (.slice p n c) := (low_cell HB9.out (BoxA.lt HBX.out)).trans b0; clear hr9 hb9)))
  all_goals
    go_wp2
    go_ret2
    exact ⟨u9, _, 0, rfl, HR9.out, HB.out.trans (HB9.out.mono HB.out.size), .inl ⟨HOK.out, rfl, HFA.out⟩⟩
end Go.Proofs.Ytiaidlpceibnpaa.gn
