/- The law LanesEven, over what Split answers. -/
import Derived.Test.YtiaidlpceibnpaaLaP
import Derived.Laws.MakeOwn
set_option linter.unusedVariables false
set_option linter.unusedSimpArgs false
namespace Go.Proofs.Ytiaidlpceibnpaa.gn
open Go.RowKit
open Go.Proofs.Ytiaidlpceibnpaa.la (OkW Qy tot)

/-- Where the row of equal wants stands. -/
structure FillW (w : World) (g k : Nat) (want : Int) (i : Nat) (Y : World) : Prop where
  row : ∃ cs : Array Value, Y.heap[g]? = some (.cells cs 2 (0, 0)) ∧ cs.size = k ∧ ∀ j, j < i → cs[j]? = some (.int .i64 want)
  low : Below w.heap.size w Y
theorem FillW.at {w : World} {g k i : Nat} {want : Int} {Y : World} (h : FillW w g k want i Y) {j : Nat} (hj : j < k) : (∃ u, Y.cell? ⟨g, j, none⟩ = some u) ∧ Y.frozen? ⟨g, j, none⟩ = false ∧ g < Y.heap.size := by
  obtain ⟨cs, h1, h2, h3⟩ := h.row
  have hlt : j < cs.size := by omega
  exact ⟨⟨cs[j], by simp [World.cell?, h1, Array.getElem?_eq_getElem hlt]⟩, by simp [World.frozen?, h1], (Array.getElem?_eq_some_iff.1 h1).1⟩
theorem FillW.step {w : World} {g k i : Nat} {want : Int} {Y : World} (h : FillW w g k want i Y) (hg : w.heap.size ≤ g) (hi : i < k) : FillW w g k want (i + 1) (Y.setCell ⟨g, i, none⟩ (.int .i64 want)) := by
  obtain ⟨cs, h1, h2, h3⟩ := h.row
  refine ⟨⟨_, heap_setCell h1 _, by rw [Array.size_setIfInBounds]; exact h2, fun j hj => ?_⟩, h.low.setCell hg _⟩
  by_cases he : j = i
  · subst he
    rw [Array.getElem?_setIfInBounds_self_of_lt (by omega)]
  · rw [Array.getElem?_setIfInBounds_ne (fun e => he e.symm)]
    exact h3 j (by omega)
theorem FillW.ri {w : World} {g k : Nat} {want : Int} {Y : World} (h : FillW w g k want k Y) : RI Y (.slice (some ⟨g, 0, none⟩) k k) (List.replicate k want) := by
  obtain ⟨cs, h1, h2, h3⟩ := h.row
  refine .inr ⟨g, 0, k, by rw [List.length_replicate], (Array.getElem?_eq_some_iff.1 h1).1, fun j u hu => ?_⟩
  have hj := (List.getElem?_eq_some_iff.1 hu).1
  rw [ics_len, List.length_replicate] at hj
  rw [ics_at (n := want) (by rw [List.getElem?_replicate, if_pos hj])] at hu
  rw [← hu, Nat.zero_add]
  simp [World.cell?, h1, h3 j hj]
theorem tot_take {a : List Int} {i : Nat} {x : Int} (hx : a[i]? = some x) : tot (a.take (i + 1)) = tot (a.take i) + x := by
  rw [la_take_at hx, la.tot_app]
  simp [tot]
theorem tot_part : ∀ (a : List Int) (i : Nat), (∀ (k : Nat) (x : Int), a[k]? = some x → 0 ≤ x) → 0 ≤ tot (a.take i) ∧ tot (a.take i) ≤ tot a
  | [], i, _ => by simp [tot]
  | x :: a, 0, h => by
    have := tot_part a 0 fun k y hy => h (k + 1) y hy
    have h0 := h 0 x rfl
    simp [tot] at this ⊢
    omega
  | x :: a, i + 1, h => by
    have := tot_part a i fun k y hy => h (k + 1) y hy
    have h0 := h 0 x rfl
    simp only [List.take_succ_cons, tot]
    omega
set_option maxRecDepth 100000 in
set_option maxHeartbeats 16000000 in
theorem even_law (SC : SplitC) (w : World) (T want : Int) (nn : Nat) (hT : i64 T) (hw : i64 want) (hn : nn ≤ 255) :
    Calls Try.prog 4 #[.int .i64 T, .int .i64 want, .int .u8 nn] w (TellsM (.bool true) w) := by
  obtain ⟨k, hk⟩ : ∃ k, nn % 60 = k := ⟨_, rfl⟩
  have hk60 : k < 60 := by omega
  have hkk : (nn : Int) % 60 = (k : Int) := by omega
  obtain ⟨i0, hi, hz0, hz1, hz2⟩ := eltI64.inf
  obtain ⟨M, hM⟩ : ∃ M, M = madeCells (Value.int .i64 0).cells k := ⟨_, rfl⟩
  have hms : M.size = k := by rw [hM]; simp [madeCells, Value.cells]
  have hmk : ∀ W : World, (Instr.makeSlice 22 (.int .i64 (k : Int)) (.int .i64 (k : Int))).run Try.prog W = .ok (.slice (some ⟨W.heap.size, 0, none⟩) k k) (W.alloc (.cells M 2)) := fun W => by
    have h := run_make (P := Try.prog) W 22 2 i0 (.int .i64 0) Try.underlying22 hi hz0 .i64 .i64 k k (by omega) (by omega) (by rw [hz2]; omega) (by omega)
    rw [hz1] at h
    rw [hM]
    simpa using h
  obtain ⟨W1, hW1⟩ : ∃ W1, w.alloc (.cells M 2) = W1 := ⟨_, rfl⟩
  have HF0 := Lib.hid (show FillW w w.heap.size k want 0 W1 by rw [← hW1]; exact ⟨⟨M, heap_alloc_new _ _, hms, fun j hj => absurd hj (Nat.not_lt_zero j)⟩, (Below.refl _ _).alloc (Nat.le_refl _) _⟩)
  have HT := Lib.hid hT
  have HWW := Lib.hid hw
  have HW1 := Lib.hid hW1
  clear hT hw hW1 hz0 hz1 hz2 hi i0 hM hms
  go_enter Try.func4, Try.ntmps4
  go_upto_region 4 with fail
  rw [HW1.out]
  clear hmk hkk hk
  go_loopw [9] (fun s9 wr => ∃ i : Nat, s9 = .int .i64 (i : Nat) ∧ i ≤ k ∧ Aside (FillW w w.heap.size k want i wr)) (fun s9 _ => k - (intOf s9).toNat)
  case atStart => exact ⟨0, rfl, Nat.zero_le _, HF0.out⟩
  case round =>
  obtain ⟨i, rfl, hi, hrow⟩ := hrel
  have HF := Lib.hid (show FillW w w.heap.size k want i wr from hrow)
  clear hrow
  by_cases hin : i < k
  · obtain ⟨⟨u0, hu0⟩, fu0, lu0⟩ := HF.out.at hin
    have HS := Lib.hid (HF.out.step (Nat.le_refl _) hin)
    go_wp2
    go_roundw
    case rel => exact ⟨i + 1, by go_num, by omega, HS.out⟩
    case measure => simp [intOf]; omega
  have hin2 : k = i := by omega
  subst hin2
  clear hin hi
  have HB1 := Lib.hid HF.out.low
  have HSP := Lib.hid (SC HF.out.ri (fun x hx => by rw [(List.mem_replicate.1 hx).2]; exact HWW.out) (by rw [List.length_replicate]; omega) T HT.out)
  obtain ⟨w2, hw2⟩ : ∃ w2, w2 = wr := ⟨_, rfl⟩
  subst hw2
  go_upto_region 8 with (go_at_call 7; ((with_reducible refine HSP.out.mono ?_); rintro e w3 hq); obtain ⟨v3, a, E, rfl, hr, hb, hc⟩ := hq; have HR3 := Lib.hid hr; have HB3 := Lib.hid (show Below w.heap.size w w3 from HB1.out.trans (hb.mono HB1.out.size)); have HC3 := Lib.hid hc; clear hr hb hc)
  obtain ⟨pa, ca, hva, hfa⟩ := HR3.out.form
  obtain ⟨na, hna⟩ : ∃ n, a.length = n := ⟨_, rfl⟩
  rw [hna] at hva
  subst hva
  rcases HC3.out with ⟨hok, hE, hfair⟩ | ⟨hno, hE, ha0⟩
  rotate_left
  · subst hE
    obtain rfl : na = 0 := by rw [← hna, ha0]; rfl
    clear hno ha0 hfa hna
    go_wp2_with (go_at_call 6; ((with_reducible refine (laHead_any SC _).mono ?_); rintro e w4 ⟨rfl, hb⟩); have HB4 := Lib.hid (HB3.out.trans (hb.mono HB3.out.size)); clear hb)
    go_ret
    exact ⟨rfl, HB4.out⟩
  subst hE
  obtain rfl : na = k := by rw [← hna, hfair.len, List.length_replicate]
  by_cases hk0 : na = 0
  · subst hk0
    clear hok hfair hfa hna
    go_wp2_with (go_at_call 6; ((with_reducible refine (laHead_any SC _).mono ?_); rintro e w4 ⟨rfl, hb⟩); have HB4 := Lib.hid (HB3.out.trans (hb.mono HB3.out.size)); clear hb)
    go_ret
    exact ⟨rfl, HB4.out⟩
  have hk1 : 0 < na := by omega
  clear hk0
  obtain ⟨ka, off, rfl, hka, hca⟩ := hfa (by intro e; rw [e] at hna; simp at hna; omega)
  have HNA := Lib.hid hna
  have HFA := Lib.hid hfair
  have HQT := Lib.hid hok.2.1
  have HCA := Lib.hid (fun (Y : World) (hy : Below w3.heap.size w3 Y) (j : Nat) (x : Int) (hx : a[j]? = some x) => (show Y.cell? ⟨ka, off + j, none⟩ = some (.int .i64 x) from (low_cell hy hka).trans (hca j x hx)))
  have HLK := Lib.hid (fun (Y : World) (hy : Below w3.heap.size w3 Y) => (show ka < Y.heap.size from Nat.lt_of_lt_of_le hka hy.size))
  have HQA := Lib.hid (show ∀ x ∈ a, Qy x from fun x hx => by
    obtain ⟨j, hj⟩ := List.mem_iff_getElem?.1 hx
    obtain ⟨y, hy⟩ := la.at_len hfair.len hj
    have h1 := hfair.most j x y hj hy
    have h2 := hok.2.2 y (List.mem_of_getElem? hy)
    exact ⟨hfair.pos j x hj, Int.le_trans h1 h2.2⟩)
  have HST := Lib.hid (show tot a ≤ 1099511627776 ∧ tot a ≤ T from ⟨Int.le_trans hfair.sum hok.2.1.2, hfair.sum⟩)
  have HPT := Lib.hid (fun i => tot_part a i hfair.pos)
  obtain ⟨m, hm⟩ : ∃ m, na = m + 1 := ⟨na - 1, by omega⟩
  obtain ⟨x0, hx0⟩ : ∃ x, a[0]? = some x := ⟨_, List.getElem?_eq_getElem (by omega)⟩
  obtain ⟨xm, hxm⟩ : ∃ x, a[m]? = some x := ⟨_, List.getElem?_eq_getElem (by omega)⟩
  have hle : xm ≤ x0 ∧ x0 ≤ xm + 1 := by
    by_cases hm0 : m = 0
    · subst hm0
      rw [hx0] at hxm
      simp only [Option.some.injEq] at hxm
      omega
    · exact la.even hfair hx0 hxm (by omega)
  obtain ⟨q1, q2⟩ := HQA.out x0 (List.mem_of_getElem? hx0)
  obtain ⟨q3, q4⟩ := HQA.out xm (List.mem_of_getElem? hxm)
  obtain ⟨r1, r2⟩ := hle
  have lka := HLK.out w3 (Below.refl _ _)
  have d0 : w3.cell? ⟨ka, off, none⟩ = some (.int .i64 x0) := HCA.out w3 (Below.refl _ _) 0 x0 hx0
  have d1 := HCA.out w3 (Below.refl _ _) m xm hxm
  have hmm : (na : Int) - 1 = (m : Int) := by omega
  have hmn : m < na := by omega
  have hwm : IntKind.i64.wrap (m : Int) = (m : Int) := by rw [IntKind.wrap_i64]; omega
  have hwd : IntKind.i64.wrap (x0 - xm) = x0 - xm := by rw [IntKind.wrap_i64]; omega
  have hd1 : decide (1 < x0 - xm) = false := decide_eq_false (by omega)
  have hd2 : decide (x0 < xm) = false := decide_eq_false (by omega)
  have hd3 : ¬ (1 < x0 - xm) := by omega
  have hd4 : ¬ (x0 < xm) := by omega
  clear hok hfair hna hka hca hx0 hxm hm
  try clear HC3
  go_upto_region 10 with fail
  go_quiet (fail)
  go_upto_region 14 with fail
  clear d0 d1 lka q1 q2 q3 q4 r1 r2
  go_loopw [12, 13] (fun s12 s13 wr => ∃ (i : Nat) (s : Int), s12 = .int .i64 s ∧ s13 = .int .i64 (i : Nat) ∧ i ≤ na ∧ 0 ≤ s ∧ s ≤ 1099511627776 ∧ Aside (s = tot (a.take i) ∧ Below w3.heap.size w3 wr)) (fun _ s13 _ => na - (intOf s13).toNat)
  case atStart => exact ⟨0, 0, rfl, rfl, Nat.zero_le _, by decide, by decide, by simp [tot], bel_drewN (Below.refl _ _)⟩
  case round =>
  obtain ⟨i, s, rfl, rfl, hi, hs0, hs1, hrow⟩ := hrel
  have HS := Lib.hid (show s = tot (a.take i) from hrow.1)
  have HB := Lib.hid (show Below w3.heap.size w3 wr from hrow.2)
  clear hrow
  have lka := HLK.out wr HB.out
  by_cases hin : i < na
  · obtain ⟨x, hx⟩ : ∃ x, a[i]? = some x := ⟨_, List.getElem?_eq_getElem (by rw [HNA.out]; exact hin)⟩
    have cx := HCA.out wr HB.out i x hx
    obtain ⟨q1, q2⟩ := HQA.out x (List.mem_of_getElem? hx)
    have HS2 := Lib.hid (show s + x = tot (a.take (i + 1)) by rw [tot_take hx, HS.out])
    have hs2 : 0 ≤ s + x ∧ s + x ≤ 1099511627776 := by
      have h1 := HPT.out (i + 1)
      have h2 := HST.out
      have h3 := HS2.out
      omega
    obtain ⟨r1, r2⟩ := hs2
    by_cases hi0 : i = 0
    · subst hi0
      have cx0 : wr.cell? ⟨ka, off, none⟩ = some (.int .i64 x) := cx
      go_wp2_with (go_quiet (fail))
      go_roundw
      case rel => exact ⟨1, s + x, rfl, by go_num, by omega, r1, r2, HS2.out, bel_drewN HB.out⟩
      case measure => simp [intOf]; omega
    · obtain ⟨j, hj⟩ : ∃ j, i = j + 1 := ⟨i - 1, by omega⟩
      obtain ⟨y, hy⟩ : ∃ y, a[j]? = some y := ⟨_, List.getElem?_eq_getElem (by rw [HNA.out]; omega)⟩
      have cy := HCA.out wr HB.out j y hy
      have hxy : x ≤ y := (la.even HFA.out hy hx (by omega)).1
      have hij : (i : Int) - 1 = (j : Int) := by omega
      have hi1 : (0 : Int) < (i : Int) := by omega
      have hjn : j < na := by omega
      have hi2 : 0 < i := by omega
      have hd5 : decide ((0 : Int) < (i : Int)) = true := decide_eq_true hi1
      have hd6 : decide (0 < i) = true := decide_eq_true hi2
      have hd7 : decide (y < x) = false := decide_eq_false (by omega)
      have hwj : IntKind.i64.wrap (j : Int) = (j : Int) := by rw [IntKind.wrap_i64]; omega
      have hyx : ¬ (y < x) := by omega
      clear hi0 hx hy hj
      go_upto_region 17 with fail
      go_quiet (fail)
      go_wp2
      go_roundw
      case rel => exact ⟨i + 1, s + x, rfl, by go_num, by omega, r1, r2, HS2.out, bel_drewN HB.out⟩
      case measure => simp [intOf]; omega
  have hin2 : na = i := by omega
  subst hin2
  have HSA := Lib.hid (show s = tot a by rw [HS.out, List.take_of_length_le (by rw [HNA.out]; omega)])
  have hsT : s ≤ T := by rw [HSA.out]; exact HST.out.2
  have hmin : min s 1099511627776 = s := by omega
  have HBw := Lib.hid (HB3.out.trans (HB.out.mono HB3.out.size))
  have HOK := Lib.hid (show OkW s a from ⟨by rw [HNA.out]; omega, ⟨hs0, hs1⟩, HQA.out⟩)
  have HSP2 := Lib.hid (SC (HR3.out.next HB.out) (fun x hx => by
    have := HQA.out x hx
    unfold Qy at this
    unfold i64
    omega) (by rw [HNA.out]; omega) s (by unfold i64; omega))
  go_upto_region 20 with (go_at_call 7; ((with_reducible refine HSP2.out.mono ?_); rintro e w5 hq); obtain ⟨v5, b, E5, rfl, hr, hb, hc⟩ := hq; have HR5 := Lib.hid hr; have HB5 := Lib.hid hb; have HC5 := Lib.hid hc; clear hr hb hc)
  obtain ⟨pb, cb, hvb, -⟩ := HR5.out.form
  obtain ⟨rfl, hba⟩ : E5 = 0 ∧ b = a := by
    rcases HC5.out with ⟨_, h1, h2⟩ | ⟨h1, _, _⟩
    · refine ⟨h1, ?_⟩
      rw [HSA.out] at h2
      exact la.again h2
    · exact absurd HOK.out h1
  subst hba
  have HIN := Lib.hid (dInts_any ((HR3.out.next HB.out).next HB5.out) HR5.out (by rw [HNA.out]; omega) (by rw [HNA.out]; omega))
  rw [decide_eq_true rfl] at HIN
  clear hvb
  go_wp2_with (first
    | (go_at_call 8; ((with_reducible refine HIN.out.mono ?_); rintro e w6 ⟨rfl, hb⟩); have HB6 := Lib.hid ((HBw.out.trans (HB5.out.mono HBw.out.size)).trans (hb.mono (HBw.out.trans (HB5.out.mono HBw.out.size)).size)); clear hb)
    | (go_at_call 6; ((with_reducible refine (laHead_any SC _).mono ?_); rintro e w7 ⟨rfl, hb⟩); have HB7 := Lib.hid (HB6.out.trans (hb.mono HB6.out.size)); clear hb))
  go_ret
  exact ⟨rfl, HB7.out⟩
end Go.Proofs.Ytiaidlpceibnpaa.gn
