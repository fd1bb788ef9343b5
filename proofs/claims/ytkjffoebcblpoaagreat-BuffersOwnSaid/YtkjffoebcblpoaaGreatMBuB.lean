/- The document's answers for extents, and for buffers: Meet, Check of extents; Job, below, place. (Written ahead of the code.) -/
import Derived.Test.YtkjffoebcblpoaaGreatMBuA
import Derived.Test.YtkjffoebcblpoaaGreatMBuN
import Derived.Deep.LoopGhost
import Derived.Deep.DeepCutAuto
section
set_option linter.unusedVariables false
set_option linter.unusedSimpArgs false
namespace Go.Proofs.YtkjffoebcblpoaaGreat.gn
open Go.RowKit
open Go.Proofs.YtkjffoebcblpoaaGreat.ex (X okx Dj Ok Apart Fine)
open Go.Proofs.YtkjffoebcblpoaaGreat.bu (Bf meet jobOk lt same place NoneIn)
open Go.Proofs.YtkjffoebcblpoaaGreat.po (less)

theorem meet_yes {a b : List X} {x y : X} (hx : x ∈ a) (hy : y ∈ b) (h : ¬ Dj x y) : meet a b = true := by
  unfold meet
  rw [List.any_eq_true]
  exact ⟨x, hx, List.any_eq_true.2 ⟨y, hy, by rw [decide_eq_false h]; rfl⟩⟩
theorem meet_no {a b : List X} (h : ∀ x ∈ a, ∀ y ∈ b, Dj x y) : meet a b = false := by
  cases hm : meet a b with
  | false => rfl
  | true =>
    unfold meet at hm
    obtain ⟨x, hx, h1⟩ := List.any_eq_true.1 hm
    obtain ⟨y, hy, h2⟩ := List.any_eq_true.1 h1
    rw [decide_eq_true (h x hx y hy)] at h2
    cases h2
theorem take_mem {α : Type} {P : α → Prop} {l : List α} {i : Nat} {x : α} (h : ∀ y ∈ l.take i, P y) (hx : l[i]? = some x) (hp : P x) : ∀ y ∈ l.take (i + 1), P y := fun y hy => by
  rw [bu.take_at hx] at hy
  rcases List.mem_append.1 hy with hy | hy
  · exact h y hy
  · rw [List.mem_singleton.1 hy]; exact hp
/-- Apart from all of them. -/
def FarX (x : X) (b : List X) : Prop := ∀ y ∈ b, Dj x y
def FarXs (a b : List X) : Prop := ∀ x ∈ a, FarX x b
theorem FarX.nil (x : X) : FarX x [] := fun y h => by cases h
theorem FarXs.nil (b : List X) : FarXs [] b := fun y h => by cases h
set_option maxRecDepth 100000 in
set_option maxHeartbeats 3200000 in
theorem dMeet_any {w : World} {va vb : Value} {a b : List X} (ha : RX w va a) (hb : RX w vb b) (oa : Ok a) (ob : Ok b) (la : a.length ≤ 100000) (lb : b.length ≤ 100000) :
    Calls Tryz.prog 39 #[va, vb] w (TellsM (.bool (meet a b)) w) := by
  obtain ⟨pa, ca, rfl, fa⟩ := ha.form
  obtain ⟨pb, cb, rfl, fb⟩ := hb.form
  obtain ⟨n, hn⟩ : ∃ n, a.length = n := ⟨_, rfl⟩
  obtain ⟨m, hm⟩ : ∃ m, b.length = m := ⟨_, rfl⟩
  rw [hn, hm]
  have HA := Lib.hid fa
  have HB := Lib.hid fb
  have OA := Lib.hid oa
  have OB := Lib.hid ob
  have hn1 : n ≤ 100000 := by omega
  have hm1 : m ≤ 100000 := by omega
  have HN := Lib.hid hn
  have HM := Lib.hid hm
  clear ha hb fa fb oa ob la lb hn hm
  go_enter Tryz.func39, Tryz.ntmps39
  go_wp2
  go_loopw [5] (fun s5 wr => ∃ i : Nat, s5 = .int .i64 (i : Nat) ∧ i ≤ n ∧ Aside (FarXs (a.take i) b ∧ Below w.heap.size w wr)) (fun s5 _ => n - (intOf s5).toNat)
  case atStart => exact ⟨0, rfl, Nat.zero_le _, FarXs.nil b, Below.refl _ _⟩
  case round =>
    obtain ⟨i, rfl, hi, hrow⟩ := hrel
    have HR := Lib.hid (show FarXs (a.take i) b from hrow.1)
    have HW := Lib.hid (show Below w.heap.size w wr from hrow.2)
    clear hrow
    by_cases hin : i < n
    · obtain ⟨x, hx⟩ : ∃ x, a[i]? = some x := ⟨_, List.getElem?_eq_getElem (by rw [HN.out]; exact hin)⟩
      obtain ⟨ka, oa, rfl, hka, hca⟩ := HA.out (ne_of_at hx)
      have HC := Lib.hid (hca i x hx)
      have hox := OA.out x (List.mem_of_getElem? hx)
      have HX := Lib.hid hx
      obtain ⟨x1, x2⟩ := x
      obtain ⟨ox1, ox2, ox3⟩ := hox
      dsimp only at ox1 ox2 ox3
      have HKA := Lib.hid hka
      clear hca hx hka HA
      obtain ⟨wi, hwi⟩ : ∃ wi, wi = wr := ⟨_, rfl⟩
      subst hwi
      go_wp2
      go_loopw [6] (fun s6 wr => ∃ k : Nat, s6 = .int .i64 (k : Nat) ∧ k ≤ m ∧ Aside (FarX (x1, x2) (b.take k) ∧ Below w.heap.size w wr)) (fun s6 _ => m - (intOf s6).toNat)
      case atStart => exact ⟨0, rfl, Nat.zero_le _, FarX.nil _, HW.out⟩
      case round =>
        obtain ⟨k, rfl, hk, hrow⟩ := hrel
        have HK := Lib.hid (show FarX (x1, x2) (b.take k) from hrow.1)
        have HV := Lib.hid (show Below w.heap.size w wr from hrow.2)
        clear hrow
        by_cases hkm : k < m
        · obtain ⟨y, hy⟩ : ∃ y, b[k]? = some y := ⟨_, List.getElem?_eq_getElem (by rw [HM.out]; exact hkm)⟩
          obtain ⟨kb, ob, rfl, hkb, hcb⟩ := HB.out (ne_of_at hy)
          obtain ⟨e0, e1⟩ := hcb k y hy
          obtain ⟨c0, c1⟩ := HC.out
          rw [← HV.out.cell (p := ⟨kb, ob + k * 2, none⟩) hkb] at e0
          rw [← HV.out.cell (p := ⟨kb, ob + k * 2 + 1, none⟩) hkb] at e1
          rw [← HV.out.cell (p := ⟨ka, oa + i * 2, none⟩) HKA.out] at c0
          rw [← HV.out.cell (p := ⟨ka, oa + i * 2 + 1, none⟩) HKA.out] at c1
          have l1 : ka < wr.heap.size := Nat.lt_of_lt_of_le HKA.out HV.out.size
          have l2 : kb < wr.heap.size := Nat.lt_of_lt_of_le hkb HV.out.size
          have hoy := OB.out y (List.mem_of_getElem? hy)
          have HY := Lib.hid hy
          obtain ⟨y1, y2⟩ := y
          dsimp only at e0 e1 c0 c1
          obtain ⟨oy1, oy2, oy3⟩ := hoy
          dsimp only at oy1 oy2 oy3
          clear hcb hy
          by_cases h1 : x1 < y1 + y2
          · have d1 : decide (x1 < y1 + y2) = true := decide_eq_true h1
            by_cases h2 : y1 < x1 + x2
            · have d2 : decide (y1 < x1 + x2) = true := decide_eq_true h2
              have HF := Lib.hid (meet_yes (List.mem_of_getElem? HX.out) (List.mem_of_getElem? HY.out) (by unfold Dj; dsimp only; omega))
              go_wp2_with (go_quiet (fail))
              go_ret
              exact ⟨by rw [HF.out]; rfl, bel_drewN HV.out⟩
            · have d2 : decide (y1 < x1 + x2) = false := decide_eq_false h2
              have HF := Lib.hid (take_mem HK.out HY.out (show Dj (x1, x2) (y1, y2) from .inl (by dsimp only; omega)))
              go_wp2_with (go_quiet (fail))
              go_roundw
              case rel => exact ⟨k + 1, by go_num, by omega, HF.out, bel_drewN HV.out⟩
              case measure => simp [intOf]; omega
          · have d1 : decide (x1 < y1 + y2) = false := decide_eq_false h1
            have HF := Lib.hid (take_mem HK.out HY.out (show Dj (x1, x2) (y1, y2) from .inr (by dsimp only; omega)))
            go_wp2_with (go_quiet (fail))
            go_roundw
            case rel => exact ⟨k + 1, by go_num, by omega, HF.out, bel_drewN HV.out⟩
            case measure => simp [intOf]; omega
        · obtain rfl : k = m := by omega
          have HF := Lib.hid (take_mem HR.out HX.out (show FarX (x1, x2) b by have := HK.out; rwa [← HM.out, List.take_length] at this))
          go_wp2
          go_roundw
          case rel => exact ⟨i + 1, by go_num, by omega, HF.out, HV.out⟩
          case measure => simp [intOf]; omega
    · obtain rfl : i = n := by omega
      have HF := Lib.hid (meet_no (show FarXs a b by have := HR.out; rwa [← HN.out, List.take_length] at this))
      go_wp2
      go_ret
      exact ⟨by rw [HF.out]; rfl, HW.out⟩
/-! ### Check of extents -/
def xI (x : X) : Prop := (-9223372036854775808 ≤ x.1 ∧ x.1 ≤ 9223372036854775807) ∧ (-9223372036854775808 ≤ x.2 ∧ x.2 ≤ 9223372036854775807)
def xE (l : List X) : Int := if Fine l then 0 else 110
theorem xE_no {l : List X} (h : ¬ Fine l) : xE l = 110 := if_neg h
theorem nf_ok {l : List X} {i : Nat} {x : X} (hx : l[i]? = some x) (h : ¬ okx x) : ¬ Fine l := fun hf => h (hf.2.1 x (List.mem_of_getElem? hx))
theorem nf_dj {l : List X} {k i : Nat} {y x : X} (hk : k < i) (hy : l[k]? = some y) (hx : l[i]? = some x) (h : ¬ Dj x y) : ¬ Fine l := fun hf => by
  obtain ⟨h1, rfl⟩ := List.getElem?_eq_some_iff.1 hy
  obtain ⟨h2, rfl⟩ := List.getElem?_eq_some_iff.1 hx
  exact h (List.pairwise_iff_getElem.1 hf.2.2 k i h1 h2 hk).symm
def OkA (l : List X) : Prop := Ok l ∧ Apart l
theorem OkA.step {l : List X} {i : Nat} {x : X} (h : OkA (l.take i)) (hx : l[i]? = some x) (ho : okx x) (hf : FarX x (l.take i)) : OkA (l.take (i + 1)) := by
  rw [bu.take_at hx]
  refine ⟨fun y hy => ?_, List.pairwise_append.2 ⟨h.2, by simp, fun a ha c hc => ?_⟩⟩
  · rcases List.mem_append.1 hy with hy | hy
    · exact h.1 y hy
    · rw [List.mem_singleton.1 hy]; exact ho
  · rw [List.mem_singleton.1 hc]
    exact (hf a ha).symm
theorem OkA.nil : OkA [] := ⟨(fun x h => by cases h), List.Pairwise.nil⟩
set_option maxRecDepth 100000 in
set_option maxHeartbeats 3200000 in
theorem dCheckX_any {w : World} {va : Value} {a : List X} (ha : RX w va a) (hI : ∀ x ∈ a, xI x) (la : a.length ≤ 9223372036854775807) :
    Calls Tryz.prog 72 #[va] w (TellsM (.int .i64 (xE a)) w) := by
  obtain ⟨pa, ca, rfl, fa⟩ := ha.form
  obtain ⟨n, hn⟩ : ∃ n, a.length = n := ⟨_, rfl⟩
  rw [hn]
  have HA := Lib.hid fa
  have HI := Lib.hid hI
  have hn1 : n ≤ 9223372036854775807 := by omega
  have HN := Lib.hid hn
  clear ha fa hI la hn
  by_cases h1000 : 1000 < n
  · have HF := Lib.hid (xE_no (l := a) fun hf => by have := hf.1; have := HN.out; omega)
    go_enter Tryz.func72, Tryz.ntmps72
    go_wp2
    go_ret
    exact ⟨by rw [HF.out]; rfl, Below.refl _ _⟩
  go_enter Tryz.func72, Tryz.ntmps72
  go_upto_region 4 with fail
  go_loopw [3] (fun s3 wr => ∃ i : Nat, s3 = .int .i64 (i : Nat) ∧ i ≤ n ∧ Aside (OkA (a.take i) ∧ Below w.heap.size w wr)) (fun s3 _ => n - (intOf s3).toNat)
  case atStart => exact ⟨0, rfl, Nat.zero_le _, OkA.nil, Below.refl _ _⟩
  case round =>
    obtain ⟨i, rfl, hi, hrow⟩ := hrel
    have HR := Lib.hid (show OkA (a.take i) from hrow.1)
    have HW := Lib.hid (show Below w.heap.size w wr from hrow.2)
    clear hrow
    by_cases hin : i < n
    · obtain ⟨x, hx⟩ : ∃ x, a[i]? = some x := ⟨_, List.getElem?_eq_getElem (by rw [HN.out]; exact hin)⟩
      obtain ⟨ka, oa, rfl, hka, hca⟩ := HA.out (ne_of_at hx)
      obtain ⟨c0, c1⟩ := hca i x hx
      rw [← HW.out.cell (p := ⟨ka, oa + i * 2, none⟩) hka] at c0
      rw [← HW.out.cell (p := ⟨ka, oa + i * 2 + 1, none⟩) hka] at c1
      have l1 : ka < wr.heap.size := Nat.lt_of_lt_of_le hka HW.out.size
      have HX := Lib.hid hx
      obtain ⟨⟨b1, b2⟩, b3, b4⟩ := HI.out x (List.mem_of_getElem? hx)
      have HCA := Lib.hid hca
      have HKA := Lib.hid hka
      obtain ⟨x1, x2⟩ := x
      dsimp only at c0 c1 b1 b2 b3 b4
      obtain ⟨wi, hwi⟩ : ∃ wi, wi = wr.alloc (.cells #[.int .i64 x1, .int .i64 x2] 55) := ⟨_, rfl⟩
      have hbx : BoxA wi wr.heap.size 55 #[.int .i64 x1, .int .i64 x2] := by rw [hwi]; exact BoxA.new _ _ _
      have hbw : Below wr.heap.size wr wi := by rw [hwi]; exact (Below.refl _ _).alloc (Nat.le_refl _) _
      have HBX := Lib.hid hbx
      have HBW := Lib.hid (HW.out.trans (hbw.mono HW.out.size))
      have HWI := Lib.hid hwi.symm
      clear hca hx hka HA hbx hbw hwi
      go_upto_region 7 with fail
      rw [HWI.out]
      have e0 := HBX.out.cell 0 _
      have e1 := HBX.out.cell 1 _
      have el := HBX.out.lt
      by_cases hok : okx (x1, x2)
      rotate_left
      · have HF := Lib.hid (xE_no (nf_ok HX.out hok))
        unfold okx at hok
        dsimp only at hok
        by_cases a1 : x1 < 0
        · clear hok
          go_wp2
          go_ret
          exact ⟨by rw [HF.out]; rfl, HBW.out⟩
        by_cases a2 : 1099511627776 < x1
        · clear hok
          go_wp2
          go_ret
          exact ⟨by rw [HF.out]; rfl, HBW.out⟩
        by_cases a3 : x2 < 1
        · clear hok
          go_wp2
          go_ret
          exact ⟨by rw [HF.out]; rfl, HBW.out⟩
        by_cases a4 : 1099511627776 < x2
        · clear hok
          go_wp2
          go_ret
          exact ⟨by rw [HF.out]; rfl, HBW.out⟩
        have a5 : 1099511627776 < x1 + x2 := by omega
        clear hok
        go_wp2
        go_ret
        exact ⟨by rw [HF.out]; rfl, HBW.out⟩
      have HOK := Lib.hid hok
      obtain ⟨o1, o2, o3⟩ := hok
      dsimp only at o1 o2 o3
      go_upto_region 10 with fail
      clear c0 c1 l1 e0 e1 el
      obtain ⟨bx, hbx⟩ : ∃ bx, wr.heap.size = bx := ⟨_, rfl⟩
      rw [hbx] at HBX
      rw [hbx]
      clear hbx HWI
      go_loopw [5] (fun s5 wr => ∃ k : Nat, s5 = .int .i64 (k : Nat) ∧ k ≤ i ∧ Aside (FarX (x1, x2) (a.take k) ∧ Below wi.heap.size wi wr)) (fun s5 _ => i - (intOf s5).toNat)
      case atStart => exact ⟨0, rfl, Nat.zero_le _, FarX.nil _, Below.refl _ _⟩
      case round =>
        obtain ⟨k, rfl, hk, hrow⟩ := hrel
        have HK := Lib.hid (show FarX (x1, x2) (a.take k) from hrow.1)
        have HV := Lib.hid (show Below wi.heap.size wi wr from hrow.2)
        clear hrow
        by_cases hki : k < i
        · obtain ⟨y, hy⟩ : ∃ y, a[k]? = some y := ⟨_, List.getElem?_eq_getElem (by rw [HN.out]; omega)⟩
          obtain ⟨c0, c1⟩ := HCA.out k y hy
          have hw2 := HBW.out.trans (HV.out.mono HBW.out.size)
          rw [← hw2.cell (p := ⟨ka, oa + k * 2, none⟩) HKA.out] at c0
          rw [← hw2.cell (p := ⟨ka, oa + k * 2 + 1, none⟩) HKA.out] at c1
          have l1 : ka < wr.heap.size := Nat.lt_of_lt_of_le HKA.out hw2.size
          have HB2 := Lib.hid (HBX.out.next HV.out)
          have e0 := HB2.out.cell 0 _
          have e1 := HB2.out.cell 1 _
          have el := HB2.out.lt
          have hoy : okx y := HR.out.1 y (by
            have h2 : (a.take i)[k]? = some y := by rw [List.getElem?_take, if_pos hki, hy]
            exact List.mem_of_getElem? h2)
          have HY := Lib.hid hy
          have HW2 := Lib.hid hw2
          have hkn : k < n := by omega
          obtain ⟨y1, y2⟩ := y
          obtain ⟨oy1, oy2, oy3⟩ := hoy
          dsimp only at c0 c1 oy1 oy2 oy3
          clear hy hw2
          by_cases h1 : x1 < y1 + y2
          · have d1 : decide (x1 < y1 + y2) = true := decide_eq_true h1
            by_cases h2 : y1 < x1 + x2
            · have d2 : decide (y1 < x1 + x2) = true := decide_eq_true h2
              have HF := Lib.hid (xE_no (nf_dj hki HY.out HX.out (by unfold Dj; dsimp only; omega)))
              go_wp2_with (go_quiet (fail))
              go_ret
              exact ⟨by rw [HF.out]; rfl, bel_drewN HW2.out⟩
            · have d2 : decide (y1 < x1 + x2) = false := decide_eq_false h2
              have HF := Lib.hid (take_mem HK.out HY.out (show Dj (x1, x2) (y1, y2) from .inl (by dsimp only; omega)))
              go_wp2_with (go_quiet (fail))
              go_roundw
              case rel => exact ⟨k + 1, by go_num, by omega, HF.out, bel_drewN HV.out⟩
              case measure => simp [intOf]; omega
          · have d1 : decide (x1 < y1 + y2) = false := decide_eq_false h1
            have HF := Lib.hid (take_mem HK.out HY.out (show Dj (x1, x2) (y1, y2) from .inr (by dsimp only; omega)))
            go_wp2_with (go_quiet (fail))
            go_roundw
            case rel => exact ⟨k + 1, by go_num, by omega, HF.out, bel_drewN HV.out⟩
            case measure => simp [intOf]; omega
        · obtain rfl : k = i := by omega
          have HF := Lib.hid (HR.out.step HX.out HOK.out HK.out)
          go_wp2
          go_roundw
          case rel => exact ⟨k + 1, by go_num, by omega, HF.out, HBW.out.trans (HV.out.mono HBW.out.size)⟩
          case measure => simp [intOf]; omega
    · obtain rfl : i = n := by omega
      have HF := Lib.hid (show xE a = 0 from if_pos (by
        have := HR.out
        rw [← HN.out, List.take_length] at this
        exact ⟨by have := HN.out; omega, this⟩))
      go_wp2
      go_ret
      exact ⟨by rw [HF.out]; rfl, HW.out⟩
theorem dJob_any (n : Int) (w : World) : Calls Tryz.prog 49 #[.int .i64 n] w fun e w' => e = .returned (.bool (decide (jobOk n))) ∧ w = w' := by
  by_cases h1 : 1 ≤ n
  · have d1 : decide (1 ≤ n) = true := decide_eq_true h1
    by_cases h2 : n ≤ 1073741824
    · have d2 : decide (n ≤ 1073741824) = true := decide_eq_true h2
      have H := Lib.hid (show decide (jobOk n) = true from decide_eq_true ⟨h1, h2⟩)
      go_enter Tryz.func49, Tryz.ntmps49
      go_wp2
      go_ret
      exact ⟨by rw [H.out]; rfl, rfl⟩
    · have d2 : decide (n ≤ 1073741824) = false := decide_eq_false h2
      have H := Lib.hid (show decide (jobOk n) = false from decide_eq_false (by unfold jobOk; omega))
      go_enter Tryz.func49, Tryz.ntmps49
      go_wp2
      go_ret
      exact ⟨by rw [H.out]; rfl, rfl⟩
  · have d1 : decide (1 ≤ n) = false := decide_eq_false h1
    have H := Lib.hid (show decide (jobOk n) = false from decide_eq_false (by unfold jobOk; omega))
    go_enter Tryz.func49, Tryz.ntmps49
    go_wp2
    go_ret
    exact ⟨by rw [H.out]; rfl, rfl⟩
end Go.Proofs.YtkjffoebcblpoaaGreat.gn
end
