/- The document's answers for buffers: may. (Written ahead of the code.) -/
import Derived.Test.YtkjffoebcblpoaaGreatMBuC
section
set_option linter.unusedVariables false
set_option linter.unusedSimpArgs false
namespace Go.Proofs.YtkjffoebcblpoaaGreat.gn
open Go.RowKit
open Go.Proofs.YtkjffoebcblpoaaGreat.un (isName)
open Go.Proofs.YtkjffoebcblpoaaGreat.ex (X okx Dj Ok Apart Fine)
open Go.Proofs.YtkjffoebcblpoaaGreat.bu (Bf May RefsOk jobOk)

/-- A buffer whose numbers are int64's, whose rows are no longer than rows are. -/
structure BI (b : Bf) : Prop where
  job : -9223372036854775808 ≤ b.job ∧ b.job ≤ 9223372036854775807
  exts : ∀ x ∈ b.exts, xI x
  refs : ∀ r ∈ b.refs, -9223372036854775808 ≤ r ∧ r ≤ 9223372036854775807
  le : b.exts.length ≤ 140737488355328
  lr : b.refs.length ≤ 140737488355328
  ln : b.name.length ≤ 140737488355328
  lu : b.user.length ≤ 140737488355328
  lp : b.pool.length ≤ 140737488355328
def RefP (l : List Int) : Prop := (∀ r ∈ l, jobOk r) ∧ l.Pairwise (· < ·)
theorem RefP.nil : RefP [] := ⟨by simp, by simp⟩
theorem quiet_job (r : Int) (b : Bool) (h : decide (jobOk r) = b) (w : World) : Calls Tryz.prog 49 #[.int .i64 r] w fun e w' => e = .returned (.bool b) ∧ w' = w :=
  (dJob_any r w).mono fun _ _ hh => ⟨by rw [← h]; exact hh.1, hh.2.symm⟩
theorem quiet_name (l : List UInt8) (hl : l.length ≤ 140737488355328) (b : Bool) (h : isName l = b) (w : World) : Calls Tryz.prog 71 #[.string (str l)] w fun e w' => e = .returned (.bool b) ∧ w' = w :=
  (dname_any l hl w).mono fun _ _ hh => ⟨by rw [← h]; exact hh.1, hh.2.symm⟩
theorem slen (n : Nat) : ((n : Int) == 0) = decide (n = 0) := by
  rw [Bool.eq_iff_iff, beq_iff_eq, decide_eq_true_eq]
  omega
set_option maxRecDepth 100000 in
set_option maxHeartbeats 6400000 in
theorem dmay_any (b : Bf) (g : Gb) (w : World) (h : RB w b g) (hB : BI b) : Calls Tryz.prog 37 #[bV b g] w (TellsM (.bool (decide (May b))) w) := by
  obtain ⟨ge, gr⟩ := g
  obtain ⟨W, hW⟩ : ∃ W, w.alloc (.cells (bcs b ⟨ge, gr⟩) 26) = W := ⟨_, rfl⟩
  have hb : BufB W w.heap.size b ⟨ge, gr⟩ := by rw [← hW]; exact BoxA.new _ _ _
  have hl : Below w.heap.size w W := by rw [← hW]; exact (Below.refl _ _).alloc (Nat.le_refl _) _
  have hr := h.next hl
  obtain ⟨he, hf⟩ := hr
  dsimp only at he hf
  have HE := Lib.hid (fun (Y : World) (hb : Below W.heap.size W Y) => dCheckX_any (he.next hb) hB.exts (by have := hB.le; omega))
  obtain ⟨pe, ce, hge, fe⟩ := he.form
  obtain ⟨pr, cr, hgr, fr⟩ := hf.form
  subst hge hgr
  obtain ⟨ne, hne⟩ : ∃ n, b.exts.length = n := ⟨_, rfl⟩
  obtain ⟨nr, hnr⟩ : ∃ n, b.refs.length = n := ⟨_, rfl⟩
  rw [hne] at HE
  have HB := Lib.hid (fun (Y : World) (hY : Below W.heap.size W Y) => (BufB.next hb hY).cells)
  rw [hne, hnr] at HB
  have HI := Lib.hid hB
  have HL := Lib.hid hl
  have HW := Lib.hid hW
  have HFR := Lib.hid fr
  unfold bcs at HW
  rw [hne, hnr] at HW
  have b1 : ne ≤ 140737488355328 := by rw [← hne]; exact hB.le
  have b2 : nr ≤ 140737488355328 := by rw [← hnr]; exact hB.lr
  have HNE := Lib.hid hne
  have HNR := Lib.hid hnr
  have HU := Lib.hid (fun Y => dname_any b.user hB.lu Y)
  have HP := Lib.hid (fun Y => dname_any b.pool hB.lp Y)
  have HNM := Lib.hid (fun Y => dname_any b.name hB.ln Y)
  unfold bV bcs
  dsimp only
  rw [hne, hnr]
  have HBB := Lib.hid (HB.out W (Below.refl _ _))
  try dsimp only at HBB
  clear h hW hb hl he hf fe fr hne hnr hB
  obtain ⟨c0, c1, c2, c3, c4, c5, c6, clt⟩ := HBB.out
  by_cases hu : isName b.user = true
  rotate_left
  · have HM := Lib.hid (show decide (May b) = false from decide_eq_false fun hm => hu hm.1)
    rw [show isName b.user = false by simpa using hu] at HU
    clear hu
    go_enter Tryz.func37, Tryz.ntmps37
    go_upto_region 1 with fail
    rw [HW.out]
    go_wp2_with (go_at_call 71; ((with_reducible refine (HU.out _).mono ?_); rintro e w5 ⟨rfl, rfl⟩))
    go_ret
    exact ⟨by rw [HM.out]; rfl, HL.out⟩
  rw [hu] at HU
  by_cases hp : isName b.pool = true
  rotate_left
  · have HM := Lib.hid (show decide (May b) = false from decide_eq_false fun hm => hp hm.2.1)
    rw [show isName b.pool = false by simpa using hp] at HP
    clear hu hp
    go_enter Tryz.func37, Tryz.ntmps37
    go_upto_region 1 with fail
    rw [HW.out]
    go_wp2_with (first
      | (go_at_call 71; ((with_reducible refine (HU.out _).mono ?_); rintro e w5 ⟨rfl, rfl⟩))
      | (go_at_call 71; ((with_reducible refine (HP.out _).mono ?_); rintro e w5 ⟨rfl, rfl⟩)))
    go_ret
    exact ⟨by rw [HM.out]; rfl, HL.out⟩
  rw [hp] at HP
  by_cases h0 : ne = 0
  · have HM := Lib.hid (show decide (May b) = false from decide_eq_false fun hm => hm.2.2.1 (List.eq_nil_of_length_eq_zero (by rw [HNE.out]; exact h0)))
    have q0 : ((ne : Int) == 0) = true := by rw [beq_iff_eq]; omega
    clear hu hp h0
    go_enter Tryz.func37, Tryz.ntmps37
    go_upto_region 1 with fail
    rw [HW.out]
    go_wp2_with (first
      | (go_at_call 71; ((with_reducible refine (HU.out _).mono ?_); rintro e w5 ⟨rfl, rfl⟩))
      | (go_at_call 71; ((with_reducible refine (HP.out _).mono ?_); rintro e w5 ⟨rfl, rfl⟩)))
    go_ret
    exact ⟨by rw [HM.out]; rfl, HL.out⟩
  have q0 : ((ne : Int) == 0) = false := by rw [beq_eq_false_iff_ne]; omega
  by_cases hF : Fine b.exts
  rotate_left
  · have HM := Lib.hid (show decide (May b) = false from decide_eq_false fun hm => hF hm.2.2.2.1)
    rw [xE_no hF] at HE
    clear hu hp hF
    go_enter Tryz.func37, Tryz.ntmps37
    go_upto_region 1 with fail
    rw [HW.out]
    go_wp2_with (first
      | (go_at_call 71; ((with_reducible refine (HU.out _).mono ?_); rintro e w5 ⟨rfl, rfl⟩))
      | (go_at_call 71; ((with_reducible refine (HP.out _).mono ?_); rintro e w5 ⟨rfl, rfl⟩))
      | (go_at_call 72; ((with_reducible refine (HE.out _ (Below.refl _ _)).mono ?_); rintro e w6 ⟨rfl, hb⟩); have A6 := Lib.hid (HL.out.trans (hb.mono HL.out.size)); clear hb))
    go_ret
    exact ⟨by rw [HM.out]; rfl, A6.out⟩
  have HPRE := Lib.hid (show (b.job ≠ 0 → jobOk b.job ∧ b.name = [] ∧ b.opn = false ∧ b.refs = []) ∧ (b.job = 0 → isName b.name = true ∧ RefsOk b.refs) ↔ May b from
    ⟨fun hh => ⟨hu, hp, (fun e => h0 (by rw [← HNE.out, e]; rfl)), hF, hh.1, hh.2⟩, fun hm => ⟨hm.2.2.2.2.1, hm.2.2.2.2.2⟩⟩)
  rw [show xE b.exts = 0 from if_pos hF] at HE
  clear hu hp hF
  go_enter Tryz.func37, Tryz.ntmps37
  go_upto_region 1 with fail
  rw [HW.out]
  go_upto_region 3 with (first
    | (go_at_call 71; ((with_reducible refine (HU.out _).mono ?_); rintro e w5 ⟨rfl, rfl⟩))
    | (go_at_call 71; ((with_reducible refine (HP.out _).mono ?_); rintro e w5 ⟨rfl, rfl⟩))
    | (go_at_call 72; ((with_reducible refine (HE.out _ (Below.refl _ _)).mono ?_); rintro e w6 ⟨rfl, hb⟩); have A6 := Lib.hid hb; clear hb))
  clear c0 c1 c2 c3 c4 c5 c6 clt HE
  have HL6 := Lib.hid (HL.out.trans (A6.out.mono HL.out.size))
  have HB6 := Lib.hid (HB.out _ A6.out)
  try dsimp only at HB6
  obtain ⟨c0, c1, c2, c3, c4, c5, c6, clt⟩ := HB6.out
  by_cases hj : b.job = 0
  rotate_left
  · have dj : (b.job != 0) = true := by rw [bne_iff_ne]; exact hj
    have HJB := Lib.hid (fun Y => dJob_any b.job Y)
    by_cases hjo : jobOk b.job
    rotate_left
    · have HM := Lib.hid (show decide (May b) = false from decide_eq_false fun hm => hjo ((HPRE.out.2 hm).1 hj).1)
      rw [decide_eq_false hjo] at HJB
      clear hj hjo
      go_wp2_with (go_at_call 49; ((with_reducible refine (HJB.out _).mono ?_); rintro e w5 ⟨rfl, rfl⟩))
      go_ret
      exact ⟨by rw [HM.out]; rfl, HL6.out⟩
    rw [decide_eq_true hjo] at HJB
    by_cases hn : b.name = []
    rotate_left
    · have HM := Lib.hid (show decide (May b) = false from decide_eq_false fun hm => hn ((HPRE.out.2 hm).1 hj).2.1)
      have n1 : ((str b.name).toList == ([] : List UInt8)) = false := by rw [str_toList, beq_eq_false_iff_ne]; exact hn
      have n2 : ¬ (str b.name).toList = [] := by rw [str_toList]; exact hn
      clear hj hjo hn
      go_wp2_with (go_at_call 49; ((with_reducible refine (HJB.out _).mono ?_); rintro e w5 ⟨rfl, rfl⟩))
      go_ret
      exact ⟨by rw [HM.out]; rfl, HL6.out⟩
    have HM0 := Lib.hid (show decide (May b) = (!b.opn && decide (nr = 0)) by
      rw [Bool.eq_iff_iff, decide_eq_true_eq, ← HPRE.out]
      simp only [Bool.and_eq_true, Bool.not_eq_true', decide_eq_true_eq]
      exact ⟨fun hh => ⟨(hh.1 hj).2.2.1, by rw [← HNR.out, (hh.1 hj).2.2.2]; rfl⟩, fun hh => ⟨fun _ => ⟨hjo, hn, hh.1, List.eq_nil_of_length_eq_zero (by rw [HNR.out]; exact hh.2)⟩, fun e => absurd e hj⟩⟩)
    have n1 : ((str b.name).toList == ([] : List UInt8)) = true := by rw [str_toList, hn]; rfl
    have n2 : (str b.name).toList = [] := by rw [str_toList]; exact hn
    have s2 := slen nr
    clear hj hjo hn
    cases ho : b.opn with
    | true =>
      rw [ho] at c4 HM0
      clear ho
      go_wp2_with (go_at_call 49; ((with_reducible refine (HJB.out _).mono ?_); rintro e w5 ⟨rfl, rfl⟩))
      go_ret
      exact ⟨by rw [HM0.out]; rfl, HL6.out⟩
    | false =>
      rw [ho] at c4 HM0
      clear ho
      go_wp2_with (go_at_call 49; ((with_reducible refine (HJB.out _).mono ?_); rintro e w5 ⟨rfl, rfl⟩))
      go_ret
      exact ⟨by rw [HM0.out]; rfl, HL6.out⟩
  have dj : (b.job != 0) = false := by rw [hj]; rfl
  have HM1 := Lib.hid (show (isName b.name = true ∧ RefsOk b.refs) ↔ May b from ⟨fun hh => HPRE.out.1 ⟨fun hn => absurd hj hn, fun _ => hh⟩, fun hm => (HPRE.out.2 hm).2 hj⟩)
  clear hj
  go_upto_region 6 with fail
  clear c0 c1 c2 c3 c4 c5 c6 clt HB6
  go_loopw [3] (fun s3 wr => ∃ i : Nat, s3 = .int .i64 (i : Nat) ∧ i ≤ nr ∧ Aside (RefP (b.refs.take i) ∧ Below W.heap.size W wr)) (fun s3 _ => nr - (intOf s3).toNat)
  case atStart => exact ⟨0, rfl, Nat.zero_le _, RefP.nil, A6.out⟩
  case round =>
    obtain ⟨i, rfl, hi, hrow⟩ := hrel
    have HR := Lib.hid (show RefP (b.refs.take i) from hrow.1)
    have HV := Lib.hid (show Below W.heap.size W wr from hrow.2)
    have HVL := Lib.hid (HL.out.trans (HV.out.mono HL.out.size))
    clear hrow
    have HBr := Lib.hid (HB.out _ HV.out)
    try dsimp only at HBr
    obtain ⟨c0, c1, c2, c3, c4, c5, c6, clt⟩ := HBr.out
    by_cases hin : i < nr
    · obtain ⟨r, hr⟩ : ∃ r, b.refs[i]? = some r := ⟨_, List.getElem?_eq_getElem (by rw [HNR.out]; exact hin)⟩
      obtain ⟨kr, off, rfl, hk, hc⟩ := HFR.out (ne_of_at hr)
      have e0 := hc i r hr
      rw [← HV.out.cell (p := ⟨kr, off + i, none⟩) hk] at e0
      have l1 : kr < wr.heap.size := Nat.lt_of_lt_of_le hk HV.out.size
      have HRI := Lib.hid hr
      have hri := HI.out.refs r (List.mem_of_getElem? hr)
      by_cases hjo : jobOk r
      rotate_left
      · have HM := Lib.hid (show decide (May b) = false from decide_eq_false fun hm => bu.no_ref HRI.out (.inl hjo) (HM1.out.2 hm).2)
        have HQ := Lib.hid (quiet_job r false (decide_eq_false hjo))
        clear hjo hr hc
        go_wp2_with (go_quiet ((go_at_call 49; exact Calls.quiet_of_same (HQ.out _))))
        go_ret
        exact ⟨by rw [HM.out]; rfl, bel_drewN HVL.out⟩
      have HJO := Lib.hid hjo
      have HQ := Lib.hid (quiet_job r true (decide_eq_true hjo))
      by_cases hz : i = 0
      · have hz1 : ¬ 0 < i := by omega
        have hz2 : ¬ (0 : Int) < (i : Int) := by omega
        have dz : decide ((0 : Int) < (i : Int)) = false := decide_eq_false hz2
        have HS := Lib.hid (show RefP (b.refs.take (i + 1)) from bu.refs_step HR.out HRI.out HJO.out (fun a h0 => by omega))
        clear hjo hr hc hz
        go_wp2_with (go_quiet ((go_at_call 49; exact Calls.quiet_of_same (HQ.out _))))
        go_roundw
        case rel => exact ⟨i + 1, by go_num, by omega, HS.out, bel_drewN HV.out⟩
        case measure => simp [intOf]; omega
      · obtain ⟨k, rfl⟩ : ∃ k, i = k + 1 := ⟨i - 1, by omega⟩
        clear hz
        obtain ⟨a, ha⟩ : ∃ a, b.refs[k]? = some a := ⟨_, List.getElem?_eq_getElem (by rw [HNR.out]; omega)⟩
        have e1 := hc k a ha
        rw [← HV.out.cell (p := ⟨kr, off + k, none⟩) hk] at e1
        have hai := HI.out.refs a (List.mem_of_getElem? ha)
        have HA := Lib.hid ha
        by_cases hle : r ≤ a
        rotate_left
        · have dl : decide (r ≤ a) = false := decide_eq_false hle
          have HS := Lib.hid (show RefP (b.refs.take (k + 1 + 1)) from bu.refs_step HR.out HRI.out HJO.out (fun a' _ ha' => by
            have e2 : b.refs[k]? = some a' := ha'
            rw [HA.out] at e2
            rw [← Option.some.inj e2]
            omega))
          clear hjo hr hc ha
          go_wp2_with (go_quiet ((go_at_call 49; exact Calls.quiet_of_same (HQ.out _))))
          go_roundw
          case rel => exact ⟨k + 1 + 1, by go_num, by omega, HS.out, bel_drewN HV.out⟩
          case measure => simp [intOf]; omega
        · have dl : decide (r ≤ a) = true := decide_eq_true hle
          have HM := Lib.hid (show decide (May b) = false from decide_eq_false fun hm => bu.no_ref HRI.out (.inr ⟨a, by omega, HA.out, by omega⟩) (HM1.out.2 hm).2)
          clear hjo hr hc ha
          go_wp2_with (go_quiet ((go_at_call 49; exact Calls.quiet_of_same (HQ.out _))))
          go_ret
          exact ⟨by rw [HM.out]; rfl, bel_drewN HVL.out⟩
    · obtain rfl : i = nr := by omega
      have hrp : RefP b.refs := by have := HR.out; rwa [← HNR.out, List.take_length] at this
      have HM := Lib.hid (show decide (May b) = (isName b.name && decide (i ≤ 200)) by
        rw [Bool.eq_iff_iff, decide_eq_true_eq, ← HM1.out, Bool.and_eq_true, decide_eq_true_eq]
        exact ⟨fun hh => ⟨hh.1, by rw [← HNR.out]; exact hh.2.1⟩, fun hh => ⟨hh.1, by rw [HNR.out]; exact hh.2, hrp.1, hrp.2⟩⟩)
      clear hrp
      cases hn : isName b.name with
      | false =>
        rw [hn] at HM HNM
        clear hn
        go_wp2_with (go_at_call 71; ((with_reducible refine (HNM.out _).mono ?_); rintro e w5 ⟨rfl, rfl⟩))
        go_ret
        exact ⟨by rw [HM.out]; rfl, HVL.out⟩
      | true =>
        rw [hn] at HM HNM
        clear hn
        by_cases h2 : i ≤ 200
        · have d2 : decide (i ≤ 200) = true := decide_eq_true h2
          have d3 : decide ((i : Int) ≤ 200) = true := decide_eq_true (by omega)
          rw [d2] at HM
          go_wp2_with (go_at_call 71; ((with_reducible refine (HNM.out _).mono ?_); rintro e w5 ⟨rfl, rfl⟩))
          go_ret
          exact ⟨by rw [HM.out]; rfl, HVL.out⟩
        · have d2 : decide (i ≤ 200) = false := decide_eq_false h2
          have d3 : decide ((i : Int) ≤ 200) = false := decide_eq_false (by omega)
          rw [d2] at HM
          go_wp2_with (go_at_call 71; ((with_reducible refine (HNM.out _).mono ?_); rintro e w5 ⟨rfl, rfl⟩))
          go_ret
          exact ⟨by rw [HM.out]; rfl, HVL.out⟩
end Go.Proofs.YtkjffoebcblpoaaGreat.gn
end
