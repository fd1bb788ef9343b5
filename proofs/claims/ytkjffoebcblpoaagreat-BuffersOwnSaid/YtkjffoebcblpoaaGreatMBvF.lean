/- The program's valid. (Written by gen_bvF.py.) -/
import Derived.Test.YtkjffoebcblpoaaGreatMBvE
import Derived.Test.YtkjffoebcblpoaaGreatMUnE
import Derived.Test.YtkjffoebcblpoaaGreatMExD
section
set_option linter.unusedVariables false
set_option linter.unusedSimpArgs false
set_option maxRecDepth 100000
namespace Go.Proofs.YtkjffoebcblpoaaGreat.gn
open Go.RowKit
open Go.Proofs.YtkjffoebcblpoaaGreat.un (isName)
open Go.Proofs.YtkjffoebcblpoaaGreat.ex (X okx Dj Ok Apart Fine)
open Go.Proofs.YtkjffoebcblpoaaGreat.bu (Bf May RefsOk jobOk)

theorem xcs_fl : ∀ l : List X, xcs l = fl l
  | [] => rfl
  | x :: l => by unfold xcs fl; rw [xcs_fl l]
theorem RX.rd {w : World} {v : Value} {l : List X} (h : RX w v l) : Rd w v l := by
  rcases h with ⟨p, c, rfl, h0, _, h⟩ | ⟨b, off, c, rfl, hb, hc⟩
  · exact .inl ⟨p, c, rfl, List.eq_nil_of_length_eq_zero h0, h⟩
  · rw [xcs_fl] at hc
    refine .inr ⟨b, off, c, rfl, hb, fun j hj => ?_⟩
    have h1 := fl_at l j hj
    exact ⟨hc _ _ h1.1, by rw [Nat.add_assoc]; exact hc _ _ h1.2⟩
def fE (l : List X) : Int := if Fine l then 0 else 110
theorem echeck_any {w : World} {v : Value} {l : List X} (h : RX w v l) (hl : l.length ≤ 140737488355328) :
    Calls Tryz.prog 59 #[v] w (TellsM (.int .i64 (fE l)) w) := by
  by_cases hs : l.length ≤ 1000
  · exact check_any h.rd hs
  · obtain ⟨p, c, rfl, -⟩ := h.form
    have hF := Lib.hid (show fE l = 110 from if_neg fun hf => hs hf.1)
    obtain ⟨n, hn⟩ : ∃ n, l.length = n := ⟨_, rfl⟩
    rw [hn] at hs hl ⊢
    have hg : decide ((1000 : Int) < (n : Int)) = true := by simp; omega
    clear h hn
    go_enter Tryz.func59, Tryz.ntmps59
    go_wp2
    go_ret
    exact ⟨by rw [hF.out]; rfl, Below.refl _ _⟩
set_option maxHeartbeats 6400000 in
theorem valid_any (b : Bf) (g : Gb) (w : World) (h : RB w b g) (hB : BI b) : Calls Tryz.prog 29 #[bV b g] w (TellsM (.bool (decide (May b))) w) := by
  obtain ⟨ge, gr⟩ := g
  obtain ⟨W, hW⟩ : ∃ W, w.alloc (.cells (bcs b ⟨ge, gr⟩) 26) = W := ⟨_, rfl⟩
  have hb : BufB W w.heap.size b ⟨ge, gr⟩ := by rw [← hW]; exact BoxA.new _ _ _
  have hl : Below w.heap.size w W := by rw [← hW]; exact (Below.refl _ _).alloc (Nat.le_refl _) _
  have hr := h.next hl
  obtain ⟨he, hf⟩ := hr
  dsimp only at he hf
  have HE := Lib.hid (fun (Y : World) (hb : Below W.heap.size W Y) => echeck_any (he.next hb) hB.le)
  have HAL := Lib.hid (fun (Y : World) (hb : Below W.heap.size W Y) => allI_any (hf.next hb) hB.lr)
  have HRI0 := Lib.hid (fun (hs : b.refs.length ≤ 1000) (Y : World) (hb : Below W.heap.size W Y) => risingI_any (hf.next hb) hs)
  obtain ⟨pe, ce, hge, fe⟩ := he.form
  obtain ⟨pr, cr, hgr, fr⟩ := hf.form
  subst hge hgr
  obtain ⟨ne, hne⟩ : ∃ n, b.exts.length = n := ⟨_, rfl⟩
  obtain ⟨nr, hnr⟩ : ∃ n, b.refs.length = n := ⟨_, rfl⟩
  rw [hne] at HE
  rw [hnr] at HAL HRI0
  have HB := Lib.hid (fun (Y : World) (hY : Below W.heap.size W Y) => (BufB.next hb hY).cells)
  rw [hne, hnr] at HB
  have HL := Lib.hid hl
  have HW := Lib.hid hW
  unfold bcs at HW
  rw [hne, hnr] at HW
  have b1 : ne ≤ 140737488355328 := by rw [← hne]; exact hB.le
  have b2 : nr ≤ 140737488355328 := by rw [← hnr]; exact hB.lr
  have HNE := Lib.hid hne
  have HNR := Lib.hid hnr
  have HU := Lib.hid (fun Y => name_any b.user hB.lu Y)
  have HP := Lib.hid (fun Y => name_any b.pool hB.lp Y)
  have HNM := Lib.hid (fun Y => name_any b.name hB.ln Y)
  unfold bV bcs
  dsimp only
  rw [hne, hnr]
  have HBB := Lib.hid (HB.out W (Below.refl _ _))
  try dsimp only at HBB
  try dsimp only at HB
  clear h hW hb hl he hf fe fr hne hnr hB
  obtain ⟨c0, c1, c2, c3, c4, c5, c6, clt⟩ := HBB.out
  by_cases hu : isName b.user = true
  rotate_left
  · have HM := Lib.hid (show decide (May b) = false from decide_eq_false fun hm => hu hm.1)
    rw [show isName b.user = false by simpa using hu] at HU
    clear hu
    go_enter Tryz.func29, Tryz.ntmps29
    go_upto_region 1 with fail
    rw [HW.out]
    go_wp2_with (first
      | (go_at_call 58; ((with_reducible refine (HU.out _).mono ?_); rintro e w5 ⟨rfl, hb⟩); have A5 := Lib.hid (show Below W.heap.size W w5 from hb); clear hb; obtain ⟨x0, x1, x2, x3, x4, x5, x6, xlt⟩ := HB.out w5 A5.out))
    go_ret
    exact ⟨by rw [HM.out]; rfl, HL.out.trans (A5.out.mono HL.out.size)⟩
  rw [hu] at HU
  by_cases hp : isName b.pool = true
  rotate_left
  · have HM := Lib.hid (show decide (May b) = false from decide_eq_false fun hm => hp hm.2.1)
    rw [show isName b.pool = false by simpa using hp] at HP
    clear hu hp
    go_enter Tryz.func29, Tryz.ntmps29
    go_upto_region 1 with fail
    rw [HW.out]
    go_wp2_with (first
      | (go_at_call 58; ((with_reducible refine (HU.out _).mono ?_); rintro e w5 ⟨rfl, hb⟩); have A5 := Lib.hid (show Below W.heap.size W w5 from hb); clear hb; obtain ⟨x0, x1, x2, x3, x4, x5, x6, xlt⟩ := HB.out w5 A5.out)
      | (go_at_call 58; ((with_reducible refine (HP.out _).mono ?_); rintro e w6 ⟨rfl, hb⟩); have A6 := Lib.hid (show Below W.heap.size W w6 from A5.out.trans (hb.mono A5.out.size)); clear hb; obtain ⟨y0, y1, y2, y3, y4, y5, y6, ylt⟩ := HB.out w6 A6.out))
    go_ret
    exact ⟨by rw [HM.out]; rfl, HL.out.trans (A6.out.mono HL.out.size)⟩
  rw [hp] at HP
  by_cases h0 : ne = 0
  · have HM := Lib.hid (show decide (May b) = false from decide_eq_false fun hm => hm.2.2.1 (List.eq_nil_of_length_eq_zero (by rw [HNE.out]; exact h0)))
    have q0 : ((ne : Int) == 0) = true := by rw [beq_iff_eq]; omega
    clear hu hp h0
    go_enter Tryz.func29, Tryz.ntmps29
    go_upto_region 1 with fail
    rw [HW.out]
    go_wp2_with (first
      | (go_at_call 58; ((with_reducible refine (HU.out _).mono ?_); rintro e w5 ⟨rfl, hb⟩); have A5 := Lib.hid (show Below W.heap.size W w5 from hb); clear hb; obtain ⟨x0, x1, x2, x3, x4, x5, x6, xlt⟩ := HB.out w5 A5.out)
      | (go_at_call 58; ((with_reducible refine (HP.out _).mono ?_); rintro e w6 ⟨rfl, hb⟩); have A6 := Lib.hid (show Below W.heap.size W w6 from A5.out.trans (hb.mono A5.out.size)); clear hb; obtain ⟨y0, y1, y2, y3, y4, y5, y6, ylt⟩ := HB.out w6 A6.out))
    go_ret
    exact ⟨by rw [HM.out]; rfl, HL.out.trans (A6.out.mono HL.out.size)⟩
  have q0 : ((ne : Int) == 0) = false := by rw [beq_eq_false_iff_ne]; omega
  by_cases hF : Fine b.exts
  rotate_left
  · have HM := Lib.hid (show decide (May b) = false from decide_eq_false fun hm => hF hm.2.2.2.1)
    rw [show fE b.exts = 110 from if_neg hF] at HE
    clear hu hp hF
    go_enter Tryz.func29, Tryz.ntmps29
    go_upto_region 1 with fail
    rw [HW.out]
    go_wp2_with (first
      | (go_at_call 58; ((with_reducible refine (HU.out _).mono ?_); rintro e w5 ⟨rfl, hb⟩); have A5 := Lib.hid (show Below W.heap.size W w5 from hb); clear hb; obtain ⟨x0, x1, x2, x3, x4, x5, x6, xlt⟩ := HB.out w5 A5.out)
      | (go_at_call 58; ((with_reducible refine (HP.out _).mono ?_); rintro e w6 ⟨rfl, hb⟩); have A6 := Lib.hid (show Below W.heap.size W w6 from A5.out.trans (hb.mono A5.out.size)); clear hb; obtain ⟨y0, y1, y2, y3, y4, y5, y6, ylt⟩ := HB.out w6 A6.out)
      | (go_at_call 59; ((with_reducible refine (HE.out _ A6.out).mono ?_); rintro e w7 ⟨rfl, hb⟩); have A7 := Lib.hid (show Below W.heap.size W w7 from A6.out.trans (hb.mono A6.out.size)); clear hb))
    go_ret
    exact ⟨by rw [HM.out]; rfl, HL.out.trans (A7.out.mono HL.out.size)⟩
  have HPRE := Lib.hid (show (b.job ≠ 0 → jobOk b.job ∧ b.name = [] ∧ b.opn = false ∧ b.refs = []) ∧ (b.job = 0 → isName b.name = true ∧ RefsOk b.refs) ↔ May b from
    ⟨fun hh => ⟨hu, hp, (fun e => h0 (by rw [← HNE.out, e]; rfl)), hF, hh.1, hh.2⟩, fun hm => ⟨hm.2.2.2.2.1, hm.2.2.2.2.2⟩⟩)
  rw [show fE b.exts = 0 from if_pos hF] at HE
  clear hu hp hF
  go_enter Tryz.func29, Tryz.ntmps29
  go_upto_region 1 with fail
  rw [HW.out]
  go_upto_region 3 with (first
      | (go_at_call 58; ((with_reducible refine (HU.out _).mono ?_); rintro e w5 ⟨rfl, hb⟩); have A5 := Lib.hid (show Below W.heap.size W w5 from hb); clear hb; obtain ⟨x0, x1, x2, x3, x4, x5, x6, xlt⟩ := HB.out w5 A5.out)
      | (go_at_call 58; ((with_reducible refine (HP.out _).mono ?_); rintro e w6 ⟨rfl, hb⟩); have A6 := Lib.hid (show Below W.heap.size W w6 from A5.out.trans (hb.mono A5.out.size)); clear hb; obtain ⟨y0, y1, y2, y3, y4, y5, y6, ylt⟩ := HB.out w6 A6.out)
      | (go_at_call 59; ((with_reducible refine (HE.out _ A6.out).mono ?_); rintro e w7 ⟨rfl, hb⟩); have A7 := Lib.hid (show Below W.heap.size W w7 from A6.out.trans (hb.mono A6.out.size)); clear hb))
  clear c0 c1 c2 c3 c4 c5 c6 clt HE x0 x1 x2 x3 x4 x5 x6 xlt y0 y1 y2 y3 y4 y5 y6 ylt HBB
  obtain ⟨c0, c1, c2, c3, c4, c5, c6, clt⟩ := HB.out w7 A7.out
  have HL7 := Lib.hid (HL.out.trans (A7.out.mono HL.out.size))
  by_cases hj : b.job = 0
  rotate_left
  · have dj : (b.job != 0) = true := by rw [bne_iff_ne]; exact hj
    have HJB := Lib.hid (fun Y => number_any b.job Y)
    by_cases hjo : jobOk b.job
    rotate_left
    · have HM := Lib.hid (show decide (May b) = false from decide_eq_false fun hm => hjo ((HPRE.out.2 hm).1 hj).1)
      rw [decide_eq_false hjo] at HJB
      clear hj hjo
      go_wp2_with (go_at_call 44; ((with_reducible refine (HJB.out _).mono ?_); rintro e w8 ⟨rfl, rfl⟩))
      go_ret
      exact ⟨by rw [HM.out]; rfl, HL7.out⟩
    rw [decide_eq_true hjo] at HJB
    by_cases hn : b.name = []
    rotate_left
    · have HM := Lib.hid (show decide (May b) = false from decide_eq_false fun hm => hn ((HPRE.out.2 hm).1 hj).2.1)
      have n1 : ((str b.name).toList == ([] : List UInt8)) = false := by rw [str_toList, beq_eq_false_iff_ne]; exact hn
      have n2 : ¬ (str b.name).toList = [] := by rw [str_toList]; exact hn
      clear hj hjo hn
      go_wp2_with (go_at_call 44; ((with_reducible refine (HJB.out _).mono ?_); rintro e w8 ⟨rfl, rfl⟩))
      go_ret
      exact ⟨by rw [HM.out]; rfl, HL7.out⟩
    have HM0 := Lib.hid (show decide (May b) = (!b.opn && decide (nr = 0)) by
      rw [Bool.eq_iff_iff, decide_eq_true_eq, ← HPRE.out]
      simp only [Bool.and_eq_true, Bool.not_eq_true', decide_eq_true_eq]
      exact ⟨fun hh => ⟨(hh.1 hj).2.2.1, by rw [← HNR.out, (hh.1 hj).2.2.2]; rfl⟩, fun hh => ⟨fun _ => ⟨hjo, hn, hh.1, List.eq_nil_of_length_eq_zero (by rw [HNR.out]; exact hh.2)⟩, fun e => absurd e hj⟩⟩)
    have n1 : ((str b.name).toList == ([] : List UInt8)) = true := by rw [str_toList, hn]; rfl
    have n2 : (str b.name).toList = [] := by rw [str_toList]; exact hn
    have s2 := slen nr
    clear hj hjo hn
    cases ho : b.opn with
    | true =>
      rw [ho] at c4 HM0
      clear ho
      go_wp2_with (go_at_call 44; ((with_reducible refine (HJB.out _).mono ?_); rintro e w8 ⟨rfl, rfl⟩))
      go_ret
      exact ⟨by rw [HM0.out]; rfl, HL7.out⟩
    | false =>
      rw [ho] at c4 HM0
      clear ho
      go_wp2_with (go_at_call 44; ((with_reducible refine (HJB.out _).mono ?_); rintro e w8 ⟨rfl, rfl⟩))
      go_ret
      exact ⟨by rw [HM0.out]; rfl, HL7.out⟩
  have dj : (b.job != 0) = false := by rw [hj]; rfl
  have HM1 := Lib.hid (show (isName b.name = true ∧ RefsOk b.refs) ↔ May b from ⟨fun hh => HPRE.out.1 ⟨fun hn => absurd hj hn, fun _ => hh⟩, fun hm => (HPRE.out.2 hm).2 hj⟩)
  clear hj
  by_cases hn : isName b.name = true
  rotate_left
  · have HM := Lib.hid (show decide (May b) = false from decide_eq_false fun hm => hn (HM1.out.2 hm).1)
    rw [show isName b.name = false by simpa using hn] at HNM
    clear hn
    go_wp2_with (go_at_call 58; ((with_reducible refine (HNM.out _).mono ?_); rintro e w8 ⟨rfl, hb⟩); have A8 := Lib.hid (show Below W.heap.size W w8 from A7.out.trans (hb.mono A7.out.size)); clear hb; obtain ⟨z0, z1, z2, z3, z4, z5, z6, zlt⟩ := HB.out w8 A8.out)
    go_ret
    exact ⟨by rw [HM.out]; rfl, HL.out.trans (A8.out.mono HL.out.size)⟩
  rw [hn] at HNM
  by_cases h2 : nr ≤ 200
  rotate_left
  · have HM := Lib.hid (show decide (May b) = false from decide_eq_false fun hm => h2 (by rw [← HNR.out]; exact (HM1.out.2 hm).2.1))
    have d2 : decide ((nr : Int) ≤ 200) = false := decide_eq_false (by omega)
    clear hn
    go_wp2_with (go_at_call 58; ((with_reducible refine (HNM.out _).mono ?_); rintro e w8 ⟨rfl, hb⟩); have A8 := Lib.hid (show Below W.heap.size W w8 from A7.out.trans (hb.mono A7.out.size)); clear hb; obtain ⟨z0, z1, z2, z3, z4, z5, z6, zlt⟩ := HB.out w8 A8.out)
    go_ret
    exact ⟨by rw [HM.out]; rfl, HL.out.trans (A8.out.mono HL.out.size)⟩
  have d2 : decide ((nr : Int) ≤ 200) = true := decide_eq_true (by omega)
  have HRI := Lib.hid (HRI0.out (by omega))
  have HM2 := Lib.hid (show decide (May b) = (decide (∀ r ∈ b.refs, jobOk r) && decide (b.refs.Pairwise (· < ·))) by
    rw [Bool.eq_iff_iff, decide_eq_true_eq, ← HM1.out]
    simp only [Bool.and_eq_true, decide_eq_true_eq]
    exact ⟨fun hh => ⟨hh.2.2.1, hh.2.2.2⟩, fun hh => ⟨hn, by rw [HNR.out]; exact h2, hh.1, hh.2⟩⟩)
  clear hn
  generalize decide (∀ r ∈ b.refs, jobOk r) = a1 at *
  generalize decide (b.refs.Pairwise (· < ·)) = a2 at *
  cases a1 with
  | false =>
    go_wp2_with (first
      | (go_at_call 58; ((with_reducible refine (HNM.out _).mono ?_); rintro e w8 ⟨rfl, hb⟩); have A8 := Lib.hid (show Below W.heap.size W w8 from A7.out.trans (hb.mono A7.out.size)); clear hb; obtain ⟨z0, z1, z2, z3, z4, z5, z6, zlt⟩ := HB.out w8 A8.out)
      | (go_at_call 60; ((with_reducible refine (HAL.out _ A8.out).mono ?_); rintro e w9 ⟨rfl, hb⟩); have A9 := Lib.hid (show Below W.heap.size W w9 from A8.out.trans (hb.mono A8.out.size)); clear hb; obtain ⟨v0, v1, v2, v3, v4, v5, v6, vlt⟩ := HB.out w9 A9.out))
    go_ret
    exact ⟨by rw [HM2.out]; rfl, HL.out.trans (A9.out.mono HL.out.size)⟩
  | true =>
    go_wp2_with (first
      | (go_at_call 58; ((with_reducible refine (HNM.out _).mono ?_); rintro e w8 ⟨rfl, hb⟩); have A8 := Lib.hid (show Below W.heap.size W w8 from A7.out.trans (hb.mono A7.out.size)); clear hb; obtain ⟨z0, z1, z2, z3, z4, z5, z6, zlt⟩ := HB.out w8 A8.out)
      | (go_at_call 60; ((with_reducible refine (HAL.out _ A8.out).mono ?_); rintro e w9 ⟨rfl, hb⟩); have A9 := Lib.hid (show Below W.heap.size W w9 from A8.out.trans (hb.mono A8.out.size)); clear hb; obtain ⟨v0, v1, v2, v3, v4, v5, v6, vlt⟩ := HB.out w9 A9.out)
      | (go_at_call 61; ((with_reducible refine (HRI.out _ A9.out).mono ?_); rintro e w10 ⟨rfl, hb⟩); have A10 := Lib.hid (show Below W.heap.size W w10 from A9.out.trans (hb.mono A9.out.size)); clear hb))
    go_ret
    exact ⟨by rw [HM2.out]; rfl, HL.out.trans (A10.out.mono HL.out.size)⟩
end Go.Proofs.YtkjffoebcblpoaaGreat.gn
end
