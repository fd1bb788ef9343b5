/- The law's ann and head. (Written by gen_buQ.py, ahead of the code.) -/
import Derived.Test.YtkjffoebcblpoaaGreatMBuP
import Derived.Test.YtkjffoebcblpoaaGreatMBvT
section
set_option linter.unusedVariables false
set_option linter.unusedSimpArgs false
namespace Go.Proofs.YtkjffoebcblpoaaGreat.gn
open Go.RowKit
open Go.Proofs.YtkjffoebcblpoaaGreat.bu (Bf May Valid addS refS unrefS dropS freeS findS ofS)

def annB : Bf := ⟨0, [97], [97, 110, 110], [112], false, [(0, 4)], []⟩
def annR : Bf := ⟨0, [97], [97, 110, 110], [112], false, [(0, 4)], [1]⟩
def bobB : Bf := ⟨1, [], [98], [112], false, [(3, 1)], []⟩
theorem s_ref1 : refS [annB] [97] [98, 111, 98] 1 = ([], 171) := by kernel_rfl
theorem s_ref2 : refS [annB] [97] [97, 110, 110] 1 = ([annR], 0) := by kernel_rfl
theorem s_drop1 : dropS [annR] [97] [97, 110, 110] = ([], Bf.zero, 172) := by kernel_rfl
theorem s_unref : unrefS [annR] 1 = ([annB], 0) := by kernel_rfl
theorem s_drop2 : dropS [annB] [97] [98, 111, 98] = ([], Bf.zero, 171) := by kernel_rfl
theorem s_drop3 : dropS [annB] [97] [97, 110, 110] = ([], annB, 0) := by kernel_rfl
theorem s_add : addS [annB] bobB = ([], 110) := by kernel_rfl
theorem s_check : vE [annB] = 0 := if_pos (by decide)
theorem bi_ann : BI annB := ⟨by decide, (fun x hx => by rw [List.mem_singleton.1 hx]; unfold xI; decide), by decide, by decide, by decide, by decide, by decide, by decide⟩
theorem bi_bob : BI bobB := ⟨by decide, (fun x hx => by rw [List.mem_singleton.1 hx]; unfold xI; decide), by decide, by decide, by decide, by decide, by decide, by decide⟩
/-- A registry of one buffer of ann. -/
def AnnT (w : World) (en : Ending) (w' : World) : Prop := ∃ v M, en = .returned v ∧ M.map Prod.fst = [annB] ∧ IB w' v M ∧ Below w.heap.size w w'
set_option maxRecDepth 100000 in
set_option maxHeartbeats 3200000 in
theorem ann_any (w : World) : Calls Tryz.prog 28 #[] w (AnnT w) := by
  obtain ⟨W1, hW1⟩ : ∃ W1, w.alloc (.cells #[.int .i64 0, .int .i64 4] 55) = W1 := ⟨_, rfl⟩
  have hb1 : BoxA W1 w.heap.size 55 #[.int .i64 0, .int .i64 4] := by rw [← hW1]; exact BoxA.new _ _ _
  have hl1 : Below w.heap.size w W1 := by rw [← hW1]; exact (Below.refl _ _).alloc (Nat.le_refl _) _
  obtain ⟨W2, hW2⟩ : ∃ W2, W1.alloc (.cells #[.int .i64 0, .string { data := #[97] }, .string { data := #[97, 110, 110] }, .string { data := #[112] }, .bool false, .slice (some ⟨w.heap.size, 0, none⟩) 1 1, .slice none 0 0] 26) = W2 := ⟨_, rfl⟩
  have hb2 : BufB W2 W1.heap.size annB ⟨.slice (some ⟨w.heap.size, 0, none⟩) 1 1, .slice none 0 0⟩ := by rw [← hW2]; exact BoxA.new _ _ _
  have hl2 : Below W1.heap.size W1 W2 := by rw [← hW2]; exact (Below.refl _ _).alloc (Nat.le_refl _) _
  have hx : RX W2 (.slice (some ⟨w.heap.size, 0, none⟩) 1 1) annB.exts := RdC.next (box_rdc (c := 1) hb1) hl2
  have hr : RI W2 (.slice none 0 0) annB.refs := .inl ⟨none, 0, rfl, rfl, rfl, fun _ => rfl⟩
  have hib : IB W2 (.slice (some ⟨W1.heap.size, 0, none⟩) 1 1) [(annB, (⟨.slice (some ⟨w.heap.size, 0, none⟩) 1 1, .slice none 0 0⟩ : Gb))] :=
    ⟨⟨by rw [show bcl [(annB, (⟨.slice (some ⟨w.heap.size, 0, none⟩) 1 1, .slice none 0 0⟩ : Gb))] = (bcs annB ⟨.slice (some ⟨w.heap.size, 0, none⟩) 1 1, .slice none 0 0⟩).toList by simp [bcl]]; exact box_rdc (c := 1) hb2, fun p hp => by
      rw [List.mem_singleton.1 hp]
      exact ⟨hx, hr⟩⟩, ⟨_, _, rfl, by simp, by decide⟩, ⟨by simp, fun p hp => by
      rw [List.mem_singleton.1 hp]
      exact bi_ann⟩, fun p hp => by
      rw [List.mem_singleton.1 hp]
      exact ⟨⟨_, _, rfl, Nat.le_refl _, by decide⟩, ⟨_, _, rfl, Nat.le_refl _, by decide⟩⟩⟩
  have hsz : W1.heap.size = w.heap.size + 1 := by rw [← hW1]; exact World.size_alloc _ _
  rw [hsz] at hib
  have HIB := Lib.hid hib
  have HL := Lib.hid (hl1.trans (hl2.mono hl1.size))
  have HW1 := Lib.hid hW1
  have HW2 := Lib.hid hW2
  clear hb1 hl1 hb2 hl2 hx hr hib hsz hW1 hW2
  go_enter Tryz.func28, Tryz.ntmps28
  go_wp2
  go_ret
  rw [HW1.out, HW2.out]
  exact ⟨_, _, rfl, rfl, HIB.out, HL.out⟩
section
variable (PB : ProgB)
include PB
theorem h_ref1 {w : World} {v : Value} {L : List (Bf × Gb)} (h : IB w v L) (hm : L.map Prod.fst = [annB]) : Calls Tryz.prog 14 #[v, .string { data := #[97] }, .string { data := #[98, 111, 98] }, .int .i64 1] w (RowQ w [] 171) := by
  have := PB.ref h [97] [98, 111, 98] 1 (by decide) (by decide) (by decide)
  rw [hm, s_ref1] at this
  exact this.mono fun _ _ hh => hh.q
theorem h_ref2 {w : World} {v : Value} {L : List (Bf × Gb)} (h : IB w v L) (hm : L.map Prod.fst = [annB]) : Calls Tryz.prog 14 #[v, .string { data := #[97] }, .string { data := #[97, 110, 110] }, .int .i64 1] w (RowQ w [annR] 0) := by
  have := PB.ref h [97] [97, 110, 110] 1 (by decide) (by decide) (by decide)
  rw [hm, s_ref2] at this
  exact this.mono fun _ _ hh => hh.q
theorem h_drop1 {w : World} {v : Value} {L : List (Bf × Gb)} (h : IB w v L) (hm : L.map Prod.fst = [annR]) : Calls Tryz.prog 18 #[v, .string { data := #[97] }, .string { data := #[97, 110, 110] }] w (DropQ w L [] Bf.zero 172) := by
  have := PB.drop h [97] [97, 110, 110] (by decide) (by decide)
  rw [hm, s_drop1] at this
  exact this
theorem h_unref {w : World} {v : Value} {L : List (Bf × Gb)} (h : IB w v L) (hm : L.map Prod.fst = [annR]) : Calls Tryz.prog 16 #[v, .int .i64 1] w (RowQ w [annB] 0) := by
  have := PB.unref h 1 (by decide)
  rw [hm, s_unref] at this
  exact this
theorem h_drop2 {w : World} {v : Value} {L : List (Bf × Gb)} (h : IB w v L) (hm : L.map Prod.fst = [annB]) : Calls Tryz.prog 18 #[v, .string { data := #[97] }, .string { data := #[98, 111, 98] }] w (DropQ w L [] Bf.zero 171) := by
  have := PB.drop h [97] [98, 111, 98] (by decide) (by decide)
  rw [hm, s_drop2] at this
  exact this
theorem h_drop3 {w : World} {v : Value} {L : List (Bf × Gb)} (h : IB w v L) (hm : L.map Prod.fst = [annB]) : Calls Tryz.prog 18 #[v, .string { data := #[97] }, .string { data := #[97, 110, 110] }] w (DropQ w L [] annB 0) := by
  have := PB.drop h [97] [97, 110, 110] (by decide) (by decide)
  rw [hm, s_drop3] at this
  exact this
theorem h_add {w : World} {v : Value} {L : List (Bf × Gb)} (h : IB w v L) (hm : L.map Prod.fst = [annB]) {k : Nat} (hk : BoxA w k 55 #[.int .i64 3, .int .i64 1]) :
    Calls Tryz.prog 9 #[v, .agg #[.int .i64 1, .string { data := #[] }, .string { data := #[98] }, .string { data := #[112] }, .bool false, .slice (some ⟨k, 0, none⟩) 1 1, .slice none 0 0]] w (RowQ w [] 110) := by
  have := PB.add h bobB ⟨.slice (some ⟨k, 0, none⟩) 1 1, .slice none 0 0⟩ ⟨box_rdc (c := 1) hk, .inl ⟨none, 0, rfl, rfl, rfl, fun _ => rfl⟩⟩ bi_bob ⟨⟨_, _, rfl, Nat.le_refl _, by decide⟩, ⟨_, _, rfl, Nat.le_refl _, by decide⟩⟩
  rw [hm, s_add] at this
  exact this.mono fun _ _ hh => hh.q
theorem h_check {w : World} {v : Value} {L : List (Bf × Gb)} (h : IB w v L) (hm : L.map Prod.fst = [annB]) : Calls Tryz.prog 11 #[v] w (TellsM (.int .i64 0) w) := by
  have := PB.check h
  rw [hm, s_check] at this
  exact this
set_option maxRecDepth 100000 in
set_option maxHeartbeats 6400000 in
theorem lhead_any (w : World) : Calls Tryz.prog 8 #[] w (TellsM (.bool true) w) := by
  go_enter Tryz.func8, Tryz.ntmps8
  go_upto_region 2 with (first
    | (go_at_call 28; ((with_reducible refine (ann_any _).mono ?_); rintro e w1 ⟨v1, M1, rfl, hm, hib, hb⟩); have HM1 := Lib.hid hm; have HI1 := Lib.hid hib; have A1 := Lib.hid (show Below w.heap.size w w1 from hb); have HB1 := Lib.hid hb; clear hm hib hb)
    | (go_at_call 14; ((with_reducible refine (h_ref1 PB HI1.out HM1.out).mono ?_); rintro e w2 ⟨v2, M2, rfl, hm, hib, hb⟩); have HM2 := Lib.hid hm; have HI2 := Lib.hid hib; have A2 := Lib.hid (show Below w.heap.size w w2 from (A1.out.trans (hb.mono A1.out.size))); have HB2 := Lib.hid hb; clear hm hib hb))
  go_upto_region 3 with (first
    | (go_at_call 28; ((with_reducible refine (ann_any _).mono ?_); rintro e w3 ⟨v3, M3, rfl, hm, hib, hb⟩); have HM3 := Lib.hid hm; have HI3 := Lib.hid hib; have A3 := Lib.hid (show Below w.heap.size w w3 from (A2.out.trans (hb.mono A2.out.size))); have HB3 := Lib.hid hb; clear hm hib hb)
    | (go_at_call 14; ((with_reducible refine (h_ref2 PB HI3.out HM3.out).mono ?_); rintro e w4 ⟨v4, M4, rfl, hm, hib, hb⟩); have HM4 := Lib.hid hm; have HI4 := Lib.hid hib; have A4 := Lib.hid (show Below w.heap.size w w4 from (A3.out.trans (hb.mono A3.out.size))); have HB4 := Lib.hid hb; clear hm hib hb))
  go_upto_region 4 with (first
    | (go_at_call 18; ((with_reducible refine (h_drop1 PB HI4.out HM4.out).mono ?_); rintro e w5 ⟨v5, M5, g5, rfl, hm, hib, hrb, hbi, hcb, hb⟩); have HM5 := Lib.hid hm; have HI5 := Lib.hid hib; have A5 := Lib.hid (show Below w.heap.size w w5 from (A4.out.trans (hb.mono A4.out.size))); have HB5 := Lib.hid hb; have HRB5 := Lib.hid (hrb.rb (fun q hq => (HI4.out.rows.next hb).rows q hq)); clear hm hib hb hrb hbi hcb)
    | (refine wpList_store_row rfl _ _ _ rfl w5.heap.size (bcs Bf.zero g5) rfl rfl _ _ (BoxA.new w5 _ _) (by kernel_rfl) rfl (bcs_all HRB5.out) ?_))
  obtain ⟨W5, hW, hkW, hbW⟩ := box_endB w5 #[.int .i64 0, .string { data := #[] }, .string { data := #[] }, .string { data := #[] }, .bool false, .slice none 0 0, .slice none 0 0] (bcs Bf.zero g5) 26
  rw [hW]
  have HXW5 := Lib.hid (show BufB W5 w5.heap.size Bf.zero g5 from hkW)
  have HBW5 := Lib.hid (HB5.out.trans (hbW.mono HB5.out.size))
  have AW5 := Lib.hid (A5.out.trans (hbW.mono A5.out.size))
  have LW5 := Lib.hid hbW
  clear hW hkW hbW
  try simp only [Act.put]
  have HI4b := Lib.hid (HI4.out.next HBW5.out)
  go_upto_region 5 with (go_at_call 16; ((with_reducible refine (h_unref PB HI4b.out HM4.out).mono ?_); rintro e w6 ⟨v6, M6, rfl, hm, hib, hb⟩); have HM6 := Lib.hid hm; have HI6 := Lib.hid hib; have A6 := Lib.hid (show Below w.heap.size w w6 from (AW5.out.trans (hb.mono AW5.out.size))); have HB6 := Lib.hid hb; clear hm hib hb)
  go_upto_region 6 with (first
    | (go_at_call 18; ((with_reducible refine (h_drop2 PB HI6.out HM6.out).mono ?_); rintro e w7 ⟨v7, M7, g7, rfl, hm, hib, hrb, hbi, hcb, hb⟩); have HM7 := Lib.hid hm; have HI7 := Lib.hid hib; have A7 := Lib.hid (show Below w.heap.size w w7 from (A6.out.trans (hb.mono A6.out.size))); have HB7 := Lib.hid hb; have HRB7 := Lib.hid (hrb.rb (fun q hq => (HI6.out.rows.next hb).rows q hq)); clear hm hib hb hrb hbi hcb)
    | (refine wpList_store_row rfl _ _ _ rfl w7.heap.size (bcs Bf.zero g7) rfl rfl _ _ (BoxA.new w7 _ _) (by kernel_rfl) rfl (bcs_all HRB7.out) ?_))
  obtain ⟨W7, hW, hkW, hbW⟩ := box_endB w7 #[.int .i64 0, .string { data := #[] }, .string { data := #[] }, .string { data := #[] }, .bool false, .slice none 0 0, .slice none 0 0] (bcs Bf.zero g7) 26
  rw [hW]
  have HXW7 := Lib.hid (show BufB W7 w7.heap.size Bf.zero g7 from hkW)
  have HBW7 := Lib.hid (HB7.out.trans (hbW.mono HB7.out.size))
  have AW7 := Lib.hid (A7.out.trans (hbW.mono A7.out.size))
  have LW7 := Lib.hid hbW
  clear hW hkW hbW
  try simp only [Act.put]
  have HI6b := Lib.hid (HI6.out.next HBW7.out)
  go_upto_region 7 with (first
    | (go_at_call 18; ((with_reducible refine (h_drop3 PB HI6b.out HM6.out).mono ?_); rintro e w8 ⟨v8, M8, g8, rfl, hm, hib, hrb, hbi, hcb, hb⟩); have HM8 := Lib.hid hm; have HI8 := Lib.hid hib; have A8 := Lib.hid (show Below w.heap.size w w8 from (AW7.out.trans (hb.mono AW7.out.size))); have HB8 := Lib.hid hb; have HRB8 := Lib.hid (hrb.rb (fun q hq => (HI6b.out.rows.next hb).rows q hq)); clear hm hib hb hrb hbi hcb)
    | (refine wpList_store_row rfl _ _ _ rfl w8.heap.size (bcs annB g8) rfl rfl _ _ (BoxA.new w8 _ _) (by kernel_rfl) rfl (bcs_all HRB8.out) ?_))
  obtain ⟨W8, hW, hkW, hbW⟩ := box_endB w8 #[.int .i64 0, .string { data := #[] }, .string { data := #[] }, .string { data := #[] }, .bool false, .slice none 0 0, .slice none 0 0] (bcs annB g8) 26
  rw [hW]
  have HXW8 := Lib.hid (show BufB W8 w8.heap.size annB g8 from hkW)
  have HBW8 := Lib.hid (HB8.out.trans (hbW.mono HB8.out.size))
  have AW8 := Lib.hid (A8.out.trans (hbW.mono A8.out.size))
  have LW8 := Lib.hid hbW
  clear hW hkW hbW
  try simp only [Act.put]
  obtain ⟨p8, q8, hv8, -⟩ := HI8.out.rows.form
  have hm8 : M8.length = 0 := by have := congrArg List.length HM8.out; simpa using this
  rw [hm8] at hv8
  subst hv8
  clear hm8
  go_upto_region 8 with (first
    | ((go_at_call 28; ((with_reducible refine (ann_any _).mono ?_); rintro e w9 ⟨v9, M9, rfl, hm, hib, hb⟩); have HM9 := Lib.hid hm; have HI9 := Lib.hid hib; have A9 := Lib.hid (show Below w.heap.size w w9 from (AW8.out.trans (hb.mono AW8.out.size))); have HB9 := Lib.hid hb; clear hm hib hb); have HL9 := Lib.hid ((Below.refl _ w9).alloc (Nat.le_refl w9.heap.size) (.cells #[.int .i64 3, .int .i64 1] 55)); have A9b := Lib.hid (A9.out.trans (HL9.out.mono A9.out.size)))
    | (go_at_call 9; ((with_reducible refine (h_add PB (HI9.out.next HL9.out) HM9.out (BoxA.new w9 _ _)).mono ?_); rintro e w10 ⟨v10, M10, rfl, hm, hib, hb⟩); have HM10 := Lib.hid hm; have HI10 := Lib.hid hib; have A10 := Lib.hid (show Below w.heap.size w w10 from (A9b.out.trans (hb.mono A9b.out.size))); have HB10 := Lib.hid hb; clear hm hib hb))
  have c8 : w10.cell? ⟨w8.heap.size, 1, none⟩ = some (.string { data := #[97] }) := (low_cell ((HB9.out.trans (HL9.out.mono HB9.out.size)).trans (HB10.out.mono (Nat.le_trans HB9.out.size HL9.out.size))) (BoxA.lt HXW8.out)).trans (show W8.cell? _ = some (.string (str annB.name)) from HXW8.out.cells.2.1)
  have l8 : w8.heap.size < w10.heap.size := by have := BoxA.lt HXW8.out; have := HB9.out.size; have := HL9.out.size; have := HB10.out.size; omega
  go_wp2_with (first
    | (go_at_call 28; ((with_reducible refine (ann_any _).mono ?_); rintro e w11 ⟨v11, M11, rfl, hm, hib, hb⟩); have HM11 := Lib.hid hm; have HI11 := Lib.hid hib; have A11 := Lib.hid (show Below w.heap.size w w11 from (A10.out.trans (hb.mono A10.out.size))); have HB11 := Lib.hid hb; clear hm hib hb)
    | (go_at_call 11; ((with_reducible refine (h_check PB HI11.out HM11.out).mono ?_); rintro e w12 ⟨rfl, hb⟩); have A12 := Lib.hid (A11.out.trans (hb.mono A11.out.size)); clear hb))
  go_ret
  exact ⟨rfl, A12.out⟩
end
end Go.Proofs.YtkjffoebcblpoaaGreat.gn
end
section
set_option linter.unusedVariables false
namespace Go.Proofs.YtkjffoebcblpoaaGreat.gn
open Go.RowKit
open Go.Proofs.YtkjffoebcblpoaaGreat.bu (Bf)

theorem progB : ProgB where
  check h := pcheck_any h.rows h.bis
  add h b g hb hbi _ := padd_any h.rows h.bis b g hb hbi
  ref h name user job _ _ _ := pref_any h.rows h.bis name user job
  unref h job _ := (punref_any h.rows h.bis job).mono fun _ _ hh => hh.q
  drop h name user _ _ := (pdrop_any h.rows h.bis name user).mono fun _ _ hh => hh.q
  free h job _ := pfree_any h.rows h.bis job
  find h name _ := pfind_any h.rows h.bis name
  of h job _ := pof_any h.rows h.bis job
end Go.Proofs.YtkjffoebcblpoaaGreat.gn
end
