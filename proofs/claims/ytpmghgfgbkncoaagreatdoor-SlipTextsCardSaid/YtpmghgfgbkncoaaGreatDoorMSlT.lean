/- SlipTexts' walk. (Written by gen_slT.py.) -/
import Derived.Test.YtpmghgfgbkncoaaGreatDoorMSlW
import Derived.Test.YtpmghgfgbkncoaaGreatDoorMSlSa
import Derived.Test.YtpmghgfgbkncoaaGreatDoorMSlDt
section
set_option linter.unusedVariables false
set_option linter.unusedSimpArgs false
namespace Go.Proofs.YtpmghgfgbkncoaaGreatDoor.gn
open Go.RowKit
open Go.Proofs.YtpmghgfgbkncoaaGreatDoor.un
open Go.Proofs.YtpmghgfgbkncoaaGreatDoor.di
open Go.Proofs.YtpmghgfgbkncoaaGreatDoor.sp (Slip chkS chkS_iff txtS sread read_text)

theorem Look.mid {x : Slip} (h : Look x) : Mid x :=
  ⟨by have := h.user; omega, by have := h.pool; omega, by have := h.after; omega, ⟨by have := h.make.1; omega, fun d hd => by have := h.make.2 d hd; omega⟩, ⟨by have := h.drop.1; omega, fun s hs => by have := h.drop.2 s hs; omega⟩, ⟨by have := h.use.1; omega, fun s hs => by have := h.use.2 s hs; omega⟩⟩
set_option maxRecDepth 100000 in
set_option maxHeartbeats 32000000 in
theorem texts_no (x y : Slip) (g g' : Gh) (w : World) (h : SR w x g) (h' : SR w y g') (hW : SW x) (hW' : SW y) (hL : LaidD w) (hc : ¬ chkS x = true) : Calls Tryz.prog 4 #[sV x g, sV y g'] w (Told (.bool true) w) := by
  obtain ⟨wb, hwb⟩ : ∃ wb, (w.alloc (.cells (scs x g) 27)).alloc (.cells (scs y g') 27) = wb := ⟨_, rfl⟩
  have hb0 : Below w.heap.size w wb := by rw [← hwb]; exact ((Below.refl _ _).alloc (Nat.le_refl _) _).alloc (by simp) _
  have hx1 : BoxA wb w.heap.size 27 (scs x g) := by rw [← hwb]; exact (BoxA.new w _ _).next ((Below.refl _ _).alloc (Nat.le_refl _) _)
  have hx2 : BoxA wb (w.heap.size + 1) 27 (scs y g') := by
    have := BoxA.new (w.alloc (.cells (scs x g) 27)) 27 (scs y g')
    rw [World.size_alloc, hwb] at this
    exact this
  have HWB := Lib.hid hwb
  have HFIN := Lib.hid (fun (W : World) (hb : Below wb.heap.size wb W) => hb0.trans (hb.mono hb0.size))
  have HCX := Lib.hid (fun (W : World) (hb : Below wb.heap.size wb W) => cel_box (hx1.next hb))
  have HCY := Lib.hid (fun (W : World) (hb : Below wb.heap.size wb W) => cel_box (hx2.next hb))
  have hs := fun (W : World) (hb : Below wb.heap.size wb W) => (h.next hb0).next hb
  have hs' := fun (W : World) (hb : Below wb.heap.size wb W) => (h'.next hb0).next hb
  have hL1 := fun (W : World) (hb : Below wb.heap.size wb W) => hL.next (hb0.trans (hb.mono hb0.size))
  have HL := Lib.hid hL1
  have HS := Lib.hid hs
  have HGX := Lib.hid (great_any x g wb (h.next hb0) hW)
  have HGY := Lib.hid (fun (W : World) (hb : Below wb.heap.size wb W) => great_any y g' W (hs' W hb) hW')
  have HHD := Lib.hid (fun (W : World) (hb : Below wb.heap.size wb W) => head_yes W (hL1 W hb))
  have HTX := Lib.hid (fun (W : World) (hb : Below wb.heap.size wb W) => sText_any x g W (hs W hb) hW (hL1 W hb))
  have HDT := Lib.hid (fun (hl : Look x) (W : World) (hb : Below wb.heap.size wb W) => dText_slip x g W (hs W hb) hW hl.mid)
  have HCK := Lib.hid (fun (W : World) (hb : Below wb.heap.size wb W) => Check_slip x g W (hs W hb) hW (hL1 W hb))
  have HSP := Lib.hid (fun (W : World) (hb : Below wb.heap.size wb W) => Same_slip x y g g' W (hs W hb) (hs' W hb))
  have HSD := Lib.hid (fun (W : World) (hb : Below wb.heap.size wb W) => dSame_slip x y g g' W (hs W hb) (hs' W hb))
  have HSX := Lib.hid (fun (W : World) (hb : Below wb.heap.size wb W) => Same_slip x x g g W (hs W hb) (hs W hb))
  rw [show decide (x = x) = true from decide_eq_true rfl] at HSX
  have HE := Lib.hid (show sE x = 150 ∧ tS x = [] by unfold sE tS; rw [if_neg hc, if_neg hc]; exact ⟨rfl, rfl⟩)
  unfold STextT at HTX HDT
  rw [HE.out.1] at HTX HDT HCK
  rw [HE.out.2] at HTX HDT
  have HCC := Lib.hid hc
  obtain ⟨T, hT⟩ : ∃ T, str [] = T := ⟨_, rfl⟩
  rw [hT] at HTX HDT
  have HTE := Lib.hid hT
  obtain ⟨DD, hDD⟩ : ∃ DD, decide (x = y) = DD := ⟨_, rfl⟩
  rw [hDD] at HSP HSD
  have qD : (DD != DD) = false := by cases DD <;> rfl
  have qD2 : (DD == DD) = true := by cases DD <;> rfl
  have qT : (T.toList == T.toList) = true := by simp
  clear h h' hb0 hwb hx1 hx2 hs hs' hL1 hL hW hW' hc hT hDD
  obtain ⟨va, vm, vd, vu⟩ := g
  obtain ⟨va', vm', vd', vu'⟩ := g'
  unfold sV scs at *
  dsimp only at *
  have HKK := Lib.hid (fun (W : World) (hb : Below wb.heap.size wb W) => (show W.cell? ⟨w.heap.size, 0, none⟩ = some (.string (str x.user)) ∧ W.cell? ⟨w.heap.size, 1, none⟩ = some (.int .i64 x.nodes) ∧ W.cell? ⟨w.heap.size, 2, none⟩ = some (.int .i64 x.wall) ∧ W.cell? ⟨w.heap.size, 3, none⟩ = some (.int .i64 x.qos) ∧ W.cell? ⟨w.heap.size, 4, none⟩ = some (va) ∧ W.cell? ⟨w.heap.size, 5, none⟩ = some (.int .i64 x.cap) ∧ W.cell? ⟨w.heap.size, 6, none⟩ = some (.int .i64 x.inn) ∧ W.cell? ⟨w.heap.size, 7, none⟩ = some (.int .i64 x.out) ∧ W.cell? ⟨w.heap.size, 8, none⟩ = some (.string (str x.pool)) ∧ W.cell? ⟨w.heap.size, 9, none⟩ = some (vm) ∧ W.cell? ⟨w.heap.size, 10, none⟩ = some (vd) ∧ W.cell? ⟨w.heap.size, 11, none⟩ = some (vu) ∧ W.cell? ⟨w.heap.size + 1, 0, none⟩ = some (.string (str y.user)) ∧ W.cell? ⟨w.heap.size + 1, 1, none⟩ = some (.int .i64 y.nodes) ∧ W.cell? ⟨w.heap.size + 1, 2, none⟩ = some (.int .i64 y.wall) ∧ W.cell? ⟨w.heap.size + 1, 3, none⟩ = some (.int .i64 y.qos) ∧ W.cell? ⟨w.heap.size + 1, 4, none⟩ = some (va') ∧ W.cell? ⟨w.heap.size + 1, 5, none⟩ = some (.int .i64 y.cap) ∧ W.cell? ⟨w.heap.size + 1, 6, none⟩ = some (.int .i64 y.inn) ∧ W.cell? ⟨w.heap.size + 1, 7, none⟩ = some (.int .i64 y.out) ∧ W.cell? ⟨w.heap.size + 1, 8, none⟩ = some (.string (str y.pool)) ∧ W.cell? ⟨w.heap.size + 1, 9, none⟩ = some (vm') ∧ W.cell? ⟨w.heap.size + 1, 10, none⟩ = some (vd') ∧ W.cell? ⟨w.heap.size + 1, 11, none⟩ = some (vu') from ⟨(HCX.out _ hb).c0, (HCX.out _ hb).c1, (HCX.out _ hb).c2, (HCX.out _ hb).c3, (HCX.out _ hb).c4, (HCX.out _ hb).c5, (HCX.out _ hb).c6, (HCX.out _ hb).c7, (HCX.out _ hb).c8, (HCX.out _ hb).c9, (HCX.out _ hb).c10, (HCX.out _ hb).c11, (HCY.out _ hb).c0, (HCY.out _ hb).c1, (HCY.out _ hb).c2, (HCY.out _ hb).c3, (HCY.out _ hb).c4, (HCY.out _ hb).c5, (HCY.out _ hb).c6, (HCY.out _ hb).c7, (HCY.out _ hb).c8, (HCY.out _ hb).c9, (HCY.out _ hb).c10, (HCY.out _ hb).c11⟩))
  obtain ⟨c0, c1, c2, c3, c4, c5, c6, c7, c8, c9, c10, c11, clt⟩ := HCX.out wb (Below.refl _ _)
  obtain ⟨d0, d1, d2, d3, d4, d5, d6, d7, d8, d9, d10, d11, dlt⟩ := HCY.out wb (Below.refl _ _)
  dsimp only at c0 c1 c2 c3 c4 c5 c6 c7 c8 c9 c10 c11 d0 d1 d2 d3 d4 d5 d6 d7 d8 d9 d10 d11
  go_enter Tryz.func4, Tryz.ntmps4
  apply wp_seq_k
  intro K hK
  apply wp_region_lit
  refine Great.wpList_boxTo rfl _ _ rfl _ rfl w.heap.size rfl #[.string (str x.user), .int .i64 x.nodes, .int .i64 x.wall, .int .i64 x.qos, va, .int .i64 x.cap, .int .i64 x.inn, .int .i64 x.out, .string (str x.pool), vm, vd, vu] rfl ?_
  simp only [Act.put, List.setIfInBounds_toArray, List.set_cons_zero, List.set_cons_succ]
  refine Great.wpList_boxTo rfl _ _ rfl _ rfl (w.heap.size + 1) (World.size_alloc _ _) #[.string (str y.user), .int .i64 y.nodes, .int .i64 y.wall, .int .i64 y.qos, va', .int .i64 y.cap, .int .i64 y.inn, .int .i64 y.out, .string (str y.pool), vm', vd', vu'] rfl ?_
  rw [HWB.out]
  simp only [Act.put, List.setIfInBounds_toArray, List.set_cons_zero, List.set_cons_succ]
  go_upto_region 3 with (first
    | (go_at_call 11; ((with_reducible refine HGX.out.mono ?_); rintro e w1 ⟨b, rfl, hlk, hb⟩); have A1 := Lib.hid (show Below wb.heap.size wb w1 from hb); obtain ⟨c0, c1, c2, c3, c4, c5, c6, c7, c8, c9, c10, c11, clt⟩ := HCX.out _ A1.out; obtain ⟨d0, d1, d2, d3, d4, d5, d6, d7, d8, d9, d10, d11, dlt⟩ := HCY.out _ A1.out; dsimp only at c0 c1 c2 c3 c4 c5 c6 c7 c8 c9 c10 c11 d0 d1 d2 d3 d4 d5 d6 d7 d8 d9 d10 d11; have HLX := Lib.hid hlk; clear hb hlk; cases b)
    | (go_at_call 11; ((with_reducible refine (HGY.out _ A1.out).mono ?_); rintro e w2 ⟨b2, rfl, hlk2, hb⟩); have A2 := Lib.hid (show Below wb.heap.size wb w2 from A1.out.trans (hb.mono A1.out.size)); obtain ⟨c0, c1, c2, c3, c4, c5, c6, c7, c8, c9, c10, c11, clt⟩ := HCX.out _ A2.out; obtain ⟨d0, d1, d2, d3, d4, d5, d6, d7, d8, d9, d10, d11, dlt⟩ := HCY.out _ A2.out; dsimp only at c0 c1 c2 c3 c4 c5 c6 c7 c8 c9 c10 c11 d0 d1 d2 d3 d4 d5 d6 d7 d8 d9 d10 d11; have HLY := Lib.hid hlk2; clear hb hlk2; cases b2)
    | (go_at_call 7; ((with_reducible refine (HHD.out _ (by first | exact A2.out | exact A1.out)).mono ?_); rintro e w3 ⟨rfl, hb⟩); have AE := Lib.hid (show Below wb.heap.size wb w3 from by first | exact A2.out.trans (hb.mono A2.out.size) | exact A1.out.trans (hb.mono A1.out.size)); clear hb))
  rotate_left
  · go_ret
    exact ⟨rfl, HFIN.out _ AE.out⟩
  · go_ret
    exact ⟨rfl, HFIN.out _ AE.out⟩
  have HLK := Lib.hid (HLX.out (by trivial))
  clear HGX HGY HLX HLY
  go_upto_region 5 with (first
    | (go_at_call 12; ((with_reducible refine (HTX.out _ A2.out).mono ?_); rintro e w3 ⟨rfl, hb⟩); have A3 := Lib.hid (show Below wb.heap.size wb w3 from A2.out.trans (hb.mono A2.out.size)); obtain ⟨c0, c1, c2, c3, c4, c5, c6, c7, c8, c9, c10, c11, clt⟩ := HCX.out _ A3.out; obtain ⟨d0, d1, d2, d3, d4, d5, d6, d7, d8, d9, d10, d11, dlt⟩ := HCY.out _ A3.out; dsimp only at c0 c1 c2 c3 c4 c5 c6 c7 c8 c9 c10 c11 d0 d1 d2 d3 d4 d5 d6 d7 d8 d9 d10 d11; clear hb)
    | (go_at_call 13; ((with_reducible refine (HDT.out HLK.out _ A3.out).mono ?_); rintro e w4 ⟨rfl, hb⟩); have A4 := Lib.hid (show Below wb.heap.size wb w4 from A3.out.trans (hb.mono A3.out.size)); obtain ⟨c0, c1, c2, c3, c4, c5, c6, c7, c8, c9, c10, c11, clt⟩ := HCX.out _ A4.out; obtain ⟨d0, d1, d2, d3, d4, d5, d6, d7, d8, d9, d10, d11, dlt⟩ := HCY.out _ A4.out; dsimp only at c0 c1 c2 c3 c4 c5 c6 c7 c8 c9 c10 c11 d0 d1 d2 d3 d4 d5 d6 d7 d8 d9 d10 d11; clear hb))
  go_cut [56] (fun s56 wx => s56 = .bool false ∧ Aside (Below wb.heap.size wb wx))
  case first =>
    have AY := Lib.hid (A4.out.trans ((drew_low w4).mono A4.out.size))
    go_region_held3 (fun W => W.cell? ⟨w.heap.size, 0, none⟩ = some (.string (str x.user)) ∧ W.cell? ⟨w.heap.size, 1, none⟩ = some (.int .i64 x.nodes) ∧ W.cell? ⟨w.heap.size, 2, none⟩ = some (.int .i64 x.wall) ∧ W.cell? ⟨w.heap.size, 3, none⟩ = some (.int .i64 x.qos) ∧ W.cell? ⟨w.heap.size, 4, none⟩ = some (va) ∧ W.cell? ⟨w.heap.size, 5, none⟩ = some (.int .i64 x.cap) ∧ W.cell? ⟨w.heap.size, 6, none⟩ = some (.int .i64 x.inn) ∧ W.cell? ⟨w.heap.size, 7, none⟩ = some (.int .i64 x.out) ∧ W.cell? ⟨w.heap.size, 8, none⟩ = some (.string (str x.pool)) ∧ W.cell? ⟨w.heap.size, 9, none⟩ = some (vm) ∧ W.cell? ⟨w.heap.size, 10, none⟩ = some (vd) ∧ W.cell? ⟨w.heap.size, 11, none⟩ = some (vu) ∧ W.cell? ⟨w.heap.size + 1, 0, none⟩ = some (.string (str y.user)) ∧ W.cell? ⟨w.heap.size + 1, 1, none⟩ = some (.int .i64 y.nodes) ∧ W.cell? ⟨w.heap.size + 1, 2, none⟩ = some (.int .i64 y.wall) ∧ W.cell? ⟨w.heap.size + 1, 3, none⟩ = some (.int .i64 y.qos) ∧ W.cell? ⟨w.heap.size + 1, 4, none⟩ = some (va') ∧ W.cell? ⟨w.heap.size + 1, 5, none⟩ = some (.int .i64 y.cap) ∧ W.cell? ⟨w.heap.size + 1, 6, none⟩ = some (.int .i64 y.inn) ∧ W.cell? ⟨w.heap.size + 1, 7, none⟩ = some (.int .i64 y.out) ∧ W.cell? ⟨w.heap.size + 1, 8, none⟩ = some (.string (str y.pool)) ∧ W.cell? ⟨w.heap.size + 1, 9, none⟩ = some (vm') ∧ W.cell? ⟨w.heap.size + 1, 10, none⟩ = some (vd') ∧ W.cell? ⟨w.heap.size + 1, 11, none⟩ = some (vu')) (first | exact HKK.out _ A7.out | exact HKK.out _ A6.out | exact HKK.out _ A5.out | exact HKK.out _ AS.out | exact HKK.out _ AY.out | exact HKK.out _ A4.out) (first
      | (go_at_call 14; ((with_reducible refine (HCK.out _ AY.out).mono ?_); rintro e w5 ⟨rfl, hb⟩); have A5 := Lib.hid (show Below wb.heap.size wb w5 from AY.out.trans (hb.mono AY.out.size)); clear hb)
      | (go_at_call 15; ((with_reducible refine (HSP.out _ A5.out).mono ?_); rintro e w6 ⟨rfl, hb⟩); have A6 := Lib.hid (show Below wb.heap.size wb w6 from A5.out.trans (hb.mono A5.out.size)); clear hb)
      | (go_at_call 10; ((with_reducible refine (HSD.out _ A6.out).mono ?_); rintro e w7 ⟨rfl, hb⟩); have AS := Lib.hid (show Below wb.heap.size wb w7 from A6.out.trans (hb.mono A6.out.size)); clear hb)
      | (go_at_call 15; ((with_reducible refine (HSX.out _ AS.out).mono ?_); rintro e w8 ⟨rfl, hb⟩); have A7 := Lib.hid (show Below wb.heap.size wb w8 from AS.out.trans (hb.mono AS.out.size)); clear hb))
    all_goals
      go_wp2_with fail
      go_meet
      case rel => exact ⟨rfl, A7.out⟩
  case rest =>
  obtain ⟨rfl, hcut⟩ := hcut
  have A8 := Lib.hid (show Below wb.heap.size wb wc from hcut)
  clear hcut
  clear c0 c1 c2 c3 c4 c5 c6 c7 c8 c9 c10 c11 clt d0 d1 d2 d3 d4 d5 d6 d7 d8 d9 d10 d11 dlt
  obtain ⟨c0, c1, c2, c3, c4, c5, c6, c7, c8, c9, c10, c11, clt⟩ := HCX.out _ A8.out
  dsimp only at c0 c1 c2 c3 c4 c5 c6 c7 c8 c9 c10 c11
  go_wp2_with (go_at_call 7; ((with_reducible refine (HHD.out _ A8.out).mono ?_); rintro e w9 ⟨rfl, hb⟩); have AE := Lib.hid (show Below wb.heap.size wb w9 from A8.out.trans (hb.mono A8.out.size)); clear hb)
  go_ret
  exact ⟨rfl, HFIN.out _ AE.out⟩
set_option maxRecDepth 100000 in
set_option maxHeartbeats 32000000 in
theorem texts_yes (x y : Slip) (g g' : Gh) (w : World) (h : SR w x g) (h' : SR w y g') (hW : SW x) (hW' : SW y) (hL : LaidD w) (hc : chkS x = true) : Calls Tryz.prog 4 #[sV x g, sV y g'] w (Told (.bool true) w) := by
  obtain ⟨wb, hwb⟩ : ∃ wb, (w.alloc (.cells (scs x g) 27)).alloc (.cells (scs y g') 27) = wb := ⟨_, rfl⟩
  have hb0 : Below w.heap.size w wb := by rw [← hwb]; exact ((Below.refl _ _).alloc (Nat.le_refl _) _).alloc (by simp) _
  have hx1 : BoxA wb w.heap.size 27 (scs x g) := by rw [← hwb]; exact (BoxA.new w _ _).next ((Below.refl _ _).alloc (Nat.le_refl _) _)
  have hx2 : BoxA wb (w.heap.size + 1) 27 (scs y g') := by
    have := BoxA.new (w.alloc (.cells (scs x g) 27)) 27 (scs y g')
    rw [World.size_alloc, hwb] at this
    exact this
  have HWB := Lib.hid hwb
  have HFIN := Lib.hid (fun (W : World) (hb : Below wb.heap.size wb W) => hb0.trans (hb.mono hb0.size))
  have HCX := Lib.hid (fun (W : World) (hb : Below wb.heap.size wb W) => cel_box (hx1.next hb))
  have HCY := Lib.hid (fun (W : World) (hb : Below wb.heap.size wb W) => cel_box (hx2.next hb))
  have hs := fun (W : World) (hb : Below wb.heap.size wb W) => (h.next hb0).next hb
  have hs' := fun (W : World) (hb : Below wb.heap.size wb W) => (h'.next hb0).next hb
  have hL1 := fun (W : World) (hb : Below wb.heap.size wb W) => hL.next (hb0.trans (hb.mono hb0.size))
  have HL := Lib.hid hL1
  have HS := Lib.hid hs
  have HGX := Lib.hid (great_any x g wb (h.next hb0) hW)
  have HGY := Lib.hid (fun (W : World) (hb : Below wb.heap.size wb W) => great_any y g' W (hs' W hb) hW')
  have HHD := Lib.hid (fun (W : World) (hb : Below wb.heap.size wb W) => head_yes W (hL1 W hb))
  have HTX := Lib.hid (fun (W : World) (hb : Below wb.heap.size wb W) => sText_any x g W (hs W hb) hW (hL1 W hb))
  have HDT := Lib.hid (fun (hl : Look x) (W : World) (hb : Below wb.heap.size wb W) => dText_slip x g W (hs W hb) hW hl.mid)
  have HCK := Lib.hid (fun (W : World) (hb : Below wb.heap.size wb W) => Check_slip x g W (hs W hb) hW (hL1 W hb))
  have HSP := Lib.hid (fun (W : World) (hb : Below wb.heap.size wb W) => Same_slip x y g g' W (hs W hb) (hs' W hb))
  have HSD := Lib.hid (fun (W : World) (hb : Below wb.heap.size wb W) => dSame_slip x y g g' W (hs W hb) (hs' W hb))
  have HSX := Lib.hid (fun (W : World) (hb : Below wb.heap.size wb W) => Same_slip x x g g W (hs W hb) (hs W hb))
  rw [show decide (x = x) = true from decide_eq_true rfl] at HSX
  have HE := Lib.hid (show sE x = 0 ∧ tS x = txtS x by unfold sE tS; rw [if_pos hc, if_pos hc]; exact ⟨rfl, rfl⟩)
  unfold STextT at HTX HDT
  rw [HE.out.1] at HTX HDT HCK
  rw [HE.out.2] at HTX HDT
  have HCC := Lib.hid hc
  obtain ⟨T, hT⟩ : ∃ T, str (txtS x) = T := ⟨_, rfl⟩
  rw [hT] at HTX HDT
  have HTE := Lib.hid hT
  obtain ⟨DD, hDD⟩ : ∃ DD, decide (x = y) = DD := ⟨_, rfl⟩
  rw [hDD] at HSP HSD
  have qD : (DD != DD) = false := by cases DD <;> rfl
  have qD2 : (DD == DD) = true := by cases DD <;> rfl
  have qT : (T.toList == T.toList) = true := by simp
  clear h h' hb0 hwb hx1 hx2 hs hs' hL1 hL hW hW' hc hT hDD
  obtain ⟨va, vm, vd, vu⟩ := g
  obtain ⟨va', vm', vd', vu'⟩ := g'
  unfold sV scs at *
  dsimp only at *
  have HKK := Lib.hid (fun (W : World) (hb : Below wb.heap.size wb W) => (show W.cell? ⟨w.heap.size, 0, none⟩ = some (.string (str x.user)) ∧ W.cell? ⟨w.heap.size, 1, none⟩ = some (.int .i64 x.nodes) ∧ W.cell? ⟨w.heap.size, 2, none⟩ = some (.int .i64 x.wall) ∧ W.cell? ⟨w.heap.size, 3, none⟩ = some (.int .i64 x.qos) ∧ W.cell? ⟨w.heap.size, 4, none⟩ = some (va) ∧ W.cell? ⟨w.heap.size, 5, none⟩ = some (.int .i64 x.cap) ∧ W.cell? ⟨w.heap.size, 6, none⟩ = some (.int .i64 x.inn) ∧ W.cell? ⟨w.heap.size, 7, none⟩ = some (.int .i64 x.out) ∧ W.cell? ⟨w.heap.size, 8, none⟩ = some (.string (str x.pool)) ∧ W.cell? ⟨w.heap.size, 9, none⟩ = some (vm) ∧ W.cell? ⟨w.heap.size, 10, none⟩ = some (vd) ∧ W.cell? ⟨w.heap.size, 11, none⟩ = some (vu) ∧ W.cell? ⟨w.heap.size + 1, 0, none⟩ = some (.string (str y.user)) ∧ W.cell? ⟨w.heap.size + 1, 1, none⟩ = some (.int .i64 y.nodes) ∧ W.cell? ⟨w.heap.size + 1, 2, none⟩ = some (.int .i64 y.wall) ∧ W.cell? ⟨w.heap.size + 1, 3, none⟩ = some (.int .i64 y.qos) ∧ W.cell? ⟨w.heap.size + 1, 4, none⟩ = some (va') ∧ W.cell? ⟨w.heap.size + 1, 5, none⟩ = some (.int .i64 y.cap) ∧ W.cell? ⟨w.heap.size + 1, 6, none⟩ = some (.int .i64 y.inn) ∧ W.cell? ⟨w.heap.size + 1, 7, none⟩ = some (.int .i64 y.out) ∧ W.cell? ⟨w.heap.size + 1, 8, none⟩ = some (.string (str y.pool)) ∧ W.cell? ⟨w.heap.size + 1, 9, none⟩ = some (vm') ∧ W.cell? ⟨w.heap.size + 1, 10, none⟩ = some (vd') ∧ W.cell? ⟨w.heap.size + 1, 11, none⟩ = some (vu') from ⟨(HCX.out _ hb).c0, (HCX.out _ hb).c1, (HCX.out _ hb).c2, (HCX.out _ hb).c3, (HCX.out _ hb).c4, (HCX.out _ hb).c5, (HCX.out _ hb).c6, (HCX.out _ hb).c7, (HCX.out _ hb).c8, (HCX.out _ hb).c9, (HCX.out _ hb).c10, (HCX.out _ hb).c11, (HCY.out _ hb).c0, (HCY.out _ hb).c1, (HCY.out _ hb).c2, (HCY.out _ hb).c3, (HCY.out _ hb).c4, (HCY.out _ hb).c5, (HCY.out _ hb).c6, (HCY.out _ hb).c7, (HCY.out _ hb).c8, (HCY.out _ hb).c9, (HCY.out _ hb).c10, (HCY.out _ hb).c11⟩))
  obtain ⟨c0, c1, c2, c3, c4, c5, c6, c7, c8, c9, c10, c11, clt⟩ := HCX.out wb (Below.refl _ _)
  obtain ⟨d0, d1, d2, d3, d4, d5, d6, d7, d8, d9, d10, d11, dlt⟩ := HCY.out wb (Below.refl _ _)
  dsimp only at c0 c1 c2 c3 c4 c5 c6 c7 c8 c9 c10 c11 d0 d1 d2 d3 d4 d5 d6 d7 d8 d9 d10 d11
  go_enter Tryz.func4, Tryz.ntmps4
  apply wp_seq_k
  intro K hK
  apply wp_region_lit
  refine Great.wpList_boxTo rfl _ _ rfl _ rfl w.heap.size rfl #[.string (str x.user), .int .i64 x.nodes, .int .i64 x.wall, .int .i64 x.qos, va, .int .i64 x.cap, .int .i64 x.inn, .int .i64 x.out, .string (str x.pool), vm, vd, vu] rfl ?_
  simp only [Act.put, List.setIfInBounds_toArray, List.set_cons_zero, List.set_cons_succ]
  refine Great.wpList_boxTo rfl _ _ rfl _ rfl (w.heap.size + 1) (World.size_alloc _ _) #[.string (str y.user), .int .i64 y.nodes, .int .i64 y.wall, .int .i64 y.qos, va', .int .i64 y.cap, .int .i64 y.inn, .int .i64 y.out, .string (str y.pool), vm', vd', vu'] rfl ?_
  rw [HWB.out]
  simp only [Act.put, List.setIfInBounds_toArray, List.set_cons_zero, List.set_cons_succ]
  go_upto_region 3 with (first
    | (go_at_call 11; ((with_reducible refine HGX.out.mono ?_); rintro e w1 ⟨b, rfl, hlk, hb⟩); have A1 := Lib.hid (show Below wb.heap.size wb w1 from hb); obtain ⟨c0, c1, c2, c3, c4, c5, c6, c7, c8, c9, c10, c11, clt⟩ := HCX.out _ A1.out; obtain ⟨d0, d1, d2, d3, d4, d5, d6, d7, d8, d9, d10, d11, dlt⟩ := HCY.out _ A1.out; dsimp only at c0 c1 c2 c3 c4 c5 c6 c7 c8 c9 c10 c11 d0 d1 d2 d3 d4 d5 d6 d7 d8 d9 d10 d11; have HLX := Lib.hid hlk; clear hb hlk; cases b)
    | (go_at_call 11; ((with_reducible refine (HGY.out _ A1.out).mono ?_); rintro e w2 ⟨b2, rfl, hlk2, hb⟩); have A2 := Lib.hid (show Below wb.heap.size wb w2 from A1.out.trans (hb.mono A1.out.size)); obtain ⟨c0, c1, c2, c3, c4, c5, c6, c7, c8, c9, c10, c11, clt⟩ := HCX.out _ A2.out; obtain ⟨d0, d1, d2, d3, d4, d5, d6, d7, d8, d9, d10, d11, dlt⟩ := HCY.out _ A2.out; dsimp only at c0 c1 c2 c3 c4 c5 c6 c7 c8 c9 c10 c11 d0 d1 d2 d3 d4 d5 d6 d7 d8 d9 d10 d11; have HLY := Lib.hid hlk2; clear hb hlk2; cases b2)
    | (go_at_call 7; ((with_reducible refine (HHD.out _ (by first | exact A2.out | exact A1.out)).mono ?_); rintro e w3 ⟨rfl, hb⟩); have AE := Lib.hid (show Below wb.heap.size wb w3 from by first | exact A2.out.trans (hb.mono A2.out.size) | exact A1.out.trans (hb.mono A1.out.size)); clear hb))
  rotate_left
  · go_ret
    exact ⟨rfl, HFIN.out _ AE.out⟩
  · go_ret
    exact ⟨rfl, HFIN.out _ AE.out⟩
  have HLK := Lib.hid (HLX.out (by trivial))
  clear HGX HGY HLX HLY
  go_upto_region 5 with (first
    | (go_at_call 12; ((with_reducible refine (HTX.out _ A2.out).mono ?_); rintro e w3 ⟨rfl, hb⟩); have A3 := Lib.hid (show Below wb.heap.size wb w3 from A2.out.trans (hb.mono A2.out.size)); obtain ⟨c0, c1, c2, c3, c4, c5, c6, c7, c8, c9, c10, c11, clt⟩ := HCX.out _ A3.out; obtain ⟨d0, d1, d2, d3, d4, d5, d6, d7, d8, d9, d10, d11, dlt⟩ := HCY.out _ A3.out; dsimp only at c0 c1 c2 c3 c4 c5 c6 c7 c8 c9 c10 c11 d0 d1 d2 d3 d4 d5 d6 d7 d8 d9 d10 d11; clear hb)
    | (go_at_call 13; ((with_reducible refine (HDT.out HLK.out _ A3.out).mono ?_); rintro e w4 ⟨rfl, hb⟩); have A4 := Lib.hid (show Below wb.heap.size wb w4 from A3.out.trans (hb.mono A3.out.size)); obtain ⟨c0, c1, c2, c3, c4, c5, c6, c7, c8, c9, c10, c11, clt⟩ := HCX.out _ A4.out; obtain ⟨d0, d1, d2, d3, d4, d5, d6, d7, d8, d9, d10, d11, dlt⟩ := HCY.out _ A4.out; dsimp only at c0 c1 c2 c3 c4 c5 c6 c7 c8 c9 c10 c11 d0 d1 d2 d3 d4 d5 d6 d7 d8 d9 d10 d11; clear hb))
  go_cut [56] (fun s56 wx => s56 = .bool false ∧ Aside (Below wb.heap.size wb wx))
  case first =>
    have AY := Lib.hid (A4.out.trans ((drew_low w4).mono A4.out.size))
    go_region_held3 (fun W => W.cell? ⟨w.heap.size, 0, none⟩ = some (.string (str x.user)) ∧ W.cell? ⟨w.heap.size, 1, none⟩ = some (.int .i64 x.nodes) ∧ W.cell? ⟨w.heap.size, 2, none⟩ = some (.int .i64 x.wall) ∧ W.cell? ⟨w.heap.size, 3, none⟩ = some (.int .i64 x.qos) ∧ W.cell? ⟨w.heap.size, 4, none⟩ = some (va) ∧ W.cell? ⟨w.heap.size, 5, none⟩ = some (.int .i64 x.cap) ∧ W.cell? ⟨w.heap.size, 6, none⟩ = some (.int .i64 x.inn) ∧ W.cell? ⟨w.heap.size, 7, none⟩ = some (.int .i64 x.out) ∧ W.cell? ⟨w.heap.size, 8, none⟩ = some (.string (str x.pool)) ∧ W.cell? ⟨w.heap.size, 9, none⟩ = some (vm) ∧ W.cell? ⟨w.heap.size, 10, none⟩ = some (vd) ∧ W.cell? ⟨w.heap.size, 11, none⟩ = some (vu) ∧ W.cell? ⟨w.heap.size + 1, 0, none⟩ = some (.string (str y.user)) ∧ W.cell? ⟨w.heap.size + 1, 1, none⟩ = some (.int .i64 y.nodes) ∧ W.cell? ⟨w.heap.size + 1, 2, none⟩ = some (.int .i64 y.wall) ∧ W.cell? ⟨w.heap.size + 1, 3, none⟩ = some (.int .i64 y.qos) ∧ W.cell? ⟨w.heap.size + 1, 4, none⟩ = some (va') ∧ W.cell? ⟨w.heap.size + 1, 5, none⟩ = some (.int .i64 y.cap) ∧ W.cell? ⟨w.heap.size + 1, 6, none⟩ = some (.int .i64 y.inn) ∧ W.cell? ⟨w.heap.size + 1, 7, none⟩ = some (.int .i64 y.out) ∧ W.cell? ⟨w.heap.size + 1, 8, none⟩ = some (.string (str y.pool)) ∧ W.cell? ⟨w.heap.size + 1, 9, none⟩ = some (vm') ∧ W.cell? ⟨w.heap.size + 1, 10, none⟩ = some (vd') ∧ W.cell? ⟨w.heap.size + 1, 11, none⟩ = some (vu')) (first | exact HKK.out _ A7.out | exact HKK.out _ A6.out | exact HKK.out _ A5.out | exact HKK.out _ AS.out | exact HKK.out _ AY.out | exact HKK.out _ A4.out) (first
      | (go_at_call 14; ((with_reducible refine (HCK.out _ AY.out).mono ?_); rintro e w5 ⟨rfl, hb⟩); have A5 := Lib.hid (show Below wb.heap.size wb w5 from AY.out.trans (hb.mono AY.out.size)); clear hb)
      | (go_at_call 15; ((with_reducible refine (HSP.out _ A5.out).mono ?_); rintro e w6 ⟨rfl, hb⟩); have A6 := Lib.hid (show Below wb.heap.size wb w6 from A5.out.trans (hb.mono A5.out.size)); clear hb)
      | (go_at_call 10; ((with_reducible refine (HSD.out _ A6.out).mono ?_); rintro e w7 ⟨rfl, hb⟩); have AS := Lib.hid (show Below wb.heap.size wb w7 from A6.out.trans (hb.mono A6.out.size)); clear hb)
      | (go_at_call 15; ((with_reducible refine (HSX.out _ AS.out).mono ?_); rintro e w8 ⟨rfl, hb⟩); have A7 := Lib.hid (show Below wb.heap.size wb w8 from AS.out.trans (hb.mono AS.out.size)); clear hb))
    all_goals
      go_wp2_with fail
      go_meet
      case rel => exact ⟨rfl, A7.out⟩
  case rest =>
  obtain ⟨rfl, hcut⟩ := hcut
  have A8 := Lib.hid (show Below wb.heap.size wb wc from hcut)
  clear hcut
  clear c0 c1 c2 c3 c4 c5 c6 c7 c8 c9 c10 c11 clt d0 d1 d2 d3 d4 d5 d6 d7 d8 d9 d10 d11 dlt
  obtain ⟨c0, c1, c2, c3, c4, c5, c6, c7, c8, c9, c10, c11, clt⟩ := HCX.out _ A8.out
  dsimp only at c0 c1 c2 c3 c4 c5 c6 c7 c8 c9 c10 c11
  have hrd := read_text ((chkS_iff x).1 HCC.out)
  have htl := sp.txtS_len ((chkS_iff x).1 HCC.out)
  have HP1 := Lib.hid (fun (W : World) (hb : Below wb.heap.size wb W) => parse_as (s := txtS x) (by omega) (x := x) (e := 0) (l := 0) (by rw [hrd]) (by rw [hrd]) (by rw [hrd]; rfl) W (HL.out W hb))
  rw [HTE.out] at HP1
  clear hrd htl
  go_upto_region 10 with (first
    | (go_at_call 8; go_loud ((refine (HP1.out _ A8.out).mono ?_); rintro e w6 ⟨hb, g1, rfl, hs⟩); have HBq := Lib.hid hb; have HSq := Lib.hid hs; clear hb hs)
    | (refine wpList_store_row rfl _ _ _ rfl w6.heap.size (scs x g1) rfl rfl _ _ (boxes_a w6 _ _ _ _) (by kernel_rfl) rfl (scs_one HSq.out) ?_)
    | (refine wpList_store_row rfl _ _ _ rfl (w6.heap.size + 1) #[.int .i64 0, .int .i64 0] rfl rfl _ _ (boxes_b w6 _ _ _ _ _) (by kernel_rfl) rfl (by kernel_rfl) ?_))
  obtain ⟨W1, hW1, ba1, bb1, bl1⟩ := boxes_end w6 #[.string { data := #[] }, .int .i64 0, .int .i64 0, .int .i64 0, .slice none 0 0, .int .i64 0, .int .i64 0, .int .i64 0, .string { data := #[] }, .slice none 0 0, .slice none 0 0, .slice none 0 0] #[.int .i64 0, .int .i64 0] (scs x g1) #[.int .i64 0, .int .i64 0] 27 30
  rw [hW1]
  clear hW1
  have A9 := Lib.hid (A8.out.trans ((HBq.out.trans (bl1.mono HBq.out.size)).mono A8.out.size))
  have SA1 := Lib.hid (HSq.out.next bl1)
  obtain ⟨d0, d1, d2, d3, d4, d5, d6, d7, d8, d9, d10, d11, dlt⟩ := cel_box ba1
  have s0 := bb1.cell 0 _
  have s1 := bb1.cell 1 _
  have slt := bb1.lt
  clear ba1 bb1 bl1 c0 c1 c2 c3 c4 c5 c6 c7 c8 c9 c10 c11 clt
  generalize w6.heap.size = n6 at *
  obtain ⟨c0, c1, c2, c3, c4, c5, c6, c7, c8, c9, c10, c11, clt⟩ := HCX.out _ A9.out
  dsimp only at c0 c1 c2 c3 c4 c5 c6 c7 c8 c9 c10 c11
  have HSM := Lib.hid (Same_slip x x g1 ⟨va, vm, vd, vu⟩ W1 SA1.out (HS.out W1 A9.out))
  rw [show decide (x = x) = true from decide_eq_true rfl] at HSM
  have p1 : ∀ W, (binOp .eql 30 (.agg #[.int .i64 0, .int .i64 0]) (.agg #[.int .i64 0, .int .i64 0])).run Tryz.prog W = .ok (.bool true) W := fun W => spot_eq 0 0 0 0 W
  obtain ⟨za, zm, zd, zu⟩ := g1
  unfold sV scs at HSM
  dsimp only at HSM d4 d9 d10 d11
  go_wp2_with (first
    | (go_at_call 15; ((with_reducible refine HSM.out.mono ?_); rintro e w7 ⟨rfl, hb⟩); have A10 := Lib.hid (show Below wb.heap.size wb w7 from A9.out.trans (hb.mono A9.out.size)); clear hb)
    | (go_at_call 7; ((with_reducible refine (HHD.out _ A10.out).mono ?_); rintro e w9 ⟨rfl, hb⟩); have AE := Lib.hid (show Below wb.heap.size wb w9 from A10.out.trans (hb.mono A10.out.size)); clear hb))
  go_ret
  exact ⟨rfl, HFIN.out _ AE.out⟩
theorem texts_law (x y : Slip) (g g' : Gh) (w : World) (h : SR w x g) (h' : SR w y g') (hW : SW x) (hW' : SW y) (hL : LaidD w) : Calls Tryz.prog 4 #[sV x g, sV y g'] w (Told (.bool true) w) := by
  by_cases hc : chkS x = true
  · exact texts_yes x y g g' w h h' hW hW' hL hc
  · exact texts_no x y g g' w h h' hW hW' hL hc
end Go.Proofs.YtpmghgfgbkncoaaGreatDoor.gn
end
