/- SlipWants' walk. (Written by gen_slW.py.) -/
import Derived.Test.YtpmghgfgbkncoaaGreatDoorMSlHd
import Derived.Test.YtpmghgfgbkncoaaGreatDoorMSlGr
import Derived.Test.YtpmghgfgbkncoaaGreatDoorMSlSa
import Derived.Test.YtpmghgfgbkncoaaGreatDoorMDiX
import Derived.Deep.DeepCutAuto
import Derived.Deep.CutBlock
section
set_option linter.unusedVariables false
set_option linter.unusedSimpArgs false
namespace Go.Proofs.YtpmghgfgbkncoaaGreatDoor.gn
open Go.RowKit
open Go.Proofs.YtpmghgfgbkncoaaGreatDoor.un
open Go.Proofs.YtpmghgfgbkncoaaGreatDoor.di
open Go.Proofs.YtpmghgfgbkncoaaGreatDoor.sp (Slip chkS txtS chkS_iff begT txtS_beg not_nodes not_wall not_qos not_in not_user not_pool not_after not_use)

theorem rdc_new (w : World) (t : TypeId) (n c : Nat) (cs : List Value) : RdC (w.alloc (.cells cs.toArray t)) (.slice (some ⟨w.heap.size, 0, none⟩) n c) n cs :=
  .inr ⟨_, 0, c, rfl, (BoxA.new w t cs.toArray).lt, fun j u hu => by
    rw [Nat.zero_add]
    exact (BoxA.new w t cs.toArray).cell j u (by simpa using hu)⟩
theorem ap_own {base : Nat} {e : TypeId} {size : Nat} {w : World} {v : Value} {n : Nat} {cs : List Value} (h : ApC base e size w v n cs) (hn : 0 < n) : w.ownsRow base e size v n cs := by
  rcases h with ⟨p, _, h0, _⟩ | h
  · omega
  · exact h
theorem SR.as {W : World} {x y : Slip} {g : Gh} (h : SR W x g) (ha : y.after = x.after) (hm : y.make = x.make) (hd : y.drop = x.drop) (hu : y.use = x.use) : SR W y g :=
  ⟨by rw [ha]; exact h.a, by rw [hm]; exact h.m, by rw [hd]; exact h.d, by rw [hu]; exact h.u, by rw [ha]; exact h.ca, by rw [hm]; exact h.cm, by rw [hd]; exact h.cd, by rw [hu]; exact h.cu⟩
/-- How the other slip stands. -/
structure WC (wb : World) (n2 : Nat) (y : Slip) (gy : Gh) (W : World) : Prop where
  bx : BoxA W n2 27 (scs y gy)
  low : Below wb.heap.size wb W
  sy : SR W y gy
  hy : chkS y = false
  wy : SW y
theorem box_put {W : World} {n2 : Nat} {x y : Slip} {g gy : Gh} (h : BoxA W n2 27 (scs x g)) (j : Nat) (u : Value) (hc : (scs x g).setIfInBounds j u = scs y gy) : BoxA (W.setCell ⟨n2, j, none⟩ u) n2 27 (scs y gy) := by
  rw [← hc]
  exact BoxA.set h j u
theorem lowc_put {wb W : World} {n2 : Nat} (h : Below wb.heap.size wb W) (hn : wb.heap.size ≤ n2) (j : Nat) (u : Value) : Below wb.heap.size wb (W.setCell ⟨n2, j, none⟩ u) := h.setCell (p := ⟨n2, j, none⟩) hn u
theorem box_end (w : World) (z cs : Array Value) (t : TypeId) : ∃ W, (w.alloc (.cells z t)).setRow w.heap.size cs = W ∧ BoxA W w.heap.size t cs ∧ Below w.heap.size w W :=
  ⟨_, rfl, setRow_heap _ _ _ _ _ _ (BoxA.new w t z), below_setRow ((Below.refl _ w).alloc (Nat.le_refl _) _) (Nat.le_refl _) _⟩
set_option maxRecDepth 100000 in
set_option maxHeartbeats 16000000 in
theorem wants_law (x : Slip) (g : Gh) (n : Int) (w : World) (h : SR w x g) (hW : SW x) (hn0 : 0 ≤ n) (hn1 : n ≤ 255) (hL : LaidD w) : Calls Tryz.prog 6 #[sV x g, .int .u8 n] w (Told (.bool true) w) := by
  obtain ⟨wb, hwb⟩ : ∃ wb, w.alloc (.cells (scs x g) 27) = wb := ⟨_, rfl⟩
  have hbx : BoxA wb w.heap.size 27 (scs x g) := by rw [← hwb]; exact BoxA.new _ _ _
  have hB1 : Below w.heap.size w wb := by rw [← hwb]; exact (Below.refl _ _).alloc (Nat.le_refl _) _
  have HB1 := Lib.hid hB1
  have HWB := Lib.hid hwb
  have hL1 := fun (W : World) (hb : Below wb.heap.size wb W) => hL.next (hB1.trans (hb.mono hB1.size))
  have hS1 := fun (W : World) (hb : Below wb.heap.size wb W) => (h.next hB1).next hb
  have HL := Lib.hid hL1
  have HS := Lib.hid hS1
  have HCE := Lib.hid (fun (W : World) (hb : Below wb.heap.size wb W) => cel_box (hbx.next hb))
  have HGR := Lib.hid (great_any x g wb (h.next hB1) hW)
  have HCH := Lib.hid (fun (W : World) (hb : Below wb.heap.size wb W) => Check_slip x g W (hS1 W hb) hW (hL1 W hb))
  have HHD := Lib.hid (fun (W : World) (hb : Below wb.heap.size wb W) => head_yes W (hL1 W hb))
  have HTX := Lib.hid (fun (W : World) (hb : Below wb.heap.size wb W) => sText_any x g W (hS1 W hb) hW (hL1 W hb))
  have HSO := Lib.hid (scs_one h)
  have HFIN := Lib.hid (fun (W : World) (hb : Below wb.heap.size wb W) => hB1.trans (hb.mono hB1.size))
  have HWX := Lib.hid hW
  obtain ⟨c0, c1, c2, c3, c4, c5, c6, c7, c8, c9, c10, c11, clt⟩ := cel_box hbx
  clear h hL hL1 hS1 hB1 hwb hbx hW
  by_cases hc : chkS x = true
  rotate_left
  · have HE := Lib.hid (show sE x = 150 by unfold sE; rw [if_neg hc])
    rw [HE.out] at HCH
    clear hc HTX HS
    obtain ⟨va, vm, vd, vu⟩ := g
    unfold sV scs at *
    dsimp only at *
    go_enter Tryz.func6, Tryz.ntmps6
    go_upto_region 1 with fail
    rw [HWB.out]
    go_wp2_with (first
      | (go_at_call 11; ((with_reducible refine HGR.out.mono ?_); rintro e w1 ⟨b, rfl, hlk, hb⟩); have A1 := Lib.hid (show Below wb.heap.size wb w1 from hb); obtain ⟨c0, c1, c2, c3, c4, c5, c6, c7, c8, c9, c10, c11, clt⟩ := HCE.out _ A1.out; dsimp only at c0 c1 c2 c3 c4 c5 c6 c7 c8 c9 c10 c11; clear hb hlk; cases b)
      | (go_at_call 14; ((with_reducible refine (HCH.out _ A1.out).mono ?_); rintro e w2 ⟨rfl, hb⟩); have A2 := Lib.hid (show Below wb.heap.size wb w2 from A1.out.trans (hb.mono A1.out.size)); clear hb)
      | (go_at_call 7; ((with_reducible refine (HHD.out _ (by first | exact A2.out | exact A1.out)).mono ?_); rintro e w3 ⟨rfl, hb⟩); have A3 := Lib.hid (show Below wb.heap.size wb w3 from by first | exact A2.out.trans (hb.mono A2.out.size) | exact A1.out.trans (hb.mono A1.out.size)); clear hb))
    all_goals
      go_ret
      exact ⟨rfl, HFIN.out _ A3.out⟩
  have HE := Lib.hid (show sE x = 0 ∧ tS x = txtS x by unfold sE tS; rw [if_pos hc, if_pos hc]; exact ⟨rfl, rfl⟩)
  have hok := (chkS_iff x).1 hc
  have HOK := Lib.hid hok
  have huser : x.user.length ≤ 32 := by have := hok.user; have := name_len this; omega
  have hcap0 := hok.cap.1
  have hcap1 := hok.cap.2
  have hinn := hok.inn
  have hout := hok.out
  rw [HE.out.1] at HCH
  unfold STextT at HTX
  rw [HE.out.1, HE.out.2] at HTX
  obtain ⟨r, hr, hrne⟩ := txtS_beg x
  rw [hr] at HTX
  have HCHK := Lib.hid hc
  clear hc hr hok
  have HG := Lib.hid (rfl : g = g)
  obtain ⟨va, vm, vd, vu⟩ := g
  go_enter Tryz.func6, Tryz.ntmps6
  unfold sV scs at *
  dsimp only at *
  go_upto_region 1 with fail
  rw [HWB.out]
  go_upto_region 4 with (first
    | (go_at_call 11; ((with_reducible refine HGR.out.mono ?_); rintro e w1 ⟨b, rfl, hlk, hb⟩); have A1 := Lib.hid (show Below wb.heap.size wb w1 from hb); obtain ⟨c0, c1, c2, c3, c4, c5, c6, c7, c8, c9, c10, c11, clt⟩ := HCE.out _ A1.out; dsimp only at c0 c1 c2 c3 c4 c5 c6 c7 c8 c9 c10 c11; clear hb hlk; cases b)
    | (go_at_call 14; ((with_reducible refine (HCH.out _ A1.out).mono ?_); rintro e w2 ⟨rfl, hb⟩); have A2 := Lib.hid (show Below wb.heap.size wb w2 from A1.out.trans (hb.mono A1.out.size)); obtain ⟨c0, c1, c2, c3, c4, c5, c6, c7, c8, c9, c10, c11, clt⟩ := HCE.out _ A2.out; dsimp only at c0 c1 c2 c3 c4 c5 c6 c7 c8 c9 c10 c11; clear hb)
    | (go_at_call 7; ((with_reducible refine (HHD.out _ A1.out).mono ?_); rintro e w3 ⟨rfl, hb⟩); have A3 := Lib.hid (show Below wb.heap.size wb w3 from A1.out.trans (hb.mono A1.out.size)); clear hb)
    | (refine wpList_store_row rfl _ _ _ rfl w2.heap.size (scs x ⟨va, vm, vd, vu⟩) rfl rfl _ _ (BoxA.new w2 _ _) (by kernel_rfl) rfl HSO.out ?_))
  rotate_left
  · go_ret
    exact ⟨rfl, HFIN.out _ A3.out⟩
  obtain ⟨W1, hW1, by1, bl1⟩ := box_end w2 #[.string { data := #[] }, .int .i64 0, .int .i64 0, .int .i64 0, .slice none 0 0, .int .i64 0, .int .i64 0, .int .i64 0, .string { data := #[] }, .slice none 0 0, .slice none 0 0, .slice none 0 0] (scs x ⟨va, vm, vd, vu⟩) 27
  rw [hW1]
  clear hW1
  have hn2 : wb.heap.size ≤ w2.heap.size := A2.out.size
  have low1 : Below wb.heap.size wb W1 := A2.out.trans (bl1.mono A2.out.size)
  have LOW1 := Lib.hid low1
  have BY1 := Lib.hid by1
  generalize w2.heap.size = n2 at *
  obtain ⟨d0, d1, d2, d3, d4, d5, d6, d7, d8, d9, d10, d11, dlt⟩ := cel_box by1
  obtain ⟨c0, c1, c2, c3, c4, c5, c6, c7, c8, c9, c10, c11, clt⟩ := HCE.out _ low1
  have f0 := by1.free 0
  have f1 := by1.free 1
  have f2 := by1.free 2
  have f3 := by1.free 3
  have f4 := by1.free 4
  have f5 := by1.free 5
  have f6 := by1.free 6
  have f8 := by1.free 8
  have f11 := by1.free 11
  dsimp only at c0 c1 c2 c3 c4 c5 c6 c7 c8 c9 c10 c11 d0 d1 d2 d3 d4 d5 d6 d7 d8 d9 d10 d11
  have HN2 := Lib.hid hn2
  have hsz1 : n2 + 1 ≤ W1.heap.size := dlt
  have HSZ1 := Lib.hid hsz1
  clear by1 bl1 low1 hn2 hsz1
  obtain ⟨q, hq⟩ : ∃ q : Nat, n = 8 * ((n.toNat / 8 : Nat) : Int) + (q : Int) ∧ q < 8 := ⟨n.toNat % 8, by omega, by omega⟩
  have hq8 := hq.2
  have hmod : n % 8 = (q : Int) := by omega
  have hmod2 : Int.tmod n 8 = (q : Int) := by rw [Int.tmod_eq_emod_of_nonneg hn0]; exact hmod
  clear hq
  go_upto_block 0 with fail
  go_cut [4] (fun s4 wx => s4 = .bool false ∧ ∃ y gy, Aside (WC wb n2 y gy wx))
  case first =>
    rcases lt8 hq8 with rfl | rfl | rfl | rfl | rfl | rfl | rfl | rfl
    · have hz : (str x.user).size ≤ 32 := by rw [str_size]; exact huser
      go_wp2
      go_meet
      case rel =>
        exact ⟨rfl, { x with nodes := 65 }, ⟨va, vm, vd, vu⟩, show WC wb n2 _ _ _ from ⟨box_put BY1.out 1 (.int .i64 65) rfl, lowc_put LOW1.out HN2.out _ _, (HS.out _ (lowc_put LOW1.out HN2.out _ _)).as rfl rfl rfl rfl, not_nodes x, ⟨HWX.out.user, HWX.out.pool, (by dsimp only; decide), HWX.out.wall, HWX.out.qos, HWX.out.cap, HWX.out.inn, HWX.out.out, HWX.out.after, HWX.out.make, HWX.out.drop, HWX.out.use⟩⟩⟩
    · have hz : (str x.user).size ≤ 32 := by rw [str_size]; exact huser
      go_wp2
      go_meet
      case rel =>
        exact ⟨rfl, { x with wall := 0 }, ⟨va, vm, vd, vu⟩, show WC wb n2 _ _ _ from ⟨box_put BY1.out 2 (.int .i64 0) rfl, lowc_put LOW1.out HN2.out _ _, (HS.out _ (lowc_put LOW1.out HN2.out _ _)).as rfl rfl rfl rfl, not_wall x, ⟨HWX.out.user, HWX.out.pool, HWX.out.nodes, (by dsimp only; decide), HWX.out.qos, HWX.out.cap, HWX.out.inn, HWX.out.out, HWX.out.after, HWX.out.make, HWX.out.drop, HWX.out.use⟩⟩⟩
    · have hz : (str x.user).size ≤ 32 := by rw [str_size]; exact huser
      go_wp2
      go_meet
      case rel =>
        exact ⟨rfl, { x with qos := -1 }, ⟨va, vm, vd, vu⟩, show WC wb n2 _ _ _ from ⟨box_put BY1.out 3 (.int .i64 (-1)) rfl, lowc_put LOW1.out HN2.out _ _, (HS.out _ (lowc_put LOW1.out HN2.out _ _)).as rfl rfl rfl rfl, not_qos x, ⟨HWX.out.user, HWX.out.pool, HWX.out.nodes, HWX.out.wall, (by dsimp only; decide), HWX.out.cap, HWX.out.inn, HWX.out.out, HWX.out.after, HWX.out.make, HWX.out.drop, HWX.out.use⟩⟩⟩
    · have hz : (str x.user).size ≤ 32 := by rw [str_size]; exact huser
      go_wp2
      go_meet
      case rel =>
        exact ⟨rfl, { x with inn := x.cap + 1 }, ⟨va, vm, vd, vu⟩, show WC wb n2 _ _ _ from ⟨box_put BY1.out 6 (.int .i64 (x.cap + 1)) rfl, lowc_put LOW1.out HN2.out _ _, (HS.out _ (lowc_put LOW1.out HN2.out _ _)).as rfl rfl rfl rfl, not_in x, ⟨HWX.out.user, HWX.out.pool, HWX.out.nodes, HWX.out.wall, HWX.out.qos, HWX.out.cap, ⟨by show _ ≤ x.cap + 1; omega, by show x.cap + 1 ≤ _; omega⟩, HWX.out.out, HWX.out.after, HWX.out.make, HWX.out.drop, HWX.out.use⟩⟩⟩
    · have hz : (str x.user).size ≤ 32 := by rw [str_size]; exact huser
      go_wp2
      go_meet
      case rel =>
        exact ⟨rfl, { x with user := x.user ++ [32] }, ⟨va, vm, vd, vu⟩, show WC wb n2 _ _ _ from ⟨box_put BY1.out 0 (.string (str x.user ++ ({ data := #[32] } : ByteArray))) (by show (scs x ⟨va, vm, vd, vu⟩).setIfInBounds 0 (.string (str x.user ++ str [32])) = _; rw [str_app]; rfl), lowc_put LOW1.out HN2.out _ _, (HS.out _ (lowc_put LOW1.out HN2.out _ _)).as rfl rfl rfl rfl, not_user x, ⟨(by show (x.user ++ [32]).length ≤ _; rw [List.length_append]; simp; omega), HWX.out.pool, HWX.out.nodes, HWX.out.wall, HWX.out.qos, HWX.out.cap, HWX.out.inn, HWX.out.out, HWX.out.after, HWX.out.make, HWX.out.drop, HWX.out.use⟩⟩⟩
    · have g8 : (W1.setCell ⟨n2, 5, none⟩ (.int .i64 0)).frozen? ⟨n2, 8, none⟩ = false := (BoxA.set BY1.out 5 (.int .i64 0)).free 8
      have e8 : (W1.setCell ⟨n2, 5, none⟩ (.int .i64 0)).cell? ⟨n2, 8, none⟩ = some (.string (str x.pool)) := (BoxA.set BY1.out 5 (.int .i64 0)).cell 8 _
      have l8 : n2 < (W1.setCell ⟨n2, 5, none⟩ (.int .i64 0)).heap.size := (BoxA.set BY1.out 5 (.int .i64 0)).lt
      go_wp2
      go_meet
      case rel =>
        exact ⟨rfl, { x with cap := 0, pool := [112] }, ⟨va, vm, vd, vu⟩, show WC wb n2 _ _ _ from ⟨box_put (x := { x with cap := 0 }) (box_put BY1.out 5 (.int .i64 0) rfl) 8 (.string (str [112])) rfl, lowc_put (lowc_put LOW1.out HN2.out _ _) HN2.out _ _, (HS.out _ (lowc_put (lowc_put LOW1.out HN2.out _ _) HN2.out _ _)).as rfl rfl rfl rfl, not_pool x, ⟨HWX.out.user, (by dsimp only; decide), HWX.out.nodes, HWX.out.wall, HWX.out.qos, (by dsimp only; decide), HWX.out.inn, HWX.out.out, HWX.out.after, HWX.out.make, HWX.out.drop, HWX.out.use⟩⟩⟩
    · obtain ⟨y1, hy1⟩ : ∃ y1, W1.alloc (.cells #[] 44) = y1 := ⟨_, rfl⟩
      have hby1 : Below W1.heap.size W1 y1 := by rw [← hy1]; exact (Below.refl _ _).alloc (Nat.le_refl _) _
      have hlen : x.after.length ≤ 100 := by have := HOK.out.after.1; omega
      have HA0 := Lib.hid (show ApC W1.heap.size 44 2 y1 (.slice (some ⟨W1.heap.size, 0, none⟩) 0 0) 0 [] from .inl ⟨_, rfl, rfl, rfl⟩)
      have HR0 := Lib.hid (((HS.out _ LOW1.out).next hby1).a)
      have HY1 := Lib.hid hby1
      have HY1E := Lib.hid hy1
      have HLEN := Lib.hid hlen
      have hc1 := Below.cell (p := ⟨w.heap.size, 4, none⟩) hby1 clt
      have hc2 := c4
      rw [← hc1] at hc2
      clear hby1 hlen hc1
      have cx : y1.cell? ⟨w.heap.size, 4, none⟩ = some va := hc2
      have cl : w.heap.size < y1.heap.size := Nat.lt_of_lt_of_le clt HY1.out.size
      clear hc2 c0 c1 c2 c3 c4 c5 c6 c7 c8 c9 c10 c11 d0 d1 d2 d3 d4 d5 d6 d7 d8 d9 d10 d11
      have mixed : Tryz.prog.follows .mixedOrders = true := by kernel_rfl
      go_upto_region 18 with fail
      go_wp2_with (first
        | (rw [HY1E.out])
        | (at_builtin; refine wpl_ap eltA rfl _ _ rfl (base := W1.heap.size) (v := .slice (some ⟨W1.heap.size, 0, none⟩) 0 0) (u := va) (n := 0) (m := x.after.length) (cs := []) (ds := flA x.after) rfl HA0.out rfl HR0.out (flA_len _) (flA_one _) (by unfold maxLen; have := HLEN.out; omega) (by have := HLEN.out; omega) HY1.out.size ?_; intro p4 q4 w4 h1 h2 h3; rw [Nat.zero_add, List.nil_append] at h1; have H4 := Lib.hid h1; have B4 := Lib.hid (HY1.out.trans h3); have D4 := Lib.hid ((Below.refl _ w4).alloc (Nat.le_refl _) (.cells (flA [(1, false), (1, true)]).toArray 44)); clear h1 h2 h3)
        | (at_builtin; go_loud (refine wpl_ap eltA rfl _ _ rfl (base := W1.heap.size) (v := .slice p4 x.after.length q4) (u := .slice (some ⟨w4.heap.size, 0, none⟩) 2 2) (n := x.after.length) (m := 2) (cs := flA x.after) (ds := flA [(1, false), (1, true)]) rfl (H4.out.next D4.out) rfl (rdc_new w4 _ 2 2 _) rfl (flA_one _) (by unfold maxLen; have := HLEN.out; omega) (by have := HLEN.out; omega) (Nat.le_trans B4.out.size D4.out.size) ?_); intro p5 q5 w5 h1 h2 h3; have H5 := Lib.hid h1; have hb5 : Below W1.heap.size W1 w5 := (B4.out.trans (D4.out.mono B4.out.size)).trans h3; have B5 := Lib.hid hb5; have k5 : BoxA w5 n2 27 (scs x ⟨va, vm, vd, vu⟩) := BY1.out.next hb5; have K5 := Lib.hid k5; have e5 := k5.cell 4 va; have g5 := k5.free 4; have l5 := k5.lt; clear h1 h2 h3 hb5 k5))
      go_meet
      case rel =>
        have hown := ap_own H5.out (by omega)
        rw [← flA_app] at hown
        have hown6 : (w5.setCell ⟨n2, 4, none⟩ (.slice p5 (x.after.length + 2) q5)).ownsRow W1.heap.size 44 2 (.slice p5 (x.after.length + 2) q5) (x.after.length + 2) (flA (x.after ++ [(1, false), (1, true)])) := own_same hown fun b hb => Below.heap_setCell _ _ _ _ (by have := (World.ownsRow.lt hown b hb).1; have := HSZ1.out; simp only; omega)
        have low6 := lowc_put (LOW1.out.trans (B5.out.mono LOW1.out.size)) HN2.out 4 (.slice p5 (x.after.length + 2) q5)
        have S := HS.out _ low6
        exact ⟨rfl, { x with after := x.after ++ [(1, false), (1, true)] }, ⟨.slice p5 (x.after.length + 2) q5, vm, vd, vu⟩, show WC wb n2 _ _ _ from ⟨box_put K5.out 4 (.slice p5 (x.after.length + 2) q5) rfl, low6, ⟨(by rw [show ({ x with after := x.after ++ [(1, false), (1, true)] } : Slip).after = x.after ++ [(1, false), (1, true)] from rfl, List.length_append]; exact ApC.rdc (.inr hown6)), S.m, S.d, S.u, (by rw [show ({ x with after := x.after ++ [(1, false), (1, true)] } : Slip).after = x.after ++ [(1, false), (1, true)] from rfl, List.length_append]; exact cp_own hown6), S.cm, S.cd, S.cu⟩, not_after x, ⟨HWX.out.user, HWX.out.pool, HWX.out.nodes, HWX.out.wall, HWX.out.qos, HWX.out.cap, HWX.out.inn, HWX.out.out, (fun d hd => by rcases List.mem_append.1 hd with hd | hd; exact HWX.out.after d hd; simp at hd; rcases hd with rfl | rfl <;> decide), HWX.out.make, HWX.out.drop, HWX.out.use⟩⟩⟩
    · obtain ⟨y1, hy1⟩ : ∃ y1, W1.alloc (.cells #[] 9) = y1 := ⟨_, rfl⟩
      have hby1 : Below W1.heap.size W1 y1 := by rw [← hy1]; exact (Below.refl _ _).alloc (Nat.le_refl _) _
      have hlen : x.use.length ≤ 100 := by have := HOK.out.use.1; omega
      have HA0 := Lib.hid (show ApC W1.heap.size 9 1 y1 (.slice (some ⟨W1.heap.size, 0, none⟩) 0 0) 0 [] from .inl ⟨_, rfl, rfl, rfl⟩)
      have HR0 := Lib.hid (((HS.out _ LOW1.out).next hby1).u)
      have HY1 := Lib.hid hby1
      have HY1E := Lib.hid hy1
      have HLEN := Lib.hid hlen
      have hc1 := Below.cell (p := ⟨w.heap.size, 11, none⟩) hby1 clt
      have hc2 := c11
      rw [← hc1] at hc2
      clear hby1 hlen hc1
      have cx : y1.cell? ⟨w.heap.size, 11, none⟩ = some vu := hc2
      have cl : w.heap.size < y1.heap.size := Nat.lt_of_lt_of_le clt HY1.out.size
      clear hc2 c0 c1 c2 c3 c4 c5 c6 c7 c8 c9 c10 c11 d0 d1 d2 d3 d4 d5 d6 d7 d8 d9 d10 d11
      have mixed : Tryz.prog.follows .mixedOrders = true := by kernel_rfl
      go_upto_region 20 with fail
      go_wp2_with (first
        | (rw [HY1E.out])
        | (at_builtin; refine wpl_ap eltS rfl _ _ rfl (base := W1.heap.size) (v := .slice (some ⟨W1.heap.size, 0, none⟩) 0 0) (u := vu) (n := 0) (m := x.use.length) (cs := []) (ds := flS x.use) rfl HA0.out rfl HR0.out (flS_len _) (flS_one _) (by unfold maxLen; have := HLEN.out; omega) (by have := HLEN.out; omega) HY1.out.size ?_; intro p4 q4 w4 h1 h2 h3; rw [Nat.zero_add, List.nil_append] at h1; have H4 := Lib.hid h1; have B4 := Lib.hid (HY1.out.trans h3); have D4 := Lib.hid ((Below.refl _ w4).alloc (Nat.le_refl _) (.cells (flS [[113], [113]]).toArray 9)); clear h1 h2 h3)
        | (at_builtin; go_loud (refine wpl_ap eltS rfl _ _ rfl (base := W1.heap.size) (v := .slice p4 x.use.length q4) (u := .slice (some ⟨w4.heap.size, 0, none⟩) 2 2) (n := x.use.length) (m := 2) (cs := flS x.use) (ds := flS [[113], [113]]) rfl (H4.out.next D4.out) rfl (rdc_new w4 _ 2 2 _) rfl (flS_one _) (by unfold maxLen; have := HLEN.out; omega) (by have := HLEN.out; omega) (Nat.le_trans B4.out.size D4.out.size) ?_); intro p5 q5 w5 h1 h2 h3; have H5 := Lib.hid h1; have hb5 : Below W1.heap.size W1 w5 := (B4.out.trans (D4.out.mono B4.out.size)).trans h3; have B5 := Lib.hid hb5; have k5 : BoxA w5 n2 27 (scs x ⟨va, vm, vd, vu⟩) := BY1.out.next hb5; have K5 := Lib.hid k5; have e5 := k5.cell 11 vu; have g5 := k5.free 11; have l5 := k5.lt; clear h1 h2 h3 hb5 k5))
      go_meet
      case rel =>
        have hown := ap_own H5.out (by omega)
        rw [← flS_app] at hown
        have hown6 : (w5.setCell ⟨n2, 11, none⟩ (.slice p5 (x.use.length + 2) q5)).ownsRow W1.heap.size 9 1 (.slice p5 (x.use.length + 2) q5) (x.use.length + 2) (flS (x.use ++ [[113], [113]])) := own_same hown fun b hb => Below.heap_setCell _ _ _ _ (by have := (World.ownsRow.lt hown b hb).1; have := HSZ1.out; simp only; omega)
        have low6 := lowc_put (LOW1.out.trans (B5.out.mono LOW1.out.size)) HN2.out 11 (.slice p5 (x.use.length + 2) q5)
        have S := HS.out _ low6
        exact ⟨rfl, { x with use := x.use ++ [[113], [113]] }, ⟨va, vm, vd, .slice p5 (x.use.length + 2) q5⟩, show WC wb n2 _ _ _ from ⟨box_put K5.out 11 (.slice p5 (x.use.length + 2) q5) rfl, low6, ⟨S.a, S.m, S.d, (by rw [show ({ x with use := x.use ++ [[113], [113]] } : Slip).use = x.use ++ [[113], [113]] from rfl, List.length_append]; exact ApC.rdc (.inr hown6)), S.ca, S.cm, S.cd, (by rw [show ({ x with use := x.use ++ [[113], [113]] } : Slip).use = x.use ++ [[113], [113]] from rfl, List.length_append]; exact cp_own hown6)⟩, not_use x, ⟨HWX.out.user, HWX.out.pool, HWX.out.nodes, HWX.out.wall, HWX.out.qos, HWX.out.cap, HWX.out.inn, HWX.out.out, HWX.out.after, HWX.out.make, HWX.out.drop, (fun s hs => by rcases List.mem_append.1 hs with hs | hs; exact HWX.out.use s hs; simp at hs; subst hs; decide)⟩⟩⟩
  case rest =>
    obtain ⟨rfl, y, gy, hwc⟩ := hcut
    have HWC := Lib.hid (show WC wb n2 y gy wc from hwc)
    clear hwc c0 c1 c2 c3 c4 c5 c6 c7 c8 c9 c10 c11 d0 d1 d2 d3 d4 d5 d6 d7 d8 d9 d10 d11 f0 f1 f2 f3 f4 f5 f6 f8 f11 clt dlt hmod hmod2 hq8
    have HNE := Lib.hid (show decide (x = y) = false from decide_eq_false fun e => by have := HWC.out.hy; rw [← e, HCHK.out] at this; cases this)
    have HEY := Lib.hid (show sE y = 150 by unfold sE; rw [HWC.out.hy]; rfl)
    have HCY := Lib.hid (fun (W : World) (hb : Below wc.heap.size wc W) => cel_box (HWC.out.bx.next hb))
    have HKY := Lib.hid (fun (W : World) (hb : Below wc.heap.size wc W) => Check_slip y gy W (HWC.out.sy.next hb) HWC.out.wy (HL.out W (HWC.out.low.trans (hb.mono HWC.out.low.size))))
    rw [HEY.out] at HKY
    have HSM := Lib.hid (fun (W : World) (hb : Below wc.heap.size wc W) => Same_slip x y ⟨va, vm, vd, vu⟩ gy W (HS.out W (HWC.out.low.trans (hb.mono HWC.out.low.size))) (HWC.out.sy.next hb))
    rw [HNE.out] at HSM
    obtain ⟨ya, ym, yd, yu⟩ := gy
    unfold sV scs at HKY HSM
    dsimp only at HKY HSM
    have HX : Hid (∀ W, Below wc.heap.size wc W → Below wb.heap.size wb W) := fun W hb => HWC.out.low.trans (hb.mono HWC.out.low.size)
    obtain ⟨c0, c1, c2, c3, c4, c5, c6, c7, c8, c9, c10, c11, clt⟩ := HCE.out _ (HX.out _ (Below.refl _ _))
    dsimp only at c0 c1 c2 c3 c4 c5 c6 c7 c8 c9 c10 c11
    have hz : (str x.user).size ≤ 32 := by rw [str_size]; exact huser
    have hbl : (begT x).length ≤ 50 := by unfold begT; simp; omega
    have e1 : (str (begT x)).size ≤ 50 := by rw [str_size]; exact hbl
    have e2 : (str (begT x)).size < (str (begT x ++ r)).size := by
      rw [str_size, str_size, List.length_append]
      have := List.length_pos_iff.2 hrne
      omega
    have hrun := fun W => sl_upto (begT x ++ r) ((str (begT x)).size : Int) (begT x).length (by rw [str_size]) (by rw [List.length_append]; omega) W
    rw [List.take_left'] at hrun
    rotate_left
    · rfl
    have hbe : str (begT x) = ({ data := #[106, 111, 98, 32, 117, 115, 101, 114, 61] } : ByteArray) ++ str x.user ++ ({ data := #[32, 110, 111, 100, 101, 115, 61] } : ByteArray) := by
      show _ = str [106, 111, 98, 32, 117, 115, 101, 114, 61] ++ str x.user ++ str [32, 110, 111, 100, 101, 115, 61]
      rw [str_app, str_app, List.append_assoc]
      rfl
    have HBE := Lib.hid hbe
    obtain ⟨T, hT⟩ : ∃ T, str (begT x) = T := ⟨_, rfl⟩
    obtain ⟨S, hS⟩ : ∃ S, str (begT x ++ r) = S := ⟨_, rfl⟩
    rw [hT] at e1 e2 hrun hbe
    rw [hS] at e2 hrun HTX
    have qq : (T.toList == T.toList) = true := by simp
    have hle1 : decide (x.inn ≤ x.cap) = true := decide_eq_true hinn.2
    have hle2 : decide (x.out ≤ x.cap) = true := decide_eq_true hout.2
    clear hbl hT hS
    go_upto_region 23 with (first
      | (go_at_call 12; ((with_reducible refine (HTX.out _ (HX.out _ (Below.refl _ _))).mono ?_); rintro e w4 ⟨rfl, hb⟩); have A4 := Lib.hid hb; obtain ⟨c0, c1, c2, c3, c4, c5, c6, c7, c8, c9, c10, c11, clt⟩ := HCE.out _ (HX.out _ A4.out); dsimp only at c0 c1 c2 c3 c4 c5 c6 c7 c8 c9 c10 c11; obtain ⟨d0, d1, d2, d3, d4, d5, d6, d7, d8, d9, d10, d11, dlt⟩ := HCY.out _ A4.out; dsimp only at d0 d1 d2 d3 d4 d5 d6 d7 d8 d9 d10 d11; clear hb))
    rw [← hbe]
    clear hbe
    go_wp2_with (first
      | (go_at_call 14; ((with_reducible refine (HKY.out _ A4.out).mono ?_); rintro e w5 ⟨rfl, hb⟩); have A5 := Lib.hid (show Below wc.heap.size wc w5 from A4.out.trans (hb.mono A4.out.size)); obtain ⟨c0, c1, c2, c3, c4, c5, c6, c7, c8, c9, c10, c11, clt⟩ := HCE.out _ (HX.out _ A5.out); dsimp only at c0 c1 c2 c3 c4 c5 c6 c7 c8 c9 c10 c11; obtain ⟨d0, d1, d2, d3, d4, d5, d6, d7, d8, d9, d10, d11, dlt⟩ := HCY.out _ A5.out; dsimp only at d0 d1 d2 d3 d4 d5 d6 d7 d8 d9 d10 d11; clear hb)
      | (go_at_call 15; ((with_reducible refine (HSM.out _ A5.out).mono ?_); rintro e w6 ⟨rfl, hb⟩); have A6 := Lib.hid (show Below wc.heap.size wc w6 from A5.out.trans (hb.mono A5.out.size)); obtain ⟨c0, c1, c2, c3, c4, c5, c6, c7, c8, c9, c10, c11, clt⟩ := HCE.out _ (HX.out _ A6.out); dsimp only at c0 c1 c2 c3 c4 c5 c6 c7 c8 c9 c10 c11; clear hb)
      | (go_at_call 7; ((with_reducible refine (HHD.out _ (HX.out _ A6.out)).mono ?_); rintro e w7 ⟨rfl, hb⟩); have A7 := Lib.hid (show Below wc.heap.size wc w7 from A6.out.trans (hb.mono A6.out.size)); clear hb))
    go_ret
    exact ⟨rfl, HFIN.out _ (HX.out _ A7.out)⟩
end Go.Proofs.YtpmghgfgbkncoaaGreatDoor.gn
end
