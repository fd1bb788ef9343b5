/- The head of the laws of stage 15. (Written by gen_slHd.py.) -/
import Derived.Test.YtpmghgfgbkncoaaGreatDoorMDiX
import Derived.Test.YtpmghgfgbkncoaaGreatDoorMSlPa
import Derived.Test.YtpmghgfgbkncoaaGreatDoorMDiL
section
set_option linter.unusedVariables false
set_option linter.unusedSimpArgs false
namespace Go.Proofs.YtpmghgfgbkncoaaGreatDoor.gn
open Go.RowKit
open Go.Proofs.YtpmghgfgbkncoaaGreatDoor.un
open Go.Proofs.YtpmghgfgbkncoaaGreatDoor.di
open Go.Proofs.YtpmghgfgbkncoaaGreatDoor.sp (Slip chkS txtS sread h1T h2T h3T h1S h1_read h2_read h3_read h1_chk h1_txt)

theorem boxes_a (w : World) (z : Array Value) (t : TypeId) (y : Array Value) (u : TypeId) : ((w.alloc (.cells z t)).alloc (.cells y u)).heap[w.heap.size]? = some (.cells z t (0, 0)) := BoxA.next (BoxA.new w t z) ((Below.refl _ _).alloc (Nat.le_refl _) _)
theorem boxes_b (w : World) (z : Array Value) (t : TypeId) (y : Array Value) (u : TypeId) (cs : Array Value) : (((w.alloc (.cells z t)).alloc (.cells y u)).setRow w.heap.size cs).heap[w.heap.size + 1]? = some (.cells y u (0, 0)) := by
  have := BoxA.new (w.alloc (.cells z t)) u y
  rw [World.size_alloc] at this
  exact (setRow_other _ _ _ _ (by omega)).trans this
theorem boxes_end (w : World) (z y cs ds : Array Value) (t u : TypeId) : ∃ W, (((w.alloc (.cells z t)).alloc (.cells y u)).setRow w.heap.size cs).setRow (w.heap.size + 1) ds = W ∧ BoxA W w.heap.size t cs ∧ BoxA W (w.heap.size + 1) u ds ∧ Below w.heap.size w W :=
  ⟨_, rfl, (setRow_other _ _ _ _ (by omega)).trans (setRow_heap _ _ _ _ _ _ (boxes_a w z t y u)), setRow_heap _ _ _ _ _ _ (boxes_b w z t y u cs), below_setRow (below_setRow (((Below.refl _ w).alloc (Nat.le_refl _) _).alloc (by simp) _) (Nat.le_refl _) _) (by omega) _⟩
theorem spot_eqIn (a b c d : Int) (W : World) : (Op.equalIn 10000 30 (.agg #[.int .i64 a, .int .i64 b]) (.agg #[.int .i64 c, .int .i64 d])).run Tryz.prog W = .ok (decide (a = c) && decide (b = d)) W := by
  rw [run_equalIn_agg W 9999 30 #[.int .i64 a, .int .i64 b] #[.int .i64 c, .int .i64 d] (by kernel_rfl) (by kernel_rfl)]
  unfold Program.fieldsOf
  rw [Tryz.underlying30]
  simp [Op.eqFields, go_sem, Tryz.underlying28, Tryz.underlying3]
  by_cases h1 : a = c <;> by_cases h2 : b = d <;> simp [h1, h2]
theorem spot_eq (a b c d : Int) (W : World) : (binOp .eql 30 (.agg #[.int .i64 a, .int .i64 b]) (.agg #[.int .i64 c, .int .i64 d])).run Tryz.prog W = .ok (.bool (decide (a = c) && decide (b = d))) W := by
  rw [run_eql_struct, spot_eqIn]
  rfl
/-- What a Parse answers, its answer named. -/
def PaA (x : Slip) (e l : Int) (w : World) (en : Ending) (w' : World) : Prop := Below w.heap.size w w' ∧ ∃ g, en = .returned (.tuple #[sV x g, .agg #[.int .i64 e, .int .i64 l]]) ∧ SR w' x g
theorem parse_as {s : Tx} (hm : s.length ≤ 9223372036854775807) {x : Slip} {e l : Int} (h1 : (sread s).1 = x) (h2 : (sread s).2.1 = e) (h3 : ((sread s).2.2 : Int) = l) (w : World) (hL : LaidD w) : Calls Tryz.prog 8 #[.string (str s)] w (PaA x e l w) := by
  have := sParse_any s hm w hL
  unfold PaT at this
  rw [h1, h2, h3] at this
  exact this
set_option maxRecDepth 100000 in
set_option maxHeartbeats 16000000 in
theorem head_yes (w : World) (hL : LaidD w) : Calls Tryz.prog 7 #[] w (Told (.bool true) w) := by
  have HL := Lib.hid (fun (W : World) (hb : Below w.heap.size w W) => hL.next hb)
  have HP1 : Hid (∀ (W : World), Below w.heap.size w W → Calls Tryz.prog 8 #[.string ({ data := ([106, 111, 98, 32, 117, 115, 101, 114, 61, 97, 32, 110, 111, 100, 101, 115, 61, 50, 32, 119, 97, 108, 108, 61, 49, 48, 32, 97, 102, 116, 101, 114, 61, 111].append [107, 58, 51, 10, 35, 66, 66, 32, 106, 111, 98, 100, 119, 32, 99, 97, 112, 97, 99, 105, 116, 121, 61, 49, 75, 105, 66, 32, 112, 111, 111, 108, 61, 112]).toArray } : ByteArray)] W (PaA h1S 0 0 W)) := fun W hb => parse_as (s := h1T) (by decide) (by rw [h1_read]) (by rw [h1_read]) (by rw [h1_read]; rfl) W (HL.out W hb)
  have HP2 : Hid (∀ (W : World), Below w.heap.size w W → Calls Tryz.prog 8 #[.string ({ data := #[106, 111, 98, 32, 117, 115, 101, 114, 61, 97, 32, 110, 111, 100, 101, 115, 61, 48, 32, 119, 97, 108, 108, 61, 49, 48] } : ByteArray)] W (PaA (sread h2T).1 150 1 W)) := fun W hb => parse_as (s := h2T) (by decide) rfl (by rw [h2_read]) (by rw [h2_read]; rfl) W (HL.out W hb)
  have HP3 : Hid (∀ (W : World), Below w.heap.size w W → Calls Tryz.prog 8 #[.string ({ data := #[106, 111, 98, 32, 117, 115, 101, 114, 61, 97, 32, 110, 111, 100, 101, 115, 61, 49, 32, 119, 97, 108, 108, 61, 49, 48, 10, 35, 66, 66, 32, 115, 116, 97, 103, 101, 95, 105, 110, 32, 115, 105, 122, 101, 61, 49] } : ByteArray)] W (PaA (sread h3T).1 150 2 W)) := fun W hb => parse_as (s := h3T) (by decide) rfl (by rw [h3_read]) (by rw [h3_read]; rfl) W (HL.out W hb)
  clear hL
  generalize (sread h2T).1 = x2 at *
  generalize (sread h3T).1 = x3 at *
  go_enter Tryz.func7, Tryz.ntmps7
  go_upto_region 2 with (first
    | (go_at_call 8; go_loud ((refine (HP1.out _ (Below.refl _ _)).mono ?_); rintro e w1 ⟨hb, g1, rfl, hs⟩); have HB1 := Lib.hid hb; have HS1 := Lib.hid hs; clear hb hs)
    | (refine wpList_store_row rfl _ _ _ rfl w1.heap.size (scs h1S g1) rfl rfl _ _ (boxes_a w1 _ _ _ _) (by kernel_rfl) rfl (scs_one HS1.out) ?_)
    | (refine wpList_store_row rfl _ _ _ rfl (w1.heap.size + 1) #[.int .i64 0, .int .i64 0] rfl rfl _ _ (boxes_b w1 _ _ _ _ _) (by kernel_rfl) rfl (by kernel_rfl) ?_))
  obtain ⟨W1, hW1, ba1, bb1, bl1⟩ := boxes_end w1 #[.string { data := #[] }, .int .i64 0, .int .i64 0, .int .i64 0, .slice none 0 0, .int .i64 0, .int .i64 0, .int .i64 0, .string { data := #[] }, .slice none 0 0, .slice none 0 0, .slice none 0 0] #[.int .i64 0, .int .i64 0] (scs h1S g1) #[.int .i64 0, .int .i64 0] 27 30
  rw [hW1]
  clear hW1
  have HY1 := Lib.hid (HB1.out.trans (bl1.mono HB1.out.size))
  have HZ1 := Lib.hid (HY1.out)
  have BA1 := Lib.hid ba1
  have BB1 := Lib.hid bb1
  have SA1 := Lib.hid (HS1.out.next bl1)
  clear ba1 bb1 bl1
  generalize w1.heap.size = n1 at *
  go_upto_region 3 with (first
    | (go_at_call 8; go_loud ((refine (HP2.out _ HZ1.out).mono ?_); rintro e w2 ⟨hb, g2, rfl, hs⟩); have HB2 := Lib.hid hb; have HS2 := Lib.hid hs; clear hb hs)
    | (refine wpList_store_row rfl _ _ _ rfl w2.heap.size (scs x2 g2) rfl rfl _ _ (boxes_a w2 _ _ _ _) (by kernel_rfl) rfl (scs_one HS2.out) ?_)
    | (refine wpList_store_row rfl _ _ _ rfl (w2.heap.size + 1) #[.int .i64 150, .int .i64 1] rfl rfl _ _ (boxes_b w2 _ _ _ _ _) (by kernel_rfl) rfl (by kernel_rfl) ?_))
  obtain ⟨W2, hW2, ba2, bb2, bl2⟩ := boxes_end w2 #[.string { data := #[] }, .int .i64 0, .int .i64 0, .int .i64 0, .slice none 0 0, .int .i64 0, .int .i64 0, .int .i64 0, .string { data := #[] }, .slice none 0 0, .slice none 0 0, .slice none 0 0] #[.int .i64 0, .int .i64 0] (scs x2 g2) #[.int .i64 150, .int .i64 1] 27 30
  rw [hW2]
  clear hW2
  have HY2 := Lib.hid (HB2.out.trans (bl2.mono HB2.out.size))
  have HZ2 := Lib.hid (HZ1.out.trans (HY2.out.mono HZ1.out.size))
  have BA2 := Lib.hid ba2
  have BB2 := Lib.hid bb2
  have SA2 := Lib.hid (HS2.out.next bl2)
  clear ba2 bb2 bl2
  generalize w2.heap.size = n2 at *
  go_upto_region 4 with (first
    | (go_at_call 8; go_loud ((refine (HP3.out _ HZ2.out).mono ?_); rintro e w3 ⟨hb, g3, rfl, hs⟩); have HB3 := Lib.hid hb; have HS3 := Lib.hid hs; clear hb hs)
    | (refine wpList_store_row rfl _ _ _ rfl w3.heap.size (scs x3 g3) rfl rfl _ _ (boxes_a w3 _ _ _ _) (by kernel_rfl) rfl (scs_one HS3.out) ?_)
    | (refine wpList_store_row rfl _ _ _ rfl (w3.heap.size + 1) #[.int .i64 150, .int .i64 2] rfl rfl _ _ (boxes_b w3 _ _ _ _ _) (by kernel_rfl) rfl (by kernel_rfl) ?_))
  obtain ⟨W3, hW3, ba3, bb3, bl3⟩ := boxes_end w3 #[.string { data := #[] }, .int .i64 0, .int .i64 0, .int .i64 0, .slice none 0 0, .int .i64 0, .int .i64 0, .int .i64 0, .string { data := #[] }, .slice none 0 0, .slice none 0 0, .slice none 0 0] #[.int .i64 0, .int .i64 0] (scs x3 g3) #[.int .i64 150, .int .i64 2] 27 30
  rw [hW3]
  clear hW3
  have HY3 := Lib.hid (HB3.out.trans (bl3.mono HB3.out.size))
  have HZ3 := Lib.hid (HZ2.out.trans (HY3.out.mono HZ2.out.size))
  have BA3 := Lib.hid ba3
  have BB3 := Lib.hid bb3
  have SA3 := Lib.hid (HS3.out.next bl3)
  clear ba3 bb3 bl3
  generalize w3.heap.size = n3 at *
  have ba := (BA1.out.next HY2.out).next HY3.out
  have sa := (SA1.out.next HY2.out).next HY3.out
  have HS1z := Lib.hid sa
  have HBA := Lib.hid ba
  have HT := Lib.hid (sText_any h1S g1 W3 sa (sW_W ((sp.chkS_iff _).1 h1_chk)) (HL.out W3 HZ3.out))
  have HE := Lib.hid (show sE h1S = 0 ∧ str (tS h1S) = ({ data := ([106, 111, 98, 32, 117, 115, 101, 114, 61, 97, 32, 110, 111, 100, 101, 115, 61, 50, 32, 119, 97, 108, 108, 61, 49, 48, 32, 97, 102, 116, 101, 114, 61, 111].append [107, 58, 51, 10, 35, 66, 66, 32, 106, 111, 98, 100, 119, 32, 99, 97, 112, 97, 99, 105, 116, 121, 61, 49, 75, 105, 66, 32, 112, 111, 111, 108, 61, 112]).toArray } : ByteArray) by unfold sE tS; rw [if_pos h1_chk, if_pos h1_chk, h1_txt]; exact ⟨rfl, rfl⟩)
  unfold STextT at HT
  rw [HE.out.1, HE.out.2] at HT
  have bs1 := (BB1.out.next HY2.out).next HY3.out
  have bs2 := BB2.out.next HY3.out
  have HB31 := Lib.hid bs1
  have HB32 := Lib.hid bs2
  obtain ⟨pa, ca, ea, hle, hcm⟩ := sa.ca
  have hra := sa.a
  obtain ⟨va, vm, vd, vu⟩ := g1
  dsimp only at ea hra
  subst ea
  obtain ⟨b, off, hp, hbz, hcc⟩ := hra.at_ (size := 2) rfl (by decide)
  subst hp
  obtain ⟨U, hU⟩ : ∃ U, str [97] = U := ⟨_, rfl⟩
  obtain ⟨V, hV⟩ : ∃ V, str [112] = V := ⟨_, rfl⟩
  have qU : (U.toList == [97]) = true := by rw [← hU]; exact (lit_yes rfl).1
  have qU2 : U.toList = [97] := by rw [← hU]; exact (lit_yes rfl).2
  have qV : (V.toList == [112]) = true := by rw [← hV]; exact (lit_yes rfl).1
  have qV2 : V.toList = [112] := by rw [← hV]; exact (lit_yes rfl).2
  have c0 : W3.cell? ⟨n1, 0, none⟩ = some (.string U) := by rw [← hU]; exact ba.cell 0 _
  have c1 : W3.cell? ⟨n1, 1, none⟩ = some (.int .i64 2) := ba.cell 1 _
  have c2 : W3.cell? ⟨n1, 2, none⟩ = some (.int .i64 10) := ba.cell 2 _
  have c3 : W3.cell? ⟨n1, 3, none⟩ = some (.int .i64 0) := ba.cell 3 _
  have c4 : W3.cell? ⟨n1, 4, none⟩ = some (.slice (some ⟨b, off, none⟩) 1 ca) := ba.cell 4 _
  have c5 : W3.cell? ⟨n1, 5, none⟩ = some (.int .i64 1024) := ba.cell 5 _
  have c6 : W3.cell? ⟨n1, 6, none⟩ = some (.int .i64 0) := ba.cell 6 _
  have c7 : W3.cell? ⟨n1, 7, none⟩ = some (.int .i64 0) := ba.cell 7 _
  have c8 : W3.cell? ⟨n1, 8, none⟩ = some (.string V) := by rw [← hV]; exact ba.cell 8 _
  have c9 : W3.cell? ⟨n1, 9, none⟩ = some vm := ba.cell 9 _
  have c10 : W3.cell? ⟨n1, 10, none⟩ = some vd := ba.cell 10 _
  have c11 : W3.cell? ⟨n1, 11, none⟩ = some vu := ba.cell 11 _
  have hlt := ba.lt
  have HCA := Lib.hid (show W3.cell? ⟨b, off, none⟩ = some (.int .i64 3) from hcc 0 _ rfl)
  have HCB := Lib.hid (show W3.cell? ⟨b, off + 1, none⟩ = some (.bool false) from hcc 1 _ rfl)
  have HT2 : Hid (Calls Tryz.prog 12 #[.agg #[.string U, .int .i64 2, .int .i64 10, .int .i64 0, .slice (some ⟨b, off, none⟩) 1 ca, .int .i64 1024, .int .i64 0, .int .i64 0, .string V, vm, vd, vu]] W3 (Told (.tuple #[.string ({ data := ([106, 111, 98, 32, 117, 115, 101, 114, 61, 97, 32, 110, 111, 100, 101, 115, 61, 50, 32, 119, 97, 108, 108, 61, 49, 48, 32, 97, 102, 116, 101, 114, 61, 111].append [107, 58, 51, 10, 35, 66, 66, 32, 106, 111, 98, 100, 119, 32, 99, 97, 112, 97, 99, 105, 116, 121, 61, 49, 75, 105, 66, 32, 112, 111, 111, 108, 61, 112]).toArray } : ByteArray), .int .i64 0]) W3)) := by rw [← hU, ← hV]; exact HT.out
  clear ba sa hra hcc HT bs1 bs2 hU hV
  go_upto_region 5 with (go_at_call 12; ((with_reducible refine HT2.out.mono ?_); rintro e w5 ⟨rfl, hb⟩); have HB5 := Lib.hid hb; clear hb)
  have d0 : w5.cell? ⟨n1, 0, none⟩ = some (.string U) := (Below.cell HB5.out hlt).trans c0
  have d1 : w5.cell? ⟨n1, 1, none⟩ = some (.int .i64 2) := (Below.cell HB5.out hlt).trans c1
  have d2 : w5.cell? ⟨n1, 2, none⟩ = some (.int .i64 10) := (Below.cell HB5.out hlt).trans c2
  have d4 : w5.cell? ⟨n1, 4, none⟩ = some (.slice (some ⟨b, off, none⟩) 1 ca) := (Below.cell HB5.out hlt).trans c4
  have d5 : w5.cell? ⟨n1, 5, none⟩ = some (.int .i64 1024) := (Below.cell HB5.out hlt).trans c5
  have d8 : w5.cell? ⟨n1, 8, none⟩ = some (.string V) := (Below.cell HB5.out hlt).trans c8
  have e0 : w5.cell? ⟨b, off, none⟩ = some (.int .i64 3) := (Below.cell HB5.out hbz).trans HCA.out
  have e1 : w5.cell? ⟨b, off + 1, none⟩ = some (.bool false) := (Below.cell HB5.out hbz).trans HCB.out
  have s10 := (HB31.out.next HB5.out).cell 0 _
  have s11 := (HB31.out.next HB5.out).cell 1 _
  have s20 := (HB32.out.next HB5.out).cell 0 _
  have s21 := (HB32.out.next HB5.out).cell 1 _
  have s30 := (BB3.out.next HB5.out).cell 0 _
  have s31 := (BB3.out.next HB5.out).cell 1 _
  have z1 : n1 < w5.heap.size := Nat.lt_of_lt_of_le hlt HB5.out.size
  have z2 : b < w5.heap.size := Nat.lt_of_lt_of_le hbz HB5.out.size
  have x1 : n1 + 1 < w5.heap.size := (HB31.out.next HB5.out).lt
  have x2 : n2 + 1 < w5.heap.size := (HB32.out.next HB5.out).lt
  have x3 : n3 + 1 < w5.heap.size := (BB3.out.next HB5.out).lt
  have p1 : ∀ W, (binOp .eql 30 (.agg #[.int .i64 0, .int .i64 0]) (.agg #[.int .i64 0, .int .i64 0])).run Tryz.prog W = .ok (.bool true) W := fun W => spot_eq 0 0 0 0 W
  have p2 : ∀ W, (binOp .eql 30 (.agg #[.int .i64 150, .int .i64 1]) (.agg #[.int .i64 150, .int .i64 1])).run Tryz.prog W = .ok (.bool true) W := fun W => spot_eq 150 1 150 1 W
  have p3 : ∀ W, (binOp .eql 30 (.agg #[.int .i64 150, .int .i64 2]) (.agg #[.int .i64 150, .int .i64 2])).run Tryz.prog W = .ok (.bool true) W := fun W => spot_eq 150 2 150 2 W
  have p4 : ∀ W, (binOp .eql 44 (.agg #[.int .i64 3, .bool false]) (.agg #[.int .i64 3, .bool false])).run Tryz.prog W = .ok (.bool true) W := fun W => dep_eq (3, false) (3, false) W
  clear c0 c1 c2 c3 c4 c5 c6 c7 c8 c9 c10 c11
  go_wp2
  go_ret
  exact ⟨rfl, HZ3.out.trans (HB5.out.mono HZ3.out.size)⟩
end Go.Proofs.YtpmghgfgbkncoaaGreatDoor.gn
end
