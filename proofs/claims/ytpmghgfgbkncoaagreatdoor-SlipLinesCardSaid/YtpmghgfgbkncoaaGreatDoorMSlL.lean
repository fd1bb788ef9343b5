/- SlipLines' walk. (Written by gen_slL.py.) -/
import Derived.Test.YtpmghgfgbkncoaaGreatDoorMSlW
import Derived.Test.YtpmghgfgbkncoaaGreatDoorMSlP
import Derived.Test.YtpmghgfgbkncoaaGreatDoorMSlSp
section
set_option linter.unusedVariables false
set_option linter.unusedSimpArgs false
namespace Go.Proofs.YtpmghgfgbkncoaaGreatDoor.gn
open Go.RowKit
open Go.Proofs.YtpmghgfgbkncoaaGreatDoor.un
open Go.Proofs.YtpmghgfgbkncoaaGreatDoor.di
open Go.Proofs.YtpmghgfgbkncoaaGreatDoor.sp (Slip chkS txtS chkS_iff cuts cuts_txt cuts_ne insL insL_one insL_ne join_step read_ins rev_step rev_end lines_len joinC line1 dirsS sread line1_len dirs_count)

theorem lf_str2 (t y : Tx) : str t ++ ({ data := #[10] } : ByteArray) ++ str y = str (t ++ 10 :: y) := by
  show str t ++ str [10] ++ str y = _
  rw [str_app, str_app, List.append_assoc]
  rfl
theorem split_lf (l : Tx) (hl : l.length ≤ 100000) (w : World) : Calls Tryz.prog 16 #[.string (str l), .int .u8 10] w fun e w' => ∃ v, e = .returned v ∧ Wds w.heap.size w' v (cuts 10 l) ∧ Below w.heap.size w w' := Split_any 10 l hl w
theorem wds_next {B : Nat} {w w' : World} {v : Value} {L : List Tx} (h : Wds B w v L) (hb : Below w.heap.size w w') : Wds B w' v L := by
  obtain ⟨g, c, rfl, hp, h1, h2⟩ := h
  exact ⟨g, c, rfl, hp.next hb, h1, h2⟩
theorem wds_at {w : World} {g : Nat} {L : List Tx} (h : Prts w g 0 L) {i : Nat} {y : Tx} (hi : L[i]? = some y) : w.cell? ⟨g, i, none⟩ = some (.string (str y)) := by
  have := h.2 i y hi
  rwa [Nat.zero_add] at this
set_option maxRecDepth 100000 in
set_option maxHeartbeats 32000000 in
theorem lines_law (x : Slip) (g : Gh) (ln : Tx) (n : Int) (w : World) (h : SR w x g) (hW : SW x) (hm : ln.length ≤ 9223372036854775807) (hn0 : 0 ≤ n) (hn1 : n ≤ 255) (hL : LaidD w) : Calls Tryz.prog 5 #[sV x g, .string (str ln), .int .u8 n] w (Told (.bool true) w) := by
  obtain ⟨wb, hwb⟩ : ∃ wb, w.alloc (.cells (scs x g) 27) = wb := ⟨_, rfl⟩
  have hbx : BoxA wb w.heap.size 27 (scs x g) := by rw [← hwb]; exact BoxA.new _ _ _
  have hB1 : Below w.heap.size w wb := by rw [← hwb]; exact (Below.refl _ _).alloc (Nat.le_refl _) _
  have HB1 := Lib.hid hB1
  have HWB := Lib.hid hwb
  have hL1 := fun (W : World) (hb : Below wb.heap.size wb W) => hL.next (hB1.trans (hb.mono hB1.size))
  have hS1 := fun (W : World) (hb : Below wb.heap.size wb W) => (h.next hB1).next hb
  have HL := Lib.hid hL1
  have HS := Lib.hid hS1
  have HCE := Lib.hid (fun (W : World) (hb : Below wb.heap.size wb W) => cel_box (hbx.next hb))
  have HGR := Lib.hid (great_any x g wb (h.next hB1) hW)
  have HHD := Lib.hid (fun (W : World) (hb : Below wb.heap.size wb W) => head_yes W (hL1 W hb))
  have HTX := Lib.hid (fun (W : World) (hb : Below wb.heap.size wb W) => sText_any x g W (hS1 W hb) hW (hL1 W hb))
  have HFIN := Lib.hid (fun (W : World) (hb : Below wb.heap.size wb W) => hB1.trans (hb.mono hB1.size))
  have HWX := Lib.hid hW
  have hlz := str_size ln
  have hlz2 : (str ln).size ≤ 9223372036854775807 := by rw [hlz]; exact hm
  obtain ⟨sz, hsz⟩ : ∃ sz, (str ln).size = sz := ⟨_, rfl⟩
  obtain ⟨c0, c1, c2, c3, c4, c5, c6, c7, c8, c9, c10, c11, clt⟩ := cel_box hbx
  have HLZ := Lib.hid hlz
  clear h hL hL1 hS1 hB1 hwb hbx hW hsz
  by_cases hlong : 100 < ln.length
  · have hz2 : 100 < (str ln).size := by omega
    clear hlz hlong HTX hm
    obtain ⟨va, vm, vd, vu⟩ := g
    unfold sV scs at *
    dsimp only at *
    go_enter Tryz.func5, Tryz.ntmps5
    go_upto_region 1 with fail
    rw [HWB.out]
    go_wp2_with (first
      | (go_at_call 11; ((with_reducible refine HGR.out.mono ?_); rintro e w1 ⟨b, rfl, hlk, hb⟩); have A1 := Lib.hid (show Below wb.heap.size wb w1 from hb); clear hb hlk; cases b)
      | (go_at_call 7; ((with_reducible refine (HHD.out _ A1.out).mono ?_); rintro e w3 ⟨rfl, hb⟩); have A3 := Lib.hid (show Below wb.heap.size wb w3 from A1.out.trans (hb.mono A1.out.size)); clear hb))
    all_goals
      go_ret
      exact ⟨rfl, HFIN.out _ A3.out⟩
  by_cases hsh : ln.head? = some 35
  · obtain ⟨r, rfl⟩ : ∃ r, ln = 35 :: r := by
      cases ln with
      | nil => cases hsh
      | cons b r => simp at hsh; subst hsh; exact ⟨r, rfl⟩
    have hz2 : ¬ 100 < (str (35 :: r)).size := by omega
    have hz3 : 0 < (str (35 :: r)).size := by rw [hlz]; simp
    have hge := str_at (35 :: r) 0 hz3
    have q1 : ((((str (35 :: r))[0]'hz3).toNat : Int) == 35) = true := by rw [hge]; rfl
    clear hlz hlong HTX hge hsh hm HLZ
    generalize str (35 :: r) = LN at *
    obtain ⟨va, vm, vd, vu⟩ := g
    unfold sV scs at *
    dsimp only at *
    go_enter Tryz.func5, Tryz.ntmps5
    go_upto_region 1 with fail
    rw [HWB.out]
    go_wp2_with (first
      | (go_at_call 11; ((with_reducible refine HGR.out.mono ?_); rintro e w1 ⟨b, rfl, hlk, hb⟩); have A1 := Lib.hid (show Below wb.heap.size wb w1 from hb); clear hb hlk; cases b)
      | (go_at_call 7; ((with_reducible refine (HHD.out _ A1.out).mono ?_); rintro e w3 ⟨rfl, hb⟩); have A3 := Lib.hid (show Below wb.heap.size wb w3 from A1.out.trans (hb.mono A1.out.size)); clear hb))
    all_goals
      go_ret
      exact ⟨rfl, HFIN.out _ A3.out⟩
  have hlnz : (str ln).size ≤ 100 := by rw [hlz]; omega
  have HLL := Lib.hid (show ln.length ≤ 100 by omega)
  have HSHARP := Lib.hid hsh
  clear hlz hlz2 hlong hsh hm
  by_cases hc : chkS x = true
  rotate_left
  · have HE := Lib.hid (show sE x = 150 ∧ tS x = [] by unfold sE tS; rw [if_neg hc, if_neg hc]; exact ⟨rfl, rfl⟩)
    unfold STextT at HTX
    rw [HE.out.1, HE.out.2, show str [] = ({ data := #[] } : ByteArray) from rfl] at HTX
    clear hc
    have qs : ∀ (h0 : 0 < (str ln).size), ((((str ln)[0]'h0).toNat : Int) == 35) = false := fun h0 => by
      rw [str_at ln 0 h0, beq_eq_false_iff_ne]
      intro e
      refine HSHARP.out ?_
      cases ln with
      | nil => exact absurd h0 (by decide)
      | cons b r =>
        have : b = 35 := UInt8.toNat_inj.1 (by have : (b.toNat : Int) = ((35 : UInt8).toNat : Int) := e; omega)
        rw [this]; rfl
    obtain ⟨va, vm, vd, vu⟩ := g
    unfold sV scs at *
    dsimp only at *
    go_enter Tryz.func5, Tryz.ntmps5
    go_upto_region 1 with fail
    rw [HWB.out]
    by_cases h00 : 0 < (str ln).size
    · have q1 := qs h00
      clear qs
      go_upto_region 3 with (first
        | (go_at_call 11; ((with_reducible refine HGR.out.mono ?_); rintro e w1 ⟨b, rfl, hlk, hb⟩); have A1 := Lib.hid (show Below wb.heap.size wb w1 from hb); clear hb hlk; cases b)
        | (go_at_call 7; ((with_reducible refine (HHD.out _ A1.out).mono ?_); rintro e w3 ⟨rfl, hb⟩); have A3 := Lib.hid (show Below wb.heap.size wb w3 from A1.out.trans (hb.mono A1.out.size)); clear hb))
      rotate_left
      · go_ret
        exact ⟨rfl, HFIN.out _ A3.out⟩
      clear c0 c1 c2 c3 c4 c5 c6 c7 c8 c9 c10 c11 clt
      obtain ⟨c0, c1, c2, c3, c4, c5, c6, c7, c8, c9, c10, c11, clt⟩ := HCE.out _ A1.out
      dsimp only at c0 c1 c2 c3 c4 c5 c6 c7 c8 c9 c10 c11
      go_wp2
      go_loopw [7] (fun s7 wr => ∃ k : Nat, s7 = .int .i64 (k : Int) ∧ k ≤ (str ln).size ∧ Aside ((∀ j (hj : j < ln.length), j < k → ln[j] ≠ 10) ∧ w1 = wr)) (fun s7 _ => (str ln).size - (intOf s7).toNat)
      case atStart => exact ⟨0, rfl, Nat.zero_le _, fun j hj h => by omega, rfl⟩
      case round =>
        obtain ⟨k, rfl, hk, hnx, hw⟩ := hrel
        have HX := Lib.hid (show ∀ j (hj : j < ln.length), j < k → ln[j] ≠ 10 from hnx)
        have hw : w1 = wr := hw
        subst hw
        clear hnx
        by_cases hkn : k < (str ln).size
        · have hge := str_at ln k hkn
          have hil : k < ln.length := by have := HLZ.out; omega
          by_cases hb : ln[k] = 10
          · have q2 : ((((str ln)[k]'hkn).toNat : Int) == 10) = true := by rw [hge, hb]; rfl
            clear hb hge
            go_wp2_with (go_at_call 7; ((with_reducible refine (HHD.out _ A1.out).mono ?_); rintro e w3 ⟨rfl, hb⟩); have A3 := Lib.hid (show Below wb.heap.size wb w3 from A1.out.trans (hb.mono A1.out.size)); clear hb)
            go_ret
            exact ⟨rfl, HFIN.out _ A3.out⟩
          · have q2 : ((((str ln)[k]'hkn).toNat : Int) == 10) = false := by
              rw [hge, beq_eq_false_iff_ne]
              intro e
              exact hb (UInt8.toNat_inj.1 (by have : ((ln[k]'hil).toNat : Int) = ((10 : UInt8).toNat : Int) := e; omega))
            have HNX : Hid (∀ j (hj : j < ln.length), j < k + 1 → ln[j] ≠ 10) := fun j hj h => by
              by_cases e : j = k
              · subst e; exact hb
              · exact HX.out j hj (by omega)
            clear hb hge
            go_wp2
            go_roundw
            case rel => exact ⟨k + 1, by go_num, by omega, HNX.out, trivial⟩
            case measure => simp [intOf]; omega
        · go_wp2_with (first
            | (go_at_call 12; ((with_reducible refine (HTX.out _ A1.out).mono ?_); rintro e w4 ⟨rfl, hb⟩); have A4 := Lib.hid (show Below wb.heap.size wb w4 from A1.out.trans (hb.mono A1.out.size)); clear hb)
            | (go_at_call 7; ((with_reducible refine (HHD.out _ A4.out).mono ?_); rintro e w3 ⟨rfl, hb⟩); have A3 := Lib.hid (show Below wb.heap.size wb w3 from A4.out.trans (hb.mono A4.out.size)); clear hb))
          go_ret
          exact ⟨rfl, HFIN.out _ A3.out⟩

    · clear qs
      go_upto_region 3 with (first
        | (go_at_call 11; ((with_reducible refine HGR.out.mono ?_); rintro e w1 ⟨b, rfl, hlk, hb⟩); have A1 := Lib.hid (show Below wb.heap.size wb w1 from hb); clear hb hlk; cases b)
        | (go_at_call 7; ((with_reducible refine (HHD.out _ A1.out).mono ?_); rintro e w3 ⟨rfl, hb⟩); have A3 := Lib.hid (show Below wb.heap.size wb w3 from A1.out.trans (hb.mono A1.out.size)); clear hb))
      rotate_left
      · go_ret
        exact ⟨rfl, HFIN.out _ A3.out⟩
      clear c0 c1 c2 c3 c4 c5 c6 c7 c8 c9 c10 c11 clt
      obtain ⟨c0, c1, c2, c3, c4, c5, c6, c7, c8, c9, c10, c11, clt⟩ := HCE.out _ A1.out
      dsimp only at c0 c1 c2 c3 c4 c5 c6 c7 c8 c9 c10 c11
      go_wp2
      go_loopw [7] (fun s7 wr => ∃ k : Nat, s7 = .int .i64 (k : Int) ∧ k ≤ (str ln).size ∧ Aside ((∀ j (hj : j < ln.length), j < k → ln[j] ≠ 10) ∧ w1 = wr)) (fun s7 _ => (str ln).size - (intOf s7).toNat)
      case atStart => exact ⟨0, rfl, Nat.zero_le _, fun j hj h => by omega, rfl⟩
      case round =>
        obtain ⟨k, rfl, hk, hnx, hw⟩ := hrel
        have HX := Lib.hid (show ∀ j (hj : j < ln.length), j < k → ln[j] ≠ 10 from hnx)
        have hw : w1 = wr := hw
        subst hw
        clear hnx
        by_cases hkn : k < (str ln).size
        · have hge := str_at ln k hkn
          have hil : k < ln.length := by have := HLZ.out; omega
          by_cases hb : ln[k] = 10
          · have q2 : ((((str ln)[k]'hkn).toNat : Int) == 10) = true := by rw [hge, hb]; rfl
            clear hb hge
            go_wp2_with (go_at_call 7; ((with_reducible refine (HHD.out _ A1.out).mono ?_); rintro e w3 ⟨rfl, hb⟩); have A3 := Lib.hid (show Below wb.heap.size wb w3 from A1.out.trans (hb.mono A1.out.size)); clear hb)
            go_ret
            exact ⟨rfl, HFIN.out _ A3.out⟩
          · have q2 : ((((str ln)[k]'hkn).toNat : Int) == 10) = false := by
              rw [hge, beq_eq_false_iff_ne]
              intro e
              exact hb (UInt8.toNat_inj.1 (by have : ((ln[k]'hil).toNat : Int) = ((10 : UInt8).toNat : Int) := e; omega))
            have HNX : Hid (∀ j (hj : j < ln.length), j < k + 1 → ln[j] ≠ 10) := fun j hj h => by
              by_cases e : j = k
              · subst e; exact hb
              · exact HX.out j hj (by omega)
            clear hb hge
            go_wp2
            go_roundw
            case rel => exact ⟨k + 1, by go_num, by omega, HNX.out, trivial⟩
            case measure => simp [intOf]; omega
        · go_wp2_with (first
            | (go_at_call 12; ((with_reducible refine (HTX.out _ A1.out).mono ?_); rintro e w4 ⟨rfl, hb⟩); have A4 := Lib.hid (show Below wb.heap.size wb w4 from A1.out.trans (hb.mono A1.out.size)); clear hb)
            | (go_at_call 7; ((with_reducible refine (HHD.out _ A4.out).mono ?_); rintro e w3 ⟨rfl, hb⟩); have A3 := Lib.hid (show Below wb.heap.size wb w3 from A4.out.trans (hb.mono A4.out.size)); clear hb))
          go_ret
          exact ⟨rfl, HFIN.out _ A3.out⟩


  have HE := Lib.hid (show sE x = 0 ∧ tS x = txtS x by unfold sE tS; rw [if_pos hc, if_pos hc]; exact ⟨rfl, rfl⟩)
  have hok := (chkS_iff x).1 hc
  have HOK := Lib.hid hok
  unfold STextT at HTX
  rw [HE.out.1, HE.out.2] at HTX
  have htl := sp.txtS_len hok
  have HSPL := Lib.hid (fun (W : World) => split_lf (txtS x) (by omega) W)
  rw [cuts_txt hok] at HSPL
  have hll := line1_len hok
  have hdc := dirs_count hok
  have HLINES := Lib.hid (fun (i : Nat) (y : Tx) (hi : (line1 x :: (dirsS x).map dtx)[i]? = some y) => lines_len hok hi)
  obtain ⟨DD, hDD⟩ : ∃ DD, (dirsS x).map dtx = DD := ⟨_, rfl⟩
  obtain ⟨m, hmd⟩ : ∃ m, DD.length + 1 = m := ⟨_, rfl⟩
  have hm0 : 1 ≤ m := by omega
  have hm1 : m ≤ 16 := by rw [← hmd, ← hDD, List.length_map]; omega
  obtain ⟨q, hq, hrem⟩ : ∃ q : Nat, q < m ∧ n.tmod (m : Int) = (q : Int) := by
    obtain ⟨nn, rfl⟩ : ∃ nn : Nat, n = (nn : Int) := ⟨n.toNat, by omega⟩
    exact ⟨nn % m, Nat.mod_lt _ hm0, rfl⟩
  have HDD := Lib.hid hDD
  have HMD := Lib.hid hmd
  rw [hDD] at HSPL HLINES
  have HCHK := Lib.hid hc
  obtain ⟨T, hT⟩ : ∃ T, str (txtS x) = T := ⟨_, rfl⟩
  rw [hT] at HTX HSPL
  obtain ⟨L1, hL1⟩ : ∃ L1, line1 x = L1 := ⟨_, rfl⟩
  rw [hL1] at HSPL HLINES hll
  have HL1 := Lib.hid hL1
  clear hc hok htl hdc hDD hmd hT hL1
  obtain ⟨va, vm, vd, vu⟩ := g
  have hsr := HS.out wb (Below.refl _ _)
  obtain ⟨pm, cm, em, hle2, hcm2⟩ := hsr.cm
  obtain ⟨pd, cd, ed, hle3, hcm3⟩ := hsr.cd
  obtain ⟨pu, cu, eu, hle4, hcm4⟩ := hsr.cu
  dsimp only at em ed eu
  subst em ed eu
  clear hsr hle2 hcm2 hle3 hcm3 hle4 hcm4
  go_enter Tryz.func5, Tryz.ntmps5
  unfold sV scs at *
  dsimp only at *
  go_upto_region 1 with fail
  rw [HWB.out]
  have qs : ∀ (h0 : 0 < (str ln).size), ((((str ln)[0]'h0).toNat : Int) == 35) = false := fun h0 => by
    rw [str_at ln 0 h0, beq_eq_false_iff_ne]
    intro e
    refine HSHARP.out ?_
    cases ln with
    | nil => exact absurd h0 (by decide)
    | cons b r =>
      have : b = 35 := UInt8.toNat_inj.1 (by have : (b.toNat : Int) = ((35 : UInt8).toNat : Int) := e; omega)
      rw [this]; rfl
  go_cut [35] (fun s35 wx => ∃ b : Bool, s35 = .bool b ∧ Aside (Below wb.heap.size wb wx))
  case first =>
    by_cases h00 : 0 < (str ln).size
    · have q1 := qs h00
      clear qs
      go_wp2_with (go_at_call 11; ((with_reducible refine HGR.out.mono ?_); rintro e w1 ⟨b, rfl, hlk, hb⟩); have A1 := Lib.hid (show Below wb.heap.size wb w1 from hb); clear hb hlk; cases b)
      all_goals
        go_meet
        case rel => exact ⟨_, rfl, A1.out⟩
    · clear qs
      go_wp2_with (go_at_call 11; ((with_reducible refine HGR.out.mono ?_); rintro e w1 ⟨b, rfl, hlk, hb⟩); have A1 := Lib.hid (show Below wb.heap.size wb w1 from hb); clear hb hlk; cases b)
      all_goals
        go_meet
        case rel => exact ⟨_, rfl, A1.out⟩
  case rest =>
  clear qs
  obtain ⟨b, rfl, hcut⟩ := hcut
  have A1 := Lib.hid (show Below wb.heap.size wb wc from hcut)
  clear hcut c0 c1 c2 c3 c4 c5 c6 c7 c8 c9 c10 c11 clt HGR
  obtain ⟨c0, c1, c2, c3, c4, c5, c6, c7, c8, c9, c10, c11, clt⟩ := HCE.out _ A1.out
  dsimp only at c0 c1 c2 c3 c4 c5 c6 c7 c8 c9 c10 c11
  cases b
  rotate_left
  · go_wp2_with (go_at_call 7; ((with_reducible refine (HHD.out _ A1.out).mono ?_); rintro e w3 ⟨rfl, hb⟩); have A3 := Lib.hid (show Below wb.heap.size wb w3 from A1.out.trans (hb.mono A1.out.size)); clear hb)
    go_ret
    exact ⟨rfl, HFIN.out _ A3.out⟩
  go_wp2
  go_loopw [7] (fun s7 wr => ∃ k : Nat, s7 = .int .i64 (k : Int) ∧ k ≤ (str ln).size ∧ Aside ((∀ j (hj : j < ln.length), j < k → ln[j] ≠ 10) ∧ wc = wr)) (fun s7 _ => (str ln).size - (intOf s7).toNat)
  case atStart => exact ⟨0, rfl, Nat.zero_le _, fun j hj h => by omega, rfl⟩
  case round =>
    obtain ⟨k, rfl, hk, hnx, hw⟩ := hrel
    have HX := Lib.hid (show ∀ j (hj : j < ln.length), j < k → ln[j] ≠ 10 from hnx)
    have hw : wc = wr := hw
    subst hw
    clear hnx
    by_cases hkn : k < (str ln).size
    · have hge := str_at ln k hkn
      have hil : k < ln.length := by have := HLZ.out; omega
      by_cases hb : ln[k] = 10
      · have q2 : ((((str ln)[k]'hkn).toNat : Int) == 10) = true := by rw [hge, hb]; rfl
        clear hb hge
        go_wp2_with (go_at_call 7; ((with_reducible refine (HHD.out _ A1.out).mono ?_); rintro e w3 ⟨rfl, hb⟩); have A3 := Lib.hid (show Below wb.heap.size wb w3 from A1.out.trans (hb.mono A1.out.size)); clear hb)
        go_ret
        exact ⟨rfl, HFIN.out _ A3.out⟩
      · have q2 : ((((str ln)[k]'hkn).toNat : Int) == 10) = false := by
          rw [hge, beq_eq_false_iff_ne]
          intro e
          exact hb (UInt8.toNat_inj.1 (by have : ((ln[k]'hil).toNat : Int) = ((10 : UInt8).toNat : Int) := e; omega))
        have HNX : Hid (∀ j (hj : j < ln.length), j < k + 1 → ln[j] ≠ 10) := fun j hj h => by
          by_cases e : j = k
          · subst e; exact hb
          · exact HX.out j hj (by omega)
        clear hb hge
        go_wp2
        go_roundw
        case rel => exact ⟨k + 1, by go_num, by omega, HNX.out, trivial⟩
        case measure => simp [intOf]; omega
    · have hnl : (10 : UInt8) ∉ ln := fun hm => by
        obtain ⟨j, hj, e⟩ := List.mem_iff_getElem.1 hm
        exact HX.out j hj (by have := HLZ.out; omega) e
      have HNL := Lib.hid hnl
      clear hnl
      go_upto_region 13 with (first
        | (go_at_call 12; ((with_reducible refine (HTX.out _ A1.out).mono ?_); rintro e w4 ⟨rfl, hb⟩); have A4 := Lib.hid (show Below wb.heap.size wb w4 from A1.out.trans (hb.mono A1.out.size)); clear hb)
        | (go_at_call 16; ((with_reducible refine (HSPL.out _).mono ?_); rintro e w5 ⟨v, rfl, ⟨gl, cl, rfl, hpk, hcl, hgb⟩, hb⟩); have A5 := Lib.hid (show Below wb.heap.size wb w5 from A4.out.trans (hb.mono A4.out.size)); rw [List.length_cons, HMD.out]; clear hb hcl hgb))
      have cy0 := wds_at hpk (show (L1 :: DD)[0]? = some L1 from rfl)
      have e0 : (str L1).size ≤ 1206 := by rw [str_size]; exact hll
      clear c0 c1 c2 c3 c4 c5 c6 c7 c8 c9 c10 c11 clt
      have AB := Lib.hid (show Below wb.heap.size wb w5 from A5.out)
      have HPK : Hid (Prts w5 gl 0 (L1 :: DD)) := hpk
      have hgl := hpk.1
      clear hpk
      go_wp2
      go_loopw [12, 13] (fun s12 s13 wr => ∃ (i : Nat) (t : Tx), s12 = .string (str t) ∧ s13 = .int .i64 (i : Int) ∧ 1 ≤ i ∧ i ≤ m ∧ t.length ≤ 1400 * i ∧ Aside (t = joinC 10 (insL (L1 :: DD) ln (1 + q) i) ∧ w5 = wr)) (fun _ s13 _ => m - (intOf s13).toNat)
      case atStart => exact ⟨1, L1, rfl, rfl, by omega, hm0, by omega, by rw [insL_one L1 DD ln (by omega)]; rfl, rfl⟩
      case round =>
        obtain ⟨i, t, rfl, rfl, hi1, him, htl, ht, hw⟩ := hrel
        have hw : w5 = wr := hw
        subst hw
        have HT := Lib.hid (show t = joinC 10 (insL (L1 :: DD) ln (1 + q) i) from ht)
        clear ht
        have e1 : (str t).size ≤ 22400 := by rw [str_size]; omega
        have HTL := Lib.hid htl
        clear htl
        by_cases hin : i < m
        · obtain ⟨y, hy⟩ : ∃ y, (L1 :: DD)[i]? = some y := ⟨_, List.getElem?_eq_getElem (by rw [List.length_cons, HMD.out]; exact hin)⟩
          have hyl := HLINES.out _ _ hy
          have e2 : (str y).size ≤ 1206 := by rw [str_size]; exact hyl
          have cy := wds_at HPK.out hy
          have HST := Lib.hid (join_step ln (k := 1 + q) hi1 hy)
          have HYL := Lib.hid hyl
          clear hy hyl
          by_cases hik : i = 1 + q
          · have HF := Lib.hid (show t ++ 10 :: ln ++ 10 :: y = joinC 10 (insL (L1 :: DD) ln (1 + q) (i + 1)) by rw [HST.out, if_pos hik, ← HT.out])
            have hqi : ((i : Int) == 1 + (q : Int)) = true := by rw [beq_iff_eq]; omega
            have e3 : (str (t ++ 10 :: ln)).size ≤ 22501 := by rw [str_size, List.length_append, List.length_cons]; have := HLL.out; have := HTL.out; omega
            have HC1 := Lib.hid (lf_str2 t ln)
            have HC2 := Lib.hid (lf_str2 (t ++ 10 :: ln) y)
            clear hik
            go_upto_region 19 with fail
            rw [HC1.out]
            go_wp2
            go_roundw
            case rel => exact ⟨i + 1, t ++ 10 :: ln ++ 10 :: y, by rw [← HC2.out], by go_num, by omega, by omega, by have := HTL.out; have := HLL.out; have := HYL.out; simp; omega, HF.out.symm ▸ rfl, trivial⟩
            case measure => simp [intOf]; omega
          · have HF := Lib.hid (show t ++ 10 :: y = joinC 10 (insL (L1 :: DD) ln (1 + q) (i + 1)) by rw [HST.out, if_neg hik, ← HT.out])
            have hqi : ((i : Int) == 1 + (q : Int)) = false := by rw [beq_eq_false_iff_ne]; omega
            have HC2 := Lib.hid (lf_str2 t y)
            clear hik
            go_wp2
            go_roundw
            case rel => exact ⟨i + 1, t ++ 10 :: y, by rw [← HC2.out], by go_num, by omega, by omega, by have := HTL.out; have := HYL.out; simp; omega, HF.out.symm ▸ rfl, trivial⟩
            case measure => simp [intOf]; omega
        · obtain rfl : i = m := by omega
          have HC1 := Lib.hid (lf_str2 t ln)
          have hnl : (10 : UInt8) ∉ ln := HNL.out
          have hrd : sread (t ++ 10 :: ln) = (x, 0, 0) := by
            have hd : (dirsS x).length + 1 = i := by have := HMD.out; rw [← HDD.out, List.length_map] at this; exact this
            rw [HT.out, ← HL1.out, ← HDD.out, ← hd]
            exact read_ins HOK.out ln (by omega) (by omega) HSHARP.out hnl HLL.out
          have HP1 := Lib.hid (fun (W : World) (hb : Below wb.heap.size wb W) => parse_as (s := t ++ 10 :: ln) (by have := HTL.out; have := HLL.out; rw [List.length_append, List.length_cons]; omega) (x := x) (e := 0) (l := 0) (by rw [hrd]) (by rw [hrd]) (by rw [hrd]; rfl) W (HL.out W hb))
          rw [← HC1.out] at HP1
          clear hrd hnl
          go_upto_region 21 with (first
            | (go_at_call 8; go_loud ((refine (HP1.out _ AB.out).mono ?_); rintro e w6 ⟨hb, g1, rfl, hs⟩); have HBq := Lib.hid hb; have HSq := Lib.hid hs; clear hb hs)
            | (refine wpList_store_row rfl _ _ _ rfl w6.heap.size (scs x g1) rfl rfl _ _ (boxes_a w6 _ _ _ _) (by kernel_rfl) rfl (scs_one HSq.out) ?_)
            | (refine wpList_store_row rfl _ _ _ rfl (w6.heap.size + 1) #[.int .i64 0, .int .i64 0] rfl rfl _ _ (boxes_b w6 _ _ _ _ _) (by kernel_rfl) rfl (by kernel_rfl) ?_))
          obtain ⟨W1, hW1, ba1, bb1, bl1⟩ := boxes_end w6 #[.string { data := #[] }, .int .i64 0, .int .i64 0, .int .i64 0, .slice none 0 0, .int .i64 0, .int .i64 0, .int .i64 0, .string { data := #[] }, .slice none 0 0, .slice none 0 0, .slice none 0 0] #[.int .i64 0, .int .i64 0] (scs x g1) #[.int .i64 0, .int .i64 0] 27 30
          rw [hW1]
          clear hW1
          have A6 := Lib.hid (show Below w5.heap.size w5 W1 from HBq.out.trans (bl1.mono HBq.out.size))
          have A7 := Lib.hid (AB.out.trans (A6.out.mono AB.out.size))
          have SA1 := Lib.hid (HSq.out.next bl1)
          obtain ⟨d0, d1, d2, d3, d4, d5, d6, d7, d8, d9, d10, d11, dlt⟩ := cel_box ba1
          have s0 := bb1.cell 0 _
          have s1 := bb1.cell 1 _
          have slt := bb1.lt
          clear ba1 bb1 bl1
          generalize w6.heap.size = n6 at *
          obtain ⟨c0, c1, c2, c3, c4, c5, c6, c7, c8, c9, c10, c11, clt⟩ := HCE.out _ A7.out
          dsimp only at c0 c1 c2 c3 c4 c5 c6 c7 c8 c9 c10 c11
          have HSM := Lib.hid (Same_slip x x g1 ⟨va, .slice pm x.make.length cm, .slice pd x.drop.length cd, .slice pu x.use.length cu⟩ W1 SA1.out (HS.out W1 A7.out))
          rw [show decide (x = x) = true from decide_eq_true rfl] at HSM
          obtain ⟨za, zm, zd, zu⟩ := g1
          unfold sV scs at HSM
          dsimp only at HSM d4 d9 d10 d11
          go_upto_region 23 with (go_at_call 15; ((with_reducible refine HSM.out.mono ?_); rintro e w7 ⟨rfl, hb⟩); have A8 := Lib.hid (show Below wb.heap.size wb w7 from A7.out.trans (hb.mono A7.out.size)); have A9 := Lib.hid (show Below w5.heap.size w5 w7 from A6.out.trans (hb.mono A6.out.size)); clear hb)
          clear d0 d1 d2 d3 d4 d5 d6 d7 d8 d9 d10 d11 dlt s0 s1 slt c0 c1 c2 c3 c4 c5 c6 c7 c8 c9 c10 c11 clt HSM
          obtain ⟨c0, c1, c2, c3, c4, c5, c6, c7, c8, c9, c10, c11, clt⟩ := HCE.out _ A8.out
          dsimp only at c0 c1 c2 c3 c4 c5 c6 c7 c8 c9 c10 c11
          by_cases k1 : 1 < x.make.length
          · go_wp2_with (go_at_call 7; ((with_reducible refine (HHD.out _ A8.out).mono ?_); rintro e w9 ⟨rfl, hb⟩); have A3 := Lib.hid (show Below wb.heap.size wb w9 from A8.out.trans (hb.mono A8.out.size)); clear hb)
            go_ret
            exact ⟨rfl, HFIN.out _ A3.out⟩
          by_cases k2 : 1 < x.drop.length
          · go_wp2_with (go_at_call 7; ((with_reducible refine (HHD.out _ A8.out).mono ?_); rintro e w9 ⟨rfl, hb⟩); have A3 := Lib.hid (show Below wb.heap.size wb w9 from A8.out.trans (hb.mono A8.out.size)); clear hb)
            go_ret
            exact ⟨rfl, HFIN.out _ A3.out⟩
          by_cases k3 : 1 < x.use.length
          · go_wp2_with (go_at_call 7; ((with_reducible refine (HHD.out _ A8.out).mono ?_); rintro e w9 ⟨rfl, hb⟩); have A3 := Lib.hid (show Below wb.heap.size wb w9 from A8.out.trans (hb.mono A8.out.size)); clear hb)
            go_ret
            exact ⟨rfl, HFIN.out _ A3.out⟩
          have HRV := Lib.hid (rev_end HOK.out (by omega) (by omega) (by omega))
          have hgl7 := Nat.lt_of_lt_of_le hgl A9.out.size
          have HPK7 := Lib.hid (HPK.out.next A9.out)
          have cy0 := wds_at HPK7.out (show (L1 :: DD)[0]? = some L1 from rfl)
          go_wp2
          go_loopw [12, 16] (fun s12 s16 wr => ∃ (j : Nat) (t : Tx), s12 = .string (str t) ∧ s16 = .int .i64 (j : Int) ∧ j + 1 ≤ i ∧ t.length ≤ 1400 * (i - j) ∧ Aside (t = joinC 10 (L1 :: DD.reverse.take (i - 1 - j)) ∧ w7 = wr)) (fun _ s16 _ => (intOf s16).toNat)
          case atStart => exact ⟨i - 1, L1, rfl, by go_num, by omega, by have : 1 ≤ i - (i - 1) := by omega
                                                                         omega, by rw [Nat.sub_self]; rfl, rfl⟩
          case round =>
            obtain ⟨j, t2, rfl, rfl, hj, htl, ht, hw⟩ := hrel
            have hw : w7 = wr := hw
            subst hw
            have HT2 := Lib.hid (show t2 = joinC 10 (L1 :: DD.reverse.take (i - 1 - j)) from ht)
            clear ht
            have e5 : (str t2).size ≤ 22400 := by rw [str_size]; omega
            have HTL2 := Lib.hid htl
            clear htl
            by_cases hj1 : 1 ≤ j
            · obtain ⟨y, hy⟩ : ∃ y, (L1 :: DD)[j]? = some y := ⟨_, List.getElem?_eq_getElem (by rw [List.length_cons, HMD.out]; omega)⟩
              have hyl := HLINES.out _ _ hy
              have e2 : (str y).size ≤ 1206 := by rw [str_size]; exact hyl
              have cy := wds_at HPK7.out hy
              have HST := Lib.hid (rev_step L1 hy hj1 (j := i - 1 - j) (by have := HMD.out; omega))
              have HC2 := Lib.hid (lf_str2 t2 y)
              have HYL := Lib.hid hyl
              clear hy hyl
              go_wp2
              go_roundw
              case rel => exact ⟨j - 1, t2 ++ 10 :: y, by rw [← HC2.out], by go_num, by omega, by have := HTL2.out; have := HYL.out; rw [List.length_append, List.length_cons]; have : i - (j - 1) = (i - j) + 1 := by omega
                                                                                                  rw [this, Nat.mul_add]; omega, by show t2 ++ 10 :: y = joinC 10 (L1 :: DD.reverse.take (i - 1 - (j - 1))); rw [show i - 1 - (j - 1) = (i - 1 - j) + 1 by omega, HST.out, ← HT2.out], trivial⟩
              case measure => simp [intOf]; omega
            · obtain rfl : j = 0 := by omega
              have hrd : sread t2 = (x, 0, 0) := by
                have hd : (dirsS x).length = i - 1 - 0 := by have := HMD.out; rw [← HDD.out, List.length_map] at this; omega
                rw [HT2.out, ← HL1.out, ← HDD.out, ← hd]
                exact HRV.out
              have HP2 := Lib.hid (fun (W : World) (hb : Below wb.heap.size wb W) => parse_as (s := t2) (by have := HTL2.out; omega) (x := x) (e := 0) (l := 0) (by rw [hrd]) (by rw [hrd]) (by rw [hrd]; rfl) W (HL.out W hb))
              clear hrd cy0
              go_upto_region 31 with (first
                | (go_at_call 8; go_loud ((refine (HP2.out _ A8.out).mono ?_); rintro e w8 ⟨hb, g2, rfl, hs⟩); have HBr := Lib.hid hb; have HSr := Lib.hid hs; clear hb hs)
                | (refine wpList_store_row rfl _ _ _ rfl w8.heap.size (scs x g2) rfl rfl _ _ (boxes_a w8 _ _ _ _) (by kernel_rfl) rfl (scs_one HSr.out) ?_)
                | (refine wpList_store_row rfl _ _ _ rfl (w8.heap.size + 1) #[.int .i64 0, .int .i64 0] rfl rfl _ _ (boxes_b w8 _ _ _ _ _) (by kernel_rfl) rfl (by kernel_rfl) ?_))
              obtain ⟨W2, hW2, ba1, bb1, bl1⟩ := boxes_end w8 #[.string { data := #[] }, .int .i64 0, .int .i64 0, .int .i64 0, .slice none 0 0, .int .i64 0, .int .i64 0, .int .i64 0, .string { data := #[] }, .slice none 0 0, .slice none 0 0, .slice none 0 0] #[.int .i64 0, .int .i64 0] (scs x g2) #[.int .i64 0, .int .i64 0] 27 30
              rw [hW2]
              clear hW2
              have A10 := Lib.hid (show Below w7.heap.size w7 W2 from HBr.out.trans (bl1.mono HBr.out.size))
              have A11 := Lib.hid (A8.out.trans (A10.out.mono A8.out.size))
              have SA2 := Lib.hid (HSr.out.next bl1)
              obtain ⟨d0, d1, d2, d3, d4, d5, d6, d7, d8, d9, d10, d11, dlt⟩ := cel_box ba1
              have s0 := bb1.cell 0 _
              have s1 := bb1.cell 1 _
              have slt := bb1.lt
              clear ba1 bb1 bl1
              generalize w8.heap.size = n8 at *
              clear c0 c1 c2 c3 c4 c5 c6 c7 c8 c9 c10 c11 clt
              obtain ⟨c0, c1, c2, c3, c4, c5, c6, c7, c8, c9, c10, c11, clt⟩ := HCE.out _ A11.out
              dsimp only at c0 c1 c2 c3 c4 c5 c6 c7 c8 c9 c10 c11
              have HSM := Lib.hid (Same_slip x x g2 ⟨va, .slice pm x.make.length cm, .slice pd x.drop.length cd, .slice pu x.use.length cu⟩ W2 SA2.out (HS.out W2 A11.out))
              rw [show decide (x = x) = true from decide_eq_true rfl] at HSM
              obtain ⟨za, zm, zd, zu⟩ := g2
              unfold sV scs at HSM
              dsimp only at HSM d4 d9 d10 d11
              go_wp2_with (first
                | (go_at_call 15; ((with_reducible refine HSM.out.mono ?_); rintro e w9 ⟨rfl, hb⟩); have A12 := Lib.hid (show Below wb.heap.size wb w9 from A11.out.trans (hb.mono A11.out.size)); clear hb)
                | (go_at_call 7; ((with_reducible refine (HHD.out _ A12.out).mono ?_); rintro e w10 ⟨rfl, hb⟩); have A3 := Lib.hid (show Below wb.heap.size wb w10 from A12.out.trans (hb.mono A12.out.size)); clear hb))
              go_ret
              exact ⟨rfl, HFIN.out _ A3.out⟩

end Go.Proofs.YtpmghgfgbkncoaaGreatDoor.gn
end
