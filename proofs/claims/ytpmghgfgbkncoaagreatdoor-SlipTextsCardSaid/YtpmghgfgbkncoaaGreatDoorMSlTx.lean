/- The contract of slip.Text. -/
import Derived.Test.YtpmghgfgbkncoaaGreatDoorMSlFi
import Derived.Test.YtpmghgfgbkncoaaGreatDoorMSlPr
section
set_option linter.unusedVariables false
set_option linter.unusedSimpArgs false
namespace Go.Proofs.YtpmghgfgbkncoaaGreatDoor.gn
open Go.RowKit
open Go.Proofs.YtpmghgfgbkncoaaGreatDoor.un
open Go.Proofs.YtpmghgfgbkncoaaGreatDoor.di
open Go.Proofs.YtpmghgfgbkncoaaGreatDoor.sp (Slip Ok chkS chkS_iff dirsP dirsS dirsP_eq dirs_mem line1 line1_len dirs_count txtS joinC joinC_snoc join_two)

/-- The text that is told. -/
def tS (x : Slip) : Tx := if chkS x = true then txtS x else []
def STextT (x : Slip) (w : World) : Ending → World → Prop := Told (.tuple #[.string (str (tS x)), .int .i64 (sE x)]) w
/-- The text, as far as its first k directives. -/
def pfx (x : Slip) (L : List Dir) (k : Nat) : Tx := joinC 10 (line1 x :: (L.take k).map dtx)
theorem pfx_zero (x : Slip) (L : List Dir) : pfx x L 0 = line1 x := rfl
theorem pfx_succ (x : Slip) {L : List Dir} {k : Nat} {d : Dir} (hd : L[k]? = some d) : pfx x L (k + 1) = pfx x L k ++ 10 :: dtx d := by
  unfold pfx
  rw [take_snoc hd, List.map_append, ← List.cons_append]
  exact joinC_snoc 10 _ _ (by simp)
theorem lf_str (s t : Tx) : str s ++ (({ data := #[10] } : ByteArray) ++ str t) = str (s ++ 10 :: t) := by
  show str s ++ (str [10] ++ str t) = _
  rw [str_app, str_app]
  rfl
theorem sW_W {x : Slip} (h : Ok x) : SW x := by
  have a := h.user; have b := name_len h.user
  refine ⟨by omega, ?_, by have := h.nodes; omega, by have := h.wall; omega, by have := h.qos; omega, by have := h.cap; omega, by have := h.cap; have := h.inn; omega, by have := h.cap; have := h.out; omega, fun d hd => by have := h.after.2.2 d hd; omega, fun d hd => ?_, fun n hn => ?_, fun n hn => ?_⟩
  · by_cases h0 : x.cap = 0
    · rw [h.pool0 h0]; decide
    · have := name_len (h.pool1 h0); omega
  · obtain ⟨p, q, r, s⟩ := sp.chk_name (h.make d hd).2
    exact ⟨by omega, by omega, by omega, by omega, by omega⟩
  · have := name_len (h.drop.2.2 n hn); omega
  · have := name_len (h.use.2.2 n hn); omega
theorem DW_chk {d : Dir} (h : chk d = true) : DW d := by
  obtain ⟨p, q, r, s⟩ := sp.chk_name h
  exact ⟨by omega, by omega, by omega, by omega, by omega⟩
set_option maxRecDepth 100000 in
set_option maxHeartbeats 8000000 in
theorem stext_no (x : Slip) (g : Gh) (w : World) (h : SR w x g) (hW : SW x) (hL : LaidD w) (hx : ¬ chkS x = true) : Calls Tryz.prog 12 #[sV x g] w (STextT x w) := by
  have HE := Lib.hid (show sE x = 150 ∧ tS x = [] by unfold sE tS; rw [if_neg hx, if_neg hx]; exact ⟨rfl, rfl⟩)
  obtain ⟨wb, hwb⟩ : ∃ wb, w.alloc (.cells (scs x g) 27) = wb := ⟨_, rfl⟩
  have hbx : BoxA wb w.heap.size 27 (scs x g) := by rw [← hwb]; exact BoxA.new _ _ _
  have hB1 : Below w.heap.size w wb := by rw [← hwb]; exact (Below.refl _ _).alloc (Nat.le_refl _) _
  have HB1 := Lib.hid hB1
  have HWB := Lib.hid hwb
  have HCH := Lib.hid (Check_slip x g wb (h.next hB1) hW (hL.next hB1))
  rw [HE.out.1] at HCH
  obtain ⟨c0, c1, c2, c3, c4, c5, c6, c7, c8, c9, c10, c11, clt⟩ := cel_box hbx
  clear h hW hL hx hB1 hwb hbx
  obtain ⟨va, vm, vd, vu⟩ := g
  unfold sV scs at *
  dsimp only at *
  go_enter Tryz.func12, Tryz.ntmps12
  go_upto_region 1 with fail
  rw [HWB.out]
  go_wp2_with (go_at_call 14; ((with_reducible refine HCH.out.mono ?_); rintro e w1 ⟨rfl, hb⟩); have A1 := Lib.hid hb; clear hb)
  go_ret2
  exact ⟨by rw [HE.out.1, HE.out.2]; rfl, HB1.out.trans (A1.out.mono HB1.out.size)⟩
set_option maxRecDepth 100000 in
set_option maxHeartbeats 8000000 in
theorem stext_yes (x : Slip) (g : Gh) (w : World) (h : SR w x g) (hL : LaidD w) (hc : chkS x = true) : Calls Tryz.prog 12 #[sV x g] w (STextT x w) := by
  have HE := Lib.hid (show sE x = 0 ∧ tS x = txtS x by unfold sE tS; rw [if_pos hc, if_pos hc]; exact ⟨rfl, rfl⟩)
  have hx := (chkS_iff x).1 hc
  have HOK := Lib.hid hx
  have hW := sW_W hx
  obtain ⟨wb, hwb⟩ : ∃ wb, w.alloc (.cells (scs x g) 27) = wb := ⟨_, rfl⟩
  have hbx : BoxA wb w.heap.size 27 (scs x g) := by rw [← hwb]; exact BoxA.new _ _ _
  have hB1 : Below w.heap.size w wb := by rw [← hwb]; exact (Below.refl _ _).alloc (Nat.le_refl _) _
  have HB1 := Lib.hid hB1
  have HWB := Lib.hid hwb
  have HCE := Lib.hid (fun (W : World) (hb : Below wb.heap.size wb W) => cel_box (hbx.next hb))
  have HL := Lib.hid (fun (W : World) (hb : Below wb.heap.size wb W) => hL.next (hB1.trans (hb.mono hB1.size)))
  have HCH := Lib.hid (Check_slip x g wb (h.next hB1) hW (hL.next hB1))
  rw [HE.out.1] at HCH
  have HFI := Lib.hid (fun (W : World) (hb : Below wb.heap.size wb W) => first_slip x g W ((h.next hB1).next hb) hx (HL.out W hb))
  have HDI := Lib.hid (fun (W : World) (hb : Below wb.heap.size wb W) => directives_any x g W ((h.next hB1).next hb) (by have := hx.makeN.1; rw [List.length_map] at this; omega) (by have := hx.drop.1; omega) (by have := hx.use.1; omega))
  have HT : Hid (tS x = pfx x (dirsP x) (dirsP x).length) := by
    show tS x = _
    rw [HE.out.2]
    unfold pfx
    rw [List.take_length, dirsP_eq hx]
    rfl
  have HM := Lib.hid (show ∀ d ∈ dirsP x, chk d = true ∧ (dtx d).length ≤ 306 from fun d hd => by
    rw [dirsP_eq hx] at hd
    exact ⟨(dirs_mem hx hd), (made_text (dirs_mem hx hd)).len⟩)
  have hll := line1_len hx
  have hcn : (dirsP x).length ≤ 15 := by rw [dirsP_eq hx]; exact dirs_count hx
  have HPX : Hid (∀ k d, (dirsP x)[k]? = some d → pfx x (dirsP x) (k + 1) = pfx x (dirsP x) k ++ 10 :: dtx d) := fun k d hd => pfx_succ x hd
  have HPZ := Lib.hid (pfx_zero x (dirsP x))
  obtain ⟨c0, c1, c2, c3, c4, c5, c6, c7, c8, c9, c10, c11, clt⟩ := cel_box hbx
  unfold STextT
  generalize line1 x = L1 at *
  generalize dirsP x = L at *
  generalize pfx x L = PX at *
  generalize tS x = TX at *
  generalize sE x = se at *
  obtain ⟨n, hn⟩ : ∃ n, L.length = n := ⟨_, rfl⟩
  rw [hn] at HT hcn
  have HN := Lib.hid hn
  clear h hW hL hx hB1 hwb hbx hc hn HOK
  obtain ⟨va, vm, vd, vu⟩ := g
  unfold sV scs at *
  dsimp only at *
  go_enter Tryz.func12, Tryz.ntmps12
  go_upto_region 1 with fail
  rw [HWB.out]
  go_upto_region 5 with (first
    | (go_at_call 14; ((with_reducible refine HCH.out.mono ?_); rintro e w1 ⟨rfl, hb⟩); have A1 := Lib.hid (show Below wb.heap.size wb w1 from hb); obtain ⟨c0, c1, c2, c3, c4, c5, c6, c7, c8, c9, c10, c11, clt⟩ := HCE.out _ A1.out; dsimp only at c0 c1 c2 c3 c4 c5 c6 c7 c8 c9 c10 c11; clear hb)
    | (go_at_call 24; ((with_reducible refine (HFI.out _ A1.out).mono ?_); rintro e w2 ⟨rfl, hb⟩); have A2 := Lib.hid (show Below wb.heap.size wb w2 from A1.out.trans (hb.mono A1.out.size)); obtain ⟨c0, c1, c2, c3, c4, c5, c6, c7, c8, c9, c10, c11, clt⟩ := HCE.out _ A2.out; dsimp only at c0 c1 c2 c3 c4 c5 c6 c7 c8 c9 c10 c11; clear hb)
    | (go_at_call 25; ((with_reducible refine (HDI.out _ A2.out).mono ?_); rintro e w3 ⟨v, rfl, ho, hb⟩); rw [HN.out] at ho; obtain ⟨p, c, hv⟩ := (RdC.form (ApC.rdc (.inr ho))); subst hv; have HO := Lib.hid ho; have A3 := Lib.hid (show Below wb.heap.size wb w3 from A2.out.trans (hb.mono A2.out.size)); clear ho hb))
  have HR := Lib.hid (show RdC w3 (.slice p n c) n (flM L) from ApC.rdc (.inr HO.out))
  clear c0 c1 c2 c3 c4 c5 c6 c7 c8 c9 c10 c11 HO clt
  go_loopw [4, 17] (fun s4 s17 W => ∃ (k : Nat) (t : Tx), s17 = .int .i64 (k : Int) ∧ s4 = .string (str t) ∧ k ≤ n ∧ t.length ≤ 1206 + 307 * k ∧ Aside (t = PX k) ∧ Aside (Below w3.heap.size w3 W)) (fun _ s17 _ => n - (intOf s17).toNat)
  case atStart => exact ⟨0, L1, rfl, rfl, Nat.zero_le _, by omega, HPZ.out.symm, Below.refl _ _⟩
  case round =>
    obtain ⟨k, t, rfl, rfl, hk, htl, ht, hbl⟩ := hrel
    have HTK := Lib.hid (show t = PX k from ht)
    have HBL := Lib.hid (show Below w3.heap.size w3 wr from hbl)
    have HLOW := Lib.hid (A3.out.trans ((show Below w3.heap.size w3 wr from hbl).mono A3.out.size))
    have HTL := Lib.hid htl
    have e1 : (str t).size ≤ 6000 := by rw [str_size]; omega
    clear ht hbl htl
    by_cases hkn : k < n
    · obtain ⟨b, off, hp, hb, hc⟩ := (HR.out.next HBL.out).at_ (size := 5) rfl (by omega)
      subst hp
      obtain ⟨d, hd⟩ : ∃ d, L[k]? = some d := ⟨_, List.getElem?_eq_getElem (by rw [HN.out]; exact hkn)⟩
      obtain ⟨y0, y1, y2, y3, y4⟩ := cellM hc hd
      have hdm := HM.out d (List.mem_of_getElem? hd)
      have HX := Lib.hid hd
      clear hc hd
      go_upto_region 7 with fail
      have hD : BoxA (wr.alloc (.cells #[.int .u8 (d.kind : Nat), .string (str d.name), .string (str d.pool), .int .i64 d.size, .bool d.opn] 51)) wr.heap.size 51 #[.int .u8 (d.kind : Nat), .string (str d.name), .string (str d.pool), .int .i64 d.size, .bool d.opn] := BoxA.new _ _ _
      have hb4 : Below wr.heap.size wr (wr.alloc (.cells #[.int .u8 (d.kind : Nat), .string (str d.name), .string (str d.pool), .int .i64 d.size, .bool d.opn] 51)) := (Below.refl _ _).alloc (Nat.le_refl _) _
      generalize wr.alloc (.cells #[.int .u8 (d.kind : Nat), .string (str d.name), .string (str d.pool), .int .i64 d.size, .bool d.opn] 51) = w4 at *
      have z0 := hD.cell 0 _
      have z1 := hD.cell 1 _
      have z2 := hD.cell 2 _
      have z3 := hD.cell 3 _
      have z4 := hD.cell 4 _
      have zl := hD.lt
      have HB4 := Lib.hid (HBL.out.trans (hb4.mono HBL.out.size))
      have HTT := Lib.hid (Text_any d (DW_chk hdm.1) w4 (HL.out _ (HLOW.out.trans (hb4.mono HLOW.out.size))))
      have HTD := Lib.hid (show tT d = dtx d ∧ cE d = 0 by unfold tT cE; rw [if_pos hdm.1, if_pos hdm.1]; exact ⟨rfl, rfl⟩)
      have HDL := Lib.hid hdm.2
      have e2 : (str (dtx d)).size ≤ 306 := by rw [str_size]; exact hdm.2
      generalize wr.heap.size = bd at *
      clear hD hb4 y0 y1 y2 y3 y4 hb hdm
      unfold dV dcs TextT at HTT
      rw [HTD.out.1, HTD.out.2] at HTT
      go_wp2_with (go_at_call 26; ((with_reducible refine HTT.out.mono ?_); rintro e w5 ⟨rfl, hb5⟩); have HB5 := Lib.hid hb5; clear hb5)
      go_roundw
      case rel =>
        refine ⟨k + 1, t ++ 10 :: dtx d, by go_num, by rw [← lf_str], by omega, ?_, ?_, HB4.out.trans (HB5.out.mono HB4.out.size)⟩
        · have := HTL.out
          have := HDL.out
          simp
          omega
        · show _ = PX (k + 1)
          rw [HPX.out k d HX.out, ← HTK.out]
      case measure => simp [intOf]; omega
    · obtain rfl : k = n := by omega
      have HTF := Lib.hid (show t = TX by rw [HTK.out, HT.out])
      go_wp2
      go_ret2
      exact ⟨by rw [← HTF.out, HE.out.1]; rfl, HB1.out.trans (HLOW.out.mono HB1.out.size)⟩
theorem sText_any (x : Slip) (g : Gh) (w : World) (h : SR w x g) (hW : SW x) (hL : LaidD w) : Calls Tryz.prog 12 #[sV x g] w (STextT x w) := by
  by_cases hc : chkS x = true
  · exact stext_yes x g w h hL hc
  · exact stext_no x g w h hW hL hc
end Go.Proofs.YtpmghgfgbkncoaaGreatDoor.gn
end
