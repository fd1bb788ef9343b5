/- The contract of order.Text. -/
import Derived.Test.YtekcjfdllclphaaGreatDoorMOrK
import Derived.Test.YtekcjfdllclphaaGreatDoorMOrR
import Derived.Test.YtekcjfdllclphaaGreatDoorMOrT
section
set_option linter.unusedVariables false
set_option linter.unusedSimpArgs false
namespace Go.Proofs.YtekcjfdllclphaaGreatDoor.gn
open Go.RowKit
open Go.Proofs.YtekcjfdllclphaaGreatDoor.un
open Go.Proofs.YtekcjfdllclphaaGreatDoor.di
open Go.Proofs.YtekcjfdllclphaaGreatDoor.sp (Slip chkS chkS_iff txtS txtS_len)
open Go.Proofs.YtekcjfdllclphaaGreatDoor.od (Ord OkO okO stO fsO keysO chkO chkO_iff txtO pfO pfO_zero pfO_succ pfO_all wordO fs_len)

/-- The text that is told. -/
def oT (o : Ord) : Tx := if chkO o = true then txtO o else []
def OTextT (o : Ord) (w : World) : Ending → World → Prop := Told (.tuple #[.string (str (oT o)), .int .i64 (oE o)]) w
theorem sp_str (t k v : Tx) : str t ++ ((({ data := #[32] } : ByteArray) ++ str k ++ { data := #[61] }) ++ str v) = str (t ++ 32 :: (k ++ 61 :: v)) := by
  show str t ++ (str [32] ++ str k ++ str [61] ++ str v) = _
  rw [str_app, str_app, str_app, str_app]
  simp
theorem OW_ok {o : Ord} (h : OkO o) : OW o := by
  have hj : -9223372036854775808 ≤ o.job ∧ o.job ≤ 9223372036854775807 := by
    cases hh : od.hasJ o.kind with
    | true => have := h.job1 hh; omega
    | false => have := h.job0 hh; omega
  have hn : -9223372036854775808 ≤ o.n ∧ o.n ≤ 9223372036854775807 := by
    cases hh : od.hasN o.kind with
    | true => have := h.n1 hh; have := od.hi_top o.kind; omega
    | false => have := h.n0 hh; omega
  have hs : -9223372036854775808 ≤ o.size ∧ o.size ≤ 9223372036854775807 := by
    by_cases hh : o.kind = 15
    · have := h.size1 hh; omega
    · have := h.size0 hh; omega
  have hu : o.name.length ≤ 32 ∧ o.user.length ≤ 32 := by
    cases hh : od.hasU o.kind with
    | true => exact ⟨name_len (h.name1 hh).1, name_len (h.name1 hh).2⟩
    | false => rw [(h.name0 hh).1, (h.name0 hh).2]; exact ⟨Nat.zero_le _, Nat.zero_le _⟩
  have hp : o.pool.length ≤ 32 := by
    cases hh : od.hasP o.kind with
    | true => exact name_len (h.pool1 hh)
    | false => rw [h.pool0 hh]; exact Nat.zero_le _
  exact ⟨hj, hn, hs, by omega, by omega, by omega, by have := h.kind; omega⟩
set_option maxRecDepth 100000 in
set_option maxHeartbeats 8000000 in
theorem otext_no (o : Ord) (g : Gh) (w : World) (h : SR w o.slip g) (hW : SW o.slip) (hw : OW o) (hL : LaidD w) (hx : ¬ chkO o = true) : Calls Tryz.prog 12 #[oV o g] w (OTextT o w) := by
  have HE := Lib.hid (show oE o = 160 ∧ oT o = [] by unfold oE oT; rw [if_neg hx, if_neg hx]; exact ⟨rfl, rfl⟩)
  obtain ⟨wb, hwb⟩ : ∃ wb, w.alloc (.cells (ocs o g) 29) = wb := ⟨_, rfl⟩
  have hob : OrdB wb w.heap.size o g := by rw [← hwb]; exact BoxA.new _ _ _
  have hB1 : Below w.heap.size w wb := by rw [← hwb]; exact (Below.refl _ _).alloc (Nat.le_refl _) _
  have HB1 := Lib.hid hB1
  have HWB := Lib.hid hwb
  have HOB := Lib.hid hob
  have HCH := Lib.hid (Check_ord o g wb (h.next hB1) hW hw (hL.next hB1))
  rw [HE.out.1] at HCH
  unfold oV at HCH
  clear h hW hw hL hx hB1 hwb hob
  go_enter Tryz.func12, Tryz.ntmps12
  apply wp_seq_k
  intro K hK
  apply wp_region_lit
  refine Great.wpList_boxTo rfl _ _ rfl _ rfl w.heap.size rfl (ocs o g) rfl ?_
  rw [HWB.out]
  go_wp2_with (first
    | (refine wpList_load_row rfl _ _ rfl w.heap.size rfl _ _ _ _ HOB.out Tryz.underlying29 rfl (by kernel_rfl) ?_)
    | (go_at_call 14; ((with_reducible refine HCH.out.mono ?_); rintro e w1 ⟨rfl, hb⟩); have A1 := Lib.hid hb; clear hb))
  go_ret2
  exact ⟨by rw [HE.out.1, HE.out.2]; rfl, HB1.out.trans (A1.out.mono HB1.out.size)⟩
/-- How Text stands ahead of field i. -/
structure TS (w : World) (B : Nat) (o : Ord) (g : Gh) (v : Value) (L : List FE) (i : Nat) (t : Tx) (W : World) : Prop where
  tx : t = pfO o i
  own : W.ownsRow B 67 3 v L.length (flF L)
  ob : OrdB W w.heap.size o g
  low : Below w.heap.size w W
theorem TS.next {w W W' : World} {B : Nat} {o : Ord} {g : Gh} {v : Value} {L : List FE} {i : Nat} {t : Tx} (h : TS w B o g v L i t W) (hb : Below W.heap.size W W') : TS w B o g v L i t W' :=
  ⟨h.tx, own_same h.own fun b hb2 => hb.block b (World.ownsRow.lt h.own b hb2).2, h.ob.next hb, h.low.trans (hb.mono h.low.size)⟩
set_option maxRecDepth 100000 in
set_option maxHeartbeats 16000000 in
theorem otext_yes (o : Ord) (g : Gh) (w : World) (h : SR w o.slip g) (hW : SW o.slip) (hL : LaidD w) (hc : chkO o = true) : Calls Tryz.prog 12 #[oV o g] w (OTextT o w) := by
  have HE := Lib.hid (show oE o = 0 ∧ oT o = txtO o by unfold oE oT; rw [if_pos hc, if_pos hc]; exact ⟨rfl, rfl⟩)
  have hok := (chkO_iff o).1 hc
  have hw := OW_ok hok
  have HOK := Lib.hid hok
  have HKD := Lib.hid hok.kind
  obtain ⟨wb, hwb⟩ : ∃ wb, w.alloc (.cells (ocs o g) 29) = wb := ⟨_, rfl⟩
  have hob : OrdB wb w.heap.size o g := by rw [← hwb]; exact BoxA.new _ _ _
  have hB1 : Below w.heap.size w wb := by rw [← hwb]; exact (Below.refl _ _).alloc (Nat.le_refl _) _
  have HB1 := Lib.hid hB1
  have HWB := Lib.hid hwb
  have HOB := Lib.hid hob
  have HL := Lib.hid (fun (X : World) (hb : Below w.heap.size w X) => hL.next hb)
  have HSR := Lib.hid (fun (X : World) (hb : Below w.heap.size w X) => h.next hb)
  have HOW := Lib.hid hw
  have HSW := Lib.hid hW
  have HCH := Lib.hid (Check_ord o g wb (h.next hB1) hW hw (hL.next hB1))
  have HF := Lib.hid (fun (X : World) => ofind_any o.kind hw.kind X)
  unfold FindO rowV2 at HF
  rw [decide_eq_true hok.kind] at HF
  rw [HE.out.1] at HCH
  unfold oV at HCH
  have hpl := (od.word_plain hok.kind).2.2
  clear h hW hw hL hc hB1 hwb hob hok
  go_enter Tryz.func12, Tryz.ntmps12
  apply wp_seq_k
  intro K hK
  apply wp_region_lit
  refine Great.wpList_boxTo rfl _ _ rfl _ rfl w.heap.size rfl (ocs o g) rfl ?_
  rw [HWB.out]
  go_upto_region 3 with (first
    | (refine wpList_load_row rfl _ _ rfl w.heap.size rfl _ _ _ _ HOB.out Tryz.underlying29 rfl (by kernel_rfl) ?_)
    | (go_at_call 14; ((with_reducible refine HCH.out.mono ?_); rintro e w1 ⟨rfl, hb⟩); have A1 := Lib.hid hb; have HO1 := Lib.hid (HOB.out.next hb); have hlt := HO1.out.lt; have c0 : w1.cell? ⟨w.heap.size, 0, none⟩ = some (.int .u8 (o.kind : Nat)) := BoxA.cell HO1.out 0 _; clear hb))
  go_upto_region 4 with (first
    | (go_at_call 28; ((with_reducible refine (HF.out _).mono ?_); rintro e w2 ⟨rfl, hb⟩); have A2 := Lib.hid hb; clear hb)
    | (refine wpList_store_row rfl _ _ _ rfl w2.heap.size #[.string (str (wordO o.kind)), .string (str (lettersO o.kind))] rfl rfl _ _ (BoxA.new w2 _ _) (by kernel_rfl) rfl (by kernel_rfl) ?_))
  obtain ⟨w3, hw3, hrow, hl3⟩ := box_end w2 #[.string { data := #[] }, .string { data := #[] }] #[.string (str (wordO o.kind)), .string (str (lettersO o.kind))] 60
  rw [hw3]
  have HO3 := Lib.hid ((HO1.out.next A2.out).next hl3)
  have HLOW3 := Lib.hid ((HB1.out.trans (A1.out.mono HB1.out.size)).trans ((A2.out.trans (hl3.mono A2.out.size)).mono (Nat.le_trans HB1.out.size A1.out.size)))
  have r0 := hrow.cell 0 _
  have rl := hrow.lt
  clear hw3 hrow hl3 c0 hlt
  generalize w2.heap.size = R at *
  have HF1 := Lib.hid (ofields_any w.heap.size o g w3 HO3.out HOW.out (HL.out _ HLOW3.out).u)
  unfold FieldsT at HF1
  go_upto_region 6 with (go_at_call 29; ((with_reducible refine HF1.out.mono ?_); rintro e w4 ⟨v, L, rfl, hfl, hown, hb⟩); obtain ⟨p, c, hv⟩ := (RdC.form (ApC.rdc (.inr hown))); have HM := Lib.hid hfl.map; have HTS0 := Lib.hid (show TS w w3.heap.size o g v L 0 (wordO o.kind) w4 from ⟨(pfO_zero o).symm, hown, HO3.out.next hb, HLOW3.out.trans (hb.mono HLOW3.out.size)⟩); subst hv; clear hfl hown hb)
  obtain ⟨n, hn⟩ : ∃ n, L.length = n := ⟨_, rfl⟩
  have HN := Lib.hid hn
  have hn5 : n ≤ 8 := by
    have := od.fs_count o
    rw [← HM.out, List.length_map] at this
    omega
  rw [hn] at HTS0 ⊢
  clear hn r0 rl
  go_loopw [6, 24] (fun s6 s24 W => ∃ (i : Nat) (t : Tx), s6 = .string (str t) ∧ s24 = .int .i64 (i : Int) ∧ i ≤ n ∧ t.length ≤ 7 + 46 * i ∧ Aside (TS w w3.heap.size o g (.slice p n c) L i t W)) (fun _ s24 _ => n - (intOf s24).toNat)
  case atStart => exact ⟨0, _, rfl, rfl, Nat.zero_le _, by omega, HTS0.out⟩
  case round =>
    obtain ⟨i, t, rfl, rfl, hi, htl, hts⟩ := hrel
    have HR := Lib.hid (show TS w w3.heap.size o g (.slice p n c) L i t wr from hts)
    have e1 : (str t).size ≤ 500 := by rw [str_size]; omega
    clear hts HTS0
    by_cases hin : i < n
    · have hrd := ApC.rdc (.inr HR.out.own)
      rw [HN.out] at hrd
      obtain ⟨b, off, hp, hb, hcc⟩ := RdC.at_ (size := 3) hrd rfl (by omega)
      subst hp
      obtain ⟨f, hf⟩ : ∃ f, L[i]? = some f := ⟨_, List.getElem?_eq_getElem (by rw [HN.out]; exact hin)⟩
      obtain ⟨y0, y1, y2⟩ := cellF hcc hf
      have hat : (fsO o)[i]? = some (f.key, f.text) := by rw [← HM.out, List.getElem?_map, hf]; rfl
      have HPS := Lib.hid (pfO_succ hat)
      have hlf := fs_len HOK.out (List.mem_of_getElem? hat)
      have hle : f.key.length + 1 + f.text.length ≤ 45 := by
        have e : (di.wtx (f.key, f.text)).length = f.key.length + 1 + f.text.length := by
          show (f.key ++ 61 :: f.text).length = _
          rw [List.length_append, List.length_cons]; omega
        rw [← e]; exact hlf
      clear hrd hcc hf hat hlf
      obtain ⟨key, tx, fn, cp⟩ := f
      dsimp only at y0 y1 y2 HPS hle
      have HLE := Lib.hid hle
      have e2 : (str key).size ≤ 45 := by rw [str_size]; omega
      have e3 : (str tx).size ≤ 45 := by rw [str_size]; omega
      go_upto_region 8 with (refine wpList_store_row rfl _ _ _ rfl wr.heap.size #[.string (str key), .string (str tx), .func (.func fn) #[] cp] rfl rfl _ _ (BoxA.new wr _ _) (by kernel_rfl) rfl (by kernel_rfl) ?_)
      obtain ⟨w5, hw5, hD, hb4⟩ := box_end wr #[.string { data := #[] }, .string { data := #[] }, .nilFunc] #[.string (str key), .string (str tx), .func (.func fn) #[] cp] 67
      rw [hw5]
      have HR5 := Lib.hid (HR.out.next hb4)
      generalize wr.heap.size = bd at *
      have z0 := hD.cell 0 _
      have z1 := hD.cell 1 _
      have zl := hD.lt
      clear hw5 hD hb4 y0 y1 y2 hb
      go_wp2
      go_roundw
      case rel => exact ⟨i + 1, t ++ 32 :: (key ++ 61 :: tx), by rw [← sp_str], by go_num, by omega, by have := HLE.out; simp; omega, ⟨by rw [HPS.out, ← HR5.out.tx]; rfl, HR5.out.own, HR5.out.ob, HR5.out.low⟩⟩
      case measure => simp [intOf]; omega
    · obtain rfl : i = n := by omega
      have htx := HR.out.tx
      have hnf : (fsO o).length = i := by rw [← HM.out, List.length_map, HN.out]
      rw [← hnf] at htx
      have HTX := Lib.hid htx
      have c0 : wr.cell? ⟨w.heap.size, 0, none⟩ = some (.int .u8 (o.kind : Nat)) := BoxA.cell HR.out.ob 0 _
      have hlt := HR.out.ob.lt
      by_cases h2 : o.kind = 2
      · have HTO := Lib.hid ((pfO_all (o := o)).1 h2)
        have hsl := HOK.out.slip1 h2
        have HCHK := Lib.hid ((chkS_iff _).2 hsl)
        obtain ⟨-, -, -, -, -, -, -, -, t8, t9, t10, t11, t12, t13, t14, t15, t16, t17, t18, t19, -⟩ := ocel HR.out.ob
        have HST := Lib.hid (sText_any o.slip g wr (HSR.out _ HR.out.low) HSW.out (HL.out _ HR.out.low))
        unfold STextT at HST
        rw [show tS o.slip = txtS o.slip by unfold tS; rw [if_pos HCHK.out], show sE o.slip = 0 by unfold sE; rw [if_pos HCHK.out]] at HST
        have e4 : (str (txtS o.slip)).size ≤ 6000 := by rw [str_size]; have := txtS_len hsl; omega
        rw [h2] at c0
        obtain ⟨va, vm, vd, vu⟩ := g
        unfold sV scs at HST
        dsimp only at HST t8 t9 t10 t11 t12 t13 t14 t15 t16 t17 t18 t19
        clear htx hnf hsl h2
        generalize txtS o.slip = ts at *
        go_wp2_with (go_at_call 30; ((with_reducible refine HST.out.mono ?_); rintro e w8 ⟨rfl, hb⟩); have A8 := Lib.hid hb; clear hb)
        go_ret2
        exact ⟨by rw [HE.out.1, HE.out.2, HTO.out, ← HTX.out, ← lf_str]; rfl, HR.out.low.trans (A8.out.mono HR.out.low.size)⟩
      · have HTO := Lib.hid ((pfO_all (o := o)).2 h2)
        have q2 : ((o.kind : Int) == 2) = false := by rw [beq_eq_false_iff_ne]; omega
        have q3 : ¬ o.kind = 2 := h2
        clear htx hnf h2
        go_wp2
        go_ret2
        exact ⟨by rw [HE.out.1, HE.out.2, HTO.out, ← HTX.out]; rfl, HR.out.low⟩
theorem Text_ord (o : Ord) (g : Gh) (w : World) (h : SR w o.slip g) (hW : SW o.slip) (hw : OW o) (hL : LaidD w) : Calls Tryz.prog 12 #[oV o g] w (OTextT o w) := by
  by_cases hc : chkO o = true
  · exact otext_yes o g w h hW hL hc
  · exact otext_no o g w h hW hw hL hc
end Go.Proofs.YtekcjfdllclphaaGreatDoor.gn
end
section
set_option linter.unusedVariables false
set_option linter.unusedSimpArgs false
namespace Go.Proofs.YtekcjfdllclphaaGreatDoor.gn
open Go.RowKit
open Go.Proofs.YtekcjfdllclphaaGreatDoor.un
open Go.Proofs.YtekcjfdllclphaaGreatDoor.di
open Go.Proofs.YtekcjfdllclphaaGreatDoor.sp (Slip)
open Go.Proofs.YtekcjfdllclphaaGreatDoor.od (Ord oread chkO txtO o1T o2T o3T o4T o1_read o2_read o3_read o4_read o2_chk o2_txt)

/-- What a Parse answers, its answer named. -/
def OPaA (o : Ord) (e l : Int) (w : World) (en : Ending) (w' : World) : Prop := Below w.heap.size w w' ∧ ∃ g, en = .returned (.tuple #[oV o g, .agg #[.int .i64 e, .int .i64 l]]) ∧ SR w' o.slip g
theorem oparse_as {s : Tx} (hm : s.length ≤ 100000) {o : Ord} {e l : Int} (h1 : (oread s).1 = o) (h2 : (oread s).2.1 = e) (h3 : ((oread s).2.2 : Int) = l) (w : World) (hL : LaidD w) : Calls Tryz.prog 8 #[.string (str s)] w (OPaA o e l w) := by
  have := Parse_ord s hm w hL
  unfold OPaT at this
  rw [h1, h2, h3] at this
  exact this
theorem sW_zero : SW Slip.zero := by
  have z : -9223372036854775808 ≤ (0 : Int) ∧ (0 : Int) ≤ 9223372036854775807 := by decide
  exact ⟨Nat.zero_le _, Nat.zero_le _, z, z, z, z, z, z, (fun d h => by cases h), (fun d h => by cases h), (fun d h => by cases h), (fun d h => by cases h)⟩
set_option maxRecDepth 100000 in
set_option maxHeartbeats 16000000 in
theorem ohead_yes (w : World) (hL : LaidD w) : Calls Tryz.prog 7 #[] w (Told (.bool true) w) := by
  have HL := Lib.hid (fun (W : World) (hb : Below w.heap.size w W) => hL.next hb)
  have HP1 : Hid (∀ (W : World), Below w.heap.size w W → Calls Tryz.prog 8 #[.string ({ data := #[116, 105, 99, 107, 32, 110, 61, 53] } : ByteArray)] W (OPaA od.o1O 0 0 W)) := fun W hb => oparse_as (s := o1T) (by decide) (by rw [o1_read]) (by rw [o1_read]) (by rw [o1_read]; rfl) W (HL.out W hb)
  have HP2 : Hid (∀ (W : World), Below w.heap.size w W → Calls Tryz.prog 8 #[.string ({ data := ([109, 97, 107, 101, 32, 117, 115, 101, 114, 61, 97, 32, 110, 97, 109, 101, 61, 98, 32, 99, 97, 112, 97, 99, 105, 116, 121, 61, 49, 75, 105, 66, 32, 112].append [111, 111, 108, 61, 112, 32, 97, 99, 99, 101, 115, 115, 61, 112, 117, 98, 108, 105, 99]).toArray } : ByteArray)] W (OPaA od.o2O 0 0 W)) := fun W hb => oparse_as (s := o2T) (by decide) (by rw [o2_read]) (by rw [o2_read]) (by rw [o2_read]; rfl) W (HL.out W hb)
  have HP3 : Hid (∀ (W : World), Below w.heap.size w W → Calls Tryz.prog 8 #[.string ({ data := #[101, 110, 100, 32, 106, 111, 98, 61, 51, 32, 114, 101, 115, 117, 108, 116, 61, 109, 97, 121, 98, 101] } : ByteArray)] W (OPaA (oread o3T).1 160 1 W)) := fun W hb => oparse_as (s := o3T) (by decide) rfl (by rw [o3_read]) (by rw [o3_read]; rfl) W (HL.out W hb)
  have HP4 : Hid (∀ (W : World), Below w.heap.size w W → Calls Tryz.prog 8 #[.string ({ data := #[115, 117, 98, 109, 105, 116, 10, 106, 111, 98, 32, 117, 115, 101, 114, 61, 97] } : ByteArray)] W (OPaA (oread o4T).1 150 2 W)) := fun W hb => oparse_as (s := o4T) (by decide) rfl (by rw [o4_read]) (by rw [o4_read]; rfl) W (HL.out W hb)
  clear hL
  generalize (oread o3T).1 = x3 at *
  generalize (oread o4T).1 = x4 at *
  go_enter Tryz.func7, Tryz.ntmps7
  go_upto_region 2 with (first
    | (go_at_call 8; ((refine (HP1.out _ (Below.refl _ _)).mono ?_); rintro e w1 ⟨hb, g1, rfl, hs⟩); have HB1 := Lib.hid hb; have HS1 := Lib.hid hs; clear hb hs)
    | (refine wpList_store_row rfl _ _ _ rfl w1.heap.size (ocs od.o1O g1) rfl rfl _ _ (boxes_a w1 _ _ _ _) (by kernel_rfl) rfl (ocs_one HS1.out) ?_)
    | (refine wpList_store_row rfl _ _ _ rfl (w1.heap.size + 1) #[.int .i64 0, .int .i64 0] rfl rfl _ _ (boxes_b w1 _ _ _ _ _) (by kernel_rfl) rfl (by kernel_rfl) ?_))
  obtain ⟨W1, hW1, ba1, bb1, bl1⟩ := boxes_end w1 #[.int .u8 0, .int .i64 0, .int .i64 0, .string { data := #[] }, .string { data := #[] }, .string { data := #[] }, .int .i64 0, .bool false, .string { data := #[] }, .int .i64 0, .int .i64 0, .int .i64 0, .slice none 0 0, .int .i64 0, .int .i64 0, .int .i64 0, .string { data := #[] }, .slice none 0 0, .slice none 0 0, .slice none 0 0] #[.int .i64 0, .int .i64 0] (ocs od.o1O g1) #[.int .i64 0, .int .i64 0] 29 32
  rw [hW1]
  clear hW1
  have HY1 := Lib.hid (HB1.out.trans (bl1.mono HB1.out.size))
  have HZ1 := Lib.hid (HY1.out)
  have BA1 := Lib.hid ba1
  have BB1 := Lib.hid bb1
  have SA1 := Lib.hid (HS1.out.next bl1)
  clear ba1 bb1 bl1
  generalize w1.heap.size = n1 at *
  go_upto_region 3 with (first
    | (go_at_call 8; ((refine (HP2.out _ HZ1.out).mono ?_); rintro e w2 ⟨hb, g2, rfl, hs⟩); have HB2 := Lib.hid hb; have HS2 := Lib.hid hs; clear hb hs)
    | (refine wpList_store_row rfl _ _ _ rfl w2.heap.size (ocs od.o2O g2) rfl rfl _ _ (boxes_a w2 _ _ _ _) (by kernel_rfl) rfl (ocs_one HS2.out) ?_)
    | (refine wpList_store_row rfl _ _ _ rfl (w2.heap.size + 1) #[.int .i64 0, .int .i64 0] rfl rfl _ _ (boxes_b w2 _ _ _ _ _) (by kernel_rfl) rfl (by kernel_rfl) ?_))
  obtain ⟨W2, hW2, ba2, bb2, bl2⟩ := boxes_end w2 #[.int .u8 0, .int .i64 0, .int .i64 0, .string { data := #[] }, .string { data := #[] }, .string { data := #[] }, .int .i64 0, .bool false, .string { data := #[] }, .int .i64 0, .int .i64 0, .int .i64 0, .slice none 0 0, .int .i64 0, .int .i64 0, .int .i64 0, .string { data := #[] }, .slice none 0 0, .slice none 0 0, .slice none 0 0] #[.int .i64 0, .int .i64 0] (ocs od.o2O g2) #[.int .i64 0, .int .i64 0] 29 32
  rw [hW2]
  clear hW2
  have HY2 := Lib.hid (HB2.out.trans (bl2.mono HB2.out.size))
  have HZ2 := Lib.hid (HZ1.out.trans (HY2.out.mono HZ1.out.size))
  have BA2 := Lib.hid ba2
  have BB2 := Lib.hid bb2
  have SA2 := Lib.hid (HS2.out.next bl2)
  clear ba2 bb2 bl2
  generalize w2.heap.size = n2 at *
  go_upto_region 4 with (first
    | (go_at_call 8; ((refine (HP3.out _ HZ2.out).mono ?_); rintro e w3 ⟨hb, g3, rfl, hs⟩); have HB3 := Lib.hid hb; have HS3 := Lib.hid hs; clear hb hs)
    | (refine wpList_store_row rfl _ _ _ rfl w3.heap.size (ocs x3 g3) rfl rfl _ _ (boxes_a w3 _ _ _ _) (by kernel_rfl) rfl (ocs_one HS3.out) ?_)
    | (refine wpList_store_row rfl _ _ _ rfl (w3.heap.size + 1) #[.int .i64 160, .int .i64 1] rfl rfl _ _ (boxes_b w3 _ _ _ _ _) (by kernel_rfl) rfl (by kernel_rfl) ?_))
  obtain ⟨W3, hW3, ba3, bb3, bl3⟩ := boxes_end w3 #[.int .u8 0, .int .i64 0, .int .i64 0, .string { data := #[] }, .string { data := #[] }, .string { data := #[] }, .int .i64 0, .bool false, .string { data := #[] }, .int .i64 0, .int .i64 0, .int .i64 0, .slice none 0 0, .int .i64 0, .int .i64 0, .int .i64 0, .string { data := #[] }, .slice none 0 0, .slice none 0 0, .slice none 0 0] #[.int .i64 0, .int .i64 0] (ocs x3 g3) #[.int .i64 160, .int .i64 1] 29 32
  rw [hW3]
  clear hW3
  have HY3 := Lib.hid (HB3.out.trans (bl3.mono HB3.out.size))
  have HZ3 := Lib.hid (HZ2.out.trans (HY3.out.mono HZ2.out.size))
  have BA3 := Lib.hid ba3
  have BB3 := Lib.hid bb3
  have SA3 := Lib.hid (HS3.out.next bl3)
  clear ba3 bb3 bl3
  generalize w3.heap.size = n3 at *
  go_upto_region 5 with (first
    | (go_at_call 8; ((refine (HP4.out _ HZ3.out).mono ?_); rintro e w4 ⟨hb, g4, rfl, hs⟩); have HB4 := Lib.hid hb; have HS4 := Lib.hid hs; clear hb hs)
    | (refine wpList_store_row rfl _ _ _ rfl w4.heap.size (ocs x4 g4) rfl rfl _ _ (boxes_a w4 _ _ _ _) (by kernel_rfl) rfl (ocs_one HS4.out) ?_)
    | (refine wpList_store_row rfl _ _ _ rfl (w4.heap.size + 1) #[.int .i64 150, .int .i64 2] rfl rfl _ _ (boxes_b w4 _ _ _ _ _) (by kernel_rfl) rfl (by kernel_rfl) ?_))
  obtain ⟨W4, hW4, ba4, bb4, bl4⟩ := boxes_end w4 #[.int .u8 0, .int .i64 0, .int .i64 0, .string { data := #[] }, .string { data := #[] }, .string { data := #[] }, .int .i64 0, .bool false, .string { data := #[] }, .int .i64 0, .int .i64 0, .int .i64 0, .slice none 0 0, .int .i64 0, .int .i64 0, .int .i64 0, .string { data := #[] }, .slice none 0 0, .slice none 0 0, .slice none 0 0] #[.int .i64 0, .int .i64 0] (ocs x4 g4) #[.int .i64 150, .int .i64 2] 29 32
  rw [hW4]
  clear hW4
  have HY4 := Lib.hid (HB4.out.trans (bl4.mono HB4.out.size))
  have HZ4 := Lib.hid (HZ3.out.trans (HY4.out.mono HZ3.out.size))
  have BA4 := Lib.hid ba4
  have BB4 := Lib.hid bb4
  have SA4 := Lib.hid (HS4.out.next bl4)
  clear ba4 bb4 bl4
  generalize w4.heap.size = n4 at *
  have HD1 := Lib.hid (((BA1.out.next HY2.out).next HY3.out).next HY4.out)
  have HD2 := Lib.hid ((BA2.out.next HY3.out).next HY4.out)
  have HSP1 := Lib.hid (((BB1.out.next HY2.out).next HY3.out).next HY4.out)
  have HSP2 := Lib.hid ((BB2.out.next HY3.out).next HY4.out)
  have HSP3 := Lib.hid (BB3.out.next HY4.out)
  have HSR2 := Lib.hid ((SA2.out.next HY3.out).next HY4.out)
  have HT := Lib.hid (Text_ord od.o2O g2 W4 HSR2.out (sW_zero) (OW_ok ((od.chkO_iff _).1 o2_chk)) (HL.out W4 HZ4.out))
  have HE := Lib.hid (show oE od.o2O = 0 ∧ str (oT od.o2O) = ({ data := ([109, 97, 107, 101, 32, 117, 115, 101, 114, 61, 97, 32, 110, 97, 109, 101, 61, 98, 32, 99, 97, 112, 97, 99, 105, 116, 121, 61, 49, 75, 105, 66, 32, 112].append [111, 111, 108, 61, 112, 32, 97, 99, 99, 101, 115, 115, 61, 112, 117, 98, 108, 105, 99]).toArray } : ByteArray) by unfold oE oT; rw [if_pos o2_chk, if_pos o2_chk, o2_txt]; exact ⟨rfl, rfl⟩)
  unfold OTextT at HT
  rw [HE.out.1, HE.out.2] at HT
  unfold oV at HT
  obtain ⟨U, hU⟩ : ∃ U, str [97] = U := ⟨_, rfl⟩
  obtain ⟨V, hV⟩ : ∃ V, str [98] = V := ⟨_, rfl⟩
  obtain ⟨P, hP⟩ : ∃ P, str [112] = P := ⟨_, rfl⟩
  have qU : (U.toList == [97]) = true := by rw [← hU]; exact (lit_yes rfl).1
  have qU2 : U.toList = [97] := by rw [← hU]; exact (lit_yes rfl).2
  have qV : (V.toList == [98]) = true := by rw [← hV]; exact (lit_yes rfl).1
  have qV2 : V.toList = [98] := by rw [← hV]; exact (lit_yes rfl).2
  have qP : (P.toList == [112]) = true := by rw [← hP]; exact (lit_yes rfl).1
  have qP2 : P.toList = [112] := by rw [← hP]; exact (lit_yes rfl).2
  have HCL := Lib.hid (fun (X : World) (hX : Below W4.heap.size W4 X) => (show (X.cell? ⟨n1, 0, none⟩ = some (.int .u8 1) ∧ X.cell? ⟨n1, 2, none⟩ = some (.int .i64 5)) ∧ (X.cell? ⟨n2, 0, none⟩ = some (.int .u8 15) ∧ X.cell? ⟨n2, 5, none⟩ = some (.string U) ∧ X.cell? ⟨n2, 3, none⟩ = some (.string V) ∧ X.cell? ⟨n2, 6, none⟩ = some (.int .i64 1024) ∧ X.cell? ⟨n2, 4, none⟩ = some (.string P) ∧ X.cell? ⟨n2, 7, none⟩ = some (.bool true)) from
    ⟨⟨BoxA.cell (HD1.out.next hX) 0 _, BoxA.cell (HD1.out.next hX) 2 _⟩, BoxA.cell (HD2.out.next hX) 0 _, by rw [← hU]; exact BoxA.cell (HD2.out.next hX) 5 _, by rw [← hV]; exact BoxA.cell (HD2.out.next hX) 3 _, BoxA.cell (HD2.out.next hX) 6 _, by rw [← hP]; exact BoxA.cell (HD2.out.next hX) 4 _, BoxA.cell (HD2.out.next hX) 7 _⟩))
  have HCS := Lib.hid (fun (X : World) (hX : Below W4.heap.size W4 X) => And.intro (And.intro ((HSP1.out.next hX).cell 0 _) ((HSP1.out.next hX).cell 1 _)) (And.intro (And.intro ((HSP2.out.next hX).cell 0 _) ((HSP2.out.next hX).cell 1 _)) (And.intro (And.intro ((HSP3.out.next hX).cell 0 _) ((HSP3.out.next hX).cell 1 _)) (And.intro ((BB4.out.next hX).cell 0 _) ((BB4.out.next hX).cell 1 _)))))
  have HCB := Lib.hid (fun (X : World) (hX : Below W4.heap.size W4 X) => And.intro (And.intro (HD1.out.next hX).lt (HD2.out.next hX).lt) (And.intro (HSP1.out.next hX).lt (And.intro (HSP2.out.next hX).lt (And.intro (HSP3.out.next hX).lt (BB4.out.next hX).lt))))
  have p1 : ∀ W, (binOp .eql 32 (.agg #[.int .i64 0, .int .i64 0]) (.agg #[.int .i64 0, .int .i64 0])).run Tryz.prog W = .ok (.bool true) W := fun W => spot_eq 0 0 0 0 W
  have p2 : ∀ W, (binOp .eql 32 (.agg #[.int .i64 160, .int .i64 1]) (.agg #[.int .i64 160, .int .i64 1])).run Tryz.prog W = .ok (.bool true) W := fun W => spot_eq 160 1 160 1 W
  have p3 : ∀ W, (binOp .eql 32 (.agg #[.int .i64 150, .int .i64 2]) (.agg #[.int .i64 150, .int .i64 2])).run Tryz.prog W = .ok (.bool true) W := fun W => spot_eq 150 2 150 2 W
  clear hU hV hP
  go_wp2_with (first
    | (refine wpList_load_row rfl _ _ rfl n2 rfl _ _ _ _ HD2.out Tryz.underlying29 rfl (by kernel_rfl) ?_)
    | (go_at_call 12; ((with_reducible refine HT.out.mono ?_); rintro e w5 ⟨rfl, hb⟩); have HB5 := Lib.hid hb; obtain ⟨⟨c0, c2⟩, d0, d5, d3, d6, d4, d7⟩ := HCL.out _ hb; obtain ⟨⟨e0, e1⟩, ⟨e2, e3⟩, ⟨e4, e5⟩, e6, e7⟩ := HCS.out _ hb; obtain ⟨⟨l1, l2⟩, l3, l4, l5, l6⟩ := HCB.out _ hb; clear hb))
  go_ret
  exact ⟨rfl, HZ4.out.trans (HB5.out.mono HZ4.out.size)⟩
end Go.Proofs.YtekcjfdllclphaaGreatDoor.gn
end
