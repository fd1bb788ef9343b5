/- Rows of a slip that may be lie in none of the boxes that hold nothing of it. -/
import Derived.Test.YtekcjfdllclphaaGreatDoorMOrH
import Derived.Test.YtekcjfdllclphaaGreatDoorMOrK
import Derived.Test.YtekcjfdllclphaaGreatDoorMOrR
section
set_option linter.unusedVariables false
set_option linter.unusedSimpArgs false
namespace Go.Proofs.YtekcjfdllclphaaGreatDoor.gn
open Go.RowKit
open Go.Proofs.YtekcjfdllclphaaGreatDoor.un
open Go.Proofs.YtekcjfdllclphaaGreatDoor.di
open Go.Proofs.YtekcjfdllclphaaGreatDoor.sp (Slip Ok)

/-- Cells that are no row's of a slip that may be. -/
structure Dull (cs : Array Value) : Prop where
  a : ∀ (i : Nat) (j : Int) (b : Bool), cs[i]? = some (.int .i64 j) → cs[i + 1]? = some (.bool b) → j < 1
  m : ∀ (i : Nat) (k : Int) (s : ByteArray), cs[i]? = some (.int .u8 k) → cs[i + 1]? ≠ some (.string s)
  s : ∀ (i : Nat) (n : Tx), cs[i]? = some (.string (str n)) → n = []
theorem str_nil {n : Tx} (h : (str n : ByteArray) = { data := #[] }) : n = [] := by
  have := str_size n
  rw [h] at this
  exact List.length_eq_zero_iff.1 this.symm
theorem twenty {i : Nat} (h : i < 20) : i = 0 ∨ i = 1 ∨ i = 2 ∨ i = 3 ∨ i = 4 ∨ i = 5 ∨ i = 6 ∨ i = 7 ∨ i = 8 ∨ i = 9 ∨ i = 10 ∨ i = 11 ∨ i = 12 ∨ i = 13 ∨ i = 14 ∨ i = 15 ∨ i = 16 ∨ i = 17 ∨ i = 18 ∨ i = 19 := by omega
theorem dull_at (k : Nat) : Dull (atO k) := by
  have hs : (atO k).size = 20 := rfl
  have hlt : ∀ {i : Nat} {u : Value}, (atO k)[i]? = some u → i < 20 := fun h => by rw [← hs]; exact (Array.getElem?_eq_some_iff.1 h).1
  refine ⟨fun i j b h1 h2 => ?_, fun i q s h1 h2 => ?_, fun i n h1 => ?_⟩
  · rcases twenty (hlt h1) with rfl | rfl | rfl | rfl | rfl | rfl | rfl | rfl | rfl | rfl | rfl | rfl | rfl | rfl | rfl | rfl | rfl | rfl | rfl | rfl <;> simp [atO] at h1 h2 <;> omega
  · rcases twenty (hlt h1) with rfl | rfl | rfl | rfl | rfl | rfl | rfl | rfl | rfl | rfl | rfl | rfl | rfl | rfl | rfl | rfl | rfl | rfl | rfl | rfl <;> simp [atO] at h1 h2
  · rcases twenty (hlt h1) with rfl | rfl | rfl | rfl | rfl | rfl | rfl | rfl | rfl | rfl | rfl | rfl | rfl | rfl | rfl | rfl | rfl | rfl | rfl | rfl <;> simp [atO] at h1 <;> exact str_nil h1.symm
theorem dull_spot : Dull #[.int .i64 0, .int .i64 0] := by
  have hlt : ∀ {i : Nat} {u : Value}, (#[Value.int .i64 0, Value.int .i64 0] : Array Value)[i]? = some u → i = 0 ∨ i = 1 := fun h => by have := (Array.getElem?_eq_some_iff.1 h).1; simp at this; omega
  refine ⟨fun i j b h1 h2 => ?_, fun i q s h1 h2 => ?_, fun i n h1 => ?_⟩
  · rcases hlt h1 with rfl | rfl <;> simp at h2
  · rcases hlt h1 with rfl | rfl <;> simp at h1
  · rcases hlt h1 with rfl | rfl <;> simp at h1
theorem rdc_apart {W X : World} {R : Nat} {t : TypeId} {cs : Array Value} {v : Value} {n : Nat} {us : List Value} (h : RdC W v n us) (hb : BoxA W R t cs) (hs : W.heap.size ≤ X.heap.size) (hk : ∀ b, b < W.heap.size → b ≠ R → X.heap[b]? = W.heap[b]?)
    (hne : us ≠ [] → ∀ i : Nat, ¬ ∀ (j : Nat) (u : Value), us[j]? = some u → cs[i + j]? = some u) : RdC X v n us := by
  rcases h with h | ⟨b, off, c, e, hlt, hc⟩
  · exact .inl h
  · refine .inr ⟨b, off, c, e, Nat.lt_of_lt_of_le hlt hs, ?_⟩
    by_cases hr : b = R
    · subst hr
      by_cases hu : us = []
      · intro j u hj
        rw [hu] at hj
        cases hj
      · exfalso
        refine hne hu off fun j u hj => ?_
        have := hc j u hj
        simpa [World.cell?, show W.heap[b]? = _ from hb] using this
    · intro j u hj
      exact (World.cell?_of_block (a := ⟨b, off + j, none⟩) (hk b hlt hr)).trans (hc j u hj)
theorem sr_apart {W X : World} {R : Nat} {t : TypeId} {cs : Array Value} {x : Slip} {g : Gh} (h : SR W x g) (hx : Ok x) (hb : BoxA W R t cs) (hd : Dull cs) (hs : W.heap.size ≤ X.heap.size) (hk : ∀ b, b < W.heap.size → b ≠ R → X.heap[b]? = W.heap[b]?) : SR X x g := by
  have key : ∀ (l : List Tx), (∀ n ∈ l, isName n = true) → flS l ≠ [] → ∀ i : Nat, ¬ ∀ (j : Nat) (u : Value), (flS l)[j]? = some u → cs[i + j]? = some u := fun l hl hne i hall => by
    cases l with
    | nil => exact hne rfl
    | cons n r =>
      have h0 := hd.s i n (hall 0 _ rfl)
      have := hl n (by simp)
      rw [h0] at this
      cases this
  refine ⟨rdc_apart h.a hb hs hk fun hne i hall => ?_, rdc_apart h.m hb hs hk fun hne i hall => ?_, rdc_apart h.d hb hs hk (key _ hx.drop.2.2), rdc_apart h.u hb hs hk (key _ hx.use.2.2), h.ca, h.cm, h.cd, h.cu⟩
  · cases ha : x.after with
    | nil => rw [ha] at hne; exact hne rfl
    | cons d r =>
      rw [ha] at hall
      have h1 := hd.a i d.1 d.2 (hall 0 _ rfl) (hall 1 _ rfl)
      have h2 := hx.after.2.2 d (by rw [ha]; simp)
      omega
  · cases hm : x.make with
    | nil => rw [hm] at hne; exact hne rfl
    | cons d r =>
      rw [hm] at hall
      exact hd.m i _ _ (hall 0 _ rfl) (hall 1 _ rfl)
open Go.Proofs.YtekcjfdllclphaaGreatDoor.sp in
theorem lrun_up : ∀ (L : List Tx) (s : Slip × List Nat) (i : Nat) (e : Int × Nat), lrun s i L = .error e → e.2 ≤ i + L.length
  | [], s, i, e, h => by simp [lrun] at h
  | l :: r, s, i, e, h => by
    unfold lrun at h
    split at h
    · split at h
      · cases h; simp
      · split at h
        · cases h; simp
        · have := lrun_up r _ _ _ h
          simp; omega
    · have := lrun_up r _ _ _ h
      simp; omega
open Go.Proofs.YtekcjfdllclphaaGreatDoor.sp in
theorem sread_bd (s : Tx) : (sread s).2.2 ≤ s.length + 3 := by
  unfold sread
  split
  · simp
  · split
    · simp
    · next l ws hc =>
      have hl := cuts_len 10 s
      rw [hc] at hl
      simp at hl
      split
      · simp
      · split
        · next e he =>
          have := lrun_up _ _ _ _ he
          dsimp only
          omega
        · split
          · simp
          · dsimp only; omega
/-- An order of nothing is stored, cell by cell. -/
def put20 (W : World) (b : Nat) : World := ((((((((((((((((((((W.setCell ⟨b, 0, none⟩ (.int .u8 0)).setCell ⟨b, 1, none⟩ (.int .i64 0)).setCell ⟨b, 2, none⟩ (.int .i64 0)).setCell ⟨b, 3, none⟩ (.string { data := #[] })).setCell ⟨b, 4, none⟩ (.string { data := #[] })).setCell ⟨b, 5, none⟩ (.string { data := #[] })).setCell ⟨b, 6, none⟩ (.int .i64 0)).setCell ⟨b, 7, none⟩ (.bool false)).setCell ⟨b, 8, none⟩ (.string { data := #[] })).setCell ⟨b, 9, none⟩ (.int .i64 0)).setCell ⟨b, 10, none⟩ (.int .i64 0)).setCell ⟨b, 11, none⟩ (.int .i64 0)).setCell ⟨b, 12, none⟩ (.slice none 0 0)).setCell ⟨b, 13, none⟩ (.int .i64 0)).setCell ⟨b, 14, none⟩ (.int .i64 0)).setCell ⟨b, 15, none⟩ (.int .i64 0)).setCell ⟨b, 16, none⟩ (.string { data := #[] })).setCell ⟨b, 17, none⟩ (.slice none 0 0)).setCell ⟨b, 18, none⟩ (.slice none 0 0)).setCell ⟨b, 19, none⟩ (.slice none 0 0))
theorem put20_eq : ((((((((((((((((((((zO.setIfInBounds 0 (.int .u8 0)).setIfInBounds 1 (.int .i64 0)).setIfInBounds 2 (.int .i64 0)).setIfInBounds 3 (.string { data := #[] })).setIfInBounds 4 (.string { data := #[] })).setIfInBounds 5 (.string { data := #[] })).setIfInBounds 6 (.int .i64 0)).setIfInBounds 7 (.bool false)).setIfInBounds 8 (.string { data := #[] })).setIfInBounds 9 (.int .i64 0)).setIfInBounds 10 (.int .i64 0)).setIfInBounds 11 (.int .i64 0)).setIfInBounds 12 (.slice none 0 0)).setIfInBounds 13 (.int .i64 0)).setIfInBounds 14 (.int .i64 0)).setIfInBounds 15 (.int .i64 0)).setIfInBounds 16 (.string { data := #[] })).setIfInBounds 17 (.slice none 0 0)).setIfInBounds 18 (.slice none 0 0)).setIfInBounds 19 (.slice none 0 0)) = zO := by kernel_rfl
theorem put20_box {W : World} {b : Nat} {t : TypeId} (h : BoxA W b t zO) : BoxA (put20 W b) b t zO := by
  have := (BoxA.set (BoxA.set (BoxA.set (BoxA.set (BoxA.set (BoxA.set (BoxA.set (BoxA.set (BoxA.set (BoxA.set (BoxA.set (BoxA.set (BoxA.set (BoxA.set (BoxA.set (BoxA.set (BoxA.set (BoxA.set (BoxA.set (BoxA.set h 0 (.int .u8 0)) 1 (.int .i64 0)) 2 (.int .i64 0)) 3 (.string { data := #[] })) 4 (.string { data := #[] })) 5 (.string { data := #[] })) 6 (.int .i64 0)) 7 (.bool false)) 8 (.string { data := #[] })) 9 (.int .i64 0)) 10 (.int .i64 0)) 11 (.int .i64 0)) 12 (.slice none 0 0)) 13 (.int .i64 0)) 14 (.int .i64 0)) 15 (.int .i64 0)) 16 (.string { data := #[] })) 17 (.slice none 0 0)) 18 (.slice none 0 0)) 19 (.slice none 0 0))
  rw [put20_eq] at this
  exact this
theorem put20_but (W : World) (b : Nat) : But b W (put20 W b) := (((((((((((((((((((((But.refl b W).setCell 0 (.int .u8 0)).setCell 1 (.int .i64 0)).setCell 2 (.int .i64 0)).setCell 3 (.string { data := #[] })).setCell 4 (.string { data := #[] })).setCell 5 (.string { data := #[] })).setCell 6 (.int .i64 0)).setCell 7 (.bool false)).setCell 8 (.string { data := #[] })).setCell 9 (.int .i64 0)).setCell 10 (.int .i64 0)).setCell 11 (.int .i64 0)).setCell 12 (.slice none 0 0)).setCell 13 (.int .i64 0)).setCell 14 (.int .i64 0)).setCell 15 (.int .i64 0)).setCell 16 (.string { data := #[] })).setCell 17 (.slice none 0 0)).setCell 18 (.slice none 0 0)).setCell 19 (.slice none 0 0))
end Go.Proofs.YtekcjfdllclphaaGreatDoor.gn
end
section
set_option linter.unusedVariables false
set_option linter.unusedSimpArgs false
namespace Go.Proofs.YtekcjfdllclphaaGreatDoor.gn
open Go.RowKit
open Go.Proofs.YtekcjfdllclphaaGreatDoor.un
open Go.Proofs.YtekcjfdllclphaaGreatDoor.di
open Go.Proofs.YtekcjfdllclphaaGreatDoor.sp (Slip chkS chkS_iff txtS txtS_len)
open Go.Proofs.YtekcjfdllclphaaGreatDoor.od (Ord OkO okO stO fsO keysO chkO chkO_iff txtO pfO pfO_zero pfO_succ pfO_all wordO fs_len)

/-- The text that is told. -/
def oT (o : Ord) : Tx := if chkO o = true then txtO o else []
def OTextT (o : Ord) (w : World) : Ending → World → Prop := Told (.tuple #[.string (str (oT o)), .int .i64 (oE o)]) w
theorem sp_str (t k v : Tx) : str t ++ ((({ data := #[32] } : ByteArray) ++ str k ++ { data := #[61] }) ++ str v) = str (t ++ 32 :: (k ++ 61 :: v)) := by
  show str t ++ (str [32] ++ str k ++ str [61] ++ str v) = _
  rw [str_app, str_app, str_app, str_app]
  simp
theorem OW_ok {o : Ord} (h : OkO o) : OW o := by
  have hj : -9223372036854775808 ≤ o.job ∧ o.job ≤ 9223372036854775807 := by
    cases hh : od.hasJ o.kind with
    | true => have := h.job1 hh; omega
    | false => have := h.job0 hh; omega
  have hn : -9223372036854775808 ≤ o.n ∧ o.n ≤ 9223372036854775807 := by
    cases hh : od.hasN o.kind with
    | true => have := h.n1 hh; have := od.hi_top o.kind; omega
    | false => have := h.n0 hh; omega
  have hs : -9223372036854775808 ≤ o.size ∧ o.size ≤ 9223372036854775807 := by
    by_cases hh : o.kind = 15
    · have := h.size1 hh; omega
    · have := h.size0 hh; omega
  have hu : o.name.length ≤ 32 ∧ o.user.length ≤ 32 := by
    cases hh : od.hasU o.kind with
    | true => exact ⟨name_len (h.name1 hh).1, name_len (h.name1 hh).2⟩
    | false => rw [(h.name0 hh).1, (h.name0 hh).2]; exact ⟨Nat.zero_le _, Nat.zero_le _⟩
  have hp : o.pool.length ≤ 32 := by
    cases hh : od.hasP o.kind with
    | true => exact name_len (h.pool1 hh)
    | false => rw [h.pool0 hh]; exact Nat.zero_le _
  exact ⟨hj, hn, hs, by omega, by omega, by omega, by have := h.kind; omega⟩
set_option maxRecDepth 100000 in
set_option maxHeartbeats 8000000 in
theorem otext_no (o : Ord) (g : Gh) (w : World) (h : SR w o.slip g) (hW : SW o.slip) (hw : OW o) (hL : LaidD w) (hx : ¬ chkO o = true) : Calls Tryz.prog 12 #[oV o g] w (OTextT o w) := by
  have HE := Lib.hid (show oE o = 160 ∧ oT o = [] by unfold oE oT; rw [if_neg hx, if_neg hx]; exact ⟨rfl, rfl⟩)
  obtain ⟨wb, hwb⟩ : ∃ wb, w.alloc (.cells (ocs o g) 29) = wb := ⟨_, rfl⟩
  have hob : OrdB wb w.heap.size o g := by rw [← hwb]; exact BoxA.new _ _ _
  have hB1 : Below w.heap.size w wb := by rw [← hwb]; exact (Below.refl _ _).alloc (Nat.le_refl _) _
  have HB1 := Lib.hid hB1
  have HWB := Lib.hid hwb
  have HOB := Lib.hid hob
  have HCH := Lib.hid (Check_ord o g wb (h.next hB1) hW hw (hL.next hB1))
  rw [HE.out.1] at HCH
  unfold oV at HCH
  clear h hW hw hL hx hB1 hwb hob
  go_enter Tryz.func12, Tryz.ntmps12
  apply wp_seq_k
  intro K hK
  apply wp_region_lit
  refine Great.wpList_boxTo rfl _ _ rfl _ rfl w.heap.size rfl (ocs o g) rfl ?_
  rw [HWB.out]
  go_wp2_with (first
    | (refine wpList_load_row rfl _ _ rfl w.heap.size rfl _ _ _ _ HOB.out Tryz.underlying29 rfl (by kernel_rfl) ?_)
    | (go_at_call 14; ((with_reducible refine HCH.out.mono ?_); rintro e w1 ⟨rfl, hb⟩); have A1 := Lib.hid hb; clear hb))
  go_ret2
  exact ⟨by rw [HE.out.1, HE.out.2]; rfl, HB1.out.trans (A1.out.mono HB1.out.size)⟩
/-- How Text stands ahead of field i. -/
structure TS (w : World) (B : Nat) (o : Ord) (g : Gh) (v : Value) (L : List FE) (i : Nat) (t : Tx) (W : World) : Prop where
  tx : t = pfO o i
  own : W.ownsRow B 67 3 v L.length (flF L)
  ob : OrdB W w.heap.size o g
  low : Below w.heap.size w W
theorem TS.next {w W W' : World} {B : Nat} {o : Ord} {g : Gh} {v : Value} {L : List FE} {i : Nat} {t : Tx} (h : TS w B o g v L i t W) (hb : Below W.heap.size W W') : TS w B o g v L i t W' :=
  ⟨h.tx, own_same h.own fun b hb2 => hb.block b (World.ownsRow.lt h.own b hb2).2, h.ob.next hb, h.low.trans (hb.mono h.low.size)⟩
set_option maxRecDepth 100000 in
set_option maxHeartbeats 16000000 in
theorem otext_yes (o : Ord) (g : Gh) (w : World) (h : SR w o.slip g) (hW : SW o.slip) (hL : LaidD w) (hc : chkO o = true) : Calls Tryz.prog 12 #[oV o g] w (OTextT o w) := by
  have HE := Lib.hid (show oE o = 0 ∧ oT o = txtO o by unfold oE oT; rw [if_pos hc, if_pos hc]; exact ⟨rfl, rfl⟩)
  have hok := (chkO_iff o).1 hc
  have hw := OW_ok hok
  have HOK := Lib.hid hok
  have HKD := Lib.hid hok.kind
  obtain ⟨wb, hwb⟩ : ∃ wb, w.alloc (.cells (ocs o g) 29) = wb := ⟨_, rfl⟩
  have hob : OrdB wb w.heap.size o g := by rw [← hwb]; exact BoxA.new _ _ _
  have hB1 : Below w.heap.size w wb := by rw [← hwb]; exact (Below.refl _ _).alloc (Nat.le_refl _) _
  have HB1 := Lib.hid hB1
  have HWB := Lib.hid hwb
  have HOB := Lib.hid hob
  have HL := Lib.hid (fun (X : World) (hb : Below w.heap.size w X) => hL.next hb)
  have HSR := Lib.hid (fun (X : World) (hb : Below w.heap.size w X) => h.next hb)
  have HOW := Lib.hid hw
  have HSW := Lib.hid hW
  have HCH := Lib.hid (Check_ord o g wb (h.next hB1) hW hw (hL.next hB1))
  have HF := Lib.hid (fun (X : World) => ofind_any o.kind hw.kind X)
  unfold FindO rowV2 at HF
  rw [decide_eq_true hok.kind] at HF
  rw [HE.out.1] at HCH
  unfold oV at HCH
  have hpl := (od.word_plain hok.kind).2.2
  clear h hW hw hL hc hB1 hwb hob hok
  go_enter Tryz.func12, Tryz.ntmps12
  apply wp_seq_k
  intro K hK
  apply wp_region_lit
  refine Great.wpList_boxTo rfl _ _ rfl _ rfl w.heap.size rfl (ocs o g) rfl ?_
  rw [HWB.out]
  go_upto_region 3 with (first
    | (refine wpList_load_row rfl _ _ rfl w.heap.size rfl _ _ _ _ HOB.out Tryz.underlying29 rfl (by kernel_rfl) ?_)
    | (go_at_call 14; ((with_reducible refine HCH.out.mono ?_); rintro e w1 ⟨rfl, hb⟩); have A1 := Lib.hid hb; have HO1 := Lib.hid (HOB.out.next hb); have hlt := HO1.out.lt; have c0 : w1.cell? ⟨w.heap.size, 0, none⟩ = some (.int .u8 (o.kind : Nat)) := BoxA.cell HO1.out 0 _; clear hb))
  go_upto_region 4 with (first
    | (go_at_call 28; ((with_reducible refine (HF.out _).mono ?_); rintro e w2 ⟨rfl, hb⟩); have A2 := Lib.hid hb; clear hb)
    | (refine wpList_store_row rfl _ _ _ rfl w2.heap.size #[.string (str (wordO o.kind)), .string (str (lettersO o.kind))] rfl rfl _ _ (BoxA.new w2 _ _) (by kernel_rfl) rfl (by kernel_rfl) ?_))
  obtain ⟨w3, hw3, hrow, hl3⟩ := box_end w2 #[.string { data := #[] }, .string { data := #[] }] #[.string (str (wordO o.kind)), .string (str (lettersO o.kind))] 60
  rw [hw3]
  have HO3 := Lib.hid ((HO1.out.next A2.out).next hl3)
  have HLOW3 := Lib.hid ((HB1.out.trans (A1.out.mono HB1.out.size)).trans ((A2.out.trans (hl3.mono A2.out.size)).mono (Nat.le_trans HB1.out.size A1.out.size)))
  have r0 := hrow.cell 0 _
  have rl := hrow.lt
  clear hw3 hrow hl3 c0 hlt
  generalize w2.heap.size = R at *
  have HF1 := Lib.hid (ofields_any w.heap.size o g w3 HO3.out HOW.out (HL.out _ HLOW3.out).u)
  unfold FieldsT at HF1
  go_upto_region 6 with (go_at_call 29; ((with_reducible refine HF1.out.mono ?_); rintro e w4 ⟨v, L, rfl, hfl, hown, hb⟩); obtain ⟨p, c, hv⟩ := (RdC.form (ApC.rdc (.inr hown))); have HM := Lib.hid hfl.map; have HTS0 := Lib.hid (show TS w w3.heap.size o g v L 0 (wordO o.kind) w4 from ⟨(pfO_zero o).symm, hown, HO3.out.next hb, HLOW3.out.trans (hb.mono HLOW3.out.size)⟩); subst hv; clear hfl hown hb)
  obtain ⟨n, hn⟩ : ∃ n, L.length = n := ⟨_, rfl⟩
  have HN := Lib.hid hn
  have hn5 : n ≤ 8 := by
    have := od.fs_count o
    rw [← HM.out, List.length_map] at this
    omega
  rw [hn] at HTS0 ⊢
  clear hn r0 rl
  go_loopw [6, 24] (fun s6 s24 W => ∃ (i : Nat) (t : Tx), s6 = .string (str t) ∧ s24 = .int .i64 (i : Int) ∧ i ≤ n ∧ t.length ≤ 7 + 46 * i ∧ Aside (TS w w3.heap.size o g (.slice p n c) L i t W)) (fun _ s24 _ => n - (intOf s24).toNat)
  case atStart => exact ⟨0, _, rfl, rfl, Nat.zero_le _, by omega, HTS0.out⟩
  case round =>
    obtain ⟨i, t, rfl, rfl, hi, htl, hts⟩ := hrel
    have HR := Lib.hid (show TS w w3.heap.size o g (.slice p n c) L i t wr from hts)
    have e1 : (str t).size ≤ 500 := by rw [str_size]; omega
    clear hts HTS0
    by_cases hin : i < n
    · have hrd := ApC.rdc (.inr HR.out.own)
      rw [HN.out] at hrd
      obtain ⟨b, off, hp, hb, hcc⟩ := RdC.at_ (size := 3) hrd rfl (by omega)
      subst hp
      obtain ⟨f, hf⟩ : ∃ f, L[i]? = some f := ⟨_, List.getElem?_eq_getElem (by rw [HN.out]; exact hin)⟩
      obtain ⟨y0, y1, y2⟩ := cellF hcc hf
      have hat : (fsO o)[i]? = some (f.key, f.text) := by rw [← HM.out, List.getElem?_map, hf]; rfl
      have HPS := Lib.hid (pfO_succ hat)
      have hlf := fs_len HOK.out (List.mem_of_getElem? hat)
      have hle : f.key.length + 1 + f.text.length ≤ 45 := by
        have e : (di.wtx (f.key, f.text)).length = f.key.length + 1 + f.text.length := by
          show (f.key ++ 61 :: f.text).length = _
          rw [List.length_append, List.length_cons]; omega
        rw [← e]; exact hlf
      clear hrd hcc hf hat hlf
      obtain ⟨key, tx, fn, cp⟩ := f
      dsimp only at y0 y1 y2 HPS hle
      have HLE := Lib.hid hle
      have e2 : (str key).size ≤ 45 := by rw [str_size]; omega
      have e3 : (str tx).size ≤ 45 := by rw [str_size]; omega
      go_upto_region 8 with (refine wpList_store_row rfl _ _ _ rfl wr.heap.size #[.string (str key), .string (str tx), .func (.func fn) #[] cp] rfl rfl _ _ (BoxA.new wr _ _) (by kernel_rfl) rfl (by kernel_rfl) ?_)
      obtain ⟨w5, hw5, hD, hb4⟩ := box_end wr #[.string { data := #[] }, .string { data := #[] }, .nilFunc] #[.string (str key), .string (str tx), .func (.func fn) #[] cp] 67
      rw [hw5]
      have HR5 := Lib.hid (HR.out.next hb4)
      generalize wr.heap.size = bd at *
      have z0 := hD.cell 0 _
      have z1 := hD.cell 1 _
      have zl := hD.lt
      clear hw5 hD hb4 y0 y1 y2 hb
      go_wp2
      go_roundw
      case rel => exact ⟨i + 1, t ++ 32 :: (key ++ 61 :: tx), by rw [← sp_str], by go_num, by omega, by have := HLE.out; simp; omega, ⟨by rw [HPS.out, ← HR5.out.tx]; rfl, HR5.out.own, HR5.out.ob, HR5.out.low⟩⟩
      case measure => simp [intOf]; omega
    · obtain rfl : i = n := by omega
      have htx := HR.out.tx
      have hnf : (fsO o).length = i := by rw [← HM.out, List.length_map, HN.out]
      rw [← hnf] at htx
      have HTX := Lib.hid htx
      have c0 : wr.cell? ⟨w.heap.size, 0, none⟩ = some (.int .u8 (o.kind : Nat)) := BoxA.cell HR.out.ob 0 _
      have hlt := HR.out.ob.lt
      by_cases h2 : o.kind = 2
      · have HTO := Lib.hid ((pfO_all (o := o)).1 h2)
        have hsl := HOK.out.slip1 h2
        have HCHK := Lib.hid ((chkS_iff _).2 hsl)
        obtain ⟨-, -, -, -, -, -, -, -, t8, t9, t10, t11, t12, t13, t14, t15, t16, t17, t18, t19, -⟩ := ocel HR.out.ob
        have HST := Lib.hid (sText_any o.slip g wr (HSR.out _ HR.out.low) HSW.out (HL.out _ HR.out.low))
        unfold STextT at HST
        rw [show tS o.slip = txtS o.slip by unfold tS; rw [if_pos HCHK.out], show sE o.slip = 0 by unfold sE; rw [if_pos HCHK.out]] at HST
        have e4 : (str (txtS o.slip)).size ≤ 6000 := by rw [str_size]; have := txtS_len hsl; omega
        rw [h2] at c0
        obtain ⟨va, vm, vd, vu⟩ := g
        unfold sV scs at HST
        dsimp only at HST t8 t9 t10 t11 t12 t13 t14 t15 t16 t17 t18 t19
        clear htx hnf hsl h2
        generalize txtS o.slip = ts at *
        go_wp2_with (go_at_call 30; ((with_reducible refine HST.out.mono ?_); rintro e w8 ⟨rfl, hb⟩); have A8 := Lib.hid hb; clear hb)
        go_ret2
        exact ⟨by rw [HE.out.1, HE.out.2, HTO.out, ← HTX.out, ← lf_str]; rfl, HR.out.low.trans (A8.out.mono HR.out.low.size)⟩
      · have HTO := Lib.hid ((pfO_all (o := o)).2 h2)
        have q2 : ((o.kind : Int) == 2) = false := by rw [beq_eq_false_iff_ne]; omega
        have q3 : ¬ o.kind = 2 := h2
        clear htx hnf h2
        go_wp2
        go_ret2
        exact ⟨by rw [HE.out.1, HE.out.2, HTO.out, ← HTX.out]; rfl, HR.out.low⟩
theorem Text_ord (o : Ord) (g : Gh) (w : World) (h : SR w o.slip g) (hW : SW o.slip) (hw : OW o) (hL : LaidD w) : Calls Tryz.prog 12 #[oV o g] w (OTextT o w) := by
  by_cases hc : chkO o = true
  · exact otext_yes o g w h hW hL hc
  · exact otext_no o g w h hW hw hL hc
end Go.Proofs.YtekcjfdllclphaaGreatDoor.gn
end
