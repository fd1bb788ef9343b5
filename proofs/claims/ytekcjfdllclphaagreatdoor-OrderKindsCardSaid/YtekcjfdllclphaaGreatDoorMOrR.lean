/- Orders, plain: errors and their lines; what is refused; a text's length; the head's texts. (Written ahead of the code.) -/
import Derived.Test.YtekcjfdllclphaaGreatDoorMOrP
import Derived.Test.YtekcjfdllclphaaGreatDoorMSlPa
import Derived.Test.YtekcjfdllclphaaGreatDoorMSlEq
section
set_option linter.unusedVariables false
namespace Go.Proofs.YtekcjfdllclphaaGreatDoor.od
open Go.Proofs.YtekcjfdllclphaaGreatDoor.un
open Go.Proofs.YtekcjfdllclphaaGreatDoor.di
open Go.Proofs.YtekcjfdllclphaaGreatDoor.sp
open Go.Lib (decDigits)

theorem lrun_err : ∀ (L : List Tx) (s : Slip × List Nat) (i : Nat) (e : Int × Nat), lrun s i L = .error e → e.1 ≠ 0 ∧ i ≤ e.2
  | [], s, i, e, h => by simp [lrun] at h
  | l :: r, s, i, e, h => by
    unfold lrun at h
    split at h
    · split at h
      · next h1 => cases h; exact ⟨h1, Nat.le_refl _⟩
      · split at h
        · cases h; exact ⟨by simp, Nat.le_refl _⟩
        · have := lrun_err r _ _ _ h
          exact ⟨this.1, by omega⟩
    · have := lrun_err r _ _ _ h
      exact ⟨this.1, by omega⟩
/-- What a slip's text denotes: a slip that may be, or nothing and an error. -/
theorem sread_cases (s : Tx) : (∃ x, sread s = (x, 0, 0) ∧ Ok x) ∨ ∃ e i, sread s = (Slip.zero, e, i) ∧ e ≠ 0 := by
  unfold sread
  split
  · exact .inr ⟨3, 0, rfl, by decide⟩
  · split
    · exact .inr ⟨150, 1, rfl, by decide⟩
    · split
      · exact .inr ⟨150, 1, rfl, by decide⟩
      · split
        · next h => exact .inr ⟨_, _, rfl, (lrun_err _ _ _ _ h).1⟩
        · next st _ =>
          split
          · next h => exact .inl ⟨_, rfl, (chkS_iff _).1 h⟩
          · exact .inr ⟨150, _, rfl, by decide⟩
theorem ok_sub {x : Slip} (h : Ok x) : OkO { Ord.at 2 with slip := x } :=
  ⟨⟨by simp [Ord.at], by simp [Ord.at]⟩, fun _ => h, fun h => absurd rfl h, fun h => by simp [hasN, Ord.at] at h, fun _ => rfl, fun h => by simp [hasJ, Ord.at] at h, fun _ => rfl, fun h => by simp [hasU, Ord.at] at h, fun _ => ⟨rfl, rfl⟩, fun h => by simp [hasP, Ord.at] at h, fun _ => rfl, fun h => by simp [Ord.at] at h, fun _ => rfl, fun _ _ => rfl⟩
/-- What a text denotes: an order that may be, or nothing and an error, at a line. -/
theorem oread_cases (s : Tx) : (∃ o, oread s = (o, 0, 0) ∧ OkO o) ∨ ∃ e i, oread s = (Ord.zero, e, i) ∧ e ≠ 0 ∧ 1 ≤ i := by
  unfold oread
  split
  · rcases sread_cases (s.drop 7) with ⟨x, h, hx⟩ | ⟨e, i, h, he⟩
    · rw [h]
      exact .inl ⟨_, rfl, ok_sub hx⟩
    · rw [h]
      dsimp only
      rw [if_neg he]
      exact .inr ⟨e, i + 1, rfl, he, by omega⟩
  · split
    · split
      · next k hk =>
        split
        · next o ho =>
          obtain ⟨h1, h2, _⟩ := kindO_some hk
          exact .inl ⟨o, rfl, (orun_ok h1 h2 ho).1⟩
        · exact .inr ⟨160, 1, rfl, by decide, by decide⟩
      · exact .inr ⟨160, 1, rfl, by decide, by decide⟩
    · exact .inr ⟨160, 1, rfl, by decide, by decide⟩
theorem oread_ok {s : Tx} {o : Ord} (h : (oread s).2.1 = 0) : OkO (oread s).1 ∧ (oread s).2.2 = 0 := by
  rcases oread_cases s with ⟨o, h1, h2⟩ | ⟨e, i, h1, h2, _⟩
  · rw [h1]; exact ⟨h2, rfl⟩
  · rw [h1] at h; exact absurd h h2
theorem orun_len {k : Nat} : ∀ (ks ws : List Tx) (o o' : Ord), orun k o ks ws = some o' → ws.length = ks.length := fun ks ws o o' h => by
  obtain ⟨fs, h1, h2, _⟩ := orun_inv k ks ws o o' h
  rw [h1, ← h2, List.length_map, List.length_map]
/-- A text that is read, but of a submit, is of a kind, with its words. -/
theorem oread_kind {s : Tx} {o : Ord} (h : oread s = (o, 0, 0)) (h2 : o.kind ≠ 2) : ∃ w ws k, cuts 32 s = w :: ws ∧ kindO? w = some k ∧ orun k (Ord.at k) (keysO k) ws = some o := by
  unfold oread at h
  split at h
  · rcases sread_cases (s.drop 7) with ⟨x, h1, hx⟩ | ⟨e, i, h1, he⟩
    · rw [h1] at h
      have := (Prod.mk.inj h).1
      rw [← this] at h2
      exact absurd rfl h2
    · rw [h1] at h
      dsimp only at h
      rw [if_neg he] at h
      exact absurd (Prod.mk.inj (Prod.mk.inj h).2).1 he
  · split at h
    · next w ws hc =>
      split at h
      · next k hk =>
        split at h
        · next o' ho =>
          have := (Prod.mk.inj h).1
          subst this
          exact ⟨w, ws, k, hc, hk, ho⟩
        · exact absurd (Prod.mk.inj (Prod.mk.inj h).2).1 (by decide)
      · exact absurd (Prod.mk.inj (Prod.mk.inj h).2).1 (by decide)
    · exact absurd (Prod.mk.inj (Prod.mk.inj h).2).1 (by decide)
theorem oread_more {s : Tx} {o : Ord} (h : oread s = (o, 0, 0)) (h2 : o.kind ≠ 2) (more : Tx) : oread (s ++ 32 :: more) = (Ord.zero, 160, 1) := by
  obtain ⟨w, ws, k, hc, hk, ho⟩ := oread_kind h h2
  have hc' : cuts 32 (s ++ 32 :: more) = w :: (ws ++ cuts 32 more) := by rw [cuts_two, hc]; rfl
  rw [oread_cuts hc' hk]
  cases hr : orun k (Ord.at k) (keysO k) (ws ++ cuts 32 more) with
  | none => rfl
  | some o' =>
    have l1 := orun_len _ _ _ _ ho
    have l2 := orun_len _ _ _ _ hr
    have l3 := List.length_pos_iff.2 (cuts_ne 32 more)
    rw [List.length_append] at l2
    omega
theorem oread_blank (s : Tx) : oread (32 :: s) = (Ord.zero, 160, 1) := by
  unfold oread
  rw [if_neg (by simp [subL, List.isPrefixOf]), cuts_bl]
  dsimp only
  rw [show kindO? [] = none by decide +kernel]
theorem joinC_sum (c : UInt8) (a : Tx) (L : List Tx) : (joinC c (a :: L)).length ≤ a.length + (L.map fun w => w.length + 1).sum := by
  induction L generalizing a with
  | nil => simp [joinC]
  | cons b r ih =>
    have := ih b
    rw [joinC_cons c a (by simp), List.length_append, List.length_cons, List.map_cons, List.sum_cons]
    omega
theorem fs_len {o : Ord} (h : OkO o) {f : Fl} (hf : f ∈ fsO o) : (wtx f).length ≤ 45 := by
  have : f.1.length ≤ 8 ∧ f.2.length ≤ 32 := by
    unfold fsO at hf
    simp only [List.mem_append] at hf
    rcases hf with ((((((hf | hf) | hf) | hf) | hf) | hf) | hf) <;> split at hf <;> simp only [List.mem_cons, List.not_mem_nil, or_false] at hf
    · subst hf; have := txt_len o.job; exact ⟨by dsimp only; decide, by dsimp only; omega⟩
    · subst hf; have := txt_len o.n; exact ⟨by dsimp only; decide, by dsimp only; omega⟩
    · subst hf; cases o.yes <;> exact ⟨by decide, by decide⟩
    · next hu => rcases hf with rfl | rfl
                 · have := name_len (h.name1 hu).2; exact ⟨by dsimp only; decide, this⟩
                 · have := name_len (h.name1 hu).1; exact ⟨by dsimp only; decide, this⟩
    · subst hf; have := stxt_len o.size; exact ⟨by dsimp only; decide, by dsimp only; omega⟩
    · next hu => subst hf; have := name_len (h.pool1 hu); exact ⟨by dsimp only; decide, this⟩
    · subst hf; cases o.yes <;> exact ⟨by decide, by decide⟩
  unfold wtx
  rw [List.length_append, List.length_cons]
  omega
theorem fs_count (o : Ord) : (fsO o).length ≤ 8 := by
  unfold fsO
  simp only [List.length_append]
  repeat' split
  all_goals simp
theorem txtO_len {o : Ord} (h : OkO o) : (txtO o).length ≤ 5819 := by
  unfold txtO
  split
  · next h2 =>
    have := txtS_len (h.slip1 h2)
    rw [List.length_append]
    have : subL.length = 7 := rfl
    omega
  · have h1 := joinC_len 32 (wordO o.kind :: (fsO o).map wtx) 45 fun w hw => by
      rcases List.mem_cons.1 hw with rfl | hw
      · have := (word_plain h.kind).2.2; omega
      · obtain ⟨f, hf, rfl⟩ := List.mem_map.1 hw
        exact fs_len h hf
    have h2 := fs_count o
    rw [List.length_cons, List.length_map] at h1
    have : ((fsO o).length + 1) * 46 ≤ 9 * 46 := Nat.mul_le_mul_right _ (by omega)
    omega
/-! ### the head -/
def o1T : Tx := [116, 105, 99, 107, 32, 110, 61, 53]
def o2T : Tx := [109, 97, 107, 101, 32, 117, 115, 101, 114, 61, 97, 32, 110, 97, 109, 101, 61, 98, 32, 99, 97, 112, 97, 99, 105, 116, 121, 61, 49, 75, 105, 66, 32, 112, 111, 111, 108, 61, 112, 32, 97, 99, 99, 101, 115, 115, 61, 112, 117, 98, 108, 105, 99]
def o3T : Tx := [101, 110, 100, 32, 106, 111, 98, 61, 51, 32, 114, 101, 115, 117, 108, 116, 61, 109, 97, 121, 98, 101]
def o4T : Tx := [115, 117, 98, 109, 105, 116, 10, 106, 111, 98, 32, 117, 115, 101, 114, 61, 97]
def o1O : Ord := { Ord.at 1 with n := 5 }
def o2O : Ord := { Ord.at 15 with user := [97], name := [98], size := 1024, pool := [112], yes := true }
theorem o1_read : oread o1T = (o1O, 0, 0) := by decide +kernel
theorem o2_read : oread o2T = (o2O, 0, 0) := by decide +kernel
theorem o3_read : (oread o3T).2 = (160, 1) := by decide +kernel
theorem o4_read : (oread o4T).2 = (150, 2) := by decide +kernel
theorem o2_chk : chkO o2O = true := by decide +kernel
theorem o2_txt : txtO o2O = o2T := by decide +kernel
end Go.Proofs.YtekcjfdllclphaaGreatDoor.od
end
section
set_option linter.unusedVariables false
set_option linter.unusedSimpArgs false
namespace Go.Proofs.YtekcjfdllclphaaGreatDoor.gn
open Go.RowKit
open Go.Proofs.YtekcjfdllclphaaGreatDoor.un
open Go.Proofs.YtekcjfdllclphaaGreatDoor.di
open Go.Proofs.YtekcjfdllclphaaGreatDoor.sp (Slip Ok chkS chkS_iff dirsP dirsS dirsP_eq dirs_mem line1 line1_len dirs_count txtS joinC joinC_snoc join_two)

/-- The text that is told. -/
def tS (x : Slip) : Tx := if chkS x = true then txtS x else []
def STextT (x : Slip) (w : World) : Ending → World → Prop := Told (.tuple #[.string (str (tS x)), .int .i64 (sE x)]) w
/-- The text, as far as its first k directives. -/
def pfx (x : Slip) (L : List Dir) (k : Nat) : Tx := joinC 10 (line1 x :: (L.take k).map dtx)
theorem pfx_zero (x : Slip) (L : List Dir) : pfx x L 0 = line1 x := rfl
theorem pfx_succ (x : Slip) {L : List Dir} {k : Nat} {d : Dir} (hd : L[k]? = some d) : pfx x L (k + 1) = pfx x L k ++ 10 :: dtx d := by
  unfold pfx
  rw [take_snoc hd, List.map_append, ← List.cons_append]
  exact joinC_snoc 10 _ _ (by simp)
theorem lf_str (s t : Tx) : str s ++ (({ data := #[10] } : ByteArray) ++ str t) = str (s ++ 10 :: t) := by
  show str s ++ (str [10] ++ str t) = _
  rw [str_app, str_app]
  rfl
theorem sW_W {x : Slip} (h : Ok x) : SW x := by
  have a := h.user; have b := name_len h.user
  refine ⟨by omega, ?_, by have := h.nodes; omega, by have := h.wall; omega, by have := h.qos; omega, by have := h.cap; omega, by have := h.cap; have := h.inn; omega, by have := h.cap; have := h.out; omega, fun d hd => by have := h.after.2.2 d hd; omega, fun d hd => ?_, fun n hn => ?_, fun n hn => ?_⟩
  · by_cases h0 : x.cap = 0
    · rw [h.pool0 h0]; decide
    · have := name_len (h.pool1 h0); omega
  · obtain ⟨p, q, r, s⟩ := sp.chk_name (h.make d hd).2
    exact ⟨by omega, by omega, by omega, by omega, by omega⟩
  · have := name_len (h.drop.2.2 n hn); omega
  · have := name_len (h.use.2.2 n hn); omega
theorem DW_chk {d : Dir} (h : chk d = true) : DW d := by
  obtain ⟨p, q, r, s⟩ := sp.chk_name h
  exact ⟨by omega, by omega, by omega, by omega, by omega⟩
set_option maxRecDepth 100000 in
set_option maxHeartbeats 8000000 in
theorem stext_no (x : Slip) (g : Gh) (w : World) (h : SR w x g) (hW : SW x) (hL : LaidD w) (hx : ¬ chkS x = true) : Calls Tryz.prog 30 #[sV x g] w (STextT x w) := by
  have HE := Lib.hid (show sE x = 150 ∧ tS x = [] by unfold sE tS; rw [if_neg hx, if_neg hx]; exact ⟨rfl, rfl⟩)
  obtain ⟨wb, hwb⟩ : ∃ wb, w.alloc (.cells (scs x g) 27) = wb := ⟨_, rfl⟩
  have hbx : BoxA wb w.heap.size 27 (scs x g) := by rw [← hwb]; exact BoxA.new _ _ _
  have hB1 : Below w.heap.size w wb := by rw [← hwb]; exact (Below.refl _ _).alloc (Nat.le_refl _) _
  have HB1 := Lib.hid hB1
  have HWB := Lib.hid hwb
  have HCH := Lib.hid (Check_slip x g wb (h.next hB1) hW (hL.next hB1))
  rw [HE.out.1] at HCH
  obtain ⟨c0, c1, c2, c3, c4, c5, c6, c7, c8, c9, c10, c11, clt⟩ := cel_box hbx
  clear h hW hL hx hB1 hwb hbx
  obtain ⟨va, vm, vd, vu⟩ := g
  unfold sV scs at *
  dsimp only at *
  go_enter Tryz.func30, Tryz.ntmps30
  go_upto_region 1 with fail
  rw [HWB.out]
  go_wp2_with (go_at_call 35; ((with_reducible refine HCH.out.mono ?_); rintro e w1 ⟨rfl, hb⟩); have A1 := Lib.hid hb; clear hb)
  go_ret2
  exact ⟨by rw [HE.out.1, HE.out.2]; rfl, HB1.out.trans (A1.out.mono HB1.out.size)⟩
set_option maxRecDepth 100000 in
set_option maxHeartbeats 8000000 in
theorem stext_yes (x : Slip) (g : Gh) (w : World) (h : SR w x g) (hL : LaidD w) (hc : chkS x = true) : Calls Tryz.prog 30 #[sV x g] w (STextT x w) := by
  have HE := Lib.hid (show sE x = 0 ∧ tS x = txtS x by unfold sE tS; rw [if_pos hc, if_pos hc]; exact ⟨rfl, rfl⟩)
  have hx := (chkS_iff x).1 hc
  have HOK := Lib.hid hx
  have hW := sW_W hx
  obtain ⟨wb, hwb⟩ : ∃ wb, w.alloc (.cells (scs x g) 27) = wb := ⟨_, rfl⟩
  have hbx : BoxA wb w.heap.size 27 (scs x g) := by rw [← hwb]; exact BoxA.new _ _ _
  have hB1 : Below w.heap.size w wb := by rw [← hwb]; exact (Below.refl _ _).alloc (Nat.le_refl _) _
  have HB1 := Lib.hid hB1
  have HWB := Lib.hid hwb
  have HCE := Lib.hid (fun (W : World) (hb : Below wb.heap.size wb W) => cel_box (hbx.next hb))
  have HL := Lib.hid (fun (W : World) (hb : Below wb.heap.size wb W) => hL.next (hB1.trans (hb.mono hB1.size)))
  have HCH := Lib.hid (Check_slip x g wb (h.next hB1) hW (hL.next hB1))
  rw [HE.out.1] at HCH
  have HFI := Lib.hid (fun (W : World) (hb : Below wb.heap.size wb W) => first_slip x g W ((h.next hB1).next hb) hx (HL.out W hb))
  have HDI := Lib.hid (fun (W : World) (hb : Below wb.heap.size wb W) => directives_any x g W ((h.next hB1).next hb) (by have := hx.makeN.1; rw [List.length_map] at this; omega) (by have := hx.drop.1; omega) (by have := hx.use.1; omega))
  have HT : Hid (tS x = pfx x (dirsP x) (dirsP x).length) := by
    show tS x = _
    rw [HE.out.2]
    unfold pfx
    rw [List.take_length, dirsP_eq hx]
    rfl
  have HM := Lib.hid (show ∀ d ∈ dirsP x, chk d = true ∧ (dtx d).length ≤ 306 from fun d hd => by
    rw [dirsP_eq hx] at hd
    exact ⟨(dirs_mem hx hd), (made_text (dirs_mem hx hd)).len⟩)
  have hll := line1_len hx
  have hcn : (dirsP x).length ≤ 15 := by rw [dirsP_eq hx]; exact dirs_count hx
  have HPX : Hid (∀ k d, (dirsP x)[k]? = some d → pfx x (dirsP x) (k + 1) = pfx x (dirsP x) k ++ 10 :: dtx d) := fun k d hd => pfx_succ x hd
  have HPZ := Lib.hid (pfx_zero x (dirsP x))
  obtain ⟨c0, c1, c2, c3, c4, c5, c6, c7, c8, c9, c10, c11, clt⟩ := cel_box hbx
  unfold STextT
  generalize line1 x = L1 at *
  generalize dirsP x = L at *
  generalize pfx x L = PX at *
  generalize tS x = TX at *
  generalize sE x = se at *
  obtain ⟨n, hn⟩ : ∃ n, L.length = n := ⟨_, rfl⟩
  rw [hn] at HT hcn
  have HN := Lib.hid hn
  clear h hW hL hx hB1 hwb hbx hc hn HOK
  obtain ⟨va, vm, vd, vu⟩ := g
  unfold sV scs at *
  dsimp only at *
  go_enter Tryz.func30, Tryz.ntmps30
  go_upto_region 1 with fail
  rw [HWB.out]
  go_upto_region 5 with (first
    | (go_at_call 35; ((with_reducible refine HCH.out.mono ?_); rintro e w1 ⟨rfl, hb⟩); have A1 := Lib.hid (show Below wb.heap.size wb w1 from hb); obtain ⟨c0, c1, c2, c3, c4, c5, c6, c7, c8, c9, c10, c11, clt⟩ := HCE.out _ A1.out; dsimp only at c0 c1 c2 c3 c4 c5 c6 c7 c8 c9 c10 c11; clear hb)
    | (go_at_call 51; ((with_reducible refine (HFI.out _ A1.out).mono ?_); rintro e w2 ⟨rfl, hb⟩); have A2 := Lib.hid (show Below wb.heap.size wb w2 from A1.out.trans (hb.mono A1.out.size)); obtain ⟨c0, c1, c2, c3, c4, c5, c6, c7, c8, c9, c10, c11, clt⟩ := HCE.out _ A2.out; dsimp only at c0 c1 c2 c3 c4 c5 c6 c7 c8 c9 c10 c11; clear hb)
    | (go_at_call 52; ((with_reducible refine (HDI.out _ A2.out).mono ?_); rintro e w3 ⟨v, rfl, ho, hb⟩); rw [HN.out] at ho; obtain ⟨p, c, hv⟩ := (RdC.form (ApC.rdc (.inr ho))); subst hv; have HO := Lib.hid ho; have A3 := Lib.hid (show Below wb.heap.size wb w3 from A2.out.trans (hb.mono A2.out.size)); clear ho hb))
  have HR := Lib.hid (show RdC w3 (.slice p n c) n (flM L) from ApC.rdc (.inr HO.out))
  clear c0 c1 c2 c3 c4 c5 c6 c7 c8 c9 c10 c11 HO clt
  go_loopw [4, 17] (fun s4 s17 W => ∃ (k : Nat) (t : Tx), s17 = .int .i64 (k : Int) ∧ s4 = .string (str t) ∧ k ≤ n ∧ t.length ≤ 1206 + 307 * k ∧ Aside (t = PX k) ∧ Aside (Below w3.heap.size w3 W)) (fun _ s17 _ => n - (intOf s17).toNat)
  case atStart => exact ⟨0, L1, rfl, rfl, Nat.zero_le _, by omega, HPZ.out.symm, Below.refl _ _⟩
  case round =>
    obtain ⟨k, t, rfl, rfl, hk, htl, ht, hbl⟩ := hrel
    have HTK := Lib.hid (show t = PX k from ht)
    have HBL := Lib.hid (show Below w3.heap.size w3 wr from hbl)
    have HLOW := Lib.hid (A3.out.trans ((show Below w3.heap.size w3 wr from hbl).mono A3.out.size))
    have HTL := Lib.hid htl
    have e1 : (str t).size ≤ 6000 := by rw [str_size]; omega
    clear ht hbl htl
    by_cases hkn : k < n
    · obtain ⟨b, off, hp, hb, hc⟩ := (HR.out.next HBL.out).at_ (size := 5) rfl (by omega)
      subst hp
      obtain ⟨d, hd⟩ : ∃ d, L[k]? = some d := ⟨_, List.getElem?_eq_getElem (by rw [HN.out]; exact hkn)⟩
      obtain ⟨y0, y1, y2, y3, y4⟩ := cellM hc hd
      have hdm := HM.out d (List.mem_of_getElem? hd)
      have HX := Lib.hid hd
      clear hc hd
      go_upto_region 7 with fail
      have hD : BoxA (wr.alloc (.cells #[.int .u8 (d.kind : Nat), .string (str d.name), .string (str d.pool), .int .i64 d.size, .bool d.opn] 80)) wr.heap.size 80 #[.int .u8 (d.kind : Nat), .string (str d.name), .string (str d.pool), .int .i64 d.size, .bool d.opn] := BoxA.new _ _ _
      have hb4 : Below wr.heap.size wr (wr.alloc (.cells #[.int .u8 (d.kind : Nat), .string (str d.name), .string (str d.pool), .int .i64 d.size, .bool d.opn] 80)) := (Below.refl _ _).alloc (Nat.le_refl _) _
      generalize wr.alloc (.cells #[.int .u8 (d.kind : Nat), .string (str d.name), .string (str d.pool), .int .i64 d.size, .bool d.opn] 80) = w4 at *
      have z0 := hD.cell 0 _
      have z1 := hD.cell 1 _
      have z2 := hD.cell 2 _
      have z3 := hD.cell 3 _
      have z4 := hD.cell 4 _
      have zl := hD.lt
      have HB4 := Lib.hid (HBL.out.trans (hb4.mono HBL.out.size))
      have HTT := Lib.hid (Text_any d (DW_chk hdm.1) w4 (HL.out _ (HLOW.out.trans (hb4.mono HLOW.out.size))))
      have HTD := Lib.hid (show tT d = dtx d ∧ cE d = 0 by unfold tT cE; rw [if_pos hdm.1, if_pos hdm.1]; exact ⟨rfl, rfl⟩)
      have HDL := Lib.hid hdm.2
      have e2 : (str (dtx d)).size ≤ 306 := by rw [str_size]; exact hdm.2
      generalize wr.heap.size = bd at *
      clear hD hb4 y0 y1 y2 y3 y4 hb hdm
      unfold dV dcs TextT at HTT
      rw [HTD.out.1, HTD.out.2] at HTT
      go_wp2_with (go_at_call 53; ((with_reducible refine HTT.out.mono ?_); rintro e w5 ⟨rfl, hb5⟩); have HB5 := Lib.hid hb5; clear hb5)
      go_roundw
      case rel =>
        refine ⟨k + 1, t ++ 10 :: dtx d, by go_num, by rw [← lf_str], by omega, ?_, ?_, HB4.out.trans (HB5.out.mono HB4.out.size)⟩
        · have := HTL.out
          have := HDL.out
          simp
          omega
        · show _ = PX (k + 1)
          rw [HPX.out k d HX.out, ← HTK.out]
      case measure => simp [intOf]; omega
    · obtain rfl : k = n := by omega
      have HTF := Lib.hid (show t = TX by rw [HTK.out, HT.out])
      go_wp2
      go_ret2
      exact ⟨by rw [← HTF.out, HE.out.1]; rfl, HB1.out.trans (HLOW.out.mono HB1.out.size)⟩
theorem sText_any (x : Slip) (g : Gh) (w : World) (h : SR w x g) (hW : SW x) (hL : LaidD w) : Calls Tryz.prog 30 #[sV x g] w (STextT x w) := by
  by_cases hc : chkS x = true
  · exact stext_yes x g w h hL hc
  · exact stext_no x g w h hW hL hc
end Go.Proofs.YtekcjfdllclphaaGreatDoor.gn
end
