/- The contract of the reader's job. -/
import Derived.Test.YtpmghgfgbkncoaaGreatDoorMSlD
import Derived.Test.YtpmghgfgbkncoaaGreatDoorMUnG
import Derived.Deep.RegionHeld3
import Derived.Deep.DeepCutAuto
section
set_option linter.unusedVariables false
set_option linter.unusedSimpArgs false
namespace Go.Proofs.YtpmghgfgbkncoaaGreatDoor.gn
open Go.RowKit
open Go.Proofs.YtpmghgfgbkncoaaGreatDoor.un
open Go.Proofs.YtpmghgfgbkncoaaGreatDoor.di
open Go.Proofs.YtpmghgfgbkncoaaGreatDoor.sp (Slip cuts cutB within? dep? fput frun first? userK nodesK wallK qosK afterK okW anyW jobW pput pline pread chkS Ok shortP soundP waitsP storedP apartP dirsP dropD useD capD innD outD txtS line1 dirsS sread fldB fldB_len cutB_lib cuts_len cuts_mem_len countB_cuts splitB_cuts cuts_ne words_cuts)

theorem get_empty (L : List (Tx × Value)) : (∀ j, fi.get j L = none) ↔ L.length = 0 := by
  constructor
  · intro h
    cases L with
    | nil => rfl
    | cons a r =>
      have := h a.1
      unfold fi.get at this
      simp at this
  · intro h j
    have : L = [] := List.eq_nil_of_length_eq_zero h
    subst this
    rfl
/-- What is left behind the last field: none, just if all three have come. -/
theorem left_none {R : Nat} {seen : List Tx} {L : List (Tx × Value)} (hg : ∀ j, fi.get j L = if j = afterK ∨ j = qosK then none else if j ∈ seen then none else mth R j) : L.length = 0 ↔ userK ∈ seen ∧ nodesK ∈ seen ∧ wallK ∈ seen := by
  rw [← get_empty]
  constructor
  · intro h
    have key : ∀ j, ¬ (j = afterK ∨ j = qosK) → mth R j ≠ none → j ∈ seen := fun j h1 h2 => by
      have := h j
      rw [hg, if_neg h1] at this
      by_cases h3 : j ∈ seen
      · exact h3
      · rw [if_neg h3] at this; exact absurd this h2
    refine ⟨key _ (by decide) ?_, key _ (by decide) ?_, key _ (by decide) ?_⟩
    · unfold mth
      rw [if_neg (by decide), if_neg (by decide), if_neg (by decide), if_neg (by decide), if_pos rfl]
      exact Option.some_ne_none _
    · unfold mth
      rw [if_neg (by decide), if_neg (by decide), if_neg (by decide), if_pos rfl]
      exact Option.some_ne_none _
    · unfold mth
      rw [if_neg (by decide), if_neg (by decide), if_pos rfl]
      exact Option.some_ne_none _
  · rintro ⟨h1, h2, h3⟩ j
    rw [hg]
    by_cases h4 : j = afterK ∨ j = qosK
    · rw [if_pos h4]
    rw [if_neg h4]
    by_cases h5 : j ∈ seen
    · rw [if_pos h5]
    rw [if_neg h5]
    unfold mth
    rw [if_neg (fun h => h4 (.inl h)), if_neg (fun h => h4 (.inr h)), if_neg (fun e => h5 (by rw [e]; exact h3)), if_neg (fun e => h5 (by rw [e]; exact h2)), if_neg (fun e => h5 (by rw [e]; exact h1))]
theorem zeroFn (W : World) : (zeroValue 71).run Tryz.prog W = .ok .nilFunc W := by kernel_rfl

def JobT (R : Nat) (g : Gh) (l : Tx) (line : Int) (w : World) (e : Ending) (w' : World) : Prop := StoT2 R g (first? l) line w e w'
theorem JobT.no {R : Nat} {g : Gh} {l : Tx} {line : Int} {w w' : World} (h : first? l = none) (hb : Lk R g w w') : JobT R g l line w (.panicked (pnc 150 line)) w' := by
  unfold JobT
  rw [h]
  exact ⟨rfl, hb⟩

set_option maxRecDepth 100000 in
set_option maxHeartbeats 16000000 in
theorem job_any {w : World} {R : Nat} {line : Int} {g : Gh} (h : Rdr w R Slip.zero line g) (l : Tx) (hl : l.length ≤ 20000) (hL : LaidB R w) :
    Calls Tryz.prog 38 #[.pointer (some ⟨R, 0, none⟩), .string (str l)] w (JobT R g l line w) := by
  have HR := Lib.hid h
  have hRw := h.box.lt
  have HLB := Lib.hid hL
  have HSP := Lib.hid (split_c 32 l (by omega) w hL.here)
  have hll := cuts_mem_len 32 l
  have hnl := cuts_len 32 l
  cases hc : cuts 32 l with
  | nil => exact absurd hc (cuts_ne 32 l)
  | cons j ws =>
  have HC := Lib.hid hc
  rw [hc] at HSP hll hnl
  obtain ⟨n, hn⟩ : ∃ n, ws.length = n := ⟨_, rfl⟩
  rw [List.length_cons, hn] at HSP hnl
  have HNL := Lib.hid hn
  have HLL := Lib.hid hll
  have hn2 : n ≤ 20001 := by omega
  have HLX := Lib.hid hl
  clear h hL hn hnl hll hc hl
  by_cases hj : j = jobW
  · have HW := Lib.hid (show cuts 32 l = jobW :: ws by rw [HC.out, hj])
    obtain ⟨q1, q2⟩ := lit_yes hj
    unfold jobW at q1 q2
    clear hj
    go_enter Tryz.func38, Tryz.ntmps38
    go_upto_region 1 with (go_at_call 65; ((with_reducible refine HSP.out.mono ?_); rintro e w1 ⟨rfl, hp, hb⟩); have HP := Lib.hid hp; have HB := Lib.hid hb; clear hp hb)
    have c0 := HP.out.2 0 j rfl
    rw [Nat.zero_add] at c0
    have hpz : w.heap.size < w1.heap.size := HP.out.1
    have HMY := Lib.hid (fun (W : World) (hb : Below w1.heap.size w1 W) => must_yes ((HR.out.next HB.out).next hb))
    obtain ⟨o, hpo, hsl⟩ := slice_one (nl := n + 1) (HP.out.drop 1) (by rw [Nat.add_sub_cancel]; exact HNL.out.symm) (by omega)
    rw [Nat.add_sub_cancel] at hsl
    have HPO := Lib.hid (show Prts w1 w.heap.size o ws from hpo)
    have hlt0 : (0 : Int) < (n : Int) + 1 := by omega
    clear HSP hpo
    go_upto_region 3 with (first
      | (go_at_call 41; ((with_reducible refine (HMY.out _ (Below.refl _ _)).mono ?_); rintro e w2 ⟨rfl, rfl⟩))
      | (go_at_call 66; ((with_reducible refine (fields_any R _).mono ?_); rintro e w3 ⟨Lm, rfl, hm, hg, hb⟩); have HM := Lib.hid hm; have HG := Lib.hid hg; have HB3 := Lib.hid hb; clear hm hg hb))
    have HS0 := Lib.hid (show JbS w w.heap.size o w1.heap.size R line g ws 0 Slip.zero [] g Lm w3 from
      ⟨rfl, (HR.out.next HB.out).next HB3.out, (Kp.of g HB.out (Nat.le_of_lt hRw)).trans (Kp.of g HB3.out (Nat.le_trans (Nat.le_of_lt hRw) HB.out.size)), HPO.out.next HB3.out, fun hm => by have := (HR.out.lM hm).2.1; omega, HM.out, fun j => by rw [HG.out]; rfl,
        fun hm => by have := (HR.out.lM hm).2.1; omega, by omega, fun _ => rfl, Nat.le_of_lt hpz, hRw⟩)
    clear HMY HM HG HB3 HPO HP HB c0 q1 q2
    generalize w1.heap.size = mB at *
    generalize w.heap.size = pB at *
    clear hpz
    go_upto_region 4 with fail
    go_loopw [26] (fun s26 W => ∃ (k : Nat) (y : Slip) (seen : List Tx) (g' : Gh) (L : List (Tx × Value)), s26 = .int .i64 k ∧ k ≤ n ∧ Aside (JbS w pB o mB R line g ws k y seen g' L W)) (fun s26 _ => n - (intOf s26).toNat)
    case atStart => exact ⟨0, _, _, _, _, rfl, Nat.zero_le _, HS0.out⟩
    case round =>
      clear HS0
      obtain ⟨k, y, seen, g', L, rfl, hk, hst⟩ := hrel
      have HA := Lib.hid (show JbS w pB o mB R line g ws k y seen g' L wr from hst)
      clear hst
      have hRz : R < wr.heap.size := HA.out.r.box.lt
      have HLD := Lib.hid (HLB.out.next HA.out.kp.low)
      by_cases hkn : k < n
      · have hkl : k < ws.length := by rw [HNL.out]; exact hkn
        obtain ⟨x, hx⟩ : ∃ x, ws[k]? = some x := ⟨_, List.getElem?_eq_getElem hkl⟩
        have hc0 := HA.out.p.2 k x hx
        have hpz : pB < wr.heap.size := HA.out.p.1
        have hxl : x.length ≤ 20000 := Nat.le_trans (HLL.out x (List.mem_cons_of_mem _ (List.mem_of_getElem? hx))) HLX.out
        obtain ⟨kl1, kl2⟩ := fld_len x
        have HKW := Lib.hid (show ∀ kv, cut x = some kv → fld x = kv from fun kv h => by unfold fld; rw [h]; rfl)
        obtain ⟨key, hkey⟩ : ∃ key, (fld x).1 = key := ⟨_, rfl⟩
        obtain ⟨v, hv⟩ : ∃ v, (fld x).2 = v := ⟨_, rfl⟩
        have HKV := Lib.hid (show fld x = (key, v) by rw [← hkey, ← hv])
        have HCUT := Lib.hid (show Calls Tryz.prog 64 #[.string (str x), .string { data := #[61] }] wr (Told (.tuple #[.string (str key), .string (str v), .bool (cut x).isSome]) wr) from by
          rw [← hkey, ← hv]; exact cut_any x (by omega) wr HLD.out.here)
        have HKL := Lib.hid (show key.length ≤ maxLen by rw [← hkey]; unfold maxLen; omega)
        have HVL := Lib.hid (show v.length ≤ 20000 by rw [← hv]; omega)
        have HX := Lib.hid hx
        have HMY := Lib.hid (fun (W : World) (hb : Below wr.heap.size wr W) => must_yes (HA.out.r.next hb))
        have HMN := Lib.hid (fun (W : World) (hb : Below wr.heap.size wr W) => must_no (HA.out.r.next hb))
        have HBAD := Lib.hid (fun (h : frun (y, seen) [x] = none) => (show first? l = none from first_bad HW.out (frun_bad (k := k + 1) (by rw [frun_take HA.out.hm HX.out, h]))))
        have HLK := Lib.hid HA.out.kp
        clear hx hxl kl1 kl2 hkey hv hkl
        have CUTA := True.intro
        cases hcx : cut x with
        | none =>
          have HF := Lib.hid (HBAD.out (by have h9 := frun_one (y, seen) x; rw [hcx] at h9; exact h9))
          rw [hcx] at HCUT
          clear hcx
          cases hgt : fi.get key L with
          | none =>
            have HGT := Lib.hid hgt
            clear hgt
            go_wp2_with (first
              | (go_at_call 64; ((with_reducible refine HCUT.out.mono ?_); rintro e w4 ⟨rfl, hb⟩); have HB4 := Lib.hid hb; clear hb)
              | (at_lookup; refine wpList_look_no _ rfl _ _ 101 _ rfl Tryz.underlying101 zeroFn mB L rfl (HA.out.next HB4.out).m key rfl HKL.out HGT.out ?_)
              | (go_at_call 41; ((with_reducible refine (HMN.out _ HB4.out).mono ?_); rintro e w5 ⟨rfl, rfl⟩)))
            exact ⟨rfl, JobT.no HF.out (HLK.out.lk (Lk.of g' HB4.out (Nat.le_of_lt hRz)))⟩
          | some m =>
            have HGT := Lib.hid hgt
            clear hgt
            go_wp2_with (first
              | (go_at_call 64; ((with_reducible refine HCUT.out.mono ?_); rintro e w4 ⟨rfl, hb⟩); have HB4 := Lib.hid hb; clear hb)
              | (at_lookup; refine wpList_look_yes _ rfl _ _ 101 _ rfl Tryz.underlying101 zeroFn mB L rfl (HA.out.next HB4.out).m key rfl HKL.out _ HGT.out ?_)
              | (go_at_call 41; ((with_reducible refine (HMN.out _ HB4.out).mono ?_); rintro e w5 ⟨rfl, rfl⟩)))
            exact ⟨rfl, JobT.no HF.out (HLK.out.lk (Lk.of g' HB4.out (Nat.le_of_lt hRz)))⟩
        | some kv =>
          obtain rfl : kv = (key, v) := (HKW.out kv hcx).symm.trans HKV.out
          have HCX := Lib.hid hcx
          rw [hcx] at HCUT
          clear hcx
          have hone : frun (y, seen) [x] = if key ∈ seen then none else match fput y (key, v) with
              | none => none
              | some y2 => some (y2, seen ++ [key]) := by have h9 := frun_one (y, seen) x; rw [HCX.out] at h9; exact h9
          cases hgt : fi.get key L with
          | none =>
            have HF := Lib.hid (HBAD.out (by
              rw [hone]
              have := HA.out.get key
              rw [hgt] at this
              by_cases hs : key ∈ seen
              · rw [if_pos hs]
              · rw [if_neg hs] at this
                rw [if_neg hs, mth_none this.symm]))
            have HGT := Lib.hid hgt
            clear hgt hone
            go_wp2_with (first
              | (go_at_call 64; ((with_reducible refine HCUT.out.mono ?_); rintro e w4 ⟨rfl, hb⟩); have HB4 := Lib.hid hb; clear hb)
              | (at_lookup; refine wpList_look_no _ rfl _ _ 101 _ rfl Tryz.underlying101 zeroFn mB L rfl (HA.out.next HB4.out).m key rfl HKL.out HGT.out ?_)
              | (go_at_call 41; ((with_reducible refine (HMN.out _ HB4.out).mono ?_); rintro e w5 ⟨rfl, rfl⟩)))
            exact ⟨rfl, JobT.no HF.out (HLK.out.lk (Lk.of g' HB4.out (Nat.le_of_lt hRz)))⟩
          | some m =>
            have hgm : mth R key = some m ∧ key ∉ seen := by
              have := HA.out.get key
              rw [hgt] at this
              by_cases hs : key ∈ seen
              · rw [if_pos hs] at this; cases this
              · rw [if_neg hs] at this; exact ⟨this.symm, hs⟩
            have HNS := Lib.hid hgm.2
            obtain ⟨q, rfl, hgo, hdo⟩ := mth_call hgm.1
            unfold meth at hgt
            have HGT := Lib.hid hgt
            have HDO := Lib.hid (fun (W : World) (hb : Below wr.heap.size wr W) => hdo v HVL.out W y line g' (HA.out.r.next hb) (fun e => HA.out.af (by rw [← e]; exact HNS.out)) (HLD.out.next (hb.mono (Nat.le_of_lt hRz))))
            rw [if_neg HNS.out] at hone
            clear hgt hgm hdo
            cases hp : fput y (key, v) with
            | none =>
              rw [hp] at hone HDO
              have HF := Lib.hid (HBAD.out hone)
              clear hone hp
              go_wp2_with (first
                | (go_at_call 64; ((with_reducible refine HCUT.out.mono ?_); rintro e w4 ⟨rfl, hb⟩); have HB4 := Lib.hid hb; clear hb)
                | (at_lookup; refine wpList_look_yes _ rfl _ _ 101 _ rfl Tryz.underlying101 zeroFn mB L rfl (HA.out.next HB4.out).m key rfl HKL.out _ HGT.out ?_)
                | (go_at_call 41; ((with_reducible refine (HMY.out _ HB4.out).mono ?_); rintro e w5 ⟨rfl, rfl⟩))
                | (go_at_fn q; refine (HDO.out _ HB4.out).mono ?_; rintro e w6 ⟨rfl, hb6⟩; have HB6 := Lib.hid hb6; clear hb6))
              exact ⟨rfl, JobT.no HF.out ((HLK.out.trans (Kp.of g' HB4.out (Nat.le_of_lt hRz))).lk HB6.out)⟩
            | some y2 =>
              rw [hp] at HDO
              have HPP := Lib.hid hp
              clear hone hp
              go_wp2_with (first
                | (go_at_call 64; ((with_reducible refine HCUT.out.mono ?_); rintro e w4 ⟨rfl, hb⟩); have HB4 := Lib.hid hb; clear hb)
                | (at_lookup; refine wpList_look_yes _ rfl _ _ 101 _ rfl Tryz.underlying101 zeroFn mB L rfl (HA.out.next HB4.out).m key rfl HKL.out _ HGT.out ?_)
                | (go_at_call 41; ((with_reducible refine (HMY.out _ HB4.out).mono ?_); rintro e w5 ⟨rfl, rfl⟩))
                | (go_at_fn q; refine (HDO.out _ HB4.out).mono ?_; rintro e w6 ⟨rfl, g2, hr6, hk6⟩; have HR6 := Lib.hid hr6; have HK6 := Lib.hid hk6; have HM6 := Lib.hid (show MapV w6 mB L from (HA.out.next HB4.out).m.kept (hk6.same mB (HA.out.next HB4.out).m.lt (HA.out.next HB4.out).nm)); clear hr6 hk6)
                | (at_delete; refine wpList_del_map _ rfl _ _ 101 _ rfl Tryz.underlying101 mB L rfl HM6.out key rfl HKL.out ?_; intro w7 hm7 hb7; have HM7 := Lib.hid hm7; have HB7 := Lib.hid hb7; clear hm7 hb7))
              go_roundw
              case rel => exact ⟨k + 1, y2, _, g2, _, by go_num, by omega, (HA.out.next HB4.out).del HX.out HCX.out HNS.out HPP.out HR6.out HK6.out HM7.out HB7.out⟩
              case measure => simp [intOf]; omega
      · obtain rfl : k = n := by omega
        have hfr : frun (Slip.zero, []) ws = some (y, seen) := by
          have := HA.out.hm
          rwa [List.take_of_length_le (by rw [HNL.out]; exact Nat.le_refl _)] at this
        have HEND := Lib.hid (first_end HW.out hfr)
        have HLOW := Lib.hid HA.out.kp.low
        have HMm := Lib.hid HA.out.m
        clear hfr hk hkn
        have HND := Lib.hid (And.intro HA.out.nm (Nat.le_trans (Nat.le_of_lt HA.out.rw_) HA.out.hw))
        have HWM := Lib.hid HA.out.hw
        have HGET := Lib.hid (show ∀ j, fi.get j (fi.del afterK (fi.del qosK L)) = if j = afterK ∨ j = qosK then none else if j ∈ seen then none else mth R j from fun j => by
          rw [get_del, get_del, HA.out.get]
          by_cases h1 : j = afterK
          · rw [if_pos h1, if_pos (.inl h1)]
          · by_cases h2 : j = qosK
            · rw [if_neg h1, if_pos h2, if_pos (.inr h2)]
            · rw [if_neg h1, if_neg h2, if_neg (show ¬ (j = afterK ∨ j = qosK) from fun h => h.elim h1 h2)])
        have HR1 := Lib.hid HA.out.r
        have HKP := Lib.hid HA.out.kp
        clear HA
        obtain ⟨D, hD⟩ : ∃ D, fi.del qosK L = D := ⟨_, rfl⟩
        obtain ⟨D2, hD2⟩ : ∃ D2, fi.del afterK D = D2 := ⟨_, rfl⟩
        rw [hD, hD2] at HGET
        have HD := Lib.hid hD
        have HD2 := Lib.hid hD2
        clear hD hD2
        have HLN := Lib.hid (left_none HGET.out)
        obtain ⟨m, hm⟩ : ∃ m, D2.length = m := ⟨_, rfl⟩
        rw [hm] at HLN
        have HM2 := Lib.hid hm
        clear hm
        have bnd : ∀ W, But mB wr W → Below R wr W ∧ (∀ b, b < w.heap.size → W.heap[b]? = wr.heap[b]?) := fun W hb => ⟨(Below.refl R wr).grown hb (Nat.le_of_lt hRz) (fun j e => by cases e; have := HND.out.2; omega), fun b hb2 => hb.block b (Nat.lt_of_lt_of_le hb2 HKP.out.low.size) (fun e => by cases e; have := HWM.out; omega)⟩
        have HBND := Lib.hid bnd
        clear bnd
        by_cases hz : m = 0
        · have hzb : ((m : Int) == 0) = true := by rw [beq_iff_eq]; omega
          have HEN := HEND.out
          rw [if_pos (HLN.out.1 hz)] at HEN
          have HFF := Lib.hid HEN
          clear HEN hz
          go_wp2_with (first
            | (at_delete; first
              | (refine wpList_del_map _ rfl _ _ 101 _ rfl Tryz.underlying101 mB D rfl HM8.out afterK rfl (by decide) ?_; intro w9 hm9 hb9; rw [HD2.out] at hm9; have HM9 := Lib.hid hm9; have HB9 := Lib.hid (HB8.out.trans hb9); have HMY := Lib.hid (must_yes (HR1.out.but HB9.out HND.out.1)); clear hm9 hb9)
              | (refine wpList_del_map _ rfl _ _ 101 _ rfl Tryz.underlying101 mB L rfl HMm.out qosK rfl (by decide) ?_; intro w8 hm8 hb8; rw [HD.out] at hm8; have HM8 := Lib.hid hm8; have HB8 := Lib.hid hb8; clear hm8 hb8))
            | (at_len; refine wpList_len_own _ rfl _ 101 rfl _ _ Tryz.underlying101 _ mB D2.length (datV D2) rfl HM9.out.exact ?_; rw [datV_size, HM2.out])
            | (go_at_call 41; ((with_reducible refine HMY.out.mono ?_); rintro e w5 ⟨rfl, rfl⟩)))
          go_end0
          unfold JobT
          rw [HFF.out]
          exact ⟨rfl, g', HR1.out.but HB9.out HND.out.1, ⟨HLOW.out.trans (HBND.out _ HB9.out).1, fun b hb2 hm2 => ((HBND.out _ HB9.out).2 b hb2).trans (HKP.out.same b hb2 hm2), HKP.out.mv⟩⟩
        · have hzb : ((m : Int) == 0) = false := by rw [beq_eq_false_iff_ne]; omega
          have HEN := HEND.out
          rw [if_neg (fun h => hz (HLN.out.2 h))] at HEN
          have HFF := Lib.hid HEN
          clear HEN hz
          go_wp2_with (first
            | (at_delete; first
              | (refine wpList_del_map _ rfl _ _ 101 _ rfl Tryz.underlying101 mB D rfl HM8.out afterK rfl (by decide) ?_; intro w9 hm9 hb9; rw [HD2.out] at hm9; have HM9 := Lib.hid hm9; have HB9 := Lib.hid (HB8.out.trans hb9); have HMN := Lib.hid (must_no (HR1.out.but HB9.out HND.out.1)); clear hm9 hb9)
              | (refine wpList_del_map _ rfl _ _ 101 _ rfl Tryz.underlying101 mB L rfl HMm.out qosK rfl (by decide) ?_; intro w8 hm8 hb8; rw [HD.out] at hm8; have HM8 := Lib.hid hm8; have HB8 := Lib.hid hb8; clear hm8 hb8))
            | (at_len; refine wpList_len_own _ rfl _ 101 rfl _ _ Tryz.underlying101 _ mB D2.length (datV D2) rfl HM9.out.exact ?_; rw [datV_size, HM2.out])
            | (go_at_call 41; ((with_reducible refine HMN.out.mono ?_); rintro e w5 ⟨rfl, rfl⟩)))
          exact ⟨rfl, JobT.no HFF.out ⟨HLOW.out.trans (HBND.out _ HB9.out).1, fun b hb2 hm2 => ((HBND.out _ HB9.out).2 b hb2).trans (HKP.out.same b hb2 hm2)⟩⟩
  · have HF := Lib.hid (first_word HC.out hj)
    obtain ⟨q1, q2⟩ := lit_no hj
    unfold jobW at q1 q2
    clear hj
    go_enter Tryz.func38, Tryz.ntmps38
    go_upto_region 1 with (go_at_call 65; ((with_reducible refine HSP.out.mono ?_); rintro e w1 ⟨rfl, hp, hb⟩); have HP := Lib.hid hp; have HB := Lib.hid hb; clear hp hb)
    have c0 := HP.out.2 0 j rfl
    rw [Nat.zero_add] at c0
    have hpz : w.heap.size < w1.heap.size := HP.out.1
    have HMN := Lib.hid (fun (W : World) (hb : Below w1.heap.size w1 W) => must_no ((HR.out.next HB.out).next hb))
    have hlt0 : (0 : Int) < (n : Int) + 1 := by omega
    clear HSP
    go_wp2_with (go_at_call 41; ((with_reducible refine (HMN.out _ (Below.refl _ _)).mono ?_); rintro e w2 ⟨rfl, rfl⟩))
    exact ⟨rfl, JobT.no HF.out (Lk.of g HB.out (Nat.le_of_lt hRw))⟩
end Go.Proofs.YtpmghgfgbkncoaaGreatDoor.gn
end
section
set_option linter.unusedVariables false
namespace Go.Proofs.YtpmghgfgbkncoaaGreatDoor.gn
open Go.RowKit
open Go.Proofs.YtpmghgfgbkncoaaGreatDoor.un
open Go.Lib (decDigits)

/-- The byte of a digit. -/
def dg1 (d : Nat) : UInt8 := UInt8.ofNat (48 + d)
theorem dg1_nat {d : Nat} (h : d < 10) : (dg1 d).toNat = 48 + d := by
  unfold dg1
  rw [UInt8.toNat_ofNat_of_lt']
  exact Nat.lt_of_lt_of_le (show 48 + d < 58 by omega) (by decide)
/-- What stands when the number that is left is m. -/
def lft (m : Nat) (acc : List UInt8) : List UInt8 := if m = 0 then acc else decDigits m ++ acc
theorem lft_zero (acc : List UInt8) : lft 0 acc = acc := rfl
theorem lft_step {m : Nat} (h : 0 < m) (acc : List UInt8) : lft m acc = lft (m / 10) (dg1 (m % 10) :: acc) := by
  unfold lft
  rw [if_neg (by omega)]
  by_cases hs : m < 10
  · rw [if_pos (by omega), dec_small hs, Nat.mod_eq_of_lt hs]
    rfl
  · rw [if_neg (by omega), dec_big hs, List.append_assoc]
    rfl
theorem lft_le (m : Nat) (acc : List UInt8) : acc.length ≤ (lft m acc).length := by
  unfold lft
  split
  · exact Nat.le_refl _
  · rw [List.length_append]; omega

set_option maxRecDepth 100000 in
theorem one_string (w : World) (d : Nat) (h : d < 10) : (convert 78 9 (.slice (some ⟨w.heap.size, 0, none⟩) 1 1)).run Tryz.prog (w.alloc (.cells #[.int .u8 (48 + (d : Int))] 5)) = .ok (.string (str [dg1 d])) (w.alloc (.cells #[.int .u8 (48 + (d : Int))] 5)) := by
  refine run_convert_bytes_back _ _ _ _ ⟨w.heap.size, 0, none⟩ 1 [dg1 d] Tryz.underlying78 Tryz.underlying5 Tryz.underlying9 fun j hj => ?_
  have hj0 : j = 0 := by simp at hj; omega
  subst hj0
  have hadd : (⟨w.heap.size, 0, none⟩ : Addr).add 0 = ⟨w.heap.size, 0, none⟩ := by unfold Addr.add; split <;> simp_all
  rw [hadd, World.cell?_alloc_mark]
  simp [dg1_nat h]

set_option maxRecDepth 100000 in
set_option maxHeartbeats 3200000 in
theorem dtext_any (n : Int) (w : World) : Calls Tryz.prog 27 #[.int .i64 n] w (Told (.string (str (txt n))) w) := by
  by_cases hq : 0 ≤ n ∧ n ≤ 1099511627776
  · have HQ := Lib.hid (show quant n = true from decide_eq_true hq)
    by_cases h0 : n = 0
    · subst h0
      have HT := Lib.hid (show txt 0 = [48] by rw [show (0 : Int) = ((0 : Nat) : Int) from rfl, txt_in (by decide), dec_small (by decide)]; rfl)
      go_enter Tryz.func27, Tryz.ntmps27
      go_wp2_with (go_at_call 57; refine (dquant_any _ _).mono ?_; rintro e w2 ⟨rfl, rfl⟩; rw [HQ.out])
      go_ret
      exact ⟨by rw [HT.out]; rfl, Below.refl _ _⟩
    · obtain ⟨m, rfl⟩ : ∃ m : Nat, n = (m : Int) := ⟨n.toNat, by omega⟩
      have hm : m ≤ 1099511627776 := by omega
      have hm0 : 0 < m := by omega
      have hne : (((m : Nat) : Int) == 0) = false := by rw [beq_eq_false_iff_ne]; omega
      have HT := Lib.hid (show lft m [] = txt (m : Int) by
        rw [txt_in hm]
        unfold lft
        rw [if_neg (by omega), List.append_nil])
      have HLEN := Lib.hid (txt_len (m : Int))
      generalize txt (m : Int) = ans at *
      clear hq h0
      go_enter Tryz.func27, Tryz.ntmps27
      go_wp2_with (go_at_call 57; refine (dquant_any _ _).mono ?_; rintro e w2 ⟨rfl, rfl⟩; rw [HQ.out])
      go_loopw [0, 3] (fun s0 s3 wr => ∃ (k : Nat) (acc : List UInt8), s0 = .int .i64 k ∧ s3 = .string (str acc) ∧ k ≤ 1099511627776 ∧ Aside (lft k acc = ans) ∧ Aside (Below w.heap.size w wr)) (fun s0 _ _ => (intOf s0).toNat)
      case atStart => exact ⟨m, [], rfl, rfl, hm, HT.out, Below.refl _ _⟩
      case round =>
        obtain ⟨k, acc, rfl, rfl, hk, hl, hb⟩ := hrel
        have HB := Lib.hid (show Below w.heap.size w wr from hb)
        by_cases hk0 : 0 < k
        · have hl2 : lft (k / 10) (dg1 (k % 10) :: acc) = ans := by rw [← lft_step hk0]; exact hl
          have hal := lft_le (k / 10) (dg1 (k % 10) :: acc)
          rw [hl2] at hal
          have z1 : (str acc).size ≤ 13 := by
            rw [str_size]
            have := HLEN.out
            simp at hal
            omega
          have z2 : (str [dg1 (k % 10)]).size = 1 := rfl
          have HL := Lib.hid hl2
          have hone := one_string wr (k % 10) (Nat.mod_lt _ (by decide))
          have htm : Int.tmod (k : Int) 10 = ((k % 10 : Nat) : Int) := rfl
          have htd : Int.tdiv (k : Int) 10 = ((k / 10 : Nat) : Int) := rfl
          have hd10 : k % 10 < 10 := Nat.mod_lt _ (by decide)
          have hq10 : k / 10 < k := by omega
          have HB2 := Lib.hid (HB.out.alloc HB.out.size (.cells #[.int .u8 (48 + ((k % 10 : Nat) : Int))] 5))
          clear hl hb hl2 hal
          generalize k % 10 = d at *
          generalize k / 10 = k2 at *
          go_wp2
          go_roundw
          case rel => exact ⟨k2, dg1 d :: acc, rfl, by rw [str_app]; rfl, by omega, HL.out, HB2.out⟩
          case measure => simp [intOf]; omega
        · obtain rfl : k = 0 := by omega
          have hans : acc = ans := hl
          subst hans
          clear hl hb
          go_wp2
          go_ret
          exact ⟨rfl, HB.out⟩
  · have HQ := Lib.hid (show quant n = false from decide_eq_false hq)
    have HT := Lib.hid (txt_out hq)
    clear hq
    go_enter Tryz.func27, Tryz.ntmps27
    go_wp2_with (go_at_call 57; refine (dquant_any _ _).mono ?_; rintro e w2 ⟨rfl, rfl⟩; rw [HQ.out])
    go_ret
    exact ⟨by rw [HT.out]; rfl, Below.refl _ _⟩

theorem wrap_q {q : Nat} (h : q ≤ 1099511627776) : IntKind.i64.wrap (q : Int) = (q : Int) := by
  rw [IntKind.wrap_i64]
  omega
theorem add_run {a b : List UInt8} (ha : (str a).size ≤ 1000) (hb : (str b).size ≤ 1000) (W : World) : (Op.stringOp .add (str a) (str b)).run Tryz.prog W = .ok (.string (str a ++ str b)) W := run_string_add_sum W _ _ (by omega)
theorem below_undrew {B : Nat} {w w' : World} (h : Below B w.drew w') : Below B w w' := ⟨h.os, h.tape, h.output, h.size, h.block⟩
/-- The names of the greatest units. -/
def fourN : Array Value := #[.string { data := #[84, 105, 66] }, .string { data := #[71, 105, 66] }, .string { data := #[77, 105, 66] }, .string { data := #[75, 105, 66] }]
theorem fourN_at {k : Nat} (hk : k < 4) : fourN[k]? = some (.string (str (nm k))) := by
  have hc : k = 0 ∨ k = 1 ∨ k = 2 ∨ k = 3 := by omega
  rcases hc with rfl | rfl | rfl | rfl <;> rfl

set_option maxRecDepth 100000 in
set_option maxHeartbeats 1600000 in
theorem dstext_out (n : Int) (hq : ¬ (0 < n ∧ n ≤ 1099511627776)) (w : World) : Calls Tryz.prog 58 #[.int .i64 n] w (Told (.string (str (stxt n))) w) := by
  have HX := Lib.hid (stxt_out hq)
  obtain ⟨w3, hw3⟩ : ∃ w3, w.alloc (.cells fourN 9) = w3 := ⟨_, rfl⟩
  have HB3 := Lib.hid (show Below w.heap.size w w3 by rw [← hw3]; exact (Below.refl _ _).alloc (Nat.le_refl _) _)
  unfold fourN at hw3
  obtain ⟨q, hqq⟩ : ∃ q, quant n = q := ⟨_, rfl⟩
  have HQ := Lib.hid hqq
  have hcase : q = false ∨ (q = true ∧ decide (0 < n) = false) := by
    rw [← hqq]
    by_cases h : 0 ≤ n ∧ n ≤ 1099511627776
    · exact .inr ⟨decide_eq_true h, decide_eq_false (by omega)⟩
    · exact .inl (decide_eq_false h)
  clear hqq hq
  rcases hcase with rfl | ⟨rfl, hn0⟩
  all_goals
    go_enter Tryz.func58, Tryz.ntmps58
    go_wp2
    clear hw3
    go_loopw [4] (fun s4 wr => s4 = .int .i64 0 ∧ wr = w3) (fun s4 _ => 0)
    case atStart => exact ⟨rfl, rfl⟩
    case round =>
      obtain ⟨rfl, rfl⟩ := hrel
      go_wp2_with (first
        | (go_at_call 57; refine (dquant_any _ _).mono ?_; rintro e w4 ⟨rfl, rfl⟩; rw [HQ.out])
        | (go_at_call 27; refine (dtext_any n _).mono ?_; rintro e w5 ⟨rfl, hb5⟩; have HB5 := Lib.hid (HB3.out.trans (hb5.mono HB3.out.size)); clear hb5))
      go_ret
      exact ⟨by rw [HX.out]; rfl, HB5.out⟩

set_option maxRecDepth 100000 in
set_option maxHeartbeats 3200000 in
theorem dstext_in (n : Nat) (h0 : 0 < n) (h1 : n ≤ 1099511627776) (w : World) : Calls Tryz.prog 58 #[.int .i64 (n : Int)] w (Told (.string (str (stxt (n : Int)))) w) := by
  have HQ := Lib.hid (show quant (n : Int) = true from decide_eq_true (by omega))
  obtain ⟨w3, hw3⟩ : ∃ w3, w.alloc (.cells fourN 9) = w3 := ⟨_, rfl⟩
  have hcell : ∀ k, k < 4 → w3.cell? ⟨w.heap.size, k, none⟩ = some (.string (str (nm k))) := fun k hk => by
    rw [← hw3, World.cell?_alloc_mark]
    exact fourN_at hk
  have HC := Lib.hid hcell
  have hsz3 : w.heap.size < w3.heap.size := by rw [← hw3]; simp
  have HB3 := Lib.hid (show Below w.heap.size w w3 by rw [← hw3]; exact (Below.refl _ _).alloc (Nat.le_refl _) _)
  unfold fourN at hw3
  have hn0 : decide (0 < (n : Int)) = true := decide_eq_true (by omega)
  clear hcell
  go_enter Tryz.func58, Tryz.ntmps58
  go_wp2
  clear hw3
  go_loopw [4] (fun s4 wr => ∃ k : Nat, s4 = .int .i64 k ∧ k ≤ 4 ∧ Aside (∀ i, i < k → n % sz i ≠ 0) ∧ Aside (Below w3.heap.size w3 wr)) (fun s4 _ => 4 - (intOf s4).toNat)
  case atStart => exact ⟨0, rfl, by omega, fun i hi => absurd hi (by omega), Below.refl _ _⟩
  case round =>
    obtain ⟨k, rfl, hk, hno, hb⟩ := hrel
    have HB := Lib.hid (show Below w3.heap.size w3 wr from hb)
    have HBW := Lib.hid (HB3.out.trans (HB.out.mono HB3.out.size))
    have hszr : w.heap.size < wr.heap.size := Nat.lt_of_lt_of_le hsz3 HB.out.size
    clear hb
    by_cases h4 : k < 4
    · have hcw : ∀ W, Below wr.heap.size wr W → W.cell? ⟨w.heap.size, k, none⟩ = some (.string (str (nm k))) := fun W hW => by
        rw [Below.cell hW hszr, Below.cell HB.out hsz3]
        exact HC.out k h4
      have hck := hcw wr (Below.refl _ _)
      have HCW := Lib.hid hcw
      clear hcw
      have hsb := sz_bd (show k < 8 by omega)
      have hs0 : ¬ ((sz k : Nat) : Int) = 0 := by omega
      have htm : Int.tmod (n : Int) ((sz k : Nat) : Int) = ((n % sz k : Nat) : Int) := rfl
      have htd : Int.tdiv (n : Int) ((sz k : Nat) : Int) = ((n / sz k : Nat) : Int) := rfl
      have HBY := Lib.hid (by_nm (show k < 8 by omega))
      by_cases hd : n % sz k = 0
      · have hx := stxt_at h0 h1 h4 hno hd
        have HX := Lib.hid hx
        have hle : n / sz k ≤ 1099511627776 := Nat.le_trans (Nat.div_le_self _ _) h1
        have z1 : (str (txt ((n / sz k : Nat) : Int))).size ≤ 13 := by rw [str_size]; exact txt_len _
        have z2 : (str (nm k)).size ≤ 3 := by rw [str_size]; exact nm_len (by omega)
        have HTE := Lib.hid (txt_in hle)
        rw [hd] at htm
        have hqb : n / sz k ≤ 9223372036854775807 := Nat.le_trans hle (by decide)
        have hs0n : ¬ sz k = 0 := by omega
        have hwq : IntKind.i64.wrap ((n / sz k : Nat) : Int) = ((n / sz k : Nat) : Int) := wrap_q hle
        have hadd := add_run (Nat.le_trans z1 (by decide)) (Nat.le_trans z2 (by decide))
        clear hx hno hd hqb
        generalize n / sz k = q at *
        go_upto_region 6 with (first
          | (go_at_call 57; refine (dquant_any _ _).mono ?_; rintro e w4 ⟨rfl, rfl⟩; rw [HQ.out])
          | (go_at_call 73; refine (dby_any (nm k) _).mono ?_; rintro e w5 ⟨rfl, hb5⟩; rw [HBY.out]; have HB5 := Lib.hid hb5; have hck5 := HCW.out _ hb5; have hsz5 := Nat.lt_of_lt_of_le hszr hb5.size; clear hb5))
        have hck5d : w5.drew.cell? ⟨w.heap.size, k, none⟩ = some (.string (str (nm k))) := hck5
        go_region_held3 (fun W => W.cell? ⟨w.heap.size, k, none⟩ = some (.string (str (nm k)))) (first | assumption | (exact hck5) | (exact hck5d)) (first
          | (go_at_call 73; refine (dby_any (nm k) _).mono ?_; rintro e w6 ⟨rfl, hb6⟩; rw [HBY.out]; have hb6' : Below w5.heap.size w5 w6 := below_undrew hb6; clear hb6; have hck6 : w6.cell? ⟨w.heap.size, k, none⟩ = some (.string (str (nm k))) := (Below.cell hb6' hsz5).trans hck5; have hsz6 := Nat.lt_of_lt_of_le hsz5 hb6'.size; have HB6 := Lib.hid (HB5.out.trans (hb6'.mono HB5.out.size)); clear hb6')
          | (go_at_call 27; refine (dtext_any (q : Int) _).mono ?_; rintro e w7 ⟨rfl, hb7⟩; have hck7 : w7.cell? ⟨w.heap.size, k, none⟩ = some (.string (str (nm k))) := (Below.cell hb7 hsz6).trans hck6; have HB7 := Lib.hid (HB6.out.trans (hb7.mono HB6.out.size)); clear hb7))
        all_goals go_wp2
        all_goals go_ret
        all_goals exact ⟨by rw [HX.out, HTE.out, str_app]; rfl, HBW.out.trans (HB7.out.mono HBW.out.size)⟩
      · have hd2 : ((n % sz k : Nat) : Int) ≠ 0 := by omega
        have hno2 : ∀ i, i < k + 1 → n % sz i ≠ 0 := fun i hi => by
          rcases Nat.lt_or_ge i k with h | h
          · exact hno i h
          · rw [show i = k by omega]; exact hd
        have HN := Lib.hid hno2
        clear hno2 hno hd htd
        generalize n % sz k = r at *
        go_wp2_with (first
          | (go_at_call 57; refine (dquant_any _ _).mono ?_; rintro e w4 ⟨rfl, rfl⟩; rw [HQ.out])
          | (go_at_call 73; refine (dby_any (nm k) _).mono ?_; rintro e w5 ⟨rfl, hb5⟩; rw [HBY.out]; have HB5 := Lib.hid (HB.out.trans (hb5.mono HB.out.size)); clear hb5))
        go_roundw
        case rel => exact ⟨k + 1, by go_num, by omega, HN.out, HB5.out⟩
        case measure => simp [intOf]; omega
    · obtain rfl : k = 4 := by omega
      have HX := Lib.hid (stxt_none h0 h1 hno)
      have HTE := Lib.hid (txt_in h1)
      clear hno
      go_wp2_with (first
        | (go_at_call 57; refine (dquant_any _ _).mono ?_; rintro e w4 ⟨rfl, rfl⟩; rw [HQ.out])
        | (go_at_call 27; refine (dtext_any (n : Int) _).mono ?_; rintro e w5 ⟨rfl, hb5⟩; have HB5 := Lib.hid (HBW.out.trans (hb5.mono HBW.out.size)); clear hb5))
      go_ret
      exact ⟨by rw [HX.out, HTE.out]; rfl, HB5.out⟩

theorem dstext_any (n : Int) (w : World) : Calls Tryz.prog 58 #[.int .i64 n] w (Told (.string (str (stxt n))) w) := by
  by_cases h : 0 < n ∧ n ≤ 1099511627776
  · obtain ⟨m, rfl⟩ : ∃ m : Nat, n = (m : Int) := ⟨n.toNat, by omega⟩
    exact dstext_in m (by omega) (by omega) w
  · exact dstext_out n h w
end Go.Proofs.YtpmghgfgbkncoaaGreatDoor.gn
end
