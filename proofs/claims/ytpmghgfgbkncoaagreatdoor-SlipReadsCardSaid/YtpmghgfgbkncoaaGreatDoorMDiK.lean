/- The contract of Check. -/
import Derived.Test.YtpmghgfgbkncoaaGreatDoorMSlR
import Derived.Test.YtpmghgfgbkncoaaGreatDoorMGenClone
import Derived.Shelf.Abstract
import Derived.Deep.LoopGhost
section
set_option linter.unusedVariables false
namespace Go.Proofs.YtpmghgfgbkncoaaGreatDoor.gn
open Go.RowKit
open Go.Proofs.YtpmghgfgbkncoaaGreatDoor.un
open Go.Proofs.YtpmghgfgbkncoaaGreatDoor.di

/-- A directive that came in: its numbers' and texts' bounds. -/
structure DW (d : Dir) : Prop where
  k : d.kind < 256
  n : d.name.length ≤ 9223372036854775807
  p : d.pool.length ≤ 9223372036854775807
  z0 : -9223372036854775808 ≤ d.size
  z1 : d.size ≤ 9223372036854775807
def cE (d : Dir) : Int := if chk d = true then 0 else 140

def cres (o : Option Dir) (d : Dir) : Bool := match o with
  | some a => decide (a = d)
  | none => false
theorem crun_cons (d : Dir) (f : Tx × Bool) (r : List (Tx × Bool)) (a : Dir) : crun d (f :: r) a = if f.2 = true ∧ val d f.1 = [] then crun d r a else if okv f.1 (val d f.1) = true then crun d r (sto f.1 (val d f.1) a) else none := rfl
theorem clo_call2 {k : Nat} {key : Tx} (h : has k key = true) (c : Nat) : ∃ g, cloF c key = some (clo g c) ∧ (∀ (x y : Value) (W : World), (callFunc g #[x, y]).run Tryz.prog W = .ok (.enter g #[x, y]) W) ∧
    ∀ (v : Tx) (hv : v.length ≤ 9223372036854775807) (hv2 : key = capK ∨ key = sizeK → v.length ≤ 140737488355328) (bd : Nat) (d : Dir) (W : World), PtrB W c bd → DirB W bd d → LaidU W → Calls Tryz.prog g #[.string (str v), .pointer (some ⟨c, 0, none⟩)] W (StoT bd key v d W) := by
  rcases key_five h with rfl | rfl | rfl | rfl | rfl
  · exact ⟨_, cloF_name c, fun x y W => by kernel_rfl, fun v hv _ bd d W hp hd hL => sto_name_any c bd d v hv W hp hd⟩
  · exact ⟨_, cloF_pool c, fun x y W => by kernel_rfl, fun v hv _ bd d W hp hd hL => sto_pool_any c bd d v hv W hp hd⟩
  · exact ⟨_, cloF_cap c, fun x y W => by kernel_rfl, fun v hv h2 bd d W hp hd hL => sto_size_any c bd d v (h2 (.inl rfl)) W hp hd hL⟩
  · refine ⟨_, cloF_size c, fun x y W => by kernel_rfl, fun v hv h2 bd d W hp hd hL => (sto_size_any c bd d v (h2 (.inr rfl)) W hp hd hL).mono ?_⟩
    rintro e w' ⟨h1, h2, h3⟩
    exact ⟨by rw [okv_siz, ← okv_cap]; exact h1, h2, by rw [sto_size, ← sto_cap]; exact h3⟩
  · exact ⟨_, cloF_acc c, fun x y W => by kernel_rfl, fun v hv _ bd d W hp hd hL => sto_acc_any c bd d v W hp hd⟩

theorem val_len {d : Dir} (h : DW d) (key : Tx) : (val d key).length ≤ 9223372036854775807 ∧ (key = capK ∨ key = sizeK → (val d key).length ≤ 140737488355328) := by
  have hs := stxt_len d.size
  constructor
  · unfold val
    split
    · exact h.n
    split
    · exact h.p
    split
    · split <;> decide
    · omega
  · intro hk
    rw [val_size d hk]
    omega

/-- How Check stands in its loop. -/
structure CK (w w2 : World) (d a' : Dir) (k fa ab sb sc : Nat) (SL : List (Tx × Value)) (W : World) : Prop where
  p : BoxA W w.heap.size 51 (dcs d)
  f : Flds W fa (fldL k)
  a : DirB W ab a'
  st : StM W w2.heap.size sb sc ab SL
  b : Below w.heap.size w W
theorem CK.next {w w2 W W' : World} {d a' : Dir} {k fa ab sb sc : Nat} {SL : List (Tx × Value)} (h : CK w w2 d a' k fa ab sb sc SL W) (hb : Below W.heap.size W W') : CK w w2 d a' k fa ab sb sc SL W' :=
  ⟨h.p.next hb, h.f.next hb, h.a.next hb, h.st.next hb, h.b.trans (hb.mono h.b.size)⟩
theorem CK.sto {w w2 W W' : World} {d a' a2 : Dir} {k fa ab sb sc : Nat} {SL : List (Tx × Value)} (h : CK w w2 d a' k fa ab sb sc SL W) (hb : But ab W W') (ha : DirB W' ab a2) (h1 : w.heap.size < ab) (h2 : fa ≠ ab) (h3 : ab < w2.heap.size) : CK w w2 d a2 k fa ab sb sc SL W' :=
  ⟨h.p.but hb (by omega), h.f.but hb h2, ha, h.st.but hb h3, h.b.trans (hb.low (by omega) h.b.size)⟩

set_option maxRecDepth 100000 in
set_option maxHeartbeats 1600000 in
theorem check_no (d : Dir) (h : DW d) (hk : ¬ (1 ≤ d.kind ∧ d.kind ≤ 6)) (w : World) : Calls Tryz.prog 53 #[dV d] w (Told (.int .i64 (cE d)) w) := by
  have HE := Lib.hid (show cE d = 140 by
    unfold cE
    rw [if_neg]
    intro hc
    exact hk ((chk_iff d).1 hc).1)
  have HK := Lib.hid hk
  have HB := Lib.hid (show Below w.heap.size w (w.alloc (.cells (dcs d) 51)) from (Below.refl _ _).alloc (Nat.le_refl _) _)
  have hV : dV d = .agg #[.int .u8 (d.kind : Nat), .string (str d.name), .string (str d.pool), .int .i64 d.size, .bool d.opn] := rfl
  rw [hV]
  unfold dcs at HB
  clear hV hk h
  obtain ⟨k, n, p, z, o⟩ := d
  dsimp only at HK HB ⊢
  go_enter Tryz.func53, Tryz.ntmps53
  go_wp2_with (go_at_call 54; refine (kfind_no k HK.out _).mono ?_; rintro e w1 ⟨rfl, hb⟩; have HB1 := Lib.hid (HB.out.trans (hb.mono HB.out.size)); clear hb)
  go_ret
  exact ⟨by rw [HE.out]; rfl, HB1.out⟩

set_option maxRecDepth 100000 in
set_option maxHeartbeats 6400000 in
theorem check_yes (d : Dir) (h : DW d) (hk : 1 ≤ d.kind ∧ d.kind ≤ 6) (w : World) (hL : LaidD w) : Calls Tryz.prog 53 #[dV d] w (Told (.int .i64 (cE d)) w) := by
  obtain ⟨ans, hans⟩ : ∃ ans, crun d (fldL d.kind) (base d.kind) = ans := ⟨_, rfl⟩
  have HC := Lib.hid (show cres ans d = chk d by rw [← hans]; exact crun_chk d h.z0 h.z1 hk)
  have HA := Lib.hid (show crun d ((fldL d.kind).drop 0) (base d.kind) = ans from hans)
  have HK := Lib.hid hk
  have HW := Lib.hid h
  have HLB := Lib.hid hL.base
  have HV := Lib.hid (fun (key : Tx) (W : World) (hb : Below w.heap.size w W) => value_any d h.z0 h.z1 key W (hL.next hb).u)
  have HVL := Lib.hid (fun key => val_len h key)
  obtain ⟨n, hn⟩ : ∃ n, (fldL d.kind).length = n := ⟨_, rfl⟩
  have HN := Lib.hid hn
  have hn4 : n ≤ 4 := by rw [← hn]; exact di.fld_len d.kind
  have hkk := hk
  obtain ⟨w0, hw0⟩ : ∃ w0, w.alloc (.cells #[.int .u8 (d.kind : Nat), .string (str d.name), .string (str d.pool), .int .i64 d.size, .bool d.opn] 51) = w0 := ⟨_, rfl⟩
  have hb0 : Below w.heap.size w w0 := by rw [← hw0]; exact (Below.refl _ _).alloc (Nat.le_refl _) _
  have hp0 : BoxA w0 w.heap.size 51 (dcs d) := by rw [← hw0]; exact BoxA.new _ _ _
  have HB0 := Lib.hid hb0
  have HP0 := Lib.hid hp0
  have H0 := Lib.hid hw0
  have hz0 : w.heap.size < w0.heap.size := hp0.lt
  have hV : dV d = .agg #[.int .u8 (d.kind : Nat), .string (str d.name), .string (str d.pool), .int .i64 d.size, .bool d.opn] := rfl
  rw [hV] at HV ⊢
  clear hV hk h hans hn hL hw0 hb0 hp0
  go_enter Tryz.func53, Tryz.ntmps53
  go_wp2_with (first
    | (go_at_call 54; rw [H0.out]; refine (kfind_yes d.kind HK.out _).mono ?_; rintro e w1 ⟨fa, rfl, hf, hfa, hb⟩; rw [HN.out]; have hx1 : w1.cell? ⟨w.heap.size, 0, none⟩ = some (.int .u8 (d.kind : Nat)) := BoxA.cell (HP0.out.next hb) 0 _ rfl; have HP1 := Lib.hid (HP0.out.next hb); have hz1 := HP1.out.lt; have HF := Lib.hid (And.intro hf hfa); have HB1 := Lib.hid (HB0.out.trans (hb.mono HB0.out.size)); clear hf hfa hb)
    | fail)
  obtain ⟨wz, hwz⟩ : ∃ y, w1.alloc (.cells #[.int .u8 (d.kind : Nat), .string { data := #[] }, .string { data := #[] }, .int .i64 0, .bool false] 51) = y := ⟨_, rfl⟩
  rw [hwz]
  have hyz : Below w1.heap.size w1 wz := by rw [← hwz]; exact (Below.refl _ _).alloc (Nat.le_refl _) _
  have hdz : DirB wz w1.heap.size (base d.kind) := by rw [← hwz]; exact BoxA.new _ _ _
  clear hwz
  refine (stores_any w1.heap.size _).mono ?_
  rintro e w2 ⟨sb, sc, SL, rfl, hst, hb2⟩
  have HCK := Lib.hid (show CK w wz d (base d.kind) d.kind fa w1.heap.size sb sc SL w2 from ⟨(HP1.out.next hyz).next hb2, (HF.out.1.next hyz).next hb2, hdz.next hb2, hst, (HB1.out.trans (hyz.mono HB1.out.size)).trans (hb2.mono (Nat.le_trans HB1.out.size hyz.size))⟩)
  have hzz : w1.heap.size < wz.heap.size := hdz.lt
  clear hst hb2 hyz hdz
  go_wp2
  have hfa1 : fa < w1.heap.size := HF.out.1.1
  clear HF HP1 HB1 hx1
  go_loopw [26] (fun s26 wr => ∃ (i : Nat) (a' : Dir), s26 = .int .i64 i ∧ i ≤ n ∧ Aside (CK w wz d a' d.kind fa w1.heap.size sb sc SL wr) ∧ Aside (crun d ((fldL d.kind).drop i) a' = ans)) (fun s26 _ => n - (intOf s26).toNat)
  case atStart => exact ⟨0, base d.kind, rfl, Nat.zero_le _, HCK.out, HA.out⟩
  case round =>
    clear HCK HA
    obtain ⟨i, a', rfl, hi, hck, har⟩ := hrel
    have HR := Lib.hid (show CK w wz d a' d.kind fa w1.heap.size sb sc SL wr from hck)
    have HAR := Lib.hid (show crun d ((fldL d.kind).drop i) a' = ans from har)
    clear hck har
    by_cases hin : i < n
    · have hil : i < (fldL d.kind).length := by rw [HN.out]; exact hin
      obtain ⟨f, hfe⟩ : ∃ f, (fldL d.kind)[i]? = some f := ⟨_, List.getElem?_eq_getElem hil⟩
      obtain ⟨c0, c1⟩ := HR.out.f.2 i f hfe
      have hhas := (fld_opt (List.mem_of_getElem? hfe)).2
      have HKL := Lib.hid (show f.1.length ≤ maxLen by rcases key_five hhas with h | h | h | h | h <;> rw [h] <;> decide)
      have HDR := Lib.hid (show (fldL d.kind).drop i = f :: (fldL d.kind).drop (i + 1) by
        obtain ⟨_, rfl⟩ := List.getElem?_eq_some_iff.1 hfe
        exact List.drop_eq_getElem_cons hil)
      obtain ⟨g, hcl, hgo, hdo⟩ := clo_call2 hhas sc
      have HCL := Lib.hid (show fi.get f.1 SL = some (.func (.func g) #[] #[.pointer (some ⟨sc, 0, none⟩)]) by rw [HR.out.st.get]; exact hcl)
      have HDO := Lib.hid hdo
      have hza : fa < wr.heap.size := HR.out.f.1
      clear hfe hhas hcl hdo hil
      obtain ⟨key, opt⟩ := f
      dsimp only at c0 c1 HKL HCL HDO
      obtain ⟨v, hv⟩ : ∃ v, val d key = v := ⟨_, rfl⟩
      have HVK := Lib.hid (HV.out key)
      have HVLK := Lib.hid (HVL.out key)
      rw [hv] at HVK HVLK
      have HCR := Lib.hid (show crun d ((fldL d.kind).drop i) a' = if opt = true ∧ v = [] then crun d ((fldL d.kind).drop (i + 1)) a' else if okv key v = true then crun d ((fldL d.kind).drop (i + 1)) (sto key v a') else none by
        rw [HDR.out, crun_cons]
        dsimp only
        rw [hv])
      obtain ⟨om, hom⟩ : ∃ om, omi (key, opt) v = om := ⟨_, rfl⟩
      have HOM := Lib.hid hom
      obtain ⟨okb, hok⟩ : ∃ okb, okv key v = okb := ⟨_, rfl⟩
      have HOK := Lib.hid hok
      clear hv hom hok HDR
      have hy9 : Below wr.heap.size wr (wr.alloc (.cells #[.string (str key), .bool opt] 91)) := (Below.refl _ _).alloc (Nat.le_refl _) _
      have h9 := BoxA.new wr 91 #[.string (str key), .bool opt]
      have HR9 := Lib.hid (HR.out.next hy9)
      have H9 := Lib.hid h9
      have d0 : wr.cell? ⟨w.heap.size, 0, none⟩ = some (.int .u8 (d.kind : Nat)) := BoxA.cell HR.out.p 0 _ rfl
      have d1 : wr.cell? ⟨w.heap.size, 1, none⟩ = some (.string (str d.name)) := BoxA.cell HR.out.p 1 _ rfl
      have d2 : wr.cell? ⟨w.heap.size, 2, none⟩ = some (.string (str d.pool)) := BoxA.cell HR.out.p 2 _ rfl
      have d3 : wr.cell? ⟨w.heap.size, 3, none⟩ = some (.int .i64 d.size) := BoxA.cell HR.out.p 3 _ rfl
      have d4 : wr.cell? ⟨w.heap.size, 4, none⟩ = some (.bool d.opn) := BoxA.cell HR.out.p 4 _ rfl
      have hzw : w.heap.size < wr.heap.size := HR.out.p.lt
      clear hy9 h9
      cases om with
      | true =>
        go_wp2_with (first
        | (go_at_call 55; refine (HVK.out _ HR9.out.b).mono ?_; rintro e w3 ⟨rfl, hb3⟩; have HR3 := Lib.hid (HR9.out.next hb3); have h93 := H9.out.next hb3; have k0 : w3.cell? ⟨wr.heap.size, 0, none⟩ = some (.string (str key)) := BoxA.cell h93 0 _ rfl; have k1 : w3.cell? ⟨wr.heap.size, 1, none⟩ = some (.bool opt) := BoxA.cell h93 1 _ rfl; have hzb := h93.lt; have H93 := Lib.hid h93; clear hb3 h93)
        | (go_at_call 56; refine (omitted_any key opt v _).mono ?_; rintro e w4 ⟨rfl, hb4⟩; rw [HOM.out]; have HR4 := Lib.hid (HR3.out.next hb4); have h94 := H93.out.next hb4; have m0 : w4.cell? ⟨wr.heap.size, 0, none⟩ = some (.string (str key)) := BoxA.cell h94 0 _ rfl; have m1 : w4.cell? ⟨wr.heap.size, 1, none⟩ = some (.bool opt) := BoxA.cell h94 1 _ rfl; have hzc := h94.lt; clear hb4 h94))
        go_roundw
        case rel =>
          refine ⟨i + 1, a', by go_num, by omega, HR4.out, ?_⟩
          rw [← HAR.out, HCR.out, if_pos ((omi_iff (key, opt) v).1 HOM.out)]
          rfl
        case measure => simp [intOf]; omega
      | false =>
        have HNO := Lib.hid (show ¬ (opt = true ∧ v = []) from fun e => by have := (omi_iff (key, opt) v).2 e; rw [HOM.out] at this; cases this)
        cases okb with
        | true =>
          go_wp2_with (first
        | (go_at_call 55; refine (HVK.out _ HR9.out.b).mono ?_; rintro e w3 ⟨rfl, hb3⟩; have HR3 := Lib.hid (HR9.out.next hb3); have h93 := H9.out.next hb3; have k0 : w3.cell? ⟨wr.heap.size, 0, none⟩ = some (.string (str key)) := BoxA.cell h93 0 _ rfl; have k1 : w3.cell? ⟨wr.heap.size, 1, none⟩ = some (.bool opt) := BoxA.cell h93 1 _ rfl; have hzb := h93.lt; have H93 := Lib.hid h93; clear hb3 h93)
        | (go_at_call 56; refine (omitted_any key opt v _).mono ?_; rintro e w4 ⟨rfl, hb4⟩; rw [HOM.out]; have HR4 := Lib.hid (HR3.out.next hb4); have h94 := H93.out.next hb4; have m0 : w4.cell? ⟨wr.heap.size, 0, none⟩ = some (.string (str key)) := BoxA.cell h94 0 _ rfl; have m1 : w4.cell? ⟨wr.heap.size, 1, none⟩ = some (.bool opt) := BoxA.cell h94 1 _ rfl; have hzc := h94.lt; have hl2 := HR4.out.st.m.look Tryz.underlying114 (z := .nilFunc) (by kernel_rfl) HKL.out; rw [HCL.out, Option.getD_some] at hl2; clear hb4 h94)
        | (go_at_fn g; refine (HDO.out v HVLK.out.1 HVLK.out.2 w1.heap.size a' _ HR4.out.st.ptr HR4.out.a (HLB.out _ HR4.out.b).u).mono ?_; rintro e w5 ⟨rfl, hb5, hd5⟩; rw [HOK.out]; have HR5 := Lib.hid (HR4.out.sto hb5 hd5 (by omega) (by omega) hzz); clear hb5 hd5))
          go_roundw
          case rel =>
            refine ⟨i + 1, sto key v a', by go_num, by omega, HR5.out, ?_⟩
            rw [← HAR.out, HCR.out, if_neg HNO.out, if_pos HOK.out]
            rfl
          case measure => simp [intOf]; omega
        | false =>
          have HE := Lib.hid (show cE d = 140 by
            have h1 := HAR.out
            rw [HCR.out, if_neg HNO.out, if_neg (by rw [HOK.out]; decide)] at h1
            have h2 := HC.out
            rw [← h1] at h2
            unfold cE
            rw [← h2]
            rfl)
          go_wp2_with (first
        | (go_at_call 55; refine (HVK.out _ HR9.out.b).mono ?_; rintro e w3 ⟨rfl, hb3⟩; have HR3 := Lib.hid (HR9.out.next hb3); have h93 := H9.out.next hb3; have k0 : w3.cell? ⟨wr.heap.size, 0, none⟩ = some (.string (str key)) := BoxA.cell h93 0 _ rfl; have k1 : w3.cell? ⟨wr.heap.size, 1, none⟩ = some (.bool opt) := BoxA.cell h93 1 _ rfl; have hzb := h93.lt; have H93 := Lib.hid h93; clear hb3 h93)
        | (go_at_call 56; refine (omitted_any key opt v _).mono ?_; rintro e w4 ⟨rfl, hb4⟩; rw [HOM.out]; have HR4 := Lib.hid (HR3.out.next hb4); have h94 := H93.out.next hb4; have m0 : w4.cell? ⟨wr.heap.size, 0, none⟩ = some (.string (str key)) := BoxA.cell h94 0 _ rfl; have m1 : w4.cell? ⟨wr.heap.size, 1, none⟩ = some (.bool opt) := BoxA.cell h94 1 _ rfl; have hzc := h94.lt; have hl2 := HR4.out.st.m.look Tryz.underlying114 (z := .nilFunc) (by kernel_rfl) HKL.out; rw [HCL.out, Option.getD_some] at hl2; clear hb4 h94)
        | (go_at_fn g; refine (HDO.out v HVLK.out.1 HVLK.out.2 w1.heap.size a' _ HR4.out.st.ptr HR4.out.a (HLB.out _ HR4.out.b).u).mono ?_; rintro e w5 ⟨rfl, hb5, hd5⟩; rw [HOK.out]; have HR5 := Lib.hid (HR4.out.sto hb5 hd5 (by omega) (by omega) hzz); clear hb5 hd5))
          go_ret
          exact ⟨by rw [HE.out]; rfl, HR5.out.b⟩
    · obtain rfl : i = n := by omega
      have hfin : some a' = ans := by
        have := HAR.out
        rw [List.drop_of_length_le (by rw [HN.out]; exact Nat.le_refl _)] at this
        exact this
      have HFIN := Lib.hid (show decide (a' = d) = chk d by have := HC.out; rw [← hfin] at this; exact this)
      clear hfin
      have d0 : wr.cell? ⟨w.heap.size, 0, none⟩ = some (.int .u8 (d.kind : Nat)) := BoxA.cell HR.out.p 0 _ rfl
      have d1 : wr.cell? ⟨w.heap.size, 1, none⟩ = some (.string (str d.name)) := BoxA.cell HR.out.p 1 _ rfl
      have d2 : wr.cell? ⟨w.heap.size, 2, none⟩ = some (.string (str d.pool)) := BoxA.cell HR.out.p 2 _ rfl
      have d3 : wr.cell? ⟨w.heap.size, 3, none⟩ = some (.int .i64 d.size) := BoxA.cell HR.out.p 3 _ rfl
      have d4 : wr.cell? ⟨w.heap.size, 4, none⟩ = some (.bool d.opn) := BoxA.cell HR.out.p 4 _ rfl
      obtain ⟨a0, a1, a2, a3, a4⟩ := HR.out.a.cells
      have hne := dir_ne a' d
      unfold dV dcs at hne
      cases hq : decide (a' = d) with
      | true =>
        rw [hq] at hne HFIN
        have HE := Lib.hid (show cE d = 0 by unfold cE; rw [← HFIN.out]; rfl)
        clear hq
        go_wp2
        go_ret
        exact ⟨by rw [HE.out]; rfl, HR.out.b⟩
      | false =>
        rw [hq] at hne HFIN
        have HE := Lib.hid (show cE d = 140 by unfold cE; rw [← HFIN.out]; rfl)
        clear hq
        go_wp2
        go_ret
        exact ⟨by rw [HE.out]; rfl, HR.out.b⟩

theorem Check_any (d : Dir) (h : DW d) (w : World) (hL : LaidD w) : Calls Tryz.prog 53 #[dV d] w (Told (.int .i64 (cE d)) w) := by
  by_cases hk : 1 ≤ d.kind ∧ d.kind ≤ 6
  · exact check_yes d h hk w hL
  · exact check_no d h hk w
end Go.Proofs.YtpmghgfgbkncoaaGreatDoor.gn
end
section
set_option linter.unusedVariables false
namespace Go.Proofs.YtpmghgfgbkncoaaGreatDoor.gn
open Go.RowKit
open Go.Proofs.YtpmghgfgbkncoaaGreatDoor.un
open Go.Proofs.YtpmghgfgbkncoaaGreatDoor.di

/-- A kind's word; nothing, if there is no such kind. -/
def wd (k : Nat) : Tx := if 1 ≤ k ∧ k ≤ 6 then kw k else []
theorem wd_kw {k : Nat} (h : 1 ≤ k ∧ k ≤ 6) : wd k = kw k := by unfold wd; rw [if_pos h]

set_option maxRecDepth 100000 in
set_option maxHeartbeats 1600000 in
theorem dword_any (k : Nat) (h : 1 ≤ k ∧ k ≤ 6) (w : World) : Calls Tryz.prog 46 #[.int .u8 (k : Nat)] w (Told (.string (str (kw k))) w) := by
  have HB := Lib.hid (show Below w.heap.size w (w.alloc (.cells #[.string { data := #[] }, .string { data := #[106, 111, 98, 100, 119] }, .string { data := #[115, 116, 97, 103, 101, 95, 105, 110] }, .string { data := #[115, 116, 97, 103, 101, 95, 111, 117, 116] }, .string { data := #[99, 114, 101, 97, 116, 101, 95, 112, 101, 114, 115, 105, 115, 116, 101, 110, 116] }, .string { data := #[100, 101, 115, 116, 114, 111, 121, 95, 112, 101, 114, 115, 105, 115, 116, 101, 110, 116] }, .string { data := #[117, 115, 101, 95, 112, 101, 114, 115, 105, 115, 116, 101, 110, 116] }] 9)) from (Below.refl _ _).alloc (Nat.le_refl _) _)
  rcases six h with rfl | rfl | rfl | rfl | rfl | rfl
  all_goals
    go_enter Tryz.func46, Tryz.ntmps46
    go_wp2
    go_ret
    exact ⟨rfl, HB.out⟩
set_option maxRecDepth 100000 in
theorem dasks_any (k : Nat) (h : 1 ≤ k ∧ k ≤ 6) (w : World) : Calls Tryz.prog 47 #[.int .u8 (k : Nat)] w fun e w' => e = .returned (.tuple #[.bool (hasSize k), .bool (hasName k), .bool (hasPool k)]) ∧ w = w' := by
  rcases six h with rfl | rfl | rfl | rfl | rfl | rfl
  all_goals
    go_enter Tryz.func47, Tryz.ntmps47
    go_wp2
    go_ret3
    exact ⟨rfl, rfl⟩

/-! ### Words -/
/-- How Words stands ahead of byte i: S is told, from f on the next word begins. -/
structure WS (l : Tx) (i f : Nat) (S : List Tx) : Prop where
  fi : f ≤ i
  il : i ≤ l.length
  sp : words l = S ++ words (l.drop f)
  no : (32 : UInt8) ∉ (l.drop f).take (i - f)
theorem WS.start (l : Tx) : WS l 0 0 [] := ⟨Nat.le_refl _, Nat.zero_le _, rfl, by simp⟩
theorem WS.fin {l : Tx} {f : Nat} {S : List Tx} (h : WS l l.length f S) : words l = S ++ [l.drop f] := by
  have hn := h.no
  rw [List.take_of_length_le (by rw [List.length_drop]; exact Nat.le_refl _)] at hn
  rw [h.sp, words_one _ hn]
theorem WS.split {l : Tx} {i f : Nat} (hfi : f ≤ i) (hi : i < l.length) : l.drop f = (l.drop f).take (i - f) ++ l[i] :: l.drop (i + 1) := by
  have h1 := List.take_append_drop (i - f) (l.drop f)
  rw [List.drop_drop, show f + (i - f) = i by omega, List.drop_eq_getElem_cons hi] at h1
  exact h1.symm
theorem WS.hit {l : Tx} {i f : Nat} {S : List Tx} (h : WS l i f S) (hi : i < l.length) (hb : l[i] = 32) : WS l (i + 1) (i + 1) (S ++ [(l.drop f).take (i - f)]) := by
  refine ⟨Nat.le_refl _, by omega, ?_, by simp⟩
  have hs := WS.split h.fi hi
  rw [hb] at hs
  rw [h.sp, hs, words_app _ _ h.no, List.append_assoc]
  rw [← hs]
  rfl
theorem WS.miss {l : Tx} {i f : Nat} {S : List Tx} (h : WS l i f S) (hi : i < l.length) (hb : l[i] ≠ 32) : WS l (i + 1) f S := by
  have hf := h.fi
  refine ⟨by omega, by omega, h.sp, ?_⟩
  have hs := WS.split h.fi hi
  have ht : (l.drop f).take (i + 1 - f) = (l.drop f).take (i - f) ++ [l[i]] := by
    rw [show i + 1 - f = (i - f) + 1 by omega, List.take_add_one, List.getElem?_drop, show f + (i - f) = i by omega, List.getElem?_eq_getElem hi]
    rfl
  rw [ht]
  intro hm
  rcases List.mem_append.1 hm with hm | hm
  · exact h.no hm
  · simp only [List.mem_singleton] at hm
    exact hb hm.symm

/-- v is a new row of these words. -/
def Wds (B : Nat) (w : World) (v : Value) (L : List Tx) : Prop := ∃ g cap, v = .slice (some ⟨g, 0, none⟩) L.length cap ∧ Prts w g 0 L ∧ L.length ≤ cap ∧ B ≤ g
theorem Ss.wds {w : World} {B : Nat} {v : Value} {L : List Tx} (h : Ss w B v L) (hL : L ≠ []) : Wds B w v L := by
  have hc := fun g => World.ownsRow.cells h (g := g)
  have hlt := World.ownsRow.lt h
  rcases h.2 with ⟨rfl, hn⟩ | ⟨g, cap, cur, rfl, hB, _, h1, h2, _⟩
  · exact absurd (List.eq_nil_of_length_eq_zero hn) hL
  · refine ⟨g, cap, rfl, ⟨(hlt g rfl).2, fun i x hx => ?_⟩, h1, hB⟩
    have hadd : (⟨g, 0, none⟩ : Addr).add i = ⟨g, 0 + i, none⟩ := by unfold Addr.add; split <;> simp_all
    have := hc g rfl i (.string (str x)) (by simp [hx])
    rwa [hadd] at this

set_option maxRecDepth 100000 in
set_option maxHeartbeats 6400000 in
theorem Words_any (l : Tx) (hl : l.length ≤ 100000) (w : World) : Calls Tryz.prog 45 #[.string (str l)] w fun e w' => ∃ v, e = .returned v ∧ Wds w.heap.size w' v (words l) ∧ Below w.heap.size w w' := by
  have hz := str_size l
  have hz0 : (str l).size ≤ 100000 := by omega
  have HZ := Lib.hid hz
  have HS0 := Lib.hid (WS.start l)
  clear hz
  go_enter Tryz.func45, Tryz.ntmps45
  go_wp2
  go_loopw [3, 4, 5] (fun s3 s4 s5 wr => ∃ (i f : Nat) (S : List Tx) (A : Option Addr) (c n : Nat), s3 = .slice A n c ∧ s4 = .int .i64 f ∧ s5 = .int .i64 i ∧ i ≤ (str l).size + 1 ∧ f ≤ i ∧ n ≤ i ∧ Aside (Ss wr w.heap.size (.slice A n c) S ∧ n = S.length ∧ Below w.heap.size w wr ∧ (i ≤ l.length → WS l i f S) ∧ (l.length < i → S = words l))) (fun _ _ s5 _ => (str l).size + 1 - (intOf s5).toNat)
  case atStart => exact ⟨0, 0, [], none, 0, 0, rfl, rfl, rfl, by omega, Nat.le_refl _, Nat.le_refl _, Ss_nil _ _, rfl, Below.refl _ _, fun _ => HS0.out, fun h => by omega⟩
  case round =>
    obtain ⟨i, f, S, A, c, n, rfl, rfl, rfl, hi, hf, hn, hss, hnl, hbw, hr1, hr2⟩ := hrel
    have HSS := Lib.hid hss
    have HNL := Lib.hid hnl
    have HBW := Lib.hid hbw
    have HR1 := Lib.hid hr1
    have HR2 := Lib.hid hr2
    clear hss hnl hbw hr1 hr2
    by_cases h1 : i < (str l).size
    · have hil : i < l.length := by rw [← HZ.out]; exact h1
      have HWS := Lib.hid (HR1.out (by omega))
      have hge := str_at l i h1
      by_cases hb : l[i] = 32
      · have q1 : ((((str l)[i]'h1).toNat : Int) == 32) = true := by rw [hge, hb]; rfl
        have HH := Lib.hid (HWS.out.hit hil hb)
        have hsl := sl_mid l (f : Int) (i : Int) f (i - f) rfl (by omega) (by omega)
        have HXL := Lib.hid (show ((l.drop f).take (i - f)).length ≤ maxLen by rw [List.length_take, List.length_drop]; unfold maxLen; omega)
        obtain ⟨x, hx⟩ : ∃ x, (l.drop f).take (i - f) = x := ⟨_, rfl⟩
        rw [hx] at hsl HH HXL
        clear hx hb hge
        go_wp2_with (at_builtin; refine wpList_append_strs rfl _ _ rfl w.heap.size _ _ S [x] rfl (HSS.out.kept ((Below.refl _ wr).alloc (Nat.le_refl _) (.cells #[.string (str x)] 9))) rfl ⟨strs_new wr x HXL.out, fun n c e => by cases e⟩ (by have := HNL.out; simp; omega) (by have := HBW.out.size; simp; omega) ?_; intro A2 c2 n2 w2 hn2 hs2 hg2 ha2; have HS2 := Lib.hid hs2; have HN2 := Lib.hid hn2; have HG2 := Lib.hid hg2; clear hn2 hs2 hg2 ha2)
        go_roundw
        case rel =>
          refine ⟨i + 1, i + 1, S ++ [x], A2, c2, n2, rfl, by go_num, by go_num, by omega, Nat.le_refl _, by have := HNL.out; have := HN2.out; simp at this; omega, HS2.out, by rw [HN2.out, List.length_append], ?_, fun _ => HH.out, fun h => by omega⟩
          exact (HBW.out.alloc HBW.out.size _).grown HG2.out (Nat.le_trans HBW.out.size (by simp)) (fun j hj => (World.ownsRow.lt HSS.out j hj).1)
        case measure => simp [intOf]; omega
      · have q1 : ((((str l)[i]'h1).toNat : Int) == 32) = false := by
          rw [hge, beq_eq_false_iff_ne]
          intro e
          exact hb (UInt8.toNat_inj.1 (by have : ((l[i]'hil).toNat : Int) = ((32 : UInt8).toNat : Int) := e; omega))
        have HH := Lib.hid (HWS.out.miss hil hb)
        clear hb hge
        go_wp2
        go_roundw
        case rel => exact ⟨i + 1, f, S, A, c, n, rfl, rfl, by go_num, by omega, by omega, by omega, HSS.out, HNL.out, HBW.out, fun _ => HH.out, fun h => by omega⟩
        case measure => simp [intOf]; omega
    · by_cases h2 : i = (str l).size
      · subst h2
        have hel : (str l).size = l.length := HZ.out
        have HWS := Lib.hid (show WS l l.length f S from by have := HR1.out (by omega); rwa [hel] at this)
        have HFI := Lib.hid HWS.out.fin
        have hfl := HWS.out.fi
        have hsl := sl_from l (f : Int) f rfl hfl
        have HXL := Lib.hid (show (l.drop f).length ≤ maxLen by rw [List.length_drop]; unfold maxLen; omega)
        obtain ⟨x, hx⟩ : ∃ x, l.drop f = x := ⟨_, rfl⟩
        rw [hx] at hsl HFI HXL
        clear hx hfl
        have HEL := Lib.hid hel
        clear hel
        go_wp2_with (at_builtin; refine wpList_append_strs rfl _ _ rfl w.heap.size _ _ S [x] rfl (HSS.out.kept ((Below.refl _ wr).alloc (Nat.le_refl _) (.cells #[.string (str x)] 9))) rfl ⟨strs_new wr x HXL.out, fun n c e => by cases e⟩ (by have := HNL.out; simp; omega) (by have := HBW.out.size; simp; omega) ?_; intro A2 c2 n2 w2 hn2 hs2 hg2 ha2; have HS2 := Lib.hid hs2; have HN2 := Lib.hid hn2; have HG2 := Lib.hid hg2; clear hn2 hs2 hg2 ha2)
        go_roundw
        case rel =>
          refine ⟨(str l).size + 1, f, S ++ [x], A2, c2, n2, rfl, rfl, by go_num, Nat.le_refl _, by omega, by have := HNL.out; have := HN2.out; simp at this; omega, HS2.out, by rw [HN2.out, List.length_append], ?_, fun h => by have := HEL.out; omega, fun _ => HFI.out.symm⟩
          exact (HBW.out.alloc HBW.out.size _).grown HG2.out (Nat.le_trans HBW.out.size (by simp)) (fun j hj => (World.ownsRow.lt HSS.out j hj).1)
        case measure => simp [intOf]
      · obtain rfl : i = (str l).size + 1 := by omega
        have HSW := Lib.hid (HR2.out (by have := HZ.out; omega))
        go_wp2
        go_ret
        refine ⟨_, rfl, ?_, HBW.out⟩
        have hs := HSS.out
        rw [HSW.out] at hs
        exact hs.wds (words_ne l)
end Go.Proofs.YtpmghgfgbkncoaaGreatDoor.gn
end
