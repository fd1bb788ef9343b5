/- The contract of slip.Check. -/
import Derived.Test.YtekcjfdllclphaaGreatDoorMSlK
import Derived.Test.YtekcjfdllclphaaGreatDoorMSlJ
section
set_option linter.unusedVariables false
set_option linter.unusedSimpArgs false
namespace Go.Proofs.YtekcjfdllclphaaGreatDoor.gn
open Go.RowKit
open Go.Proofs.YtekcjfdllclphaaGreatDoor.un
open Go.Proofs.YtekcjfdllclphaaGreatDoor.di
open Go.Proofs.YtekcjfdllclphaaGreatDoor.sp (Slip shortP soundP waitsP storedP apartP dirsP dropD useD capD innD outD chkS chkS_P)

def sE (x : Slip) : Int := if chkS x = true then 0 else 150
/-- Twelve cells of a box. -/
structure Cel (W : World) (B : Nat) (x : Slip) (g : Gh) : Prop where
  c0 : W.cell? ⟨B, 0, none⟩ = some (.string (str x.user))
  c1 : W.cell? ⟨B, 1, none⟩ = some (.int .i64 x.nodes)
  c2 : W.cell? ⟨B, 2, none⟩ = some (.int .i64 x.wall)
  c3 : W.cell? ⟨B, 3, none⟩ = some (.int .i64 x.qos)
  c4 : W.cell? ⟨B, 4, none⟩ = some g.a
  c5 : W.cell? ⟨B, 5, none⟩ = some (.int .i64 x.cap)
  c6 : W.cell? ⟨B, 6, none⟩ = some (.int .i64 x.inn)
  c7 : W.cell? ⟨B, 7, none⟩ = some (.int .i64 x.out)
  c8 : W.cell? ⟨B, 8, none⟩ = some (.string (str x.pool))
  c9 : W.cell? ⟨B, 9, none⟩ = some g.m
  c10 : W.cell? ⟨B, 10, none⟩ = some g.d
  c11 : W.cell? ⟨B, 11, none⟩ = some g.u
  lt : B < W.heap.size
theorem cel_box {W : World} {B : Nat} {x : Slip} {g : Gh} {t : TypeId} (h : BoxA W B t (scs x g)) : Cel W B x g :=
  ⟨h.cell 0 _, h.cell 1 _, h.cell 2 _, h.cell 3 _, h.cell 4 _, h.cell 5 _, h.cell 6 _, h.cell 7 _, h.cell 8 _, h.cell 9 _, h.cell 10 _, h.cell 11 _, h.lt⟩

set_option maxRecDepth 100000 in
set_option maxHeartbeats 8000000 in
theorem Check_slip (x : Slip) (g : Gh) (w : World) (h : SR w x g) (hW : SW x) (hL : LaidD w) : Calls Tryz.prog 35 #[sV x g] w (Told (.int .i64 (sE x)) w) := by
  have HP := Lib.hid (chkS_P x)
  obtain ⟨wb, hwb⟩ : ∃ wb, w.alloc (.cells (scs x g) 27) = wb := ⟨_, rfl⟩
  have hbx : BoxA wb w.heap.size 27 (scs x g) := by rw [← hwb]; exact BoxA.new _ _ _
  have hB1 : Below w.heap.size w wb := by rw [← hwb]; exact (Below.refl _ _).alloc (Nat.le_refl _) _
  have HB1 := Lib.hid hB1
  have HWB := Lib.hid hwb
  have HCE := Lib.hid (fun (W : World) (hb : Below wb.heap.size wb W) => cel_box (hbx.next hb))
  have hsr := fun (W : World) (hb : Below wb.heap.size wb W) => (h.next hB1).next hb
  have HF1 := Lib.hid (fun (W : World) (hb : Below wb.heap.size wb W) => short_any x g W (hsr W hb))
  have HF2 := Lib.hid (fun (W : World) (hb : Below wb.heap.size wb W) => sound_any x g W hW)
  have few : shortP x = true → x.after.length ≤ 8 ∧ x.make.length ≤ 4 ∧ x.drop.length ≤ 4 ∧ x.use.length ≤ 4 := fun hs => by unfold shortP at hs; exact of_decide_eq_true hs
  have HF3 := Lib.hid (fun (hs : shortP x = true) (W : World) (hb : Below wb.heap.size wb W) => waits_any x.after g.a W (hsr W hb).a (by have := few hs; omega))
  have HF4 := Lib.hid (fun (hs : shortP x = true) (W : World) (hb : Below wb.heap.size wb W) => stored_any x g W (hsr W hb) hW (by have := few hs; omega) (by have := few hs; omega) (by have := few hs; omega) (hL.next (hB1.trans (hb.mono hB1.size))))
  have HF5 := Lib.hid (fun (hs : shortP x = true) (W : World) (hb : Below wb.heap.size wb W) => apart_any x g W (hsr W hb) (by have := few hs; omega) (by have := few hs; omega))
  have HE := Lib.hid (show sE x = if chkS x = true then 0 else 150 from rfl)
  clear h hW hL hbx hB1 hwb hsr few
  obtain ⟨va, vm, vd, vu⟩ := g
  obtain ⟨us, nodes, wall, qos, after, cap, inn, out, pool, mk, dr, use⟩ := x
  unfold sV scs at *
  dsimp only at *
  generalize sE _ = se at *
  generalize hs1 : shortP _ = b1 at *
  generalize soundP _ = b2 at *
  generalize waitsP _ = b3 at *
  generalize storedP _ = b4 at *
  generalize apartP _ = b5 at *
  clear hs1
  obtain ⟨c0, c1, c2, c3, c4, c5, c6, c7, c8, c9, c10, c11, hlt⟩ := HCE.out wb (Below.refl _ _)
  dsimp only at c0 c1 c2 c3 c4 c5 c6 c7 c8 c9 c10 c11
  go_enter Tryz.func35, Tryz.ntmps35
  go_upto_region 1 with fail
  rw [HWB.out]
  cases b1 with
  | false =>
    have HR := Lib.hid (show se = 150 by rw [HE.out, HP.out]; rfl)
    go_wp2_with ((go_at_call 57; ((with_reducible refine (HF1.out _ (Below.refl _ _)).mono ?_); rintro e w1 ⟨rfl, hb⟩); have A1 := Lib.hid (show Below wb.heap.size wb w1 from hb); obtain ⟨d0, d1, d2, d3, d4, d5, d6, d7, d8, d9, d10, d11, dlt⟩ := HCE.out _ A1.out; dsimp only at d0 d1 d2 d3 d4 d5 d6 d7 d8 d9 d10 d11; clear hb))
    go_ret
    exact ⟨by rw [HR.out]; rfl, HB1.out.trans (A1.out.mono HB1.out.size)⟩
  | true =>
    cases b2 with
    | false =>
      have HR := Lib.hid (show se = 150 by rw [HE.out, HP.out]; rfl)
      go_wp2_with (first
        | (go_at_call 57; ((with_reducible refine (HF1.out _ (Below.refl _ _)).mono ?_); rintro e w1 ⟨rfl, hb⟩); have A1 := Lib.hid (show Below wb.heap.size wb w1 from hb); obtain ⟨d0, d1, d2, d3, d4, d5, d6, d7, d8, d9, d10, d11, dlt⟩ := HCE.out _ A1.out; dsimp only at d0 d1 d2 d3 d4 d5 d6 d7 d8 d9 d10 d11; clear hb)
        | (go_at_call 58; ((with_reducible refine (HF2.out _ A1.out).mono ?_); rintro e w2 ⟨rfl, hb⟩); have A2 := Lib.hid (show Below wb.heap.size wb w2 from (A1.out.trans (hb.mono A1.out.size))); obtain ⟨d0, d1, d2, d3, d4, d5, d6, d7, d8, d9, d10, d11, dlt⟩ := HCE.out _ A2.out; dsimp only at d0 d1 d2 d3 d4 d5 d6 d7 d8 d9 d10 d11; clear hb))
      go_ret
      exact ⟨by rw [HR.out]; rfl, HB1.out.trans (A2.out.mono HB1.out.size)⟩
    | true =>
      cases b3 with
      | false =>
        have HR := Lib.hid (show se = 150 by rw [HE.out, HP.out]; rfl)
        go_wp2_with (first
          | (go_at_call 57; ((with_reducible refine (HF1.out _ (Below.refl _ _)).mono ?_); rintro e w1 ⟨rfl, hb⟩); have A1 := Lib.hid (show Below wb.heap.size wb w1 from hb); obtain ⟨d0, d1, d2, d3, d4, d5, d6, d7, d8, d9, d10, d11, dlt⟩ := HCE.out _ A1.out; dsimp only at d0 d1 d2 d3 d4 d5 d6 d7 d8 d9 d10 d11; clear hb)
          | (go_at_call 58; ((with_reducible refine (HF2.out _ A1.out).mono ?_); rintro e w2 ⟨rfl, hb⟩); have A2 := Lib.hid (show Below wb.heap.size wb w2 from (A1.out.trans (hb.mono A1.out.size))); obtain ⟨d0, d1, d2, d3, d4, d5, d6, d7, d8, d9, d10, d11, dlt⟩ := HCE.out _ A2.out; dsimp only at d0 d1 d2 d3 d4 d5 d6 d7 d8 d9 d10 d11; clear hb)
          | (go_at_call 59; ((with_reducible refine (HF3.out (by trivial) _ A2.out).mono ?_); rintro e w3 ⟨rfl, hb⟩); have A3 := Lib.hid (show Below wb.heap.size wb w3 from (A2.out.trans (hb.mono A2.out.size))); obtain ⟨d0, d1, d2, d3, d4, d5, d6, d7, d8, d9, d10, d11, dlt⟩ := HCE.out _ A3.out; dsimp only at d0 d1 d2 d3 d4 d5 d6 d7 d8 d9 d10 d11; clear hb))
        go_ret
        exact ⟨by rw [HR.out]; rfl, HB1.out.trans (A3.out.mono HB1.out.size)⟩
      | true =>
        cases b4 with
        | false =>
          have HR := Lib.hid (show se = 150 by rw [HE.out, HP.out]; rfl)
          go_wp2_with (first
            | (go_at_call 57; ((with_reducible refine (HF1.out _ (Below.refl _ _)).mono ?_); rintro e w1 ⟨rfl, hb⟩); have A1 := Lib.hid (show Below wb.heap.size wb w1 from hb); obtain ⟨d0, d1, d2, d3, d4, d5, d6, d7, d8, d9, d10, d11, dlt⟩ := HCE.out _ A1.out; dsimp only at d0 d1 d2 d3 d4 d5 d6 d7 d8 d9 d10 d11; clear hb)
            | (go_at_call 58; ((with_reducible refine (HF2.out _ A1.out).mono ?_); rintro e w2 ⟨rfl, hb⟩); have A2 := Lib.hid (show Below wb.heap.size wb w2 from (A1.out.trans (hb.mono A1.out.size))); obtain ⟨d0, d1, d2, d3, d4, d5, d6, d7, d8, d9, d10, d11, dlt⟩ := HCE.out _ A2.out; dsimp only at d0 d1 d2 d3 d4 d5 d6 d7 d8 d9 d10 d11; clear hb)
            | (go_at_call 59; ((with_reducible refine (HF3.out (by trivial) _ A2.out).mono ?_); rintro e w3 ⟨rfl, hb⟩); have A3 := Lib.hid (show Below wb.heap.size wb w3 from (A2.out.trans (hb.mono A2.out.size))); obtain ⟨d0, d1, d2, d3, d4, d5, d6, d7, d8, d9, d10, d11, dlt⟩ := HCE.out _ A3.out; dsimp only at d0 d1 d2 d3 d4 d5 d6 d7 d8 d9 d10 d11; clear hb)
            | (go_at_call 60; ((with_reducible refine (HF4.out (by trivial) _ A3.out).mono ?_); rintro e w4 ⟨rfl, hb⟩); have A4 := Lib.hid (show Below wb.heap.size wb w4 from (A3.out.trans (hb.mono A3.out.size))); obtain ⟨d0, d1, d2, d3, d4, d5, d6, d7, d8, d9, d10, d11, dlt⟩ := HCE.out _ A4.out; dsimp only at d0 d1 d2 d3 d4 d5 d6 d7 d8 d9 d10 d11; clear hb))
          go_ret
          exact ⟨by rw [HR.out]; rfl, HB1.out.trans (A4.out.mono HB1.out.size)⟩
        | true =>
          cases b5 with
          | false =>
            have HR := Lib.hid (show se = 150 by rw [HE.out, HP.out]; rfl)
            go_wp2_with (first
              | (go_at_call 57; ((with_reducible refine (HF1.out _ (Below.refl _ _)).mono ?_); rintro e w1 ⟨rfl, hb⟩); have A1 := Lib.hid (show Below wb.heap.size wb w1 from hb); obtain ⟨d0, d1, d2, d3, d4, d5, d6, d7, d8, d9, d10, d11, dlt⟩ := HCE.out _ A1.out; dsimp only at d0 d1 d2 d3 d4 d5 d6 d7 d8 d9 d10 d11; clear hb)
              | (go_at_call 58; ((with_reducible refine (HF2.out _ A1.out).mono ?_); rintro e w2 ⟨rfl, hb⟩); have A2 := Lib.hid (show Below wb.heap.size wb w2 from (A1.out.trans (hb.mono A1.out.size))); obtain ⟨d0, d1, d2, d3, d4, d5, d6, d7, d8, d9, d10, d11, dlt⟩ := HCE.out _ A2.out; dsimp only at d0 d1 d2 d3 d4 d5 d6 d7 d8 d9 d10 d11; clear hb)
              | (go_at_call 59; ((with_reducible refine (HF3.out (by trivial) _ A2.out).mono ?_); rintro e w3 ⟨rfl, hb⟩); have A3 := Lib.hid (show Below wb.heap.size wb w3 from (A2.out.trans (hb.mono A2.out.size))); obtain ⟨d0, d1, d2, d3, d4, d5, d6, d7, d8, d9, d10, d11, dlt⟩ := HCE.out _ A3.out; dsimp only at d0 d1 d2 d3 d4 d5 d6 d7 d8 d9 d10 d11; clear hb)
              | (go_at_call 60; ((with_reducible refine (HF4.out (by trivial) _ A3.out).mono ?_); rintro e w4 ⟨rfl, hb⟩); have A4 := Lib.hid (show Below wb.heap.size wb w4 from (A3.out.trans (hb.mono A3.out.size))); obtain ⟨d0, d1, d2, d3, d4, d5, d6, d7, d8, d9, d10, d11, dlt⟩ := HCE.out _ A4.out; dsimp only at d0 d1 d2 d3 d4 d5 d6 d7 d8 d9 d10 d11; clear hb)
              | (go_at_call 61; ((with_reducible refine (HF5.out (by trivial) _ A4.out).mono ?_); rintro e w5 ⟨rfl, hb⟩); have A5 := Lib.hid (show Below wb.heap.size wb w5 from (A4.out.trans (hb.mono A4.out.size))); obtain ⟨d0, d1, d2, d3, d4, d5, d6, d7, d8, d9, d10, d11, dlt⟩ := HCE.out _ A5.out; dsimp only at d0 d1 d2 d3 d4 d5 d6 d7 d8 d9 d10 d11; clear hb))
            go_ret
            exact ⟨by rw [HR.out]; rfl, HB1.out.trans (A5.out.mono HB1.out.size)⟩
          | true =>
            have HR := Lib.hid (show se = 0 by rw [HE.out, HP.out]; rfl)
            go_wp2_with (first
              | (go_at_call 57; ((with_reducible refine (HF1.out _ (Below.refl _ _)).mono ?_); rintro e w1 ⟨rfl, hb⟩); have A1 := Lib.hid (show Below wb.heap.size wb w1 from hb); obtain ⟨d0, d1, d2, d3, d4, d5, d6, d7, d8, d9, d10, d11, dlt⟩ := HCE.out _ A1.out; dsimp only at d0 d1 d2 d3 d4 d5 d6 d7 d8 d9 d10 d11; clear hb)
              | (go_at_call 58; ((with_reducible refine (HF2.out _ A1.out).mono ?_); rintro e w2 ⟨rfl, hb⟩); have A2 := Lib.hid (show Below wb.heap.size wb w2 from (A1.out.trans (hb.mono A1.out.size))); obtain ⟨d0, d1, d2, d3, d4, d5, d6, d7, d8, d9, d10, d11, dlt⟩ := HCE.out _ A2.out; dsimp only at d0 d1 d2 d3 d4 d5 d6 d7 d8 d9 d10 d11; clear hb)
              | (go_at_call 59; ((with_reducible refine (HF3.out (by trivial) _ A2.out).mono ?_); rintro e w3 ⟨rfl, hb⟩); have A3 := Lib.hid (show Below wb.heap.size wb w3 from (A2.out.trans (hb.mono A2.out.size))); obtain ⟨d0, d1, d2, d3, d4, d5, d6, d7, d8, d9, d10, d11, dlt⟩ := HCE.out _ A3.out; dsimp only at d0 d1 d2 d3 d4 d5 d6 d7 d8 d9 d10 d11; clear hb)
              | (go_at_call 60; ((with_reducible refine (HF4.out (by trivial) _ A3.out).mono ?_); rintro e w4 ⟨rfl, hb⟩); have A4 := Lib.hid (show Below wb.heap.size wb w4 from (A3.out.trans (hb.mono A3.out.size))); obtain ⟨d0, d1, d2, d3, d4, d5, d6, d7, d8, d9, d10, d11, dlt⟩ := HCE.out _ A4.out; dsimp only at d0 d1 d2 d3 d4 d5 d6 d7 d8 d9 d10 d11; clear hb)
              | (go_at_call 61; ((with_reducible refine (HF5.out (by trivial) _ A4.out).mono ?_); rintro e w5 ⟨rfl, hb⟩); have A5 := Lib.hid (show Below wb.heap.size wb w5 from (A4.out.trans (hb.mono A4.out.size))); obtain ⟨d0, d1, d2, d3, d4, d5, d6, d7, d8, d9, d10, d11, dlt⟩ := HCE.out _ A5.out; dsimp only at d0 d1 d2 d3 d4 d5 d6 d7 d8 d9 d10 d11; clear hb))
            go_ret
            exact ⟨by rw [HR.out]; rfl, HB1.out.trans (A5.out.mono HB1.out.size)⟩
end Go.Proofs.YtekcjfdllclphaaGreatDoor.gn
end
section
set_option linter.unusedVariables false
set_option linter.unusedSimpArgs false
namespace Go.Proofs.YtekcjfdllclphaaGreatDoor.gn
open Go.RowKit
open Go.Proofs.YtekcjfdllclphaaGreatDoor.un
open Go.Proofs.YtekcjfdllclphaaGreatDoor.di
open Go.Proofs.YtekcjfdllclphaaGreatDoor.sp (Slip cuts cutB within? dep? fput frun first? userK nodesK wallK qosK afterK okW anyW jobW pput pline pread chkS Ok shortP soundP waitsP storedP apartP dirsP dropD useD capD innD outD txtS line1 dirsS sread fldB fldB_len cutB_lib cuts_len cuts_mem_len countB_cuts splitB_cuts cuts_ne words_cuts)

/-! ### the methods, by their keys -/
def meth (g : FuncId) (R : Nat) : Value := .func (.func g) #[.pointer (some ⟨R, 0, none⟩)] #[]
def mth (R : Nat) (j : Tx) : Option Value :=
  if j = afterK then some (meth 135 R) else if j = qosK then some (meth 134 R) else if j = wallK then some (meth 133 R)
  else if j = nodesK then some (meth 132 R) else if j = userK then some (meth 131 R) else none
theorem mth_none {R : Nat} {j : Tx} (h : mth R j = none) (x : Slip) (v : Tx) : fput x (j, v) = none := by
  unfold mth at h
  by_cases h1 : j = afterK
  · rw [if_pos h1] at h; cases h
  rw [if_neg h1] at h
  by_cases h2 : j = qosK
  · rw [if_pos h2] at h; cases h
  rw [if_neg h2] at h
  by_cases h3 : j = wallK
  · rw [if_pos h3] at h; cases h
  rw [if_neg h3] at h
  by_cases h4 : j = nodesK
  · rw [if_pos h4] at h; cases h
  rw [if_neg h4] at h
  by_cases h5 : j = userK
  · rw [if_pos h5] at h; cases h
  unfold fput
  rw [if_neg h5, if_neg h4, if_neg h3, if_neg h2, if_neg h1]
theorem mth_call {j : Tx} {R : Nat} {m : Value} (h : mth R j = some m) : ∃ q, m = meth q R ∧ (∀ (x y : Value) (W : World), (callFunc q #[x, y]).run Tryz.prog W = .ok (.enter q #[x, y]) W) ∧
    ∀ (v : Tx) (hv : v.length ≤ 20000) (W : World) (x : Slip) (line : Int) (g : Gh), Rdr W R x line g → (j = afterK → x.after = []) → LaidB R W → Calls Tryz.prog q #[.pointer (some ⟨R, 0, none⟩), .string (str v)] W (StoT2 R g (fput x (j, v)) line W) := by
  unfold mth at h
  by_cases h1 : j = afterK
  · rw [if_pos h1] at h
    subst h1
    cases h
    refine ⟨_, rfl, fun x y W => by kernel_rfl, fun v hv W x line g hr ha hL => ?_⟩
    have := after_any hr v hv (by rw [ha rfl]; exact Nat.zero_le _) hL
    have e : fput x (afterK, v) = ((cuts 44 v).mapM dep?).map fun l => { x with after := x.after ++ l } := by
      unfold fput
      rw [if_neg (show ¬ afterK = userK by decide), if_neg (show ¬ afterK = nodesK by decide), if_neg (show ¬ afterK = wallK by decide), if_neg (show ¬ afterK = qosK by decide), if_pos rfl, ha rfl]
      rfl
    rw [e]
    exact this
  rw [if_neg h1] at h
  by_cases h2 : j = qosK
  · rw [if_pos h2] at h
    subst h2
    cases h
    exact ⟨_, rfl, fun x y W => by kernel_rfl, fun v hv W x line g hr _ hL => qos_any hr v (by omega) hL.here.u⟩
  rw [if_neg h2] at h
  by_cases h3 : j = wallK
  · rw [if_pos h3] at h
    subst h3
    cases h
    exact ⟨_, rfl, fun x y W => by kernel_rfl, fun v hv W x line g hr _ hL => wall_any hr v (by omega) hL.here.u⟩
  rw [if_neg h3] at h
  by_cases h4 : j = nodesK
  · rw [if_pos h4] at h
    subst h4
    cases h
    exact ⟨_, rfl, fun x y W => by kernel_rfl, fun v hv W x line g hr _ hL => nodes_any hr v (by omega) hL.here.u⟩
  rw [if_neg h4] at h
  by_cases h5 : j = userK
  · rw [if_pos h5] at h
    subst h5
    cases h
    exact ⟨_, rfl, fun x y W => by kernel_rfl, fun v hv W x line g hr _ hL => user_any hr v (by omega)⟩
  rw [if_neg h5] at h
  cases h

set_option maxRecDepth 100000 in
set_option maxHeartbeats 3200000 in
theorem fields_any (R : Nat) (w : World) : Calls Tryz.prog 108 #[.pointer (some ⟨R, 0, none⟩)] w fun e w' => ∃ L, e = .returned (.map (some w.heap.size)) ∧ MapV w' w.heap.size L ∧ (∀ j, fi.get j L = mth R j) ∧ Below w.heap.size w w' := by
  have ht := Tryz.underlying143
  have y0 : Below w.heap.size w (w.alloc (.map #[] 0)) := (Below.refl _ _).alloc (Nat.le_refl _) _
  have m0 := MapV.new w
  have l0 : ([] : List (Tx × Value)).length ≤ 0 := Nat.le_refl _
  obtain ⟨v1, L1, r1, m1, l1, q1, g1⟩ := m0.put2 l0 (k := userK) ht (by decide) (by decide) (meth 131 R)
  obtain ⟨v2, L2, r2, m2, l2, q2, g2⟩ := m1.put2 l1 (k := nodesK) ht (by decide) (by decide) (meth 132 R)
  obtain ⟨v3, L3, r3, m3, l3, q3, g3⟩ := m2.put2 l2 (k := wallK) ht (by decide) (by decide) (meth 133 R)
  obtain ⟨v4, L4, r4, m4, l4, q4, g4⟩ := m3.put2 l3 (k := qosK) ht (by decide) (by decide) (meth 134 R)
  obtain ⟨v5, L5, r5, m5, l5, q5, g5⟩ := m4.put2 l4 (k := afterK) ht (by decide) (by decide) (meth 135 R)
  have hg : But w.heap.size (w.alloc (.map #[] 0)) v5 := (((g1.trans g2).trans g3).trans g4).trans g5
  have HB := Lib.hid (y0.grown hg y0.size (fun j hj => by cases hj; exact Nat.le_refl _))
  have HM := Lib.hid m5
  have HG := Lib.hid (show ∀ j, fi.get j L5 = mth R j from fun j => by rw [q5, q4, q3, q2, q1]; rfl)
  have u1 : (Instr.mapUpdate 143 (.map (some w.heap.size)) (.string { data := #[117, 115, 101, 114] }) (.func (.func 131) #[.pointer (some ⟨R, 0, none⟩)] #[])).run Tryz.prog (w.alloc (.map #[] 0)) = .ok () v1 := r1
  have u2 : (Instr.mapUpdate 143 (.map (some w.heap.size)) (.string { data := #[110, 111, 100, 101, 115] }) (.func (.func 132) #[.pointer (some ⟨R, 0, none⟩)] #[])).run Tryz.prog v1 = .ok () v2 := r2
  have u3 : (Instr.mapUpdate 143 (.map (some w.heap.size)) (.string { data := #[119, 97, 108, 108] }) (.func (.func 133) #[.pointer (some ⟨R, 0, none⟩)] #[])).run Tryz.prog v2 = .ok () v3 := r3
  have u4 : (Instr.mapUpdate 143 (.map (some w.heap.size)) (.string { data := #[113, 111, 115] }) (.func (.func 134) #[.pointer (some ⟨R, 0, none⟩)] #[])).run Tryz.prog v3 = .ok () v4 := r4
  have u5 : (Instr.mapUpdate 143 (.map (some w.heap.size)) (.string { data := #[97, 102, 116, 101, 114] }) (.func (.func 135) #[.pointer (some ⟨R, 0, none⟩)] #[])).run Tryz.prog v4 = .ok () v5 := r5
  have hmm := @run_makeMap Tryz.prog
  have hmf : ∀ (fn : Fn) (first cap : Array Value) (w : World), (Instr.makeFunc fn first cap).run Tryz.prog w = .ok (.func fn first cap) w := fun _ _ _ _ => rfl
  clear y0 m0 l0 r1 r2 r3 r4 r5 m1 m2 m3 m4 m5 l1 l2 l3 l4 l5 q1 q2 q3 q4 q5 g1 g2 g3 g4 g5 hg
  go_enter Tryz.func108, Tryz.ntmps108
  go_wp2
  go_ret
  exact ⟨_, rfl, HM.out, HG.out, HB.out⟩

/-! ### the first line -/
theorem frun_app : ∀ (a : List Tx) (s : Slip × List Tx) (b : List Tx), frun s (a ++ b) = match frun s a with
    | some t => frun t b
    | none => none
  | [], s, b => rfl
  | w :: a, s, b => by
    have ih := fun t => frun_app a t b
    rw [List.cons_append, frun, frun]
    cases cut w with
    | none => rfl
    | some f =>
      dsimp only
      split
      · rfl
      · cases fput s.1 f with
        | none => rfl
        | some y => exact ih _
theorem frun_one (s : Slip × List Tx) (w : Tx) : frun s [w] = match cut w with
    | none => none
    | some f => if f.1 ∈ s.2 then none else match fput s.1 f with
      | none => none
      | some y => some (y, s.2 ++ [f.1]) := by
  rw [frun]
  cases cut w with
  | none => rfl
  | some f =>
    dsimp only
    split
    · rfl
    · cases fput s.1 f <;> rfl
theorem frun_take {s t : Slip × List Tx} {ws : List Tx} {k : Nat} {w : Tx} (h : frun s (ws.take k) = some t) (hw : ws[k]? = some w) : frun s (ws.take (k + 1)) = frun t [w] := by
  rw [List.take_add_one, hw, frun_app, h]
  rfl
theorem frun_bad {s : Slip × List Tx} {ws : List Tx} {k : Nat} (h : frun s (ws.take k) = none) : frun s ws = none := by
  rw [← List.take_append_drop k ws, frun_app, h]
theorem first_bad {l j : Tx} {ws : List Tx} (hc : cuts 32 l = j :: ws) (h : frun (Slip.zero, []) ws = none) : first? l = none := by
  unfold first?
  rw [hc]
  dsimp only
  rw [h]
  split <;> rfl
theorem first_word {l j : Tx} {ws : List Tx} (hc : cuts 32 l = j :: ws) (h : ¬ j = jobW) : first? l = none := by
  unfold first?
  rw [hc]
  dsimp only
  rw [if_neg h]
theorem first_end {l : Tx} {ws : List Tx} {t : Slip × List Tx} (hc : cuts 32 l = jobW :: ws) (h : frun (Slip.zero, []) ws = some t) : first? l = if userK ∈ t.2 ∧ nodesK ∈ t.2 ∧ wallK ∈ t.2 then some t.1 else none := by
  unfold first?
  rw [hc]
  dsimp only
  rw [if_pos rfl, h]

set_option maxRecDepth 100000 in
theorem slice_one {w : World} {p nl : Nat} {ws : List Tx} (h : Prts w p 1 ws) (hn : nl - 1 = ws.length) (h2 : 1 ≤ nl) :
    ∃ o, Prts w p o ws ∧ ∀ W, (Instr.slice 25 (.slice (some ⟨p, 0, none⟩) nl nl) (some (.int .i64 1)) none none).run Tryz.prog W = .ok (.slice (some ⟨p, o, none⟩) (nl - 1) (nl - 1)) W := by
  have hz : ∀ W, (sizeOf (Tryz.prog.elem 25)).run Tryz.prog W = .ok 1 W := fun W => by kernel_rfl
  have hr : ∀ W, (Instr.slice 25 (.slice (some ⟨p, 0, none⟩) nl nl) (some (.int .i64 1)) none none).run Tryz.prog W = .ok (sliced (some ⟨p, 0, none⟩) 1 nl nl 1) W := fun W => by
    rw [run_slice_l W 25 _ nl nl Tryz.underlying25 .i64 1 (by omega) (by omega), hz]
    rfl
  by_cases he : nl = 1
  · refine ⟨0, ⟨h.1, fun i x hx => ?_⟩, fun W => ?_⟩
    · have : ws = [] := List.eq_nil_of_length_eq_zero (by omega)
      rw [this] at hx
      simp at hx
    · rw [hr, sliced, if_pos he]
  · refine ⟨1, h, fun W => ?_⟩
    rw [hr, sliced, if_neg he]
    rfl

/-- How job stands ahead of field k. -/
structure JbS (w : World) (pB o mB R : Nat) (line : Int) (g : Gh) (ws : List Tx) (k : Nat) (y : Slip) (seen : List Tx) (g' : Gh) (Lm : List (Tx × Value)) (W : World) : Prop where
  hm : frun (Slip.zero, []) (ws.take k) = some (y, seen)
  r : Rdr W R y line g'
  kp : Kp R g g' w W
  p : Prts W pB o ws
  np : ¬ Mr R g' pB
  m : MapV W mB Lm
  get : ∀ j, fi.get j Lm = if j ∈ seen then none else mth R j
  nm : ¬ Mr R g' mB
  ne : pB ≠ mB
  af : afterK ∉ seen → y.after = []
  hw : w.heap.size ≤ mB
  rw_ : R < w.heap.size
theorem JbS.next {w : World} {pB o mB R : Nat} {line : Int} {g : Gh} {ws : List Tx} {k : Nat} {y : Slip} {seen : List Tx} {g' : Gh} {Lm : List (Tx × Value)} {W W' : World} (h : JbS w pB o mB R line g ws k y seen g' Lm W) (hb : Below W.heap.size W W') : JbS w pB o mB R line g ws k y seen g' Lm W' :=
  ⟨h.hm, h.r.next hb, h.kp.trans (Kp.of g' hb (Nat.le_of_lt h.r.box.lt)), h.p.next hb, h.np, h.m.next hb, h.get, h.nm, h.ne, h.af, h.hw, h.rw_⟩
/-- The map is turned. -/
theorem Rdr.but {w w' : World} {R b : Nat} {x : Slip} {line : Int} {g : Gh} (h : Rdr w R x line g) (hb : But b w w') (hn : ¬ Mr R g b) : Rdr w' R x line g :=
  h.kept fun k hk => hb.block k (h.lM hk).2.1 fun e => hn (by cases e; exact hk)
theorem JbS.del {w : World} {pB o mB R : Nat} {line : Int} {g : Gh} {ws : List Tx} {k : Nat} {y : Slip} {seen : List Tx} {g' : Gh} {Lm : List (Tx × Value)} {W W' W2 : World} (h : JbS w pB o mB R line g ws k y seen g' Lm W) {x : Tx} (hx : ws[k]? = some x) {key v : Tx} (hc : cut x = some (key, v)) (hs : key ∉ seen) {y2 : Slip} (hp : fput y (key, v) = some y2) {g2 : Gh} (hr : Rdr W' R y2 line g2) (hk : Kp R g' g2 W W')
    (hm : MapV W2 mB (fi.del key Lm)) (hb : But mB W' W2) : JbS w pB o mB R line g ws (k + 1) y2 (seen ++ [key]) g2 (fi.del key Lm) W2 := by
  have hmz : mB < W.heap.size := h.m.lt
  have hpz := h.p.1
  have nm2 := hk.off hmz h.nm
  have np2 := hk.off hpz h.np
  have h9 := h.rw_
  have hkk := h.kp.trans hk
  refine ⟨?_, hr.but hb nm2, ⟨?_, fun b hb2 hm2 => ?_, ?_⟩, ?_, np2, hm, fun j => ?_, nm2, h.ne, fun ha => ?_, h.hw, h.rw_⟩
  · rw [frun_take h.hm hx, frun_one, hc]
    dsimp only
    rw [if_neg hs, hp]
  · exact hkk.low.grown hb (Nat.le_of_lt hr.box.lt) (fun j e => by cases e; have := h.hw; omega)
  · exact (hb.block b (Nat.lt_of_lt_of_le hb2 hkk.low.size) (fun e => by cases e; have := h.hw; omega)).trans (hkk.same b hb2 hm2)
  · exact hkk.mv
  · have h1 : Prts W' pB o ws := h.p.kept hk.low.size (hk.same pB hpz h.np)
    exact h1.kept hb.size (hb.block pB h1.1 fun e => h.ne (Option.some.inj e))
  · rw [get_del, h.get]
    by_cases hj : j = key
    · rw [if_pos hj, if_pos (by rw [hj]; simp)]
    · rw [if_neg hj]
      have : j ∈ seen ++ [key] ↔ j ∈ seen := by simp [hj]
      simp only [this]
  · have h1 : afterK ∉ seen := fun h2 => ha (by simp [h2])
    have h2 : ¬ key = afterK := fun h2 => ha (by simp [h2])
    rw [← h.af h1]
    unfold fput at hp
    split at hp
    · cases hp; rfl
    split at hp
    · obtain ⟨n, _, rfl⟩ := Option.map_eq_some_iff.1 hp; rfl
    split at hp
    · obtain ⟨n, _, rfl⟩ := Option.map_eq_some_iff.1 hp; rfl
    split at hp
    · obtain ⟨n, _, rfl⟩ := Option.map_eq_some_iff.1 hp; rfl
    · first
      | cases hp
      | (split at hp
         · next h3 => exact absurd h3 h2
         · cases hp)
end Go.Proofs.YtekcjfdllclphaaGreatDoor.gn
end
