/- 'head': calls whose answers the document fixes. -/
import Derived.Test.YtdfiofjnijnodaaFiX
set_option linter.unusedVariables false
namespace Go.Proofs.Ytdfiofjnijnodaa.gn
open Go.RowKit
open Go.Proofs.Ytdfiofjnijnodaa.fi

theorem sb_at {D : Nat → Option FS} {d : Nat} {s : FS} : upd D d s d = some s := upd_same _ _ _
theorem sb_far {D : Nat → Option FS} {d e : Nat} {s t : FS} (h : D d = some s) (hne : d ≠ e) : upd D e t d = some s := by rw [upd_other _ _ hne]; exact h

set_option maxHeartbeats 32000000 in
set_option maxRecDepth 100000 in
theorem head_any (w : World) : Calls Try.prog 6 #[] w fun e w' => e = .returned (.bool true) ∧ Below w.heap.size w w' := by
  obtain ⟨i0, hi, hz0, hz1, hz2⟩ := info_parts Try.info5
  obtain ⟨M, hM⟩ : ∃ M, M = madeCells (Value.int .u8 0).cells 97 := ⟨_, rfl⟩
  obtain ⟨zs, hzs⟩ : ∃ zs : List UInt8, zs = List.replicate 97 0 := ⟨_, rfl⟩
  have hzl : zs.length = 97 := by rw [hzs]; rfl
  have hap : hs4.app [97] zs = (6, hs4) := by rw [hzs]; exact hdA8
  have hMl : M.toList = Lib.byteCells (zs) := by rw [hM, hzs]; kernel_rfl
  have hmk : ∀ W : World, (Instr.makeSlice 49 (.int .i64 97) (.int .i64 97)).run Try.prog W = .ok (.slice (some ⟨W.heap.size, 0, none⟩) 97 97) (W.alloc (.cells M 5)) := fun W => by
    have h := run_make (P := Try.prog) W 49 5 i0 (.int .u8 0) Try.underlying49 hi hz0 .i64 .i64 97 97 (by decide) (by decide) (by rw [hz2]; decide) (by decide)
    rw [hz1] at h
    rw [hM]
    simpa using h
  have hcv : ∀ W : World, (convert 49 9 (.slice (some ⟨W.heap.size, 0, none⟩) 97 97)).run Try.prog (W.alloc (.cells M 5)) = .ok (.string (str (zs))) (W.alloc (.cells M 5)) := fun W => by
    refine byt_string ⟨hzl, Nat.le_refl _, by unfold maxLen; decide, .inr ⟨W.heap.size, M, rfl, heap_alloc_new W _, ?_, ?_⟩⟩
    · rw [← Array.length_toList, hMl]; simp [Lib.byteCells, hzl]
    · rw [hMl]; exact List.take_of_length_le (by simp [Lib.byteCells, hzl])
  have HAP := Lib.hid hap
  have HZL : Hid (zs.length ≤ 281474976710656) := by show _ ≤ _; omega
  clear hap hzl hzs hM hMl hi hz0 hz1 hz2
  have H0 := Lib.hid (new_sb (SB.none_ w) 100)
  go_enter Try.func6, Try.ntmps6
  go_wp2_with (first
    | (go_at_call 7; ((with_reducible refine H0.out.mono ?_); rintro e w1 ⟨d, rfl, _, hs, hb⟩; have S1 := Lib.hid hs; have B1 := Lib.hid hb; have C1 := Lib.hid (make_sb (xb := ⟨#[97]⟩) (n := [97]) hs sb_at hdW0 rfl (by decide) hdA1); clear hs hb))
    | (go_at_call 16; ((with_reducible refine C1.out.mono ?_); rintro e w2 ⟨rfl, hs, hb⟩; have S2 := Lib.hid hs; have B2 := Lib.hid hb; have C2 := Lib.hid (append_sb (xb := ⟨#[97]⟩) (yb := ⟨#[120, 121]⟩) (n := [97]) (t := [120, 121]) hs sb_at hdW1 rfl (by decide) rfl (by decide) hdA2); clear hs hb))
    | (go_at_call 17; ((with_reducible refine C2.out.mono ?_); rintro e w3 ⟨rfl, hs, hb⟩; have S3 := Lib.hid hs; have B3 := Lib.hid hb; have C3 := Lib.hid (sync_sb hs sb_at hdW2 hdA3); clear hs hb))
    | (go_at_call 13; ((with_reducible refine C3.out.mono ?_); rintro e w4 ⟨rfl, hs, hb⟩; have S4 := Lib.hid hs; have B4 := Lib.hid hb; have C4 := Lib.hid (append_sb (xb := ⟨#[97]⟩) (yb := ⟨#[122, 119]⟩) (n := [97]) (t := [122, 119]) hs sb_at hdW3 rfl (by decide) rfl (by decide) hdA4); clear hs hb))
    | (go_at_call 17; ((with_reducible refine C4.out.mono ?_); rintro e w5 ⟨rfl, hs, hb⟩; have S5 := Lib.hid hs; have B5 := Lib.hid hb; have C5 := Lib.hid (copy_sb hs sb_at hdW4); clear hs hb))
    | (go_at_call 10; ((with_reducible refine C5.out.mono ?_); rintro e w6 ⟨x, rfl, hx, hs, hb⟩; have hdx : d ≠ x := Nat.ne_of_lt (Nat.lt_of_lt_of_le (S5.out.lt sb_at) hx); have HDX := Lib.hid hdx; have S6 := Lib.hid hs; have B6 := Lib.hid hb; have C6 := Lib.hid (copy_sb hs (sb_far sb_at hdx) hdW4); clear hs hb hdx))
    | (go_at_call 10; ((with_reducible refine C6.out.mono ?_); rintro e w7 ⟨y, rfl, hy, hs, hb⟩; have hdy : d ≠ y := Nat.ne_of_lt (Nat.lt_of_lt_of_le (S6.out.lt (sb_far sb_at HDX.out)) hy); have hxy : x ≠ y := Nat.ne_of_lt (Nat.lt_of_lt_of_le (S6.out.lt sb_at) hy); have HDY := Lib.hid hdy; have HXY := Lib.hid hxy; have S7 := Lib.hid hs; have B7 := Lib.hid hb; have C7 := Lib.hid (copy_sb hs (sb_far (sb_far sb_at HDX.out) hdy) hdW4); clear hs hb hdy hxy))
    | (go_at_call 10; ((with_reducible refine C7.out.mono ?_); rintro e w8 ⟨z, rfl, hz, hs, hb⟩; have hdz : d ≠ z := Nat.ne_of_lt (Nat.lt_of_lt_of_le (S7.out.lt (sb_far (sb_far sb_at HDX.out) HDY.out)) hz); have hxz : x ≠ z := Nat.ne_of_lt (Nat.lt_of_lt_of_le (S7.out.lt (sb_far sb_at HXY.out)) hz); have hyz : y ≠ z := Nat.ne_of_lt (Nat.lt_of_lt_of_le (S7.out.lt sb_at) hz); have HDZ := Lib.hid hdz; have HXZ := Lib.hid hxz; have HYZ := Lib.hid hyz; have S8 := Lib.hid hs; have B8 := Lib.hid hb; have C8 := Lib.hid (crash_sb (a := 0) (b := 0) (c := 1) hs (sb_far (sb_far sb_at HXY.out) hxz) hdW4 ⟨0, 0, 1⟩ (by decide) rfl rfl rfl hdX); clear hs hb hdz hxz hyz))
    | (go_at_call 11; ((with_reducible refine C8.out.mono ?_); rintro e w9 ⟨rfl, hs, hb⟩; have S9 := Lib.hid hs; have B9 := Lib.hid hb; have C9 := Lib.hid (crash_sb (a := 1) (b := 1) (c := 0) hs (sb_far (sb_far sb_at HYZ.out) HXY.out.symm) hdW4 ⟨1, 1, 0⟩ (by decide) rfl rfl rfl hdY); clear hs hb))
    | (go_at_call 11; ((with_reducible refine C9.out.mono ?_); rintro e w10 ⟨rfl, hs, hb⟩; have S10 := Lib.hid hs; have B10 := Lib.hid hb; have C10 := Lib.hid (crash_sb (a := 1) (b := 0) (c := 0) hs (sb_far (sb_far sb_at HXZ.out.symm) HYZ.out.symm) hdW4 ⟨1, 0, 0⟩ (by decide) rfl rfl rfl hdZ); clear hs hb))
    | (go_at_call 11; ((with_reducible refine C10.out.mono ?_); rintro e w11 ⟨rfl, hs, hb⟩; have S11 := Lib.hid hs; have B11 := Lib.hid hb; have C11 := Lib.hid (rd_sb (xb := ⟨#[97]⟩) (n := [97]) hs (sb_far (sb_far sb_at HXY.out) HXZ.out) rfl hdR1.symm); clear hs hb))
    | (go_at_call 15; ((with_reducible refine C11.out.mono ?_); rintro e w12 ⟨rfl, hb⟩; have S12 := Lib.hid (S11.out.below hb); have B12 := Lib.hid hb; have C12 := Lib.hid (rd_sb (xb := ⟨#[97]⟩) (n := [97]) S12.out (sb_far sb_at HYZ.out) rfl hdR2.symm); clear hb))
    | (go_at_call 15; ((with_reducible refine C12.out.mono ?_); rintro e w13 ⟨rfl, hb⟩; have S13 := Lib.hid (S12.out.below hb); have B13 := Lib.hid hb; have C13 := Lib.hid (rd_sb (xb := ⟨#[97]⟩) (n := [97]) S13.out sb_at rfl hdR3.symm); clear hb))
    | (go_at_call 15; ((with_reducible refine C13.out.mono ?_); rintro e w14 ⟨rfl, hb⟩; have S14 := Lib.hid (S13.out.below hb); have B14 := Lib.hid hb; have C14 := Lib.hid (make_sb (xb := ⟨#[97]⟩) (n := [97]) S14.out (sb_far (sb_far (sb_far (sb_far (sb_far (sb_far sb_at HDX.out) HDY.out) HDZ.out) HDX.out) HDY.out) HDZ.out) hdW4 rfl (by decide) hdA6); clear hb))
    | (go_at_call 16; ((with_reducible refine C14.out.mono ?_); rintro e w15 ⟨rfl, hs, hb⟩; have S15 := Lib.hid hs; have B15 := Lib.hid hb; have C15 := Lib.hid (remove_sb (xb := ⟨#[98]⟩) (n := [98]) hs sb_at hdW4 rfl (by decide) hdA7); clear hs hb))
    | (go_at_call 19; ((with_reducible refine C15.out.mono ?_); rintro e w16 ⟨rfl, hs, hb⟩; have S16 := Lib.hid hs; have B16 := Lib.hid hb; have hs16 := hs.below ((Below.refl _ w16).alloc (Nat.le_refl _) (.cells M 5)); have C16 := Lib.hid (append_sb (xb := ⟨#[97]⟩) (yb := str zs) (n := [97]) (t := zs) hs16 sb_at hdW4 rfl (by decide) rfl HZL.out HAP.out); clear hs hb hs16))
    | (go_at_call 17; ((with_reducible refine C16.out.mono ?_); rintro e w17 ⟨rfl, hs, hb⟩; have B17 := Lib.hid hb; clear hs hb)))
  go_ret
  have t1 := ((((B1.out.trans B2.out).trans B3.out).trans B4.out).trans B5.out).trans B6.out
  have t2 := ((((t1.trans B7.out).trans B8.out).trans B9.out).trans B10.out).trans B11.out
  have t3 := t2.trans (B12.out.mono t2.size)
  have t4 := t3.trans (B13.out.mono t3.size)
  have t5 := t4.trans (B14.out.mono t4.size)
  have t6 := (t5.trans B15.out).trans B16.out
  exact ⟨rfl, (t6.alloc t6.size _).trans B17.out⟩
end Go.Proofs.Ytdfiofjnijnodaa.gn
