/- slices.reverseRangeCmpFunc, breakPatternsCmpFunc at any function value. -/
import Derived.Test.YtdjpnlkhdilakaaSvK
import Derived.Sort.LotA
import Derived.Shelf.SlSortCmp.Xorshift
import Derived.Sort.Walk7
namespace Go.Proofs.Ytdjpnlkhdilakaa.gn
open Go.RowKit Go.Shelf Go.Sort Go.Lib
variable {P : Program} {ρ : Ren} {α : Type} [Inhabited α] {enc : α → List Value} {k : Nat} {cf : α → α → Int} {g : FuncId} {fs cb : Array Value} {w0 : World} {blk off : Nat} {d0 : Array α}

set_option maxHeartbeats 8000000 in
set_option maxRecDepth 1000000 in
theorem sv_reverse (L : SlLaysF0.n24 P ρ) (E : Elt P ρ k) (M : Srt P enc k cf g fs cb w0 blk off d0) {d : Array α} {w : World} {a b cap : Nat} (S : SWK enc k w0 blk off d w) (hs : d0.size = d.size) (hab : a < b) (hb : b ≤ d.size) :
    Calls P (ρ.f 24) #[.slice (some ⟨blk, off, none⟩) d.size cap, .int .i64 a, .int .i64 b, .func (.func g) fs cb] w (Turned enc k w0 blk off fun d' => PermIn a b d d') := by
  have mixed := L.mixed; have t0 := L.t0; have a0 := L.a0; have z0 := L.z0; have v0 := L.v0; have t3 := L.t3; have a3 := L.a3; have z3 := L.z3; have v3 := L.v3; have t4 := L.t4; have a4 := L.a4; have z4 := L.z4; have v4 := L.v4; have t22 := L.t22; have a22 := L.a22; have z22 := L.z22; have v22 := L.v22; have t25 := L.t25; have a25 := L.a25; have z25 := L.z25; have v25 := L.v25
  have aE := E.aE; have zE := E.zE
  have eg := M.eg
  have hsz : d.size < 4611686018427387904 := by rw [← hs]; exact M.hsz
  obtain ⟨_, _, FG⟩ := L.f24
  have S0 : Aside (SWK enc k w0 blk off d w) := S
  clear S
  obtain ⟨j0, hj0⟩ : ∃ j0 : Nat, j0 = b - 1 := ⟨_, rfl⟩
  have z0 : (b : Int) - 1 = (j0 : Int) := by omega
  have h1 : j0 < b := by omega
  clear hj0
  go_enter FG, SlBodyF.n24_ntmps ρ
  go_wp2
  go_loopw [8, 9] (fun vi vj wr => ∃ (i j : Nat) (dk : Array α), vi = .int .i64 i ∧ vj = .int .i64 j ∧ a ≤ i ∧ j < b ∧ dk.size = d.size ∧ PermIn a b d dk ∧ Aside (SWK enc k w0 blk off dk wr)) (fun vi vj _ => (intOf vj).toNat - (intOf vi).toNat)
  case atStart => exact ⟨a, j0, d, rfl, rfl, Nat.le_refl _, h1, rfl, permIn_refl _ _ _, S0⟩
  case round =>
    clear S0 z0 h1
    obtain ⟨i, j, dk, rfl, rfl, hai, hjb, hdk, hp, S1⟩ := hrel
    have HP : Aside _ := hp
    clear hp
    by_cases hlt : (i : Int) < (j : Int)
    · have hij : i < j := by omega
      obtain ⟨ci1, cj1, ⟨ni1, nj1, la1, lb1, sa1, sb1⟩, S2⟩ := M.exch S1.out (by omega) (i := i) (j := j) (by omega) (by omega)
      obtain ⟨ia2, ib2, ic2, id2⟩ := idx (z := (i : Int)) (i := i) (n := d.size) (by omega) (by omega) hsz
      obtain ⟨ia3, ib3, ic3, id3⟩ := idx (z := (j : Int)) (i := j) (n := d.size) (by omega) (by omega) hsz
      clear S1
      go_wp2_with fail
      go_big_region_o
      clear la1 lb1 sa1 sb1
      generalize (wr.drew.setCells blk (off + (i) * k) cj1).setCells blk (off + (j) * k) ci1 = w2 at S2 ⊢
      go_wp2
      go_roundw
      case rel => exact ⟨i + 1, j - 1, swp dk i j, by go_num, by go_num, by omega, by omega, by rw [size_swp]; exact hdk, permIn_trans _ _ _ _ _ HP.out (swp_permIn _ _ _ _ _ hai (by omega) (by omega) hjb (by omega)), S2⟩
      case measure => first | (simp [intOf]; done) | (simp [intOf]; omega)
    · go_wp2
      go_end0
      exact ⟨rfl, dk, HP.out, S1.out⟩

set_option maxHeartbeats 16000000 in
set_option maxRecDepth 1000000 in
theorem sv_break (L : SlLaysF0.n22 P ρ) (E : Elt P ρ k) (M : Srt P enc k cf g fs cb w0 blk off d0) {d : Array α} {w : World} {a b cap : Nat} (S : SWK enc k w0 blk off d w) (hs : d0.size = d.size) (hab : a < b) (h8 : 8 ≤ b - a) (hb : b ≤ d.size) :
    Calls P (ρ.f 22) #[.slice (some ⟨blk, off, none⟩) d.size cap, .int .i64 a, .int .i64 b, .func (.func g) fs cb] w (Turned enc k w0 blk off fun d' => PermIn a b d d') := by
  have eg := M.eg
  have hsz : d.size < 4611686018427387904 := by rw [← hs]; exact M.hsz
  obtain ⟨N, hN⟩ : ∃ N : Nat, N = b - a := ⟨_, rfl⟩
  have zN : (b : Int) - (a : Int) = (N : Int) := by omega
  have hN1 : 8 ≤ N := by omega
  have hN2 : a + N ≤ b := by omega
  have hN3 : N ≤ d.size := by omega
  clear hN h8
  obtain ⟨M2, hM⟩ : ∃ M : Nat, M = 1 <<< bitsLen N := ⟨_, rfl⟩
  have hM1 : 1 ≤ M2 := by rw [hM, Nat.one_shiftLeft]; exact Nat.two_pow_pos _
  have hM2 : M2 ≤ 2 * N := by rw [hM, Nat.one_shiftLeft]; exact two_pow_bitsLen_le (by omega)
  have hNP : ∀ w, Calls P (ρ.f 47) #[.int .i64 (N : Int)] w fun e w' => e = .returned (.int .u64 (M2 : Int)) ∧ w' = w := by rw [hM]; exact fun w => AnyF.nextPowerOfTwo { L with } N (by omega) w
  clear hM
  have hNext := fun (rb X : Nat) (hX : X < 18446744073709551616) (w : World) => AnyF.xorshift_Next (P := P) (ρ := ρ) { L with } rb 0 X hX w
  have HNX : Aside _ := hNext
  clear hNext
  obtain ⟨i0, hi0⟩ : ∃ i0 : Nat, i0 = a + N / 4 * 2 - 1 := ⟨_, rfl⟩
  obtain ⟨i2, hi2⟩ : ∃ i2 : Nat, i2 = a + N / 4 * 2 + 1 := ⟨_, rfl⟩
  have z0 : (a : Int) + (N : Int) / 4 * 2 - 1 = (i0 : Int) := by omega
  have z2 : (a : Int) + (N : Int) / 4 * 2 + 1 = (i2 : Int) := by omega
  have b0 : a ≤ i0 := by omega
  have b1 : i0 ≤ i2 + 1 := by omega
  have b2 : i2 < b := by omega
  clear hi0 hi2
  have hne : w.heap.size ≠ blk := by have := S.lt M.R.hblk; omega
  have hle0 : w0.heap.size ≤ w.heap.size := S.le
  have mixed := L.mixed; have t0 := L.t0; have a0 := L.a0; have z0 := L.z0; have v0 := L.v0; have t3 := L.t3; have a3 := L.a3; have z3 := L.z3; have v3 := L.v3; have t4 := L.t4; have a4 := L.a4; have z4 := L.z4; have v4 := L.v4; have t5 := L.t5; have a5 := L.a5; have z5 := L.z5; have v5 := L.v5; have t9 := L.t9; have a9 := L.a9; have z9 := L.z9; have v9 := L.v9; have t22 := L.t22; have a22 := L.a22; have z22 := L.z22; have v22 := L.v22; have t25 := L.t25; have a25 := L.a25; have z25 := L.z25; have v25 := L.v25; have t39 := L.t39; have a39 := L.a39; have z39 := L.z39; have v39 := L.v39; have t53 := L.t53; have a53 := L.a53; have z53 := L.z53; have v53 := L.v53; have t55 := L.t55; have a55 := L.a55; have z55 := L.z55; have v55 := L.v55; have t66 := L.t66; have a66 := L.a66; have z66 := L.z66; have v66 := L.v66; have t76 := L.t76; have a76 := L.a76; have z76 := L.z76; have v76 := L.v76
  have aE := E.aE; have zE := E.zE
  obtain ⟨_, _, FG⟩ := L.f22
  have e47 : ∀ args w, (callFunc (ρ.f 47) args).run P w = .ok (.enter (ρ.f 47) args) w := enters_of L.f47 (by kernel_rfl) rfl
  have e48 : ∀ args w, (callFunc (ρ.f 48) args).run P w = .ok (.enter (ρ.f 48) args) w := enters_of L.f48 (by kernel_rfl) rfl
  have S0 : Aside (SWK enc k w0 blk off d w) := S
  clear S
  go_enter FG, SlBodyF.n22_ntmps ρ
  go_wp2_with (go_at_fn (ρ.f 47); refine (hNP _).mono ?_; rintro e w' ⟨rfl, rfl⟩)
  go_loopw [11] (fun vi wr => ∃ (i X : Nat) (dk : Array α), vi = .int .i64 i ∧ i0 ≤ i ∧ i ≤ i2 + 1 ∧ X < 18446744073709551616 ∧ dk.size = d.size ∧ wr.cell? ⟨w.heap.size, 0, none⟩ = some (.int .u64 X) ∧ wr.frozen? ⟨w.heap.size, 0, none⟩ = false ∧ Aside (PermIn a b d dk) ∧ Aside (SWK enc k w0 blk off dk wr)) (fun vi _ => i2 + 1 - (intOf vi).toNat)
  case atStart => exact ⟨i0, N, d, rfl, Nat.le_refl _, b1, by omega, rfl, by simp, by simp, permIn_refl _ _ _, S0.out.alloc _⟩
  case round =>
    clear S0 z0
    obtain ⟨i, X, dk, rfl, hi1, hi2, hX, hdk, cR, fR, HP, S1⟩ := hrel
    by_cases hlt : (i : Int) ≤ (i2 : Int)
    · obtain ⟨Y, hY⟩ : ∃ Y : Nat, Y = xorNextN X := ⟨_, rfl⟩
      have lY : Y < 18446744073709551616 := by rw [hY]; exact xorNextN_lt X hX
      have hnx := HNX.out w.heap.size X hX wr cR fR
      rw [← hY] at hnx
      clear hY
      obtain ⟨O, hO⟩ : ∃ O : Nat, O = Y &&& (M2 - 1) := ⟨_, rfl⟩
      have lO : O ≤ M2 - 1 := by rw [hO]; exact Nat.and_le_right
      have eAnd : bits .and .u64 (Y : Int) ((M2 : Int) - 1) = (O : Int) := by
        rw [show ((M2 : Int) - 1) = ((M2 - 1 : Nat) : Int) by omega, bits_and_u64_nat _ _ lY (by omega), hO]
      clear hO
      have S2 : Aside (SWK enc k w0 blk off dk ((wr.setCell ⟨w.heap.size, 0, none⟩ (.int .u64 (Y : Int))).drewN 3)) := (S1.out.setCell_new w.heap.size 0 _ hle0).drewN 3
      have cY : ((wr.setCell ⟨w.heap.size, 0, none⟩ (.int .u64 (Y : Int))).drewN 3).cell? ⟨w.heap.size, 0, none⟩ = some (.int .u64 (Y : Int)) := by
        rw [World.cell?_drewN]; exact World.cell?_setCell_same _ _ _ cR
      have fY : ((wr.setCell ⟨w.heap.size, 0, none⟩ (.int .u64 (Y : Int))).drewN 3).frozen? ⟨w.heap.size, 0, none⟩ = false := by
        rw [World.frozen?_drewN]; simpa using fR
      generalize (wr.setCell ⟨w.heap.size, 0, none⟩ (.int .u64 (Y : Int))).drewN 3 = w2 at hnx S2 cY fY
      clear cR fR S1
      by_cases hNO : (N : Int) ≤ (O : Int)
      · obtain ⟨j, hj⟩ : ∃ j : Nat, j = a + (O - N) := ⟨_, rfl⟩
        have zj : (a : Int) + ((O : Int) - (N : Int)) = (j : Int) := by omega
        have hj1 : a ≤ j := by omega
        have hj2 : j < b := by omega
        clear hj
        go_wp2_with (go_at_fn (ρ.f 48); refine hnx.mono ?_; rintro e w' ⟨rfl, hw'⟩; obtain rfl : w2 = w' := hw'.symm)
        obtain ⟨ci4, cj4, ⟨ni4, nj4, la4, lb4, sa4, sb4⟩, S3⟩ := M.exch S2.out (by omega) (i := i) (j := j) (by omega) (by omega)
        obtain ⟨ia5, ib5, ic5, id5⟩ := idx (z := (i : Int)) (i := i) (n := d.size) (by omega) (by omega) hsz
        obtain ⟨ia6, ib6, ic6, id6⟩ := idx (z := (j : Int)) (i := j) (n := d.size) (by omega) (by omega) hsz
        clear S2
        go_wp2_with fail
        go_big_region_o
        clear la4 lb4 sa4 sb4
        have kk := box_kept_swap (W := w2) (blk := blk) hne cY fY (off + (i) * k) (off + (j) * k) cj4 ci4
        generalize (w2.drew.setCells blk (off + (i) * k) cj4).setCells blk (off + (j) * k) ci4 = w3 at S3 kk ⊢
        go_wp2
        go_roundw
        case rel => exact ⟨i + 1, Y, swp dk i j, by go_num, by omega, by omega, lY, by rw [size_swp]; exact hdk, kk.1, kk.2, permIn_trans _ _ _ _ _ HP.out (swp_permIn _ _ _ _ _ (by omega) (by omega) hj1 hj2 (by omega)), S3⟩
        case measure => first | (simp [intOf]; done) | (simp [intOf]; omega)
      · obtain ⟨j, hj⟩ : ∃ j : Nat, j = a + O := ⟨_, rfl⟩
        have zj : (a : Int) + (O : Int) = (j : Int) := by omega
        have hj1 : a ≤ j := by omega
        have hj2 : j < b := by omega
        clear hj
        go_wp2_with (go_at_fn (ρ.f 48); refine hnx.mono ?_; rintro e w' ⟨rfl, hw'⟩; obtain rfl : w2 = w' := hw'.symm)
        obtain ⟨ci7, cj7, ⟨ni7, nj7, la7, lb7, sa7, sb7⟩, S3⟩ := M.exch S2.out (by omega) (i := i) (j := j) (by omega) (by omega)
        obtain ⟨ia8, ib8, ic8, id8⟩ := idx (z := (i : Int)) (i := i) (n := d.size) (by omega) (by omega) hsz
        obtain ⟨ia9, ib9, ic9, id9⟩ := idx (z := (j : Int)) (i := j) (n := d.size) (by omega) (by omega) hsz
        clear S2
        go_wp2_with fail
        go_big_region_o
        clear la7 lb7 sa7 sb7
        have kk := box_kept_swap (W := w2) (blk := blk) hne cY fY (off + (i) * k) (off + (j) * k) cj7 ci7
        generalize (w2.drew.setCells blk (off + (i) * k) cj7).setCells blk (off + (j) * k) ci7 = w3 at S3 kk ⊢
        go_wp2
        go_roundw
        case rel => exact ⟨i + 1, Y, swp dk i j, by go_num, by omega, by omega, lY, by rw [size_swp]; exact hdk, kk.1, kk.2, permIn_trans _ _ _ _ _ HP.out (swp_permIn _ _ _ _ _ (by omega) (by omega) hj1 hj2 (by omega)), S3⟩
        case measure => first | (simp [intOf]; done) | (simp [intOf]; omega)
    · go_wp2
      go_end0
      exact ⟨rfl, dk, HP.out, S1.out⟩
end Go.Proofs.Ytdjpnlkhdilakaa.gn
