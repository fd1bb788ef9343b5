/- For any seat: what slices.SortFunc's family asks of a function value, be it a closure or a method value (fs: what it is bound to ahead of its arguments, cb: behind them); what a test and an exchange want, each in one word. -/
import Derived.Shelf.SlSortCmp.KitK
import Derived.Deep.LoopGhost
import Derived.Lib.Hide
import Derived.IntWalk
import Derived.Sort.LotA
import Derived.Shelf.SlSortCmp.Xorshift
import Derived.Sort.Walk7
import Derived.Ground.SlgnProg
import Derived.Ground.SlsfProg
import Derived.Shelf.SlSortCmp.NoneTotal
import Derived.Shelf.SlicesE.Clone
import Derived.Test.YtkjffoebcblpoaaGreatProg
import Derived.Below
import GoSem.ClaimWide
section
namespace Go.Proofs.YtkjffoebcblpoaaGreat.gn
open Go.RowKit Go.Shelf Go.Sort Go.Lib

/-- The element's type: a struct of k cells. -/
structure Elt (P : Program) (ρ : Ren) (k : Nat) : Prop where
  aE : ∀ w, (isAgg (ρ.t 24)).run P w = .ok true w
  zE : ∀ w, (Go.sizeOf (ρ.t 24)).run P w = .ok k w

section
variable {P : Program} {α : Type} [Inhabited α] {enc : α → List Value} {k : Nat} {cf : α → α → Int} {g : FuncId} {fs cb : Array Value} {w0 : World} {blk off : Nat} {d0 : Array α}

/-- The row, and what g answers in a world of the sort. -/
structure Srt (P : Program) {α : Type} [Inhabited α] (enc : α → List Value) (k : Nat) (cf : α → α → Int) (g : FuncId) (fs cb : Array Value) (w0 : World) (blk off : Nat) (d0 : Array α) : Prop where
  R : RowK enc k w0 blk off d0
  hO : SWO (ltOf cf)
  hsz : d0.size < 4611686018427387904
  eg : ∀ args w, (callFunc g args).run P w = .ok (.enter g args) w
  says : ∀ (d : Array α) (W : World), SWK enc k w0 blk off d W → d.size = d0.size → ∀ x y : α, Calls P g (fs ++ (#[.agg (enc x).toArray, .agg (enc y).toArray] ++ cb)) W fun e w' => e = .returned (.int .i64 (cf x y)) ∧ ∃ q os, w' = grow (W.drewN q) os

/-- A call's end: nothing is returned, the row has turned into one that Q tells. -/
def Turned (enc : α → List Value) (k : Nat) (w0 : World) (blk off : Nat) (Q : Array α → Prop) (e : Ending) (w' : World) : Prop := e = .returned (.tuple #[]) ∧ ∃ d', Q d' ∧ SWK enc k w0 blk off d' w'

/-- A place that Q tells, and the row. -/
def Place (enc : α → List Value) (k : Nat) (w0 : World) (blk off : Nat) (Q : Nat → Prop) (dk : Array α) (s : Value) (W : World) : Prop := ∃ p : Nat, s = .int .i64 p ∧ Q p ∧ SWK enc k w0 blk off dk W

theorem idx {z : Int} {i n : Nat} (e : z = i) (h : i < n) (hn : n < 4611686018427387904) : z.toNat = i ∧ 0 ≤ z ∧ z < (n : Int) ∧ IntKind.i64.wrap z = z :=
  ⟨by omega, by omega, by omega, by rw [IntKind.wrap_i64]; omega⟩

/-- A test of two elements. -/
def Tst (P : Program) (enc : α → List Value) (k : Nat) (cf : α → α → Int) (g : FuncId) (fs cb : Array Value) (blk off : Nat) (W : World) (i j : Nat) (x y : α) : Prop :=
  (∀ n os, Sem.run P (loadCellsFrom ⟨blk, off + i * k, none⟩ 0 k #[]) (grow (W.drewN n) os) = .ok (enc x).toArray (grow (W.drewN n) os)) ∧
  (∀ n os, Sem.run P (loadCellsFrom ⟨blk, off + j * k, none⟩ 0 k #[]) (grow (W.drewN n) os) = .ok (enc y).toArray (grow (W.drewN n) os)) ∧
  (∀ n os, Calls P g (fs ++ (#[.agg (enc x).toArray, .agg (enc y).toArray] ++ cb)) (grow (W.drewN n) os) fun e w'' => e = .returned (.int .i64 (cf x y)) ∧ ∃ p : GrownBy, w'' = grow (W.drewN p.n) p.os)
theorem Srt.tst (M : Srt P enc k cf g fs cb w0 blk off d0) {d : Array α} {W : World} (S : SWK enc k w0 blk off d W) (hs : d.size = d0.size) {i j : Nat} (hi : i < d.size) (hj : j < d.size) :
    Tst P enc k cf g fs cb blk off W i j d[i]! d[j]! :=
  ⟨S.ld M.R hs P i hi, S.ld M.R hs P j hj, fun n os => Calls.grown_of (M.says d _ (S.grown n os) hs _ _)⟩
theorem Srt.less (M : Srt P enc k cf g fs cb w0 blk off d0) {d : Array α} {W : World} (S : SWK enc k w0 blk off d W) (hs : d.size = d0.size) {i j : Nat} (hi : i < d.size) (hj : j < d.size) (hl : ltOf cf d[i]! d[j]! = true) :
    ∃ x y : α, cf x y < 0 ∧ decide (cf x y < 0) = true ∧ Tst P enc k cf g fs cb blk off W i j x y :=
  ⟨_, _, of_decide_eq_true hl, hl, M.tst S hs hi hj⟩
theorem Srt.notLess (M : Srt P enc k cf g fs cb w0 blk off d0) {d : Array α} {W : World} (S : SWK enc k w0 blk off d W) (hs : d.size = d0.size) {i j : Nat} (hi : i < d.size) (hj : j < d.size) (hl : ltOf cf d[i]! d[j]! = false) :
    ∃ x y : α, ¬ cf x y < 0 ∧ decide (cf x y < 0) = false ∧ Tst P enc k cf g fs cb blk off W i j x y :=
  ⟨_, _, of_decide_eq_false hl, hl, M.tst S hs hi hj⟩

/-- An exchange of two elements: ci, cj are their cells. -/
def Exch (P : Program) (k blk off : Nat) (W : World) (i j : Nat) (ci cj : List Value) : Prop :=
  ci.length = k ∧ cj.length = k ∧ Sem.run P (loadCellsFrom ⟨blk, off + i * k, none⟩ 0 k #[]) W.drew = .ok ci.toArray W.drew ∧ Sem.run P (loadCellsFrom ⟨blk, off + j * k, none⟩ 0 k #[]) W.drew = .ok cj.toArray W.drew ∧
  Sem.run P (storeCells ⟨blk, off + i * k, none⟩ cj 0) W.drew = .ok () (W.drew.setCells blk (off + i * k) cj) ∧
  Sem.run P (storeCells ⟨blk, off + j * k, none⟩ ci 0) (W.drew.setCells blk (off + i * k) cj) = .ok () ((W.drew.setCells blk (off + i * k) cj).setCells blk (off + j * k) ci)
theorem Srt.exch (M : Srt P enc k cf g fs cb w0 blk off d0) {d : Array α} {W : World} (S : SWK enc k w0 blk off d W) (hs : d.size = d0.size) {i j : Nat} (hi : i < d.size) (hj : j < d.size) :
    ∃ ci cj : List Value, Exch P k blk off W i j ci cj ∧ Aside (SWK enc k w0 blk off (swp d i j) ((W.drew.setCells blk (off + i * k) cj).setCells blk (off + j * k) ci)) :=
  ⟨enc d[i]!, enc d[j]!, ⟨M.R.hk _, M.R.hk _, S.ld1 M.R hs P i hi, S.ld1 M.R hs P j hj, S.st1 M.R hs P i hi _, S.st2 M.R hs P i j hi hj _ _⟩, S.swapped M.R i j hi hj⟩
end
end Go.Proofs.YtkjffoebcblpoaaGreat.gn
end
section
namespace Go.Proofs.YtkjffoebcblpoaaGreat.gn
open Go.RowKit Go.Shelf Go.Sort Go.Lib
variable {P : Program} {ρ : Ren} {α : Type} [Inhabited α] {enc : α → List Value} {k : Nat} {cf : α → α → Int} {g : FuncId} {fs cb : Array Value} {w0 : World} {blk off : Nat} {d0 : Array α}

set_option maxHeartbeats 8000000 in
set_option maxRecDepth 1000000 in
theorem sv_reverse (L : SlLaysF0.n24 P ρ) (E : Elt P ρ k) (M : Srt P enc k cf g fs cb w0 blk off d0) {d : Array α} {w : World} {a b cap : Nat} (S : SWK enc k w0 blk off d w) (hs : d0.size = d.size) (hab : a < b) (hb : b ≤ d.size) :
    Calls P (ρ.f 24) #[.slice (some ⟨blk, off, none⟩) d.size cap, .int .i64 a, .int .i64 b, .func (.func g) fs cb] w (Turned enc k w0 blk off fun d' => PermIn a b d d') := by
  have mixed := L.mixed; have t0 := L.t0; have a0 := L.a0; have z0 := L.z0; have v0 := L.v0; have t3 := L.t3; have a3 := L.a3; have z3 := L.z3; have v3 := L.v3; have t4 := L.t4; have a4 := L.a4; have z4 := L.z4; have v4 := L.v4; have t22 := L.t22; have a22 := L.a22; have z22 := L.z22; have v22 := L.v22; have t25 := L.t25; have a25 := L.a25; have z25 := L.z25; have v25 := L.v25
  have aE := E.aE; have zE := E.zE
  have eg := M.eg
  have hsz : d.size < 4611686018427387904 := by rw [← hs]; exact M.hsz
  obtain ⟨_, _, FG⟩ := L.f24
  have S0 : Aside (SWK enc k w0 blk off d w) := S
  clear S
  obtain ⟨j0, hj0⟩ : ∃ j0 : Nat, j0 = b - 1 := ⟨_, rfl⟩
  have z0 : (b : Int) - 1 = (j0 : Int) := by omega
  have h1 : j0 < b := by omega
  clear hj0
  go_enter FG, SlBodyF.n24_ntmps ρ
  go_wp2
  go_loopw [8, 9] (fun vi vj wr => ∃ (i j : Nat) (dk : Array α), vi = .int .i64 i ∧ vj = .int .i64 j ∧ a ≤ i ∧ j < b ∧ dk.size = d.size ∧ PermIn a b d dk ∧ Aside (SWK enc k w0 blk off dk wr)) (fun vi vj _ => (intOf vj).toNat - (intOf vi).toNat)
  case atStart => exact ⟨a, j0, d, rfl, rfl, Nat.le_refl _, h1, rfl, permIn_refl _ _ _, S0⟩
  case round =>
    clear S0 z0 h1
    obtain ⟨i, j, dk, rfl, rfl, hai, hjb, hdk, hp, S1⟩ := hrel
    have HP : Aside _ := hp
    clear hp
    by_cases hlt : (i : Int) < (j : Int)
    · have hij : i < j := by omega
      obtain ⟨ci1, cj1, ⟨ni1, nj1, la1, lb1, sa1, sb1⟩, S2⟩ := M.exch S1.out (by omega) (i := i) (j := j) (by omega) (by omega)
      obtain ⟨ia2, ib2, ic2, id2⟩ := idx (z := (i : Int)) (i := i) (n := d.size) (by omega) (by omega) hsz
      obtain ⟨ia3, ib3, ic3, id3⟩ := idx (z := (j : Int)) (i := j) (n := d.size) (by omega) (by omega) hsz
      clear S1
      go_wp2_with fail
      go_big_region_o
      clear la1 lb1 sa1 sb1
      generalize (wr.drew.setCells blk (off + (i) * k) cj1).setCells blk (off + (j) * k) ci1 = w2 at S2 ⊢
      go_wp2
      go_roundw
      case rel => exact ⟨i + 1, j - 1, swp dk i j, by go_num, by go_num, by omega, by omega, by rw [size_swp]; exact hdk, permIn_trans _ _ _ _ _ HP.out (swp_permIn _ _ _ _ _ hai (by omega) (by omega) hjb (by omega)), S2⟩
      case measure => first | (simp [intOf]; done) | (simp [intOf]; omega)
    · go_wp2
      go_end0
      exact ⟨rfl, dk, HP.out, S1.out⟩

set_option maxHeartbeats 16000000 in
set_option maxRecDepth 1000000 in
theorem sv_break (L : SlLaysF0.n22 P ρ) (E : Elt P ρ k) (M : Srt P enc k cf g fs cb w0 blk off d0) {d : Array α} {w : World} {a b cap : Nat} (S : SWK enc k w0 blk off d w) (hs : d0.size = d.size) (hab : a < b) (h8 : 8 ≤ b - a) (hb : b ≤ d.size) :
    Calls P (ρ.f 22) #[.slice (some ⟨blk, off, none⟩) d.size cap, .int .i64 a, .int .i64 b, .func (.func g) fs cb] w (Turned enc k w0 blk off fun d' => PermIn a b d d') := by
  have eg := M.eg
  have hsz : d.size < 4611686018427387904 := by rw [← hs]; exact M.hsz
  obtain ⟨N, hN⟩ : ∃ N : Nat, N = b - a := ⟨_, rfl⟩
  have zN : (b : Int) - (a : Int) = (N : Int) := by omega
  have hN1 : 8 ≤ N := by omega
  have hN2 : a + N ≤ b := by omega
  have hN3 : N ≤ d.size := by omega
  clear hN h8
  obtain ⟨M2, hM⟩ : ∃ M : Nat, M = 1 <<< bitsLen N := ⟨_, rfl⟩
  have hM1 : 1 ≤ M2 := by rw [hM, Nat.one_shiftLeft]; exact Nat.two_pow_pos _
  have hM2 : M2 ≤ 2 * N := by rw [hM, Nat.one_shiftLeft]; exact two_pow_bitsLen_le (by omega)
  have hNP : ∀ w, Calls P (ρ.f 47) #[.int .i64 (N : Int)] w fun e w' => e = .returned (.int .u64 (M2 : Int)) ∧ w' = w := by rw [hM]; exact fun w => AnyF.nextPowerOfTwo { L with } N (by omega) w
  clear hM
  have hNext := fun (rb X : Nat) (hX : X < 18446744073709551616) (w : World) => AnyF.xorshift_Next (P := P) (ρ := ρ) { L with } rb 0 X hX w
  have HNX : Aside _ := hNext
  clear hNext
  obtain ⟨i0, hi0⟩ : ∃ i0 : Nat, i0 = a + N / 4 * 2 - 1 := ⟨_, rfl⟩
  obtain ⟨i2, hi2⟩ : ∃ i2 : Nat, i2 = a + N / 4 * 2 + 1 := ⟨_, rfl⟩
  have z0 : (a : Int) + (N : Int) / 4 * 2 - 1 = (i0 : Int) := by omega
  have z2 : (a : Int) + (N : Int) / 4 * 2 + 1 = (i2 : Int) := by omega
  have b0 : a ≤ i0 := by omega
  have b1 : i0 ≤ i2 + 1 := by omega
  have b2 : i2 < b := by omega
  clear hi0 hi2
  have hne : w.heap.size ≠ blk := by have := S.lt M.R.hblk; omega
  have hle0 : w0.heap.size ≤ w.heap.size := S.le
  have mixed := L.mixed; have t0 := L.t0; have a0 := L.a0; have z0 := L.z0; have v0 := L.v0; have t3 := L.t3; have a3 := L.a3; have z3 := L.z3; have v3 := L.v3; have t4 := L.t4; have a4 := L.a4; have z4 := L.z4; have v4 := L.v4; have t5 := L.t5; have a5 := L.a5; have z5 := L.z5; have v5 := L.v5; have t9 := L.t9; have a9 := L.a9; have z9 := L.z9; have v9 := L.v9; have t22 := L.t22; have a22 := L.a22; have z22 := L.z22; have v22 := L.v22; have t25 := L.t25; have a25 := L.a25; have z25 := L.z25; have v25 := L.v25; have t39 := L.t39; have a39 := L.a39; have z39 := L.z39; have v39 := L.v39; have t53 := L.t53; have a53 := L.a53; have z53 := L.z53; have v53 := L.v53; have t55 := L.t55; have a55 := L.a55; have z55 := L.z55; have v55 := L.v55; have t66 := L.t66; have a66 := L.a66; have z66 := L.z66; have v66 := L.v66; have t76 := L.t76; have a76 := L.a76; have z76 := L.z76; have v76 := L.v76
  have aE := E.aE; have zE := E.zE
  obtain ⟨_, _, FG⟩ := L.f22
  have e47 : ∀ args w, (callFunc (ρ.f 47) args).run P w = .ok (.enter (ρ.f 47) args) w := enters_of L.f47 (by kernel_rfl) rfl
  have e48 : ∀ args w, (callFunc (ρ.f 48) args).run P w = .ok (.enter (ρ.f 48) args) w := enters_of L.f48 (by kernel_rfl) rfl
  have S0 : Aside (SWK enc k w0 blk off d w) := S
  clear S
  go_enter FG, SlBodyF.n22_ntmps ρ
  go_wp2_with (go_at_fn (ρ.f 47); refine (hNP _).mono ?_; rintro e w' ⟨rfl, rfl⟩)
  go_loopw [11] (fun vi wr => ∃ (i X : Nat) (dk : Array α), vi = .int .i64 i ∧ i0 ≤ i ∧ i ≤ i2 + 1 ∧ X < 18446744073709551616 ∧ dk.size = d.size ∧ wr.cell? ⟨w.heap.size, 0, none⟩ = some (.int .u64 X) ∧ wr.frozen? ⟨w.heap.size, 0, none⟩ = false ∧ Aside (PermIn a b d dk) ∧ Aside (SWK enc k w0 blk off dk wr)) (fun vi _ => i2 + 1 - (intOf vi).toNat)
  case atStart => exact ⟨i0, N, d, rfl, Nat.le_refl _, b1, by omega, rfl, by simp, by simp, permIn_refl _ _ _, S0.out.alloc _⟩
  case round =>
    clear S0 z0
    obtain ⟨i, X, dk, rfl, hi1, hi2, hX, hdk, cR, fR, HP, S1⟩ := hrel
    by_cases hlt : (i : Int) ≤ (i2 : Int)
    · obtain ⟨Y, hY⟩ : ∃ Y : Nat, Y = xorNextN X := ⟨_, rfl⟩
      have lY : Y < 18446744073709551616 := by rw [hY]; exact xorNextN_lt X hX
      have hnx := HNX.out w.heap.size X hX wr cR fR
      rw [← hY] at hnx
      clear hY
      obtain ⟨O, hO⟩ : ∃ O : Nat, O = Y &&& (M2 - 1) := ⟨_, rfl⟩
      have lO : O ≤ M2 - 1 := by rw [hO]; exact Nat.and_le_right
      have eAnd : bits .and .u64 (Y : Int) ((M2 : Int) - 1) = (O : Int) := by
        rw [show ((M2 : Int) - 1) = ((M2 - 1 : Nat) : Int) by omega, bits_and_u64_nat _ _ lY (by omega), hO]
      clear hO
      have S2 : Aside (SWK enc k w0 blk off dk ((wr.setCell ⟨w.heap.size, 0, none⟩ (.int .u64 (Y : Int))).drewN 3)) := (S1.out.setCell_new w.heap.size 0 _ hle0).drewN 3
      have cY : ((wr.setCell ⟨w.heap.size, 0, none⟩ (.int .u64 (Y : Int))).drewN 3).cell? ⟨w.heap.size, 0, none⟩ = some (.int .u64 (Y : Int)) := by
        rw [World.cell?_drewN]; exact World.cell?_setCell_same _ _ _ cR
      have fY : ((wr.setCell ⟨w.heap.size, 0, none⟩ (.int .u64 (Y : Int))).drewN 3).frozen? ⟨w.heap.size, 0, none⟩ = false := by
        rw [World.frozen?_drewN]; simpa using fR
      generalize (wr.setCell ⟨w.heap.size, 0, none⟩ (.int .u64 (Y : Int))).drewN 3 = w2 at hnx S2 cY fY
      clear cR fR S1
      by_cases hNO : (N : Int) ≤ (O : Int)
      · obtain ⟨j, hj⟩ : ∃ j : Nat, j = a + (O - N) := ⟨_, rfl⟩
        have zj : (a : Int) + ((O : Int) - (N : Int)) = (j : Int) := by omega
        have hj1 : a ≤ j := by omega
        have hj2 : j < b := by omega
        clear hj
        go_wp2_with (go_at_fn (ρ.f 48); refine hnx.mono ?_; rintro e w' ⟨rfl, hw'⟩; obtain rfl : w2 = w' := hw'.symm)
        obtain ⟨ci4, cj4, ⟨ni4, nj4, la4, lb4, sa4, sb4⟩, S3⟩ := M.exch S2.out (by omega) (i := i) (j := j) (by omega) (by omega)
        obtain ⟨ia5, ib5, ic5, id5⟩ := idx (z := (i : Int)) (i := i) (n := d.size) (by omega) (by omega) hsz
        obtain ⟨ia6, ib6, ic6, id6⟩ := idx (z := (j : Int)) (i := j) (n := d.size) (by omega) (by omega) hsz
        clear S2
        go_wp2_with fail
        go_big_region_o
        clear la4 lb4 sa4 sb4
        have kk := box_kept_swap (W := w2) (blk := blk) hne cY fY (off + (i) * k) (off + (j) * k) cj4 ci4
        generalize (w2.drew.setCells blk (off + (i) * k) cj4).setCells blk (off + (j) * k) ci4 = w3 at S3 kk ⊢
        go_wp2
        go_roundw
        case rel => exact ⟨i + 1, Y, swp dk i j, by go_num, by omega, by omega, lY, by rw [size_swp]; exact hdk, kk.1, kk.2, permIn_trans _ _ _ _ _ HP.out (swp_permIn _ _ _ _ _ (by omega) (by omega) hj1 hj2 (by omega)), S3⟩
        case measure => first | (simp [intOf]; done) | (simp [intOf]; omega)
      · obtain ⟨j, hj⟩ : ∃ j : Nat, j = a + O := ⟨_, rfl⟩
        have zj : (a : Int) + (O : Int) = (j : Int) := by omega
        have hj1 : a ≤ j := by omega
        have hj2 : j < b := by omega
        clear hj
        go_wp2_with (go_at_fn (ρ.f 48); refine hnx.mono ?_; rintro e w' ⟨rfl, hw'⟩; obtain rfl : w2 = w' := hw'.symm)
        obtain ⟨ci7, cj7, ⟨ni7, nj7, la7, lb7, sa7, sb7⟩, S3⟩ := M.exch S2.out (by omega) (i := i) (j := j) (by omega) (by omega)
        obtain ⟨ia8, ib8, ic8, id8⟩ := idx (z := (i : Int)) (i := i) (n := d.size) (by omega) (by omega) hsz
        obtain ⟨ia9, ib9, ic9, id9⟩ := idx (z := (j : Int)) (i := j) (n := d.size) (by omega) (by omega) hsz
        clear S2
        go_wp2_with fail
        go_big_region_o
        clear la7 lb7 sa7 sb7
        have kk := box_kept_swap (W := w2) (blk := blk) hne cY fY (off + (i) * k) (off + (j) * k) cj7 ci7
        generalize (w2.drew.setCells blk (off + (i) * k) cj7).setCells blk (off + (j) * k) ci7 = w3 at S3 kk ⊢
        go_wp2
        go_roundw
        case rel => exact ⟨i + 1, Y, swp dk i j, by go_num, by omega, by omega, lY, by rw [size_swp]; exact hdk, kk.1, kk.2, permIn_trans _ _ _ _ _ HP.out (swp_permIn _ _ _ _ _ (by omega) (by omega) hj1 hj2 (by omega)), S3⟩
        case measure => first | (simp [intOf]; done) | (simp [intOf]; omega)
    · go_wp2
      go_end0
      exact ⟨rfl, dk, HP.out, S1.out⟩
end Go.Proofs.YtkjffoebcblpoaaGreat.gn
end
section
set_option linter.unusedVariables false
namespace Go.Proofs.YtkjffoebcblpoaaGreat.gn
open Go.Shelf
def laySortFunc_ren : Go.Shelf.Ren := ⟨fun | 6 => 69 | 15 => 91 | 14 => 92 | 28 => 106 | 29 => 107 | 20 => 108 | 21 => 109 | 22 => 110 | 23 => 111 | 24 => 112 | 25 => 113 | 26 => 114 | 27 => 115 | 46 => 125 | 47 => 121 | 48 => 122 | 49 => 126 | 50 => 127 | 57 => 129 | n => n, fun | 22 => 23 | 24 => 55 | 25 => 94 | 3 => 3 | 39 => 96 | 0 => 0 | 53 => 118 | 55 => 120 | 4 => 4 | 46 => 112 | 45 => 111 | 50 => 73 | 5 => 5 | 9 => 9 | 66 => 128 | 70 => 132 | 76 => 136 | 77 => 137 | n => n, fun | n => n⟩
theorem laySortFunc : Go.Proofs.SlLaysF0.n6 Tryz.prog laySortFunc_ren := {
  mixed := by kernel_rfl
  f6 := ⟨Tryz.f69.name, by decide, Tryz.func69.trans (congrArg some (by kernel_rfl))⟩
  f14 := ⟨Tryz.f92.name, by decide, Tryz.func92.trans (congrArg some (by kernel_rfl))⟩
  f15 := Tryz.func91.trans (congrArg some (by kernel_rfl))
  f20 := ⟨Tryz.f108.name, by decide, Tryz.func108.trans (congrArg some (by kernel_rfl))⟩
  f21 := ⟨Tryz.f109.name, by decide, Tryz.func109.trans (congrArg some (by kernel_rfl))⟩
  f22 := ⟨Tryz.f110.name, by decide, Tryz.func110.trans (congrArg some (by kernel_rfl))⟩
  f23 := ⟨Tryz.f111.name, by decide, Tryz.func111.trans (congrArg some (by kernel_rfl))⟩
  f24 := ⟨Tryz.f112.name, by decide, Tryz.func112.trans (congrArg some (by kernel_rfl))⟩
  f25 := ⟨Tryz.f113.name, by decide, Tryz.func113.trans (congrArg some (by kernel_rfl))⟩
  f26 := ⟨Tryz.f114.name, by decide, Tryz.func114.trans (congrArg some (by kernel_rfl))⟩
  f27 := ⟨Tryz.f115.name, by decide, Tryz.func115.trans (congrArg some (by kernel_rfl))⟩
  f28 := Tryz.func106.trans (congrArg some (by kernel_rfl))
  f29 := Tryz.func107.trans (congrArg some (by kernel_rfl))
  f46 := ⟨Tryz.f125.name, by decide, Tryz.func125.trans (congrArg some (by kernel_rfl))⟩
  f47 := Tryz.func121.trans (congrArg some (by kernel_rfl))
  f48 := Tryz.func122.trans (congrArg some (by kernel_rfl))
  f49 := ⟨Tryz.f126.name, by decide, Tryz.func126.trans (congrArg some (by kernel_rfl))⟩
  f50 := ⟨Tryz.f127.name, by decide, Tryz.func127.trans (congrArg some (by kernel_rfl))⟩
  f57 := ⟨Tryz.f129.name, by decide, Tryz.func129.trans (congrArg some (by kernel_rfl))⟩
  t0 := Tryz.underlying0
  a0 := Tryz.isAgg0
  z0 := Tryz.sizeOf0
  v0 := Tryz.zeroValue0
  t3 := Tryz.underlying3
  a3 := Tryz.isAgg3
  z3 := Tryz.sizeOf3
  v3 := Tryz.zeroValue3
  t4 := Tryz.underlying4
  a4 := Tryz.isAgg4
  z4 := Tryz.sizeOf4
  v4 := Tryz.zeroValue4
  t5 := Tryz.underlying5
  a5 := Tryz.isAgg5
  z5 := Tryz.sizeOf5
  v5 := Tryz.zeroValue5
  t9 := Tryz.underlying9
  a9 := Tryz.isAgg9
  z9 := Tryz.sizeOf9
  v9 := Tryz.zeroValue9
  t22 := Tryz.underlying23
  a22 := Tryz.isAgg23
  z22 := Tryz.sizeOf23
  v22 := Tryz.zeroValue23
  t25 := Tryz.underlying94
  a25 := Tryz.isAgg94
  z25 := Tryz.sizeOf94
  v25 := Tryz.zeroValue94
  t39 := Tryz.underlying96
  a39 := Tryz.isAgg96
  z39 := Tryz.sizeOf96
  v39 := Tryz.zeroValue96
  t45 := Tryz.underlying111
  a45 := Tryz.isAgg111
  z45 := Tryz.sizeOf111
  v45 := Tryz.zeroValue111
  t46 := Tryz.underlying112
  a46 := Tryz.isAgg112
  z46 := Tryz.sizeOf112
  v46 := Tryz.zeroValue112
  t50 := Tryz.underlying73
  a50 := Tryz.isAgg73
  z50 := Tryz.sizeOf73
  v50 := Tryz.zeroValue73
  t53 := Tryz.underlying118
  a53 := Tryz.isAgg118
  z53 := Tryz.sizeOf118
  v53 := Tryz.zeroValue118
  t55 := Tryz.underlying120
  a55 := Tryz.isAgg120
  z55 := Tryz.sizeOf120
  v55 := Tryz.zeroValue120
  t66 := Tryz.underlying128
  a66 := Tryz.isAgg128
  z66 := Tryz.sizeOf128
  v66 := Tryz.zeroValue128
  t70 := Tryz.underlying132
  a70 := Tryz.isAgg132
  z70 := Tryz.sizeOf132
  v70 := Tryz.zeroValue132
  t76 := Tryz.underlying136
  a76 := Tryz.isAgg136
  z76 := Tryz.sizeOf136
  v76 := Tryz.zeroValue136
  t77 := Tryz.underlying137
  a77 := Tryz.isAgg137
  z77 := Tryz.sizeOf137
  v77 := Tryz.zeroValue137 }
def laySortB_ren : Go.Shelf.Ren := ⟨fun | 6 => 65 | 15 => 91 | 14 => 90 | 28 => 106 | 29 => 107 | 20 => 98 | 21 => 99 | 22 => 100 | 23 => 101 | 24 => 102 | 25 => 103 | 26 => 104 | 27 => 105 | 46 => 120 | 47 => 121 | 48 => 122 | 49 => 123 | 50 => 124 | 57 => 128 | n => n, fun | 22 => 67 | 24 => 60 | 25 => 69 | 3 => 3 | 39 => 96 | 0 => 0 | 53 => 118 | 55 => 120 | 4 => 4 | 46 => 112 | 45 => 111 | 50 => 73 | 5 => 5 | 9 => 9 | 66 => 128 | 70 => 132 | 76 => 136 | 77 => 137 | n => n, fun | n => n⟩
theorem laySortB : Go.Proofs.SlLaysF0.n6 Tryz.prog laySortB_ren := {
  mixed := by kernel_rfl
  f6 := ⟨Tryz.f65.name, by decide, Tryz.func65.trans (congrArg some (by kernel_rfl))⟩
  f14 := ⟨Tryz.f90.name, by decide, Tryz.func90.trans (congrArg some (by kernel_rfl))⟩
  f15 := Tryz.func91.trans (congrArg some (by kernel_rfl))
  f20 := ⟨Tryz.f98.name, by decide, Tryz.func98.trans (congrArg some (by kernel_rfl))⟩
  f21 := ⟨Tryz.f99.name, by decide, Tryz.func99.trans (congrArg some (by kernel_rfl))⟩
  f22 := ⟨Tryz.f100.name, by decide, Tryz.func100.trans (congrArg some (by kernel_rfl))⟩
  f23 := ⟨Tryz.f101.name, by decide, Tryz.func101.trans (congrArg some (by kernel_rfl))⟩
  f24 := ⟨Tryz.f102.name, by decide, Tryz.func102.trans (congrArg some (by kernel_rfl))⟩
  f25 := ⟨Tryz.f103.name, by decide, Tryz.func103.trans (congrArg some (by kernel_rfl))⟩
  f26 := ⟨Tryz.f104.name, by decide, Tryz.func104.trans (congrArg some (by kernel_rfl))⟩
  f27 := ⟨Tryz.f105.name, by decide, Tryz.func105.trans (congrArg some (by kernel_rfl))⟩
  f28 := Tryz.func106.trans (congrArg some (by kernel_rfl))
  f29 := Tryz.func107.trans (congrArg some (by kernel_rfl))
  f46 := ⟨Tryz.f120.name, by decide, Tryz.func120.trans (congrArg some (by kernel_rfl))⟩
  f47 := Tryz.func121.trans (congrArg some (by kernel_rfl))
  f48 := Tryz.func122.trans (congrArg some (by kernel_rfl))
  f49 := ⟨Tryz.f123.name, by decide, Tryz.func123.trans (congrArg some (by kernel_rfl))⟩
  f50 := ⟨Tryz.f124.name, by decide, Tryz.func124.trans (congrArg some (by kernel_rfl))⟩
  f57 := ⟨Tryz.f128.name, by decide, Tryz.func128.trans (congrArg some (by kernel_rfl))⟩
  t0 := Tryz.underlying0
  a0 := Tryz.isAgg0
  z0 := Tryz.sizeOf0
  v0 := Tryz.zeroValue0
  t3 := Tryz.underlying3
  a3 := Tryz.isAgg3
  z3 := Tryz.sizeOf3
  v3 := Tryz.zeroValue3
  t4 := Tryz.underlying4
  a4 := Tryz.isAgg4
  z4 := Tryz.sizeOf4
  v4 := Tryz.zeroValue4
  t5 := Tryz.underlying5
  a5 := Tryz.isAgg5
  z5 := Tryz.sizeOf5
  v5 := Tryz.zeroValue5
  t9 := Tryz.underlying9
  a9 := Tryz.isAgg9
  z9 := Tryz.sizeOf9
  v9 := Tryz.zeroValue9
  t22 := Tryz.underlying67
  a22 := Tryz.isAgg67
  z22 := Tryz.sizeOf67
  v22 := Tryz.zeroValue67
  t25 := Tryz.underlying69
  a25 := Tryz.isAgg69
  z25 := Tryz.sizeOf69
  v25 := Tryz.zeroValue69
  t39 := Tryz.underlying96
  a39 := Tryz.isAgg96
  z39 := Tryz.sizeOf96
  v39 := Tryz.zeroValue96
  t45 := Tryz.underlying111
  a45 := Tryz.isAgg111
  z45 := Tryz.sizeOf111
  v45 := Tryz.zeroValue111
  t46 := Tryz.underlying112
  a46 := Tryz.isAgg112
  z46 := Tryz.sizeOf112
  v46 := Tryz.zeroValue112
  t50 := Tryz.underlying73
  a50 := Tryz.isAgg73
  z50 := Tryz.sizeOf73
  v50 := Tryz.zeroValue73
  t53 := Tryz.underlying118
  a53 := Tryz.isAgg118
  z53 := Tryz.sizeOf118
  v53 := Tryz.zeroValue118
  t55 := Tryz.underlying120
  a55 := Tryz.isAgg120
  z55 := Tryz.sizeOf120
  v55 := Tryz.zeroValue120
  t66 := Tryz.underlying128
  a66 := Tryz.isAgg128
  z66 := Tryz.sizeOf128
  v66 := Tryz.zeroValue128
  t70 := Tryz.underlying132
  a70 := Tryz.isAgg132
  z70 := Tryz.sizeOf132
  v70 := Tryz.zeroValue132
  t76 := Tryz.underlying136
  a76 := Tryz.isAgg136
  z76 := Tryz.sizeOf136
  v76 := Tryz.zeroValue136
  t77 := Tryz.underlying137
  a77 := Tryz.isAgg137
  z77 := Tryz.sizeOf137
  v77 := Tryz.zeroValue137 }
def layClone_ren : Go.Shelf.Ren := ⟨fun | 41 => 117 | n => n, fun | 22 => 23 | 23 => 55 | 4 => 4 | n => n, fun | n => n⟩
theorem layClone : Go.Proofs.SlLaysE0.n41 Tryz.prog layClone_ren := {
  mixed := by kernel_rfl
  f41 := ⟨Tryz.f117.name, by decide, Tryz.func117.trans (congrArg some (by kernel_rfl))⟩
  t4 := Tryz.underlying4
  a4 := Tryz.isAgg4
  z4 := Tryz.sizeOf4
  v4 := Tryz.zeroValue4
  t22 := Tryz.underlying23
  a22 := Tryz.isAgg23
  z22 := Tryz.sizeOf23
  v22 := Tryz.zeroValue23 }

end Go.Proofs.YtkjffoebcblpoaaGreat.gn
end
section
set_option linter.unusedVariables false
namespace Go.Proofs.YtkjffoebcblpoaaGreat.fi

abbrev Nm := List UInt8
/-- A file: its bytes; is it damaged? -/
abbrev Fl := List UInt8 × Bool
abbrev Tb := List (Nm × Fl)

section
variable {V V' : Type}
/-- One entry more, in its place. -/
def ins (x : Nm × V) : List (Nm × V) → List (Nm × V)
  | [] => [x]
  | y :: r => if bytesBefore x.1 y.1 then x :: y :: r else y :: ins x r
def del (k : Nm) (l : List (Nm × V)) : List (Nm × V) := l.filter fun p => !(p.1 == k)
def put (k : Nm) (v : V) (l : List (Nm × V)) : List (Nm × V) := ins (k, v) (del k l)
def get (k : Nm) (l : List (Nm × V)) : Option V := (l.find? fun p => p.1 == k).map (·.2)
/-- What stands at k, turned. -/
def mod (k : Nm) (g : V → V) (l : List (Nm × V)) : List (Nm × V) := l.map fun p => if p.1 = k then (p.1, g p.2) else p

theorem ins_map (f : V → V') (x : Nm × V) : ∀ l : List (Nm × V), (ins x l).map (fun p => (p.1, f p.2)) = ins (x.1, f x.2) (l.map fun p => (p.1, f p.2))
  | [] => rfl
  | y :: r => by
    simp only [ins, List.map_cons]
    split
    · simp
    · simp [ins_map f x r]
theorem del_map (f : V → V') (k : Nm) (l : List (Nm × V)) : (del k l).map (fun p => (p.1, f p.2)) = del k (l.map fun p => (p.1, f p.2)) := by
  simp only [del, List.filter_map]
  rfl
theorem put_map (f : V → V') (k : Nm) (v : V) (l : List (Nm × V)) : (put k v l).map (fun p => (p.1, f p.2)) = put k (f v) (l.map fun p => (p.1, f p.2)) := by
  rw [put, ins_map, del_map]; rfl
theorem get_map (f : V → V') (k : Nm) (l : List (Nm × V)) : get k (l.map fun p => (p.1, f p.2)) = (get k l).map f := by
  simp only [get, List.find?_map, Option.map_map]
  rfl
theorem mem_ins {x z : Nm × V} : ∀ {l : List (Nm × V)}, z ∈ ins x l ↔ z = x ∨ z ∈ l
  | [] => by simp [ins]
  | y :: r => by
    unfold ins
    split
    · simp
    · rw [List.mem_cons, mem_ins (l := r), List.mem_cons]
      constructor
      · rintro (h | h | h)
        · exact .inr (.inl h)
        · exact .inl h
        · exact .inr (.inr h)
      · rintro (h | h | h)
        · exact .inr (.inl h)
        · exact .inl h
        · exact .inr (.inr h)
theorem ins_perm (x : Nm × V) : ∀ l : List (Nm × V), (ins x l).Perm (x :: l)
  | [] => .refl _
  | y :: r => by
    unfold ins
    split
    · exact .refl _
    · exact ((ins_perm x r).cons y).trans (.swap x y r)
theorem mem_del {k : Nm} {z : Nm × V} {l : List (Nm × V)} : z ∈ del k l ↔ z ∈ l ∧ z.1 ≠ k := by simp [del]
theorem get_some {k : Nm} {v : V} {l : List (Nm × V)} (h : get k l = some v) : (k, v) ∈ l := by
  unfold get at h
  obtain ⟨p, hp, rfl⟩ := Option.map_eq_some_iff.1 h
  have h1 := List.find?_some hp
  have h2 := List.mem_of_find?_eq_some hp
  have : p.1 = k := by simpa using h1
  rw [← this]
  exact h2
theorem get_none {k : Nm} {l : List (Nm × V)} : get k l = none ↔ ∀ z ∈ l, z.1 ≠ k := by
  simp [get, List.find?_eq_none]
theorem get_of_mem {k : Nm} {v : V} {l : List (Nm × V)} (hn : l.Pairwise fun p q => p.1 ≠ q.1) (h : (k, v) ∈ l) : get k l = some v := by
  induction l with
  | nil => simp at h
  | cons y r ih =>
    obtain ⟨h1, h2⟩ := List.pairwise_cons.1 hn
    rcases List.mem_cons.1 h with rfl | h'
    · simp [get]
    · have hne : (y.1 == k) = false := by simpa using h1 _ h'
      have := ih h2 h'
      simpa [get, List.find?_cons, hne] using this
theorem find_ins_hit {k : Nm} {v : V} : ∀ {l : List (Nm × V)}, (∀ z ∈ l, z.1 ≠ k) → (ins (k, v) l).find? (fun p => p.1 == k) = some (k, v)
  | [], _ => by simp [ins]
  | y :: r, h => by
    unfold ins
    split
    · simp
    · have : (y.1 == k) = false := by simpa using h y (by simp)
      rw [List.find?_cons, this]
      exact find_ins_hit fun z hz => h z (by simp [hz])
theorem find_ins_miss {k j : Nm} {v : V} (hne : j ≠ k) : ∀ {l : List (Nm × V)}, (ins (k, v) l).find? (fun p => p.1 == j) = l.find? (fun p => p.1 == j)
  | [] => by simp [ins, hne.symm]
  | y :: r => by
    unfold ins
    have hkj : (k == j) = false := by simpa using hne.symm
    split
    · rw [List.find?_cons, hkj]
    · rw [List.find?_cons, List.find?_cons, find_ins_miss hne]
theorem get_put_same (k : Nm) (v : V) (l : List (Nm × V)) : get k (put k v l) = some v := by
  unfold get put
  rw [find_ins_hit fun z hz => (mem_del.1 hz).2]
  rfl
theorem find_del {k j : Nm} (hne : j ≠ k) (l : List (Nm × V)) : (del k l).find? (fun p => p.1 == j) = l.find? (fun p => p.1 == j) := by
  unfold del
  induction l with
  | nil => rfl
  | cons y r ih =>
    by_cases hy : y.1 = k
    · have h1 : (y.1 == k) = true := by simpa using hy
      have h2 : (y.1 == j) = false := by simpa [hy] using hne.symm
      simp only [List.filter_cons, h1, Bool.not_true, Bool.false_eq_true, if_false, List.find?_cons, h2]
      exact ih
    · have h1 : (y.1 == k) = false := by simpa using hy
      simp only [List.filter_cons, h1, Bool.not_false, if_true, List.find?_cons]
      split
      · rfl
      · exact ih
theorem get_del_other {k j : Nm} (hne : j ≠ k) (l : List (Nm × V)) : get j (del k l) = get j l := by unfold get; rw [find_del hne]
theorem get_del_same (k : Nm) (l : List (Nm × V)) : get k (del k l) = none := get_none.2 fun _ hz => (mem_del.1 hz).2
theorem get_put_other {k j : Nm} (hne : j ≠ k) (v : V) (l : List (Nm × V)) : get j (put k v l) = get j l := by
  have h1 : get j (put k v l) = get j (del k l) := by unfold get put; rw [find_ins_miss hne]
  rw [h1, get_del_other hne]
theorem get_mod_same (k : Nm) (g : V → V) (l : List (Nm × V)) : get k (mod k g l) = (get k l).map g := by
  unfold get mod
  induction l with
  | nil => rfl
  | cons y r ih =>
    by_cases hy : y.1 = k
    · subst hy
      simp
    · have h1 : (y.1 == k) = false := by simpa using hy
      simp only [List.map_cons, hy, if_false, List.find?_cons, h1]
      exact ih
theorem get_mod_other {k j : Nm} (hne : j ≠ k) (g : V → V) (l : List (Nm × V)) : get j (mod k g l) = get j l := by
  unfold get mod
  induction l with
  | nil => rfl
  | cons y r ih =>
    by_cases hy : y.1 = k
    · subst hy
      have h1 : (y.1 == j) = false := by simpa using hne.symm
      simp only [List.map_cons, if_true, List.find?_cons, h1]
      exact ih
    · simp only [List.map_cons, hy, if_false, List.find?_cons]
      split
      · rfl
      · exact ih
theorem mod_none {k : Nm} {g : V → V} {l : List (Nm × V)} (h : get k l = none) : mod k g l = l := by
  unfold mod
  conv => rhs; rw [← List.map_id l]
  refine List.map_congr_left fun p hp => ?_
  rw [if_neg (get_none.1 h p hp)]
  rfl
theorem mod_id {k : Nm} {g : V → V} {l : List (Nm × V)} (h : ∀ v, (k, v) ∈ l → g v = v) : mod k g l = l := by
  unfold mod
  conv => rhs; rw [← List.map_id l]
  refine List.map_congr_left fun p hp => ?_
  split
  · rename_i e
    subst e
    rw [h _ hp]
    rfl
  · rfl
theorem mod_eq {k : Nm} {g g' : V → V} {l : List (Nm × V)} (h : ∀ v, (k, v) ∈ l → g v = g' v) : mod k g l = mod k g' l := by
  unfold mod
  refine List.map_congr_left fun p hp => ?_
  split
  · rename_i e
    subst e
    rw [h _ hp]
  · rfl
def Keyed1 (l : List (Nm × V)) : Prop := l.Pairwise fun p q => p.1 ≠ q.1
theorem keyed_del {l : List (Nm × V)} (h : Keyed1 l) (k : Nm) : Keyed1 (del k l) := List.Pairwise.filter _ h
theorem keyed_put {l : List (Nm × V)} (h : Keyed1 l) (k : Nm) (v : V) : Keyed1 (put k v l) := by
  unfold Keyed1 put
  rw [(ins_perm _ _).pairwise_iff (fun {a b} (h : a.1 ≠ b.1) => h.symm)]
  exact List.pairwise_cons.2 ⟨fun q hq => (mem_del.1 hq).2.symm, keyed_del h k⟩
theorem keyed_mod {l : List (Nm × V)} (h : Keyed1 l) (k : Nm) (g : V → V) : Keyed1 (mod k g l) := by
  unfold Keyed1 mod
  rw [List.pairwise_map]
  refine List.Pairwise.imp ?_ h
  intro a b hab
  have e : ∀ p : Nm × V, (if p.1 = k then (p.1, g p.2) else p).1 = p.1 := fun p => by split <;> rfl
  rw [e, e]
  exact hab
theorem mod_one {l : List (Nm × V)} {k : Nm} {g : V → V} {v : V} (h : Keyed1 l) (hv : get k l = some v) : mod k g l = mod k (fun _ => g v) l :=
  mod_eq fun v' hv' => by
    have := get_of_mem h hv'
    rw [hv] at this
    rw [Option.some.inj this]
theorem put_length {l : List (Nm × V)} (k : Nm) (v : V) : (put k v l).length ≤ l.length + 1 := by
  unfold put
  rw [(ins_perm _ _).length_eq, List.length_cons]
  have := List.length_filter_le (fun p : Nm × V => !(p.1 == k)) l
  unfold del
  omega
theorem del_length {l : List (Nm × V)} (k : Nm) : (del k l).length ≤ l.length := List.length_filter_le _ l
theorem mod_length (k : Nm) (g : V → V) (l : List (Nm × V)) : (mod k g l).length = l.length := by simp [mod]
end

/-! ### weights -/
/-- How many bytes a table bears, and one more for each file. -/
def wt : Tb → Nat
  | [] => 0
  | p :: r => 1 + p.2.1.length + wt r
theorem wt_perm {a b : Tb} (h : a.Perm b) : wt a = wt b := by
  induction h with
  | nil => rfl
  | cons x _ ih => simp [wt, ih]
  | swap x y l => simp only [wt]; omega
  | trans _ _ i1 i2 => exact i1.trans i2
theorem wt_filter (f : Nm × Fl → Bool) : ∀ l : Tb, wt (l.filter f) ≤ wt l
  | [] => Nat.le_refl _
  | y :: r => by
    have := wt_filter f r
    rw [List.filter_cons]
    split <;> simp only [wt] <;> omega
theorem wt_del (k : Nm) (l : Tb) : wt (del k l) ≤ wt l := wt_filter _ l
theorem wt_put (k : Nm) (v : Fl) (l : Tb) : wt (put k v l) ≤ 1 + v.1.length + wt l := by
  unfold put
  rw [wt_perm (ins_perm _ _)]
  have := wt_del k l
  simp only [wt]
  omega
theorem wt_len (l : Tb) : l.length ≤ wt l := by
  induction l with
  | nil => exact Nat.le_refl _
  | cons y r ih => simp only [wt, List.length_cons]; omega
theorem wt_mem {l : Tb} {p : Nm × Fl} (h : p ∈ l) : p.2.1.length < wt l := by
  induction l with
  | nil => simp at h
  | cons y r ih =>
    rcases List.mem_cons.1 h with rfl | h'
    · simp only [wt]; omega
    · have := ih h'
      simp only [wt]; omega
theorem wt_get {l : Tb} {k : Nm} {f : Fl} (h : get k l = some f) : f.1.length < wt l := wt_mem (get_some h)
theorem wt_mod_keyed {k : Nm} {g : Fl → Fl} {m : Nat} (hg : ∀ f, (g f).1.length ≤ f.1.length + m) : ∀ {l : Tb}, Keyed1 l → wt (mod k g l) ≤ wt l + m
  | [], _ => Nat.zero_le _
  | y :: r, h => by
    obtain ⟨h1, h2⟩ := List.pairwise_cons.1 h
    by_cases hy : y.1 = k
    · have hr : mod k g r = r := mod_none (get_none.2 fun z hz => fun e => h1 z hz (by rw [hy, e]))
      have := hg y.2
      show wt ((if y.1 = k then (y.1, g y.2) else y) :: mod k g r) ≤ _
      rw [if_pos hy, hr]
      simp only [wt]
      omega
    · have := wt_mod_keyed hg h2 (k := k)
      show wt ((if y.1 = k then (y.1, g y.2) else y) :: mod k g r) ≤ _
      rw [if_neg hy]
      simp only [wt]
      omega

/-! ### operations -/
inductive FOp
  | make (n : Nm)
  | app (n : Nm) (s : List UInt8)
  | cut (n : Nm) (k : Nat)
  | ren (a b : Nm)
  | rem (n : Nm)
  deriving DecidableEq

def addF (s : List UInt8) (f : Fl) : Fl := if f.2 then f else (f.1 ++ s, false)
def shortF (s : List UInt8) (f : Fl) : Fl := if f.2 then f else (f.1 ++ s, true)
def cutF (k : Nat) (f : Fl) : Fl := if f.2 then f else (f.1.take k, false)
def renT (a b : Nm) (T : Tb) : Tb := match get a T with | none => T | some f => put b f (del a T)
def doOp : FOp → Tb → Tb
  | .make n, T => put n ([], false) T
  | .app n s, T => mod n (addF s) T
  | .cut n k, T => mod n (cutF k) T
  | .ren a b, T => renT a b T
  | .rem n, T => del n T
/-- An append of which the first c bytes are kept. -/
def short (n : Nm) (s : List UInt8) (c : Int) (T : Tb) : Tb := mod n (shortF (s.take c.toNat)) T
def replay (l : List FOp) (T : Tb) : Tb := l.foldl (fun T o => doOp o T) T
theorem replay_snoc (l : List FOp) (o : FOp) (T : Tb) : replay (l ++ [o]) T = doOp o (replay l T) := by simp [replay, List.foldl_append]
/-- Undamaged files with the same bytes. -/
def strip (T : Tb) : Tb := T.map fun p => (p.1, (p.2.1, false))

def FOp.wt : FOp → Nat
  | .app _ s => 1 + s.length
  | _ => 1
def wts : List FOp → Nat
  | [] => 0
  | o :: r => o.wt + wts r
theorem wts_app (a b : List FOp) : wts (a ++ b) = wts a + wts b := by
  induction a with
  | nil => simp [wts]
  | cons x r ih => simp only [List.cons_append, wts, ih]; omega
theorem wts_len (a : List FOp) : a.length ≤ wts a := by
  induction a with
  | nil => exact Nat.le_refl _
  | cons x r ih =>
    have : 1 ≤ x.wt := by cases x <;> simp only [FOp.wt] <;> omega
    simp only [wts, List.length_cons]; omega

theorem keyed_do {T : Tb} (h : Keyed1 T) (o : FOp) : Keyed1 (doOp o T) := by
  cases o with
  | make n => exact keyed_put h _ _
  | app n s => exact keyed_mod h _ _
  | cut n k => exact keyed_mod h _ _
  | ren a b =>
    show Keyed1 (renT a b T)
    unfold renT
    split
    · exact h
    · exact keyed_put (keyed_del h _) _ _
  | rem n => exact keyed_del h _
theorem wt_ren {T : Tb} {a b : Nm} {f : Fl} (hk : Keyed1 T) (h : get a T = some f) : wt (put b f (del a T)) ≤ wt T := by
  have h1 := wt_put b f (del a T)
  have h2 : ∀ {l : Tb}, (a, f) ∈ l → 1 + f.1.length + wt (del a l) ≤ wt l := by
    intro l hl
    induction l with
    | nil => simp at hl
    | cons y r ih =>
      rcases List.mem_cons.1 hl with rfl | hl'
      · have := wt_del a r
        simp only [del, List.filter_cons, beq_self_eq_true, Bool.not_true, Bool.false_eq_true, if_false, wt] at this ⊢
        omega
      · have := ih hl'
        unfold del at this ⊢
        rw [List.filter_cons]
        split <;> simp only [wt] <;> omega
  have := h2 (get_some h)
  omega
theorem wt_do {T : Tb} (h : Keyed1 T) (o : FOp) : wt (doOp o T) ≤ wt T + o.wt := by
  cases o with
  | make n =>
    have := wt_put n ([], false) T
    simp only [doOp, FOp.wt, List.length_nil] at this ⊢
    omega
  | app n s =>
    have := wt_mod_keyed (k := n) (g := addF s) (m := s.length) (fun f => by unfold addF; split <;> simp) h
    simp only [doOp, FOp.wt] at this ⊢
    omega
  | cut n k =>
    have := wt_mod_keyed (k := n) (g := cutF k) (m := 0) (fun f => by unfold cutF; split <;> simp; omega) h
    simp only [doOp, FOp.wt] at this ⊢
    omega
  | ren a b =>
    simp only [doOp, FOp.wt, renT]
    split
    · omega
    · have := wt_ren (b := b) h ‹_›
      omega
  | rem n =>
    have := wt_del n T
    simp only [doOp, FOp.wt] at this ⊢
    omega
theorem wt_short {T : Tb} (h : Keyed1 T) (n : Nm) (s : List UInt8) (c : Int) : wt (short n s c T) ≤ wt T + s.length :=
  wt_mod_keyed (fun f => by unfold shortF; split <;> simp <;> omega) h
theorem keyed_short {T : Tb} (h : Keyed1 T) (n : Nm) (s : List UInt8) (c : Int) : Keyed1 (short n s c T) := keyed_mod h _ _
theorem keyed_replay {T : Tb} (h : Keyed1 T) : ∀ (l : List FOp), Keyed1 (replay l T) := by
  intro l
  induction l generalizing T with
  | nil => exact h
  | cons o r ih => exact ih (keyed_do h o)
theorem wt_replay {T : Tb} (h : Keyed1 T) : ∀ (l : List FOp), wt (replay l T) ≤ wt T + wts l := by
  intro l
  induction l generalizing T with
  | nil => exact Nat.le_refl _
  | cons o r ih =>
    have h1 := ih (keyed_do h o)
    have h2 := wt_do h o
    simp only [wts]
    show wt (replay r (doOp o T)) ≤ _
    omega
theorem wt_strip (T : Tb) : wt (strip T) = wt T := by
  unfold strip
  induction T with
  | nil => rfl
  | cons y r ih => simp only [List.map_cons, wt, ih]
theorem keyed_strip {T : Tb} (h : Keyed1 T) : Keyed1 (strip T) := by
  unfold Keyed1 strip
  rw [List.pairwise_map]
  exact h

/-- Nothing is damaged. -/
def Sound (T : Tb) : Prop := ∀ p ∈ T, p.2.2 = false
theorem sound_strip (T : Tb) : Sound (strip T) := by
  intro p hp
  obtain ⟨q, _, rfl⟩ := List.mem_map.1 hp
  rfl
theorem strip_sound {T : Tb} (h : Sound T) : strip T = T := by
  unfold strip
  conv => rhs; rw [← List.map_id T]
  refine List.map_congr_left fun p hp => ?_
  have := h p hp
  obtain ⟨k, b, d⟩ := p
  simp only at this
  rw [this]
  rfl
theorem sound_mod {T : Tb} (h : Sound T) {k : Nm} {g : Fl → Fl} (hg : ∀ f : Fl, f.2 = false → (g f).2 = false) : Sound (mod k g T) := by
  intro p hp
  obtain ⟨q, hq, rfl⟩ := List.mem_map.1 hp
  split
  · exact hg _ (h q hq)
  · exact h q hq
theorem sound_put {T : Tb} (h : Sound T) {k : Nm} {f : Fl} (hf : f.2 = false) : Sound (put k f T) := by
  intro p hp
  rcases mem_ins.1 hp with rfl | hp
  · exact hf
  · exact h p (mem_del.1 hp).1
theorem sound_del {T : Tb} (h : Sound T) (k : Nm) : Sound (del k T) := fun p hp => h p (mem_del.1 hp).1
theorem sound_do {T : Tb} (h : Sound T) (o : FOp) : Sound (doOp o T) := by
  cases o with
  | make n => exact sound_put h rfl
  | app n s => exact sound_mod h fun f hf => by unfold addF; split <;> simp_all
  | cut n k => exact sound_mod h fun f hf => by unfold cutF; split <;> simp_all
  | ren a b =>
    show Sound (renT a b T)
    unfold renT
    split
    · exact h
    · exact sound_put (sound_del h _) (h _ (get_some ‹_›))
  | rem n => exact sound_del h _
theorem sound_replay {T : Tb} (h : Sound T) (l : List FOp) : Sound (replay l T) := by
  induction l generalizing T with
  | nil => exact h
  | cons o r ih => exact ih (sound_do h o)

/-! ### operations that were done are done again -/
/-- The operation may be done on T: a cut leaves what is there. -/
def fit (o : FOp) (T : Tb) : Prop :=
  match o with
  | .cut n k => ∀ f, get n T = some f → k ≤ f.1.length
  | _ => True
def fits : List FOp → Tb → Prop
  | [], _ => True
  | o :: r, T => fit o T ∧ fits r (doOp o T)
theorem fits_snoc : ∀ (l : List FOp) (o : FOp) (T : Tb), fits l T → fit o (replay l T) → fits (l ++ [o]) T
  | [], _, _, _, h => ⟨h, trivial⟩
  | x :: r, o, T, h, h2 => ⟨h.1, fits_snoc r o (doOp x T) h.2 h2⟩

/-- T is U, but that files of it may be damaged. -/
def Half (T U : Tb) : Prop := ∀ k, (get k T = none ↔ get k U = none) ∧ ∀ f, get k T = some f → f.2 = false → get k U = some f
theorem Half.refl (T : Tb) : Half T T := fun _ => ⟨Iff.rfl, fun _ h _ => h⟩
theorem half_mod {T U : Tb} (h : Half T U) {n : Nm} {g g' : Fl → Fl} (hd : ∀ f : Fl, f.2 = true → (g f).2 = true) (hg : ∀ f : Fl, f.2 = false → (g f).2 = false → g f = g' f) : Half (mod n g T) (mod n g' U) := by
  intro k
  by_cases hk : k = n
  · subst hk
    rw [get_mod_same, get_mod_same]
    refine ⟨by simp [(h k).1], fun f hf h0 => ?_⟩
    obtain ⟨f1, h1, rfl⟩ := Option.map_eq_some_iff.1 hf
    cases h2 : f1.2 with
    | true => rw [hd f1 h2] at h0; cases h0
    | false => rw [(h k).2 f1 h1 h2, Option.map_some, hg f1 h2 h0]
  · rw [get_mod_other hk, get_mod_other hk]
    exact h k
theorem half_put {T U : Tb} (h : Half T U) (n : Nm) {f f' : Fl} (hf : f.2 = false → f = f') : Half (put n f T) (put n f' U) := by
  intro k
  by_cases hk : k = n
  · subst hk
    rw [get_put_same, get_put_same]
    refine ⟨by simp, fun x hx h0 => ?_⟩
    cases hx
    rw [hf h0]
  · rw [get_put_other hk, get_put_other hk]
    exact h k
theorem half_del {T U : Tb} (h : Half T U) (n : Nm) : Half (del n T) (del n U) := by
  intro k
  by_cases hk : k = n
  · subst hk
    rw [get_del_same, get_del_same]
    exact ⟨Iff.rfl, fun f hf => by cases hf⟩
  · rw [get_del_other hk, get_del_other hk]
    exact h k
theorem half_do {T U : Tb} (h : Half T U) (o : FOp) : Half (doOp o T) (doOp o U) := by
  cases o with
  | make n => exact half_put h n fun _ => rfl
  | app n s => exact half_mod h (fun f hf => by simp [addF, hf]) (fun f hf _ => rfl)
  | cut n k => exact half_mod h (fun f hf => by simp [cutF, hf]) (fun f hf _ => rfl)
  | ren a b =>
    cases hT : get a T with
    | none =>
      have hU1 := (h a).1.1 hT
      simp only [doOp, renT, hT, hU1]
      exact h
    | some f =>
      cases hU1 : get a U with
      | none => rw [(h a).1.2 hU1] at hT; cases hT
      | some f' =>
        simp only [doOp, renT, hT, hU1]
        refine half_put (half_del h a) b fun h0 => ?_
        have := (h a).2 f hT h0
        rw [hU1] at this
        exact (Option.some.inj this).symm
  | rem n => exact half_del h n
theorem half_short {T U : Tb} (h : Half T U) (n : Nm) (s : List UInt8) (c : Int) : Half (short n s c T) (doOp (.app n s) U) :=
  half_mod h (fun f hf => by simp [shortF, hf]) (fun f hf h0 => by simp [shortF, hf] at h0)
theorem half_fit {T U : Tb} (h : Half T U) {o : FOp} (hf : fit o U) {n : Nm} {k : Nat} (ho : o = .cut n k) : ∀ f, get n T = some f → f.2 = false → k ≤ f.1.length := by
  subst ho
  intro f h1 h2
  exact hf f ((h n).2 f h1 h2)

/-! ### a failure -/
structure Fault where
  keep : Int
  lose : Nat
  cut : Int
/-- What a failure leaves of the operations from index i on. -/
def crashes (f : Fault) : Nat → List FOp → Tb → Tb
  | _, [], T => T
  | i, o :: r, T =>
    if f.keep < i then T else
    match o with
    | .app n s => if f.keep = i ∨ f.lose >>> (i % 64) % 2 = 1 then crashes f (i + 1) r (short n s f.cut T) else crashes f (i + 1) r (doOp (.app n s) T)
    | o => if f.keep = i then T else crashes f (i + 1) r (doOp o T)
end Go.Proofs.YtkjffoebcblpoaaGreat.fi
end
