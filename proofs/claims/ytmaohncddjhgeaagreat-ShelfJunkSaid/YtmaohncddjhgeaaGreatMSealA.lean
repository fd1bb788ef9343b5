/- The walk's numbers and the register's; the contract of halfEffects. -/
import Derived.Test.YtmaohncddjhgeaaGreatMGen
import Derived.Test.YtmaohncddjhgeaaGreatSealM
import Derived.WalkKit
import Derived.ProofKit
import Derived.OwnWalk
import Derived.OneCell
import Derived.Lib.Hide
import Derived.Laws.Bits64
import Derived.Laws.Bits64b
import Derived.Laws.Rows
import Derived.Laws.CopyOwn
import Derived.Deep.DeepCutAuto
section
namespace Go.Proofs.YtmaohncddjhgeaaGreat.gn
open Go.RowKit
open Go.Proofs.YtmaohncddjhgeaaGreat.sl

/-- A register as the walk has it. -/
def reg (r : BitVec 64) : Int := (r.toNat : Int)
theorem reg_bd (r : BitVec 64) : 0 ≤ reg r ∧ reg r < 18446744073709551616 := by
  have := r.isLt; unfold reg; omega
theorem reg_xor (a b : BitVec 64) : bits .xor .u64 (reg a) (reg b) = reg (a ^^^ b) := by
  unfold reg
  rw [bits_xor_u64_nat _ _ a.isLt b.isLt, BitVec.toNat_xor]
theorem reg_not (a : BitVec 64) : bits .xor .u64 IntKind.u64.max (reg a) = reg (~~~ a) := by
  have h : IntKind.u64.max = reg (BitVec.allOnes 64) := by decide
  rw [h, reg_xor, BitVec.allOnes_xor]
theorem reg_half (a : BitVec 64) : reg a / (2 : Int) = reg (a >>> 1) := by
  unfold reg
  rw [BitVec.toNat_ushiftRight, Nat.shiftRight_eq_div_pow]
  omega
theorem reg_16 (a : BitVec 64) : reg a / (16 : Int) = reg (a >>> 4) := by
  unfold reg
  rw [BitVec.toNat_ushiftRight, Nat.shiftRight_eq_div_pow]
  omega
theorem bit0 (a : BitVec 64) : a.getLsbD 0 = decide (a.toNat % 2 = 1) := by
  rw [← BitVec.testBit_toNat, Nat.testBit_zero]
theorem reg_poly : (14514072000185962306 : Int) = reg poly := by decide
theorem reg_one (a : BitVec 64) (h : reg a % 2 = 1) : bits .xor .u64 (reg a / 2) 14514072000185962306 = reg (st a) := by
  have h0 : a.getLsbD 0 = true := by rw [bit0]; unfold reg at h; simp; omega
  rw [reg_half, reg_poly, reg_xor, st, h0]
  rfl
theorem reg_nil (a : BitVec 64) (h : reg a % 2 = 0) : reg a / 2 = reg (st a) := by
  have h0 : a.getLsbD 0 = false := by rw [bit0]; unfold reg at h; simp; omega
  rw [reg_half, st, h0]
  rfl
theorem reg_mul (a : BitVec 64) : bits .xor .u64 (reg a / 2) (IntKind.u64.wrap (bits .and .u64 (reg a) 1 * 14514072000185962306)) = reg (st a) := by
  have h1 : bits .and .u64 (reg a) 1 = reg a % 2 := by
    unfold reg
    have h := bits_and_u64_nat a.toNat 1 a.isLt (by decide)
    rw [show ((1 : Nat) : Int) = 1 from rfl] at h
    rw [h, Nat.and_one_is_mod]
    omega
  rw [h1]
  have h2 := reg_bd a
  have h3 : reg a % 2 = 0 ∨ reg a % 2 = 1 := by omega
  rcases h3 with h | h
  · rw [h, show IntKind.u64.wrap ((0 : Int) * 14514072000185962306) = reg 0#64 by decide, reg_half, reg_xor, BitVec.xor_zero, ← reg_half, reg_nil a h]
  · rw [h, show IntKind.u64.wrap ((1 : Int) * 14514072000185962306) = 14514072000185962306 by decide, reg_one a h]

/-- What half a byte does to the rest of the register. -/
def eff (i : Nat) : BitVec 64 := its 4 (BitVec.ofNat 64 i)
def tabAt (k i : Nat) : Value := .int .u64 (if i < k then reg (eff i) else 0)
def tabs (k : Nat) : Array Value := #[tabAt k 0, tabAt k 1, tabAt k 2, tabAt k 3, tabAt k 4, tabAt k 5, tabAt k 6, tabAt k 7, tabAt k 8, tabAt k 9, tabAt k 10, tabAt k 11, tabAt k 12, tabAt k 13, tabAt k 14, tabAt k 15]
theorem tabs_zero : tabs 0 = #[.int .u64 0, .int .u64 0, .int .u64 0, .int .u64 0, .int .u64 0, .int .u64 0, .int .u64 0, .int .u64 0, .int .u64 0, .int .u64 0, .int .u64 0, .int .u64 0, .int .u64 0, .int .u64 0, .int .u64 0, .int .u64 0] := by simp [tabs, tabAt]
theorem tabs_size (k : Nat) : (tabs k).size = 16 := rfl
theorem tabs_at (k i : Nat) (h : i < 16) : (tabs k)[i]? = some (tabAt k i) := by
  match i, h with
  | 0, _ => rfl
  | 1, _ => rfl
  | 2, _ => rfl
  | 3, _ => rfl
  | 4, _ => rfl
  | 5, _ => rfl
  | 6, _ => rfl
  | 7, _ => rfl
  | 8, _ => rfl
  | 9, _ => rfl
  | 10, _ => rfl
  | 11, _ => rfl
  | 12, _ => rfl
  | 13, _ => rfl
  | 14, _ => rfl
  | 15, _ => rfl
  | n + 16, h => omega
theorem tabs_set (k : Nat) (h : k < 16) : (tabs k).setIfInBounds k (.int .u64 (reg (eff k))) = tabs (k + 1) := by
  apply Array.ext_getElem?
  intro i
  rw [Array.getElem?_setIfInBounds]
  by_cases hi : k = i
  · subst hi
    rw [if_pos rfl, if_pos (by rw [tabs_size]; exact h), tabs_at _ _ h]
    simp [tabAt]
  · rw [if_neg hi]
    by_cases h2 : i < 16
    · rw [tabs_at _ _ h2, tabs_at _ _ h2]
      have : i < k ↔ i < k + 1 := by omega
      simp [tabAt, this]
    · rw [Array.getElem?_eq_none (by rw [tabs_size]; omega), Array.getElem?_eq_none (by rw [tabs_size]; omega)]

theorem reg_nat (k : Nat) (h : k < 18446744073709551616) : reg (BitVec.ofNat 64 k) = (k : Int) := by
  unfold reg
  rw [BitVec.toNat_ofNat, Nat.mod_eq_of_lt h]
theorem its_one_more (j : Nat) (x : BitVec 64) : its (j + 1) x = st (its j x) := by
  rw [its_add]; rfl

def HalfRel (w : World) (v4 : Value) (wr : World) : Prop :=
  ∃ k : Nat, k ≤ 16 ∧ v4 = .int .i64 (k : Int) ∧ wr.heap[w.heap.size]? = some (.cells (tabs 0) 164 (0, 0)) ∧ wr.heap[w.heap.size + 1]? = some (.cells (tabs k) 164 (0, 0)) ∧ Below w.heap.size w wr

theorem half_rel {w wr : World} (k : Nat) (hk : k < 16) (h0 : wr.heap[w.heap.size]? = some (.cells (tabs 0) 164 (0, 0))) (h1 : wr.heap[w.heap.size + 1]? = some (.cells (tabs k) 164 (0, 0))) (hb : Below w.heap.size w wr) :
    HalfRel w (.int .i64 ((k : Int) + 1)) (wr.setCell ⟨w.heap.size + 1, k, none⟩ (.int .u64 (reg (its 4 (BitVec.ofNat 64 k))))) := by
  refine ⟨k + 1, by omega, by go_num, ?_, ?_, hb.setCell (by simp) _⟩
  · rw [heap_setCell_other _ _ _ _ (by simp)]; exact h0
  · rw [heap_setCell_same _ _ _ _ _ _ h1, ← tabs_set k hk]; rfl

set_option maxHeartbeats 800000 in
theorem half_any (w : World) : Calls Tryz.prog 144 #[] w fun e w' => e = .returned (.agg (tabs 16)) ∧ Below w.heap.size w w' := by
  go_enter Tryz.func144, Tryz.ntmps144
  go_wp2
  go_loopw [4] (fun v4 wr => HalfRel w v4 wr) (fun v4 _ => 16 - (intOf v4).toNat)
  case atStart =>
    refine ⟨0, by omega, rfl, ?_, ?_, ?_⟩
    · rw [tabs_zero]; exact heap_alloc2_old _ _ _
    · rw [tabs_zero]; exact heap_alloc2_new _ _ _
    · exact ((Below.refl _ _).alloc (Nat.le_refl _) _).alloc (by simp) _
  case round =>
    obtain ⟨k, hk, rfl, h0, h1, hb⟩ := hrel
    by_cases hlt : k < 16
    · have hc : wr.cell? ⟨w.heap.size + 1, k, none⟩ = some (tabAt k k) := by rw [cell_of_row _ _ _ _ _ _ h1, tabs_at _ _ hlt]
      have hf : wr.frozen? ⟨w.heap.size + 1, k, none⟩ = false := frozen_of_row _ _ _ _ _ h1
      have H0 := Lib.hid h0
      have H1 := Lib.hid h1
      have HB := Lib.hid hb
      have hd : decide ((k : Int) < 16) = true := decide_eq_true (by omega)
      clear h0 h1 hb
      go_wp2
      go_loop [3, 9] (fun v3 v9 => ∃ j : Nat, j ≤ 4 ∧ v9 = .int .i64 (j : Int) ∧ v3 = .int .u64 (reg (its j (BitVec.ofNat 64 k)))) (fun _ v9 => 4 - (intOf v9).toNat)
      case atStart => exact ⟨0, by omega, rfl, by rw [its, reg_nat k (by omega)]⟩
      case round =>
        obtain ⟨j, hj, rfl, rfl⟩ := hrel
        by_cases hlt2 : j < 4
        · go_wp2
          go_round
          case rel => exact ⟨j + 1, by omega, by go_num, by rw [its_one_more, ← reg_mul]⟩
          case measure => simp [intOf]; omega
        · have : j = 4 := by omega
          subst this
          go_wp2
          go_roundw
          case rel => exact half_rel k (by omega) H0.out H1.out HB.out
          case measure => simp [intOf]; omega
    · have : k = 16 := by omega
      subst this
      have hts : (tabs 16).size = 16 := rfl
      have H0 := Lib.hid h0
      have HB := Lib.hid hb
      clear h0 hb
      go_wp2_with (first | (refine wpList_load_row rfl _ _ rfl _ rfl _ _ _ _ h1 Tryz.underlying164 rfl (by kernel_rfl) ?_) | (refine wpList_store_row rfl _ _ _ rfl w.heap.size (tabs 16) rfl rfl _ (tabs 0) H0.out (by kernel_rfl) rfl (by kernel_rfl) ?_))
      have hg : (wr.setRow w.heap.size (tabs 16)).heap[w.heap.size]? = some (.cells (tabs 16) 164 (0, 0)) := setRow_heap _ _ _ _ _ _ H0.out
      exact bodyPost_ret (v := .agg (tabs 16)) (results_cell_row rfl _ _ _ _ _ _ _ rfl hg Tryz.underlying164 rfl (by kernel_rfl)) rfl ⟨rfl, below_setRow HB.out (Nat.le_refl _) _⟩
end Go.Proofs.YtmaohncddjhgeaaGreat.gn
end
section
namespace Go.Proofs.YtmaohncddjhgeaaGreat.gn
open Go.RowKit
open Go.Proofs.YtmaohncddjhgeaaGreat.sl

/-- Four steps at once. -/
theorem its_four (r : BitVec 64) : (r >>> 4) ^^^ eff (r.toNat % 16) = its 4 r := by
  have h : r = ((r >>> 4) <<< 4) ^^^ BitVec.ofNat 64 (r.toNat % 16) := by
    apply BitVec.eq_of_getLsbD_eq
    intro i hi
    rw [BitVec.getLsbD_xor, BitVec.getLsbD_shiftLeft, BitVec.getLsbD_ushiftRight, BitVec.getLsbD_ofNat, show 16 = 2 ^ 4 from rfl, Nat.testBit_mod_two_pow, BitVec.testBit_toNat]
    by_cases h4 : i < 4
    · simp [h4, hi]
    · simp [h4, hi, show 4 + (i - 4) = i from by omega]
  have e : its 4 ((r >>> 4) <<< 4) = r >>> 4 := its_shl 4 _ (fun i hi => by
    rw [BitVec.getLsbD_ushiftRight]
    exact BitVec.getLsbD_of_ge _ _ (by omega))
  unfold eff
  conv => rhs; rw [h]
  rw [its_xor, e]

def One (R : Nat) (x : BitVec 64) (w : World) : Prop := w.heap[R]? = some (.cells #[.int .u64 (reg x)] 31 (0, 0))
def TabE (E : Nat) (w : World) : Prop := w.heap[E]? = some (.cells (tabs 16) 164 (0, 0))
theorem One.lt {R : Nat} {x : BitVec 64} {w : World} (h : One R x w) : R < w.heap.size := lt_of_block h
theorem TabE.lt {E : Nat} {w : World} (h : TabE E w) : E < w.heap.size := lt_of_block h
theorem TabE.at {E : Nat} {w : World} (h : TabE E w) (i : Nat) (hi : i < 16) : w.cell? ⟨E, i, none⟩ = some (.int .u64 (reg (eff i))) := by
  rw [cell_of_row w E i _ _ _ h, tabs_at _ _ hi, tabAt, if_pos hi]
theorem TabE.frozen {E : Nat} {w : World} (h : TabE E w) (i : Nat) : w.frozen? ⟨E, i, none⟩ = false := frozen_of_row w E i _ _ h

theorem reg_wide (c : UInt8) : reg (wide c) = (c.toNat : Int) := by
  have := UInt8.toNat_lt c
  unfold reg wide
  rw [BitVec.toNat_ofNat, Nat.mod_eq_of_lt (by omega)]
theorem reg_byte (r : BitVec 64) (c : UInt8) : bits .xor .u64 (reg r) (c.toNat : Int) = reg (r ^^^ wide c) := by
  rw [← reg_wide, reg_xor]
theorem reg_four (r : BitVec 64) : bits .xor .u64 (reg r / 16) (reg (eff (r.toNat % 16))) = reg (its 4 r) := by
  rw [reg_16, reg_xor, its_four]
theorem reg_mod (r : BitVec 64) : 0 ≤ (reg r).tmod 16 ∧ (reg r).tmod 16 < 16 ∧ ((reg r).tmod 16).toNat = r.toNat % 16 := by
  have h : (reg r).tmod 16 = reg r % 16 := Int.tmod_eq_emod_of_nonneg (reg_bd r).1
  rw [h]
  unfold reg
  omega

def MoreRel (R : Nat) (r : BitVec 64) (w : World) (v8 : Value) (wr : World) : Prop :=
  ∃ j : Nat, j ≤ 2 ∧ v8 = .int .i64 (j : Int) ∧ One R (its (4 * j) r) wr ∧ But R w wr ∧ wr.heap.size = w.heap.size
theorem more_rel {R j : Nat} {r y4 : BitVec 64} {w wr : World} (hj : j < 2) (h : One R (its (4 * j) r) wr) (hb : But R w wr) (hs : wr.heap.size = w.heap.size) (hy : y4 = its 4 (its (4 * j) r)) :
    MoreRel R r w (.int .i64 ((j : Int) + 1)) (wr.setCell ⟨R, 0, none⟩ (.int .u64 (reg y4))).drew := by
  refine ⟨j + 1, by omega, by go_num, ?_, (hb.setCell 0 _).drew, by simp [World.setCell, World.drew, hs]⟩
  rw [Nat.mul_add, its_add, ← hy]
  exact one_setCell h

set_option maxHeartbeats 1600000 in
set_option maxRecDepth 100000 in
theorem more1_any (w : World) (c : UInt8) (r : BitVec 64) (R E : Nat) (hne : R ≠ E) (h1 : One R r w) (h2 : TabE E w) :
    Calls Tryz.prog 145 #[.int .u8 (c.toNat : Int), .pointer (some ⟨R, 0, none⟩), .pointer (some ⟨E, 0, none⟩)] w fun e w' => e = .returned (.tuple #[]) ∧ One R (byt r c) w' ∧ But R w w' ∧ w'.heap.size = w.heap.size := by
  have hc := cell_of_one h1
  have hf := free_of_one h1
  have hx := reg_byte r c
  have hcb := UInt8.toNat_lt c
  have H1 := Lib.hid h1
  have H2 := Lib.hid h2
  clear h1 h2
  go_enter Tryz.func145, Tryz.ntmps145
  go_wp2
  go_loopw [8] (fun v8 wr => MoreRel R (r ^^^ wide c) w v8 wr) (fun v8 _ => 2 - (intOf v8).toNat)
  case atStart => exact ⟨0, by omega, rfl, one_setCell H1.out, (But.refl R w).setCell 0 _, by simp [World.setCell]⟩
  case round =>
    obtain ⟨j, hj, rfl, h1, hb, hs⟩ := hrel
    clear hx hc hf
    by_cases hlt : j < 2
    · generalize hy : its (4 * j) (r ^^^ wide c) = y at h1
      have hq := Nat.mod_lt y.toNat (show 0 < 16 by decide)
      have HT : TabE E wr := (hb.block E H2.out.lt (fun e => hne (by simpa using e.symm))).trans H2.out
      have hc := cell_of_one h1
      have hf := free_of_one h1
      have ht := HT.at _ hq
      obtain ⟨hm1, hm2, hm⟩ := reg_mod y
      have hr4 := reg_four y
      obtain ⟨b1, b2⟩ := reg_bd y
      obtain ⟨y4, hy4⟩ : ∃ y4, y4 = its 4 y := ⟨_, rfl⟩
      rw [← hy4] at hr4
      have H4 : Hid (y4 = its 4 (its (4 * j) (r ^^^ wide c))) := by rw [hy]; exact hy4
      have H1' : Hid (One R (its (4 * j) (r ^^^ wide c)) wr) := by rw [hy]; exact h1
      generalize y.toNat % 16 = q at *
      generalize eff q = eq at ht hr4
      generalize reg y = ry at *
      have HTT := Lib.hid HT
      have HB := Lib.hid hb
      have HS := Lib.hid hs
      clear h1 HT hb hs hy hy4
      go_wp2
      clear hcb
      go_region
      all_goals
        go_wp2
        go_roundw
        case rel => exact more_rel (by omega) H1'.out HB.out HS.out H4.out
        case measure => simp [intOf]; omega
    · have : j = 2 := by omega
      subst this
      go_wp2
      go_end0
      exact ⟨rfl, h1, hb, hs⟩

def SumRel (R E : Nat) (r : BitVec 64) (l : List UInt8) (w : World) (v15 : Value) (wr : World) : Prop :=
  ∃ k : Nat, k ≤ l.length ∧ v15 = .int .i64 (k : Int) ∧ One R (run r (l.take k)) wr ∧ TabE E wr ∧ Below w.heap.size w wr
theorem run_take (r : BitVec 64) (l : List UInt8) (k : Nat) (h : k < l.length) : run r (l.take (k + 1)) = byt (run r (l.take k)) l[k] := by
  rw [List.take_succ_eq_append_getElem h, run_app]; rfl

set_option maxHeartbeats 1600000 in
set_option maxRecDepth 100000 in
theorem more_any (r : BitVec 64) (l : List UInt8) (hl : l.length ≤ 281474976710656) (w : World) :
    Calls Tryz.prog 137 #[.int .u64 (reg r), .string (str l)] w fun e w' => e = .returned (.int .u64 (reg (~~~ run (~~~ r) l))) ∧ Below w.heap.size w w' := by
  have hn := reg_not r
  have hsz := str_size l
  have hl2 : (str l).size ≤ 281474976710656 := by omega
  have HZ := Lib.hid hsz
  clear hsz hl
  go_enter Tryz.func137, Tryz.ntmps137
  go_wp2_with fail
  refine (half_any _).mono ?_
  rintro e w1 ⟨rfl, hb1⟩
  have HB1 := Lib.hid hb1
  have ho : One w.heap.size (~~~ r) w1 := (hb1.block w.heap.size (by simp)).trans (heap_alloc_new w _)
  have HO := Lib.hid ho
  have hz : w.heap.size < w1.heap.size := ho.lt
  have hb0 : Below w.heap.size w w1 := ((Below.refl _ _).alloc (Nat.le_refl _) _).trans (hb1.mono (by simp))
  have HB0 := Lib.hid hb0
  clear hb1 ho hb0 hn
  go_wp2_with (refine wpList_store_row rfl _ _ _ rfl w1.heap.size (tabs 16) rfl rfl _ _ (heap_alloc_new w1 _) (by kernel_rfl) rfl (by kernel_rfl) ?_)
  obtain ⟨E, hE⟩ : ∃ E, E = w1.heap.size := ⟨_, rfl⟩
  rw [← hE] at hz ⊢
  have HE := Lib.hid hE
  clear hE
  go_loopw [15] (fun v15 wr => SumRel w.heap.size E (~~~ r) l w v15 wr) (fun v15 _ => (str l).size - (intOf v15).toNat)
  case atStart =>
    refine ⟨0, by omega, rfl, ?_, ?_, ?_⟩
    · refine (setRow_other _ _ _ _ (by omega)).trans ((heap_alloc_old _ _ (by rw [← HE.out]; exact hz)).trans HO.out)
    · rw [HE.out]; exact setRow_heap _ _ _ _ _ _ (heap_alloc_new w1 _)
    · exact below_setRow (HB0.out.alloc (by rw [← HE.out]; omega) _) (by omega) _
  case round =>
    obtain ⟨k, hk, rfl, h1, h2, hb⟩ := hrel
    by_cases hlt : k < (str l).size
    · have hk2 : k < l.length := by have := HZ.out; omega
      have HX : Hid (byt (run (~~~ r) (l.take k)) ((str l)[k]'hlt) = run (~~~ r) (l.take (k + 1))) := by
        show _ = _
        rw [run_take _ _ _ hk2, str_at]
      go_wp2_with fail
      refine (more1_any _ _ _ _ _ (by omega) h1 h2).mono ?_
      rintro e w2 ⟨rfl, ho2, hu2, hs2⟩
      have ht2 : TabE E w2 := (hu2.block E h2.lt (fun e => by simp at e; omega)).trans h2
      rw [HX.out] at ho2
      have hb2 : Below w.heap.size w w2 := But.below hu2 hb (by have := h1.lt; omega) (Nat.le_refl _)
      have HO2 := Lib.hid ho2
      have HT2 := Lib.hid ht2
      have HB2 := Lib.hid hb2
      clear h1 h2 hb hu2 hs2 ho2 ht2 hb2
      go_wp2
      go_roundw
      case rel => exact ⟨k + 1, by omega, by go_num, HO2.out, HT2.out, HB2.out⟩
      case measure => simp [intOf]; omega
    · have hkl : k = l.length := by have := HZ.out; omega
      have hc := cell_of_one h1
      have HX : Hid (run (~~~ r) (l.take k) = run (~~~ r) l) := by
        show _ = _
        rw [hkl, List.take_length]
      have hn := reg_not (run (~~~ r) (l.take k))
      have HB2 := Lib.hid hb
      clear h1 h2 hb hkl
      go_wp2
      go_ret
      rw [HX.out]
      exact ⟨rfl, HB2.out⟩
end Go.Proofs.YtmaohncddjhgeaaGreat.gn
end
