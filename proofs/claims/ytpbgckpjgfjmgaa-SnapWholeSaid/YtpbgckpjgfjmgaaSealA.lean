/- The walk's numbers and the register's; the contract of halfEffects. -/
import Derived.Test.YtpbgckpjgfjmgaaGen
import Derived.Test.YtpbgckpjgfjmgaaSealM
import Derived.WalkKit
import Derived.ProofKit
import Derived.OwnWalk
import Derived.OneCell
import Derived.Lib.Hide
import Derived.Laws.Bits64
import Derived.Laws.Bits64b
import Derived.Laws.Rows
import Derived.Laws.CopyOwn
import Derived.Deep.DeepCutAuto
namespace Go.Proofs.Ytpbgckpjgfjmgaa.gn
open Go.RowKit
open Go.Proofs.Ytpbgckpjgfjmgaa.sl

/-- A register as the walk has it. -/
def reg (r : BitVec 64) : Int := (r.toNat : Int)
theorem reg_bd (r : BitVec 64) : 0 ≤ reg r ∧ reg r < 18446744073709551616 := by
  have := r.isLt; unfold reg; omega
theorem reg_xor (a b : BitVec 64) : bits .xor .u64 (reg a) (reg b) = reg (a ^^^ b) := by
  unfold reg
  rw [bits_xor_u64_nat _ _ a.isLt b.isLt, BitVec.toNat_xor]
theorem reg_not (a : BitVec 64) : bits .xor .u64 IntKind.u64.max (reg a) = reg (~~~ a) := by
  have h : IntKind.u64.max = reg (BitVec.allOnes 64) := by decide
  rw [h, reg_xor, BitVec.allOnes_xor]
theorem reg_half (a : BitVec 64) : reg a / (2 : Int) = reg (a >>> 1) := by
  unfold reg
  rw [BitVec.toNat_ushiftRight, Nat.shiftRight_eq_div_pow]
  omega
theorem reg_16 (a : BitVec 64) : reg a / (16 : Int) = reg (a >>> 4) := by
  unfold reg
  rw [BitVec.toNat_ushiftRight, Nat.shiftRight_eq_div_pow]
  omega
theorem bit0 (a : BitVec 64) : a.getLsbD 0 = decide (a.toNat % 2 = 1) := by
  rw [← BitVec.testBit_toNat, Nat.testBit_zero]
theorem reg_poly : (14514072000185962306 : Int) = reg poly := by decide
theorem reg_one (a : BitVec 64) (h : reg a % 2 = 1) : bits .xor .u64 (reg a / 2) 14514072000185962306 = reg (st a) := by
  have h0 : a.getLsbD 0 = true := by rw [bit0]; unfold reg at h; simp; omega
  rw [reg_half, reg_poly, reg_xor, st, h0]
  rfl
theorem reg_nil (a : BitVec 64) (h : reg a % 2 = 0) : reg a / 2 = reg (st a) := by
  have h0 : a.getLsbD 0 = false := by rw [bit0]; unfold reg at h; simp; omega
  rw [reg_half, st, h0]
  rfl
theorem reg_mul (a : BitVec 64) : bits .xor .u64 (reg a / 2) (IntKind.u64.wrap (bits .and .u64 (reg a) 1 * 14514072000185962306)) = reg (st a) := by
  have h1 : bits .and .u64 (reg a) 1 = reg a % 2 := by
    unfold reg
    have h := bits_and_u64_nat a.toNat 1 a.isLt (by decide)
    rw [show ((1 : Nat) : Int) = 1 from rfl] at h
    rw [h, Nat.and_one_is_mod]
    omega
  rw [h1]
  have h2 := reg_bd a
  have h3 : reg a % 2 = 0 ∨ reg a % 2 = 1 := by omega
  rcases h3 with h | h
  · rw [h, show IntKind.u64.wrap ((0 : Int) * 14514072000185962306) = reg 0#64 by decide, reg_half, reg_xor, BitVec.xor_zero, ← reg_half, reg_nil a h]
  · rw [h, show IntKind.u64.wrap ((1 : Int) * 14514072000185962306) = 14514072000185962306 by decide, reg_one a h]

/-- What half a byte does to the rest of the register. -/
def eff (i : Nat) : BitVec 64 := its 4 (BitVec.ofNat 64 i)
def tabAt (k i : Nat) : Value := .int .u64 (if i < k then reg (eff i) else 0)
def tabs (k : Nat) : Array Value := #[tabAt k 0, tabAt k 1, tabAt k 2, tabAt k 3, tabAt k 4, tabAt k 5, tabAt k 6, tabAt k 7, tabAt k 8, tabAt k 9, tabAt k 10, tabAt k 11, tabAt k 12, tabAt k 13, tabAt k 14, tabAt k 15]
theorem tabs_zero : tabs 0 = #[.int .u64 0, .int .u64 0, .int .u64 0, .int .u64 0, .int .u64 0, .int .u64 0, .int .u64 0, .int .u64 0, .int .u64 0, .int .u64 0, .int .u64 0, .int .u64 0, .int .u64 0, .int .u64 0, .int .u64 0, .int .u64 0] := by simp [tabs, tabAt]
theorem tabs_size (k : Nat) : (tabs k).size = 16 := rfl
theorem tabs_at (k i : Nat) (h : i < 16) : (tabs k)[i]? = some (tabAt k i) := by
  match i, h with
  | 0, _ => rfl
  | 1, _ => rfl
  | 2, _ => rfl
  | 3, _ => rfl
  | 4, _ => rfl
  | 5, _ => rfl
  | 6, _ => rfl
  | 7, _ => rfl
  | 8, _ => rfl
  | 9, _ => rfl
  | 10, _ => rfl
  | 11, _ => rfl
  | 12, _ => rfl
  | 13, _ => rfl
  | 14, _ => rfl
  | 15, _ => rfl
  | n + 16, h => omega
theorem tabs_set (k : Nat) (h : k < 16) : (tabs k).setIfInBounds k (.int .u64 (reg (eff k))) = tabs (k + 1) := by
  apply Array.ext_getElem?
  intro i
  rw [Array.getElem?_setIfInBounds]
  by_cases hi : k = i
  · subst hi
    rw [if_pos rfl, if_pos (by rw [tabs_size]; exact h), tabs_at _ _ h]
    simp [tabAt]
  · rw [if_neg hi]
    by_cases h2 : i < 16
    · rw [tabs_at _ _ h2, tabs_at _ _ h2]
      have : i < k ↔ i < k + 1 := by omega
      simp [tabAt, this]
    · rw [Array.getElem?_eq_none (by rw [tabs_size]; omega), Array.getElem?_eq_none (by rw [tabs_size]; omega)]

theorem reg_nat (k : Nat) (h : k < 18446744073709551616) : reg (BitVec.ofNat 64 k) = (k : Int) := by
  unfold reg
  rw [BitVec.toNat_ofNat, Nat.mod_eq_of_lt h]
theorem its_one_more (j : Nat) (x : BitVec 64) : its (j + 1) x = st (its j x) := by
  rw [its_add]; rfl

def HalfRel (w : World) (v4 : Value) (wr : World) : Prop :=
  ∃ k : Nat, k ≤ 16 ∧ v4 = .int .i64 (k : Int) ∧ wr.heap[w.heap.size]? = some (.cells (tabs 0) 108 (0, 0)) ∧ wr.heap[w.heap.size + 1]? = some (.cells (tabs k) 108 (0, 0)) ∧ Below w.heap.size w wr

theorem half_rel {w wr : World} (k : Nat) (hk : k < 16) (h0 : wr.heap[w.heap.size]? = some (.cells (tabs 0) 108 (0, 0))) (h1 : wr.heap[w.heap.size + 1]? = some (.cells (tabs k) 108 (0, 0))) (hb : Below w.heap.size w wr) :
    HalfRel w (.int .i64 ((k : Int) + 1)) (wr.setCell ⟨w.heap.size + 1, k, none⟩ (.int .u64 (reg (its 4 (BitVec.ofNat 64 k))))) := by
  refine ⟨k + 1, by omega, by go_num, ?_, ?_, hb.setCell (by simp) _⟩
  · rw [heap_setCell_other _ _ _ _ (by simp)]; exact h0
  · rw [heap_setCell_same _ _ _ _ _ _ h1, ← tabs_set k hk]; rfl

set_option maxHeartbeats 800000 in
theorem half_any (w : World) : Calls Try.prog 72 #[] w fun e w' => e = .returned (.agg (tabs 16)) ∧ Below w.heap.size w w' := by
  go_enter Try.func72, Try.ntmps72
  go_wp2
  go_loopw [4] (fun v4 wr => HalfRel w v4 wr) (fun v4 _ => 16 - (intOf v4).toNat)
  case atStart =>
    refine ⟨0, by omega, rfl, ?_, ?_, ?_⟩
    · rw [tabs_zero]; exact heap_alloc2_old _ _ _
    · rw [tabs_zero]; exact heap_alloc2_new _ _ _
    · exact ((Below.refl _ _).alloc (Nat.le_refl _) _).alloc (by simp) _
  case round =>
    obtain ⟨k, hk, rfl, h0, h1, hb⟩ := hrel
    by_cases hlt : k < 16
    · have hc : wr.cell? ⟨w.heap.size + 1, k, none⟩ = some (tabAt k k) := by rw [cell_of_row _ _ _ _ _ _ h1, tabs_at _ _ hlt]
      have hf : wr.frozen? ⟨w.heap.size + 1, k, none⟩ = false := frozen_of_row _ _ _ _ _ h1
      have H0 := Lib.hid h0
      have H1 := Lib.hid h1
      have HB := Lib.hid hb
      have hd : decide ((k : Int) < 16) = true := decide_eq_true (by omega)
      clear h0 h1 hb
      go_wp2
      go_loop [3, 9] (fun v3 v9 => ∃ j : Nat, j ≤ 4 ∧ v9 = .int .i64 (j : Int) ∧ v3 = .int .u64 (reg (its j (BitVec.ofNat 64 k)))) (fun _ v9 => 4 - (intOf v9).toNat)
      case atStart => exact ⟨0, by omega, rfl, by rw [its, reg_nat k (by omega)]⟩
      case round =>
        obtain ⟨j, hj, rfl, rfl⟩ := hrel
        by_cases hlt2 : j < 4
        · go_wp2
          go_round
          case rel => exact ⟨j + 1, by omega, by go_num, by rw [its_one_more, ← reg_mul]⟩
          case measure => simp [intOf]; omega
        · have : j = 4 := by omega
          subst this
          go_wp2
          go_roundw
          case rel => exact half_rel k (by omega) H0.out H1.out HB.out
          case measure => simp [intOf]; omega
    · have : k = 16 := by omega
      subst this
      have hts : (tabs 16).size = 16 := rfl
      have H0 := Lib.hid h0
      have HB := Lib.hid hb
      clear h0 hb
      go_wp2_with (first | (refine wpList_load_row rfl _ _ rfl _ rfl _ _ _ _ h1 Try.underlying108 rfl (by kernel_rfl) ?_) | (refine wpList_store_row rfl _ _ _ rfl w.heap.size (tabs 16) rfl rfl _ (tabs 0) H0.out (by kernel_rfl) rfl (by kernel_rfl) ?_))
      have hg : (wr.setRow w.heap.size (tabs 16)).heap[w.heap.size]? = some (.cells (tabs 16) 108 (0, 0)) := setRow_heap _ _ _ _ _ _ H0.out
      exact bodyPost_ret (v := .agg (tabs 16)) (results_cell_row rfl _ _ _ _ _ _ _ rfl hg Try.underlying108 rfl (by kernel_rfl)) rfl ⟨rfl, below_setRow HB.out (Nat.le_refl _) _⟩
end Go.Proofs.Ytpbgckpjgfjmgaa.gn
