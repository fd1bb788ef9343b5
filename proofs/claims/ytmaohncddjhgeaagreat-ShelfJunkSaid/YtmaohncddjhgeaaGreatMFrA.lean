/- The contracts of Cost, number and head of frame. -/
import Derived.Test.YtmaohncddjhgeaaGreatMSealO
import Derived.Test.YtmaohncddjhgeaaGreatMGenMb
import Derived.Laws.BitsLemmas
section
namespace Go.Proofs.YtmaohncddjhgeaaGreat.gn
open Go.RowKit
open Go.Proofs.YtmaohncddjhgeaaGreat.sl

theorem cost_any (n : Nat) (h : n ≤ 281474976710656) (w : World) :
    Calls Tryz.prog 85 #[.int .i64 (n : Int)] w fun e w' => e = .returned (.int .i64 ((n : Int) + 20)) ∧ w = w' := by
  go_enter Tryz.func85, Tryz.ntmps85
  go_wp2
  go_ret
  exact ⟨rfl, rfl⟩
theorem cost_less (w : World) :
    Calls Tryz.prog 85 #[.int .i64 (-1)] w fun e w' => e = .returned (.int .i64 20) ∧ w = w' := by
  go_enter Tryz.func85, Tryz.ntmps85
  go_wp2
  go_ret
  exact ⟨rfl, rfl⟩

theorem num_snoc : ∀ (l : List UInt8) (c : UInt8), num (l ++ [c]) = num l + 256 ^ l.length * c.toNat
  | [], c => by simp [num]
  | d :: l, c => by
    rw [List.cons_append, num, num, num_snoc l c, List.length_cons, Nat.pow_succ, Nat.mul_add, Nat.add_assoc]
    congr 2
    rw [Nat.mul_right_comm, Nat.mul_comm]
theorem wraps_u32 (n : Int) (h₀ : 0 ≤ n) (h₁ : n < 2 ^ 32) : IntKind.u32.wrap n = n := by rw [IntKind.wrap_u32]; omega
theorem num_or (l : List UInt8) (k : Nat) (hk : k < l.length) (h4 : l.length ≤ 4) : bits .or .u32 ((num (l.take k) : Nat) : Int) (((l[k]).toNat * 256 ^ k : Nat) : Int) = ((num (l.take (k + 1)) : Nat) : Int) := by
  have h1 := num_lt (l.take k)
  rw [List.length_take, Nat.min_eq_left (Nat.le_of_lt hk)] at h1
  have h2 := num_snoc (l.take k) l[k]
  rw [← List.take_succ_eq_append_getElem hk, List.length_take, Nat.min_eq_left (Nat.le_of_lt hk)] at h2
  have h3 := UInt8.toNat_lt l[k]
  have h5 : 256 ^ k ≤ 256 ^ 3 := Nat.pow_le_pow_right (by decide) (by omega)
  have h6 : l[k].toNat * 256 ^ k ≤ 255 * 256 ^ 3 := Nat.mul_le_mul (by omega) h5
  have h7 : 256 ^ k = 2 ^ (8 * k) := by rw [Nat.pow_mul]
  rw [(bits_nat .u32 32 (by decide) wraps_u32 _ _ (by omega) (by omega)).2, h2]
  congr 1
  rw [Nat.or_comm, Nat.mul_comm, h7, ← Nat.two_pow_add_eq_or_of_lt (by rw [← h7]; exact h1)]
  omega
theorem num_val (c : UInt8) (k : Nat) (hk : k < 4) : ((c.toNat : Nat) : Int) % 4294967296 * 2 ^ (8 * k) % 4294967296 = ((c.toNat * 256 ^ k : Nat) : Int) := by
  have := UInt8.toNat_lt c
  match k, hk with
  | 0, _ => simp; omega
  | 1, _ => simp; omega
  | 2, _ => simp; omega
  | 3, _ => simp; omega
def NumRel (l : List UInt8) (v3 v7 : Value) : Prop := ∃ k : Nat, k ≤ l.length ∧ v7 = .int .i64 (k : Int) ∧ v3 = .int .u32 ((num (l.take k) : Nat) : Int)

theorem number_any (l : List UInt8) (h4 : l.length ≤ 4) (w : World) :
    Calls Tryz.prog 147 #[.string (str l)] w fun e w' => e = .returned (.int .u32 ((num l : Nat) : Int)) ∧ w = w' := by
  have hsz := str_size l
  have hl2 : (str l).size ≤ 4 := by omega
  have HZ := Lib.hid hsz
  clear hsz
  go_enter Tryz.func147, Tryz.ntmps147
  go_wp2
  go_loop [3, 7] (fun v3 v7 => NumRel l v3 v7) (fun _ v7 => (str l).size - (intOf v7).toNat)
  case atStart => exact ⟨0, by omega, rfl, rfl⟩
  case round =>
    obtain ⟨k, hk, rfl, rfl⟩ := hrel
    by_cases hlt : k < (str l).size
    · have hk2 : k < l.length := by have := HZ.out; omega
      have HX : Hid (bits .or .u32 ((num (l.take k) : Nat) : Int) (((str l)[k]'hlt).toNat % 4294967296 * 2 ^ (8 * k) % 4294967296 : Int) = ((num (l.take (k + 1)) : Nat) : Int)) := by
        show _ = _
        rw [num_val _ _ (by omega), str_at]
        exact num_or l k hk2 h4
      go_wp2
      go_round
      case rel => exact ⟨k + 1, by omega, by go_num, by rw [HX.out]⟩
      case measure => simp [intOf]; omega
    · have hkl : k = l.length := by have := HZ.out; omega
      have HX : Hid (num (l.take k) = num l) := by show _ = _; rw [hkl, List.take_length]
      clear hkl
      go_wp2
      go_ret
      rw [HX.out]
      exact ⟨rfl, rfl⟩

def HeadRel (n : Nat) (w : World) (v5 : Value) (wr : World) : Prop :=
  ∃ k : Nat, k ≤ 4 ∧ v5 = .int .i64 (k : Int) ∧ wr.heap[w.heap.size]? = some (.cells (part (le 4 n) k) 145 (0, 0)) ∧ Below w.heap.size w wr
theorem head_rel {n : Nat} {w wr : World} {k : Nat} {x : Int} (hk : k < 4) (h : wr.heap[w.heap.size]? = some (.cells (part (le 4 n) k) 145 (0, 0))) (hb : Below w.heap.size w wr) (hx : x = ((n / 256 ^ k % 256 : Nat) : Int)) :
    HeadRel n w (.int .i64 ((k : Int) + 1)) (wr.setCell ⟨w.heap.size, k, none⟩ (.int .u8 x)) := by
  refine ⟨k + 1, by omega, by go_num, ?_, hb.setCell (Nat.le_refl _) _⟩
  rw [heap_setCell h, ← part_set _ k (by rw [le_len]; exact hk), le_at, hx]
theorem nat_byteAt (n k : Nat) : (n : Int) / 2 ^ (8 * k) % 256 = ((n / 256 ^ k % 256 : Nat) : Int) := by
  rw [two_pow]
  generalize 256 ^ k = p
  omega

set_option maxRecDepth 100000 in
set_option maxHeartbeats 800000 in
theorem fhead_any (n : Nat) (w : World) :
    Calls Tryz.prog 88 #[.int .i64 (n : Int)] w fun e w' => e = .returned (.string (str (hd n))) ∧ Below w.heap.size w w' := by
  go_enter Tryz.func88, Tryz.ntmps88
  go_wp2
  go_loopw [5] (fun v5 wr => HeadRel n w v5 wr) (fun v5 _ => 4 - (intOf v5).toNat)
  case atStart =>
    exact ⟨0, by omega, rfl, by rw [part_zero, le_len]; exact heap_alloc_new w _, (Below.refl _ _).alloc (Nat.le_refl _) _⟩
  case round =>
    obtain ⟨k, hk, rfl, h1, hb⟩ := hrel
    by_cases hlt : k < 4
    · have hps : k < (part (le 4 n) k).size := by rw [part_size _ _ (by rw [le_len]; omega), le_len]; exact hlt
      have hc : wr.cell? ⟨w.heap.size, k, none⟩ = some ((part (le 4 n) k)[k]) := by rw [cell_of_row _ _ _ _ _ _ h1, Array.getElem?_eq_getElem hps]
      have hf : wr.frozen? ⟨w.heap.size, k, none⟩ = false := frozen_of_row _ _ _ _ _ h1
      have H1 := Lib.hid h1
      have HB := Lib.hid hb
      have hd : decide ((k : Int) < 4) = true := decide_eq_true (by omega)
      clear h1 hb
      go_wp2
      go_roundw
      case rel => exact head_rel (by omega) H1.out HB.out (nat_byteAt n k)
      case measure => simp [intOf]; omega
    · have hk4 : k = 4 := by omega
      have hfull : part (le 4 n) k = (Lib.byteCells (le 4 n)).toArray := by rw [hk4, ← part_full, le_len]
      rw [hfull] at h1
      have hcv := run_convert_bytes_back (P := Tryz.prog) wr 80 9 5 ⟨w.heap.size, 0, none⟩ 4 (le 4 n) Tryz.underlying80 Tryz.underlying5 Tryz.underlying9 (by
        intro j hj
        have hadd : (⟨w.heap.size, 0, none⟩ : Addr).add j = ⟨w.heap.size, j, none⟩ := by unfold Addr.add; split <;> simp_all
        rw [hadd, cell_of_row _ _ _ _ _ _ h1]
        simp [Lib.byteCells, List.getElem?_eq_getElem hj])
      rw [le_len] at hcv
      have HB := Lib.hid hb
      clear h1 hb hk4 hfull
      go_wp2_with fail
      refine (seal_any (le 4 n) (by rw [le_len]; omega) _).mono ?_
      rintro e w1 ⟨rfl, hb1⟩
      have HB1 := Lib.hid (HB.out.trans (hb1.mono HB.out.size))
      clear hb1
      go_wp2
      go_ret
      exact ⟨rfl, HB1.out⟩
end Go.Proofs.YtmaohncddjhgeaaGreat.gn
end
