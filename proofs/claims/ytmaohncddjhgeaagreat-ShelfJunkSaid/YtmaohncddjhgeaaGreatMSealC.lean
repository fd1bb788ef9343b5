/- The contracts of Sum, sumText, Seal and Open. -/
import Derived.Test.YtmaohncddjhgeaaGreatMSealA
import Derived.Test.YtmaohncddjhgeaaGreatMGenClone
section
namespace Go.Proofs.YtmaohncddjhgeaaGreat.gn
open Go.RowKit
open Go.Proofs.YtmaohncddjhgeaaGreat.sl

/-- The sum of some bytes. -/
def crc (l : List UInt8) : BitVec 64 := ~~~ run (BitVec.allOnes 64) l

set_option maxRecDepth 100000 in
set_option maxHeartbeats 400000 in
theorem sum_any (l : List UInt8) (hl : l.length ≤ 281474976710656) (w : World) :
    Calls Tryz.prog 124 #[.string (str l)] w fun e w' => e = .returned (.int .u64 (reg (crc l))) ∧ Below w.heap.size w w' := by
  go_enter Tryz.func124, Tryz.ntmps124
  go_wp2_with fail
  refine (more_any 0#64 l hl _).mono ?_
  rintro e w1 ⟨rfl, hb⟩
  go_wp2
  go_ret
  exact ⟨rfl, hb⟩

/-- An array of bytes of which the first ones are filled. -/
def part (l : List UInt8) (k : Nat) : Array Value := (Lib.byteCells (l.take k) ++ List.replicate (l.length - k) (Value.int .u8 0)).toArray
theorem part_zero (l : List UInt8) : part l 0 = (List.replicate l.length (Value.int .u8 0)).toArray := by simp [part, Lib.byteCells]
theorem part_full (l : List UInt8) : part l l.length = (Lib.byteCells l).toArray := by simp [part]
theorem part_size (l : List UInt8) (k : Nat) (h : k ≤ l.length) : (part l k).size = l.length := by
  simp [part, Lib.byteCells]; omega
theorem part_set (l : List UInt8) (k : Nat) (h : k < l.length) : (part l k).setIfInBounds k (Value.int .u8 (l[k].toNat : Int)) = part l (k + 1) := by
  have e1 : l.length - k = (l.length - (k + 1)) + 1 := by omega
  have e2 : (Lib.byteCells (l.take k)).length = k := by simp [Lib.byteCells]; omega
  apply Array.ext'
  rw [Array.toList_setIfInBounds]
  simp only [part]
  rw [e1, List.replicate_succ, List.set_append, if_neg (by omega), e2, Nat.sub_self, List.set_cons_zero, List.take_succ_eq_append_getElem h]
  simp only [Lib.byteCells, List.map_append, List.map_cons, List.map_nil, List.append_assoc, List.singleton_append]

theorem le_at : ∀ (n v k : Nat) (h : k < (le n v).length), (le n v)[k].toNat = v / 256 ^ k % 256
  | 0, _, _, h => by simp [le] at h
  | n + 1, v, 0, _ => by simp [le, Nat.toUInt8, UInt8.toNat_ofNat']
  | n + 1, v, k + 1, h => by
    simp only [le, List.getElem_cons_succ]
    rw [le_at n (v / 256) k (by simpa [le] using h), Nat.pow_succ, Nat.mul_comm, Nat.div_div_eq_div_mul]

def TextRel (r : BitVec 64) (w : World) (v5 : Value) (wr : World) : Prop :=
  ∃ k : Nat, k ≤ 8 ∧ v5 = .int .i64 (k : Int) ∧ wr.heap[w.heap.size]? = some (.cells (part (le 8 r.toNat) k) 161 (0, 0)) ∧ Below w.heap.size w wr
theorem text_rel {r : BitVec 64} {w wr : World} {k : Nat} {x : Int} (hk : k < 8) (h : wr.heap[w.heap.size]? = some (.cells (part (le 8 r.toNat) k) 161 (0, 0))) (hb : Below w.heap.size w wr) (hx : x = ((r.toNat / 256 ^ k % 256 : Nat) : Int)) :
    TextRel r w (.int .i64 ((k : Int) + 1)) (wr.setCell ⟨w.heap.size, k, none⟩ (.int .u8 x)) := by
  refine ⟨k + 1, by omega, by go_num, ?_, hb.setCell (Nat.le_refl _) _⟩
  rw [heap_setCell h, ← part_set _ k (by rw [le_len]; exact hk), le_at, hx]
theorem two_pow (k : Nat) : (2 : Int) ^ (8 * k) = ((256 ^ k : Nat) : Int) := by
  rw [Int.pow_mul]
  simp

theorem reg_byteAt (r : BitVec 64) (k : Nat) : reg r / 2 ^ (8 * k) % 256 = ((r.toNat / 256 ^ k % 256 : Nat) : Int) := by
  rw [two_pow]
  unfold reg
  generalize 256 ^ k = p
  omega

set_option maxRecDepth 100000 in
set_option maxHeartbeats 800000 in
theorem sumText_any (r : BitVec 64) (w : World) :
    Calls Tryz.prog 123 #[.int .u64 (reg r)] w fun e w' => e = .returned (.string (str (le 8 r.toNat))) ∧ Below w.heap.size w w' := by
  go_enter Tryz.func123, Tryz.ntmps123
  go_wp2
  go_loopw [5] (fun v5 wr => TextRel r w v5 wr) (fun v5 _ => 8 - (intOf v5).toNat)
  case atStart =>
    exact ⟨0, by omega, rfl, by rw [part_zero, le_len]; exact heap_alloc_new w _, (Below.refl _ _).alloc (Nat.le_refl _) _⟩
  case round =>
    obtain ⟨k, hk, rfl, h1, hb⟩ := hrel
    by_cases hlt : k < 8
    · have hps : k < (part (le 8 r.toNat) k).size := by rw [part_size _ _ (by rw [le_len]; omega), le_len]; exact hlt
      have hc : wr.cell? ⟨w.heap.size, k, none⟩ = some ((part (le 8 r.toNat) k)[k]) := by rw [cell_of_row _ _ _ _ _ _ h1, Array.getElem?_eq_getElem hps]
      have hf : wr.frozen? ⟨w.heap.size, k, none⟩ = false := frozen_of_row _ _ _ _ _ h1
      have H1 := Lib.hid h1
      have HB := Lib.hid hb
      have hd : decide ((k : Int) < 8) = true := decide_eq_true (by omega)
      clear h1 hb
      go_wp2
      go_roundw
      case rel =>
        exact text_rel (by omega) H1.out HB.out (reg_byteAt r k)
      case measure => simp [intOf]; omega
    · have hk8 : k = 8 := by omega
      have hfull : part (le 8 r.toNat) k = (Lib.byteCells (le 8 r.toNat)).toArray := by rw [hk8, ← part_full, le_len]
      rw [hfull] at h1
      have hcv := run_convert_bytes_back (P := Tryz.prog) wr 80 9 5 ⟨w.heap.size, 0, none⟩ 8 (le 8 r.toNat) Tryz.underlying80 Tryz.underlying5 Tryz.underlying9 (by
        intro j hj
        have hadd : (⟨w.heap.size, 0, none⟩ : Addr).add j = ⟨w.heap.size, j, none⟩ := by unfold Addr.add; split <;> simp_all
        rw [hadd, cell_of_row _ _ _ _ _ _ h1]
        simp [Lib.byteCells, List.getElem?_eq_getElem hj])
      rw [le_len] at hcv
      have HB := Lib.hid hb
      clear h1 hb hk8 hfull
      go_wp2
      go_ret
      exact ⟨rfl, HB.out⟩

/-- What is sealed. -/
def sealed (l : List UInt8) : List UInt8 := l ++ le 8 (crc l).toNat
theorem sealed_len (l : List UInt8) : (sealed l).length = l.length + 8 := by simp [sealed, le_len]

set_option maxRecDepth 100000 in
set_option maxHeartbeats 400000 in
theorem seal_any (l : List UInt8) (hl : l.length ≤ 140737488355328) (w : World) :
    Calls Tryz.prog 89 #[.string (str l)] w fun e w' => e = .returned (.string (str (sealed l))) ∧ Below w.heap.size w w' := by
  have b1 : (str l).size ≤ 140737488355328 := by rw [str_size]; exact hl
  have b2 : (str (le 8 (crc l).toNat)).size ≤ 8 := by rw [str_size, le_len]; exact Nat.le_refl _
  have HA : Hid (str l ++ str (le 8 (crc l).toNat) = str (sealed l)) := str_app _ _
  go_enter Tryz.func89, Tryz.ntmps89
  go_wp2_with fail
  refine (sum_any l (by omega) _).mono ?_
  rintro e w1 ⟨rfl, hb1⟩
  have HB1 := Lib.hid hb1
  clear hb1
  go_wp2_with fail
  refine (sumText_any _ _).mono ?_
  rintro e w2 ⟨rfl, hb2⟩
  have HB2 := Lib.hid (HB1.out.trans (hb2.mono HB1.out.size))
  clear hb2
  go_wp2
  go_ret
  rw [HA.out]
  exact ⟨rfl, HB2.out⟩
end Go.Proofs.YtmaohncddjhgeaaGreat.gn
end
