/- The contracts of More and of Sum: the register behind the bytes, one step each half byte. -/
import Derived.Test.YtpbgckpjgfjmgaaSealA
import Derived.RegionTactic
import Derived.ChangeAlike
import Derived.Deep.RegionWith
namespace Go.Proofs.Ytpbgckpjgfjmgaa.gn
open Go.RowKit
open Go.Proofs.Ytpbgckpjgfjmgaa.sl

/-- Four steps at once. -/
theorem its_four (r : BitVec 64) : (r >>> 4) ^^^ eff (r.toNat % 16) = its 4 r := by
  have h : r = ((r >>> 4) <<< 4) ^^^ BitVec.ofNat 64 (r.toNat % 16) := by
    apply BitVec.eq_of_getLsbD_eq
    intro i hi
    rw [BitVec.getLsbD_xor, BitVec.getLsbD_shiftLeft, BitVec.getLsbD_ushiftRight, BitVec.getLsbD_ofNat, show 16 = 2 ^ 4 from rfl, Nat.testBit_mod_two_pow, BitVec.testBit_toNat]
    by_cases h4 : i < 4
    · simp [h4, hi]
    · simp [h4, hi, show 4 + (i - 4) = i from by omega]
  have e : its 4 ((r >>> 4) <<< 4) = r >>> 4 := its_shl 4 _ (fun i hi => by
    rw [BitVec.getLsbD_ushiftRight]
    exact BitVec.getLsbD_of_ge _ _ (by omega))
  unfold eff
  conv => rhs; rw [h]
  rw [its_xor, e]

def One (R : Nat) (x : BitVec 64) (w : World) : Prop := w.heap[R]? = some (.cells #[.int .u64 (reg x)] 22 (0, 0))
def TabE (E : Nat) (w : World) : Prop := w.heap[E]? = some (.cells (tabs 16) 108 (0, 0))
theorem One.lt {R : Nat} {x : BitVec 64} {w : World} (h : One R x w) : R < w.heap.size := lt_of_block h
theorem TabE.lt {E : Nat} {w : World} (h : TabE E w) : E < w.heap.size := lt_of_block h
theorem TabE.at {E : Nat} {w : World} (h : TabE E w) (i : Nat) (hi : i < 16) : w.cell? ⟨E, i, none⟩ = some (.int .u64 (reg (eff i))) := by
  rw [cell_of_row w E i _ _ _ h, tabs_at _ _ hi, tabAt, if_pos hi]
theorem TabE.frozen {E : Nat} {w : World} (h : TabE E w) (i : Nat) : w.frozen? ⟨E, i, none⟩ = false := frozen_of_row w E i _ _ h

theorem reg_wide (c : UInt8) : reg (wide c) = (c.toNat : Int) := by
  have := UInt8.toNat_lt c
  unfold reg wide
  rw [BitVec.toNat_ofNat, Nat.mod_eq_of_lt (by omega)]
theorem reg_byte (r : BitVec 64) (c : UInt8) : bits .xor .u64 (reg r) (c.toNat : Int) = reg (r ^^^ wide c) := by
  rw [← reg_wide, reg_xor]
theorem reg_four (r : BitVec 64) : bits .xor .u64 (reg r / 16) (reg (eff (r.toNat % 16))) = reg (its 4 r) := by
  rw [reg_16, reg_xor, its_four]
theorem reg_mod (r : BitVec 64) : 0 ≤ (reg r).tmod 16 ∧ (reg r).tmod 16 < 16 ∧ ((reg r).tmod 16).toNat = r.toNat % 16 := by
  have h : (reg r).tmod 16 = reg r % 16 := Int.tmod_eq_emod_of_nonneg (reg_bd r).1
  rw [h]
  unfold reg
  omega

def MoreRel (R : Nat) (r : BitVec 64) (w : World) (v8 : Value) (wr : World) : Prop :=
  ∃ j : Nat, j ≤ 2 ∧ v8 = .int .i64 (j : Int) ∧ One R (its (4 * j) r) wr ∧ But R w wr ∧ wr.heap.size = w.heap.size
theorem more_rel {R j : Nat} {r y4 : BitVec 64} {w wr : World} (hj : j < 2) (h : One R (its (4 * j) r) wr) (hb : But R w wr) (hs : wr.heap.size = w.heap.size) (hy : y4 = its 4 (its (4 * j) r)) :
    MoreRel R r w (.int .i64 ((j : Int) + 1)) (wr.setCell ⟨R, 0, none⟩ (.int .u64 (reg y4))).drew := by
  refine ⟨j + 1, by omega, by go_num, ?_, (hb.setCell 0 _).drew, by simp [World.setCell, World.drew, hs]⟩
  rw [Nat.mul_add, its_add, ← hy]
  exact one_setCell h

set_option maxHeartbeats 1600000 in
set_option maxRecDepth 100000 in
theorem more1_any (w : World) (c : UInt8) (r : BitVec 64) (R E : Nat) (hne : R ≠ E) (h1 : One R r w) (h2 : TabE E w) :
    Calls Try.prog 73 #[.int .u8 (c.toNat : Int), .pointer (some ⟨R, 0, none⟩), .pointer (some ⟨E, 0, none⟩)] w fun e w' => e = .returned (.tuple #[]) ∧ One R (byt r c) w' ∧ But R w w' ∧ w'.heap.size = w.heap.size := by
  have hc := cell_of_one h1
  have hf := free_of_one h1
  have hx := reg_byte r c
  have hcb := UInt8.toNat_lt c
  have H1 := Lib.hid h1
  have H2 := Lib.hid h2
  clear h1 h2
  go_enter Try.func73, Try.ntmps73
  go_wp2
  go_loopw [8] (fun v8 wr => MoreRel R (r ^^^ wide c) w v8 wr) (fun v8 _ => 2 - (intOf v8).toNat)
  case atStart => exact ⟨0, by omega, rfl, one_setCell H1.out, (But.refl R w).setCell 0 _, by simp [World.setCell]⟩
  case round =>
    obtain ⟨j, hj, rfl, h1, hb, hs⟩ := hrel
    clear hx hc hf
    by_cases hlt : j < 2
    · generalize hy : its (4 * j) (r ^^^ wide c) = y at h1
      have hq := Nat.mod_lt y.toNat (show 0 < 16 by decide)
      have HT : TabE E wr := (hb.block E H2.out.lt (fun e => hne (by simpa using e.symm))).trans H2.out
      have hc := cell_of_one h1
      have hf := free_of_one h1
      have ht := HT.at _ hq
      obtain ⟨hm1, hm2, hm⟩ := reg_mod y
      have hr4 := reg_four y
      obtain ⟨b1, b2⟩ := reg_bd y
      obtain ⟨y4, hy4⟩ : ∃ y4, y4 = its 4 y := ⟨_, rfl⟩
      rw [← hy4] at hr4
      have H4 : Hid (y4 = its 4 (its (4 * j) (r ^^^ wide c))) := by rw [hy]; exact hy4
      have H1' : Hid (One R (its (4 * j) (r ^^^ wide c)) wr) := by rw [hy]; exact h1
      generalize y.toNat % 16 = q at *
      generalize eff q = eq at ht hr4
      generalize reg y = ry at *
      have HTT := Lib.hid HT
      have HB := Lib.hid hb
      have HS := Lib.hid hs
      clear h1 HT hb hs hy hy4
      go_wp2
      clear hcb
      go_region
      all_goals
        go_wp2
        go_roundw
        case rel => exact more_rel (by omega) H1'.out HB.out HS.out H4.out
        case measure => simp [intOf]; omega
    · have : j = 2 := by omega
      subst this
      go_wp2
      go_end0
      exact ⟨rfl, h1, hb, hs⟩

def SumRel (R E : Nat) (r : BitVec 64) (l : List UInt8) (w : World) (v15 : Value) (wr : World) : Prop :=
  ∃ k : Nat, k ≤ l.length ∧ v15 = .int .i64 (k : Int) ∧ One R (run r (l.take k)) wr ∧ TabE E wr ∧ Below w.heap.size w wr
theorem run_take (r : BitVec 64) (l : List UInt8) (k : Nat) (h : k < l.length) : run r (l.take (k + 1)) = byt (run r (l.take k)) l[k] := by
  rw [List.take_succ_eq_append_getElem h, run_app]; rfl

set_option maxHeartbeats 1600000 in
set_option maxRecDepth 100000 in
theorem more_any (r : BitVec 64) (l : List UInt8) (hl : l.length ≤ 281474976710656) (w : World) :
    Calls Try.prog 68 #[.int .u64 (reg r), .string (str l)] w fun e w' => e = .returned (.int .u64 (reg (~~~ run (~~~ r) l))) ∧ Below w.heap.size w w' := by
  have hn := reg_not r
  have hsz := str_size l
  have hl2 : (str l).size ≤ 281474976710656 := by omega
  have HZ := Lib.hid hsz
  clear hsz hl
  go_enter Try.func68, Try.ntmps68
  go_wp2_with fail
  refine (half_any _).mono ?_
  rintro e w1 ⟨rfl, hb1⟩
  have HB1 := Lib.hid hb1
  have ho : One w.heap.size (~~~ r) w1 := (hb1.block w.heap.size (by simp)).trans (heap_alloc_new w _)
  have HO := Lib.hid ho
  have hz : w.heap.size < w1.heap.size := ho.lt
  have hb0 : Below w.heap.size w w1 := ((Below.refl _ _).alloc (Nat.le_refl _) _).trans (hb1.mono (by simp))
  have HB0 := Lib.hid hb0
  clear hb1 ho hb0 hn
  go_wp2_with (refine wpList_store_row rfl _ _ _ rfl w1.heap.size (tabs 16) rfl rfl _ _ (heap_alloc_new w1 _) (by kernel_rfl) rfl (by kernel_rfl) ?_)
  obtain ⟨E, hE⟩ : ∃ E, E = w1.heap.size := ⟨_, rfl⟩
  rw [← hE] at hz ⊢
  have HE := Lib.hid hE
  clear hE
  go_loopw [15] (fun v15 wr => SumRel w.heap.size E (~~~ r) l w v15 wr) (fun v15 _ => (str l).size - (intOf v15).toNat)
  case atStart =>
    refine ⟨0, by omega, rfl, ?_, ?_, ?_⟩
    · refine (setRow_other _ _ _ _ (by omega)).trans ((heap_alloc_old _ _ (by rw [← HE.out]; exact hz)).trans HO.out)
    · rw [HE.out]; exact setRow_heap _ _ _ _ _ _ (heap_alloc_new w1 _)
    · exact below_setRow (HB0.out.alloc (by rw [← HE.out]; omega) _) (by omega) _
  case round =>
    obtain ⟨k, hk, rfl, h1, h2, hb⟩ := hrel
    by_cases hlt : k < (str l).size
    · have hk2 : k < l.length := by have := HZ.out; omega
      have HX : Hid (byt (run (~~~ r) (l.take k)) ((str l)[k]'hlt) = run (~~~ r) (l.take (k + 1))) := by
        show _ = _
        rw [run_take _ _ _ hk2, str_at]
      go_wp2_with fail
      refine (more1_any _ _ _ _ _ (by omega) h1 h2).mono ?_
      rintro e w2 ⟨rfl, ho2, hu2, hs2⟩
      have ht2 : TabE E w2 := (hu2.block E h2.lt (fun e => by simp at e; omega)).trans h2
      rw [HX.out] at ho2
      have hb2 : Below w.heap.size w w2 := But.below hu2 hb (by have := h1.lt; omega) (Nat.le_refl _)
      have HO2 := Lib.hid ho2
      have HT2 := Lib.hid ht2
      have HB2 := Lib.hid hb2
      clear h1 h2 hb hu2 hs2 ho2 ht2 hb2
      go_wp2
      go_roundw
      case rel => exact ⟨k + 1, by omega, by go_num, HO2.out, HT2.out, HB2.out⟩
      case measure => simp [intOf]; omega
    · have hkl : k = l.length := by have := HZ.out; omega
      have hc := cell_of_one h1
      have HX : Hid (run (~~~ r) (l.take k) = run (~~~ r) l) := by
        show _ = _
        rw [hkl, List.take_length]
      have hn := reg_not (run (~~~ r) (l.take k))
      have HB2 := Lib.hid hb
      clear h1 h2 hb hkl
      go_wp2
      go_ret
      rw [HX.out]
      exact ⟨rfl, HB2.out⟩
end Go.Proofs.Ytpbgckpjgfjmgaa.gn
