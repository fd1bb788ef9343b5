/- SealBurst: the law's walk. -/
import Derived.Test.YtolecnpfeedapaaSealL1
import Derived.Handy
namespace Go.Proofs.Ytolecnpfeedapaa.gn
open Go.RowKit
open Go.Proofs.Ytolecnpfeedapaa.sl

def ones : BitVec 64 := BitVec.allOnes 64
/-- How it stands behind k bits: the bytes L. -/
def Turned (S L : List UInt8) (fr e k : Nat) : Prop := L.length = S.length ∧ run ones L = run ones S ^^^ its (8 * S.length - fr) (low e k)
theorem turned_start (S : List UInt8) (fr e : Nat) : Turned S S fr e 0 := by
  refine ⟨rfl, ?_⟩
  rw [low_zero, its_zero, BitVec.xor_zero]
theorem turned_no {S L : List UInt8} {fr e k : Nat} (h : Turned S L fr e k) (hb : e / 2 ^ k % 2 = 0) : Turned S L fr e (k + 1) := by
  refine ⟨h.1, ?_⟩
  rw [low_no e k hb]
  exact h.2
theorem turned_yes {S L : List UInt8} {fr e k : Nat} (h : Turned S L fr e k) (hk : k < 64) (hfr : fr + 64 ≤ 8 * S.length) (hb : e / 2 ^ k % 2 = 1) (j : Nat) (hj : j = (fr + k) / 8) (hjl : j < L.length) (d : UInt8) (hd : wide d = 1#64 <<< ((fr + k) % 8)) :
    Turned S (L.set j (L[j] ^^^ d)) fr e (k + 1) := by
  subst hj
  refine ⟨by rw [List.length_set]; exact h.1, ?_⟩
  have h2 := run_bit ones L fr k hk (by rw [h.1]; exact hfr) d hd
  rw [h2, h.2, low_bit e k hk hb, its_xor, BitVec.xor_assoc, h.1]
theorem turned_end {l L : List UInt8} {fr e : Nat} (h : Turned (sealed l) L fr e 64) (he : e < 2 ^ 64) (h0 : e ≠ 0) : opens L = false := by
  have hs : run ones (sealed l) = its 64 ones := run_sealed l
  cases ho : opens L
  · rfl
  · exfalso
    have h1 : run ones L = its 64 ones := by
      rw [← ((opens_is L).1 ho).2]
      exact run_sealed (front L)
    exact run_burst ones (sealed l) L fr e he h0 h.2 (by rw [h1, hs])

theorem mb_at {w : World} {B g n cap : Nat} {l : List UInt8} (h : Mb w B (.slice (some ⟨g, 0, none⟩) n cap) l) : n = l.length ∧ B ≤ g ∧ n ≤ cap ∧
    (∀ j (hj : j < l.length), w.cell? ⟨g, j, none⟩ = some (.int .u8 (l[j].toNat : Int)) ∧ w.frozen? ⟨g, j, none⟩ = false) ∧
    (∀ j (_ : j < l.length) (b : UInt8), Mb (w.setCell ⟨g, j, none⟩ (.int .u8 (b.toNat : Int))) B (.slice (some ⟨g, 0, none⟩) n cap) (l.set j b)) := by
  obtain ⟨g', cap', hv, h1, h2, _, h3, h4⟩ := h.addr
  injection hv with e1 e2 e3
  injection e1 with e1
  injection e1 with e1
  subst e1; subst e2; subst e3
  exact ⟨rfl, h1, h2, h3, h4⟩
theorem bit_int (e k : Nat) : ((e : Int) / 2 ^ k).tmod 2 = ((e / 2 ^ k % 2 : Nat) : Int) := by
  have h : ((2 : Int) ^ k) = ((2 ^ k : Nat) : Int) := by push_cast; rfl
  rw [h, ← Int.natCast_ediv, Int.tmod_eq_emod_of_nonneg (Int.natCast_nonneg _)]
  omega
theorem turn_all : ∀ (c : Fin 256) (j : Fin 8), bits .xor .u8 ((c.val : Nat) : Int) (2 ^ j.val % 256) = (((UInt8.ofNat c.val) ^^^ ((1 : UInt8) <<< j.val.toUInt8)).toNat : Int) := by decide +kernel
theorem turn_byte (c : UInt8) (j : Nat) (hj : j < 8) : bits .xor .u8 (c.toNat : Int) (2 ^ j % 256) = ((c ^^^ ((1 : UInt8) <<< j.toUInt8)).toNat : Int) := by
  have h := turn_all ⟨c.toNat, UInt8.toNat_lt c⟩ ⟨j, hj⟩
  simpa using h
def BurstRel (S : List UInt8) (fr e : Nat) (w : World) (V : Value) (v9 : Value) (wr : World) : Prop :=
  ∃ (k : Nat) (L : List UInt8), k ≤ 64 ∧ v9 = .int .i64 (k : Int) ∧ Turned S L fr e k ∧ Mb wr w.heap.size V L ∧ Below w.heap.size w wr

set_option maxHeartbeats 1600000 in
theorem burst_any (l : List UInt8) (at_ e : Nat) (hl : l.length ≤ 2000) (ha : at_ < 4294967296) (he : e < 18446744073709551616) (h0 : e ≠ 0) (w : World) :
    Calls Try.prog 4 #[.string (str l), .int .u32 (at_ : Int), .int .u64 (e : Int)] w fun e w' => e = .returned (.bool true) ∧ Below w.heap.size w w' := by
  have b1 : (str l).size ≤ 2000 := by rw [str_size]; exact hl
  have t0 : ((e : Int) == 0) = false := beq_eq_false_iff_ne.2 (by omega)
  have b2 : (str (sealed l)).size ≤ 2008 := by rw [str_size, sealed_len]; omega
  have b3 : 8 ≤ (str (sealed l)).size := by rw [str_size, sealed_len]; omega
  have HL := Lib.hid hl
  go_enter Try.func4, Try.ntmps4
  go_wp2_with fail
  refine (seal_any l (by have := HL.out; omega) _).mono ?_
  rintro e1 w1 ⟨rfl, hb1⟩
  have hg : grownCap w1 (str (sealed l)).size 0 5 ≤ maxLen := grownCap_le_maxLen w1 _ 0 _ (by unfold maxLen; omega)
  have hcv := Lib.run_convert_string_bytes (P := Try.prog) w1 9 32 5 (str (sealed l)) (u := .string) Try.underlying9 Try.underlying32 Try.underlying5
  have hm := Mb.made w1 (str (sealed l)) hg
  have hl0 : (str (sealed l)).data.toList = sealed l := by simp [str]
  rw [hl0] at hm
  have hb := below_bytes w.heap.size w1 (str (sealed l)) hb1.size
  have HB := Lib.hid (hb1.trans hb)
  have HM := Lib.hid (hm.mono hb1.size)
  clear hb1 hm hl0 hb hl
  generalize Lib.bytesWorld w1 5 (str (sealed l)) = W at hcv HM HB
  generalize grownCap w1 (str (sealed l)).size 0 5 = cap at hcv hg HM
  generalize w1.heap.size = g at hcv HM
  go_wp2
  clear hcv hg
  obtain ⟨fr, hfr, hfr2⟩ : ∃ fr : Nat, (at_ : Int) % (8 * ((str (sealed l)).size : Int) - 63) = (fr : Int) ∧ fr + 64 ≤ 8 * (str (sealed l)).size := by
    have h1 := Int.emod_nonneg (at_ : Int) (show (8 * ((str (sealed l)).size : Int) - 63) ≠ 0 by omega)
    have h2 := Int.emod_lt_of_pos (at_ : Int) (show 0 < (8 * ((str (sealed l)).size : Int) - 63) by omega)
    exact ⟨((at_ : Int) % (8 * ((str (sealed l)).size : Int) - 63)).toNat, by omega, by omega⟩
  rw [hfr]
  clear hfr
  go_loopw [9] (fun v9 wr => BurstRel (sealed l) fr e w (.slice (some ⟨g, 0, none⟩) (str (sealed l)).size cap) v9 wr) (fun v9 _ => 64 - (intOf v9).toNat)
  case atStart => exact ⟨0, _, by omega, rfl, turned_start _ _ _, HM.out, HB.out⟩
  case round =>
    obtain ⟨k, L, hk, rfl, hT, hm, hb⟩ := hrel
    obtain ⟨hn, hBg, hcap, hat, hset⟩ := mb_at hm
    by_cases hlt : k < 64
    · have hd : decide ((k : Int) < 64) = true := decide_eq_true (by omega)
      have hbit : e / 2 ^ k % 2 = 0 ∨ e / 2 ^ k % 2 = 1 := by omega
      rcases hbit with hbit | hbit
      · have HT1 := Lib.hid (turned_no hT hbit)
        have tb : (((e : Int) / 2 ^ k).tmod 2 == 1) = false := by rw [bit_int, hbit]; rfl
        clear hT hat hset hn
        go_wp2
        go_roundw
        case rel => exact ⟨k + 1, L, by omega, by go_num, HT1.out, hm, hb⟩
        case measure => simp [intOf]; omega
      · have tb : (((e : Int) / 2 ^ k).tmod 2 == 1) = true := by rw [bit_int, hbit]; rfl
        have hj : (fr + k) / 8 < L.length := by omega
        obtain ⟨hc, hf⟩ := hat _ hj
        have HT1 := Lib.hid (turned_yes hT hlt (by rw [← hT.1]; omega) hbit _ rfl hj ((1 : UInt8) <<< ((fr + k) % 8).toUInt8) (wide_bit _ (Nat.mod_lt _ (by decide))))
        have HX := Lib.hid (turn_byte L[(fr + k) / 8] ((fr + k) % 8) (Nat.mod_lt _ (by decide)))
        have HM1 := Lib.hid (hset _ hj (L[(fr + k) / 8] ^^^ ((1 : UInt8) <<< ((fr + k) % 8).toUInt8)))
        have HB1 := Lib.hid hb
        clear hat hn hset hT hm hb
        go_wp2
        go_roundw
        case rel =>
          rw [HX.out]
          exact ⟨k + 1, _, by omega, by go_num, HT1.out, HM1.out, HB1.out.setCell hBg _⟩
        case measure => simp [intOf]; omega
    · have hk64 : k = 64 := by omega
      subst hk64
      have ho := turned_end hT he h0
      have hlen := hT.1
      have hcv := hm.string
      have HB1 := Lib.hid hb
      have HLL : Hid (L.length ≤ 140737488355328) := by show _ ≤ _; rw [hlen, sealed_len]; have := HL.out; omega
      have HO := Lib.hid ho
      clear hT hat hset hm hb ho hlen hn
      go_wp2_with fail
      refine (open_no L HO.out HLL.out _).mono ?_
      rintro e2 w2 ⟨rfl, hb2⟩
      have HB2 := Lib.hid (HB1.out.trans (hb2.mono HB1.out.size))
      clear hb2 HB1
      go_wp2_with fail
      refine (head_any _).mono ?_
      rintro e3 w3 ⟨rfl, hb3⟩
      have HB3 := Lib.hid (HB2.out.trans (hb3.mono HB2.out.size))
      clear hb3 HB2
      go_wp2
      go_ret
      exact ⟨rfl, HB3.out⟩
end Go.Proofs.Ytolecnpfeedapaa.gn
