/- Plain facts on bits that are turned in a frame. No walk in this text. -/
import Derived.Test.YthffeaknfiabjaaFrM
namespace Go.Proofs.Ythffeaknfiabjaa.gn
open Go.Proofs.Ythffeaknfiabjaa.sl

/-- The bits of a row of bytes; one of them turned; those of e, from fr on. -/
def bit (l : List UInt8) (i : Nat) : Bool := (l[i / 8]?.getD 0).toNat.testBit (i % 8)
def flip1 (l : List UInt8) (i : Nat) : List UInt8 := l.set (i / 8) (l[i / 8]?.getD 0 ^^^ ((1 : UInt8) <<< (i % 8).toUInt8))
def turned (S : List UInt8) (fr e : Nat) : Nat → List UInt8
  | 0 => S
  | k + 1 => if e / 2 ^ k % 2 = 1 then flip1 (turned S fr e k) (fr + k) else turned S fr e k
theorem flip_len (l : List UInt8) (i : Nat) : (flip1 l i).length = l.length := by simp [flip1]
theorem turned_len (S : List UInt8) (fr e : Nat) : ∀ k, (turned S fr e k).length = S.length
  | 0 => rfl
  | k + 1 => by
    rw [turned]
    split
    · rw [flip_len, turned_len S fr e k]
    · exact turned_len S fr e k

theorem one_bit (j : Nat) (hj : j < 8) (i : Nat) : ((1 : UInt8) <<< j.toUInt8).toNat.testBit i = decide (j = i) := by
  have h : ((1 : UInt8) <<< j.toUInt8).toNat = 2 ^ j := by
    match j, hj with
    | 0, _ => rfl
    | 1, _ => rfl
    | 2, _ => rfl
    | 3, _ => rfl
    | 4, _ => rfl
    | 5, _ => rfl
    | 6, _ => rfl
    | 7, _ => rfl
  rw [h, Nat.testBit_two_pow]
theorem bit_flip (l : List UInt8) (i j : Nat) (h : i < 8 * l.length) : bit (flip1 l i) j = (bit l j ^^ decide (i = j)) := by
  unfold bit flip1
  have hm := Nat.mod_lt i (show 0 < 8 by decide)
  rw [List.getElem?_set]
  by_cases h8 : i / 8 = j / 8
  · rw [if_pos h8, if_pos (by omega), Option.getD_some, UInt8.toNat_xor, Nat.testBit_xor, one_bit _ hm, h8]
    congr 1
    rw [decide_eq_decide]
    omega
  · rw [if_neg h8]
    have : ¬ i = j := fun e => h8 (by rw [e])
    simp [this]
theorem bit_turned (S : List UInt8) (fr e : Nat) : ∀ k, fr + k ≤ 8 * S.length → ∀ j, bit (turned S fr e k) j = (bit S j ^^ (decide (fr ≤ j ∧ j < fr + k) && e.testBit (j - fr)))
  | 0, _, j => by
    have h0 : decide (fr ≤ j ∧ j < fr + 0) = false := decide_eq_false (by omega)
    rw [h0]
    simp [turned]
  | k + 1, h, j => by
    have ih := bit_turned S fr e k (by omega) j
    have hb : e.testBit k = decide (e / 2 ^ k % 2 = 1) := Nat.testBit_eq_decide_div_mod_eq
    rw [turned]
    by_cases hk : e / 2 ^ k % 2 = 1
    · rw [if_pos hk, bit_flip _ _ _ (by rw [turned_len]; omega), ih, Bool.xor_assoc]
      congr 1
      by_cases hj : fr + k = j
      · subst hj
        have a1 : ¬ (fr ≤ fr + k ∧ fr + k < fr + k) := by omega
        have a2 : fr ≤ fr + k ∧ fr + k < fr + (k + 1) := by omega
        simp [hb, hk]
      · have : (fr ≤ j ∧ j < fr + k) ↔ (fr ≤ j ∧ j < fr + (k + 1)) := by omega
        simp [hj, this]
    · rw [if_neg hk, ih]
      congr 1
      by_cases hj : fr + k = j
      · subst hj
        have a1 : ¬ (fr ≤ fr + k ∧ fr + k < fr + k) := by omega
        simp [hb, hk]
      · have : (fr ≤ j ∧ j < fr + k) ↔ (fr ≤ j ∧ j < fr + (k + 1)) := by omega
        simp [this]

theorem byte_ext (a b : UInt8) (h : ∀ i, i < 8 → a.toNat.testBit i = b.toNat.testBit i) : a = b := by
  apply UInt8.toNat_inj.1
  apply Nat.eq_of_testBit_eq
  intro i
  by_cases hi : i < 8
  · exact h i hi
  · have ha : a.toNat < 2 ^ i := Nat.lt_of_lt_of_le (UInt8.toNat_lt a) (Nat.pow_le_pow_right (by decide) (by omega))
    have hb : b.toNat < 2 ^ i := Nat.lt_of_lt_of_le (UInt8.toNat_lt b) (Nat.pow_le_pow_right (by decide) (by omega))
    rw [Nat.testBit_lt_two_pow ha, Nat.testBit_lt_two_pow hb]
theorem bit_ext {l m : List UInt8} (hl : l.length = m.length) (h : ∀ i, i < 8 * l.length → bit l i = bit m i) : l = m := by
  apply List.ext_getElem? fun i => ?_
  by_cases hi : i < l.length
  · rw [List.getElem?_eq_getElem hi, List.getElem?_eq_getElem (by omega)]
    congr 1
    apply byte_ext
    intro j hj
    have h1 := h (8 * i + j) (by omega)
    unfold bit at h1
    rw [show (8 * i + j) / 8 = i by omega, show (8 * i + j) % 8 = j by omega, List.getElem?_eq_getElem hi, List.getElem?_eq_getElem (show i < m.length by omega)] at h1
    exact h1
  · rw [List.getElem?_eq_none (by omega), List.getElem?_eq_none (by omega)]
theorem bit_app_left (A B : List UInt8) (i : Nat) (h : i < 8 * A.length) : bit (A ++ B) i = bit A i := by
  unfold bit
  rw [List.getElem?_append_left (by omega)]
theorem bit_app_right (A B : List UInt8) (i : Nat) : bit (A ++ B) (8 * A.length + i) = bit B i := by
  unfold bit
  rw [List.getElem?_append_right (by omega), show (8 * A.length + i) / 8 - A.length = i / 8 by omega, show (8 * A.length + i) % 8 = i % 8 by omega]

theorem flip_app (A B : List UInt8) (i : Nat) : flip1 (A ++ B) (8 * A.length + i) = A ++ flip1 B i := by
  unfold flip1
  have e1 : (8 * A.length + i) / 8 = A.length + i / 8 := by omega
  have e2 : (8 * A.length + i) % 8 = i % 8 := by omega
  rw [e1, e2, List.getElem?_append_right (by omega), List.set_append, if_neg (by omega), show A.length + i / 8 - A.length = i / 8 by omega]
theorem app_flip (A B : List UInt8) (i : Nat) (h : i < 8 * A.length) : flip1 (A ++ B) i = flip1 A i ++ B := by
  unfold flip1
  rw [List.getElem?_append_left (by omega), List.set_append, if_pos (by omega)]
theorem turned_app (A B C : List UInt8) (f e : Nat) : ∀ k, f + k ≤ 8 * B.length → turned (A ++ B ++ C) (8 * A.length + f) e k = A ++ turned B f e k ++ C
  | 0, _ => rfl
  | k + 1, h => by
    rw [turned, turned, turned_app A B C f e k (by omega)]
    split
    · rw [Nat.add_assoc, List.append_assoc, flip_app, app_flip _ _ _ (by rw [turned_len]; omega), List.append_assoc]
    · rfl

/-- How the register stands behind k of the bits. -/
theorem run_turned (S : List UInt8) (fr e : Nat) (r : BitVec 64) (hfr : fr + 64 ≤ 8 * S.length) : ∀ k, k ≤ 64 → run r (turned S fr e k) = run r S ^^^ its (8 * S.length - fr) (low e k)
  | 0, _ => by rw [turned, low_zero, its_zero, BitVec.xor_zero]
  | k + 1, hk => by
    have ih := run_turned S fr e r hfr k (by omega)
    rw [turned]
    split
    · next hb =>
      have hl := turned_len S fr e k
      have hj : (fr + k) / 8 < (turned S fr e k).length := by omega
      have h2 := run_bit r (turned S fr e k) fr k (by omega) (by omega) ((1 : UInt8) <<< ((fr + k) % 8).toUInt8) (wide_bit _ (Nat.mod_lt _ (by decide)))
      unfold flip1
      rw [List.getElem?_eq_getElem hj, Option.getD_some, h2, ih, low_bit e k (by omega) hb, its_xor, BitVec.xor_assoc, hl]
    · next hb => rw [ih, low_no e k (by omega)]

theorem some_bits (f : Nat → Bool) : ∀ k, ∃ e, e < 2 ^ k ∧ ∀ i, i < k → e.testBit i = f i
  | 0 => ⟨0, by simp, fun i h => by omega⟩
  | k + 1 => by
    obtain ⟨e, he, h⟩ := some_bits f k
    cases hf : f k with
    | false =>
      refine ⟨e, by rw [Nat.pow_succ]; omega, fun i hi => ?_⟩
      by_cases hik : i = k
      · subst hik; rw [Nat.testBit_lt_two_pow he, hf]
      · exact h i (by omega)
    | true =>
      refine ⟨2 ^ k + e, by rw [Nat.pow_succ]; omega, fun i hi => ?_⟩
      by_cases hik : i = k
      · subst hik; rw [Nat.testBit_two_pow_add_eq, Nat.testBit_lt_two_pow he, hf]; rfl
      · rw [Nat.testBit_two_pow_add_gt (by omega)]; exact h i (by omega)

/-- What is sealed and has another bit, all of them within 64, is sealed no more. -/
theorem differs (S L : List UInt8) (fr : Nat) (hS : opens S = true) (hl : L.length = S.length) (hne : L ≠ S) (hfr : fr + 64 ≤ 8 * S.length) (hb : ∀ j, j < fr ∨ fr + 64 ≤ j → bit L j = bit S j) : opens L = false := by
  obtain ⟨e, he, hbits⟩ := some_bits (fun i => bit L (fr + i) ^^ bit S (fr + i)) 64
  have hL : L = turned S fr e 64 := by
    refine bit_ext (by rw [turned_len]; exact hl) fun i _ => ?_
    rw [bit_turned S fr e 64 hfr]
    by_cases hi : fr ≤ i ∧ i < fr + 64
    · have h1 := hbits (i - fr) (by omega)
      rw [show fr + (i - fr) = i by omega] at h1
      rw [h1]
      cases bit L i <;> cases bit S i <;> simp [hi]
    · rw [hb i (by omega)]; simp [hi]
  have h0 : e ≠ 0 := by
    rintro rfl
    apply hne
    refine bit_ext hl fun i _ => ?_
    rw [hL, bit_turned S fr 0 64 hfr]
    simp
  cases ho : opens L
  · rfl
  · exfalso
    have h1 : run (BitVec.allOnes 64) L = its 64 (BitVec.allOnes 64) := by
      rw [← ((opens_is L).1 ho).2]; exact run_sealed (front L)
    have h2 : run (BitVec.allOnes 64) S = its 64 (BitVec.allOnes 64) := by
      rw [← ((opens_is S).1 hS).2]; exact run_sealed (front S)
    have h3 : run (BitVec.allOnes 64) L = run (BitVec.allOnes 64) S ^^^ its (8 * S.length - fr) (low e 64) := by rw [hL]; exact run_turned S fr e _ hfr 64 (Nat.le_refl _)
    exact run_burst _ S L fr e he h0 h3 (by rw [h1, h2])

theorem bit_take (l : List UInt8) (n i : Nat) (h : i < 8 * n) : bit (l.take n) i = bit l i := by
  unfold bit
  rw [List.getElem?_take, if_pos (by omega)]
theorem bit_drop (l : List UInt8) (n i : Nat) : bit (l.drop n) i = bit l (8 * n + i) := by
  unfold bit
  rw [List.getElem?_drop, show (8 * n + i) / 8 = n + i / 8 by omega, show (8 * n + i) % 8 = i % 8 by omega]
theorem bit_none (l : List UInt8) (i : Nat) (h : 8 * l.length ≤ i) : bit l i = false := by
  unfold bit
  rw [List.getElem?_eq_none (by omega)]
  simp

/-- A frame of which bits are turned, all of them within 64, is none. -/
theorem fst_turned (s more : List UInt8) (hs : s.length ≤ 262144) (fr e : Nat) (hfr : fr + 64 ≤ 8 * (20 + s.length)) (he : e < 2 ^ 64) (h0 : e ≠ 0) : fst? (turned (frame s) fr e 64 ++ more) = none := by
  have hb := bit_turned (frame s) fr e 64 (by rw [frame_len]; exact hfr)
  have hl : (turned (frame s) fr e 64).length = 20 + s.length := by rw [turned_len, frame_len]
  have hF : (frame s).length = 20 + s.length := frame_len s
  obtain ⟨L, hL⟩ : ∃ L, L = turned (frame s) fr e 64 := ⟨_, rfl⟩
  rw [← hL] at hb hl ⊢
  have hne : L ≠ frame s := by
    intro hc
    obtain ⟨i, hi⟩ := Nat.exists_testBit_of_ne_zero h0
    have hi64 : i < 64 := by
      rcases Nat.lt_or_ge i 64 with h | h
      · exact h
      · rw [Nat.testBit_lt_two_pow (Nat.lt_of_lt_of_le he (Nat.pow_le_pow_right (by decide) h))] at hi; cases hi
    have h1 := hb (fr + i)
    rw [hc, show fr + i - fr = i by omega, hi] at h1
    have h2 : fr ≤ fr + i ∧ fr + i < fr + 64 := by omega
    simp [h2] at h1
  have hout : ∀ j, j < fr ∨ fr + 64 ≤ j → bit L j = bit (frame s) j := fun j hj => by
    rw [hb j]
    have : ¬ (fr ≤ j ∧ j < fr + 64) := by omega
    simp [this]
  have hH : (frame s).take 12 = hd s.length := by
    rw [frame, List.take_append_of_le_length (by rw [hd_len]; omega), List.take_of_length_le (by rw [hd_len]; omega)]
  have hB : (frame s).drop 12 = sealed s := by
    rw [frame, List.drop_append_of_le_length (by rw [hd_len]; omega), List.drop_of_length_le (by rw [hd_len]; omega), List.nil_append]
  have hT : (L ++ more).take 12 = L.take 12 := List.take_append_of_le_length (by omega)
  by_cases hh : L.take 12 = (frame s).take 12
  · have hT4 : (L ++ more).take 4 = le 4 s.length := by
      have h1 : (L ++ more).take 4 = ((L ++ more).take 12).take 4 := by rw [List.take_take, show min 4 12 = 4 from rfl]
      rw [h1, hT, hh, hH, hd, sealed, List.take_append_of_le_length (by rw [le_len]; omega), List.take_of_length_le (by rw [le_len]; omega)]
    have hn : num ((L ++ more).take 4) = s.length := by rw [hT4, num_le _ _ (by omega)]
    have hB2 : ((L ++ more).drop 12).take (8 + s.length) = L.drop 12 := by
      rw [List.drop_append_of_le_length (by omega), List.take_append_of_le_length (by rw [List.length_drop]; omega), List.take_of_length_le (by rw [List.length_drop]; omega)]
    have ho : opens (L.drop 12) = false := by
      have hSl : (sealed s).length = 8 + s.length := by rw [sealed_len]; omega
      refine differs (sealed s) (L.drop 12) (fr - 96) (opens_sealed s) (by rw [List.length_drop, hSl]; omega) ?_ (by omega) ?_
      · intro hc
        apply hne
        rw [← List.take_append_drop 12 L, hh, hc, ← hB, List.take_append_drop]
      · intro j hj
        by_cases hjl : j < 8 * (8 + s.length)
        · rw [bit_drop, ← hB, bit_drop]
          by_cases h96 : 96 ≤ fr
          · exact hout _ (by omega)
          · exact hout _ (by omega)
        · rw [bit_none _ _ (by rw [List.length_drop]; omega), bit_none _ _ (by omega)]
    unfold fst?
    rw [hn, hB2, if_neg]
    rintro ⟨_, _, _, _, h5⟩
    rw [ho] at h5; cases h5
  · have ho : opens (L.take 12) = false := by
      have hl12 : (L.take 12).length = 12 := by rw [List.length_take]; omega
      have hh12 : (hd s.length).length = 12 := hd_len _
      rw [hH] at hh
      refine differs (hd s.length) (L.take 12) (min fr 32) (opens_sealed _) (by omega) hh (by omega) ?_
      intro j hj
      by_cases hjl : j < 96
      · rw [bit_take _ _ _ (by omega), ← hH, bit_take _ _ _ (by omega)]
        exact hout _ (by omega)
      · rw [bit_none _ _ (by omega), bit_none _ _ (by omega)]
    unfold fst?
    rw [hT, if_neg]
    rintro ⟨_, h2, _⟩
    rw [ho] at h2; cases h2

/-- Just the strings ahead of it are told. -/
theorem scan_turned (l : List (List UInt8)) (hl : ∀ s ∈ l, s.length ≤ 262144) (k : Nat) (hk : k < l.length) (f e : Nat) (hf : f + 64 ≤ 8 * (20 + l[k].length)) (he : e < 2 ^ 64) (h0 : e ≠ 0) :
    scan (turned (frames l) (8 * (frames (l.take k)).length + f) e 64) = l.take k := by
  have e1 : frames l = frames (l.take k) ++ frame l[k] ++ frames (l.drop (k + 1)) := by
    conv => lhs; rw [← List.take_append_drop k l, List.drop_eq_getElem_cons hk, frames_app, frames]
    rw [List.append_assoc]
  rw [e1, turned_app _ _ _ _ _ _ (by rw [frame_len]; exact hf), List.append_assoc, scan_frames _ _ (fun s hs => hl s (List.mem_of_mem_take hs)), scan_none (fst_turned _ _ (hl _ (List.getElem_mem hk)) f e hf he h0), List.append_nil]
end Go.Proofs.Ythffeaknfiabjaa.gn
