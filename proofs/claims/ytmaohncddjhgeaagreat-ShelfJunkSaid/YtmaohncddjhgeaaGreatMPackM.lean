/- Plain facts on numbers that are packed: the signed ones, and how numbers go on in bytes. No program in this text. -/
import Derived.Laws.BitsAllLaws
import Derived.Lib.Varint
import Derived.Lib.VarintBits
import Derived.Lib.VarintMem
import Derived.RowKit
section
namespace Go.Proofs.YtmaohncddjhgeaaGreat

theorem xor_ones (a : Nat) (ha : a < 18446744073709551616) : a ^^^ 18446744073709551615 = 18446744073709551615 - a := by
  have h : (BitVec.ofNat 64 a ^^^ BitVec.allOnes 64).toNat = (~~~ (BitVec.ofNat 64 a)).toNat := by rw [BitVec.xor_allOnes]
  rw [BitVec.toNat_xor, BitVec.toNat_not, BitVec.toNat_ofNat, BitVec.toNat_allOnes] at h
  have e : a % 2 ^ 64 = a := Nat.mod_eq_of_lt (by simpa using ha)
  rw [e] at h
  simpa using h

theorem zig_pos (x : Int) (h0 : 0 ≤ x) (h1 : x < 9223372036854775808) : bits .xor .u64 (x * 2) (x / 9223372036854775808) = (Lib.zigzag x : Int) := by
  have e : x / 9223372036854775808 = 0 := by omega
  rw [e, u64_xor _ _ (by omega) (by omega) (by omega) (by omega)]
  simp [Lib.zigzag, h0]
  omega

theorem zig_neg (x : Int) (h0 : x < 0) (h1 : -9223372036854775808 ≤ x) :
    bits .xor .u64 (IntKind.u64.wrap (IntKind.u64.wrap x * 2)) (IntKind.u64.wrap (x / 9223372036854775808)) = (Lib.zigzag x : Int) := by
  have e : x / 9223372036854775808 = -1 := by omega
  rw [e]
  simp only [IntKind.wrap_u64]
  have e2 : (-1 : Int) % 18446744073709551616 = 18446744073709551615 := by omega
  have e3 : (x % 18446744073709551616 * 2) % 18446744073709551616 = 2 * x + 18446744073709551616 := by omega
  rw [e2, e3, u64_xor _ _ (by omega) (by omega) (by omega) (by omega)]
  have e4 : (18446744073709551615 : Int).toNat = 18446744073709551615 := by omega
  rw [e4, xor_ones _ (by omega)]
  simp only [Lib.zigzag]
  rw [if_neg (by omega)]
  omega

theorem zigzag_lt (x : Int) (h0 : -9223372036854775808 ≤ x) (h1 : x < 9223372036854775808) : Lib.zigzag x < 18446744073709551616 := by
  simp only [Lib.zigzag]
  split <;> omega

/-- The number that a packed one stands for, if it is signed. -/
def unzig (n : Nat) : Int := if n % 2 = 0 then (n / 2 : Nat) else -((n / 2 : Nat) : Int) - 1

theorem unzig_zigzag (x : Int) : unzig (Lib.zigzag x) = x := by
  simp only [unzig, Lib.zigzag]
  split <;> split <;> omega

/-- What stands at the beginning of some bytes, of which i have been read: a number, and what is left; or none. -/
def rn (i acc : Nat) : List UInt8 → Option (Nat × List UInt8)
  | [] => none
  | c :: r => if (1 ≤ i ∧ c.toNat < 1) ∨ (9 ≤ i ∧ 2 ≤ c.toNat) then none else if c.toNat < 128 then some (acc + c.toNat % 128 * 128 ^ i, r) else rn (i + 1) (acc + c.toNat % 128 * 128 ^ i) r

theorem pow7 (k : Nat) : (2 : Nat) ^ (7 * k) = 128 ^ k := by rw [Nat.pow_mul]
theorem pow_le9 {k : Nat} (h : k ≤ 8) : 128 ^ k ≤ 128 ^ 8 := Nat.pow_le_pow_right (by decide) h

theorem num_step (acc k c : Nat) (hk : k ≤ 9) (hc : c < 256) (h9 : 9 ≤ k → c < 2) (ha : acc < 128 ^ k) :
    bits .or .u64 (acc : Int) (IntKind.u64.wrap (IntKind.u64.wrap (bits .and .u8 (c : Int) 127) * 2 ^ (7 * k))) = ((acc + c % 128 * 128 ^ k : Nat) : Int) := by
  have hm : bits .and .u8 (c : Int) 127 = ((c % 128 : Nat) : Int) := by
    rw [u8_and127 _ (by omega) (by omega)]; omega
  have hp : (2 : Int) ^ (7 * k) = ((128 ^ k : Nat) : Int) := by
    rw [← pow7]; simp
  have hb : c % 128 * 128 ^ k < 18446744073709551616 := by
    rcases Nat.lt_or_ge k 9 with h | h
    · have h1 := pow_le9 (k := k) (by omega)
      have h2 : c % 128 * 128 ^ k ≤ 127 * 128 ^ 8 := Nat.mul_le_mul (by omega) h1
      have h3 : 127 * 128 ^ 8 < 18446744073709551616 := by decide
      omega
    · have hk9 : k = 9 := by omega
      subst hk9
      have hc2 := h9 (by omega)
      have hq : (128 : Nat) ^ 9 = 9223372036854775808 := by decide
      rw [hq]
      omega
  have ha2 : acc < 18446744073709551616 := by
    have h1 : 128 ^ k ≤ 128 ^ 9 := Nat.pow_le_pow_right (by decide) hk
    have h3 : 128 ^ 9 < 18446744073709551616 := by decide
    omega
  rw [hm, hp, IntKind.wrap_u64, IntKind.wrap_u64]
  have e1 : ((c % 128 : Nat) : Int) % 18446744073709551616 = ((c % 128 : Nat) : Int) := by omega
  rw [e1, ← Int.natCast_mul]
  have e2 : ((c % 128 * 128 ^ k : Nat) : Int) % 18446744073709551616 = ((c % 128 * 128 ^ k : Nat) : Int) := by omega
  rw [e2, u64_or_nat _ _ ha2 hb]
  congr 1
  rw [Nat.or_comm, nat_join (7 * k) _ _ (by rw [pow7]; exact Nat.mul_mod_left _ _) (by rw [pow7]; exact ha)]
  omega

theorem acc_step (acc k c : Nat) (ha : acc < 128 ^ k) : acc + c % 128 * 128 ^ k < 128 ^ (k + 1) := by
  have h2 : c % 128 * 128 ^ k ≤ 127 * 128 ^ k := Nat.mul_le_mul_right _ (by omega)
  rw [Nat.pow_succ]
  omega

theorem rn_no (k acc : Nat) (c : UInt8) (r : List UInt8) (h : (1 ≤ k ∧ c.toNat < 1) ∨ (9 ≤ k ∧ 2 ≤ c.toNat)) : rn k acc (c :: r) = none := by rw [rn, if_pos h]
theorem rn_last (k acc : Nat) (c : UInt8) (r : List UInt8) (h : ¬ ((1 ≤ k ∧ c.toNat < 1) ∨ (9 ≤ k ∧ 2 ≤ c.toNat))) (hc : c.toNat < 128) : rn k acc (c :: r) = some (acc + c.toNat % 128 * 128 ^ k, r) := by rw [rn, if_neg h, if_pos hc]
theorem rn_on (k acc : Nat) (c : UInt8) (r : List UInt8) (h : ¬ ((1 ≤ k ∧ c.toNat < 1) ∨ (9 ≤ k ∧ 2 ≤ c.toNat))) (hc : 128 ≤ c.toNat) : rn k acc (c :: r) = rn (k + 1) (acc + c.toNat % 128 * 128 ^ k) r := by rw [rn, if_neg h, if_neg (by omega)]

theorem u8_of {a : Nat} (h : a < 256) : (a.toUInt8).toNat = a := Lib.toUInt8_toNat h

/-- What was packed is read as it was. -/
theorem rn_uvarint : ∀ (k j x acc : Nat) (r : List UInt8), k + j = 9 → (k = 0 ∨ 1 ≤ x) → x < 2 * 128 ^ j → rn k acc (Lib.uvarint x ++ r) = some (acc + x * 128 ^ k, r) := by
  intro k j
  induction j generalizing k with
  | zero =>
    intro x acc r hk h0 hx
    have hk9 : k = 9 := by omega
    subst hk9
    have hx2 : x < 2 := by simpa using hx
    rw [Lib.uvarint_small (by omega), List.singleton_append, rn_last _ _ _ _ (by rw [u8_of (by omega)]; omega) (by rw [u8_of (by omega)]; omega), u8_of (by omega), Nat.mod_eq_of_lt (by omega)]
  | succ j ih =>
    intro x acc r hk h0 hx
    by_cases h : x < 128
    · rw [Lib.uvarint_small h, List.singleton_append, rn_last _ _ _ _ (by rw [u8_of (by omega)]; omega) (by rw [u8_of (by omega)]; omega), u8_of (by omega), Nat.mod_eq_of_lt h]
    · rw [Lib.uvarint_big (by omega), List.cons_append, rn_on _ _ _ _ (by rw [u8_of (by omega)]; omega) (by rw [u8_of (by omega)]; omega)]
      rw [ih (k + 1) (x / 128) _ r (by omega) (by omega) (by rw [Nat.pow_succ] at hx; omega)]
      rw [u8_of (by omega), Nat.pow_succ]
      congr 2
      have e : (x % 128 + 128) % 128 = x % 128 := by omega
      rw [e]
      have e2 : x * 128 ^ k = (x % 128 + 128 * (x / 128)) * 128 ^ k := by rw [Nat.mod_add_div]
      rw [e2, Nat.add_mul, Nat.mul_comm (128 ^ k) 128, ← Nat.mul_assoc, Nat.mul_comm 128 (x / 128)]
      omega

/-- What stands there. -/
def rd (l : List UInt8) : Option (Nat × List UInt8) := rn 0 0 l
theorem rd_uvarint (x : Nat) (r : List UInt8) (hx : x < 18446744073709551616) : rd (Lib.uvarint x ++ r) = some (x, r) := by
  have h := rn_uvarint 0 9 x 0 r rfl (.inl rfl) (by have : 2 * 128 ^ 9 = 18446744073709551616 := by decide
                                                    omega)
  simpa [rd] using h

theorem rn_lt : ∀ (l : List UInt8) (k acc : Nat), acc < 128 ^ k → k ≤ 9 → ∀ n r, rn k acc l = some (n, r) → n < 18446744073709551616
  | [], _, _, _, _, _, _, h => by simp [rn] at h
  | c :: t, k, acc, ha, hk, n, r, h => by
    by_cases hb : (1 ≤ k ∧ c.toNat < 1) ∨ (9 ≤ k ∧ 2 ≤ c.toNat)
    · rw [rn_no _ _ _ _ hb] at h; cases h
    · by_cases hc : c.toNat < 128
      · rw [rn_last _ _ _ _ hb hc] at h
        simp only [Option.some.injEq, Prod.mk.injEq] at h
        obtain ⟨rfl, rfl⟩ := h
        rcases Nat.lt_or_ge k 9 with h9 | h9
        · have h1 := acc_step acc k c.toNat ha
          have h2 : 128 ^ (k + 1) ≤ 128 ^ 9 := Nat.pow_le_pow_right (by decide) (by omega)
          have h3 : 128 ^ 9 < 18446744073709551616 := by decide
          omega
        · have hk9 : k = 9 := by omega
          subst hk9
          have h2 : c.toNat % 128 * 128 ^ 9 ≤ 1 * 128 ^ 9 := Nat.mul_le_mul_right _ (by omega)
          have h3 : 1 * 128 ^ 9 + 128 ^ 9 = 18446744073709551616 := by decide
          omega
      · rw [rn_on _ _ _ _ hb (by omega)] at h
        exact rn_lt t (k + 1) _ (acc_step acc k c.toNat ha) (by omega) n r h
theorem rd_lt {l : List UInt8} {n : Nat} {r : List UInt8} (h : rd l = some (n, r)) : n < 18446744073709551616 := rn_lt l 0 0 (by omega) (by omega) n r h

theorem and1_u64 (n : Nat) (h : n < 18446744073709551616) : bits .and .u64 (n : Int) 1 = ((n % 2 : Nat) : Int) := by
  have h1 := u64_and_nat n 1 h (by decide)
  rw [nat_mask1] at h1
  exact h1

/-- A number read as a signed one. -/
theorem unzig_bits (n : Nat) (h : n < 18446744073709551616) :
    bits .xor .i64 ((n : Int) / 2) (RowKit.wrap64 (-RowKit.wrap64 (bits .and .u64 (n : Int) 1))) = unzig n := by
  rw [and1_u64 n h]
  have e1 : RowKit.wrap64 (((n % 2 : Nat) : Int)) = ((n % 2 : Nat) : Int) := by unfold RowKit.wrap64; omega
  rw [e1]
  have e2 : RowKit.wrap64 (-((n % 2 : Nat) : Int)) = -((n % 2 : Nat) : Int) := by unfold RowKit.wrap64; omega
  rw [e2]
  have e3 : (n : Int) / 2 = ((n / 2 : Nat) : Int) := by omega
  rw [e3]
  have hx : (BitVec.ofInt 64 ((n / 2 : Nat) : Int)).toNat = n / 2 := ofInt_u64 (n / 2) (by omega)
  show IntKind.i64.wrap ((BitVec.ofInt 64 ((n / 2 : Nat) : Int) ^^^ BitVec.ofInt 64 (-((n % 2 : Nat) : Int))).toNat : Int) = _
  unfold unzig
  rcases Nat.mod_two_eq_zero_or_one n with h0 | h0
  · rw [h0, if_pos rfl]
    have e4 : BitVec.ofInt 64 (-((0 : Nat) : Int)) = 0#64 := by decide
    rw [e4, BitVec.xor_zero, hx, IntKind.wrap_i64]
    omega
  · rw [h0, if_neg (by decide)]
    have e4 : BitVec.ofInt 64 (-((1 : Nat) : Int)) = BitVec.allOnes 64 := by decide
    rw [e4, BitVec.xor_allOnes, BitVec.toNat_not, hx, IntKind.wrap_i64]
    omega

theorem rn_len : ∀ (l : List UInt8) (k acc n : Nat) (r : List UInt8), rn k acc l = some (n, r) → r.length < l.length
  | [], _, _, _, _, h => by simp [rn] at h
  | c :: t, k, acc, n, r, h => by
    by_cases hb : (1 ≤ k ∧ c.toNat < 1) ∨ (9 ≤ k ∧ 2 ≤ c.toNat)
    · rw [rn_no _ _ _ _ hb] at h; cases h
    · by_cases hc : c.toNat < 128
      · rw [rn_last _ _ _ _ hb hc] at h
        simp only [Option.some.injEq, Prod.mk.injEq] at h
        obtain ⟨_, rfl⟩ := h
        simp
      · rw [rn_on _ _ _ _ hb (by omega)] at h
        have := rn_len t _ _ n r h
        simp; omega
theorem rd_len {l : List UInt8} {n : Nat} {r : List UInt8} (h : rd l = some (n, r)) : r.length ≤ l.length := Nat.le_of_lt (rn_len l 0 0 n r h)

end Go.Proofs.YtmaohncddjhgeaaGreat
end
section
namespace Go.Proofs.YtmaohncddjhgeaaGreat

/-- What bytes come to, seven bits a byte, the least first. -/
def val : List UInt8 → Nat
  | [] => 0
  | c :: r => c.toNat % 128 + 128 * val r

theorem val_app (p q : List UInt8) : val (p ++ q) = val p + 128 ^ p.length * val q := by
  induction p with
  | nil => simp [val]
  | cons c p ih =>
    simp only [List.cons_append, val, ih, List.length_cons, Nat.pow_succ]
    rw [Nat.mul_add, Nat.mul_comm (128 ^ p.length) 128, Nat.mul_assoc]
    omega

theorem rn_pre : ∀ (pre post : List UInt8) (i acc : Nat), (∀ c ∈ pre, 128 ≤ c.toNat) → i + pre.length ≤ 9 → rn i acc (pre ++ post) = rn (i + pre.length) (acc + 128 ^ i * val pre) post
  | [], post, i, acc, _, _ => by simp [val]
  | c :: pre, post, i, acc, h, hl => by
    have hc := h c (by simp)
    rw [List.length_cons] at hl
    rw [List.cons_append, rn_on _ _ _ _ (by omega) hc, rn_pre pre post _ _ (fun x hx => h x (by simp [hx])) (by omega)]
    rw [List.length_cons, val]
    congr 1
    · omega
    · rw [Nat.pow_succ, Nat.mul_add, Nat.mul_comm (c.toNat % 128), Nat.mul_assoc]
      omega

theorem rn_long : ∀ (pre post : List UInt8) (i acc : Nat), (∀ c ∈ pre, 128 ≤ c.toNat) → 9 < i + pre.length → i ≤ 9 → rn i acc (pre ++ post) = none
  | [], post, i, acc, _, hl, hi => by simp at hl; omega
  | c :: pre, post, i, acc, h, hl, hi => by
    have hc := h c (by simp)
    rw [List.length_cons] at hl
    rw [List.cons_append]
    by_cases h9 : 9 ≤ i
    · exact rn_no _ _ _ _ (.inr ⟨h9, by omega⟩)
    · rw [rn_on _ _ _ _ (by omega) hc]
      exact rn_long pre post _ _ (fun x hx => h x (by simp [hx])) (by omega) (by omega)

theorem rd_ends (pre : List UInt8) (h : ∀ c ∈ pre, 128 ≤ c.toNat) : rd pre = none := by
  unfold rd
  by_cases hl : pre.length ≤ 9
  · have := rn_pre pre [] 0 0 h (by omega)
    rw [List.append_nil] at this
    rw [this]; rfl
  · have := rn_long pre [] 0 0 h (by omega) (by omega)
    rwa [List.append_nil] at this
theorem rd_long (pre post : List UInt8) (h : ∀ c ∈ pre, 128 ≤ c.toNat) (hl : 9 < pre.length) : rd (pre ++ post) = none := rn_long pre post 0 0 h (by omega) (by omega)
theorem rd_bad (pre r : List UInt8) (c : UInt8) (h : ∀ c ∈ pre, 128 ≤ c.toNat) (hl : pre.length ≤ 9) (hb : (1 ≤ pre.length ∧ c.toNat < 1) ∨ (9 ≤ pre.length ∧ 2 ≤ c.toNat)) : rd (pre ++ c :: r) = none := by
  unfold rd
  rw [rn_pre pre (c :: r) 0 0 h (by omega), Nat.zero_add]
  exact rn_no _ _ _ _ hb
theorem rd_good (pre r : List UInt8) (c : UInt8) (h : ∀ c ∈ pre, 128 ≤ c.toNat) (hl : pre.length ≤ 9) (hc : c.toNat < 128) (hb : ¬ ((1 ≤ pre.length ∧ c.toNat < 1) ∨ (9 ≤ pre.length ∧ 2 ≤ c.toNat))) :
    rd (pre ++ c :: r) = some (val (pre ++ [c]), r) := by
  unfold rd
  rw [rn_pre pre (c :: r) 0 0 h (by omega), Nat.zero_add, rn_last _ _ _ _ hb hc, val_app]
  simp [val, Nat.mul_comm]

theorem drop_val (q : List UInt8) (m : Nat) (h : m < q.length) : val (q.drop m) = val (q.drop (m + 1)) * 128 + q[m].toNat % 128 := by
  rw [List.drop_eq_getElem_cons h, val]
  omega

theorem drop_val_le (q : List UInt8) (m : Nat) : val (q.drop m) ≤ val q := by
  rcases Nat.lt_or_ge m q.length with h | h
  · have h1 : val q = val (q.take m) + 128 ^ (q.take m).length * val (q.drop m) := by rw [← val_app, List.take_append_drop]
    have h2 : 1 ≤ 128 ^ (q.take m).length := Nat.pos_of_ne_zero (by simp)
    have h3 : 1 * val (q.drop m) ≤ 128 ^ (q.take m).length * val (q.drop m) := Nat.mul_le_mul_right _ h2
    omega
  · rw [List.drop_of_length_le h]; simp [val]

end Go.Proofs.YtmaohncddjhgeaaGreat
end
