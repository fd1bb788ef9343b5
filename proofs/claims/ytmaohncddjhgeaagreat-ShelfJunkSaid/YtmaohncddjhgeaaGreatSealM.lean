/- Plain facts on the register of the sum: it is linear, no step loses anything, what is sealed leaves one register, and what turned bits within 64 do to it. No program in this text. -/
namespace Go.Proofs.YtmaohncddjhgeaaGreat.sl

/-- What is combined with the register where a 1 is shifted out. -/
def poly : BitVec 64 := 0xC96C5795D7870F42#64
def st (x : BitVec 64) : BitVec 64 := if x.getLsbD 0 then (x >>> 1) ^^^ poly else x >>> 1

theorem xor_swap (a b c d : BitVec 64) : (a ^^^ b) ^^^ (c ^^^ d) = (a ^^^ c) ^^^ (b ^^^ d) := by
  rw [BitVec.xor_assoc, ← BitVec.xor_assoc b, BitVec.xor_comm b c, BitVec.xor_assoc c, ← BitVec.xor_assoc]

theorem st_xor (x y : BitVec 64) : st (x ^^^ y) = st x ^^^ st y := by
  unfold st
  rw [BitVec.getLsbD_xor, BitVec.ushiftRight_xor_distrib]
  cases hx : x.getLsbD 0 <;> cases hy : y.getLsbD 0 <;> simp
  · rw [BitVec.xor_assoc]
  · rw [BitVec.xor_assoc, BitVec.xor_comm (y >>> 1), ← BitVec.xor_assoc]
  · rw [xor_swap, BitVec.xor_self, BitVec.xor_zero]

theorem st_zero : st 0#64 = 0#64 := by decide
theorem st_ne {x : BitVec 64} (h : st x = 0#64) : x = 0#64 := by
  unfold st at h
  split at h
  · exfalso
    have h2 : x >>> 1 = poly := by
      have h3 := congrArg (· ^^^ poly) h
      simpa [BitVec.xor_assoc] using h3
    have h4 : (x >>> 1).getLsbD 63 = true := by rw [h2]; decide
    rw [BitVec.getLsbD_ushiftRight, BitVec.getLsbD_of_ge _ _ (by decide)] at h4
    cases h4
  · next h0 =>
    apply BitVec.eq_of_getLsbD_eq
    intro i hi
    cases i with
    | zero => simpa using h0
    | succ i =>
      have h4 := congrArg (fun y => BitVec.getLsbD y i) h
      simp [BitVec.getLsbD_ushiftRight] at h4
      rw [Nat.add_comm] at h4
      simpa using h4

/-- So many steps. -/
def its : Nat → BitVec 64 → BitVec 64
  | 0, x => x
  | n + 1, x => its n (st x)
theorem its_xor : ∀ (n : Nat) (x y : BitVec 64), its n (x ^^^ y) = its n x ^^^ its n y
  | 0, _, _ => rfl
  | n + 1, x, y => by rw [its, its, its, st_xor, its_xor]
theorem its_zero : ∀ n, its n 0#64 = 0#64
  | 0 => rfl
  | n + 1 => by rw [its, st_zero, its_zero]
theorem its_ne : ∀ (n : Nat) {x : BitVec 64}, its n x = 0#64 → x = 0#64
  | 0, _, h => h
  | n + 1, _, h => st_ne (its_ne n h)
theorem its_add : ∀ (n m : Nat) (x : BitVec 64), its (n + m) x = its m (its n x)
  | 0, m, x => by rw [Nat.zero_add]; rfl
  | n + 1, m, x => by rw [show n + 1 + m = (n + m) + 1 from by omega, its, its, its_add]
theorem xor_eq_zero {a b : BitVec 64} (h : a ^^^ b = 0#64) : a = b := by
  have h2 := congrArg (· ^^^ b) h
  simpa [BitVec.xor_assoc] using h2
theorem its_inj {n : Nat} {x y : BitVec 64} (h : its n x = its n y) : x = y := by
  refine xor_eq_zero (its_ne n ?_)
  rw [its_xor, h, BitVec.xor_self]

/-- A number shifted up is shifted down by as many steps. -/
theorem st_shl (x : BitVec 64) (h : x.getLsbD 63 = false) : st (x <<< 1) = x := by
  have h0 : (x <<< 1).getLsbD 0 = false := by simp
  unfold st
  rw [h0]
  apply BitVec.eq_of_getLsbD_eq
  intro i hi
  simp [BitVec.getLsbD_ushiftRight, BitVec.getLsbD_shiftLeft]
  intro h1
  rcases Nat.lt_or_ge (1 + i) 64 with h2 | h2
  · omega
  · have : i = 63 := by omega
    subst this
    rw [h] at h1
    cases h1
theorem its_shl : ∀ (k : Nat) (x : BitVec 64), (∀ i, 64 - k ≤ i → x.getLsbD i = false) → its k (x <<< k) = x
  | 0, x, _ => by simp [its]
  | k + 1, x, h => by
    have e : x <<< (k + 1) = (x <<< k) <<< 1 := by rw [← BitVec.shiftLeft_add]
    rw [its, e, st_shl]
    · exact its_shl k x (fun i hi => h i (by omega))
    · rw [BitVec.getLsbD_shiftLeft]
      by_cases hk : 63 < k
      · simp [hk]
      · have := h (63 - k) (by omega)
        simp [this]

/-- A byte's bits, the lowest ones of the register's. -/
def wide (c : UInt8) : BitVec 64 := BitVec.ofNat 64 c.toNat
theorem wide_high (c : UInt8) (i : Nat) (h : 8 ≤ i) : (wide c).getLsbD i = false := by
  unfold wide
  rw [BitVec.getLsbD_ofNat]
  have h2 : c.toNat < 2 ^ i := Nat.lt_of_lt_of_le (UInt8.toNat_lt c) (Nat.pow_le_pow_right (by decide) h)
  rw [Nat.testBit_lt_two_pow h2]
  simp
theorem wide_xor (c d : UInt8) : wide (c ^^^ d) = wide c ^^^ wide d := by
  unfold wide
  rw [UInt8.toNat_xor]
  apply BitVec.eq_of_toNat_eq
  simp [BitVec.toNat_xor, BitVec.toNat_ofNat]

def byt (r : BitVec 64) (c : UInt8) : BitVec 64 := its 8 (r ^^^ wide c)
def run (r : BitVec 64) (l : List UInt8) : BitVec 64 := l.foldl byt r
theorem run_nil (r : BitVec 64) : run r [] = r := rfl
theorem run_cons (r : BitVec 64) (c : UInt8) (l : List UInt8) : run r (c :: l) = run (byt r c) l := rfl
theorem run_app (r : BitVec 64) (l m : List UInt8) : run r (l ++ m) = run (run r l) m := List.foldl_append
theorem run_xor : ∀ (l : List UInt8) (x y : BitVec 64), run (x ^^^ y) l = run x l ^^^ its (8 * l.length) y
  | [], x, y => rfl
  | c :: l, x, y => by
    have e : byt (x ^^^ y) c = byt x c ^^^ its 8 y := by
      unfold byt
      rw [← its_xor, BitVec.xor_assoc, BitVec.xor_comm y, ← BitVec.xor_assoc]
    rw [run_cons, e, run_xor, run_cons, List.length_cons, show 8 * (l.length + 1) = 8 + 8 * l.length from by omega, its_add]
theorem run_zip : ∀ (l m : List UInt8) (x y : BitVec 64), l.length = m.length → run (x ^^^ y) (List.zipWith (· ^^^ ·) l m) = run x l ^^^ run y m
  | [], [], x, y, _ => rfl
  | c :: l, d :: m, x, y, h => by
    have e : byt (x ^^^ y) (c ^^^ d) = byt x c ^^^ byt y d := by
      unfold byt
      rw [← its_xor, wide_xor, xor_swap]
    rw [List.zipWith_cons_cons, run_cons, e, run_zip l m _ _ (by simpa using h)]
    rfl
theorem run_inj {l : List UInt8} {x y : BitVec 64} (h : run x l = run y l) : x = y := by
  have e : run y l = run x l ^^^ its (8 * l.length) (x ^^^ y) := by
    rw [← run_xor, ← BitVec.xor_assoc, BitVec.xor_self, BitVec.zero_xor]
  rw [h] at e
  have h2 := congrArg (run y l ^^^ ·) e
  rw [BitVec.xor_self, ← BitVec.xor_assoc, BitVec.xor_self, BitVec.zero_xor] at h2
  exact xor_eq_zero (its_ne _ h2.symm)

/-- A byte that is turned. -/
theorem run_turn (r : BitVec 64) (l : List UInt8) (i : Nat) (d : UInt8) (h : i < l.length) : run r (l.set i (l[i] ^^^ d)) = run r l ^^^ its (8 * (l.length - i)) (wide d) := by
  have e1 : l = l.take i ++ l[i] :: l.drop (i + 1) := by rw [← List.drop_eq_getElem_cons h, List.take_append_drop]
  have e2 : l.set i (l[i] ^^^ d) = l.take i ++ (l[i] ^^^ d) :: l.drop (i + 1) := by rw [List.set_eq_take_append_cons_drop, if_pos h]
  have e3 : byt (run r (l.take i)) (l[i] ^^^ d) = byt (run r (l.take i)) l[i] ^^^ its 8 (wide d) := by
    unfold byt
    rw [← its_xor, wide_xor, BitVec.xor_assoc]
  rw [e2, run_app, run_cons, e3, run_xor, ← its_add]
  have e4 : run r l = run (byt (run r (l.take i)) l[i]) (l.drop (i + 1)) := by
    rw [← run_cons, ← run_app, ← e1]
  rw [e4, List.length_drop]
  congr 2
  omega

/-- So many bytes of a number, the lowest one first. -/
def le : Nat → Nat → List UInt8
  | 0, _ => []
  | n + 1, v => (v % 256).toUInt8 :: le n (v / 256)
theorem le_len : ∀ n v, (le n v).length = n
  | 0, _ => rfl
  | n + 1, v => by rw [le, List.length_cons, le_len]
/-- What some bytes are, read as a number. -/
def pk : List UInt8 → BitVec 64
  | [] => 0#64
  | c :: l => wide c ^^^ (pk l <<< 8)
theorem pk_high : ∀ (l : List UInt8) (i : Nat), 8 * l.length ≤ i → (pk l).getLsbD i = false
  | [], i, _ => by simp [pk]
  | c :: l, i, h => by
    rw [List.length_cons] at h
    rw [pk, BitVec.getLsbD_xor, wide_high c i (by omega), BitVec.getLsbD_shiftLeft, pk_high l (i - 8) (by omega)]
    simp
theorem run_pk : ∀ (l : List UInt8) (r : BitVec 64), l.length ≤ 8 → run r l = its (8 * l.length) (r ^^^ pk l)
  | [], r, _ => by simp [run_nil, its, pk]
  | c :: l, r, h => by
    rw [List.length_cons] at h
    have e1 : its 8 (pk l <<< 8) = pk l := its_shl 8 _ (fun i hi => pk_high l i (by omega))
    rw [run_cons, run_pk l _ (by omega), List.length_cons, show 8 * (l.length + 1) = 8 + 8 * l.length from by omega, its_add, pk]
    congr 1
    unfold byt
    rw [← BitVec.xor_assoc, its_xor 8 (r ^^^ wide c), e1]
theorem pk_le : ∀ (n v : Nat), n ≤ 8 → v < 256 ^ n → pk (le n v) = BitVec.ofNat 64 v
  | 0, v, _, h => by
    have : v = 0 := by simpa using h
    subst this; rfl
  | n + 1, v, hn, h => by
    rw [le, pk, pk_le n (v / 256) (by omega) (by rw [Nat.pow_succ] at h; omega)]
    have hw : wide (v % 256).toUInt8 = BitVec.ofNat 64 (v % 256) := by
      unfold wide
      congr 1
      simp [Nat.toUInt8, UInt8.toNat_ofNat']
    rw [hw]
    apply BitVec.eq_of_getLsbD_eq
    intro i hi
    simp only [BitVec.getLsbD_xor, BitVec.getLsbD_shiftLeft, BitVec.getLsbD_ofNat]
    rcases Nat.lt_or_ge i 8 with h8 | h8
    · have e1 : (v % 256).testBit i = v.testBit i := by
        rw [show 256 = 2 ^ 8 from rfl, Nat.testBit_mod_two_pow]
        simp [h8]
      simp [h8, hi, e1]
    · have e1 : (v % 256).testBit i = false := by
        rw [show 256 = 2 ^ 8 from rfl, Nat.testBit_mod_two_pow]
        simp; omega
      have e2 : (v / 256).testBit (i - 8) = v.testBit i := by
        rw [show 256 = 2 ^ 8 from rfl, Nat.testBit_div_two_pow]
        congr 1; omega
      have e3 : ¬ i < 8 := by omega
      have e4 : i - 8 < 64 := by omega
      simp [hi, e1, e2, e3, e4]

/-- What is sealed leaves one register. -/
theorem run_sealed (s : List UInt8) : run (BitVec.allOnes 64) (s ++ le 8 (~~~ run (BitVec.allOnes 64) s).toNat) = its 64 (BitVec.allOnes 64) := by
  rw [run_app, run_pk _ _ (by rw [le_len]; exact Nat.le_refl _), le_len, pk_le 8 _ (by omega) (BitVec.isLt _)]
  congr 1
  rw [BitVec.ofNat_toNat, BitVec.setWidth_eq]
  apply BitVec.eq_of_getLsbD_eq
  intro i hi
  rw [BitVec.getLsbD_xor, BitVec.getLsbD_not, BitVec.getLsbD_allOnes]
  cases (run (BitVec.allOnes 64) s).getLsbD i <;> simp [hi]

theorem its_one (j : Nat) (hj : j < 64) : its j (1#64 <<< j) = 1#64 := its_shl j _ (fun i hi => by
  rw [BitVec.getLsbD_one]; simp; omega)
theorem its_bit (n j : Nat) (hj : j < 64) (hn : j ≤ n) : its n (1#64 <<< j) = its (n - j) 1#64 := by
  rw [show n = j + (n - j) from by omega, its_add, its_one j hj]
  congr 1; omega
theorem wide_bit (j : Nat) (hj : j < 8) : wide (1 <<< j.toUInt8) = 1#64 <<< j := by
  match j, hj with
  | 0, _ => rfl
  | 1, _ => rfl
  | 2, _ => rfl
  | 3, _ => rfl
  | 4, _ => rfl
  | 5, _ => rfl
  | 6, _ => rfl
  | 7, _ => rfl

/-- One bit that is turned, the k-th one of a window that begins at place fr of the row of bits. -/
theorem run_bit (r : BitVec 64) (l : List UInt8) (fr k : Nat) (hk : k < 64) (h : fr + 64 ≤ 8 * l.length) (d : UInt8) (hd : wide d = 1#64 <<< ((fr + k) % 8)) :
    run r (l.set ((fr + k) / 8) (l[(fr + k) / 8]'(by omega) ^^^ d)) = run r l ^^^ its (8 * l.length - fr) (1#64 <<< k) := by
  rw [run_turn r l ((fr + k) / 8) d (by omega), hd, its_bit _ _ (by omega) (by omega), its_bit _ k hk (by omega)]
  congr 2
  omega

/-- The lowest k bits. -/
def low (e k : Nat) : BitVec 64 := BitVec.ofNat 64 (e % 2 ^ k)
theorem low_zero (e : Nat) : low e 0 = 0#64 := by simp [low, Nat.mod_one]
theorem low_all (e : Nat) (h : e < 2 ^ 64) : low e 64 = BitVec.ofNat 64 e := by rw [low, Nat.mod_eq_of_lt h]
theorem low_bit (e k : Nat) (hk : k < 64) (h : e / 2 ^ k % 2 = 1) : low e (k + 1) = low e k ^^^ (1#64 <<< k) := by
  have hb : e.testBit k = true := by rw [Nat.testBit_eq_decide_div_mod_eq, h]; rfl
  apply BitVec.eq_of_getLsbD_eq
  intro i hi
  simp only [low, BitVec.getLsbD_xor, BitVec.getLsbD_ofNat, Nat.testBit_mod_two_pow, BitVec.getLsbD_shiftLeft]
  rcases Nat.lt_trichotomy i k with h1 | h1 | h1
  · have : i < k + 1 := by omega
    simp [hi, h1, this]
  · subst h1; simp [hi, hb]
  · have h2 : ¬ i < k + 1 := by omega
    have h3 : ¬ i < k := by omega
    have h4 : Nat.testBit 1 (i - k) = false := Nat.testBit_lt_two_pow (Nat.one_lt_two_pow (by omega))
    simp [h2, h3, h4]
theorem low_no (e k : Nat) (h : e / 2 ^ k % 2 = 0) : low e (k + 1) = low e k := by
  have hb : e.testBit k = false := by rw [Nat.testBit_eq_decide_div_mod_eq, h]; rfl
  apply BitVec.eq_of_getLsbD_eq
  intro i hi
  simp only [low, BitVec.getLsbD_ofNat, Nat.testBit_mod_two_pow]
  rcases Nat.lt_trichotomy i k with h1 | h1 | h1
  · have : i < k + 1 := by omega
    simp [h1, this]
  · subst h1; simp [hb]
  · have h2 : ¬ i < k + 1 := by omega
    have h3 : ¬ i < k := by omega
    simp [h2, h3]

/-- Turned bits within 64 are told: what is left in the register is another one. -/
theorem run_burst (r : BitVec 64) (l l' : List UInt8) (fr e : Nat) (he : e < 2 ^ 64) (h0 : e ≠ 0) (h : run r l' = run r l ^^^ its (8 * l.length - fr) (low e 64)) : run r l' ≠ run r l := by
  intro hc
  rw [hc] at h
  have h2 := congrArg (run r l ^^^ ·) h
  rw [BitVec.xor_self, ← BitVec.xor_assoc, BitVec.xor_self, BitVec.zero_xor] at h2
  have h3 := its_ne _ h2.symm
  rw [low_all e he] at h3
  have h4 := congrArg BitVec.toNat h3
  rw [BitVec.toNat_ofNat, Nat.mod_eq_of_lt he] at h4
  exact h0 (by simpa using h4)

theorem front_zero : byt (BitVec.allOnes 64) 0 ≠ BitVec.allOnes 64 := by decide

end Go.Proofs.YtmaohncddjhgeaaGreat.sl
