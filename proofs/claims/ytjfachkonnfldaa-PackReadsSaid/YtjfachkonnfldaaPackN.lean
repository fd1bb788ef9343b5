/- Plain facts on how the document reads a number: the bytes that go on, the last one, and what they come to. No program in this text. -/
import Derived.Test.YtjfachkonnfldaaPackM
namespace Go.Proofs.Ytjfachkonnfldaa

/-- What bytes come to, seven bits a byte, the least first. -/
def val : List UInt8 → Nat
  | [] => 0
  | c :: r => c.toNat % 128 + 128 * val r

theorem val_app (p q : List UInt8) : val (p ++ q) = val p + 128 ^ p.length * val q := by
  induction p with
  | nil => simp [val]
  | cons c p ih =>
    simp only [List.cons_append, val, ih, List.length_cons, Nat.pow_succ]
    rw [Nat.mul_add, Nat.mul_comm (128 ^ p.length) 128, Nat.mul_assoc]
    omega

theorem rn_pre : ∀ (pre post : List UInt8) (i acc : Nat), (∀ c ∈ pre, 128 ≤ c.toNat) → i + pre.length ≤ 9 → rn i acc (pre ++ post) = rn (i + pre.length) (acc + 128 ^ i * val pre) post
  | [], post, i, acc, _, _ => by simp [val]
  | c :: pre, post, i, acc, h, hl => by
    have hc := h c (by simp)
    rw [List.length_cons] at hl
    rw [List.cons_append, rn_on _ _ _ _ (by omega) hc, rn_pre pre post _ _ (fun x hx => h x (by simp [hx])) (by omega)]
    rw [List.length_cons, val]
    congr 1
    · omega
    · rw [Nat.pow_succ, Nat.mul_add, Nat.mul_comm (c.toNat % 128), Nat.mul_assoc]
      omega

theorem rn_long : ∀ (pre post : List UInt8) (i acc : Nat), (∀ c ∈ pre, 128 ≤ c.toNat) → 9 < i + pre.length → i ≤ 9 → rn i acc (pre ++ post) = none
  | [], post, i, acc, _, hl, hi => by simp at hl; omega
  | c :: pre, post, i, acc, h, hl, hi => by
    have hc := h c (by simp)
    rw [List.length_cons] at hl
    rw [List.cons_append]
    by_cases h9 : 9 ≤ i
    · exact rn_no _ _ _ _ (.inr ⟨h9, by omega⟩)
    · rw [rn_on _ _ _ _ (by omega) hc]
      exact rn_long pre post _ _ (fun x hx => h x (by simp [hx])) (by omega) (by omega)

theorem rd_ends (pre : List UInt8) (h : ∀ c ∈ pre, 128 ≤ c.toNat) : rd pre = none := by
  unfold rd
  by_cases hl : pre.length ≤ 9
  · have := rn_pre pre [] 0 0 h (by omega)
    rw [List.append_nil] at this
    rw [this]; rfl
  · have := rn_long pre [] 0 0 h (by omega) (by omega)
    rwa [List.append_nil] at this
theorem rd_long (pre post : List UInt8) (h : ∀ c ∈ pre, 128 ≤ c.toNat) (hl : 9 < pre.length) : rd (pre ++ post) = none := rn_long pre post 0 0 h (by omega) (by omega)
theorem rd_bad (pre r : List UInt8) (c : UInt8) (h : ∀ c ∈ pre, 128 ≤ c.toNat) (hl : pre.length ≤ 9) (hb : (1 ≤ pre.length ∧ c.toNat < 1) ∨ (9 ≤ pre.length ∧ 2 ≤ c.toNat)) : rd (pre ++ c :: r) = none := by
  unfold rd
  rw [rn_pre pre (c :: r) 0 0 h (by omega), Nat.zero_add]
  exact rn_no _ _ _ _ hb
theorem rd_good (pre r : List UInt8) (c : UInt8) (h : ∀ c ∈ pre, 128 ≤ c.toNat) (hl : pre.length ≤ 9) (hc : c.toNat < 128) (hb : ¬ ((1 ≤ pre.length ∧ c.toNat < 1) ∨ (9 ≤ pre.length ∧ 2 ≤ c.toNat))) :
    rd (pre ++ c :: r) = some (val (pre ++ [c]), r) := by
  unfold rd
  rw [rn_pre pre (c :: r) 0 0 h (by omega), Nat.zero_add, rn_last _ _ _ _ hb hc, val_app]
  simp [val, Nat.mul_comm]

theorem drop_val (q : List UInt8) (m : Nat) (h : m < q.length) : val (q.drop m) = val (q.drop (m + 1)) * 128 + q[m].toNat % 128 := by
  rw [List.drop_eq_getElem_cons h, val]
  omega

theorem drop_val_le (q : List UInt8) (m : Nat) : val (q.drop m) ≤ val q := by
  rcases Nat.lt_or_ge m q.length with h | h
  · have h1 : val q = val (q.take m) + 128 ^ (q.take m).length * val (q.drop m) := by rw [← val_app, List.take_append_drop]
    have h2 : 1 ≤ 128 ^ (q.take m).length := Nat.pos_of_ne_zero (by simp)
    have h3 : 1 * val (q.drop m) ≤ 128 ^ (q.take m).length * val (q.drop m) := Nat.mul_le_mul_right _ h2
    omega
  · rw [List.drop_of_length_le h]; simp [val]

end Go.Proofs.Ytjfachkonnfldaa
