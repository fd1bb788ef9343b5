/- What Take answers, plain. -/
import Derived.Test.YtkjffoebcblpoaaGreatExM
import Derived.Lib.ItoaNum
import Derived.Lib.AtoiTie
import Derived.Lib.ParseIntBTie
import Derived.Lib.Strings
section
set_option linter.unusedVariables false
set_option linter.unusedSimpArgs false
namespace Go.Proofs.YtkjffoebcblpoaaGreat.ex

def pf (n : Int) (a b : X) : Bool := if n ≤ min a.2 b.2 then decide (a.2 < b.2) else decide (b.2 < a.2)
/-- The place of the best one. -/
def chI (n : Int) : List X → Nat → Nat → X → Nat
  | [], _, b, _ => b
  | x :: l, k, b, y => if pf n x y = true then chI n l (k + 1) k x else chI n l (k + 1) b y
theorem chI_lt (n : Int) (m : Nat) : ∀ (l : List X) (k b : Nat) (y : X), b < m → k + l.length ≤ m → chI n l k b y < m
  | [], _, _, _, h, _ => h
  | x :: l, k, b, y, h, h2 => by
    simp only [List.length_cons] at h2
    unfold chI
    split
    · exact chI_lt n m l (k + 1) k x (by omega) (by omega)
    · exact chI_lt n m l (k + 1) b y h (by omega)
def pick (best : Bool) (n : Int) (l : List X) : Nat := if best then chI n l 0 0 l[0]! else 0
theorem pick_lt {best : Bool} {n : Int} {l : List X} (h : l ≠ []) : pick best n l < l.length := by
  have hp := List.length_pos_iff.2 h
  unfold pick
  split
  · exact chI_lt n l.length l 0 0 _ hp (by omega)
  · exact hp
/-- A list without the first m numbers of what is at i. -/
def short (l : List X) (i : Nat) (m : Int) : List X := if 0 < l[i]!.2 - m then l.set i (l[i]!.1 + m, l[i]!.2 - m) else l.eraseIdx i
structure St where
  rest : List X
  took : List X
  n : Int
def stp (best : Bool) (s : St) : St :=
  let i := pick best s.n s.rest
  let m := min s.n s.rest[i]!.2
  ⟨short s.rest i m, s.took ++ [(s.rest[i]!.1, m)], s.n - m⟩
def tk (best : Bool) : Nat → St → St
  | 0, s => s
  | k + 1, s => if 0 < s.n then tk best k (stp best s) else s
theorem tk_done (best : Bool) {s : St} (h : ¬ 0 < s.n) : ∀ k, tk best k s = s
  | 0 => rfl
  | k + 1 => if_neg h
theorem tk_same (best : Bool) : ∀ (k j : Nat) (s : St), ¬ 0 < (tk best k s).n → ¬ 0 < (tk best j s).n → tk best k s = tk best j s
  | 0, j, s, h, _ => (tk_done best h j).symm
  | k + 1, 0, s, _, h2 => tk_done best h2 (k + 1)
  | k + 1, j + 1, s, h, h2 => by
    by_cases hs : 0 < s.n
    · unfold tk at h h2 ⊢
      rw [if_pos hs] at h h2 ⊢
      rw [if_pos hs]
      exact tk_same best k j (stp best s) h h2
    · rw [tk_done best hs, tk_done best hs]

theorem split_at {l : List X} {i : Nat} (h : i < l.length) : l = l.take i ++ l[i]! :: l.drop (i + 1) := by
  rw [getElem!_pos l i h, ← List.drop_eq_getElem_cons h, List.take_append_drop]
theorem set_split {l : List X} {i : Nat} (h : i < l.length) (y : X) : l.set i y = l.take i ++ y :: l.drop (i + 1) := by
  rw [List.set_eq_take_append_cons_drop, if_pos h]
theorem erase_split (l : List X) (i : Nat) : l.eraseIdx i = l.take i ++ l.drop (i + 1) := List.eraseIdx_eq_take_drop_succ l i

/-- What holds in each round: a is what was free, N what is asked. -/
structure TI (a : List X) (N : Int) (s : St) : Prop where
  nm : Normal s.rest
  tkn : Ok s.took
  ap : Apart (s.rest ++ s.took)
  nu : ∀ x, num x (s.rest ++ s.took) ↔ num x a
  tt : tot s.rest + tot s.took = tot a
  nn : s.n + tot s.took = N
  lo : 0 ≤ s.n
  hi : s.n ≤ tot s.rest
  ln : s.rest.length + s.took.length ≤ a.length + (if 0 < s.n then 0 else 1)
  rl : s.rest.length ≤ a.length
theorem TI.start {a : List X} {N : Int} (ho : Ok a) (ha : Apart a) (h0 : 0 ≤ N) (h1 : N ≤ tot a) : TI a N ⟨nrm a, [], N⟩ := by
  have h := nrm_of ho ha
  refine ⟨h.nrm, fun x hx => (by cases hx), by rw [List.append_nil]; exact h.nrm.apart, fun x => by rw [List.append_nil]; exact h.num x, by have := h.tot; simp only [ex.tot]; omega, by simp only [ex.tot]; omega, h0, by have := h.tot; show N ≤ ex.tot (ex.nrm a); omega, ?_, h.len⟩
  have := h.len
  simp only [List.length_nil]
  split <;> omega
theorem TI.ne {a : List X} {N : Int} {s : St} (h : TI a N s) (hn : 0 < s.n) : s.rest ≠ [] := by
  intro e
  have := h.hi
  rw [e] at this
  simp only [ex.tot] at this
  omega
theorem TI.next {a : List X} {N : Int} {s : St} (h : TI a N s) (hn : 0 < s.n) (best : Bool) : TI a N (stp best s) ∧ (stp best s).n < s.n := by
  obtain ⟨rest, took, n⟩ := s
  have hi := pick_lt (best := best) (n := n) (h.ne hn)
  unfold stp short
  dsimp only at hn hi ⊢
  generalize pick best n rest = i at *
  have hs := split_at hi
  rw [set_split hi, erase_split]
  generalize rest[i]! = x at *
  obtain ⟨x1, x2⟩ := x
  generalize rest.take i = p at *
  generalize rest.drop (i + 1) = q at *
  subst hs
  obtain ⟨h1, h2, h3, h4, h5, h6, h7, h8, h9, h10⟩ := h
  dsimp only at h1 h2 h3 h4 h5 h6 h7 h8 h9 h10 ⊢
  have hx : okx (x1, x2) := h1.1 _ (by simp)
  unfold okx at hx
  dsimp only at hx
  rw [if_pos hn] at h9
  simp only [tot_append, ex.tot, List.length_append, List.length_cons] at h5 h6 h8 h9 h10
  have hpq : (((p ++ (x1, x2) :: q) ++ took)).Perm ((x1, x2) :: (p ++ q ++ took)) := by
    rw [List.append_assoc, List.append_assoc, List.cons_append]
    exact List.perm_middle
  have a1 := List.pairwise_cons.1 ((apart_perm hpq).1 h3)
  have hbnd : x2 ≤ tot p + tot q + x2 := by
    have e1 := (tot_pos (l := p) fun y hy => h1.1 y (by simp [hy])).1
    have e2 := (tot_pos (l := q) fun y hy => h1.1 y (by simp [hy])).1
    omega
  have num1 : ∀ y, num y (p ++ (x1, x2) :: q ++ took) ↔ (x1 ≤ y ∧ y < x1 + x2) ∨ num y (p ++ q ++ took) := fun y => by rw [num_perm hpq, num_cons]
  obtain ⟨n1, n2⟩ := h1
  have n2' := List.pairwise_append.1 n2
  obtain ⟨np, nxq, npxq⟩ := n2'
  obtain ⟨nx, nq⟩ := List.pairwise_cons.1 nxq
  by_cases hlt : n < x2
  · have hm : min n x2 = n := by omega
    rw [hm, if_pos (show 0 < x2 - n by omega)]
    have hperm : ((p ++ (x1 + n, x2 - n) :: q) ++ (took ++ [(x1, n)])).Perm ((x1, n) :: (x1 + n, x2 - n) :: (p ++ q ++ took)) := by
      rw [← List.append_assoc]
      refine (List.perm_append_comm (l₂ := [(x1, n)])).trans ?_
      rw [List.singleton_append]
      refine List.Perm.cons _ ?_
      rw [List.append_assoc, List.append_assoc, List.cons_append]
      exact List.perm_middle
    refine ⟨⟨⟨fun y hy => ?_, List.pairwise_append.2 ⟨np, List.pairwise_cons.2 ⟨fun y hy => by have := nx y hy; dsimp only at this ⊢; omega, nq⟩, fun y hy z hz => ?_⟩⟩, ok_append.2 ⟨h2, fun y hy => by rw [List.mem_singleton.1 hy]; exact ⟨hx.1, hn, by dsimp only; omega⟩⟩, (apart_perm hperm).2 ?_, fun y => ?_, ?_, ?_, by simp, ?_, ?_, ?_⟩, by omega⟩
    · rcases List.mem_append.1 hy with hy | hy
      · exact n1 y (by simp [hy])
      · rcases List.mem_cons.1 hy with rfl | hy
        · exact ⟨by dsimp only; omega, by dsimp only; omega, by dsimp only; omega⟩
        · exact n1 y (by simp [hy])
    · rcases List.mem_cons.1 hz with rfl | hz
      · have := npxq y hy (x1, x2) (by simp); dsimp only at this ⊢; omega
      · exact npxq y hy z (by simp [hz])
    · refine List.pairwise_cons.2 ⟨fun y hy => ?_, List.pairwise_cons.2 ⟨fun y hy => ?_, a1.2⟩⟩
      · rcases List.mem_cons.1 hy with rfl | hy
        · left; dsimp only; omega
        · have := a1.1 y hy; unfold Dj at this ⊢; dsimp only at this ⊢; omega
      · have := a1.1 y hy; unfold Dj at this ⊢; dsimp only at this ⊢; omega
    · rw [num_perm hperm, num_cons, num_cons, ← h4, num1, ← or_assoc]
      refine or_congr_left ?_
      dsimp only
      omega
    · simp only [tot_append, ex.tot]; omega
    · simp only [tot_append, ex.tot]; omega
    · simp only [tot_append, ex.tot]; omega
    · simp only [List.length_append, List.length_cons, List.length_nil]
      rw [if_neg (by omega)]
      omega
    · simp only [List.length_append, List.length_cons]; omega
  · have hm : min n x2 = x2 := by omega
    rw [hm, if_neg (show ¬ 0 < x2 - x2 by omega)]
    have hperm : ((p ++ q) ++ (took ++ [(x1, x2)])).Perm ((x1, x2) :: (p ++ q ++ took)) := by
      rw [← List.append_assoc]
      refine (List.perm_append_comm (l₂ := [(x1, x2)])).trans ?_
      rw [List.singleton_append]
    refine ⟨⟨⟨fun y hy => ?_, List.pairwise_append.2 ⟨np, nq, fun y hy z hz => npxq y hy z (by simp [hz])⟩⟩, ok_append.2 ⟨h2, fun y hy => by rw [List.mem_singleton.1 hy]; exact hx⟩, (apart_perm hperm).2 (List.pairwise_cons.2 a1), fun y => ?_, ?_, ?_, by dsimp only; omega, ?_, ?_, ?_⟩, by omega⟩
    · rcases List.mem_append.1 hy with hy | hy
      · exact n1 y (by simp [hy])
      · exact n1 y (by simp [hy])
    · rw [num_perm hperm, num_cons, ← h4, num1]
    · simp only [tot_append, ex.tot]; omega
    · simp only [tot_append, ex.tot]; omega
    · simp only [tot_append, ex.tot]; omega
    · simp only [List.length_append, List.length_cons, List.length_nil]
      split <;> omega
    · simp only [List.length_append]; omega
end Go.Proofs.YtkjffoebcblpoaaGreat.ex
end
section
set_option linter.unusedVariables false
namespace Go.Proofs.YtkjffoebcblpoaaGreat.un
open Go.Lib

/-- A byte that is a digit. -/
def dig (b : UInt8) : Bool := decide (48 ≤ b.toNat ∧ b.toNat ≤ 57)
theorem digitVal_dig {b : UInt8} : digitVal b = if dig b then some (b.toNat - 48) else none := by
  unfold digitVal dig
  by_cases h : 48 ≤ b.toNat ∧ b.toNat ≤ 57
  · rw [if_pos h, if_pos (by simpa using h)]
  · rw [if_neg h, if_neg (by simpa using h)]
theorem digitVal_some {b : UInt8} {d : Nat} (h : digitVal b = some d) : dig b = true ∧ b = UInt8.ofNat (48 + d) ∧ d < 10 := by
  obtain ⟨h1, h2, rfl⟩ := digitVal_eq h
  refine ⟨by simp [dig, h1, h2], ?_, by omega⟩
  apply UInt8.toNat_inj.1
  rw [show 48 + (b.toNat - 48) = b.toNat by omega]
  simp
theorem dig_ofNat {d : Nat} (h : d < 10) : digitVal (UInt8.ofNat (48 + d)) = some d := by
  unfold digitVal
  have e : (UInt8.ofNat (48 + d)).toNat = 48 + d := by
    rw [UInt8.toNat_ofNat_of_lt']
    exact Nat.lt_of_lt_of_le (show 48 + d < 58 by omega) (by decide)
  rw [e, if_pos (by omega)]
  congr 1
  omega

/-! ### the digits of a number, and back -/

theorem decFrom_app : ∀ (l r : List UInt8) (acc : Nat), decFrom acc (l ++ r) = (decFrom acc l).bind fun m => decFrom m r
  | [], r, acc => rfl
  | b :: l, r, acc => by
    simp only [List.cons_append, decFrom]
    cases digitVal b with
    | none => rfl
    | some d => exact decFrom_app l r _
theorem decFrom_one (acc : Nat) (b : UInt8) : decFrom acc [b] = (digitVal b).map fun d => acc * 10 + d := by
  simp only [decFrom]
  cases digitVal b <;> rfl

theorem dec_small {n : Nat} (h : n < 10) : decDigits n = [UInt8.ofNat (48 + n)] := decDigits_one h
theorem dec_big {n : Nat} (h : ¬ n < 10) : decDigits n = decDigits (n / 10) ++ [UInt8.ofNat (48 + n % 10)] := by rw [decDigits, dif_neg h]
theorem dec_ne (n : Nat) : decDigits n ≠ [] := by
  intro h
  have := decDigits_length n
  rw [h] at this
  have := nDigits_pos n
  simp at *
  omega

theorem from_dec (n : Nat) : decFrom 0 (decDigits n) = some n := by
  induction n using Nat.strongRecOn with
  | _ n ih =>
    by_cases h : n < 10
    · rw [dec_small h, decFrom_one, dig_ofNat h]
      simp
    · rw [dec_big h, decFrom_app, ih (n / 10) (by omega)]
      show decFrom (n / 10) [_] = _
      rw [decFrom_one, dig_ofNat (Nat.mod_lt _ (by decide))]
      simp
      omega

/-- No digit 0 leads, but in a text of one. -/
def lead (l : List UInt8) : Prop := 1 < l.length → l.head? ≠ some 48

theorem dec_head {n : Nat} (h : 0 < n) : (decDigits n).head? ≠ some 48 := by
  induction n using Nat.strongRecOn with
  | _ n ih =>
    by_cases hn : n < 10
    · rw [dec_small hn]
      intro hc
      simp only [List.head?_cons, Option.some.injEq] at hc
      have := congrArg digitVal hc
      rw [dig_ofNat hn, show digitVal 48 = some 0 from rfl] at this
      simp at this
      omega
    · rw [dec_big hn, List.head?_append]
      have h1 := ih (n / 10) (by omega) (by omega)
      cases hd : (decDigits (n / 10)).head? with
      | none => exact absurd (List.head?_eq_none_iff.1 hd) (dec_ne _)
      | some b =>
        rw [hd] at h1
        simpa using h1
theorem dec_lead (n : Nat) : lead (decDigits n) := by
  intro hl
  by_cases h : n < 10
  · rw [dec_small h] at hl
    simp at hl
  · exact dec_head (by omega)

theorem dec_from_rev : ∀ (k : Nat) (l : List UInt8) (n : Nat), l.length = k → l ≠ [] → lead l → decFrom 0 l = some n → decDigits n = l ∧ (l.head? ≠ some 48 → 0 < n)
  | 0, l, n, hk, hne, _, _ => absurd (List.eq_nil_of_length_eq_zero hk) hne
  | k + 1, l, n, hk, hne, hld, h => by
    obtain ⟨l', c, rfl⟩ : ∃ l' c, l = l' ++ [c] := ⟨l.dropLast, l.getLast hne, (List.dropLast_concat_getLast hne).symm⟩
    rw [decFrom_app] at h
    cases hm : decFrom 0 l' with
    | none => rw [hm] at h; simp at h
    | some m =>
      rw [hm] at h
      simp only [Option.bind_some, decFrom_one] at h
      cases hd : digitVal c with
      | none => rw [hd] at h; simp at h
      | some d =>
        rw [hd] at h
        simp only [Option.map_some, Option.some.injEq] at h
        obtain ⟨_, hc, hd10⟩ := digitVal_some hd
        by_cases hl' : l' = []
        · subst hl'
          simp only [decFrom, Option.some.injEq] at hm
          subst hm
          have hn : n = d := by omega
          subst hn
          refine ⟨by rw [dec_small hd10, hc]; rfl, fun hh => ?_⟩
          rcases Nat.eq_zero_or_pos n with h0 | h0
          · subst h0
            exact absurd (by rw [hc]; rfl) hh
          · exact h0
        · have hlen : 1 ≤ l'.length := by
            cases l' with
            | nil => exact absurd rfl hl'
            | cons _ _ => simp
          have hh : (l' ++ [c]).head? ≠ some 48 := hld (by simp; omega)
          have hh' : l'.head? ≠ some 48 := by
            cases l' with
            | nil => exact absurd rfl hl'
            | cons _ _ => simpa using hh
          obtain ⟨e1, e2⟩ := dec_from_rev k l' m (by simp at hk; omega) hl' (fun _ => hh') hm
          have hm0 := e2 hh'
          refine ⟨?_, fun _ => by omega⟩
          rw [dec_big (by omega), show n / 10 = m by omega, show n % 10 = d by omega, e1, hc]

theorem dec_from {l : List UInt8} {n : Nat} (hne : l ≠ []) (hld : lead l) (h : decFrom 0 l = some n) : decDigits n = l := (dec_from_rev l.length l n rfl hne hld h).1

/-! ### what a number's text denotes -/

def top : Nat := 1099511627776
/-- The quantity that a text denotes, by the document: at most 13 digits, none of them a leading 0. -/
def num? (l : List UInt8) : Option Nat := if l = [] ∨ 13 < l.length ∨ (1 < l.length ∧ l.head? = some 48) then none else
  match decFrom 0 l with
  | some n => if n ≤ top then some n else none
  | none => none

theorem num_some {l : List UInt8} {n : Nat} (h : num? l = some n) : l ≠ [] ∧ l.length ≤ 13 ∧ decFrom 0 l = some n ∧ n ≤ top ∧ decDigits n = l := by
  unfold num? at h
  split at h
  · cases h
  · rename_i hc
    have h1 : ¬ l = [] := fun e => hc (.inl e)
    have h2 : ¬ 13 < l.length := fun e => hc (.inr (.inl e))
    have h3 : lead l := fun a b => hc (.inr (.inr ⟨a, b⟩))
    split at h
    · rename_i m hm
      split at h
      · rename_i ht
        simp only [Option.some.injEq] at h
        subst h
        exact ⟨h1, by omega, hm, ht, dec_from h1 h3 hm⟩
      · cases h
    · cases h

theorem nDigits_top {n : Nat} (h : n ≤ top) : nDigits n ≤ 13 := by
  rcases Nat.lt_or_ge 13 (nDigits n) with h1 | h1
  · exfalso
    have e := decDigits_length n
    have h2 : 10 ^ 13 ≤ n := by
      rcases Nat.lt_or_ge n (10 ^ 13) with h3 | h3
      · exfalso
        have key : ∀ (k m : Nat), m < 10 ^ (k + 1) → nDigits m ≤ k + 1 := by
          intro k
          induction k with
          | zero => intro m hm; rw [nDigits_small (by simpa using hm)]; exact Nat.le_refl _
          | succ k ih =>
            intro m hm
            by_cases hs : m < 10
            · rw [nDigits_small hs]; omega
            · rw [nDigits_big hs]
              have := ih (m / 10) (by rw [Nat.pow_succ] at hm; omega)
              omega
        have := key 12 n h3
        omega
      · exact h3
    unfold top at h
    omega
  · exact h1

theorem num_dec {n : Nat} (h : n ≤ top) : num? (decDigits n) = some n := by
  unfold num?
  rw [if_neg, from_dec n]
  · simp [h]
  · rintro (h1 | h1 | ⟨h1, h2⟩)
    · exact dec_ne n h1
    · rw [decDigits_length] at h1
      have := nDigits_top h
      omega
    · exact dec_lead n h1 h2
theorem num_iff {l : List UInt8} {n : Nat} : num? l = some n ↔ n ≤ top ∧ decDigits n = l :=
  ⟨fun h => ⟨(num_some h).2.2.2.1, (num_some h).2.2.2.2⟩, fun ⟨h1, h2⟩ => h2 ▸ num_dec h1⟩
theorem num_none_long {l : List UInt8} (h : 13 < l.length) : num? l = none := by
  unfold num?
  rw [if_pos (.inr (.inl h))]

/-- What Text tells. -/
def txt (n : Int) : List UInt8 := if 0 ≤ n ∧ n ≤ 1099511627776 then decDigits n.toNat else []
theorem txt_in {n : Nat} (h : n ≤ top) : txt (n : Int) = decDigits n := by
  unfold txt
  unfold top at h
  rw [if_pos (by omega)]
  rfl
theorem txt_out {n : Int} (h : ¬ (0 ≤ n ∧ n ≤ 1099511627776)) : txt n = [] := by
  unfold txt
  rw [if_neg h]

/-- How the program reads a number: what ParseInt tells, held against its text. -/
theorem parse_short {l : List UInt8} (h : l.length ≤ 13) : parseIntB 64 l = NumEnd.ofOption (atoi l) := by
  rw [parseIntB_64, atoiAll_short l (by omega)]
theorem num_of_atoi_none {l : List UInt8} (h : atoi l = none) : num? l = none := by
  cases hn : num? l with
  | none => rfl
  | some n =>
    exfalso
    obtain ⟨h1, _, h3, _, h5⟩ := num_some hn
    cases l with
    | nil => exact h1 rfl
    | cons b r =>
      have hb : ∃ d, digitVal b = some d := digit_of_decFrom _ _ _ h3 0 b rfl
      obtain ⟨d, hd⟩ := hb
      obtain ⟨_, hbe, hd10⟩ := digitVal_some hd
      obtain ⟨g1, g2, _⟩ := digitVal_eq hd
      have n45 : (b == 45) = false := by
        rw [beq_eq_false_iff_ne]
        intro e
        subst e
        exact absurd g1 (by decide)
      have n43 : (b == 43) = false := by
        rw [beq_eq_false_iff_ne]
        intro e
        subst e
        exact absurd g1 (by decide)
      simp [atoi, n45, n43, decNat, h3] at h
theorem num_of_atoi {l : List UInt8} {n : Int} (h : atoi l = some n) (hl : l.length ≤ 13) : num? l = if txt n = l then some n.toNat else none := by
  by_cases hq : 0 ≤ n ∧ n ≤ 1099511627776
  · unfold txt
    rw [if_pos hq]
    by_cases he : decDigits n.toNat = l
    · rw [if_pos he]
      exact num_iff.2 ⟨by unfold top; omega, he⟩
    · rw [if_neg he]
      cases hn : num? l with
      | none => rfl
      | some m =>
        exfalso
        obtain ⟨h1, _, h3, h4, h5⟩ := num_some hn
        have : n = (m : Int) := by
          cases l with
          | nil => exact absurd rfl h1
          | cons b r =>
            have hb : ∃ d, digitVal b = some d := digit_of_decFrom _ _ _ h3 0 b rfl
            obtain ⟨d, hd⟩ := hb
            obtain ⟨g1, g2, _⟩ := digitVal_eq hd
            have n45 : (b == 45) = false := by
              rw [beq_eq_false_iff_ne]
              intro e
              subst e
              exact absurd g1 (by decide)
            have n43 : (b == 43) = false := by
              rw [beq_eq_false_iff_ne]
              intro e
              subst e
              exact absurd g1 (by decide)
            simp [atoi, n45, n43, decNat, h3] at h
            exact h.symm
        subst this
        exact he (by simpa using h5)
  · rw [txt_out hq]
    have hne : l ≠ [] := by
      rintro rfl
      simp [atoi] at h
    rw [if_neg (fun e => hne e.symm)]
    cases hn : num? l with
    | none => rfl
    | some m =>
      exfalso
      obtain ⟨h1, _, h3, h4, h5⟩ := num_some hn
      have : n = (m : Int) := by
        cases l with
        | nil => exact absurd rfl h1
        | cons b r =>
          have hb : ∃ d, digitVal b = some d := digit_of_decFrom _ _ _ h3 0 b rfl
          obtain ⟨d, hd⟩ := hb
          obtain ⟨g1, g2, _⟩ := digitVal_eq hd
          have n45 : (b == 45) = false := by
            rw [beq_eq_false_iff_ne]
            intro e
            subst e
            exact absurd g1 (by decide)
          have n43 : (b == 43) = false := by
            rw [beq_eq_false_iff_ne]
            intro e
            subst e
            exact absurd g1 (by decide)
          simp [atoi, n45, n43, decNat, h3] at h
          exact h.symm
      unfold top at h4
      omega
end Go.Proofs.YtkjffoebcblpoaaGreat.un
end
