/- Numbers and sizes as texts, plain: what a text denotes, the text of a number, units, names. -/
import Derived.Lib.ItoaNum
import Derived.Lib.AtoiTie
import Derived.Lib.ParseIntBTie
import Derived.Lib.Strings
section
set_option linter.unusedVariables false
namespace Go.Proofs.YtpmghgfgbkncoaaGreatDoor.un
open Go.Lib

/-- A byte that is a digit. -/
def dig (b : UInt8) : Bool := decide (48 ≤ b.toNat ∧ b.toNat ≤ 57)
theorem digitVal_dig {b : UInt8} : digitVal b = if dig b then some (b.toNat - 48) else none := by
  unfold digitVal dig
  by_cases h : 48 ≤ b.toNat ∧ b.toNat ≤ 57
  · rw [if_pos h, if_pos (by simpa using h)]
  · rw [if_neg h, if_neg (by simpa using h)]
theorem digitVal_some {b : UInt8} {d : Nat} (h : digitVal b = some d) : dig b = true ∧ b = UInt8.ofNat (48 + d) ∧ d < 10 := by
  obtain ⟨h1, h2, rfl⟩ := digitVal_eq h
  refine ⟨by simp [dig, h1, h2], ?_, by omega⟩
  apply UInt8.toNat_inj.1
  rw [show 48 + (b.toNat - 48) = b.toNat by omega]
  simp
theorem dig_ofNat {d : Nat} (h : d < 10) : digitVal (UInt8.ofNat (48 + d)) = some d := by
  unfold digitVal
  have e : (UInt8.ofNat (48 + d)).toNat = 48 + d := by
    rw [UInt8.toNat_ofNat_of_lt']
    exact Nat.lt_of_lt_of_le (show 48 + d < 58 by omega) (by decide)
  rw [e, if_pos (by omega)]
  congr 1
  omega

/-! ### the digits of a number, and back -/

theorem decFrom_app : ∀ (l r : List UInt8) (acc : Nat), decFrom acc (l ++ r) = (decFrom acc l).bind fun m => decFrom m r
  | [], r, acc => rfl
  | b :: l, r, acc => by
    simp only [List.cons_append, decFrom]
    cases digitVal b with
    | none => rfl
    | some d => exact decFrom_app l r _
theorem decFrom_one (acc : Nat) (b : UInt8) : decFrom acc [b] = (digitVal b).map fun d => acc * 10 + d := by
  simp only [decFrom]
  cases digitVal b <;> rfl

theorem dec_small {n : Nat} (h : n < 10) : decDigits n = [UInt8.ofNat (48 + n)] := decDigits_one h
theorem dec_big {n : Nat} (h : ¬ n < 10) : decDigits n = decDigits (n / 10) ++ [UInt8.ofNat (48 + n % 10)] := by rw [decDigits, dif_neg h]
theorem dec_ne (n : Nat) : decDigits n ≠ [] := by
  intro h
  have := decDigits_length n
  rw [h] at this
  have := nDigits_pos n
  simp at *
  omega

theorem from_dec (n : Nat) : decFrom 0 (decDigits n) = some n := by
  induction n using Nat.strongRecOn with
  | _ n ih =>
    by_cases h : n < 10
    · rw [dec_small h, decFrom_one, dig_ofNat h]
      simp
    · rw [dec_big h, decFrom_app, ih (n / 10) (by omega)]
      show decFrom (n / 10) [_] = _
      rw [decFrom_one, dig_ofNat (Nat.mod_lt _ (by decide))]
      simp
      omega

/-- No digit 0 leads, but in a text of one. -/
def lead (l : List UInt8) : Prop := 1 < l.length → l.head? ≠ some 48

theorem dec_head {n : Nat} (h : 0 < n) : (decDigits n).head? ≠ some 48 := by
  induction n using Nat.strongRecOn with
  | _ n ih =>
    by_cases hn : n < 10
    · rw [dec_small hn]
      intro hc
      simp only [List.head?_cons, Option.some.injEq] at hc
      have := congrArg digitVal hc
      rw [dig_ofNat hn, show digitVal 48 = some 0 from rfl] at this
      simp at this
      omega
    · rw [dec_big hn, List.head?_append]
      have h1 := ih (n / 10) (by omega) (by omega)
      cases hd : (decDigits (n / 10)).head? with
      | none => exact absurd (List.head?_eq_none_iff.1 hd) (dec_ne _)
      | some b =>
        rw [hd] at h1
        simpa using h1
theorem dec_lead (n : Nat) : lead (decDigits n) := by
  intro hl
  by_cases h : n < 10
  · rw [dec_small h] at hl
    simp at hl
  · exact dec_head (by omega)

theorem dec_from_rev : ∀ (k : Nat) (l : List UInt8) (n : Nat), l.length = k → l ≠ [] → lead l → decFrom 0 l = some n → decDigits n = l ∧ (l.head? ≠ some 48 → 0 < n)
  | 0, l, n, hk, hne, _, _ => absurd (List.eq_nil_of_length_eq_zero hk) hne
  | k + 1, l, n, hk, hne, hld, h => by
    obtain ⟨l', c, rfl⟩ : ∃ l' c, l = l' ++ [c] := ⟨l.dropLast, l.getLast hne, (List.dropLast_concat_getLast hne).symm⟩
    rw [decFrom_app] at h
    cases hm : decFrom 0 l' with
    | none => rw [hm] at h; simp at h
    | some m =>
      rw [hm] at h
      simp only [Option.bind_some, decFrom_one] at h
      cases hd : digitVal c with
      | none => rw [hd] at h; simp at h
      | some d =>
        rw [hd] at h
        simp only [Option.map_some, Option.some.injEq] at h
        obtain ⟨_, hc, hd10⟩ := digitVal_some hd
        by_cases hl' : l' = []
        · subst hl'
          simp only [decFrom, Option.some.injEq] at hm
          subst hm
          have hn : n = d := by omega
          subst hn
          refine ⟨by rw [dec_small hd10, hc]; rfl, fun hh => ?_⟩
          rcases Nat.eq_zero_or_pos n with h0 | h0
          · subst h0
            exact absurd (by rw [hc]; rfl) hh
          · exact h0
        · have hlen : 1 ≤ l'.length := by
            cases l' with
            | nil => exact absurd rfl hl'
            | cons _ _ => simp
          have hh : (l' ++ [c]).head? ≠ some 48 := hld (by simp; omega)
          have hh' : l'.head? ≠ some 48 := by
            cases l' with
            | nil => exact absurd rfl hl'
            | cons _ _ => simpa using hh
          obtain ⟨e1, e2⟩ := dec_from_rev k l' m (by simp at hk; omega) hl' (fun _ => hh') hm
          have hm0 := e2 hh'
          refine ⟨?_, fun _ => by omega⟩
          rw [dec_big (by omega), show n / 10 = m by omega, show n % 10 = d by omega, e1, hc]

theorem dec_from {l : List UInt8} {n : Nat} (hne : l ≠ []) (hld : lead l) (h : decFrom 0 l = some n) : decDigits n = l := (dec_from_rev l.length l n rfl hne hld h).1

/-! ### what a number's text denotes -/

def top : Nat := 1099511627776
/-- The quantity that a text denotes, by the document: at most 13 digits, none of them a leading 0. -/
def num? (l : List UInt8) : Option Nat := if l = [] ∨ 13 < l.length ∨ (1 < l.length ∧ l.head? = some 48) then none else
  match decFrom 0 l with
  | some n => if n ≤ top then some n else none
  | none => none

theorem num_some {l : List UInt8} {n : Nat} (h : num? l = some n) : l ≠ [] ∧ l.length ≤ 13 ∧ decFrom 0 l = some n ∧ n ≤ top ∧ decDigits n = l := by
  unfold num? at h
  split at h
  · cases h
  · rename_i hc
    have h1 : ¬ l = [] := fun e => hc (.inl e)
    have h2 : ¬ 13 < l.length := fun e => hc (.inr (.inl e))
    have h3 : lead l := fun a b => hc (.inr (.inr ⟨a, b⟩))
    split at h
    · rename_i m hm
      split at h
      · rename_i ht
        simp only [Option.some.injEq] at h
        subst h
        exact ⟨h1, by omega, hm, ht, dec_from h1 h3 hm⟩
      · cases h
    · cases h

theorem nDigits_top {n : Nat} (h : n ≤ top) : nDigits n ≤ 13 := by
  rcases Nat.lt_or_ge 13 (nDigits n) with h1 | h1
  · exfalso
    have e := decDigits_length n
    have h2 : 10 ^ 13 ≤ n := by
      rcases Nat.lt_or_ge n (10 ^ 13) with h3 | h3
      · exfalso
        have key : ∀ (k m : Nat), m < 10 ^ (k + 1) → nDigits m ≤ k + 1 := by
          intro k
          induction k with
          | zero => intro m hm; rw [nDigits_small (by simpa using hm)]; exact Nat.le_refl _
          | succ k ih =>
            intro m hm
            by_cases hs : m < 10
            · rw [nDigits_small hs]; omega
            · rw [nDigits_big hs]
              have := ih (m / 10) (by rw [Nat.pow_succ] at hm; omega)
              omega
        have := key 12 n h3
        omega
      · exact h3
    unfold top at h
    omega
  · exact h1

theorem num_dec {n : Nat} (h : n ≤ top) : num? (decDigits n) = some n := by
  unfold num?
  rw [if_neg, from_dec n]
  · simp [h]
  · rintro (h1 | h1 | ⟨h1, h2⟩)
    · exact dec_ne n h1
    · rw [decDigits_length] at h1
      have := nDigits_top h
      omega
    · exact dec_lead n h1 h2
theorem num_iff {l : List UInt8} {n : Nat} : num? l = some n ↔ n ≤ top ∧ decDigits n = l :=
  ⟨fun h => ⟨(num_some h).2.2.2.1, (num_some h).2.2.2.2⟩, fun ⟨h1, h2⟩ => h2 ▸ num_dec h1⟩
theorem num_none_long {l : List UInt8} (h : 13 < l.length) : num? l = none := by
  unfold num?
  rw [if_pos (.inr (.inl h))]

/-- What Text tells. -/
def txt (n : Int) : List UInt8 := if 0 ≤ n ∧ n ≤ 1099511627776 then decDigits n.toNat else []
theorem txt_in {n : Nat} (h : n ≤ top) : txt (n : Int) = decDigits n := by
  unfold txt
  unfold top at h
  rw [if_pos (by omega)]
  rfl
theorem txt_out {n : Int} (h : ¬ (0 ≤ n ∧ n ≤ 1099511627776)) : txt n = [] := by
  unfold txt
  rw [if_neg h]

/-- How the program reads a number: what ParseInt tells, held against its text. -/
theorem parse_short {l : List UInt8} (h : l.length ≤ 13) : parseIntB 64 l = NumEnd.ofOption (atoi l) := by
  rw [parseIntB_64, atoiAll_short l (by omega)]
theorem num_of_atoi_none {l : List UInt8} (h : atoi l = none) : num? l = none := by
  cases hn : num? l with
  | none => rfl
  | some n =>
    exfalso
    obtain ⟨h1, _, h3, _, h5⟩ := num_some hn
    cases l with
    | nil => exact h1 rfl
    | cons b r =>
      have hb : ∃ d, digitVal b = some d := digit_of_decFrom _ _ _ h3 0 b rfl
      obtain ⟨d, hd⟩ := hb
      obtain ⟨_, hbe, hd10⟩ := digitVal_some hd
      obtain ⟨g1, g2, _⟩ := digitVal_eq hd
      have n45 : (b == 45) = false := by
        rw [beq_eq_false_iff_ne]
        intro e
        subst e
        exact absurd g1 (by decide)
      have n43 : (b == 43) = false := by
        rw [beq_eq_false_iff_ne]
        intro e
        subst e
        exact absurd g1 (by decide)
      simp [atoi, n45, n43, decNat, h3] at h
theorem num_of_atoi {l : List UInt8} {n : Int} (h : atoi l = some n) (hl : l.length ≤ 13) : num? l = if txt n = l then some n.toNat else none := by
  by_cases hq : 0 ≤ n ∧ n ≤ 1099511627776
  · unfold txt
    rw [if_pos hq]
    by_cases he : decDigits n.toNat = l
    · rw [if_pos he]
      exact num_iff.2 ⟨by unfold top; omega, he⟩
    · rw [if_neg he]
      cases hn : num? l with
      | none => rfl
      | some m =>
        exfalso
        obtain ⟨h1, _, h3, h4, h5⟩ := num_some hn
        have : n = (m : Int) := by
          cases l with
          | nil => exact absurd rfl h1
          | cons b r =>
            have hb : ∃ d, digitVal b = some d := digit_of_decFrom _ _ _ h3 0 b rfl
            obtain ⟨d, hd⟩ := hb
            obtain ⟨g1, g2, _⟩ := digitVal_eq hd
            have n45 : (b == 45) = false := by
              rw [beq_eq_false_iff_ne]
              intro e
              subst e
              exact absurd g1 (by decide)
            have n43 : (b == 43) = false := by
              rw [beq_eq_false_iff_ne]
              intro e
              subst e
              exact absurd g1 (by decide)
            simp [atoi, n45, n43, decNat, h3] at h
            exact h.symm
        subst this
        exact he (by simpa using h5)
  · rw [txt_out hq]
    have hne : l ≠ [] := by
      rintro rfl
      simp [atoi] at h
    rw [if_neg (fun e => hne e.symm)]
    cases hn : num? l with
    | none => rfl
    | some m =>
      exfalso
      obtain ⟨h1, _, h3, h4, h5⟩ := num_some hn
      have : n = (m : Int) := by
        cases l with
        | nil => exact absurd rfl h1
        | cons b r =>
          have hb : ∃ d, digitVal b = some d := digit_of_decFrom _ _ _ h3 0 b rfl
          obtain ⟨d, hd⟩ := hb
          obtain ⟨g1, g2, _⟩ := digitVal_eq hd
          have n45 : (b == 45) = false := by
            rw [beq_eq_false_iff_ne]
            intro e
            subst e
            exact absurd g1 (by decide)
          have n43 : (b == 43) = false := by
            rw [beq_eq_false_iff_ne]
            intro e
            subst e
            exact absurd g1 (by decide)
          simp [atoi, n45, n43, decNat, h3] at h
          exact h.symm
      unfold top at h4
      omega
end Go.Proofs.YtpmghgfgbkncoaaGreatDoor.un
end
section
set_option linter.unusedVariables false
namespace Go.Proofs.YtpmghgfgbkncoaaGreatDoor.un
open Go.Lib

/-- The units as they are tried: name, bytes. -/
def unitsL : List (List UInt8 × Nat) := [([84, 105, 66], 1099511627776), ([71, 105, 66], 1073741824), ([77, 105, 66], 1048576), ([75, 105, 66], 1024), ([84, 66], 1000000000000), ([71, 66], 1000000000), ([77, 66], 1000000), ([75, 66], 1000)]
def nm (k : Nat) : List UInt8 := (unitsL.getD k ([], 1)).1
def sz (k : Nat) : Nat := (unitsL.getD k ([], 1)).2
/-- What stands in front of the unit, and its bytes. -/
def spl (l : List UInt8) : List UInt8 × Nat := match unitsL.find? fun p => hasSuffix l p.1 with
  | some p => (trimSuffix l p.1, p.2)
  | none => (l, 1)

theorem lt8 {k : Nat} (h : k < 8) : k = 0 ∨ k = 1 ∨ k = 2 ∨ k = 3 ∨ k = 4 ∨ k = 5 ∨ k = 6 ∨ k = 7 := by omega
theorem sz_bd {k : Nat} (h : k < 8) : 0 < sz k ∧ sz k ≤ top := by
  rcases lt8 h with rfl | rfl | rfl | rfl | rfl | rfl | rfl | rfl <;> decide

theorem spl_at {l : List UInt8} {k : Nat} (hk : k < 8) (hno : ∀ i, i < k → hasSuffix l (nm i) = false) (hy : hasSuffix l (nm k) = true) : spl l = (trimSuffix l (nm k), sz k) := by
  rcases lt8 hk with rfl | rfl | rfl | rfl | rfl | rfl | rfl | rfl
  · have e : hasSuffix l [84, 105, 66] = true := hy
    simp [spl, unitsL, e, nm, sz]
  · have e0 : hasSuffix l [84, 105, 66] = false := hno 0 (by omega)
    have e : hasSuffix l [71, 105, 66] = true := hy
    simp [spl, unitsL, List.find?, e0, e, nm, sz]
  · have e0 : hasSuffix l [84, 105, 66] = false := hno 0 (by omega)
    have e1 : hasSuffix l [71, 105, 66] = false := hno 1 (by omega)
    have e : hasSuffix l [77, 105, 66] = true := hy
    simp [spl, unitsL, List.find?, e0, e1, e, nm, sz]
  · have e0 : hasSuffix l [84, 105, 66] = false := hno 0 (by omega)
    have e1 : hasSuffix l [71, 105, 66] = false := hno 1 (by omega)
    have e2 : hasSuffix l [77, 105, 66] = false := hno 2 (by omega)
    have e : hasSuffix l [75, 105, 66] = true := hy
    simp [spl, unitsL, List.find?, e0, e1, e2, e, nm, sz]
  · have e0 : hasSuffix l [84, 105, 66] = false := hno 0 (by omega)
    have e1 : hasSuffix l [71, 105, 66] = false := hno 1 (by omega)
    have e2 : hasSuffix l [77, 105, 66] = false := hno 2 (by omega)
    have e3 : hasSuffix l [75, 105, 66] = false := hno 3 (by omega)
    have e : hasSuffix l [84, 66] = true := hy
    simp [spl, unitsL, List.find?, e0, e1, e2, e3, e, nm, sz]
  · have e0 : hasSuffix l [84, 105, 66] = false := hno 0 (by omega)
    have e1 : hasSuffix l [71, 105, 66] = false := hno 1 (by omega)
    have e2 : hasSuffix l [77, 105, 66] = false := hno 2 (by omega)
    have e3 : hasSuffix l [75, 105, 66] = false := hno 3 (by omega)
    have e4 : hasSuffix l [84, 66] = false := hno 4 (by omega)
    have e : hasSuffix l [71, 66] = true := hy
    simp [spl, unitsL, List.find?, e0, e1, e2, e3, e4, e, nm, sz]
  · have e0 : hasSuffix l [84, 105, 66] = false := hno 0 (by omega)
    have e1 : hasSuffix l [71, 105, 66] = false := hno 1 (by omega)
    have e2 : hasSuffix l [77, 105, 66] = false := hno 2 (by omega)
    have e3 : hasSuffix l [75, 105, 66] = false := hno 3 (by omega)
    have e4 : hasSuffix l [84, 66] = false := hno 4 (by omega)
    have e5 : hasSuffix l [71, 66] = false := hno 5 (by omega)
    have e : hasSuffix l [77, 66] = true := hy
    simp [spl, unitsL, List.find?, e0, e1, e2, e3, e4, e5, e, nm, sz]
  · have e0 : hasSuffix l [84, 105, 66] = false := hno 0 (by omega)
    have e1 : hasSuffix l [71, 105, 66] = false := hno 1 (by omega)
    have e2 : hasSuffix l [77, 105, 66] = false := hno 2 (by omega)
    have e3 : hasSuffix l [75, 105, 66] = false := hno 3 (by omega)
    have e4 : hasSuffix l [84, 66] = false := hno 4 (by omega)
    have e5 : hasSuffix l [71, 66] = false := hno 5 (by omega)
    have e6 : hasSuffix l [77, 66] = false := hno 6 (by omega)
    have e : hasSuffix l [75, 66] = true := hy
    simp [spl, unitsL, List.find?, e0, e1, e2, e3, e4, e5, e6, e, nm, sz]
theorem spl_none {l : List UInt8} (hno : ∀ i, i < 8 → hasSuffix l (nm i) = false) : spl l = (l, 1) := by
  have e0 : hasSuffix l [84, 105, 66] = false := hno 0 (by omega)
  have e1 : hasSuffix l [71, 105, 66] = false := hno 1 (by omega)
  have e2 : hasSuffix l [77, 105, 66] = false := hno 2 (by omega)
  have e3 : hasSuffix l [75, 105, 66] = false := hno 3 (by omega)
  have e4 : hasSuffix l [84, 66] = false := hno 4 (by omega)
  have e5 : hasSuffix l [71, 66] = false := hno 5 (by omega)
  have e6 : hasSuffix l [77, 66] = false := hno 6 (by omega)
  have e7 : hasSuffix l [75, 66] = false := hno 7 (by omega)
  simp [spl, unitsL, List.find?, e0, e1, e2, e3, e4, e5, e6, e7]
theorem spl_cases (l : List UInt8) : (∃ k, k < 8 ∧ hasSuffix l (nm k) = true ∧ spl l = (trimSuffix l (nm k), sz k)) ∨ ((∀ i, i < 8 → hasSuffix l (nm i) = false) ∧ spl l = (l, 1)) := by
  by_cases h : ∀ i, i < 8 → hasSuffix l (nm i) = false
  · exact .inr ⟨h, spl_none h⟩
  · left
    have key : ∀ m, m ≤ 8 → (∀ i, i < m → hasSuffix l (nm i) = false) ∨ ∃ k, k < m ∧ (∀ i, i < k → hasSuffix l (nm i) = false) ∧ hasSuffix l (nm k) = true := by
      intro m
      induction m with
      | zero => intro _; exact .inl fun i hi => by omega
      | succ m ih =>
        intro hm
        rcases ih (by omega) with h1 | ⟨k, h1, h2, h3⟩
        · cases hc : hasSuffix l (nm m) with
          | true => exact .inr ⟨m, by omega, h1, hc⟩
          | false =>
            refine .inl fun i hi => ?_
            rcases Nat.lt_or_ge i m with h4 | h4
            · exact h1 i h4
            · rw [show i = m by omega]; exact hc
        · exact .inr ⟨k, by omega, h2, h3⟩
    rcases key 8 (Nat.le_refl _) with h1 | ⟨k, h1, h2, h3⟩
    · exact absurd h1 h
    · exact ⟨k, h1, h3, spl_at h1 h2 h3⟩
theorem spl_bd (l : List UInt8) : 0 < (spl l).2 ∧ (spl l).2 ≤ top := by
  rcases spl_cases l with ⟨k, hk, _, h⟩ | ⟨_, h⟩
  · rw [h]; exact sz_bd hk
  · rw [h]; show 0 < 1 ∧ 1 ≤ top; decide
theorem trim_le (l u : List UInt8) : (trimSuffix l u).length ≤ l.length := by
  unfold trimSuffix
  split
  · rw [List.length_take]; omega
  · exact Nat.le_refl _
theorem spl_len (l : List UInt8) : (spl l).1.length ≤ l.length := by
  rcases spl_cases l with ⟨k, hk, _, h⟩ | ⟨_, h⟩
  · rw [h]; exact trim_le _ _
  · rw [h]; exact Nat.le_refl _

theorem suffix_app {l u : List UInt8} (h : hasSuffix l u = true) : l = trimSuffix l u ++ u := by
  unfold trimSuffix
  rw [if_pos h]
  unfold hasSuffix at h
  obtain ⟨a, rfl⟩ := List.isSuffixOf_iff_suffix.1 h
  simp
theorem suffix_of (a u : List UInt8) : hasSuffix (a ++ u) u = true := by
  unfold hasSuffix
  rw [List.isSuffixOf_iff_suffix]
  exact List.suffix_append _ _
theorem trim_app (a u : List UInt8) : trimSuffix (a ++ u) u = a := by
  unfold trimSuffix
  rw [if_pos (suffix_of a u)]
  simp
theorem apart_fin : ∀ i j : Fin 8, (nm i.val).isSuffixOf (nm j.val) = true → i = j := by decide
theorem suffix_one {l : List UInt8} {i j : Nat} (hi : i < 8) (hj : j < 8) (h1 : hasSuffix l (nm i) = true) (h2 : hasSuffix l (nm j) = true) : i = j := by
  unfold hasSuffix at h1 h2
  rw [List.isSuffixOf_iff_suffix] at h1 h2
  rcases Nat.le_total (nm i).length (nm j).length with h | h
  · have := List.suffix_of_suffix_length_le h1 h2 h
    have := apart_fin ⟨i, hi⟩ ⟨j, hj⟩ (List.isSuffixOf_iff_suffix.2 this)
    simpa using this
  · have := List.suffix_of_suffix_length_le h2 h1 h
    have := apart_fin ⟨j, hj⟩ ⟨i, hi⟩ (List.isSuffixOf_iff_suffix.2 this)
    have : j = i := by simpa using this
    exact this.symm

/-- The quantity that a size's text denotes. -/
def size? (l : List UInt8) : Option Nat := match num? (spl l).1 with
  | some n => if n ≤ top / (spl l).2 then some (n * (spl l).2) else none
  | none => none

/-! ### the document's reading -/
def byL : List (List UInt8 × Nat) := [([], 1), ([75, 66], 1000), ([77, 66], 1000000), ([71, 66], 1000000000), ([84, 66], 1000000000000), ([75, 105, 66], 1024), ([77, 105, 66], 1048576), ([71, 105, 66], 1073741824), ([84, 105, 66], 1099511627776)]
def by_ (u : List UInt8) : Nat := match byL.find? fun p => p.1 == u with
  | some p => p.2
  | none => 0
theorem by_nil : by_ [] = 1 := rfl
theorem by_nm {k : Nat} (h : k < 8) : by_ (nm k) = sz k := by
  rcases lt8 h with rfl | rfl | rfl | rfl | rfl | rfl | rfl | rfl <;> decide
theorem by_other {u : List UInt8} (h : u ≠ []) (hn : ∀ k, k < 8 → nm k ≠ u) : by_ u = 0 := by
  have e0 : (([] : List UInt8) == u) = false := by rw [beq_eq_false_iff_ne]; exact fun e => h e.symm
  have e1 : (([75, 66] : List UInt8) == u) = false := by rw [beq_eq_false_iff_ne]; exact hn 7 (by omega)
  have e2 : (([77, 66] : List UInt8) == u) = false := by rw [beq_eq_false_iff_ne]; exact hn 6 (by omega)
  have e3 : (([71, 66] : List UInt8) == u) = false := by rw [beq_eq_false_iff_ne]; exact hn 5 (by omega)
  have e4 : (([84, 66] : List UInt8) == u) = false := by rw [beq_eq_false_iff_ne]; exact hn 4 (by omega)
  have e5 : (([75, 105, 66] : List UInt8) == u) = false := by rw [beq_eq_false_iff_ne]; exact hn 3 (by omega)
  have e6 : (([77, 105, 66] : List UInt8) == u) = false := by rw [beq_eq_false_iff_ne]; exact hn 2 (by omega)
  have e7 : (([71, 105, 66] : List UInt8) == u) = false := by rw [beq_eq_false_iff_ne]; exact hn 1 (by omega)
  have e8 : (([84, 105, 66] : List UInt8) == u) = false := by rw [beq_eq_false_iff_ne]; exact hn 0 (by omega)
  simp [by_, byL, List.find?, e0, e1, e2, e3, e4, e5, e6, e7, e8]
theorem by_le (u : List UInt8) : by_ u ≤ top := by
  by_cases h : u = []
  · subst h; decide
  · by_cases hk : ∃ k, k < 8 ∧ nm k = u
    · obtain ⟨k, hk, rfl⟩ := hk
      rw [by_nm hk]
      exact (sz_bd hk).2
    · rw [by_other h fun k hk' e => hk ⟨k, hk', e⟩]
      exact Nat.zero_le _

def dsize (l : List UInt8) : Option Nat := match num? (l.takeWhile dig) with
  | some n => if by_ (l.dropWhile dig) = 0 ∨ top / by_ (l.dropWhile dig) < n then none else some (n * by_ (l.dropWhile dig))
  | none => none

theorem tw_app {f u : List UInt8} (hf : ∀ b ∈ f, dig b = true) (hu : ∀ b r, u = b :: r → dig b = false) : (f ++ u).takeWhile dig = f ∧ (f ++ u).dropWhile dig = u := by
  induction f with
  | nil =>
    cases u with
    | nil => exact ⟨rfl, rfl⟩
    | cons b r =>
      have := hu b r rfl
      simp [this]
  | cons a f ih =>
    have h1 := hf a (by simp)
    obtain ⟨e1, e2⟩ := ih fun b hb => hf b (by simp [hb])
    simp only [List.cons_append, List.takeWhile_cons, List.dropWhile_cons, h1, if_true]
    exact ⟨by rw [e1], e2⟩
theorem nm_head {k : Nat} (h : k < 8) : ∀ b r, nm k = b :: r → dig b = false := by
  rcases lt8 h with rfl | rfl | rfl | rfl | rfl | rfl | rfl | rfl <;>
  · intro b r e
    have : b = _ := (List.cons.inj e).1.symm
    subst this
    decide
theorem nm_last {k : Nat} (h : k < 8) : ∃ a, nm k = a ++ [66] := by
  rcases lt8 h with rfl | rfl | rfl | rfl | rfl | rfl | rfl | rfl
  · exact ⟨[84, 105], rfl⟩
  · exact ⟨[71, 105], rfl⟩
  · exact ⟨[77, 105], rfl⟩
  · exact ⟨[75, 105], rfl⟩
  · exact ⟨[84], rfl⟩
  · exact ⟨[71], rfl⟩
  · exact ⟨[77], rfl⟩
  · exact ⟨[75], rfl⟩
theorem num_dig {l : List UInt8} {n : Nat} (h : num? l = some n) : ∀ b ∈ l, dig b = true := by
  intro b hb
  obtain ⟨k, hk, rfl⟩ := List.getElem_of_mem hb
  obtain ⟨d, hd⟩ := digit_of_decFrom _ _ _ (num_some h).2.2.1 k l[k] (List.getElem?_eq_getElem hk)
  exact (digitVal_some hd).1
theorem dec_dig (n : Nat) : ∀ b ∈ decDigits n, dig b = true := by
  intro b hb
  obtain ⟨k, hk, rfl⟩ := List.getElem_of_mem hb
  obtain ⟨d, hd⟩ := digit_of_decFrom _ _ _ (from_dec n) k (decDigits n)[k] (List.getElem?_eq_getElem hk)
  exact (digitVal_some hd).1
theorem tw_mem : ∀ (l : List UInt8) (b : UInt8), b ∈ l.takeWhile dig → dig b = true
  | [], b, h => by simp at h
  | a :: l, b, h => by
    rw [List.takeWhile_cons] at h
    split at h
    · rename_i ha
      rcases List.mem_cons.1 h with rfl | h
      · exact ha
      · exact tw_mem l b h
    · simp at h
theorem tw_all {l : List UInt8} (h : l.dropWhile dig = []) : ∀ b ∈ l, dig b = true := by
  intro b hb
  have e := List.takeWhile_append_dropWhile (p := dig) (l := l)
  rw [h, List.append_nil] at e
  rw [← e] at hb
  exact tw_mem l b hb

theorem size_eq (l : List UInt8) : dsize l = size? l := by
  have E := List.takeWhile_append_dropWhile (p := dig) (l := l)
  rcases spl_cases l with ⟨k, hk, hs, h⟩ | ⟨hno, h⟩
  · unfold size?
    rw [h]
    dsimp only
    have hl := suffix_app hs
    cases hn : num? (trimSuffix l (nm k)) with
    | none =>
      unfold dsize
      cases hm : num? (l.takeWhile dig) with
      | none => rfl
      | some m =>
        dsimp only
        rw [if_pos]
        left
        apply by_other
        · intro e
          obtain ⟨a, ha⟩ := nm_last hk
          have := tw_all e 66 (by rw [hl, ha]; simp)
          exact absurd this (by decide)
        · intro j hj e
          have h2 : hasSuffix l (nm j) = true := by
            rw [← E, ← e]; exact suffix_of _ _
          have := suffix_one hj hk h2 hs
          subst this
          have h3 := hl
          rw [← E, ← e, trim_app] at h3
          have h4 := List.append_cancel_right (E.trans hl |>.symm ▸ by rw [e] : l.takeWhile dig ++ nm j = trimSuffix l (nm j) ++ nm j)
          rw [h4, hn] at hm
          cases hm
    | some n =>
      obtain ⟨e1, e2⟩ := tw_app (num_dig hn) (nm_head hk)
      rw [← hl] at e1 e2
      unfold dsize
      rw [e1, e2, hn, by_nm hk]
      dsimp only
      have := sz_bd hk
      by_cases hc : n ≤ top / sz k
      · rw [if_pos hc, if_neg (by omega)]
      · rw [if_neg hc, if_pos (.inr (by omega))]
  · unfold size?
    rw [h]
    dsimp only
    by_cases hd : l.dropWhile dig = []
    · rw [hd, List.append_nil] at E
      unfold dsize
      rw [E, hd, by_nil]
      cases hn : num? l with
      | none => rfl
      | some n =>
        dsimp only
        have := (num_some hn).2.2.2.1
        rw [Nat.div_one, if_pos this, if_neg (by omega)]
    · have hn : num? l = none := by
        cases hn : num? l with
        | none => rfl
        | some n =>
          exfalso
          obtain ⟨e1, e2⟩ := tw_app (f := l) (u := []) (num_dig hn) (fun b r e => by cases e)
          rw [List.append_nil] at e2
          exact hd e2
      rw [hn]
      unfold dsize
      cases hm : num? (l.takeWhile dig) with
      | none => rfl
      | some m =>
        dsimp only
        rw [if_pos]
        left
        apply by_other hd
        intro j hj e
        have := hno j hj
        rw [← E, ← e, suffix_of] at this
        cases this

/-! ### sizes of texts that are written -/
theorem size_unit {k m : Nat} (hk : k < 8) (hm : m ≤ top) : size? (decDigits m ++ nm k) = if m ≤ top / sz k then some (m * sz k) else none := by
  rw [← size_eq]
  obtain ⟨e1, e2⟩ := tw_app (dec_dig m) (nm_head hk)
  unfold dsize
  rw [e1, e2, num_dec hm, by_nm hk]
  dsimp only
  have := sz_bd hk
  by_cases hc : m ≤ top / sz k
  · rw [if_pos hc, if_neg (by omega)]
  · rw [if_neg hc, if_pos (.inr (by omega))]
theorem size_dec {m : Nat} (hm : m ≤ top) : size? (decDigits m) = some m := by
  rw [← size_eq]
  obtain ⟨e1, e2⟩ := tw_app (f := decDigits m) (u := []) (dec_dig m) (fun b r e => by cases e)
  rw [List.append_nil] at e1 e2
  unfold dsize
  rw [e1, e2, num_dec hm, by_nil]
  dsimp only
  rw [Nat.div_one, if_neg (by omega), Nat.mul_one]
theorem size_nil : size? [] = none := by decide
theorem size_num {l : List UInt8} {n : Nat} (h : num? l = some n) : size? l = some n := by
  obtain ⟨h1, h2⟩ := num_iff.1 h
  rw [← h2]
  exact size_dec h1
theorem size_le {l : List UInt8} {n : Nat} (h : size? l = some n) : n ≤ top := by
  unfold size? at h
  split at h
  · split at h
    · rename_i hc
      simp only [Option.some.injEq] at h
      rw [← h]
      exact Nat.le_trans (Nat.mul_le_mul_right _ hc) (Nat.div_mul_le_self _ _)
    · cases h
  · cases h

/-- The text of a size. -/
def stxt (n : Int) : List UInt8 := if 0 < n ∧ n ≤ 1099511627776 then
    match (unitsL.take 4).find? fun p => n.toNat % p.2 == 0 with
    | some p => decDigits (n.toNat / p.2) ++ p.1
    | none => decDigits n.toNat
  else txt n
theorem stxt_at {n : Nat} {k : Nat} (h0 : 0 < n) (ht : n ≤ top) (hk : k < 4) (hno : ∀ i, i < k → n % sz i ≠ 0) (hy : n % sz k = 0) : stxt (n : Int) = decDigits (n / sz k) ++ nm k := by
  unfold top at ht
  unfold stxt
  rw [if_pos (by omega)]
  have hc : k = 0 ∨ k = 1 ∨ k = 2 ∨ k = 3 := by omega
  have e0 : 0 < k → (n % 1099511627776 == 0) = false := fun hl => by rw [beq_eq_false_iff_ne]; exact hno 0 hl
  have e1 : 1 < k → (n % 1073741824 == 0) = false := fun hl => by rw [beq_eq_false_iff_ne]; exact hno 1 hl
  have e2 : 2 < k → (n % 1048576 == 0) = false := fun hl => by rw [beq_eq_false_iff_ne]; exact hno 2 hl
  rcases hc with rfl | rfl | rfl | rfl
  · have e : (n % 1099511627776 == 0) = true := by rw [beq_iff_eq]; exact hy
    simp only [unitsL, List.take, List.find?, Int.toNat_natCast, e]
    rfl
  · have e : (n % 1073741824 == 0) = true := by rw [beq_iff_eq]; exact hy
    simp only [unitsL, List.take, List.find?, Int.toNat_natCast, e0 (by omega), e]
    rfl
  · have e : (n % 1048576 == 0) = true := by rw [beq_iff_eq]; exact hy
    simp only [unitsL, List.take, List.find?, Int.toNat_natCast, e0 (by omega), e1 (by omega), e]
    rfl
  · have e : (n % 1024 == 0) = true := by rw [beq_iff_eq]; exact hy
    simp only [unitsL, List.take, List.find?, Int.toNat_natCast, e0 (by omega), e1 (by omega), e2 (by omega), e]
    rfl
theorem stxt_none {n : Nat} (h0 : 0 < n) (ht : n ≤ top) (hno : ∀ i, i < 4 → n % sz i ≠ 0) : stxt (n : Int) = decDigits n := by
  unfold top at ht
  unfold stxt
  rw [if_pos (by omega)]
  have e0 : (n % 1099511627776 == 0) = false := by rw [beq_eq_false_iff_ne]; exact hno 0 (by omega)
  have e1 : (n % 1073741824 == 0) = false := by rw [beq_eq_false_iff_ne]; exact hno 1 (by omega)
  have e2 : (n % 1048576 == 0) = false := by rw [beq_eq_false_iff_ne]; exact hno 2 (by omega)
  have e3 : (n % 1024 == 0) = false := by rw [beq_eq_false_iff_ne]; exact hno 3 (by omega)
  simp only [unitsL, List.take, List.find?, Int.toNat_natCast, e0, e1, e2, e3]
theorem stxt_out {n : Int} (h : ¬ (0 < n ∧ n ≤ 1099511627776)) : stxt n = txt n := by
  unfold stxt
  rw [if_neg h]
theorem stxt_cases {n : Nat} (h0 : 0 < n) (ht : n ≤ top) : (∃ k, k < 4 ∧ n % sz k = 0 ∧ stxt (n : Int) = decDigits (n / sz k) ++ nm k) ∨ stxt (n : Int) = decDigits n := by
  have key : ∀ m, m ≤ 4 → (∀ i, i < m → n % sz i ≠ 0) ∨ ∃ k, k < m ∧ (∀ i, i < k → n % sz i ≠ 0) ∧ n % sz k = 0 := by
    intro m
    induction m with
    | zero => intro _; exact .inl fun i hi => by omega
    | succ m ih =>
      intro hm
      rcases ih (by omega) with h1 | ⟨k, h1, h2, h3⟩
      · by_cases hc : n % sz m = 0
        · exact .inr ⟨m, by omega, h1, hc⟩
        · refine .inl fun i hi => ?_
          rcases Nat.lt_or_ge i m with h4 | h4
          · exact h1 i h4
          · rw [show i = m by omega]; exact hc
      · exact .inr ⟨k, by omega, h2, h3⟩
  rcases key 4 (Nat.le_refl _) with h1 | ⟨k, h1, h2, h3⟩
  · exact .inr (stxt_none h0 ht h1)
  · exact .inl ⟨k, h1, h3, stxt_at h0 ht h1 h2 h3⟩
theorem size_stxt {n : Nat} (ht : n ≤ top) : size? (stxt (n : Int)) = some n := by
  rcases Nat.eq_zero_or_pos n with rfl | h0
  · decide +kernel
  · rcases stxt_cases h0 ht with ⟨k, hk, hd, e⟩ | e
    · have hb := sz_bd (show k < 8 by omega)
      have hle : n / sz k ≤ top := Nat.le_trans (Nat.div_le_self _ _) ht
      rw [e, size_unit (by omega) hle, if_pos (Nat.div_le_div_right ht), Nat.div_mul_cancel (Nat.dvd_of_mod_eq_zero hd)]
    · rw [e]
      exact size_dec ht
theorem nm_len {k : Nat} (h : k < 8) : (nm k).length ≤ 3 := by
  rcases lt8 h with rfl | rfl | rfl | rfl | rfl | rfl | rfl | rfl <;> decide
theorem dec_len {n : Nat} (h : n ≤ top) : (decDigits n).length ≤ 13 := by
  rw [decDigits_length]
  exact nDigits_top h
theorem txt_len (n : Int) : (txt n).length ≤ 13 := by
  unfold txt
  split
  · exact dec_len (by unfold top; omega)
  · exact Nat.zero_le _
theorem stxt_len (n : Int) : (stxt n).length ≤ 16 := by
  by_cases h : 0 < n ∧ n ≤ 1099511627776
  · obtain ⟨m, rfl⟩ : ∃ m : Nat, n = (m : Int) := ⟨n.toNat, by omega⟩
    have ht : m ≤ top := by unfold top; omega
    rcases stxt_cases (show 0 < m by omega) ht with ⟨k, hk, hd, e⟩ | e
    · rw [e, List.length_append]
      have h1 := dec_len (Nat.le_trans (Nat.div_le_self m (sz k)) ht)
      have h2 := nm_len (show k < 8 by omega)
      omega
    · rw [e]
      have := dec_len ht
      omega
  · rw [stxt_out h]
    have := txt_len n
    omega

/-! ### names -/
def wordb (b : UInt8) : Bool := decide (97 ≤ b.toNat ∧ b.toNat ≤ 122) || decide (65 ≤ b.toNat ∧ b.toNat ≤ 90) || decide (48 ≤ b.toNat ∧ b.toNat ≤ 57) || decide (b.toNat = 95)
def nmAt (i : Nat) (b : UInt8) : Bool := wordb b || (decide (i ≠ 0) && (decide (b.toNat = 45) || decide (b.toNat = 46)))
def okFrom : Nat → List UInt8 → Bool
  | _, [] => true
  | i, b :: r => nmAt i b && okFrom (i + 1) r
def isName (l : List UInt8) : Bool := decide (1 ≤ l.length) && decide (l.length ≤ 32) && okFrom 0 l
theorem okFrom_app : ∀ (l r : List UInt8) (i : Nat), okFrom i (l ++ r) = (okFrom i l && okFrom (i + l.length) r)
  | [], r, i => by simp [okFrom]
  | b :: l, r, i => by
    rw [List.cons_append, okFrom, okFrom_app l r (i + 1), okFrom, List.length_cons, Bool.and_assoc, show i + 1 + l.length = i + (l.length + 1) by omega]
theorem okFrom_drop {l : List UInt8} {i : Nat} (h : i < l.length) : okFrom i (l.drop i) = (nmAt i l[i] && okFrom (i + 1) (l.drop (i + 1))) := by
  rw [List.drop_eq_getElem_cons h, okFrom]
theorem okFrom_end (l : List UInt8) {i : Nat} (h : l.length ≤ i) : okFrom i (l.drop i) = true := by
  rw [List.drop_eq_nil_of_le h, okFrom]
theorem okFrom_get : ∀ (l : List UInt8) (i : Nat), okFrom i l = true → ∀ j (hj : j < l.length), nmAt (i + j) l[j] = true
  | [], i, _, j, hj => by simp at hj
  | b :: l, i, h, j, hj => by
    rw [okFrom, Bool.and_eq_true] at h
    cases j with
    | zero => exact h.1
    | succ j =>
      have := okFrom_get l (i + 1) h.2 j (by simpa using hj)
      rw [show i + (j + 1) = i + 1 + j by omega]
      simpa using this
theorem name_one {l : List UInt8} (h : isName l = true) : 1 ≤ l.length ∧ l.length ≤ 32 ∧ okFrom 0 l = true := by
  unfold isName at h
  simp only [Bool.and_eq_true, decide_eq_true_eq] at h
  exact ⟨h.1.1, h.1.2, h.2⟩
theorem nmAt_bytes {i : Nat} {b : UInt8} (h : nmAt i b = true) : b.toNat ≠ 32 ∧ b.toNat ≠ 61 ∧ b.toNat ≠ 10 ∧ b.toNat ≠ 44 ∧ b.toNat ≠ 58 ∧ b.toNat < 128 := by
  unfold nmAt wordb at h
  simp only [Bool.or_eq_true, Bool.and_eq_true, decide_eq_true_eq] at h
  omega
theorem name_bytes {l : List UInt8} (h : isName l = true) (j : Nat) (hj : j < l.length) : l[j].toNat ≠ 32 ∧ l[j].toNat ≠ 61 ∧ l[j].toNat ≠ 10 ∧ l[j].toNat ≠ 44 ∧ l[j].toNat ≠ 58 ∧ l[j].toNat < 128 :=
  nmAt_bytes (okFrom_get l 0 (name_one h).2.2 j hj)
theorem name_front {l : List UInt8} (h : isName l = true) (h2 : 2 ≤ l.length) : isName (l.take (l.length - 1)) = true := by
  obtain ⟨h0, h1, h3⟩ := name_one h
  have e : l.take (l.length - 1) ++ l.drop (l.length - 1) = l := List.take_append_drop _ _
  rw [← e, okFrom_app, Bool.and_eq_true] at h3
  unfold isName
  rw [h3.1, List.length_take]
  simp
  omega
theorem nmAt_a (i : Nat) : nmAt i 97 = true := by
  unfold nmAt
  rw [show wordb 97 = true by decide]
  rfl
theorem name_more {l : List UInt8} (h : isName l = true) : isName (l ++ [97]) = decide (l.length < 32) := by
  obtain ⟨h0, h1, h3⟩ := name_one h
  unfold isName
  rw [okFrom_app, h3, List.length_append]
  simp only [okFrom, nmAt_a]
  by_cases hc : l.length < 32
  · simp [hc]; omega
  · simp [hc]; omega
theorem name_not {l : List UInt8} (h : isName l = false) (h0 : l.length ≠ 0) (h1 : l.length ≤ 32) : isName (l ++ [97]) = false := by
  have h3 : okFrom 0 l = false := by
    unfold isName at h
    rw [show decide (1 ≤ l.length) = true by simp; omega, show decide (l.length ≤ 32) = true by simp; omega] at h
    simpa using h
  unfold isName
  rw [okFrom_app, h3]
  simp
theorem name_high {l : List UInt8} {i : Nat} {b : UInt8} (h : 128 ≤ b.toNat) : nmAt i b = false := by
  cases hc : nmAt i b with
  | false => rfl
  | true =>
    have := nmAt_bytes hc
    omega
/-- Where a number may lie, as a name's byte. -/
theorem byte_cases (r : Int) : r < 45 ∨ r = 45 ∨ r = 46 ∨ r = 47 ∨ (48 ≤ r ∧ r ≤ 57) ∨ (58 ≤ r ∧ r ≤ 64) ∨ (65 ≤ r ∧ r ≤ 90) ∨ (91 ≤ r ∧ r ≤ 94) ∨ r = 95 ∨ r = 96 ∨ (97 ≤ r ∧ r ≤ 122) ∨ 123 ≤ r := by omega
end Go.Proofs.YtpmghgfgbkncoaaGreatDoor.un
end
section
set_option linter.unusedVariables false
namespace Go.Proofs.YtpmghgfgbkncoaaGreatDoor.di
open Go.Proofs.YtpmghgfgbkncoaaGreatDoor.un

abbrev Tx := List UInt8

/-! ### words -/
/-- A line's words, between blanks. -/
def words : Tx → List Tx
  | [] => [[]]
  | b :: r => if b = 32 then [] :: words r else match words r with
    | h :: t => (b :: h) :: t
    | [] => [[b]]
theorem words_bl (r : Tx) : words (32 :: r) = [] :: words r := by rw [words, if_pos rfl]
theorem words_nb {b : UInt8} (h : b ≠ 32) (r : Tx) : words (b :: r) = match words r with
    | h :: t => (b :: h) :: t
    | [] => [[b]] := by rw [words, if_neg h]
theorem words_ne : ∀ l : Tx, words l ≠ []
  | [] => by simp [words]
  | b :: r => by
    unfold words
    split
    · simp
    · split <;> simp
/-- The words, with a blank between each two. -/
def joinW : List Tx → Tx
  | [] => []
  | [a] => a
  | a :: b :: r => a ++ 32 :: joinW (b :: r)
theorem joinW_cons (a : Tx) {L : List Tx} (h : L ≠ []) : joinW (a :: L) = a ++ 32 :: joinW L := by
  cases L with
  | nil => exact absurd rfl h
  | cons b r => rfl
theorem join_words : ∀ l : Tx, joinW (words l) = l
  | [] => rfl
  | b :: r => by
    have ih := join_words r
    unfold words
    by_cases hb : b = 32
    · rw [if_pos hb, joinW_cons [] (words_ne r), ih, hb]
      rfl
    · rw [if_neg hb]
      cases hw : words r with
      | nil => exact absurd hw (words_ne r)
      | cons h t =>
        rw [hw] at ih
        dsimp only
        cases t with
        | nil => rw [← ih]; rfl
        | cons c t =>
          rw [← ih]
          rfl
theorem words_clean : ∀ (l : Tx) (w : Tx), w ∈ words l → (32 : UInt8) ∉ w
  | [], w, h => by
    simp [words] at h
    subst h
    simp
  | b :: r, w, h => by
    have ih := words_clean r
    unfold words at h
    by_cases hb : b = 32
    · rw [if_pos hb] at h
      rcases List.mem_cons.1 h with rfl | h
      · simp
      · exact ih w h
    · rw [if_neg hb] at h
      cases hw : words r with
      | nil => exact absurd hw (words_ne r)
      | cons x t =>
        rw [hw] at h ih
        dsimp only at h
        rcases List.mem_cons.1 h with rfl | h
        · have := ih x (by simp)
          simp only [List.mem_cons, not_or]
          exact ⟨fun e => hb e.symm, this⟩
        · exact ih w (by simp [h])
theorem words_app : ∀ (a : Tx) (r : Tx), (32 : UInt8) ∉ a → words (a ++ 32 :: r) = a :: words r
  | [], r, _ => by
    exact words_bl r
  | b :: a, r, h => by
    simp only [List.mem_cons, not_or] at h
    have ih := words_app a r h.2
    show words (b :: (a ++ 32 :: r)) = _
    rw [words_nb (fun e => h.1 e.symm), ih]
theorem words_one : ∀ (a : Tx), (32 : UInt8) ∉ a → words a = [a]
  | [], _ => rfl
  | b :: a, h => by
    simp only [List.mem_cons, not_or] at h
    rw [words_nb (fun e => h.1 e.symm), words_one a h.2]
theorem words_join : ∀ (L : List Tx), L ≠ [] → (∀ w ∈ L, (32 : UInt8) ∉ w) → words (joinW L) = L
  | [], h, _ => absurd rfl h
  | [a], _, h => words_one a (h a (by simp))
  | a :: b :: r, _, h => by
    rw [joinW_cons a (by simp), words_app a _ (h a (by simp)), words_join (b :: r) (by simp) (fun w hw => h w (by simp [hw]))]

/-! ### fields -/
/-- What stands ahead of the first '=', and behind it. -/
def cut : Tx → Option (Tx × Tx)
  | [] => none
  | b :: r => if b = 61 then some ([], r) else (cut r).map fun p => (b :: p.1, p.2)
theorem cut_at : ∀ (k v : Tx), (61 : UInt8) ∉ k → cut (k ++ 61 :: v) = some (k, v)
  | [], v, _ => by
    show cut (61 :: v) = _
    unfold cut
    rw [if_pos rfl]
  | b :: k, v, h => by
    simp only [List.mem_cons, not_or] at h
    show cut (b :: (k ++ 61 :: v)) = _
    unfold cut
    rw [if_neg (fun e => h.1 e.symm), cut_at k v h.2]
    rfl
theorem cut_some : ∀ (w k v : Tx), cut w = some (k, v) → w = k ++ 61 :: v ∧ (61 : UInt8) ∉ k
  | [], k, v, h => by simp [cut] at h
  | b :: r, k, v, h => by
    unfold cut at h
    by_cases hb : b = 61
    · rw [if_pos hb] at h
      simp only [Option.some.injEq, Prod.mk.injEq] at h
      obtain ⟨rfl, rfl⟩ := h
      subst hb
      simp
    · rw [if_neg hb] at h
      cases hc : cut r with
      | none => rw [hc] at h; simp at h
      | some p =>
        obtain ⟨k', v'⟩ := p
        rw [hc] at h
        simp only [Option.map_some, Option.some.injEq, Prod.mk.injEq] at h
        obtain ⟨rfl, rfl⟩ := h
        obtain ⟨e, hn⟩ := cut_some r k' v' hc
        refine ⟨by rw [e]; rfl, ?_⟩
        simp only [List.mem_cons, not_or]
        exact ⟨fun e => hb e.symm, hn⟩
theorem cut_none : ∀ (w : Tx), cut w = none → (61 : UInt8) ∉ w
  | [], _ => by simp
  | b :: r, h => by
    unfold cut at h
    by_cases hb : b = 61
    · rw [if_pos hb] at h
      cases h
    · rw [if_neg hb] at h
      simp only [Option.map_eq_none_iff] at h
      simp only [List.mem_cons, not_or]
      exact ⟨fun e => hb e.symm, cut_none r h⟩

def capK : Tx := [99, 97, 112, 97, 99, 105, 116, 121]
def sizeK : Tx := [115, 105, 122, 101]
def nameK : Tx := [110, 97, 109, 101]
def poolK : Tx := [112, 111, 111, 108]
def accK : Tx := [97, 99, 99, 101, 115, 115]
def pubV : Tx := [112, 117, 98, 108, 105, 99]
def priV : Tx := [112, 114, 105, 118, 97, 116, 101]
def bbW : Tx := [35, 66, 66]
/-- The words of the kinds, from 1 on. -/
def kindL : List Tx := [[106, 111, 98, 100, 119], [115, 116, 97, 103, 101, 95, 105, 110], [115, 116, 97, 103, 101, 95, 111, 117, 116],
  [99, 114, 101, 97, 116, 101, 95, 112, 101, 114, 115, 105, 115, 116, 101, 110, 116], [100, 101, 115, 116, 114, 111, 121, 95, 112, 101, 114, 115, 105, 115, 116, 101, 110, 116], [117, 115, 101, 95, 112, 101, 114, 115, 105, 115, 116, 101, 110, 116]]
def kw (k : Nat) : Tx := kindL.getD (k - 1) []

structure Dir where
  kind : Nat
  name : Tx
  pool : Tx
  size : Int
  opn : Bool
deriving DecidableEq
def Dir.zero : Dir := ⟨0, [], [], 0, false⟩

/-- Has a kind a pool; a name; a size? -/
def hasPool (k : Nat) : Bool := k == 1 || k == 4
def hasName (k : Nat) : Bool := decide (4 ≤ k)
def hasSize (k : Nat) : Bool := decide (k ≤ 4)
/-- The key of a kind's size. -/
def szK (k : Nat) : Tx := if hasPool k then capK else sizeK

abbrev Fl := Tx × Tx
/-- May the kind have that key? -/
def allow (k : Nat) (key : Tx) : Bool := (hasSize k && key == szK k) || (hasName k && key == nameK) || (hasPool k && key == poolK) || (k == 4 && key == accK)
/-- Is a value one of its key's? -/
def okv (key v : Tx) : Bool := if key = capK ∨ key = sizeK then decide (0 < (size? v).getD 0) else if key = nameK ∨ key = poolK then isName v else v == pubV || v == priV
def keys (fs : List Fl) : List Tx := fs.map (·.1)
def req (k : Nat) : List Tx := (if hasName k then [nameK] else []) ++ (if hasSize k then [szK k] else []) ++ (if hasPool k then [poolK] else [])
/-- The fields are a kind's. -/
def good (k : Nat) (fs : List Fl) : Prop := (keys fs).Nodup ∧ (∀ f ∈ fs, allow k f.1 = true ∧ okv f.1 f.2 = true) ∧ ∀ r ∈ req k, r ∈ keys fs
instance (k : Nat) (fs : List Fl) : Decidable (good k fs) := by unfold good; infer_instance
/-- The value of a key: empty, if it is not there. -/
def look (fs : List Fl) (key : Tx) : Tx := match fs.find? fun f => f.1 == key with
  | some f => f.2
  | none => []
def dirOf (k : Nat) (fs : List Fl) : Dir := ⟨k, look fs nameK, look fs poolK, (((size? (look fs (szK k))).getD 0 : Nat) : Int), look fs accK == pubV⟩
/-- What the fields of a kind denote. -/
def fields? (k : Nat) (ws : List Tx) : Option Dir := match ws.mapM cut with
  | some fs => if good k fs then some (dirOf k fs) else none
  | none => none
def kind? (w : Tx) : Option Nat := (kindL.findIdx? fun x => x == w).map (· + 1)
/-- What a line denotes. -/
def line? (l : Tx) : Option Dir := match words l with
  | b :: w :: ws => if b = bbW then match kind? w with
    | some k => fields? k ws
    | none => none
    else none
  | _ => none
/-- The error of a line, by the document. -/
def lerr (l : Tx) : Int := if 500 < l.length then 3 else if (line? l).isSome then 0 else 140
def ldir (l : Tx) : Dir := if 500 < l.length then Dir.zero else (line? l).getD Dir.zero

theorem look_snoc {fs : List Fl} {f : Fl} (h : f.1 ∉ keys fs) (key : Tx) : look (fs ++ [f]) key = if f.1 = key then f.2 else look fs key := by
  unfold look
  rw [List.find?_append]
  by_cases e : f.1 = key
  · rw [if_pos e]
    have hn : fs.find? (fun g => g.1 == key) = none := by
      rw [List.find?_eq_none]
      intro g hg hk
      apply h
      rw [e, ← (beq_iff_eq.1 hk)]
      exact List.mem_map.2 ⟨g, hg, rfl⟩
    rw [hn]
    simp [e]
  · rw [if_neg e]
    have : [f].find? (fun g => g.1 == key) = none := by simp [e]
    rw [this]
    cases fs.find? (fun g => g.1 == key) <;> rfl
theorem look_none {fs : List Fl} {key : Tx} (h : key ∉ keys fs) : look fs key = [] := by
  unfold look
  rw [show fs.find? (fun g => g.1 == key) = none by
    rw [List.find?_eq_none]
    intro g hg hk
    exact h (List.mem_map.2 ⟨g, hg, beq_iff_eq.1 hk⟩)]
theorem look_mem {fs : List Fl} {f : Fl} (hn : (keys fs).Nodup) (h : f ∈ fs) : look fs f.1 = f.2 := by
  induction fs with
  | nil => simp at h
  | cons g fs ih =>
    unfold keys at hn
    rw [List.map_cons, List.nodup_cons] at hn
    unfold look
    rw [List.find?_cons]
    rcases List.mem_cons.1 h with rfl | h
    · simp
    · have hne : (g.1 == f.1) = false := by
        rw [beq_eq_false_iff_ne]
        intro e
        exact hn.1 (List.mem_map.2 ⟨f, h, e.symm⟩)
      rw [hne]
      exact ih hn.2 h
theorem keys_snoc (fs : List Fl) (f : Fl) : keys (fs ++ [f]) = keys fs ++ [f.1] := by simp [keys]

/-- The order of the fields doesn't matter. -/
theorem good_perm {k : Nat} {fs gs : List Fl} (hp : fs.Perm gs) (h : good k fs) : good k gs := by
  obtain ⟨h1, h2, h3⟩ := h
  have hk : (keys fs).Perm (keys gs) := hp.map _
  exact ⟨hk.nodup_iff.1 h1, fun f hf => h2 f (hp.mem_iff.2 hf), fun r hr => hk.mem_iff.1 (h3 r hr)⟩
theorem look_perm {fs gs : List Fl} (hp : fs.Perm gs) (hn : (keys fs).Nodup) (key : Tx) : look fs key = look gs key := by
  have hk : (keys fs).Perm (keys gs) := hp.map _
  by_cases h : key ∈ keys fs
  · obtain ⟨f, hf, rfl⟩ := List.mem_map.1 h
    rw [look_mem hn hf, look_mem (hk.nodup_iff.1 hn) (hp.mem_iff.1 hf)]
  · rw [look_none h, look_none fun e => h (hk.mem_iff.2 e)]
theorem dirOf_perm {k : Nat} {fs gs : List Fl} (hp : fs.Perm gs) (hn : (keys fs).Nodup) : dirOf k fs = dirOf k gs := by
  unfold dirOf
  rw [look_perm hp hn, look_perm hp hn, look_perm hp hn, look_perm hp hn]
end Go.Proofs.YtpmghgfgbkncoaaGreatDoor.di
end
section
set_option linter.unusedVariables false
namespace Go.Proofs.YtpmghgfgbkncoaaGreatDoor.di
open Go.Proofs.YtpmghgfgbkncoaaGreatDoor.un

/-- One field more, as the document's Parse takes it. -/
def dstep (k : Nat) (s : Dir × Bool) (f : Fl) : Option (Dir × Bool) :=
  if f.1 = szK k then if (size? f.2).getD 0 = 0 ∨ 0 < s.1.size then none else some ({ s.1 with size := (((size? f.2).getD 0 : Nat) : Int) }, s.2)
  else if f.1 = nameK then if s.1.name ≠ [] ∨ isName f.2 = false then none else some ({ s.1 with name := f.2 }, s.2)
  else if f.1 = poolK then if s.1.pool ≠ [] ∨ isName f.2 = false then none else some ({ s.1 with pool := f.2 }, s.2)
  else if f.1 = accK ∧ k = 4 then if s.2 = true ∨ (f.2 ≠ pubV ∧ f.2 ≠ priV) then none else some ({ s.1 with opn := f.2 == pubV }, true)
  else none
def drun (k : Nat) : Dir × Bool → List Tx → Option (Dir × Bool)
  | s, [] => some s
  | s, w :: ws => match cut w with
    | none => none
    | some f => match dstep k s f with
      | none => none
      | some s' => drun k s' ws
/-- May a directive be? -/
def chk (d : Dir) : Bool := decide ((1 ≤ d.kind ∧ d.kind ≤ 6) ∧ (hasSize d.kind = true ↔ 0 < d.size) ∧ (0 ≤ d.size ∧ d.size ≤ 1099511627776) ∧ (hasName d.kind = true ↔ isName d.name = true) ∧ (hasName d.kind = true ∨ d.name = []) ∧
  (hasPool d.kind = true ↔ isName d.pool = true) ∧ (hasPool d.kind = true ∨ d.pool = []) ∧ (d.opn = false ∨ d.kind = 4))

theorem szK_cases (k : Nat) : szK k = capK ∨ szK k = sizeK := by
  unfold szK
  cases hasPool k
  · exact .inr rfl
  · exact .inl rfl
theorem sz_ne (k : Nat) : szK k ≠ nameK ∧ szK k ≠ poolK ∧ szK k ≠ accK := by
  rcases szK_cases k with h | h <;> rw [h] <;> decide
theorem okv_sz (k : Nat) (v : Tx) : okv (szK k) v = decide (0 < (size? v).getD 0) := by
  unfold okv
  rw [if_pos (szK_cases k)]
theorem okv_name (v : Tx) : okv nameK v = isName v := by
  unfold okv
  rw [if_neg (by decide), if_pos (.inl rfl)]
theorem okv_pool (v : Tx) : okv poolK v = isName v := by
  unfold okv
  rw [if_neg (by decide), if_pos (.inr rfl)]
theorem okv_acc (v : Tx) : okv accK v = (v == pubV || v == priV) := by
  unfold okv
  rw [if_neg (by decide), if_neg (by decide)]
theorem isName_nil : isName [] = false := by decide
theorem isName_ne {v : Tx} (h : isName v = true) : v ≠ [] := by
  rintro rfl
  rw [isName_nil] at h
  cases h

/-- What the document's loop knows of the fields that it took. -/
structure Inv (k : Nat) (fs : List Fl) (s : Dir × Bool) : Prop where
  nd : (keys fs).Nodup
  ok : ∀ f ∈ fs, okv f.1 f.2 = true
  al : ∀ f ∈ fs, f.1 = szK k ∨ f.1 = nameK ∨ f.1 = poolK ∨ (f.1 = accK ∧ k = 4)
  dir : s.1 = dirOf k fs
  acc : s.2 = decide (accK ∈ keys fs)
theorem Inv.start (k : Nat) : Inv k [] (⟨k, [], [], 0, false⟩, false) := by
  refine ⟨by simp [keys], by simp, by simp, ?_, by simp [keys]⟩
  show _ = dirOf k []
  unfold dirOf
  have h : ∀ key, look [] key = [] := fun key => rfl
  rw [h, h, h, h, size_nil]
  rfl
theorem Inv.val {k : Nat} {fs : List Fl} {s : Dir × Bool} (h : Inv k fs s) {key : Tx} (hk : key ∈ keys fs) : okv key (look fs key) = true := by
  obtain ⟨f, hf, rfl⟩ := List.mem_map.1 hk
  rw [look_mem h.nd hf]
  exact h.ok f hf
theorem Inv.size {k : Nat} {fs : List Fl} {s : Dir × Bool} (h : Inv k fs s) : 0 < s.1.size ↔ szK k ∈ keys fs := by
  rw [h.dir]
  show 0 < (((size? (look fs (szK k))).getD 0 : Nat) : Int) ↔ _
  constructor
  · intro hp
    by_cases hm : szK k ∈ keys fs
    · exact hm
    · rw [look_none hm, size_nil] at hp
      simp at hp
  · intro hm
    have := h.val hm
    rw [okv_sz, decide_eq_true_eq] at this
    omega
theorem Inv.name {k : Nat} {fs : List Fl} {s : Dir × Bool} (h : Inv k fs s) : s.1.name ≠ [] ↔ nameK ∈ keys fs := by
  rw [h.dir]
  show look fs nameK ≠ [] ↔ _
  constructor
  · intro hp
    by_cases hm : nameK ∈ keys fs
    · exact hm
    · exact absurd (look_none hm) hp
  · intro hm
    have := h.val hm
    rw [okv_name] at this
    exact isName_ne this
theorem Inv.pool {k : Nat} {fs : List Fl} {s : Dir × Bool} (h : Inv k fs s) : s.1.pool ≠ [] ↔ poolK ∈ keys fs := by
  rw [h.dir]
  show look fs poolK ≠ [] ↔ _
  constructor
  · intro hp
    by_cases hm : poolK ∈ keys fs
    · exact hm
    · exact absurd (look_none hm) hp
  · intro hm
    have := h.val hm
    rw [okv_pool] at this
    exact isName_ne this

theorem Inv.more {k : Nat} {fs : List Fl} {s : Dir × Bool} (h : Inv k fs s) {f : Fl} (hn : f.1 ∉ keys fs) (ho : okv f.1 f.2 = true) (ha : f.1 = szK k ∨ f.1 = nameK ∨ f.1 = poolK ∨ (f.1 = accK ∧ k = 4)) {s' : Dir × Bool}
    (hd : s'.1 = dirOf k (fs ++ [f])) (hb : s'.2 = decide (accK ∈ keys (fs ++ [f]))) : Inv k (fs ++ [f]) s' := by
  refine ⟨?_, ?_, ?_, hd, hb⟩
  · rw [keys_snoc, List.nodup_append]
    refine ⟨h.nd, by simp, ?_⟩
    intro a ha b hb e
    simp only [List.mem_singleton] at hb
    subst hb; subst e
    exact hn ha
  · intro g hg
    rcases List.mem_append.1 hg with hg | hg
    · exact h.ok g hg
    · simp only [List.mem_singleton] at hg
      subst hg
      exact ho
  · intro g hg
    rcases List.mem_append.1 hg with hg | hg
    · exact h.al g hg
    · simp only [List.mem_singleton] at hg
      subst hg
      exact ha

theorem Inv.step {k : Nat} {fs : List Fl} {s : Dir × Bool} (h : Inv k fs s) (f : Fl) :
    match dstep k s f with
    | some s' => Inv k (fs ++ [f]) s'
    | none => ¬ (f.1 ∉ keys fs ∧ okv f.1 f.2 = true ∧ (f.1 = szK k ∨ f.1 = nameK ∨ f.1 = poolK ∨ (f.1 = accK ∧ k = 4))) := by
  obtain ⟨key, v⟩ := f
  obtain ⟨n1, n2, n3⟩ := sz_ne k
  have m1 : nameK ≠ poolK := by decide
  have m2 : nameK ≠ accK := by decide
  have m3 : poolK ≠ accK := by decide
  by_cases e1 : key = szK k
  · subst e1
    by_cases hb : (size? v).getD 0 = 0 ∨ 0 < s.1.size
    · have : dstep k s (szK k, v) = none := by
        unfold dstep
        rw [if_pos rfl, if_pos hb]
      rw [this]
      rintro ⟨hn, ho, _⟩
      rcases hb with hb | hb
      · rw [okv_sz, hb] at ho
        cases ho
      · exact hn (h.size.1 hb)
    · have : dstep k s (szK k, v) = some ({ s.1 with size := (((size? v).getD 0 : Nat) : Int) }, s.2) := by
        unfold dstep
        rw [if_pos rfl, if_neg hb]
      rw [this]
      have hn : szK k ∉ keys fs := fun e => hb (.inr (h.size.2 e))
      refine h.more hn (by rw [okv_sz, decide_eq_true_eq]; show 0 < (size? v).getD 0; omega) (.inl rfl) ?_ ?_
      · rw [h.dir]
        unfold dirOf
        rw [look_snoc hn, look_snoc hn, look_snoc hn, look_snoc hn, if_neg n1, if_neg n2, if_pos rfl, if_neg n3]
      · rw [keys_snoc, h.acc]
        simp [Ne.symm n3]
  · by_cases e2 : key = nameK
    · subst e2
      by_cases hb : s.1.name ≠ [] ∨ isName v = false
      · have : dstep k s (nameK, v) = none := by
          unfold dstep
          rw [if_neg (Ne.symm n1), if_pos rfl, if_pos hb]
        rw [this]
        rintro ⟨hn, ho, _⟩
        rcases hb with hb | hb
        · exact hn (h.name.1 hb)
        · rw [okv_name, hb] at ho
          cases ho
      · have : dstep k s (nameK, v) = some ({ s.1 with name := v }, s.2) := by
          unfold dstep
          rw [if_neg (Ne.symm n1), if_pos rfl, if_neg hb]
        rw [this]
        have hn : nameK ∉ keys fs := fun e => hb (.inl (h.name.2 e))
        have hv : isName v = true := by
          cases hv : isName v with
          | true => rfl
          | false => exact absurd (.inr hv) hb
        refine h.more hn (by rw [okv_name]; exact hv) (.inr (.inl rfl)) ?_ ?_
        · rw [h.dir]
          unfold dirOf
          rw [look_snoc hn, look_snoc hn, look_snoc hn, look_snoc hn, if_pos rfl, if_neg m1, if_neg (Ne.symm n1), if_neg m2]
        · rw [keys_snoc, h.acc]
          simp [Ne.symm m2]
    · by_cases e3 : key = poolK
      · subst e3
        by_cases hb : s.1.pool ≠ [] ∨ isName v = false
        · have : dstep k s (poolK, v) = none := by
            unfold dstep
            rw [if_neg (Ne.symm n2), if_neg (Ne.symm m1), if_pos rfl, if_pos hb]
          rw [this]
          rintro ⟨hn, ho, _⟩
          rcases hb with hb | hb
          · exact hn (h.pool.1 hb)
          · rw [okv_pool, hb] at ho
            cases ho
        · have : dstep k s (poolK, v) = some ({ s.1 with pool := v }, s.2) := by
            unfold dstep
            rw [if_neg (Ne.symm n2), if_neg (Ne.symm m1), if_pos rfl, if_neg hb]
          rw [this]
          have hn : poolK ∉ keys fs := fun e => hb (.inl (h.pool.2 e))
          have hv : isName v = true := by
            cases hv : isName v with
            | true => rfl
            | false => exact absurd (.inr hv) hb
          refine h.more hn (by rw [okv_pool]; exact hv) (.inr (.inr (.inl rfl))) ?_ ?_
          · rw [h.dir]
            unfold dirOf
            rw [look_snoc hn, look_snoc hn, look_snoc hn, look_snoc hn, if_neg (Ne.symm m1), if_pos rfl, if_neg (Ne.symm n2), if_neg m3]
          · rw [keys_snoc, h.acc]
            simp [Ne.symm m3]
      · by_cases e4 : key = accK ∧ k = 4
        · obtain ⟨e4, hk⟩ := e4
          subst e4
          by_cases hb : s.2 = true ∨ (v ≠ pubV ∧ v ≠ priV)
          · have : dstep k s (accK, v) = none := by
              unfold dstep
              rw [if_neg (Ne.symm n3), if_neg (Ne.symm m2), if_neg (Ne.symm m3), if_pos ⟨rfl, hk⟩, if_pos hb]
            rw [this]
            rintro ⟨hn, ho, _⟩
            rcases hb with hb | hb
            · rw [h.acc, decide_eq_true_eq] at hb
              exact hn hb
            · rw [okv_acc] at ho
              simp [hb.1, hb.2] at ho
          · have : dstep k s (accK, v) = some ({ s.1 with opn := v == pubV }, true) := by
              unfold dstep
              rw [if_neg (Ne.symm n3), if_neg (Ne.symm m2), if_neg (Ne.symm m3), if_pos ⟨rfl, hk⟩, if_neg hb]
            rw [this]
            have hn : accK ∉ keys fs := fun e => hb (.inl (by rw [h.acc]; exact decide_eq_true e))
            refine h.more hn ?_ (.inr (.inr (.inr ⟨rfl, hk⟩))) ?_ ?_
            · rw [okv_acc]
              by_cases hv : v = pubV
              · simp [hv]
              · by_cases hv2 : v = priV
                · simp [hv2]
                · exact absurd (.inr ⟨hv, hv2⟩) hb
            · rw [h.dir]
              unfold dirOf
              rw [look_snoc hn, look_snoc hn, look_snoc hn, look_snoc hn, if_neg (Ne.symm m2), if_neg (Ne.symm m3), if_neg (Ne.symm n3), if_pos rfl]
            · rw [keys_snoc]
              simp
        · have : dstep k s (key, v) = none := by
            unfold dstep
            rw [if_neg e1, if_neg e2, if_neg e3, if_neg e4]
          rw [this]
          rintro ⟨_, _, ha⟩
          rcases ha with ha | ha | ha | ha
          · exact e1 ha
          · exact e2 ha
          · exact e3 ha
          · exact e4 ha

theorem allow_al {k : Nat} {key : Tx} (h : allow k key = true) : key = szK k ∨ key = nameK ∨ key = poolK ∨ (key = accK ∧ k = 4) := by
  unfold allow at h
  simp only [Bool.or_eq_true, Bool.and_eq_true, beq_iff_eq] at h
  rcases h with ((h | h) | h) | h
  · exact .inl h.2
  · exact .inr (.inl h.2)
  · exact .inr (.inr (.inl h.2))
  · exact .inr (.inr (.inr ⟨h.2, h.1⟩))

theorem drun_spec (k : Nat) : ∀ (ws : List Tx) (fs : List Fl) (s : Dir × Bool), Inv k fs s →
    match drun k s ws with
    | some s' => ∃ gs, ws.mapM cut = some gs ∧ Inv k (fs ++ gs) s'
    | none => ∀ gs, ws.mapM cut = some gs → ¬ good k (fs ++ gs)
  | [], fs, s, h => ⟨[], rfl, by rw [List.append_nil]; exact h⟩
  | w :: ws, fs, s, h => by
    unfold drun
    cases hc : cut w with
    | none =>
      dsimp only
      intro gs hg
      rw [List.mapM_cons, hc] at hg
      cases hg
    | some f =>
      dsimp only
      have hs := h.step f
      cases hd : dstep k s f with
      | none =>
        rw [hd] at hs
        dsimp only at hs ⊢
        intro gs hg hgood
        rw [List.mapM_cons, hc] at hg
        cases hm : ws.mapM cut with
        | none => rw [hm] at hg; cases hg
        | some hs' =>
          rw [hm] at hg
          have : gs = f :: hs' := by
            have : some (f :: hs') = some gs := hg
            exact (Option.some.inj this).symm
          subst this
          obtain ⟨g1, g2, _⟩ := hgood
          apply hs
          refine ⟨?_, (g2 f (by simp)).2, allow_al (g2 f (by simp)).1⟩
          intro hm2
          unfold keys at g1
          rw [List.map_append, List.nodup_append] at g1
          exact g1.2.2 f.1 hm2 f.1 (by simp) rfl
      | some s' =>
        rw [hd] at hs
        dsimp only at hs ⊢
        have ih := drun_spec k ws (fs ++ [f]) s' hs
        cases hr : drun k s' ws with
        | none =>
          rw [hr] at ih
          dsimp only at ih ⊢
          intro gs hg
          rw [List.mapM_cons, hc] at hg
          cases hm : ws.mapM cut with
          | none => rw [hm] at hg; cases hg
          | some hs' =>
            rw [hm] at hg
            have : gs = f :: hs' := by
              have : some (f :: hs') = some gs := hg
              exact (Option.some.inj this).symm
            subst this
            have := ih hs' hm
            rw [List.append_assoc] at this
            exact this
        | some s2 =>
          rw [hr] at ih
          dsimp only at ih ⊢
          obtain ⟨gs, hm, hi⟩ := ih
          refine ⟨f :: gs, ?_, ?_⟩
          · rw [List.mapM_cons, hc, hm]
            rfl
          · rw [List.append_assoc] at hi
            exact hi

theorem mem_req {k : Nat} {r : Tx} : r ∈ req k ↔ (hasName k = true ∧ r = nameK) ∨ (hasSize k = true ∧ r = szK k) ∨ (hasPool k = true ∧ r = poolK) := by
  unfold req
  cases hasName k <;> cases hasSize k <;> cases hasPool k <;> simp
theorem chk_iff (d : Dir) : chk d = true ↔ (1 ≤ d.kind ∧ d.kind ≤ 6) ∧ (hasSize d.kind = true ↔ 0 < d.size) ∧ (0 ≤ d.size ∧ d.size ≤ 1099511627776) ∧ (hasName d.kind = true ↔ isName d.name = true) ∧ (hasName d.kind = true ∨ d.name = []) ∧
    (hasPool d.kind = true ↔ isName d.pool = true) ∧ (hasPool d.kind = true ∨ d.pool = []) ∧ (d.opn = false ∨ d.kind = 4) := by
  exact decide_eq_true_iff

theorem Inv.chk_good {k : Nat} {fs : List Fl} {s : Dir × Bool} (h : Inv k fs s) (hk : 1 ≤ k ∧ k ≤ 6) : chk s.1 = true ↔ good k fs := by
  have hkind : s.1.kind = k := by rw [h.dir]; rfl
  have hopn : s.1.opn = (look fs accK == pubV) := by rw [h.dir]; rfl
  have hsz := h.size
  have hnm := h.name
  have hpl := h.pool
  have hnv : isName s.1.name = true ↔ nameK ∈ keys fs := by
    rw [← hnm]
    constructor
    · exact isName_ne
    · intro hne
      have := h.val (hnm.1 hne)
      rw [okv_name] at this
      rw [h.dir]
      exact this
  have hpv : isName s.1.pool = true ↔ poolK ∈ keys fs := by
    rw [← hpl]
    constructor
    · exact isName_ne
    · intro hne
      have := h.val (hpl.1 hne)
      rw [okv_pool] at this
      rw [h.dir]
      exact this
  have hsb : 0 ≤ s.1.size ∧ s.1.size ≤ 1099511627776 := by
    rw [h.dir]
    show 0 ≤ (((size? (look fs (szK k))).getD 0 : Nat) : Int) ∧ (((size? (look fs (szK k))).getD 0 : Nat) : Int) ≤ _
    cases hs : size? (look fs (szK k)) with
    | none => simp
    | some n =>
      have := size_le hs
      unfold top at this
      simp
      omega
  have hn0 : s.1.name = [] ↔ nameK ∉ keys fs := by rw [← hnm]; simp
  have hp0 : s.1.pool = [] ↔ poolK ∉ keys fs := by rw [← hpl]; simp
  rw [chk_iff, hkind, hsz, hnv, hpv, hn0, hp0]
  constructor
  · rintro ⟨_, c1, _, c2, c3, c4, c5, c6⟩
    refine ⟨h.nd, fun f hf => ⟨?_, h.ok f hf⟩, fun r hr => ?_⟩
    · have hm : f.1 ∈ keys fs := List.mem_map.2 ⟨f, hf, rfl⟩
      unfold allow
      simp only [Bool.or_eq_true, Bool.and_eq_true, beq_iff_eq]
      rcases h.al f hf with ha | ha | ha | ha
      · exact .inl (.inl (.inl ⟨c1.2 (by rw [← ha]; exact hm), ha⟩))
      · exact .inl (.inl (.inr ⟨c2.2 (by rw [← ha]; exact hm), ha⟩))
      · exact .inl (.inr ⟨c4.2 (by rw [← ha]; exact hm), ha⟩)
      · exact .inr ⟨ha.2, ha.1⟩
    · rcases mem_req.1 hr with ⟨he, rfl⟩ | ⟨he, rfl⟩ | ⟨he, rfl⟩
      · exact c2.1 he
      · exact c1.1 he
      · exact c4.1 he
  · rintro ⟨g1, g2, g3⟩
    have al : ∀ key, key ∈ keys fs → allow k key = true := fun key hm => by
      obtain ⟨f, hf, rfl⟩ := List.mem_map.1 hm
      exact (g2 f hf).1
    obtain ⟨n1, n2, n3⟩ := sz_ne k
    have m1 : nameK ≠ poolK := by decide
    have m2 : nameK ≠ accK := by decide
    have m3 : poolK ≠ accK := by decide
    have aS : szK k ∈ keys fs → hasSize k = true := fun hm => by
      have := al _ hm
      unfold allow at this
      simp only [Bool.or_eq_true, Bool.and_eq_true, beq_iff_eq] at this
      rcases this with ((h | h) | h) | h
      · exact h.1
      · exact absurd h.2 n1
      · exact absurd h.2 n2
      · exact absurd h.2 n3
    have aN : nameK ∈ keys fs → hasName k = true := fun hm => by
      have := al _ hm
      unfold allow at this
      simp only [Bool.or_eq_true, Bool.and_eq_true, beq_iff_eq] at this
      rcases this with ((h | h) | h) | h
      · exact absurd h.2.symm n1
      · exact h.1
      · exact absurd h.2 m1
      · exact absurd h.2 m2
    have aP : poolK ∈ keys fs → hasPool k = true := fun hm => by
      have := al _ hm
      unfold allow at this
      simp only [Bool.or_eq_true, Bool.and_eq_true, beq_iff_eq] at this
      rcases this with ((h | h) | h) | h
      · exact absurd h.2.symm n2
      · exact absurd h.2.symm m1
      · exact h.1
      · exact absurd h.2 m3
    have rS : hasSize k = true → szK k ∈ keys fs := fun e => g3 _ (mem_req.2 (.inr (.inl ⟨e, rfl⟩)))
    have rN : hasName k = true → nameK ∈ keys fs := fun e => g3 _ (mem_req.2 (.inl ⟨e, rfl⟩))
    have rP : hasPool k = true → poolK ∈ keys fs := fun e => g3 _ (mem_req.2 (.inr (.inr ⟨e, rfl⟩)))
    refine ⟨hk, ⟨rS, aS⟩, hsb, ⟨rN, aN⟩, ?_, ⟨rP, aP⟩, ?_, ?_⟩
    · by_cases hm : nameK ∈ keys fs
      · exact .inl (aN hm)
      · exact .inr hm
    · by_cases hm : poolK ∈ keys fs
      · exact .inl (aP hm)
      · exact .inr hm
    · by_cases hm : accK ∈ keys fs
      · right
        have := al _ hm
        unfold allow at this
        simp only [Bool.or_eq_true, Bool.and_eq_true, beq_iff_eq] at this
        rcases this with ((h | h) | h) | h
        · exact absurd h.2.symm n3
        · exact absurd h.2.symm m2
        · exact absurd h.2.symm m3
        · exact h.1
      · left
        rw [hopn, look_none hm]
        rfl

/-- The document's reading of the fields is what they denote. -/
theorem fields_eq {k : Nat} (hk : 1 ≤ k ∧ k ≤ 6) (ws : List Tx) : (match drun k (⟨k, [], [], 0, false⟩, false) ws with
    | some s => if chk s.1 = true then some s.1 else none
    | none => none) = fields? k ws := by
  have h := drun_spec k ws [] _ (Inv.start k)
  unfold fields?
  cases hr : drun k (⟨k, [], [], 0, false⟩, false) ws with
  | none =>
    rw [hr] at h
    dsimp only at h ⊢
    cases hm : ws.mapM cut with
    | none => rfl
    | some gs =>
      dsimp only
      have := h gs hm
      rw [List.nil_append] at this
      rw [if_neg this]
  | some s =>
    rw [hr] at h
    dsimp only at h ⊢
    obtain ⟨gs, hm, hi⟩ := h
    rw [List.nil_append] at hi
    rw [hm]
    dsimp only
    have hg := hi.chk_good hk
    by_cases hc : chk s.1 = true
    · rw [if_pos hc, if_pos (hg.1 hc), hi.dir]
    · rw [if_neg hc, if_neg fun e => hc (hg.2 e)]
end Go.Proofs.YtpmghgfgbkncoaaGreatDoor.di
end
section
set_option linter.unusedVariables false
namespace Go.Proofs.YtpmghgfgbkncoaaGreatDoor.di
open Go.Proofs.YtpmghgfgbkncoaaGreatDoor.un
open Go.Lib (decDigits)

/-- A field's text. -/
def wtx (f : Fl) : Tx := f.1 ++ 61 :: f.2
theorem cut_wtx {f : Fl} (h : (61 : UInt8) ∉ f.1) : cut (wtx f) = some f := cut_at f.1 f.2 h
theorem mapM_wtx : ∀ {fs : List Fl}, (∀ f ∈ fs, (61 : UInt8) ∉ f.1) → (fs.map wtx).mapM cut = some fs
  | [], _ => rfl
  | f :: fs, h => by
    rw [List.map_cons, List.mapM_cons, cut_wtx (h f (by simp)), mapM_wtx fun g hg => h g (by simp [hg])]
    rfl
theorem mapM_back : ∀ {ws : List Tx} {fs : List Fl}, ws.mapM cut = some fs → ws = fs.map wtx ∧ ∀ f ∈ fs, (61 : UInt8) ∉ f.1
  | [], fs, h => by
    have : fs = [] := (Option.some.inj h).symm
    subst this
    simp
  | w :: ws, fs, h => by
    rw [List.mapM_cons] at h
    cases hc : cut w with
    | none => rw [hc] at h; cases h
    | some f =>
      rw [hc] at h
      cases hm : ws.mapM cut with
      | none => rw [hm] at h; cases h
      | some gs =>
        rw [hm] at h
        have : fs = f :: gs := (Option.some.inj (show some (f :: gs) = some fs from h)).symm
        subst this
        obtain ⟨e1, e2⟩ := mapM_back hm
        obtain ⟨k1, k2⟩ := cut_some w f.1 f.2 hc
        refine ⟨by rw [List.map_cons, ← e1]; rw [k1]; rfl, ?_⟩
        intro g hg
        rcases List.mem_cons.1 hg with rfl | hg
        · exact k2
        · exact e2 g hg

/-- A line of a kind's word and fields. -/
def lineOf (k : Nat) (fs : List Fl) : Tx := joinW (bbW :: kw k :: fs.map wtx)
theorem kind_kw {k : Nat} (h : 1 ≤ k ∧ k ≤ 6) : kind? (kw k) = some k := by
  have hc : k = 1 ∨ k = 2 ∨ k = 3 ∨ k = 4 ∨ k = 5 ∨ k = 6 := by omega
  rcases hc with rfl | rfl | rfl | rfl | rfl | rfl <;> decide
theorem kw_clean {k : Nat} (h : 1 ≤ k ∧ k ≤ 6) : (32 : UInt8) ∉ kw k := by
  have hc : k = 1 ∨ k = 2 ∨ k = 3 ∨ k = 4 ∨ k = 5 ∨ k = 6 := by omega
  rcases hc with rfl | rfl | rfl | rfl | rfl | rfl <;> decide
theorem kind_some {w : Tx} {k : Nat} (h : kind? w = some k) : w = kw k ∧ 1 ≤ k ∧ k ≤ 6 := by
  unfold kind? at h
  cases hf : kindL.findIdx? (fun x => x == w) with
  | none => rw [hf] at h; cases h
  | some i =>
    rw [hf] at h
    have hk : i + 1 = k := by simpa using h
    obtain ⟨hi, hp, _⟩ := List.findIdx?_eq_some_iff_getElem.1 hf
    have hl : kindL.length = 6 := rfl
    refine ⟨?_, by omega, by omega⟩
    have : kindL[i] = w := by simpa using hp
    rw [← this, ← hk]
    unfold kw
    rw [Nat.add_sub_cancel, List.getD_eq_getElem?_getD, List.getElem?_eq_getElem hi]
    rfl

theorem words_line {k : Nat} (hk : 1 ≤ k ∧ k ≤ 6) {fs : List Fl} (h : ∀ f ∈ fs, (32 : UInt8) ∉ wtx f) : words (lineOf k fs) = bbW :: kw k :: fs.map wtx := by
  unfold lineOf
  refine words_join _ (by simp) fun w hw => ?_
  rcases List.mem_cons.1 hw with rfl | hw
  · decide
  rcases List.mem_cons.1 hw with rfl | hw
  · exact kw_clean hk
  obtain ⟨f, hf, rfl⟩ := List.mem_map.1 hw
  exact h f hf
theorem line_line {k : Nat} (hk : 1 ≤ k ∧ k ≤ 6) {fs : List Fl} (h : ∀ f ∈ fs, (32 : UInt8) ∉ wtx f) (h2 : ∀ f ∈ fs, (61 : UInt8) ∉ f.1) : line? (lineOf k fs) = if good k fs then some (dirOf k fs) else none := by
  unfold line?
  rw [words_line hk h]
  dsimp only
  rw [if_pos rfl, kind_kw hk]
  dsimp only
  unfold fields?
  rw [mapM_wtx h2]
/-- A line that is read is one of a kind's word and good fields. -/
theorem line_some {l : Tx} {d : Dir} (h : line? l = some d) : ∃ k fs, (1 ≤ k ∧ k ≤ 6) ∧ l = lineOf k fs ∧ words l = bbW :: kw k :: fs.map wtx ∧ (∀ f ∈ fs, (32 : UInt8) ∉ wtx f) ∧ (∀ f ∈ fs, (61 : UInt8) ∉ f.1) ∧ good k fs ∧ d = dirOf k fs := by
  unfold line? at h
  split at h
  · rename_i b w ws hw
    split at h
    · rename_i hb
      split at h
      · rename_i k hk
        unfold fields? at h
        split at h
        · rename_i fs hm
          split at h
          · rename_i hg
            obtain ⟨e1, e2⟩ := mapM_back hm
            obtain ⟨e3, e4⟩ := kind_some hk
            subst hb; subst e3; subst e1
            refine ⟨k, fs, e4, ?_, hw, ?_, e2, hg, (Option.some.inj h).symm⟩
            · unfold lineOf
              rw [← hw, join_words]
            · intro f hf
              refine words_clean l _ ?_
              rw [hw]
              simp only [List.mem_cons]
              exact .inr (.inr (List.mem_map.2 ⟨f, hf, rfl⟩))
          · cases h
        · cases h
      · cases h
    · cases h
  · cases h
theorem req_ne {k : Nat} (h : 1 ≤ k ∧ k ≤ 6) : req k ≠ [] := by
  have hc : k = 1 ∨ k = 2 ∨ k = 3 ∨ k = 4 ∨ k = 5 ∨ k = 6 := by omega
  rcases hc with rfl | rfl | rfl | rfl | rfl | rfl <;> decide
theorem good_ne {k : Nat} (h : 1 ≤ k ∧ k ≤ 6) {fs : List Fl} (hg : good k fs) : fs ≠ [] := by
  rintro rfl
  cases hr : req k with
  | nil => exact req_ne h hr
  | cons r rs =>
    have := hg.2.2 r (by rw [hr]; simp)
    simp [keys] at this

/-! ### the text of a directive -/
def fsOf (d : Dir) (sv : Tx) : List Fl := (if hasName d.kind then [(nameK, d.name)] else []) ++ (if hasSize d.kind then [(szK d.kind, sv)] else []) ++ (if hasPool d.kind then [(poolK, d.pool)] else []) ++ (if d.opn then [(accK, pubV)] else [])
def dtx (d : Dir) : Tx := lineOf d.kind (fsOf d (stxt d.size))

theorem name_clean {v : Tx} (h : isName v = true) : (32 : UInt8) ∉ v := by
  intro hm
  obtain ⟨j, hj, he⟩ := List.getElem_of_mem hm
  have := (name_bytes h j hj).1
  rw [he] at this
  exact this (by decide)
theorem name_lf {v : Tx} (h : isName v = true) : (10 : UInt8) ∉ v := by
  intro hm
  obtain ⟨j, hj, he⟩ := List.getElem_of_mem hm
  have := (name_bytes h j hj).2.2.1
  rw [he] at this
  exact this (by decide)
theorem name_len {v : Tx} (h : isName v = true) : v.length ≤ 32 := (name_one h).2.1

/-- Bytes of which neither is a blank or a line feed. -/
def plain (v : Tx) : Prop := (32 : UInt8) ∉ v ∧ (10 : UInt8) ∉ v
theorem plain_app {a b : Tx} (ha : plain a) (hb : plain b) : plain (a ++ b) :=
  ⟨fun h => (List.mem_append.1 h).elim ha.1 hb.1, fun h => (List.mem_append.1 h).elim ha.2 hb.2⟩
theorem plain_dec (n : Nat) : plain (decDigits n) := by
  constructor
  · intro h
    exact absurd (dec_dig n _ h) (by decide)
  · intro h
    exact absurd (dec_dig n _ h) (by decide)
theorem plain_nm {k : Nat} (h : k < 8) : plain (nm k) := by
  rcases lt8 h with rfl | rfl | rfl | rfl | rfl | rfl | rfl | rfl <;> (unfold plain; decide)
theorem plain_txt (n : Int) : plain (txt n) := by
  unfold txt
  split
  · exact plain_dec _
  · exact ⟨by simp, by simp⟩
theorem plain_stxt (n : Int) : plain (stxt n) := by
  by_cases h : 0 < n ∧ n ≤ 1099511627776
  · obtain ⟨m, rfl⟩ : ∃ m : Nat, n = (m : Int) := ⟨n.toNat, by omega⟩
    rcases stxt_cases (show 0 < m by omega) (show m ≤ top by unfold top; omega) with ⟨k, hk, _, e⟩ | e
    · rw [e]
      exact plain_app (plain_dec _) (plain_nm (by omega))
    · rw [e]
      exact plain_dec _
  · rw [stxt_out h]
    exact plain_txt n
theorem plain_name {v : Tx} (h : isName v = true) : plain v := ⟨name_clean h, name_lf h⟩

/-- A directive that may be, and the text of its size, or of another one. -/
structure Made (d : Dir) (sv : Tx) (n : Nat) : Prop where
  ok : chk d = true
  sv : hasSize d.kind = true → plain sv ∧ size? sv = some n ∧ 0 < n ∧ sv.length ≤ 20
theorem Made.mem {d : Dir} {sv : Tx} {n : Nat} {f : Fl} (hf : f ∈ fsOf d sv) :
    (hasName d.kind = true ∧ f = (nameK, d.name)) ∨ (hasSize d.kind = true ∧ f = (szK d.kind, sv)) ∨ (hasPool d.kind = true ∧ f = (poolK, d.pool)) ∨ (d.opn = true ∧ f = (accK, pubV)) := by
  unfold fsOf at hf
  cases h1 : hasName d.kind <;> cases h2 : hasSize d.kind <;> cases h3 : hasPool d.kind <;> cases h4 : d.opn <;> simp [h1, h2, h3, h4] at hf <;> simp [hf]
theorem szK_plain (k : Nat) : plain (szK k) ∧ (61 : UInt8) ∉ szK k := by
  rcases szK_cases k with h | h <;> rw [h] <;> (unfold plain; decide)
theorem Made.wtx {d : Dir} {sv : Tx} {n : Nat} (h : Made d sv n) {f : Fl} (hf : f ∈ fsOf d sv) : plain (wtx f) ∧ (61 : UInt8) ∉ f.1 ∧ (di.wtx f).length ≤ 50 := by
  obtain ⟨_, c1, _, c2, _, c4, _, _⟩ := (chk_iff d).1 h.ok
  have p61 : plain [61] := by unfold plain; decide
  have key : ∀ (a b : Tx), plain a → plain b → plain (di.wtx (a, b)) := fun a b ha hb => by
    show plain (a ++ ([61] ++ b))
    exact plain_app ha (plain_app p61 hb)
  rcases Made.mem (n := n) hf with ⟨e, rfl⟩ | ⟨e, rfl⟩ | ⟨e, rfl⟩ | ⟨e, rfl⟩
  · have hn := c2.1 e
    refine ⟨key _ _ (by unfold plain; decide) (plain_name hn), (show (61 : UInt8) ∉ nameK by decide), ?_⟩
    have := name_len hn
    show (nameK ++ 61 :: d.name).length ≤ 50
    rw [List.length_append, List.length_cons, show nameK.length = 4 from rfl]
    omega
  · obtain ⟨s1, s2, s3, s4⟩ := h.sv e
    refine ⟨key _ _ (szK_plain _).1 s1, (szK_plain _).2, ?_⟩
    show (szK d.kind ++ 61 :: sv).length ≤ 50
    have : (szK d.kind).length ≤ 8 := by rcases szK_cases d.kind with h | h <;> rw [h] <;> decide
    rw [List.length_append, List.length_cons]
    omega
  · have hn := c4.1 e
    refine ⟨key _ _ (by unfold plain; decide) (plain_name hn), (show (61 : UInt8) ∉ poolK by decide), ?_⟩
    have := name_len hn
    show (poolK ++ 61 :: d.pool).length ≤ 50
    rw [List.length_append, List.length_cons, show poolK.length = 4 from rfl]
    omega
  · exact ⟨key _ _ (by unfold plain; decide) (by unfold plain; decide), by decide, by decide⟩

theorem Made.good {d : Dir} {sv : Tx} {n : Nat} (h : Made d sv n) : good d.kind (fsOf d sv) ∧ dirOf d.kind (fsOf d sv) = { d with size := if hasSize d.kind then (n : Int) else d.size } := by
  obtain ⟨c0, c1, cz, c2, c3, c4, c5, c6⟩ := (chk_iff d).1 h.ok
  obtain ⟨k, nm, pl, z, o⟩ := d
  dsimp only at c0 c1 cz c2 c3 c4 c5 c6 ⊢
  have hs := h.sv
  dsimp only at hs
  have hk : k = 1 ∨ k = 2 ∨ k = 3 ∨ k = 4 ∨ k = 5 ∨ k = 6 := by omega
  have vn : hasName k = true → okv nameK nm = true := fun e => by rw [okv_name]; exact c2.1 e
  have vp : hasPool k = true → okv poolK pl = true := fun e => by rw [okv_pool]; exact c4.1 e
  have vs : hasSize k = true → okv (szK k) sv = true := fun e => by
    rw [okv_sz, (hs e).2.1, decide_eq_true_eq]
    exact (hs e).2.2.1
  have vz : hasSize k = true → (size? sv).getD 0 = n := fun e => by rw [(hs e).2.1]; rfl
  have zz : hasSize k = false → z = 0 := fun e => by
    have : ¬ 0 < z := fun h0 => by rw [c1.2 h0] at e; cases e
    omega
  have nn : hasName k = false → nm = [] := fun e => by rcases c3 with c3 | c3; rw [c3] at e; cases e; exact c3
  have pp : hasPool k = false → pl = [] := fun e => by rcases c5 with c5 | c5; rw [c5] at e; cases e; exact c5
  have vo : okv accK pubV = true := by decide
  have oo : k ≠ 4 → o = false := fun e => by rcases c6 with c6 | c6; exact c6; exact absurd c6 e
  unfold fsOf
  dsimp only
  rcases hk with rfl | rfl | rfl | rfl | rfl | rfl
  · have e1 := nn (by decide); have e5 := oo (by decide); have a1 := vs (by decide); have a2 := vp (by decide); have a3 := vz (by decide)
    subst e1; subst e5
    constructor
    · exact ⟨(show [capK, poolK].Nodup by decide), by
        intro f hf
        have hf' : f = (capK, sv) ∨ f = (poolK, pl) := by simpa [hasName, hasSize, hasPool, szK] using hf
        rcases hf' with rfl | rfl
        · exact ⟨(show allow 1 capK = true by decide), a1⟩
        · exact ⟨(show allow 1 poolK = true by decide), a2⟩, by
        intro r hr
        have hr' : r = capK ∨ r = poolK := by simpa [req, hasName, hasSize, hasPool, szK] using hr
        rcases hr' with rfl | rfl
        · exact (show capK ∈ [capK, poolK] by decide)
        · exact (show poolK ∈ [capK, poolK] by decide)⟩
    · show (⟨1, [], pl, (((size? sv).getD 0 : Nat) : Int), false⟩ : Dir) = ⟨1, [], pl, (n : Int), false⟩
      rw [a3]
  · have e1 := nn (by decide); have e2 := pp (by decide); have e5 := oo (by decide); have a1 := vs (by decide); have a3 := vz (by decide)
    subst e1; subst e2; subst e5
    constructor
    · exact ⟨(show [sizeK].Nodup by decide), by
        intro f hf
        have hf' : f = (sizeK, sv) := by simpa [hasName, hasSize, hasPool, szK] using hf
        subst hf'
        exact ⟨(show allow 2 sizeK = true by decide), a1⟩, by
        intro r hr
        have hr' : r = sizeK := by simpa [req, hasName, hasSize, hasPool, szK] using hr
        subst hr'
        exact (show sizeK ∈ [sizeK] by decide)⟩
    · show (⟨2, [], [], (((size? sv).getD 0 : Nat) : Int), false⟩ : Dir) = ⟨2, [], [], (n : Int), false⟩
      rw [a3]
  · have e1 := nn (by decide); have e2 := pp (by decide); have e5 := oo (by decide); have a1 := vs (by decide); have a3 := vz (by decide)
    subst e1; subst e2; subst e5
    constructor
    · exact ⟨(show [sizeK].Nodup by decide), by
        intro f hf
        have hf' : f = (sizeK, sv) := by simpa [hasName, hasSize, hasPool, szK] using hf
        subst hf'
        exact ⟨(show allow 3 sizeK = true by decide), a1⟩, by
        intro r hr
        have hr' : r = sizeK := by simpa [req, hasName, hasSize, hasPool, szK] using hr
        subst hr'
        exact (show sizeK ∈ [sizeK] by decide)⟩
    · show (⟨3, [], [], (((size? sv).getD 0 : Nat) : Int), false⟩ : Dir) = ⟨3, [], [], (n : Int), false⟩
      rw [a3]
  · have a0 := vn (by decide); have a1 := vs (by decide); have a2 := vp (by decide); have a3 := vz (by decide)
    cases o with
    | false =>
      constructor
      · exact ⟨(show [nameK, capK, poolK].Nodup by decide), by
          intro f hf
          have hf' : f = (nameK, nm) ∨ f = (capK, sv) ∨ f = (poolK, pl) := by simpa [hasName, hasSize, hasPool, szK] using hf
          rcases hf' with rfl | rfl | rfl
          · exact ⟨(show allow 4 nameK = true by decide), a0⟩
          · exact ⟨(show allow 4 capK = true by decide), a1⟩
          · exact ⟨(show allow 4 poolK = true by decide), a2⟩, by
          intro r hr
          have hr' : r = nameK ∨ r = capK ∨ r = poolK := by simpa [req, hasName, hasSize, hasPool, szK] using hr
          rcases hr' with rfl | rfl | rfl
          · exact (show nameK ∈ [nameK, capK, poolK] by decide)
          · exact (show capK ∈ [nameK, capK, poolK] by decide)
          · exact (show poolK ∈ [nameK, capK, poolK] by decide)⟩
      · show (⟨4, nm, pl, (((size? sv).getD 0 : Nat) : Int), false⟩ : Dir) = ⟨4, nm, pl, (n : Int), false⟩
        rw [a3]
    | true =>
      constructor
      · exact ⟨(show [nameK, capK, poolK, accK].Nodup by decide), by
          intro f hf
          have hf' : f = (nameK, nm) ∨ f = (capK, sv) ∨ f = (poolK, pl) ∨ f = (accK, pubV) := by simpa [hasName, hasSize, hasPool, szK] using hf
          rcases hf' with rfl | rfl | rfl | rfl
          · exact ⟨(show allow 4 nameK = true by decide), a0⟩
          · exact ⟨(show allow 4 capK = true by decide), a1⟩
          · exact ⟨(show allow 4 poolK = true by decide), a2⟩
          · exact ⟨(show allow 4 accK = true by decide), vo⟩, by
          intro r hr
          have hr' : r = nameK ∨ r = capK ∨ r = poolK := by simpa [req, hasName, hasSize, hasPool, szK] using hr
          rcases hr' with rfl | rfl | rfl
          · exact (show nameK ∈ [nameK, capK, poolK, accK] by decide)
          · exact (show capK ∈ [nameK, capK, poolK, accK] by decide)
          · exact (show poolK ∈ [nameK, capK, poolK, accK] by decide)⟩
      · show (⟨4, nm, pl, (((size? sv).getD 0 : Nat) : Int), true⟩ : Dir) = ⟨4, nm, pl, (n : Int), true⟩
        rw [a3]
  · have e2 := pp (by decide); have e3 := zz (by decide); have e5 := oo (by decide); have a0 := vn (by decide)
    subst e2; subst e3; subst e5
    constructor
    · exact ⟨(show [nameK].Nodup by decide), by
        intro f hf
        have hf' : f = (nameK, nm) := by simpa [hasName, hasSize, hasPool, szK] using hf
        subst hf'
        exact ⟨(show allow 5 nameK = true by decide), a0⟩, by
        intro r hr
        have hr' : r = nameK := by simpa [req, hasName, hasSize, hasPool, szK] using hr
        subst hr'
        exact (show nameK ∈ [nameK] by decide)⟩
    · rfl
  · have e2 := pp (by decide); have e3 := zz (by decide); have e5 := oo (by decide); have a0 := vn (by decide)
    subst e2; subst e3; subst e5
    constructor
    · exact ⟨(show [nameK].Nodup by decide), by
        intro f hf
        have hf' : f = (nameK, nm) := by simpa [hasName, hasSize, hasPool, szK] using hf
        subst hf'
        exact ⟨(show allow 6 nameK = true by decide), a0⟩, by
        intro r hr
        have hr' : r = nameK := by simpa [req, hasName, hasSize, hasPool, szK] using hr
        subst hr'
        exact (show nameK ∈ [nameK] by decide)⟩
    · rfl
end Go.Proofs.YtpmghgfgbkncoaaGreatDoor.di
end
section
set_option linter.unusedVariables false
namespace Go.Proofs.YtpmghgfgbkncoaaGreatDoor.di
open Go.Proofs.YtpmghgfgbkncoaaGreatDoor.un
open Go.Lib (decDigits)

theorem joinW_snoc : ∀ (L : List Tx) (x : Tx), L ≠ [] → joinW (L ++ [x]) = joinW L ++ 32 :: x
  | [], _, h => absurd rfl h
  | [a], x, _ => rfl
  | a :: b :: r, x, _ => by
    rw [List.cons_append, joinW_cons a (by simp), joinW_snoc (b :: r) x (by simp), joinW_cons a (by simp), List.append_assoc]
    rfl
theorem words_two : ∀ (a r : Tx), words (a ++ 32 :: r) = words a ++ words r
  | [], r => words_bl r
  | b :: a, r => by
    have ih := words_two a r
    by_cases hb : b = 32
    · subst hb
      show words (32 :: (a ++ 32 :: r)) = words (32 :: a) ++ words r
      rw [words_bl, words_bl, ih]
      rfl
    · show words (b :: (a ++ 32 :: r)) = words (b :: a) ++ words r
      rw [words_nb hb, words_nb hb, ih]
      cases hw : words a with
      | nil => exact absurd hw (words_ne a)
      | cons h t => rfl
theorem mapM_snoc : ∀ (ws : List Tx) (x : Tx), (ws ++ [x]).mapM cut = match ws.mapM cut, cut x with
    | some fs, some f => some (fs ++ [f])
    | _, _ => none
  | [], x => by
    rw [List.nil_append, List.mapM_cons]
    cases cut x <;> rfl
  | w :: ws, x => by
    rw [List.cons_append, List.mapM_cons, mapM_snoc ws x, List.mapM_cons]
    cases cut w with
    | none => rfl
    | some f =>
      cases ws.mapM cut with
      | none => rfl
      | some fs => cases cut x <;> rfl

/-! ### a text that was written -/
theorem Made.line {d : Dir} {sv : Tx} {n : Nat} (h : Made d sv n) : line? (lineOf d.kind (fsOf d sv)) = some { d with size := if hasSize d.kind then (n : Int) else d.size } := by
  obtain ⟨c0, _⟩ := (chk_iff d).1 h.ok
  rw [line_line c0 (fun f hf => (h.wtx hf).1.1) (fun f hf => (h.wtx hf).2.1), if_pos h.good.1, h.good.2]
theorem made_text {d : Dir} (h : chk d = true) : Made d (stxt d.size) d.size.toNat := by
  refine ⟨h, fun hs => ?_⟩
  obtain ⟨c0, c1, cz, _⟩ := (chk_iff d).1 h
  have hp := c1.1 hs
  obtain ⟨m, hm⟩ : ∃ m : Nat, d.size = (m : Int) := ⟨d.size.toNat, by omega⟩
  rw [hm]
  refine ⟨plain_stxt _, ?_, by simp; omega, Nat.le_trans (stxt_len _) (by decide)⟩
  rw [Int.toNat_natCast]
  exact size_stxt (by unfold top; omega)
theorem text_read {d : Dir} (h : chk d = true) : line? (dtx d) = some d := by
  have hl := (made_text h).line
  unfold dtx
  rw [hl]
  obtain ⟨c0, c1, cz, _⟩ := (chk_iff d).1 h
  cases hs : hasSize d.kind with
  | false => simp
  | true => simp; cases d; simp at cz ⊢; omega
theorem made_kib {d : Dir} (h : chk d = true) (h0 : d.size ≤ 1073741824) : Made d (decDigits d.size.toNat ++ nm 3) (d.size.toNat * 1024) := by
  refine ⟨h, fun hs => ?_⟩
  obtain ⟨c0, c1, cz, _⟩ := (chk_iff d).1 h
  have hp := c1.1 hs
  have ht : d.size.toNat ≤ top := by unfold top; omega
  refine ⟨plain_app (plain_dec _) (plain_nm (by decide)), ?_, by omega, ?_⟩
  · rw [size_unit (by decide) ht, if_pos]
    · rfl
    · show d.size.toNat ≤ 1099511627776 / 1024
      omega
  · rw [List.length_append]
    have := dec_len ht
    have := nm_len (show 3 < 8 by decide)
    omega
theorem kib_read {d : Dir} (h : chk d = true) (hs : hasSize d.kind = true) (h0 : d.size ≤ 1073741824) : line? (lineOf d.kind (fsOf d (decDigits d.size.toNat ++ nm 3))) = some { d with size := d.size * 1024 } := by
  rw [(made_kib h h0).line, if_pos hs]
  obtain ⟨c0, c1, cz, _⟩ := (chk_iff d).1 h
  have : ((d.size.toNat * 1024 : Nat) : Int) = d.size * 1024 := by omega
  rw [this]

theorem joinW_len : ∀ (L : List Tx) (m : Nat), (∀ w ∈ L, w.length ≤ m) → (joinW L).length ≤ L.length * (m + 1)
  | [], m, _ => by simp [joinW]
  | [a], m, h => by
    have := h a (by simp)
    show a.length ≤ 1 * (m + 1)
    omega
  | a :: b :: r, m, h => by
    have h1 := h a (by simp)
    have h2 := joinW_len (b :: r) m fun w hw => h w (by simp [hw])
    rw [joinW_cons a (by simp), List.length_append, List.length_cons, List.length_cons (a := a), Nat.add_mul]
    omega
theorem kw_len {k : Nat} (h : 1 ≤ k ∧ k ≤ 6) : (kw k).length ≤ 50 := by
  have hc : k = 1 ∨ k = 2 ∨ k = 3 ∨ k = 4 ∨ k = 5 ∨ k = 6 := by omega
  rcases hc with rfl | rfl | rfl | rfl | rfl | rfl <;> decide
theorem Made.len {d : Dir} {sv : Tx} {n : Nat} (h : Made d sv n) : (lineOf d.kind (fsOf d sv)).length ≤ 306 := by
  obtain ⟨c0, _⟩ := (chk_iff d).1 h.ok
  unfold lineOf
  have hl := joinW_len (bbW :: kw d.kind :: (fsOf d sv).map di.wtx) 50 fun w hw => by
    rcases List.mem_cons.1 hw with rfl | hw
    · decide
    rcases List.mem_cons.1 hw with rfl | hw
    · exact kw_len c0
    obtain ⟨f, hf, rfl⟩ := List.mem_map.1 hw
    exact (h.wtx hf).2.2
  have h4 : (fsOf d sv).length ≤ 4 := by
    unfold fsOf
    cases hasName d.kind <;> cases hasSize d.kind <;> cases hasPool d.kind <;> cases d.opn <;> simp
  rw [List.length_cons, List.length_cons, List.length_map] at hl
  have : ((fsOf d sv).length + 1 + 1) * (50 + 1) ≤ 6 * 51 := Nat.mul_le_mul_right _ (by omega)
  omega

/-- No line feed, and no blank behind a blank: p is the byte ahead. -/
def neat : UInt8 → Tx → Bool
  | _, [] => true
  | p, b :: r => decide (b ≠ 10) && !(decide (b = 32) && decide (p = 32)) && neat b r
theorem neat_plain : ∀ (a : Tx) (p : UInt8) (r : Tx), plain a → a ≠ [] → neat p (a ++ 32 :: r) = neat 32 r
  | [], _, _, _, h => absurd rfl h
  | [b], p, r, h, _ => by
    have h1 : b ≠ 32 := fun e => h.1 (by simp [e])
    have h2 : b ≠ 10 := fun e => h.2 (by simp [e])
    show neat p (b :: 32 :: r) = _
    simp [neat, h1, h2]
  | b :: c :: a, p, r, h, _ => by
    have h1 : b ≠ 32 := fun e => h.1 (by simp [e])
    have h2 : b ≠ 10 := fun e => h.2 (by simp [e])
    have hp : plain (c :: a) := ⟨fun e => h.1 (List.mem_cons_of_mem _ e), fun e => h.2 (List.mem_cons_of_mem _ e)⟩
    have ih := neat_plain (c :: a) b r hp (by simp)
    show neat p (b :: (c :: a ++ 32 :: r)) = _
    rw [neat, ih]
    simp [h1, h2]
theorem neat_end : ∀ (a : Tx) (p : UInt8), plain a → neat p a = true
  | [], _, _ => rfl
  | b :: a, p, h => by
    have h1 : b ≠ 32 := fun e => h.1 (by simp [e])
    have h2 : b ≠ 10 := fun e => h.2 (by simp [e])
    have ih := neat_end a b ⟨fun e => h.1 (List.mem_cons_of_mem _ e), fun e => h.2 (List.mem_cons_of_mem _ e)⟩
    rw [neat, ih]
    simp [h1, h2]
theorem neat_join : ∀ (L : List Tx) (p : UInt8), (∀ w ∈ L, plain w ∧ w ≠ []) → neat p (joinW L) = true
  | [], _, _ => rfl
  | [a], p, h => neat_end a p (h a (by simp)).1
  | a :: b :: r, p, h => by
    rw [joinW_cons a (by simp), neat_plain a p _ (h a (by simp)).1 (h a (by simp)).2]
    exact neat_join (b :: r) 32 fun w hw => h w (by simp [hw])
theorem kw_plain {k : Nat} (h : 1 ≤ k ∧ k ≤ 6) : plain (kw k) ∧ kw k ≠ [] := by
  have hc : k = 1 ∨ k = 2 ∨ k = 3 ∨ k = 4 ∨ k = 5 ∨ k = 6 := by omega
  rcases hc with rfl | rfl | rfl | rfl | rfl | rfl <;> (unfold plain; decide)
theorem text_neat {d : Dir} (h : chk d = true) (p : UInt8) : neat p (dtx d) = true := by
  obtain ⟨c0, _⟩ := (chk_iff d).1 h
  unfold dtx lineOf
  refine neat_join _ _ fun w hw => ?_
  rcases List.mem_cons.1 hw with rfl | hw
  · unfold plain; decide
  rcases List.mem_cons.1 hw with rfl | hw
  · exact kw_plain c0
  obtain ⟨f, hf, rfl⟩ := List.mem_map.1 hw
  refine ⟨((made_text h).wtx hf).1, ?_⟩
  unfold wtx
  simp

/-! ### the fields in another order; one less; one twice; a blank more -/
theorem line_rev {l : Tx} {d : Dir} {k : Nat} {fs : List Fl} (hk : 1 ≤ k ∧ k ≤ 6) (h1 : ∀ f ∈ fs, (32 : UInt8) ∉ wtx f) (h2 : ∀ f ∈ fs, (61 : UInt8) ∉ f.1) (hg : good k fs) :
    line? (lineOf k fs.reverse) = some (dirOf k fs) := by
  have hp : fs.Perm fs.reverse := (List.reverse_perm fs).symm
  rw [line_line hk (fun f hf => h1 f (by simpa using hf)) (fun f hf => h2 f (by simpa using hf)), if_pos (good_perm hp hg), dirOf_perm hp hg.1]
theorem allow_req {k : Nat} {key : Tx} (h : allow k key = true) (hn : key ≠ accK) : key ∈ req k := by
  unfold allow at h
  simp only [Bool.or_eq_true, Bool.and_eq_true, beq_iff_eq] at h
  rcases h with ((h | h) | h) | h
  · exact mem_req.2 (.inr (.inl h))
  · exact mem_req.2 (.inl h)
  · exact mem_req.2 (.inr (.inr h))
  · exact absurd h.2 hn
theorem acc_req (k : Nat) : accK ∉ req k := by
  obtain ⟨_, _, n3⟩ := sz_ne k
  intro h
  rcases mem_req.1 h with ⟨_, e⟩ | ⟨_, e⟩ | ⟨_, e⟩
  · exact absurd e (by decide)
  · exact n3 e.symm
  · exact absurd e (by decide)
/-- A row with one field parted from the others. -/
theorem line_less {k : Nat} {as bs : List Fl} {f : Fl} (hk : 1 ≤ k ∧ k ≤ 6) (h1 : ∀ g ∈ as ++ f :: bs, (32 : UInt8) ∉ wtx g) (h2 : ∀ g ∈ as ++ f :: bs, (61 : UInt8) ∉ g.1) (hg : good k (as ++ f :: bs)) :
    line? (lineOf k (as ++ bs)) = if f.1 = accK then some { dirOf k (as ++ f :: bs) with opn := false } else none := by
  have hsub : ∀ g, g ∈ as ++ bs → g ∈ as ++ f :: bs := fun g hg => by
    rcases List.mem_append.1 hg with h | h
    · exact List.mem_append_left _ h
    · exact List.mem_append_right _ (List.mem_cons_of_mem _ h)
  rw [line_line hk (fun g hg => h1 g (hsub g hg)) (fun g hg => h2 g (hsub g hg))]
  obtain ⟨g1, g2, g3⟩ := hg
  have hkeys : keys (as ++ f :: bs) = keys as ++ f.1 :: keys bs := by simp [keys]
  have hkeys2 : keys (as ++ bs) = keys as ++ keys bs := by simp [keys]
  have hnd := g1
  rw [hkeys] at hnd
  have hperm : (keys as ++ f.1 :: keys bs).Perm (f.1 :: (keys as ++ keys bs)) := List.perm_middle
  have hnd2 := hperm.nodup_iff.1 hnd
  rw [List.nodup_cons] at hnd2
  by_cases hf : f.1 = accK
  · rw [if_pos hf]
    have hgood : good k (as ++ bs) := by
      refine ⟨by rw [hkeys2]; exact hnd2.2, fun g hg => g2 g (hsub g hg), fun r hr => ?_⟩
      have := g3 r hr
      rw [hkeys] at this
      rw [hkeys2]
      rcases List.mem_cons.1 (hperm.mem_iff.1 this) with e | e
      · exact absurd (by rw [e, hf] at hr; exact hr) (acc_req k)
      · exact e
    rw [if_pos hgood]
    have hp : (as ++ f :: bs).Perm ((as ++ bs) ++ [f]) := by
      refine List.perm_middle.trans ?_
      exact (List.perm_append_comm (l₁ := [f]) (l₂ := as ++ bs))
    rw [dirOf_perm hp g1]
    have hn : f.1 ∉ keys (as ++ bs) := by rw [hkeys2]; exact hnd2.1
    obtain ⟨_, _, n3⟩ := sz_ne k
    unfold dirOf
    rw [look_snoc hn, look_snoc hn, look_snoc hn, hf, if_neg (by decide), if_neg (by decide), if_neg (Ne.symm n3), look_none (key := accK) (by rw [← hf]; exact hn)]
    rfl
  · rw [if_neg hf, if_neg]
    intro hgood
    have := hgood.2.2 f.1 (allow_req (g2 f (by simp)).1 hf)
    rw [hkeys2] at this
    exact hnd2.1 this
theorem line_twice {l : Tx} {k : Nat} {fs : List Fl} {f : Fl} (hw : words l = bbW :: kw k :: fs.map wtx) (hk : 1 ≤ k ∧ k ≤ 6) (h1 : ∀ g ∈ fs, (32 : UInt8) ∉ wtx g) (h2 : ∀ g ∈ fs, (61 : UInt8) ∉ g.1) (hf : f ∈ fs) : line? (l ++ 32 :: wtx f) = none := by
  unfold line?
  rw [words_two, hw, words_one _ (h1 f hf)]
  show (match bbW :: kw k :: (fs.map wtx ++ [wtx f]) with
    | b :: w :: ws => if b = bbW then match kind? w with
      | some k => fields? k ws
      | none => none
      else none
    | _ => none) = none
  dsimp only
  rw [if_pos rfl, kind_kw hk]
  dsimp only
  unfold fields?
  rw [mapM_snoc, mapM_wtx h2, cut_wtx (h2 f hf)]
  dsimp only
  rw [if_neg]
  rintro ⟨g1, _⟩
  rw [keys_snoc, List.nodup_append] at g1
  exact g1.2.2 f.1 (List.mem_map.2 ⟨f, hf, rfl⟩) f.1 (by simp) rfl
theorem line_blank {l : Tx} {k : Nat} {fs : List Fl} (hw : words l = bbW :: kw k :: fs.map wtx) (hk : 1 ≤ k ∧ k ≤ 6) : line? (l ++ [32]) = none := by
  unfold line?
  rw [words_two, hw]
  show (match bbW :: kw k :: (fs.map wtx ++ [[]]) with
    | b :: w :: ws => if b = bbW then match kind? w with
      | some k => fields? k ws
      | none => none
      else none
    | _ => none) = none
  dsimp only
  rw [if_pos rfl, kind_kw hk]
  dsimp only
  unfold fields?
  rw [mapM_snoc]
  cases (fs.map wtx).mapM cut <;> rfl
end Go.Proofs.YtpmghgfgbkncoaaGreatDoor.di
end
section
set_option linter.unusedVariables false
namespace Go.Proofs.YtpmghgfgbkncoaaGreatDoor.sp
open Go.Proofs.YtpmghgfgbkncoaaGreatDoor.un
open Go.Proofs.YtpmghgfgbkncoaaGreatDoor.di

/-! ### a text, between a byte -/
def cuts (c : UInt8) : Tx → List Tx
  | [] => [[]]
  | b :: r => if b = c then [] :: cuts c r else match cuts c r with
    | h :: t => (b :: h) :: t
    | [] => [[b]]
theorem cuts_bl (c : UInt8) (r : Tx) : cuts c (c :: r) = [] :: cuts c r := by rw [cuts, if_pos rfl]
theorem cuts_nb {c b : UInt8} (h : b ≠ c) (r : Tx) : cuts c (b :: r) = match cuts c r with
    | h :: t => (b :: h) :: t
    | [] => [[b]] := by rw [cuts, if_neg h]
theorem cuts_ne (c : UInt8) : ∀ l : Tx, cuts c l ≠ []
  | [] => by simp [cuts]
  | b :: r => by
    unfold cuts
    split
    · simp
    · split <;> simp
theorem words_cuts : ∀ l : Tx, words l = cuts 32 l
  | [] => rfl
  | b :: r => by
    rw [words, cuts, words_cuts r]
    all_goals (split <;> first | rfl | (cases cuts 32 r <;> rfl))
def joinC (c : UInt8) : List Tx → Tx
  | [] => []
  | [a] => a
  | a :: b :: r => a ++ c :: joinC c (b :: r)
theorem joinC_cons (c : UInt8) (a : Tx) {L : List Tx} (h : L ≠ []) : joinC c (a :: L) = a ++ c :: joinC c L := by
  cases L with
  | nil => exact absurd rfl h
  | cons b r => rfl
theorem joinW_C : ∀ L : List Tx, joinW L = joinC 32 L
  | [] => rfl
  | [a] => rfl
  | a :: b :: r => by rw [joinW_cons a (by simp), joinC_cons 32 a (by simp), joinW_C (b :: r)]
theorem join_cuts (c : UInt8) : ∀ l : Tx, joinC c (cuts c l) = l
  | [] => rfl
  | b :: r => by
    have ih := join_cuts c r
    unfold cuts
    by_cases hb : b = c
    · rw [if_pos hb, joinC_cons c [] (cuts_ne c r), ih, hb]
      rfl
    · rw [if_neg hb]
      cases hw : cuts c r with
      | nil => exact absurd hw (cuts_ne c r)
      | cons h t =>
        rw [hw] at ih
        dsimp only
        cases t with
        | nil => rw [← ih]; rfl
        | cons d t =>
          rw [← ih]
          rfl
theorem cuts_clean (c : UInt8) : ∀ (l : Tx) (w : Tx), w ∈ cuts c l → c ∉ w
  | [], w, h => by
    simp [cuts] at h
    subst h
    simp
  | b :: r, w, h => by
    have ih := cuts_clean c r
    unfold cuts at h
    by_cases hb : b = c
    · rw [if_pos hb] at h
      rcases List.mem_cons.1 h with rfl | h
      · simp
      · exact ih w h
    · rw [if_neg hb] at h
      cases hw : cuts c r with
      | nil => exact absurd hw (cuts_ne c r)
      | cons x t =>
        rw [hw] at h ih
        dsimp only at h
        rcases List.mem_cons.1 h with rfl | h
        · have := ih x (by simp)
          simp only [List.mem_cons, not_or]
          exact ⟨fun e => hb e.symm, this⟩
        · exact ih w (by simp [h])
theorem cuts_app (c : UInt8) : ∀ (a : Tx) (r : Tx), c ∉ a → cuts c (a ++ c :: r) = a :: cuts c r
  | [], r, _ => cuts_bl c r
  | b :: a, r, h => by
    simp only [List.mem_cons, not_or] at h
    have ih := cuts_app c a r h.2
    show cuts c (b :: (a ++ c :: r)) = _
    rw [cuts_nb (fun e => h.1 e.symm), ih]
theorem cuts_one (c : UInt8) : ∀ (a : Tx), c ∉ a → cuts c a = [a]
  | [], _ => rfl
  | b :: a, h => by
    simp only [List.mem_cons, not_or] at h
    rw [cuts_nb (fun e => h.1 e.symm), cuts_one c a h.2]
theorem cuts_join (c : UInt8) : ∀ (L : List Tx), L ≠ [] → (∀ w ∈ L, c ∉ w) → cuts c (joinC c L) = L
  | [], h, _ => absurd rfl h
  | [a], _, h => cuts_one c a (h a (by simp))
  | a :: b :: r, _, h => by
    rw [joinC_cons c a (by simp), cuts_app c a _ (h a (by simp)), cuts_join c (b :: r) (by simp) (fun w hw => h w (by simp [hw]))]
theorem joinC_snoc (c : UInt8) : ∀ (L : List Tx) (x : Tx), L ≠ [] → joinC c (L ++ [x]) = joinC c L ++ c :: x
  | [], _, h => absurd rfl h
  | [a], x, _ => rfl
  | a :: b :: r, x, _ => by
    rw [List.cons_append, joinC_cons c a (by simp), joinC_snoc c (b :: r) x (by simp), joinC_cons c a (by simp), List.append_assoc]
    rfl
theorem cuts_two (c : UInt8) : ∀ (a r : Tx), cuts c (a ++ c :: r) = cuts c a ++ cuts c r
  | [], r => cuts_bl c r
  | b :: a, r => by
    have ih := cuts_two c a r
    by_cases hb : b = c
    · subst hb
      show cuts b (b :: (a ++ b :: r)) = cuts b (b :: a) ++ cuts b r
      rw [cuts_bl, cuts_bl, ih]
      rfl
    · show cuts c (b :: (a ++ c :: r)) = cuts c (b :: a) ++ cuts c r
      rw [cuts_nb hb, cuts_nb hb, ih]
      cases hw : cuts c a with
      | nil => exact absurd hw (cuts_ne c a)
      | cons h t => rfl
theorem joinC_len (c : UInt8) : ∀ (L : List Tx) (m : Nat), (∀ w ∈ L, w.length ≤ m) → (joinC c L).length ≤ L.length * (m + 1)
  | [], m, _ => by simp [joinC]
  | [a], m, h => by
    have := h a (by simp)
    simp [joinC]
    omega
  | a :: b :: r, m, h => by
    have h1 := h a (by simp)
    have h2 := joinC_len c (b :: r) m fun w hw => h w (by simp [hw])
    rw [joinC_cons c a (by simp), List.length_append, List.length_cons, List.length_cons (a := a), Nat.add_mul]
    omega
/-- What stands ahead of the first of a byte, and behind it. -/
def cutB (c : UInt8) : Tx → Option (Tx × Tx)
  | [] => none
  | b :: r => if b = c then some ([], r) else (cutB c r).map fun p => (b :: p.1, p.2)
theorem cut_B : ∀ l : Tx, cut l = cutB 61 l
  | [] => rfl
  | b :: r => by
    unfold cut cutB
    rw [cut_B r]
theorem cutB_at (c : UInt8) : ∀ (k v : Tx), c ∉ k → cutB c (k ++ c :: v) = some (k, v)
  | [], v, _ => by
    show cutB c (c :: v) = _
    unfold cutB
    rw [if_pos rfl]
  | b :: k, v, h => by
    simp only [List.mem_cons, not_or] at h
    show cutB c (b :: (k ++ c :: v)) = _
    unfold cutB
    rw [if_neg (fun e => h.1 e.symm), cutB_at c k v h.2]
    rfl

/-! ### slips -/
structure Slip where
  user : Tx
  nodes : Int
  wall : Int
  qos : Int
  after : List (Int × Bool)
  cap : Int
  inn : Int
  out : Int
  pool : Tx
  make : List Dir
  drop : List Tx
  use : List Tx
deriving DecidableEq
def Slip.zero : Slip := ⟨[], 0, 0, 0, [], 0, 0, 0, [], [], [], []⟩

def jobW : Tx := [106, 111, 98]
def userK : Tx := [117, 115, 101, 114]
def nodesK : Tx := [110, 111, 100, 101, 115]
def wallK : Tx := [119, 97, 108, 108]
def qosK : Tx := [113, 111, 115]
def afterK : Tx := [97, 102, 116, 101, 114]
def okW : Tx := [111, 107]
def anyW : Tx := [97, 110, 121]
/-- A number's text, within bounds. -/
def within? (s : Tx) (a b : Nat) : Option Nat := match num? s with
  | some n => if a ≤ n ∧ n ≤ b then some n else none
  | none => none
def dep? (p : Tx) : Option (Int × Bool) := match cutB 58 p with
  | some f => match within? f.2 1 1073741824 with
    | some n => if f.1 = okW ∨ f.1 = anyW then some ((n : Int), decide (f.1 = anyW)) else none
    | none => none
  | none => none
/-- A field of the first line. -/
def fput (x : Slip) (f : Fl) : Option Slip :=
  if f.1 = userK then some { x with user := f.2 }
  else if f.1 = nodesK then (within? f.2 1 64).map fun n => { x with nodes := (n : Int) }
  else if f.1 = wallK then (within? f.2 1 1048576).map fun n => { x with wall := (n : Int) }
  else if f.1 = qosK then (within? f.2 0 9).map fun n => { x with qos := (n : Int) }
  else if f.1 = afterK then ((cuts 44 f.2).mapM dep?).map fun l => { x with after := l }
  else none
def frun : Slip × List Tx → List Tx → Option (Slip × List Tx)
  | s, [] => some s
  | s, w :: ws => match cut w with
    | none => none
    | some f => if f.1 ∈ s.2 then none else match fput s.1 f with
      | none => none
      | some x => frun (x, s.2 ++ [f.1]) ws
def first? (l : Tx) : Option Slip := match cuts 32 l with
  | j :: ws => if j = jobW then match frun (Slip.zero, []) ws with
    | some s => if userK ∈ s.2 ∧ nodesK ∈ s.2 ∧ wallK ∈ s.2 then some s.1 else none
    | none => none
    else none
  | [] => none
/-- A line that must be a directive's. -/
def isD (l : Tx) : Bool := decide (l = bbW) || ([35, 66, 66, 32] : Tx).isPrefixOf l
def put (x : Slip) (d : Dir) : Slip :=
  if d.kind = 1 then { x with cap := d.size, pool := d.pool }
  else if d.kind = 2 then { x with inn := d.size }
  else if d.kind = 3 then { x with out := d.size }
  else if d.kind = 4 then { x with make := x.make ++ [d] }
  else if d.kind = 5 then { x with drop := x.drop ++ [d.name] }
  else if d.kind = 6 then { x with use := x.use ++ [d.name] }
  else x
/-- The lines behind the first one: the slip, or the first error and its line. -/
def lrun : Slip × List Nat → Nat → List Tx → Except (Int × Nat) (Slip × List Nat)
  | s, _, [] => .ok s
  | s, i, l :: r => if isD l = true then
      if lerr l ≠ 0 then .error (lerr l, i)
      else if (ldir l).kind ≤ 3 ∧ (ldir l).kind ∈ s.2 then .error (150, i)
      else lrun (put s.1 (ldir l), (ldir l).kind :: s.2) (i + 1) r
    else lrun s (i + 1) r
def nameL (l : List Tx) : Prop := l.length ≤ 4 ∧ l.Nodup ∧ ∀ n ∈ l, isName n = true
instance (l : List Tx) : Decidable (nameL l) := by unfold nameL; infer_instance
/-- May a slip be? -/
def chkS (x : Slip) : Bool := decide (isName x.user = true ∧ (1 ≤ x.nodes ∧ x.nodes ≤ 64) ∧ (1 ≤ x.wall ∧ x.wall ≤ 1048576) ∧ (0 ≤ x.qos ∧ x.qos ≤ 9)
  ∧ (x.after.length ≤ 8 ∧ (x.after.map (·.1)).Nodup ∧ ∀ d ∈ x.after, 1 ≤ d.1 ∧ d.1 ≤ 1073741824)
  ∧ (0 ≤ x.cap ∧ x.cap ≤ 1099511627776) ∧ (x.cap = 0 → x.pool = []) ∧ (x.cap ≠ 0 → isName x.pool = true)
  ∧ (0 ≤ x.inn ∧ x.inn ≤ x.cap) ∧ (0 ≤ x.out ∧ x.out ≤ x.cap)
  ∧ (∀ d ∈ x.make, d.kind = 4 ∧ chk d = true) ∧ nameL (x.make.map (·.name)) ∧ nameL x.drop ∧ nameL x.use ∧ ∀ d ∈ x.make, d.name ∉ x.use)
/-- What a text denotes: the slip, the error, its line. -/
def sread (s : Tx) : Slip × Int × Nat := if 10000 < s.length then (Slip.zero, 3, 0) else match cuts 10 s with
  | [] => (Slip.zero, 150, 1)
  | l :: r => match first? l with
    | none => (Slip.zero, 150, 1)
    | some x => match lrun (x, []) 2 r with
      | .error e => (Slip.zero, e.1, e.2)
      | .ok st => if chkS st.1 = true then (st.1, 0, 0) else (Slip.zero, 150, r.length + 1)
/-! ### the text -/
def depT (d : Int × Bool) : Tx := (if d.2 = true then anyW else okW) ++ 58 :: txt d.1
def fsS (x : Slip) : List Fl := [(userK, x.user), (nodesK, txt x.nodes), (wallK, txt x.wall)] ++ (if 0 < x.qos then [(qosK, txt x.qos)] else []) ++ (if x.after = [] then [] else [(afterK, joinC 44 (x.after.map depT))])
def line1 (x : Slip) : Tx := joinC 32 (jobW :: (fsS x).map wtx)
def dirsS (x : Slip) : List Dir := (if 0 < x.cap then [⟨1, [], x.pool, x.cap, false⟩] else []) ++ (if 0 < x.inn then [⟨2, [], [], x.inn, false⟩] else []) ++ (if 0 < x.out then [⟨3, [], [], x.out, false⟩] else [])
  ++ x.make ++ x.drop.map (fun n => ⟨5, n, [], 0, false⟩) ++ x.use.map (fun n => ⟨6, n, [], 0, false⟩)
def txtS (x : Slip) : Tx := joinC 10 (line1 x :: (dirsS x).map dtx)
end Go.Proofs.YtpmghgfgbkncoaaGreatDoor.sp
end
section
set_option linter.unusedVariables false
namespace Go.Proofs.YtpmghgfgbkncoaaGreatDoor.sp
open Go.Proofs.YtpmghgfgbkncoaaGreatDoor.un
open Go.Proofs.YtpmghgfgbkncoaaGreatDoor.di
open Go.Lib (decDigits)

theorem frun_cons {x : Slip} {seen : List Tx} {f : Fl} {ws : List Tx} (h : (61 : UInt8) ∉ f.1) : frun (x, seen) (wtx f :: ws) = if f.1 ∈ seen then none else match fput x f with
    | none => none
    | some y => frun (y, seen ++ [f.1]) ws := by
  rw [frun, cut_wtx h]
  all_goals rfl
theorem within_txt {n : Int} {a b : Nat} (h0 : (a : Int) ≤ n) (h1 : n ≤ b) (hb : b ≤ 1099511627776) : within? (txt n) a b = some n.toNat := by
  obtain ⟨m, rfl⟩ : ∃ m : Nat, n = (m : Int) := ⟨n.toNat, by omega⟩
  unfold within?
  rw [txt_in (show m ≤ top by unfold top; omega), num_dec (show m ≤ top by unfold top; omega)]
  dsimp only
  rw [if_pos ⟨by omega, by omega⟩]
  rfl
theorem toNat_back {n : Int} (h : 0 ≤ n) : ((n.toNat : Nat) : Int) = n := by omega
theorem fput_user (x : Slip) (v : Tx) : fput x (userK, v) = some { x with user := v } := rfl
theorem fput_nodes (x : Slip) {n : Int} (h0 : 1 ≤ n) (h1 : n ≤ 64) : fput x (nodesK, txt n) = some { x with nodes := n } := by
  unfold fput
  rw [if_neg (by first | decide | (dsimp only; decide)), if_pos rfl, within_txt (a := 1) (b := 64) h0 h1 (by decide)]
  show some { x with nodes := ((n.toNat : Nat) : Int) } = _
  rw [toNat_back (by omega)]
theorem fput_wall (x : Slip) {n : Int} (h0 : 1 ≤ n) (h1 : n ≤ 1048576) : fput x (wallK, txt n) = some { x with wall := n } := by
  unfold fput
  rw [if_neg (by first | decide | (dsimp only; decide)), if_neg (by first | decide | (dsimp only; decide)), if_pos rfl, within_txt (a := 1) (b := 1048576) h0 h1 (by decide)]
  show some { x with wall := ((n.toNat : Nat) : Int) } = _
  rw [toNat_back (by omega)]
theorem fput_qos (x : Slip) {n : Int} (h0 : 0 ≤ n) (h1 : n ≤ 9) : fput x (qosK, txt n) = some { x with qos := n } := by
  unfold fput
  rw [if_neg (by first | decide | (dsimp only; decide)), if_neg (by first | decide | (dsimp only; decide)), if_neg (by first | decide | (dsimp only; decide)), if_pos rfl, within_txt (a := 0) (b := 9) h0 h1 (by decide)]
  show some { x with qos := ((n.toNat : Nat) : Int) } = _
  rw [toNat_back (by omega)]
theorem dep_read {d : Int × Bool} (h0 : 1 ≤ d.1) (h1 : d.1 ≤ 1073741824) : dep? (depT d) = some d := by
  obtain ⟨n, b⟩ := d
  unfold dep? depT
  have hc : (58 : UInt8) ∉ (if b = true then anyW else okW) := by cases b <;> decide
  rw [cutB_at 58 _ _ hc]
  dsimp only
  rw [within_txt (a := 1) (b := 1073741824) h0 h1 (by decide)]
  dsimp only
  rw [if_pos (by cases b <;> decide), toNat_back (by simp at h0; omega)]
  cases b <;> rfl
theorem dec_no {n : Nat} {c : UInt8} (h : dig c = false) : c ∉ decDigits n := fun hm => by
  have := dec_dig n c hm
  rw [h] at this
  cases this
theorem txt_no {n : Int} {c : UInt8} (h : dig c = false) : c ∉ txt n := by
  unfold txt
  split
  · exact dec_no h
  · simp
theorem depT_no (d : Int × Bool) {c : UInt8} (h : dig c = false) (h1 : c ∉ anyW) (h2 : c ∉ okW) (h3 : c ≠ 58) : c ∉ depT d := by
  unfold depT
  intro hm
  rcases List.mem_append.1 hm with hm | hm
  · split at hm
    · exact h1 hm
    · exact h2 hm
  · rcases List.mem_cons.1 hm with e | hm
    · exact h3 e
    · exact txt_no h hm
theorem mapM_deps : ∀ (l : List (Int × Bool)), (∀ d ∈ l, 1 ≤ d.1 ∧ d.1 ≤ 1073741824) → (l.map depT).mapM dep? = some l
  | [], _ => rfl
  | d :: r, h => by
    have ih := mapM_deps r fun x hx => h x (by simp [hx])
    rw [List.map_cons, List.mapM_cons, dep_read (h d (by simp)).1 (h d (by simp)).2, ih]
    rfl
theorem fput_after (x : Slip) {l : List (Int × Bool)} (hl : l ≠ []) (h : ∀ d ∈ l, 1 ≤ d.1 ∧ d.1 ≤ 1073741824) : fput x (afterK, joinC 44 (l.map depT)) = some { x with after := l } := by
  unfold fput
  rw [if_neg (by first | decide | (dsimp only; decide)), if_neg (by first | decide | (dsimp only; decide)), if_neg (by first | decide | (dsimp only; decide)), if_neg (by first | decide | (dsimp only; decide)), if_pos rfl]
  dsimp only
  rw [cuts_join 44 _ (by simp [hl]) (fun w hw => by
    obtain ⟨d, _, rfl⟩ := List.mem_map.1 hw
    exact depT_no d (by decide) (by decide) (by decide) (by decide)), mapM_deps l h]
  rfl
/-- What a slip that may be has. -/
structure Ok (x : Slip) : Prop where
  user : isName x.user = true
  nodes : 1 ≤ x.nodes ∧ x.nodes ≤ 64
  wall : 1 ≤ x.wall ∧ x.wall ≤ 1048576
  qos : 0 ≤ x.qos ∧ x.qos ≤ 9
  after : x.after.length ≤ 8 ∧ (x.after.map (·.1)).Nodup ∧ ∀ d ∈ x.after, 1 ≤ d.1 ∧ d.1 ≤ 1073741824
  cap : 0 ≤ x.cap ∧ x.cap ≤ 1099511627776
  pool0 : x.cap = 0 → x.pool = []
  pool1 : x.cap ≠ 0 → isName x.pool = true
  inn : 0 ≤ x.inn ∧ x.inn ≤ x.cap
  out : 0 ≤ x.out ∧ x.out ≤ x.cap
  make : ∀ d ∈ x.make, d.kind = 4 ∧ chk d = true
  makeN : nameL (x.make.map (·.name))
  drop : nameL x.drop
  use : nameL x.use
  apart : ∀ d ∈ x.make, d.name ∉ x.use
theorem chkS_iff (x : Slip) : chkS x = true ↔ Ok x := by
  unfold chkS
  rw [decide_eq_true_eq]
  exact ⟨fun ⟨a, b, c, d, e, f, g, h, i, j, k, l, m, n, o⟩ => ⟨a, b, c, d, e, f, g, h, i, j, k, l, m, n, o⟩, fun ⟨a, b, c, d, e, f, g, h, i, j, k, l, m, n, o⟩ => ⟨a, b, c, d, e, f, g, h, i, j, k, l, m, n, o⟩⟩
/-- The first line's part of a slip. -/
def head1 (x : Slip) : Slip := { Slip.zero with user := x.user, nodes := x.nodes, wall := x.wall, qos := x.qos, after := x.after }
theorem plain_join {c : UInt8} (hc : c ≠ 32) (hc2 : c ≠ 10) : ∀ (L : List Tx), (∀ w ∈ L, plain w) → plain (joinC c L)
  | [], _ => ⟨by simp [joinC], by simp [joinC]⟩
  | [a], h => h a (by simp)
  | a :: b :: r, h => by
    rw [joinC_cons c a (by simp)]
    refine plain_app (h a (by simp)) ?_
    have ih := plain_join hc hc2 (b :: r) fun w hw => h w (by simp [hw])
    exact ⟨fun hm => (List.mem_cons.1 hm).elim (fun e => hc e.symm) ih.1, fun hm => (List.mem_cons.1 hm).elim (fun e => hc2 e.symm) ih.2⟩
theorem plain_dep (d : Int × Bool) : plain (depT d) := ⟨depT_no d (by decide) (by decide) (by decide) (by decide), depT_no d (by decide) (by decide) (by decide) (by decide)⟩
theorem fsS_mem {x : Slip} (h : Ok x) {f : Fl} (hf : f ∈ fsS x) : plain (wtx f) ∧ (61 : UInt8) ∉ f.1 := by
  have p61 : plain [61] := by unfold plain; decide
  have key : ∀ (a b : Tx), plain a → plain b → plain (wtx (a, b)) := fun a b ha hb => by
    show plain (a ++ ([61] ++ b))
    exact plain_app ha (plain_app p61 hb)
  unfold fsS at hf
  rcases List.mem_append.1 hf with hf | hf
  · rcases List.mem_append.1 hf with hf | hf
    · simp only [List.mem_cons, List.not_mem_nil, or_false] at hf
      rcases hf with rfl | rfl | rfl
      · exact ⟨key _ _ (by unfold plain; decide) (plain_name h.user), show (61 : UInt8) ∉ userK by decide⟩
      · exact ⟨key _ _ (by unfold plain; decide) (plain_txt _), show (61 : UInt8) ∉ nodesK by decide⟩
      · exact ⟨key _ _ (by unfold plain; decide) (plain_txt _), show (61 : UInt8) ∉ wallK by decide⟩
    · split at hf
      · simp only [List.mem_cons, List.not_mem_nil, or_false] at hf
        subst hf
        exact ⟨key _ _ (by unfold plain; decide) (plain_txt _), show (61 : UInt8) ∉ qosK by decide⟩
      · simp at hf
  · split at hf
    · simp at hf
    · simp only [List.mem_cons, List.not_mem_nil, or_false] at hf
      subst hf
      refine ⟨key _ _ (by unfold plain; decide) (plain_join (by decide) (by decide) _ fun w hw => ?_), show (61 : UInt8) ∉ afterK by decide⟩
      obtain ⟨d, _, rfl⟩ := List.mem_map.1 hw
      exact plain_dep d
theorem line1_cuts {x : Slip} (h : Ok x) : cuts 32 (line1 x) = jobW :: (fsS x).map wtx := by
  unfold line1
  refine cuts_join 32 _ (by simp) fun w hw => ?_
  rcases List.mem_cons.1 hw with rfl | hw
  · decide
  · obtain ⟨f, hf, rfl⟩ := List.mem_map.1 hw
    exact (fsS_mem h hf).1.1
theorem first_read {x : Slip} (h : Ok x) : first? (line1 x) = some (head1 x) := by
  have hr : ∃ seen, frun (Slip.zero, []) ((fsS x).map wtx) = some (head1 x, seen) ∧ userK ∈ seen ∧ nodesK ∈ seen ∧ wallK ∈ seen := by
    have hz : (fsS x).map wtx = wtx (userK, x.user) :: wtx (nodesK, txt x.nodes) :: wtx (wallK, txt x.wall) :: ((if 0 < x.qos then [(qosK, txt x.qos)] else []) ++ (if x.after = [] then [] else [(afterK, joinC 44 (x.after.map depT))])).map wtx := by
      unfold fsS
      rw [List.append_assoc, List.map_append]
      rfl
    rw [hz, frun_cons (show (61 : UInt8) ∉ userK by decide), if_neg (by simp), fput_user]
    dsimp only
    rw [frun_cons (show (61 : UInt8) ∉ nodesK by decide), if_neg (by first | decide | (dsimp only; decide)), fput_nodes _ h.nodes.1 h.nodes.2]
    dsimp only
    rw [frun_cons (show (61 : UInt8) ∉ wallK by decide), if_neg (by first | decide | (dsimp only; decide)), fput_wall _ h.wall.1 h.wall.2]
    dsimp only
    by_cases hq : 0 < x.qos
    · rw [if_pos hq]
      by_cases ha : x.after = []
      · rw [if_pos ha]
        show ∃ seen, frun _ [wtx (qosK, txt x.qos)] = _ ∧ _
        rw [frun_cons (show (61 : UInt8) ∉ qosK by decide), if_neg (by first | decide | (dsimp only; decide)), fput_qos _ h.qos.1 h.qos.2]
        exact ⟨[userK, nodesK, wallK, qosK], by unfold head1; rw [ha]; rfl, by decide⟩
      · rw [if_neg ha]
        show ∃ seen, frun _ [wtx (qosK, txt x.qos), wtx (afterK, joinC 44 (x.after.map depT))] = _ ∧ _
        rw [frun_cons (show (61 : UInt8) ∉ qosK by decide), if_neg (by first | decide | (dsimp only; decide)), fput_qos _ h.qos.1 h.qos.2]
        dsimp only
        rw [frun_cons (show (61 : UInt8) ∉ afterK by decide), if_neg (by first | decide | (dsimp only; decide)), fput_after _ ha h.after.2.2]
        exact ⟨[userK, nodesK, wallK, qosK, afterK], rfl, by decide⟩
    · rw [if_neg hq]
      have hq0 : x.qos = 0 := by have := h.qos.1; omega
      by_cases ha : x.after = []
      · rw [if_pos ha]
        exact ⟨[userK, nodesK, wallK], by unfold head1; rw [ha, hq0]; rfl, by decide⟩
      · rw [if_neg ha]
        show ∃ seen, frun _ [wtx (afterK, joinC 44 (x.after.map depT))] = _ ∧ _
        rw [frun_cons (show (61 : UInt8) ∉ afterK by decide), if_neg (by first | decide | (dsimp only; decide)), fput_after _ ha h.after.2.2]
        exact ⟨[userK, nodesK, wallK, afterK], by unfold head1; rw [hq0]; rfl, by decide⟩
  obtain ⟨seen, h1, h2⟩ := hr
  unfold first?
  rw [line1_cuts h]
  dsimp only
  rw [if_pos rfl, h1]
  dsimp only
  rw [if_pos h2]
end Go.Proofs.YtpmghgfgbkncoaaGreatDoor.sp
end
section
set_option linter.unusedVariables false
namespace Go.Proofs.YtpmghgfgbkncoaaGreatDoor.sp
open Go.Proofs.YtpmghgfgbkncoaaGreatDoor.un
open Go.Proofs.YtpmghgfgbkncoaaGreatDoor.di

/-- No kind that is allowed once comes again. -/
def Once : List Nat → List Dir → Prop
  | _, [] => True
  | s, d :: r => ¬ (d.kind ≤ 3 ∧ d.kind ∈ s) ∧ Once (d.kind :: s) r
/-- The directives of some lines. -/
def dirLines (L : List Tx) : List Dir := L.filterMap fun l => if isD l = true then some (ldir l) else none
theorem dirLines_yes {l : Tx} (h : isD l = true) (r : List Tx) : dirLines (l :: r) = ldir l :: dirLines r := by
  unfold dirLines
  rw [List.filterMap_cons, if_pos h]
theorem dirLines_no {l : Tx} (h : ¬ isD l = true) (r : List Tx) : dirLines (l :: r) = dirLines r := by
  unfold dirLines
  rw [List.filterMap_cons, if_neg h]
theorem dirLines_app (A B : List Tx) : dirLines (A ++ B) = dirLines A ++ dirLines B := List.filterMap_append
theorem lrun_lines : ∀ (L : List Tx) (x : Slip) (s : List Nat) (i : Nat), (∀ l ∈ L, isD l = true → lerr l = 0) → Once s (dirLines L) → ∃ s', lrun (x, s) i L = .ok ((dirLines L).foldl put x, s')
  | [], x, s, i, _, _ => ⟨s, rfl⟩
  | l :: r, x, s, i, he, ho => by
    unfold lrun
    by_cases hd : isD l = true
    · rw [dirLines_yes hd] at ho ⊢
      rw [if_pos hd, if_neg (by rw [he l (by simp) hd]; simp), if_neg ho.1]
      exact lrun_lines r _ _ _ (fun y hy => he y (by simp [hy])) ho.2
    · rw [dirLines_no hd] at ho ⊢
      rw [if_neg hd]
      exact lrun_lines r x s _ (fun y hy => he y (by simp [hy])) ho
theorem dtx_line {d : Dir} (h : chk d = true) : isD (dtx d) = true ∧ lerr (dtx d) = 0 ∧ ldir (dtx d) = d := by
  have hl : (dtx d).length ≤ 306 := (made_text h).len
  have hr := text_read h
  refine ⟨?_, ?_, ?_⟩
  · unfold isD dtx lineOf
    rw [joinW_cons _ (by simp)]
    simp [bbW, List.isPrefixOf]
  · unfold lerr
    rw [if_neg (by omega), hr]
    rfl
  · unfold ldir
    rw [if_neg (by omega), hr]
    rfl
theorem dirLines_dtx : ∀ L : List Dir, (∀ d ∈ L, chk d = true) → dirLines (L.map dtx) = L
  | [], _ => rfl
  | d :: r, h => by
    have hd := dtx_line (h d (by simp))
    rw [List.map_cons, dirLines_yes hd.1, hd.2.2, dirLines_dtx r fun e he => h e (by simp [he])]
theorem put_comm (x : Slip) (d e : Dir) (h : d.kind ≠ e.kind) : put (put x d) e = put (put x e) d := by
  have hd : d.kind = 1 ∨ d.kind = 2 ∨ d.kind = 3 ∨ d.kind = 4 ∨ d.kind = 5 ∨ d.kind = 6 ∨ (d.kind ≠ 1 ∧ d.kind ≠ 2 ∧ d.kind ≠ 3 ∧ d.kind ≠ 4 ∧ d.kind ≠ 5 ∧ d.kind ≠ 6) := by omega
  have he : e.kind = 1 ∨ e.kind = 2 ∨ e.kind = 3 ∨ e.kind = 4 ∨ e.kind = 5 ∨ e.kind = 6 ∨ (e.kind ≠ 1 ∧ e.kind ≠ 2 ∧ e.kind ≠ 3 ∧ e.kind ≠ 4 ∧ e.kind ≠ 5 ∧ e.kind ≠ 6) := by omega
  rcases hd with h1 | h1 | h1 | h1 | h1 | h1 | h1 <;> rcases he with h2 | h2 | h2 | h2 | h2 | h2 | h2 <;> first | (exfalso; omega) | simp [put, h1, h2]
theorem put_make : ∀ (L : List Dir) (x : Slip), (∀ d ∈ L, d.kind = 4) → L.foldl put x = { x with make := x.make ++ L }
  | [], x, _ => by simp
  | d :: r, x, h => by
    have hd := h d (by simp)
    rw [List.foldl_cons, put_make r _ fun e he => h e (by simp [he])]
    simp [put, hd]
theorem put_drop : ∀ (L : List Tx) (x : Slip), (L.map fun n => (⟨5, n, [], 0, false⟩ : Dir)).foldl put x = { x with drop := x.drop ++ L }
  | [], x => by simp
  | d :: r, x => by
    rw [List.map_cons, List.foldl_cons, put_drop r]
    simp [put]
theorem put_use : ∀ (L : List Tx) (x : Slip), (L.map fun n => (⟨6, n, [], 0, false⟩ : Dir)).foldl put x = { x with use := x.use ++ L }
  | [], x => by simp
  | d :: r, x => by
    rw [List.map_cons, List.foldl_cons, put_use r]
    simp [put]
theorem fold_dirs {x : Slip} (h : Ok x) : (dirsS x).foldl put (head1 x) = x := by
  have hm : ∀ d ∈ x.make, d.kind = 4 := fun d hd => (h.make d hd).1
  have hp0 := h.pool0
  have hc := h.cap
  have hi := h.inn
  have ho := h.out
  unfold dirsS
  rw [List.foldl_append, List.foldl_append, List.foldl_append, List.foldl_append, List.foldl_append, put_make _ _ hm, put_drop, put_use]
  obtain ⟨u, n, w, q, a, c, i, o, p, m, dr, us⟩ := x
  simp only at hc hi ho hp0
  by_cases h1 : 0 < c
  · by_cases h2 : 0 < i
    · by_cases h3 : 0 < o
      · simp [head1, Slip.zero, put, h1, h2, h3]
      · obtain rfl : o = 0 := by omega
        simp [head1, Slip.zero, put, h1, h2]
    · obtain rfl : i = 0 := by omega
      by_cases h3 : 0 < o
      · simp [head1, Slip.zero, put, h1, h3]
      · obtain rfl : o = 0 := by omega
        simp [head1, Slip.zero, put, h1]
  · obtain rfl : c = 0 := by omega
    obtain rfl : i = 0 := by omega
    obtain rfl : o = 0 := by omega
    have := hp0 rfl
    subst this
    simp [head1, Slip.zero]
theorem once_big : ∀ (L : List Dir) (s : List Nat), (∀ d ∈ L, 3 < d.kind) → Once s L
  | [], _, _ => trivial
  | d :: r, s, h => ⟨fun hk => by have := h d (by simp); omega, once_big r _ fun e he => h e (by simp [he])⟩
/-- The kinds are parted: each that is allowed once comes once at most. -/
theorem once_of : ∀ (L : List Dir) (s : List Nat), ((L.filter fun d => decide (d.kind ≤ 3)).map (·.kind)).Nodup → (∀ d ∈ L, d.kind ≤ 3 → d.kind ∉ s) → Once s L
  | [], _, _, _ => trivial
  | d :: r, s, hn, hs => by
    refine ⟨fun hk => hs d (by simp) hk.1 hk.2, once_of r _ ?_ ?_⟩
    · by_cases hd : d.kind ≤ 3
      · rw [List.filter_cons_of_pos (by simpa using hd), List.map_cons, List.nodup_cons] at hn
        exact hn.2
      · rwa [List.filter_cons_of_neg (by simpa using hd)] at hn
    · intro e he hk
      simp only [List.mem_cons, not_or]
      refine ⟨fun hee => ?_, hs e (by simp [he]) hk⟩
      rw [List.filter_cons_of_pos (by simpa using (by omega : d.kind ≤ 3)), List.map_cons, List.nodup_cons] at hn
      exact hn.1 (List.mem_map.2 ⟨e, List.mem_filter.2 ⟨he, by simpa using hk⟩, hee⟩)
theorem dirs_mem {x : Slip} (h : Ok x) {d : Dir} (hd : d ∈ dirsS x) : chk d = true := by
  have hc := h.cap
  have hi := h.inn
  have ho := h.out
  unfold dirsS at hd
  simp only [List.mem_append] at hd
  rcases hd with ((((hd | hd) | hd) | hd) | hd) | hd
  · split at hd
    · rename_i h0
      simp only [List.mem_cons, List.not_mem_nil, or_false] at hd
      subst hd
      rw [chk_iff]
      have := h.pool1 (by omega)
      simp [hasSize, hasName, hasPool, h0, this]
      exact ⟨⟨hc.1, hc.2⟩, by decide⟩
    · simp at hd
  · split at hd
    · rename_i h0
      simp only [List.mem_cons, List.not_mem_nil, or_false] at hd
      subst hd
      rw [chk_iff]
      simp [hasSize, hasName, hasPool, h0]
      exact ⟨⟨hi.1, by omega⟩, by decide⟩
    · simp at hd
  · split at hd
    · rename_i h0
      simp only [List.mem_cons, List.not_mem_nil, or_false] at hd
      subst hd
      rw [chk_iff]
      simp [hasSize, hasName, hasPool, h0]
      exact ⟨⟨ho.1, by omega⟩, by decide⟩
    · simp at hd
  · exact (h.make d hd).2
  · obtain ⟨n, hn, rfl⟩ := List.mem_map.1 hd
    have := h.drop.2.2 n hn
    rw [chk_iff]
    simp [hasSize, hasName, hasPool, this]
    decide
  · obtain ⟨n, hn, rfl⟩ := List.mem_map.1 hd
    have := h.use.2.2 n hn
    rw [chk_iff]
    simp [hasSize, hasName, hasPool, this]
    decide
end Go.Proofs.YtpmghgfgbkncoaaGreatDoor.sp
end
