/- Sizes as texts, and names, plain. -/
import Derived.Test.YtkjffoebcblpoaaGreatMExN
section
set_option linter.unusedVariables false
namespace Go.Proofs.YtkjffoebcblpoaaGreat.un
open Go.Lib

/-- The units as they are tried: name, bytes. -/
def unitsL : List (List UInt8 × Nat) := [([84, 105, 66], 1099511627776), ([71, 105, 66], 1073741824), ([77, 105, 66], 1048576), ([75, 105, 66], 1024), ([84, 66], 1000000000000), ([71, 66], 1000000000), ([77, 66], 1000000), ([75, 66], 1000)]
def nm (k : Nat) : List UInt8 := (unitsL.getD k ([], 1)).1
def sz (k : Nat) : Nat := (unitsL.getD k ([], 1)).2
/-- What stands in front of the unit, and its bytes. -/
def spl (l : List UInt8) : List UInt8 × Nat := match unitsL.find? fun p => hasSuffix l p.1 with
  | some p => (trimSuffix l p.1, p.2)
  | none => (l, 1)

theorem lt8 {k : Nat} (h : k < 8) : k = 0 ∨ k = 1 ∨ k = 2 ∨ k = 3 ∨ k = 4 ∨ k = 5 ∨ k = 6 ∨ k = 7 := by omega
theorem sz_bd {k : Nat} (h : k < 8) : 0 < sz k ∧ sz k ≤ top := by
  rcases lt8 h with rfl | rfl | rfl | rfl | rfl | rfl | rfl | rfl <;> decide

theorem spl_at {l : List UInt8} {k : Nat} (hk : k < 8) (hno : ∀ i, i < k → hasSuffix l (nm i) = false) (hy : hasSuffix l (nm k) = true) : spl l = (trimSuffix l (nm k), sz k) := by
  rcases lt8 hk with rfl | rfl | rfl | rfl | rfl | rfl | rfl | rfl
  · have e : hasSuffix l [84, 105, 66] = true := hy
    simp [spl, unitsL, e, nm, sz]
  · have e0 : hasSuffix l [84, 105, 66] = false := hno 0 (by omega)
    have e : hasSuffix l [71, 105, 66] = true := hy
    simp [spl, unitsL, List.find?, e0, e, nm, sz]
  · have e0 : hasSuffix l [84, 105, 66] = false := hno 0 (by omega)
    have e1 : hasSuffix l [71, 105, 66] = false := hno 1 (by omega)
    have e : hasSuffix l [77, 105, 66] = true := hy
    simp [spl, unitsL, List.find?, e0, e1, e, nm, sz]
  · have e0 : hasSuffix l [84, 105, 66] = false := hno 0 (by omega)
    have e1 : hasSuffix l [71, 105, 66] = false := hno 1 (by omega)
    have e2 : hasSuffix l [77, 105, 66] = false := hno 2 (by omega)
    have e : hasSuffix l [75, 105, 66] = true := hy
    simp [spl, unitsL, List.find?, e0, e1, e2, e, nm, sz]
  · have e0 : hasSuffix l [84, 105, 66] = false := hno 0 (by omega)
    have e1 : hasSuffix l [71, 105, 66] = false := hno 1 (by omega)
    have e2 : hasSuffix l [77, 105, 66] = false := hno 2 (by omega)
    have e3 : hasSuffix l [75, 105, 66] = false := hno 3 (by omega)
    have e : hasSuffix l [84, 66] = true := hy
    simp [spl, unitsL, List.find?, e0, e1, e2, e3, e, nm, sz]
  · have e0 : hasSuffix l [84, 105, 66] = false := hno 0 (by omega)
    have e1 : hasSuffix l [71, 105, 66] = false := hno 1 (by omega)
    have e2 : hasSuffix l [77, 105, 66] = false := hno 2 (by omega)
    have e3 : hasSuffix l [75, 105, 66] = false := hno 3 (by omega)
    have e4 : hasSuffix l [84, 66] = false := hno 4 (by omega)
    have e : hasSuffix l [71, 66] = true := hy
    simp [spl, unitsL, List.find?, e0, e1, e2, e3, e4, e, nm, sz]
  · have e0 : hasSuffix l [84, 105, 66] = false := hno 0 (by omega)
    have e1 : hasSuffix l [71, 105, 66] = false := hno 1 (by omega)
    have e2 : hasSuffix l [77, 105, 66] = false := hno 2 (by omega)
    have e3 : hasSuffix l [75, 105, 66] = false := hno 3 (by omega)
    have e4 : hasSuffix l [84, 66] = false := hno 4 (by omega)
    have e5 : hasSuffix l [71, 66] = false := hno 5 (by omega)
    have e : hasSuffix l [77, 66] = true := hy
    simp [spl, unitsL, List.find?, e0, e1, e2, e3, e4, e5, e, nm, sz]
  · have e0 : hasSuffix l [84, 105, 66] = false := hno 0 (by omega)
    have e1 : hasSuffix l [71, 105, 66] = false := hno 1 (by omega)
    have e2 : hasSuffix l [77, 105, 66] = false := hno 2 (by omega)
    have e3 : hasSuffix l [75, 105, 66] = false := hno 3 (by omega)
    have e4 : hasSuffix l [84, 66] = false := hno 4 (by omega)
    have e5 : hasSuffix l [71, 66] = false := hno 5 (by omega)
    have e6 : hasSuffix l [77, 66] = false := hno 6 (by omega)
    have e : hasSuffix l [75, 66] = true := hy
    simp [spl, unitsL, List.find?, e0, e1, e2, e3, e4, e5, e6, e, nm, sz]
theorem spl_none {l : List UInt8} (hno : ∀ i, i < 8 → hasSuffix l (nm i) = false) : spl l = (l, 1) := by
  have e0 : hasSuffix l [84, 105, 66] = false := hno 0 (by omega)
  have e1 : hasSuffix l [71, 105, 66] = false := hno 1 (by omega)
  have e2 : hasSuffix l [77, 105, 66] = false := hno 2 (by omega)
  have e3 : hasSuffix l [75, 105, 66] = false := hno 3 (by omega)
  have e4 : hasSuffix l [84, 66] = false := hno 4 (by omega)
  have e5 : hasSuffix l [71, 66] = false := hno 5 (by omega)
  have e6 : hasSuffix l [77, 66] = false := hno 6 (by omega)
  have e7 : hasSuffix l [75, 66] = false := hno 7 (by omega)
  simp [spl, unitsL, List.find?, e0, e1, e2, e3, e4, e5, e6, e7]
theorem spl_cases (l : List UInt8) : (∃ k, k < 8 ∧ hasSuffix l (nm k) = true ∧ spl l = (trimSuffix l (nm k), sz k)) ∨ ((∀ i, i < 8 → hasSuffix l (nm i) = false) ∧ spl l = (l, 1)) := by
  by_cases h : ∀ i, i < 8 → hasSuffix l (nm i) = false
  · exact .inr ⟨h, spl_none h⟩
  · left
    have key : ∀ m, m ≤ 8 → (∀ i, i < m → hasSuffix l (nm i) = false) ∨ ∃ k, k < m ∧ (∀ i, i < k → hasSuffix l (nm i) = false) ∧ hasSuffix l (nm k) = true := by
      intro m
      induction m with
      | zero => intro _; exact .inl fun i hi => by omega
      | succ m ih =>
        intro hm
        rcases ih (by omega) with h1 | ⟨k, h1, h2, h3⟩
        · cases hc : hasSuffix l (nm m) with
          | true => exact .inr ⟨m, by omega, h1, hc⟩
          | false =>
            refine .inl fun i hi => ?_
            rcases Nat.lt_or_ge i m with h4 | h4
            · exact h1 i h4
            · rw [show i = m by omega]; exact hc
        · exact .inr ⟨k, by omega, h2, h3⟩
    rcases key 8 (Nat.le_refl _) with h1 | ⟨k, h1, h2, h3⟩
    · exact absurd h1 h
    · exact ⟨k, h1, h3, spl_at h1 h2 h3⟩
theorem spl_bd (l : List UInt8) : 0 < (spl l).2 ∧ (spl l).2 ≤ top := by
  rcases spl_cases l with ⟨k, hk, _, h⟩ | ⟨_, h⟩
  · rw [h]; exact sz_bd hk
  · rw [h]; show 0 < 1 ∧ 1 ≤ top; decide
theorem trim_le (l u : List UInt8) : (trimSuffix l u).length ≤ l.length := by
  unfold trimSuffix
  split
  · rw [List.length_take]; omega
  · exact Nat.le_refl _
theorem spl_len (l : List UInt8) : (spl l).1.length ≤ l.length := by
  rcases spl_cases l with ⟨k, hk, _, h⟩ | ⟨_, h⟩
  · rw [h]; exact trim_le _ _
  · rw [h]; exact Nat.le_refl _

theorem suffix_app {l u : List UInt8} (h : hasSuffix l u = true) : l = trimSuffix l u ++ u := by
  unfold trimSuffix
  rw [if_pos h]
  unfold hasSuffix at h
  obtain ⟨a, rfl⟩ := List.isSuffixOf_iff_suffix.1 h
  simp
theorem suffix_of (a u : List UInt8) : hasSuffix (a ++ u) u = true := by
  unfold hasSuffix
  rw [List.isSuffixOf_iff_suffix]
  exact List.suffix_append _ _
theorem trim_app (a u : List UInt8) : trimSuffix (a ++ u) u = a := by
  unfold trimSuffix
  rw [if_pos (suffix_of a u)]
  simp
theorem apart_fin : ∀ i j : Fin 8, (nm i.val).isSuffixOf (nm j.val) = true → i = j := by decide
theorem suffix_one {l : List UInt8} {i j : Nat} (hi : i < 8) (hj : j < 8) (h1 : hasSuffix l (nm i) = true) (h2 : hasSuffix l (nm j) = true) : i = j := by
  unfold hasSuffix at h1 h2
  rw [List.isSuffixOf_iff_suffix] at h1 h2
  rcases Nat.le_total (nm i).length (nm j).length with h | h
  · have := List.suffix_of_suffix_length_le h1 h2 h
    have := apart_fin ⟨i, hi⟩ ⟨j, hj⟩ (List.isSuffixOf_iff_suffix.2 this)
    simpa using this
  · have := List.suffix_of_suffix_length_le h2 h1 h
    have := apart_fin ⟨j, hj⟩ ⟨i, hi⟩ (List.isSuffixOf_iff_suffix.2 this)
    have : j = i := by simpa using this
    exact this.symm

/-- The quantity that a size's text denotes. -/
def size? (l : List UInt8) : Option Nat := match num? (spl l).1 with
  | some n => if n ≤ top / (spl l).2 then some (n * (spl l).2) else none
  | none => none

/-! ### the document's reading -/
def byL : List (List UInt8 × Nat) := [([], 1), ([75, 66], 1000), ([77, 66], 1000000), ([71, 66], 1000000000), ([84, 66], 1000000000000), ([75, 105, 66], 1024), ([77, 105, 66], 1048576), ([71, 105, 66], 1073741824), ([84, 105, 66], 1099511627776)]
def by_ (u : List UInt8) : Nat := match byL.find? fun p => p.1 == u with
  | some p => p.2
  | none => 0
theorem by_nil : by_ [] = 1 := rfl
theorem by_nm {k : Nat} (h : k < 8) : by_ (nm k) = sz k := by
  rcases lt8 h with rfl | rfl | rfl | rfl | rfl | rfl | rfl | rfl <;> decide
theorem by_other {u : List UInt8} (h : u ≠ []) (hn : ∀ k, k < 8 → nm k ≠ u) : by_ u = 0 := by
  have e0 : (([] : List UInt8) == u) = false := by rw [beq_eq_false_iff_ne]; exact fun e => h e.symm
  have e1 : (([75, 66] : List UInt8) == u) = false := by rw [beq_eq_false_iff_ne]; exact hn 7 (by omega)
  have e2 : (([77, 66] : List UInt8) == u) = false := by rw [beq_eq_false_iff_ne]; exact hn 6 (by omega)
  have e3 : (([71, 66] : List UInt8) == u) = false := by rw [beq_eq_false_iff_ne]; exact hn 5 (by omega)
  have e4 : (([84, 66] : List UInt8) == u) = false := by rw [beq_eq_false_iff_ne]; exact hn 4 (by omega)
  have e5 : (([75, 105, 66] : List UInt8) == u) = false := by rw [beq_eq_false_iff_ne]; exact hn 3 (by omega)
  have e6 : (([77, 105, 66] : List UInt8) == u) = false := by rw [beq_eq_false_iff_ne]; exact hn 2 (by omega)
  have e7 : (([71, 105, 66] : List UInt8) == u) = false := by rw [beq_eq_false_iff_ne]; exact hn 1 (by omega)
  have e8 : (([84, 105, 66] : List UInt8) == u) = false := by rw [beq_eq_false_iff_ne]; exact hn 0 (by omega)
  simp [by_, byL, List.find?, e0, e1, e2, e3, e4, e5, e6, e7, e8]
theorem by_le (u : List UInt8) : by_ u ≤ top := by
  by_cases h : u = []
  · subst h; decide
  · by_cases hk : ∃ k, k < 8 ∧ nm k = u
    · obtain ⟨k, hk, rfl⟩ := hk
      rw [by_nm hk]
      exact (sz_bd hk).2
    · rw [by_other h fun k hk' e => hk ⟨k, hk', e⟩]
      exact Nat.zero_le _

def dsize (l : List UInt8) : Option Nat := match num? (l.takeWhile dig) with
  | some n => if by_ (l.dropWhile dig) = 0 ∨ top / by_ (l.dropWhile dig) < n then none else some (n * by_ (l.dropWhile dig))
  | none => none

theorem tw_app {f u : List UInt8} (hf : ∀ b ∈ f, dig b = true) (hu : ∀ b r, u = b :: r → dig b = false) : (f ++ u).takeWhile dig = f ∧ (f ++ u).dropWhile dig = u := by
  induction f with
  | nil =>
    cases u with
    | nil => exact ⟨rfl, rfl⟩
    | cons b r =>
      have := hu b r rfl
      simp [this]
  | cons a f ih =>
    have h1 := hf a (by simp)
    obtain ⟨e1, e2⟩ := ih fun b hb => hf b (by simp [hb])
    simp only [List.cons_append, List.takeWhile_cons, List.dropWhile_cons, h1, if_true]
    exact ⟨by rw [e1], e2⟩
theorem nm_head {k : Nat} (h : k < 8) : ∀ b r, nm k = b :: r → dig b = false := by
  rcases lt8 h with rfl | rfl | rfl | rfl | rfl | rfl | rfl | rfl <;>
  · intro b r e
    have : b = _ := (List.cons.inj e).1.symm
    subst this
    decide
theorem nm_last {k : Nat} (h : k < 8) : ∃ a, nm k = a ++ [66] := by
  rcases lt8 h with rfl | rfl | rfl | rfl | rfl | rfl | rfl | rfl
  · exact ⟨[84, 105], rfl⟩
  · exact ⟨[71, 105], rfl⟩
  · exact ⟨[77, 105], rfl⟩
  · exact ⟨[75, 105], rfl⟩
  · exact ⟨[84], rfl⟩
  · exact ⟨[71], rfl⟩
  · exact ⟨[77], rfl⟩
  · exact ⟨[75], rfl⟩
theorem num_dig {l : List UInt8} {n : Nat} (h : num? l = some n) : ∀ b ∈ l, dig b = true := by
  intro b hb
  obtain ⟨k, hk, rfl⟩ := List.getElem_of_mem hb
  obtain ⟨d, hd⟩ := digit_of_decFrom _ _ _ (num_some h).2.2.1 k l[k] (List.getElem?_eq_getElem hk)
  exact (digitVal_some hd).1
theorem dec_dig (n : Nat) : ∀ b ∈ decDigits n, dig b = true := by
  intro b hb
  obtain ⟨k, hk, rfl⟩ := List.getElem_of_mem hb
  obtain ⟨d, hd⟩ := digit_of_decFrom _ _ _ (from_dec n) k (decDigits n)[k] (List.getElem?_eq_getElem hk)
  exact (digitVal_some hd).1
theorem tw_mem : ∀ (l : List UInt8) (b : UInt8), b ∈ l.takeWhile dig → dig b = true
  | [], b, h => by simp at h
  | a :: l, b, h => by
    rw [List.takeWhile_cons] at h
    split at h
    · rename_i ha
      rcases List.mem_cons.1 h with rfl | h
      · exact ha
      · exact tw_mem l b h
    · simp at h
theorem tw_all {l : List UInt8} (h : l.dropWhile dig = []) : ∀ b ∈ l, dig b = true := by
  intro b hb
  have e := List.takeWhile_append_dropWhile (p := dig) (l := l)
  rw [h, List.append_nil] at e
  rw [← e] at hb
  exact tw_mem l b hb

theorem size_eq (l : List UInt8) : dsize l = size? l := by
  have E := List.takeWhile_append_dropWhile (p := dig) (l := l)
  rcases spl_cases l with ⟨k, hk, hs, h⟩ | ⟨hno, h⟩
  · unfold size?
    rw [h]
    dsimp only
    have hl := suffix_app hs
    cases hn : num? (trimSuffix l (nm k)) with
    | none =>
      unfold dsize
      cases hm : num? (l.takeWhile dig) with
      | none => rfl
      | some m =>
        dsimp only
        rw [if_pos]
        left
        apply by_other
        · intro e
          obtain ⟨a, ha⟩ := nm_last hk
          have := tw_all e 66 (by rw [hl, ha]; simp)
          exact absurd this (by decide)
        · intro j hj e
          have h2 : hasSuffix l (nm j) = true := by
            rw [← E, ← e]; exact suffix_of _ _
          have := suffix_one hj hk h2 hs
          subst this
          have h3 := hl
          rw [← E, ← e, trim_app] at h3
          have h4 := List.append_cancel_right (E.trans hl |>.symm ▸ by rw [e] : l.takeWhile dig ++ nm j = trimSuffix l (nm j) ++ nm j)
          rw [h4, hn] at hm
          cases hm
    | some n =>
      obtain ⟨e1, e2⟩ := tw_app (num_dig hn) (nm_head hk)
      rw [← hl] at e1 e2
      unfold dsize
      rw [e1, e2, hn, by_nm hk]
      dsimp only
      have := sz_bd hk
      by_cases hc : n ≤ top / sz k
      · rw [if_pos hc, if_neg (by omega)]
      · rw [if_neg hc, if_pos (.inr (by omega))]
  · unfold size?
    rw [h]
    dsimp only
    by_cases hd : l.dropWhile dig = []
    · rw [hd, List.append_nil] at E
      unfold dsize
      rw [E, hd, by_nil]
      cases hn : num? l with
      | none => rfl
      | some n =>
        dsimp only
        have := (num_some hn).2.2.2.1
        rw [Nat.div_one, if_pos this, if_neg (by omega)]
    · have hn : num? l = none := by
        cases hn : num? l with
        | none => rfl
        | some n =>
          exfalso
          obtain ⟨e1, e2⟩ := tw_app (f := l) (u := []) (num_dig hn) (fun b r e => by cases e)
          rw [List.append_nil] at e2
          exact hd e2
      rw [hn]
      unfold dsize
      cases hm : num? (l.takeWhile dig) with
      | none => rfl
      | some m =>
        dsimp only
        rw [if_pos]
        left
        apply by_other hd
        intro j hj e
        have := hno j hj
        rw [← E, ← e, suffix_of] at this
        cases this

/-! ### sizes of texts that are written -/
theorem size_unit {k m : Nat} (hk : k < 8) (hm : m ≤ top) : size? (decDigits m ++ nm k) = if m ≤ top / sz k then some (m * sz k) else none := by
  rw [← size_eq]
  obtain ⟨e1, e2⟩ := tw_app (dec_dig m) (nm_head hk)
  unfold dsize
  rw [e1, e2, num_dec hm, by_nm hk]
  dsimp only
  have := sz_bd hk
  by_cases hc : m ≤ top / sz k
  · rw [if_pos hc, if_neg (by omega)]
  · rw [if_neg hc, if_pos (.inr (by omega))]
theorem size_dec {m : Nat} (hm : m ≤ top) : size? (decDigits m) = some m := by
  rw [← size_eq]
  obtain ⟨e1, e2⟩ := tw_app (f := decDigits m) (u := []) (dec_dig m) (fun b r e => by cases e)
  rw [List.append_nil] at e1 e2
  unfold dsize
  rw [e1, e2, num_dec hm, by_nil]
  dsimp only
  rw [Nat.div_one, if_neg (by omega), Nat.mul_one]
theorem size_nil : size? [] = none := by decide
theorem size_num {l : List UInt8} {n : Nat} (h : num? l = some n) : size? l = some n := by
  obtain ⟨h1, h2⟩ := num_iff.1 h
  rw [← h2]
  exact size_dec h1
theorem size_le {l : List UInt8} {n : Nat} (h : size? l = some n) : n ≤ top := by
  unfold size? at h
  split at h
  · split at h
    · rename_i hc
      simp only [Option.some.injEq] at h
      rw [← h]
      exact Nat.le_trans (Nat.mul_le_mul_right _ hc) (Nat.div_mul_le_self _ _)
    · cases h
  · cases h

/-- The text of a size. -/
def stxt (n : Int) : List UInt8 := if 0 < n ∧ n ≤ 1099511627776 then
    match (unitsL.take 4).find? fun p => n.toNat % p.2 == 0 with
    | some p => decDigits (n.toNat / p.2) ++ p.1
    | none => decDigits n.toNat
  else txt n
theorem stxt_at {n : Nat} {k : Nat} (h0 : 0 < n) (ht : n ≤ top) (hk : k < 4) (hno : ∀ i, i < k → n % sz i ≠ 0) (hy : n % sz k = 0) : stxt (n : Int) = decDigits (n / sz k) ++ nm k := by
  unfold top at ht
  unfold stxt
  rw [if_pos (by omega)]
  have hc : k = 0 ∨ k = 1 ∨ k = 2 ∨ k = 3 := by omega
  have e0 : 0 < k → (n % 1099511627776 == 0) = false := fun hl => by rw [beq_eq_false_iff_ne]; exact hno 0 hl
  have e1 : 1 < k → (n % 1073741824 == 0) = false := fun hl => by rw [beq_eq_false_iff_ne]; exact hno 1 hl
  have e2 : 2 < k → (n % 1048576 == 0) = false := fun hl => by rw [beq_eq_false_iff_ne]; exact hno 2 hl
  rcases hc with rfl | rfl | rfl | rfl
  · have e : (n % 1099511627776 == 0) = true := by rw [beq_iff_eq]; exact hy
    simp only [unitsL, List.take, List.find?, Int.toNat_natCast, e]
    rfl
  · have e : (n % 1073741824 == 0) = true := by rw [beq_iff_eq]; exact hy
    simp only [unitsL, List.take, List.find?, Int.toNat_natCast, e0 (by omega), e]
    rfl
  · have e : (n % 1048576 == 0) = true := by rw [beq_iff_eq]; exact hy
    simp only [unitsL, List.take, List.find?, Int.toNat_natCast, e0 (by omega), e1 (by omega), e]
    rfl
  · have e : (n % 1024 == 0) = true := by rw [beq_iff_eq]; exact hy
    simp only [unitsL, List.take, List.find?, Int.toNat_natCast, e0 (by omega), e1 (by omega), e2 (by omega), e]
    rfl
theorem stxt_none {n : Nat} (h0 : 0 < n) (ht : n ≤ top) (hno : ∀ i, i < 4 → n % sz i ≠ 0) : stxt (n : Int) = decDigits n := by
  unfold top at ht
  unfold stxt
  rw [if_pos (by omega)]
  have e0 : (n % 1099511627776 == 0) = false := by rw [beq_eq_false_iff_ne]; exact hno 0 (by omega)
  have e1 : (n % 1073741824 == 0) = false := by rw [beq_eq_false_iff_ne]; exact hno 1 (by omega)
  have e2 : (n % 1048576 == 0) = false := by rw [beq_eq_false_iff_ne]; exact hno 2 (by omega)
  have e3 : (n % 1024 == 0) = false := by rw [beq_eq_false_iff_ne]; exact hno 3 (by omega)
  simp only [unitsL, List.take, List.find?, Int.toNat_natCast, e0, e1, e2, e3]
theorem stxt_out {n : Int} (h : ¬ (0 < n ∧ n ≤ 1099511627776)) : stxt n = txt n := by
  unfold stxt
  rw [if_neg h]
theorem stxt_cases {n : Nat} (h0 : 0 < n) (ht : n ≤ top) : (∃ k, k < 4 ∧ n % sz k = 0 ∧ stxt (n : Int) = decDigits (n / sz k) ++ nm k) ∨ stxt (n : Int) = decDigits n := by
  have key : ∀ m, m ≤ 4 → (∀ i, i < m → n % sz i ≠ 0) ∨ ∃ k, k < m ∧ (∀ i, i < k → n % sz i ≠ 0) ∧ n % sz k = 0 := by
    intro m
    induction m with
    | zero => intro _; exact .inl fun i hi => by omega
    | succ m ih =>
      intro hm
      rcases ih (by omega) with h1 | ⟨k, h1, h2, h3⟩
      · by_cases hc : n % sz m = 0
        · exact .inr ⟨m, by omega, h1, hc⟩
        · refine .inl fun i hi => ?_
          rcases Nat.lt_or_ge i m with h4 | h4
          · exact h1 i h4
          · rw [show i = m by omega]; exact hc
      · exact .inr ⟨k, by omega, h2, h3⟩
  rcases key 4 (Nat.le_refl _) with h1 | ⟨k, h1, h2, h3⟩
  · exact .inr (stxt_none h0 ht h1)
  · exact .inl ⟨k, h1, h3, stxt_at h0 ht h1 h2 h3⟩
theorem size_stxt {n : Nat} (ht : n ≤ top) : size? (stxt (n : Int)) = some n := by
  rcases Nat.eq_zero_or_pos n with rfl | h0
  · decide +kernel
  · rcases stxt_cases h0 ht with ⟨k, hk, hd, e⟩ | e
    · have hb := sz_bd (show k < 8 by omega)
      have hle : n / sz k ≤ top := Nat.le_trans (Nat.div_le_self _ _) ht
      rw [e, size_unit (by omega) hle, if_pos (Nat.div_le_div_right ht), Nat.div_mul_cancel (Nat.dvd_of_mod_eq_zero hd)]
    · rw [e]
      exact size_dec ht
theorem nm_len {k : Nat} (h : k < 8) : (nm k).length ≤ 3 := by
  rcases lt8 h with rfl | rfl | rfl | rfl | rfl | rfl | rfl | rfl <;> decide
theorem dec_len {n : Nat} (h : n ≤ top) : (decDigits n).length ≤ 13 := by
  rw [decDigits_length]
  exact nDigits_top h
theorem txt_len (n : Int) : (txt n).length ≤ 13 := by
  unfold txt
  split
  · exact dec_len (by unfold top; omega)
  · exact Nat.zero_le _
theorem stxt_len (n : Int) : (stxt n).length ≤ 16 := by
  by_cases h : 0 < n ∧ n ≤ 1099511627776
  · obtain ⟨m, rfl⟩ : ∃ m : Nat, n = (m : Int) := ⟨n.toNat, by omega⟩
    have ht : m ≤ top := by unfold top; omega
    rcases stxt_cases (show 0 < m by omega) ht with ⟨k, hk, hd, e⟩ | e
    · rw [e, List.length_append]
      have h1 := dec_len (Nat.le_trans (Nat.div_le_self m (sz k)) ht)
      have h2 := nm_len (show k < 8 by omega)
      omega
    · rw [e]
      have := dec_len ht
      omega
  · rw [stxt_out h]
    have := txt_len n
    omega

/-! ### names -/
def wordb (b : UInt8) : Bool := decide (97 ≤ b.toNat ∧ b.toNat ≤ 122) || decide (65 ≤ b.toNat ∧ b.toNat ≤ 90) || decide (48 ≤ b.toNat ∧ b.toNat ≤ 57) || decide (b.toNat = 95)
def nmAt (i : Nat) (b : UInt8) : Bool := wordb b || (decide (i ≠ 0) && (decide (b.toNat = 45) || decide (b.toNat = 46)))
def okFrom : Nat → List UInt8 → Bool
  | _, [] => true
  | i, b :: r => nmAt i b && okFrom (i + 1) r
def isName (l : List UInt8) : Bool := decide (1 ≤ l.length) && decide (l.length ≤ 32) && okFrom 0 l
theorem okFrom_app : ∀ (l r : List UInt8) (i : Nat), okFrom i (l ++ r) = (okFrom i l && okFrom (i + l.length) r)
  | [], r, i => by simp [okFrom]
  | b :: l, r, i => by
    rw [List.cons_append, okFrom, okFrom_app l r (i + 1), okFrom, List.length_cons, Bool.and_assoc, show i + 1 + l.length = i + (l.length + 1) by omega]
theorem okFrom_drop {l : List UInt8} {i : Nat} (h : i < l.length) : okFrom i (l.drop i) = (nmAt i l[i] && okFrom (i + 1) (l.drop (i + 1))) := by
  rw [List.drop_eq_getElem_cons h, okFrom]
theorem okFrom_end (l : List UInt8) {i : Nat} (h : l.length ≤ i) : okFrom i (l.drop i) = true := by
  rw [List.drop_eq_nil_of_le h, okFrom]
theorem okFrom_get : ∀ (l : List UInt8) (i : Nat), okFrom i l = true → ∀ j (hj : j < l.length), nmAt (i + j) l[j] = true
  | [], i, _, j, hj => by simp at hj
  | b :: l, i, h, j, hj => by
    rw [okFrom, Bool.and_eq_true] at h
    cases j with
    | zero => exact h.1
    | succ j =>
      have := okFrom_get l (i + 1) h.2 j (by simpa using hj)
      rw [show i + (j + 1) = i + 1 + j by omega]
      simpa using this
theorem name_one {l : List UInt8} (h : isName l = true) : 1 ≤ l.length ∧ l.length ≤ 32 ∧ okFrom 0 l = true := by
  unfold isName at h
  simp only [Bool.and_eq_true, decide_eq_true_eq] at h
  exact ⟨h.1.1, h.1.2, h.2⟩
theorem nmAt_bytes {i : Nat} {b : UInt8} (h : nmAt i b = true) : b.toNat ≠ 32 ∧ b.toNat ≠ 61 ∧ b.toNat ≠ 10 ∧ b.toNat ≠ 44 ∧ b.toNat ≠ 58 ∧ b.toNat < 128 := by
  unfold nmAt wordb at h
  simp only [Bool.or_eq_true, Bool.and_eq_true, decide_eq_true_eq] at h
  omega
theorem name_bytes {l : List UInt8} (h : isName l = true) (j : Nat) (hj : j < l.length) : l[j].toNat ≠ 32 ∧ l[j].toNat ≠ 61 ∧ l[j].toNat ≠ 10 ∧ l[j].toNat ≠ 44 ∧ l[j].toNat ≠ 58 ∧ l[j].toNat < 128 :=
  nmAt_bytes (okFrom_get l 0 (name_one h).2.2 j hj)
theorem name_front {l : List UInt8} (h : isName l = true) (h2 : 2 ≤ l.length) : isName (l.take (l.length - 1)) = true := by
  obtain ⟨h0, h1, h3⟩ := name_one h
  have e : l.take (l.length - 1) ++ l.drop (l.length - 1) = l := List.take_append_drop _ _
  rw [← e, okFrom_app, Bool.and_eq_true] at h3
  unfold isName
  rw [h3.1, List.length_take]
  simp
  omega
theorem nmAt_a (i : Nat) : nmAt i 97 = true := by
  unfold nmAt
  rw [show wordb 97 = true by decide]
  rfl
theorem name_more {l : List UInt8} (h : isName l = true) : isName (l ++ [97]) = decide (l.length < 32) := by
  obtain ⟨h0, h1, h3⟩ := name_one h
  unfold isName
  rw [okFrom_app, h3, List.length_append]
  simp only [okFrom, nmAt_a]
  by_cases hc : l.length < 32
  · simp [hc]; omega
  · simp [hc]; omega
theorem name_not {l : List UInt8} (h : isName l = false) (h0 : l.length ≠ 0) (h1 : l.length ≤ 32) : isName (l ++ [97]) = false := by
  have h3 : okFrom 0 l = false := by
    unfold isName at h
    rw [show decide (1 ≤ l.length) = true by simp; omega, show decide (l.length ≤ 32) = true by simp; omega] at h
    simpa using h
  unfold isName
  rw [okFrom_app, h3]
  simp
theorem name_high {l : List UInt8} {i : Nat} {b : UInt8} (h : 128 ≤ b.toNat) : nmAt i b = false := by
  cases hc : nmAt i b with
  | false => rfl
  | true =>
    have := nmAt_bytes hc
    omega
/-- Where a number may lie, as a name's byte. -/
theorem byte_cases (r : Int) : r < 45 ∨ r = 45 ∨ r = 46 ∨ r = 47 ∨ (48 ≤ r ∧ r ≤ 57) ∨ (58 ≤ r ∧ r ≤ 64) ∨ (65 ≤ r ∧ r ≤ 90) ∨ (91 ≤ r ∧ r ≤ 94) ∨ r = 95 ∨ r = 96 ∨ (97 ≤ r ∧ r ≤ 122) ∨ 123 ≤ r := by omega
end Go.Proofs.YtkjffoebcblpoaaGreat.un
end
