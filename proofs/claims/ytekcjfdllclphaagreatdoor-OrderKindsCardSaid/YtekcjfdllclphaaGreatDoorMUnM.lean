/- Numbers and sizes as texts, plain: what a text denotes, the text of a number, units, names. -/
import Derived.Lib.ItoaNum
import Derived.Lib.AtoiTie
import Derived.Lib.ParseIntBTie
import Derived.Lib.Strings
import Derived.RangeFuncNested
import Derived.RangeFuncLeaves
import Derived.Shelf.RegionOpen
section
set_option linter.unusedVariables false
namespace Go.Proofs.YtekcjfdllclphaaGreatDoor.un
open Go.Lib

/-- A byte that is a digit. -/
def dig (b : UInt8) : Bool := decide (48 ≤ b.toNat ∧ b.toNat ≤ 57)
theorem digitVal_dig {b : UInt8} : digitVal b = if dig b then some (b.toNat - 48) else none := by
  unfold digitVal dig
  by_cases h : 48 ≤ b.toNat ∧ b.toNat ≤ 57
  · rw [if_pos h, if_pos (by simpa using h)]
  · rw [if_neg h, if_neg (by simpa using h)]
theorem digitVal_some {b : UInt8} {d : Nat} (h : digitVal b = some d) : dig b = true ∧ b = UInt8.ofNat (48 + d) ∧ d < 10 := by
  obtain ⟨h1, h2, rfl⟩ := digitVal_eq h
  refine ⟨by simp [dig, h1, h2], ?_, by omega⟩
  apply UInt8.toNat_inj.1
  rw [show 48 + (b.toNat - 48) = b.toNat by omega]
  simp
theorem dig_ofNat {d : Nat} (h : d < 10) : digitVal (UInt8.ofNat (48 + d)) = some d := by
  unfold digitVal
  have e : (UInt8.ofNat (48 + d)).toNat = 48 + d := by
    rw [UInt8.toNat_ofNat_of_lt']
    exact Nat.lt_of_lt_of_le (show 48 + d < 58 by omega) (by decide)
  rw [e, if_pos (by omega)]
  congr 1
  omega

/-! ### the digits of a number, and back -/

theorem decFrom_app : ∀ (l r : List UInt8) (acc : Nat), decFrom acc (l ++ r) = (decFrom acc l).bind fun m => decFrom m r
  | [], r, acc => rfl
  | b :: l, r, acc => by
    simp only [List.cons_append, decFrom]
    cases digitVal b with
    | none => rfl
    | some d => exact decFrom_app l r _
theorem decFrom_one (acc : Nat) (b : UInt8) : decFrom acc [b] = (digitVal b).map fun d => acc * 10 + d := by
  simp only [decFrom]
  cases digitVal b <;> rfl

theorem dec_small {n : Nat} (h : n < 10) : decDigits n = [UInt8.ofNat (48 + n)] := decDigits_one h
theorem dec_big {n : Nat} (h : ¬ n < 10) : decDigits n = decDigits (n / 10) ++ [UInt8.ofNat (48 + n % 10)] := by rw [decDigits, dif_neg h]
theorem dec_ne (n : Nat) : decDigits n ≠ [] := by
  intro h
  have := decDigits_length n
  rw [h] at this
  have := nDigits_pos n
  simp at *
  omega

theorem from_dec (n : Nat) : decFrom 0 (decDigits n) = some n := by
  induction n using Nat.strongRecOn with
  | _ n ih =>
    by_cases h : n < 10
    · rw [dec_small h, decFrom_one, dig_ofNat h]
      simp
    · rw [dec_big h, decFrom_app, ih (n / 10) (by omega)]
      show decFrom (n / 10) [_] = _
      rw [decFrom_one, dig_ofNat (Nat.mod_lt _ (by decide))]
      simp
      omega

/-- No digit 0 leads, but in a text of one. -/
def lead (l : List UInt8) : Prop := 1 < l.length → l.head? ≠ some 48

theorem dec_head {n : Nat} (h : 0 < n) : (decDigits n).head? ≠ some 48 := by
  induction n using Nat.strongRecOn with
  | _ n ih =>
    by_cases hn : n < 10
    · rw [dec_small hn]
      intro hc
      simp only [List.head?_cons, Option.some.injEq] at hc
      have := congrArg digitVal hc
      rw [dig_ofNat hn, show digitVal 48 = some 0 from rfl] at this
      simp at this
      omega
    · rw [dec_big hn, List.head?_append]
      have h1 := ih (n / 10) (by omega) (by omega)
      cases hd : (decDigits (n / 10)).head? with
      | none => exact absurd (List.head?_eq_none_iff.1 hd) (dec_ne _)
      | some b =>
        rw [hd] at h1
        simpa using h1
theorem dec_lead (n : Nat) : lead (decDigits n) := by
  intro hl
  by_cases h : n < 10
  · rw [dec_small h] at hl
    simp at hl
  · exact dec_head (by omega)

theorem dec_from_rev : ∀ (k : Nat) (l : List UInt8) (n : Nat), l.length = k → l ≠ [] → lead l → decFrom 0 l = some n → decDigits n = l ∧ (l.head? ≠ some 48 → 0 < n)
  | 0, l, n, hk, hne, _, _ => absurd (List.eq_nil_of_length_eq_zero hk) hne
  | k + 1, l, n, hk, hne, hld, h => by
    obtain ⟨l', c, rfl⟩ : ∃ l' c, l = l' ++ [c] := ⟨l.dropLast, l.getLast hne, (List.dropLast_concat_getLast hne).symm⟩
    rw [decFrom_app] at h
    cases hm : decFrom 0 l' with
    | none => rw [hm] at h; simp at h
    | some m =>
      rw [hm] at h
      simp only [Option.bind_some, decFrom_one] at h
      cases hd : digitVal c with
      | none => rw [hd] at h; simp at h
      | some d =>
        rw [hd] at h
        simp only [Option.map_some, Option.some.injEq] at h
        obtain ⟨_, hc, hd10⟩ := digitVal_some hd
        by_cases hl' : l' = []
        · subst hl'
          simp only [decFrom, Option.some.injEq] at hm
          subst hm
          have hn : n = d := by omega
          subst hn
          refine ⟨by rw [dec_small hd10, hc]; rfl, fun hh => ?_⟩
          rcases Nat.eq_zero_or_pos n with h0 | h0
          · subst h0
            exact absurd (by rw [hc]; rfl) hh
          · exact h0
        · have hlen : 1 ≤ l'.length := by
            cases l' with
            | nil => exact absurd rfl hl'
            | cons _ _ => simp
          have hh : (l' ++ [c]).head? ≠ some 48 := hld (by simp; omega)
          have hh' : l'.head? ≠ some 48 := by
            cases l' with
            | nil => exact absurd rfl hl'
            | cons _ _ => simpa using hh
          obtain ⟨e1, e2⟩ := dec_from_rev k l' m (by simp at hk; omega) hl' (fun _ => hh') hm
          have hm0 := e2 hh'
          refine ⟨?_, fun _ => by omega⟩
          rw [dec_big (by omega), show n / 10 = m by omega, show n % 10 = d by omega, e1, hc]

theorem dec_from {l : List UInt8} {n : Nat} (hne : l ≠ []) (hld : lead l) (h : decFrom 0 l = some n) : decDigits n = l := (dec_from_rev l.length l n rfl hne hld h).1

/-! ### what a number's text denotes -/

def top : Nat := 1099511627776
/-- The quantity that a text denotes, by the document: at most 13 digits, none of them a leading 0. -/
def num? (l : List UInt8) : Option Nat := if l = [] ∨ 13 < l.length ∨ (1 < l.length ∧ l.head? = some 48) then none else
  match decFrom 0 l with
  | some n => if n ≤ top then some n else none
  | none => none

theorem num_some {l : List UInt8} {n : Nat} (h : num? l = some n) : l ≠ [] ∧ l.length ≤ 13 ∧ decFrom 0 l = some n ∧ n ≤ top ∧ decDigits n = l := by
  unfold num? at h
  split at h
  · cases h
  · rename_i hc
    have h1 : ¬ l = [] := fun e => hc (.inl e)
    have h2 : ¬ 13 < l.length := fun e => hc (.inr (.inl e))
    have h3 : lead l := fun a b => hc (.inr (.inr ⟨a, b⟩))
    split at h
    · rename_i m hm
      split at h
      · rename_i ht
        simp only [Option.some.injEq] at h
        subst h
        exact ⟨h1, by omega, hm, ht, dec_from h1 h3 hm⟩
      · cases h
    · cases h

theorem nDigits_top {n : Nat} (h : n ≤ top) : nDigits n ≤ 13 := by
  rcases Nat.lt_or_ge 13 (nDigits n) with h1 | h1
  · exfalso
    have e := decDigits_length n
    have h2 : 10 ^ 13 ≤ n := by
      rcases Nat.lt_or_ge n (10 ^ 13) with h3 | h3
      · exfalso
        have key : ∀ (k m : Nat), m < 10 ^ (k + 1) → nDigits m ≤ k + 1 := by
          intro k
          induction k with
          | zero => intro m hm; rw [nDigits_small (by simpa using hm)]; exact Nat.le_refl _
          | succ k ih =>
            intro m hm
            by_cases hs : m < 10
            · rw [nDigits_small hs]; omega
            · rw [nDigits_big hs]
              have := ih (m / 10) (by rw [Nat.pow_succ] at hm; omega)
              omega
        have := key 12 n h3
        omega
      · exact h3
    unfold top at h
    omega
  · exact h1

theorem num_dec {n : Nat} (h : n ≤ top) : num? (decDigits n) = some n := by
  unfold num?
  rw [if_neg, from_dec n]
  · simp [h]
  · rintro (h1 | h1 | ⟨h1, h2⟩)
    · exact dec_ne n h1
    · rw [decDigits_length] at h1
      have := nDigits_top h
      omega
    · exact dec_lead n h1 h2
theorem num_iff {l : List UInt8} {n : Nat} : num? l = some n ↔ n ≤ top ∧ decDigits n = l :=
  ⟨fun h => ⟨(num_some h).2.2.2.1, (num_some h).2.2.2.2⟩, fun ⟨h1, h2⟩ => h2 ▸ num_dec h1⟩
theorem num_none_long {l : List UInt8} (h : 13 < l.length) : num? l = none := by
  unfold num?
  rw [if_pos (.inr (.inl h))]

/-- What Text tells. -/
def txt (n : Int) : List UInt8 := if 0 ≤ n ∧ n ≤ 1099511627776 then decDigits n.toNat else []
theorem txt_in {n : Nat} (h : n ≤ top) : txt (n : Int) = decDigits n := by
  unfold txt
  unfold top at h
  rw [if_pos (by omega)]
  rfl
theorem txt_out {n : Int} (h : ¬ (0 ≤ n ∧ n ≤ 1099511627776)) : txt n = [] := by
  unfold txt
  rw [if_neg h]

/-- How the program reads a number: what ParseInt tells, held against its text. -/
theorem parse_short {l : List UInt8} (h : l.length ≤ 13) : parseIntB 64 l = NumEnd.ofOption (atoi l) := by
  rw [parseIntB_64, atoiAll_short l (by omega)]
theorem num_of_atoi_none {l : List UInt8} (h : atoi l = none) : num? l = none := by
  cases hn : num? l with
  | none => rfl
  | some n =>
    exfalso
    obtain ⟨h1, _, h3, _, h5⟩ := num_some hn
    cases l with
    | nil => exact h1 rfl
    | cons b r =>
      have hb : ∃ d, digitVal b = some d := digit_of_decFrom _ _ _ h3 0 b rfl
      obtain ⟨d, hd⟩ := hb
      obtain ⟨_, hbe, hd10⟩ := digitVal_some hd
      obtain ⟨g1, g2, _⟩ := digitVal_eq hd
      have n45 : (b == 45) = false := by
        rw [beq_eq_false_iff_ne]
        intro e
        subst e
        exact absurd g1 (by decide)
      have n43 : (b == 43) = false := by
        rw [beq_eq_false_iff_ne]
        intro e
        subst e
        exact absurd g1 (by decide)
      simp [atoi, n45, n43, decNat, h3] at h
theorem num_of_atoi {l : List UInt8} {n : Int} (h : atoi l = some n) (hl : l.length ≤ 13) : num? l = if txt n = l then some n.toNat else none := by
  by_cases hq : 0 ≤ n ∧ n ≤ 1099511627776
  · unfold txt
    rw [if_pos hq]
    by_cases he : decDigits n.toNat = l
    · rw [if_pos he]
      exact num_iff.2 ⟨by unfold top; omega, he⟩
    · rw [if_neg he]
      cases hn : num? l with
      | none => rfl
      | some m =>
        exfalso
        obtain ⟨h1, _, h3, h4, h5⟩ := num_some hn
        have : n = (m : Int) := by
          cases l with
          | nil => exact absurd rfl h1
          | cons b r =>
            have hb : ∃ d, digitVal b = some d := digit_of_decFrom _ _ _ h3 0 b rfl
            obtain ⟨d, hd⟩ := hb
            obtain ⟨g1, g2, _⟩ := digitVal_eq hd
            have n45 : (b == 45) = false := by
              rw [beq_eq_false_iff_ne]
              intro e
              subst e
              exact absurd g1 (by decide)
            have n43 : (b == 43) = false := by
              rw [beq_eq_false_iff_ne]
              intro e
              subst e
              exact absurd g1 (by decide)
            simp [atoi, n45, n43, decNat, h3] at h
            exact h.symm
        subst this
        exact he (by simpa using h5)
  · rw [txt_out hq]
    have hne : l ≠ [] := by
      rintro rfl
      simp [atoi] at h
    rw [if_neg (fun e => hne e.symm)]
    cases hn : num? l with
    | none => rfl
    | some m =>
      exfalso
      obtain ⟨h1, _, h3, h4, h5⟩ := num_some hn
      have : n = (m : Int) := by
        cases l with
        | nil => exact absurd rfl h1
        | cons b r =>
          have hb : ∃ d, digitVal b = some d := digit_of_decFrom _ _ _ h3 0 b rfl
          obtain ⟨d, hd⟩ := hb
          obtain ⟨g1, g2, _⟩ := digitVal_eq hd
          have n45 : (b == 45) = false := by
            rw [beq_eq_false_iff_ne]
            intro e
            subst e
            exact absurd g1 (by decide)
          have n43 : (b == 43) = false := by
            rw [beq_eq_false_iff_ne]
            intro e
            subst e
            exact absurd g1 (by decide)
          simp [atoi, n45, n43, decNat, h3] at h
          exact h.symm
      unfold top at h4
      omega
end Go.Proofs.YtekcjfdllclphaaGreatDoor.un
end
section
set_option linter.unusedVariables false
namespace Go.Proofs.YtekcjfdllclphaaGreatDoor.gn
open Go.RowKit

/-- How a round may be left, by a panic too. -/
def roundPostP (P : Program) (l : Nat) (R : Ending → World → Prop) : Exit → Act → World → Prop
  | .panic ch, a, w => a.defers = [] ∧ R (.panicked ch) w
  | .normal, a, w => roundPost P l R .normal a w
  | .ret, a, w => roundPost P l R .ret a w
  | .exit id, a, w => roundPost P l R (.exit id) a w
  | .goto t, a, w => roundPost P l R (.goto t) a w
  | .outgrown, _, _ => False

theorem roundIn_p {P : Program} {n l : Nat} {f : FuncId} {tmps : Array Value} {assign body : Code} {w : World} {R : Ending → World → Prop} (hf : ∃ fn, P.funcs[f]? = some fn)
    (h : assign.wpIn (Fence.wide.inRound l) n P (Exit.then (fun a₁ w₁ => ∃ w₂, (Instr.beginRound l).run P w₁ = .ok () w₂ ∧ body.wpIn (Fence.wide.inRound l) n P (roundPostP P l R) a₁ w₂) (fun _ _ _ => False)) { tmps := tmps, defers := [] } w) :
    RoundIn Fence.wide n P l f tmps assign body w R := by
  refine ⟨trivial, fun c cs hr => ?_⟩
  let b : Frame := { (default : Frame) with fn := f, kind := .normal, roundOf := some l }
  have hb0 : Frame.round l f tmps assign body .normal = b.atR { tmps := tmps, defers := [] } [.code assign, .beginRound, .code body] := by
    simp [Frame.round, Frame.atR, b]
  have hr' : (Fence.wide.inRound l).room ((c :: cs).length + 1 + n) := hr
  have hF' : (Fence.wide.inRound l).fn b.fn := trivial
  obtain ⟨e, a₁, w₁, hq, harr⟩ := h b [.beginRound, .code body] (c :: cs) rfl hF' hr'
  rw [← hb0] at harr
  cases e with
  | normal =>
    obtain ⟨w₂, hbr, hbody⟩ := hq
    have s1 : StepsIn (Machine.fenced P (Fence.wide.inRound l)) P (lone (b.atR a₁ [.beginRound, .code body]) (c :: cs) w₁) (lone (b.atR a₁ [.code body]) (c :: cs) w₂) :=
      .one (fenced_calm (fr := b.atR a₁ [.beginRound, .code body]) hF' hr' rfl) (stepR_beginRound rfl hbr)
    obtain ⟨e₂, a₂, w₃, hq₂, harr₂⟩ := hbody b [] (c :: cs) rfl hF' hr'
    cases e₂ with
    | normal =>
      obtain ⟨v, w₄, hend, hR⟩ := hq₂
      exact ⟨.returned v, w₄, hR, (StepsIn.trans harr s1).trans (StepsIn.trans harr₂ (.one (fenced_calm (fr := b.atR a₂ []) hF' hr' rfl) (stepR_round_end rfl rfl hend)))⟩
    | ret =>
      obtain ⟨v, w₄, hend, hR⟩ := hq₂
      obtain ⟨k₁, hs⟩ := harr₂.2 rfl
      exact ⟨.returned v, w₄, hR, (StepsIn.trans harr s1).trans (StepsIn.trans hs (.one (fenced_calm (fr := b.atR a₂ (.code .ret :: k₁)) hF' hr' rfl) (stepR_round_ret rfl rfl hend)))⟩
    | exit id =>
      obtain ⟨v, w₄, hend, hR⟩ := hq₂
      obtain ⟨k₁, hk, hs⟩ := harr₂.2 rfl rfl
      exact ⟨.returned v, w₄, hR, (StepsIn.trans harr s1).trans (StepsIn.trans hs (.one (fenced_calm (fr := b.atR a₂ (.code (.exit id) :: k₁)) hF' hr' rfl) (stepR_round_exit rfl rfl hk hend)))⟩
    | goto t =>
      obtain ⟨v, w₄, hend, hR⟩ := hq₂
      obtain ⟨k₁, hk, hs⟩ := harr₂.2 rfl rfl
      exact ⟨.returned v, w₄, hR, (StepsIn.trans harr s1).trans (StepsIn.trans hs (.one (fenced_calm (fr := b.atR a₂ (.code (.goto t) :: k₁)) hF' hr' rfl) (stepR_round_goto rfl rfl hk hend)))⟩
    | panic chain =>
      obtain ⟨hd, hR⟩ := hq₂
      obtain ⟨todo, hs⟩ := harr₂
      obtain ⟨fn, hfn⟩ := hf
      have hl : ({ b.atR a₂ todo with mode := .panicking chain } : Frame).leaving P w₃ (.panicked chain) := ⟨rfl, hd, fn, hfn⟩
      exact ⟨.panicked chain, w₃, hR, (StepsIn.trans harr s1).trans (StepsIn.trans hs (.one (fenced_leaving (F := Fence.wide.inRound l) hF' hr' hl) (step_leave_panicked hl)))⟩
    | outgrown => exact hq₂.elim
  | exit id => exact hq.elim
  | goto t => exact hq.elim
  | ret => exact hq.elim
  | panic chain => exact hq.elim
  | outgrown => exact hq.elim

/-! ### code in the frames of one function -/
def wpF (P : Program) (f : FuncId) (c : Code) (Q : Exit → Act → World → Prop) (a : Act) (w : World) : Prop :=
  ∀ (b : Frame) (k : List Item) (cs : List Frame), b.roundOf = none → b.fn = f →
    ∃ e a' w', Q e a' w' ∧ ArrivesIn (Machine.fenced P Fence.wide) P (lone (b.atR a (.code c :: k)) cs w) b k cs e a' w'
section
variable {P : Program} {f : FuncId} {Q : Exit → Act → World → Prop} {a : Act} {w : World}
theorem wpF_of {n : Nat} {c : Code} (h : c.wpIn Fence.wide n P Q a w) : wpF P f c Q a w := fun b k cs hr _ => h b k cs hr trivial (room_wide _)
theorem wpF_seq {x y : Code} (h : wpF P f x (Exit.then (wpF P f y Q) Q) a w) : wpF P f (.seq x y) Q a w := by
  intro b k cs hro hb
  have h0 : (lone (b.atR a (.code (.seq x y) :: k)) cs w).fenced P Fence.wide := fenced_wide _ _
  obtain ⟨e, a₁, w₁, hq, harr⟩ := h b (.code y :: k) cs hro hb
  cases e with
  | normal =>
    obtain ⟨e₂, a₂, w₂, hq₂, harr₂⟩ := hq b k cs hro hb
    exact ⟨e₂, a₂, w₂, hq₂, .of_steps (.head h0 stepR_seq harr) harr₂⟩
  | exit id => exact ⟨_, a₁, w₁, hq, .of_steps (.one h0 stepR_seq) (.pass (x := .code y) rfl (fun _ _ => .inl (by simp)) harr)⟩
  | goto l => exact ⟨_, a₁, w₁, hq, .of_steps (.one h0 stepR_seq) (.pass (x := .code y) rfl (fun _ _ => .inl (by simp)) harr)⟩
  | ret => exact ⟨_, a₁, w₁, hq, .of_steps (.one h0 stepR_seq) (.pass (x := .code y) rfl (fun _ _ => .inl (by simp)) harr)⟩
  | panic ch => exact ⟨_, a₁, w₁, hq, .of_steps (.one h0 stepR_seq) (.pass (x := .code y) rfl (fun _ _ => .inl (by simp)) harr)⟩
  | outgrown => exact ⟨_, a₁, w₁, hq, .of_steps (.one h0 stepR_seq) (.pass (x := .code y) rfl (fun _ _ => .inl (by simp)) harr)⟩
theorem wpF_mono {c : Code} {Q' : Exit → Act → World → Prop} (h : wpF P f c Q a w) (hq : ∀ e a w, Q e a w → Q' e a w) : wpF P f c Q' a w := fun b k cs hr hb =>
  let ⟨e, a', w', q, r⟩ := h b k cs hr hb; ⟨e, a', w', hq _ _ _ q, r⟩
/-- A function's contract from its body. -/
theorem callsF {fn : Func} {c : Code} {args : Array Value} {R : Ending → World → Prop} (n : Nat)
    (hf : P.funcs[f]? = some fn) (hb : fn.body = some c)
    (h : wpF P f c (bodyPostM Fence.wide n P fn R) { tmps := args ++ Array.replicate (fn.ntmps - args.size) undef, defers := [] } w) : Calls P f args w R := by
  refine (callsIn_wide (n := n)).1 ⟨trivial, fun cs hr => ?_⟩
  let b : Frame := { (default : Frame) with fn := f, kind := .normal, roundOf := none }
  have henter : Frame.enter P f args .normal =
      b.atR { tmps := args ++ Array.replicate (fn.ntmps - args.size) undef, defers := [] } [.code c] := by
    simp [Frame.enter, Frame.atR, hf, hb, b]
  obtain ⟨e, a', w', hq, harr⟩ := h b [] cs rfl rfl
  rw [← henter] at harr
  cases e with
  | normal =>
    obtain ⟨e', w'', fr', hR, hs, hfn, hl⟩ := leaves_stepsInM a'.defers .returning w' { b.atR a' [] with mode := .returning } cs rfl rfl rfl hf rfl trivial hr hq
    exact ⟨e', w'', fr', hR, ComesIn.of_steps (StepsIn.trans harr (.one (fenced_wide _ _) (stepR_end rfl))) hs, hfn, hl⟩
  | ret =>
    obtain ⟨todo, hs₀⟩ := harr.1 rfl
    obtain ⟨e', w'', fr', hR, hs, hfn, hl⟩ := leaves_stepsInM a'.defers .returning w' { b.atR a' todo with mode := .returning } cs rfl rfl rfl hf rfl trivial hr hq
    exact ⟨e', w'', fr', hR, ComesIn.of_steps hs₀ hs, hfn, hl⟩
  | panic chain =>
    obtain ⟨todo, hs₀⟩ := harr
    obtain ⟨e', w'', fr', hR, hs, hfn, hl⟩ := leaves_stepsInM a'.defers (.panicking chain) w' { b.atR a' todo with mode := .panicking chain } cs rfl rfl rfl hf rfl trivial hr hq
    exact ⟨e', w'', fr', hR, ComesIn.of_steps hs₀ hs, hfn, hl⟩
  | exit id => exact hq.elim
  | goto l => exact hq.elim
  | outgrown => exact ⟨.outgrown, w', b, hq, harr.resolve_left (by simp [b]), rfl, trivial⟩

/-- The statement, in the frames of one function. -/
theorem wpF_rangeFunc {n : Nat} {g : Operand} {ps : Array Tmp} {assign body : Code}
    (h : ∃ (l : Nat) (mark : List Deferred) (w₁ : World) (d : Deferred) (w₁' : World) (f' : FuncId) (args : Array Value) (w₂ : World),
      (Instr.enterLoop f a.tmps ps assign body none).run P w = .ok (l, mark) w₁ ∧
      (resolve a.eval (rangeCall g l) 0).run P w₁ = .ok d w₁' ∧
      (invoke d.target d.args).run P w₁' = .ok (.enter f' args) w₂ ∧
      CallsIn Fence.wide (n - 1) P f' args w₂ (rangePost Fence.wide n P l Q { a with defers := mark ++ a.defers })) :
    wpF P f (Code.rangeFunc g ps assign body) Q a w := by
  intro b k cs hro hb
  obtain ⟨l, mark, w₁, d, w₁', f', args, w₂, he, hres, hinv, hcall⟩ := h
  rw [← hro, ← hb] at he
  have h0 : (lone (b.atR a (.code (.rangeFunc g ps assign body) :: k)) cs w).fenced P Fence.wide := fenced_wide _ _
  have henter := stepR_rangeFunc (P := P) (b := b) (a := a) (k := k) (cs := cs) (w := w) he hres hinv
  obtain ⟨e, w₃, fr, hR, hsteps, hfn, hleave⟩ := hcall.2 (b.atR { a with defers := mark ++ a.defers } (.inRangeFunc l :: k) :: cs) (room_wide _)
  cases e with
  | outgrown =>
    obtain ⟨a₀, w₀, hq⟩ := hR
    exact ⟨.outgrown, a₀, w₀, hq, .inr (Outgrown.of_steps (.one henter) hsteps)⟩
  | returned v =>
    obtain ⟨jump, w₄, hend, hj⟩ := hR
    have sback : StepsIn (Machine.fenced P Fence.wide) P (lone (b.atR a (.code (.rangeFunc g ps assign body) :: k)) cs w) (lone (b.atR { a with defers := mark ++ a.defers } ((jump.map Item.code).toList ++ k)) cs w₄) := by
      refine .head h0 henter (StepsIn.trans hsteps (.head (fenced_wide _ _) ?_ (.one (fenced_wide _ _) (stepR_endRangeFunc hend))))
      rw [← finish_atR_inRangeFunc l v]; exact step_leave_returned hleave
    cases jump with
    | none => exact ⟨.normal, _, w₄, hj, sback⟩
    | some c =>
      obtain ⟨e', a'', w₅, hq, harr⟩ := hj b k cs hro trivial (room_wide _)
      exact ⟨e', a'', w₅, hq, .of_steps sback harr⟩
  | panicked chain =>
    refine ⟨.panic chain, _, w₃, hR, .inRangeFunc l :: k, .head h0 henter (StepsIn.trans hsteps (.one (fenced_wide _ _) ?_))⟩
    rw [← Frame.raise_atR]; exact step_leave_panicked hleave
end

theorem wpF_block {P : Program} {f : FuncId} {Q : Exit → Act → World → Prop} {a : Act} {w : World} {id : Nat} {c : Code} (h : wpF P f c (Exit.inBlock id Q) a w) : wpF P f (.block id c) Q a w := by
  intro b k cs hro hb
  have h0 : (lone (b.atR a (.code (.block id c) :: k)) cs w).fenced P Fence.wide := fenced_wide _ _
  obtain ⟨e, a₁, w₁, hq, harr⟩ := h b (.inBlock id :: k) cs hro hb
  cases e with
  | normal => exact ⟨.normal, a₁, w₁, hq, .head h0 stepR_block (StepsIn.trans harr (.one (fenced_wide _ _) stepR_inBlock))⟩
  | exit id' =>
    by_cases hid : id' = id
    · simp only [Exit.inBlock, hid, if_true] at hq
      exact ⟨.normal, a₁, w₁, hq, .head h0 stepR_block (harr.1 k (by simp [exitTo, hid]))⟩
    · simp only [Exit.inBlock, hid, if_false] at hq
      have this : (id == id') = false := by simp; exact fun h => hid h.symm
      have hx : exitTo id' (.inBlock id :: k) = exitTo id' k := by simp [exitTo, this]
      exact ⟨.exit id', a₁, w₁, hq, fun k' hk => .head h0 stepR_block (harr.1 k' (by rw [hx]; exact hk)),
        fun hr' hk => let ⟨k₁, h1, h2⟩ := harr.2 hr' (by rw [hx]; exact hk); ⟨k₁, h1, .head h0 stepR_block h2⟩⟩
  | goto l =>
    have hx : gotoIn l (.inBlock id :: k) = gotoIn l k := by simp [gotoIn]
    exact ⟨_, a₁, w₁, hq, fun k' hk => .head h0 stepR_block (harr.1 k' (by rw [hx]; exact hk)),
      fun hr' hk => let ⟨k₁, h1, h2⟩ := harr.2 hr' (by rw [hx]; exact hk); ⟨k₁, h1, .head h0 stepR_block h2⟩⟩
  | ret => exact ⟨_, a₁, w₁, hq, .of_steps (.one h0 stepR_block) harr⟩
  | panic ch => exact ⟨_, a₁, w₁, hq, .of_steps (.one h0 stepR_block) harr⟩
  | outgrown => exact ⟨_, a₁, w₁, hq, .of_steps (.one h0 stepR_block) harr⟩
theorem wpF_seq_k {P : Program} {f : FuncId} {n : Nat} {x y : Code} {Q : Exit → Act → World → Prop} {a : Act} {w : World} (h : ∀ K : Act → World → Prop, (∀ a w, wpF P f y Q a w → K a w) → x.wpIn Fence.wide n P (Exit.then K Q) a w) : wpF P f (.seq x y) Q a w :=
  wpF_seq (wpF_of (h _ fun _ _ h => h))

/-! ### an iterator that yields a row; a round may panic -/
/-- What the iterator itself does to the rounds' state, and what the book-keeping does. -/
structure Calm (B : Nat) (I : World → Prop) : Prop where
  next : ∀ A C, I A → Below A.heap.size A C → I C
  put : ∀ A l o o', B ≤ l → I A → A.heap[l]? = some o → o.isCells = false → o'.isCells = false → I (A.putObj l o')
/-- The iterator's contract: `ok` is what it asks of the world ahead of each item. -/
def SeqP {α : Type} (n : Nat) (P : Program) (g : Nat) (lb : Array Value) (encs : α → Array Value) (xs : List α) (ok : World → Prop) (w : World) : Prop :=
  ∀ (l : Nat) (J : Nat → World → Prop) (Jp : List PanicEntry → World → Prop) (W : World), Below w.heap.size w W → (∀ k A, J k A → ok A) → (∀ k A C, J k A → Below A.heap.size A C → J k C) →
    (∀ k x A, J k A → xs[k]? = some x → YieldAt Fence.wide (n - 1) P l (encs x) A fun e C => (e = .returned (.bool true) ∧ J (k + 1) C) ∨ ∃ ch, e = .panicked ch ∧ Jp ch C) → J 0 W →
    CallsIn Fence.wide n P g (#[.func (.yield l) #[] #[]] ++ lb) W fun e C => (∃ v, e = .returned v ∧ J xs.length C) ∨ ∃ ch, e = .panicked ch ∧ Jp ch C

/-- How a round's body may be left. -/
def bodyP (D : Nat) (I : World → Prop) (Ip : List PanicEntry → World → Prop) (W : World) : Exit → Act → World → Prop
  | .normal, _, C => KeepsFrom D W C ∧ I C
  | .panic ch, a, C => a.defers = [] ∧ KeepsFrom D W C ∧ Ip ch C
  | _, _, _ => False

theorem range_p {α : Type} {P : Program} {n : Nat} {f : FuncId} {fn0 : Func} (hfn : P.funcs[f]? = some fn0) {g : Operand} {ps : Array Tmp} {assign body : Code} {Q : Exit → Act → World → Prop} {a : Act} {w : World} {gf : Nat} {lb : Array Value}
    (hg : a.eval g = .func (.func gf) #[] lb) (eg : ∀ args w, (callFunc gf args).run P w = .ok (.enter gf args) w) {encs : α → Array Value} {xs : List α} {ok : World → Prop} {w0 : World}
    (hseq : SeqP (n - 1) P gf lb encs xs ok w0) (hb0 : Below w0.heap.size w0 w) (hps : ∀ x, (encs x).size = ps.size)
    (I : Nat → World → Prop) (Ip : List PanicEntry → World → Prop) (hok : ∀ k A, I k A → ok A) (hI : ∀ k, Calm w.heap.size (I k)) (h0 : I 0 w) (a₁ : α → Act)
    (hassign : ∀ (l k : Nat) (x : α) (W : World) (K : Act → World → Prop), I k W → K (a₁ x) W →
      assign.wpIn (Fence.wide.inRound l) (n - 1 - 1) P (Exit.then K (fun _ _ _ => False)) { tmps := (ps.zip (encs x)).foldl (fun t (p, v) => t.setIfInBounds p v) a.tmps, defers := [] } W)
    (hbody : ∀ (l k : Nat) (x : α) (W : World), xs[k]? = some x → I k W → body.wpIn (Fence.wide.inRound l) (n - 1 - 1) P (bodyP w.heap.size (I (k + 1)) Ip W) (a₁ x) W)
    (hdone : ∀ (D : Nat) (W : World), w.heap.size ≤ D → I xs.length W → W.heap[D]? = some (.deferred (some [])) → Q .normal { a with defers := { target := .collected D, args := #[] } :: a.defers } W)
    (hpan : ∀ (D : Nat) (ch : List PanicEntry) (W : World), w.heap.size ≤ D → Ip ch W → W.heap[D]? = some (.deferred (some [])) → Q (.panic ch) { a with defers := { target := .collected D, args := #[] } :: a.defers } W) :
    wpF P f (Code.rangeFunc g ps assign body) Q a w := by
  refine wpF_rangeFunc (n := n) ?_
  obtain ⟨rec, hrec⟩ : ∃ rec : LoopState → Option Code → Loop, rec = fun st pe => { state := st, pending := pe, fn := f, tmps := a.tmps, params := ps, assign, body, defers := w.heap.size } := ⟨_, rfl⟩
  obtain ⟨s, hs⟩ : ∃ s, s = w.heap.size := ⟨_, rfl⟩
  obtain ⟨W1, hW1⟩ : ∃ W1, (w.alloc (.deferred (some []))).alloc (.loop (rec .ready none)) = W1 := ⟨_, rfl⟩
  have hL1 : W1.heap[s + 1]? = some (.loop (rec .ready none)) := by
    have h := World.alloc_heap_new (w.alloc (.deferred (some []))) (.loop (rec .ready none))
    rw [World.size_alloc, hW1, ← hs] at h
    exact h
  have hK1 : W1.heap[s]? = some (.deferred (some [])) := by
    rw [← hW1, hs]; exact (Below.heap_alloc _ _ _ (by simp)).trans (World.alloc_heap_new w _)
  have hb1 : Below w.heap.size w W1 := by rw [← hW1]; exact ((Below.refl _ w).alloc (Nat.le_refl _) _).alloc (by simp) _
  have hI1 : I 0 W1 := (hI 0).next w W1 h0 hb1
  obtain ⟨J, hJ⟩ : ∃ J : Nat → World → Prop, J = fun k W => I k W ∧ W.heap[s + 1]? = some (.loop (rec .ready none)) ∧ W.heap[s]? = some (.deferred (some [])) := ⟨_, rfl⟩
  obtain ⟨Jp, hJp⟩ : ∃ Jp : List PanicEntry → World → Prop, Jp = fun ch W => Ip ch W ∧ W.heap[s]? = some (.deferred (some [])) := ⟨_, rfl⟩
  refine ⟨s + 1, [{ target := .collected s, args := #[] }], W1, { target := .fn (.func gf) lb, args := #[.func (.yield (s + 1)) #[] #[]] }, W1, gf, #[.func (.yield (s + 1)) #[] #[]] ++ lb, W1, ?_, ?_, ?_, ?_⟩
  · rw [← hW1, hrec, hs]; exact run_enterLoop_outer _ _ _ _ _
  · simp only [resolve, hg]
    simp [go_sem]
  · simp [invoke, go_sem, eg]
  · refine (hseq (s + 1) J Jp W1 (hb0.trans (hb1.mono hb0.size)) (fun k A h => by rw [hJ] at h; exact hok k A h.1) (fun k A C h hb => ?_) (fun k x A hj hx => ?_) ?_).mono ?_
    · rw [hJ] at h ⊢
      exact ⟨(hI k).next A C h.1 hb, (hb.block _ (Array.getElem?_eq_some_iff.1 h.2.1).1).trans h.2.1, (hb.block _ (Array.getElem?_eq_some_iff.1 h.2.2).1).trans h.2.2⟩
    · rw [hJ] at hj
      obtain ⟨hi, hl, hk⟩ := hj
      have hlt : s + 1 < A.heap.size := (Array.getElem?_eq_some_iff.1 hl).1
      have hy := run_yield (P := P) (args := encs x) hl (by rw [hrec]; exact hps x)
      rw [hrec] at hy
      refine ⟨f, _, assign, body, hy, roundIn_p ⟨_, hfn⟩ (hassign _ k x A _ hi ?_)⟩
      clear hy
      refine ⟨_, run_beginRound hl (by rw [hrec]), ?_⟩
      have hl2 : (A.putObj (s + 1) (.loop { rec .ready none with state := .busy })).heap[s + 1]? = some (.loop { rec .ready none with state := .busy }) := World.putObj_heap_same hlt
      have hk2 : (A.putObj (s + 1) (.loop { rec .ready none with state := .busy })).heap[s]? = some (.deferred (some [])) := (World.putObj_heap_other (by omega)).trans hk
      refine wpIn_mono (hbody _ k x _ hx ((hI k).put _ _ _ _ (by omega) hi hl rfl rfl)) ?_
      rintro e a3 A3 hp
      cases e with
      | normal =>
        obtain ⟨p1, p3⟩ := hp
        have hl3 := p1.same _ _ (by omega) hl2 rfl
        have hlt3 : s + 1 < A3.heap.size := (Array.getElem?_eq_some_iff.1 hl3).1
        have he : (Instr.endRound (s + 1) none).run P A3 = .ok (.bool true) (A3.putObj (s + 1) (.loop (rec .ready none))) := by
          have := run_endRound (P := P) none hl3
          rw [hrec] at this ⊢
          exact this
        refine ⟨_, _, he, .inl ⟨rfl, ?_⟩⟩
        rw [hJ]
        exact ⟨(hI (k + 1)).put _ _ _ _ (by omega) p3 hl3 rfl rfl, World.putObj_heap_same hlt3, (World.putObj_heap_other (by omega)).trans (p1.same _ _ (by omega) hk2 rfl)⟩
      | panic ch =>
        obtain ⟨p0, p1, p3⟩ := hp
        refine ⟨p0, .inr ⟨ch, rfl, ?_⟩⟩
        rw [hJp]
        exact ⟨p3, p1.same _ _ (by omega) hk2 rfl⟩
      | ret => exact hp.elim
      | exit k => exact hp.elim
      | goto t => exact hp.elim
      | outgrown => exact hp.elim
    · rw [hJ]; exact ⟨hI1, hL1, hK1⟩
    · rintro e A (⟨v, rfl, hx⟩ | ⟨ch, rfl, hx⟩)
      · rw [hJ] at hx
        obtain ⟨hi, hl, hk⟩ := hx
        have he : (Instr.endLoop (s + 1)).run P A = .ok none (A.putObj (s + 1) (.loop (rec .exhausted none))) := by
          have := run_endLoop (P := P) hl (by rw [hrec]; simp)
          rw [hrec] at this ⊢
          exact this
        refine ⟨none, _, he, ?_⟩
        exact hdone s _ (Nat.le_of_eq hs.symm) ((hI _).put _ _ _ _ (by omega) hi hl rfl rfl) ((World.putObj_heap_other (by omega)).trans hk)
      · rw [hJp] at hx
        exact hpan s ch _ (Nat.le_of_eq hs.symm) hx.1 hx.2
end Go.Proofs.YtekcjfdllclphaaGreatDoor.gn
end
