/- What the laws want of what is taken and given, plain. -/
import Derived.Test.YtdjpnlkhdilakaaExN
set_option linter.unusedVariables false
namespace Go.Proofs.Ytdjpnlkhdilakaa.ex

theorem apart_nums {l k : List X} (hl : Ok l) (hk : Ok k) (h1 : Apart l) (h2 : Apart k) (h : ∀ n, num n l → num n k → False) : Apart (l ++ k) :=
  (apart_append hl hk).2 ⟨h1, h2, fun n hn => h n hn.1 hn.2⟩
theorem apart_comm {l k : List X} : Apart (l ++ k) ↔ Apart (k ++ l) := apart_perm List.perm_append_comm
/-- What was taken (T) and the rest (R). -/
structure TF (a : List X) (n : Int) (T R : List X) : Prop where
  nT : Normal T
  nR : Normal R
  lT : T.length ≤ a.length + 1
  lR : R.length ≤ a.length
  dj : ∀ x, num x T → num x R → False
  nu : ∀ x, num x T ∨ num x R ↔ num x a
  tT : tot T = n
  tR : tot R = tot a - n
theorem TI.tf {a : List X} {n : Int} {s : St} (h : TI a n s) (h0 : ¬ 0 < s.n) : TF a n (nrm s.took) s.rest := by
  have hs := (apart_append h.nm.1 h.tkn).1 h.ap
  have hN := nrm_of h.tkn hs.2.1
  have hn0 : s.n = 0 := by have := h.lo; omega
  have hlen := h.ln
  rw [if_neg h0] at hlen
  refine ⟨hN.nrm, h.nm, ?_, h.rl, fun x h1 h2 => hs.2.2 x ⟨h2, (hN.num x).1 h1⟩, fun x => ?_, ?_, ?_⟩
  · have := hN.len; omega
  · rw [hN.num, ← h.nu, num_append]; exact Or.comm
  · rw [hN.tot]; have := h.nn; omega
  · have := h.tt; have := h.nn; omega
theorem TF.fT {a : List X} {n : Int} {T R : List X} (h : TF a n T R) (hl : a.length ≤ 900) : Fine T := ⟨by have := h.lT; omega, h.nT.1, h.nT.apart⟩
theorem TF.fR {a : List X} {n : Int} {T R : List X} (h : TF a n T R) (hl : a.length ≤ 900) : Fine R := ⟨by have := h.lR; omega, h.nR.1, h.nR.apart⟩
theorem TF.ap {a : List X} {n : Int} {T R : List X} (h : TF a n T R) : Apart (T ++ R) := apart_nums h.nT.1 h.nR.1 h.nT.apart h.nR.apart h.dj
/-- Rows that are apart, joined: as a, if they have its numbers. -/
theorem nrm_join {l k a : List X} (hl : Ok l) (hk : Ok k) (hlk : Apart (l ++ k)) (ho : Ok a) (ha : Apart a) (h : ∀ x, num x l ∨ num x k ↔ num x a) : nrm (l ++ k) = nrm a := by
  have hN := nrm_of ho ha
  exact nrm_eq (ok_append.2 ⟨hl, hk⟩) hlk hN.nrm fun n => by rw [hN.num, num_append, h]
theorem TF.back {a : List X} {n : Int} {T R : List X} (h : TF a n T R) (hf : Fine a) : nrm (R ++ T) = nrm a :=
  nrm_join h.nR.1 h.nT.1 (apart_comm.1 h.ap) hf.2.1 hf.2.2 fun x => by rw [← h.nu]; exact Or.comm
theorem nrm_fine {l : List X} (ho : Ok l) (ha : Apart l) (hl : l.length ≤ 1000) : Fine (nrm l) := by
  have h := nrm_of ho ha
  exact ⟨Nat.le_trans h.len hl, h.nrm.1, h.nrm.apart⟩
/-- Two that are given back, one after the other: T was taken from a, U from what was left. -/
structure TwoF (a : List X) (S T U : List X) : Prop where
  st : Apart (S ++ T)
  f1 : Fine (nrm (S ++ T))
  ap : Apart (nrm (S ++ T) ++ U)
  eq : nrm (nrm (S ++ T) ++ U) = nrm a
theorem two_of {a S T U : List X} (hf : Fine a) (hS : Normal S) (hT : Normal T) (hU : Normal U) (h1 : ∀ x, num x S → num x T → False) (h2 : ∀ x, num x S → num x U → False) (h3 : ∀ x, num x T → num x U → False)
    (h : ∀ x, num x S ∨ num x T ∨ num x U ↔ num x a) (hl : S.length + T.length ≤ 1000) : TwoF a S T U := by
  have st := apart_nums hS.1 hT.1 hS.apart hT.apart h1
  have ho := ok_append.2 ⟨hS.1, hT.1⟩
  have hN := nrm_of ho st
  have hX : ∀ x, num x (nrm (S ++ T)) ↔ num x S ∨ num x T := fun x => by rw [hN.num, num_append]
  have ap := apart_nums hN.nrm.1 hU.1 hN.nrm.apart hU.apart fun x h4 h5 => ((hX x).1 h4).elim (fun h => h2 x h h5) (fun h => h3 x h h5)
  refine ⟨st, nrm_fine ho st (by rw [List.length_append]; exact hl), ap, nrm_join hN.nrm.1 hU.1 ap hf.2.1 hf.2.2 fun x => ?_⟩
  rw [hX, ← h, or_assoc]
/-- And in the other order. -/
theorem TF.two {a : List X} {n m : Int} {T R U S : List X} (hf : Fine a) (h : TF a n T R) (k : TF R m U S) (hl : a.length ≤ 300) : TwoF a S T U ∧ TwoF a S U T := by
  have e1 : ∀ x, num x S → num x T → False := fun x h1 h2 => h.dj x h2 ((k.nu x).1 (.inr h1))
  have e2 : ∀ x, num x S → num x U → False := fun x h1 h2 => k.dj x h2 h1
  have e3 : ∀ x, num x T → num x U → False := fun x h1 h2 => h.dj x h1 ((k.nu x).1 (.inl h2))
  have l1 := h.lT
  have l2 := h.lR
  have l3 := k.lT
  have l4 := k.lR
  refine ⟨two_of hf k.nR h.nT k.nT e1 e2 e3 (fun x => ?_) (by omega), two_of hf k.nR k.nT h.nT e2 e1 (fun x h1 h2 => e3 x h2 h1) (fun x => ?_) (by omega)⟩
  · rw [← h.nu x, ← k.nu x]
    constructor
    · rintro (h | h | h)
      · exact .inr (.inr h)
      · exact .inl h
      · exact .inr (.inl h)
    · rintro (h | h | h)
      · exact .inr (.inl h)
      · exact .inr (.inr h)
      · exact .inl h
  · rw [← h.nu x, ← k.nu x]
    constructor
    · rintro (h | h | h)
      · exact .inr (.inr h)
      · exact .inr (.inl h)
      · exact .inl h
    · rintro (h | h | h)
      · exact .inr (.inr h)
      · exact .inr (.inl h)
      · exact .inl h
theorem meet_self {a : List X} (ho : Ok a) (h : a ≠ []) : ¬ Apart (a ++ a) := by
  intro ha
  obtain ⟨x, l, rfl⟩ := List.exists_cons_of_ne_nil h
  have hx := ho x List.mem_cons_self
  unfold okx at hx
  exact ((apart_append ho ho).1 ha).2.2 x.1 ⟨num_in (Int.le_refl _) (by omega), num_in (Int.le_refl _) (by omega)⟩
end Go.Proofs.Ytdjpnlkhdilakaa.ex
