/- Orders, plain: the program's way to read, field by field; its Check. -/
import Derived.Test.YtekcjfdllclphaaGreatDoorMOrR
import Derived.Test.YtekcjfdllclphaaGreatDoorMSlB
section
set_option linter.unusedVariables false
namespace Go.Proofs.YtekcjfdllclphaaGreatDoor.od
open Go.Proofs.YtekcjfdllclphaaGreatDoor.un
open Go.Proofs.YtekcjfdllclphaaGreatDoor.di
open Go.Proofs.YtekcjfdllclphaaGreatDoor.sp
open Go.Lib (decDigits)

/-- May a value be stored? -/
def okO (k : Nat) (key v : Tx) : Bool :=
  if key = jobW then (within? v 1 1073741824).isSome
  else if key = nK then (within? v (lo k) (hi k)).isSome
  else if key = resK then (v == okW || v == badW)
  else if key = capK then decide (0 < (size? v).getD 0)
  else if key = accK then (v == pubV || v == priV)
  else isName v
def numV (v : Tx) : Int := (((num? v).getD 0 : Nat) : Int)
def sizV (v : Tx) : Int := (((size? v).getD 0 : Nat) : Int)
/-- What is stored. -/
def stO (key v : Tx) (o : Ord) : Ord :=
  if key = jobW then { o with job := numV v }
  else if key = nK then { o with n := numV v }
  else if key = resK then { o with yes := v == okW }
  else if key = accK then { o with yes := v == pubV }
  else if key = capK then { o with size := sizV v }
  else if isName v = false then o
  else if key = userK then { o with user := v }
  else if key = nameK then { o with name := v }
  else { o with pool := v }
def Eight (key : Tx) : Prop := key = jobW ∨ key = nK ∨ key = resK ∨ key = userK ∨ key = nameK ∨ key = capK ∨ key = poolK ∨ key = accK
theorem key_eight {k : Nat} {key : Tx} (h : key ∈ keysO k) : Eight key := by
  unfold keysO at h
  unfold Eight
  simp only [List.mem_append] at h
  rcases h with ((((((h | h) | h) | h) | h) | h) | h) <;> split at h <;> simp at h <;> first | (rcases h with h | h <;> simp [h]) | simp [h]
theorem eight_ne {key : Tx} (h : Eight key) : key ≠ [] ∧ (61 : UInt8) ∉ key ∧ key.length ≤ 8 := by
  rcases h with rfl | rfl | rfl | rfl | rfl | rfl | rfl | rfl <;> decide
theorem ostep_st (k : Nat) (o : Ord) {key : Tx} (h : Eight key) (v : Tx) : ostep k o (key, v) = if okO k key v = true then some (stO key v o) else none := by
  have wi : ∀ a b : Nat, (∃ n, within? v a b = some n ∧ num? v = some n) ∨ within? v a b = none := fun a b => by
    cases hw : within? v a b with
    | none => exact .inr rfl
    | some n => exact .inl ⟨n, rfl, (within_some hw).2.2.2⟩
  rcases h with rfl | rfl | rfl | rfl | rfl | rfl | rfl | rfl
  · show (within? v 1 1073741824).map (fun n => ({ o with job := (n : Int) } : Ord)) = if (within? v 1 1073741824).isSome = true then some { o with job := numV v } else none
    rcases wi 1 1073741824 with ⟨n, h1, h2⟩ | h1
    · unfold numV; rw [h1, h2]; rfl
    · rw [h1]; rfl
  · show (within? v (lo k) (hi k)).map (fun n => ({ o with n := (n : Int) } : Ord)) = if (within? v (lo k) (hi k)).isSome = true then some { o with n := numV v } else none
    rcases wi (lo k) (hi k) with ⟨n, h1, h2⟩ | h1
    · unfold numV; rw [h1, h2]; rfl
    · rw [h1]; rfl
  · show (if v = okW then some { o with yes := true } else if v = badW then some { o with yes := false } else none) = if (v == okW || v == badW) = true then some { o with yes := v == okW } else none
    by_cases h1 : v = okW
    · subst h1; rfl
    · rw [if_neg h1, show (v == okW) = false by rw [beq_eq_false_iff_ne]; exact h1]
      by_cases h2 : v = badW
      · subst h2; rfl
      · rw [if_neg h2, show (v == badW) = false by rw [beq_eq_false_iff_ne]; exact h2]; rfl
  · show (if isName v = true then some { o with user := v } else none) = if isName v = true then some (if isName v = false then o else { o with user := v }) else none
    cases isName v <;> rfl
  · show (if isName v = true then some { o with name := v } else none) = if isName v = true then some (if isName v = false then o else { o with name := v }) else none
    cases isName v <;> rfl
  · show (match size? v with
    | some n => if 0 < n then some { o with size := (n : Int) } else none
    | none => none) = if decide (0 < (size? v).getD 0) = true then some { o with size := sizV v } else none
    unfold sizV
    cases hs : size? v with
    | none => rfl
    | some n =>
      dsimp only
      by_cases h0 : 0 < n
      · rw [if_pos h0, if_pos (by simpa using h0)]; rfl
      · rw [if_neg h0, if_neg (by simpa using h0)]
  · show (if isName v = true then some { o with pool := v } else none) = if isName v = true then some (if isName v = false then o else { o with pool := v }) else none
    cases isName v <;> rfl
  · show (if v = pubV then some { o with yes := true } else if v = priV then some { o with yes := false } else none) = if (v == pubV || v == priV) = true then some { o with yes := v == pubV } else none
    by_cases h1 : v = pubV
    · subst h1; rfl
    · rw [if_neg h1, show (v == pubV) = false by rw [beq_eq_false_iff_ne]; exact h1]
      by_cases h2 : v = priV
      · subst h2; rfl
      · rw [if_neg h2, show (v == priV) = false by rw [beq_eq_false_iff_ne]; exact h2]; rfl
theorem okO_nil (k : Nat) {key : Tx} (h : Eight key) : okO k key [] = false := by
  have w0 : ∀ a b : Nat, within? [] a b = none := fun a b => rfl
  rcases h with rfl | rfl | rfl | rfl | rfl | rfl | rfl | rfl
  · show (within? [] 1 1073741824).isSome = false; rw [w0]; rfl
  · show (within? [] (lo k) (hi k)).isSome = false; rw [w0]; rfl
  · rfl
  · rfl
  · rfl
  · show decide (0 < (size? []).getD 0) = false; rw [size_nil]; rfl
  · rfl
  · rfl
theorem stO_kind (key v : Tx) (o : Ord) : (stO key v o).kind = o.kind ∧ (stO key v o).slip = o.slip := by
  unfold stO
  repeat' split
  all_goals exact ⟨rfl, rfl⟩
theorem orun_step (k : Nat) (o : Ord) {key : Tx} (h : Eight key) (ks : List Tx) (w : Tx) (ws : List Tx) : orun k o (key :: ks) (w :: ws) = if (fldB 61 w).1 = key ∧ okO k key (fldB 61 w).2 = true then orun k (stO key (fldB 61 w).2 o) ks ws else none := by
  rw [orun, cut_B]
  unfold fldB
  cases hc : cutB 61 w with
  | none =>
    rw [if_neg]
    rintro ⟨_, h2⟩
    rw [show ((none : Option (Tx × Tx)).getD (w, [])).2 = [] from rfl, okO_nil k h] at h2
    cases h2
  | some f =>
    obtain ⟨a, v⟩ := f
    simp only [Option.getD_some]
    by_cases ha : a = key
    · subst ha
      rw [if_pos rfl, ostep_st k o h v]
      cases okO k a v
      · simp
      · simp
    · rw [if_neg ha, if_neg fun e => ha e.1]
theorem cut_join : ∀ ws : List Tx, (∀ w ∈ ws, (32 : UInt8) ∉ w) → fldB 32 (joinC 32 ws) = (ws.headD [], joinC 32 ws.tail) ∧ (cutB 32 (joinC 32 ws)).isSome = decide (ws.tail ≠ [])
  | [], _ => ⟨rfl, rfl⟩
  | [a], h => by
    have := (cutB_mem 32).2 (h a (by simp))
    unfold fldB
    show (cutB 32 a).getD (a, []) = (a, []) ∧ (cutB 32 a).isSome = _
    rw [this]
    exact ⟨rfl, rfl⟩
  | a :: b :: r, h => by
    unfold fldB
    rw [joinC_cons 32 a (by simp), cutB_at 32 a _ (h a (by simp))]
    exact ⟨rfl, by simp⟩
/-- How the reading stands ahead of field i. -/
structure LO (k : Nat) (ws0 : List Tx) (i : Nat) (ws : List Tx) (o : Ord) : Prop where
  e : orun k (Ord.at k) (keysO k) ws0 = orun k o ((keysO k).drop i) ws
  c : ∀ w ∈ ws, (32 : UInt8) ∉ w
  kd : o.kind = k
theorem LO.start (k : Nat) {ws : List Tx} (h : ∀ w ∈ ws, (32 : UInt8) ∉ w) : LO k ws 0 ws (Ord.at k) := ⟨rfl, h, rfl⟩
theorem LO.step {k : Nat} {ws0 : List Tx} {i : Nat} {ws : List Tx} {o : Ord} (h : LO k ws0 i ws o) {key : Tx} (hk : (keysO k)[i]? = some key) (h1 : (fldB 61 (ws.headD [])).1 = key) (h2 : okO k key (fldB 61 (ws.headD [])).2 = true) : LO k ws0 (i + 1) ws.tail (stO key (fldB 61 (ws.headD [])).2 o) := by
  have h8 := key_eight (List.mem_of_getElem? hk)
  refine ⟨?_, fun w hw => h.c w (List.mem_of_mem_tail hw), (stO_kind _ _ _).1.trans h.kd⟩
  rw [h.e]
  obtain ⟨hi, he⟩ := List.getElem?_eq_some_iff.1 hk
  rw [List.drop_eq_getElem_cons hi, he]
  cases ws with
  | nil => exact absurd h1.symm (eight_ne h8).1
  | cons w ws =>
    rw [orun_step k o h8, if_pos ⟨h1, h2⟩]
    rfl
theorem LO.fail {k : Nat} {ws0 : List Tx} {i : Nat} {ws : List Tx} {o : Ord} (h : LO k ws0 i ws o) {key : Tx} (hk : (keysO k)[i]? = some key) (h1 : ¬ ((fldB 61 (ws.headD [])).1 = key ∧ okO k key (fldB 61 (ws.headD [])).2 = true)) : orun k (Ord.at k) (keysO k) ws0 = none := by
  have h8 := key_eight (List.mem_of_getElem? hk)
  rw [h.e]
  obtain ⟨hi, he⟩ := List.getElem?_eq_some_iff.1 hk
  rw [List.drop_eq_getElem_cons hi, he]
  cases ws with
  | nil => rfl
  | cons w ws => exact (orun_step k o h8 _ _ _).trans (if_neg h1)
theorem LO.fin {k : Nat} {ws0 : List Tx} {ws : List Tx} {o : Ord} (h : LO k ws0 (keysO k).length ws o) : orun k (Ord.at k) (keysO k) ws0 = if ws = [] then some o else none := by
  rw [h.e, List.drop_length]
  cases ws with
  | nil => rfl
  | cons w ws => rfl

/-! ### a line -/
def kindN (w : Tx) : Nat := ((List.range 19).find? fun k => decide (wordO k = w)).getD 0
theorem kindN_word {k : Nat} (h : k ≤ 18) : kindN (wordO k) = k := by
  rcases (show k = 0 ∨ (1 ≤ k ∧ k ≤ 18) by omega) with rfl | h
  · decide +kernel
  · rcases eighteen h with rfl | rfl | rfl | rfl | rfl | rfl | rfl | rfl | rfl | rfl | rfl | rfl | rfl | rfl | rfl | rfl | rfl | rfl <;> decide +kernel
theorem kindN_none {w : Tx} (h : ∀ k, k < 19 → wordO k ≠ w) : kindN w = 0 := by
  unfold kindN
  rw [List.find?_eq_none.2]
  · rfl
  · intro k hk
    have := h k (List.mem_range.1 hk)
    simpa using this
theorem kindN_le (w : Tx) : kindN w ≤ 18 ∧ (kindN w ≠ 0 → w = wordO (kindN w)) := by
  unfold kindN
  cases hf : (List.range 19).find? fun k => decide (wordO k = w) with
  | none => exact ⟨Nat.zero_le _, fun h => absurd rfl h⟩
  | some k =>
    have h1 := List.mem_of_find?_eq_some hf
    have h2 := List.find?_some hf
    rw [List.mem_range] at h1
    exact ⟨by simp only [Option.getD_some]; omega, fun _ => (of_decide_eq_true h2).symm⟩
theorem kindN_O (w : Tx) : kindO? w = if kindN w = 0 ∨ kindN w = 2 then none else some (kindN w) := by
  obtain ⟨h1, h2⟩ := kindN_le w
  split
  · next h =>
    cases hk : kindO? w with
    | none => rfl
    | some k =>
      obtain ⟨a, b, rfl⟩ := kindO_some hk
      rw [kindN_word a.2] at h
      omega
  · next h =>
    have hw := h2 (by omega)
    generalize kindN w = k at *
    subst hw
    exact kindO_word (by omega) (by omega)
/-- What a kind's words denote. -/
def pway (k : Nat) (ws : List Tx) : Option Ord := if k = 0 then none else orun k (Ord.at k) (keysO k) ws
/-- What a line denotes: an order, of a submit its kind. -/
def pread (l : Tx) : Option Ord := pway (kindN ((cuts 32 l).headD [])) (cuts 32 l).tail
theorem pread_cons {l w : Tx} {ws : List Tx} (h : cuts 32 l = w :: ws) : pread l = pway (kindN w) ws := by
  unfold pread
  rw [h]
  all_goals rfl
theorem line_cut (l : Tx) : fldB 32 l = ((cuts 32 l).headD [], joinC 32 (cuts 32 l).tail) ∧ (cutB 32 l).isSome = decide ((cuts 32 l).tail ≠ []) ∧ ∀ w ∈ (cuts 32 l).tail, (32 : UInt8) ∉ w := by
  have h := cut_join (cuts 32 l) (cuts_clean 32 l)
  rw [join_cuts] at h
  exact ⟨h.1, h.2, fun w hw => cuts_clean 32 l w (List.mem_of_mem_tail hw)⟩
theorem pread_sub {l : Tx} {o : Ord} (h : pread l = some o) : (o.kind = 2 → l = wordO 2 ∧ o = Ord.at 2) ∧ (o.kind ≠ 2 → ∃ w ws, cuts 32 l = w :: ws ∧ kindO? w = some o.kind ∧ orun o.kind (Ord.at o.kind) (keysO o.kind) ws = some o) := by
  obtain ⟨w, ws, hc⟩ : ∃ w ws, cuts 32 l = w :: ws := by
    cases hc : cuts 32 l with
    | nil => exact absurd hc (cuts_ne 32 l)
    | cons w ws => exact ⟨w, ws, rfl⟩
  rw [pread_cons hc] at h
  have hw := kindN_O w
  obtain ⟨h1, h2⟩ := kindN_le w
  generalize kindN w = k at *
  unfold pway at h
  split at h
  · cases h
  · next h0 =>
    by_cases hk2 : k = 2
    · subst hk2
      have hw2 := h2 (by decide)
      have : ws = [] ∧ o = Ord.at 2 := by
        cases ws with
        | nil => exact ⟨rfl, (Option.some.inj h).symm⟩
        | cons a r => cases h
      obtain ⟨rfl, rfl⟩ := this
      refine ⟨fun _ => ⟨?_, rfl⟩, fun h => absurd rfl h⟩
      rw [← join_cuts 32 l, hc, hw2]
      rfl
    · have hok := orun_ok (show 1 ≤ k ∧ k ≤ 18 by omega) hk2 h
      rw [hok.2.1]
      refine ⟨fun e => absurd e hk2, fun _ => ⟨w, ws, hc, ?_, h⟩⟩
      rw [hw, if_neg (by omega)]
theorem oread_of {s w : Tx} {ws : List Tx} (hs : subL.isPrefixOf s = false) (hc : cuts 32 s = w :: ws) : oread s = match kindO? w with
      | some k => (match orun k (Ord.at k) (keysO k) ws with
        | some o => (o, 0, 0)
        | none => (Ord.zero, 160, 1))
      | none => (Ord.zero, 160, 1) := by
  unfold oread
  rw [hs, if_neg (by decide), hc]
  all_goals rfl
theorem pread_none {s w : Tx} {ws : List Tx} (hs : subL.isPrefixOf s = false) (hc : cuts 32 s = w :: ws) (h : pread s = none) : oread s = (Ord.zero, 160, 1) := by
  rw [oread_of hs hc, kindN_O]
  rw [pread_cons hc] at h
  generalize kindN w = k at *
  unfold pway at h
  split
  · next k hk =>
    split at hk
    · cases hk
    · next hn =>
      cases hk
      rw [if_neg (by omega)] at h
      rw [h]
  · rfl

/-! ### no line feed in what is read -/
theorem size_plain {v : Tx} {n : Nat} (h : size? v = some n) : (10 : UInt8) ∉ v := by
  unfold size? at h
  cases hn : num? (spl v).1 with
  | none => rw [hn] at h; cases h
  | some m =>
    have h1 : (10 : UInt8) ∉ (spl v).1 := by
      rw [← (num_some hn).2.2.2.2]
      exact (plain_dec m).2
    rcases spl_cases v with ⟨k, hk, hs, he⟩ | ⟨_, he⟩
    · rw [he] at h1
      rw [suffix_app hs]
      intro hm
      rcases List.mem_append.1 hm with hm | hm
      · exact h1 hm
      · exact (plain_nm hk).2 hm
    · rw [he] at h1
      exact h1
theorem ostep_plain {k : Nat} {o o' : Ord} {f : Fl} (h8 : Eight f.1) (h : ostep k o f = some o') : (10 : UInt8) ∉ f.2 := by
  obtain ⟨key, v⟩ := f
  rcases h8 with h8 | h8 | h8 | h8 | h8 | h8 | h8 | h8 <;> (dsimp only at h8; subst h8)
  · obtain ⟨n, _, e, _⟩ := inv_job h; rw [e]; exact (plain_txt n).2
  · obtain ⟨n, _, e, _⟩ := inv_n h; rw [e]; exact (plain_txt n).2
  · obtain ⟨b, e, _⟩ := inv_res h; rw [e]; cases b <;> decide
  · obtain ⟨e, _⟩ := inv_user h; exact (plain_name e).2
  · obtain ⟨e, _⟩ := inv_name h; exact (plain_name e).2
  · obtain ⟨n, e, _⟩ := inv_cap h; exact size_plain e
  · obtain ⟨e, _⟩ := inv_pool h; exact (plain_name e).2
  · obtain ⟨b, e, _⟩ := inv_acc h; rw [e]; cases b <;> decide
theorem fold_plain (k : Nat) : ∀ (fs : List Fl) (o o' : Ord), (∀ f ∈ fs, Eight f.1) → fs.foldlM (ostep k) o = some o' → ∀ f ∈ fs, (10 : UInt8) ∉ f.2
  | [], _, _, _, _, f, hf => by cases hf
  | g :: fs, o, o', h8, h, f, hf => by
    obtain ⟨o1, h1, h2⟩ := fold_cons h
    rcases List.mem_cons.1 hf with rfl | hf
    · exact ostep_plain (h8 _ (by simp)) h1
    · exact fold_plain k fs o1 o' (fun g hg => h8 g (by simp [hg])) h2 f hf
theorem join_no (c d : UInt8) (hcd : d ≠ c) : ∀ L : List Tx, (∀ w ∈ L, d ∉ w) → d ∉ joinC c L
  | [], _ => by simp [joinC]
  | [a], h => h a (by simp)
  | a :: b :: r, h => by
    rw [joinC_cons c a (by simp)]
    intro hm
    rcases List.mem_append.1 hm with hm | hm
    · exact h a (by simp) hm
    · rcases List.mem_cons.1 hm with hm | hm
      · exact hcd hm
      · exact join_no c d hcd (b :: r) (fun w hw => h w (by simp [hw])) hm
theorem orun_lf {s w : Tx} {ws : List Tx} {k : Nat} {o : Ord} (hc : cuts 32 s = w :: ws) (hk : kindO? w = some k) (h : orun k (Ord.at k) (keysO k) ws = some o) : (10 : UInt8) ∉ s := by
  obtain ⟨h1, h2, rfl⟩ := kindO_some hk
  obtain ⟨_, _, fs, e1, e2, _, e3⟩ := orun_ok h1 h2 h
  have h8 : ∀ f ∈ fs, f.1 ∈ keysO k := fun f hf => by rw [← e2]; exact List.mem_map.2 ⟨f, hf, rfl⟩
  have hv := fold_plain k fs _ _ (fun f hf => key_eight (h8 f hf)) e3
  rw [← join_cuts 32 s, hc]
  refine join_no 32 10 (by decide) _ fun x hx => ?_
  rcases List.mem_cons.1 hx with rfl | hx
  · exact (word_plain h1).1.2
  · rw [e1] at hx
    obtain ⟨f, hf, rfl⟩ := List.mem_map.1 hx
    show (10 : UInt8) ∉ f.1 ++ 61 :: f.2
    intro hm
    rcases List.mem_append.1 hm with hm | hm
    · exact (key_clean (h8 f hf)).2.2 hm
    · rcases List.mem_cons.1 hm with hm | hm
      · exact absurd hm (by decide)
      · exact hv f hf hm

/-! ### Parse -/
theorem sub_pre {a r : Tx} (h : subL.isPrefixOf (a ++ 10 :: r) = true) (ha : (10 : UInt8) ∉ a) : a = wordO 2 := by
  rw [List.isPrefixOf_iff_prefix] at h
  obtain ⟨t, ht⟩ := h
  have h1 : cutB 10 (a ++ 10 :: r) = some (a, r) := cutB_at 10 a r ha
  rw [← ht, show subL ++ t = wordO 2 ++ 10 :: t from rfl, cutB_at 10 (wordO 2) t (by decide)] at h1
  have := Option.some.inj h1
  exact (Prod.mk.inj this).1.symm
/-- No line feed. -/
theorem parse_one {s : Tx} (h : cutB 10 s = none) : oread s = match pread s with
    | some o => if o.kind = 2 then (Ord.zero, 160, 1) else (o, 0, 0)
    | none => (Ord.zero, 160, 1) := by
  have hno := (cutB_mem 10).1 h
  have hs : subL.isPrefixOf s = false := by
    cases hp : subL.isPrefixOf s with
    | false => rfl
    | true =>
      rw [List.isPrefixOf_iff_prefix] at hp
      obtain ⟨t, rfl⟩ := hp
      exact absurd (List.mem_append.2 (.inl (by decide))) hno
  obtain ⟨w, ws, hc⟩ : ∃ w ws, cuts 32 s = w :: ws := by
    cases hc : cuts 32 s with
    | nil => exact absurd hc (cuts_ne 32 s)
    | cons w ws => exact ⟨w, ws, rfl⟩
  cases hp : pread s with
  | none => exact pread_none hs hc hp
  | some o =>
    obtain ⟨h1, h2⟩ := pread_sub hp
    dsimp only
    split
    · next h =>
      obtain ⟨rfl, rfl⟩ := h1 h
      decide +kernel
    · next h =>
      obtain ⟨w', ws', hc', hk, ho⟩ := h2 h
      rw [oread_cuts hc' hk, ho]
/-- A line feed. -/
theorem parse_two {s a r : Tx} (h : cutB 10 s = some (a, r)) : oread s = match pread a with
    | some o => if o.kind = 2 then (match sread r with
      | (x, e, i) => if e = 0 then ({ Ord.at 2 with slip := x }, 0, 0) else (Ord.zero, e, i + 1)) else (Ord.zero, 160, 1)
    | none => (Ord.zero, 160, 1) := by
  obtain ⟨rfl, hno⟩ := cutB_some 10 s a r h
  have bad : ∀ (hn : a ≠ wordO 2), oread (a ++ 10 :: r) = (Ord.zero, 160, 1) := fun hn => by
    have hs : subL.isPrefixOf (a ++ 10 :: r) = false := by
      cases hp : subL.isPrefixOf (a ++ 10 :: r) with
      | false => rfl
      | true => exact absurd (sub_pre hp hno) hn
    obtain ⟨w, ws, hc⟩ : ∃ w ws, cuts 32 (a ++ 10 :: r) = w :: ws := by
      cases hc : cuts 32 (a ++ 10 :: r) with
      | nil => exact absurd hc (cuts_ne 32 _)
      | cons w ws => exact ⟨w, ws, rfl⟩
    rw [oread_of hs hc]
    split
    · next k hk =>
      split
      · next o ho => exact absurd (by simp) (orun_lf hc hk ho)
      · rfl
    · rfl
  by_cases ha : a = wordO 2
  · subst ha
    rw [show pread (wordO 2) = some (Ord.at 2) by decide +kernel]
    dsimp only
    rw [if_pos (show (Ord.at 2).kind = 2 from rfl)]
    unfold oread
    rw [if_pos (by simp [subL, wordO, List.isPrefixOf])]
    rfl
  · rw [bad ha]
    cases hp : pread a with
    | none => rfl
    | some o =>
      dsimp only
      split
      · next h2 => exact absurd ((pread_sub hp).1 h2).1 ha
      · rfl

/-! ### Check -/
theorem chk_kind {o : Ord} (h : ¬ (1 ≤ o.kind ∧ o.kind ≤ 18)) : chkO o = false := by
  cases hc : chkO o with
  | false => rfl
  | true => exact absurd ((chkO_iff o).1 hc).kind h
theorem chk_none {o : Ord} (h : (fsO o).foldlM (ostep o.kind) (Ord.at o.kind) = none) : chkO o = false := by
  cases hc : chkO o with
  | false => rfl
  | true =>
    have ho := (chkO_iff o).1 hc
    by_cases h2 : o.kind = 2
    · unfold fsO at h
      rw [h2] at h
      cases h
    · rw [fold_fs ho h2] at h
      cases h
theorem chk_end {o a : Ord} (hk : 1 ≤ o.kind ∧ o.kind ≤ 18) (h2 : o.kind ≠ 2) (h : (fsO o).foldlM (ostep o.kind) (Ord.at o.kind) = some a) : chkO o = decide (a = o) := by
  rw [Bool.eq_iff_iff, decide_eq_true_eq, chkO_iff]
  constructor
  · intro ho
    rw [fold_fs ho h2] at h
    exact (Option.some.inj h).symm
  · intro e
    have := (fold_ok hk h2 (keys_fs o) h).1
    rwa [e] at this
theorem fsO_two {o : Ord} (h : o.kind = 2) : fsO o = [] := by unfold fsO; rw [h]; rfl
theorem chk_sub {o : Ord} (h2 : o.kind = 2) : chkO o = (chkS o.slip && decide ({ Ord.at 2 with slip := o.slip } = o)) := by
  rw [Bool.eq_iff_iff, Bool.and_eq_true, decide_eq_true_eq, chkO_iff, chkS_iff]
  constructor
  · intro ho
    refine ⟨ho.slip1 h2, ?_⟩
    obtain ⟨k, job, n, name, pool, user, size, yes, slip⟩ := o
    obtain ⟨_, _, e1, e2, e3, e4, e5, e6, e7, e8, e9, e10, e11, e12⟩ := ho
    dsimp only at *
    subst h2
    have a0 := e3 rfl; have b0 := e5 rfl; have c0 := e7 rfl; have d0 := e9 rfl; have f0 := e11 (by decide); have g0 := e12 (by decide) (by decide)
    obtain ⟨c0, c1⟩ := c0
    subst a0 b0 c0 c1 d0 f0 g0
    rfl
  · rintro ⟨h1, h3⟩
    rw [← h3]
    exact ok_sub h1
/-- How the checking stands ahead of field i. -/
structure CK (o : Ord) (i : Nat) (a : Ord) : Prop where
  e : (fsO o).foldlM (ostep o.kind) (Ord.at o.kind) = ((fsO o).drop i).foldlM (ostep o.kind) a
  kd : a.kind = o.kind
  sl : a.slip = Slip.zero
theorem CK.start (o : Ord) : CK o 0 (Ord.at o.kind) := ⟨rfl, rfl, rfl⟩
theorem fs_eight {o : Ord} {f : Fl} (h : f ∈ fsO o) : Eight f.1 := key_eight (k := o.kind) (by
  rw [← keys_fs]
  exact List.mem_map.2 ⟨f, h, rfl⟩)
theorem CK.next {o : Ord} {i : Nat} {a : Ord} (h : CK o i a) {f : Fl} (hf : (fsO o)[i]? = some f) : (fsO o).foldlM (ostep o.kind) (Ord.at o.kind) = if okO o.kind f.1 f.2 = true then ((fsO o).drop (i + 1)).foldlM (ostep o.kind) (stO f.1 f.2 a) else none := by
  rw [h.e]
  obtain ⟨hi, he⟩ := List.getElem?_eq_some_iff.1 hf
  rw [List.drop_eq_getElem_cons hi, he, List.foldlM_cons, show f = (f.1, f.2) from rfl, ostep_st _ _ (fs_eight (List.mem_of_getElem? hf))]
  cases okO o.kind f.1 f.2
  · rfl
  · rfl
theorem CK.step {o : Ord} {i : Nat} {a : Ord} (h : CK o i a) {f : Fl} (hf : (fsO o)[i]? = some f) (hok : okO o.kind f.1 f.2 = true) : CK o (i + 1) (stO f.1 f.2 a) := by
  have := h.next hf
  rw [if_pos hok] at this
  exact ⟨this, (stO_kind _ _ _).1.trans h.kd, (stO_kind _ _ _).2.trans h.sl⟩
theorem CK.fail {o : Ord} {i : Nat} {a : Ord} (h : CK o i a) {f : Fl} (hf : (fsO o)[i]? = some f) (hok : okO o.kind f.1 f.2 = false) : chkO o = false := by
  have := h.next hf
  rw [hok, if_neg (by decide)] at this
  exact chk_none this
theorem CK.fin {o : Ord} {a : Ord} (h : CK o (fsO o).length a) (hk : 1 ≤ o.kind ∧ o.kind ≤ 18) (h2 : o.kind ≠ 2) : chkO o = decide (a = o) := by
  refine chk_end hk h2 ?_
  rw [h.e, List.drop_length]
  rfl
theorem CK.fin2 {o : Ord} {a : Ord} (h : CK o (fsO o).length a) (h2 : o.kind = 2) : a = Ord.at 2 := by
  have := h.e
  rw [fsO_two h2, h2] at this
  exact (Option.some.inj this).symm
/-- The text, as far as its first i fields. -/
def pfO (o : Ord) (i : Nat) : Tx := joinC 32 (wordO o.kind :: ((fsO o).take i).map wtx)
theorem pfO_zero (o : Ord) : pfO o 0 = wordO o.kind := rfl
theorem pfO_succ {o : Ord} {i : Nat} {f : Fl} (h : (fsO o)[i]? = some f) : pfO o (i + 1) = pfO o i ++ 32 :: wtx f := by
  unfold pfO
  rw [List.take_add_one, h]
  show joinC 32 (wordO o.kind :: ((fsO o).take i ++ [f]).map wtx) = _
  rw [List.map_append, ← List.cons_append]
  exact joinC_snoc 32 _ _ (by simp)
theorem pfO_all {o : Ord} : (o.kind = 2 → txtO o = pfO o (fsO o).length ++ 10 :: txtS o.slip) ∧ (o.kind ≠ 2 → txtO o = pfO o (fsO o).length) := by
  unfold txtO pfO
  rw [List.take_length]
  refine ⟨fun h => ?_, fun h => ?_⟩
  · rw [if_pos h, fsO_two h, h]
    rfl
  · rw [if_neg h]
end Go.Proofs.YtekcjfdllclphaaGreatDoor.od
end
