/- Buffers, plain: what a registry is, and what each call tells. (Written ahead of the code.) -/
import Derived.Test.YtkjffoebcblpoaaGreatExM
import Derived.Test.YtkjffoebcblpoaaGreatMGenRow
import Derived.Test.YtkjffoebcblpoaaGreatMUnN
section
set_option linter.unusedVariables false
namespace Go.Proofs.YtkjffoebcblpoaaGreat.bu
open Go.Proofs.YtkjffoebcblpoaaGreat.un (isName)
open Go.Proofs.YtkjffoebcblpoaaGreat.ex (X okx Dj Ok Apart Fine)
open Go.Proofs.YtkjffoebcblpoaaGreat.po (less less_self less_trans less_tri less_asymm)

abbrev Tx := List UInt8
structure Bf where
  job : Int
  name : Tx
  user : Tx
  pool : Tx
  opn : Bool
  exts : List X
  refs : List Int
deriving DecidableEq
def Bf.zero : Bf := ⟨0, [], [], [], false, [], []⟩
def jobOk (n : Int) : Prop := 1 ≤ n ∧ n ≤ 1073741824
instance (n : Int) : Decidable (jobOk n) := by unfold jobOk; infer_instance
def RefsOk (l : List Int) : Prop := l.length ≤ 200 ∧ (∀ r ∈ l, jobOk r) ∧ l.Pairwise (· < ·)
instance (l : List Int) : Decidable (RefsOk l) := by unfold RefsOk; infer_instance
/-- A buffer that may be. -/
def May (b : Bf) : Prop := isName b.user = true ∧ isName b.pool = true ∧ b.exts ≠ [] ∧ Fine b.exts ∧ (b.job ≠ 0 → jobOk b.job ∧ b.name = [] ∧ b.opn = false ∧ b.refs = []) ∧ (b.job = 0 → isName b.name = true ∧ RefsOk b.refs)
instance (b : Bf) : Decidable (May b) := by unfold May; infer_instance
/-- Where a buffer stands. -/
def lt (a b : Bf) : Bool := decide (a.job < b.job) || (decide (a.job = b.job) && less a.name b.name)
def meet (a b : List X) : Bool := a.any fun x => b.any fun y => !decide (Dj x y)
def Far (a b : Bf) : Prop := a.pool = b.pool → meet a.exts b.exts = false
instance (a b : Bf) : Decidable (Far a b) := by unfold Far; infer_instance
/-- A registry. -/
def Valid (l : List Bf) : Prop := l.length ≤ 200 ∧ (∀ b ∈ l, May b) ∧ l.Pairwise (fun a b => lt a b = true) ∧ l.Pairwise Far
instance (l : List Bf) : Decidable (Valid l) := by unfold Valid; infer_instance
def same (job : Int) (name : Tx) (b : Bf) : Bool := decide (b.job = job) && decide (b.name = name)
/-- Where one is. -/
def place (l : List Bf) (job : Int) (name : Tx) : Option Nat := l.findIdx? (same job name)
/-- With a buffer at its place. -/
def ins (b : Bf) : List Bf → List Bf
  | [] => [b]
  | c :: l => if lt b c = true then b :: c :: l else c :: ins b l
def insR (j : Int) : List Int → List Int
  | [] => [j]
  | k :: l => if j < k then j :: k :: l else k :: insR j l
def addS (l : List Bf) (b : Bf) : List Bf × Int :=
  if ¬ (Valid l ∧ May b) then ([], 170) else if (place l b.job b.name).isSome = true then ([], 8) else if l.length = 200 then ([], 6)
  else if l.any (fun c => decide (c.pool = b.pool) && meet c.exts b.exts) = true then ([], 110) else (ins b l, 0)
def refS (l : List Bf) (name user : Tx) (job : Int) : List Bf × Int :=
  if ¬ (Valid l ∧ jobOk job) then ([], 170) else match place l 0 name with
    | none => ([], 7)
    | some i => match l[i]? with
      | none => ([], 7)
      | some b => if b.opn = false ∧ b.user ≠ user then ([], 171) else if job ∈ b.refs then ([], 8) else if b.refs.length = 200 then ([], 6)
        else (l.set i { b with refs := insR job b.refs }, 0)
def unref (job : Int) (b : Bf) : Bf := { b with refs := b.refs.filter fun r => decide (r ≠ job) }
def unrefS (l : List Bf) (job : Int) : List Bf × Int := if ¬ (Valid l ∧ jobOk job) then ([], 170) else (l.map (unref job), 0)
def dropS (l : List Bf) (name user : Tx) : List Bf × Bf × Int :=
  if ¬ Valid l then ([], Bf.zero, 170) else match place l 0 name with
    | none => ([], Bf.zero, 7)
    | some i => match l[i]? with
      | none => ([], Bf.zero, 7)
      | some b => if b.user ≠ user then ([], Bf.zero, 171) else if b.refs ≠ [] then ([], Bf.zero, 172) else (l.eraseIdx i, b, 0)
def freeS (l : List Bf) (job : Int) : List Bf × Bf × Int :=
  if ¬ (Valid l ∧ jobOk job) then ([], Bf.zero, 170) else match place l job [] with
    | none => ([], Bf.zero, 7)
    | some i => match l[i]? with
      | none => ([], Bf.zero, 7)
      | some b => (l.eraseIdx i, b, 0)
def findS (l : List Bf) (name : Tx) : Bf × Bool :=
  if ¬ Valid l then (Bf.zero, false) else match place l 0 name with
    | none => (Bf.zero, false)
    | some i => match l[i]? with
      | none => (Bf.zero, false)
      | some b => (b, true)
def ofS (l : List Bf) (job : Int) : Bf × Bool :=
  if ¬ Valid l ∨ job = 0 then (Bf.zero, false) else match place l job [] with
    | none => (Bf.zero, false)
    | some i => match l[i]? with
      | none => (Bf.zero, false)
      | some b => (b, true)

/-! ### the order -/
theorem lt_iff (a b : Bf) : lt a b = true ↔ a.job < b.job ∨ (a.job = b.job ∧ less a.name b.name = true) := by
  unfold lt
  rw [Bool.or_eq_true, Bool.and_eq_true, decide_eq_true_eq, decide_eq_true_eq]
theorem lt_trans {a b c : Bf} (h1 : lt a b = true) (h2 : lt b c = true) : lt a c = true := by
  rw [lt_iff] at *
  rcases h1 with h1 | ⟨h1, h3⟩ <;> rcases h2 with h2 | ⟨h2, h4⟩
  · exact .inl (by omega)
  · exact .inl (by omega)
  · exact .inl (by omega)
  · exact .inr ⟨by omega, less_trans h3 h4⟩
theorem lt_tri {a b : Bf} (h : lt a b = false) : (a.job = b.job ∧ a.name = b.name) ∨ lt b a = true := by
  have hn : ¬ lt a b = true := by rw [h]; decide
  rw [lt_iff] at hn
  by_cases he : a.job = b.job
  · have hl : less a.name b.name = false := by
      cases hh : less a.name b.name with
      | false => rfl
      | true => exact absurd (.inr ⟨he, hh⟩) hn
    rcases less_tri hl with h1 | h1
    · exact .inl ⟨he, h1⟩
    · exact .inr ((lt_iff b a).2 (.inr ⟨he.symm, h1⟩))
  · exact .inr ((lt_iff b a).2 (.inl (by have : ¬ a.job < b.job := fun h => hn (.inl h); omega)))
theorem lt_ne {a b : Bf} (h : lt a b = true) : ¬ (a.job = b.job ∧ a.name = b.name) := by
  rintro ⟨h1, h2⟩
  rw [lt_iff] at h
  rcases h with h | ⟨_, h⟩
  · omega
  · rw [h2, less_self] at h; cases h
theorem lt_key {a a' b : Bf} (h : a'.job = a.job ∧ a'.name = a.name) : lt a' b = lt a b ∧ lt b a' = lt b a := by
  unfold lt
  rw [h.1, h.2]
  exact ⟨rfl, rfl⟩
theorem meet_symm (a b : List X) : meet a b = meet b a := by
  rw [Bool.eq_iff_iff]
  unfold meet
  simp only [List.any_eq_true, Bool.not_eq_true', decide_eq_false_iff_not]
  exact ⟨fun ⟨x, hx, y, hy, h⟩ => ⟨y, hy, x, hx, fun h' => h h'.symm⟩, fun ⟨x, hx, y, hy, h⟩ => ⟨y, hy, x, hx, fun h' => h h'.symm⟩⟩
theorem Far.symm {a b : Bf} (h : Far a b) : Far b a := fun e => by rw [meet_symm]; exact h e.symm
theorem same_iff {job : Int} {name : Tx} {b : Bf} : same job name b = true ↔ b.job = job ∧ b.name = name := by
  unfold same
  rw [Bool.and_eq_true, decide_eq_true_eq, decide_eq_true_eq]

/-! ### places -/
theorem place_some {l : List Bf} {job : Int} {name : Tx} {i : Nat} (h : place l job name = some i) : ∃ b, l[i]? = some b ∧ b.job = job ∧ b.name = name ∧ i < l.length := by
  unfold place at h
  obtain ⟨hlt, hp, _⟩ := List.findIdx?_eq_some_iff_getElem.1 h
  exact ⟨l[i], List.getElem?_eq_getElem hlt, (same_iff.1 hp).1, (same_iff.1 hp).2, hlt⟩
theorem place_none {l : List Bf} {job : Int} {name : Tx} (h : place l job name = none) : ∀ b ∈ l, ¬ (b.job = job ∧ b.name = name) := by
  unfold place at h
  intro b hb e
  have := List.findIdx?_eq_none_iff.1 h b hb
  rw [same_iff.2 e] at this
  cases this
theorem place_at {l : List Bf} (hs : l.Pairwise (fun a b => lt a b = true)) {i : Nat} {b : Bf} (h : l[i]? = some b) : place l b.job b.name = some i := by
  obtain ⟨hi, rfl⟩ := List.getElem?_eq_some_iff.1 h
  unfold place
  rw [List.findIdx?_eq_some_iff_getElem]
  refine ⟨hi, same_iff.2 ⟨rfl, rfl⟩, fun j hj => ?_⟩
  intro hc
  exact lt_ne (List.pairwise_iff_getElem.1 hs j i (by omega) hi hj) (same_iff.1 hc)
theorem place_no {l : List Bf} {job : Int} {name : Tx} (h : ∀ b ∈ l, ¬ (b.job = job ∧ b.name = name)) : place l job name = none := by
  unfold place
  rw [List.findIdx?_eq_none_iff]
  intro b hb
  cases hh : same job name b with
  | false => rfl
  | true => exact absurd (same_iff.1 hh) (h b hb)

/-! ### with one more -/
theorem ins_mem {b c : Bf} : ∀ {l : List Bf}, c ∈ ins b l ↔ c = b ∨ c ∈ l
  | [] => by simp [ins]
  | d :: l => by
    unfold ins
    split
    · simp
    · rw [List.mem_cons, ins_mem (l := l), List.mem_cons]
      exact ⟨fun h => by rcases h with h | h | h <;> simp [h], fun h => by rcases h with h | h | h <;> simp [h]⟩
theorem ins_len (b : Bf) : ∀ l : List Bf, (ins b l).length = l.length + 1
  | [] => rfl
  | d :: l => by
    unfold ins
    split
    · rfl
    · simp [ins_len b l]
theorem ins_sorted {b : Bf} : ∀ {l : List Bf}, l.Pairwise (fun a b => lt a b = true) → (∀ c ∈ l, ¬ (c.job = b.job ∧ c.name = b.name)) → (ins b l).Pairwise fun a b => lt a b = true
  | [], _, _ => by simp [ins]
  | d :: l, hs, hn => by
    obtain ⟨h1, h2⟩ := List.pairwise_cons.1 hs
    unfold ins
    split
    · next h => exact List.pairwise_cons.2 ⟨fun c hc => (List.mem_cons.1 hc).elim (fun e => e ▸ h) fun hc => lt_trans h (h1 c hc), hs⟩
    · next h =>
      refine List.pairwise_cons.2 ⟨fun c hc => ?_, ins_sorted h2 fun c hc => hn c (List.mem_cons_of_mem _ hc)⟩
      rcases ins_mem.1 hc with rfl | hc
      · rcases lt_tri (by simpa using h) with e | e
        · exact absurd ⟨e.1.symm, e.2.symm⟩ (hn d List.mem_cons_self)
        · exact e
      · exact h1 c hc
theorem ins_far {b : Bf} : ∀ {l : List Bf}, l.Pairwise Far → (∀ c ∈ l, Far c b) → (ins b l).Pairwise Far
  | [], _, _ => by simp [ins]
  | d :: l, hs, hn => by
    obtain ⟨h1, h2⟩ := List.pairwise_cons.1 hs
    unfold ins
    split
    · exact List.pairwise_cons.2 ⟨fun c hc => (hn c hc).symm, hs⟩
    · refine List.pairwise_cons.2 ⟨fun c hc => ?_, ins_far h2 fun c hc => hn c (List.mem_cons_of_mem _ hc)⟩
      rcases ins_mem.1 hc with rfl | hc
      · exact hn d List.mem_cons_self
      · exact h1 c hc
/-- The one that was put in, taken out again. -/
theorem ins_back {b : Bf} : ∀ {l : List Bf}, ∃ i, (ins b l)[i]? = some b ∧ (ins b l).eraseIdx i = l
  | [] => ⟨0, rfl, rfl⟩
  | d :: l => by
    unfold ins
    split
    · exact ⟨0, rfl, rfl⟩
    · obtain ⟨i, h1, h2⟩ := ins_back (b := b) (l := l)
      exact ⟨i + 1, by simpa using h1, by simp [h2]⟩
theorem addS_ok {l a : List Bf} {b : Bf} (h : addS l b = (a, 0)) : Valid l ∧ May b ∧ a = ins b l ∧ Valid a ∧ (∀ c ∈ l, ¬ (c.job = b.job ∧ c.name = b.name)) := by
  unfold addS at h
  split at h
  · simp at h
  · next hv =>
    have hv := Classical.not_not.1 hv
    split at h
    · simp at h
    · next hp =>
      split at h
      · simp at h
      · next hl =>
        split at h
        · simp at h
        · next hm =>
          have e : ins b l = a := (Prod.mk.inj h).1
          have hpn : place l b.job b.name = none := by
            cases hh : place l b.job b.name with
            | none => rfl
            | some i => rw [hh] at hp; exact absurd rfl hp
          have hno := place_none hpn
          refine ⟨hv.1, hv.2, e.symm, ?_, hno⟩
          rw [← e]
          obtain ⟨⟨v1, v2, v3, v4⟩, mb⟩ := hv
          refine ⟨by rw [ins_len]; omega, fun c hc => ?_, ins_sorted v3 hno, ins_far v4 fun c hc => ?_⟩
          · rcases ins_mem.1 hc with rfl | hc
            · exact mb
            · exact v2 c hc
          · intro e2
            cases hh : meet c.exts b.exts with
            | false => rfl
            | true => exact absurd (List.any_eq_true.2 ⟨c, hc, by rw [decide_eq_true e2, hh]; rfl⟩) hm
theorem Valid.pl {l : List Bf} (h : Valid l) {i : Nat} {b : Bf} (hi : l[i]? = some b) : place l b.job b.name = some i := place_at h.2.2.1 hi
theorem erase_valid {l : List Bf} (h : Valid l) (i : Nat) : Valid (l.eraseIdx i) := by
  have hs := List.eraseIdx_sublist l i
  exact ⟨Nat.le_trans hs.length_le h.1, fun b hb => h.2.1 b (hs.mem hb), h.2.2.1.sublist hs, h.2.2.2.sublist hs⟩

/-! ### added, told, taken away -/
theorem add_of {l a : List Bf} {b : Bf} (h : addS l b = (a, 0)) (hj : b.job ≠ 0) : ofS a b.job = (b, true) ∧ freeS a b.job = (l, b, 0) := by
  obtain ⟨hv, hm, e, ha, hn⟩ := addS_ok h
  obtain ⟨i, h1, h2⟩ := ins_back (b := b) (l := l)
  rw [← e] at h1 h2
  have hjo := (hm.2.2.2.2.1 hj)
  have hp := ha.pl h1
  rw [hjo.2.1] at hp
  unfold ofS freeS
  rw [if_neg (by rintro (h | h); exact h ha; exact hj h), if_neg (not_not_intro ⟨ha, hjo.1⟩), hp]
  dsimp only
  rw [h1, h2]
  exact ⟨rfl, rfl⟩
theorem add_find {l a : List Bf} {b : Bf} (h : addS l b = (a, 0)) (hj : b.job = 0) : findS a b.name = (b, true) ∧ (b.refs ≠ [] → (dropS a b.name b.user).2.2 = 172) ∧ (b.refs = [] → dropS a b.name b.user = (l, b, 0)) := by
  obtain ⟨hv, hm, e, ha, hn⟩ := addS_ok h
  obtain ⟨i, h1, h2⟩ := ins_back (b := b) (l := l)
  rw [← e] at h1 h2
  have hp := ha.pl h1
  rw [hj] at hp
  have hd : dropS a b.name b.user = if b.refs ≠ [] then ([], Bf.zero, 172) else (l, b, 0) := by
    unfold dropS
    rw [if_neg (not_not_intro ha), hp]
    dsimp only
    rw [h1]
    dsimp only
    rw [if_neg (fun h => h rfl), h2]
  refine ⟨?_, fun hr => by rw [hd, if_pos hr], fun hr => by rw [hd, if_neg (fun h => h hr)]⟩
  unfold findS
  rw [if_neg (not_not_intro ha), hp]
  dsimp only
  rw [h1]

/-! ### Refs -/
theorem unref_may {j : Int} {b : Bf} (h : May b) : May (unref j b) := by
  obtain ⟨h1, h2, h3, h4, h5, h6⟩ := h
  refine ⟨h1, h2, h3, h4, fun hj => ?_, fun hj => ?_⟩
  · obtain ⟨a, b', c, d⟩ := h5 hj
    exact ⟨a, b', c, by show b.refs.filter _ = []; rw [d]; rfl⟩
  · obtain ⟨a, r1, r2, r3⟩ := h6 hj
    exact ⟨a, Nat.le_trans (List.length_filter_le _ _) r1, fun r hr => r2 r (List.mem_filter.1 hr).1, r3.sublist (List.filter_sublist (l := b.refs))⟩
theorem map_valid {l : List Bf} (h : Valid l) (f : Bf → Bf) (hf : ∀ b ∈ l, May (f b)) (hk : ∀ b, (f b).job = b.job ∧ (f b).name = b.name ∧ (f b).pool = b.pool ∧ (f b).exts = b.exts) : Valid (l.map f) := by
  obtain ⟨v1, v2, v3, v4⟩ := h
  refine ⟨by rw [List.length_map]; exact v1, fun b hb => ?_, List.pairwise_map.2 (v3.imp fun {a b} hab => ?_), List.pairwise_map.2 (v4.imp fun {a b} hab => ?_)⟩
  · obtain ⟨c, hc, rfl⟩ := List.mem_map.1 hb
    exact hf c hc
  · rw [(lt_key ⟨(hk a).1, (hk a).2.1⟩).1, (lt_key ⟨(hk b).1, (hk b).2.1⟩).2]
    exact hab
  · intro e
    rw [(hk a).2.2.1, (hk b).2.2.1] at e
    rw [(hk a).2.2.2, (hk b).2.2.2]
    exact hab e
theorem unref_valid {l : List Bf} (h : Valid l) (j : Int) : Valid (l.map (unref j)) := map_valid h _ (fun b hb => unref_may (h.2.1 b hb)) fun b => ⟨rfl, rfl, rfl, rfl⟩
theorem insR_mem {j r : Int} : ∀ {l : List Int}, r ∈ insR j l ↔ r = j ∨ r ∈ l
  | [] => by simp [insR]
  | d :: l => by
    unfold insR
    split
    · simp
    · rw [List.mem_cons, insR_mem (l := l), List.mem_cons]
      exact ⟨fun h => by rcases h with h | h | h <;> simp [h], fun h => by rcases h with h | h | h <;> simp [h]⟩
theorem insR_len (j : Int) : ∀ l : List Int, (insR j l).length = l.length + 1
  | [] => rfl
  | d :: l => by
    unfold insR
    split
    · rfl
    · simp [insR_len j l]
theorem insR_inc {j : Int} : ∀ {l : List Int}, l.Pairwise (· < ·) → j ∉ l → (insR j l).Pairwise (· < ·)
  | [], _, _ => by simp [insR]
  | d :: l, hs, hn => by
    obtain ⟨h1, h2⟩ := List.pairwise_cons.1 hs
    unfold insR
    split
    · next h => exact List.pairwise_cons.2 ⟨fun c hc => (List.mem_cons.1 hc).elim (fun e => e ▸ h) fun hc => by have := h1 c hc; omega, hs⟩
    · next h =>
      refine List.pairwise_cons.2 ⟨fun c hc => ?_, insR_inc h2 fun hc => hn (List.mem_cons_of_mem _ hc)⟩
      rcases insR_mem.1 hc with rfl | hc
      · have : c ≠ d := fun e => hn (by rw [e]; exact List.mem_cons_self)
        omega
      · exact h1 c hc
theorem insR_back {j : Int} : ∀ {l : List Int}, j ∉ l → (insR j l).filter (fun r => decide (r ≠ j)) = l.filter fun r => decide (r ≠ j)
  | [], _ => by simp [insR]
  | d :: l, hn => by
    unfold insR
    split
    · rw [List.filter_cons_of_neg (by simp)]
    · have h1 : d ≠ j := fun e => hn (by rw [e]; exact List.mem_cons_self)
      rw [List.filter_cons_of_pos (by simpa using h1), List.filter_cons_of_pos (by simpa using h1), insR_back fun h => hn (List.mem_cons_of_mem _ h)]
theorem refS_ok {l r : List Bf} {name user : Tx} {job : Int} (h : refS l name user job = (r, 0)) : Valid l ∧ jobOk job ∧ ∃ i b, l[i]? = some b ∧ b.job = 0 ∧ b.name = name ∧ job ∉ b.refs ∧ b.refs.length < 200 ∧ r = l.set i { b with refs := insR job b.refs } := by
  unfold refS at h
  split at h
  · simp at h
  · next hv =>
    have hv := Classical.not_not.1 hv
    split at h
    · simp at h
    · next i hp =>
      obtain ⟨b, hb, e1, e2, hi⟩ := place_some hp
      rw [hb] at h
      dsimp only at h
      split at h
      · simp at h
      · split at h
        · simp at h
        · next hm =>
          split at h
          · simp at h
          · next hl =>
            have hmb := hv.1.2.1 b (List.mem_of_getElem? hb)
            have := (hmb.2.2.2.2.2 e1).2.1
            exact ⟨hv.1, hv.2, i, b, hb, e1, e2, hm, by omega, (Prod.mk.inj h).1.symm⟩
theorem set_valid {l : List Bf} (h : Valid l) {i : Nat} {b c : Bf} (hb : l[i]? = some b) (hc : May c) (hk : c.job = b.job ∧ c.name = b.name ∧ c.pool = b.pool ∧ c.exts = b.exts) : Valid (l.set i c) := by
  obtain ⟨hi, rfl⟩ := List.getElem?_eq_some_iff.1 hb
  obtain ⟨v1, v2, v3, v4⟩ := h
  refine ⟨by rw [List.length_set]; exact v1, fun d hd => ?_, List.pairwise_iff_getElem.2 fun p q hp hq hpq => ?_, List.pairwise_iff_getElem.2 fun p q hp hq hpq => ?_⟩
  · rcases List.mem_or_eq_of_mem_set hd with hd | rfl
    · exact v2 d hd
    · exact hc
  · rw [List.length_set] at hp hq
    have h0 := List.pairwise_iff_getElem.1 v3 p q hp hq hpq
    rw [List.getElem_set, List.getElem_set]
    split
    · next e =>
      subst e
      rw [if_neg (by omega), (lt_key ⟨hk.1, hk.2.1⟩).1]
      exact h0
    · split
      · next e =>
        subst e
        rw [(lt_key ⟨hk.1, hk.2.1⟩).2]
        exact h0
      · exact h0
  · rw [List.length_set] at hp hq
    have h0 := List.pairwise_iff_getElem.1 v4 p q hp hq hpq
    rw [List.getElem_set, List.getElem_set]
    unfold Far at h0 ⊢
    split
    · next e =>
      subst e
      rw [if_neg (by omega), hk.2.2.1, hk.2.2.2]
      exact h0
    · split
      · next e =>
        subst e
        rw [hk.2.2.1, hk.2.2.2]
        exact h0
      · exact h0
theorem ref_may {job : Int} {b : Bf} (h : May b) (h0 : b.job = 0) (hj : jobOk job) (hn : job ∉ b.refs) (hl : b.refs.length < 200) : May { b with refs := insR job b.refs } := by
  obtain ⟨h1, h2, h3, h4, h5, h6⟩ := h
  refine ⟨h1, h2, h3, h4, fun hh => absurd h0 hh, fun hh => ?_⟩
  obtain ⟨a, r1, r2, r3⟩ := h6 h0
  refine ⟨a, by rw [insR_len]; omega, fun r hr => ?_, insR_inc r3 hn⟩
  rcases insR_mem.1 hr with rfl | hr
  · exact hj
  · exact r2 r hr
/-- Used and let go again. -/
theorem ref_back {l r : List Bf} {name user : Tx} {job : Int} (h : refS l name user job = (r, 0)) : Valid r ∧ unrefS l job = (l.map (unref job), 0) ∧ unrefS r job = (l.map (unref job), 0) ∧ r.length = l.length := by
  obtain ⟨hv, hj, i, b, hb, h0, hn, hm, hl, rfl⟩ := refS_ok h
  have hmb := hv.2.1 b (List.mem_of_getElem? hb)
  have hr := set_valid hv hb (ref_may hmb h0 hj hm hl) ⟨rfl, rfl, rfl, rfl⟩
  refine ⟨hr, ?_, ?_, by rw [List.length_set]⟩
  · unfold unrefS
    rw [if_neg (not_not_intro ⟨hv, hj⟩)]
  · unfold unrefS
    rw [if_neg (not_not_intro ⟨hr, hj⟩)]
    obtain ⟨hi, rfl⟩ := List.getElem?_eq_some_iff.1 hb
    refine Prod.ext ?_ rfl
    show (l.set i _).map (unref job) = l.map (unref job)
    rw [List.map_set]
    have e : unref job { l[i] with refs := insR job l[i].refs } = (l.map (unref job))[i]'(by rw [List.length_map]; exact hi) := by
      rw [List.getElem_map]
      unfold unref
      rw [insR_back hm]
    rw [e, List.set_getElem_self]

/-! ### what is there behind a call -/
theorem add_valid (l : List Bf) (b : Bf) : Valid (addS l b).1 := by
  by_cases h : (addS l b).2 = 0
  · exact (addS_ok (a := (addS l b).1) (by rw [← h])).2.2.2.1
  · have : (addS l b).1 = [] := by
      unfold addS at h ⊢
      repeat' split
      all_goals first | rfl | (exfalso; simp_all)
    rw [this]
    exact ⟨by simp, by simp, by simp, by simp⟩
theorem nil_valid : Valid [] := ⟨by simp, by simp, by simp, by simp⟩
theorem ref_cases (l : List Bf) (name user : Tx) (job : Int) : ((refS l name user job).1 = [] ∧ (refS l name user job).2 ≠ 0) ∨ (refS l name user job).2 = 0 := by
  unfold refS
  repeat' split
  all_goals simp
theorem ref_valid (l : List Bf) (name user : Tx) (job : Int) : Valid (refS l name user job).1 ∧ ((refS l name user job).1.length = 0 ∨ (refS l name user job).1.length = l.length) := by
  rcases ref_cases l name user job with ⟨h, _⟩ | h
  · rw [h]
    exact ⟨nil_valid, .inl rfl⟩
  · have := ref_back (l := l) (r := (refS l name user job).1) (by rw [← h])
    exact ⟨this.1, .inr this.2.2.2⟩
theorem unrefS_valid (l : List Bf) (job : Int) : Valid (unrefS l job).1 ∧ (Valid l → jobOk job → (unrefS l job).1.length = l.length) := by
  unfold unrefS
  by_cases h : Valid l ∧ jobOk job
  · rw [if_neg (not_not_intro h)]
    exact ⟨unref_valid h.1 job, fun _ _ => by simp⟩
  · rw [if_pos h]
    exact ⟨nil_valid, fun a b => absurd ⟨a, b⟩ h⟩
theorem drop_cases (l : List Bf) (name user : Tx) : ((dropS l name user).1 = [] ∧ (dropS l name user).2.2 ≠ 0) ∨ ∃ i b, l[i]? = some b ∧ Valid l ∧ b.job = 0 ∧ b.name = name ∧ b.user = user ∧ b.refs = [] ∧ dropS l name user = (l.eraseIdx i, b, 0) := by
  unfold dropS
  by_cases hv : Valid l
  · rw [if_neg (not_not_intro hv)]
    cases hp : place l 0 name with
    | none => exact .inl ⟨rfl, by simp⟩
    | some i =>
      obtain ⟨b, hb, e1, e2, hi⟩ := place_some hp
      dsimp only
      rw [hb]
      dsimp only
      by_cases hu : b.user = user
      · rw [if_neg (not_not_intro hu)]
        by_cases hr : b.refs = []
        · rw [if_neg (not_not_intro hr)]
          exact .inr ⟨i, b, hb, hv, e1, e2, hu, hr, rfl⟩
        · rw [if_pos hr]
          exact .inl ⟨rfl, by simp⟩
      · rw [if_pos hu]
        exact .inl ⟨rfl, by simp⟩
  · rw [if_pos hv]
    exact .inl ⟨rfl, by simp⟩
theorem free_cases (l : List Bf) (job : Int) : ((freeS l job).1 = [] ∧ (freeS l job).2.2 ≠ 0) ∨ ∃ i b, l[i]? = some b ∧ Valid l ∧ jobOk job ∧ b.job = job ∧ b.name = [] ∧ freeS l job = (l.eraseIdx i, b, 0) := by
  unfold freeS
  by_cases hv : Valid l ∧ jobOk job
  · rw [if_neg (not_not_intro hv)]
    cases hp : place l job [] with
    | none => exact .inl ⟨rfl, by simp⟩
    | some i =>
      obtain ⟨b, hb, e1, e2, hi⟩ := place_some hp
      dsimp only
      rw [hb]
      exact .inr ⟨i, b, hb, hv.1, hv.2, e1, e2, rfl⟩
  · rw [if_pos hv]
    exact .inl ⟨rfl, by simp⟩
/-- Behind one is gone its place is nowhere. -/
theorem erase_place {l : List Bf} (h : Valid l) {i : Nat} {b : Bf} (hb : l[i]? = some b) : place (l.eraseIdx i) b.job b.name = none := by
  obtain ⟨hi, rfl⟩ := List.getElem?_eq_some_iff.1 hb
  refine place_no fun c hc e => ?_
  obtain ⟨j, hj⟩ := List.mem_iff_getElem?.1 hc
  rw [List.getElem?_eraseIdx] at hj
  have key : ∀ k, k ≠ i → l[k]? = some c → False := fun k hk hkc => by
    have h1 := h.pl hkc
    have h2 := h.pl (List.getElem?_eq_getElem hi)
    rw [e.1, e.2, h2] at h1
    exact hk (Option.some.inj h1).symm
  split at hj
  · exact key j (by omega) hj
  · exact key (j + 1) (by omega) hj
theorem drop_gone {l : List Bf} {name user : Tx} (h : (dropS l name user).2.2 = 0) : Valid (dropS l name user).1 ∧ (dropS l name user).1.length + 1 = l.length ∧ (findS (dropS l name user).1 name).2 = false
    ∧ (dropS l name user).2.1.user = user ∧ (dropS l name user).2.1.refs = [] ∧ (dropS l name user).2.1.job = 0 ∧ (dropS l name user).2.1.name = name := by
  rcases drop_cases l name user with ⟨_, h'⟩ | ⟨i, b, hb, hv, e1, e2, e3, e4, hd⟩
  · exact absurd h h'
  · have he := erase_place hv hb
    rw [e1, e2] at he
    obtain ⟨hi, _⟩ := List.getElem?_eq_some_iff.1 hb
    rw [hd]
    refine ⟨erase_valid hv i, by dsimp only; rw [List.length_eraseIdx_of_lt hi]; omega, ?_, e3, e4, e1, e2⟩
    unfold findS
    rw [if_neg (not_not_intro (erase_valid hv i)), he]
theorem free_gone {l : List Bf} {job : Int} (h : (freeS l job).2.2 = 0) : Valid (freeS l job).1 ∧ (freeS l job).1.length + 1 = l.length ∧ (ofS (freeS l job).1 job).2 = false ∧ (freeS l job).2.1.job = job := by
  rcases free_cases l job with ⟨_, h'⟩ | ⟨i, b, hb, hv, hj, e1, e2, hd⟩
  · exact absurd h h'
  · have he := erase_place hv hb
    rw [e1, e2] at he
    obtain ⟨hi, _⟩ := List.getElem?_eq_some_iff.1 hb
    rw [hd]
    refine ⟨erase_valid hv i, by dsimp only; rw [List.length_eraseIdx_of_lt hi]; omega, ?_, e1⟩
    unfold ofS
    by_cases hz : job = 0
    · rw [if_pos (.inr hz)]
    · rw [if_neg (by rintro (h | h); exact h (erase_valid hv i); exact hz h), he]
end Go.Proofs.YtkjffoebcblpoaaGreat.bu
end
