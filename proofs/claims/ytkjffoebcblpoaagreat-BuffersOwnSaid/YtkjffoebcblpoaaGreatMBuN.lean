/- Buffers, plain: the loops of the document's answer, step by step. (Written ahead of the code.) -/
import Derived.Test.YtkjffoebcblpoaaGreatMBuM
import Derived.Test.YtkjffoebcblpoaaGreatMGen
import Derived.Test.YtkjffoebcblpoaaGreatMUnN
import Derived.Deep.LoopGhost
section
set_option linter.unusedVariables false
namespace Go.Proofs.YtkjffoebcblpoaaGreat.bu
open Go.Proofs.YtkjffoebcblpoaaGreat.un (isName)
open Go.Proofs.YtkjffoebcblpoaaGreat.ex (X okx Dj Ok Apart Fine)
open Go.Proofs.YtkjffoebcblpoaaGreat.po (less less_self less_trans less_tri less_asymm)

theorem take_at {α : Type} {l : List α} {i : Nat} {b : α} (h : l[i]? = some b) : l.take (i + 1) = l.take i ++ [b] := by
  rw [List.take_add_one, h]
  rfl
theorem drop_at {α : Type} {l : List α} {i : Nat} {b : α} (h : l[i]? = some b) : l.drop i = b :: l.drop (i + 1) := by
  obtain ⟨hi, rfl⟩ := List.getElem?_eq_some_iff.1 h
  exact List.drop_eq_getElem_cons hi
theorem take_all {α : Type} (l : List α) : l.take l.length = l := List.take_length

/-! ### Check -/
/-- All but the length. -/
def V0 (l : List Bf) : Prop := (∀ b ∈ l, May b) ∧ l.Pairwise (fun a b => lt a b = true) ∧ l.Pairwise Far
theorem V0.nil : V0 [] := ⟨by simp, by simp, by simp⟩
theorem V0.step {l : List Bf} {i : Nat} {b : Bf} (h : V0 (l.take i)) (hb : l[i]? = some b) (hm : May b) (hl : ∀ a, 0 < i → l[i - 1]? = some a → lt a b = true) (hf : ∀ k a, k < i → l[k]? = some a → Far a b) : V0 (l.take (i + 1)) := by
  obtain ⟨h1, h2, h3⟩ := h
  obtain ⟨hi, _⟩ := List.getElem?_eq_some_iff.1 hb
  have hmem : ∀ a ∈ l.take i, ∃ k, k < i ∧ l[k]? = some a := fun a ha => by
    obtain ⟨k, hk⟩ := List.mem_iff_getElem?.1 ha
    rw [List.getElem?_take] at hk
    split at hk
    · exact ⟨k, by assumption, hk⟩
    · cases hk
  rw [take_at hb]
  refine ⟨fun c hc => ?_, List.pairwise_append.2 ⟨h2, by simp, fun a ha c hc => ?_⟩, List.pairwise_append.2 ⟨h3, by simp, fun a ha c hc => ?_⟩⟩
  · rcases List.mem_append.1 hc with hc | hc
    · exact h1 c hc
    · obtain rfl := List.mem_singleton.1 hc
      exact hm
  · obtain rfl := List.mem_singleton.1 hc
    obtain ⟨k, hk, hka⟩ := hmem a ha
    obtain ⟨d, hd⟩ : ∃ d, l[i - 1]? = some d := ⟨_, List.getElem?_eq_getElem (by omega)⟩
    have h4 := hl d (by omega) hd
    by_cases e : k = i - 1
    · rw [e, hd] at hka
      rwa [← Option.some.inj hka]
    · have := List.pairwise_iff_getElem.1 h2 k (i - 1) (by rw [List.length_take]; omega) (by rw [List.length_take]; omega) (by omega)
      rw [List.getElem_take, List.getElem_take] at this
      obtain ⟨_, e1⟩ := List.getElem?_eq_some_iff.1 hka
      obtain ⟨_, e2⟩ := List.getElem?_eq_some_iff.1 hd
      rw [e1, e2] at this
      exact lt_trans this h4
  · obtain rfl := List.mem_singleton.1 hc
    obtain ⟨k, hk, hka⟩ := hmem a ha
    exact hf k a hk hka
theorem V0.valid {l : List Bf} (h : V0 l) : Valid l ↔ l.length ≤ 200 := ⟨fun hv => hv.1, fun hl => ⟨hl, h.1, h.2.1, h.2.2⟩⟩
theorem no_may {l : List Bf} {i : Nat} {b : Bf} (hb : l[i]? = some b) (h : ¬ May b) : ¬ Valid l := fun hv => h (hv.2.1 b (List.mem_of_getElem? hb))
theorem no_lt {l : List Bf} {i : Nat} {a b : Bf} (h0 : 0 < i) (ha : l[i - 1]? = some a) (hb : l[i]? = some b) (h : lt a b = false) : ¬ Valid l := fun hv => by
  obtain ⟨hi, e1⟩ := List.getElem?_eq_some_iff.1 ha
  obtain ⟨hj, e2⟩ := List.getElem?_eq_some_iff.1 hb
  have := List.pairwise_iff_getElem.1 hv.2.2.1 (i - 1) i hi hj (by omega)
  rw [e1, e2, h] at this
  cases this
theorem no_far {l : List Bf} {k i : Nat} {a b : Bf} (hk : k < i) (ha : l[k]? = some a) (hb : l[i]? = some b) (hp : a.pool = b.pool) (h : meet a.exts b.exts = true) : ¬ Valid l := fun hv => by
  obtain ⟨hi, e1⟩ := List.getElem?_eq_some_iff.1 ha
  obtain ⟨hj, e2⟩ := List.getElem?_eq_some_iff.1 hb
  have := List.pairwise_iff_getElem.1 hv.2.2.2 k i hi hj hk
  rw [e1, e2] at this
  rw [this hp] at h
  cases h

/-! ### where one is -/
/-- None of the first i. -/
def NoneIn (l : List Bf) (job : Int) (name : Tx) (i : Nat) : Prop := ∀ k a, k < i → l[k]? = some a → ¬ (a.job = job ∧ a.name = name)
theorem NoneIn.zero (l : List Bf) (job : Int) (name : Tx) : NoneIn l job name 0 := fun k a h => by omega
theorem NoneIn.step {l : List Bf} {job : Int} {name : Tx} {i : Nat} {b : Bf} (h : NoneIn l job name i) (hb : l[i]? = some b) (hn : ¬ (b.job = job ∧ b.name = name)) : NoneIn l job name (i + 1) := fun k a hk ha => by
  by_cases e : k = i
  · subst e
    rw [hb] at ha
    rwa [← Option.some.inj ha]
  · exact h k a (by omega) ha
theorem NoneIn.here {l : List Bf} {job : Int} {name : Tx} {i : Nat} {b : Bf} (h : NoneIn l job name i) (hb : l[i]? = some b) (hy : b.job = job ∧ b.name = name) : place l job name = some i := by
  obtain ⟨hi, rfl⟩ := List.getElem?_eq_some_iff.1 hb
  unfold place
  rw [List.findIdx?_eq_some_iff_getElem]
  exact ⟨hi, same_iff.2 hy, fun j hj hc => h j _ hj (List.getElem?_eq_getElem (by omega)) (same_iff.1 hc)⟩
theorem NoneIn.out {l : List Bf} {job : Int} {name : Tx} {i : Nat} (h : NoneIn l job name i) (hi : l.length ≤ i) : place l job name = none :=
  place_no fun b hb => by
    obtain ⟨k, hk⟩ := List.mem_iff_getElem?.1 hb
    obtain ⟨hlt, _⟩ := List.getElem?_eq_some_iff.1 hk
    exact h k b (by omega) hk

/-! ### with one more -/
/-- What is told when all of the first i have been seen: the row, and whether b is in it. -/
def AddS (l : List Bf) (b : Bf) (i : Nat) (out : List Bf) (done : Bool) : Prop := (done = true → out = ins b (l.take i) ∧ ∃ c ∈ l.take i, lt b c = true) ∧ (done = false → out = l.take i ∧ ∀ c ∈ l.take i, lt b c = false)
theorem ins_end {b : Bf} : ∀ {l : List Bf}, (∀ c ∈ l, lt b c = false) → ins b l = l ++ [b]
  | [], _ => rfl
  | c :: l, h => by
    unfold ins
    rw [if_neg (by rw [h c List.mem_cons_self]; decide), ins_end fun d hd => h d (List.mem_cons_of_mem _ hd)]
    rfl
theorem ins_in {b : Bf} : ∀ {l : List Bf} (r : List Bf), (∃ c ∈ l, lt b c = true) → ins b (l ++ r) = ins b l ++ r
  | [], r, h => by obtain ⟨c, hc, _⟩ := h; cases hc
  | c :: l, r, h => by
    rw [List.cons_append]
    unfold ins
    split
    · rfl
    · next hn =>
      rw [ins_in r (by
        obtain ⟨d, hd, h1⟩ := h
        rcases List.mem_cons.1 hd with rfl | hd
        · exact absurd h1 hn
        · exact ⟨d, hd, h1⟩)]
      rfl
theorem ins_mid {b c : Bf} {l : List Bf} (h : ∀ d ∈ l, lt b d = false) (hc : lt b c = true) : ins b (l ++ [c]) = l ++ [b, c] := by
  induction l with
  | nil => simp [ins, hc]
  | cons d l ih =>
    rw [List.cons_append]
    unfold ins
    rw [if_neg (by rw [h d List.mem_cons_self]; decide), ih fun e he => h e (List.mem_cons_of_mem _ he)]
    rfl
theorem AddS.zero (l : List Bf) (b : Bf) : AddS l b 0 [] false := ⟨fun h => (by cases h), fun _ => ⟨by simp, by simp⟩⟩
theorem AddS.old {l : List Bf} {b c : Bf} {i : Nat} {out : List Bf} {done : Bool} (h : AddS l b i out done) (hc : l[i]? = some c) (hn : done = true ∨ lt b c = false) : AddS l b (i + 1) (out ++ [c]) done := by
  refine ⟨fun hd => ?_, fun hd => ?_⟩
  · obtain ⟨rfl, d, hd1, hd2⟩ := h.1 hd
    rw [take_at hc]
    exact ⟨(ins_in _ ⟨d, hd1, hd2⟩).symm, d, List.mem_append_left _ hd1, hd2⟩
  · obtain ⟨rfl, h2⟩ := h.2 hd
    rw [take_at hc]
    refine ⟨rfl, fun d hd' => ?_⟩
    rcases List.mem_append.1 hd' with hd' | hd'
    · exact h2 d hd'
    · rw [List.mem_singleton.1 hd']
      exact hn.resolve_left (by rw [hd]; decide)
theorem AddS.new {l : List Bf} {b c : Bf} {i : Nat} {out : List Bf} (h : AddS l b i out false) (hc : l[i]? = some c) (hn : lt b c = true) : AddS l b (i + 1) (out ++ [b] ++ [c]) true := by
  obtain ⟨rfl, h2⟩ := h.2 rfl
  refine ⟨fun _ => ?_, fun h => by cases h⟩
  rw [take_at hc]
  exact ⟨by rw [ins_mid h2 hn]; simp, c, by simp, hn⟩
theorem AddS.fin {l : List Bf} {b : Bf} {out : List Bf} {done : Bool} (h : AddS l b l.length out done) : (done = true → out = ins b l) ∧ (done = false → out ++ [b] = ins b l) := by
  unfold AddS at h
  rw [List.take_length] at h
  refine ⟨fun hd => (h.1 hd).1, fun hd => ?_⟩
  obtain ⟨rfl, h2⟩ := h.2 hd
  exact (ins_end h2).symm
/-! ### a use more -/
def RefS (l : List Int) (j : Int) (i : Nat) (out : List Int) (done : Bool) : Prop := (j ∉ l.take i) ∧ (done = true → out = insR j (l.take i) ∧ ∃ c ∈ l.take i, j < c) ∧ (done = false → out = l.take i ∧ ∀ c ∈ l.take i, ¬ j < c)
theorem insR_end {j : Int} : ∀ {l : List Int}, (∀ c ∈ l, ¬ j < c) → insR j l = l ++ [j]
  | [], _ => rfl
  | c :: l, h => by
    unfold insR
    rw [if_neg (h c List.mem_cons_self), insR_end fun d hd => h d (List.mem_cons_of_mem _ hd)]
    rfl
theorem insR_in {j : Int} : ∀ {l : List Int} (r : List Int), (∃ c ∈ l, j < c) → insR j (l ++ r) = insR j l ++ r
  | [], r, h => by obtain ⟨c, hc, _⟩ := h; cases hc
  | c :: l, r, h => by
    rw [List.cons_append]
    unfold insR
    split
    · rfl
    · next hn =>
      rw [insR_in r (by
        obtain ⟨d, hd, h1⟩ := h
        rcases List.mem_cons.1 hd with rfl | hd
        · exact absurd h1 hn
        · exact ⟨d, hd, h1⟩)]
      rfl
theorem insR_mid {j c : Int} {l : List Int} (h : ∀ d ∈ l, ¬ j < d) (hc : j < c) : insR j (l ++ [c]) = l ++ [j, c] := by
  induction l with
  | nil => simp [insR, hc]
  | cons d l ih =>
    rw [List.cons_append]
    unfold insR
    rw [if_neg (h d List.mem_cons_self), ih fun e he => h e (List.mem_cons_of_mem _ he)]
    rfl
theorem RefS.zero (l : List Int) (j : Int) : RefS l j 0 [] false := ⟨by simp, fun h => (by cases h), fun _ => ⟨by simp, by simp⟩⟩
theorem RefS.old {l : List Int} {j c : Int} {i : Nat} {out : List Int} {done : Bool} (h : RefS l j i out done) (hc : l[i]? = some c) (hne : c ≠ j) (hn : done = true ∨ ¬ j < c) : RefS l j (i + 1) (out ++ [c]) done := by
  refine ⟨?_, fun hd => ?_, fun hd => ?_⟩
  · rw [take_at hc, List.mem_append, List.mem_singleton]
    rintro (h1 | h1)
    · exact h.1 h1
    · exact hne h1.symm
  · obtain ⟨rfl, d, hd1, hd2⟩ := h.2.1 hd
    rw [take_at hc]
    exact ⟨(insR_in _ ⟨d, hd1, hd2⟩).symm, d, List.mem_append_left _ hd1, hd2⟩
  · obtain ⟨rfl, h2⟩ := h.2.2 hd
    rw [take_at hc]
    refine ⟨rfl, fun d hd' => ?_⟩
    rcases List.mem_append.1 hd' with hd' | hd'
    · exact h2 d hd'
    · rw [List.mem_singleton.1 hd']
      exact hn.resolve_left (by rw [hd]; decide)
theorem RefS.new {l : List Int} {j c : Int} {i : Nat} {out : List Int} (h : RefS l j i out false) (hc : l[i]? = some c) (hn : j < c) : RefS l j (i + 1) (out ++ [j] ++ [c]) true := by
  obtain ⟨rfl, h2⟩ := h.2.2 rfl
  refine ⟨?_, fun _ => ?_, fun h => by cases h⟩
  · rw [take_at hc, List.mem_append, List.mem_singleton]
    rintro (h1 | h1)
    · exact h.1 h1
    · omega
  · rw [take_at hc]
    exact ⟨by rw [insR_mid h2 hn]; simp, c, by simp, hn⟩
theorem RefS.fin {l : List Int} {j : Int} {out : List Int} {done : Bool} (h : RefS l j l.length out done) : j ∉ l ∧ (done = true → out = insR j l) ∧ (done = false → out ++ [j] = insR j l) := by
  unfold RefS at h
  rw [List.take_length] at h
  refine ⟨h.1, fun hd => (h.2.1 hd).1, fun hd => ?_⟩
  obtain ⟨rfl, h2⟩ := h.2.2 hd
  exact (insR_end h2).symm
/-! ### uses let go -/
theorem filter_at {l : List Int} {j c : Int} {i : Nat} (hc : l[i]? = some c) : (l.take (i + 1)).filter (fun r => decide (r ≠ j)) = (l.take i).filter (fun r => decide (r ≠ j)) ++ (if c = j then [] else [c]) := by
  rw [take_at hc, List.filter_append]
  congr 1
  by_cases h : c = j
  · rw [if_pos h, List.filter_cons_of_neg (by simpa using h)]
    rfl
  · rw [if_neg h, List.filter_cons_of_pos (by simpa using h)]
    rfl
theorem map_at {l : List Bf} {f : Bf → Bf} {b : Bf} {i : Nat} (hb : l[i]? = some b) : (l.take (i + 1)).map f = (l.take i).map f ++ [f b] := by
  rw [take_at hb, List.map_append]
  rfl
/-! ### a row without one -/
theorem erase_eq (l : List Bf) (i : Nat) : l.eraseIdx i = l.take i ++ l.drop (i + 1) := List.eraseIdx_eq_take_drop_succ l i
/-! ### a row that may be, read one by one -/
theorem refs_step {l : List Int} {i : Nat} {c : Int} (h : (∀ r ∈ l.take i, jobOk r) ∧ (l.take i).Pairwise (· < ·)) (hc : l[i]? = some c) (h1 : jobOk c) (h2 : ∀ a, 0 < i → l[i - 1]? = some a → a < c) : (∀ r ∈ l.take (i + 1), jobOk r) ∧ (l.take (i + 1)).Pairwise (· < ·) := by
  rw [take_at hc]
  obtain ⟨hi, _⟩ := List.getElem?_eq_some_iff.1 hc
  refine ⟨fun r hr => ?_, List.pairwise_append.2 ⟨h.2, by simp, fun a ha d hd => ?_⟩⟩
  · rcases List.mem_append.1 hr with hr | hr
    · exact h.1 r hr
    · rw [List.mem_singleton.1 hr]; exact h1
  · rw [List.mem_singleton.1 hd]
    obtain ⟨k, hk⟩ := List.mem_iff_getElem?.1 ha
    rw [List.getElem?_take] at hk
    split at hk
    · next hki =>
      obtain ⟨d', hd'⟩ : ∃ d', l[i - 1]? = some d' := ⟨_, List.getElem?_eq_getElem (by omega)⟩
      have h4 := h2 d' (by omega) hd'
      by_cases e : k = i - 1
      · rw [e, hd'] at hk
        rwa [← Option.some.inj hk]
      · have := List.pairwise_iff_getElem.1 h.2 k (i - 1) (by rw [List.length_take]; omega) (by rw [List.length_take]; omega) (by omega)
        rw [List.getElem_take, List.getElem_take] at this
        obtain ⟨_, e1⟩ := List.getElem?_eq_some_iff.1 hk
        obtain ⟨_, e2⟩ := List.getElem?_eq_some_iff.1 hd'
        rw [e1, e2] at this
        omega
    · cases hk
theorem no_ref {l : List Int} {i : Nat} {c : Int} (hc : l[i]? = some c) (h : ¬ jobOk c ∨ ∃ a, 0 < i ∧ l[i - 1]? = some a ∧ ¬ a < c) : ¬ RefsOk l := by
  rintro ⟨_, h1, h2⟩
  rcases h with h | ⟨a, h0, ha, h⟩
  · exact h (h1 c (List.mem_of_getElem? hc))
  · obtain ⟨hi, e1⟩ := List.getElem?_eq_some_iff.1 ha
    obtain ⟨hj, e2⟩ := List.getElem?_eq_some_iff.1 hc
    have := List.pairwise_iff_getElem.1 h2 (i - 1) i hi hj (by omega)
    rw [e1, e2] at this
    exact h this
end Go.Proofs.YtkjffoebcblpoaaGreat.bu
end
section
set_option linter.unusedVariables false
namespace Go.Proofs.YtkjffoebcblpoaaGreat.gn
open Go.RowKit
open Go.Proofs.YtkjffoebcblpoaaGreat.un

theorem digit_any (c : UInt8) (w : World) : Calls Tryz.prog 93 #[.int .u8 (c.toNat : Int)] w fun e w' => e = .returned (.bool (dig c)) ∧ w = w' := by
  by_cases h0 : 48 ≤ c.toNat
  · by_cases h1 : c.toNat ≤ 57
    · have H := Lib.hid (show dig c = true from decide_eq_true ⟨h0, h1⟩)
      have h2 : decide ((c.toNat : Int) ≤ 57) = true := decide_eq_true (by omega)
      go_enter Tryz.func93, Tryz.ntmps93
      go_wp2
      go_ret
      exact ⟨by rw [H.out]; rfl, rfl⟩
    · have H := Lib.hid (show dig c = false from decide_eq_false (by omega))
      have h2 : decide ((c.toNat : Int) ≤ 57) = false := decide_eq_false (by omega)
      go_enter Tryz.func93, Tryz.ntmps93
      go_wp2
      go_ret
      exact ⟨by rw [H.out]; rfl, rfl⟩
  · have H := Lib.hid (show dig c = false from decide_eq_false (by omega))
    go_enter Tryz.func93, Tryz.ntmps93
    go_wp2
    go_ret
    exact ⟨by rw [H.out]; rfl, rfl⟩

theorem wordb_yes {c : UInt8} (h : wordb c = true) : (97 ≤ c.toNat ∧ c.toNat ≤ 122) ∨ (65 ≤ c.toNat ∧ c.toNat ≤ 90) ∨ (48 ≤ c.toNat ∧ c.toNat ≤ 57) ∨ c.toNat = 95 := by
  unfold wordb at h
  simp only [Bool.or_eq_true, decide_eq_true_eq] at h
  omega
theorem wordb_no {c : UInt8} (h : wordb c = false) : c.toNat < 45 ∨ c.toNat = 45 ∨ c.toNat = 46 ∨ c.toNat = 47 ∨ (58 ≤ c.toNat ∧ c.toNat ≤ 64) ∨ (91 ≤ c.toNat ∧ c.toNat ≤ 94) ∨ c.toNat = 96 ∨ 123 ≤ c.toNat := by
  unfold wordb at h
  simp only [Bool.or_eq_false_iff, decide_eq_false_iff_not] at h
  omega

/-- What the law's file names isName, cut at its length. -/
def nameLast (l : List UInt8) : Bool := decide (0 < l.length) && decide (l.length ≤ 32)
theorem isName_of (l : List UInt8) : isName l = (nameLast l && okFrom 0 l) := rfl

set_option maxRecDepth 100000 in
set_option maxHeartbeats 4000000 in
theorem dname_any (l : List UInt8) (hl : l.length ≤ 140737488355328) (w : World) : Calls Tryz.prog 71 #[.string (str l)] w fun e w' => e = .returned (.bool (isName l)) ∧ w = w' := by
  obtain ⟨ans, hans⟩ : ∃ ans, okFrom 0 l = ans := ⟨_, rfl⟩
  have HI := Lib.hid (show isName l = (nameLast l && ans) by rw [isName_of, hans])
  have HN := Lib.hid (show okFrom 0 (l.drop 0) = ans by simpa using hans)
  have hz := str_size l
  have hz1 : (str l).size ≤ 140737488355328 := by omega
  have HZ := Lib.hid hz
  clear hans hz hl
  go_enter Tryz.func71, Tryz.ntmps71
  go_wp2
  go_loopw [3] (fun s3 wr => ∃ k : Nat, s3 = .int .i64 k ∧ k ≤ (str l).size ∧ Aside (okFrom k (l.drop k) = ans) ∧ wr = w) (fun s3 _ => (str l).size - (intOf s3).toNat)
  case atStart => exact ⟨0, rfl, Nat.zero_le _, HN.out, rfl⟩
  case round =>
    obtain ⟨k, rfl, hk, hok, rfl⟩ := hrel
    by_cases hlt : k < (str l).size
    · have hpl : k < l.length := by rw [← HZ.out]; exact hlt
      have hg := str_at l k hlt
      have HOK := Lib.hid (show (nmAt k ((str l)[k]'hlt) && okFrom (k + 1) (l.drop (k + 1))) = ans by
        rw [hg, ← okFrom_drop hpl]
        exact hok)
      clear hok hg
      obtain ⟨c, hc⟩ : ∃ c, (str l)[k]'hlt = c := ⟨_, rfl⟩
      rw [hc] at HOK
      have hix : ∀ W, (Instr.index 9 (.string (str l)) (.int .i64 (k : Int))).run Tryz.prog W = .ok (.int .u8 (c.toNat : Int)) W := fun W => by
        rw [← hc, run_index_string W _ (str l) .i64 (k : Int) Tryz.underlying9, dif_pos ⟨by omega, by omega⟩]
        rfl
      cases hw : wordb c with
      | true =>
        have hnm : nmAt k c = true := by unfold nmAt; rw [hw]; rfl
        have HO2 := Lib.hid (show okFrom (k + 1) (l.drop (k + 1)) = ans by rw [← HOK.out, hnm]; rfl)
        have hcs := wordb_yes hw
        have hdg : dig c = decide (48 ≤ c.toNat ∧ c.toNat ≤ 57) := rfl
        clear HOK hnm hw hc
        rcases hcs with ⟨c1, c2⟩ | ⟨c1, c2⟩ | ⟨c1, c2⟩ | c1
        case' inl => have hd2 : dig c = false := by rw [hdg]; exact decide_eq_false (by omega)
        case' inr.inl => have hd2 : dig c = false := by rw [hdg]; exact decide_eq_false (by omega)
        case' inr.inr.inl => have hd2 : dig c = true := by rw [hdg]; exact decide_eq_true (by omega)
        case' inr.inr.inr =>
          have hd2 : dig c = false := by rw [hdg]; exact decide_eq_false (by omega)
          have e95 : ((c.toNat : Int) == 95) = true := by rw [beq_iff_eq]; omega
          have c2 : 94 < c.toNat := by omega
          have c3 : c.toNat < 96 := by omega
          clear c1
        all_goals
          have HD := Lib.hid hd2
          clear hd2 hdg
          go_wp2_with (go_at_call 93; refine (digit_any c _).mono ?_; rintro e w2 ⟨rfl, rfl⟩; rw [HD.out])
          go_roundw
          case rel => exact ⟨k + 1, by go_num, by omega, HO2.out, trivial⟩
          case measure => simp [intOf]; omega
      | false =>
        have hcs := wordb_no hw
        have hdg : dig c = decide (48 ≤ c.toNat ∧ c.toNat ≤ 57) := rfl
        have hd2 : dig c = false := by rw [hdg]; exact decide_eq_false (by omega)
        have HD := Lib.hid hd2
        have e95 : ((c.toNat : Int) == 95) = false := by rw [beq_eq_false_iff_ne]; omega
        have hnm : nmAt k c = (decide (k ≠ 0) && (decide (c.toNat = 45) || decide (c.toNat = 46))) := by unfold nmAt; rw [hw]; rfl
        rw [hnm] at HOK
        clear hnm hw hc hd2 hdg
        by_cases hk0 : k = 0
        · have hans : ans = false := by rw [← HOK.out, show decide (k ≠ 0) = false from decide_eq_false (by omega)]; rfl
          have HIF := Lib.hid (show isName l = false by rw [HI.out, hans]; simp)
          have k0 : ((k : Int) == 0) = true := by rw [beq_iff_eq]; omega
          clear hk0 HOK hans
          rcases hcs with c1 | c1 | c1 | c1 | ⟨c1, c2⟩ | ⟨c1, c2⟩ | c1 | c1
          case' inr.inl =>
            have c2 : 44 < c.toNat := by omega
            have c3 : c.toNat < 46 := by omega
            clear c1
          case' inr.inr.inl =>
            have c2 : 45 < c.toNat := by omega
            have c3 : c.toNat < 47 := by omega
            clear c1
          case' inr.inr.inr.inl =>
            have c2 : 46 < c.toNat := by omega
            have c3 : c.toNat < 48 := by omega
            clear c1
          case' inr.inr.inr.inr.inr.inr.inl =>
            have c2 : 95 < c.toNat := by omega
            have c3 : c.toNat < 97 := by omega
            clear c1
          all_goals
            try have d122 : decide ((c.toNat : Int) ≤ 122) = false := decide_eq_false (by omega)
            try have d90 : decide ((c.toNat : Int) ≤ 90) = false := decide_eq_false (by omega)
            go_wp2_with (go_at_call 93; refine (digit_any c _).mono ?_; rintro e w2 ⟨rfl, rfl⟩; rw [HD.out])
            go_ret
            exact ⟨by rw [HIF.out]; rfl, rfl⟩
        · have k0 : ((k : Int) == 0) = false := by rw [beq_eq_false_iff_ne]; omega
          by_cases hy : c.toNat = 45 ∨ c.toNat = 46
          · have HO2 := Lib.hid (show okFrom (k + 1) (l.drop (k + 1)) = ans by
              have := HOK.out
              rw [show decide (k ≠ 0) = true from decide_eq_true hk0, show (decide (c.toNat = 45) || decide (c.toNat = 46)) = true by simpa using hy] at this
              simpa using this)
            clear hcs HOK hk0
            rcases hy with c1 | c1
            case' inl =>
              have e45 : ((c.toNat : Int) == 45) = true := by rw [beq_iff_eq]; omega
              have c2 : 44 < c.toNat := by omega
              have c3 : c.toNat < 46 := by omega
              clear c1
            case' inr =>
              have e45 : ((c.toNat : Int) == 45) = false := by rw [beq_eq_false_iff_ne]; omega
              have e46 : ((c.toNat : Int) == 46) = true := by rw [beq_iff_eq]; omega
              have n45 : ((c.toNat : Int) != 45) = true := by rw [bne_iff_ne]; omega
              have c2 : 45 < c.toNat := by omega
              have c3 : c.toNat < 47 := by omega
              clear c1
            all_goals
              go_wp2_with (go_at_call 93; refine (digit_any c _).mono ?_; rintro e w2 ⟨rfl, rfl⟩; rw [HD.out])
              go_roundw
              case rel => exact ⟨k + 1, by go_num, by omega, HO2.out, trivial⟩
              case measure => simp [intOf]; omega
          · have hans : ans = false := by
              rw [← HOK.out, show (decide (c.toNat = 45) || decide (c.toNat = 46)) = false by
                rw [decide_eq_false (show ¬ c.toNat = 45 by omega), decide_eq_false (show ¬ c.toNat = 46 by omega)]; rfl]
              simp
            have HIF := Lib.hid (show isName l = false by rw [HI.out, hans]; simp)
            have e45 : ((c.toNat : Int) == 45) = false := by rw [beq_eq_false_iff_ne]; omega
            have e46 : ((c.toNat : Int) == 46) = false := by rw [beq_eq_false_iff_ne]; omega
            have n45 : ((c.toNat : Int) != 45) = true := by rw [bne_iff_ne]; omega
            have n46 : ((c.toNat : Int) != 46) = true := by rw [bne_iff_ne]; omega
            have hcs2 : c.toNat < 45 ∨ (46 < c.toNat ∧ c.toNat < 48) ∨ (57 < c.toNat ∧ c.toNat < 65) ∨ (90 < c.toNat ∧ c.toNat < 97) ∨ 122 < c.toNat := by omega
            clear hcs HOK hk0 hy hans
            rcases hcs2 with c1 | ⟨c1, c2⟩ | ⟨c1, c2⟩ | ⟨c1, c2⟩ | c1
            all_goals
              try have d122 : decide ((c.toNat : Int) ≤ 122) = false := decide_eq_false (by omega)
              try have d90 : decide ((c.toNat : Int) ≤ 90) = false := decide_eq_false (by omega)
              go_wp2_with (go_at_call 93; refine (digit_any c _).mono ?_; rintro e w2 ⟨rfl, rfl⟩; rw [HD.out])
              go_ret
              exact ⟨by rw [HIF.out]; rfl, rfl⟩
    · have hkl : l.length ≤ k := by rw [← HZ.out]; omega
      have hans : ans = true := by rw [← (show okFrom k (l.drop k) = ans from hok)]; exact okFrom_end l hkl
      have hnl : isName l = nameLast l := by rw [HI.out, hans]; simp
      have hz := HZ.out
      clear hok hkl hans HN
      by_cases h0 : 0 < (str l).size
      · have q0 : decide (0 < ((str l).size : Int)) = true := decide_eq_true (by omega)
        by_cases h1 : (str l).size ≤ 32
        · have q1 : decide (((str l).size : Int) ≤ 32) = true := decide_eq_true (by omega)
          have HNL := Lib.hid (show isName l = true by
            rw [hnl]; unfold nameLast; rw [decide_eq_true (show 0 < l.length by omega), decide_eq_true (show l.length ≤ 32 by omega)]; rfl)
          clear hz hnl
          go_wp2
          go_ret
          exact ⟨by rw [HNL.out]; rfl, rfl⟩
        · have q1 : decide (((str l).size : Int) ≤ 32) = false := decide_eq_false (by omega)
          have HNL := Lib.hid (show isName l = false by
            rw [hnl]; unfold nameLast; rw [decide_eq_false (show ¬ l.length ≤ 32 by omega)]; simp)
          clear hz hnl
          go_wp2
          go_ret
          exact ⟨by rw [HNL.out]; rfl, rfl⟩
      · have q0 : decide (0 < ((str l).size : Int)) = false := decide_eq_false (by omega)
        have HNL := Lib.hid (show isName l = false by
          rw [hnl]; unfold nameLast; rw [decide_eq_false (show ¬ 0 < l.length by omega)]; rfl)
        clear hz hnl
        go_wp2
        go_ret
        exact ⟨by rw [HNL.out]; rfl, rfl⟩
end Go.Proofs.YtkjffoebcblpoaaGreat.gn
end
