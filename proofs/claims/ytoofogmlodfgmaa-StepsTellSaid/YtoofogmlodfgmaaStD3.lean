/- The document's times: the plain mathematics. -/
import Derived.Test.YtoofogmlodfgmaaStM
namespace Go.Proofs.Ytoofogmlodfgmaa.sp

instance (n : Int) : Decidable (Q n) := by unfold Q; infer_instance
/-- A time that may come next. -/
def Cand (ts : List Int) (x : Int) : Prop := Q x ∧ ∀ y ∈ ts, y < x
instance (ts : List Int) (x : Int) : Decidable (Cand ts x) := by unfold Cand; infer_instance
theorem filter_lt {α : Type} {p q : α → Bool} (b : α) (hb : p b = true) (hq : q b = false) (h : ∀ x, q x = true → p x = true) : ∀ l : List α, (l.filter q).length ≤ (l.filter p).length ∧ (b ∈ l → (l.filter q).length < (l.filter p).length)
  | [] => ⟨Nat.le_refl _, fun h => by cases h⟩
  | x :: l => by
    obtain ⟨i1, i2⟩ := filter_lt b hb hq h l
    constructor
    · rw [List.filter_cons, List.filter_cons]
      cases hx : q x with
      | true => rw [if_pos rfl, if_pos (h x hx)]; simp; exact i1
      | false =>
        rw [if_neg (by simp)]
        split
        · simp; omega
        · exact i1
    · intro hm
      rw [List.filter_cons, List.filter_cons]
      rcases List.mem_cons.1 hm with rfl | hm
      · rw [hq, hb, if_neg (by simp), if_pos rfl]; simp; omega
      · cases hx : q x with
        | true => rw [if_pos rfl, if_pos (h x hx)]; simp; exact i2 hm
        | false =>
          rw [if_neg (by simp)]
          split
          · simp; have := i2 hm; omega
          · exact i2 hm
/-- The times that were taken so far. -/
structure TsI (l ts : List Int) : Prop where
  rise : ts.Pairwise (· < ·)
  sub : ∀ y ∈ ts, y ∈ l ∧ Q y
  low : ∀ x ∈ l, Q x → x ∈ ts ∨ ∀ y ∈ ts, y < x
  cnt : ts.length + (l.filter fun x => decide (Cand ts x)).length ≤ l.length
theorem TsI.start (l : List Int) : TsI l [] := ⟨List.Pairwise.nil, (fun _ h => by cases h), (fun _ _ _ => .inr fun _ h => by cases h), by simpa using List.length_filter_le _ l⟩
theorem TsI.next {l ts : List Int} {b : Int} (h : TsI l ts) (hb : b ∈ l) (hc : Cand ts b) (hmin : ∀ x ∈ l, Cand ts x → b ≤ x) : TsI l (ts ++ [b]) := by
  refine ⟨?_, ?_, ?_, ?_⟩
  · rw [List.pairwise_append]
    exact ⟨h.rise, List.pairwise_singleton _ _, fun y hy z hz => by rw [List.mem_singleton.1 hz]; exact hc.2 y hy⟩
  · intro y hy
    rcases List.mem_append.1 hy with hy | hy
    · exact h.sub y hy
    · rw [List.mem_singleton.1 hy]; exact ⟨hb, hc.1⟩
  · intro x hx hq
    rcases h.low x hx hq with hm | hlt
    · exact .inl (List.mem_append_left _ hm)
    · have := hmin x hx ⟨hq, hlt⟩
      by_cases e : x = b
      · subst e; exact .inl (by simp)
      · refine .inr fun y hy => ?_
        rcases List.mem_append.1 hy with hy | hy
        · exact hlt y hy
        · rw [List.mem_singleton.1 hy]; omega
  · have h1 := (filter_lt (p := fun x => decide (Cand ts x)) (q := fun x => decide (Cand (ts ++ [b]) x)) b (decide_eq_true hc) (decide_eq_false fun h2 => by have := h2.2 b (by simp); omega) (fun x hx => by
      have := of_decide_eq_true hx
      exact decide_eq_true ⟨this.1, fun y hy => this.2 y (List.mem_append_left _ hy)⟩) l).2 hb
    have h2 := h.cnt
    rw [List.length_append, List.length_singleton]
    omega
theorem TsI.len {l ts : List Int} (h : TsI l ts) : ts.length ≤ l.length := by have := h.cnt; omega
theorem TsI.all {l ts : List Int} (h : TsI l ts) (hno : ∀ x ∈ l, ¬ Cand ts x) : ∀ x ∈ l, Q x → x ∈ ts := fun x hx hq => by
  rcases h.low x hx hq with h1 | h1
  · exact h1
  · exact absurd ⟨hq, h1⟩ (hno x hx)
theorem TsI.marks {L : List (Int × Int)} {a b : Int} {ts : List Int} (h : TsI (a :: b :: L.map Prod.fst) ts) (hno : ∀ x ∈ a :: b :: L.map Prod.fst, ¬ Cand ts x) (hL : Ok L) (ha : Q a) (hb : Q b) : Marks L a b ts ∧ ts.length ≤ L.length + 2 := by
  have hall := h.all hno
  refine ⟨⟨h.rise, fun t ht => (h.sub t ht).2, fun p hp => hall _ (by simp; exact .inr (.inr ⟨p.2, hp⟩)) (hL.quant p hp).1, hall _ (by simp) ha, hall _ (by simp) hb⟩, ?_⟩
  have := h.len
  simpa using this
/-- The last one is the greatest. -/
theorem rise_last {ts : List Int} {z x : Int} (hr : ts.Pairwise (· < ·)) (hz : ts[ts.length - 1]? = some z) : (∀ y ∈ ts, y < x) ↔ z < x := by
  obtain ⟨hlt, rfl⟩ := List.getElem?_eq_some_iff.1 hz
  constructor
  · intro h; exact h _ (List.getElem_mem _)
  · intro h y hy
    obtain ⟨i, hi, rfl⟩ := List.getElem_of_mem hy
    rcases Nat.lt_or_eq_of_le (show i ≤ ts.length - 1 by omega) with h1 | h1
    · have := List.pairwise_iff_getElem.1 hr i (ts.length - 1) hi hlt h1
      omega
    · subst h1; exact h

/-- The least of those that may come next, among the first k. -/
def Best (l ts : List Int) (k : Nat) (b : Int) : Prop := (b = -1 ∧ ∀ x ∈ l.take k, ¬ Cand ts x) ∨ (b ∈ l ∧ Cand ts b ∧ ∀ x ∈ l.take k, Cand ts x → b ≤ x)
theorem Best.start (l ts : List Int) : Best l ts 0 (-1) := .inl ⟨rfl, fun x hx => by simp at hx⟩
theorem Best.bd {l ts : List Int} {k : Nat} {b : Int} (h : Best l ts k b) : -1 ≤ b ∧ b ≤ 1099511627776 := by
  rcases h with ⟨rfl, _⟩ | ⟨_, h, _⟩
  · omega
  · have := h.1.1; have := h.1.2; omega
theorem mem_take_succ {l : List Int} {k : Nat} (hk : k < l.length) {x : Int} (h : x ∈ l.take (k + 1)) : x ∈ l.take k ∨ x = l[k] := by
  rw [List.take_succ_eq_append_getElem hk] at h
  rcases List.mem_append.1 h with h | h
  · exact .inl h
  · exact .inr (List.mem_singleton.1 h)
theorem Best.skip {l ts : List Int} {k : Nat} {b : Int} (h : Best l ts k b) (hk : k < l.length) (hno : Cand ts l[k] → 0 ≤ b ∧ b ≤ l[k]) : Best l ts (k + 1) b := by
  rcases h with ⟨rfl, h⟩ | ⟨h1, h2, h3⟩
  · refine .inl ⟨rfl, fun x hx hc => ?_⟩
    rcases mem_take_succ hk hx with hx | rfl
    · exact h x hx hc
    · have := hno hc; omega
  · refine .inr ⟨h1, h2, fun x hx hc => ?_⟩
    rcases mem_take_succ hk hx with hx | rfl
    · exact h3 x hx hc
    · exact (hno hc).2
theorem Best.take {l ts : List Int} {k : Nat} {b : Int} (h : Best l ts k b) (hk : k < l.length) (hc : Cand ts l[k]) (hlt : b < 0 ∨ l[k] < b) : Best l ts (k + 1) l[k] := by
  refine .inr ⟨List.getElem_mem _, hc, fun x hx hx2 => ?_⟩
  rcases mem_take_succ hk hx with hx | rfl
  · rcases h with ⟨rfl, h⟩ | ⟨_, h2, h3⟩
    · exact absurd hx2 (h x hx)
    · have := h3 x hx hx2
      have := h2.1.1
      omega
  · exact Int.le_refl _
theorem Best.none {l ts : List Int} {b : Int} (h : Best l ts l.length b) (hb : b < 0) : ∀ x ∈ l, ¬ Cand ts x := by
  rcases h with ⟨rfl, h⟩ | ⟨_, h2, _⟩
  · rwa [List.take_length] at h
  · have := h2.1.1; omega
theorem Best.one {l ts : List Int} {b : Int} (h : Best l ts l.length b) (hb : ¬ b < 0) : b ∈ l ∧ Cand ts b ∧ ∀ x ∈ l, Cand ts x → b ≤ x := by
  rcases h with ⟨rfl, h⟩ | h
  · omega
  · rwa [List.take_length] at h
end Go.Proofs.Ytoofogmlodfgmaa.sp
