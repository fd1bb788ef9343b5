/- Shares, plain: what chapter 18 says of one, and what follows. -/
import Derived.Below
set_option linter.unusedVariables false
set_option linter.unusedSimpArgs false
namespace Go.Proofs.Ytiaidlpceibnpaa.la

def tot : List Int → Int
  | [] => 0
  | x :: l => x + tot l
theorem tot_app : ∀ a b : List Int, tot (a ++ b) = tot a + tot b
  | [], b => by simp [tot]
  | x :: a, b => by
    have := tot_app a b
    simp only [List.cons_append, tot]
    omega
/-- The share of T for the wants l. -/
structure Fair (T : Int) (l a : List Int) : Prop where
  len : a.length = l.length
  pos : ∀ (i : Nat) (x : Int), a[i]? = some x → 0 ≤ x
  most : ∀ (i : Nat) (x y : Int), a[i]? = some x → l[i]? = some y → x ≤ y
  sum : tot a ≤ T
  near : ∀ (i k : Nat) (x y z : Int), a[i]? = some x → l[i]? = some y → x < y → a[k]? = some z → z ≤ x + 1 ∧ (i < k → z ≤ x)
  all : a = l ∨ tot a = T
theorem tot_le : ∀ (a b : List Int), a.length = b.length → (∀ (k : Nat) (x y : Int), a[k]? = some x → b[k]? = some y → y ≤ x) → tot b ≤ tot a
  | [], [], _, _ => Int.le_refl _
  | x :: a, y :: b, hl, h => by
    have h0 := h 0 x y rfl rfl
    have := tot_le a b (by simpa using hl) fun k p q hp hq => h (k + 1) p q hp hq
    simp only [tot]
    omega
theorem tot_lt : ∀ (a b : List Int), a.length = b.length → (∀ (k : Nat) (x y : Int), a[k]? = some x → b[k]? = some y → y ≤ x) → ∀ (i : Nat) (x y : Int), a[i]? = some x → b[i]? = some y → y < x → tot b < tot a
  | [], _, _, _, i, x, y, hx, _, _ => by simp at hx
  | _ :: _, [], hl, _, _, _, _, _, _, _ => by simp at hl
  | p :: a, q :: b, hl, h, 0, x, y, hx, hy, hlt => by
    have := tot_le a b (by simpa using hl) fun k p q hp hq => h (k + 1) p q hp hq
    simp only [List.getElem?_cons_zero, Option.some.injEq] at hx hy
    simp only [tot]
    omega
  | p :: a, q :: b, hl, h, i + 1, x, y, hx, hy, hlt => by
    have h0 := h 0 p q rfl rfl
    have := tot_lt a b (by simpa using hl) (fun k p q hp hq => h (k + 1) p q hp hq) i x y (by simpa using hx) (by simpa using hy) hlt
    simp only [tot]
    omega
/-- Where one has less, another one has more, if it is not less together. -/
theorem some_more {a b : List Int} (hl : a.length = b.length) (hs : tot a ≤ tot b) {i : Nat} {x y : Int} (hx : a[i]? = some x) (hy : b[i]? = some y) (hlt : y < x) : ∃ (k : Nat) (p q : Int), a[k]? = some p ∧ b[k]? = some q ∧ p < q := by
  apply Classical.byContradiction
  intro hn
  have := tot_lt a b hl (fun k p q hp hq => by
    apply Classical.byContradiction
    intro h
    exact hn ⟨k, p, q, hp, hq, by omega⟩) i x y hx hy hlt
  omega
theorem at_len {α β : Type} {a : List α} {b : List β} (hl : a.length = b.length) {i : Nat} {x : α} (h : a[i]? = some x) : ∃ y, b[i]? = some y := by
  have := (List.getElem?_eq_some_iff.1 h).1
  exact ⟨_, List.getElem?_eq_getElem (by omega)⟩
/-- With a total that is not less, and wants of which some are taken away, nobody else has less. -/
theorem no_less {T U : Int} {l m a b : List Int} (ha : Fair T l a) (hb : Fair U m b) (hT : T ≤ U) (hlm : m.length = l.length) (hk : ∀ k : Nat, m[k]? = l[k]? ∨ ∀ y, m[k]? = some y → y = 0) {i : Nat} (hi : m[i]? = l[i]?) {x y : Int} (hx : a[i]? = some x) (hy : b[i]? = some y) : x ≤ y := by
  apply Classical.byContradiction
  intro hn
  have hlt : y < x := by omega
  obtain ⟨w, hw⟩ := at_len ha.len hx
  have h1 := ha.most i x w hx hw
  have hw2 : m[i]? = some w := hi.trans hw
  have hne : b ≠ m := by
    rintro rfl
    rw [hy] at hw2
    simp only [Option.some.injEq] at hw2
    omega
  have hsum : tot b = U := (hb.all).resolve_left hne
  have h2 := ha.sum
  obtain ⟨k, p, q, hp, hq, hpq⟩ := some_more (a := a) (b := b) (by rw [ha.len, hb.len, hlm]) (by omega) hx hy hlt
  obtain ⟨v, hv⟩ := at_len hb.len hq
  have h3 := hb.most k q v hq hv
  have h4 := ha.pos k p hp
  have hlv : l[k]? = some v := by
    rcases hk k with h | h
    · rw [← h]
      exact hv
    · have := h v hv
      omega
  have h5 := ha.near k i p v x hp hlv (by omega) hx
  have h6 := hb.near i k y w q hy hw2 (by omega) hq
  rcases Nat.lt_trichotomy i k with h | h | h
  · have := h6.2 h
    omega
  · subst h
    rw [hx] at hp
    rw [hy] at hq
    simp only [Option.some.injEq] at hp hq
    omega
  · have := h5.2 h
    omega
theorem tot_few : ∀ (a : List Int) (c : Int), (∀ (k : Nat) (z : Int), a[k]? = some z → z ≤ c) → tot a ≤ c * a.length
  | [], c, _ => by simp [tot]
  | x :: a, c, h => by
    have h0 := h 0 x rfl
    have := tot_few a c fun k z hz => h (k + 1) z hz
    simp only [tot, List.length_cons]
    rw [show c * ((a.length + 1 : Nat) : Int) = c * a.length + c by rw [Int.natCast_add, Int.mul_add]; simp]
    omega
theorem tot_fewer : ∀ (a : List Int) (c : Int), (∀ (k : Nat) (z : Int), a[k]? = some z → z ≤ c) → ∀ (i : Nat) (x : Int), a[i]? = some x → x < c → tot a < c * a.length
  | [], c, _, i, x, hx, _ => by simp at hx
  | p :: a, c, h, 0, x, hx, hlt => by
    have := tot_few a c fun k z hz => h (k + 1) z hz
    simp only [List.getElem?_cons_zero, Option.some.injEq] at hx
    simp only [tot, List.length_cons]
    rw [show c * ((a.length + 1 : Nat) : Int) = c * a.length + c by rw [Int.natCast_add, Int.mul_add]; simp]
    omega
  | p :: a, c, h, i + 1, x, hx, hlt => by
    have h0 := h 0 p rfl
    have := tot_fewer a c (fun k z hz => h (k + 1) z hz) i x (by simpa using hx) hlt
    simp only [tot, List.length_cons]
    rw [show c * ((a.length + 1 : Nat) : Int) = c * a.length + c by rw [Int.natCast_add, Int.mul_add]; simp]
    omega
/-- Each has at least the least of its want and its part. -/
theorem part {T q : Int} {l a : List Int} (ha : Fair T l a) (hq : q * l.length ≤ T) {i : Nat} {x y : Int} (hx : a[i]? = some x) (hy : l[i]? = some y) : min y q ≤ x := by
  apply Classical.byContradiction
  intro hn
  have h1 : x < y ∧ x < q := by omega
  have hne : a ≠ l := by
    rintro rfl
    rw [hx] at hy
    simp only [Option.some.injEq] at hy
    omega
  have hsum := ha.all.resolve_left hne
  have := tot_fewer a q (fun k z hz => by
    have := (ha.near i k x y z hx hy h1.1 hz).1
    omega) i x hx h1.2
  rw [ha.len] at this
  omega
/-- Of wants that are all the same. -/
theorem even {T w : Int} {n : Nat} {a : List Int} (ha : Fair T (List.replicate n w) a) {i k : Nat} {x z : Int} (hx : a[i]? = some x) (hz : a[k]? = some z) (hik : i < k) : z ≤ x ∧ x ≤ z + 1 := by
  have hw : ∀ (j : Nat) (v : Int), a[j]? = some v → (List.replicate n w)[j]? = some w := fun j v hv => by
    have := (List.getElem?_eq_some_iff.1 hv).1
    rw [ha.len, List.length_replicate] at this
    rw [List.getElem?_replicate, if_pos this]
  have h1 := ha.most i x w hx (hw i x hx)
  have h2 := ha.most k z w hz (hw k z hz)
  by_cases h3 : x < w
  · have h4 := (ha.near i k x w z hx (hw i x hx) h3 hz).2 hik
    by_cases h5 : z < w
    · have h6 := (ha.near k i z w x hz (hw k z hz) h5 hx).1
      omega
    · omega
  · by_cases h5 : z < w
    · have h6 := (ha.near k i z w x hz (hw k z hz) h5 hx).1
      omega
    · omega
/-- The share of a share, of what it is together, is itself. -/
theorem again {a b : List Int} (hb : Fair (tot a) a b) : b = a := by
  rcases hb.all with h | h
  · exact h
  · apply List.ext_getElem? 
    intro i
    rcases Nat.lt_or_ge i b.length with hi | hi
    · obtain ⟨x, hx⟩ : ∃ x, b[i]? = some x := ⟨_, List.getElem?_eq_getElem hi⟩
      obtain ⟨y, hy⟩ := at_len hb.len hx
      have h1 := hb.most i x y hx hy
      by_cases hne : x < y
      · have := tot_lt a b hb.len.symm (fun k p q hp hq => hb.most k q p hq hp) i y x hy hx hne
        omega
      · rw [hx, hy]
        congr 1
        omega
    · rw [List.getElem?_eq_none hi, List.getElem?_eq_none (by rw [← hb.len]; exact hi)]

/-! ### a share, by a level and a rest -/
def cut (v : Int) (l : List Int) : List Int := l.map fun w => min w v
/-- How many want more than v. -/
def above (v : Int) : List Int → Int
  | [] => 0
  | w :: l => (if v < w then 1 else 0) + above v l
theorem above_nn (v : Int) : ∀ l, 0 ≤ above v l
  | [] => Int.le_refl _
  | w :: l => by
    have := above_nn v l
    unfold above
    split <;> omega
def fill (v : Int) : Int → List Int → List Int
  | _, [] => []
  | r, w :: l => if v < w ∧ 0 < r then (v + 1) :: fill v (r - 1) l else min w v :: fill v r l
theorem fill_len (v : Int) : ∀ (l : List Int) (r : Int), (fill v r l).length = l.length
  | [], r => rfl
  | w :: l, r => by
    unfold fill
    split <;> simp [fill_len v l]
theorem cut_next (v : Int) : ∀ l : List Int, tot (cut (v + 1) l) = tot (cut v l) + above v l
  | [] => rfl
  | w :: l => by
    have := cut_next v l
    simp only [cut, List.map_cons, tot, above] at this ⊢
    split <;> omega
theorem cut_mono {u v : Int} (h : u ≤ v) : ∀ l : List Int, tot (cut u l) ≤ tot (cut v l)
  | [] => Int.le_refl _
  | w :: l => by
    have := cut_mono h l
    simp only [cut, List.map_cons, tot] at this ⊢
    omega
theorem fill_tot (v : Int) : ∀ (l : List Int) (r : Int), 0 ≤ r → tot (fill v r l) = tot (cut v l) + min r (above v l)
  | [], r, h => by simp [fill, tot, cut, above]; omega
  | w :: l, r, h => by
    unfold fill
    have hab := above_nn v l
    split
    · rename_i hc
      have := fill_tot v l (r - 1) (by omega)
      simp only [cut, List.map_cons, tot, above] at this ⊢
      rw [if_pos hc.1]
      omega
    · rename_i hc
      have := fill_tot v l r h
      simp only [cut, List.map_cons, tot, above] at this ⊢
      by_cases h1 : v < w
      · rw [if_pos h1]
        have : r = 0 := by omega
        omega
      · rw [if_neg h1]
        omega
theorem fill_at (v : Int) : ∀ (l : List Int) (r : Int) (i : Nat) (x w : Int), (fill v r l)[i]? = some x → l[i]? = some w → x ≤ w ∧ x ≤ v + 1 ∧ (0 ≤ v → 0 ≤ w → 0 ≤ x) ∧ (x < w → v ≤ x) ∧ (r ≤ 0 → x ≤ v) ∧ (w ≤ v → x = w)
  | [], r, i, x, w, h, hw => by simp at hw
  | u :: l, r, i, x, w, h, hw => by
    unfold fill at h
    split at h
    · rename_i hc
      cases i with
      | zero =>
        simp only [List.getElem?_cons_zero, Option.some.injEq] at h hw
        omega
      | succ i =>
        have := fill_at v l (r - 1) i x w (by simpa using h) (by simpa using hw)
        refine ⟨this.1, this.2.1, this.2.2.1, this.2.2.2.1, fun hr => by omega, this.2.2.2.2.2⟩
    · rename_i hc
      cases i with
      | zero =>
        simp only [List.getElem?_cons_zero, Option.some.injEq] at h hw
        omega
      | succ i => exact fill_at v l r i x w (by simpa using h) (by simpa using hw)
/-- Behind one that has just the level, and wants more, nobody has more. -/
theorem fill_near (v : Int) : ∀ (l : List Int) (r : Int) (i k : Nat) (w z : Int), (fill v r l)[i]? = some v → l[i]? = some w → v < w → (fill v r l)[k]? = some z → i < k → z ≤ v
  | [], r, i, k, w, z, h, hw, _, _, _ => by simp at hw
  | u :: l, r, i, k, w, z, h, hw, hvw, hz, hik => by
    obtain ⟨k, rfl⟩ : ∃ k', k = k' + 1 := ⟨k - 1, by omega⟩
    unfold fill at h hz
    split at h
    · rename_i hc
      rw [if_pos hc] at hz
      cases i with
      | zero =>
        simp only [List.getElem?_cons_zero, Option.some.injEq] at h
        omega
      | succ i => exact fill_near v l (r - 1) i k w z (by simpa using h) (by simpa using hw) hvw (by simpa using hz) (by omega)
    · rename_i hc
      rw [if_neg hc] at hz
      cases i with
      | zero =>
        simp only [List.getElem?_cons_zero, Option.some.injEq] at h hw
        have hr : r ≤ 0 := by omega
        obtain ⟨y, hy⟩ := at_len (fill_len v l r) (show (fill v r l)[k]? = some z by simpa using hz)
        exact (fill_at v l r k z y (by simpa using hz) hy).2.2.2.2.1 hr
      | succ i => exact fill_near v l r i k w z (by simpa using h) (by simpa using hw) hvw (by simpa using hz) (by omega)
theorem fill_met (v : Int) : ∀ (l : List Int) (r : Int), (∀ w ∈ l, w ≤ v) → fill v r l = l
  | [], r, _ => rfl
  | w :: l, r, h => by
    have h0 := h w (by simp)
    unfold fill
    rw [if_neg (by omega), fill_met v l r fun x hx => h x (by simp [hx])]
    congr 1
    omega
/-- The share, by the greatest level that the total is enough for. -/
theorem fair_fill {T v : Int} {l : List Int} (hv : 0 ≤ v) (hl : ∀ w ∈ l, 0 ≤ w) (h1 : tot (cut v l) ≤ T) (h2 : (∀ w ∈ l, w ≤ v) ∨ T < tot (cut (v + 1) l)) : Fair T l (fill v (T - tot (cut v l)) l) := by
  have hab := above_nn v l
  have ht := fill_tot v l (T - tot (cut v l)) (by omega)
  refine ⟨fill_len _ _ _, fun i x hx => ?_, fun i x y hx hy => (fill_at v l _ i x y hx hy).1, by omega, fun i k x y z hx hy hxy hz => ?_, ?_⟩
  · obtain ⟨w, hw⟩ := at_len (fill_len v l _) hx
    exact (fill_at v l _ i x w hx hw).2.2.1 hv (hl w (List.mem_of_getElem? hw))
  · have h3 := fill_at v l _ i x y hx hy
    obtain ⟨u, hu⟩ := at_len (fill_len v l _) hz
    have h4 := fill_at v l _ k z u hz hu
    have hvx := h3.2.2.2.1 hxy
    refine ⟨by omega, fun hik => ?_⟩
    by_cases he : x = v
    · subst he
      exact fill_near x l _ i k y z hx hy hxy hz hik
    · omega
  · rcases h2 with h2 | h2
    · exact .inl (fill_met v l _ h2)
    · right
      rw [cut_next] at h2
      omega
/-- There is exactly one. -/
theorem uniq {T : Int} {l a b : List Int} (ha : Fair T l a) (hb : Fair T l b) : a = b := by
  apply List.ext_getElem?
  intro i
  rcases Nat.lt_or_ge i a.length with hi | hi
  · obtain ⟨x, hx⟩ : ∃ x, a[i]? = some x := ⟨_, List.getElem?_eq_getElem hi⟩
    obtain ⟨y, hy⟩ := at_len (ha.len.trans hb.len.symm) hx
    have h1 := no_less ha hb (Int.le_refl _) rfl (fun _ => .inl rfl) rfl hx hy
    have h2 := no_less hb ha (Int.le_refl _) rfl (fun _ => .inl rfl) rfl hy hx
    rw [hx, hy]
    congr 1
    omega
  · rw [List.getElem?_eq_none hi, List.getElem?_eq_none (by rw [hb.len, ← ha.len]; exact hi)]
theorem set0 : ∀ (l : List Int) (k : Nat), (∀ j : Nat, (l.set k 0)[j]? = l[j]? ∨ ∀ y, (l.set k 0)[j]? = some y → y = 0)
  | l, k, j => by
    by_cases h : k = j
    · subst h
      right
      intro y hy
      rcases Nat.lt_or_ge k l.length with hk | hk
      · rw [List.getElem?_set_self hk] at hy
        simp only [Option.some.injEq] at hy
        omega
      · rw [List.getElem?_eq_none (by rw [List.length_set]; exact hk)] at hy
        cases hy
    · left
      rw [List.getElem?_set_ne h]
/-- A quantity, wants that may be. -/
def Qy (x : Int) : Prop := 0 ≤ x ∧ x ≤ 1099511627776
instance (x : Int) : Decidable (Qy x) := by unfold Qy; infer_instance
def OkW (T : Int) (l : List Int) : Prop := l.length ≤ 1000 ∧ Qy T ∧ ∀ x ∈ l, Qy x
end Go.Proofs.Ytiaidlpceibnpaa.la
