/- Fits in plain words: the windows in which there are never fewer, the first fit, the first slot. -/
import Derived.Test.YtigomdihkojdmaaStM
namespace Go.Proofs.Ytigomdihkojdmaa.sp

/-- A window fits. -/
def FitsAt (L : List (Int × Int)) (t long n : Int) : Prop := t + long ≤ 1099511627776 ∧ ∀ u, t ≤ u → u < t + long → n ≤ val L u

/-- The time of the first step of a row, or Top. -/
def ende : List (Int × Int) → Int
  | [] => 1099511627776
  | q :: _ => q.1
/-- The windows, from a step on: the one that is under way begins at f, and goes up to t so far. -/
def wgo (n : Int) : List (Int × Int) → Int → Int → List (Int × Int)
  | [], f, t => [(f, t)]
  | p :: M, f, t => if n ≤ p.2 then wgo n M f (ende M) else (f, t) :: wgo n M (ende M) (ende M)
/-- Which step has a time. -/
def ix (L : List (Int × Int)) (t : Int) : Nat := (L.filter fun p => decide (p.1 ≤ t)).length - 1
def wins (L : List (Int × Int)) (from_ n : Int) : List (Int × Int) := wgo n (L.drop (ix L from_)) from_ from_

structure IxAt (L : List (Int × Int)) (t : Int) (i : Nat) : Prop where
  lt : i < L.length
  le : (L[i]'lt).1 ≤ t
  up : ∀ q (h : q < L.length), i < q → t < (L[q]).1

theorem filter_pre {L : List (Int × Int)} {t : Int} (i : Nat) (hi : i ≤ L.length) (h1 : ∀ q (h : q < L.length), q < i → (L[q]).1 ≤ t) (h2 : ∀ q (h : q < L.length), i ≤ q → t < (L[q]).1) : (L.filter fun p => decide (p.1 ≤ t)).length = i := by
  have e : L = L.take i ++ L.drop i := (List.take_append_drop i L).symm
  rw [e, List.filter_append, List.length_append]
  rw [List.filter_eq_self.2 (fun p hp => by
    obtain ⟨q, hq, rfl⟩ := List.getElem_of_mem hp
    rw [List.length_take] at hq
    rw [List.getElem_take]
    exact decide_eq_true (h1 q (by omega) (by omega)))]
  rw [List.filter_eq_nil_iff.2 (fun p hp => by
    obtain ⟨q, hq, rfl⟩ := List.getElem_of_mem hp
    rw [List.length_drop] at hq
    rw [List.getElem_drop]
    have := h2 (i + q) (by omega) (by omega)
    simp; omega)]
  rw [List.length_take]
  simp; omega
theorem IxAt.ix {L : List (Int × Int)} {t : Int} {i : Nat} (hr : Rise L) (h : IxAt L t i) : ix L t = i := by
  have hp := List.pairwise_iff_getElem.1 hr
  have := filter_pre (L := L) (t := t) (i + 1) h.lt (fun q hq hqi => by
    rcases Nat.lt_or_eq_of_le (Nat.le_of_lt_succ hqi) with h1 | h1
    · have := hp q i hq h.lt h1; have := h.le; omega
    · subst h1; exact h.le) (fun q hq hqi => h.up q hq (by omega))
  unfold sp.ix
  omega
theorem ix_at {L : List (Int × Int)} (hL : Ok L) {t : Int} (ht : 0 ≤ t) : IxAt L t (ix L t) := by
  obtain ⟨p, hp, hpt, _, hmax⟩ := hL.begun ht
  obtain ⟨i, hi, rfl⟩ := List.getElem_of_mem hp
  have h : IxAt L t i := ⟨hi, hpt, fun q hq hqi => by
    have h1 := List.pairwise_iff_getElem.1 hL.rise i q hi hq hqi
    by_cases hle : (L[q]).1 ≤ t
    · have := hmax _ (List.getElem_mem hq) hle; omega
    · omega⟩
  rw [h.ix hL.rise]
  exact h

/-- What there is, from a time on, as a row of steps says it. -/
def Seg (v : Int → Int) : Int → List (Int × Int) → Prop
  | t, [] => t = 1099511627776
  | t, p :: M => t ≤ ende M ∧ (M ≠ [] → t < ende M) ∧ (∀ u, t ≤ u → u < ende M → v u = p.2) ∧ Seg v (ende M) M
theorem ende_drop {L : List (Int × Int)} {i : Nat} (h : i < L.length) : ende (L.drop i) = (L[i]).1 := by
  rw [List.drop_eq_getElem_cons h]; rfl
/-- At a step's time, and up to the next one, there is its number. -/
theorem val_step {L : List (Int × Int)} (hL : Ok L) (i : Nat) (hi : i < L.length) (u : Int) (h1 : (L[i]).1 ≤ u) (h2 : ∀ h : i + 1 < L.length, u < (L[i + 1]).1) : val L u = (L[i]).2 := by
  have hr := List.pairwise_iff_getElem.1 hL.rise
  refine val_at hL.rise (List.getElem_mem hi) h1 fun q hq hqu => ?_
  obtain ⟨j, hj, rfl⟩ := List.getElem_of_mem hq
  by_cases hij : j ≤ i
  · rcases Nat.lt_or_eq_of_le hij with h3 | h3
    · have := hr j i hj hi h3; omega
    · subst h3; exact Int.le_refl _
  · have h4 := h2 (by omega)
    rcases Nat.lt_or_eq_of_le (show i + 1 ≤ j by omega) with h3 | h3
    · have := hr (i + 1) j (by omega) hj h3; omega
    · subst h3; omega
theorem seg_of {L : List (Int × Int)} (hL : Ok L) : ∀ (k i : Nat), i + k = L.length → ∀ t : Int, (∀ hi : i < L.length, (L[i]).1 ≤ t ∧ ∀ h1 : i + 1 < L.length, t < (L[i + 1]).1) → (i = L.length → t = 1099511627776) → t ≤ 1099511627776 → Seg (val L) t (L.drop i) := by
  have hr := List.pairwise_iff_getElem.1 hL.rise
  intro k
  induction k with
  | zero =>
    intro i h t _ h2 _
    rw [List.drop_eq_nil_of_le (by omega)]
    exact h2 (by omega)
  | succ k ih =>
    intro i h t h1 _ h3
    have hi : i < L.length := by omega
    obtain ⟨h4, h5⟩ := h1 hi
    rw [List.drop_eq_getElem_cons hi]
    by_cases hn : i + 1 < L.length
    · have he := ende_drop hn
      have h6 := h5 hn
      refine ⟨by rw [he]; omega, fun _ => by rw [he]; exact h6, fun u hu1 hu2 => val_step hL i hi u (by omega) fun h => by rw [he] at hu2; exact hu2, ?_⟩
      rw [he]
      refine ih (i + 1) (by omega) _ (fun h7 => ⟨Int.le_refl _, fun h8 => hr (i + 1) (i + 1 + 1) h7 h8 (by omega)⟩) (fun h7 => by omega) ?_
      exact (hL.quant _ (List.getElem_mem hn)).1.2
    · have he : L.drop (i + 1) = [] := List.drop_eq_nil_of_le (by omega)
      rw [he]
      refine ⟨h3, fun h => absurd rfl h, fun u hu1 hu2 => val_step hL i hi u (by omega) fun h => absurd h hn, rfl⟩
theorem seg_ix {L : List (Int × Int)} (hL : Ok L) {t : Int} (ht : Q t) : Seg (val L) t (L.drop (ix L t)) := by
  have h := ix_at hL ht.1
  refine seg_of hL (L.length - ix L t) (ix L t) (by have := h.lt; omega) t (fun hi => ⟨h.le, fun h1 => h.up _ h1 (by omega)⟩) (fun e => by have := h.lt; omega) ht.2

/-- What is told of the windows. -/
structure Wins (v : Int → Int) (n f t : Int) (W : List (Int × Int)) : Prop where
  each : ∀ x ∈ W, f ≤ x.1 ∧ x.1 ≤ x.2 ∧ x.2 ≤ 1099511627776 ∧ ∀ u, x.1 ≤ u → u < x.2 → n ≤ v u
  rise : W.Pairwise fun x y => x.2 ≤ y.1
  all : ∀ a b, f ≤ a → a < b → b ≤ 1099511627776 → (∀ u, a ≤ u → u < b → n ≤ v u) → ∃ x ∈ W, x.1 ≤ a ∧ b ≤ x.2
  head : ∃ y R, W = (f, y) :: R ∧ t ≤ y
theorem wgo_is (v : Int → Int) (n : Int) : ∀ (M : List (Int × Int)) (f t : Int), Seg v t M → f ≤ t → t ≤ 1099511627776 → (∀ u, f ≤ u → u < t → n ≤ v u) → Wins v n f t (wgo n M f t) := by
  intro M
  induction M with
  | nil =>
    intro f t hs hft ht hu
    obtain rfl : t = 1099511627776 := hs
    refine ⟨fun x hx => ?_, List.pairwise_singleton _ _, fun a b h1 h2 h3 _ => ⟨(f, 1099511627776), by simp [wgo], h1, h3⟩, ⟨_, [], rfl, Int.le_refl _⟩⟩
    obtain rfl : x = (f, 1099511627776) := by simpa [wgo] using hx
    exact ⟨Int.le_refl _, hft, Int.le_refl _, hu⟩
  | cons p M ih =>
    intro f t hs hft ht hu
    obtain ⟨s1, s2, s3, s4⟩ := hs
    have he : ende M ≤ 1099511627776 := by
      have : ∀ (K : List (Int × Int)) (t : Int), Seg v t K → t ≤ 1099511627776 := by
        intro K
        induction K with
        | nil => intro t h; rw [show t = 1099511627776 from h]; exact Int.le_refl _
        | cons q K ihK => intro t h; exact Int.le_trans h.1 (ihK _ h.2.2.2)
      exact this M _ s4
    unfold wgo
    by_cases hn : n ≤ p.2
    · rw [if_pos hn]
      have h := ih f (ende M) s4 (by omega) he fun u h1 h2 => by
        by_cases h3 : u < t
        · exact hu u h1 h3
        · rw [s3 u (by omega) h2]; exact hn
      obtain ⟨y, R, e, hy⟩ := h.head
      exact ⟨h.each, h.rise, h.all, ⟨y, R, e, by omega⟩⟩
    · rw [if_neg hn]
      have h := ih (ende M) (ende M) s4 (Int.le_refl _) he fun u h1 h2 => by omega
      refine ⟨fun x hx => ?_, List.Pairwise.cons (fun y hy => ?_) h.rise, fun a b h1 h2 h3 h4 => ?_, ⟨t, _, rfl, Int.le_refl _⟩⟩
      · rcases List.mem_cons.1 hx with rfl | hx
        · exact ⟨Int.le_refl _, hft, ht, hu⟩
        · obtain ⟨e1, e2⟩ := h.each x hx
          exact ⟨by omega, e2⟩
      · have := (h.each y hy).1
        show t ≤ y.1
        omega
      · by_cases hbt : b ≤ t
        · exact ⟨(f, t), by simp, h1, hbt⟩
        · have hlt : t < ende M := by
            by_cases hM : M = []
            · subst hM
              show t < 1099511627776
              omega
            · exact s2 hM
          by_cases hae : ende M ≤ a
          · obtain ⟨x, hx, hx2⟩ := h.all a b hae h2 h3 h4
            exact ⟨x, List.mem_cons_of_mem _ hx, hx2⟩
          · exfalso
            have h5 := h4 (max a t) (by omega) (by omega)
            rw [s3 (max a t) (by omega) (by omega)] at h5
            exact hn h5
theorem wins_is {L : List (Int × Int)} (hL : Ok L) {f : Int} (hf : Q f) (n : Int) : Wins (val L) n f f (wins L f n) :=
  wgo_is (val L) n _ f f (seg_ix hL hf) (Int.le_refl _) hf.2 fun u h1 h2 => by omega

/-- The first one of the windows that is so long. -/
def pick (long : Int) (W : List (Int × Int)) : Option Int := (W.find? fun x => decide (long ≤ x.2 - x.1)).map Prod.fst
def fst? (L : List (Int × Int)) (f long n : Int) : Option Int := pick long (wins L f n)

/-- Behind Top. -/
theorem wgo_late (n f : Int) (hf : 1099511627776 < f) {L : List (Int × Int)} (hL : Ok L) : wins L f n = [(f, 1099511627776)] ∨ wins L f n = [(f, f), (1099511627776, 1099511627776)] := by
  have h := ix_at hL (show 0 ≤ f by omega)
  have hlast : ix L f + 1 = L.length := by
    by_cases hlt : ix L f + 1 < L.length
    · have h1 := h.up _ hlt (by omega)
      have h2 := (hL.quant _ (List.getElem_mem hlt)).1.2
      omega
    · have := h.lt; omega
  unfold wins
  rw [List.drop_eq_getElem_cons h.lt, List.drop_eq_nil_of_le (by omega)]
  unfold wgo
  by_cases hn : n ≤ (L[ix L f]'h.lt).2
  · rw [if_pos hn]; exact .inl rfl
  · rw [if_neg hn]; exact .inr rfl
/-- Times that are not too great to be reckoned with. -/
def Tm (x : Int × Int) : Prop := 0 ≤ x.1 ∧ x.1 ≤ 8796093022208 ∧ 0 ≤ x.2 ∧ x.2 ≤ 8796093022208
theorem wins_tm {L : List (Int × Int)} (hL : Ok L) {f : Int} (hf : 0 ≤ f) (hf2 : f ≤ 8796093022208) (n : Int) : ∀ x ∈ wins L f n, Tm x := by
  intro x hx
  by_cases h : f ≤ 1099511627776
  · obtain ⟨e1, e2, e3, _⟩ := (wins_is hL ⟨hf, h⟩ n).each x hx
    exact ⟨by omega, by omega, by omega, by omega⟩
  · rcases wgo_late n f (by omega) hL with e | e <;> rw [e] at hx
    · simp at hx; subst hx; exact ⟨hf, hf2, (by decide : (0 : Int) ≤ 1099511627776), (by decide : (1099511627776 : Int) ≤ 8796093022208)⟩
    · simp at hx
      rcases hx with rfl | rfl
      · exact ⟨hf, hf2, hf, hf2⟩
      · exact ⟨by decide, by decide, by decide, by decide⟩

/-- What the first fit is. -/
structure Fst (L : List (Int × Int)) (f long n a : Int) : Prop where
  ge : f ≤ a
  le : a ≤ max f 1099511627776
  fits : f ≤ 1099511627776 → FitsAt L a long n
  least : ∀ t, f ≤ t → FitsAt L t long n → a ≤ t
theorem fst_some {L : List (Int × Int)} (hL : Ok L) {f long n a : Int} (hf : 0 ≤ f) (hl : 0 ≤ long) (h : fst? L f long n = some a) : Fst L f long n a := by
  by_cases hf2 : f ≤ 1099511627776
  · have hW := wins_is hL ⟨hf, hf2⟩ n
    unfold fst? pick at h
    obtain ⟨x, hx, rfl⟩ := Option.map_eq_some_iff.1 h
    obtain ⟨hp, as, bs, e, hno⟩ := List.find?_eq_some_iff_append.1 hx
    have hp : long ≤ x.2 - x.1 := by simpa using hp
    obtain ⟨e1, e2, e3, e4⟩ := hW.each x (by rw [e]; simp)
    refine ⟨e1, by omega, fun _ => ⟨by omega, fun u h1 h2 => e4 u h1 (by omega)⟩, fun t ht hfit => ?_⟩
    by_cases hl0 : long = 0
    · -- the first one is long enough
      obtain ⟨y, R, e', hy⟩ := hW.head
      rw [e] at e'
      cases as with
      | nil =>
        rw [List.nil_append] at e'
        injection e' with e'' _
        rw [e'']; exact ht
      | cons q as =>
        rw [List.cons_append] at e'
        injection e' with e'' _
        have := hno q (by simp)
        rw [e''] at this
        simp at this
        omega
    · obtain ⟨y, hy, h1, h2⟩ := hW.all t (t + long) ht (by omega) hfit.1 hfit.2
      have hr := hW.rise
      rw [e] at hy hr
      rcases List.mem_append.1 hy with h3 | h3
      · have := hno y h3
        simp at this
        omega
      · rcases List.mem_cons.1 h3 with rfl | h3
        · exact h1
        · have := (List.pairwise_cons.1 (List.pairwise_append.1 hr).2.1).1 y h3
          omega
  · have hf3 : 1099511627776 < f := by omega
    unfold fst? pick at h
    obtain ⟨x, hx, rfl⟩ := Option.map_eq_some_iff.1 h
    have hne : x.1 = f := by
      rcases wgo_late n f hf3 hL with e | e
      · rw [e] at hx
        have hm := List.mem_of_find?_eq_some hx
        simp at hm
        rw [hm]
      · rw [e] at hx
        by_cases hl0 : long = 0
        · subst hl0
          simp at hx
          rw [← hx]
        · rw [List.find?_cons_of_neg (by simp; omega), List.find?_cons_of_neg (by simp; omega)] at hx
          simp at hx
    refine ⟨by omega, by omega, fun h4 => by omega, fun t ht _ => by omega⟩
theorem fst_none {L : List (Int × Int)} (hL : Ok L) {f long n : Int} (hf : 0 ≤ f) (hl : 0 ≤ long) (h : fst? L f long n = none) : ∀ t, f ≤ t → ¬ FitsAt L t long n := by
  intro t ht hfit
  have hf2 : f ≤ 1099511627776 := by have := hfit.1; omega
  have hW := wins_is hL ⟨hf, hf2⟩ n
  unfold fst? pick at h
  have hno := List.find?_eq_none.1 (Option.map_eq_none_iff.1 h)
  by_cases hl0 : long = 0
  · obtain ⟨y, R, e, hy⟩ := hW.head
    have := hno (f, y) (by rw [e]; simp)
    simp at this
    omega
  · obtain ⟨y, hy, h1, h2⟩ := hW.all t (t + long) ht (by omega) hfit.1 hfit.2
    have := hno y hy
    simp at this
    omega

/-! Slots -/
/-- A shape, by its numbers; a room, by its profiles. -/
structure Shp where
  i : Int
  w : Int
  o : Int
  n : Int
  b : Int
  l : Int
structure Shp.Q (x : Shp) : Prop where
  i : sp.Q x.i
  w : sp.Q x.w
  o : sp.Q x.o
  n : sp.Q x.n
  b : sp.Q x.b
  l : sp.Q x.l
structure Rm where
  n : List (Int × Int)
  b : List (Int × Int)
  l : List (Int × Int)
structure Rm.Ok (r : Rm) : Prop where
  n : sp.Ok r.n
  b : sp.Ok r.b
  l : sp.Ok r.l
structure Slt where
  s : Int
  c : Int
  o : Int
/-- It is a slot. -/
structure IsSlot (r : Rm) (x : Shp) (a : Slt) : Prop where
  s0 : Q a.s
  c0 : Q a.c
  o0 : Q a.o
  inn : FitsAt r.l a.s x.i x.l
  c : a.s + x.i ≤ a.c
  work : FitsAt r.n a.c x.w x.n
  o : a.c + x.w ≤ a.o
  out : FitsAt r.l a.o x.o x.l
  held : FitsAt r.b a.s (a.o + x.o - a.s) x.b

/-- The three first fits, one behind the other. -/
def chain (r : Rm) (x : Shp) (next : Int) : Option Slt :=
  (fst? r.l next x.i x.l).bind fun a => (fst? r.n (a + x.i) x.w x.n).bind fun c => (fst? r.l (c + x.w) x.o x.l).map fun o => ⟨a, c, o⟩
/-- Through the windows of the bytes, from a state on. -/
def through (r : Rm) (x : Shp) : List (Int × Int) → Slt → Option Slt
  | [], _ => none
  | y :: W, z => if y.2 < z.o + x.o then through r x W z else
    match chain r x (max y.1 z.s) with
    | none => none
    | some z' => if z'.o + x.o ≤ y.2 then some z' else through r x W z'
def slot? (r : Rm) (x : Shp) (f : Int) : Option Slt := through r x (wins r.b f x.b) ⟨f, f, f⟩

/-- What the chain tells. -/
structure Chain (r : Rm) (x : Shp) (next : Int) (z : Slt) : Prop where
  s : Fst r.l next x.i x.l z.s
  c : Fst r.n (z.s + x.i) x.w x.n z.c
  o : Fst r.l (z.c + x.w) x.o x.l z.o
theorem chain_some {r : Rm} {x : Shp} (hr : r.Ok) (hx : x.Q) {next : Int} (hn : 0 ≤ next) {z : Slt} (h : chain r x next = some z) : Chain r x next z := by
  unfold chain at h
  obtain ⟨a, h1, h⟩ := Option.bind_eq_some_iff.1 h
  obtain ⟨c, h2, h⟩ := Option.bind_eq_some_iff.1 h
  obtain ⟨o, h3, rfl⟩ := Option.map_eq_some_iff.1 h
  have f1 := fst_some hr.l hn hx.i.1 h1
  have g1 := f1.ge
  have g2 := hx.i.1
  have f2 := fst_some hr.n (show 0 ≤ a + x.i by omega) hx.w.1 h2
  have g3 := f2.ge
  have g4 := hx.w.1
  exact ⟨f1, f2, fst_some hr.l (show 0 ≤ c + x.w by omega) hx.o.1 h3⟩
theorem chain_none {r : Rm} {x : Shp} (hr : r.Ok) (hx : x.Q) {next : Int} (hn : 0 ≤ next) (h : chain r x next = none) (a : Slt) (ha : IsSlot r x a) : a.s < next := by
  refine Classical.byContradiction fun hge => ?_
  have hge : next ≤ a.s := by omega
  unfold chain at h
  cases h1 : fst? r.l next x.i x.l with
  | none => exact fst_none hr.l hn hx.i.1 h1 _ hge ha.inn
  | some s =>
    have f1 := fst_some hr.l hn hx.i.1 h1
    have g1 := f1.ge
    have g2 := hx.i.1
    have l1 := f1.least _ hge ha.inn
    have k1 := ha.c
    cases h2 : fst? r.n (s + x.i) x.w x.n with
    | none => exact fst_none hr.n (show 0 ≤ s + x.i by omega) hx.w.1 h2 _ (by omega) ha.work
    | some c =>
      have f2 := fst_some hr.n (show 0 ≤ s + x.i by omega) hx.w.1 h2
      have g3 := f2.ge
      have g4 := hx.w.1
      have l2 := f2.least _ (by omega) ha.work
      have k2 := ha.o
      cases h3 : fst? r.l (c + x.w) x.o x.l with
      | none => exact fst_none hr.l (show 0 ≤ c + x.w by omega) hx.o.1 h3 _ (by omega) ha.out
      | some o => rw [h1, Option.bind_some, h2, Option.bind_some, h3] at h; cases h
theorem Chain.below {r : Rm} {x : Shp} {next : Int} {z : Slt} (h : Chain r x next z) {a : Slt} (ha : IsSlot r x a) (hge : next ≤ a.s) : z.s ≤ a.s ∧ z.c ≤ a.c ∧ z.o ≤ a.o := by
  have l1 := h.s.least _ hge ha.inn
  have k1 := ha.c
  have l2 := h.c.least _ (by omega) ha.work
  have k2 := ha.o
  exact ⟨l1, l2, h.o.least _ (by omega) ha.out⟩
/-- The state's bounds. -/
structure Slt.Bd (z : Slt) : Prop where
  s0 : 0 ≤ z.s
  s1 : z.s ≤ 1099511627776
  c0 : 0 ≤ z.c
  c1 : z.c ≤ 2199023255552
  o0 : 0 ≤ z.o
  o1 : z.o ≤ 3298534883328
theorem Chain.bd {r : Rm} {x : Shp} (hx : x.Q) {next : Int} {z : Slt} (h : Chain r x next z) (hn : Q next) : z.Bd := by
  obtain ⟨n0, n1⟩ := hn
  have a1 := h.s.ge
  have a2 := h.s.le
  have b1 := h.c.ge
  have b2 := h.c.le
  have c1 := h.o.ge
  have c2 := h.o.le
  have i1 := hx.i.1
  have i2 := hx.i.2
  have w1 := hx.w.1
  have w2 := hx.w.2
  refine ⟨?_, ?_, ?_, ?_, ?_, ?_⟩ <;> omega

/-- The first slot. -/
structure First (r : Rm) (x : Shp) (f : Int) (z : Slt) : Prop where
  is : IsSlot r x z
  ge : f ≤ z.s
  least : ∀ a, IsSlot r x a → f ≤ a.s → z.s ≤ a.s ∧ z.c ≤ a.c ∧ z.o ≤ a.o

theorem through_is {r : Rm} {x : Shp} (hr : r.Ok) (hx : x.Q) (f : Int) : ∀ (W : List (Int × Int)) (z : Slt), (∀ y ∈ W, 0 ≤ y.1 ∧ y.1 ≤ y.2 ∧ y.2 ≤ 1099511627776 ∧ ∀ u, y.1 ≤ u → u < y.2 → x.b ≤ val r.b u) → W.Pairwise (fun a b => a.2 ≤ b.1) → z.Bd →
    (∀ y ∈ W, f ≤ y.1) → f ≤ z.s →
    (∀ a, IsSlot r x a → f ≤ a.s → (∃ y ∈ W, y.1 ≤ a.s ∧ a.o + x.o ≤ y.2) ∧ z.s ≤ a.s ∧ z.c ≤ a.c ∧ z.o ≤ a.o) →
    match through r x W z with
    | none => ∀ a, IsSlot r x a → a.s < f
    | some z' => First r x f z' := by
  intro W
  induction W with
  | nil =>
    intro z _ _ _ _ _ h
    show ∀ a, IsSlot r x a → a.s < f
    intro a ha
    refine Classical.byContradiction fun hge => ?_
    obtain ⟨⟨y, hy, _⟩, _⟩ := h a ha (by omega)
    simp at hy
  | cons y W ih =>
    intro z hW hr2 hz hfy hfz h
    obtain ⟨y0, y1, y2, y3⟩ := hW y (by simp)
    have hyW := (List.pairwise_cons.1 hr2).1
    have hWW : ∀ y ∈ W, 0 ≤ y.1 ∧ y.1 ≤ y.2 ∧ y.2 ≤ 1099511627776 ∧ ∀ u, y.1 ≤ u → u < y.2 → x.b ≤ val r.b u := fun q hq => hW q (List.mem_cons_of_mem _ hq)
    have hfW : ∀ y ∈ W, f ≤ y.1 := fun q hq => hfy q (List.mem_cons_of_mem _ hq)
    have hyf := hfy y (by simp)
    unfold through
    by_cases hlt : y.2 < z.o + x.o
    · rw [if_pos hlt]
      refine ih z hWW (List.pairwise_cons.1 hr2).2 hz hfW hfz fun a ha hfa => ?_
      obtain ⟨⟨q, hq, q1, q2⟩, hb⟩ := h a ha hfa
      rcases List.mem_cons.1 hq with rfl | hq
      · omega
      · exact ⟨⟨q, hq, q1, q2⟩, hb⟩
    · rw [if_neg hlt]
      have hnx : Q (max y.1 z.s) := ⟨by have := hz.s0; omega, by have := hz.s1; omega⟩
      -- a slot of this window, or of a later one, begins at its begin, or later
      have hbeg : ∀ a, IsSlot r x a → f ≤ a.s → max y.1 z.s ≤ a.s := fun a ha hfa => by
        obtain ⟨⟨q, hq, q1, q2⟩, hb, _⟩ := h a ha hfa
        rcases List.mem_cons.1 hq with rfl | hq
        · omega
        · have := hyW q hq; omega
      cases hc : chain r x (max y.1 z.s) with
      | none =>
        show ∀ a, IsSlot r x a → a.s < f
        intro a ha
        refine Classical.byContradiction fun hge => ?_
        have h1 := chain_none hr hx hnx.1 hc a ha
        have h2 := hbeg a ha (by omega)
        omega
      | some z' =>
        have hC := chain_some hr hx hnx.1 hc
        have hB := hC.bd hx hnx
        have hs1 := hC.s.ge
        by_cases hin : z'.o + x.o ≤ y.2
        · show match (if z'.o + x.o ≤ y.2 then some z' else through r x W z') with | none => _ | some z' => _
          rw [if_pos hin]
          have c1 := hC.c.ge
          have o1 := hC.o.ge
          have i0 := hx.i.1
          have w0 := hx.w.1
          have p0 := hx.o.1
          refine ⟨⟨⟨by omega, by omega⟩, ⟨by omega, by omega⟩, ⟨by omega, by omega⟩, hC.s.fits hnx.2, c1, hC.c.fits (by omega), o1, hC.o.fits (by omega), ⟨by omega, fun u h1 h2 => y3 u (by omega) (by omega)⟩⟩, by omega, fun a ha hfa => hC.below ha (hbeg a ha hfa)⟩
        · show match (if z'.o + x.o ≤ y.2 then some z' else through r x W z') with | none => _ | some z' => _
          rw [if_neg hin]
          refine ih z' hWW (List.pairwise_cons.1 hr2).2 hB hfW (by omega) fun a ha hfa => ?_
          obtain ⟨⟨q, hq, q1, q2⟩, _⟩ := h a ha hfa
          have hb := hC.below ha (hbeg a ha hfa)
          rcases List.mem_cons.1 hq with rfl | hq
          · omega
          · exact ⟨⟨q, hq, q1, q2⟩, hb⟩

/-- Where nothing takes time, the first slot is at once. -/
theorem fst_now {L : List (Int × Int)} (hL : Ok L) {f n : Int} (hf : Q f) : fst? L f 0 n = some f := by
  have hW := wins_is hL hf n
  obtain ⟨y, R, e, hy⟩ := hW.head
  unfold fst? pick
  rw [e, List.find?_cons_of_pos (by simp; omega)]
  rfl
theorem slot_zero {r : Rm} {x : Shp} (hr : r.Ok) {f : Int} (hf : Q f) (hi : x.i = 0) (hw : x.w = 0) (ho : x.o = 0) : slot? r x f = some ⟨f, f, f⟩ := by
  have hW := wins_is hr.b hf x.b
  obtain ⟨y, R, e, hy⟩ := hW.head
  unfold slot?
  rw [e]
  unfold through
  have hc : chain r x f = some ⟨f, f, f⟩ := by
    unfold chain
    rw [hi, hw, ho, fst_now hr.l hf, Option.bind_some, Int.add_zero, fst_now hr.n hf, Option.bind_some, Int.add_zero, fst_now hr.l hf]
    rfl
  rw [if_neg (by rw [ho]; show ¬ y < f + 0; omega), show max f f = f by omega, hc]
  show (if f + x.o ≤ y then some _ else _) = _
  rw [if_pos (by omega)]
theorem slot_is {r : Rm} {x : Shp} (hr : r.Ok) (hx : x.Q) {f : Int} (hf : Q f) :
    match slot? r x f with
    | none => ∀ a, IsSlot r x a → a.s < f
    | some z => First r x f z := by
  by_cases h0 : x.i = 0 ∧ x.w = 0 ∧ x.o = 0
  · obtain ⟨hi, hw, ho⟩ := h0
    rw [slot_zero hr hf hi hw ho]
    have z0 : ∀ (L : List (Int × Int)) n, FitsAt L f 0 n := fun L n => ⟨by have := hf.2; omega, fun u h1 h2 => by omega⟩
    refine ⟨⟨hf, hf, hf, by rw [hi]; exact z0 _ _, by rw [hi]; show f + 0 ≤ f; omega, by rw [hw]; exact z0 _ _, by rw [hw]; show f + 0 ≤ f; omega, by rw [ho]; exact z0 _ _, ?_⟩, Int.le_refl _, fun a ha hfa => ?_⟩
    · rw [ho, show (Slt.mk f f f).o + 0 - (Slt.mk f f f).s = 0 by show f + 0 - f = 0; omega]; exact z0 _ _
    · have h1 := ha.c
      have h2 := ha.o
      rw [hi] at h1
      rw [hw] at h2
      refine ⟨hfa, ?_, ?_⟩
      · show f ≤ a.c; omega
      · show f ≤ a.o; omega
  · have hW := wins_is hr.b hf x.b
    refine through_is hr hx f _ _ (fun y hy => ?_) hW.rise ⟨hf.1, hf.2, hf.1, by have := hf.2; show f ≤ _; omega, hf.1, by have := hf.2; show f ≤ _; omega⟩ (fun y hy => (hW.each y hy).1) (Int.le_refl _) fun a ha hfa => ?_
    · obtain ⟨e1, e2, e3, e4⟩ := hW.each y hy
      exact ⟨by have := hf.1; omega, e2, e3, e4⟩
    · have h1 := ha.c
      have h2 := ha.o
      have i0 := hx.i.1
      have w0 := hx.w.1
      have p0 := hx.o.1
      have hlen : a.s < a.o + x.o := by
        refine Classical.byContradiction fun hge => h0 ⟨by omega, by omega, by omega⟩
      obtain ⟨y, hy, y1, y2⟩ := hW.all a.s (a.o + x.o) hfa hlen (by have := ha.held.1; omega) fun u u1 u2 => ha.held.2 u u1 (by omega)
      exact ⟨⟨y, hy, y1, y2⟩, hfa, by show f ≤ a.c; omega, by show f ≤ a.o; omega⟩
end Go.Proofs.Ytigomdihkojdmaa.sp
