/- Profiles in plain words: lists of a time and how many there are from then on; what there is at a time, their normal form, what is more or less in a window. -/
namespace Go.Proofs.Ytigomdihkojdmaa.sp

/-- A quantity. -/
def Q (n : Int) : Prop := 0 ≤ n ∧ n ≤ 1099511627776

/-- How many there are at t: d, if no step has begun. -/
def vf : Int → List (Int × Int) → Int → Int
  | d, [], _ => d
  | d, p :: L, t => vf (if p.1 ≤ t then p.2 else d) L t
def val (L : List (Int × Int)) (t : Int) : Int := vf (-1) L t
theorem vf_snoc (L : List (Int × Int)) (p : Int × Int) (t : Int) : ∀ d, vf d (L ++ [p]) t = if p.1 ≤ t then p.2 else vf d L t := by
  induction L with
  | nil => intro d; rfl
  | cons q L ih => intro d; exact ih _
theorem val_snoc (L : List (Int × Int)) (p : Int × Int) (t : Int) : val (L ++ [p]) t = if p.1 ≤ t then p.2 else val L t := vf_snoc L p t _

/-- Times rise. -/
def Rise (L : List (Int × Int)) : Prop := L.Pairwise (fun p q => p.1 < q.1)
theorem Rise.snoc {L : List (Int × Int)} {p : Int × Int} (h : Rise (L ++ [p])) : Rise L ∧ ∀ q ∈ L, q.1 < p.1 := by
  unfold Rise at h ⊢
  rw [List.pairwise_append] at h
  exact ⟨h.1, fun q hq => h.2.2 q hq p (by simp)⟩
theorem Rise.mk {L : List (Int × Int)} {p : Int × Int} (h : Rise L) (h1 : ∀ q ∈ L, q.1 < p.1) : Rise (L ++ [p]) := by
  unfold Rise at h ⊢
  rw [List.pairwise_append]
  exact ⟨h, List.pairwise_singleton _ _, fun q hq r hr => by simp at hr; subst hr; exact h1 q hq⟩

theorem snoc_ind {α : Type} {P : List α → Prop} (h0 : P []) (h1 : ∀ l x, P l → P (l ++ [x])) (l : List α) : P l := by
  have h : ∀ m : List α, P m.reverse := by
    intro m
    induction m with
    | nil => exact h0
    | cons x m ih => rw [List.reverse_cons]; exact h1 _ _ ih
  have := h l.reverse
  rwa [List.reverse_reverse] at this

/-- The last step that has begun says how many there are. -/
theorem vf_at {L : List (Int × Int)} (t d : Int) : Rise L → (∀ p ∈ L, p.1 ≤ t → (∀ q ∈ L, q.1 ≤ t → q.1 ≤ p.1) → vf d L t = p.2) ∧ ((∀ p ∈ L, t < p.1) → vf d L t = d) := by
  refine snoc_ind (P := fun L => Rise L → (∀ p ∈ L, p.1 ≤ t → (∀ q ∈ L, q.1 ≤ t → q.1 ≤ p.1) → vf d L t = p.2) ∧ ((∀ p ∈ L, t < p.1) → vf d L t = d)) ?_ ?_ L
  · intro _
    exact ⟨fun p hp => by simp at hp, fun _ => rfl⟩
  · intro L x ih hr
    obtain ⟨h1, h2⟩ := hr.snoc
    obtain ⟨i1, i2⟩ := ih h1
    refine ⟨fun p hp hpt hmax => ?_, fun hall => ?_⟩
    · rw [vf_snoc]
      by_cases hx : x.1 ≤ t
      · rw [if_pos hx]
        rcases List.mem_append.1 hp with h | h
        · have := h2 p h
          have := hmax x (by simp) hx
          omega
        · simp at h; subst h; rfl
      · rw [if_neg hx]
        rcases List.mem_append.1 hp with h | h
        · exact i1 p h hpt fun q hq => hmax q (List.mem_append_left _ hq)
        · simp at h; subst h; exact absurd hpt hx
    · rw [vf_snoc, if_neg (by have := hall x (by simp); omega)]
      exact i2 fun p hp => hall p (List.mem_append_left _ hp)
theorem val_at {L : List (Int × Int)} {t : Int} {p : Int × Int} (hr : Rise L) (hp : p ∈ L) (hpt : p.1 ≤ t) (hmax : ∀ q ∈ L, q.1 ≤ t → q.1 ≤ p.1) : val L t = p.2 := (vf_at t (-1) hr).1 p hp hpt hmax
/-- There is a last step that has begun. -/
theorem last_begun {L : List (Int × Int)} (t : Int) : Rise L → (∃ p ∈ L, p.1 ≤ t) → ∃ p ∈ L, p.1 ≤ t ∧ ∀ q ∈ L, q.1 ≤ t → q.1 ≤ p.1 := by
  refine snoc_ind (P := fun L => Rise L → (∃ p ∈ L, p.1 ≤ t) → ∃ p ∈ L, p.1 ≤ t ∧ ∀ q ∈ L, q.1 ≤ t → q.1 ≤ p.1) ?_ ?_ L
  · rintro _ ⟨p, hp, _⟩; simp at hp
  · rintro L x ih hr ⟨p, hp, hpt⟩
    obtain ⟨h1, h2⟩ := hr.snoc
    by_cases hx : x.1 ≤ t
    · refine ⟨x, by simp, hx, fun q hq _ => ?_⟩
      rcases List.mem_append.1 hq with h | h
      · have := h2 q h; omega
      · simp at h; subst h; exact Int.le_refl _
    · have hpL : p ∈ L := by
        rcases List.mem_append.1 hp with h | h
        · exact h
        · simp at h; subst h; exact absurd hpt hx
      obtain ⟨q, hq, hqt, hmax⟩ := ih h1 ⟨p, hpL, hpt⟩
      refine ⟨q, List.mem_append_left _ hq, hqt, fun r hr' hrt => ?_⟩
      rcases List.mem_append.1 hr' with h | h
      · exact hmax r h hrt
      · simp at h; subst h; exact absurd hrt hx
theorem rise_eq {L : List (Int × Int)} {p q : Int × Int} (hr : Rise L) (hp : p ∈ L) (hq : q ∈ L) (h : p.1 = q.1) : p.2 = q.2 := by
  have h1 := val_at (t := p.1) hr hp (Int.le_refl _) fun r _ h => h
  have h2 := val_at (t := p.1) hr hq (by omega) fun r _ h' => by omega
  omega

/-- A profile that may be. -/
structure Ok (L : List (Int × Int)) : Prop where
  le : L.length ≤ 2000
  rise : Rise L
  zero : ∃ n, (0, n) ∈ L
  quant : ∀ p ∈ L, Q p.1 ∧ Q p.2

theorem Ok.begun {L : List (Int × Int)} (h : Ok L) {t : Int} (ht : 0 ≤ t) : ∃ p ∈ L, p.1 ≤ t ∧ val L t = p.2 ∧ ∀ q ∈ L, q.1 ≤ t → q.1 ≤ p.1 := by
  obtain ⟨n, hn⟩ := h.zero
  obtain ⟨p, hp, hpt, hmax⟩ := last_begun t h.rise ⟨_, hn, ht⟩
  exact ⟨p, hp, hpt, val_at h.rise hp hpt hmax, hmax⟩
theorem Ok.val {L : List (Int × Int)} (h : Ok L) {t : Int} (ht : 0 ≤ t) : Q (val L t) := by
  obtain ⟨p, hp, _, e, _⟩ := h.begun ht
  rw [e]; exact (h.quant p hp).2

/-- So many more in a window. -/
def more (L : List (Int × Int)) (a b n t : Int) : Int := val L t + if a ≤ t ∧ t < b then n else 0

/-- A row of times between which nothing changes. -/
structure Marks (L : List (Int × Int)) (a b : Int) (ts : List Int) : Prop where
  rise : ts.Pairwise (· < ·)
  quant : ∀ t ∈ ts, Q t
  all : ∀ p ∈ L, p.1 ∈ ts
  from_ : a ∈ ts
  to_ : b ∈ ts
/-- What there is at each time of a row. -/
def pic (ts : List Int) (f : Int → Int) : List (Int × Int) := ts.map fun t => (t, f t)
theorem pic_rise {ts : List Int} (f : Int → Int) (h : ts.Pairwise (· < ·)) : Rise (pic ts f) := by
  unfold Rise pic
  rw [List.pairwise_map]
  exact h
theorem mem_pic {ts : List Int} {f : Int → Int} {p : Int × Int} : p ∈ pic ts f ↔ p.1 ∈ ts ∧ p.2 = f p.1 := by
  unfold pic
  rw [List.mem_map]
  constructor
  · rintro ⟨t, ht, rfl⟩; exact ⟨ht, rfl⟩
  · rintro ⟨ht, e⟩; exact ⟨p.1, ht, by rw [← e]⟩
/-- The last mark that is not behind t, at which there is what there is at t. -/
theorem Marks.last {L : List (Int × Int)} {a b : Int} {ts : List Int} (h : Marks L a b ts) (hL : Ok L) {t : Int} (ht : 0 ≤ t) :
    ∃ u ∈ ts, u ≤ t ∧ (∀ v ∈ ts, v ≤ t → v ≤ u) ∧ val L u = val L t ∧ (a ≤ u ↔ a ≤ t) ∧ (b ≤ u ↔ b ≤ t) := by
  obtain ⟨n, hn⟩ := hL.zero
  obtain ⟨p, hp, hpt, hmax⟩ := last_begun t (pic_rise (fun _ => 0) h.rise) ⟨((0 : Int), 0), mem_pic.2 ⟨h.all (0, n) hn, rfl⟩, ht⟩
  have hm : ∀ v ∈ ts, v ≤ t → v ≤ p.1 := fun v hv hvt => hmax (v, 0) (mem_pic.2 ⟨hv, rfl⟩) hvt
  have hpts := (mem_pic.1 hp).1
  have hp0 : 0 ≤ p.1 := (h.quant _ hpts).1
  obtain ⟨q, hq, hqt, e1, hq2⟩ := hL.begun ht
  obtain ⟨r, hr, hrt, e2, hr2⟩ := hL.begun hp0
  have hqp : q.1 ≤ p.1 := hm _ (h.all _ hq) hqt
  have h1 := hr2 q hq hqp
  have h2 := hq2 r hr (by omega)
  refine ⟨p.1, hpts, hpt, hm, ?_, ⟨fun _ => by omega, fun h' => hm _ h.from_ h'⟩, ⟨fun _ => by omega, fun h' => hm _ h.to_ h'⟩⟩
  rw [e1, e2]
  exact rise_eq hL.rise hr hq (by omega)
theorem Marks.val {L : List (Int × Int)} {a b : Int} {ts : List Int} (h : Marks L a b ts) (hL : Ok L) (n : Int) {t : Int} (ht : 0 ≤ t) : val (pic ts (more L a b n)) t = more L a b n t := by
  obtain ⟨u, hu, hut, hm, e, ea, eb⟩ := h.last hL ht
  rw [val_at (p := (u, more L a b n u)) (pic_rise _ h.rise) (mem_pic.2 ⟨hu, rfl⟩) hut fun q hq hqt => hm _ (mem_pic.1 hq).1 hqt]
  show more L a b n u = _
  unfold more
  rw [e]
  congr 1
  have e3 : (a ≤ u ∧ u < b) ↔ (a ≤ t ∧ t < b) := by omega
  by_cases h4 : a ≤ t ∧ t < b
  · rw [if_pos h4, if_pos (e3.2 h4)]
  · rw [if_neg h4, if_neg fun h5 => h4 (e3.1 h5)]

/-! Normal rows -/
/-- Times rise, and no two numbers that stand side by side are the same; the first one is not d. -/
def Norm : Int → List (Int × Int) → Prop
  | _, [] => True
  | d, p :: L => p.2 ≠ d ∧ (∀ q ∈ L, p.1 < q.1) ∧ Norm p.2 L
/-- The last number. -/
def lastv : Int → List (Int × Int) → Int
  | d, [] => d
  | _, p :: L => lastv p.2 L
theorem lastv_snoc (L : List (Int × Int)) (p : Int × Int) : ∀ d, lastv d (L ++ [p]) = p.2 := by
  induction L with
  | nil => intro d; rfl
  | cons q L ih => intro d; exact ih _
theorem norm_snoc (L : List (Int × Int)) (p : Int × Int) : ∀ d, Norm d L → (∀ q ∈ L, q.1 < p.1) → p.2 ≠ lastv d L → Norm d (L ++ [p]) := by
  induction L with
  | nil => intro d _ _ h; exact ⟨h, by simp, trivial⟩
  | cons q L ih =>
    intro d h hq hp
    refine ⟨h.1, fun r hr => ?_, ih _ h.2.2 (fun r hr => hq r (List.mem_cons_of_mem _ hr)) hp⟩
    rcases List.mem_append.1 hr with h' | h'
    · exact h.2.1 r h'
    · simp at h'; subst h'; exact hq q (by simp)
theorem norm_rise (L : List (Int × Int)) : ∀ d, Norm d L → Rise L := by
  induction L with
  | nil => intro d _; exact List.Pairwise.nil
  | cons p L ih => intro d h; exact List.Pairwise.cons h.2.1 (ih _ h.2.2)
/-- A normal row is told by what there is at each time. -/
theorem norm_uniq : ∀ (L M : List (Int × Int)) (d : Int), Norm d L → Norm d M → (∀ p ∈ L, Q p.1) → (∀ p ∈ M, Q p.1) → (∀ t, Q t → vf d L t = vf d M t) → L = M := by
  intro L
  induction L with
  | nil =>
    intro M d _ hM _ hq h
    cases M with
    | nil => rfl
    | cons p M =>
      have h1 := h p.1 (hq p (by simp))
      have h2 := (vf_at (L := p :: M) p.1 d (norm_rise _ _ hM)).1 p (by simp) (Int.le_refl _) fun q hq _ => by
        rcases List.mem_cons.1 hq with rfl | h'
        · exact Int.le_refl _
        · omega
      rw [h2] at h1
      exact absurd h1.symm hM.1
  | cons p L ih =>
    intro M d hL hM hpL hpM h
    have vp : vf d (p :: L) p.1 = p.2 := (vf_at (L := p :: L) p.1 d (norm_rise _ _ hL)).1 p (by simp) (Int.le_refl _) fun q hq hq' => hq'
    cases M with
    | nil =>
      have h1 := h p.1 (hpL p (by simp))
      rw [vp] at h1
      exact absurd h1 hL.1
    | cons q M =>
      have vq : vf d (q :: M) q.1 = q.2 := (vf_at (L := q :: M) q.1 d (norm_rise _ _ hM)).1 q (by simp) (Int.le_refl _) fun r hr hr' => hr'
      have e1 : p.1 = q.1 := by
        by_cases hlt : p.1 < q.1
        · have h1 := h p.1 (hpL p (by simp))
          rw [vp, (vf_at (L := q :: M) p.1 d (norm_rise _ _ hM)).2 fun r hr => by
            rcases List.mem_cons.1 hr with rfl | h'
            · exact hlt
            · have := hM.2.1 r h'; omega] at h1
          exact absurd h1 hL.1
        · by_cases hgt : q.1 < p.1
          · have h1 := h q.1 (hpM q (by simp))
            rw [vq, (vf_at (L := p :: L) q.1 d (norm_rise _ _ hL)).2 fun r hr => by
              rcases List.mem_cons.1 hr with rfl | h'
              · exact hgt
              · have := hL.2.1 r h'; omega] at h1
            exact absurd h1.symm hM.1
          · omega
      have e2 : p.2 = q.2 := by
        have h1 := h p.1 (hpL p (by simp))
        rw [vp, e1, vq] at h1
        exact h1
      obtain rfl : p = q := Prod.ext e1 e2
      congr 1
      refine ih M p.2 hL.2.2 hM.2.2 (fun r hr => hpL r (List.mem_cons_of_mem _ hr)) (fun r hr => hpM r (List.mem_cons_of_mem _ hr)) fun t ht => ?_
      by_cases hle : p.1 ≤ t
      · have h1 := h t ht
        simpa [vf, hle] using h1
      · rw [(vf_at (L := L) t p.2 (norm_rise _ _ hL.2.2)).2 fun r hr => by have := hL.2.1 r hr; omega,
          (vf_at (L := M) t p.2 (norm_rise _ _ hM.2.2)).2 fun r hr => by have := hM.2.1 r hr; omega]

/-- A step more, if its number is another one. -/
def join (M : List (Int × Int)) (p : Int × Int) : List (Int × Int) := if lastv (-1) M = p.2 then M else M ++ [p]
def joins (L : List (Int × Int)) : List (Int × Int) := L.foldl join []
theorem joins_snoc (L : List (Int × Int)) (p : Int × Int) : joins (L ++ [p]) = join (joins L) p := by unfold joins; rw [List.foldl_append]; rfl
theorem joins_sub {L : List (Int × Int)} : (∀ p ∈ joins L, p ∈ L) ∧ (joins L).length ≤ L.length := by
  refine snoc_ind (P := fun L => (∀ p ∈ joins L, p ∈ L) ∧ (joins L).length ≤ L.length) ?_ ?_ L
  · exact ⟨fun p hp => hp, Nat.le_refl _⟩
  · intro L x ih
    rw [joins_snoc]
    unfold join
    split
    · exact ⟨fun p hp => List.mem_append_left _ (ih.1 p hp), by simp; omega⟩
    · refine ⟨fun p hp => ?_, by simp; exact ih.2⟩
      rcases List.mem_append.1 hp with h | h
      · exact List.mem_append_left _ (ih.1 p h)
      · exact List.mem_append_right _ h
theorem joins_norm {L : List (Int × Int)} : Rise L → Norm (-1) (joins L) ∧ ∀ t, val (joins L) t = val L t := by
  refine snoc_ind (P := fun L => Rise L → Norm (-1) (joins L) ∧ ∀ t, val (joins L) t = val L t) ?_ ?_ L
  · intro _; exact ⟨trivial, fun _ => rfl⟩
  · intro L x ih hr
    obtain ⟨h1, h2⟩ := hr.snoc
    obtain ⟨i1, i2⟩ := ih h1
    have hlt : ∀ q ∈ joins L, q.1 < x.1 := fun q hq => h2 q (joins_sub.1 q hq)
    rw [joins_snoc]
    by_cases he : lastv (-1) (joins L) = x.2
    · have e : join (joins L) x = joins L := if_pos he
      rw [e]
      refine ⟨i1, fun t => ?_⟩
      rw [val_snoc]
      by_cases hx : x.1 ≤ t
      · rw [if_pos hx]
        -- all of it has begun: the last number
        have : ∀ M : List (Int × Int), (∀ q ∈ M, q.1 ≤ t) → ∀ d, vf d M t = lastv d M := by
          intro M
          induction M with
          | nil => intro _ d; rfl
          | cons q M ihM =>
            intro hq d
            show vf (if q.1 ≤ t then q.2 else d) M t = lastv q.2 M
            rw [if_pos (hq q (by simp))]
            exact ihM (fun r hr => hq r (List.mem_cons_of_mem _ hr)) _
        rw [← he]
        exact this _ (fun q hq => by have := hlt q hq; omega) _
      · rw [if_neg hx]; exact i2 t
    · have e : join (joins L) x = joins L ++ [x] := if_neg he
      rw [e]
      refine ⟨norm_snoc _ _ _ i1 hlt fun h => he h.symm, fun t => ?_⟩
      rw [val_snoc, val_snoc, i2]

/-- M is what a window's turn leaves: normal, with so many more in the window. -/
structure Turned (L : List (Int × Int)) (a b n : Int) (M : List (Int × Int)) : Prop where
  norm : Norm (-1) M
  quant : ∀ p ∈ M, Q p.1 ∧ Q p.2
  zero : ∃ x, (0, x) ∈ M
  val : ∀ t, 0 ≤ t → val M t = more L a b n t
  len : M.length ≤ L.length + 2
theorem Turned.uniq {L : List (Int × Int)} {a b n : Int} {M M' : List (Int × Int)} (h : Turned L a b n M) (h' : Turned L a b n M') : M = M' :=
  norm_uniq M M' (-1) h.norm h'.norm (fun p hp => (h.quant p hp).1) (fun p hp => (h'.quant p hp).1) fun t ht => (h.val t ht.1).trans (h'.val t ht.1).symm
theorem Turned.ok {L : List (Int × Int)} {a b n : Int} {M : List (Int × Int)} (h : Turned L a b n M) (hl : M.length ≤ 2000) : Ok M := ⟨hl, norm_rise _ _ h.norm, h.zero, h.quant⟩
/-- There are too few, or too many. -/
def Bad (L : List (Int × Int)) (a b n : Int) : Prop := ∃ t, Q t ∧ ¬ Q (more L a b n t)
theorem Turned.good {L : List (Int × Int)} {a b n : Int} {M : List (Int × Int)} (h : Turned L a b n M) : ¬ Bad L a b n := by
  rintro ⟨t, ht, hq⟩
  rw [← h.val t ht.1] at hq
  obtain ⟨x, hx⟩ := h.zero
  obtain ⟨p, hp, hpt, hmax⟩ := last_begun t (norm_rise _ _ h.norm) ⟨_, hx, ht.1⟩
  rw [val_at (norm_rise _ _ h.norm) hp hpt hmax] at hq
  exact hq (h.quant p hp).2
/-- What is joined over marks is what the turn leaves. -/
theorem Marks.turned {L : List (Int × Int)} {a b : Int} {ts : List Int} (h : Marks L a b ts) (hL : Ok L) (n : Int) (hlen : ts.length ≤ L.length + 2) (hq : ∀ t ∈ ts, Q (more L a b n t)) : Turned L a b n (joins (pic ts (more L a b n))) := by
  have hn := joins_norm (pic_rise (more L a b n) h.rise)
  have hs := joins_sub (L := pic ts (more L a b n))
  obtain ⟨x, hx⟩ := hL.zero
  have hrise := norm_rise _ _ hn.1
  refine ⟨hn.1, fun p hp => ?_, ?_, fun t ht => (hn.2 t).trans (h.val hL n ht), ?_⟩
  · have := mem_pic.1 (hs.1 p hp)
    exact ⟨h.quant _ this.1, by rw [this.2]; exact hq _ this.1⟩
  · -- at 0 something has begun
    have h0 := h.all _ hx
    have hv : sp.val (joins (pic ts (more L a b n))) 0 = more L a b n 0 := (hn.2 0).trans (h.val hL n (Int.le_refl _))
    have hne : more L a b n 0 ≠ -1 := by have := (hq _ h0).1; show more L a b n 0 ≠ -1; simp at this; omega
    have : ∃ p ∈ joins (pic ts (more L a b n)), p.1 ≤ 0 := by
      refine Classical.byContradiction fun hno => hne ?_
      rw [← hv]
      exact (vf_at 0 (-1) hrise).2 fun p hp => by
        have h' : ¬ p.1 ≤ 0 := fun hle => hno ⟨p, hp, hle⟩
        omega
    obtain ⟨p, hp, hp0⟩ := this
    have hp1 := (h.quant _ (mem_pic.1 (hs.1 p hp)).1).1
    exact ⟨p.2, by rw [show (0 : Int) = p.1 by omega]; exact hp⟩
  · have h1 := hs.2
    unfold pic at h1 ⊢
    rw [List.length_map] at h1
    omega
theorem Marks.bad {L : List (Int × Int)} {a b : Int} {ts : List Int} (h : Marks L a b ts) {n t : Int} (ht : t ∈ ts) (hq : ¬ Q (more L a b n t)) : Bad L a b n := ⟨t, h.quant t ht, hq⟩

/-- What Take and Give tell: 0 and a profile, or 6 and none. -/
def Res (L : List (Int × Int)) (a b n : Int) (c : Int) (M : List (Int × Int)) : Prop :=
  (c = 0 ∧ Turned L a b n M ∧ M.length ≤ 2000) ∨ (c = 6 ∧ M = [] ∧ (Bad L a b n ∨ ∃ M', Turned L a b n M' ∧ 2000 < M'.length))
theorem Res.uniq {L : List (Int × Int)} {a b n c c' : Int} {M M' : List (Int × Int)} (h : Res L a b n c M) (h' : Res L a b n c' M') : c = c' ∧ M = M' := by
  rcases h with ⟨rfl, h1, h2⟩ | ⟨rfl, rfl, h1⟩ <;> rcases h' with ⟨rfl, h1', h2'⟩ | ⟨rfl, rfl, h1'⟩
  · exact ⟨rfl, h1.uniq h1'⟩
  · rcases h1' with hb | ⟨N, hN, hl⟩
    · exact absurd hb h1.good
    · rw [h1.uniq hN] at h2; omega
  · rcases h1 with hb | ⟨N, hN, hl⟩
    · exact absurd hb h1'.good
    · rw [h1'.uniq hN] at h2'; omega
  · exact ⟨rfl, rfl⟩
theorem Res.small {L : List (Int × Int)} {a b n c : Int} {M : List (Int × Int)} (h : Res L a b n c M) (hl : L.length ≤ 1998) : (c = 0 ∧ Turned L a b n M ∧ Ok M ∧ M.length ≤ L.length + 2) ∨ (c = 6 ∧ M = [] ∧ Bad L a b n) := by
  rcases h with ⟨rfl, h1, h2⟩ | ⟨rfl, rfl, h1⟩
  · exact .inl ⟨rfl, h1, h1.ok h2, h1.len⟩
  · rcases h1 with hb | ⟨N, hN, hl'⟩
    · exact .inr ⟨rfl, rfl, hb⟩
    · have := hN.len; omega
theorem Res.good {L : List (Int × Int)} {a b n c : Int} {M : List (Int × Int)} (h : Res L a b n c M) (hl : L.length ≤ 1998) (hg : ∀ t, Q t → Q (more L a b n t)) : c = 0 ∧ Turned L a b n M ∧ Ok M ∧ M.length ≤ L.length + 2 := by
  rcases h.small hl with h | ⟨_, _, t, ht, hb⟩
  · exact h
  · exact absurd (hg t ht) hb

/-- The least number in a window. -/
structure Least (L : List (Int × Int)) (a b m : Int) : Prop where
  low : ∀ t, a ≤ t → t < b → m ≤ val L t
  is : m = 1099511627776 ∨ ∃ t, a ≤ t ∧ t < b ∧ m = val L t
  top : m ≤ 1099511627776
theorem Least.uniq {L : List (Int × Int)} {a b m m' : Int} (h : Least L a b m) (h' : Least L a b m') : m = m' := by
  have h1 := h.top
  have h2 := h'.top
  have l1 : m ≤ m' := by
    rcases h'.is with e | ⟨t, h3, h4, e⟩
    · omega
    · rw [e]; exact h.low t h3 h4
  have l2 : m' ≤ m := by
    rcases h.is with e | ⟨t, h3, h4, e⟩
    · omega
    · rw [e]; exact h'.low t h3 h4
  omega
theorem Least.one {L : List (Int × Int)} {t m : Int} (hL : Ok L) (ht : 0 ≤ t) (h : Least L t (t + 1) m) : m = val L t := by
  have h1 := h.low t (Int.le_refl _) (by omega)
  have h2 := (hL.val ht).2
  rcases h.is with e | ⟨u, h3, h4, e⟩
  · omega
  · rw [e, show u = t by omega]

/-- Two profiles tell the same at all times just if their normal forms are one. -/
theorem same_iff {L L' M M' : List (Int × Int)} (h : Turned L 0 0 0 M) (h' : Turned L' 0 0 0 M') : M = M' ↔ ∀ t, Q t → val L t = val L' t := by
  have e : ∀ K t, more K 0 0 0 t = val K t := fun K t => by unfold more; split <;> omega
  constructor
  · intro hM t ht
    have h1 := h.val t ht.1
    have h2 := h'.val t ht.1
    rw [e] at h1 h2
    rw [← h1, ← h2, hM]
  · intro hv
    refine norm_uniq M M' (-1) h.norm h'.norm (fun p hp => (h.quant p hp).1) (fun p hp => (h'.quant p hp).1) fun t ht => ?_
    have h1 := h.val t ht.1
    have h2 := h'.val t ht.1
    rw [e] at h1 h2
    show val M t = val M' t
    rw [h1, h2]
    exact hv t ht
end Go.Proofs.Ytigomdihkojdmaa.sp
