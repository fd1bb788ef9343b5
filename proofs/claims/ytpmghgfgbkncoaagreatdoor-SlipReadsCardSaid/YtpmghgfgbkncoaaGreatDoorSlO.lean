/- Slips, plain: the lines behind the first one; the whole text is read again; lines between, and another order, change nothing. (Written ahead of the code.) -/
import Derived.Test.YtpmghgfgbkncoaaGreatDoorSlN
set_option linter.unusedVariables false
namespace Go.Proofs.YtpmghgfgbkncoaaGreatDoor.sp
open Go.Proofs.YtpmghgfgbkncoaaGreatDoor.un
open Go.Proofs.YtpmghgfgbkncoaaGreatDoor.di

/-- No kind that is allowed once comes again. -/
def Once : List Nat → List Dir → Prop
  | _, [] => True
  | s, d :: r => ¬ (d.kind ≤ 3 ∧ d.kind ∈ s) ∧ Once (d.kind :: s) r
/-- The directives of some lines. -/
def dirLines (L : List Tx) : List Dir := L.filterMap fun l => if isD l = true then some (ldir l) else none
theorem dirLines_yes {l : Tx} (h : isD l = true) (r : List Tx) : dirLines (l :: r) = ldir l :: dirLines r := by
  unfold dirLines
  rw [List.filterMap_cons, if_pos h]
theorem dirLines_no {l : Tx} (h : ¬ isD l = true) (r : List Tx) : dirLines (l :: r) = dirLines r := by
  unfold dirLines
  rw [List.filterMap_cons, if_neg h]
theorem dirLines_app (A B : List Tx) : dirLines (A ++ B) = dirLines A ++ dirLines B := List.filterMap_append
theorem lrun_lines : ∀ (L : List Tx) (x : Slip) (s : List Nat) (i : Nat), (∀ l ∈ L, isD l = true → lerr l = 0) → Once s (dirLines L) → ∃ s', lrun (x, s) i L = .ok ((dirLines L).foldl put x, s')
  | [], x, s, i, _, _ => ⟨s, rfl⟩
  | l :: r, x, s, i, he, ho => by
    unfold lrun
    by_cases hd : isD l = true
    · rw [dirLines_yes hd] at ho ⊢
      rw [if_pos hd, if_neg (by rw [he l (by simp) hd]; simp), if_neg ho.1]
      exact lrun_lines r _ _ _ (fun y hy => he y (by simp [hy])) ho.2
    · rw [dirLines_no hd] at ho ⊢
      rw [if_neg hd]
      exact lrun_lines r x s _ (fun y hy => he y (by simp [hy])) ho
theorem dtx_line {d : Dir} (h : chk d = true) : isD (dtx d) = true ∧ lerr (dtx d) = 0 ∧ ldir (dtx d) = d := by
  have hl : (dtx d).length ≤ 306 := (made_text h).len
  have hr := text_read h
  refine ⟨?_, ?_, ?_⟩
  · unfold isD dtx lineOf
    rw [joinW_cons _ (by simp)]
    simp [bbW, List.isPrefixOf]
  · unfold lerr
    rw [if_neg (by omega), hr]
    rfl
  · unfold ldir
    rw [if_neg (by omega), hr]
    rfl
theorem dirLines_dtx : ∀ L : List Dir, (∀ d ∈ L, chk d = true) → dirLines (L.map dtx) = L
  | [], _ => rfl
  | d :: r, h => by
    have hd := dtx_line (h d (by simp))
    rw [List.map_cons, dirLines_yes hd.1, hd.2.2, dirLines_dtx r fun e he => h e (by simp [he])]
theorem put_comm (x : Slip) (d e : Dir) (h : d.kind ≠ e.kind) : put (put x d) e = put (put x e) d := by
  have hd : d.kind = 1 ∨ d.kind = 2 ∨ d.kind = 3 ∨ d.kind = 4 ∨ d.kind = 5 ∨ d.kind = 6 ∨ (d.kind ≠ 1 ∧ d.kind ≠ 2 ∧ d.kind ≠ 3 ∧ d.kind ≠ 4 ∧ d.kind ≠ 5 ∧ d.kind ≠ 6) := by omega
  have he : e.kind = 1 ∨ e.kind = 2 ∨ e.kind = 3 ∨ e.kind = 4 ∨ e.kind = 5 ∨ e.kind = 6 ∨ (e.kind ≠ 1 ∧ e.kind ≠ 2 ∧ e.kind ≠ 3 ∧ e.kind ≠ 4 ∧ e.kind ≠ 5 ∧ e.kind ≠ 6) := by omega
  rcases hd with h1 | h1 | h1 | h1 | h1 | h1 | h1 <;> rcases he with h2 | h2 | h2 | h2 | h2 | h2 | h2 <;> first | (exfalso; omega) | simp [put, h1, h2]
theorem put_make : ∀ (L : List Dir) (x : Slip), (∀ d ∈ L, d.kind = 4) → L.foldl put x = { x with make := x.make ++ L }
  | [], x, _ => by simp
  | d :: r, x, h => by
    have hd := h d (by simp)
    rw [List.foldl_cons, put_make r _ fun e he => h e (by simp [he])]
    simp [put, hd]
theorem put_drop : ∀ (L : List Tx) (x : Slip), (L.map fun n => (⟨5, n, [], 0, false⟩ : Dir)).foldl put x = { x with drop := x.drop ++ L }
  | [], x => by simp
  | d :: r, x => by
    rw [List.map_cons, List.foldl_cons, put_drop r]
    simp [put]
theorem put_use : ∀ (L : List Tx) (x : Slip), (L.map fun n => (⟨6, n, [], 0, false⟩ : Dir)).foldl put x = { x with use := x.use ++ L }
  | [], x => by simp
  | d :: r, x => by
    rw [List.map_cons, List.foldl_cons, put_use r]
    simp [put]
theorem fold_dirs {x : Slip} (h : Ok x) : (dirsS x).foldl put (head1 x) = x := by
  have hm : ∀ d ∈ x.make, d.kind = 4 := fun d hd => (h.make d hd).1
  have hp0 := h.pool0
  have hc := h.cap
  have hi := h.inn
  have ho := h.out
  unfold dirsS
  rw [List.foldl_append, List.foldl_append, List.foldl_append, List.foldl_append, List.foldl_append, put_make _ _ hm, put_drop, put_use]
  obtain ⟨u, n, w, q, a, c, i, o, p, m, dr, us⟩ := x
  simp only at hc hi ho hp0
  by_cases h1 : 0 < c
  · by_cases h2 : 0 < i
    · by_cases h3 : 0 < o
      · simp [head1, Slip.zero, put, h1, h2, h3]
      · obtain rfl : o = 0 := by omega
        simp [head1, Slip.zero, put, h1, h2]
    · obtain rfl : i = 0 := by omega
      by_cases h3 : 0 < o
      · simp [head1, Slip.zero, put, h1, h3]
      · obtain rfl : o = 0 := by omega
        simp [head1, Slip.zero, put, h1]
  · obtain rfl : c = 0 := by omega
    obtain rfl : i = 0 := by omega
    obtain rfl : o = 0 := by omega
    have := hp0 rfl
    subst this
    simp [head1, Slip.zero]
theorem once_big : ∀ (L : List Dir) (s : List Nat), (∀ d ∈ L, 3 < d.kind) → Once s L
  | [], _, _ => trivial
  | d :: r, s, h => ⟨fun hk => by have := h d (by simp); omega, once_big r _ fun e he => h e (by simp [he])⟩
/-- The kinds are parted: each that is allowed once comes once at most. -/
theorem once_of : ∀ (L : List Dir) (s : List Nat), ((L.filter fun d => decide (d.kind ≤ 3)).map (·.kind)).Nodup → (∀ d ∈ L, d.kind ≤ 3 → d.kind ∉ s) → Once s L
  | [], _, _, _ => trivial
  | d :: r, s, hn, hs => by
    refine ⟨fun hk => hs d (by simp) hk.1 hk.2, once_of r _ ?_ ?_⟩
    · by_cases hd : d.kind ≤ 3
      · rw [List.filter_cons_of_pos (by simpa using hd), List.map_cons, List.nodup_cons] at hn
        exact hn.2
      · rwa [List.filter_cons_of_neg (by simpa using hd)] at hn
    · intro e he hk
      simp only [List.mem_cons, not_or]
      refine ⟨fun hee => ?_, hs e (by simp [he]) hk⟩
      rw [List.filter_cons_of_pos (by simpa using (by omega : d.kind ≤ 3)), List.map_cons, List.nodup_cons] at hn
      exact hn.1 (List.mem_map.2 ⟨e, List.mem_filter.2 ⟨he, by simpa using hk⟩, hee⟩)
theorem dirs_mem {x : Slip} (h : Ok x) {d : Dir} (hd : d ∈ dirsS x) : chk d = true := by
  have hc := h.cap
  have hi := h.inn
  have ho := h.out
  unfold dirsS at hd
  simp only [List.mem_append] at hd
  rcases hd with ((((hd | hd) | hd) | hd) | hd) | hd
  · split at hd
    · rename_i h0
      simp only [List.mem_cons, List.not_mem_nil, or_false] at hd
      subst hd
      rw [chk_iff]
      have := h.pool1 (by omega)
      simp [hasSize, hasName, hasPool, h0, this]
      exact ⟨⟨hc.1, hc.2⟩, by decide⟩
    · simp at hd
  · split at hd
    · rename_i h0
      simp only [List.mem_cons, List.not_mem_nil, or_false] at hd
      subst hd
      rw [chk_iff]
      simp [hasSize, hasName, hasPool, h0]
      exact ⟨⟨hi.1, by omega⟩, by decide⟩
    · simp at hd
  · split at hd
    · rename_i h0
      simp only [List.mem_cons, List.not_mem_nil, or_false] at hd
      subst hd
      rw [chk_iff]
      simp [hasSize, hasName, hasPool, h0]
      exact ⟨⟨ho.1, by omega⟩, by decide⟩
    · simp at hd
  · exact (h.make d hd).2
  · obtain ⟨n, hn, rfl⟩ := List.mem_map.1 hd
    have := h.drop.2.2 n hn
    rw [chk_iff]
    simp [hasSize, hasName, hasPool, this]
    decide
  · obtain ⟨n, hn, rfl⟩ := List.mem_map.1 hd
    have := h.use.2.2 n hn
    rw [chk_iff]
    simp [hasSize, hasName, hasPool, this]
    decide
end Go.Proofs.YtpmghgfgbkncoaaGreatDoor.sp
