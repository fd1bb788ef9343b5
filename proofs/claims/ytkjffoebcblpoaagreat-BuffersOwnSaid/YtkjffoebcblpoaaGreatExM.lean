/- Lists of extents, plain: numbers, apart, normal, what is taken and given back. -/
import Derived.Lib.MinMax
set_option linter.unusedVariables false
namespace Go.Proofs.YtkjffoebcblpoaaGreat.ex

abbrev X := Int × Int
def okx (x : X) : Prop := 0 ≤ x.1 ∧ 0 < x.2 ∧ x.1 + x.2 ≤ 1099511627776
def Dj (x y : X) : Prop := x.1 + x.2 ≤ y.1 ∨ y.1 + y.2 ≤ x.1
def Ok (l : List X) : Prop := ∀ x ∈ l, okx x
def Apart (l : List X) : Prop := l.Pairwise Dj
def Fine (l : List X) : Prop := l.length ≤ 1000 ∧ Ok l ∧ Apart l
instance (x : X) : Decidable (okx x) := by unfold okx; infer_instance
instance (x y : X) : Decidable (Dj x y) := by unfold Dj; infer_instance
instance (l : List X) : Decidable (Ok l) := by unfold Ok; infer_instance
instance (l : List X) : Decidable (Apart l) := by unfold Apart; infer_instance
instance (l : List X) : Decidable (Fine l) := by unfold Fine; infer_instance
def num (n : Int) (l : List X) : Prop := ∃ x ∈ l, x.1 ≤ n ∧ n < x.1 + x.2
def tot : List X → Int
  | [] => 0
  | x :: l => x.2 + tot l
def Up (l : List X) : Prop := l.Pairwise fun x y => x.1 + x.2 ≤ y.1
def Normal (l : List X) : Prop := Ok l ∧ l.Pairwise fun x y => x.1 + x.2 < y.1
def Inc (l : List X) : Prop := l.Pairwise fun x y => x.1 ≤ y.1

theorem num_nil (n : Int) : ¬ num n [] := by rintro ⟨x, h, _⟩; cases h
theorem num_cons (n : Int) (x : X) (l : List X) : num n (x :: l) ↔ (x.1 ≤ n ∧ n < x.1 + x.2) ∨ num n l := by
  unfold num
  constructor
  · rintro ⟨y, hy, h⟩
    rcases List.mem_cons.1 hy with rfl | hy
    · exact .inl h
    · exact .inr ⟨y, hy, h⟩
  · rintro (h | ⟨y, hy, h⟩)
    · exact ⟨x, List.mem_cons_self, h⟩
    · exact ⟨y, List.mem_cons_of_mem _ hy, h⟩
theorem num_append (n : Int) (l k : List X) : num n (l ++ k) ↔ num n l ∨ num n k := by
  induction l with
  | nil => simp [num_nil]
  | cons x l ih => rw [List.cons_append, num_cons, num_cons, ih, or_assoc]
theorem num_perm {l k : List X} (h : l.Perm k) (n : Int) : num n l ↔ num n k := by
  unfold num
  exact ⟨fun ⟨x, hx, h1⟩ => ⟨x, h.mem_iff.1 hx, h1⟩, fun ⟨x, hx, h1⟩ => ⟨x, h.mem_iff.2 hx, h1⟩⟩
theorem tot_append (l k : List X) : tot (l ++ k) = tot l + tot k := by
  induction l with
  | nil => simp [tot]
  | cons x l ih => simp only [List.cons_append, tot, ih]; omega
theorem tot_perm {l k : List X} (h : l.Perm k) : tot l = tot k := by
  induction h with
  | nil => rfl
  | cons x _ ih => simp only [tot, ih]
  | swap x y l => simp only [tot]; omega
  | trans _ _ h1 h2 => exact h1.trans h2
theorem Dj.symm {x y : X} (h : Dj x y) : Dj y x := Or.symm h
theorem apart_perm {l k : List X} (h : l.Perm k) : Apart l ↔ Apart k := h.pairwise_iff fun h => Dj.symm h
theorem ok_perm {l k : List X} (h : l.Perm k) : Ok l ↔ Ok k := ⟨fun a x hx => a x (h.mem_iff.2 hx), fun a x hx => a x (h.mem_iff.1 hx)⟩
theorem ok_append {l k : List X} : Ok (l ++ k) ↔ Ok l ∧ Ok k :=
  ⟨fun h => ⟨fun x hx => h x (List.mem_append_left _ hx), fun x hx => h x (List.mem_append_right _ hx)⟩, fun h x hx => (List.mem_append.1 hx).elim (h.1 x) (h.2 x)⟩
theorem dj_iff {x y : X} (hx : okx x) (hy : okx y) : Dj x y ↔ ∀ n, ¬ ((x.1 ≤ n ∧ n < x.1 + x.2) ∧ (y.1 ≤ n ∧ n < y.1 + y.2)) := by
  unfold okx at hx hy
  unfold Dj
  constructor
  · intro h n; omega
  · intro h
    have h1 := h x.1
    have h2 := h y.1
    omega
theorem apart_append {l k : List X} (hl : Ok l) (hk : Ok k) : Apart (l ++ k) ↔ Apart l ∧ Apart k ∧ ∀ n, ¬ (num n l ∧ num n k) := by
  unfold Apart
  rw [List.pairwise_append]
  refine and_congr_right fun _ => and_congr_right fun _ => ⟨fun h n => ?_, fun h x hx y hy => ?_⟩
  · rintro ⟨⟨x, hx, h1⟩, ⟨y, hy, h2⟩⟩
    exact (dj_iff (hl x hx) (hk y hy)).1 (h x hx y hy) n ⟨h1, h2⟩
  · exact (dj_iff (hl x hx) (hk y hy)).2 fun n hn => h n ⟨⟨x, hx, hn.1⟩, ⟨y, hy, hn.2⟩⟩
theorem Up.apart {l : List X} (h : Up l) : Apart l := List.Pairwise.imp (fun h => .inl h) h
theorem Normal.up {l : List X} (h : Normal l) : Up l := List.Pairwise.imp (fun h => by omega) h.2
theorem Normal.apart {l : List X} (h : Normal l) : Apart l := h.up.apart
theorem tot_pos {l : List X} (h : Ok l) : 0 ≤ tot l ∧ (l ≠ [] → 0 < tot l) := by
  induction l with
  | nil => simp [tot]
  | cons x l ih =>
    have h1 := ih fun y hy => h y (List.mem_cons_of_mem _ hy)
    have h2 := h x List.mem_cons_self
    unfold okx at h2
    simp only [tot]
    exact ⟨by omega, fun _ => by omega⟩
/-- The sum of what is apart is at most what lies between. -/
theorem up_tot {l : List X} (h : Up l) (ho : Ok l) : ∀ a b : Int, a ≤ b → (∀ x ∈ l, a ≤ x.1 ∧ x.1 + x.2 ≤ b) → tot l ≤ b - a := by
  induction l with
  | nil => intro a b hab _; simp only [tot]; omega
  | cons x l ih =>
    intro a b hab hx
    obtain ⟨h1, h2⟩ := List.pairwise_cons.1 h
    have h3 := hx x List.mem_cons_self
    have h4 := ih h2 (fun y hy => ho y (List.mem_cons_of_mem _ hy)) (x.1 + x.2) b h3.2 (fun y hy => ⟨h1 y hy, (hx y (List.mem_cons_of_mem _ hy)).2⟩)
    have h5 := ho x List.mem_cons_self
    unfold okx at h5
    simp only [tot]
    omega
theorem inc_up {l : List X} (h : Inc l) (ho : Ok l) (ha : Apart l) : Up l := by
  unfold Inc at h; unfold Apart at ha; unfold Up
  induction l with
  | nil => exact .nil
  | cons x l ih =>
    obtain ⟨h1, h2⟩ := List.pairwise_cons.1 h
    obtain ⟨h3, h4⟩ := List.pairwise_cons.1 ha
    refine List.pairwise_cons.2 ⟨fun y hy => ?_, ih h2 (fun y hy => ho y (List.mem_cons_of_mem _ hy)) h4⟩
    have e1 := h1 y hy
    have e3 := h3 y hy
    have e5 := ho y (List.mem_cons_of_mem _ hy)
    unfold okx at e5
    unfold Dj at e3
    omega

/-- Apart, as it is looked at. -/
def apL (next : Int) : List X → Bool
  | [] => true
  | x :: l => if x.1 < next then false else apL (x.1 + x.2) l
theorem apL_iff : ∀ (l : List X) (next : Int), Ok l → (apL next l = true ↔ Up l ∧ ∀ x ∈ l, next ≤ x.1)
  | [], next, _ => by simp [apL, Up]
  | x :: l, next, ho => by
    have hl : Ok l := fun y hy => ho y (List.mem_cons_of_mem _ hy)
    have hx := ho x List.mem_cons_self
    have ih := apL_iff l (x.1 + x.2) hl
    unfold okx at hx
    unfold apL
    by_cases h : x.1 < next
    · rw [if_pos h]
      refine ⟨fun e => (by cases e), fun hu => ?_⟩
      have := hu.2 x List.mem_cons_self
      omega
    · rw [if_neg h, ih]
      constructor
      · rintro ⟨h1, h2⟩
        refine ⟨List.pairwise_cons.2 ⟨h2, h1⟩, fun y hy => ?_⟩
        rcases List.mem_cons.1 hy with rfl | hy
        · omega
        · have := h2 y hy; omega
      · rintro ⟨h1, h2⟩
        obtain ⟨h3, h4⟩ := List.pairwise_cons.1 h1
        exact ⟨h4, h3⟩
theorem apL_apart {l s : List X} (hp : s.Perm l) (hs : Inc s) (ho : Ok l) : apL 0 s = decide (Apart l) := by
  have hos := (ok_perm hp).2 ho
  rw [Bool.eq_iff_iff, apL_iff s 0 hos, decide_eq_true_iff, ← apart_perm hp]
  exact ⟨fun h => h.1.apart, fun h => ⟨inc_up hs hos h, fun x hx => (hos x hx).1⟩⟩

/-- What a list, increasing, is joined to. -/
def jn (last : X) : List X → List X
  | [] => if 0 < last.2 then [last] else []
  | x :: l => if x.1 = last.1 + last.2 then jn (last.1, last.2 + x.2) l else (if 0 < last.2 then [last] else []) ++ jn x l

structure JnP (last : X) (s J : List X) : Prop where
  ok : Ok J
  nrm : J.Pairwise fun x y => x.1 + x.2 < y.1
  low : ∀ x ∈ J, last.1 ≤ x.1
  num : ∀ n, num n J ↔ (last.1 ≤ n ∧ n < last.1 + last.2) ∨ num n s
  tot : tot J = last.2 + tot s
  len : J.length ≤ s.length + (if 0 < last.2 then 1 else 0)
theorem jn_p : ∀ (s : List X) (last : X), 0 ≤ last.1 → 0 ≤ last.2 → last.1 + last.2 ≤ 1099511627776 → Up s → Ok s → (∀ x ∈ s, last.1 + last.2 ≤ x.1) → JnP last s (jn last s)
  | [], last, h0, h1, h2, _, _, _ => by
    unfold jn
    by_cases h : 0 < last.2
    · rw [if_pos h]
      exact ⟨fun x hx => by rw [List.mem_singleton.1 hx]; exact ⟨h0, h, h2⟩, by simp, fun x hx => by rw [List.mem_singleton.1 hx]; omega, fun n => by rw [num_cons], by simp only [tot], by simp [h]⟩
    · rw [if_neg h]
      refine ⟨fun x hx => (by cases hx), .nil, fun x hx => (by cases hx), fun n => ⟨.inr, fun hn => ?_⟩, ?_, ?_⟩
      · rcases hn with hn | hn
        · omega
        · exact hn
      · simp only [tot]; omega
      · simp
  | x :: s, last, h0, h1, h2, hu, ho, hl => by
    obtain ⟨hu1, hu2⟩ := List.pairwise_cons.1 hu
    have hos : Ok s := fun y hy => ho y (List.mem_cons_of_mem _ hy)
    have hx := ho x List.mem_cons_self
    have hlx := hl x List.mem_cons_self
    unfold okx at hx
    unfold jn
    by_cases h : x.1 = last.1 + last.2
    · rw [if_pos h]
      have ih := jn_p s (last.1, last.2 + x.2) h0 (by simp only; omega) (by simp only; omega) hu2 hos (fun y hy => by have := hu1 y hy; simp only; omega)
      refine ⟨ih.ok, ih.nrm, ih.low, fun n => ?_, ?_, ?_⟩
      · rw [ih.num, num_cons, ← or_assoc]
        refine or_congr_left ?_
        simp only
        omega
      · rw [ih.tot]; simp only [tot]; omega
      · have := ih.len
        simp only at this
        rw [if_pos (show 0 < last.2 + x.2 by omega)] at this
        simp only [List.length_cons]
        omega
    · rw [if_neg h]
      have ih := jn_p s x hx.1 (by omega) hx.2.2 hu2 hos hu1
      have hlen := ih.len
      rw [if_pos hx.2.1] at hlen
      by_cases hp : 0 < last.2
      · rw [if_pos hp]
        refine ⟨fun y hy => ?_, List.pairwise_cons.2 ⟨fun y hy => ?_, ih.nrm⟩, fun y hy => ?_, fun n => ?_, ?_, ?_⟩
        · rcases List.mem_cons.1 hy with rfl | hy
          · exact ⟨h0, hp, h2⟩
          · exact ih.ok y hy
        · have := ih.low y hy; omega
        · rcases List.mem_cons.1 hy with rfl | hy
          · omega
          · have := ih.low y hy; omega
        · show num n (last :: jn x s) ↔ _
          rw [num_cons, ih.num, num_cons]
        · show last.2 + tot (jn x s) = _
          rw [ih.tot]; simp only [tot]
        · rw [if_pos hp]
          simp only [List.length_append, List.length_cons, List.length_nil]
          omega
      · rw [if_neg hp]
        refine ⟨ih.ok, ih.nrm, fun y hy => by have := ih.low y hy; omega, fun n => ?_, ?_, ?_⟩
        · rw [List.nil_append, ih.num, num_cons]
          constructor
          · exact .inr
          · rintro (hn | hn)
            · omega
            · exact hn
        · rw [List.nil_append, ih.tot]; simp only [tot]; omega
        · rw [if_neg hp, List.nil_append]
          simp only [List.length_cons]
          omega

/-- A list is as another, normal. -/
structure NormOf (l J : List X) : Prop where
  nrm : Normal J
  num : ∀ n, num n J ↔ num n l
  tot : tot J = tot l
  len : J.length ≤ l.length
theorem jn_norm {l s : List X} (hp : s.Perm l) (hs : Inc s) (ho : Ok l) (ha : Apart l) : NormOf l (jn (0, 0) s) := by
  have hos := (ok_perm hp).2 ho
  have has := (apart_perm hp).2 ha
  have h := jn_p s (0, 0) (by simp) (by simp) (by simp) (inc_up hs hos has) hos (fun x hx => by have := (hos x hx).1; simp only; omega)
  refine ⟨⟨h.ok, h.nrm⟩, fun n => ?_, ?_, ?_⟩
  · rw [h.num, ← num_perm hp]
    simp only
    constructor
    · rintro (h | h)
      · omega
      · exact h
    · exact .inr
  · rw [h.tot, ← tot_perm hp]; simp only; omega
  · have := h.len
    simp only [Int.lt_irrefl, if_false] at this
    rw [← hp.length_eq]
    exact this

theorem num_tail {x : X} {l : List X} (h : Normal (x :: l)) (n : Int) : num n l ↔ num n (x :: l) ∧ x.1 + x.2 ≤ n := by
  obtain ⟨h1, h2⟩ := List.pairwise_cons.1 h.2
  rw [num_cons]
  constructor
  · rintro ⟨y, hy, h3⟩
    have := h1 y hy
    exact ⟨.inr ⟨y, hy, h3⟩, by omega⟩
  · rintro ⟨h3 | h3, h4⟩
    · omega
    · exact h3
theorem normal_tail {x : X} {l : List X} (h : Normal (x :: l)) : Normal l := ⟨fun y hy => h.1 y (List.mem_cons_of_mem _ hy), (List.pairwise_cons.1 h.2).2⟩
theorem num_low {x : X} {l : List X} (h : Normal (x :: l)) {n : Int} (hn : num n (x :: l)) : x.1 ≤ n := by
  obtain ⟨h1, h2⟩ := List.pairwise_cons.1 h.2
  have hx := h.1 x List.mem_cons_self
  unfold okx at hx
  rcases (num_cons n x l).1 hn with h3 | ⟨y, hy, h3⟩
  · exact h3.1
  · have := h1 y hy; omega
theorem num_gap {x : X} {l : List X} (h : Normal (x :: l)) : ¬ num (x.1 + x.2) (x :: l) := by
  obtain ⟨h1, h2⟩ := List.pairwise_cons.1 h.2
  rintro hn
  rcases (num_cons _ x l).1 hn with h3 | ⟨y, hy, h3⟩
  · omega
  · have := h1 y hy; omega
theorem num_in {x : X} {l : List X} {n : Int} (h : x.1 ≤ n) (h2 : n < x.1 + x.2) : num n (x :: l) := (num_cons _ _ _).2 (.inl ⟨h, h2⟩)
theorem normal_unique : ∀ {J K : List X}, Normal J → Normal K → (∀ n, num n J ↔ num n K) → J = K
  | [], [], _, _, _ => rfl
  | [], y :: K, _, hK, h => by
    have hy := hK.1 y List.mem_cons_self
    unfold okx at hy
    exact absurd ((h y.1).2 (num_in (Int.le_refl _) (by omega))) (num_nil _)
  | x :: J, [], hJ, _, h => by
    have hx := hJ.1 x List.mem_cons_self
    unfold okx at hx
    exact absurd ((h x.1).1 (num_in (Int.le_refl _) (by omega))) (num_nil _)
  | x :: J, y :: K, hJ, hK, h => by
    have hx := hJ.1 x List.mem_cons_self
    have hy := hK.1 y List.mem_cons_self
    unfold okx at hx hy
    have e1 : x.1 = y.1 := by
      have a := num_low hJ ((h y.1).2 (num_in (Int.le_refl _) (by omega)))
      have b := num_low hK ((h x.1).1 (num_in (Int.le_refl _) (by omega)))
      omega
    have e2 : x.2 = y.2 := by
      rcases Int.lt_trichotomy x.2 y.2 with hlt | he | hgt
      · exact absurd ((h (x.1 + x.2)).2 (num_in (by omega) (by omega))) (num_gap hJ)
      · exact he
      · exact absurd ((h (y.1 + y.2)).1 (num_in (by omega) (by omega))) (num_gap hK)
    have e : x = y := Prod.ext e1 e2
    subst e
    rw [normal_unique (normal_tail hJ) (normal_tail hK) fun n => by rw [num_tail hJ, num_tail hK, h]]

/-- A list, increasing. -/
def ins (x : X) : List X → List X
  | [] => [x]
  | y :: l => if x.1 ≤ y.1 then x :: y :: l else y :: ins x l
def srt : List X → List X
  | [] => []
  | x :: l => ins x (srt l)
theorem ins_perm (x : X) : ∀ l : List X, (ins x l).Perm (x :: l)
  | [] => .refl _
  | y :: l => by
    unfold ins
    split
    · exact .refl _
    · exact ((ins_perm x l).cons y).trans (List.Perm.swap x y l)
theorem srt_perm : ∀ l : List X, (srt l).Perm l
  | [] => .refl _
  | x :: l => (ins_perm x (srt l)).trans ((srt_perm l).cons x)
theorem ins_inc (x : X) : ∀ {l : List X}, Inc l → Inc (ins x l)
  | [], _ => by simp [ins, Inc]
  | y :: l, h => by
    obtain ⟨h1, h2⟩ := List.pairwise_cons.1 h
    unfold ins
    split
    · rename_i hxy
      refine List.pairwise_cons.2 ⟨fun z hz => ?_, h⟩
      rcases List.mem_cons.1 hz with rfl | hz
      · exact hxy
      · have := h1 z hz; omega
    · rename_i hxy
      refine List.pairwise_cons.2 ⟨fun z hz => ?_, ins_inc x h2⟩
      rcases List.mem_cons.1 ((ins_perm x l).mem_iff.1 hz) with rfl | hz
      · omega
      · exact h1 z hz
theorem srt_inc : ∀ l : List X, Inc (srt l)
  | [] => .nil
  | x :: l => ins_inc x (srt_inc l)
/-- What Norm answers of a list that may be. -/
def nrm (l : List X) : List X := jn (0, 0) (srt l)
theorem nrm_of {l : List X} (ho : Ok l) (ha : Apart l) : NormOf l (nrm l) := jn_norm (srt_perm l) (srt_inc l) ho ha
theorem jn_nrm {l s : List X} (hp : s.Perm l) (hs : Inc s) (ho : Ok l) (ha : Apart l) : jn (0, 0) s = nrm l := by
  have a := jn_norm hp hs ho ha
  have b := nrm_of ho ha
  exact normal_unique a.nrm b.nrm fun n => by rw [a.num, b.num]
theorem nrm_eq {l J : List X} (ho : Ok l) (ha : Apart l) (h : Normal J) (hn : ∀ n, num n J ↔ num n l) : nrm l = J :=
  normal_unique (nrm_of ho ha).nrm h fun n => by rw [(nrm_of ho ha).num, hn]
theorem nrm_self {J : List X} (h : Normal J) : nrm J = J := nrm_eq h.1 h.apart h fun _ => Iff.rfl
/-- The sum is at most Top. -/
theorem tot_top {l : List X} (ho : Ok l) (ha : Apart l) : tot l ≤ 1099511627776 := by
  have h := nrm_of ho ha
  have h2 := up_tot h.nrm.up h.nrm.1 0 1099511627776 (by omega) fun x hx => by
    have := h.nrm.1 x hx; unfold okx at this; omega
  rw [h.tot] at h2
  omega
theorem tot_take {l : List X} (ho : Ok l) (ha : Apart l) (i : Nat) : 0 ≤ tot (l.take i) ∧ tot (l.take i) ≤ 1099511627776 :=
  ⟨(tot_pos fun x hx => ho x (List.mem_of_mem_take hx)).1, tot_top (fun x hx => ho x (List.mem_of_mem_take hx)) (List.Pairwise.sublist (List.take_sublist i l) ha)⟩
end Go.Proofs.YtkjffoebcblpoaaGreat.ex
