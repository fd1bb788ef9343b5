/- Plain: tables of files by their names, operations on them, what a failure leaves. -/
import Derived.Below
import GoSem.ClaimWide
set_option linter.unusedVariables false
namespace Go.Proofs.YtekcjfdllclphaaGreatDoor.fi

abbrev Nm := List UInt8
/-- A file: its bytes; is it damaged? -/
abbrev Fl := List UInt8 × Bool
abbrev Tb := List (Nm × Fl)

section
variable {V V' : Type}
/-- One entry more, in its place. -/
def ins (x : Nm × V) : List (Nm × V) → List (Nm × V)
  | [] => [x]
  | y :: r => if bytesBefore x.1 y.1 then x :: y :: r else y :: ins x r
def del (k : Nm) (l : List (Nm × V)) : List (Nm × V) := l.filter fun p => !(p.1 == k)
def put (k : Nm) (v : V) (l : List (Nm × V)) : List (Nm × V) := ins (k, v) (del k l)
def get (k : Nm) (l : List (Nm × V)) : Option V := (l.find? fun p => p.1 == k).map (·.2)
/-- What stands at k, turned. -/
def mod (k : Nm) (g : V → V) (l : List (Nm × V)) : List (Nm × V) := l.map fun p => if p.1 = k then (p.1, g p.2) else p

theorem ins_map (f : V → V') (x : Nm × V) : ∀ l : List (Nm × V), (ins x l).map (fun p => (p.1, f p.2)) = ins (x.1, f x.2) (l.map fun p => (p.1, f p.2))
  | [] => rfl
  | y :: r => by
    simp only [ins, List.map_cons]
    split
    · simp
    · simp [ins_map f x r]
theorem del_map (f : V → V') (k : Nm) (l : List (Nm × V)) : (del k l).map (fun p => (p.1, f p.2)) = del k (l.map fun p => (p.1, f p.2)) := by
  simp only [del, List.filter_map]
  rfl
theorem put_map (f : V → V') (k : Nm) (v : V) (l : List (Nm × V)) : (put k v l).map (fun p => (p.1, f p.2)) = put k (f v) (l.map fun p => (p.1, f p.2)) := by
  rw [put, ins_map, del_map]; rfl
theorem get_map (f : V → V') (k : Nm) (l : List (Nm × V)) : get k (l.map fun p => (p.1, f p.2)) = (get k l).map f := by
  simp only [get, List.find?_map, Option.map_map]
  rfl
theorem mem_ins {x z : Nm × V} : ∀ {l : List (Nm × V)}, z ∈ ins x l ↔ z = x ∨ z ∈ l
  | [] => by simp [ins]
  | y :: r => by
    unfold ins
    split
    · simp
    · rw [List.mem_cons, mem_ins (l := r), List.mem_cons]
      constructor
      · rintro (h | h | h)
        · exact .inr (.inl h)
        · exact .inl h
        · exact .inr (.inr h)
      · rintro (h | h | h)
        · exact .inr (.inl h)
        · exact .inl h
        · exact .inr (.inr h)
theorem ins_perm (x : Nm × V) : ∀ l : List (Nm × V), (ins x l).Perm (x :: l)
  | [] => .refl _
  | y :: r => by
    unfold ins
    split
    · exact .refl _
    · exact ((ins_perm x r).cons y).trans (.swap x y r)
theorem mem_del {k : Nm} {z : Nm × V} {l : List (Nm × V)} : z ∈ del k l ↔ z ∈ l ∧ z.1 ≠ k := by simp [del]
theorem get_some {k : Nm} {v : V} {l : List (Nm × V)} (h : get k l = some v) : (k, v) ∈ l := by
  unfold get at h
  obtain ⟨p, hp, rfl⟩ := Option.map_eq_some_iff.1 h
  have h1 := List.find?_some hp
  have h2 := List.mem_of_find?_eq_some hp
  have : p.1 = k := by simpa using h1
  rw [← this]
  exact h2
theorem get_none {k : Nm} {l : List (Nm × V)} : get k l = none ↔ ∀ z ∈ l, z.1 ≠ k := by
  simp [get, List.find?_eq_none]
theorem get_of_mem {k : Nm} {v : V} {l : List (Nm × V)} (hn : l.Pairwise fun p q => p.1 ≠ q.1) (h : (k, v) ∈ l) : get k l = some v := by
  induction l with
  | nil => simp at h
  | cons y r ih =>
    obtain ⟨h1, h2⟩ := List.pairwise_cons.1 hn
    rcases List.mem_cons.1 h with rfl | h'
    · simp [get]
    · have hne : (y.1 == k) = false := by simpa using h1 _ h'
      have := ih h2 h'
      simpa [get, List.find?_cons, hne] using this
theorem find_ins_hit {k : Nm} {v : V} : ∀ {l : List (Nm × V)}, (∀ z ∈ l, z.1 ≠ k) → (ins (k, v) l).find? (fun p => p.1 == k) = some (k, v)
  | [], _ => by simp [ins]
  | y :: r, h => by
    unfold ins
    split
    · simp
    · have : (y.1 == k) = false := by simpa using h y (by simp)
      rw [List.find?_cons, this]
      exact find_ins_hit fun z hz => h z (by simp [hz])
theorem find_ins_miss {k j : Nm} {v : V} (hne : j ≠ k) : ∀ {l : List (Nm × V)}, (ins (k, v) l).find? (fun p => p.1 == j) = l.find? (fun p => p.1 == j)
  | [] => by simp [ins, hne.symm]
  | y :: r => by
    unfold ins
    have hkj : (k == j) = false := by simpa using hne.symm
    split
    · rw [List.find?_cons, hkj]
    · rw [List.find?_cons, List.find?_cons, find_ins_miss hne]
theorem get_put_same (k : Nm) (v : V) (l : List (Nm × V)) : get k (put k v l) = some v := by
  unfold get put
  rw [find_ins_hit fun z hz => (mem_del.1 hz).2]
  rfl
theorem find_del {k j : Nm} (hne : j ≠ k) (l : List (Nm × V)) : (del k l).find? (fun p => p.1 == j) = l.find? (fun p => p.1 == j) := by
  unfold del
  induction l with
  | nil => rfl
  | cons y r ih =>
    by_cases hy : y.1 = k
    · have h1 : (y.1 == k) = true := by simpa using hy
      have h2 : (y.1 == j) = false := by simpa [hy] using hne.symm
      simp only [List.filter_cons, h1, Bool.not_true, Bool.false_eq_true, if_false, List.find?_cons, h2]
      exact ih
    · have h1 : (y.1 == k) = false := by simpa using hy
      simp only [List.filter_cons, h1, Bool.not_false, if_true, List.find?_cons]
      split
      · rfl
      · exact ih
theorem get_del_other {k j : Nm} (hne : j ≠ k) (l : List (Nm × V)) : get j (del k l) = get j l := by unfold get; rw [find_del hne]
theorem get_del_same (k : Nm) (l : List (Nm × V)) : get k (del k l) = none := get_none.2 fun _ hz => (mem_del.1 hz).2
theorem get_put_other {k j : Nm} (hne : j ≠ k) (v : V) (l : List (Nm × V)) : get j (put k v l) = get j l := by
  have h1 : get j (put k v l) = get j (del k l) := by unfold get put; rw [find_ins_miss hne]
  rw [h1, get_del_other hne]
theorem get_mod_same (k : Nm) (g : V → V) (l : List (Nm × V)) : get k (mod k g l) = (get k l).map g := by
  unfold get mod
  induction l with
  | nil => rfl
  | cons y r ih =>
    by_cases hy : y.1 = k
    · subst hy
      simp
    · have h1 : (y.1 == k) = false := by simpa using hy
      simp only [List.map_cons, hy, if_false, List.find?_cons, h1]
      exact ih
theorem get_mod_other {k j : Nm} (hne : j ≠ k) (g : V → V) (l : List (Nm × V)) : get j (mod k g l) = get j l := by
  unfold get mod
  induction l with
  | nil => rfl
  | cons y r ih =>
    by_cases hy : y.1 = k
    · subst hy
      have h1 : (y.1 == j) = false := by simpa using hne.symm
      simp only [List.map_cons, if_true, List.find?_cons, h1]
      exact ih
    · simp only [List.map_cons, hy, if_false, List.find?_cons]
      split
      · rfl
      · exact ih
theorem mod_none {k : Nm} {g : V → V} {l : List (Nm × V)} (h : get k l = none) : mod k g l = l := by
  unfold mod
  conv => rhs; rw [← List.map_id l]
  refine List.map_congr_left fun p hp => ?_
  rw [if_neg (get_none.1 h p hp)]
  rfl
theorem mod_id {k : Nm} {g : V → V} {l : List (Nm × V)} (h : ∀ v, (k, v) ∈ l → g v = v) : mod k g l = l := by
  unfold mod
  conv => rhs; rw [← List.map_id l]
  refine List.map_congr_left fun p hp => ?_
  split
  · rename_i e
    subst e
    rw [h _ hp]
    rfl
  · rfl
theorem mod_eq {k : Nm} {g g' : V → V} {l : List (Nm × V)} (h : ∀ v, (k, v) ∈ l → g v = g' v) : mod k g l = mod k g' l := by
  unfold mod
  refine List.map_congr_left fun p hp => ?_
  split
  · rename_i e
    subst e
    rw [h _ hp]
  · rfl
def Keyed1 (l : List (Nm × V)) : Prop := l.Pairwise fun p q => p.1 ≠ q.1
theorem keyed_del {l : List (Nm × V)} (h : Keyed1 l) (k : Nm) : Keyed1 (del k l) := List.Pairwise.filter _ h
theorem keyed_put {l : List (Nm × V)} (h : Keyed1 l) (k : Nm) (v : V) : Keyed1 (put k v l) := by
  unfold Keyed1 put
  rw [(ins_perm _ _).pairwise_iff (fun {a b} (h : a.1 ≠ b.1) => h.symm)]
  exact List.pairwise_cons.2 ⟨fun q hq => (mem_del.1 hq).2.symm, keyed_del h k⟩
theorem keyed_mod {l : List (Nm × V)} (h : Keyed1 l) (k : Nm) (g : V → V) : Keyed1 (mod k g l) := by
  unfold Keyed1 mod
  rw [List.pairwise_map]
  refine List.Pairwise.imp ?_ h
  intro a b hab
  have e : ∀ p : Nm × V, (if p.1 = k then (p.1, g p.2) else p).1 = p.1 := fun p => by split <;> rfl
  rw [e, e]
  exact hab
theorem mod_one {l : List (Nm × V)} {k : Nm} {g : V → V} {v : V} (h : Keyed1 l) (hv : get k l = some v) : mod k g l = mod k (fun _ => g v) l :=
  mod_eq fun v' hv' => by
    have := get_of_mem h hv'
    rw [hv] at this
    rw [Option.some.inj this]
theorem put_length {l : List (Nm × V)} (k : Nm) (v : V) : (put k v l).length ≤ l.length + 1 := by
  unfold put
  rw [(ins_perm _ _).length_eq, List.length_cons]
  have := List.length_filter_le (fun p : Nm × V => !(p.1 == k)) l
  unfold del
  omega
theorem del_length {l : List (Nm × V)} (k : Nm) : (del k l).length ≤ l.length := List.length_filter_le _ l
theorem mod_length (k : Nm) (g : V → V) (l : List (Nm × V)) : (mod k g l).length = l.length := by simp [mod]
end

/-! ### weights -/
/-- How many bytes a table bears, and one more for each file. -/
def wt : Tb → Nat
  | [] => 0
  | p :: r => 1 + p.2.1.length + wt r
theorem wt_perm {a b : Tb} (h : a.Perm b) : wt a = wt b := by
  induction h with
  | nil => rfl
  | cons x _ ih => simp [wt, ih]
  | swap x y l => simp only [wt]; omega
  | trans _ _ i1 i2 => exact i1.trans i2
theorem wt_filter (f : Nm × Fl → Bool) : ∀ l : Tb, wt (l.filter f) ≤ wt l
  | [] => Nat.le_refl _
  | y :: r => by
    have := wt_filter f r
    rw [List.filter_cons]
    split <;> simp only [wt] <;> omega
theorem wt_del (k : Nm) (l : Tb) : wt (del k l) ≤ wt l := wt_filter _ l
theorem wt_put (k : Nm) (v : Fl) (l : Tb) : wt (put k v l) ≤ 1 + v.1.length + wt l := by
  unfold put
  rw [wt_perm (ins_perm _ _)]
  have := wt_del k l
  simp only [wt]
  omega
theorem wt_len (l : Tb) : l.length ≤ wt l := by
  induction l with
  | nil => exact Nat.le_refl _
  | cons y r ih => simp only [wt, List.length_cons]; omega
theorem wt_mem {l : Tb} {p : Nm × Fl} (h : p ∈ l) : p.2.1.length < wt l := by
  induction l with
  | nil => simp at h
  | cons y r ih =>
    rcases List.mem_cons.1 h with rfl | h'
    · simp only [wt]; omega
    · have := ih h'
      simp only [wt]; omega
theorem wt_get {l : Tb} {k : Nm} {f : Fl} (h : get k l = some f) : f.1.length < wt l := wt_mem (get_some h)
theorem wt_mod_keyed {k : Nm} {g : Fl → Fl} {m : Nat} (hg : ∀ f, (g f).1.length ≤ f.1.length + m) : ∀ {l : Tb}, Keyed1 l → wt (mod k g l) ≤ wt l + m
  | [], _ => Nat.zero_le _
  | y :: r, h => by
    obtain ⟨h1, h2⟩ := List.pairwise_cons.1 h
    by_cases hy : y.1 = k
    · have hr : mod k g r = r := mod_none (get_none.2 fun z hz => fun e => h1 z hz (by rw [hy, e]))
      have := hg y.2
      show wt ((if y.1 = k then (y.1, g y.2) else y) :: mod k g r) ≤ _
      rw [if_pos hy, hr]
      simp only [wt]
      omega
    · have := wt_mod_keyed hg h2 (k := k)
      show wt ((if y.1 = k then (y.1, g y.2) else y) :: mod k g r) ≤ _
      rw [if_neg hy]
      simp only [wt]
      omega

/-! ### operations -/
inductive FOp
  | make (n : Nm)
  | app (n : Nm) (s : List UInt8)
  | cut (n : Nm) (k : Nat)
  | ren (a b : Nm)
  | rem (n : Nm)
  deriving DecidableEq

def addF (s : List UInt8) (f : Fl) : Fl := if f.2 then f else (f.1 ++ s, false)
def shortF (s : List UInt8) (f : Fl) : Fl := if f.2 then f else (f.1 ++ s, true)
def cutF (k : Nat) (f : Fl) : Fl := if f.2 then f else (f.1.take k, false)
def renT (a b : Nm) (T : Tb) : Tb := match get a T with | none => T | some f => put b f (del a T)
def doOp : FOp → Tb → Tb
  | .make n, T => put n ([], false) T
  | .app n s, T => mod n (addF s) T
  | .cut n k, T => mod n (cutF k) T
  | .ren a b, T => renT a b T
  | .rem n, T => del n T
/-- An append of which the first c bytes are kept. -/
def short (n : Nm) (s : List UInt8) (c : Int) (T : Tb) : Tb := mod n (shortF (s.take c.toNat)) T
def replay (l : List FOp) (T : Tb) : Tb := l.foldl (fun T o => doOp o T) T
theorem replay_snoc (l : List FOp) (o : FOp) (T : Tb) : replay (l ++ [o]) T = doOp o (replay l T) := by simp [replay, List.foldl_append]
/-- Undamaged files with the same bytes. -/
def strip (T : Tb) : Tb := T.map fun p => (p.1, (p.2.1, false))

def FOp.wt : FOp → Nat
  | .app _ s => 1 + s.length
  | _ => 1
def wts : List FOp → Nat
  | [] => 0
  | o :: r => o.wt + wts r
theorem wts_app (a b : List FOp) : wts (a ++ b) = wts a + wts b := by
  induction a with
  | nil => simp [wts]
  | cons x r ih => simp only [List.cons_append, wts, ih]; omega
theorem wts_len (a : List FOp) : a.length ≤ wts a := by
  induction a with
  | nil => exact Nat.le_refl _
  | cons x r ih =>
    have : 1 ≤ x.wt := by cases x <;> simp only [FOp.wt] <;> omega
    simp only [wts, List.length_cons]; omega

theorem keyed_do {T : Tb} (h : Keyed1 T) (o : FOp) : Keyed1 (doOp o T) := by
  cases o with
  | make n => exact keyed_put h _ _
  | app n s => exact keyed_mod h _ _
  | cut n k => exact keyed_mod h _ _
  | ren a b =>
    show Keyed1 (renT a b T)
    unfold renT
    split
    · exact h
    · exact keyed_put (keyed_del h _) _ _
  | rem n => exact keyed_del h _
theorem wt_ren {T : Tb} {a b : Nm} {f : Fl} (hk : Keyed1 T) (h : get a T = some f) : wt (put b f (del a T)) ≤ wt T := by
  have h1 := wt_put b f (del a T)
  have h2 : ∀ {l : Tb}, (a, f) ∈ l → 1 + f.1.length + wt (del a l) ≤ wt l := by
    intro l hl
    induction l with
    | nil => simp at hl
    | cons y r ih =>
      rcases List.mem_cons.1 hl with rfl | hl'
      · have := wt_del a r
        simp only [del, List.filter_cons, beq_self_eq_true, Bool.not_true, Bool.false_eq_true, if_false, wt] at this ⊢
        omega
      · have := ih hl'
        unfold del at this ⊢
        rw [List.filter_cons]
        split <;> simp only [wt] <;> omega
  have := h2 (get_some h)
  omega
theorem wt_do {T : Tb} (h : Keyed1 T) (o : FOp) : wt (doOp o T) ≤ wt T + o.wt := by
  cases o with
  | make n =>
    have := wt_put n ([], false) T
    simp only [doOp, FOp.wt, List.length_nil] at this ⊢
    omega
  | app n s =>
    have := wt_mod_keyed (k := n) (g := addF s) (m := s.length) (fun f => by unfold addF; split <;> simp) h
    simp only [doOp, FOp.wt] at this ⊢
    omega
  | cut n k =>
    have := wt_mod_keyed (k := n) (g := cutF k) (m := 0) (fun f => by unfold cutF; split <;> simp; omega) h
    simp only [doOp, FOp.wt] at this ⊢
    omega
  | ren a b =>
    simp only [doOp, FOp.wt, renT]
    split
    · omega
    · have := wt_ren (b := b) h ‹_›
      omega
  | rem n =>
    have := wt_del n T
    simp only [doOp, FOp.wt] at this ⊢
    omega
theorem wt_short {T : Tb} (h : Keyed1 T) (n : Nm) (s : List UInt8) (c : Int) : wt (short n s c T) ≤ wt T + s.length :=
  wt_mod_keyed (fun f => by unfold shortF; split <;> simp <;> omega) h
theorem keyed_short {T : Tb} (h : Keyed1 T) (n : Nm) (s : List UInt8) (c : Int) : Keyed1 (short n s c T) := keyed_mod h _ _
theorem keyed_replay {T : Tb} (h : Keyed1 T) : ∀ (l : List FOp), Keyed1 (replay l T) := by
  intro l
  induction l generalizing T with
  | nil => exact h
  | cons o r ih => exact ih (keyed_do h o)
theorem wt_replay {T : Tb} (h : Keyed1 T) : ∀ (l : List FOp), wt (replay l T) ≤ wt T + wts l := by
  intro l
  induction l generalizing T with
  | nil => exact Nat.le_refl _
  | cons o r ih =>
    have h1 := ih (keyed_do h o)
    have h2 := wt_do h o
    simp only [wts]
    show wt (replay r (doOp o T)) ≤ _
    omega
theorem wt_strip (T : Tb) : wt (strip T) = wt T := by
  unfold strip
  induction T with
  | nil => rfl
  | cons y r ih => simp only [List.map_cons, wt, ih]
theorem keyed_strip {T : Tb} (h : Keyed1 T) : Keyed1 (strip T) := by
  unfold Keyed1 strip
  rw [List.pairwise_map]
  exact h

/-- Nothing is damaged. -/
def Sound (T : Tb) : Prop := ∀ p ∈ T, p.2.2 = false
theorem sound_strip (T : Tb) : Sound (strip T) := by
  intro p hp
  obtain ⟨q, _, rfl⟩ := List.mem_map.1 hp
  rfl
theorem strip_sound {T : Tb} (h : Sound T) : strip T = T := by
  unfold strip
  conv => rhs; rw [← List.map_id T]
  refine List.map_congr_left fun p hp => ?_
  have := h p hp
  obtain ⟨k, b, d⟩ := p
  simp only at this
  rw [this]
  rfl
theorem sound_mod {T : Tb} (h : Sound T) {k : Nm} {g : Fl → Fl} (hg : ∀ f : Fl, f.2 = false → (g f).2 = false) : Sound (mod k g T) := by
  intro p hp
  obtain ⟨q, hq, rfl⟩ := List.mem_map.1 hp
  split
  · exact hg _ (h q hq)
  · exact h q hq
theorem sound_put {T : Tb} (h : Sound T) {k : Nm} {f : Fl} (hf : f.2 = false) : Sound (put k f T) := by
  intro p hp
  rcases mem_ins.1 hp with rfl | hp
  · exact hf
  · exact h p (mem_del.1 hp).1
theorem sound_del {T : Tb} (h : Sound T) (k : Nm) : Sound (del k T) := fun p hp => h p (mem_del.1 hp).1
theorem sound_do {T : Tb} (h : Sound T) (o : FOp) : Sound (doOp o T) := by
  cases o with
  | make n => exact sound_put h rfl
  | app n s => exact sound_mod h fun f hf => by unfold addF; split <;> simp_all
  | cut n k => exact sound_mod h fun f hf => by unfold cutF; split <;> simp_all
  | ren a b =>
    show Sound (renT a b T)
    unfold renT
    split
    · exact h
    · exact sound_put (sound_del h _) (h _ (get_some ‹_›))
  | rem n => exact sound_del h _
theorem sound_replay {T : Tb} (h : Sound T) (l : List FOp) : Sound (replay l T) := by
  induction l generalizing T with
  | nil => exact h
  | cons o r ih => exact ih (sound_do h o)

/-! ### operations that were done are done again -/
/-- The operation may be done on T: a cut leaves what is there. -/
def fit (o : FOp) (T : Tb) : Prop :=
  match o with
  | .cut n k => ∀ f, get n T = some f → k ≤ f.1.length
  | _ => True
def fits : List FOp → Tb → Prop
  | [], _ => True
  | o :: r, T => fit o T ∧ fits r (doOp o T)
theorem fits_snoc : ∀ (l : List FOp) (o : FOp) (T : Tb), fits l T → fit o (replay l T) → fits (l ++ [o]) T
  | [], _, _, _, h => ⟨h, trivial⟩
  | x :: r, o, T, h, h2 => ⟨h.1, fits_snoc r o (doOp x T) h.2 h2⟩

/-- T is U, but that files of it may be damaged. -/
def Half (T U : Tb) : Prop := ∀ k, (get k T = none ↔ get k U = none) ∧ ∀ f, get k T = some f → f.2 = false → get k U = some f
theorem Half.refl (T : Tb) : Half T T := fun _ => ⟨Iff.rfl, fun _ h _ => h⟩
theorem half_mod {T U : Tb} (h : Half T U) {n : Nm} {g g' : Fl → Fl} (hd : ∀ f : Fl, f.2 = true → (g f).2 = true) (hg : ∀ f : Fl, f.2 = false → (g f).2 = false → g f = g' f) : Half (mod n g T) (mod n g' U) := by
  intro k
  by_cases hk : k = n
  · subst hk
    rw [get_mod_same, get_mod_same]
    refine ⟨by simp [(h k).1], fun f hf h0 => ?_⟩
    obtain ⟨f1, h1, rfl⟩ := Option.map_eq_some_iff.1 hf
    cases h2 : f1.2 with
    | true => rw [hd f1 h2] at h0; cases h0
    | false => rw [(h k).2 f1 h1 h2, Option.map_some, hg f1 h2 h0]
  · rw [get_mod_other hk, get_mod_other hk]
    exact h k
theorem half_put {T U : Tb} (h : Half T U) (n : Nm) {f f' : Fl} (hf : f.2 = false → f = f') : Half (put n f T) (put n f' U) := by
  intro k
  by_cases hk : k = n
  · subst hk
    rw [get_put_same, get_put_same]
    refine ⟨by simp, fun x hx h0 => ?_⟩
    cases hx
    rw [hf h0]
  · rw [get_put_other hk, get_put_other hk]
    exact h k
theorem half_del {T U : Tb} (h : Half T U) (n : Nm) : Half (del n T) (del n U) := by
  intro k
  by_cases hk : k = n
  · subst hk
    rw [get_del_same, get_del_same]
    exact ⟨Iff.rfl, fun f hf => by cases hf⟩
  · rw [get_del_other hk, get_del_other hk]
    exact h k
theorem half_do {T U : Tb} (h : Half T U) (o : FOp) : Half (doOp o T) (doOp o U) := by
  cases o with
  | make n => exact half_put h n fun _ => rfl
  | app n s => exact half_mod h (fun f hf => by simp [addF, hf]) (fun f hf _ => rfl)
  | cut n k => exact half_mod h (fun f hf => by simp [cutF, hf]) (fun f hf _ => rfl)
  | ren a b =>
    cases hT : get a T with
    | none =>
      have hU1 := (h a).1.1 hT
      simp only [doOp, renT, hT, hU1]
      exact h
    | some f =>
      cases hU1 : get a U with
      | none => rw [(h a).1.2 hU1] at hT; cases hT
      | some f' =>
        simp only [doOp, renT, hT, hU1]
        refine half_put (half_del h a) b fun h0 => ?_
        have := (h a).2 f hT h0
        rw [hU1] at this
        exact (Option.some.inj this).symm
  | rem n => exact half_del h n
theorem half_short {T U : Tb} (h : Half T U) (n : Nm) (s : List UInt8) (c : Int) : Half (short n s c T) (doOp (.app n s) U) :=
  half_mod h (fun f hf => by simp [shortF, hf]) (fun f hf h0 => by simp [shortF, hf] at h0)
theorem half_fit {T U : Tb} (h : Half T U) {o : FOp} (hf : fit o U) {n : Nm} {k : Nat} (ho : o = .cut n k) : ∀ f, get n T = some f → f.2 = false → k ≤ f.1.length := by
  subst ho
  intro f h1 h2
  exact hf f ((h n).2 f h1 h2)

/-! ### a failure -/
structure Fault where
  keep : Int
  lose : Nat
  cut : Int
/-- What a failure leaves of the operations from index i on. -/
def crashes (f : Fault) : Nat → List FOp → Tb → Tb
  | _, [], T => T
  | i, o :: r, T =>
    if f.keep < i then T else
    match o with
    | .app n s => if f.keep = i ∨ f.lose >>> (i % 64) % 2 = 1 then crashes f (i + 1) r (short n s f.cut T) else crashes f (i + 1) r (doOp (.app n s) T)
    | o => if f.keep = i then T else crashes f (i + 1) r (doOp o T)
end Go.Proofs.YtekcjfdllclphaaGreatDoor.fi
