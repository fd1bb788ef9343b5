/- Plain: tables of files by their names, operations on them, what a failure leaves. -/
import Derived.Below
import GoSem.ClaimWide
import Derived.Test.YtekcjfdllclphaaGreatDoorMGen
import Derived.Maps.RangeWalk
import Derived.Maps.OwnSet
import Derived.Carry
section
set_option linter.unusedVariables false
namespace Go.Proofs.YtekcjfdllclphaaGreatDoor.fi

abbrev Nm := List UInt8
/-- A file: its bytes; is it damaged? -/
abbrev Fl := List UInt8 × Bool
abbrev Tb := List (Nm × Fl)

section
variable {V V' : Type}
/-- One entry more, in its place. -/
def ins (x : Nm × V) : List (Nm × V) → List (Nm × V)
  | [] => [x]
  | y :: r => if bytesBefore x.1 y.1 then x :: y :: r else y :: ins x r
def del (k : Nm) (l : List (Nm × V)) : List (Nm × V) := l.filter fun p => !(p.1 == k)
def put (k : Nm) (v : V) (l : List (Nm × V)) : List (Nm × V) := ins (k, v) (del k l)
def get (k : Nm) (l : List (Nm × V)) : Option V := (l.find? fun p => p.1 == k).map (·.2)
/-- What stands at k, turned. -/
def mod (k : Nm) (g : V → V) (l : List (Nm × V)) : List (Nm × V) := l.map fun p => if p.1 = k then (p.1, g p.2) else p

theorem ins_map (f : V → V') (x : Nm × V) : ∀ l : List (Nm × V), (ins x l).map (fun p => (p.1, f p.2)) = ins (x.1, f x.2) (l.map fun p => (p.1, f p.2))
  | [] => rfl
  | y :: r => by
    simp only [ins, List.map_cons]
    split
    · simp
    · simp [ins_map f x r]
theorem del_map (f : V → V') (k : Nm) (l : List (Nm × V)) : (del k l).map (fun p => (p.1, f p.2)) = del k (l.map fun p => (p.1, f p.2)) := by
  simp only [del, List.filter_map]
  rfl
theorem put_map (f : V → V') (k : Nm) (v : V) (l : List (Nm × V)) : (put k v l).map (fun p => (p.1, f p.2)) = put k (f v) (l.map fun p => (p.1, f p.2)) := by
  rw [put, ins_map, del_map]; rfl
theorem get_map (f : V → V') (k : Nm) (l : List (Nm × V)) : get k (l.map fun p => (p.1, f p.2)) = (get k l).map f := by
  simp only [get, List.find?_map, Option.map_map]
  rfl
theorem mem_ins {x z : Nm × V} : ∀ {l : List (Nm × V)}, z ∈ ins x l ↔ z = x ∨ z ∈ l
  | [] => by simp [ins]
  | y :: r => by
    unfold ins
    split
    · simp
    · rw [List.mem_cons, mem_ins (l := r), List.mem_cons]
      constructor
      · rintro (h | h | h)
        · exact .inr (.inl h)
        · exact .inl h
        · exact .inr (.inr h)
      · rintro (h | h | h)
        · exact .inr (.inl h)
        · exact .inl h
        · exact .inr (.inr h)
theorem ins_perm (x : Nm × V) : ∀ l : List (Nm × V), (ins x l).Perm (x :: l)
  | [] => .refl _
  | y :: r => by
    unfold ins
    split
    · exact .refl _
    · exact ((ins_perm x r).cons y).trans (.swap x y r)
theorem mem_del {k : Nm} {z : Nm × V} {l : List (Nm × V)} : z ∈ del k l ↔ z ∈ l ∧ z.1 ≠ k := by simp [del]
theorem get_some {k : Nm} {v : V} {l : List (Nm × V)} (h : get k l = some v) : (k, v) ∈ l := by
  unfold get at h
  obtain ⟨p, hp, rfl⟩ := Option.map_eq_some_iff.1 h
  have h1 := List.find?_some hp
  have h2 := List.mem_of_find?_eq_some hp
  have : p.1 = k := by simpa using h1
  rw [← this]
  exact h2
theorem get_none {k : Nm} {l : List (Nm × V)} : get k l = none ↔ ∀ z ∈ l, z.1 ≠ k := by
  simp [get, List.find?_eq_none]
theorem get_of_mem {k : Nm} {v : V} {l : List (Nm × V)} (hn : l.Pairwise fun p q => p.1 ≠ q.1) (h : (k, v) ∈ l) : get k l = some v := by
  induction l with
  | nil => simp at h
  | cons y r ih =>
    obtain ⟨h1, h2⟩ := List.pairwise_cons.1 hn
    rcases List.mem_cons.1 h with rfl | h'
    · simp [get]
    · have hne : (y.1 == k) = false := by simpa using h1 _ h'
      have := ih h2 h'
      simpa [get, List.find?_cons, hne] using this
theorem find_ins_hit {k : Nm} {v : V} : ∀ {l : List (Nm × V)}, (∀ z ∈ l, z.1 ≠ k) → (ins (k, v) l).find? (fun p => p.1 == k) = some (k, v)
  | [], _ => by simp [ins]
  | y :: r, h => by
    unfold ins
    split
    · simp
    · have : (y.1 == k) = false := by simpa using h y (by simp)
      rw [List.find?_cons, this]
      exact find_ins_hit fun z hz => h z (by simp [hz])
theorem find_ins_miss {k j : Nm} {v : V} (hne : j ≠ k) : ∀ {l : List (Nm × V)}, (ins (k, v) l).find? (fun p => p.1 == j) = l.find? (fun p => p.1 == j)
  | [] => by simp [ins, hne.symm]
  | y :: r => by
    unfold ins
    have hkj : (k == j) = false := by simpa using hne.symm
    split
    · rw [List.find?_cons, hkj]
    · rw [List.find?_cons, List.find?_cons, find_ins_miss hne]
theorem get_put_same (k : Nm) (v : V) (l : List (Nm × V)) : get k (put k v l) = some v := by
  unfold get put
  rw [find_ins_hit fun z hz => (mem_del.1 hz).2]
  rfl
theorem find_del {k j : Nm} (hne : j ≠ k) (l : List (Nm × V)) : (del k l).find? (fun p => p.1 == j) = l.find? (fun p => p.1 == j) := by
  unfold del
  induction l with
  | nil => rfl
  | cons y r ih =>
    by_cases hy : y.1 = k
    · have h1 : (y.1 == k) = true := by simpa using hy
      have h2 : (y.1 == j) = false := by simpa [hy] using hne.symm
      simp only [List.filter_cons, h1, Bool.not_true, Bool.false_eq_true, if_false, List.find?_cons, h2]
      exact ih
    · have h1 : (y.1 == k) = false := by simpa using hy
      simp only [List.filter_cons, h1, Bool.not_false, if_true, List.find?_cons]
      split
      · rfl
      · exact ih
theorem get_del_other {k j : Nm} (hne : j ≠ k) (l : List (Nm × V)) : get j (del k l) = get j l := by unfold get; rw [find_del hne]
theorem get_del_same (k : Nm) (l : List (Nm × V)) : get k (del k l) = none := get_none.2 fun _ hz => (mem_del.1 hz).2
theorem get_put_other {k j : Nm} (hne : j ≠ k) (v : V) (l : List (Nm × V)) : get j (put k v l) = get j l := by
  have h1 : get j (put k v l) = get j (del k l) := by unfold get put; rw [find_ins_miss hne]
  rw [h1, get_del_other hne]
theorem get_mod_same (k : Nm) (g : V → V) (l : List (Nm × V)) : get k (mod k g l) = (get k l).map g := by
  unfold get mod
  induction l with
  | nil => rfl
  | cons y r ih =>
    by_cases hy : y.1 = k
    · subst hy
      simp
    · have h1 : (y.1 == k) = false := by simpa using hy
      simp only [List.map_cons, hy, if_false, List.find?_cons, h1]
      exact ih
theorem get_mod_other {k j : Nm} (hne : j ≠ k) (g : V → V) (l : List (Nm × V)) : get j (mod k g l) = get j l := by
  unfold get mod
  induction l with
  | nil => rfl
  | cons y r ih =>
    by_cases hy : y.1 = k
    · subst hy
      have h1 : (y.1 == j) = false := by simpa using hne.symm
      simp only [List.map_cons, if_true, List.find?_cons, h1]
      exact ih
    · simp only [List.map_cons, hy, if_false, List.find?_cons]
      split
      · rfl
      · exact ih
theorem mod_none {k : Nm} {g : V → V} {l : List (Nm × V)} (h : get k l = none) : mod k g l = l := by
  unfold mod
  conv => rhs; rw [← List.map_id l]
  refine List.map_congr_left fun p hp => ?_
  rw [if_neg (get_none.1 h p hp)]
  rfl
theorem mod_id {k : Nm} {g : V → V} {l : List (Nm × V)} (h : ∀ v, (k, v) ∈ l → g v = v) : mod k g l = l := by
  unfold mod
  conv => rhs; rw [← List.map_id l]
  refine List.map_congr_left fun p hp => ?_
  split
  · rename_i e
    subst e
    rw [h _ hp]
    rfl
  · rfl
theorem mod_eq {k : Nm} {g g' : V → V} {l : List (Nm × V)} (h : ∀ v, (k, v) ∈ l → g v = g' v) : mod k g l = mod k g' l := by
  unfold mod
  refine List.map_congr_left fun p hp => ?_
  split
  · rename_i e
    subst e
    rw [h _ hp]
  · rfl
def Keyed1 (l : List (Nm × V)) : Prop := l.Pairwise fun p q => p.1 ≠ q.1
theorem keyed_del {l : List (Nm × V)} (h : Keyed1 l) (k : Nm) : Keyed1 (del k l) := List.Pairwise.filter _ h
theorem keyed_put {l : List (Nm × V)} (h : Keyed1 l) (k : Nm) (v : V) : Keyed1 (put k v l) := by
  unfold Keyed1 put
  rw [(ins_perm _ _).pairwise_iff (fun {a b} (h : a.1 ≠ b.1) => h.symm)]
  exact List.pairwise_cons.2 ⟨fun q hq => (mem_del.1 hq).2.symm, keyed_del h k⟩
theorem keyed_mod {l : List (Nm × V)} (h : Keyed1 l) (k : Nm) (g : V → V) : Keyed1 (mod k g l) := by
  unfold Keyed1 mod
  rw [List.pairwise_map]
  refine List.Pairwise.imp ?_ h
  intro a b hab
  have e : ∀ p : Nm × V, (if p.1 = k then (p.1, g p.2) else p).1 = p.1 := fun p => by split <;> rfl
  rw [e, e]
  exact hab
theorem mod_one {l : List (Nm × V)} {k : Nm} {g : V → V} {v : V} (h : Keyed1 l) (hv : get k l = some v) : mod k g l = mod k (fun _ => g v) l :=
  mod_eq fun v' hv' => by
    have := get_of_mem h hv'
    rw [hv] at this
    rw [Option.some.inj this]
theorem put_length {l : List (Nm × V)} (k : Nm) (v : V) : (put k v l).length ≤ l.length + 1 := by
  unfold put
  rw [(ins_perm _ _).length_eq, List.length_cons]
  have := List.length_filter_le (fun p : Nm × V => !(p.1 == k)) l
  unfold del
  omega
theorem del_length {l : List (Nm × V)} (k : Nm) : (del k l).length ≤ l.length := List.length_filter_le _ l
theorem mod_length (k : Nm) (g : V → V) (l : List (Nm × V)) : (mod k g l).length = l.length := by simp [mod]
end

/-! ### weights -/
/-- How many bytes a table bears, and one more for each file. -/
def wt : Tb → Nat
  | [] => 0
  | p :: r => 1 + p.2.1.length + wt r
theorem wt_perm {a b : Tb} (h : a.Perm b) : wt a = wt b := by
  induction h with
  | nil => rfl
  | cons x _ ih => simp [wt, ih]
  | swap x y l => simp only [wt]; omega
  | trans _ _ i1 i2 => exact i1.trans i2
theorem wt_filter (f : Nm × Fl → Bool) : ∀ l : Tb, wt (l.filter f) ≤ wt l
  | [] => Nat.le_refl _
  | y :: r => by
    have := wt_filter f r
    rw [List.filter_cons]
    split <;> simp only [wt] <;> omega
theorem wt_del (k : Nm) (l : Tb) : wt (del k l) ≤ wt l := wt_filter _ l
theorem wt_put (k : Nm) (v : Fl) (l : Tb) : wt (put k v l) ≤ 1 + v.1.length + wt l := by
  unfold put
  rw [wt_perm (ins_perm _ _)]
  have := wt_del k l
  simp only [wt]
  omega
theorem wt_len (l : Tb) : l.length ≤ wt l := by
  induction l with
  | nil => exact Nat.le_refl _
  | cons y r ih => simp only [wt, List.length_cons]; omega
theorem wt_mem {l : Tb} {p : Nm × Fl} (h : p ∈ l) : p.2.1.length < wt l := by
  induction l with
  | nil => simp at h
  | cons y r ih =>
    rcases List.mem_cons.1 h with rfl | h'
    · simp only [wt]; omega
    · have := ih h'
      simp only [wt]; omega
theorem wt_get {l : Tb} {k : Nm} {f : Fl} (h : get k l = some f) : f.1.length < wt l := wt_mem (get_some h)
theorem wt_mod_keyed {k : Nm} {g : Fl → Fl} {m : Nat} (hg : ∀ f, (g f).1.length ≤ f.1.length + m) : ∀ {l : Tb}, Keyed1 l → wt (mod k g l) ≤ wt l + m
  | [], _ => Nat.zero_le _
  | y :: r, h => by
    obtain ⟨h1, h2⟩ := List.pairwise_cons.1 h
    by_cases hy : y.1 = k
    · have hr : mod k g r = r := mod_none (get_none.2 fun z hz => fun e => h1 z hz (by rw [hy, e]))
      have := hg y.2
      show wt ((if y.1 = k then (y.1, g y.2) else y) :: mod k g r) ≤ _
      rw [if_pos hy, hr]
      simp only [wt]
      omega
    · have := wt_mod_keyed hg h2 (k := k)
      show wt ((if y.1 = k then (y.1, g y.2) else y) :: mod k g r) ≤ _
      rw [if_neg hy]
      simp only [wt]
      omega

/-! ### operations -/
inductive FOp
  | make (n : Nm)
  | app (n : Nm) (s : List UInt8)
  | cut (n : Nm) (k : Nat)
  | ren (a b : Nm)
  | rem (n : Nm)
  deriving DecidableEq

def addF (s : List UInt8) (f : Fl) : Fl := if f.2 then f else (f.1 ++ s, false)
def shortF (s : List UInt8) (f : Fl) : Fl := if f.2 then f else (f.1 ++ s, true)
def cutF (k : Nat) (f : Fl) : Fl := if f.2 then f else (f.1.take k, false)
def renT (a b : Nm) (T : Tb) : Tb := match get a T with | none => T | some f => put b f (del a T)
def doOp : FOp → Tb → Tb
  | .make n, T => put n ([], false) T
  | .app n s, T => mod n (addF s) T
  | .cut n k, T => mod n (cutF k) T
  | .ren a b, T => renT a b T
  | .rem n, T => del n T
/-- An append of which the first c bytes are kept. -/
def short (n : Nm) (s : List UInt8) (c : Int) (T : Tb) : Tb := mod n (shortF (s.take c.toNat)) T
def replay (l : List FOp) (T : Tb) : Tb := l.foldl (fun T o => doOp o T) T
theorem replay_snoc (l : List FOp) (o : FOp) (T : Tb) : replay (l ++ [o]) T = doOp o (replay l T) := by simp [replay, List.foldl_append]
/-- Undamaged files with the same bytes. -/
def strip (T : Tb) : Tb := T.map fun p => (p.1, (p.2.1, false))

def FOp.wt : FOp → Nat
  | .app _ s => 1 + s.length
  | _ => 1
def wts : List FOp → Nat
  | [] => 0
  | o :: r => o.wt + wts r
theorem wts_app (a b : List FOp) : wts (a ++ b) = wts a + wts b := by
  induction a with
  | nil => simp [wts]
  | cons x r ih => simp only [List.cons_append, wts, ih]; omega
theorem wts_len (a : List FOp) : a.length ≤ wts a := by
  induction a with
  | nil => exact Nat.le_refl _
  | cons x r ih =>
    have : 1 ≤ x.wt := by cases x <;> simp only [FOp.wt] <;> omega
    simp only [wts, List.length_cons]; omega

theorem keyed_do {T : Tb} (h : Keyed1 T) (o : FOp) : Keyed1 (doOp o T) := by
  cases o with
  | make n => exact keyed_put h _ _
  | app n s => exact keyed_mod h _ _
  | cut n k => exact keyed_mod h _ _
  | ren a b =>
    show Keyed1 (renT a b T)
    unfold renT
    split
    · exact h
    · exact keyed_put (keyed_del h _) _ _
  | rem n => exact keyed_del h _
theorem wt_ren {T : Tb} {a b : Nm} {f : Fl} (hk : Keyed1 T) (h : get a T = some f) : wt (put b f (del a T)) ≤ wt T := by
  have h1 := wt_put b f (del a T)
  have h2 : ∀ {l : Tb}, (a, f) ∈ l → 1 + f.1.length + wt (del a l) ≤ wt l := by
    intro l hl
    induction l with
    | nil => simp at hl
    | cons y r ih =>
      rcases List.mem_cons.1 hl with rfl | hl'
      · have := wt_del a r
        simp only [del, List.filter_cons, beq_self_eq_true, Bool.not_true, Bool.false_eq_true, if_false, wt] at this ⊢
        omega
      · have := ih hl'
        unfold del at this ⊢
        rw [List.filter_cons]
        split <;> simp only [wt] <;> omega
  have := h2 (get_some h)
  omega
theorem wt_do {T : Tb} (h : Keyed1 T) (o : FOp) : wt (doOp o T) ≤ wt T + o.wt := by
  cases o with
  | make n =>
    have := wt_put n ([], false) T
    simp only [doOp, FOp.wt, List.length_nil] at this ⊢
    omega
  | app n s =>
    have := wt_mod_keyed (k := n) (g := addF s) (m := s.length) (fun f => by unfold addF; split <;> simp) h
    simp only [doOp, FOp.wt] at this ⊢
    omega
  | cut n k =>
    have := wt_mod_keyed (k := n) (g := cutF k) (m := 0) (fun f => by unfold cutF; split <;> simp; omega) h
    simp only [doOp, FOp.wt] at this ⊢
    omega
  | ren a b =>
    simp only [doOp, FOp.wt, renT]
    split
    · omega
    · have := wt_ren (b := b) h ‹_›
      omega
  | rem n =>
    have := wt_del n T
    simp only [doOp, FOp.wt] at this ⊢
    omega
theorem wt_short {T : Tb} (h : Keyed1 T) (n : Nm) (s : List UInt8) (c : Int) : wt (short n s c T) ≤ wt T + s.length :=
  wt_mod_keyed (fun f => by unfold shortF; split <;> simp <;> omega) h
theorem keyed_short {T : Tb} (h : Keyed1 T) (n : Nm) (s : List UInt8) (c : Int) : Keyed1 (short n s c T) := keyed_mod h _ _
theorem keyed_replay {T : Tb} (h : Keyed1 T) : ∀ (l : List FOp), Keyed1 (replay l T) := by
  intro l
  induction l generalizing T with
  | nil => exact h
  | cons o r ih => exact ih (keyed_do h o)
theorem wt_replay {T : Tb} (h : Keyed1 T) : ∀ (l : List FOp), wt (replay l T) ≤ wt T + wts l := by
  intro l
  induction l generalizing T with
  | nil => exact Nat.le_refl _
  | cons o r ih =>
    have h1 := ih (keyed_do h o)
    have h2 := wt_do h o
    simp only [wts]
    show wt (replay r (doOp o T)) ≤ _
    omega
theorem wt_strip (T : Tb) : wt (strip T) = wt T := by
  unfold strip
  induction T with
  | nil => rfl
  | cons y r ih => simp only [List.map_cons, wt, ih]
theorem keyed_strip {T : Tb} (h : Keyed1 T) : Keyed1 (strip T) := by
  unfold Keyed1 strip
  rw [List.pairwise_map]
  exact h

/-- Nothing is damaged. -/
def Sound (T : Tb) : Prop := ∀ p ∈ T, p.2.2 = false
theorem sound_strip (T : Tb) : Sound (strip T) := by
  intro p hp
  obtain ⟨q, _, rfl⟩ := List.mem_map.1 hp
  rfl
theorem strip_sound {T : Tb} (h : Sound T) : strip T = T := by
  unfold strip
  conv => rhs; rw [← List.map_id T]
  refine List.map_congr_left fun p hp => ?_
  have := h p hp
  obtain ⟨k, b, d⟩ := p
  simp only at this
  rw [this]
  rfl
theorem sound_mod {T : Tb} (h : Sound T) {k : Nm} {g : Fl → Fl} (hg : ∀ f : Fl, f.2 = false → (g f).2 = false) : Sound (mod k g T) := by
  intro p hp
  obtain ⟨q, hq, rfl⟩ := List.mem_map.1 hp
  split
  · exact hg _ (h q hq)
  · exact h q hq
theorem sound_put {T : Tb} (h : Sound T) {k : Nm} {f : Fl} (hf : f.2 = false) : Sound (put k f T) := by
  intro p hp
  rcases mem_ins.1 hp with rfl | hp
  · exact hf
  · exact h p (mem_del.1 hp).1
theorem sound_del {T : Tb} (h : Sound T) (k : Nm) : Sound (del k T) := fun p hp => h p (mem_del.1 hp).1
theorem sound_do {T : Tb} (h : Sound T) (o : FOp) : Sound (doOp o T) := by
  cases o with
  | make n => exact sound_put h rfl
  | app n s => exact sound_mod h fun f hf => by unfold addF; split <;> simp_all
  | cut n k => exact sound_mod h fun f hf => by unfold cutF; split <;> simp_all
  | ren a b =>
    show Sound (renT a b T)
    unfold renT
    split
    · exact h
    · exact sound_put (sound_del h _) (h _ (get_some ‹_›))
  | rem n => exact sound_del h _
theorem sound_replay {T : Tb} (h : Sound T) (l : List FOp) : Sound (replay l T) := by
  induction l generalizing T with
  | nil => exact h
  | cons o r ih => exact ih (sound_do h o)

/-! ### operations that were done are done again -/
/-- The operation may be done on T: a cut leaves what is there. -/
def fit (o : FOp) (T : Tb) : Prop :=
  match o with
  | .cut n k => ∀ f, get n T = some f → k ≤ f.1.length
  | _ => True
def fits : List FOp → Tb → Prop
  | [], _ => True
  | o :: r, T => fit o T ∧ fits r (doOp o T)
theorem fits_snoc : ∀ (l : List FOp) (o : FOp) (T : Tb), fits l T → fit o (replay l T) → fits (l ++ [o]) T
  | [], _, _, _, h => ⟨h, trivial⟩
  | x :: r, o, T, h, h2 => ⟨h.1, fits_snoc r o (doOp x T) h.2 h2⟩

/-- T is U, but that files of it may be damaged. -/
def Half (T U : Tb) : Prop := ∀ k, (get k T = none ↔ get k U = none) ∧ ∀ f, get k T = some f → f.2 = false → get k U = some f
theorem Half.refl (T : Tb) : Half T T := fun _ => ⟨Iff.rfl, fun _ h _ => h⟩
theorem half_mod {T U : Tb} (h : Half T U) {n : Nm} {g g' : Fl → Fl} (hd : ∀ f : Fl, f.2 = true → (g f).2 = true) (hg : ∀ f : Fl, f.2 = false → (g f).2 = false → g f = g' f) : Half (mod n g T) (mod n g' U) := by
  intro k
  by_cases hk : k = n
  · subst hk
    rw [get_mod_same, get_mod_same]
    refine ⟨by simp [(h k).1], fun f hf h0 => ?_⟩
    obtain ⟨f1, h1, rfl⟩ := Option.map_eq_some_iff.1 hf
    cases h2 : f1.2 with
    | true => rw [hd f1 h2] at h0; cases h0
    | false => rw [(h k).2 f1 h1 h2, Option.map_some, hg f1 h2 h0]
  · rw [get_mod_other hk, get_mod_other hk]
    exact h k
theorem half_put {T U : Tb} (h : Half T U) (n : Nm) {f f' : Fl} (hf : f.2 = false → f = f') : Half (put n f T) (put n f' U) := by
  intro k
  by_cases hk : k = n
  · subst hk
    rw [get_put_same, get_put_same]
    refine ⟨by simp, fun x hx h0 => ?_⟩
    cases hx
    rw [hf h0]
  · rw [get_put_other hk, get_put_other hk]
    exact h k
theorem half_del {T U : Tb} (h : Half T U) (n : Nm) : Half (del n T) (del n U) := by
  intro k
  by_cases hk : k = n
  · subst hk
    rw [get_del_same, get_del_same]
    exact ⟨Iff.rfl, fun f hf => by cases hf⟩
  · rw [get_del_other hk, get_del_other hk]
    exact h k
theorem half_do {T U : Tb} (h : Half T U) (o : FOp) : Half (doOp o T) (doOp o U) := by
  cases o with
  | make n => exact half_put h n fun _ => rfl
  | app n s => exact half_mod h (fun f hf => by simp [addF, hf]) (fun f hf _ => rfl)
  | cut n k => exact half_mod h (fun f hf => by simp [cutF, hf]) (fun f hf _ => rfl)
  | ren a b =>
    cases hT : get a T with
    | none =>
      have hU1 := (h a).1.1 hT
      simp only [doOp, renT, hT, hU1]
      exact h
    | some f =>
      cases hU1 : get a U with
      | none => rw [(h a).1.2 hU1] at hT; cases hT
      | some f' =>
        simp only [doOp, renT, hT, hU1]
        refine half_put (half_del h a) b fun h0 => ?_
        have := (h a).2 f hT h0
        rw [hU1] at this
        exact (Option.some.inj this).symm
  | rem n => exact half_del h n
theorem half_short {T U : Tb} (h : Half T U) (n : Nm) (s : List UInt8) (c : Int) : Half (short n s c T) (doOp (.app n s) U) :=
  half_mod h (fun f hf => by simp [shortF, hf]) (fun f hf h0 => by simp [shortF, hf] at h0)
theorem half_fit {T U : Tb} (h : Half T U) {o : FOp} (hf : fit o U) {n : Nm} {k : Nat} (ho : o = .cut n k) : ∀ f, get n T = some f → f.2 = false → k ≤ f.1.length := by
  subst ho
  intro f h1 h2
  exact hf f ((h n).2 f h1 h2)

/-! ### a failure -/
structure Fault where
  keep : Int
  lose : Nat
  cut : Int
/-- What a failure leaves of the operations from index i on. -/
def crashes (f : Fault) : Nat → List FOp → Tb → Tb
  | _, [], T => T
  | i, o :: r, T =>
    if f.keep < i then T else
    match o with
    | .app n s => if f.keep = i ∨ f.lose >>> (i % 64) % 2 = 1 then crashes f (i + 1) r (short n s f.cut T) else crashes f (i + 1) r (doOp (.app n s) T)
    | o => if f.keep = i then T else crashes f (i + 1) r (doOp o T)
end Go.Proofs.YtekcjfdllclphaaGreatDoor.fi
end
section
set_option linter.unusedVariables false
namespace Go.Proofs.YtekcjfdllclphaaGreatDoor.gn
open Go.RowKit

/-- A value reads as itself. -/
def hR (v : Value) : Option (DataW Value × List MemPlace) := some (.held v, [])
theorem hR_inv {v u : Value} {ps : List MemPlace} (h : hR v = some (.held u, ps)) : v = u := by
  unfold hR at h
  simp only [Option.some.injEq, Prod.mk.injEq, DataW.held.injEq] at h
  exact h.1
def datV (L : List (List UInt8 × Value)) : DataW Value := .map (L.map fun p => (.string p.1, .held p.2))
theorem datV_ins (k : List UInt8) (v : Value) : ∀ L : List (List UInt8 × Value), (fi.ins (k, v) L).map (fun p => (Lit.string p.1, (DataW.held p.2 : DataW Value))) = DataW.insert (.string k, .held v) (L.map fun p => (.string p.1, .held p.2))
  | [] => rfl
  | y :: r => by
    unfold fi.ins
    have := datV_ins k v r
    cases h : bytesBefore k y.1 with
    | true => simp [DataW.insert, Lit.before, h]
    | false => simp [DataW.insert, Lit.before, h, this]
theorem datV_del (k : List UInt8) (L : List (List UInt8 × Value)) : (fi.del k L).map (fun p => (Lit.string p.1, (DataW.held p.2 : DataW Value))) = (L.map fun p => (Lit.string p.1, (DataW.held p.2 : DataW Value))).filter fun p => !p.1.sameKey (.string k) := by
  unfold fi.del
  rw [List.filter_map]
  rfl
theorem datV_put (k : List UInt8) (v : Value) (L : List (List UInt8 × Value)) : (datV L).put (.string k) (.held v) = datV (fi.put k v L) := by
  show DataW.map (DataW.insert _ ((L.map _).filter fun p => !p.1.sameKey (.string k))) = .map _
  rw [← datV_del, ← datV_ins]
  rfl
theorem datV_cut (k : List UInt8) (L : List (List UInt8 × Value)) : (datV L).del (.string k) = datV (fi.del k L) := by
  show DataW.map ((L.map _).filter fun p => !p.1.sameKey (.string k)) = .map _
  rw [← datV_del]
theorem find_datV (k : List UInt8) (L : List (List UInt8 × Value)) : (L.map fun p => (Lit.string p.1, (DataW.held p.2 : DataW Value))).find? (fun p => p.1.sameKey (.string k)) = (L.find? fun p => p.1 == k).map fun p => (.string p.1, .held p.2) := by
  rw [List.find?_map]
  rfl
theorem datV_at (k : List UInt8) (z : Value) (L : List (List UInt8 × Value)) : (datV L).atKey (.string k) (.held z) = .held ((fi.get k L).getD z) := by
  simp only [datV, DataW.atKey, find_datV, fi.get]
  cases L.find? fun p => p.1 == k <;> rfl
theorem datV_has (k : List UInt8) (L : List (List UInt8 × Value)) : Maps.has (datV L) (.string k) = (fi.get k L).isSome := by
  show (L.map fun p => (Lit.string p.1, (DataW.held p.2 : DataW Value))).any (fun p => p.1.sameKey (.string k)) = _
  have h := find_datV k L
  rw [Bool.eq_iff_iff, List.any_eq_true, ← List.find?_isSome, h]
  unfold fi.get
  cases L.find? fun p => p.1 == k <;> simp
theorem datV_size (L : List (List UInt8 × Value)) : Maps.size (datV L) = L.length := by simp [datV, Maps.size]
theorem get_put (j k : List UInt8) (v : Value) (L : List (List UInt8 × Value)) : fi.get j (fi.put k v L) = if j = k then some v else fi.get j L := by
  by_cases h : j = k
  · rw [if_pos h, h, fi.get_put_same]
  · rw [if_neg h, fi.get_put_other h]
theorem get_del (j k : List UInt8) (L : List (List UInt8 × Value)) : fi.get j (fi.del k L) = if j = k then none else fi.get j L := by
  by_cases h : j = k
  · rw [if_pos h, h, fi.get_del_same]
  · rw [if_neg h, fi.get_del_other h]

theorem keyStr : Go.Maps.Keyed Tryz.prog 9 := Go.Maps.string_keyed Tryz.underlying9
theorem keyS {l : List UInt8} (h : l.length ≤ maxLen) : keyOf Tryz.prog 9 (.string (str l)) = some (.string l) := by
  have := Go.WideMaps.keyOf_string_mk (P := Tryz.prog) Tryz.underlying9 (s := str l) (by rw [str_size]; exact h)
  simpa [str] using this

/-- Block b is the map of these names and values. -/
def MapV (w : World) (b : Nat) (L : List (List UInt8 × Value)) : Prop := ∃ n, w.ownsMap Tryz.prog 9 hR b n (datV L)
theorem MapV.exact {w : World} {b : Nat} {L : List (List UInt8 × Value)} (h : MapV w b L) : w.ownsMap Tryz.prog 9 hR b L.length (datV L) := by
  obtain ⟨n, es, clock, hb, F, _, hD⟩ := h
  refine ⟨es, clock, hb, F, ?_, hD⟩
  have h1 := congrArg Maps.size hD
  rw [datV_size] at h1
  simp only [Maps.size, length_sorted, List.length_map, Array.length_toList] at h1
  omega
theorem MapV.lt {w : World} {b : Nat} {L : List (List UInt8 × Value)} (h : MapV w b L) : b < w.heap.size := by
  obtain ⟨n, hn⟩ := h
  exact World.ownsMap.lt hn
theorem MapV.kept {w w' : World} {b : Nat} {L : List (List UInt8 × Value)} (h : MapV w b L) (hb : w'.heap[b]? = w.heap[b]?) : MapV w' b L := by
  obtain ⟨n, es, clock, h1, h2⟩ := h
  exact ⟨n, es, clock, hb.trans h1, h2⟩
theorem MapV.next {w w' : World} {b : Nat} {L : List (List UInt8 × Value)} (h : MapV w b L) (hb : Below w.heap.size w w') : MapV w' b L := h.kept (hb.block b h.lt)
theorem MapV.but {R : Nat} {w w' : World} {b : Nat} {L : List (List UInt8 × Value)} (h : MapV w b L) (hb : But R w w') (hne : b ≠ R) : MapV w' b L := h.kept (hb.block b h.lt (fun e => hne (Option.some.inj e)))
theorem MapV.drew {w : World} {b : Nat} {L : List (List UInt8 × Value)} (h : MapV w b L) : MapV w.drew b L := h
theorem MapV.new (w : World) : MapV (w.alloc (.map #[] 0)) w.heap.size [] := ⟨0, World.ownsMap_made w _ _ _⟩
theorem MapV.look {w : World} {b : Nat} {L : List (List UInt8 × Value)} (h : MapV w b L) {t e : TypeId} (ht : Tryz.prog.underlying t = some (.map 9 e)) {z : Value} (hz : (zeroValue e).run Tryz.prog w = .ok z w) {k : List UInt8} (hk : k.length ≤ maxLen) :
    (Instr.lookup t (.map (some b)) (.string (str k)) false).run Tryz.prog w = .ok ((fi.get k L).getD z) w := by
  obtain ⟨n, hn⟩ := h
  obtain ⟨v, ps, hrun, hv⟩ := hn.lookup keyStr ht hz (show hR z = some (.held z, []) from rfl) (keyS hk)
  rw [datV_at] at hv
  rw [hrun, hR_inv hv]
theorem MapV.look_ok {w : World} {b : Nat} {L : List (List UInt8 × Value)} (h : MapV w b L) {t e : TypeId} (ht : Tryz.prog.underlying t = some (.map 9 e)) {z : Value} (hz : (zeroValue e).run Tryz.prog w = .ok z w) {k : List UInt8} (hk : k.length ≤ maxLen) :
    (Instr.lookup t (.map (some b)) (.string (str k)) true).run Tryz.prog w = .ok (.tuple #[(fi.get k L).getD z, .bool (fi.get k L).isSome]) w := by
  obtain ⟨n, hn⟩ := h
  obtain ⟨v, ps, hrun, hv⟩ := hn.look_ok keyStr ht hz (show hR z = some (.held z, []) from rfl) (keyS hk)
  rw [datV_at] at hv
  rw [hrun, hR_inv hv, datV_has]
theorem MapV.put {w : World} {b : Nat} {L : List (List UInt8 × Value)} (h : MapV w b L) {t e : TypeId} (ht : Tryz.prog.underlying t = some (.map 9 e)) {k : List UInt8} (hk : k.length ≤ maxLen) (hL : L.length < maxLen) (v : Value) :
    ∃ w', (Instr.mapUpdate t (.map (some b)) (.string (str k)) v).run Tryz.prog w = .ok () w' ∧ MapV w' b (fi.put k v L) ∧ But b w w' := by
  obtain ⟨w', hrun, h1, h2⟩ := h.exact.update keyStr ht hL (keyS hk) (show hR v = some (.held v, []) from rfl)
  exact ⟨w', hrun, ⟨_, by rw [← datV_put]; exact h1⟩, h2⟩
theorem MapV.put2 {w : World} {b n : Nat} {L : List (List UInt8 × Value)} (h : MapV w b L) (hn : L.length ≤ n) {t e : TypeId} (ht : Tryz.prog.underlying t = some (.map 9 e)) {k : List UInt8} (hk : k.length ≤ maxLen) (hL : n < 1000) (v : Value) :
    ∃ w' L', (Instr.mapUpdate t (.map (some b)) (.string (str k)) v).run Tryz.prog w = .ok () w' ∧ MapV w' b L' ∧ L'.length ≤ n + 1 ∧ (∀ j, fi.get j L' = if j = k then some v else fi.get j L) ∧ But b w w' := by
  obtain ⟨w', h1, h2, h3⟩ := h.put ht hk (show L.length < maxLen by unfold maxLen; omega) v
  exact ⟨w', _, h1, h2, Nat.le_trans (fi.put_length k v) (by omega), fun j => get_put j k v L, h3⟩
theorem mapTurned_but {w w' : World} {b : Nat} (h : w.mapTurned w' b) : But b w w' := by
  obtain ⟨es, c, es', c', hb, rfl⟩ := h
  exact ⟨rfl, rfl, rfl, by simp [Go.ChangeMaps.setBlock], fun i _ hi => Go.ChangeMaps.heap_setBlock_other hb _ fun e => hi (by rw [e])⟩
theorem MapV.del {w : World} {b : Nat} {L : List (List UInt8 × Value)} (h : MapV w b L) {t e : TypeId} (ht : Tryz.prog.underlying t = some (.map 9 e)) {k : List UInt8} (hk : k.length ≤ maxLen) (ty : TypeId) :
    ∃ w', (Builtin.delete_ #[t, 9] ty #[.map (some b), .string (str k)]).run Tryz.prog w = .ok (.tuple #[]) w' ∧ MapV w' b (fi.del k L) ∧ But b w w' := by
  obtain ⟨w', hrun, h1, h2⟩ := h.exact.drop keyStr ht (keyS hk) ty
  exact ⟨w', hrun, ⟨_, by rw [← datV_cut]; exact h1⟩, mapTurned_but h2⟩

/-- A range over the map b, by block r: left says whose turn is still to come. -/
def RngV (w : World) (b r : Nat) (L : List (List UInt8 × Value)) (left : Lit → Bool) (cnt : Nat) : Prop := w.ranges Tryz.prog 9 hR b r L.length (datV L) left cnt
theorem RngV.lt {w : World} {b r : Nat} {L : List (List UInt8 × Value)} {left : Lit → Bool} {cnt : Nat} (h : RngV w b r L left cnt) : r < w.heap.size := World.ranges.lt h
theorem RngV.map {w : World} {b r : Nat} {L : List (List UInt8 × Value)} {left : Lit → Bool} {cnt : Nat} (h : RngV w b r L left cnt) : MapV w b L := ⟨_, World.ranges.owns h⟩
theorem RngV.next {w w' : World} {b r : Nat} {L : List (List UInt8 × Value)} {left : Lit → Bool} {cnt : Nat} (h : RngV w b r L left cnt) (hb : Below w.heap.size w w') : RngV w' b r L left cnt :=
  World.ranges.kept h (row := none) ⟨hb.os, hb.tape, hb.output, hb.size, fun i hi _ => hb.block i hi⟩ (by simp) (by simp)
theorem RngV.left_eq {w : World} {b r : Nat} {L : List (List UInt8 × Value)} {left : Lit → Bool} {cnt : Nat} (h : RngV w b r L left cnt) : w.rangeLeft b r = cnt := World.ranges.left_eq h
theorem key_str2 {v : Value} {kl : Lit} (hk : keyOf Tryz.prog 9 v = some kl) : ∃ k : List UInt8, v = .string (str k) ∧ kl = .string k := by
  rw [keyOf_string Tryz.underlying9] at hk
  cases v <;> simp [mapKey, Tryz.underlying9] at hk
  obtain ⟨_, rfl⟩ := hk
  exact ⟨_, by rw [str_of], rfl⟩

/-- 'range m'. -/
theorem wpList_range_map (w : World) {ops : Array Oper} {rest : List Oper} {o : Oper} {a : Act} {Q : Exit → Act → World → Prop} (hg : o.guard = none) (m : Operand) (t e : TypeId) (hop : o.op = Op.range t m) (ht : Tryz.prog.underlying t = some (.map 9 e))
    (b : Nat) (L : List (List UInt8 × Value)) (hm : a.eval m = .map (some b)) (h : MapV w b L)
    (hK : ∀ w', RngV w' b w.heap.size L (fun kl => Maps.has (datV L) kl) L.length → Below w.heap.size w w' → w'.heap.size = w.heap.size + 1 → wpList Tryz.prog ops Q rest (a.put o.dst (.pointer (some ⟨w.heap.size, 0, none⟩))) w') :
    wpList Tryz.prog ops Q (o :: rest) a w := by
  refine wpList_range_own w hg m t hop 9 e keyStr ht hR b _ _ hm h.exact ?_
  intro w' h1 h2 h3
  rw [datV_size] at h1
  exact hK w' h1 ⟨h2.os, h2.tape, h2.output, h2.size, fun i hi => h2.block i hi (by simp)⟩ h3
/-- The step. -/
theorem wpList_next_map (w : World) {ops : Array Oper} {rest : List Oper} {o : Oper} {a : Act} {Q : Exit → Act → World → Prop} (hg : o.guard = none) (it : Operand) (hop : o.op = Op.next it false)
    (b r : Nat) (L : List (List UInt8 × Value)) (left : Lit → Bool) (cnt : Nat) (hit : a.eval it = .pointer (some ⟨r, 0, none⟩)) (h : RngV w b r L left cnt)
    (hDone : cnt = 0 → (∀ kl, left kl = false) → wpList Tryz.prog ops Q rest (a.put o.dst (.tuple #[.bool false])) w)
    (hMore : ∀ (k : List UInt8) (v : Value) (w' : World) (cnt' : Nat), fi.get k L = some v → left (.string k) = true → RngV w' b r L (fun z => left z && !z.sameKey (.string k)) cnt' → cnt' < cnt →
      But r w w' → w'.heap.size = w.heap.size → (Instr.entry (.pointer (some ⟨r, 0, none⟩))).run Tryz.prog w' = .ok (.tuple #[.string (str k), v]) w' →
      wpList Tryz.prog ops Q rest (a.put o.dst (.tuple #[.bool true, .string (str k), v])) w') :
    wpList Tryz.prog ops Q (o :: rest) a w := by
  refine wpList_plain hg fun K' hK' => ?_
  unfold Oper.wp
  rcases World.ranges.next h keyStr o.type with ⟨h0, hl, hrun⟩ | ⟨key, v, kl, y, w', cnt', hkey, hlk, hv, hat, hrun, hrg, hlt, hgr, hsz, hen⟩
  · simp [execOp, hop, hit, hrun, Result.andThen]
    exact hK' _ _ (hDone h0 hl)
  · obtain ⟨k, rfl, rfl⟩ := key_str2 hkey
    have hy : y = (.held v, []) := (Option.some.inj hv).symm
    subst hy
    have hp : fi.get k L = some v := by
      have h1 := hat (.held v)
      have h2 := hat (.held (.bool true))
      have h3 := hat (.held (.bool false))
      rw [datV_at] at h1 h2 h3
      cases hgk : fi.get k L with
      | some u =>
        rw [hgk] at h1
        simp only [Option.getD_some, DataW.held.injEq] at h1
        rw [h1]
      | none =>
        rw [hgk] at h2 h3
        simp only [Option.getD_none, DataW.held.injEq] at h2 h3
        rw [← h3] at h2
        cases h2
    simp [execOp, hop, hit, hrun, Result.andThen]
    exact hK' _ _ (hMore k v w' cnt' hp hlk hrg hlt hgr hsz hen)

/-- 'v, ok := m[k]', where k is there. -/
theorem wpList_look_yes (w : World) {ops : Array Oper} {rest : List Oper} {o : Oper} {a : Act} {Q : Exit → Act → World → Prop} (hg : o.guard = none) (m x : Operand) (t e : TypeId) (hop : o.op = Op.lookup t m x true) (ht : Tryz.prog.underlying t = some (.map 9 e))
    {z : Value} (hz : ∀ W, (zeroValue e).run Tryz.prog W = .ok z W) (b : Nat) (L : List (List UInt8 × Value)) (hm : a.eval m = .map (some b)) (h : MapV w b L) (k : List UInt8) (hx : a.eval x = .string (str k)) (hk : k.length ≤ maxLen) (v : Value) (hv : fi.get k L = some v)
    (hK : wpList Tryz.prog ops Q rest (a.put o.dst (.tuple #[v, .bool true])) w) :
    wpList Tryz.prog ops Q (o :: rest) a w := by
  refine wpList_plain hg fun K' hK' => ?_
  have hrun := h.look_ok ht (hz w) hk
  rw [hv] at hrun
  unfold Oper.wp
  simp [execOp, hop, hm, hx, hrun, Result.andThen]
  exact hK' _ _ hK
/-- 'v, ok := m[k]', where k is not there. -/
theorem wpList_look_no (w : World) {ops : Array Oper} {rest : List Oper} {o : Oper} {a : Act} {Q : Exit → Act → World → Prop} (hg : o.guard = none) (m x : Operand) (t e : TypeId) (hop : o.op = Op.lookup t m x true) (ht : Tryz.prog.underlying t = some (.map 9 e))
    {z : Value} (hz : ∀ W, (zeroValue e).run Tryz.prog W = .ok z W) (b : Nat) (L : List (List UInt8 × Value)) (hm : a.eval m = .map (some b)) (h : MapV w b L) (k : List UInt8) (hx : a.eval x = .string (str k)) (hk : k.length ≤ maxLen) (hv : fi.get k L = none)
    (hK : wpList Tryz.prog ops Q rest (a.put o.dst (.tuple #[z, .bool false])) w) :
    wpList Tryz.prog ops Q (o :: rest) a w := by
  refine wpList_plain hg fun K' hK' => ?_
  have hrun := h.look_ok ht (hz w) hk
  rw [hv] at hrun
  unfold Oper.wp
  simp [execOp, hop, hm, hx, hrun, Result.andThen]
  exact hK' _ _ hK
/-- 'delete(m, k)'. -/
theorem wpList_del_map (w : World) {ops : Array Oper} {rest : List Oper} {o : Oper} {a : Act} {Q : Exit → Act → World → Prop} (hg : o.guard = none) (m x : Operand) (t e : TypeId) (hop : o.op = Op.call { callee := Callee.builtin Builtin.delete, args := #[m, x], argTypes := #[t, 9] }) (ht : Tryz.prog.underlying t = some (.map 9 e))
    (b : Nat) (L : List (List UInt8 × Value)) (hm : a.eval m = .map (some b)) (h : MapV w b L) (k : List UInt8) (hx : a.eval x = .string (str k)) (hk : k.length ≤ maxLen)
    (hK : ∀ w', MapV w' b (fi.del k L) → But b w w' → wpList Tryz.prog ops Q rest (a.put o.dst (.tuple #[])) w') :
    wpList Tryz.prog ops Q (o :: rest) a w := by
  refine wpList_plain hg fun K' hK' => ?_
  obtain ⟨w', hrun, r1, r2⟩ := h.del ht hk o.type
  unfold Oper.wp
  simp [execOp, hop, resolve, invoke, builtin, hm, hx, hrun, Result.andThen]
  exact hK' _ _ (hK w' r1 r2)
/-- 'm[k] = v'. -/
theorem wpList_put_map (w : World) {ops : Array Oper} {rest : List Oper} {o : Oper} {a : Act} {Q : Exit → Act → World → Prop} (hg : o.guard = none) (m x y : Operand) (t e : TypeId) (hop : o.op = Op.mapUpdate t m x y) (ht : Tryz.prog.underlying t = some (.map 9 e))
    (b n : Nat) (L : List (List UInt8 × Value)) (hm : a.eval m = .map (some b)) (h : MapV w b L) (hn : L.length ≤ n) (hn2 : n < 1000) (k : List UInt8) (hx : a.eval x = .string (str k)) (hk : k.length ≤ maxLen) (v : Value) (hy : a.eval y = v)
    (hK : ∀ w' L', MapV w' b L' → L'.length ≤ n + 1 → (∀ j, fi.get j L' = if j = k then some v else fi.get j L) → But b w w' → wpList Tryz.prog ops Q rest (a.put o.dst undef) w') :
    wpList Tryz.prog ops Q (o :: rest) a w := by
  refine wpList_plain hg fun K' hK' => ?_
  obtain ⟨w', L', hrun, r1, r2, r3, r4⟩ := h.put2 hn ht hk hn2 v
  unfold Oper.wp
  simp [execOp, hop, hm, hx, hy, hrun, Result.andThen]
  exact hK' _ _ (hK w' L' r1 r2 r3 r4)
end Go.Proofs.YtekcjfdllclphaaGreatDoor.gn
end
