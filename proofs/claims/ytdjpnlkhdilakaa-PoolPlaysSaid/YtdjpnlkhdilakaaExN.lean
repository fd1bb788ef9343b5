/- What Take answers, plain. -/
import Derived.Test.YtdjpnlkhdilakaaExM
set_option linter.unusedVariables false
set_option linter.unusedSimpArgs false
namespace Go.Proofs.Ytdjpnlkhdilakaa.ex

def pf (n : Int) (a b : X) : Bool := if n ≤ min a.2 b.2 then decide (a.2 < b.2) else decide (b.2 < a.2)
/-- The place of the best one. -/
def chI (n : Int) : List X → Nat → Nat → X → Nat
  | [], _, b, _ => b
  | x :: l, k, b, y => if pf n x y = true then chI n l (k + 1) k x else chI n l (k + 1) b y
theorem chI_lt (n : Int) (m : Nat) : ∀ (l : List X) (k b : Nat) (y : X), b < m → k + l.length ≤ m → chI n l k b y < m
  | [], _, _, _, h, _ => h
  | x :: l, k, b, y, h, h2 => by
    simp only [List.length_cons] at h2
    unfold chI
    split
    · exact chI_lt n m l (k + 1) k x (by omega) (by omega)
    · exact chI_lt n m l (k + 1) b y h (by omega)
def pick (best : Bool) (n : Int) (l : List X) : Nat := if best then chI n l 0 0 l[0]! else 0
theorem pick_lt {best : Bool} {n : Int} {l : List X} (h : l ≠ []) : pick best n l < l.length := by
  have hp := List.length_pos_iff.2 h
  unfold pick
  split
  · exact chI_lt n l.length l 0 0 _ hp (by omega)
  · exact hp
/-- A list without the first m numbers of what is at i. -/
def short (l : List X) (i : Nat) (m : Int) : List X := if 0 < l[i]!.2 - m then l.set i (l[i]!.1 + m, l[i]!.2 - m) else l.eraseIdx i
structure St where
  rest : List X
  took : List X
  n : Int
def stp (best : Bool) (s : St) : St :=
  let i := pick best s.n s.rest
  let m := min s.n s.rest[i]!.2
  ⟨short s.rest i m, s.took ++ [(s.rest[i]!.1, m)], s.n - m⟩
def tk (best : Bool) : Nat → St → St
  | 0, s => s
  | k + 1, s => if 0 < s.n then tk best k (stp best s) else s
theorem tk_done (best : Bool) {s : St} (h : ¬ 0 < s.n) : ∀ k, tk best k s = s
  | 0 => rfl
  | k + 1 => if_neg h
theorem tk_same (best : Bool) : ∀ (k j : Nat) (s : St), ¬ 0 < (tk best k s).n → ¬ 0 < (tk best j s).n → tk best k s = tk best j s
  | 0, j, s, h, _ => (tk_done best h j).symm
  | k + 1, 0, s, _, h2 => tk_done best h2 (k + 1)
  | k + 1, j + 1, s, h, h2 => by
    by_cases hs : 0 < s.n
    · unfold tk at h h2 ⊢
      rw [if_pos hs] at h h2 ⊢
      rw [if_pos hs]
      exact tk_same best k j (stp best s) h h2
    · rw [tk_done best hs, tk_done best hs]

theorem split_at {l : List X} {i : Nat} (h : i < l.length) : l = l.take i ++ l[i]! :: l.drop (i + 1) := by
  rw [getElem!_pos l i h, ← List.drop_eq_getElem_cons h, List.take_append_drop]
theorem set_split {l : List X} {i : Nat} (h : i < l.length) (y : X) : l.set i y = l.take i ++ y :: l.drop (i + 1) := by
  rw [List.set_eq_take_append_cons_drop, if_pos h]
theorem erase_split (l : List X) (i : Nat) : l.eraseIdx i = l.take i ++ l.drop (i + 1) := List.eraseIdx_eq_take_drop_succ l i

/-- What holds in each round: a is what was free, N what is asked. -/
structure TI (a : List X) (N : Int) (s : St) : Prop where
  nm : Normal s.rest
  tkn : Ok s.took
  ap : Apart (s.rest ++ s.took)
  nu : ∀ x, num x (s.rest ++ s.took) ↔ num x a
  tt : tot s.rest + tot s.took = tot a
  nn : s.n + tot s.took = N
  lo : 0 ≤ s.n
  hi : s.n ≤ tot s.rest
  ln : s.rest.length + s.took.length ≤ a.length + (if 0 < s.n then 0 else 1)
  rl : s.rest.length ≤ a.length
theorem TI.start {a : List X} {N : Int} (ho : Ok a) (ha : Apart a) (h0 : 0 ≤ N) (h1 : N ≤ tot a) : TI a N ⟨nrm a, [], N⟩ := by
  have h := nrm_of ho ha
  refine ⟨h.nrm, fun x hx => (by cases hx), by rw [List.append_nil]; exact h.nrm.apart, fun x => by rw [List.append_nil]; exact h.num x, by have := h.tot; simp only [ex.tot]; omega, by simp only [ex.tot]; omega, h0, by have := h.tot; show N ≤ ex.tot (ex.nrm a); omega, ?_, h.len⟩
  have := h.len
  simp only [List.length_nil]
  split <;> omega
theorem TI.ne {a : List X} {N : Int} {s : St} (h : TI a N s) (hn : 0 < s.n) : s.rest ≠ [] := by
  intro e
  have := h.hi
  rw [e] at this
  simp only [ex.tot] at this
  omega
theorem TI.next {a : List X} {N : Int} {s : St} (h : TI a N s) (hn : 0 < s.n) (best : Bool) : TI a N (stp best s) ∧ (stp best s).n < s.n := by
  obtain ⟨rest, took, n⟩ := s
  have hi := pick_lt (best := best) (n := n) (h.ne hn)
  unfold stp short
  dsimp only at hn hi ⊢
  generalize pick best n rest = i at *
  have hs := split_at hi
  rw [set_split hi, erase_split]
  generalize rest[i]! = x at *
  obtain ⟨x1, x2⟩ := x
  generalize rest.take i = p at *
  generalize rest.drop (i + 1) = q at *
  subst hs
  obtain ⟨h1, h2, h3, h4, h5, h6, h7, h8, h9, h10⟩ := h
  dsimp only at h1 h2 h3 h4 h5 h6 h7 h8 h9 h10 ⊢
  have hx : okx (x1, x2) := h1.1 _ (by simp)
  unfold okx at hx
  dsimp only at hx
  rw [if_pos hn] at h9
  simp only [tot_append, ex.tot, List.length_append, List.length_cons] at h5 h6 h8 h9 h10
  have hpq : (((p ++ (x1, x2) :: q) ++ took)).Perm ((x1, x2) :: (p ++ q ++ took)) := by
    rw [List.append_assoc, List.append_assoc, List.cons_append]
    exact List.perm_middle
  have a1 := List.pairwise_cons.1 ((apart_perm hpq).1 h3)
  have hbnd : x2 ≤ tot p + tot q + x2 := by
    have e1 := (tot_pos (l := p) fun y hy => h1.1 y (by simp [hy])).1
    have e2 := (tot_pos (l := q) fun y hy => h1.1 y (by simp [hy])).1
    omega
  have num1 : ∀ y, num y (p ++ (x1, x2) :: q ++ took) ↔ (x1 ≤ y ∧ y < x1 + x2) ∨ num y (p ++ q ++ took) := fun y => by rw [num_perm hpq, num_cons]
  obtain ⟨n1, n2⟩ := h1
  have n2' := List.pairwise_append.1 n2
  obtain ⟨np, nxq, npxq⟩ := n2'
  obtain ⟨nx, nq⟩ := List.pairwise_cons.1 nxq
  by_cases hlt : n < x2
  · have hm : min n x2 = n := by omega
    rw [hm, if_pos (show 0 < x2 - n by omega)]
    have hperm : ((p ++ (x1 + n, x2 - n) :: q) ++ (took ++ [(x1, n)])).Perm ((x1, n) :: (x1 + n, x2 - n) :: (p ++ q ++ took)) := by
      rw [← List.append_assoc]
      refine (List.perm_append_comm (l₂ := [(x1, n)])).trans ?_
      rw [List.singleton_append]
      refine List.Perm.cons _ ?_
      rw [List.append_assoc, List.append_assoc, List.cons_append]
      exact List.perm_middle
    refine ⟨⟨⟨fun y hy => ?_, List.pairwise_append.2 ⟨np, List.pairwise_cons.2 ⟨fun y hy => by have := nx y hy; dsimp only at this ⊢; omega, nq⟩, fun y hy z hz => ?_⟩⟩, ok_append.2 ⟨h2, fun y hy => by rw [List.mem_singleton.1 hy]; exact ⟨hx.1, hn, by dsimp only; omega⟩⟩, (apart_perm hperm).2 ?_, fun y => ?_, ?_, ?_, by simp, ?_, ?_, ?_⟩, by omega⟩
    · rcases List.mem_append.1 hy with hy | hy
      · exact n1 y (by simp [hy])
      · rcases List.mem_cons.1 hy with rfl | hy
        · exact ⟨by dsimp only; omega, by dsimp only; omega, by dsimp only; omega⟩
        · exact n1 y (by simp [hy])
    · rcases List.mem_cons.1 hz with rfl | hz
      · have := npxq y hy (x1, x2) (by simp); dsimp only at this ⊢; omega
      · exact npxq y hy z (by simp [hz])
    · refine List.pairwise_cons.2 ⟨fun y hy => ?_, List.pairwise_cons.2 ⟨fun y hy => ?_, a1.2⟩⟩
      · rcases List.mem_cons.1 hy with rfl | hy
        · left; dsimp only; omega
        · have := a1.1 y hy; unfold Dj at this ⊢; dsimp only at this ⊢; omega
      · have := a1.1 y hy; unfold Dj at this ⊢; dsimp only at this ⊢; omega
    · rw [num_perm hperm, num_cons, num_cons, ← h4, num1, ← or_assoc]
      refine or_congr_left ?_
      dsimp only
      omega
    · simp only [tot_append, ex.tot]; omega
    · simp only [tot_append, ex.tot]; omega
    · simp only [tot_append, ex.tot]; omega
    · simp only [List.length_append, List.length_cons, List.length_nil]
      rw [if_neg (by omega)]
      omega
    · simp only [List.length_append, List.length_cons]; omega
  · have hm : min n x2 = x2 := by omega
    rw [hm, if_neg (show ¬ 0 < x2 - x2 by omega)]
    have hperm : ((p ++ q) ++ (took ++ [(x1, x2)])).Perm ((x1, x2) :: (p ++ q ++ took)) := by
      rw [← List.append_assoc]
      refine (List.perm_append_comm (l₂ := [(x1, x2)])).trans ?_
      rw [List.singleton_append]
    refine ⟨⟨⟨fun y hy => ?_, List.pairwise_append.2 ⟨np, nq, fun y hy z hz => npxq y hy z (by simp [hz])⟩⟩, ok_append.2 ⟨h2, fun y hy => by rw [List.mem_singleton.1 hy]; exact hx⟩, (apart_perm hperm).2 (List.pairwise_cons.2 a1), fun y => ?_, ?_, ?_, by dsimp only; omega, ?_, ?_, ?_⟩, by omega⟩
    · rcases List.mem_append.1 hy with hy | hy
      · exact n1 y (by simp [hy])
      · exact n1 y (by simp [hy])
    · rw [num_perm hperm, num_cons, ← h4, num1]
    · simp only [tot_append, ex.tot]; omega
    · simp only [tot_append, ex.tot]; omega
    · simp only [tot_append, ex.tot]; omega
    · simp only [List.length_append, List.length_cons, List.length_nil]
      split <;> omega
    · simp only [List.length_append]; omega
end Go.Proofs.Ytdjpnlkhdilakaa.ex
