/- Directives, plain: another order, one field less, one twice. -/
import Derived.Test.YtfocnipdmckojaaDoorDiP
set_option linter.unusedVariables false
namespace Go.Proofs.YtfocnipdmckojaaDoor.di
open Go.Proofs.YtfocnipdmckojaaDoor.un

def wsum : List Tx → Nat
  | [] => 0
  | a :: r => a.length + 1 + wsum r
theorem wsum_cons (a : Tx) (r : List Tx) : wsum (a :: r) = a.length + 1 + wsum r := rfl
theorem wsum_app : ∀ (A B : List Tx), wsum (A ++ B) = wsum A + wsum B
  | [], B => by simp [wsum]
  | a :: r, B => by
    rw [List.cons_append, wsum, wsum, wsum_app r B]
    omega
theorem wsum_rev : ∀ L : List Tx, wsum L.reverse = wsum L
  | [] => rfl
  | a :: r => by
    rw [List.reverse_cons, wsum_app, wsum_rev r, wsum, wsum, wsum]
    omega
theorem join_size : ∀ L : List Tx, L ≠ [] → (joinW L).length + 1 = wsum L
  | [], h => absurd rfl h
  | [a], _ => by simp [joinW, wsum]
  | a :: b :: r, _ => by
    rw [joinW_cons a (by simp), wsum, ← join_size (b :: r) (by simp), List.length_append, List.length_cons]
    omega
theorem line_size (k : Nat) (fs : List Fl) : (lineOf k fs).length + 1 = wsum [bbW, kw k] + wsum (fs.map wtx) := by
  unfold lineOf
  rw [join_size _ (by simp), show bbW :: kw k :: fs.map wtx = [bbW, kw k] ++ fs.map wtx from rfl, wsum_app]
theorem rev_size (k : Nat) (fs : List Fl) : (lineOf k fs.reverse).length = (lineOf k fs).length := by
  have h1 := line_size k fs.reverse
  have h2 := line_size k fs
  rw [List.map_reverse, wsum_rev] at h1
  omega
theorem less_size (k : Nat) (xs ys : List Fl) (f : Fl) : (lineOf k (xs ++ ys)).length ≤ (lineOf k (xs ++ f :: ys)).length := by
  have h1 := line_size k (xs ++ ys)
  have h2 := line_size k (xs ++ f :: ys)
  rw [List.map_append, wsum_app] at h1 h2
  rw [List.map_cons, wsum_cons (wtx f)] at h2
  omega
theorem erase_mid {α : Type} (xs ys : List α) (f : α) : (xs ++ f :: ys).eraseIdx xs.length = xs ++ ys := by
  rw [List.eraseIdx_append_of_length_le (Nat.le_refl _), Nat.sub_self]
  rfl
/-- The words but one, one word after another. -/
theorem erase_step {W : List Tx} {i q : Nat} {x : Tx} (hx : W[i]? = some x) : (W.take (i + 1)).eraseIdx q = if i = q then (W.take i).eraseIdx q else (W.take i).eraseIdx q ++ [x] := by
  have hl : i < W.length := (List.getElem?_eq_some_iff.1 hx).1
  have e : W.take (i + 1) = W.take i ++ [x] := by rw [List.take_add_one, hx]; rfl
  have hli : (W.take i).length = i := by rw [List.length_take]; omega
  rw [e]
  by_cases h : i = q
  · subst h
    rw [if_pos rfl, List.eraseIdx_append_of_length_le (by omega), hli, Nat.sub_self, List.eraseIdx_of_length_le (l := W.take i) (by omega)]
    simp
  rw [if_neg h]
  by_cases h2 : q < i
  · rw [List.eraseIdx_append_of_lt_length (by omega)]
  · rw [List.eraseIdx_append_of_length_le (by omega), hli, List.eraseIdx_of_length_le (l := W.take i) (by omega), List.eraseIdx_of_length_le (l := [x]) (by simp; omega)]
def accE : Tx := [97, 99, 99, 101, 115, 115, 61]
def accP : Tx := [97, 99, 99, 101, 115, 115, 61, 112, 117, 98, 108, 105, 99]
theorem acc_word {k : Nat} {fs : List Fl} (h2 : ∀ f ∈ fs, (61 : UInt8) ∉ f.1) (hg : good k fs) {f : Fl} (hf : f ∈ fs) :
    (f.1 = accK → 7 < (wtx f).length ∧ (wtx f).take 7 = accE ∧ decide (wtx f = accP) = (dirOf k fs).opn) ∧ (f.1 ≠ accK → (wtx f).take 7 ≠ accE) := by
  obtain ⟨key, v⟩ := f
  constructor
  · intro e
    have e : key = accK := e
    subst e
    have hv := (hg.2.1 _ hf).2
    rw [okv_acc] at hv
    have hlk : look fs accK = v := look_mem hg.1 hf
    have hop : (dirOf k fs).opn = (v == pubV) := by unfold dirOf; rw [hlk]
    rw [hop]
    simp only [Bool.or_eq_true, beq_iff_eq] at hv
    rcases hv with rfl | rfl <;> exact ⟨by decide, by decide, by decide⟩
  · intro e h
    have hn := h2 _ hf
    apply e
    show key = accK
    have hc : cut (wtx (key, v)) = some (key, v) := cut_wtx hn
    have hw : wtx (key, v) = accK ++ 61 :: (wtx (key, v)).drop 7 := by
      conv => lhs; rw [← List.take_append_drop 7 (wtx (key, v)), h]
      rfl
    rw [hw, cut_at accK _ (by decide)] at hc
    have := Option.some.inj hc
    exact (congrArg Prod.fst this).symm
end Go.Proofs.YtfocnipdmckojaaDoor.di
