/- The document's first line, plain: the keys' first letters; a field more. -/
import Derived.Test.YtpmghgfgbkncoaaGreatDoorMDiX
section
set_option linter.unusedVariables false
namespace Go.Proofs.YtpmghgfgbkncoaaGreatDoor.sp
open Go.Proofs.YtpmghgfgbkncoaaGreatDoor.un
open Go.Proofs.YtpmghgfgbkncoaaGreatDoor.di

theorem cutB_none (c : UInt8) : ∀ l : Tx, c ∉ l → cutB c l = none
  | [], _ => rfl
  | b :: r, h => by
    simp only [List.mem_cons, not_or] at h
    unfold cutB
    rw [if_neg (fun e => h.1 e.symm), cutB_none c r h.2]
    rfl
/-- A key's first letter. -/
def key2 (k : Tx) : UInt8 := k.headD 63
def five : List Tx := [userK, nodesK, wallK, qosK, afterK]
theorem five_inj : ∀ k ∈ five, ∀ m ∈ five, key2 k = key2 m → k = m := by decide
def KeysOk (K : List Tx) : Prop := ∀ k ∈ K, k ∈ five
theorem fput_five {x : Slip} {k v : Tx} (h : k ∉ five) : fput x (k, v) = none := by
  simp only [five, List.mem_cons, List.not_mem_nil, or_false, not_or] at h
  unfold fput
  rw [if_neg h.1, if_neg h.2.1, if_neg h.2.2.1, if_neg h.2.2.2.1, if_neg h.2.2.2.2]
theorem key_in {K : List Tx} {k : Tx} (hK : KeysOk K) (h : key2 k ∈ K.map key2) : k ∈ K ∨ k ∉ five := by
  obtain ⟨m, hm, e⟩ := List.mem_map.1 h
  by_cases h5 : k ∈ five
  · exact .inl (by rw [← five_inj m (hK m hm) k h5 e]; exact hm)
  · exact .inr h5
theorem key_out {K : List Tx} {k : Tx} (h : key2 k ∉ K.map key2) : k ∉ K := fun hm => h (List.mem_map.2 ⟨k, hm, rfl⟩)
theorem key_has {K : List Tx} (hK : KeysOk K) {u : Tx} (hu : u ∈ five) : key2 u ∈ K.map key2 ↔ u ∈ K := by
  refine ⟨fun h => ?_, fun h => List.mem_map.2 ⟨u, h, rfl⟩⟩
  rcases key_in hK h with h | h
  · exact h
  · exact absurd hu h
theorem keys_more {K : List Tx} {k : Tx} (hK : KeysOk K) (hk : k ∈ five) : KeysOk (K ++ [k]) := fun m hm => by
  rcases List.mem_append.1 hm with h | h
  · exact hK m h
  · simp at h; subst h; exact hk
/-- What the fields ahead of the i-th have left. -/
def LeftF (ws : List Tx) (i : Nat) (x : Slip) (K : List Tx) : Prop := frun (Slip.zero, []) ws = frun (x, K) (ws.drop i)
theorem left_start (ws : List Tx) : LeftF ws 0 Slip.zero [] := rfl
theorem left_next {ws : List Tx} {i : Nat} {x : Slip} {K : List Tx} {w : Tx} (h : LeftF ws i x K) (hw : ws[i]? = some w) {k v : Tx} (hc : cutB 61 w = some (k, v)) (hk : k ∉ K) {y : Slip} (hp : fput x (k, v) = some y) : LeftF ws (i + 1) y (K ++ [k]) := by
  unfold LeftF at *
  obtain ⟨hi, hw⟩ := List.getElem?_eq_some_iff.1 hw
  rw [h, List.drop_eq_getElem_cons hi, hw, frun, cut_B, hc]
  dsimp only
  rw [if_neg hk, hp]
theorem left_nocut {ws : List Tx} {i : Nat} {x : Slip} {K : List Tx} {w : Tx} (h : LeftF ws i x K) (hw : ws[i]? = some w) (hc : cutB 61 w = none) : frun (Slip.zero, []) ws = none := by
  unfold LeftF at h
  obtain ⟨hi, hw⟩ := List.getElem?_eq_some_iff.1 hw
  rw [h, List.drop_eq_getElem_cons hi, hw, frun, cut_B, hc]
theorem left_no {ws : List Tx} {i : Nat} {x : Slip} {K : List Tx} {w : Tx} (h : LeftF ws i x K) (hw : ws[i]? = some w) {k v : Tx} (hc : cutB 61 w = some (k, v)) (hk : k ∈ K ∨ fput x (k, v) = none) : frun (Slip.zero, []) ws = none := by
  unfold LeftF at h
  obtain ⟨hi, hw⟩ := List.getElem?_eq_some_iff.1 hw
  rw [h, List.drop_eq_getElem_cons hi, hw, frun, cut_B, hc]
  dsimp only
  by_cases hm : k ∈ K
  · rw [if_pos hm]
  · rw [if_neg hm, hk.resolve_left hm]
theorem left_end {ws : List Tx} {x : Slip} {K : List Tx} (h : LeftF ws ws.length x K) : frun (Slip.zero, []) ws = some (x, K) := by
  unfold LeftF at h
  rw [h, List.drop_length]
  rfl
theorem first_fin {l : Tx} {ws : List Tx} (hc : cuts 32 l = jobW :: ws) {x : Slip} {K : List Tx} (h : frun (Slip.zero, []) ws = some (x, K)) (hK : KeysOk K) :
    first? l = if key2 userK ∈ K.map key2 ∧ key2 nodesK ∈ K.map key2 ∧ key2 wallK ∈ K.map key2 then some x else none := by
  unfold first?
  rw [hc]
  dsimp only
  rw [if_pos rfl, h]
  dsimp only
  simp only [key_has hK (show userK ∈ five by decide), key_has hK (show nodesK ∈ five by decide), key_has hK (show wallK ∈ five by decide)]
theorem first_non {l : Tx} {ws : List Tx} (hc : cuts 32 l = jobW :: ws) (h : frun (Slip.zero, []) ws = none) : first? l = none := by
  unfold first?
  rw [hc]
  dsimp only
  rw [if_pos rfl, h]
theorem first_noj {l j : Tx} {ws : List Tx} (hc : cuts 32 l = j :: ws) (h : j ≠ jobW) : first? l = none := by
  unfold first?
  rw [hc]
  dsimp only
  rw [if_neg h]
/-- A dependency more. -/
theorem mapM_snoc {α β : Type} (f : α → Option β) : ∀ (l : List α) (a : α), (l ++ [a]).mapM f = match l.mapM f, f a with
    | some A, some b => some (A ++ [b])
    | _, _ => none
  | [], a => by
    cases h : f a <;> simp [h]
  | x :: l, a => by
    rw [List.cons_append, List.mapM_cons, mapM_snoc f l a, List.mapM_cons]
    cases f x with
    | none => rfl
    | some y =>
      cases l.mapM f with
      | none => rfl
      | some A =>
        cases f a with
        | none => rfl
        | some b => rfl
end Go.Proofs.YtpmghgfgbkncoaaGreatDoor.sp
end
