/- Orders, plain: what is read may be, and has its text but for sizes; the document's way to read. (Written ahead of the code.) -/
import Derived.Test.YtekcjfdllclphaaGreatDoorMOrM
section
set_option linter.unusedVariables false
set_option linter.unusedSimpArgs false
namespace Go.Proofs.YtekcjfdllclphaaGreatDoor.od
open Go.Proofs.YtekcjfdllclphaaGreatDoor.un
open Go.Proofs.YtekcjfdllclphaaGreatDoor.di
open Go.Proofs.YtekcjfdllclphaaGreatDoor.sp
open Go.Lib (decDigits)

/-- A field as it is written. -/
def nrm (f : Fl) : Fl := if f.1 = capK then (capK, stxt (((size? f.2).getD 0 : Nat) : Int)) else f
theorem nrm_key (f : Fl) : (nrm f).1 = f.1 := by
  unfold nrm
  split
  · next h => exact h.symm
  · rfl
theorem nrm_no {f : Fl} (h : f.1 ≠ capK) : nrm f = f := if_neg h
theorem map_one {fs : List Fl} {a : Tx} (h : fs.map (·.1) = [a]) : ∃ v, fs = [(a, v)] := by
  match fs, h with
  | [(x, v)], h => simp at h; exact ⟨v, by rw [h]⟩
theorem map_two {fs : List Fl} {a b : Tx} (h : fs.map (·.1) = [a, b]) : ∃ v w, fs = [(a, v), (b, w)] := by
  match fs, h with
  | [(x, v), (y, w)], h => simp at h; exact ⟨v, w, by rw [h.1, h.2]⟩
theorem map_five {fs : List Fl} {a b c d e : Tx} (h : fs.map (·.1) = [a, b, c, d, e]) : ∃ v w x y z, fs = [(a, v), (b, w), (c, x), (d, y), (e, z)] := by
  match fs, h with
  | [(x, v), (y, w), (z, u), (p, q), (r, s)], h => simp at h; exact ⟨v, w, u, q, s, by rw [h.1, h.2.1, h.2.2.1, h.2.2.2.1, h.2.2.2.2]⟩
theorem within_some {v : Tx} {a b n : Nat} (h : within? v a b = some n) : a ≤ n ∧ n ≤ b ∧ v = txt (n : Int) ∧ num? v = some n := by
  unfold within? at h
  cases hn : num? v with
  | none => rw [hn] at h; cases h
  | some m =>
    rw [hn] at h
    dsimp only at h
    split at h
    · next hb =>
      cases h
      obtain ⟨h1, h2⟩ := num_iff.1 hn
      exact ⟨hb.1, hb.2, by rw [txt_in h1, h2], rfl⟩
    · cases h
theorem inv_job {k : Nat} {o o' : Ord} {v : Tx} (h : ostep k o (jobW, v) = some o') : ∃ n : Int, (1 ≤ n ∧ n ≤ 1073741824) ∧ v = txt n ∧ o' = { o with job := n } := by
  unfold ostep at h
  rw [if_pos rfl] at h
  cases hw : within? v 1 1073741824 with
  | none => rw [hw] at h; cases h
  | some n =>
    rw [hw] at h
    cases h
    obtain ⟨h1, h2, h3, _⟩ := within_some hw
    exact ⟨n, ⟨by omega, by omega⟩, h3, rfl⟩
theorem inv_n {k : Nat} {o o' : Ord} {v : Tx} (h : ostep k o (nK, v) = some o') : ∃ n : Int, ((lo k : Int) ≤ n ∧ n ≤ hi k) ∧ v = txt n ∧ o' = { o with n := n } := by
  unfold ostep at h
  rw [if_neg (show ¬ nK = jobW by decide), if_pos rfl] at h
  cases hw : within? v (lo k) (hi k) with
  | none => rw [hw] at h; cases h
  | some n =>
    rw [hw] at h
    cases h
    obtain ⟨h1, h2, h3, _⟩ := within_some hw
    exact ⟨n, ⟨by omega, by omega⟩, h3, rfl⟩
theorem inv_res {k : Nat} {o o' : Ord} {v : Tx} (h : ostep k o (resK, v) = some o') : ∃ b : Bool, v = (if b then okW else badW) ∧ o' = { o with yes := b } := by
  have h : (if v = okW then some { o with yes := true } else if v = badW then some { o with yes := false } else none) = some o' := h
  split at h
  · next e => cases h; exact ⟨true, e, rfl⟩
  · split at h
    · next e => cases h; exact ⟨false, e, rfl⟩
    · cases h
theorem inv_acc {k : Nat} {o o' : Ord} {v : Tx} (h : ostep k o (accK, v) = some o') : ∃ b : Bool, v = (if b then pubV else priV) ∧ o' = { o with yes := b } := by
  have h : (if v = pubV then some { o with yes := true } else if v = priV then some { o with yes := false } else none) = some o' := h
  split at h
  · next e => cases h; exact ⟨true, e, rfl⟩
  · split at h
    · next e => cases h; exact ⟨false, e, rfl⟩
    · cases h
theorem inv_user {k : Nat} {o o' : Ord} {v : Tx} (h : ostep k o (userK, v) = some o') : isName v = true ∧ o' = { o with user := v } := by
  have h : (if isName v = true then some { o with user := v } else none) = some o' := h
  split at h
  · next e => cases h; exact ⟨e, rfl⟩
  · cases h
theorem inv_name {k : Nat} {o o' : Ord} {v : Tx} (h : ostep k o (nameK, v) = some o') : isName v = true ∧ o' = { o with name := v } := by
  have h : (if isName v = true then some { o with name := v } else none) = some o' := h
  split at h
  · next e => cases h; exact ⟨e, rfl⟩
  · cases h
theorem inv_pool {k : Nat} {o o' : Ord} {v : Tx} (h : ostep k o (poolK, v) = some o') : isName v = true ∧ o' = { o with pool := v } := by
  have h : (if isName v = true then some { o with pool := v } else none) = some o' := h
  split at h
  · next e => cases h; exact ⟨e, rfl⟩
  · cases h
theorem inv_cap {k : Nat} {o o' : Ord} {v : Tx} (h : ostep k o (capK, v) = some o') : ∃ n : Nat, size? v = some n ∧ 0 < n ∧ n ≤ 1099511627776 ∧ o' = { o with size := (n : Int) } := by
  have h : (match size? v with
    | some n => if 0 < n then some { o with size := (n : Int) } else none
    | none => none) = some o' := h
  cases hs : size? v with
  | none => rw [hs] at h; cases h
  | some n =>
    rw [hs] at h
    dsimp only at h
    split at h
    · next e => cases h; exact ⟨n, rfl, e, size_le hs, rfl⟩
    · cases h
theorem fold_cons {k : Nat} {o o' : Ord} {f : Fl} {fs : List Fl} (h : (f :: fs).foldlM (ostep k) o = some o') : ∃ o1, ostep k o f = some o1 ∧ fs.foldlM (ostep k) o1 = some o' := by
  rw [List.foldlM_cons] at h
  cases hs : ostep k o f with
  | none => rw [hs] at h; cases h
  | some o1 => rw [hs] at h; exact ⟨o1, rfl, h⟩
theorem fold_nil {k : Nat} {o o' : Ord} (h : ([] : List Fl).foldlM (ostep k) o = some o') : o = o' := by cases h; rfl
/-- What a kind's fields give may be, and is written so. -/
theorem fold_ok {k : Nat} (hk : 1 ≤ k ∧ k ≤ 18) (h2 : k ≠ 2) {fs : List Fl} {o : Ord} (hf : fs.map (·.1) = keysO k) (h : fs.foldlM (ostep k) (Ord.at k) = some o) : OkO o ∧ o.kind = k ∧ fsO o = fs.map nrm := by
  rcases eighteen hk with rfl | rfl | rfl | rfl | rfl | rfl | rfl | rfl | rfl | rfl | rfl | rfl | rfl | rfl | rfl | rfl | rfl | rfl
  all_goals first
    | exact absurd rfl h2
    | (obtain ⟨v, rfl⟩ := map_one (a := jobW) hf
       obtain ⟨o1, h1, h⟩ := fold_cons h
       cases fold_nil h
       obtain ⟨n, hn, rfl, rfl⟩ := inv_job h1
       exact ⟨⟨⟨by simp [Ord.at], by simp [Ord.at]⟩, (fun h => by simp [hasJ, hasN, hasU, hasP, Ord.at] at h), fun _ => rfl, (fun h => by simp [hasJ, hasN, hasU, hasP, Ord.at] at h), fun _ => rfl, fun _ => hn, (fun h => by simp [hasJ, hasN, hasU, hasP, Ord.at] at h), (fun h => by simp [hasJ, hasN, hasU, hasP, Ord.at] at h), fun _ => ⟨rfl, rfl⟩, (fun h => by simp [hasJ, hasN, hasU, hasP, Ord.at] at h), fun _ => rfl, (fun h => by simp [hasJ, hasN, hasU, hasP, Ord.at] at h), fun _ => rfl, fun _ _ => rfl⟩, rfl, rfl⟩)
    | (obtain ⟨v, rfl⟩ := map_one (a := nK) hf
       obtain ⟨o1, h1, h⟩ := fold_cons h
       cases fold_nil h
       obtain ⟨n, hn, rfl, rfl⟩ := inv_n h1
       exact ⟨⟨⟨by simp [Ord.at], by simp [Ord.at]⟩, (fun h => by simp [hasJ, hasN, hasU, hasP, Ord.at] at h), fun _ => rfl, fun _ => hn, (fun h => by simp [hasJ, hasN, hasU, hasP, Ord.at] at h), (fun h => by simp [hasJ, hasN, hasU, hasP, Ord.at] at h), fun _ => rfl, (fun h => by simp [hasJ, hasN, hasU, hasP, Ord.at] at h), fun _ => ⟨rfl, rfl⟩, (fun h => by simp [hasJ, hasN, hasU, hasP, Ord.at] at h), fun _ => rfl, (fun h => by simp [hasJ, hasN, hasU, hasP, Ord.at] at h), fun _ => rfl, fun _ _ => rfl⟩, rfl, rfl⟩)
    | (obtain ⟨v, rfl⟩ := map_one (a := poolK) hf
       obtain ⟨o1, h1, h⟩ := fold_cons h
       cases fold_nil h
       obtain ⟨hn, rfl⟩ := inv_pool h1
       exact ⟨⟨⟨by simp [Ord.at], by simp [Ord.at]⟩, (fun h => by simp [hasJ, hasN, hasU, hasP, Ord.at] at h), fun _ => rfl, (fun h => by simp [hasJ, hasN, hasU, hasP, Ord.at] at h), fun _ => rfl, (fun h => by simp [hasJ, hasN, hasU, hasP, Ord.at] at h), fun _ => rfl, (fun h => by simp [hasJ, hasN, hasU, hasP, Ord.at] at h), fun _ => ⟨rfl, rfl⟩, fun _ => hn, (fun h => by simp [hasJ, hasN, hasU, hasP, Ord.at] at h), (fun h => by simp [hasJ, hasN, hasU, hasP, Ord.at] at h), fun _ => rfl, fun _ _ => rfl⟩, rfl, rfl⟩)
    | (obtain ⟨v, w, rfl⟩ := map_two (a := jobW) (b := nK) hf
       obtain ⟨o1, h1, h⟩ := fold_cons h
       obtain ⟨n, hn, rfl, rfl⟩ := inv_job h1
       obtain ⟨o2, h3, h⟩ := fold_cons h
       cases fold_nil h
       obtain ⟨m, hm, rfl, rfl⟩ := inv_n h3
       exact ⟨⟨⟨by simp [Ord.at], by simp [Ord.at]⟩, (fun h => by simp [hasJ, hasN, hasU, hasP, Ord.at] at h), fun _ => rfl, fun _ => hm, (fun h => by simp [hasJ, hasN, hasU, hasP, Ord.at] at h), fun _ => hn, (fun h => by simp [hasJ, hasN, hasU, hasP, Ord.at] at h), (fun h => by simp [hasJ, hasN, hasU, hasP, Ord.at] at h), fun _ => ⟨rfl, rfl⟩, (fun h => by simp [hasJ, hasN, hasU, hasP, Ord.at] at h), fun _ => rfl, (fun h => by simp [hasJ, hasN, hasU, hasP, Ord.at] at h), fun _ => rfl, fun _ _ => rfl⟩, rfl, rfl⟩)
    | (obtain ⟨v, w, rfl⟩ := map_two (a := jobW) (b := resK) hf
       obtain ⟨o1, h1, h⟩ := fold_cons h
       obtain ⟨n, hn, rfl, rfl⟩ := inv_job h1
       obtain ⟨o2, h3, h⟩ := fold_cons h
       cases fold_nil h
       obtain ⟨b, rfl, rfl⟩ := inv_res h3
       exact ⟨⟨⟨by simp [Ord.at], by simp [Ord.at]⟩, (fun h => by simp [hasJ, hasN, hasU, hasP, Ord.at] at h), fun _ => rfl, (fun h => by simp [hasJ, hasN, hasU, hasP, Ord.at] at h), fun _ => rfl, fun _ => hn, (fun h => by simp [hasJ, hasN, hasU, hasP, Ord.at] at h), (fun h => by simp [hasJ, hasN, hasU, hasP, Ord.at] at h), fun _ => ⟨rfl, rfl⟩, (fun h => by simp [hasJ, hasN, hasU, hasP, Ord.at] at h), fun _ => rfl, (fun h => by simp [hasJ, hasN, hasU, hasP, Ord.at] at h), fun _ => rfl, fun h _ => absurd rfl h⟩, rfl, rfl⟩)
    | (obtain ⟨v, w, rfl⟩ := map_two (a := userK) (b := nameK) hf
       obtain ⟨o1, h1, h⟩ := fold_cons h
       obtain ⟨hn, rfl⟩ := inv_user h1
       obtain ⟨o2, h3, h⟩ := fold_cons h
       cases fold_nil h
       obtain ⟨hm, rfl⟩ := inv_name h3
       exact ⟨⟨⟨by simp [Ord.at], by simp [Ord.at]⟩, (fun h => by simp [hasJ, hasN, hasU, hasP, Ord.at] at h), fun _ => rfl, (fun h => by simp [hasJ, hasN, hasU, hasP, Ord.at] at h), fun _ => rfl, (fun h => by simp [hasJ, hasN, hasU, hasP, Ord.at] at h), fun _ => rfl, fun _ => ⟨hm, hn⟩, (fun h => by simp [hasJ, hasN, hasU, hasP, Ord.at] at h), (fun h => by simp [hasJ, hasN, hasU, hasP, Ord.at] at h), fun _ => rfl, (fun h => by simp [hasJ, hasN, hasU, hasP, Ord.at] at h), fun _ => rfl, fun _ _ => rfl⟩, rfl, rfl⟩)
    | (obtain ⟨v, w, x, y, z, rfl⟩ := map_five (a := userK) (b := nameK) (c := capK) (d := poolK) (e := accK) hf
       obtain ⟨o1, h1, h⟩ := fold_cons h
       obtain ⟨hn, rfl⟩ := inv_user h1
       obtain ⟨o2, h3, h⟩ := fold_cons h
       obtain ⟨hm, rfl⟩ := inv_name h3
       obtain ⟨o3, h4, h⟩ := fold_cons h
       obtain ⟨n, hs, hs0, hs1, rfl⟩ := inv_cap h4
       obtain ⟨o4, h5, h⟩ := fold_cons h
       obtain ⟨hp, rfl⟩ := inv_pool h5
       obtain ⟨o5, h6, h⟩ := fold_cons h
       cases fold_nil h
       obtain ⟨b, rfl, rfl⟩ := inv_acc h6
       refine ⟨⟨⟨by simp [Ord.at], by simp [Ord.at]⟩, (fun h => by simp [hasJ, hasN, hasU, hasP, Ord.at] at h), fun _ => rfl, (fun h => by simp [hasJ, hasN, hasU, hasP, Ord.at] at h), fun _ => rfl, (fun h => by simp [hasJ, hasN, hasU, hasP, Ord.at] at h), fun _ => rfl, fun _ => ⟨hm, hn⟩, (fun h => by simp [hasJ, hasN, hasU, hasP, Ord.at] at h), fun _ => hp, (fun h => by simp [hasJ, hasN, hasU, hasP, Ord.at] at h), fun _ => ⟨by dsimp only; omega, by dsimp only; omega⟩, fun h => absurd rfl h, fun _ h => absurd rfl h⟩, rfl, ?_⟩
       show [(userK, v), (nameK, w), (capK, stxt (n : Int)), (poolK, y), (accK, if b then pubV else priV)] = [nrm (userK, v), nrm (nameK, w), nrm (capK, x), nrm (poolK, y), nrm (accK, if b then pubV else priV)]
       show _ = [(userK, v), (nameK, w), (capK, stxt (((size? x).getD 0 : Nat) : Int)), (poolK, y), (accK, _)]
       rw [hs]
       rfl)
theorem orun_ok {k : Nat} (hk : 1 ≤ k ∧ k ≤ 18) (h2 : k ≠ 2) {ws : List Tx} {o : Ord} (h : orun k (Ord.at k) (keysO k) ws = some o) : OkO o ∧ o.kind = k ∧ ∃ fs : List Fl, ws = fs.map wtx ∧ fs.map (·.1) = keysO k ∧ fsO o = fs.map nrm ∧ fs.foldlM (ostep k) (Ord.at k) = some o := by
  obtain ⟨fs, h1, h3, h4, h5⟩ := orun_inv k _ _ _ _ h
  obtain ⟨a, b, c⟩ := fold_ok hk h2 h3 h4
  exact ⟨a, b, fs, h1, h3, c, h4⟩
end Go.Proofs.YtekcjfdllclphaaGreatDoor.od
end
section
set_option linter.unusedVariables false
namespace Go.Proofs.YtekcjfdllclphaaGreatDoor.od
open Go.Proofs.YtekcjfdllclphaaGreatDoor.un
open Go.Proofs.YtekcjfdllclphaaGreatDoor.di
open Go.Proofs.YtekcjfdllclphaaGreatDoor.sp
open Go.Lib (decDigits)

/-! ### the document's way -/
/-- A field, whatever the kind: the order, and the field as it is written. -/
def dput (o : Ord) (f : Fl) : Option (Ord × Fl) :=
  if f.1 = jobW then (num? f.2).map fun n => ({ o with job := (n : Int) }, f)
  else if f.1 = nK then (num? f.2).map fun n => ({ o with n := (n : Int) }, f)
  else if f.1 = resK then some ({ o with yes := decide (f.2 = okW) }, f)
  else if f.1 = accK then some ({ o with yes := decide (f.2 = pubV) }, f)
  else if f.1 = userK then some ({ o with user := f.2 }, f)
  else if f.1 = nameK then some ({ o with name := f.2 }, f)
  else if f.1 = poolK then some ({ o with pool := f.2 }, f)
  else if f.1 = capK then (size? f.2).map fun n => ({ o with size := (n : Int) }, (capK, stxt (n : Int)))
  else none
def dorun : Ord → List Fl → List Tx → Option (Ord × List Fl)
  | o, fs, [] => some (o, fs)
  | o, fs, w :: ws => match cut w with
    | some f => (match dput o f with
      | some p => dorun p.1 (fs ++ [p.2]) ws
      | none => none)
    | none => none
theorem dput_nrm {o : Ord} {f : Fl} {p : Ord × Fl} (h : dput o f = some p) : p.2 = nrm f ∧ p.1.kind = o.kind ∧ p.1.slip = o.slip := by
  unfold dput at h
  have key : ∀ (a : Tx), f.1 = a → a ≠ capK → nrm f = f := fun a e hn => nrm_no (by rw [e]; exact hn)
  split at h
  · next e =>
    cases hn : num? f.2 with
    | none => rw [hn] at h; cases h
    | some n => rw [hn] at h; cases h; exact ⟨(key _ e (by decide)).symm, rfl, rfl⟩
  · split at h
    · next e =>
      cases hn : num? f.2 with
      | none => rw [hn] at h; cases h
      | some n => rw [hn] at h; cases h; exact ⟨(key _ e (by decide)).symm, rfl, rfl⟩
    · split at h
      · next e => cases h; exact ⟨(key _ e (by decide)).symm, rfl, rfl⟩
      · split at h
        · next e => cases h; exact ⟨(key _ e (by decide)).symm, rfl, rfl⟩
        · split at h
          · next e => cases h; exact ⟨(key _ e (by decide)).symm, rfl, rfl⟩
          · split at h
            · next e => cases h; exact ⟨(key _ e (by decide)).symm, rfl, rfl⟩
            · split at h
              · next e => cases h; exact ⟨(key _ e (by decide)).symm, rfl, rfl⟩
              · split at h
                · next e =>
                  cases hn : size? f.2 with
                  | none => rw [hn] at h; cases h
                  | some n =>
                    rw [hn] at h; cases h
                    refine ⟨?_, rfl, rfl⟩
                    unfold nrm
                    rw [if_pos e, hn]
                    rfl
                · cases h
/-- What the kind's way takes, the document's takes. -/
theorem dput_of {k : Nat} {o o' : Ord} {f : Fl} (h : ostep k o f = some o') : dput o f = some (o', nrm f) := by
  obtain ⟨key, v⟩ := f
  have h0 := h
  unfold ostep at h
  split at h
  · next e =>
    dsimp only at e
    subst e
    obtain ⟨n, hn, rfl, rfl⟩ := inv_job h0
    obtain ⟨m, rfl⟩ : ∃ m : Nat, n = (m : Int) := ⟨n.toNat, by omega⟩
    unfold dput
    rw [if_pos rfl]
    dsimp only
    rw [txt_in (show m ≤ top by unfold top; omega), num_dec (show m ≤ top by unfold top; omega)]
    rfl
  · split at h
    · next e =>
      dsimp only at e
      subst e
      obtain ⟨n, hn, rfl, rfl⟩ := inv_n h0
      obtain ⟨m, rfl⟩ : ∃ m : Nat, n = (m : Int) := ⟨n.toNat, by omega⟩
      have := hi_top k
      unfold dput
      rw [if_neg (show ¬ nK = jobW by decide), if_pos rfl]
      dsimp only
      rw [txt_in (show m ≤ top by unfold top; omega), num_dec (show m ≤ top by unfold top; omega)]
      rfl
    · split at h
      · next e =>
        dsimp only at e
        subst e
        obtain ⟨b, rfl, rfl⟩ := inv_res h0
        cases b <;> rfl
      · split at h
        · next e =>
          dsimp only at e
          subst e
          obtain ⟨_, rfl⟩ := inv_user h0
          rfl
        · split at h
          · next e =>
            dsimp only at e
            subst e
            obtain ⟨_, rfl⟩ := inv_name h0
            rfl
          · split at h
            · next e =>
              dsimp only at e
              subst e
              obtain ⟨n, hs, _, _, rfl⟩ := inv_cap h0
              show (size? v).map (fun n => (({ o with size := (n : Int) }, (capK, stxt (n : Int))) : Ord × Fl)) = some (_, (capK, stxt (((size? v).getD 0 : Nat) : Int)))
              rw [hs]
              rfl
            · split at h
              · next e =>
                dsimp only at e
                subst e
                obtain ⟨_, rfl⟩ := inv_pool h0
                rfl
              · split at h
                · next e =>
                  dsimp only at e
                  subst e
                  obtain ⟨b, rfl, rfl⟩ := inv_acc h0
                  cases b <;> rfl
                · cases h
theorem dorun_cons (o : Ord) (gs : List Fl) (f : Fl) (ws : List Tx) (h : (61 : UInt8) ∉ f.1) : dorun o gs (wtx f :: ws) = match dput o f with
    | some p => dorun p.1 (gs ++ [p.2]) ws
    | none => none := by
  rw [dorun, cut_wtx h]
  all_goals (dsimp only; cases dput o f <;> rfl)
theorem dorun_of (k : Nat) : ∀ (fs : List Fl) (o o' : Ord) (gs : List Fl), (∀ f ∈ fs, (61 : UInt8) ∉ f.1) → fs.foldlM (ostep k) o = some o' → dorun o gs (fs.map wtx) = some (o', gs ++ fs.map nrm)
  | [], o, o', gs, _, h => by
    cases h
    simp [dorun]
  | f :: fs, o, o', gs, hc, h => by
    obtain ⟨o1, h1, h2⟩ := fold_cons h
    rw [List.map_cons, dorun_cons o gs f _ (hc f (by simp)), dput_of h1]
    dsimp only
    rw [dorun_of k fs o1 o' _ (fun g hg => hc g (by simp [hg])) h2]
    simp
/-- The document's fold over the fields. -/
def dfold : Ord → List Fl → Option Ord
  | o, [] => some o
  | o, f :: fs => match dput o f with
    | some p => dfold p.1 fs
    | none => none
theorem dorun_inv : ∀ (ws : List Tx) (o : Ord) (gs : List Fl) (o' : Ord) (hs : List Fl), dorun o gs ws = some (o', hs) → ∃ fs : List Fl, ws = fs.map wtx ∧ (∀ f ∈ fs, (61 : UInt8) ∉ f.1) ∧ hs = gs ++ fs.map nrm ∧ dfold o fs = some o' ∧ o'.kind = o.kind ∧ o'.slip = o.slip
  | [], o, gs, o', hs, h => by
    cases h
    exact ⟨[], rfl, by simp, by simp, rfl, rfl, rfl⟩
  | w :: ws, o, gs, o', hs, h => by
    rw [dorun] at h
    cases hc : cut w with
    | none => rw [hc] at h; cases h
    | some f =>
      rw [hc] at h
      dsimp only at h
      cases hd : dput o f with
      | none => rw [hd] at h; cases h
      | some p =>
        rw [hd] at h
        dsimp only at h
        obtain ⟨fs, h1, h2, h3, h4, h5, h6⟩ := dorun_inv ws _ _ _ _ h
        have hw := cut_some w f.1 f.2 hc
        obtain ⟨n1, n2, n3⟩ := dput_nrm hd
        refine ⟨f :: fs, by rw [h1, hw.1]; rfl, ?_, by rw [h3, n1]; simp, by rw [dfold, hd]; exact h4, by rw [h5, n2], by rw [h6, n3]⟩
        intro g hg
        rcases List.mem_cons.1 hg with rfl | hg
        · exact hw.2
        · exact h2 g hg
theorem dfold_cons {o o' : Ord} {f : Fl} {fs : List Fl} (h : dfold o (f :: fs) = some o') : ∃ p, dput o f = some p ∧ dfold p.1 fs = some o' := by
  rw [dfold] at h
  cases hd : dput o f with
  | none => rw [hd] at h; cases h
  | some p => rw [hd] at h; exact ⟨p, rfl, h⟩
theorem dinv_job {o : Ord} {v : Tx} {p : Ord × Fl} (h : dput o (jobW, v) = some p) : ∃ n : Nat, num? v = some n ∧ p.1 = { o with job := (n : Int) } := by
  have h : (num? v).map (fun n => (({ o with job := (n : Int) }, (jobW, v)) : Ord × Fl)) = some p := h
  cases hn : num? v with
  | none => rw [hn] at h; cases h
  | some n => rw [hn] at h; cases h; exact ⟨n, rfl, rfl⟩
theorem dinv_n {o : Ord} {v : Tx} {p : Ord × Fl} (h : dput o (nK, v) = some p) : ∃ n : Nat, num? v = some n ∧ p.1 = { o with n := (n : Int) } := by
  have h : (num? v).map (fun n => (({ o with n := (n : Int) }, (nK, v)) : Ord × Fl)) = some p := h
  cases hn : num? v with
  | none => rw [hn] at h; cases h
  | some n => rw [hn] at h; cases h; exact ⟨n, rfl, rfl⟩
theorem dinv_cap {o : Ord} {v : Tx} {p : Ord × Fl} (h : dput o (capK, v) = some p) : ∃ n : Nat, size? v = some n ∧ p.1 = { o with size := (n : Int) } := by
  have h : (size? v).map (fun n => (({ o with size := (n : Int) }, (capK, stxt (n : Int))) : Ord × Fl)) = some p := h
  cases hn : size? v with
  | none => rw [hn] at h; cases h
  | some n => rw [hn] at h; cases h; exact ⟨n, rfl, rfl⟩
theorem num_txt {v : Tx} {n : Nat} (h : num? v = some n) : v = txt (n : Int) := by
  obtain ⟨h1, h2⟩ := num_iff.1 h
  rw [txt_in h1, h2]
theorem fold_7 {fs : List Fl} {o : Ord} (hd : dfold (Ord.at 7) fs = some o) (ho : OkO o) (hf : fsO o = fs.map nrm) (hm : fs.map (·.1) = keysO 7) : fs.foldlM (ostep 7) (Ord.at 7) = some o := by
  obtain ⟨v, w, rfl⟩ := map_two (a := jobW) (b := resK) hm
  obtain ⟨p, h1, h⟩ := dfold_cons hd
  obtain ⟨n, hn, e⟩ := dinv_job h1
  rw [e] at h
  cases h
  have hb := ho.job1 rfl
  have hw : w = if decide (w = okW) then okW else badW := by
    have := (List.cons.inj (List.cons.inj hf).2).1
    exact (Prod.mk.inj this).2.symm
  rw [num_txt hn, List.foldlM_cons, ostep_job _ _ hb.1 hb.2, some_bind, fold_one]
  generalize hB : decide (w = okW) = B at hw ⊢
  rw [hw, ostep_res]
  all_goals first | rfl | (cases B <;> rfl)
theorem dfold_user (o : Ord) (v : Tx) (fs : List Fl) : dfold o ((userK, v) :: fs) = dfold { o with user := v } fs := rfl
theorem dfold_name (o : Ord) (v : Tx) (fs : List Fl) : dfold o ((nameK, v) :: fs) = dfold { o with name := v } fs := rfl
theorem dfold_pool (o : Ord) (v : Tx) (fs : List Fl) : dfold o ((poolK, v) :: fs) = dfold { o with pool := v } fs := rfl
theorem dfold_acc (o : Ord) (v : Tx) (fs : List Fl) : dfold o ((accK, v) :: fs) = dfold { o with yes := decide (v = pubV) } fs := rfl
theorem fs_15 (o : Ord) (h : o.kind = 15) : fsO o = [(userK, o.user), (nameK, o.name), (capK, stxt o.size), (poolK, o.pool), (accK, if o.yes then pubV else priV)] := by
  unfold fsO
  rw [h]
  rfl
theorem fold_15 {fs : List Fl} {o : Ord} (hd : dfold (Ord.at 15) fs = some o) (ho : OkO o) (hf : fsO o = fs.map nrm) (hm : fs.map (·.1) = keysO 15) : fs.foldlM (ostep 15) (Ord.at 15) = some o := by
  obtain ⟨v, w, x, y, z, rfl⟩ := map_five (a := userK) (b := nameK) (c := capK) (d := poolK) (e := accK) hm
  rw [dfold_user, dfold_name] at hd
  obtain ⟨q, h3, h⟩ := dfold_cons hd
  obtain ⟨n, hs, e⟩ := dinv_cap h3
  rw [e, dfold_pool, dfold_acc] at h
  have h := Option.some.inj h
  have hk : o.kind = 15 := by rw [← h]; rfl
  have hu : o.user = v := by rw [← h]
  have hn : o.name = w := by rw [← h]
  have hp : o.pool = y := by rw [← h]
  have hy : o.yes = decide (z = pubV) := by rw [← h]
  have hz' : o.size = (n : Int) := by rw [← h]
  have hb := ho.size1 hk
  have hnm := ho.name1 (by rw [hk]; rfl)
  have hpl := ho.pool1 (by rw [hk]; rfl)
  have hz : z = if decide (z = pubV) then pubV else priV := by
    rw [fs_15 o hk, hy] at hf
    simp only [List.map_cons, List.map_nil, List.cons.injEq] at hf
    have := hf.2.2.2.2.1
    rw [nrm_no (show accK ≠ capK by decide)] at this
    exact (Prod.mk.inj this).2.symm
  rw [hu, hn] at hnm
  rw [hp] at hpl
  rw [hz'] at hb
  rw [List.foldlM_cons, ostep_user _ _ hnm.2, some_bind, List.foldlM_cons, ostep_name _ _ hnm.1, some_bind, List.foldlM_cons, ostep_cap _ _ hs (by omega), some_bind, List.foldlM_cons, ostep_pool _ _ hpl, some_bind, fold_one]
  rw [← h]
  generalize hB : decide (z = pubV) = B at hz ⊢
  rw [hz, ostep_acc]
/-- What the document's way takes, that may be and has the fields of an order, the kind's way takes. -/
theorem fold_back {k : Nat} (hk : 1 ≤ k ∧ k ≤ 18) (h2 : k ≠ 2) {fs : List Fl} {o : Ord} (hd : dfold (Ord.at k) fs = some o) (ho : OkO o) (hok : o.kind = k) (hf : fsO o = fs.map nrm) : fs.map (·.1) = keysO k ∧ fs.foldlM (ostep k) (Ord.at k) = some o := by
  have hm : fs.map (·.1) = keysO k := by
    rw [← hok, ← keys_fs, hf, List.map_map]
    exact List.map_congr_left fun f _ => (nrm_key f).symm
  refine ⟨hm, ?_⟩
  rcases eighteen hk with rfl | rfl | rfl | rfl | rfl | rfl | rfl | rfl | rfl | rfl | rfl | rfl | rfl | rfl | rfl | rfl | rfl | rfl
  all_goals first
    | exact absurd rfl h2
    | (obtain ⟨v, rfl⟩ := map_one (a := jobW) hm
       obtain ⟨p, h1, h⟩ := dfold_cons hd
       cases h
       obtain ⟨n, hn, e⟩ := dinv_job h1
       rw [e] at ho ⊢
       have hb := ho.job1 rfl
       rw [num_txt hn]
       exact (fold_one _ _ _).trans (ostep_job _ _ hb.1 hb.2))
    | (obtain ⟨v, rfl⟩ := map_one (a := nK) hm
       obtain ⟨p, h1, h⟩ := dfold_cons hd
       cases h
       obtain ⟨n, hn, e⟩ := dinv_n h1
       rw [e] at ho ⊢
       have hb := ho.n1 rfl
       rw [num_txt hn]
       exact (fold_one _ _ _).trans (ostep_n _ _ hb.1 hb.2))
    | (obtain ⟨v, rfl⟩ := map_one (a := poolK) hm
       cases hd
       exact (fold_one _ _ _).trans (ostep_pool _ _ (ho.pool1 rfl)))
    | (obtain ⟨v, w, rfl⟩ := map_two (a := jobW) (b := nK) hm
       obtain ⟨p, h1, h⟩ := dfold_cons hd
       obtain ⟨n, hn, e⟩ := dinv_job h1
       rw [e] at h
       obtain ⟨q, h3, h⟩ := dfold_cons h
       cases h
       obtain ⟨m, hm, e'⟩ := dinv_n h3
       rw [e'] at ho ⊢
       have hb := ho.job1 rfl
       have hc := ho.n1 rfl
       rw [num_txt hn, num_txt hm, List.foldlM_cons, ostep_job _ _ hb.1 hb.2]
       exact (fold_one _ _ _).trans (ostep_n _ _ hc.1 hc.2))
    | exact fold_7 hd ho hf hm
    | (obtain ⟨v, w, rfl⟩ := map_two (a := userK) (b := nameK) hm
       cases hd
       rw [List.foldlM_cons, ostep_user _ _ (ho.name1 rfl).2]
       exact (fold_one _ _ _).trans (ostep_name _ _ (ho.name1 rfl).1))
    | exact fold_15 hd ho hf hm
theorem dorun_eq {k : Nat} (hk : 1 ≤ k ∧ k ≤ 18) (h2 : k ≠ 2) (ws : List Tx) : (match dorun (Ord.at k) [] ws with
    | some p => if chkO p.1 = true ∧ p.2 = fsO p.1 then some p.1 else none
    | none => none) = orun k (Ord.at k) (keysO k) ws := by
  cases ho : orun k (Ord.at k) (keysO k) ws with
  | some o =>
    obtain ⟨h1, h3, fs, h4, h5, h6, h7⟩ := orun_ok hk h2 ho
    have hc : ∀ f ∈ fs, (61 : UInt8) ∉ f.1 := fun f hf => (key_clean (k := k) (by rw [← h5]; exact List.mem_map.2 ⟨f, hf, rfl⟩)).1
    rw [h4, dorun_of k fs _ o [] hc h7]
    dsimp only
    rw [if_pos ⟨(chkO_iff o).2 h1, by rw [h6]; rfl⟩]
  | none =>
    cases hd : dorun (Ord.at k) [] ws with
    | none => rfl
    | some p =>
      obtain ⟨o, hs⟩ := p
      dsimp only
      by_cases hg : chkO o = true ∧ hs = fsO o
      · exfalso
        obtain ⟨fs, h1, h3, h4, h5, h6, h7⟩ := dorun_inv _ _ _ _ _ hd
        obtain ⟨h8, h9⟩ := fold_back hk h2 h5 ((chkO_iff o).1 hg.1) h6 (by rw [← hg.2, h4]; rfl)
        rw [h1, ← h8, orun_fs k fs _ h3, h9] at ho
        cases ho
      · rw [if_neg hg]
end Go.Proofs.YtekcjfdllclphaaGreatDoor.od
end
