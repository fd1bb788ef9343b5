/- Orders, plain: the kinds' words and fields, what a text denotes, an order's text, by the document. (Written ahead of the code.) -/
import Derived.Test.YtekcjfdllclphaaGreatDoorMSlR
import Derived.Test.YtekcjfdllclphaaGreatDoorMSlSa
import Derived.Test.YtekcjfdllclphaaGreatDoorMSlPa
import Derived.Test.YtekcjfdllclphaaGreatDoorMDiH
import Derived.Test.YtekcjfdllclphaaGreatDoorRows
import Derived.ProofKit
import Derived.LaidMore
import Derived.Lay
import Derived.Stop.Joined
import Derived.Stop.LaidErr
import Derived.Lib.LaidTab
import Derived.HandedShaped
import Derived.Shelf.Vars
section
set_option linter.unusedVariables false
namespace Go.Proofs.YtekcjfdllclphaaGreatDoor.od
open Go.Proofs.YtekcjfdllclphaaGreatDoor.un
open Go.Proofs.YtekcjfdllclphaaGreatDoor.di
open Go.Proofs.YtekcjfdllclphaaGreatDoor.sp

structure Ord where
  kind : Nat
  job : Int
  n : Int
  name : Tx
  pool : Tx
  user : Tx
  size : Int
  yes : Bool
  slip : Slip
deriving DecidableEq
def Ord.zero : Ord := ⟨0, 0, 0, [], [], [], 0, false, Slip.zero⟩
def Ord.at (k : Nat) : Ord := ⟨k, 0, 0, [], [], [], 0, false, Slip.zero⟩

/-- A kind's word. -/
def wordO : Nat → Tx
  | 1 => [116, 105, 99, 107]
  | 2 => [115, 117, 98, 109, 105, 116]
  | 3 => [99, 97, 110, 99, 101, 108]
  | 4 => [104, 111, 108, 100]
  | 5 => [114, 101, 108, 101, 97, 115, 101]
  | 6 => [113, 111, 115]
  | 7 => [101, 110, 100]
  | 8 => [102, 97, 117, 108, 116]
  | 9 => [102, 97, 105, 108]
  | 10 => [117, 112]
  | 11 => [100, 114, 97, 105, 110]
  | 12 => [114, 101, 115, 117, 109, 101]
  | 13 => [99, 108, 111, 115, 101]
  | 14 => [111, 112, 101, 110]
  | 15 => [109, 97, 107, 101]
  | 16 => [100, 114, 111, 112]
  | 17 => [115, 116, 97, 116, 117, 115]
  | 18 => [112, 111, 111, 108]
  | _ => []
def nK : Tx := [110]
def resK : Tx := [114, 101, 115, 117, 108, 116]
def badW : Tx := [98, 97, 100]
/-- The begin of a submit. -/
def subL : Tx := [115, 117, 98, 109, 105, 116, 10]
def hasJ (k : Nat) : Bool := decide ((3 ≤ k ∧ k ≤ 8) ∨ k = 17)
def hasN (k : Nat) : Bool := decide (k = 1 ∨ k = 6 ∨ (9 ≤ k ∧ k ≤ 12))
def hasU (k : Nat) : Bool := decide (k = 15 ∨ k = 16)
def hasP (k : Nat) : Bool := decide ((13 ≤ k ∧ k ≤ 15) ∨ k = 18)
def lo (k : Nat) : Nat := if k = 1 then 1 else 0
def hi (k : Nat) : Nat := if k = 1 then 1000 else if k = 6 then 9 else 63
/-- The fields of a kind, in their order. -/
def keysO (k : Nat) : List Tx := (if hasJ k then [jobW] else []) ++ (if hasN k then [nK] else []) ++ (if k = 7 then [resK] else []) ++ (if hasU k then [userK, nameK] else []) ++ (if k = 15 then [capK] else []) ++ (if hasP k then [poolK] else []) ++ (if k = 15 then [accK] else [])
/-- The fields of an order, in their order. -/
def fsO (o : Ord) : List Fl := (if hasJ o.kind then [(jobW, txt o.job)] else []) ++ (if hasN o.kind then [(nK, txt o.n)] else []) ++ (if o.kind = 7 then [(resK, if o.yes then okW else badW)] else []) ++ (if hasU o.kind then [(userK, o.user), (nameK, o.name)] else []) ++ (if o.kind = 15 then [(capK, stxt o.size)] else []) ++ (if hasP o.kind then [(poolK, o.pool)] else []) ++ (if o.kind = 15 then [(accK, if o.yes then pubV else priV)] else [])
theorem keys_fs (o : Ord) : (fsO o).map (·.1) = keysO o.kind := by
  unfold fsO keysO
  simp only [List.map_append]
  repeat' split
  all_goals rfl
def txtO (o : Ord) : Tx := if o.kind = 2 then subL ++ txtS o.slip else joinC 32 (wordO o.kind :: (fsO o).map wtx)
structure OkO (o : Ord) : Prop where
  kind : 1 ≤ o.kind ∧ o.kind ≤ 18
  slip1 : o.kind = 2 → Ok o.slip
  slip0 : o.kind ≠ 2 → o.slip = Slip.zero
  n1 : hasN o.kind = true → (lo o.kind : Int) ≤ o.n ∧ o.n ≤ hi o.kind
  n0 : hasN o.kind = false → o.n = 0
  job1 : hasJ o.kind = true → 1 ≤ o.job ∧ o.job ≤ 1073741824
  job0 : hasJ o.kind = false → o.job = 0
  name1 : hasU o.kind = true → isName o.name = true ∧ isName o.user = true
  name0 : hasU o.kind = false → o.name = [] ∧ o.user = []
  pool1 : hasP o.kind = true → isName o.pool = true
  pool0 : hasP o.kind = false → o.pool = []
  size1 : o.kind = 15 → 1 ≤ o.size ∧ o.size ≤ 1099511627776
  size0 : o.kind ≠ 15 → o.size = 0
  yes0 : o.kind ≠ 7 → o.kind ≠ 15 → o.yes = false
/-- May an order be? -/
def chkO (o : Ord) : Bool := decide ((1 ≤ o.kind ∧ o.kind ≤ 18) ∧ (o.kind = 2 → chkS o.slip = true) ∧ (o.kind ≠ 2 → o.slip = Slip.zero) ∧ (hasN o.kind = true → (lo o.kind : Int) ≤ o.n ∧ o.n ≤ hi o.kind) ∧ (hasN o.kind = false → o.n = 0)
  ∧ (hasJ o.kind = true → 1 ≤ o.job ∧ o.job ≤ 1073741824) ∧ (hasJ o.kind = false → o.job = 0) ∧ (hasU o.kind = true → isName o.name = true ∧ isName o.user = true) ∧ (hasU o.kind = false → o.name = [] ∧ o.user = [])
  ∧ (hasP o.kind = true → isName o.pool = true) ∧ (hasP o.kind = false → o.pool = []) ∧ (o.kind = 15 → 1 ≤ o.size ∧ o.size ≤ 1099511627776) ∧ (o.kind ≠ 15 → o.size = 0) ∧ (o.kind ≠ 7 → o.kind ≠ 15 → o.yes = false))
theorem chkO_iff (o : Ord) : chkO o = true ↔ OkO o := by
  unfold chkO
  rw [decide_eq_true_eq, chkS_iff]
  exact ⟨fun ⟨a, b, c, d, e, f, g, h, i, j, k, l, m, n⟩ => ⟨a, b, c, d, e, f, g, h, i, j, k, l, m, n⟩, fun ⟨a, b, c, d, e, f, g, h, i, j, k, l, m, n⟩ => ⟨a, b, c, d, e, f, g, h, i, j, k, l, m, n⟩⟩

/-- A field that is read. -/
def ostep (k : Nat) (o : Ord) (f : Fl) : Option Ord :=
  if f.1 = jobW then (within? f.2 1 1073741824).map fun n => { o with job := (n : Int) }
  else if f.1 = nK then (within? f.2 (lo k) (hi k)).map fun n => { o with n := (n : Int) }
  else if f.1 = resK then (if f.2 = okW then some { o with yes := true } else if f.2 = badW then some { o with yes := false } else none)
  else if f.1 = userK then (if isName f.2 = true then some { o with user := f.2 } else none)
  else if f.1 = nameK then (if isName f.2 = true then some { o with name := f.2 } else none)
  else if f.1 = capK then (match size? f.2 with
    | some n => if 0 < n then some { o with size := (n : Int) } else none
    | none => none)
  else if f.1 = poolK then (if isName f.2 = true then some { o with pool := f.2 } else none)
  else if f.1 = accK then (if f.2 = pubV then some { o with yes := true } else if f.2 = priV then some { o with yes := false } else none)
  else none
/-- The fields of a kind, one word each. -/
def orun (k : Nat) : Ord → List Tx → List Tx → Option Ord
  | o, [], [] => some o
  | o, key :: ks, w :: ws => match cut w with
    | some f => if f.1 = key then match ostep k o f with
      | some o' => orun k o' ks ws
      | none => none
      else none
    | none => none
  | _, _, _ => none
def kindO? (w : Tx) : Option Nat := ((List.range 19).filter fun k => decide (k ≠ 0 ∧ k ≠ 2 ∧ wordO k = w)).head?
/-- What a text denotes: the order, the error, its line. -/
def oread (s : Tx) : Ord × Int × Nat := if subL.isPrefixOf s = true then (match sread (s.drop 7) with
    | (x, e, i) => if e = 0 then ({ Ord.at 2 with slip := x }, 0, 0) else (Ord.zero, e, i + 1))
  else match cuts 32 s with
    | w :: ws => (match kindO? w with
      | some k => (match orun k (Ord.at k) (keysO k) ws with
        | some o => (o, 0, 0)
        | none => (Ord.zero, 160, 1))
      | none => (Ord.zero, 160, 1))
    | [] => (Ord.zero, 160, 1)
end Go.Proofs.YtekcjfdllclphaaGreatDoor.od
end
section
set_option linter.unusedVariables false
namespace Go.Proofs.YtekcjfdllclphaaGreatDoor.od
open Go.Proofs.YtekcjfdllclphaaGreatDoor.un
open Go.Proofs.YtekcjfdllclphaaGreatDoor.di
open Go.Proofs.YtekcjfdllclphaaGreatDoor.sp
open Go.Lib (decDigits)

theorem eighteen {k : Nat} (h : 1 ≤ k ∧ k ≤ 18) : k = 1 ∨ k = 2 ∨ k = 3 ∨ k = 4 ∨ k = 5 ∨ k = 6 ∨ k = 7 ∨ k = 8 ∨ k = 9 ∨ k = 10 ∨ k = 11 ∨ k = 12 ∨ k = 13 ∨ k = 14 ∨ k = 15 ∨ k = 16 ∨ k = 17 ∨ k = 18 := by omega
theorem kindO_word {k : Nat} (h : 1 ≤ k ∧ k ≤ 18) (h2 : k ≠ 2) : kindO? (wordO k) = some k := by
  rcases eighteen h with rfl | rfl | rfl | rfl | rfl | rfl | rfl | rfl | rfl | rfl | rfl | rfl | rfl | rfl | rfl | rfl | rfl | rfl <;> first | (exfalso; exact h2 rfl) | decide +kernel
theorem kindO_some {w : Tx} {k : Nat} (h : kindO? w = some k) : (1 ≤ k ∧ k ≤ 18) ∧ k ≠ 2 ∧ w = wordO k := by
  unfold kindO? at h
  have hm := List.mem_of_mem_head? h
  simp only [List.mem_filter, List.mem_range, decide_eq_true_eq] at hm
  exact ⟨⟨by omega, by omega⟩, hm.2.2.1, hm.2.2.2.symm⟩
theorem word_plain {k : Nat} (h : 1 ≤ k ∧ k ≤ 18) : plain (wordO k) ∧ wordO k ≠ [] ∧ (wordO k).length ≤ 7 := by
  rcases eighteen h with rfl | rfl | rfl | rfl | rfl | rfl | rfl | rfl | rfl | rfl | rfl | rfl | rfl | rfl | rfl | rfl | rfl | rfl <;> (unfold plain; decide)
/-- No order's first word but submit's begins as submit's. -/
theorem no_sub {k : Nat} (h : 1 ≤ k ∧ k ≤ 18) (r : Tx) : subL.isPrefixOf (wordO k) = false ∧ subL.isPrefixOf (wordO k ++ 32 :: r) = false := by
  rcases eighteen h with rfl | rfl | rfl | rfl | rfl | rfl | rfl | rfl | rfl | rfl | rfl | rfl | rfl | rfl | rfl | rfl | rfl | rfl <;> exact ⟨by decide, by simp [subL, wordO, List.isPrefixOf]⟩

/-! ### a field -/
theorem ostep_job (k : Nat) (o : Ord) {n : Int} (h0 : 1 ≤ n) (h1 : n ≤ 1073741824) : ostep k o (jobW, txt n) = some { o with job := n } := by
  unfold ostep
  rw [if_pos rfl, within_txt (a := 1) (b := 1073741824) h0 h1 (by decide)]
  show some { o with job := ((n.toNat : Nat) : Int) } = _
  rw [toNat_back (by omega)]
theorem hi_top (k : Nat) : hi k ≤ 1099511627776 := by
  unfold hi
  repeat' split
  all_goals decide
theorem ostep_n (k : Nat) (o : Ord) {n : Int} (h0 : (lo k : Int) ≤ n) (h1 : n ≤ hi k) : ostep k o (nK, txt n) = some { o with n := n } := by
  unfold ostep
  rw [if_neg (show ¬ nK = jobW by decide), if_pos rfl, within_txt (a := lo k) (b := hi k) h0 h1 (hi_top k)]
  show some { o with n := ((n.toNat : Nat) : Int) } = _
  rw [toNat_back (by omega)]
theorem ostep_res (k : Nat) (o : Ord) (b : Bool) : ostep k o (resK, if b then okW else badW) = some { o with yes := b } := by
  cases b <;> rfl
theorem ostep_user (k : Nat) (o : Ord) {v : Tx} (h : isName v = true) : ostep k o (userK, v) = some { o with user := v } := by
  show (if isName v = true then _ else _) = _
  rw [if_pos h]
theorem ostep_name (k : Nat) (o : Ord) {v : Tx} (h : isName v = true) : ostep k o (nameK, v) = some { o with name := v } := by
  show (if isName v = true then _ else _) = _
  rw [if_pos h]
theorem ostep_pool (k : Nat) (o : Ord) {v : Tx} (h : isName v = true) : ostep k o (poolK, v) = some { o with pool := v } := by
  show (if isName v = true then _ else _) = _
  rw [if_pos h]
theorem ostep_cap (k : Nat) (o : Ord) {v : Tx} {n : Nat} (h : size? v = some n) (h0 : 0 < n) : ostep k o (capK, v) = some { o with size := (n : Int) } := by
  show (match size? v with
    | some n => if 0 < n then some { o with size := (n : Int) } else none
    | none => none) = _
  rw [h]
  dsimp only
  rw [if_pos h0]
theorem ostep_acc (k : Nat) (o : Ord) (b : Bool) : ostep k o (accK, if b then pubV else priV) = some { o with yes := b } := by
  cases b <;> rfl
theorem cap_stxt {n : Int} (h : 1 ≤ n ∧ n ≤ 1099511627776) : ∃ m : Nat, size? (stxt n) = some m ∧ 0 < m ∧ (m : Int) = n := by
  obtain ⟨m, rfl⟩ : ∃ m : Nat, n = (m : Int) := ⟨n.toNat, by omega⟩
  exact ⟨m, size_stxt (by unfold top; omega), by omega, rfl⟩

theorem orun_cons (k : Nat) (o : Ord) (f : Fl) (ks ws : List Tx) (h : (61 : UInt8) ∉ f.1) : orun k o (f.1 :: ks) (wtx f :: ws) = match ostep k o f with
    | some o' => orun k o' ks ws
    | none => none := by
  rw [orun, cut_wtx h]
  dsimp only
  rw [if_pos rfl]
  all_goals (cases ostep k o f <;> rfl)
theorem orun_fs (k : Nat) : ∀ (fs : List Fl) (o : Ord), (∀ f ∈ fs, (61 : UInt8) ∉ f.1) → orun k o (fs.map (·.1)) (fs.map wtx) = fs.foldlM (ostep k) o
  | [], o, _ => rfl
  | f :: fs, o, h => by
    rw [List.map_cons, List.map_cons, orun_cons k o f _ _ (h f (by simp)), List.foldlM_cons]
    cases hs : ostep k o f with
    | none => rfl
    | some o' => exact orun_fs k fs o' fun g hg => h g (by simp [hg])
theorem orun_inv (k : Nat) : ∀ (ks ws : List Tx) (o o' : Ord), orun k o ks ws = some o' → ∃ fs : List Fl, ws = fs.map wtx ∧ fs.map (·.1) = ks ∧ fs.foldlM (ostep k) o = some o' ∧ ∀ f ∈ fs, (61 : UInt8) ∉ f.1
  | [], [], o, o', h => ⟨[], rfl, rfl, h, by simp⟩
  | [], _ :: _, o, o', h => by cases h
  | _ :: _, [], o, o', h => by cases h
  | key :: ks, w :: ws, o, o', h => by
    rw [orun] at h
    cases hc : cut w with
    | none => rw [hc] at h; cases h
    | some f =>
      rw [hc] at h
      dsimp only at h
      by_cases hk : f.1 = key
      · rw [if_pos hk] at h
        cases hs : ostep k o f with
        | none => rw [hs] at h; cases h
        | some o1 =>
          rw [hs] at h
          obtain ⟨fs, h1, h2, h3, h4⟩ := orun_inv k ks ws o1 o' h
          have hw := cut_some w f.1 f.2 hc
          refine ⟨f :: fs, by rw [h1, hw.1]; rfl, by rw [List.map_cons, h2, hk], by rw [List.foldlM_cons, hs]; exact h3, ?_⟩
          intro g hg
          rcases List.mem_cons.1 hg with rfl | hg
          · exact hw.2
          · exact h4 g hg
      · rw [if_neg hk] at h
        cases h
theorem key_clean {k : Nat} {key : Tx} (h : key ∈ keysO k) : (61 : UInt8) ∉ key ∧ plain key := by
  unfold keysO at h
  have : key = jobW ∨ key = nK ∨ key = resK ∨ key = userK ∨ key = nameK ∨ key = capK ∨ key = poolK ∨ key = accK := by
    simp only [List.mem_append] at h
    rcases h with ((((((h | h) | h) | h) | h) | h) | h) <;> split at h <;> simp at h <;> first | (rcases h with h | h <;> simp [h]) | simp [h]
  rcases this with rfl | rfl | rfl | rfl | rfl | rfl | rfl | rfl <;> (unfold plain; decide)
theorem fs_key {o : Ord} {f : Fl} (h : f ∈ fsO o) : (61 : UInt8) ∉ f.1 ∧ plain f.1 := key_clean (k := o.kind) (by
  rw [← keys_fs]
  exact List.mem_map.2 ⟨f, h, rfl⟩)
end Go.Proofs.YtekcjfdllclphaaGreatDoor.od
end
section
set_option linter.unusedVariables false
namespace Go.Proofs.YtekcjfdllclphaaGreatDoor.od
open Go.Proofs.YtekcjfdllclphaaGreatDoor.un
open Go.Proofs.YtekcjfdllclphaaGreatDoor.di
open Go.Proofs.YtekcjfdllclphaaGreatDoor.sp
open Go.Lib (decDigits)

theorem some_bind {α β : Type} (a : α) (f : α → Option β) : ((some a : Option α) >>= f) = f a := rfl
theorem fold_one (k : Nat) (o : Ord) (f : Fl) : [f].foldlM (ostep k) o = ostep k o f := by
  rw [List.foldlM_cons]
  cases ostep k o f <;> rfl
/-- The fields of an order that may be, taken, are the order. -/
theorem fold_fs {o : Ord} (h : OkO o) (h2 : o.kind ≠ 2) : (fsO o).foldlM (ostep o.kind) (Ord.at o.kind) = some o := by
  have hk := eighteen h.kind
  obtain ⟨k, job, n, name, pool, user, size, yes, slip⟩ := o
  obtain ⟨_, _, e1, e2, e3, e4, e5, e6, e7, e8, e9, e10, e11, e12⟩ := h
  dsimp only at *
  have e1 := e1 h2
  subst e1
  rcases hk with rfl | rfl | rfl | rfl | rfl | rfl | rfl | rfl | rfl | rfl | rfl | rfl | rfl | rfl | rfl | rfl | rfl | rfl
  all_goals first
    | exact absurd rfl h2
    | (have a0 := e3 rfl; have b0 := e4 rfl; have c0 := e7 rfl; have d0 := e9 rfl; have f0 := e11 (by decide); have g0 := e12 (by decide) (by decide)
       obtain ⟨c0, c1⟩ := c0
       subst a0 c0 c1 d0 f0 g0
       exact (fold_one _ _ _).trans (ostep_job _ _ b0.1 b0.2))
    | (have a0 := e2 rfl; have b0 := e5 rfl; have c0 := e7 rfl; have d0 := e9 rfl; have f0 := e11 (by decide); have g0 := e12 (by decide) (by decide)
       obtain ⟨c0, c1⟩ := c0
       subst b0 c0 c1 d0 f0 g0
       exact (fold_one _ _ _).trans (ostep_n _ _ a0.1 a0.2))
    | (have a0 := e3 rfl; have b0 := e5 rfl; have c0 := e7 rfl; have d0 := e8 rfl; have f0 := e11 (by decide); have g0 := e12 (by decide) (by decide)
       obtain ⟨c0, c1⟩ := c0
       subst a0 b0 c0 c1 f0 g0
       exact (fold_one _ _ _).trans (ostep_pool _ _ d0))
    | (have a0 := e2 rfl; have b0 := e4 rfl; have c0 := e7 rfl; have d0 := e9 rfl; have f0 := e11 (by decide); have g0 := e12 (by decide) (by decide)
       obtain ⟨c0, c1⟩ := c0
       subst c0 c1 d0 f0 g0
       show [(jobW, txt job), (nK, txt n)].foldlM (ostep 6) _ = _
       rw [List.foldlM_cons, ostep_job _ _ b0.1 b0.2]
       exact (fold_one _ _ _).trans (ostep_n _ _ a0.1 a0.2))
    | (have a0 := e3 rfl; have b0 := e4 rfl; have c0 := e7 rfl; have d0 := e9 rfl; have f0 := e11 (by decide)
       obtain ⟨c0, c1⟩ := c0
       subst a0 c0 c1 d0 f0
       show [(jobW, txt job), (resK, if yes then okW else badW)].foldlM (ostep 7) _ = _
       rw [List.foldlM_cons, ostep_job _ _ b0.1 b0.2]
       exact (fold_one _ _ _).trans (ostep_res _ _ _))
    | (have a0 := e3 rfl; have b0 := e5 rfl; have c0 := e6 rfl; have d0 := e9 rfl; have f0 := e11 (by decide); have g0 := e12 (by decide) (by decide)
       subst a0 b0 d0 f0 g0
       show [(userK, user), (nameK, name)].foldlM (ostep 16) _ = _
       rw [List.foldlM_cons, ostep_user _ _ c0.2]
       exact (fold_one _ _ _).trans (ostep_name _ _ c0.1))
    | (have a0 := e3 rfl; have b0 := e5 rfl; have c0 := e6 rfl; have d0 := e8 rfl; have f0 := e10 rfl
       subst a0 b0
       obtain ⟨m, m0, m1, m2⟩ := cap_stxt f0
       show [(userK, user), (nameK, name), (capK, stxt size), (poolK, pool), (accK, if yes then pubV else priV)].foldlM (ostep 15) _ = _
       rw [List.foldlM_cons, ostep_user _ _ c0.2, some_bind, List.foldlM_cons, ostep_name _ _ c0.1, some_bind, List.foldlM_cons, ostep_cap _ _ m0 m1, some_bind, List.foldlM_cons, ostep_pool _ _ d0, some_bind, fold_one, ostep_acc, m2]
       rfl)
theorem fs_plain {o : Ord} (h : OkO o) {f : Fl} (hf : f ∈ fsO o) : plain (wtx f) := by
  have p61 : plain [61] := by unfold plain; decide
  have hk := (fs_key hf).2
  show plain (f.1 ++ ([61] ++ f.2))
  refine plain_app hk (plain_app p61 ?_)
  unfold fsO at hf
  simp only [List.mem_append] at hf
  rcases hf with ((((((hf | hf) | hf) | hf) | hf) | hf) | hf) <;> split at hf <;> simp only [List.mem_cons, List.not_mem_nil, or_false] at hf
  · subst hf; exact plain_txt _
  · subst hf; exact plain_txt _
  · subst hf; cases o.yes <;> (unfold plain; decide)
  · next hu => rcases hf with rfl | rfl
               · exact plain_name (h.name1 hu).2
               · exact plain_name (h.name1 hu).1
  · subst hf; exact plain_stxt _
  · next hu => subst hf; exact plain_name (h.pool1 hu)
  · subst hf; cases o.yes <;> (unfold plain; decide)
theorem cuts_txtO {o : Ord} (h : OkO o) (h2 : o.kind ≠ 2) : cuts 32 (txtO o) = wordO o.kind :: (fsO o).map wtx := by
  unfold txtO
  rw [if_neg h2]
  refine cuts_join 32 _ (by simp) fun w hw => ?_
  rcases List.mem_cons.1 hw with rfl | hw
  · exact (word_plain h.kind).1.1
  · obtain ⟨f, hf, rfl⟩ := List.mem_map.1 hw
    exact (fs_plain h hf).1
theorem fs_ne {k : Nat} (h : 1 ≤ k ∧ k ≤ 18) (h2 : k ≠ 2) : keysO k ≠ [] := by
  rcases eighteen h with rfl | rfl | rfl | rfl | rfl | rfl | rfl | rfl | rfl | rfl | rfl | rfl | rfl | rfl | rfl | rfl | rfl | rfl <;> first | (exfalso; exact h2 rfl) | decide
/-- A text's begin tells whether it is a submit's. -/
theorem sub_no {s w : Tx} {ws : List Tx} {k : Nat} (hc : cuts 32 s = w :: ws) (hk : kindO? w = some k) : subL.isPrefixOf s = false := by
  obtain ⟨h1, h2, rfl⟩ := kindO_some hk
  have := join_cuts 32 s
  rw [hc] at this
  cases ws with
  | nil => rw [← this]; exact (no_sub h1 []).1
  | cons a r => rw [← this, joinC_cons 32 _ (by simp)]; exact (no_sub h1 _).2
theorem oread_cuts {s w : Tx} {ws : List Tx} {k : Nat} (hc : cuts 32 s = w :: ws) (hk : kindO? w = some k) : oread s = match orun k (Ord.at k) (keysO k) ws with
        | some o => (o, 0, 0)
        | none => (Ord.zero, 160, 1) := by
  unfold oread
  rw [sub_no hc hk, if_neg (by decide), hc]
  dsimp only
  rw [hk]
  all_goals (dsimp only; cases orun k (Ord.at k) (keysO k) ws <;> rfl)
theorem oread_txt {o : Ord} (h : OkO o) : oread (txtO o) = (o, 0, 0) := by
  by_cases h2 : o.kind = 2
  · have hr := read_text (h.slip1 h2)
    unfold oread txtO
    rw [if_pos h2, if_pos (by simp [subL, List.isPrefixOf])]
    rw [show (subL ++ txtS o.slip).drop 7 = txtS o.slip from rfl, hr]
    dsimp only
    rw [if_pos rfl]
    obtain ⟨k, job, n, name, pool, user, size, yes, slip⟩ := o
    obtain ⟨_, _, e1, e2, e3, e4, e5, e6, e7, e8, e9, e10, e11, e12⟩ := h
    dsimp only at *
    subst h2
    have a0 := e3 rfl; have b0 := e5 rfl; have c0 := e7 rfl; have d0 := e9 rfl; have f0 := e11 (by decide); have g0 := e12 (by decide) (by decide)
    obtain ⟨c0, c1⟩ := c0
    subst a0 b0 c0 c1 d0 f0 g0
    rfl
  · rw [oread_cuts (cuts_txtO h h2) (kindO_word h.kind h2), ← keys_fs, orun_fs _ _ _ fun f hf => (fs_key hf).1, fold_fs h h2]
theorem txtO_inj {a b : Ord} (ha : OkO a) (hb : OkO b) : txtO a = txtO b ↔ a = b := by
  refine ⟨fun e => ?_, fun e => by rw [e]⟩
  have h1 := oread_txt ha
  rw [e, oread_txt hb] at h1
  exact (Prod.mk.inj h1).1.symm
end Go.Proofs.YtekcjfdllclphaaGreatDoor.od
end
section
set_option linter.unusedVariables false
set_option linter.unusedSimpArgs false
namespace Go.Proofs.YtekcjfdllclphaaGreatDoor.gn
open Go.RowKit
open Go.Proofs.YtekcjfdllclphaaGreatDoor.un
open Go.Proofs.YtekcjfdllclphaaGreatDoor.di
open Go.Proofs.YtekcjfdllclphaaGreatDoor.sp (Slip)

theorem rdc_new (w : World) (t : TypeId) (n c : Nat) (cs : List Value) : RdC (w.alloc (.cells cs.toArray t)) (.slice (some ⟨w.heap.size, 0, none⟩) n c) n cs :=
  .inr ⟨_, 0, c, rfl, (BoxA.new w t cs.toArray).lt, fun j u hu => by
    rw [Nat.zero_add]
    exact (BoxA.new w t cs.toArray).cell j u (by simpa using hu)⟩
theorem ap_own {base : Nat} {e : TypeId} {size : Nat} {w : World} {v : Value} {n : Nat} {cs : List Value} (h : ApC base e size w v n cs) (hn : 0 < n) : w.ownsRow base e size v n cs := by
  rcases h with ⟨p, _, h0, _⟩ | h
  · omega
  · exact h
theorem SR.as {W : World} {x y : Slip} {g : Gh} (h : SR W x g) (ha : y.after = x.after) (hm : y.make = x.make) (hd : y.drop = x.drop) (hu : y.use = x.use) : SR W y g :=
  ⟨by rw [ha]; exact h.a, by rw [hm]; exact h.m, by rw [hd]; exact h.d, by rw [hu]; exact h.u, by rw [ha]; exact h.ca, by rw [hm]; exact h.cm, by rw [hd]; exact h.cd, by rw [hu]; exact h.cu⟩
theorem box_put {W : World} {n2 : Nat} {x y : Slip} {g gy : Gh} (h : BoxA W n2 27 (scs x g)) (j : Nat) (u : Value) (hc : (scs x g).setIfInBounds j u = scs y gy) : BoxA (W.setCell ⟨n2, j, none⟩ u) n2 27 (scs y gy) := by
  rw [← hc]
  exact BoxA.set h j u
theorem lowc_put {wb W : World} {n2 : Nat} (h : Below wb.heap.size wb W) (hn : wb.heap.size ≤ n2) (j : Nat) (u : Value) : Below wb.heap.size wb (W.setCell ⟨n2, j, none⟩ u) := h.setCell (p := ⟨n2, j, none⟩) hn u
theorem box_end (w : World) (z cs : Array Value) (t : TypeId) : ∃ W, (w.alloc (.cells z t)).setRow w.heap.size cs = W ∧ BoxA W w.heap.size t cs ∧ Below w.heap.size w W :=
  ⟨_, rfl, setRow_heap _ _ _ _ _ _ (BoxA.new w t z), below_setRow ((Below.refl _ w).alloc (Nat.le_refl _) _) (Nat.le_refl _) _⟩
end Go.Proofs.YtekcjfdllclphaaGreatDoor.gn
end
section
set_option linter.unusedVariables false
namespace Go.Proofs.YtekcjfdllclphaaGreatDoor.gn
open Go.ChangeShapes Go.WideShapes Go.ChangeAt Go.RowKit

/-- The seven tables and errors. -/
def laid7 : List (String × DataW Unit) := [("math/bits.deBruijn32tab", Rows.laid_math_bits_deBruijn32tab), ("math/bits.deBruijn64tab", Rows.laid_math_bits_deBruijn64tab), ("internal/strconv.uint64pow10", Rows.laid_internal_strconv_uint64pow10), ("unicode/utf8.acceptRanges", Rows.laid_unicode_utf8_acceptRanges), ("strconv.ErrRange", Rows.laid_strconv_ErrRange), ("strconv.ErrSyntax", Rows.laid_strconv_ErrSyntax), ("unicode/utf8.first", Rows.laid_unicode_utf8_first)]

theorem starE : "*" ++ "errors.errorString" = "*errors.errorString" := by decide
theorem rowE (u : TypeId) (h : Tryz.prog.typeName? 3 u = some "*errors.errorString") : u = 220 :=
  typeName_ptr_named (nm := "errors.errorString") (by rw [starE]; kernel_rfl) (by kernel_rfl) (by decide) u (by rw [starE]; exact h)
theorem tabE : (Rows.laid_internal_strconv_uint64pow10 : DataW Unit) = Lib.tabData .u64 Lib.pow10Tab := by kernel_rfl

theorem laidU_of {W : World} (h : laidMetH Tryz.prog laid7 W) : LaidU W := by
  rw [MakeChecks.laidMetH_plain _ _ _ (by kernel_rfl)] at h
  have h3 := h.tail.tail
  have h6 := h3.tail.tail.tail
  rw [tabE] at h3
  refine ⟨Lib.tabIs_of_head (show Tryz.prog.globalNamed "internal/strconv.uint64pow10" = some 1 by kernel_rfl) (show (Tryz.prog.globals[1]?).map (·.type) = some 207 by kernel_rfl) Tryz.underlying207 Tryz.underlying192 (by kernel_rfl) (by kernel_rfl) h3, ?_⟩
  obtain ⟨a0, s0, hv0, -, -, -⟩ := laid_sentinel h6 (show Tryz.prog.globalNamed "strconv.ErrSyntax" = some 2 by kernel_rfl) (show (Tryz.prog.globals[2]?).map (·.type) = some 172 by kernel_rfl) Tryz.underlying172 rowE Tryz.underlying220 Tryz.underlying222 rfl rfl Tryz.underlying9 (by kernel_rfl) (by kernel_rfl)
  exact ⟨_, _, hv0⟩
theorem max_of {W : World} (h : W.ShapedOpen Tryz.prog) : ∃ m : Int, W.cell? ⟨0, 0, none⟩ = some (.int .i64 m) :=
  cell_of_shapedOpen_int (t := 3) (zero := #[.int .i64 0]) h (of_decide_eq_true (by kernel_rfl)) (by kernel_rfl) rfl (by kernel_rfl) (by kernel_rfl) Tryz.underlying3
theorem laidD_of {W : World} (h : laidMetH Tryz.prog laid7 W) (hs : W.ShapedOpen Tryz.prog) : LaidD W := ⟨laidU_of h, max_of hs⟩

theorem laid_met (os : Os) (args : Array Value) : laidMetH Tryz.prog laid7 ((World.laidAll Tryz.prog os laid7).forCall (fun _ _ => 0) ⟨#[], args, []⟩).memory := by
  rw [MakeChecks.laidMetH_plain _ _ _ (by kernel_rfl)]
  exact laidMet_laidAll _ (by kernel_rfl) (by kernel_rfl)
theorem laid_shape (os : Os) : (World.laidAll Tryz.prog os laid7).os = os := World.laidAll_os _ _ _

/-- A row with a list, in a world that has a shape. -/
theorem handed_shaped {H : Type} {enc : TypeId × Value → H} {a : Assume} {C : Checked} {os : Os} {f : FuncId} {fn : Func} {s : ChangeSpec} {conds : List PathCond} {apart fresh handsOn again : Bool} {X : World → Array Value → Prop}
    (hX : ∀ (w w' : World) (args : Array Value), w.heap = w'.heap → X w args → X w' args)
    (own : ownKnob C.prog.godebug = none) (started : os.Started) (noInit : C.prog.inits.idxOf? f = none) (hfn : C.prog.funcs[f]? = some fn)
    (witness : ∃ (w : World) (tape : Tape) (i : Input), w.os = os ∧ (w.forCall tape i).Shaped C.prog ∧ i.vars = [] ∧ Input.okWide C.prog (w.forCall tape i) .any w.heap.size f i ∧
      ((s.pre enc C.prog fn conds apart (w.forCall tape i).memory i.args ∧ X (w.forCall tape i).memory i.args) ∧ sizedMet enc C.prog fn (OpenSpec.ofChange s) apart (w.forCall tape i).memory i.args) ∧ a.holds C.prog (lone (Frame.enter C.prog f i.args .normal) [] (w.forCall tape i)))
    (contract : ∀ (W : World) (base : Nat) (args : Array Value) (ds gs : List (DataW H)) (before : List MemPlace),
      (∀ (j : Nat) t v, fn.params[j]? = some t → args[j]? = some v → Value.okWide C.prog W .any base t v) →
      DataW.Whole enc C.prog fn.params.toList s.vars apart W args.toList ds gs before →
      W.ShapedOpen C.prog → X W args →
      Calls C.prog f args W fun e W' => ∃ v, e = .returned v ∧ s.post enc C.prog fn apart fresh handsOn again W args v W') :
    ReturnsInHanded a C os f .any (fun w args => (s.pre enc C.prog fn conds apart w args ∧ X w args) ∧ sizedMet enc C.prog fn (OpenSpec.ofChange s) apart w args) (s.post enc C.prog fn apart fresh handsOn again) := by
  refine returnsInHanded_of_calls own started noInit witness ?_
  intro w tape i _ hsh _ hok hpre hholds
  obtain ⟨_, _, _, fn', hfn', _, _, _, _, hval⟩ := hok
  have e : fn' = fn := Option.some.inj (hfn'.symm.trans hfn)
  subst e
  obtain ⟨⟨⟨ds, gs, before, hw, hc⟩, hx⟩, hz⟩ := hpre
  have hw' := DataW.Whole.of_heap (w' := w.forCall tape i) (by rfl) hw
  refine (contract (w.forCall tape i) w.heap.size i.args ds gs before hval hw' hsh (hX _ _ _ (by rfl) hx)).mono fun e W' ⟨v, he, hp⟩ => ?_
  subst he
  exact ChangeSpec.post_blind hp
end Go.Proofs.YtekcjfdllclphaaGreatDoor.gn
end
