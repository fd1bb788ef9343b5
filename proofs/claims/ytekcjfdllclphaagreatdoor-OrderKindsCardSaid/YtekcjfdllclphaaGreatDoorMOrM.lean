/- Orders, plain: the kinds' words and fields, what a text denotes, an order's text, by the document. (Written ahead of the code.) -/
import Derived.Test.YtekcjfdllclphaaGreatDoorMSlR
import Derived.Test.YtekcjfdllclphaaGreatDoorMSlSa
import Derived.Test.YtekcjfdllclphaaGreatDoorMSlPa
import Derived.Test.YtekcjfdllclphaaGreatDoorMDiH
import Derived.Test.YtekcjfdllclphaaGreatDoorRows
import Derived.ProofKit
import Derived.LaidMore
import Derived.Lay
import Derived.Stop.Joined
import Derived.Stop.LaidErr
import Derived.Lib.LaidTab
import Derived.HandedShaped
import Derived.Shelf.Vars
import Derived.Test.YtekcjfdllclphaaGreatDoorMDiK
import Derived.WalkKit
import Derived.OpenShut
import Derived.Test.YtekcjfdllclphaaGreatDoorMSlH
import Derived.Deep.Slices
section
set_option linter.unusedVariables false
namespace Go.Proofs.YtekcjfdllclphaaGreatDoor.od
open Go.Proofs.YtekcjfdllclphaaGreatDoor.un
open Go.Proofs.YtekcjfdllclphaaGreatDoor.di
open Go.Proofs.YtekcjfdllclphaaGreatDoor.sp

structure Ord where
  kind : Nat
  job : Int
  n : Int
  name : Tx
  pool : Tx
  user : Tx
  size : Int
  yes : Bool
  slip : Slip
deriving DecidableEq
def Ord.zero : Ord := ⟨0, 0, 0, [], [], [], 0, false, Slip.zero⟩
def Ord.at (k : Nat) : Ord := ⟨k, 0, 0, [], [], [], 0, false, Slip.zero⟩

/-- A kind's word. -/
def wordO : Nat → Tx
  | 1 => [116, 105, 99, 107]
  | 2 => [115, 117, 98, 109, 105, 116]
  | 3 => [99, 97, 110, 99, 101, 108]
  | 4 => [104, 111, 108, 100]
  | 5 => [114, 101, 108, 101, 97, 115, 101]
  | 6 => [113, 111, 115]
  | 7 => [101, 110, 100]
  | 8 => [102, 97, 117, 108, 116]
  | 9 => [102, 97, 105, 108]
  | 10 => [117, 112]
  | 11 => [100, 114, 97, 105, 110]
  | 12 => [114, 101, 115, 117, 109, 101]
  | 13 => [99, 108, 111, 115, 101]
  | 14 => [111, 112, 101, 110]
  | 15 => [109, 97, 107, 101]
  | 16 => [100, 114, 111, 112]
  | 17 => [115, 116, 97, 116, 117, 115]
  | 18 => [112, 111, 111, 108]
  | _ => []
def nK : Tx := [110]
def resK : Tx := [114, 101, 115, 117, 108, 116]
def badW : Tx := [98, 97, 100]
/-- The begin of a submit. -/
def subL : Tx := [115, 117, 98, 109, 105, 116, 10]
def hasJ (k : Nat) : Bool := decide ((3 ≤ k ∧ k ≤ 8) ∨ k = 17)
def hasN (k : Nat) : Bool := decide (k = 1 ∨ k = 6 ∨ (9 ≤ k ∧ k ≤ 12))
def hasU (k : Nat) : Bool := decide (k = 15 ∨ k = 16)
def hasP (k : Nat) : Bool := decide ((13 ≤ k ∧ k ≤ 15) ∨ k = 18)
def lo (k : Nat) : Nat := if k = 1 then 1 else 0
def hi (k : Nat) : Nat := if k = 1 then 1000 else if k = 6 then 9 else 63
/-- The fields of a kind, in their order. -/
def keysO (k : Nat) : List Tx := (if hasJ k then [jobW] else []) ++ (if hasN k then [nK] else []) ++ (if k = 7 then [resK] else []) ++ (if hasU k then [userK, nameK] else []) ++ (if k = 15 then [capK] else []) ++ (if hasP k then [poolK] else []) ++ (if k = 15 then [accK] else [])
/-- The fields of an order, in their order. -/
def fsO (o : Ord) : List Fl := (if hasJ o.kind then [(jobW, txt o.job)] else []) ++ (if hasN o.kind then [(nK, txt o.n)] else []) ++ (if o.kind = 7 then [(resK, if o.yes then okW else badW)] else []) ++ (if hasU o.kind then [(userK, o.user), (nameK, o.name)] else []) ++ (if o.kind = 15 then [(capK, stxt o.size)] else []) ++ (if hasP o.kind then [(poolK, o.pool)] else []) ++ (if o.kind = 15 then [(accK, if o.yes then pubV else priV)] else [])
theorem keys_fs (o : Ord) : (fsO o).map (·.1) = keysO o.kind := by
  unfold fsO keysO
  simp only [List.map_append]
  repeat' split
  all_goals rfl
def txtO (o : Ord) : Tx := if o.kind = 2 then subL ++ txtS o.slip else joinC 32 (wordO o.kind :: (fsO o).map wtx)
structure OkO (o : Ord) : Prop where
  kind : 1 ≤ o.kind ∧ o.kind ≤ 18
  slip1 : o.kind = 2 → Ok o.slip
  slip0 : o.kind ≠ 2 → o.slip = Slip.zero
  n1 : hasN o.kind = true → (lo o.kind : Int) ≤ o.n ∧ o.n ≤ hi o.kind
  n0 : hasN o.kind = false → o.n = 0
  job1 : hasJ o.kind = true → 1 ≤ o.job ∧ o.job ≤ 1073741824
  job0 : hasJ o.kind = false → o.job = 0
  name1 : hasU o.kind = true → isName o.name = true ∧ isName o.user = true
  name0 : hasU o.kind = false → o.name = [] ∧ o.user = []
  pool1 : hasP o.kind = true → isName o.pool = true
  pool0 : hasP o.kind = false → o.pool = []
  size1 : o.kind = 15 → 1 ≤ o.size ∧ o.size ≤ 1099511627776
  size0 : o.kind ≠ 15 → o.size = 0
  yes0 : o.kind ≠ 7 → o.kind ≠ 15 → o.yes = false
/-- May an order be? -/
def chkO (o : Ord) : Bool := decide ((1 ≤ o.kind ∧ o.kind ≤ 18) ∧ (o.kind = 2 → chkS o.slip = true) ∧ (o.kind ≠ 2 → o.slip = Slip.zero) ∧ (hasN o.kind = true → (lo o.kind : Int) ≤ o.n ∧ o.n ≤ hi o.kind) ∧ (hasN o.kind = false → o.n = 0)
  ∧ (hasJ o.kind = true → 1 ≤ o.job ∧ o.job ≤ 1073741824) ∧ (hasJ o.kind = false → o.job = 0) ∧ (hasU o.kind = true → isName o.name = true ∧ isName o.user = true) ∧ (hasU o.kind = false → o.name = [] ∧ o.user = [])
  ∧ (hasP o.kind = true → isName o.pool = true) ∧ (hasP o.kind = false → o.pool = []) ∧ (o.kind = 15 → 1 ≤ o.size ∧ o.size ≤ 1099511627776) ∧ (o.kind ≠ 15 → o.size = 0) ∧ (o.kind ≠ 7 → o.kind ≠ 15 → o.yes = false))
theorem chkO_iff (o : Ord) : chkO o = true ↔ OkO o := by
  unfold chkO
  rw [decide_eq_true_eq, chkS_iff]
  exact ⟨fun ⟨a, b, c, d, e, f, g, h, i, j, k, l, m, n⟩ => ⟨a, b, c, d, e, f, g, h, i, j, k, l, m, n⟩, fun ⟨a, b, c, d, e, f, g, h, i, j, k, l, m, n⟩ => ⟨a, b, c, d, e, f, g, h, i, j, k, l, m, n⟩⟩

/-- A field that is read. -/
def ostep (k : Nat) (o : Ord) (f : Fl) : Option Ord :=
  if f.1 = jobW then (within? f.2 1 1073741824).map fun n => { o with job := (n : Int) }
  else if f.1 = nK then (within? f.2 (lo k) (hi k)).map fun n => { o with n := (n : Int) }
  else if f.1 = resK then (if f.2 = okW then some { o with yes := true } else if f.2 = badW then some { o with yes := false } else none)
  else if f.1 = userK then (if isName f.2 = true then some { o with user := f.2 } else none)
  else if f.1 = nameK then (if isName f.2 = true then some { o with name := f.2 } else none)
  else if f.1 = capK then (match size? f.2 with
    | some n => if 0 < n then some { o with size := (n : Int) } else none
    | none => none)
  else if f.1 = poolK then (if isName f.2 = true then some { o with pool := f.2 } else none)
  else if f.1 = accK then (if f.2 = pubV then some { o with yes := true } else if f.2 = priV then some { o with yes := false } else none)
  else none
/-- The fields of a kind, one word each. -/
def orun (k : Nat) : Ord → List Tx → List Tx → Option Ord
  | o, [], [] => some o
  | o, key :: ks, w :: ws => match cut w with
    | some f => if f.1 = key then match ostep k o f with
      | some o' => orun k o' ks ws
      | none => none
      else none
    | none => none
  | _, _, _ => none
def kindO? (w : Tx) : Option Nat := ((List.range 19).filter fun k => decide (k ≠ 0 ∧ k ≠ 2 ∧ wordO k = w)).head?
/-- What a text denotes: the order, the error, its line. -/
def oread (s : Tx) : Ord × Int × Nat := if subL.isPrefixOf s = true then (match sread (s.drop 7) with
    | (x, e, i) => if e = 0 then ({ Ord.at 2 with slip := x }, 0, 0) else (Ord.zero, e, i + 1))
  else match cuts 32 s with
    | w :: ws => (match kindO? w with
      | some k => (match orun k (Ord.at k) (keysO k) ws with
        | some o => (o, 0, 0)
        | none => (Ord.zero, 160, 1))
      | none => (Ord.zero, 160, 1))
    | [] => (Ord.zero, 160, 1)
end Go.Proofs.YtekcjfdllclphaaGreatDoor.od
end
section
set_option linter.unusedVariables false
namespace Go.Proofs.YtekcjfdllclphaaGreatDoor.od
open Go.Proofs.YtekcjfdllclphaaGreatDoor.un
open Go.Proofs.YtekcjfdllclphaaGreatDoor.di
open Go.Proofs.YtekcjfdllclphaaGreatDoor.sp
open Go.Lib (decDigits)

theorem eighteen {k : Nat} (h : 1 ≤ k ∧ k ≤ 18) : k = 1 ∨ k = 2 ∨ k = 3 ∨ k = 4 ∨ k = 5 ∨ k = 6 ∨ k = 7 ∨ k = 8 ∨ k = 9 ∨ k = 10 ∨ k = 11 ∨ k = 12 ∨ k = 13 ∨ k = 14 ∨ k = 15 ∨ k = 16 ∨ k = 17 ∨ k = 18 := by omega
theorem kindO_word {k : Nat} (h : 1 ≤ k ∧ k ≤ 18) (h2 : k ≠ 2) : kindO? (wordO k) = some k := by
  rcases eighteen h with rfl | rfl | rfl | rfl | rfl | rfl | rfl | rfl | rfl | rfl | rfl | rfl | rfl | rfl | rfl | rfl | rfl | rfl <;> first | (exfalso; exact h2 rfl) | decide +kernel
theorem kindO_some {w : Tx} {k : Nat} (h : kindO? w = some k) : (1 ≤ k ∧ k ≤ 18) ∧ k ≠ 2 ∧ w = wordO k := by
  unfold kindO? at h
  have hm := List.mem_of_mem_head? h
  simp only [List.mem_filter, List.mem_range, decide_eq_true_eq] at hm
  exact ⟨⟨by omega, by omega⟩, hm.2.2.1, hm.2.2.2.symm⟩
theorem word_plain {k : Nat} (h : 1 ≤ k ∧ k ≤ 18) : plain (wordO k) ∧ wordO k ≠ [] ∧ (wordO k).length ≤ 7 := by
  rcases eighteen h with rfl | rfl | rfl | rfl | rfl | rfl | rfl | rfl | rfl | rfl | rfl | rfl | rfl | rfl | rfl | rfl | rfl | rfl <;> (unfold plain; decide)
/-- No order's first word but submit's begins as submit's. -/
theorem no_sub {k : Nat} (h : 1 ≤ k ∧ k ≤ 18) (r : Tx) : subL.isPrefixOf (wordO k) = false ∧ subL.isPrefixOf (wordO k ++ 32 :: r) = false := by
  rcases eighteen h with rfl | rfl | rfl | rfl | rfl | rfl | rfl | rfl | rfl | rfl | rfl | rfl | rfl | rfl | rfl | rfl | rfl | rfl <;> exact ⟨by decide, by simp [subL, wordO, List.isPrefixOf]⟩

/-! ### a field -/
theorem ostep_job (k : Nat) (o : Ord) {n : Int} (h0 : 1 ≤ n) (h1 : n ≤ 1073741824) : ostep k o (jobW, txt n) = some { o with job := n } := by
  unfold ostep
  rw [if_pos rfl, within_txt (a := 1) (b := 1073741824) h0 h1 (by decide)]
  show some { o with job := ((n.toNat : Nat) : Int) } = _
  rw [toNat_back (by omega)]
theorem hi_top (k : Nat) : hi k ≤ 1099511627776 := by
  unfold hi
  repeat' split
  all_goals decide
theorem ostep_n (k : Nat) (o : Ord) {n : Int} (h0 : (lo k : Int) ≤ n) (h1 : n ≤ hi k) : ostep k o (nK, txt n) = some { o with n := n } := by
  unfold ostep
  rw [if_neg (show ¬ nK = jobW by decide), if_pos rfl, within_txt (a := lo k) (b := hi k) h0 h1 (hi_top k)]
  show some { o with n := ((n.toNat : Nat) : Int) } = _
  rw [toNat_back (by omega)]
theorem ostep_res (k : Nat) (o : Ord) (b : Bool) : ostep k o (resK, if b then okW else badW) = some { o with yes := b } := by
  cases b <;> rfl
theorem ostep_user (k : Nat) (o : Ord) {v : Tx} (h : isName v = true) : ostep k o (userK, v) = some { o with user := v } := by
  show (if isName v = true then _ else _) = _
  rw [if_pos h]
theorem ostep_name (k : Nat) (o : Ord) {v : Tx} (h : isName v = true) : ostep k o (nameK, v) = some { o with name := v } := by
  show (if isName v = true then _ else _) = _
  rw [if_pos h]
theorem ostep_pool (k : Nat) (o : Ord) {v : Tx} (h : isName v = true) : ostep k o (poolK, v) = some { o with pool := v } := by
  show (if isName v = true then _ else _) = _
  rw [if_pos h]
theorem ostep_cap (k : Nat) (o : Ord) {v : Tx} {n : Nat} (h : size? v = some n) (h0 : 0 < n) : ostep k o (capK, v) = some { o with size := (n : Int) } := by
  show (match size? v with
    | some n => if 0 < n then some { o with size := (n : Int) } else none
    | none => none) = _
  rw [h]
  dsimp only
  rw [if_pos h0]
theorem ostep_acc (k : Nat) (o : Ord) (b : Bool) : ostep k o (accK, if b then pubV else priV) = some { o with yes := b } := by
  cases b <;> rfl
theorem cap_stxt {n : Int} (h : 1 ≤ n ∧ n ≤ 1099511627776) : ∃ m : Nat, size? (stxt n) = some m ∧ 0 < m ∧ (m : Int) = n := by
  obtain ⟨m, rfl⟩ : ∃ m : Nat, n = (m : Int) := ⟨n.toNat, by omega⟩
  exact ⟨m, size_stxt (by unfold top; omega), by omega, rfl⟩

theorem orun_cons (k : Nat) (o : Ord) (f : Fl) (ks ws : List Tx) (h : (61 : UInt8) ∉ f.1) : orun k o (f.1 :: ks) (wtx f :: ws) = match ostep k o f with
    | some o' => orun k o' ks ws
    | none => none := by
  rw [orun, cut_wtx h]
  dsimp only
  rw [if_pos rfl]
  all_goals (cases ostep k o f <;> rfl)
theorem orun_fs (k : Nat) : ∀ (fs : List Fl) (o : Ord), (∀ f ∈ fs, (61 : UInt8) ∉ f.1) → orun k o (fs.map (·.1)) (fs.map wtx) = fs.foldlM (ostep k) o
  | [], o, _ => rfl
  | f :: fs, o, h => by
    rw [List.map_cons, List.map_cons, orun_cons k o f _ _ (h f (by simp)), List.foldlM_cons]
    cases hs : ostep k o f with
    | none => rfl
    | some o' => exact orun_fs k fs o' fun g hg => h g (by simp [hg])
theorem orun_inv (k : Nat) : ∀ (ks ws : List Tx) (o o' : Ord), orun k o ks ws = some o' → ∃ fs : List Fl, ws = fs.map wtx ∧ fs.map (·.1) = ks ∧ fs.foldlM (ostep k) o = some o' ∧ ∀ f ∈ fs, (61 : UInt8) ∉ f.1
  | [], [], o, o', h => ⟨[], rfl, rfl, h, by simp⟩
  | [], _ :: _, o, o', h => by cases h
  | _ :: _, [], o, o', h => by cases h
  | key :: ks, w :: ws, o, o', h => by
    rw [orun] at h
    cases hc : cut w with
    | none => rw [hc] at h; cases h
    | some f =>
      rw [hc] at h
      dsimp only at h
      by_cases hk : f.1 = key
      · rw [if_pos hk] at h
        cases hs : ostep k o f with
        | none => rw [hs] at h; cases h
        | some o1 =>
          rw [hs] at h
          obtain ⟨fs, h1, h2, h3, h4⟩ := orun_inv k ks ws o1 o' h
          have hw := cut_some w f.1 f.2 hc
          refine ⟨f :: fs, by rw [h1, hw.1]; rfl, by rw [List.map_cons, h2, hk], by rw [List.foldlM_cons, hs]; exact h3, ?_⟩
          intro g hg
          rcases List.mem_cons.1 hg with rfl | hg
          · exact hw.2
          · exact h4 g hg
      · rw [if_neg hk] at h
        cases h
theorem key_clean {k : Nat} {key : Tx} (h : key ∈ keysO k) : (61 : UInt8) ∉ key ∧ plain key := by
  unfold keysO at h
  have : key = jobW ∨ key = nK ∨ key = resK ∨ key = userK ∨ key = nameK ∨ key = capK ∨ key = poolK ∨ key = accK := by
    simp only [List.mem_append] at h
    rcases h with ((((((h | h) | h) | h) | h) | h) | h) <;> split at h <;> simp at h <;> first | (rcases h with h | h <;> simp [h]) | simp [h]
  rcases this with rfl | rfl | rfl | rfl | rfl | rfl | rfl | rfl <;> (unfold plain; decide)
theorem fs_key {o : Ord} {f : Fl} (h : f ∈ fsO o) : (61 : UInt8) ∉ f.1 ∧ plain f.1 := key_clean (k := o.kind) (by
  rw [← keys_fs]
  exact List.mem_map.2 ⟨f, h, rfl⟩)
end Go.Proofs.YtekcjfdllclphaaGreatDoor.od
end
section
set_option linter.unusedVariables false
namespace Go.Proofs.YtekcjfdllclphaaGreatDoor.od
open Go.Proofs.YtekcjfdllclphaaGreatDoor.un
open Go.Proofs.YtekcjfdllclphaaGreatDoor.di
open Go.Proofs.YtekcjfdllclphaaGreatDoor.sp
open Go.Lib (decDigits)

theorem some_bind {α β : Type} (a : α) (f : α → Option β) : ((some a : Option α) >>= f) = f a := rfl
theorem fold_one (k : Nat) (o : Ord) (f : Fl) : [f].foldlM (ostep k) o = ostep k o f := by
  rw [List.foldlM_cons]
  cases ostep k o f <;> rfl
/-- The fields of an order that may be, taken, are the order. -/
theorem fold_fs {o : Ord} (h : OkO o) (h2 : o.kind ≠ 2) : (fsO o).foldlM (ostep o.kind) (Ord.at o.kind) = some o := by
  have hk := eighteen h.kind
  obtain ⟨k, job, n, name, pool, user, size, yes, slip⟩ := o
  obtain ⟨_, _, e1, e2, e3, e4, e5, e6, e7, e8, e9, e10, e11, e12⟩ := h
  dsimp only at *
  have e1 := e1 h2
  subst e1
  rcases hk with rfl | rfl | rfl | rfl | rfl | rfl | rfl | rfl | rfl | rfl | rfl | rfl | rfl | rfl | rfl | rfl | rfl | rfl
  all_goals first
    | exact absurd rfl h2
    | (have a0 := e3 rfl; have b0 := e4 rfl; have c0 := e7 rfl; have d0 := e9 rfl; have f0 := e11 (by decide); have g0 := e12 (by decide) (by decide)
       obtain ⟨c0, c1⟩ := c0
       subst a0 c0 c1 d0 f0 g0
       exact (fold_one _ _ _).trans (ostep_job _ _ b0.1 b0.2))
    | (have a0 := e2 rfl; have b0 := e5 rfl; have c0 := e7 rfl; have d0 := e9 rfl; have f0 := e11 (by decide); have g0 := e12 (by decide) (by decide)
       obtain ⟨c0, c1⟩ := c0
       subst b0 c0 c1 d0 f0 g0
       exact (fold_one _ _ _).trans (ostep_n _ _ a0.1 a0.2))
    | (have a0 := e3 rfl; have b0 := e5 rfl; have c0 := e7 rfl; have d0 := e8 rfl; have f0 := e11 (by decide); have g0 := e12 (by decide) (by decide)
       obtain ⟨c0, c1⟩ := c0
       subst a0 b0 c0 c1 f0 g0
       exact (fold_one _ _ _).trans (ostep_pool _ _ d0))
    | (have a0 := e2 rfl; have b0 := e4 rfl; have c0 := e7 rfl; have d0 := e9 rfl; have f0 := e11 (by decide); have g0 := e12 (by decide) (by decide)
       obtain ⟨c0, c1⟩ := c0
       subst c0 c1 d0 f0 g0
       show [(jobW, txt job), (nK, txt n)].foldlM (ostep 6) _ = _
       rw [List.foldlM_cons, ostep_job _ _ b0.1 b0.2]
       exact (fold_one _ _ _).trans (ostep_n _ _ a0.1 a0.2))
    | (have a0 := e3 rfl; have b0 := e4 rfl; have c0 := e7 rfl; have d0 := e9 rfl; have f0 := e11 (by decide)
       obtain ⟨c0, c1⟩ := c0
       subst a0 c0 c1 d0 f0
       show [(jobW, txt job), (resK, if yes then okW else badW)].foldlM (ostep 7) _ = _
       rw [List.foldlM_cons, ostep_job _ _ b0.1 b0.2]
       exact (fold_one _ _ _).trans (ostep_res _ _ _))
    | (have a0 := e3 rfl; have b0 := e5 rfl; have c0 := e6 rfl; have d0 := e9 rfl; have f0 := e11 (by decide); have g0 := e12 (by decide) (by decide)
       subst a0 b0 d0 f0 g0
       show [(userK, user), (nameK, name)].foldlM (ostep 16) _ = _
       rw [List.foldlM_cons, ostep_user _ _ c0.2]
       exact (fold_one _ _ _).trans (ostep_name _ _ c0.1))
    | (have a0 := e3 rfl; have b0 := e5 rfl; have c0 := e6 rfl; have d0 := e8 rfl; have f0 := e10 rfl
       subst a0 b0
       obtain ⟨m, m0, m1, m2⟩ := cap_stxt f0
       show [(userK, user), (nameK, name), (capK, stxt size), (poolK, pool), (accK, if yes then pubV else priV)].foldlM (ostep 15) _ = _
       rw [List.foldlM_cons, ostep_user _ _ c0.2, some_bind, List.foldlM_cons, ostep_name _ _ c0.1, some_bind, List.foldlM_cons, ostep_cap _ _ m0 m1, some_bind, List.foldlM_cons, ostep_pool _ _ d0, some_bind, fold_one, ostep_acc, m2]
       rfl)
theorem fs_plain {o : Ord} (h : OkO o) {f : Fl} (hf : f ∈ fsO o) : plain (wtx f) := by
  have p61 : plain [61] := by unfold plain; decide
  have hk := (fs_key hf).2
  show plain (f.1 ++ ([61] ++ f.2))
  refine plain_app hk (plain_app p61 ?_)
  unfold fsO at hf
  simp only [List.mem_append] at hf
  rcases hf with ((((((hf | hf) | hf) | hf) | hf) | hf) | hf) <;> split at hf <;> simp only [List.mem_cons, List.not_mem_nil, or_false] at hf
  · subst hf; exact plain_txt _
  · subst hf; exact plain_txt _
  · subst hf; cases o.yes <;> (unfold plain; decide)
  · next hu => rcases hf with rfl | rfl
               · exact plain_name (h.name1 hu).2
               · exact plain_name (h.name1 hu).1
  · subst hf; exact plain_stxt _
  · next hu => subst hf; exact plain_name (h.pool1 hu)
  · subst hf; cases o.yes <;> (unfold plain; decide)
theorem cuts_txtO {o : Ord} (h : OkO o) (h2 : o.kind ≠ 2) : cuts 32 (txtO o) = wordO o.kind :: (fsO o).map wtx := by
  unfold txtO
  rw [if_neg h2]
  refine cuts_join 32 _ (by simp) fun w hw => ?_
  rcases List.mem_cons.1 hw with rfl | hw
  · exact (word_plain h.kind).1.1
  · obtain ⟨f, hf, rfl⟩ := List.mem_map.1 hw
    exact (fs_plain h hf).1
theorem fs_ne {k : Nat} (h : 1 ≤ k ∧ k ≤ 18) (h2 : k ≠ 2) : keysO k ≠ [] := by
  rcases eighteen h with rfl | rfl | rfl | rfl | rfl | rfl | rfl | rfl | rfl | rfl | rfl | rfl | rfl | rfl | rfl | rfl | rfl | rfl <;> first | (exfalso; exact h2 rfl) | decide
/-- A text's begin tells whether it is a submit's. -/
theorem sub_no {s w : Tx} {ws : List Tx} {k : Nat} (hc : cuts 32 s = w :: ws) (hk : kindO? w = some k) : subL.isPrefixOf s = false := by
  obtain ⟨h1, h2, rfl⟩ := kindO_some hk
  have := join_cuts 32 s
  rw [hc] at this
  cases ws with
  | nil => rw [← this]; exact (no_sub h1 []).1
  | cons a r => rw [← this, joinC_cons 32 _ (by simp)]; exact (no_sub h1 _).2
theorem oread_cuts {s w : Tx} {ws : List Tx} {k : Nat} (hc : cuts 32 s = w :: ws) (hk : kindO? w = some k) : oread s = match orun k (Ord.at k) (keysO k) ws with
        | some o => (o, 0, 0)
        | none => (Ord.zero, 160, 1) := by
  unfold oread
  rw [sub_no hc hk, if_neg (by decide), hc]
  dsimp only
  rw [hk]
  all_goals (dsimp only; cases orun k (Ord.at k) (keysO k) ws <;> rfl)
theorem oread_txt {o : Ord} (h : OkO o) : oread (txtO o) = (o, 0, 0) := by
  by_cases h2 : o.kind = 2
  · have hr := read_text (h.slip1 h2)
    unfold oread txtO
    rw [if_pos h2, if_pos (by simp [subL, List.isPrefixOf])]
    rw [show (subL ++ txtS o.slip).drop 7 = txtS o.slip from rfl, hr]
    dsimp only
    rw [if_pos rfl]
    obtain ⟨k, job, n, name, pool, user, size, yes, slip⟩ := o
    obtain ⟨_, _, e1, e2, e3, e4, e5, e6, e7, e8, e9, e10, e11, e12⟩ := h
    dsimp only at *
    subst h2
    have a0 := e3 rfl; have b0 := e5 rfl; have c0 := e7 rfl; have d0 := e9 rfl; have f0 := e11 (by decide); have g0 := e12 (by decide) (by decide)
    obtain ⟨c0, c1⟩ := c0
    subst a0 b0 c0 c1 d0 f0 g0
    rfl
  · rw [oread_cuts (cuts_txtO h h2) (kindO_word h.kind h2), ← keys_fs, orun_fs _ _ _ fun f hf => (fs_key hf).1, fold_fs h h2]
theorem txtO_inj {a b : Ord} (ha : OkO a) (hb : OkO b) : txtO a = txtO b ↔ a = b := by
  refine ⟨fun e => ?_, fun e => by rw [e]⟩
  have h1 := oread_txt ha
  rw [e, oread_txt hb] at h1
  exact (Prod.mk.inj h1).1.symm
end Go.Proofs.YtekcjfdllclphaaGreatDoor.od
end
section
set_option linter.unusedVariables false
set_option linter.unusedSimpArgs false
namespace Go.Proofs.YtekcjfdllclphaaGreatDoor.gn
open Go.RowKit
open Go.Proofs.YtekcjfdllclphaaGreatDoor.un
open Go.Proofs.YtekcjfdllclphaaGreatDoor.di
open Go.Proofs.YtekcjfdllclphaaGreatDoor.sp (Slip)

theorem rdc_new (w : World) (t : TypeId) (n c : Nat) (cs : List Value) : RdC (w.alloc (.cells cs.toArray t)) (.slice (some ⟨w.heap.size, 0, none⟩) n c) n cs :=
  .inr ⟨_, 0, c, rfl, (BoxA.new w t cs.toArray).lt, fun j u hu => by
    rw [Nat.zero_add]
    exact (BoxA.new w t cs.toArray).cell j u (by simpa using hu)⟩
theorem ap_own {base : Nat} {e : TypeId} {size : Nat} {w : World} {v : Value} {n : Nat} {cs : List Value} (h : ApC base e size w v n cs) (hn : 0 < n) : w.ownsRow base e size v n cs := by
  rcases h with ⟨p, _, h0, _⟩ | h
  · omega
  · exact h
theorem SR.as {W : World} {x y : Slip} {g : Gh} (h : SR W x g) (ha : y.after = x.after) (hm : y.make = x.make) (hd : y.drop = x.drop) (hu : y.use = x.use) : SR W y g :=
  ⟨by rw [ha]; exact h.a, by rw [hm]; exact h.m, by rw [hd]; exact h.d, by rw [hu]; exact h.u, by rw [ha]; exact h.ca, by rw [hm]; exact h.cm, by rw [hd]; exact h.cd, by rw [hu]; exact h.cu⟩
theorem box_put {W : World} {n2 : Nat} {x y : Slip} {g gy : Gh} (h : BoxA W n2 27 (scs x g)) (j : Nat) (u : Value) (hc : (scs x g).setIfInBounds j u = scs y gy) : BoxA (W.setCell ⟨n2, j, none⟩ u) n2 27 (scs y gy) := by
  rw [← hc]
  exact BoxA.set h j u
theorem lowc_put {wb W : World} {n2 : Nat} (h : Below wb.heap.size wb W) (hn : wb.heap.size ≤ n2) (j : Nat) (u : Value) : Below wb.heap.size wb (W.setCell ⟨n2, j, none⟩ u) := h.setCell (p := ⟨n2, j, none⟩) hn u
theorem box_end (w : World) (z cs : Array Value) (t : TypeId) : ∃ W, (w.alloc (.cells z t)).setRow w.heap.size cs = W ∧ BoxA W w.heap.size t cs ∧ Below w.heap.size w W :=
  ⟨_, rfl, setRow_heap _ _ _ _ _ _ (BoxA.new w t z), below_setRow ((Below.refl _ w).alloc (Nat.le_refl _) _) (Nat.le_refl _) _⟩
end Go.Proofs.YtekcjfdllclphaaGreatDoor.gn
end
section
set_option linter.unusedVariables false
namespace Go.Proofs.YtekcjfdllclphaaGreatDoor.gn
open Go.ChangeShapes Go.WideShapes Go.ChangeAt Go.RowKit

/-- The seven tables and errors. -/
def laid7 : List (String × DataW Unit) := [("math/bits.deBruijn32tab", Rows.laid_math_bits_deBruijn32tab), ("math/bits.deBruijn64tab", Rows.laid_math_bits_deBruijn64tab), ("internal/strconv.uint64pow10", Rows.laid_internal_strconv_uint64pow10), ("unicode/utf8.acceptRanges", Rows.laid_unicode_utf8_acceptRanges), ("strconv.ErrRange", Rows.laid_strconv_ErrRange), ("strconv.ErrSyntax", Rows.laid_strconv_ErrSyntax), ("unicode/utf8.first", Rows.laid_unicode_utf8_first)]

theorem starE : "*" ++ "errors.errorString" = "*errors.errorString" := by decide
theorem rowE (u : TypeId) (h : Tryz.prog.typeName? 3 u = some "*errors.errorString") : u = 220 :=
  typeName_ptr_named (nm := "errors.errorString") (by rw [starE]; kernel_rfl) (by kernel_rfl) (by decide) u (by rw [starE]; exact h)
theorem tabE : (Rows.laid_internal_strconv_uint64pow10 : DataW Unit) = Lib.tabData .u64 Lib.pow10Tab := by kernel_rfl

theorem laidU_of {W : World} (h : laidMetH Tryz.prog laid7 W) : LaidU W := by
  rw [MakeChecks.laidMetH_plain _ _ _ (by kernel_rfl)] at h
  have h3 := h.tail.tail
  have h6 := h3.tail.tail.tail
  rw [tabE] at h3
  refine ⟨Lib.tabIs_of_head (show Tryz.prog.globalNamed "internal/strconv.uint64pow10" = some 1 by kernel_rfl) (show (Tryz.prog.globals[1]?).map (·.type) = some 207 by kernel_rfl) Tryz.underlying207 Tryz.underlying192 (by kernel_rfl) (by kernel_rfl) h3, ?_⟩
  obtain ⟨a0, s0, hv0, -, -, -⟩ := laid_sentinel h6 (show Tryz.prog.globalNamed "strconv.ErrSyntax" = some 2 by kernel_rfl) (show (Tryz.prog.globals[2]?).map (·.type) = some 172 by kernel_rfl) Tryz.underlying172 rowE Tryz.underlying220 Tryz.underlying222 rfl rfl Tryz.underlying9 (by kernel_rfl) (by kernel_rfl)
  exact ⟨_, _, hv0⟩
theorem max_of {W : World} (h : W.ShapedOpen Tryz.prog) : ∃ m : Int, W.cell? ⟨0, 0, none⟩ = some (.int .i64 m) :=
  cell_of_shapedOpen_int (t := 3) (zero := #[.int .i64 0]) h (of_decide_eq_true (by kernel_rfl)) (by kernel_rfl) rfl (by kernel_rfl) (by kernel_rfl) Tryz.underlying3
theorem laidD_of {W : World} (h : laidMetH Tryz.prog laid7 W) (hs : W.ShapedOpen Tryz.prog) : LaidD W := ⟨laidU_of h, max_of hs⟩

theorem laid_met (os : Os) (args : Array Value) : laidMetH Tryz.prog laid7 ((World.laidAll Tryz.prog os laid7).forCall (fun _ _ => 0) ⟨#[], args, []⟩).memory := by
  rw [MakeChecks.laidMetH_plain _ _ _ (by kernel_rfl)]
  exact laidMet_laidAll _ (by kernel_rfl) (by kernel_rfl)
theorem laid_shape (os : Os) : (World.laidAll Tryz.prog os laid7).os = os := World.laidAll_os _ _ _

/-- A row with a list, in a world that has a shape. -/
theorem handed_shaped {H : Type} {enc : TypeId × Value → H} {a : Assume} {C : Checked} {os : Os} {f : FuncId} {fn : Func} {s : ChangeSpec} {conds : List PathCond} {apart fresh handsOn again : Bool} {X : World → Array Value → Prop}
    (hX : ∀ (w w' : World) (args : Array Value), w.heap = w'.heap → X w args → X w' args)
    (own : ownKnob C.prog.godebug = none) (started : os.Started) (noInit : C.prog.inits.idxOf? f = none) (hfn : C.prog.funcs[f]? = some fn)
    (witness : ∃ (w : World) (tape : Tape) (i : Input), w.os = os ∧ (w.forCall tape i).Shaped C.prog ∧ i.vars = [] ∧ Input.okWide C.prog (w.forCall tape i) .any w.heap.size f i ∧
      ((s.pre enc C.prog fn conds apart (w.forCall tape i).memory i.args ∧ X (w.forCall tape i).memory i.args) ∧ sizedMet enc C.prog fn (OpenSpec.ofChange s) apart (w.forCall tape i).memory i.args) ∧ a.holds C.prog (lone (Frame.enter C.prog f i.args .normal) [] (w.forCall tape i)))
    (contract : ∀ (W : World) (base : Nat) (args : Array Value) (ds gs : List (DataW H)) (before : List MemPlace),
      (∀ (j : Nat) t v, fn.params[j]? = some t → args[j]? = some v → Value.okWide C.prog W .any base t v) →
      DataW.Whole enc C.prog fn.params.toList s.vars apart W args.toList ds gs before →
      W.ShapedOpen C.prog → X W args →
      Calls C.prog f args W fun e W' => ∃ v, e = .returned v ∧ s.post enc C.prog fn apart fresh handsOn again W args v W') :
    ReturnsInHanded a C os f .any (fun w args => (s.pre enc C.prog fn conds apart w args ∧ X w args) ∧ sizedMet enc C.prog fn (OpenSpec.ofChange s) apart w args) (s.post enc C.prog fn apart fresh handsOn again) := by
  refine returnsInHanded_of_calls own started noInit witness ?_
  intro w tape i _ hsh _ hok hpre hholds
  obtain ⟨_, _, _, fn', hfn', _, _, _, _, hval⟩ := hok
  have e : fn' = fn := Option.some.inj (hfn'.symm.trans hfn)
  subst e
  obtain ⟨⟨⟨ds, gs, before, hw, hc⟩, hx⟩, hz⟩ := hpre
  have hw' := DataW.Whole.of_heap (w' := w.forCall tape i) (by rfl) hw
  refine (contract (w.forCall tape i) w.heap.size i.args ds gs before hval hw' hsh (hX _ _ _ (by rfl) hx)).mono fun e W' ⟨v, he, hp⟩ => ?_
  subst he
  exact ChangeSpec.post_blind hp
end Go.Proofs.YtekcjfdllclphaaGreatDoor.gn
end
section
set_option linter.unusedVariables false
namespace Go.Proofs.YtekcjfdllclphaaGreatDoor.gn
open Go.ChangeShapes Go.WideShapes Go.ChangeAt Go.RowKit
open Go.Proofs.YtekcjfdllclphaaGreatDoor.di

section
variable {H : Type} {enc : TypeId × Value → H} {W : World}
theorem dTrod5 {P : Program} {base : Nat} {spare : Nat → Bool} {held : Bool} {t : TypeId} {f0 f1 f2 f3 f4 : Field} {fuel : Nat} {cs : List Value} {x : DataW H × List MemPlace} (ht : P.underlying t = some (.struct #[f0, f1, f2, f3, f4])) (h : DataW.trod enc P W base spare held fuel t cs = some x) :
    ∃ y0 y1 y2 y3 y4 n, DataW.trod enc P W base spare held n f0.type ((cs.drop f0.offset).take (P.cellsOf f0.type)) = some y0 ∧ DataW.trod enc P W base spare held n f1.type ((cs.drop f1.offset).take (P.cellsOf f1.type)) = some y1 ∧
      DataW.trod enc P W base spare held n f2.type ((cs.drop f2.offset).take (P.cellsOf f2.type)) = some y2 ∧ DataW.trod enc P W base spare held n f3.type ((cs.drop f3.offset).take (P.cellsOf f3.type)) = some y3 ∧ DataW.trod enc P W base spare held n f4.type ((cs.drop f4.offset).take (P.cellsOf f4.type)) = some y4 := by
  obtain ⟨xs, n, _, rfl, hl, hlen, hf⟩ := DataW.trod_struct ht h
  match xs, hlen with
  | [y0, y1, y2, y3, y4], _ => exact ⟨y0, y1, y2, y3, y4, n, by simpa using hf 0 f0 rfl, by simpa using hf 1 f1 rfl, by simpa using hf 2 f2 rfl, by simpa using hf 3 f3 rfl, by simpa using hf 4 f4 rfl⟩
theorem dStr : Tryz.prog.cellsOf 9 = 1 := by kernel_rfl
theorem dU8 : Tryz.prog.cellsOf 5 = 1 := by kernel_rfl
theorem dI64 : Tryz.prog.cellsOf 2 = 1 := by kernel_rfl
theorem dBool : Tryz.prog.cellsOf 4 = 1 := by kernel_rfl
theorem dDir : (Tryz.prog.info? 80).map (·.size) = some 5 := by kernel_rfl
theorem dDir5 : Tryz.prog.cellsOf 80 = 5 := by kernel_rfl
theorem arr5 {cs : Array Value} (h : cs.size = 5) : ∃ c0 c1 c2 c3 c4, cs = #[c0, c1, c2, c3, c4] := by
  obtain ⟨l⟩ := cs
  match l, h with
  | [c0, c1, c2, c3, c4], _ => exact ⟨c0, c1, c2, c3, c4, rfl⟩
set_option maxRecDepth 100000 in
theorem open_dir {base : Nat} {v : Value} {d : DataW H} {p : List MemPlace} (hv : Value.okWide Tryz.prog W .any base 80 v) (h : DataW.Trod enc Tryz.prog W 0 (fun _ => true) true 80 v d p) :
    ∃ a : Dir, v = dV a ∧ DW a := by
  obtain ⟨cs, rfl, hsz⟩ := okWide_struct Tryz.underlying80 hv
  obtain ⟨c0, c1, c2, c3, c4, rfl⟩ := arr5 (hsz.trans dDir5)
  obtain ⟨fuel, hf⟩ := h
  have hf' : DataW.trod enc Tryz.prog W 0 (fun _ => true) true fuel 80 [c0, c1, c2, c3, c4] = some (d, p) := by simpa [Value.cells] using hf
  obtain ⟨z0, z1, z2, z3, z4, m, k0, k1, k2, k3, k4⟩ := dTrod5 Tryz.underlying80 hf'
  have k0 : DataW.trod enc Tryz.prog W 0 (fun _ => true) true m 5 [c0] = some z0 := by simpa [dU8] using k0
  have k1 : DataW.trod enc Tryz.prog W 0 (fun _ => true) true m 9 [c1] = some z1 := by simpa [dStr] using k1
  have k2 : DataW.trod enc Tryz.prog W 0 (fun _ => true) true m 9 [c2] = some z2 := by simpa [dStr] using k2
  have k3 : DataW.trod enc Tryz.prog W 0 (fun _ => true) true m 2 [c3] = some z3 := by simpa [dI64] using k3
  have k4 : DataW.trod enc Tryz.prog W 0 (fun _ => true) true m 4 [c4] = some z4 := by simpa [dBool] using k4
  obtain ⟨q0, e0, _, w0⟩ := DataW.trod_int Tryz.underlying5 k0
  obtain ⟨s1, e1, _, hs1⟩ := DataW.trod_string Tryz.underlying9 k1
  obtain ⟨s2, e2, _, hs2⟩ := DataW.trod_string Tryz.underlying9 k2
  obtain ⟨q3, e3, _, w3⟩ := DataW.trod_int Tryz.underlying2 k3
  obtain ⟨b4, e4, _⟩ := DataW.trod_bool Tryz.underlying4 k4
  simp at e0 e1 e2 e3 e4
  subst e0 e1 e2 e3 e4
  obtain ⟨l1, u1⟩ : 0 ≤ q0 ∧ q0 ≤ 255 := by simpa [Lit.wf, IntKind.min, IntKind.max, IntKind.signed, IntKind.bits] using w0
  obtain ⟨l3, u3⟩ : -9223372036854775808 ≤ q3 ∧ q3 ≤ 9223372036854775807 := by simpa [Lit.wf, IntKind.min, IntKind.max, IntKind.signed, IntKind.bits] using w3
  refine ⟨⟨q0.toNat, s1.data.toList, s2.data.toList, q3, b4⟩, ?_, ⟨by show q0.toNat < 256; omega, ?_, ?_, l3, u3⟩⟩
  · have : ((q0.toNat : Nat) : Int) = q0 := by omega
    simp [dV, dcs, str_of, this]
  · have : s1.size ≤ maxLen := by simpa using hs1
    unfold maxLen at this
    show s1.data.toList.length ≤ _
    rw [Array.length_toList]
    exact this
  · have : s2.size ≤ maxLen := by simpa using hs2
    unfold maxLen at this
    show s2.data.toList.length ≤ _
    rw [Array.length_toList]
    exact this
end
end Go.Proofs.YtekcjfdllclphaaGreatDoor.gn
end
section
set_option linter.unusedVariables false
namespace Go.Proofs.YtekcjfdllclphaaGreatDoor.gn
open Go.ChangeShapes Go.WideShapes Go.ChangeAt Go.RowKit Go.Deep
open Go.Proofs.YtekcjfdllclphaaGreatDoor.un
open Go.Proofs.YtekcjfdllclphaaGreatDoor.di
open Go.Proofs.YtekcjfdllclphaaGreatDoor.sp (Slip)

section
variable {H : Type} {enc : TypeId × Value → H} {W : World}
/-- A slice of whatever elements, opened. -/
theorem open_rowG {α : Type} (f : α → List Value) {k : Nat} (hf : ∀ x, (f x).length = k) (hk0 : 0 < k) (ok : α → Prop) (z : α) {t e : TypeId} (ht : Tryz.prog.underlying t = some (.slice e)) (he : Tryz.prog.cellsOf e = k)
    (h1 : ∀ fuel cs x, DataW.trod enc Tryz.prog W 0 (fun _ => true) true fuel e cs = some x → cs.length = k → ∃ y, cs = f y ∧ ok y)
    {fuel : Nat} {v : Value} {x : DataW H × List MemPlace} (h : DataW.trod enc Tryz.prog W 0 (fun _ => true) true fuel t [v] = some x) : ∃ l : List α, RdC W v l.length (l.flatMap f) ∧ Cp v l.length ∧ ∀ y ∈ l, ok y := by
  rcases open_slice ht h with ⟨hcs, _⟩ | ⟨a, len, cap, m, n, D, Pl, hcs, _, hle, hcap, hm, _, hi⟩
  · simp at hcs
    subst hcs
    exact ⟨[], .inl ⟨none, 0, rfl, rfl, rfl, fun _ => rfl⟩, ⟨_, _, rfl, Nat.le_refl _, by decide⟩, fun y hy => by cases hy⟩
  · simp at hcs
    subst hcs
    simp at hm
    have hex : ∀ i, i < len → ∃ y : α, (∀ j u, (f y)[j]? = some u → W.cell? ((a.add (i * k)).add j) = some u) ∧ ok y := fun i hil => by
      obtain ⟨cs', hc, ht⟩ := hi i (by omega)
      rw [he] at hc
      obtain ⟨_, hl, hcells⟩ := World.cells?_some hc
      obtain ⟨y, hy, hw⟩ := h1 _ _ _ ht hl
      refine ⟨y, fun j u hu => ?_, hw⟩
      rw [← hy] at hu
      exact (hcells j (by obtain ⟨hj, _⟩ := List.getElem?_eq_some_iff.1 hu; omega)).trans hu
    have hLx : ∃ L : List α, L.length = len ∧ ∀ i (hil : i < L.length), (∀ j u, (f L[i])[j]? = some u → W.cell? ((a.add (i * k)).add j) = some u) ∧ ok L[i] := by
      refine ⟨(List.range len).map fun i => if hil : i < len then Classical.choose (hex i hil) else z, by simp, fun i hil => ?_⟩
      have hil' : i < len := by simpa using hil
      simp only [List.getElem_map, List.getElem_range, dif_pos hil']
      exact Classical.choose_spec (hex i hil')
    obtain ⟨L, rfl, hL⟩ := hLx
    refine ⟨L, ?_, ⟨_, _, rfl, hle, hcap⟩, fun y hy => ?_⟩
    · by_cases h0 : L.length = 0
      · have e : L = [] := List.eq_nil_of_length_eq_zero h0
        subst e
        exact .inl ⟨some a, cap, rfl, rfl, rfl, fun e => by cases e⟩
      · obtain ⟨b, off, spot⟩ := a
        have h00 := (hL 0 (by omega)).1 0 ((f L[0])[0]'(by rw [hf]; exact hk0)) (List.getElem?_eq_getElem _)
        have hspot : spot = none := by simpa [Addr.add] using World.cell?_spot h00
        subst hspot
        have hadd : ∀ o j, (⟨b, o, none⟩ : Addr).add j = ⟨b, o + j, none⟩ := fun o j => by unfold Addr.add; split <;> simp_all
        simp only [hadd] at h00
        refine .inr ⟨b, off, cap, rfl, World.block_lt_of_cell? W _ h00, fun j u hu => ?_⟩
        have hjl : j < L.length * k := by
          have := (List.getElem?_eq_some_iff.1 hu).1
          rwa [flat_len f k hf] at this
        have hdm : j / k < L.length := Nat.div_lt_of_lt_mul (by rwa [Nat.mul_comm])
        have hmod : j % k < k := Nat.mod_lt _ hk0
        have hj : j = j / k * k + j % k := by rw [Nat.mul_comm]; exact (Nat.div_add_mod j k).symm
        have hq := (hL (j / k) hdm).1 (j % k) u (by
          rw [hj, flat_at f k hf L (j / k) (j % k) L[j / k] (List.getElem?_eq_getElem hdm) hmod] at hu
          exact hu)
        rw [hadd, hadd, Nat.add_assoc, ← hj] at hq
        exact hq
    · obtain ⟨i, hil, rfl⟩ := List.mem_iff_getElem.1 hy
      exact (hL i hil).2
theorem list2 {α : Type} {l : List α} (h : l.length = 2) : ∃ a b, l = [a, b] := by
  match l, h with
  | [a, b], _ => exact ⟨a, b, rfl⟩
theorem list5 {α : Type} {l : List α} (h : l.length = 5) : ∃ a b c d e, l = [a, b, c, d, e] := by
  match l, h with
  | [a, b, c, d, e], _ => exact ⟨a, b, c, d, e, rfl⟩
theorem list12 {α : Type} {l : List α} (h : l.length = 12) : ∃ a b c d e f g h i j k m, l = [a, b, c, d, e, f, g, h, i, j, k, m] := by
  match l, h with
  | [a, b, c, d, e, f, g, h, i, j, k, m], _ => exact ⟨a, b, c, d, e, f, g, h, i, j, k, m, rfl⟩
theorem open_int64 {fuel : Nat} {v : Value} {x : DataW H × List MemPlace} (h : DataW.trod enc Tryz.prog W 0 (fun _ => true) true fuel 2 [v] = some x) : ∃ n : Int, v = .int .i64 n ∧ -9223372036854775808 ≤ n ∧ n ≤ 9223372036854775807 := by
  obtain ⟨k, hk, _, hw⟩ := DataW.trod_int Tryz.underlying2 h
  simp at hk
  obtain ⟨l3, u3⟩ : -9223372036854775808 ≤ k ∧ k ≤ 9223372036854775807 := by simpa [Lit.wf, IntKind.min, IntKind.max, IntKind.signed, IntKind.bits] using hw
  exact ⟨k, hk, l3, u3⟩
theorem open_str {fuel : Nat} {v : Value} {x : DataW H × List MemPlace} (h : DataW.trod enc Tryz.prog W 0 (fun _ => true) true fuel 9 [v] = some x) : ∃ l : Tx, v = .string (str l) ∧ l.length ≤ 9223372036854775807 := by
  obtain ⟨s, e, _, hs⟩ := DataW.trod_string Tryz.underlying9 h
  simp at e
  have : s.size ≤ maxLen := by simpa using hs
  unfold maxLen at this
  exact ⟨s.data.toList, by rw [e, str_of], by rw [Array.length_toList]; exact this⟩
theorem dDep2 : Tryz.prog.cellsOf 88 = 2 := by kernel_rfl
theorem open_dep {fuel : Nat} {cs : List Value} {x : DataW H × List MemPlace} (h : DataW.trod enc Tryz.prog W 0 (fun _ => true) true fuel 88 cs = some x) (hl : cs.length = 2) :
    ∃ d : Dep, cs = cA d ∧ (-9223372036854775808 ≤ d.1 ∧ d.1 ≤ 9223372036854775807) := by
  obtain ⟨c0, c1, rfl⟩ := list2 hl
  obtain ⟨xs, m, _, rfl, _, hlen, hf⟩ := DataW.trod_struct Tryz.underlying88 h
  obtain ⟨z0, z1, rfl⟩ := list2 hlen
  have k0 : DataW.trod enc Tryz.prog W 0 (fun _ => true) true m 2 [c0] = some z0 := by simpa [dI64] using hf 0 _ rfl
  have k1 : DataW.trod enc Tryz.prog W 0 (fun _ => true) true m 4 [c1] = some z1 := by simpa [dBool] using hf 1 _ rfl
  obtain ⟨n, rfl, hn⟩ := open_int64 k0
  obtain ⟨b, e1, _⟩ := DataW.trod_bool Tryz.underlying4 k1
  simp at e1
  subst e1
  exact ⟨(n, b), rfl, hn⟩
theorem open_dir5 {fuel : Nat} {cs : List Value} {x : DataW H × List MemPlace} (h : DataW.trod enc Tryz.prog W 0 (fun _ => true) true fuel 80 cs = some x) (hl : cs.length = 5) :
    ∃ d : Dir, cs = cM d ∧ DW d := by
  obtain ⟨c0, c1, c2, c3, c4, rfl⟩ := list5 hl
  obtain ⟨xs, m, _, rfl, _, hlen, hf⟩ := DataW.trod_struct Tryz.underlying80 h
  obtain ⟨z0, z1, z2, z3, z4, rfl⟩ := list5 hlen
  have k0 : DataW.trod enc Tryz.prog W 0 (fun _ => true) true m 5 [c0] = some z0 := by simpa [dU8] using hf 0 _ rfl
  have k1 : DataW.trod enc Tryz.prog W 0 (fun _ => true) true m 9 [c1] = some z1 := by simpa [dStr] using hf 1 _ rfl
  have k2 : DataW.trod enc Tryz.prog W 0 (fun _ => true) true m 9 [c2] = some z2 := by simpa [dStr] using hf 2 _ rfl
  have k3 : DataW.trod enc Tryz.prog W 0 (fun _ => true) true m 2 [c3] = some z3 := by simpa [dI64] using hf 3 _ rfl
  have k4 : DataW.trod enc Tryz.prog W 0 (fun _ => true) true m 4 [c4] = some z4 := by simpa [dBool] using hf 4 _ rfl
  obtain ⟨q0, e0, _, w0⟩ := DataW.trod_int Tryz.underlying5 k0
  obtain ⟨n1, rfl, hn1⟩ := open_str k1
  obtain ⟨n2, rfl, hn2⟩ := open_str k2
  obtain ⟨n3, rfl, hn3⟩ := open_int64 k3
  obtain ⟨b4, e4, _⟩ := DataW.trod_bool Tryz.underlying4 k4
  simp at e0 e4
  subst e0 e4
  obtain ⟨l1, u1⟩ : 0 ≤ q0 ∧ q0 ≤ 255 := by simpa [Lit.wf, IntKind.min, IntKind.max, IntKind.signed, IntKind.bits] using w0
  refine ⟨⟨q0.toNat, n1, n2, n3, b4⟩, ?_, ⟨by show q0.toNat < 256; omega, hn1, hn2, hn3.1, hn3.2⟩⟩
  have : ((q0.toNat : Nat) : Int) = q0 := by omega
  simp [cM, this]
theorem open_s1 {fuel : Nat} {cs : List Value} {x : DataW H × List MemPlace} (h : DataW.trod enc Tryz.prog W 0 (fun _ => true) true fuel 9 cs = some x) (hl : cs.length = 1) : ∃ l : Tx, cs = cS l ∧ l.length ≤ 9223372036854775807 := by
  match cs, hl with
  | [c], _ =>
    obtain ⟨l, rfl, h2⟩ := open_str h
    exact ⟨l, rfl, h2⟩
theorem dRA : Tryz.prog.cellsOf 23 = 1 := by kernel_rfl
theorem dRM : Tryz.prog.cellsOf 24 = 1 := by kernel_rfl
theorem dRS : Tryz.prog.cellsOf 25 = 1 := by kernel_rfl
theorem dSlip12 : Tryz.prog.cellsOf 27 = 12 := by kernel_rfl
set_option maxRecDepth 100000 in
theorem open_slip {base : Nat} {v : Value} {d : DataW H} {p : List MemPlace} (hv : Value.okWide Tryz.prog W .any base 27 v) (h : DataW.Trod enc Tryz.prog W 0 (fun _ => true) true 27 v d p) :
    ∃ (x : Slip) (g : Gh), v = sV x g ∧ SR W x g ∧ SW x := by
  obtain ⟨cs, rfl, hsz⟩ := okWide_struct Tryz.underlying27 hv
  obtain ⟨l⟩ := cs
  obtain ⟨c0, c1, c2, c3, c4, c5, c6, c7, c8, c9, c10, c11, rfl⟩ := list12 (show l.length = 12 from hsz.trans dSlip12)
  obtain ⟨fuel, hf⟩ := h
  have hf' : DataW.trod enc Tryz.prog W 0 (fun _ => true) true fuel 27 [c0, c1, c2, c3, c4, c5, c6, c7, c8, c9, c10, c11] = some (d, p) := by simpa [Value.cells] using hf
  obtain ⟨xs, m, _, _, _, hlen, hk⟩ := DataW.trod_struct Tryz.underlying27 hf'
  obtain ⟨z0, z1, z2, z3, z4, z5, z6, z7, z8, z9, z10, z11, rfl⟩ := list12 hlen
  have k0 : DataW.trod enc Tryz.prog W 0 (fun _ => true) true m 9 [c0] = some z0 := by simpa [dStr] using hk 0 _ rfl
  have k1 : DataW.trod enc Tryz.prog W 0 (fun _ => true) true m 2 [c1] = some z1 := by simpa [dI64] using hk 1 _ rfl
  have k2 : DataW.trod enc Tryz.prog W 0 (fun _ => true) true m 2 [c2] = some z2 := by simpa [dI64] using hk 2 _ rfl
  have k3 : DataW.trod enc Tryz.prog W 0 (fun _ => true) true m 2 [c3] = some z3 := by simpa [dI64] using hk 3 _ rfl
  have k4 : DataW.trod enc Tryz.prog W 0 (fun _ => true) true m 23 [c4] = some z4 := by simpa [dRA] using hk 4 _ rfl
  have k5 : DataW.trod enc Tryz.prog W 0 (fun _ => true) true m 2 [c5] = some z5 := by simpa [dI64] using hk 5 _ rfl
  have k6 : DataW.trod enc Tryz.prog W 0 (fun _ => true) true m 2 [c6] = some z6 := by simpa [dI64] using hk 6 _ rfl
  have k7 : DataW.trod enc Tryz.prog W 0 (fun _ => true) true m 2 [c7] = some z7 := by simpa [dI64] using hk 7 _ rfl
  have k8 : DataW.trod enc Tryz.prog W 0 (fun _ => true) true m 9 [c8] = some z8 := by simpa [dStr] using hk 8 _ rfl
  have k9 : DataW.trod enc Tryz.prog W 0 (fun _ => true) true m 24 [c9] = some z9 := by simpa [dRM] using hk 9 _ rfl
  have k10 : DataW.trod enc Tryz.prog W 0 (fun _ => true) true m 25 [c10] = some z10 := by simpa [dRS] using hk 10 _ rfl
  have k11 : DataW.trod enc Tryz.prog W 0 (fun _ => true) true m 25 [c11] = some z11 := by simpa [dRS] using hk 11 _ rfl
  obtain ⟨us, rfl, hus⟩ := open_str k0
  obtain ⟨nodes, rfl, hno⟩ := open_int64 k1
  obtain ⟨wall, rfl, hwa⟩ := open_int64 k2
  obtain ⟨qos, rfl, hqo⟩ := open_int64 k3
  obtain ⟨cap, rfl, hca⟩ := open_int64 k5
  obtain ⟨inn, rfl, hin⟩ := open_int64 k6
  obtain ⟨out, rfl, hou⟩ := open_int64 k7
  obtain ⟨pool, rfl, hpo⟩ := open_str k8
  obtain ⟨after, ra, pa, wa⟩ := open_rowG cA (k := 2) (fun _ => rfl) (by decide) (fun d : Dep => -9223372036854775808 ≤ d.1 ∧ d.1 ≤ 9223372036854775807) (0, false) Tryz.underlying23 dDep2 (fun _ _ _ h hl => open_dep h hl) k4
  obtain ⟨mk, rm, pm, wm⟩ := open_rowG cM (k := 5) (fun _ => rfl) (by decide) DW ⟨0, [], [], 0, false⟩ Tryz.underlying24 dDir5 (fun _ _ _ h hl => open_dir5 h hl) k9
  obtain ⟨dr, rd, pd, wd⟩ := open_rowG cS (k := 1) (fun _ => rfl) (by decide) (fun l : Tx => l.length ≤ 9223372036854775807) [] Tryz.underlying25 dStr (fun _ _ _ h hl => open_s1 h hl) k10
  obtain ⟨use, ru, pu, wu⟩ := open_rowG cS (k := 1) (fun _ => rfl) (by decide) (fun l : Tx => l.length ≤ 9223372036854775807) [] Tryz.underlying25 dStr (fun _ _ _ h hl => open_s1 h hl) k11
  exact ⟨⟨us, nodes, wall, qos, after, cap, inn, out, pool, mk, dr, use⟩, ⟨c4, c9, c10, c11⟩, rfl, ⟨ra, rm, rd, ru, pa, pm, pd, pu⟩, ⟨hus, hpo, hno, hwa, hqo, hca, hin, hou, wa, wm, wd, wu⟩⟩
end
end Go.Proofs.YtekcjfdllclphaaGreatDoor.gn
end
