/- Directives as lines, plain: words, fields, what a line denotes, by the document. -/
import Derived.Test.YtpmghgfgbkncoaaGreatDoorUnN
set_option linter.unusedVariables false
namespace Go.Proofs.YtpmghgfgbkncoaaGreatDoor.di
open Go.Proofs.YtpmghgfgbkncoaaGreatDoor.un

abbrev Tx := List UInt8

/-! ### words -/
/-- A line's words, between blanks. -/
def words : Tx → List Tx
  | [] => [[]]
  | b :: r => if b = 32 then [] :: words r else match words r with
    | h :: t => (b :: h) :: t
    | [] => [[b]]
theorem words_bl (r : Tx) : words (32 :: r) = [] :: words r := by rw [words, if_pos rfl]
theorem words_nb {b : UInt8} (h : b ≠ 32) (r : Tx) : words (b :: r) = match words r with
    | h :: t => (b :: h) :: t
    | [] => [[b]] := by rw [words, if_neg h]
theorem words_ne : ∀ l : Tx, words l ≠ []
  | [] => by simp [words]
  | b :: r => by
    unfold words
    split
    · simp
    · split <;> simp
/-- The words, with a blank between each two. -/
def joinW : List Tx → Tx
  | [] => []
  | [a] => a
  | a :: b :: r => a ++ 32 :: joinW (b :: r)
theorem joinW_cons (a : Tx) {L : List Tx} (h : L ≠ []) : joinW (a :: L) = a ++ 32 :: joinW L := by
  cases L with
  | nil => exact absurd rfl h
  | cons b r => rfl
theorem join_words : ∀ l : Tx, joinW (words l) = l
  | [] => rfl
  | b :: r => by
    have ih := join_words r
    unfold words
    by_cases hb : b = 32
    · rw [if_pos hb, joinW_cons [] (words_ne r), ih, hb]
      rfl
    · rw [if_neg hb]
      cases hw : words r with
      | nil => exact absurd hw (words_ne r)
      | cons h t =>
        rw [hw] at ih
        dsimp only
        cases t with
        | nil => rw [← ih]; rfl
        | cons c t =>
          rw [← ih]
          rfl
theorem words_clean : ∀ (l : Tx) (w : Tx), w ∈ words l → (32 : UInt8) ∉ w
  | [], w, h => by
    simp [words] at h
    subst h
    simp
  | b :: r, w, h => by
    have ih := words_clean r
    unfold words at h
    by_cases hb : b = 32
    · rw [if_pos hb] at h
      rcases List.mem_cons.1 h with rfl | h
      · simp
      · exact ih w h
    · rw [if_neg hb] at h
      cases hw : words r with
      | nil => exact absurd hw (words_ne r)
      | cons x t =>
        rw [hw] at h ih
        dsimp only at h
        rcases List.mem_cons.1 h with rfl | h
        · have := ih x (by simp)
          simp only [List.mem_cons, not_or]
          exact ⟨fun e => hb e.symm, this⟩
        · exact ih w (by simp [h])
theorem words_app : ∀ (a : Tx) (r : Tx), (32 : UInt8) ∉ a → words (a ++ 32 :: r) = a :: words r
  | [], r, _ => by
    exact words_bl r
  | b :: a, r, h => by
    simp only [List.mem_cons, not_or] at h
    have ih := words_app a r h.2
    show words (b :: (a ++ 32 :: r)) = _
    rw [words_nb (fun e => h.1 e.symm), ih]
theorem words_one : ∀ (a : Tx), (32 : UInt8) ∉ a → words a = [a]
  | [], _ => rfl
  | b :: a, h => by
    simp only [List.mem_cons, not_or] at h
    rw [words_nb (fun e => h.1 e.symm), words_one a h.2]
theorem words_join : ∀ (L : List Tx), L ≠ [] → (∀ w ∈ L, (32 : UInt8) ∉ w) → words (joinW L) = L
  | [], h, _ => absurd rfl h
  | [a], _, h => words_one a (h a (by simp))
  | a :: b :: r, _, h => by
    rw [joinW_cons a (by simp), words_app a _ (h a (by simp)), words_join (b :: r) (by simp) (fun w hw => h w (by simp [hw]))]

/-! ### fields -/
/-- What stands ahead of the first '=', and behind it. -/
def cut : Tx → Option (Tx × Tx)
  | [] => none
  | b :: r => if b = 61 then some ([], r) else (cut r).map fun p => (b :: p.1, p.2)
theorem cut_at : ∀ (k v : Tx), (61 : UInt8) ∉ k → cut (k ++ 61 :: v) = some (k, v)
  | [], v, _ => by
    show cut (61 :: v) = _
    unfold cut
    rw [if_pos rfl]
  | b :: k, v, h => by
    simp only [List.mem_cons, not_or] at h
    show cut (b :: (k ++ 61 :: v)) = _
    unfold cut
    rw [if_neg (fun e => h.1 e.symm), cut_at k v h.2]
    rfl
theorem cut_some : ∀ (w k v : Tx), cut w = some (k, v) → w = k ++ 61 :: v ∧ (61 : UInt8) ∉ k
  | [], k, v, h => by simp [cut] at h
  | b :: r, k, v, h => by
    unfold cut at h
    by_cases hb : b = 61
    · rw [if_pos hb] at h
      simp only [Option.some.injEq, Prod.mk.injEq] at h
      obtain ⟨rfl, rfl⟩ := h
      subst hb
      simp
    · rw [if_neg hb] at h
      cases hc : cut r with
      | none => rw [hc] at h; simp at h
      | some p =>
        obtain ⟨k', v'⟩ := p
        rw [hc] at h
        simp only [Option.map_some, Option.some.injEq, Prod.mk.injEq] at h
        obtain ⟨rfl, rfl⟩ := h
        obtain ⟨e, hn⟩ := cut_some r k' v' hc
        refine ⟨by rw [e]; rfl, ?_⟩
        simp only [List.mem_cons, not_or]
        exact ⟨fun e => hb e.symm, hn⟩
theorem cut_none : ∀ (w : Tx), cut w = none → (61 : UInt8) ∉ w
  | [], _ => by simp
  | b :: r, h => by
    unfold cut at h
    by_cases hb : b = 61
    · rw [if_pos hb] at h
      cases h
    · rw [if_neg hb] at h
      simp only [Option.map_eq_none_iff] at h
      simp only [List.mem_cons, not_or]
      exact ⟨fun e => hb e.symm, cut_none r h⟩

def capK : Tx := [99, 97, 112, 97, 99, 105, 116, 121]
def sizeK : Tx := [115, 105, 122, 101]
def nameK : Tx := [110, 97, 109, 101]
def poolK : Tx := [112, 111, 111, 108]
def accK : Tx := [97, 99, 99, 101, 115, 115]
def pubV : Tx := [112, 117, 98, 108, 105, 99]
def priV : Tx := [112, 114, 105, 118, 97, 116, 101]
def bbW : Tx := [35, 66, 66]
/-- The words of the kinds, from 1 on. -/
def kindL : List Tx := [[106, 111, 98, 100, 119], [115, 116, 97, 103, 101, 95, 105, 110], [115, 116, 97, 103, 101, 95, 111, 117, 116],
  [99, 114, 101, 97, 116, 101, 95, 112, 101, 114, 115, 105, 115, 116, 101, 110, 116], [100, 101, 115, 116, 114, 111, 121, 95, 112, 101, 114, 115, 105, 115, 116, 101, 110, 116], [117, 115, 101, 95, 112, 101, 114, 115, 105, 115, 116, 101, 110, 116]]
def kw (k : Nat) : Tx := kindL.getD (k - 1) []

structure Dir where
  kind : Nat
  name : Tx
  pool : Tx
  size : Int
  opn : Bool
deriving DecidableEq
def Dir.zero : Dir := ⟨0, [], [], 0, false⟩

/-- Has a kind a pool; a name; a size? -/
def hasPool (k : Nat) : Bool := k == 1 || k == 4
def hasName (k : Nat) : Bool := decide (4 ≤ k)
def hasSize (k : Nat) : Bool := decide (k ≤ 4)
/-- The key of a kind's size. -/
def szK (k : Nat) : Tx := if hasPool k then capK else sizeK

abbrev Fl := Tx × Tx
/-- May the kind have that key? -/
def allow (k : Nat) (key : Tx) : Bool := (hasSize k && key == szK k) || (hasName k && key == nameK) || (hasPool k && key == poolK) || (k == 4 && key == accK)
/-- Is a value one of its key's? -/
def okv (key v : Tx) : Bool := if key = capK ∨ key = sizeK then decide (0 < (size? v).getD 0) else if key = nameK ∨ key = poolK then isName v else v == pubV || v == priV
def keys (fs : List Fl) : List Tx := fs.map (·.1)
def req (k : Nat) : List Tx := (if hasName k then [nameK] else []) ++ (if hasSize k then [szK k] else []) ++ (if hasPool k then [poolK] else [])
/-- The fields are a kind's. -/
def good (k : Nat) (fs : List Fl) : Prop := (keys fs).Nodup ∧ (∀ f ∈ fs, allow k f.1 = true ∧ okv f.1 f.2 = true) ∧ ∀ r ∈ req k, r ∈ keys fs
instance (k : Nat) (fs : List Fl) : Decidable (good k fs) := by unfold good; infer_instance
/-- The value of a key: empty, if it is not there. -/
def look (fs : List Fl) (key : Tx) : Tx := match fs.find? fun f => f.1 == key with
  | some f => f.2
  | none => []
def dirOf (k : Nat) (fs : List Fl) : Dir := ⟨k, look fs nameK, look fs poolK, (((size? (look fs (szK k))).getD 0 : Nat) : Int), look fs accK == pubV⟩
/-- What the fields of a kind denote. -/
def fields? (k : Nat) (ws : List Tx) : Option Dir := match ws.mapM cut with
  | some fs => if good k fs then some (dirOf k fs) else none
  | none => none
def kind? (w : Tx) : Option Nat := (kindL.findIdx? fun x => x == w).map (· + 1)
/-- What a line denotes. -/
def line? (l : Tx) : Option Dir := match words l with
  | b :: w :: ws => if b = bbW then match kind? w with
    | some k => fields? k ws
    | none => none
    else none
  | _ => none
/-- The error of a line, by the document. -/
def lerr (l : Tx) : Int := if 500 < l.length then 3 else if (line? l).isSome then 0 else 140
def ldir (l : Tx) : Dir := if 500 < l.length then Dir.zero else (line? l).getD Dir.zero

theorem look_snoc {fs : List Fl} {f : Fl} (h : f.1 ∉ keys fs) (key : Tx) : look (fs ++ [f]) key = if f.1 = key then f.2 else look fs key := by
  unfold look
  rw [List.find?_append]
  by_cases e : f.1 = key
  · rw [if_pos e]
    have hn : fs.find? (fun g => g.1 == key) = none := by
      rw [List.find?_eq_none]
      intro g hg hk
      apply h
      rw [e, ← (beq_iff_eq.1 hk)]
      exact List.mem_map.2 ⟨g, hg, rfl⟩
    rw [hn]
    simp [e]
  · rw [if_neg e]
    have : [f].find? (fun g => g.1 == key) = none := by simp [e]
    rw [this]
    cases fs.find? (fun g => g.1 == key) <;> rfl
theorem look_none {fs : List Fl} {key : Tx} (h : key ∉ keys fs) : look fs key = [] := by
  unfold look
  rw [show fs.find? (fun g => g.1 == key) = none by
    rw [List.find?_eq_none]
    intro g hg hk
    exact h (List.mem_map.2 ⟨g, hg, beq_iff_eq.1 hk⟩)]
theorem look_mem {fs : List Fl} {f : Fl} (hn : (keys fs).Nodup) (h : f ∈ fs) : look fs f.1 = f.2 := by
  induction fs with
  | nil => simp at h
  | cons g fs ih =>
    unfold keys at hn
    rw [List.map_cons, List.nodup_cons] at hn
    unfold look
    rw [List.find?_cons]
    rcases List.mem_cons.1 h with rfl | h
    · simp
    · have hne : (g.1 == f.1) = false := by
        rw [beq_eq_false_iff_ne]
        intro e
        exact hn.1 (List.mem_map.2 ⟨f, h, e.symm⟩)
      rw [hne]
      exact ih hn.2 h
theorem keys_snoc (fs : List Fl) (f : Fl) : keys (fs ++ [f]) = keys fs ++ [f.1] := by simp [keys]

/-- The order of the fields doesn't matter. -/
theorem good_perm {k : Nat} {fs gs : List Fl} (hp : fs.Perm gs) (h : good k fs) : good k gs := by
  obtain ⟨h1, h2, h3⟩ := h
  have hk : (keys fs).Perm (keys gs) := hp.map _
  exact ⟨hk.nodup_iff.1 h1, fun f hf => h2 f (hp.mem_iff.2 hf), fun r hr => hk.mem_iff.1 (h3 r hr)⟩
theorem look_perm {fs gs : List Fl} (hp : fs.Perm gs) (hn : (keys fs).Nodup) (key : Tx) : look fs key = look gs key := by
  have hk : (keys fs).Perm (keys gs) := hp.map _
  by_cases h : key ∈ keys fs
  · obtain ⟨f, hf, rfl⟩ := List.mem_map.1 h
    rw [look_mem hn hf, look_mem (hk.nodup_iff.1 hn) (hp.mem_iff.1 hf)]
  · rw [look_none h, look_none fun e => h (hk.mem_iff.2 e)]
theorem dirOf_perm {k : Nat} {fs gs : List Fl} (hp : fs.Perm gs) (hn : (keys fs).Nodup) : dirOf k fs = dirOf k gs := by
  unfold dirOf
  rw [look_perm hp hn, look_perm hp hn, look_perm hp hn, look_perm hp hn]
end Go.Proofs.YtpmghgfgbkncoaaGreatDoor.di
