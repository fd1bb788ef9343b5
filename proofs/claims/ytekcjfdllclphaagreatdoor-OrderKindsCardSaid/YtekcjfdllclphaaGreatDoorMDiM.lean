/- Directives as lines, plain: words, fields, what a line denotes, by the document. -/
import Derived.Test.YtekcjfdllclphaaGreatDoorMUnN
import Derived.Ground.NamesProg
import Derived.Shelf.Small.Wraps
import Derived.Shelf.Strconv.ErrVarParseInt
import Derived.Shelf.Strconv.Itoa4
import Derived.Test.YtekcjfdllclphaaGreatDoorProg
section
set_option linter.unusedVariables false
namespace Go.Proofs.YtekcjfdllclphaaGreatDoor.di
open Go.Proofs.YtekcjfdllclphaaGreatDoor.un

abbrev Tx := List UInt8

/-! ### words -/
/-- A line's words, between blanks. -/
def words : Tx → List Tx
  | [] => [[]]
  | b :: r => if b = 32 then [] :: words r else match words r with
    | h :: t => (b :: h) :: t
    | [] => [[b]]
theorem words_bl (r : Tx) : words (32 :: r) = [] :: words r := by rw [words, if_pos rfl]
theorem words_nb {b : UInt8} (h : b ≠ 32) (r : Tx) : words (b :: r) = match words r with
    | h :: t => (b :: h) :: t
    | [] => [[b]] := by rw [words, if_neg h]
theorem words_ne : ∀ l : Tx, words l ≠ []
  | [] => by simp [words]
  | b :: r => by
    unfold words
    split
    · simp
    · split <;> simp
/-- The words, with a blank between each two. -/
def joinW : List Tx → Tx
  | [] => []
  | [a] => a
  | a :: b :: r => a ++ 32 :: joinW (b :: r)
theorem joinW_cons (a : Tx) {L : List Tx} (h : L ≠ []) : joinW (a :: L) = a ++ 32 :: joinW L := by
  cases L with
  | nil => exact absurd rfl h
  | cons b r => rfl
theorem join_words : ∀ l : Tx, joinW (words l) = l
  | [] => rfl
  | b :: r => by
    have ih := join_words r
    unfold words
    by_cases hb : b = 32
    · rw [if_pos hb, joinW_cons [] (words_ne r), ih, hb]
      rfl
    · rw [if_neg hb]
      cases hw : words r with
      | nil => exact absurd hw (words_ne r)
      | cons h t =>
        rw [hw] at ih
        dsimp only
        cases t with
        | nil => rw [← ih]; rfl
        | cons c t =>
          rw [← ih]
          rfl
theorem words_clean : ∀ (l : Tx) (w : Tx), w ∈ words l → (32 : UInt8) ∉ w
  | [], w, h => by
    simp [words] at h
    subst h
    simp
  | b :: r, w, h => by
    have ih := words_clean r
    unfold words at h
    by_cases hb : b = 32
    · rw [if_pos hb] at h
      rcases List.mem_cons.1 h with rfl | h
      · simp
      · exact ih w h
    · rw [if_neg hb] at h
      cases hw : words r with
      | nil => exact absurd hw (words_ne r)
      | cons x t =>
        rw [hw] at h ih
        dsimp only at h
        rcases List.mem_cons.1 h with rfl | h
        · have := ih x (by simp)
          simp only [List.mem_cons, not_or]
          exact ⟨fun e => hb e.symm, this⟩
        · exact ih w (by simp [h])
theorem words_app : ∀ (a : Tx) (r : Tx), (32 : UInt8) ∉ a → words (a ++ 32 :: r) = a :: words r
  | [], r, _ => by
    exact words_bl r
  | b :: a, r, h => by
    simp only [List.mem_cons, not_or] at h
    have ih := words_app a r h.2
    show words (b :: (a ++ 32 :: r)) = _
    rw [words_nb (fun e => h.1 e.symm), ih]
theorem words_one : ∀ (a : Tx), (32 : UInt8) ∉ a → words a = [a]
  | [], _ => rfl
  | b :: a, h => by
    simp only [List.mem_cons, not_or] at h
    rw [words_nb (fun e => h.1 e.symm), words_one a h.2]
theorem words_join : ∀ (L : List Tx), L ≠ [] → (∀ w ∈ L, (32 : UInt8) ∉ w) → words (joinW L) = L
  | [], h, _ => absurd rfl h
  | [a], _, h => words_one a (h a (by simp))
  | a :: b :: r, _, h => by
    rw [joinW_cons a (by simp), words_app a _ (h a (by simp)), words_join (b :: r) (by simp) (fun w hw => h w (by simp [hw]))]

/-! ### fields -/
/-- What stands ahead of the first '=', and behind it. -/
def cut : Tx → Option (Tx × Tx)
  | [] => none
  | b :: r => if b = 61 then some ([], r) else (cut r).map fun p => (b :: p.1, p.2)
theorem cut_at : ∀ (k v : Tx), (61 : UInt8) ∉ k → cut (k ++ 61 :: v) = some (k, v)
  | [], v, _ => by
    show cut (61 :: v) = _
    unfold cut
    rw [if_pos rfl]
  | b :: k, v, h => by
    simp only [List.mem_cons, not_or] at h
    show cut (b :: (k ++ 61 :: v)) = _
    unfold cut
    rw [if_neg (fun e => h.1 e.symm), cut_at k v h.2]
    rfl
theorem cut_some : ∀ (w k v : Tx), cut w = some (k, v) → w = k ++ 61 :: v ∧ (61 : UInt8) ∉ k
  | [], k, v, h => by simp [cut] at h
  | b :: r, k, v, h => by
    unfold cut at h
    by_cases hb : b = 61
    · rw [if_pos hb] at h
      simp only [Option.some.injEq, Prod.mk.injEq] at h
      obtain ⟨rfl, rfl⟩ := h
      subst hb
      simp
    · rw [if_neg hb] at h
      cases hc : cut r with
      | none => rw [hc] at h; simp at h
      | some p =>
        obtain ⟨k', v'⟩ := p
        rw [hc] at h
        simp only [Option.map_some, Option.some.injEq, Prod.mk.injEq] at h
        obtain ⟨rfl, rfl⟩ := h
        obtain ⟨e, hn⟩ := cut_some r k' v' hc
        refine ⟨by rw [e]; rfl, ?_⟩
        simp only [List.mem_cons, not_or]
        exact ⟨fun e => hb e.symm, hn⟩
theorem cut_none : ∀ (w : Tx), cut w = none → (61 : UInt8) ∉ w
  | [], _ => by simp
  | b :: r, h => by
    unfold cut at h
    by_cases hb : b = 61
    · rw [if_pos hb] at h
      cases h
    · rw [if_neg hb] at h
      simp only [Option.map_eq_none_iff] at h
      simp only [List.mem_cons, not_or]
      exact ⟨fun e => hb e.symm, cut_none r h⟩

def capK : Tx := [99, 97, 112, 97, 99, 105, 116, 121]
def sizeK : Tx := [115, 105, 122, 101]
def nameK : Tx := [110, 97, 109, 101]
def poolK : Tx := [112, 111, 111, 108]
def accK : Tx := [97, 99, 99, 101, 115, 115]
def pubV : Tx := [112, 117, 98, 108, 105, 99]
def priV : Tx := [112, 114, 105, 118, 97, 116, 101]
def bbW : Tx := [35, 66, 66]
/-- The words of the kinds, from 1 on. -/
def kindL : List Tx := [[106, 111, 98, 100, 119], [115, 116, 97, 103, 101, 95, 105, 110], [115, 116, 97, 103, 101, 95, 111, 117, 116],
  [99, 114, 101, 97, 116, 101, 95, 112, 101, 114, 115, 105, 115, 116, 101, 110, 116], [100, 101, 115, 116, 114, 111, 121, 95, 112, 101, 114, 115, 105, 115, 116, 101, 110, 116], [117, 115, 101, 95, 112, 101, 114, 115, 105, 115, 116, 101, 110, 116]]
def kw (k : Nat) : Tx := kindL.getD (k - 1) []

structure Dir where
  kind : Nat
  name : Tx
  pool : Tx
  size : Int
  opn : Bool
deriving DecidableEq
def Dir.zero : Dir := ⟨0, [], [], 0, false⟩

/-- Has a kind a pool; a name; a size? -/
def hasPool (k : Nat) : Bool := k == 1 || k == 4
def hasName (k : Nat) : Bool := decide (4 ≤ k)
def hasSize (k : Nat) : Bool := decide (k ≤ 4)
/-- The key of a kind's size. -/
def szK (k : Nat) : Tx := if hasPool k then capK else sizeK

abbrev Fl := Tx × Tx
/-- May the kind have that key? -/
def allow (k : Nat) (key : Tx) : Bool := (hasSize k && key == szK k) || (hasName k && key == nameK) || (hasPool k && key == poolK) || (k == 4 && key == accK)
/-- Is a value one of its key's? -/
def okv (key v : Tx) : Bool := if key = capK ∨ key = sizeK then decide (0 < (size? v).getD 0) else if key = nameK ∨ key = poolK then isName v else v == pubV || v == priV
def keys (fs : List Fl) : List Tx := fs.map (·.1)
def req (k : Nat) : List Tx := (if hasName k then [nameK] else []) ++ (if hasSize k then [szK k] else []) ++ (if hasPool k then [poolK] else [])
/-- The fields are a kind's. -/
def good (k : Nat) (fs : List Fl) : Prop := (keys fs).Nodup ∧ (∀ f ∈ fs, allow k f.1 = true ∧ okv f.1 f.2 = true) ∧ ∀ r ∈ req k, r ∈ keys fs
instance (k : Nat) (fs : List Fl) : Decidable (good k fs) := by unfold good; infer_instance
/-- The value of a key: empty, if it is not there. -/
def look (fs : List Fl) (key : Tx) : Tx := match fs.find? fun f => f.1 == key with
  | some f => f.2
  | none => []
def dirOf (k : Nat) (fs : List Fl) : Dir := ⟨k, look fs nameK, look fs poolK, (((size? (look fs (szK k))).getD 0 : Nat) : Int), look fs accK == pubV⟩
/-- What the fields of a kind denote. -/
def fields? (k : Nat) (ws : List Tx) : Option Dir := match ws.mapM cut with
  | some fs => if good k fs then some (dirOf k fs) else none
  | none => none
def kind? (w : Tx) : Option Nat := (kindL.findIdx? fun x => x == w).map (· + 1)
/-- What a line denotes. -/
def line? (l : Tx) : Option Dir := match words l with
  | b :: w :: ws => if b = bbW then match kind? w with
    | some k => fields? k ws
    | none => none
    else none
  | _ => none
/-- The error of a line, by the document. -/
def lerr (l : Tx) : Int := if 500 < l.length then 3 else if (line? l).isSome then 0 else 140
def ldir (l : Tx) : Dir := if 500 < l.length then Dir.zero else (line? l).getD Dir.zero

theorem look_snoc {fs : List Fl} {f : Fl} (h : f.1 ∉ keys fs) (key : Tx) : look (fs ++ [f]) key = if f.1 = key then f.2 else look fs key := by
  unfold look
  rw [List.find?_append]
  by_cases e : f.1 = key
  · rw [if_pos e]
    have hn : fs.find? (fun g => g.1 == key) = none := by
      rw [List.find?_eq_none]
      intro g hg hk
      apply h
      rw [e, ← (beq_iff_eq.1 hk)]
      exact List.mem_map.2 ⟨g, hg, rfl⟩
    rw [hn]
    simp [e]
  · rw [if_neg e]
    have : [f].find? (fun g => g.1 == key) = none := by simp [e]
    rw [this]
    cases fs.find? (fun g => g.1 == key) <;> rfl
theorem look_none {fs : List Fl} {key : Tx} (h : key ∉ keys fs) : look fs key = [] := by
  unfold look
  rw [show fs.find? (fun g => g.1 == key) = none by
    rw [List.find?_eq_none]
    intro g hg hk
    exact h (List.mem_map.2 ⟨g, hg, beq_iff_eq.1 hk⟩)]
theorem look_mem {fs : List Fl} {f : Fl} (hn : (keys fs).Nodup) (h : f ∈ fs) : look fs f.1 = f.2 := by
  induction fs with
  | nil => simp at h
  | cons g fs ih =>
    unfold keys at hn
    rw [List.map_cons, List.nodup_cons] at hn
    unfold look
    rw [List.find?_cons]
    rcases List.mem_cons.1 h with rfl | h
    · simp
    · have hne : (g.1 == f.1) = false := by
        rw [beq_eq_false_iff_ne]
        intro e
        exact hn.1 (List.mem_map.2 ⟨f, h, e.symm⟩)
      rw [hne]
      exact ih hn.2 h
theorem keys_snoc (fs : List Fl) (f : Fl) : keys (fs ++ [f]) = keys fs ++ [f.1] := by simp [keys]

/-- The order of the fields doesn't matter. -/
theorem good_perm {k : Nat} {fs gs : List Fl} (hp : fs.Perm gs) (h : good k fs) : good k gs := by
  obtain ⟨h1, h2, h3⟩ := h
  have hk : (keys fs).Perm (keys gs) := hp.map _
  exact ⟨hk.nodup_iff.1 h1, fun f hf => h2 f (hp.mem_iff.2 hf), fun r hr => hk.mem_iff.1 (h3 r hr)⟩
theorem look_perm {fs gs : List Fl} (hp : fs.Perm gs) (hn : (keys fs).Nodup) (key : Tx) : look fs key = look gs key := by
  have hk : (keys fs).Perm (keys gs) := hp.map _
  by_cases h : key ∈ keys fs
  · obtain ⟨f, hf, rfl⟩ := List.mem_map.1 h
    rw [look_mem hn hf, look_mem (hk.nodup_iff.1 hn) (hp.mem_iff.1 hf)]
  · rw [look_none h, look_none fun e => h (hk.mem_iff.2 e)]
theorem dirOf_perm {k : Nat} {fs gs : List Fl} (hp : fs.Perm gs) (hn : (keys fs).Nodup) : dirOf k fs = dirOf k gs := by
  unfold dirOf
  rw [look_perm hp hn, look_perm hp hn, look_perm hp hn, look_perm hp hn]
end Go.Proofs.YtekcjfdllclphaaGreatDoor.di
end
section
set_option linter.unusedVariables false
namespace Go.Proofs.YtekcjfdllclphaaGreatDoor.gn
open Go.Shelf
def layParseInt_ren : Go.Shelf.Ren := ⟨fun | 174 => 138 | 247 => 155 | 245 => 156 | 287 => 165 | 279 => 166 | 280 => 167 | 281 => 168 | 282 => 169 | 321 => 177 | 322 => 178 | 316 => 139 | 171 => 180 | 205 => 179 | 243 => 184 | 246 => 143 | 283 => 158 | 284 => 159 | 285 => 160 | 286 => 161 | 129 => 172 | 317 => 171 | 318 => 173 | 319 => 174 | 320 => 175 | 337 => 182 | 338 => 183 | n => n, fun | 9 => 9 | 3 => 3 | 2 => 2 | 75 => 172 | 85 => 173 | 4 => 4 | 167 => 200 | 5 => 5 | 53 => 192 | 175 => 201 | 46 => 140 | 168 => 203 | 37 => 100 | 0 => 0 | 210 => 213 | 21 => 21 | 127 => 189 | 145 => 222 | 143 => 220 | 171 => 191 | 173 => 195 | 212 => 207 | 51 => 165 | 20 => 20 | 213 => 208 | 232 => 223 | 233 => 224 | 80 => 225 | n => n, fun | 15 => 2 | 16 => 3 | 17 => 1 | 18 => 6 | 19 => 7 | n => n⟩
theorem layParseInt : Go.Proofs.LaysC.n174 Tryz.prog layParseInt_ren := {
  mixed := by kernel_rfl
  f129 := Tryz.func172.trans (congrArg some (by kernel_rfl))
  f171 := Tryz.func180.trans (congrArg some (by kernel_rfl))
  f174 := Tryz.func138.trans (congrArg some (by kernel_rfl))
  f205 := Tryz.func179.trans (congrArg some (by kernel_rfl))
  f243 := Tryz.func184.trans (congrArg some (by kernel_rfl))
  f245 := Tryz.func156.trans (congrArg some (by kernel_rfl))
  f246 := Tryz.func143.trans (congrArg some (by kernel_rfl))
  f247 := Tryz.func155.trans (congrArg some (by kernel_rfl))
  f279 := Tryz.func166.trans (congrArg some (by kernel_rfl))
  f280 := Tryz.func167.trans (congrArg some (by kernel_rfl))
  f281 := Tryz.func168.trans (congrArg some (by kernel_rfl))
  f282 := Tryz.func169.trans (congrArg some (by kernel_rfl))
  f283 := Tryz.func158.trans (congrArg some (by kernel_rfl))
  f284 := Tryz.func159.trans (congrArg some (by kernel_rfl))
  f285 := Tryz.func160.trans (congrArg some (by kernel_rfl))
  f286 := Tryz.func161.trans (congrArg some (by kernel_rfl))
  f287 := Tryz.func165.trans (congrArg some (by kernel_rfl))
  f316 := Tryz.func139.trans (congrArg some (by kernel_rfl))
  f317 := Tryz.func171.trans (congrArg some (by kernel_rfl))
  f318 := Tryz.func173.trans (congrArg some (by kernel_rfl))
  f319 := Tryz.func174.trans (congrArg some (by kernel_rfl))
  f320 := Tryz.func175.trans (congrArg some (by kernel_rfl))
  f321 := Tryz.func177.trans (congrArg some (by kernel_rfl))
  f322 := Tryz.func178.trans (congrArg some (by kernel_rfl))
  f337 := Tryz.func182.trans (congrArg some (by kernel_rfl))
  f338 := Tryz.func183.trans (congrArg some (by kernel_rfl))
  t0 := Tryz.underlying0
  a0 := Tryz.isAgg0
  z0 := Tryz.sizeOf0
  v0 := Tryz.zeroValue0
  t2 := Tryz.underlying2
  a2 := Tryz.isAgg2
  z2 := Tryz.sizeOf2
  v2 := Tryz.zeroValue2
  t3 := Tryz.underlying3
  a3 := Tryz.isAgg3
  z3 := Tryz.sizeOf3
  v3 := Tryz.zeroValue3
  t4 := Tryz.underlying4
  a4 := Tryz.isAgg4
  z4 := Tryz.sizeOf4
  v4 := Tryz.zeroValue4
  t5 := Tryz.underlying5
  a5 := Tryz.isAgg5
  z5 := Tryz.sizeOf5
  v5 := Tryz.zeroValue5
  t9 := Tryz.underlying9
  a9 := Tryz.isAgg9
  z9 := Tryz.sizeOf9
  v9 := Tryz.zeroValue9
  t20 := Tryz.underlying20
  a20 := Tryz.isAgg20
  z20 := Tryz.sizeOf20
  v20 := Tryz.zeroValue20
  t21 := Tryz.underlying21
  a21 := Tryz.isAgg21
  z21 := Tryz.sizeOf21
  v21 := Tryz.zeroValue21
  t37 := Tryz.underlying100
  a37 := Tryz.isAgg100
  z37 := Tryz.sizeOf100
  v37 := Tryz.zeroValue100
  t46 := Tryz.underlying140
  a46 := Tryz.isAgg140
  z46 := Tryz.sizeOf140
  v46 := Tryz.zeroValue140
  t51 := Tryz.underlying165
  a51 := Tryz.isAgg165
  z51 := Tryz.sizeOf165
  v51 := Tryz.zeroValue165
  t53 := Tryz.underlying192
  a53 := Tryz.isAgg192
  z53 := Tryz.sizeOf192
  v53 := Tryz.zeroValue192
  t75 := Tryz.underlying172
  a75 := Tryz.isAgg172
  z75 := Tryz.sizeOf172
  v75 := Tryz.zeroValue172
  t85 := Tryz.underlying173
  a85 := Tryz.isAgg173
  z85 := Tryz.sizeOf173
  v85 := Tryz.zeroValue173
  t127 := Tryz.underlying189
  a127 := Tryz.isAgg189
  z127 := Tryz.sizeOf189
  v127 := Tryz.zeroValue189
  t143 := Tryz.underlying220
  a143 := Tryz.isAgg220
  z143 := Tryz.sizeOf220
  v143 := Tryz.zeroValue220
  t145 := Tryz.underlying222
  a145 := Tryz.isAgg222
  z145 := Tryz.sizeOf222
  v145 := Tryz.zeroValue222
  t167 := Tryz.underlying200
  a167 := Tryz.isAgg200
  z167 := Tryz.sizeOf200
  v167 := Tryz.zeroValue200
  t168 := Tryz.underlying203
  a168 := Tryz.isAgg203
  z168 := Tryz.sizeOf203
  v168 := Tryz.zeroValue203
  t171 := Tryz.underlying191
  a171 := Tryz.isAgg191
  z171 := Tryz.sizeOf191
  v171 := Tryz.zeroValue191
  t173 := Tryz.underlying195
  a173 := Tryz.isAgg195
  z173 := Tryz.sizeOf195
  v173 := Tryz.zeroValue195
  t175 := Tryz.underlying201
  a175 := Tryz.isAgg201
  z175 := Tryz.sizeOf201
  v175 := Tryz.zeroValue201
  t210 := Tryz.underlying213
  a210 := Tryz.isAgg213
  z210 := Tryz.sizeOf213
  v210 := Tryz.zeroValue213
  t212 := Tryz.underlying207
  a212 := Tryz.isAgg207
  z212 := Tryz.sizeOf207
  v212 := Tryz.zeroValue207
  t213 := Tryz.underlying208
  a213 := Tryz.isAgg208
  z213 := Tryz.sizeOf208
  t232 := Tryz.underlying223
  a232 := Tryz.isAgg223
  z232 := Tryz.sizeOf223
  v232 := Tryz.zeroValue223
  t233 := Tryz.underlying224
  a233 := Tryz.isAgg224
  z233 := Tryz.sizeOf224
  v233 := Tryz.zeroValue224
  g15 := by kernel_rfl
  g16 := by kernel_rfl
  g17 := by kernel_rfl
  g18 := by kernel_rfl
  g19 := by kernel_rfl
  t80 := Tryz.underlying225
  a80 := Tryz.isAgg225
  z80 := Tryz.sizeOf225
  v80 := Tryz.zeroValue225
  i0 := by kernel_rfl
  i2 := by kernel_rfl
  i3 := by kernel_rfl
  i4 := by kernel_rfl
  i5 := by kernel_rfl
  i9 := by kernel_rfl
  i20 := by kernel_rfl
  i21 := by kernel_rfl
  i37 := by kernel_rfl
  i46 := by kernel_rfl
  i51 := by kernel_rfl
  i53 := by kernel_rfl
  i75 := by kernel_rfl
  i80 := by kernel_rfl
  i85 := by kernel_rfl
  i127 := by kernel_rfl
  i143 := by kernel_rfl
  i145 := by kernel_rfl
  i167 := by kernel_rfl
  i168 := by kernel_rfl
  i171 := by kernel_rfl
  i173 := by kernel_rfl
  i175 := by kernel_rfl
  i210 := by kernel_rfl
  i212 := by kernel_rfl
  i232 := by kernel_rfl
  i233 := by kernel_rfl
  m15 := by kernel_rfl
  m16 := by kernel_rfl
  m17 := by kernel_rfl
  m18 := by kernel_rfl
  m19 := by kernel_rfl
  c0 := by kernel_rfl
  c2 := by kernel_rfl
  c3 := by kernel_rfl
  c4 := by kernel_rfl
  c5 := by kernel_rfl
  c9 := by kernel_rfl
  c20 := by kernel_rfl
  c21 := by kernel_rfl
  c37 := by kernel_rfl
  c46 := by kernel_rfl
  c51 := by kernel_rfl
  c53 := by kernel_rfl
  c75 := by kernel_rfl
  c80 := by kernel_rfl
  c85 := by kernel_rfl
  c127 := by kernel_rfl
  c143 := by kernel_rfl
  c145 := by kernel_rfl
  c167 := by kernel_rfl
  c168 := by kernel_rfl
  c171 := by kernel_rfl
  c173 := by kernel_rfl
  c175 := by kernel_rfl
  c210 := by kernel_rfl
  c212 := by kernel_rfl
  c213 := by kernel_rfl
  c232 := by kernel_rfl
  c233 := by kernel_rfl }
def layFormatInt_ren : Go.Shelf.Ren := ⟨fun | 173 => 122 | 246 => 143 | 283 => 158 | 284 => 159 | 285 => 160 | 286 => 161 | 129 => 172 | 317 => 171 | 318 => 173 | 319 => 174 | 320 => 175 | 337 => 182 | 338 => 183 | n => n, fun | 2 => 2 | 3 => 3 | 9 => 9 | 4 => 4 | 171 => 191 | 0 => 0 | 53 => 192 | 37 => 100 | 5 => 5 | 173 => 195 | 212 => 207 | 51 => 165 | 20 => 20 | 213 => 208 | 46 => 140 | 232 => 223 | 233 => 224 | n => n, fun | 17 => 1 | 18 => 6 | 19 => 7 | n => n⟩
theorem layFormatInt : Go.Proofs.LaysM.n173 Tryz.prog layFormatInt_ren := {
  mixed := by kernel_rfl
  f129 := Tryz.func172.trans (congrArg some (by kernel_rfl))
  f173 := Tryz.func122.trans (congrArg some (by kernel_rfl))
  f246 := Tryz.func143.trans (congrArg some (by kernel_rfl))
  f283 := Tryz.func158.trans (congrArg some (by kernel_rfl))
  f284 := Tryz.func159.trans (congrArg some (by kernel_rfl))
  f285 := Tryz.func160.trans (congrArg some (by kernel_rfl))
  f286 := Tryz.func161.trans (congrArg some (by kernel_rfl))
  f317 := Tryz.func171.trans (congrArg some (by kernel_rfl))
  f318 := Tryz.func173.trans (congrArg some (by kernel_rfl))
  f319 := Tryz.func174.trans (congrArg some (by kernel_rfl))
  f320 := Tryz.func175.trans (congrArg some (by kernel_rfl))
  f337 := Tryz.func182.trans (congrArg some (by kernel_rfl))
  f338 := Tryz.func183.trans (congrArg some (by kernel_rfl))
  t0 := Tryz.underlying0
  a0 := Tryz.isAgg0
  z0 := Tryz.sizeOf0
  v0 := Tryz.zeroValue0
  t2 := Tryz.underlying2
  a2 := Tryz.isAgg2
  z2 := Tryz.sizeOf2
  v2 := Tryz.zeroValue2
  t3 := Tryz.underlying3
  a3 := Tryz.isAgg3
  z3 := Tryz.sizeOf3
  v3 := Tryz.zeroValue3
  t4 := Tryz.underlying4
  a4 := Tryz.isAgg4
  z4 := Tryz.sizeOf4
  v4 := Tryz.zeroValue4
  t5 := Tryz.underlying5
  a5 := Tryz.isAgg5
  z5 := Tryz.sizeOf5
  v5 := Tryz.zeroValue5
  t9 := Tryz.underlying9
  a9 := Tryz.isAgg9
  z9 := Tryz.sizeOf9
  v9 := Tryz.zeroValue9
  t20 := Tryz.underlying20
  a20 := Tryz.isAgg20
  z20 := Tryz.sizeOf20
  v20 := Tryz.zeroValue20
  t37 := Tryz.underlying100
  a37 := Tryz.isAgg100
  z37 := Tryz.sizeOf100
  v37 := Tryz.zeroValue100
  t46 := Tryz.underlying140
  a46 := Tryz.isAgg140
  z46 := Tryz.sizeOf140
  v46 := Tryz.zeroValue140
  t51 := Tryz.underlying165
  a51 := Tryz.isAgg165
  z51 := Tryz.sizeOf165
  v51 := Tryz.zeroValue165
  t53 := Tryz.underlying192
  a53 := Tryz.isAgg192
  z53 := Tryz.sizeOf192
  v53 := Tryz.zeroValue192
  t171 := Tryz.underlying191
  a171 := Tryz.isAgg191
  z171 := Tryz.sizeOf191
  v171 := Tryz.zeroValue191
  t173 := Tryz.underlying195
  a173 := Tryz.isAgg195
  z173 := Tryz.sizeOf195
  v173 := Tryz.zeroValue195
  t212 := Tryz.underlying207
  a212 := Tryz.isAgg207
  z212 := Tryz.sizeOf207
  v212 := Tryz.zeroValue207
  t213 := Tryz.underlying208
  a213 := Tryz.isAgg208
  z213 := Tryz.sizeOf208
  t232 := Tryz.underlying223
  a232 := Tryz.isAgg223
  z232 := Tryz.sizeOf223
  v232 := Tryz.zeroValue223
  t233 := Tryz.underlying224
  a233 := Tryz.isAgg224
  z233 := Tryz.sizeOf224
  v233 := Tryz.zeroValue224
  g17 := by kernel_rfl
  g18 := by kernel_rfl
  g19 := by kernel_rfl
  i0 := by kernel_rfl
  i2 := by kernel_rfl
  i3 := by kernel_rfl
  i4 := by kernel_rfl
  i5 := by kernel_rfl
  i9 := by kernel_rfl
  i20 := by kernel_rfl
  i37 := by kernel_rfl
  i46 := by kernel_rfl
  i51 := by kernel_rfl
  i53 := by kernel_rfl
  i171 := by kernel_rfl
  i173 := by kernel_rfl
  i212 := by kernel_rfl
  i232 := by kernel_rfl
  i233 := by kernel_rfl
  m17 := by kernel_rfl
  m18 := by kernel_rfl
  m19 := by kernel_rfl }
def layCutSuffix_ren : Go.Shelf.Ren := ⟨fun | 104 => 157 | 211 => 170 | 207 => 181 | n => n, fun | 9 => 9 | 4 => 4 | 24 => 52 | 3 => 3 | n => n, fun | n => n⟩
theorem layCutSuffix : Go.Proofs.Lays.n104 Tryz.prog layCutSuffix_ren := {
  mixed := by kernel_rfl
  f104 := Tryz.func157.trans (congrArg some (by kernel_rfl))
  f207 := Tryz.func181.trans (congrArg some (by kernel_rfl))
  f211 := Tryz.func170.trans (congrArg some (by kernel_rfl))
  t3 := Tryz.underlying3
  a3 := Tryz.isAgg3
  z3 := Tryz.sizeOf3
  v3 := Tryz.zeroValue3
  t4 := Tryz.underlying4
  a4 := Tryz.isAgg4
  z4 := Tryz.sizeOf4
  v4 := Tryz.zeroValue4
  t9 := Tryz.underlying9
  a9 := Tryz.isAgg9
  z9 := Tryz.sizeOf9
  v9 := Tryz.zeroValue9
  t24 := Tryz.underlying52
  a24 := Tryz.isAgg52
  z24 := Tryz.sizeOf52
  v24 := Tryz.zeroValue52 }

end Go.Proofs.YtekcjfdllclphaaGreatDoor.gn
end
