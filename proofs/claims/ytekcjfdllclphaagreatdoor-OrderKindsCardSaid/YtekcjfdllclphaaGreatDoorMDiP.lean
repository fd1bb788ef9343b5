/- Directives, plain: how the program reads and writes them, field by field. -/
import Derived.Test.YtekcjfdllclphaaGreatDoorMDiO
import Derived.Test.YtekcjfdllclphaaGreatDoorMGen
import Derived.Lib.Split
import Derived.Test.YtekcjfdllclphaaGreatDoorMUnN
import Derived.Lib.OthersKept
import Derived.Laws.RangeAny
import Derived.Deep.LoopGhost
section
set_option linter.unusedVariables false
set_option linter.unusedSimpArgs false
namespace Go.Proofs.YtekcjfdllclphaaGreatDoor.di
open Go.Proofs.YtekcjfdllclphaaGreatDoor.un

/-! ### strings.Split and Cut at one byte -/
theorem idx_cons (b c : UInt8) (l : Tx) : Lib.index (b :: l) [c] = if c = b then 0 else if Lib.index l [c] = -1 then -1 else Lib.index l [c] + 1 := by
  show (if ([c] : Tx).isPrefixOf (b :: l) = true then 0 else if (Lib.index l [c] == -1) = true then -1 else Lib.index l [c] + 1) = _
  simp [List.isPrefixOf]
theorem idx_none {c : UInt8} : ∀ {l : Tx}, c ∉ l → Lib.index l [c] = -1
  | [], _ => rfl
  | b :: l, h => by
    simp only [List.mem_cons, not_or] at h
    rw [idx_cons, if_neg h.1, idx_none h.2, if_pos rfl]
theorem idx_app {c : UInt8} : ∀ (a r : Tx), c ∉ a → Lib.index (a ++ c :: r) [c] = (a.length : Int)
  | [], r, _ => by
    rw [List.nil_append, idx_cons, if_pos rfl]
    rfl
  | b :: a, r, h => by
    simp only [List.mem_cons, not_or] at h
    rw [List.cons_append, idx_cons, if_neg h.1, idx_app a r h.2, if_neg (by omega), List.length_cons]
    omega
theorem split_spec : ∀ (n : Nat) (l : Tx), l.length ≤ n → Lib.splitK [32] 0 (Lib.count l [32]) l = words l ∧ Lib.count l [32] + 1 = (words l).length
  | n, l, hn => by
    by_cases hm : (32 : UInt8) ∈ l
    · obtain ⟨a, r, rfl, ha⟩ := List.eq_append_cons_of_mem hm
      have hi := idx_app a r ha
      have hd : (a ++ 32 :: r).drop (a.length + 1) = r := by
        rw [List.drop_append]
        simp
      have hc : Lib.count (a ++ 32 :: r) [32] = 1 + Lib.count r [32] := by
        have := Lib.count_hit (s := a ++ 32 :: r) (sub := [32]) (by simp) hi
        rw [this]
        congr 2
      rw [hc, words_app a r ha]
      cases n with
      | zero => simp at hn
      | succ n =>
        obtain ⟨i1, i2⟩ := split_spec n r (by simp at hn; omega)
        constructor
        · rw [Nat.add_comm 1]
          unfold Lib.splitK
          have hne : ¬ ((((a.length : Nat) : Int) == -1) = true) := by simp
          rw [hi, if_neg hne]
          congr 1
          · simp
          · rw [Int.toNat_natCast, show ([32] : Tx).length = 1 from rfl, hd]
            exact i1
        · rw [List.length_cons, ← i2]
          omega
    · have hi := idx_none hm
      have hc : Lib.count l [32] = 0 := Lib.count_miss hi
      rw [hc, words_one l hm]
      exact ⟨rfl, rfl⟩
open Go.Proofs.YtekcjfdllclphaaGreatDoor.gn (str str_size)
theorem map_str : ∀ (A : List ByteArray) (B : List Tx), A.map (·.data.toList) = B → A = B.map str
  | [], B, h => by subst h; rfl
  | a :: A, B, h => by
    subst h
    rw [List.map_cons, List.map_cons, ← map_str A _ rfl]
    congr 1
theorem countB_words (l : Tx) : Lib.countB (str l) (str [32]) + 1 = (words l).length := by
  have h := (split_spec l.length l (Nat.le_refl _)).2
  rw [← h]
  unfold Lib.countB
  congr 1
theorem splitB_words (l : Tx) : Lib.splitB (str [32]) 0 (Lib.countB (str l) (str [32])) (str l) = (words l).map str := by
  have h := (split_spec l.length l (Nat.le_refl _)).1
  apply map_str
  rw [Lib.splitB_data, ← h]
  have e1 : (str [32]).data.toList = [32] := rfl
  have e2 : (str l).data.toList = l := by simp [str]
  rw [e1, e2]
  unfold Lib.countB
  rw [e1, e2]
theorem cut_mem : ∀ {l : Tx}, cut l = none ↔ (61 : UInt8) ∉ l
  | [] => by simp [cut]
  | b :: l => by
    unfold cut
    by_cases hb : b = 61
    · simp [hb]
    · rw [if_neg hb]
      have := cut_mem (l := l)
      simp only [Option.map_eq_none_iff, this, List.mem_cons, not_or]
      exact ⟨fun h => ⟨fun e => hb e.symm, h⟩, fun h => h.2⟩
/-- What Cut tells of a field: the key, the value. -/
def fld (w : Tx) : Fl := (cut w).getD (w, [])
theorem cut_lib (w : Tx) : Lib.cut w [61] = ((fld w).1, (fld w).2, (cut w).isSome) := by
  unfold Lib.cut fld
  cases hc : cut w with
  | none =>
    rw [idx_none (cut_mem.1 hc), if_neg (by decide)]
    rfl
  | some f =>
    obtain ⟨e, hn⟩ := cut_some w f.1 f.2 hc
    have hi := idx_app f.1 f.2 hn
    rw [← e] at hi
    rw [hi, if_pos (by omega)]
    simp only [Int.toNat_natCast, Option.getD_some, Option.isSome_some]
    have h1 : w.take f.1.length = f.1 := by rw [e]; simp
    have h2 : w.drop (f.1.length + ([61] : Tx).length) = f.2 := by
      rw [e, List.drop_append]
      simp
    rw [h1, h2]

/-! ### the program's fields -/
/-- A kind's fields, in the order of the text: may each be left out? -/
def fldL (k : Nat) : List (Tx × Bool) :=
  match k with
  | 1 => [(capK, false), (poolK, false)]
  | 2 => [(sizeK, false)]
  | 3 => [(sizeK, false)]
  | 4 => [(nameK, false), (capK, false), (poolK, false), (accK, true)]
  | 5 => [(nameK, false)]
  | 6 => [(nameK, false)]
  | _ => []
theorem fld_len (k : Nat) : (fldL k).length ≤ 4 := by
  unfold fldL
  split <;> decide
theorem six {k : Nat} (h : 1 ≤ k ∧ k ≤ 6) : k = 1 ∨ k = 2 ∨ k = 3 ∨ k = 4 ∨ k = 5 ∨ k = 6 := by omega
/-- A kind has that key. -/
def has (k : Nat) (key : Tx) : Bool := ((fldL k).map (·.1)).contains key
theorem has_allow {k : Nat} (h : 1 ≤ k ∧ k ≤ 6) (key : Tx) : allow k key = has k key := by
  rw [Bool.eq_iff_iff]
  rcases six h with rfl | rfl | rfl | rfl | rfl | rfl <;> simp [allow, has, fldL, hasSize, hasName, hasPool, szK] <;> grind
/-- The five keys. -/
theorem key_five {k : Nat} {key : Tx} (h : has k key = true) : key = nameK ∨ key = poolK ∨ key = capK ∨ key = sizeK ∨ key = accK := by
  unfold has fldL at h
  split at h <;> simp at h
  · rcases h with h | h <;> simp [h]
  · simp [h]
  · simp [h]
  · rcases h with h | h | h | h <;> simp [h]
  · simp [h]
  · simp [h]
/-- What the program stores of a field. -/
def sto (key v : Tx) (d : Dir) : Dir :=
  if key = nameK then (if isName v = true then { d with name := v } else d)
  else if key = poolK then (if isName v = true then { d with pool := v } else d)
  else if key = accK then { d with opn := v == pubV }
  else { d with size := (((size? v).getD 0 : Nat) : Int) }
/-- The text of what a directive has in a field. -/
def val (d : Dir) (key : Tx) : Tx :=
  if key = nameK then d.name else if key = poolK then d.pool else if key = accK then (if d.opn = true then pubV else []) else stxt d.size

/-! ### reading -/
/-- The fields that were taken. -/
structure Took (k : Nat) (fs : List Fl) : Prop where
  nd : (keys fs).Nodup
  ok : ∀ f ∈ fs, has k f.1 = true ∧ okv f.1 f.2 = true
theorem Took.nil (k : Nat) : Took k [] := ⟨by simp [keys], by simp⟩
theorem Took.snoc {k : Nat} {fs : List Fl} (h : Took k fs) {f : Fl} (hn : f.1 ∉ keys fs) (ha : has k f.1 = true) (ho : okv f.1 f.2 = true) : Took k (fs ++ [f]) := by
  refine ⟨?_, ?_⟩
  · rw [keys_snoc, List.nodup_append]
    refine ⟨h.nd, by simp, ?_⟩
    intro a ha b hb e
    simp only [List.mem_singleton] at hb
    subst hb; subst e
    exact hn ha
  · intro g hg
    rcases List.mem_append.1 hg with hg | hg
    · exact h.ok g hg
    · simp only [List.mem_singleton] at hg
      subst hg
      exact ⟨ha, ho⟩
theorem sz_has {k : Nat} (hk : 1 ≤ k ∧ k ≤ 6) {key : Tx} (h : has k key = true) (h1 : key ≠ nameK) (h2 : key ≠ poolK) (h3 : key ≠ accK) : key = szK k := by
  rw [← has_allow hk] at h
  rcases allow_al h with h | h | h | h
  · exact h
  · exact absurd h h1
  · exact absurd h h2
  · exact absurd h.1 h3
theorem sto_dir {k : Nat} (hk : 1 ≤ k ∧ k ≤ 6) {fs : List Fl} {f : Fl} (hn : f.1 ∉ keys fs) (ha : has k f.1 = true) (ho : okv f.1 f.2 = true) : sto f.1 f.2 (dirOf k fs) = dirOf k (fs ++ [f]) := by
  obtain ⟨n1, n2, n3⟩ := sz_ne k
  have m1 : nameK ≠ poolK := by decide
  have m2 : nameK ≠ accK := by decide
  have m3 : poolK ≠ accK := by decide
  unfold dirOf sto
  rw [look_snoc hn, look_snoc hn, look_snoc hn, look_snoc hn]
  by_cases e1 : f.1 = nameK
  · rw [e1, okv_name] at ho
    rw [if_pos e1, if_pos ho, e1, if_pos rfl, if_neg m1, if_neg (Ne.symm n1), if_neg m2]
  · rw [if_neg e1]
    by_cases e2 : f.1 = poolK
    · rw [e2, okv_pool] at ho
      rw [if_pos e2, if_pos ho, e2, if_neg (Ne.symm m1), if_pos rfl, if_neg (Ne.symm n2), if_neg m3]
    · rw [if_neg e2]
      by_cases e3 : f.1 = accK
      · rw [if_pos e3, e3, if_neg (Ne.symm m2), if_neg (Ne.symm m3), if_neg (Ne.symm n3), if_pos rfl]
      · have e4 := sz_has hk ha e1 e2 e3
        rw [if_neg e3, e4, if_neg n1, if_neg n2, if_pos rfl, if_neg n3]
theorem mapM_cut_app {done : List Tx} {fs : List Fl} (h : done.mapM cut = some fs) (w : Tx) (rest : List Tx) : (done ++ w :: rest).mapM cut = match cut w, rest.mapM cut with
    | some f, some gs => some (fs ++ f :: gs)
    | _, _ => none := by
  induction done generalizing fs with
  | nil =>
    have : fs = [] := (Option.some.inj h).symm
    subst this
    rw [List.nil_append, List.mapM_cons]
    cases cut w with
    | none => rfl
    | some f => cases rest.mapM cut <;> rfl
  | cons a done ih =>
    rw [List.mapM_cons] at h
    cases hc : cut a with
    | none => rw [hc] at h; cases h
    | some g =>
      rw [hc] at h
      cases hm : done.mapM cut with
      | none => rw [hm] at h; cases h
      | some gs =>
        rw [hm] at h
        have : fs = g :: gs := (Option.some.inj (show some (g :: gs) = some fs from h)).symm
        subst this
        rw [List.cons_append, List.mapM_cons, hc, ih hm]
        cases cut w with
        | none => rfl
        | some f => cases rest.mapM cut <;> rfl
/-- A field that can't be taken: the line is none's. -/
theorem took_fail {k : Nat} (hk : 1 ≤ k ∧ k ≤ 6) {fs : List Fl} {done : List Tx} (hd : done.mapM cut = some fs) (w : Tx) (rest : List Tx) (h : ¬ (has k (fld w).1 = true ∧ (fld w).1 ∉ keys fs ∧ okv (fld w).1 (fld w).2 = true)) :
    fields? k (done ++ w :: rest) = none := by
  unfold fields?
  rw [mapM_cut_app hd]
  cases hc : cut w with
  | none => rfl
  | some f =>
    cases hr : rest.mapM cut with
    | none => rfl
    | some gs =>
      dsimp only
      rw [if_neg]
      rintro ⟨g1, g2, _⟩
      have hf : fld w = f := by unfold fld; rw [hc]; rfl
      rw [hf] at h
      apply h
      have := g2 f (by simp)
      refine ⟨by rw [← has_allow hk]; exact this.1, ?_, this.2⟩
      intro hm
      unfold keys at g1 hm
      rw [List.map_append, List.nodup_append] at g1
      exact g1.2.2 f.1 hm f.1 (by simp) rfl
theorem okv_nil (key : Tx) : okv key [] = false := by
  unfold okv
  rw [size_nil, isName_nil]
  split
  · rfl
  · split <;> rfl
/-- A field that is taken was cut. -/
theorem fld_cut {w : Tx} (h : okv (fld w).1 (fld w).2 = true) : cut w = some (fld w) := by
  unfold fld at h ⊢
  cases hc : cut w with
  | none =>
    rw [hc] at h
    simp only [Option.getD_none, okv_nil] at h
    cases h
  | some f => rfl
theorem req_has {k : Nat} (h : 1 ≤ k ∧ k ≤ 6) (key : Tx) : key ∈ req k ↔ (key, false) ∈ fldL k := by
  rcases six h with rfl | rfl | rfl | rfl | rfl | rfl <;> simp [req, hasName, hasSize, hasPool, szK, fldL]
/-- What the fields that were taken denote, at the end. -/
theorem took_end {k : Nat} (hk : 1 ≤ k ∧ k ≤ 6) {fs : List Fl} {ws : List Tx} (hd : ws.mapM cut = some fs) (h : Took k fs) :
    fields? k ws = if ∀ f ∈ fldL k, f.1 ∉ keys fs → f.2 = true then some (dirOf k fs) else none := by
  unfold fields?
  rw [hd]
  dsimp only
  have hiff : good k fs ↔ ∀ f ∈ fldL k, f.1 ∉ keys fs → f.2 = true := by
    constructor
    · rintro ⟨_, _, g3⟩ f hf hn
      cases hb : f.2 with
      | true => rfl
      | false => exact absurd (g3 f.1 ((req_has hk _).2 (by rw [← hb]; exact hf))) hn
    · intro hh
      refine ⟨h.nd, fun f hf => ⟨by rw [has_allow hk]; exact (h.ok f hf).1, (h.ok f hf).2⟩, fun r hr => ?_⟩
      by_cases hm : r ∈ keys fs
      · exact hm
      · have := hh (r, false) ((req_has hk r).1 hr) hm
        cases this
  by_cases hg : good k fs
  · rw [if_pos hg, if_pos (hiff.1 hg)]
  · rw [if_neg hg, if_neg fun e => hg (hiff.2 e)]

/-! ### checking and writing -/
def crun (d : Dir) : List (Tx × Bool) → Dir → Option Dir
  | [], a => some a
  | f :: r, a => if f.2 = true ∧ val d f.1 = [] then crun d r a else if okv f.1 (val d f.1) = true then crun d r (sto f.1 (val d f.1) a) else none
def trun (d : Dir) : List (Tx × Bool) → Tx → Tx
  | [], s => s
  | f :: r, s => if f.2 = true ∧ val d f.1 = [] then trun d r s else trun d r (s ++ 32 :: (f.1 ++ 61 :: val d f.1))
def base (k : Nat) : Dir := ⟨k, [], [], 0, false⟩
theorem size_stxt_getD (n : Int) (h0 : -9223372036854775808 ≤ n) (h1 : n ≤ 9223372036854775807) : (((size? (stxt n)).getD 0 : Nat) : Int) = if 0 ≤ n ∧ n ≤ 1099511627776 then n else 0 := by
  by_cases h : 0 ≤ n ∧ n ≤ 1099511627776
  · obtain ⟨m, rfl⟩ : ∃ m : Nat, n = (m : Int) := ⟨n.toNat, by omega⟩
    rw [if_pos h, size_stxt (show m ≤ top by unfold top; omega)]
    rfl
  · rw [if_neg h, stxt_out (by omega), txt_out h, size_nil]
    rfl
theorem okv_size (n : Int) (h0 : -9223372036854775808 ≤ n) (h1 : n ≤ 9223372036854775807) {key : Tx} (hk : key = capK ∨ key = sizeK) : okv key (stxt n) = decide (0 < n ∧ n ≤ 1099511627776) := by
  have := size_stxt_getD n h0 h1
  unfold okv
  rw [if_pos hk]
  by_cases h : 0 ≤ n ∧ n ≤ 1099511627776
  · rw [if_pos h] at this
    rw [decide_eq_decide]
    omega
  · rw [if_neg h] at this
    rw [decide_eq_decide]
    omega
theorem crun_chk (d : Dir) (h0 : -9223372036854775808 ≤ d.size) (h1 : d.size ≤ 9223372036854775807) (hk : 1 ≤ d.kind ∧ d.kind ≤ 6) :
    (match crun d (fldL d.kind) (base d.kind) with
      | some a => decide (a = d)
      | none => false) = chk d := by
  obtain ⟨k, n, p, z, o⟩ := d
  dsimp only at h0 h1 hk ⊢
  have hz := size_stxt_getD z h0 h1
  have hoc := okv_size z h0 h1 (key := capK) (.inl rfl)
  have hos := okv_size z h0 h1 (key := sizeK) (.inr rfl)
  have e1 : (capK = nameK) = False := by simp; decide
  have e2 : (capK = poolK) = False := by simp; decide
  have e3 : (capK = accK) = False := by simp; decide
  have e4 : (sizeK = nameK) = False := by simp; decide
  have e5 : (sizeK = poolK) = False := by simp; decide
  have e6 : (sizeK = accK) = False := by simp; decide
  have e7 : (poolK = nameK) = False := by simp; decide
  have e8 : (poolK = accK) = False := by simp; decide
  have e9 : (accK = nameK) = False := by simp; decide
  have e10 : (accK = poolK) = False := by simp; decide
  have e11 : okv accK pubV = true := by decide
  have e12 : (pubV = []) = False := by simp; decide
  rw [Bool.eq_iff_iff, chk_iff]
  have hn0 := isName_nil
  rcases six hk with rfl | rfl | rfl | rfl | rfl | rfl <;>
    simp only [fldL, crun, val, sto, base, e1, e2, e3, e4, e5, e6, e7, e8, e9, e10, e11, e12, if_true, if_false, false_and, Bool.false_eq_true, okv_name, okv_pool, hoc, hos, hz, hasSize, hasName, hasPool, decide_eq_true_eq] <;>
    by_cases hq : 0 < z ∧ z ≤ 1099511627776 <;> cases hin : isName n <;> cases hip : isName p <;> cases o <;>
    simp [hq] <;> grind
theorem trun_dtx {d : Dir} (h : chk d = true) : trun d (fldL d.kind) (bbW ++ 32 :: kw d.kind) = dtx d := by
  obtain ⟨c0, c1, cz, c2, c3, c4, c5, c6⟩ := (chk_iff d).1 h
  obtain ⟨k, n, p, z, o⟩ := d
  dsimp only at c0 c1 cz c2 c3 c4 c5 c6 ⊢
  have e1 : (capK = nameK) = False := by simp; decide
  have e2 : (capK = poolK) = False := by simp; decide
  have e3 : (capK = accK) = False := by simp; decide
  have e4 : (sizeK = nameK) = False := by simp; decide
  have e5 : (sizeK = poolK) = False := by simp; decide
  have e6 : (sizeK = accK) = False := by simp; decide
  have e7 : (poolK = nameK) = False := by simp; decide
  have e8 : (poolK = accK) = False := by simp; decide
  have e9 : (accK = nameK) = False := by simp; decide
  have e10 : (accK = poolK) = False := by simp; decide
  have e12 : (pubV = []) = False := by simp; decide
  rcases six c0 with rfl | rfl | rfl | rfl | rfl | rfl <;> cases o <;>
    simp [hasSize, hasName, hasPool] at c1 c2 c3 c4 c5 c6 <;>
    simp [fldL, trun, val, e1, e2, e3, e4, e5, e6, e7, e8, e9, e10, e12, dtx, lineOf, fsOf, joinW, hasSize, hasName, hasPool, szK, wtx]
end Go.Proofs.YtekcjfdllclphaaGreatDoor.di
end
section
set_option linter.unusedVariables false
namespace Go.Proofs.YtekcjfdllclphaaGreatDoor.gn
open Go.RowKit
open Go.Proofs.YtekcjfdllclphaaGreatDoor.un

/-- Whether a rune may stand in a name. -/
def win (r : Int) : Bool := decide (97 ≤ r ∧ r ≤ 122) || decide (65 ≤ r ∧ r ≤ 90) || decide (48 ≤ r ∧ r ≤ 57) || decide (r = 95) || decide (r = 45) || decide (r = 46)
theorem win_yes {r : Int} (h : (97 ≤ r ∧ r ≤ 122) ∨ (65 ≤ r ∧ r ≤ 90) ∨ (48 ≤ r ∧ r ≤ 57) ∨ r = 95 ∨ r = 45 ∨ r = 46) : win r = true := by
  unfold win
  simp only [Bool.or_eq_true, decide_eq_true_eq]
  omega
theorem win_no {r : Int} (h : ¬ ((97 ≤ r ∧ r ≤ 122) ∨ (65 ≤ r ∧ r ≤ 90) ∨ (48 ≤ r ∧ r ≤ 57) ∨ r = 95 ∨ r = 45 ∨ r = 46)) : win r = false := by
  cases hw : win r with
  | false => rfl
  | true =>
    unfold win at hw
    simp only [Bool.or_eq_true, decide_eq_true_eq] at hw
    exact absurd (by omega) h
theorem ret_bool {a b : Bool} (h : a = b) : Ending.returned (.bool a) = .returned (.bool b) := by rw [h]

set_option maxRecDepth 100000 in
set_option maxHeartbeats 1600000 in
theorem within_any (r : Int) (w : World) : Calls Tryz.prog 125 #[.int .i32 r] w fun e w' => e = .returned (.bool (win r)) ∧ w = w' := by
  rcases byte_cases r with h | h | h | h | h | h | h | h | h | h | h | h
  case' inl => have hw := win_no (r := r) (by omega)
  case' inr.inl => have hw := win_yes (r := r) (by omega)
  case' inr.inr.inl => have hw := win_yes (r := r) (by omega)
  case' inr.inr.inr.inl => have hw := win_no (r := r) (by omega)
  case' inr.inr.inr.inr.inl => have hw := win_yes (r := r) (by omega)
  case' inr.inr.inr.inr.inr.inl => have hw := win_no (r := r) (by omega)
  case' inr.inr.inr.inr.inr.inr.inl => have hw := win_yes (r := r) (by omega)
  case' inr.inr.inr.inr.inr.inr.inr.inl => have hw := win_no (r := r) (by omega)
  case' inr.inr.inr.inr.inr.inr.inr.inr.inl => have hw := win_yes (r := r) (by omega)
  case' inr.inr.inr.inr.inr.inr.inr.inr.inr.inl => have hw := win_no (r := r) (by omega)
  case' inr.inr.inr.inr.inr.inr.inr.inr.inr.inr.inl => have hw := win_yes (r := r) (by omega)
  case' inr.inr.inr.inr.inr.inr.inr.inr.inr.inr.inr => have hw := win_no (r := r) (by omega)
  all_goals
    rw [hw]
    clear hw
    try subst h
    try obtain ⟨h1, h2⟩ := h
    try have e95 : (r == 95) = false := by rw [beq_eq_false_iff_ne]; omega
    try have e45 : (r == 45) = false := by rw [beq_eq_false_iff_ne]; omega
    try have e46 : (r == 46) = false := by rw [beq_eq_false_iff_ne]; omega
    go_enter Tryz.func125, Tryz.ntmps125
    go_wp2
    go_ret
    exact ⟨rfl, rfl⟩

/-- What a byte that is ASCII is, and another one. -/
theorem nm_win {i : Nat} {b : UInt8} : nmAt i b = (win (b.toNat : Int) && !(decide (i = 0) && (decide (b.toNat = 45) || decide (b.toNat = 46)))) := by
  rw [Bool.eq_iff_iff]
  unfold nmAt wordb win
  simp only [Bool.or_eq_true, Bool.and_eq_true, Bool.not_eq_true', Bool.and_eq_false_iff, Bool.or_eq_false_iff, decide_eq_true_eq, decide_eq_false_iff_not]
  omega
theorem get_str (l : List UInt8) (pos : Nat) (h : pos < (str l).size) : ((str l)[pos]'h).toNat = (l[pos]'(by rw [str_size] at h; exact h)).toNat := by rw [str_at]

set_option maxRecDepth 100000 in
set_option maxHeartbeats 3200000 in
theorem name_any (l : List UInt8) (hl : l.length ≤ 140737488355328) (w : World) : Calls Tryz.prog 98 #[.string (str l)] w fun e w' => e = .returned (.bool (isName l)) ∧ Below w.heap.size w w' := by
  have hz := str_size l
  by_cases h0 : l.length = 0
  · have hn : isName l = false := by
      unfold isName
      rw [show decide (1 ≤ l.length) = false from decide_eq_false (by omega)]
      rfl
    rw [hn]
    have hz0 : (str l).size = 0 := by omega
    clear hn h0 hz hl
    go_enter Tryz.func98, Tryz.ntmps98
    go_wp2
    go_ret
    exact ⟨rfl, Below.refl _ _⟩
  · by_cases h1 : 32 < l.length
    · have hn : isName l = false := by
        unfold isName
        rw [show decide (l.length ≤ 32) = false from decide_eq_false (by omega)]
        simp
      rw [hn]
      have hz0 : 32 < (str l).size := by omega
      have hz1 : (str l).size ≤ 140737488355328 := by omega
      have hz2 : (((str l).size : Int) == 0) = false := by rw [beq_eq_false_iff_ne]; omega
      have hz3 : decide (32 < ((str l).size : Int)) = true := decide_eq_true (by omega)
      clear hn h0 h1 hz hl
      go_enter Tryz.func98, Tryz.ntmps98
      go_wp2
      go_ret
      exact ⟨rfl, Below.refl _ _⟩
    · have hn : isName l = okFrom 0 l := by
        unfold isName
        rw [show decide (1 ≤ l.length) = true from decide_eq_true (by omega), show decide (l.length ≤ 32) = true from decide_eq_true (by omega)]
        rfl
      rw [hn]
      have HN := Lib.hid (show okFrom 0 (l.drop 0) = okFrom 0 l by simp)
      generalize okFrom 0 l = ans at *
      have hz0 : 0 < (str l).size := by omega
      have hz1 : (str l).size ≤ 32 := by omega
      have hz2 : (((str l).size : Int) == 0) = false := by rw [beq_eq_false_iff_ne]; omega
      have hz3 : decide (32 < ((str l).size : Int)) = false := decide_eq_false (by omega)
      have HZ := Lib.hid hz
      clear hn h0 h1 hz hl
      go_enter Tryz.func98, Tryz.ntmps98
      go_wp2
      go_loopw [15] (fun _ wr => ∃ pos : Nat, wr.heap[w.heap.size]? = some (.stringIter (str l) pos) ∧ Aside (Below w.heap.size w wr) ∧ Aside (okFrom pos (l.drop pos) = ans)) (fun _ wr => (str l).size - wr.iterPos w.heap.size)
      case atStart => exact ⟨0, World.iter_heap w (str l) 0, (Below.refl _ w).alloc (Nat.le_refl _) _, HN.out⟩
      case round =>
        obtain ⟨pos, hit, hbw, hok⟩ := hrel
        have hsz : w.heap.size < wr.heap.size := (Array.getElem?_eq_some_iff.1 hit).1
        by_cases hp : pos < (str l).size
        · have hpl : pos < l.length := by rw [← HZ.out]; exact hp
          rw [okFrom_drop hpl] at hok
          have HOK := Lib.hid (show (nmAt pos (l[pos]'hpl) && okFrom (pos + 1) (l.drop (pos + 1))) = ans from hok)
          have HB := Lib.hid hbw
          have hg := get_str l pos hp
          clear hok hbw
          generalize hc : l[pos]'hpl = c at *
          by_cases ha : c.toNat < 128
          · have hnx : ∀ ty, (Instr.next (.pointer (some ⟨w.heap.size, 0, none⟩)) true ty).run Tryz.prog wr = .ok (.tuple #[.bool true, .int .i64 (pos : Int), .int .i32 (c.toNat : Int)]) (wr.iterAt w.heap.size (str l) (pos + 1)) := fun ty => by
              rw [Lib.run_next_ascii_at wr w.heap.size (str l) pos ty hit hp (by omega), hg]
            have HI2 := Lib.hid (Lib.iterAt_heap wr w.heap.size (str l) pos (pos + 1) hit)
            have HB2 := Lib.hid (Lib.below_iterAt HB.out (k := w.heap.size) (Nat.le_refl _) (str l) (pos + 1))
            have HIT := Lib.hid hit
            have hnm := nm_win (i := pos) (b := c)
            rw [hnm] at HOK
            clear hit hnm hg hc hpl
            have hc2 : ((c.toNat : Nat) : Int) < 128 := by omega
            cases hw : win (c.toNat : Int) with
            | false =>
              have HW := Lib.hid hw
              have hans : ans = false := by rw [← HOK.out, hw]; rfl
              subst hans
              clear hw HOK
              go_wp2_with (go_at_call 125; refine (within_any _ _).mono ?_; rintro e w1 ⟨rfl, rfl⟩; rw [HW.out])
              go_ret
              exact ⟨rfl, HB2.out⟩
            | true =>
              have HW := Lib.hid hw
              rw [hw] at HOK
              clear hw
              by_cases h0 : pos = 0
              · subst h0
                have k0 : (((0 : Nat) : Int) == 0) = true := rfl
                by_cases h45 : c.toNat = 45
                · have hans : ans = false := by rw [← HOK.out, h45]; rfl
                  have k45 : (((c.toNat : Nat) : Int) == 45) = true := by rw [beq_iff_eq]; omega
                  subst hans
                  clear HOK h45
                  go_wp2_with (go_at_call 125; refine (within_any _ _).mono ?_; rintro e w1 ⟨rfl, rfl⟩; rw [HW.out])
                  go_ret
                  exact ⟨rfl, HB2.out⟩
                · have k45 : (((c.toNat : Nat) : Int) == 45) = false := by rw [beq_eq_false_iff_ne]; omega
                  by_cases h46 : c.toNat = 46
                  · have hans : ans = false := by rw [← HOK.out, h46]; rfl
                    have k46 : (((c.toNat : Nat) : Int) == 46) = true := by rw [beq_iff_eq]; omega
                    subst hans
                    clear HOK h45 h46
                    go_wp2_with (go_at_call 125; refine (within_any _ _).mono ?_; rintro e w1 ⟨rfl, rfl⟩; rw [HW.out])
                    go_ret
                    exact ⟨rfl, HB2.out⟩
                  · have k46 : (((c.toNat : Nat) : Int) == 46) = false := by rw [beq_eq_false_iff_ne]; omega
                    have HO2 := Lib.hid (show okFrom (0 + 1) (l.drop (0 + 1)) = ans by
                      have := HOK.out
                      rw [show decide (c.toNat = 45) = false from decide_eq_false h45, show decide (c.toNat = 46) = false from decide_eq_false h46] at this
                      simpa using this)
                    clear HOK h45 h46
                    go_wp2_with (go_at_call 125; refine (within_any _ _).mono ?_; rintro e w1 ⟨rfl, rfl⟩; rw [HW.out])
                    go_roundw
                    case rel => exact ⟨0 + 1, HI2.out, HB2.out, HO2.out⟩
                    case measure =>
                      simp only [World.iterPos, HI2.out, HIT.out]
                      omega
              · have k0 : (((pos : Nat) : Int) == 0) = false := by rw [beq_eq_false_iff_ne]; omega
                have HO2 := Lib.hid (show okFrom (pos + 1) (l.drop (pos + 1)) = ans by
                  have := HOK.out
                  rw [show decide (pos = 0) = false from decide_eq_false h0] at this
                  simpa using this)
                clear HOK
                go_wp2_with (go_at_call 125; refine (within_any _ _).mono ?_; rintro e w1 ⟨rfl, rfl⟩; rw [HW.out])
                go_roundw
                case rel => exact ⟨pos + 1, HI2.out, HB2.out, HO2.out⟩
                case measure =>
                  simp only [World.iterPos, HI2.out, HIT.out]
                  omega
          · obtain ⟨hr, hd⟩ := decode_high (str l) pos hp (by omega)
            have hle := decode_le (str l) pos
            have hnx : ∀ ty, (Instr.next (.pointer (some ⟨w.heap.size, 0, none⟩)) true ty).run Tryz.prog wr = _ := fun ty => Lib.run_next_any_at wr w.heap.size (str l) pos ty hit hp
            have HB2 := Lib.hid (Lib.below_iterAt HB.out (k := w.heap.size) (Nat.le_refl _) (str l) (pos + (Utf8.decode (str l) pos).2))
            have hans : ans = false := by rw [← HOK.out, name_high (l := l) (by omega)]; rfl
            have hw : win ((Utf8.decode (str l) pos).1 : Int) = false := win_no (by omega)
            have HW := Lib.hid hw
            subst hans
            clear hw HOK hit hg hc hpl
            go_wp2_with (go_at_call 125; refine (within_any _ _).mono ?_; rintro e w1 ⟨rfl, rfl⟩; rw [HW.out])
            go_ret
            exact ⟨rfl, HB2.out⟩
        · have hnx : ∀ ty, (Instr.next (.pointer (some ⟨w.heap.size, 0, none⟩)) true ty).run Tryz.prog wr = _ := fun ty => Lib.run_next_end_at wr w.heap.size (str l) pos ty hit hp
          have ha : ans = true := by rw [← hok]; exact okFrom_end l (by rw [← HZ.out]; omega)
          have HB := Lib.hid hbw
          subst ha
          clear hok hbw hit
          go_wp2
          go_ret
          exact ⟨rfl, HB.out⟩
end Go.Proofs.YtekcjfdllclphaaGreatDoor.gn
end
