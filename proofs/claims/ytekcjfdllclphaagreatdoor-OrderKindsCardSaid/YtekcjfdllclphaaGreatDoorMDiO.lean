/- Directives, plain: their texts, read again; the order of fields; one left out, or twice; another size. -/
import Derived.Test.YtekcjfdllclphaaGreatDoorMDiN
section
set_option linter.unusedVariables false
namespace Go.Proofs.YtekcjfdllclphaaGreatDoor.di
open Go.Proofs.YtekcjfdllclphaaGreatDoor.un
open Go.Lib (decDigits)

/-- A field's text. -/
def wtx (f : Fl) : Tx := f.1 ++ 61 :: f.2
theorem cut_wtx {f : Fl} (h : (61 : UInt8) ∉ f.1) : cut (wtx f) = some f := cut_at f.1 f.2 h
theorem mapM_wtx : ∀ {fs : List Fl}, (∀ f ∈ fs, (61 : UInt8) ∉ f.1) → (fs.map wtx).mapM cut = some fs
  | [], _ => rfl
  | f :: fs, h => by
    rw [List.map_cons, List.mapM_cons, cut_wtx (h f (by simp)), mapM_wtx fun g hg => h g (by simp [hg])]
    rfl
theorem mapM_back : ∀ {ws : List Tx} {fs : List Fl}, ws.mapM cut = some fs → ws = fs.map wtx ∧ ∀ f ∈ fs, (61 : UInt8) ∉ f.1
  | [], fs, h => by
    have : fs = [] := (Option.some.inj h).symm
    subst this
    simp
  | w :: ws, fs, h => by
    rw [List.mapM_cons] at h
    cases hc : cut w with
    | none => rw [hc] at h; cases h
    | some f =>
      rw [hc] at h
      cases hm : ws.mapM cut with
      | none => rw [hm] at h; cases h
      | some gs =>
        rw [hm] at h
        have : fs = f :: gs := (Option.some.inj (show some (f :: gs) = some fs from h)).symm
        subst this
        obtain ⟨e1, e2⟩ := mapM_back hm
        obtain ⟨k1, k2⟩ := cut_some w f.1 f.2 hc
        refine ⟨by rw [List.map_cons, ← e1]; rw [k1]; rfl, ?_⟩
        intro g hg
        rcases List.mem_cons.1 hg with rfl | hg
        · exact k2
        · exact e2 g hg

/-- A line of a kind's word and fields. -/
def lineOf (k : Nat) (fs : List Fl) : Tx := joinW (bbW :: kw k :: fs.map wtx)
theorem kind_kw {k : Nat} (h : 1 ≤ k ∧ k ≤ 6) : kind? (kw k) = some k := by
  have hc : k = 1 ∨ k = 2 ∨ k = 3 ∨ k = 4 ∨ k = 5 ∨ k = 6 := by omega
  rcases hc with rfl | rfl | rfl | rfl | rfl | rfl <;> decide
theorem kw_clean {k : Nat} (h : 1 ≤ k ∧ k ≤ 6) : (32 : UInt8) ∉ kw k := by
  have hc : k = 1 ∨ k = 2 ∨ k = 3 ∨ k = 4 ∨ k = 5 ∨ k = 6 := by omega
  rcases hc with rfl | rfl | rfl | rfl | rfl | rfl <;> decide
theorem kind_some {w : Tx} {k : Nat} (h : kind? w = some k) : w = kw k ∧ 1 ≤ k ∧ k ≤ 6 := by
  unfold kind? at h
  cases hf : kindL.findIdx? (fun x => x == w) with
  | none => rw [hf] at h; cases h
  | some i =>
    rw [hf] at h
    have hk : i + 1 = k := by simpa using h
    obtain ⟨hi, hp, _⟩ := List.findIdx?_eq_some_iff_getElem.1 hf
    have hl : kindL.length = 6 := rfl
    refine ⟨?_, by omega, by omega⟩
    have : kindL[i] = w := by simpa using hp
    rw [← this, ← hk]
    unfold kw
    rw [Nat.add_sub_cancel, List.getD_eq_getElem?_getD, List.getElem?_eq_getElem hi]
    rfl

theorem words_line {k : Nat} (hk : 1 ≤ k ∧ k ≤ 6) {fs : List Fl} (h : ∀ f ∈ fs, (32 : UInt8) ∉ wtx f) : words (lineOf k fs) = bbW :: kw k :: fs.map wtx := by
  unfold lineOf
  refine words_join _ (by simp) fun w hw => ?_
  rcases List.mem_cons.1 hw with rfl | hw
  · decide
  rcases List.mem_cons.1 hw with rfl | hw
  · exact kw_clean hk
  obtain ⟨f, hf, rfl⟩ := List.mem_map.1 hw
  exact h f hf
theorem line_line {k : Nat} (hk : 1 ≤ k ∧ k ≤ 6) {fs : List Fl} (h : ∀ f ∈ fs, (32 : UInt8) ∉ wtx f) (h2 : ∀ f ∈ fs, (61 : UInt8) ∉ f.1) : line? (lineOf k fs) = if good k fs then some (dirOf k fs) else none := by
  unfold line?
  rw [words_line hk h]
  dsimp only
  rw [if_pos rfl, kind_kw hk]
  dsimp only
  unfold fields?
  rw [mapM_wtx h2]
/-- A line that is read is one of a kind's word and good fields. -/
theorem line_some {l : Tx} {d : Dir} (h : line? l = some d) : ∃ k fs, (1 ≤ k ∧ k ≤ 6) ∧ l = lineOf k fs ∧ words l = bbW :: kw k :: fs.map wtx ∧ (∀ f ∈ fs, (32 : UInt8) ∉ wtx f) ∧ (∀ f ∈ fs, (61 : UInt8) ∉ f.1) ∧ good k fs ∧ d = dirOf k fs := by
  unfold line? at h
  split at h
  · rename_i b w ws hw
    split at h
    · rename_i hb
      split at h
      · rename_i k hk
        unfold fields? at h
        split at h
        · rename_i fs hm
          split at h
          · rename_i hg
            obtain ⟨e1, e2⟩ := mapM_back hm
            obtain ⟨e3, e4⟩ := kind_some hk
            subst hb; subst e3; subst e1
            refine ⟨k, fs, e4, ?_, hw, ?_, e2, hg, (Option.some.inj h).symm⟩
            · unfold lineOf
              rw [← hw, join_words]
            · intro f hf
              refine words_clean l _ ?_
              rw [hw]
              simp only [List.mem_cons]
              exact .inr (.inr (List.mem_map.2 ⟨f, hf, rfl⟩))
          · cases h
        · cases h
      · cases h
    · cases h
  · cases h
theorem req_ne {k : Nat} (h : 1 ≤ k ∧ k ≤ 6) : req k ≠ [] := by
  have hc : k = 1 ∨ k = 2 ∨ k = 3 ∨ k = 4 ∨ k = 5 ∨ k = 6 := by omega
  rcases hc with rfl | rfl | rfl | rfl | rfl | rfl <;> decide
theorem good_ne {k : Nat} (h : 1 ≤ k ∧ k ≤ 6) {fs : List Fl} (hg : good k fs) : fs ≠ [] := by
  rintro rfl
  cases hr : req k with
  | nil => exact req_ne h hr
  | cons r rs =>
    have := hg.2.2 r (by rw [hr]; simp)
    simp [keys] at this

/-! ### the text of a directive -/
def fsOf (d : Dir) (sv : Tx) : List Fl := (if hasName d.kind then [(nameK, d.name)] else []) ++ (if hasSize d.kind then [(szK d.kind, sv)] else []) ++ (if hasPool d.kind then [(poolK, d.pool)] else []) ++ (if d.opn then [(accK, pubV)] else [])
def dtx (d : Dir) : Tx := lineOf d.kind (fsOf d (stxt d.size))

theorem name_clean {v : Tx} (h : isName v = true) : (32 : UInt8) ∉ v := by
  intro hm
  obtain ⟨j, hj, he⟩ := List.getElem_of_mem hm
  have := (name_bytes h j hj).1
  rw [he] at this
  exact this (by decide)
theorem name_lf {v : Tx} (h : isName v = true) : (10 : UInt8) ∉ v := by
  intro hm
  obtain ⟨j, hj, he⟩ := List.getElem_of_mem hm
  have := (name_bytes h j hj).2.2.1
  rw [he] at this
  exact this (by decide)
theorem name_len {v : Tx} (h : isName v = true) : v.length ≤ 32 := (name_one h).2.1

/-- Bytes of which neither is a blank or a line feed. -/
def plain (v : Tx) : Prop := (32 : UInt8) ∉ v ∧ (10 : UInt8) ∉ v
theorem plain_app {a b : Tx} (ha : plain a) (hb : plain b) : plain (a ++ b) :=
  ⟨fun h => (List.mem_append.1 h).elim ha.1 hb.1, fun h => (List.mem_append.1 h).elim ha.2 hb.2⟩
theorem plain_dec (n : Nat) : plain (decDigits n) := by
  constructor
  · intro h
    exact absurd (dec_dig n _ h) (by decide)
  · intro h
    exact absurd (dec_dig n _ h) (by decide)
theorem plain_nm {k : Nat} (h : k < 8) : plain (nm k) := by
  rcases lt8 h with rfl | rfl | rfl | rfl | rfl | rfl | rfl | rfl <;> (unfold plain; decide)
theorem plain_txt (n : Int) : plain (txt n) := by
  unfold txt
  split
  · exact plain_dec _
  · exact ⟨by simp, by simp⟩
theorem plain_stxt (n : Int) : plain (stxt n) := by
  by_cases h : 0 < n ∧ n ≤ 1099511627776
  · obtain ⟨m, rfl⟩ : ∃ m : Nat, n = (m : Int) := ⟨n.toNat, by omega⟩
    rcases stxt_cases (show 0 < m by omega) (show m ≤ top by unfold top; omega) with ⟨k, hk, _, e⟩ | e
    · rw [e]
      exact plain_app (plain_dec _) (plain_nm (by omega))
    · rw [e]
      exact plain_dec _
  · rw [stxt_out h]
    exact plain_txt n
theorem plain_name {v : Tx} (h : isName v = true) : plain v := ⟨name_clean h, name_lf h⟩

/-- A directive that may be, and the text of its size, or of another one. -/
structure Made (d : Dir) (sv : Tx) (n : Nat) : Prop where
  ok : chk d = true
  sv : hasSize d.kind = true → plain sv ∧ size? sv = some n ∧ 0 < n ∧ sv.length ≤ 20
theorem Made.mem {d : Dir} {sv : Tx} {n : Nat} {f : Fl} (hf : f ∈ fsOf d sv) :
    (hasName d.kind = true ∧ f = (nameK, d.name)) ∨ (hasSize d.kind = true ∧ f = (szK d.kind, sv)) ∨ (hasPool d.kind = true ∧ f = (poolK, d.pool)) ∨ (d.opn = true ∧ f = (accK, pubV)) := by
  unfold fsOf at hf
  cases h1 : hasName d.kind <;> cases h2 : hasSize d.kind <;> cases h3 : hasPool d.kind <;> cases h4 : d.opn <;> simp [h1, h2, h3, h4] at hf <;> simp [hf]
theorem szK_plain (k : Nat) : plain (szK k) ∧ (61 : UInt8) ∉ szK k := by
  rcases szK_cases k with h | h <;> rw [h] <;> (unfold plain; decide)
theorem Made.wtx {d : Dir} {sv : Tx} {n : Nat} (h : Made d sv n) {f : Fl} (hf : f ∈ fsOf d sv) : plain (wtx f) ∧ (61 : UInt8) ∉ f.1 ∧ (di.wtx f).length ≤ 50 := by
  obtain ⟨_, c1, _, c2, _, c4, _, _⟩ := (chk_iff d).1 h.ok
  have p61 : plain [61] := by unfold plain; decide
  have key : ∀ (a b : Tx), plain a → plain b → plain (di.wtx (a, b)) := fun a b ha hb => by
    show plain (a ++ ([61] ++ b))
    exact plain_app ha (plain_app p61 hb)
  rcases Made.mem (n := n) hf with ⟨e, rfl⟩ | ⟨e, rfl⟩ | ⟨e, rfl⟩ | ⟨e, rfl⟩
  · have hn := c2.1 e
    refine ⟨key _ _ (by unfold plain; decide) (plain_name hn), (show (61 : UInt8) ∉ nameK by decide), ?_⟩
    have := name_len hn
    show (nameK ++ 61 :: d.name).length ≤ 50
    rw [List.length_append, List.length_cons, show nameK.length = 4 from rfl]
    omega
  · obtain ⟨s1, s2, s3, s4⟩ := h.sv e
    refine ⟨key _ _ (szK_plain _).1 s1, (szK_plain _).2, ?_⟩
    show (szK d.kind ++ 61 :: sv).length ≤ 50
    have : (szK d.kind).length ≤ 8 := by rcases szK_cases d.kind with h | h <;> rw [h] <;> decide
    rw [List.length_append, List.length_cons]
    omega
  · have hn := c4.1 e
    refine ⟨key _ _ (by unfold plain; decide) (plain_name hn), (show (61 : UInt8) ∉ poolK by decide), ?_⟩
    have := name_len hn
    show (poolK ++ 61 :: d.pool).length ≤ 50
    rw [List.length_append, List.length_cons, show poolK.length = 4 from rfl]
    omega
  · exact ⟨key _ _ (by unfold plain; decide) (by unfold plain; decide), by decide, by decide⟩

theorem Made.good {d : Dir} {sv : Tx} {n : Nat} (h : Made d sv n) : good d.kind (fsOf d sv) ∧ dirOf d.kind (fsOf d sv) = { d with size := if hasSize d.kind then (n : Int) else d.size } := by
  obtain ⟨c0, c1, cz, c2, c3, c4, c5, c6⟩ := (chk_iff d).1 h.ok
  obtain ⟨k, nm, pl, z, o⟩ := d
  dsimp only at c0 c1 cz c2 c3 c4 c5 c6 ⊢
  have hs := h.sv
  dsimp only at hs
  have hk : k = 1 ∨ k = 2 ∨ k = 3 ∨ k = 4 ∨ k = 5 ∨ k = 6 := by omega
  have vn : hasName k = true → okv nameK nm = true := fun e => by rw [okv_name]; exact c2.1 e
  have vp : hasPool k = true → okv poolK pl = true := fun e => by rw [okv_pool]; exact c4.1 e
  have vs : hasSize k = true → okv (szK k) sv = true := fun e => by
    rw [okv_sz, (hs e).2.1, decide_eq_true_eq]
    exact (hs e).2.2.1
  have vz : hasSize k = true → (size? sv).getD 0 = n := fun e => by rw [(hs e).2.1]; rfl
  have zz : hasSize k = false → z = 0 := fun e => by
    have : ¬ 0 < z := fun h0 => by rw [c1.2 h0] at e; cases e
    omega
  have nn : hasName k = false → nm = [] := fun e => by rcases c3 with c3 | c3; rw [c3] at e; cases e; exact c3
  have pp : hasPool k = false → pl = [] := fun e => by rcases c5 with c5 | c5; rw [c5] at e; cases e; exact c5
  have vo : okv accK pubV = true := by decide
  have oo : k ≠ 4 → o = false := fun e => by rcases c6 with c6 | c6; exact c6; exact absurd c6 e
  unfold fsOf
  dsimp only
  rcases hk with rfl | rfl | rfl | rfl | rfl | rfl
  · have e1 := nn (by decide); have e5 := oo (by decide); have a1 := vs (by decide); have a2 := vp (by decide); have a3 := vz (by decide)
    subst e1; subst e5
    constructor
    · exact ⟨(show [capK, poolK].Nodup by decide), by
        intro f hf
        have hf' : f = (capK, sv) ∨ f = (poolK, pl) := by simpa [hasName, hasSize, hasPool, szK] using hf
        rcases hf' with rfl | rfl
        · exact ⟨(show allow 1 capK = true by decide), a1⟩
        · exact ⟨(show allow 1 poolK = true by decide), a2⟩, by
        intro r hr
        have hr' : r = capK ∨ r = poolK := by simpa [req, hasName, hasSize, hasPool, szK] using hr
        rcases hr' with rfl | rfl
        · exact (show capK ∈ [capK, poolK] by decide)
        · exact (show poolK ∈ [capK, poolK] by decide)⟩
    · show (⟨1, [], pl, (((size? sv).getD 0 : Nat) : Int), false⟩ : Dir) = ⟨1, [], pl, (n : Int), false⟩
      rw [a3]
  · have e1 := nn (by decide); have e2 := pp (by decide); have e5 := oo (by decide); have a1 := vs (by decide); have a3 := vz (by decide)
    subst e1; subst e2; subst e5
    constructor
    · exact ⟨(show [sizeK].Nodup by decide), by
        intro f hf
        have hf' : f = (sizeK, sv) := by simpa [hasName, hasSize, hasPool, szK] using hf
        subst hf'
        exact ⟨(show allow 2 sizeK = true by decide), a1⟩, by
        intro r hr
        have hr' : r = sizeK := by simpa [req, hasName, hasSize, hasPool, szK] using hr
        subst hr'
        exact (show sizeK ∈ [sizeK] by decide)⟩
    · show (⟨2, [], [], (((size? sv).getD 0 : Nat) : Int), false⟩ : Dir) = ⟨2, [], [], (n : Int), false⟩
      rw [a3]
  · have e1 := nn (by decide); have e2 := pp (by decide); have e5 := oo (by decide); have a1 := vs (by decide); have a3 := vz (by decide)
    subst e1; subst e2; subst e5
    constructor
    · exact ⟨(show [sizeK].Nodup by decide), by
        intro f hf
        have hf' : f = (sizeK, sv) := by simpa [hasName, hasSize, hasPool, szK] using hf
        subst hf'
        exact ⟨(show allow 3 sizeK = true by decide), a1⟩, by
        intro r hr
        have hr' : r = sizeK := by simpa [req, hasName, hasSize, hasPool, szK] using hr
        subst hr'
        exact (show sizeK ∈ [sizeK] by decide)⟩
    · show (⟨3, [], [], (((size? sv).getD 0 : Nat) : Int), false⟩ : Dir) = ⟨3, [], [], (n : Int), false⟩
      rw [a3]
  · have a0 := vn (by decide); have a1 := vs (by decide); have a2 := vp (by decide); have a3 := vz (by decide)
    cases o with
    | false =>
      constructor
      · exact ⟨(show [nameK, capK, poolK].Nodup by decide), by
          intro f hf
          have hf' : f = (nameK, nm) ∨ f = (capK, sv) ∨ f = (poolK, pl) := by simpa [hasName, hasSize, hasPool, szK] using hf
          rcases hf' with rfl | rfl | rfl
          · exact ⟨(show allow 4 nameK = true by decide), a0⟩
          · exact ⟨(show allow 4 capK = true by decide), a1⟩
          · exact ⟨(show allow 4 poolK = true by decide), a2⟩, by
          intro r hr
          have hr' : r = nameK ∨ r = capK ∨ r = poolK := by simpa [req, hasName, hasSize, hasPool, szK] using hr
          rcases hr' with rfl | rfl | rfl
          · exact (show nameK ∈ [nameK, capK, poolK] by decide)
          · exact (show capK ∈ [nameK, capK, poolK] by decide)
          · exact (show poolK ∈ [nameK, capK, poolK] by decide)⟩
      · show (⟨4, nm, pl, (((size? sv).getD 0 : Nat) : Int), false⟩ : Dir) = ⟨4, nm, pl, (n : Int), false⟩
        rw [a3]
    | true =>
      constructor
      · exact ⟨(show [nameK, capK, poolK, accK].Nodup by decide), by
          intro f hf
          have hf' : f = (nameK, nm) ∨ f = (capK, sv) ∨ f = (poolK, pl) ∨ f = (accK, pubV) := by simpa [hasName, hasSize, hasPool, szK] using hf
          rcases hf' with rfl | rfl | rfl | rfl
          · exact ⟨(show allow 4 nameK = true by decide), a0⟩
          · exact ⟨(show allow 4 capK = true by decide), a1⟩
          · exact ⟨(show allow 4 poolK = true by decide), a2⟩
          · exact ⟨(show allow 4 accK = true by decide), vo⟩, by
          intro r hr
          have hr' : r = nameK ∨ r = capK ∨ r = poolK := by simpa [req, hasName, hasSize, hasPool, szK] using hr
          rcases hr' with rfl | rfl | rfl
          · exact (show nameK ∈ [nameK, capK, poolK, accK] by decide)
          · exact (show capK ∈ [nameK, capK, poolK, accK] by decide)
          · exact (show poolK ∈ [nameK, capK, poolK, accK] by decide)⟩
      · show (⟨4, nm, pl, (((size? sv).getD 0 : Nat) : Int), true⟩ : Dir) = ⟨4, nm, pl, (n : Int), true⟩
        rw [a3]
  · have e2 := pp (by decide); have e3 := zz (by decide); have e5 := oo (by decide); have a0 := vn (by decide)
    subst e2; subst e3; subst e5
    constructor
    · exact ⟨(show [nameK].Nodup by decide), by
        intro f hf
        have hf' : f = (nameK, nm) := by simpa [hasName, hasSize, hasPool, szK] using hf
        subst hf'
        exact ⟨(show allow 5 nameK = true by decide), a0⟩, by
        intro r hr
        have hr' : r = nameK := by simpa [req, hasName, hasSize, hasPool, szK] using hr
        subst hr'
        exact (show nameK ∈ [nameK] by decide)⟩
    · rfl
  · have e2 := pp (by decide); have e3 := zz (by decide); have e5 := oo (by decide); have a0 := vn (by decide)
    subst e2; subst e3; subst e5
    constructor
    · exact ⟨(show [nameK].Nodup by decide), by
        intro f hf
        have hf' : f = (nameK, nm) := by simpa [hasName, hasSize, hasPool, szK] using hf
        subst hf'
        exact ⟨(show allow 6 nameK = true by decide), a0⟩, by
        intro r hr
        have hr' : r = nameK := by simpa [req, hasName, hasSize, hasPool, szK] using hr
        subst hr'
        exact (show nameK ∈ [nameK] by decide)⟩
    · rfl
end Go.Proofs.YtekcjfdllclphaaGreatDoor.di
end
section
set_option linter.unusedVariables false
namespace Go.Proofs.YtekcjfdllclphaaGreatDoor.di
open Go.Proofs.YtekcjfdllclphaaGreatDoor.un
open Go.Lib (decDigits)

theorem joinW_snoc : ∀ (L : List Tx) (x : Tx), L ≠ [] → joinW (L ++ [x]) = joinW L ++ 32 :: x
  | [], _, h => absurd rfl h
  | [a], x, _ => rfl
  | a :: b :: r, x, _ => by
    rw [List.cons_append, joinW_cons a (by simp), joinW_snoc (b :: r) x (by simp), joinW_cons a (by simp), List.append_assoc]
    rfl
theorem words_two : ∀ (a r : Tx), words (a ++ 32 :: r) = words a ++ words r
  | [], r => words_bl r
  | b :: a, r => by
    have ih := words_two a r
    by_cases hb : b = 32
    · subst hb
      show words (32 :: (a ++ 32 :: r)) = words (32 :: a) ++ words r
      rw [words_bl, words_bl, ih]
      rfl
    · show words (b :: (a ++ 32 :: r)) = words (b :: a) ++ words r
      rw [words_nb hb, words_nb hb, ih]
      cases hw : words a with
      | nil => exact absurd hw (words_ne a)
      | cons h t => rfl
theorem mapM_snoc : ∀ (ws : List Tx) (x : Tx), (ws ++ [x]).mapM cut = match ws.mapM cut, cut x with
    | some fs, some f => some (fs ++ [f])
    | _, _ => none
  | [], x => by
    rw [List.nil_append, List.mapM_cons]
    cases cut x <;> rfl
  | w :: ws, x => by
    rw [List.cons_append, List.mapM_cons, mapM_snoc ws x, List.mapM_cons]
    cases cut w with
    | none => rfl
    | some f =>
      cases ws.mapM cut with
      | none => rfl
      | some fs => cases cut x <;> rfl

/-! ### a text that was written -/
theorem Made.line {d : Dir} {sv : Tx} {n : Nat} (h : Made d sv n) : line? (lineOf d.kind (fsOf d sv)) = some { d with size := if hasSize d.kind then (n : Int) else d.size } := by
  obtain ⟨c0, _⟩ := (chk_iff d).1 h.ok
  rw [line_line c0 (fun f hf => (h.wtx hf).1.1) (fun f hf => (h.wtx hf).2.1), if_pos h.good.1, h.good.2]
theorem made_text {d : Dir} (h : chk d = true) : Made d (stxt d.size) d.size.toNat := by
  refine ⟨h, fun hs => ?_⟩
  obtain ⟨c0, c1, cz, _⟩ := (chk_iff d).1 h
  have hp := c1.1 hs
  obtain ⟨m, hm⟩ : ∃ m : Nat, d.size = (m : Int) := ⟨d.size.toNat, by omega⟩
  rw [hm]
  refine ⟨plain_stxt _, ?_, by simp; omega, Nat.le_trans (stxt_len _) (by decide)⟩
  rw [Int.toNat_natCast]
  exact size_stxt (by unfold top; omega)
theorem text_read {d : Dir} (h : chk d = true) : line? (dtx d) = some d := by
  have hl := (made_text h).line
  unfold dtx
  rw [hl]
  obtain ⟨c0, c1, cz, _⟩ := (chk_iff d).1 h
  cases hs : hasSize d.kind with
  | false => simp
  | true => simp; cases d; simp at cz ⊢; omega
theorem made_kib {d : Dir} (h : chk d = true) (h0 : d.size ≤ 1073741824) : Made d (decDigits d.size.toNat ++ nm 3) (d.size.toNat * 1024) := by
  refine ⟨h, fun hs => ?_⟩
  obtain ⟨c0, c1, cz, _⟩ := (chk_iff d).1 h
  have hp := c1.1 hs
  have ht : d.size.toNat ≤ top := by unfold top; omega
  refine ⟨plain_app (plain_dec _) (plain_nm (by decide)), ?_, by omega, ?_⟩
  · rw [size_unit (by decide) ht, if_pos]
    · rfl
    · show d.size.toNat ≤ 1099511627776 / 1024
      omega
  · rw [List.length_append]
    have := dec_len ht
    have := nm_len (show 3 < 8 by decide)
    omega
theorem kib_read {d : Dir} (h : chk d = true) (hs : hasSize d.kind = true) (h0 : d.size ≤ 1073741824) : line? (lineOf d.kind (fsOf d (decDigits d.size.toNat ++ nm 3))) = some { d with size := d.size * 1024 } := by
  rw [(made_kib h h0).line, if_pos hs]
  obtain ⟨c0, c1, cz, _⟩ := (chk_iff d).1 h
  have : ((d.size.toNat * 1024 : Nat) : Int) = d.size * 1024 := by omega
  rw [this]

theorem joinW_len : ∀ (L : List Tx) (m : Nat), (∀ w ∈ L, w.length ≤ m) → (joinW L).length ≤ L.length * (m + 1)
  | [], m, _ => by simp [joinW]
  | [a], m, h => by
    have := h a (by simp)
    show a.length ≤ 1 * (m + 1)
    omega
  | a :: b :: r, m, h => by
    have h1 := h a (by simp)
    have h2 := joinW_len (b :: r) m fun w hw => h w (by simp [hw])
    rw [joinW_cons a (by simp), List.length_append, List.length_cons, List.length_cons (a := a), Nat.add_mul]
    omega
theorem kw_len {k : Nat} (h : 1 ≤ k ∧ k ≤ 6) : (kw k).length ≤ 50 := by
  have hc : k = 1 ∨ k = 2 ∨ k = 3 ∨ k = 4 ∨ k = 5 ∨ k = 6 := by omega
  rcases hc with rfl | rfl | rfl | rfl | rfl | rfl <;> decide
theorem Made.len {d : Dir} {sv : Tx} {n : Nat} (h : Made d sv n) : (lineOf d.kind (fsOf d sv)).length ≤ 306 := by
  obtain ⟨c0, _⟩ := (chk_iff d).1 h.ok
  unfold lineOf
  have hl := joinW_len (bbW :: kw d.kind :: (fsOf d sv).map di.wtx) 50 fun w hw => by
    rcases List.mem_cons.1 hw with rfl | hw
    · decide
    rcases List.mem_cons.1 hw with rfl | hw
    · exact kw_len c0
    obtain ⟨f, hf, rfl⟩ := List.mem_map.1 hw
    exact (h.wtx hf).2.2
  have h4 : (fsOf d sv).length ≤ 4 := by
    unfold fsOf
    cases hasName d.kind <;> cases hasSize d.kind <;> cases hasPool d.kind <;> cases d.opn <;> simp
  rw [List.length_cons, List.length_cons, List.length_map] at hl
  have : ((fsOf d sv).length + 1 + 1) * (50 + 1) ≤ 6 * 51 := Nat.mul_le_mul_right _ (by omega)
  omega

/-- No line feed, and no blank behind a blank: p is the byte ahead. -/
def neat : UInt8 → Tx → Bool
  | _, [] => true
  | p, b :: r => decide (b ≠ 10) && !(decide (b = 32) && decide (p = 32)) && neat b r
theorem neat_plain : ∀ (a : Tx) (p : UInt8) (r : Tx), plain a → a ≠ [] → neat p (a ++ 32 :: r) = neat 32 r
  | [], _, _, _, h => absurd rfl h
  | [b], p, r, h, _ => by
    have h1 : b ≠ 32 := fun e => h.1 (by simp [e])
    have h2 : b ≠ 10 := fun e => h.2 (by simp [e])
    show neat p (b :: 32 :: r) = _
    simp [neat, h1, h2]
  | b :: c :: a, p, r, h, _ => by
    have h1 : b ≠ 32 := fun e => h.1 (by simp [e])
    have h2 : b ≠ 10 := fun e => h.2 (by simp [e])
    have hp : plain (c :: a) := ⟨fun e => h.1 (List.mem_cons_of_mem _ e), fun e => h.2 (List.mem_cons_of_mem _ e)⟩
    have ih := neat_plain (c :: a) b r hp (by simp)
    show neat p (b :: (c :: a ++ 32 :: r)) = _
    rw [neat, ih]
    simp [h1, h2]
theorem neat_end : ∀ (a : Tx) (p : UInt8), plain a → neat p a = true
  | [], _, _ => rfl
  | b :: a, p, h => by
    have h1 : b ≠ 32 := fun e => h.1 (by simp [e])
    have h2 : b ≠ 10 := fun e => h.2 (by simp [e])
    have ih := neat_end a b ⟨fun e => h.1 (List.mem_cons_of_mem _ e), fun e => h.2 (List.mem_cons_of_mem _ e)⟩
    rw [neat, ih]
    simp [h1, h2]
theorem neat_join : ∀ (L : List Tx) (p : UInt8), (∀ w ∈ L, plain w ∧ w ≠ []) → neat p (joinW L) = true
  | [], _, _ => rfl
  | [a], p, h => neat_end a p (h a (by simp)).1
  | a :: b :: r, p, h => by
    rw [joinW_cons a (by simp), neat_plain a p _ (h a (by simp)).1 (h a (by simp)).2]
    exact neat_join (b :: r) 32 fun w hw => h w (by simp [hw])
theorem kw_plain {k : Nat} (h : 1 ≤ k ∧ k ≤ 6) : plain (kw k) ∧ kw k ≠ [] := by
  have hc : k = 1 ∨ k = 2 ∨ k = 3 ∨ k = 4 ∨ k = 5 ∨ k = 6 := by omega
  rcases hc with rfl | rfl | rfl | rfl | rfl | rfl <;> (unfold plain; decide)
theorem text_neat {d : Dir} (h : chk d = true) (p : UInt8) : neat p (dtx d) = true := by
  obtain ⟨c0, _⟩ := (chk_iff d).1 h
  unfold dtx lineOf
  refine neat_join _ _ fun w hw => ?_
  rcases List.mem_cons.1 hw with rfl | hw
  · unfold plain; decide
  rcases List.mem_cons.1 hw with rfl | hw
  · exact kw_plain c0
  obtain ⟨f, hf, rfl⟩ := List.mem_map.1 hw
  refine ⟨((made_text h).wtx hf).1, ?_⟩
  unfold wtx
  simp

/-! ### the fields in another order; one less; one twice; a blank more -/
theorem line_rev {l : Tx} {d : Dir} {k : Nat} {fs : List Fl} (hk : 1 ≤ k ∧ k ≤ 6) (h1 : ∀ f ∈ fs, (32 : UInt8) ∉ wtx f) (h2 : ∀ f ∈ fs, (61 : UInt8) ∉ f.1) (hg : good k fs) :
    line? (lineOf k fs.reverse) = some (dirOf k fs) := by
  have hp : fs.Perm fs.reverse := (List.reverse_perm fs).symm
  rw [line_line hk (fun f hf => h1 f (by simpa using hf)) (fun f hf => h2 f (by simpa using hf)), if_pos (good_perm hp hg), dirOf_perm hp hg.1]
theorem allow_req {k : Nat} {key : Tx} (h : allow k key = true) (hn : key ≠ accK) : key ∈ req k := by
  unfold allow at h
  simp only [Bool.or_eq_true, Bool.and_eq_true, beq_iff_eq] at h
  rcases h with ((h | h) | h) | h
  · exact mem_req.2 (.inr (.inl h))
  · exact mem_req.2 (.inl h)
  · exact mem_req.2 (.inr (.inr h))
  · exact absurd h.2 hn
theorem acc_req (k : Nat) : accK ∉ req k := by
  obtain ⟨_, _, n3⟩ := sz_ne k
  intro h
  rcases mem_req.1 h with ⟨_, e⟩ | ⟨_, e⟩ | ⟨_, e⟩
  · exact absurd e (by decide)
  · exact n3 e.symm
  · exact absurd e (by decide)
/-- A row with one field parted from the others. -/
theorem line_less {k : Nat} {ar bs : List Fl} {f : Fl} (hk : 1 ≤ k ∧ k ≤ 6) (h1 : ∀ g ∈ ar ++ f :: bs, (32 : UInt8) ∉ wtx g) (h2 : ∀ g ∈ ar ++ f :: bs, (61 : UInt8) ∉ g.1) (hg : good k (ar ++ f :: bs)) :
    line? (lineOf k (ar ++ bs)) = if f.1 = accK then some { dirOf k (ar ++ f :: bs) with opn := false } else none := by
  have hsub : ∀ g, g ∈ ar ++ bs → g ∈ ar ++ f :: bs := fun g hg => by
    rcases List.mem_append.1 hg with h | h
    · exact List.mem_append_left _ h
    · exact List.mem_append_right _ (List.mem_cons_of_mem _ h)
  rw [line_line hk (fun g hg => h1 g (hsub g hg)) (fun g hg => h2 g (hsub g hg))]
  obtain ⟨g1, g2, g3⟩ := hg
  have hkeys : keys (ar ++ f :: bs) = keys ar ++ f.1 :: keys bs := by simp [keys]
  have hkeys2 : keys (ar ++ bs) = keys ar ++ keys bs := by simp [keys]
  have hnd := g1
  rw [hkeys] at hnd
  have hperm : (keys ar ++ f.1 :: keys bs).Perm (f.1 :: (keys ar ++ keys bs)) := List.perm_middle
  have hnd2 := hperm.nodup_iff.1 hnd
  rw [List.nodup_cons] at hnd2
  by_cases hf : f.1 = accK
  · rw [if_pos hf]
    have hgood : good k (ar ++ bs) := by
      refine ⟨by rw [hkeys2]; exact hnd2.2, fun g hg => g2 g (hsub g hg), fun r hr => ?_⟩
      have := g3 r hr
      rw [hkeys] at this
      rw [hkeys2]
      rcases List.mem_cons.1 (hperm.mem_iff.1 this) with e | e
      · exact absurd (by rw [e, hf] at hr; exact hr) (acc_req k)
      · exact e
    rw [if_pos hgood]
    have hp : (ar ++ f :: bs).Perm ((ar ++ bs) ++ [f]) := by
      refine List.perm_middle.trans ?_
      exact (List.perm_append_comm (l₁ := [f]) (l₂ := ar ++ bs))
    rw [dirOf_perm hp g1]
    have hn : f.1 ∉ keys (ar ++ bs) := by rw [hkeys2]; exact hnd2.1
    obtain ⟨_, _, n3⟩ := sz_ne k
    unfold dirOf
    rw [look_snoc hn, look_snoc hn, look_snoc hn, hf, if_neg (by decide), if_neg (by decide), if_neg (Ne.symm n3), look_none (key := accK) (by rw [← hf]; exact hn)]
    rfl
  · rw [if_neg hf, if_neg]
    intro hgood
    have := hgood.2.2 f.1 (allow_req (g2 f (by simp)).1 hf)
    rw [hkeys2] at this
    exact hnd2.1 this
theorem line_twice {l : Tx} {k : Nat} {fs : List Fl} {f : Fl} (hw : words l = bbW :: kw k :: fs.map wtx) (hk : 1 ≤ k ∧ k ≤ 6) (h1 : ∀ g ∈ fs, (32 : UInt8) ∉ wtx g) (h2 : ∀ g ∈ fs, (61 : UInt8) ∉ g.1) (hf : f ∈ fs) : line? (l ++ 32 :: wtx f) = none := by
  unfold line?
  rw [words_two, hw, words_one _ (h1 f hf)]
  show (match bbW :: kw k :: (fs.map wtx ++ [wtx f]) with
    | b :: w :: ws => if b = bbW then match kind? w with
      | some k => fields? k ws
      | none => none
      else none
    | _ => none) = none
  dsimp only
  rw [if_pos rfl, kind_kw hk]
  dsimp only
  unfold fields?
  rw [mapM_snoc, mapM_wtx h2, cut_wtx (h2 f hf)]
  dsimp only
  rw [if_neg]
  rintro ⟨g1, _⟩
  rw [keys_snoc, List.nodup_append] at g1
  exact g1.2.2 f.1 (List.mem_map.2 ⟨f, hf, rfl⟩) f.1 (by simp) rfl
theorem line_blank {l : Tx} {k : Nat} {fs : List Fl} (hw : words l = bbW :: kw k :: fs.map wtx) (hk : 1 ≤ k ∧ k ≤ 6) : line? (l ++ [32]) = none := by
  unfold line?
  rw [words_two, hw]
  show (match bbW :: kw k :: (fs.map wtx ++ [[]]) with
    | b :: w :: ws => if b = bbW then match kind? w with
      | some k => fields? k ws
      | none => none
      else none
    | _ => none) = none
  dsimp only
  rw [if_pos rfl, kind_kw hk]
  dsimp only
  unfold fields?
  rw [mapM_snoc]
  cases (fs.map wtx).mapM cut <;> rfl
end Go.Proofs.YtekcjfdllclphaaGreatDoor.di
end
