/- Directives, plain: the document's reading, field by field. -/
import Derived.Test.YtekcjfdllclphaaGreatDoorMDiM
section
set_option linter.unusedVariables false
namespace Go.Proofs.YtekcjfdllclphaaGreatDoor.di
open Go.Proofs.YtekcjfdllclphaaGreatDoor.un

/-- One field more, as the document's Parse takes it. -/
def dstep (k : Nat) (s : Dir × Bool) (f : Fl) : Option (Dir × Bool) :=
  if f.1 = szK k then if (size? f.2).getD 0 = 0 ∨ 0 < s.1.size then none else some ({ s.1 with size := (((size? f.2).getD 0 : Nat) : Int) }, s.2)
  else if f.1 = nameK then if s.1.name ≠ [] ∨ isName f.2 = false then none else some ({ s.1 with name := f.2 }, s.2)
  else if f.1 = poolK then if s.1.pool ≠ [] ∨ isName f.2 = false then none else some ({ s.1 with pool := f.2 }, s.2)
  else if f.1 = accK ∧ k = 4 then if s.2 = true ∨ (f.2 ≠ pubV ∧ f.2 ≠ priV) then none else some ({ s.1 with opn := f.2 == pubV }, true)
  else none
def drun (k : Nat) : Dir × Bool → List Tx → Option (Dir × Bool)
  | s, [] => some s
  | s, w :: ws => match cut w with
    | none => none
    | some f => match dstep k s f with
      | none => none
      | some s' => drun k s' ws
/-- May a directive be? -/
def chk (d : Dir) : Bool := decide ((1 ≤ d.kind ∧ d.kind ≤ 6) ∧ (hasSize d.kind = true ↔ 0 < d.size) ∧ (0 ≤ d.size ∧ d.size ≤ 1099511627776) ∧ (hasName d.kind = true ↔ isName d.name = true) ∧ (hasName d.kind = true ∨ d.name = []) ∧
  (hasPool d.kind = true ↔ isName d.pool = true) ∧ (hasPool d.kind = true ∨ d.pool = []) ∧ (d.opn = false ∨ d.kind = 4))

theorem szK_cases (k : Nat) : szK k = capK ∨ szK k = sizeK := by
  unfold szK
  cases hasPool k
  · exact .inr rfl
  · exact .inl rfl
theorem sz_ne (k : Nat) : szK k ≠ nameK ∧ szK k ≠ poolK ∧ szK k ≠ accK := by
  rcases szK_cases k with h | h <;> rw [h] <;> decide
theorem okv_sz (k : Nat) (v : Tx) : okv (szK k) v = decide (0 < (size? v).getD 0) := by
  unfold okv
  rw [if_pos (szK_cases k)]
theorem okv_name (v : Tx) : okv nameK v = isName v := by
  unfold okv
  rw [if_neg (by decide), if_pos (.inl rfl)]
theorem okv_pool (v : Tx) : okv poolK v = isName v := by
  unfold okv
  rw [if_neg (by decide), if_pos (.inr rfl)]
theorem okv_acc (v : Tx) : okv accK v = (v == pubV || v == priV) := by
  unfold okv
  rw [if_neg (by decide), if_neg (by decide)]
theorem isName_nil : isName [] = false := by decide
theorem isName_ne {v : Tx} (h : isName v = true) : v ≠ [] := by
  rintro rfl
  rw [isName_nil] at h
  cases h

/-- What the document's loop knows of the fields that it took. -/
structure Inv (k : Nat) (fs : List Fl) (s : Dir × Bool) : Prop where
  nd : (keys fs).Nodup
  ok : ∀ f ∈ fs, okv f.1 f.2 = true
  al : ∀ f ∈ fs, f.1 = szK k ∨ f.1 = nameK ∨ f.1 = poolK ∨ (f.1 = accK ∧ k = 4)
  dir : s.1 = dirOf k fs
  acc : s.2 = decide (accK ∈ keys fs)
theorem Inv.start (k : Nat) : Inv k [] (⟨k, [], [], 0, false⟩, false) := by
  refine ⟨by simp [keys], by simp, by simp, ?_, by simp [keys]⟩
  show _ = dirOf k []
  unfold dirOf
  have h : ∀ key, look [] key = [] := fun key => rfl
  rw [h, h, h, h, size_nil]
  rfl
theorem Inv.val {k : Nat} {fs : List Fl} {s : Dir × Bool} (h : Inv k fs s) {key : Tx} (hk : key ∈ keys fs) : okv key (look fs key) = true := by
  obtain ⟨f, hf, rfl⟩ := List.mem_map.1 hk
  rw [look_mem h.nd hf]
  exact h.ok f hf
theorem Inv.size {k : Nat} {fs : List Fl} {s : Dir × Bool} (h : Inv k fs s) : 0 < s.1.size ↔ szK k ∈ keys fs := by
  rw [h.dir]
  show 0 < (((size? (look fs (szK k))).getD 0 : Nat) : Int) ↔ _
  constructor
  · intro hp
    by_cases hm : szK k ∈ keys fs
    · exact hm
    · rw [look_none hm, size_nil] at hp
      simp at hp
  · intro hm
    have := h.val hm
    rw [okv_sz, decide_eq_true_eq] at this
    omega
theorem Inv.name {k : Nat} {fs : List Fl} {s : Dir × Bool} (h : Inv k fs s) : s.1.name ≠ [] ↔ nameK ∈ keys fs := by
  rw [h.dir]
  show look fs nameK ≠ [] ↔ _
  constructor
  · intro hp
    by_cases hm : nameK ∈ keys fs
    · exact hm
    · exact absurd (look_none hm) hp
  · intro hm
    have := h.val hm
    rw [okv_name] at this
    exact isName_ne this
theorem Inv.pool {k : Nat} {fs : List Fl} {s : Dir × Bool} (h : Inv k fs s) : s.1.pool ≠ [] ↔ poolK ∈ keys fs := by
  rw [h.dir]
  show look fs poolK ≠ [] ↔ _
  constructor
  · intro hp
    by_cases hm : poolK ∈ keys fs
    · exact hm
    · exact absurd (look_none hm) hp
  · intro hm
    have := h.val hm
    rw [okv_pool] at this
    exact isName_ne this

theorem Inv.more {k : Nat} {fs : List Fl} {s : Dir × Bool} (h : Inv k fs s) {f : Fl} (hn : f.1 ∉ keys fs) (ho : okv f.1 f.2 = true) (ha : f.1 = szK k ∨ f.1 = nameK ∨ f.1 = poolK ∨ (f.1 = accK ∧ k = 4)) {s' : Dir × Bool}
    (hd : s'.1 = dirOf k (fs ++ [f])) (hb : s'.2 = decide (accK ∈ keys (fs ++ [f]))) : Inv k (fs ++ [f]) s' := by
  refine ⟨?_, ?_, ?_, hd, hb⟩
  · rw [keys_snoc, List.nodup_append]
    refine ⟨h.nd, by simp, ?_⟩
    intro a ha b hb e
    simp only [List.mem_singleton] at hb
    subst hb; subst e
    exact hn ha
  · intro g hg
    rcases List.mem_append.1 hg with hg | hg
    · exact h.ok g hg
    · simp only [List.mem_singleton] at hg
      subst hg
      exact ho
  · intro g hg
    rcases List.mem_append.1 hg with hg | hg
    · exact h.al g hg
    · simp only [List.mem_singleton] at hg
      subst hg
      exact ha

theorem Inv.step {k : Nat} {fs : List Fl} {s : Dir × Bool} (h : Inv k fs s) (f : Fl) :
    match dstep k s f with
    | some s' => Inv k (fs ++ [f]) s'
    | none => ¬ (f.1 ∉ keys fs ∧ okv f.1 f.2 = true ∧ (f.1 = szK k ∨ f.1 = nameK ∨ f.1 = poolK ∨ (f.1 = accK ∧ k = 4))) := by
  obtain ⟨key, v⟩ := f
  obtain ⟨n1, n2, n3⟩ := sz_ne k
  have m1 : nameK ≠ poolK := by decide
  have m2 : nameK ≠ accK := by decide
  have m3 : poolK ≠ accK := by decide
  by_cases e1 : key = szK k
  · subst e1
    by_cases hb : (size? v).getD 0 = 0 ∨ 0 < s.1.size
    · have : dstep k s (szK k, v) = none := by
        unfold dstep
        rw [if_pos rfl, if_pos hb]
      rw [this]
      rintro ⟨hn, ho, _⟩
      rcases hb with hb | hb
      · rw [okv_sz, hb] at ho
        cases ho
      · exact hn (h.size.1 hb)
    · have : dstep k s (szK k, v) = some ({ s.1 with size := (((size? v).getD 0 : Nat) : Int) }, s.2) := by
        unfold dstep
        rw [if_pos rfl, if_neg hb]
      rw [this]
      have hn : szK k ∉ keys fs := fun e => hb (.inr (h.size.2 e))
      refine h.more hn (by rw [okv_sz, decide_eq_true_eq]; show 0 < (size? v).getD 0; omega) (.inl rfl) ?_ ?_
      · rw [h.dir]
        unfold dirOf
        rw [look_snoc hn, look_snoc hn, look_snoc hn, look_snoc hn, if_neg n1, if_neg n2, if_pos rfl, if_neg n3]
      · rw [keys_snoc, h.acc]
        simp [Ne.symm n3]
  · by_cases e2 : key = nameK
    · subst e2
      by_cases hb : s.1.name ≠ [] ∨ isName v = false
      · have : dstep k s (nameK, v) = none := by
          unfold dstep
          rw [if_neg (Ne.symm n1), if_pos rfl, if_pos hb]
        rw [this]
        rintro ⟨hn, ho, _⟩
        rcases hb with hb | hb
        · exact hn (h.name.1 hb)
        · rw [okv_name, hb] at ho
          cases ho
      · have : dstep k s (nameK, v) = some ({ s.1 with name := v }, s.2) := by
          unfold dstep
          rw [if_neg (Ne.symm n1), if_pos rfl, if_neg hb]
        rw [this]
        have hn : nameK ∉ keys fs := fun e => hb (.inl (h.name.2 e))
        have hv : isName v = true := by
          cases hv : isName v with
          | true => rfl
          | false => exact absurd (.inr hv) hb
        refine h.more hn (by rw [okv_name]; exact hv) (.inr (.inl rfl)) ?_ ?_
        · rw [h.dir]
          unfold dirOf
          rw [look_snoc hn, look_snoc hn, look_snoc hn, look_snoc hn, if_pos rfl, if_neg m1, if_neg (Ne.symm n1), if_neg m2]
        · rw [keys_snoc, h.acc]
          simp [Ne.symm m2]
    · by_cases e3 : key = poolK
      · subst e3
        by_cases hb : s.1.pool ≠ [] ∨ isName v = false
        · have : dstep k s (poolK, v) = none := by
            unfold dstep
            rw [if_neg (Ne.symm n2), if_neg (Ne.symm m1), if_pos rfl, if_pos hb]
          rw [this]
          rintro ⟨hn, ho, _⟩
          rcases hb with hb | hb
          · exact hn (h.pool.1 hb)
          · rw [okv_pool, hb] at ho
            cases ho
        · have : dstep k s (poolK, v) = some ({ s.1 with pool := v }, s.2) := by
            unfold dstep
            rw [if_neg (Ne.symm n2), if_neg (Ne.symm m1), if_pos rfl, if_neg hb]
          rw [this]
          have hn : poolK ∉ keys fs := fun e => hb (.inl (h.pool.2 e))
          have hv : isName v = true := by
            cases hv : isName v with
            | true => rfl
            | false => exact absurd (.inr hv) hb
          refine h.more hn (by rw [okv_pool]; exact hv) (.inr (.inr (.inl rfl))) ?_ ?_
          · rw [h.dir]
            unfold dirOf
            rw [look_snoc hn, look_snoc hn, look_snoc hn, look_snoc hn, if_neg (Ne.symm m1), if_pos rfl, if_neg (Ne.symm n2), if_neg m3]
          · rw [keys_snoc, h.acc]
            simp [Ne.symm m3]
      · by_cases e4 : key = accK ∧ k = 4
        · obtain ⟨e4, hk⟩ := e4
          subst e4
          by_cases hb : s.2 = true ∨ (v ≠ pubV ∧ v ≠ priV)
          · have : dstep k s (accK, v) = none := by
              unfold dstep
              rw [if_neg (Ne.symm n3), if_neg (Ne.symm m2), if_neg (Ne.symm m3), if_pos ⟨rfl, hk⟩, if_pos hb]
            rw [this]
            rintro ⟨hn, ho, _⟩
            rcases hb with hb | hb
            · rw [h.acc, decide_eq_true_eq] at hb
              exact hn hb
            · rw [okv_acc] at ho
              simp [hb.1, hb.2] at ho
          · have : dstep k s (accK, v) = some ({ s.1 with opn := v == pubV }, true) := by
              unfold dstep
              rw [if_neg (Ne.symm n3), if_neg (Ne.symm m2), if_neg (Ne.symm m3), if_pos ⟨rfl, hk⟩, if_neg hb]
            rw [this]
            have hn : accK ∉ keys fs := fun e => hb (.inl (by rw [h.acc]; exact decide_eq_true e))
            refine h.more hn ?_ (.inr (.inr (.inr ⟨rfl, hk⟩))) ?_ ?_
            · rw [okv_acc]
              by_cases hv : v = pubV
              · simp [hv]
              · by_cases hv2 : v = priV
                · simp [hv2]
                · exact absurd (.inr ⟨hv, hv2⟩) hb
            · rw [h.dir]
              unfold dirOf
              rw [look_snoc hn, look_snoc hn, look_snoc hn, look_snoc hn, if_neg (Ne.symm m2), if_neg (Ne.symm m3), if_neg (Ne.symm n3), if_pos rfl]
            · rw [keys_snoc]
              simp
        · have : dstep k s (key, v) = none := by
            unfold dstep
            rw [if_neg e1, if_neg e2, if_neg e3, if_neg e4]
          rw [this]
          rintro ⟨_, _, ha⟩
          rcases ha with ha | ha | ha | ha
          · exact e1 ha
          · exact e2 ha
          · exact e3 ha
          · exact e4 ha

theorem allow_al {k : Nat} {key : Tx} (h : allow k key = true) : key = szK k ∨ key = nameK ∨ key = poolK ∨ (key = accK ∧ k = 4) := by
  unfold allow at h
  simp only [Bool.or_eq_true, Bool.and_eq_true, beq_iff_eq] at h
  rcases h with ((h | h) | h) | h
  · exact .inl h.2
  · exact .inr (.inl h.2)
  · exact .inr (.inr (.inl h.2))
  · exact .inr (.inr (.inr ⟨h.2, h.1⟩))

theorem drun_spec (k : Nat) : ∀ (ws : List Tx) (fs : List Fl) (s : Dir × Bool), Inv k fs s →
    match drun k s ws with
    | some s' => ∃ gs, ws.mapM cut = some gs ∧ Inv k (fs ++ gs) s'
    | none => ∀ gs, ws.mapM cut = some gs → ¬ good k (fs ++ gs)
  | [], fs, s, h => ⟨[], rfl, by rw [List.append_nil]; exact h⟩
  | w :: ws, fs, s, h => by
    unfold drun
    cases hc : cut w with
    | none =>
      dsimp only
      intro gs hg
      rw [List.mapM_cons, hc] at hg
      cases hg
    | some f =>
      dsimp only
      have hs := h.step f
      cases hd : dstep k s f with
      | none =>
        rw [hd] at hs
        dsimp only at hs ⊢
        intro gs hg hgood
        rw [List.mapM_cons, hc] at hg
        cases hm : ws.mapM cut with
        | none => rw [hm] at hg; cases hg
        | some hs' =>
          rw [hm] at hg
          have : gs = f :: hs' := by
            have : some (f :: hs') = some gs := hg
            exact (Option.some.inj this).symm
          subst this
          obtain ⟨g1, g2, _⟩ := hgood
          apply hs
          refine ⟨?_, (g2 f (by simp)).2, allow_al (g2 f (by simp)).1⟩
          intro hm2
          unfold keys at g1
          rw [List.map_append, List.nodup_append] at g1
          exact g1.2.2 f.1 hm2 f.1 (by simp) rfl
      | some s' =>
        rw [hd] at hs
        dsimp only at hs ⊢
        have ih := drun_spec k ws (fs ++ [f]) s' hs
        cases hr : drun k s' ws with
        | none =>
          rw [hr] at ih
          dsimp only at ih ⊢
          intro gs hg
          rw [List.mapM_cons, hc] at hg
          cases hm : ws.mapM cut with
          | none => rw [hm] at hg; cases hg
          | some hs' =>
            rw [hm] at hg
            have : gs = f :: hs' := by
              have : some (f :: hs') = some gs := hg
              exact (Option.some.inj this).symm
            subst this
            have := ih hs' hm
            rw [List.append_assoc] at this
            exact this
        | some s2 =>
          rw [hr] at ih
          dsimp only at ih ⊢
          obtain ⟨gs, hm, hi⟩ := ih
          refine ⟨f :: gs, ?_, ?_⟩
          · rw [List.mapM_cons, hc, hm]
            rfl
          · rw [List.append_assoc] at hi
            exact hi

theorem mem_req {k : Nat} {r : Tx} : r ∈ req k ↔ (hasName k = true ∧ r = nameK) ∨ (hasSize k = true ∧ r = szK k) ∨ (hasPool k = true ∧ r = poolK) := by
  unfold req
  cases hasName k <;> cases hasSize k <;> cases hasPool k <;> simp
theorem chk_iff (d : Dir) : chk d = true ↔ (1 ≤ d.kind ∧ d.kind ≤ 6) ∧ (hasSize d.kind = true ↔ 0 < d.size) ∧ (0 ≤ d.size ∧ d.size ≤ 1099511627776) ∧ (hasName d.kind = true ↔ isName d.name = true) ∧ (hasName d.kind = true ∨ d.name = []) ∧
    (hasPool d.kind = true ↔ isName d.pool = true) ∧ (hasPool d.kind = true ∨ d.pool = []) ∧ (d.opn = false ∨ d.kind = 4) := by
  exact decide_eq_true_iff

theorem Inv.chk_good {k : Nat} {fs : List Fl} {s : Dir × Bool} (h : Inv k fs s) (hk : 1 ≤ k ∧ k ≤ 6) : chk s.1 = true ↔ good k fs := by
  have hkind : s.1.kind = k := by rw [h.dir]; rfl
  have hopn : s.1.opn = (look fs accK == pubV) := by rw [h.dir]; rfl
  have hsz := h.size
  have hnm := h.name
  have hpl := h.pool
  have hnv : isName s.1.name = true ↔ nameK ∈ keys fs := by
    rw [← hnm]
    constructor
    · exact isName_ne
    · intro hne
      have := h.val (hnm.1 hne)
      rw [okv_name] at this
      rw [h.dir]
      exact this
  have hpv : isName s.1.pool = true ↔ poolK ∈ keys fs := by
    rw [← hpl]
    constructor
    · exact isName_ne
    · intro hne
      have := h.val (hpl.1 hne)
      rw [okv_pool] at this
      rw [h.dir]
      exact this
  have hsb : 0 ≤ s.1.size ∧ s.1.size ≤ 1099511627776 := by
    rw [h.dir]
    show 0 ≤ (((size? (look fs (szK k))).getD 0 : Nat) : Int) ∧ (((size? (look fs (szK k))).getD 0 : Nat) : Int) ≤ _
    cases hs : size? (look fs (szK k)) with
    | none => simp
    | some n =>
      have := size_le hs
      unfold top at this
      simp
      omega
  have hn0 : s.1.name = [] ↔ nameK ∉ keys fs := by rw [← hnm]; simp
  have hp0 : s.1.pool = [] ↔ poolK ∉ keys fs := by rw [← hpl]; simp
  rw [chk_iff, hkind, hsz, hnv, hpv, hn0, hp0]
  constructor
  · rintro ⟨_, c1, _, c2, c3, c4, c5, c6⟩
    refine ⟨h.nd, fun f hf => ⟨?_, h.ok f hf⟩, fun r hr => ?_⟩
    · have hm : f.1 ∈ keys fs := List.mem_map.2 ⟨f, hf, rfl⟩
      unfold allow
      simp only [Bool.or_eq_true, Bool.and_eq_true, beq_iff_eq]
      rcases h.al f hf with ha | ha | ha | ha
      · exact .inl (.inl (.inl ⟨c1.2 (by rw [← ha]; exact hm), ha⟩))
      · exact .inl (.inl (.inr ⟨c2.2 (by rw [← ha]; exact hm), ha⟩))
      · exact .inl (.inr ⟨c4.2 (by rw [← ha]; exact hm), ha⟩)
      · exact .inr ⟨ha.2, ha.1⟩
    · rcases mem_req.1 hr with ⟨he, rfl⟩ | ⟨he, rfl⟩ | ⟨he, rfl⟩
      · exact c2.1 he
      · exact c1.1 he
      · exact c4.1 he
  · rintro ⟨g1, g2, g3⟩
    have al : ∀ key, key ∈ keys fs → allow k key = true := fun key hm => by
      obtain ⟨f, hf, rfl⟩ := List.mem_map.1 hm
      exact (g2 f hf).1
    obtain ⟨n1, n2, n3⟩ := sz_ne k
    have m1 : nameK ≠ poolK := by decide
    have m2 : nameK ≠ accK := by decide
    have m3 : poolK ≠ accK := by decide
    have aS : szK k ∈ keys fs → hasSize k = true := fun hm => by
      have := al _ hm
      unfold allow at this
      simp only [Bool.or_eq_true, Bool.and_eq_true, beq_iff_eq] at this
      rcases this with ((h | h) | h) | h
      · exact h.1
      · exact absurd h.2 n1
      · exact absurd h.2 n2
      · exact absurd h.2 n3
    have aN : nameK ∈ keys fs → hasName k = true := fun hm => by
      have := al _ hm
      unfold allow at this
      simp only [Bool.or_eq_true, Bool.and_eq_true, beq_iff_eq] at this
      rcases this with ((h | h) | h) | h
      · exact absurd h.2.symm n1
      · exact h.1
      · exact absurd h.2 m1
      · exact absurd h.2 m2
    have aP : poolK ∈ keys fs → hasPool k = true := fun hm => by
      have := al _ hm
      unfold allow at this
      simp only [Bool.or_eq_true, Bool.and_eq_true, beq_iff_eq] at this
      rcases this with ((h | h) | h) | h
      · exact absurd h.2.symm n2
      · exact absurd h.2.symm m1
      · exact h.1
      · exact absurd h.2 m3
    have rS : hasSize k = true → szK k ∈ keys fs := fun e => g3 _ (mem_req.2 (.inr (.inl ⟨e, rfl⟩)))
    have rN : hasName k = true → nameK ∈ keys fs := fun e => g3 _ (mem_req.2 (.inl ⟨e, rfl⟩))
    have rP : hasPool k = true → poolK ∈ keys fs := fun e => g3 _ (mem_req.2 (.inr (.inr ⟨e, rfl⟩)))
    refine ⟨hk, ⟨rS, aS⟩, hsb, ⟨rN, aN⟩, ?_, ⟨rP, aP⟩, ?_, ?_⟩
    · by_cases hm : nameK ∈ keys fs
      · exact .inl (aN hm)
      · exact .inr hm
    · by_cases hm : poolK ∈ keys fs
      · exact .inl (aP hm)
      · exact .inr hm
    · by_cases hm : accK ∈ keys fs
      · right
        have := al _ hm
        unfold allow at this
        simp only [Bool.or_eq_true, Bool.and_eq_true, beq_iff_eq] at this
        rcases this with ((h | h) | h) | h
        · exact absurd h.2.symm n3
        · exact absurd h.2.symm m2
        · exact absurd h.2.symm m3
        · exact h.1
      · left
        rw [hopn, look_none hm]
        rfl

/-- The document's reading of the fields is what they denote. -/
theorem fields_eq {k : Nat} (hk : 1 ≤ k ∧ k ≤ 6) (ws : List Tx) : (match drun k (⟨k, [], [], 0, false⟩, false) ws with
    | some s => if chk s.1 = true then some s.1 else none
    | none => none) = fields? k ws := by
  have h := drun_spec k ws [] _ (Inv.start k)
  unfold fields?
  cases hr : drun k (⟨k, [], [], 0, false⟩, false) ws with
  | none =>
    rw [hr] at h
    dsimp only at h ⊢
    cases hm : ws.mapM cut with
    | none => rfl
    | some gs =>
      dsimp only
      have := h gs hm
      rw [List.nil_append] at this
      rw [if_neg this]
  | some s =>
    rw [hr] at h
    dsimp only at h ⊢
    obtain ⟨gs, hm, hi⟩ := h
    rw [List.nil_append] at hi
    rw [hm]
    dsimp only
    have hg := hi.chk_good hk
    by_cases hc : chk s.1 = true
    · rw [if_pos hc, if_pos (hg.1 hc), hi.dir]
    · rw [if_neg hc, if_neg fun e => hc (hg.2 e)]
end Go.Proofs.YtekcjfdllclphaaGreatDoor.di
end
