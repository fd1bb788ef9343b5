/- Slips, plain: what the program does: its directives, its check, its lines. -/
import Derived.Test.YtpmghgfgbkncoaaGreatDoorMDiX
import Derived.Test.YtpmghgfgbkncoaaGreatDoorMGen
import Derived.Deep.AppendSrc
import Derived.Maps.AppendAt
import Derived.Laws.CopyOwn
import Derived.Laws.AppendOwn
import Derived.Test.YtpmghgfgbkncoaaGreatDoorMGenClone
import Derived.Test.YtpmghgfgbkncoaaGreatDoorDiLay
import Derived.SliceStrings
import Derived.Lib.SmallJoins
import Derived.ChangeSlices
import Derived.BigFrame
import Derived.Laws.AppendOwnNone
section
set_option linter.unusedVariables false
namespace Go.Proofs.YtpmghgfgbkncoaaGreatDoor.sp
open Go.Proofs.YtpmghgfgbkncoaaGreatDoor.un
open Go.Proofs.YtpmghgfgbkncoaaGreatDoor.di

/-! ### the program's directives, its check -/
def dropD (n : Tx) : Dir := ⟨5, n, [], 0, false⟩
def useD (n : Tx) : Dir := ⟨6, n, [], 0, false⟩
def capD (x : Slip) : List Dir := if x.cap ≠ 0 ∨ x.pool ≠ [] then [⟨1, [], x.pool, x.cap, false⟩] else []
def innD (x : Slip) : List Dir := if x.inn ≠ 0 then [⟨2, [], [], x.inn, false⟩] else []
def outD (x : Slip) : List Dir := if x.out ≠ 0 then [⟨3, [], [], x.out, false⟩] else []
def dirsP (x : Slip) : List Dir := capD x ++ innD x ++ outD x ++ x.make ++ x.drop.map dropD ++ x.use.map useD
def shortP (x : Slip) : Bool := decide (x.after.length ≤ 8 ∧ x.make.length ≤ 4 ∧ x.drop.length ≤ 4 ∧ x.use.length ≤ 4)
def soundP (x : Slip) : Bool := isName x.user && decide ((1 ≤ x.nodes ∧ x.nodes ≤ 64) ∧ (1 ≤ x.wall ∧ x.wall ≤ 1048576) ∧ (0 ≤ x.qos ∧ x.qos ≤ 9))
def waitsP (l : List (Int × Bool)) : Bool := decide ((∀ d ∈ l, 1 ≤ d.1 ∧ d.1 ≤ 1073741824) ∧ (l.map (·.1)).Nodup)
def storedP (x : Slip) : Bool := decide ((∀ d ∈ dirsP x, chk d = true) ∧ x.inn ≤ x.cap ∧ x.out ≤ x.cap)
def apartP (x : Slip) : Bool := decide ((∀ d ∈ x.make, d.kind = 4) ∧ (x.make.map (·.name) ++ x.use).Nodup ∧ x.drop.Nodup)

theorem chk_cap (p : Tx) (n : Int) : chk ⟨1, [], p, n, false⟩ = true ↔ 0 < n ∧ n ≤ 1099511627776 ∧ isName p = true := by
  rw [chk_iff]
  have h0 : isName [] = false := rfl
  simp only [hasSize, hasName, hasPool, h0]
  simp
  omega
theorem chk_in (n : Int) : chk ⟨2, [], [], n, false⟩ = true ↔ 0 < n ∧ n ≤ 1099511627776 := by
  rw [chk_iff]
  have h0 : isName [] = false := rfl
  simp only [hasSize, hasName, hasPool, h0]
  simp
  omega
theorem chk_out (n : Int) : chk ⟨3, [], [], n, false⟩ = true ↔ 0 < n ∧ n ≤ 1099511627776 := by
  rw [chk_iff]
  have h0 : isName [] = false := rfl
  simp only [hasSize, hasName, hasPool, h0]
  simp
  omega
theorem chk_drop (n : Tx) : chk (dropD n) = true ↔ isName n = true := by
  rw [chk_iff]
  have h0 : isName [] = false := rfl
  simp [dropD, hasSize, hasName, hasPool, h0]
theorem chk_use (n : Tx) : chk (useD n) = true ↔ isName n = true := by
  rw [chk_iff]
  have h0 : isName [] = false := rfl
  simp [useD, hasSize, hasName, hasPool, h0]
theorem capD_all (x : Slip) : (∀ d ∈ capD x, chk d = true) ↔ (x.cap = 0 ∧ x.pool = []) ∨ (0 < x.cap ∧ x.cap ≤ 1099511627776 ∧ isName x.pool = true) := by
  unfold capD
  by_cases h : x.cap ≠ 0 ∨ x.pool ≠ []
  · rw [if_pos h]
    simp only [List.mem_singleton, forall_eq]
    rw [chk_cap]
    constructor
    · exact .inr
    · rintro (⟨a, b⟩ | h2)
      · rcases h with h | h
        · exact absurd a h
        · exact absurd b h
      · exact h2
  · rw [if_neg h]
    simp only [not_or, Decidable.not_not] at h
    simp [h]
theorem innD_all (x : Slip) : (∀ d ∈ innD x, chk d = true) ↔ x.inn = 0 ∨ (0 < x.inn ∧ x.inn ≤ 1099511627776) := by
  unfold innD
  by_cases h : x.inn ≠ 0
  · rw [if_pos h]
    simp only [List.mem_singleton, forall_eq]
    rw [chk_in]
    omega
  · rw [if_neg h]
    simp only [Decidable.not_not] at h
    simp [h]
theorem outD_all (x : Slip) : (∀ d ∈ outD x, chk d = true) ↔ x.out = 0 ∨ (0 < x.out ∧ x.out ≤ 1099511627776) := by
  unfold outD
  by_cases h : x.out ≠ 0
  · rw [if_pos h]
    simp only [List.mem_singleton, forall_eq]
    rw [chk_out]
    omega
  · rw [if_neg h]
    simp only [Decidable.not_not] at h
    simp [h]
theorem dirsP_all (x : Slip) : (∀ d ∈ dirsP x, chk d = true) ↔ ((x.cap = 0 ∧ x.pool = []) ∨ (0 < x.cap ∧ x.cap ≤ 1099511627776 ∧ isName x.pool = true)) ∧ (x.inn = 0 ∨ (0 < x.inn ∧ x.inn ≤ 1099511627776)) ∧ (x.out = 0 ∨ (0 < x.out ∧ x.out ≤ 1099511627776)) ∧
    (∀ d ∈ x.make, chk d = true) ∧ (∀ n ∈ x.drop, isName n = true) ∧ ∀ n ∈ x.use, isName n = true := by
  rw [← capD_all, ← innD_all, ← outD_all]
  unfold dirsP
  constructor
  · intro h
    refine ⟨fun d hd => h d (by simp [hd]), fun d hd => h d (by simp [hd]), fun d hd => h d (by simp [hd]), fun d hd => h d (by simp [hd]), fun n hn => (chk_drop n).1 (h _ ?_), fun n hn => (chk_use n).1 (h _ ?_)⟩
    · simp only [List.mem_append, List.mem_map]
      exact .inl (.inr ⟨n, hn, rfl⟩)
    · simp only [List.mem_append, List.mem_map]
      exact .inr ⟨n, hn, rfl⟩
  · rintro ⟨h1, h2, h3, h4, h5, h6⟩ d hd
    simp only [List.mem_append, List.mem_map] at hd
    rcases hd with ((((hd | hd) | hd) | hd) | ⟨n, hn, rfl⟩) | ⟨n, hn, rfl⟩
    · exact h1 d hd
    · exact h2 d hd
    · exact h3 d hd
    · exact h4 d hd
    · exact (chk_drop n).2 (h5 n hn)
    · exact (chk_use n).2 (h6 n hn)
theorem apart_iff (x : Slip) : (x.make.map (·.name) ++ x.use).Nodup ↔ (x.make.map (·.name)).Nodup ∧ x.use.Nodup ∧ ∀ d ∈ x.make, d.name ∉ x.use := by
  rw [List.nodup_append]
  constructor
  · rintro ⟨a, b, c⟩
    exact ⟨a, b, fun d hd hu => c d.name (List.mem_map.2 ⟨d, hd, rfl⟩) d.name hu rfl⟩
  · rintro ⟨a, b, c⟩
    refine ⟨a, b, fun n hn m hm e => ?_⟩
    obtain ⟨d, hd, rfl⟩ := List.mem_map.1 hn
    exact c d hd (e ▸ hm)
theorem name_mk {d : Dir} (h : chk d = true) (hk : d.kind = 4) : isName d.name = true := ((chk_iff d).1 h).2.2.2.1.1 (by rw [hk]; rfl)
/-- What the program asks is what the document asks. -/
theorem chkS_P (x : Slip) : chkS x = (shortP x && soundP x && waitsP x.after && storedP x && apartP x) := by
  rw [Bool.eq_iff_iff, chkS_iff]
  simp only [shortP, soundP, waitsP, storedP, apartP, Bool.and_eq_true, decide_eq_true_eq]
  rw [dirsP_all, apart_iff]
  constructor
  · intro h
    have hc := h.cap
    have hi := h.inn
    have ho := h.out
    refine ⟨⟨⟨⟨⟨h.after.1, by have := h.makeN.1; rwa [List.length_map] at this, h.drop.1, h.use.1⟩, h.user, h.nodes, h.wall, h.qos⟩, h.after.2.2, h.after.2.1⟩,
      ⟨?_, by omega, by omega, fun d hd => (h.make d hd).2, h.drop.2.2, h.use.2.2⟩, by omega, by omega⟩, fun d hd => (h.make d hd).1, ⟨h.makeN.2.1, h.use.2.1, h.apart⟩, h.drop.2.1⟩
    by_cases h0 : x.cap = 0
    · exact .inl ⟨h0, h.pool0 h0⟩
    · exact .inr ⟨by omega, hc.2, h.pool1 h0⟩
  · rintro ⟨⟨⟨⟨⟨s1, s2, s3, s4⟩, u1, u2, u3, u4⟩, w1, w2⟩, ⟨c1, c2, c3, c4, c5, c6⟩, c7, c8⟩, a1, ⟨a2, a3, a4⟩, a5⟩
    refine ⟨u1, u2, u3, u4, ⟨s1, w2, w1⟩, ?_, ?_, ?_, ?_, ?_, fun d hd => ⟨a1 d hd, c4 d hd⟩, ⟨by rw [List.length_map]; exact s2, a2, ?_⟩, ⟨s3, a5, c5⟩, ⟨s4, a3, c6⟩, a4⟩
    · rcases c1 with ⟨h, _⟩ | ⟨h, h2, _⟩ <;> omega
    · rcases c1 with ⟨_, h⟩ | ⟨h, _⟩
      · exact fun _ => h
      · intro; omega
    · rcases c1 with ⟨h, _⟩ | ⟨_, _, h⟩
      · exact fun h2 => absurd h h2
      · exact fun _ => h
    · rcases c2 with h | ⟨h, h2⟩ <;> omega
    · rcases c3 with h | ⟨h, h2⟩ <;> omega
    · intro n hn
      obtain ⟨d, hd, rfl⟩ := List.mem_map.1 hn
      exact name_mk (c4 d hd) (a1 d hd)
theorem dirsP_eq {x : Slip} (h : Ok x) : dirsP x = dirsS x := by
  have hc := h.cap
  have hi := h.inn
  have ho := h.out
  have e1 : capD x = if 0 < x.cap then [⟨1, [], x.pool, x.cap, false⟩] else [] := by
    unfold capD
    by_cases h0 : x.cap = 0
    · rw [if_neg (by simp [h0, h.pool0 h0]), if_neg (by omega)]
    · rw [if_pos (.inl h0), if_pos (by omega)]
  have e2 : innD x = if 0 < x.inn then [⟨2, [], [], x.inn, false⟩] else [] := by
    unfold innD
    by_cases h0 : x.inn = 0
    · rw [if_neg (by simp [h0]), if_neg (by omega)]
    · rw [if_pos h0, if_pos (by omega)]
  have e3 : outD x = if 0 < x.out then [⟨3, [], [], x.out, false⟩] else [] := by
    unfold outD
    by_cases h0 : x.out = 0
    · rw [if_neg (by simp [h0]), if_neg (by omega)]
    · rw [if_pos h0, if_pos (by omega)]
  unfold dirsP dirsS
  rw [e1, e2, e3]
  rfl

/-! ### the program's lines -/
theorem line_chk {l : Tx} {d : Dir} (h : line? l = some d) : chk d = true := by
  obtain ⟨k, fs, hk, _, hw, _⟩ := line_some h
  have hf : fields? k (fs.map wtx) = some d := by
    unfold line? at h
    rw [hw] at h
    dsimp only at h
    rw [if_pos rfl, kind_kw hk] at h
    exact h
  have := fields_eq hk (fs.map wtx)
  rw [hf] at this
  cases hr : drun k (⟨k, [], [], 0, false⟩, false) (fs.map wtx) with
  | none => rw [hr] at this; cases this
  | some s =>
    rw [hr] at this
    dsimp only at this
    by_cases hc : chk s.1 = true
    · rw [if_pos hc] at this
      cases this
      exact hc
    · rw [if_neg hc] at this
      cases this
theorem ldir_chk {l : Tx} (h : lerr l = 0) : chk (ldir l) = true := by
  unfold lerr at h
  unfold ldir
  by_cases h5 : 500 < l.length
  · rw [if_pos h5] at h; cases h
  · rw [if_neg h5] at h ⊢
    cases hl : line? l with
    | none => rw [hl] at h; cases h
    | some d => exact line_chk hl
theorem small_size {d : Dir} (h : chk d = true) (hk : d.kind ≤ 3) : d.size ≠ 0 := by
  have := ((chk_iff d).1 h).2.1.1 (by unfold hasSize; rw [decide_eq_true_eq]; omega)
  omega
/-- A directive, stored. -/
def pput (x : Slip) (d : Dir) : Option Slip :=
  if d.kind = 1 then if x.cap = 0 then some { x with cap := d.size, pool := d.pool } else none
  else if d.kind = 2 then if x.inn = 0 then some { x with inn := d.size } else none
  else if d.kind = 3 then if x.out = 0 then some { x with out := d.size } else none
  else some (put x d)
def prun : Slip → Nat → List Tx → Except (Int × Nat) Slip
  | x, _, [] => .ok x
  | x, i, l :: r => if isD l = true then
      if lerr l ≠ 0 then .error (lerr l, i)
      else match pput x (ldir l) with
        | none => .error (150, i)
        | some y => prun y (i + 1) r
      else prun x (i + 1) r
theorem prun_eq : ∀ (L : List Tx) (x : Slip) (s : List Nat) (i : Nat), (1 ∈ s ↔ x.cap ≠ 0) → (2 ∈ s ↔ x.inn ≠ 0) → (3 ∈ s ↔ x.out ≠ 0) →
    prun x i L = match lrun (x, s) i L with
      | .ok st => .ok st.1
      | .error e => .error e
  | [], x, s, i, _, _, _ => rfl
  | l :: r, x, s, i, h1, h2, h3 => by
    unfold prun lrun
    by_cases hd : isD l = true
    · rw [if_pos hd, if_pos hd]
      by_cases he : lerr l ≠ 0
      · rw [if_pos he, if_pos he]
      · rw [if_neg he, if_neg he]
        simp only [Decidable.not_not] at he
        have hc := ldir_chk he
        have hk := ((chk_iff _).1 hc).1
        generalize ldir l = d at hc hk
        have hz := small_size hc
        dsimp only
        have six : d.kind = 1 ∨ d.kind = 2 ∨ d.kind = 3 ∨ d.kind = 4 ∨ d.kind = 5 ∨ d.kind = 6 := by omega
        unfold pput
        rcases six with hk1 | hk1 | hk1 | hk1 | hk1 | hk1
        · have hz := hz (by omega)
          rw [if_pos hk1, hk1]
          by_cases hs : (1 : Nat) ∈ s
          · rw [if_neg (h1.1 hs), if_pos ⟨by omega, hs⟩]
          · rw [if_pos (Decidable.not_not.1 fun h => hs (h1.2 h)), if_neg fun h => hs h.2]
            dsimp only
            have e : put x d = { x with cap := d.size, pool := d.pool } := by unfold put; rw [if_pos hk1]
            rw [e]
            exact prun_eq r _ _ _ (by simp [hz]) (by simpa using h2) (by simpa using h3)
        · have hz := hz (by omega)
          rw [if_neg (by omega), if_pos hk1, hk1]
          by_cases hs : (2 : Nat) ∈ s
          · rw [if_neg (h2.1 hs), if_pos ⟨by omega, hs⟩]
          · rw [if_pos (Decidable.not_not.1 fun h => hs (h2.2 h)), if_neg fun h => hs h.2]
            dsimp only
            have e : put x d = { x with inn := d.size } := by unfold put; rw [if_neg (by omega), if_pos hk1]
            rw [e]
            exact prun_eq r _ _ _ (by simpa using h1) (by simp [hz]) (by simpa using h3)
        · have hz := hz (by omega)
          rw [if_neg (by omega), if_neg (by omega), if_pos hk1, hk1]
          by_cases hs : (3 : Nat) ∈ s
          · rw [if_neg (h3.1 hs), if_pos ⟨by omega, hs⟩]
          · rw [if_pos (Decidable.not_not.1 fun h => hs (h3.2 h)), if_neg fun h => hs h.2]
            dsimp only
            have e : put x d = { x with out := d.size } := by unfold put; rw [if_neg (by omega), if_neg (by omega), if_pos hk1]
            rw [e]
            exact prun_eq r _ _ _ (by simpa using h1) (by simpa using h2) (by simp [hz])
        all_goals
          rw [if_neg (by omega), if_neg (by omega), if_neg (by omega), if_neg (by omega)]
          dsimp only
          refine prun_eq r _ _ _ ?_ ?_ ?_ <;> (unfold put; simp [hk1]; assumption)
    · rw [if_neg hd, if_neg hd]
      exact prun_eq r x s (i + 1) h1 h2 h3

/-- The first line, too: a round's slip ahead of line i. -/
def pline (x : Slip) (i : Nat) (l : Tx) : Except (Int × Nat) Slip :=
  if i = 1 then match first? l with
    | some y => .ok y
    | none => .error (150, 1)
  else if isD l = true then
    if lerr l ≠ 0 then .error (lerr l, i)
    else match pput x (ldir l) with
      | none => .error (150, i)
      | some y => .ok y
  else .ok x
def pread : Slip → Nat → List Tx → Except (Int × Nat) Slip
  | x, _, [] => .ok x
  | x, i, l :: r => match pline x i l with
    | .error e => .error e
    | .ok y => pread y (i + 1) r
theorem pread_run : ∀ (L : List Tx) (x : Slip) (i : Nat), 2 ≤ i → pread x i L = prun x i L
  | [], _, _, _ => rfl
  | l :: r, x, i, hi => by
    unfold pread pline prun
    rw [if_neg (by omega)]
    by_cases hd : isD l = true
    · rw [if_pos hd, if_pos hd]
      by_cases he : lerr l ≠ 0
      · rw [if_pos he, if_pos he]
      · rw [if_neg he, if_neg he]
        cases pput x (ldir l) with
        | none => rfl
        | some y => exact pread_run r y (i + 1) (by omega)
    · rw [if_neg hd, if_neg hd]
      exact pread_run r x (i + 1) (by omega)
/-- What a text denotes, by the program's road. -/
theorem sread_P {s : Tx} (h : s.length ≤ 10000) : sread s = match pread Slip.zero 1 (cuts 10 s) with
    | .error e => (Slip.zero, e.1, e.2)
    | .ok x => if chkS x = true then (x, 0, 0) else (Slip.zero, 150, (cuts 10 s).length) := by
  unfold sread
  rw [if_neg (by omega)]
  cases hc : cuts 10 s with
  | nil => exact absurd hc (cuts_ne 10 s)
  | cons l r =>
    dsimp only
    unfold pread pline
    rw [if_pos rfl]
    cases hf : first? l with
    | none => rfl
    | some x =>
      dsimp only
      have hx : x.cap = 0 ∧ x.inn = 0 ∧ x.out = 0 := by
        unfold first? at hf
        cases hw : cuts 32 l with
        | nil => rw [hw] at hf; cases hf
        | cons j ws =>
          rw [hw] at hf
          dsimp only at hf
          by_cases hj : j = jobW
          · rw [if_pos hj] at hf
            cases hr : frun (Slip.zero, []) ws with
            | none => rw [hr] at hf; cases hf
            | some st =>
              rw [hr] at hf
              dsimp only at hf
              have key : ∀ (ws : List Tx) (a st : Slip × List Tx), frun a ws = some st → (a.1.cap = 0 ∧ a.1.inn = 0 ∧ a.1.out = 0) → (st.1.cap = 0 ∧ st.1.inn = 0 ∧ st.1.out = 0) := by
                intro ws
                induction ws with
                | nil => intro a st h h0; unfold frun at h; cases h; exact h0
                | cons w r ih =>
                  intro a st h h0
                  unfold frun at h
                  cases hcut : cut w with
                  | none => rw [hcut] at h; cases h
                  | some f =>
                    rw [hcut] at h
                    dsimp only at h
                    split at h
                    · cases h
                    · cases hp : fput a.1 f with
                      | none => rw [hp] at h; cases h
                      | some y =>
                        rw [hp] at h
                        refine ih _ st h ?_
                        unfold fput at hp
                        split at hp
                        · cases hp; exact h0
                        split at hp
                        · obtain ⟨n, _, rfl⟩ := Option.map_eq_some_iff.1 hp; exact h0
                        split at hp
                        · obtain ⟨n, _, rfl⟩ := Option.map_eq_some_iff.1 hp; exact h0
                        split at hp
                        · obtain ⟨n, _, rfl⟩ := Option.map_eq_some_iff.1 hp; exact h0
                        split at hp
                        · obtain ⟨n, _, rfl⟩ := Option.map_eq_some_iff.1 hp; exact h0
                        · cases hp
              have := key ws _ st hr ⟨rfl, rfl, rfl⟩
              split at hf
              · cases hf; exact this
              · cases hf
          · rw [if_neg hj] at hf; cases hf
      rw [pread_run r x 2 (Nat.le_refl _), prun_eq r x [] 2 (by simp [hx]) (by simp [hx]) (by simp [hx])]
      cases lrun (x, []) 2 r with
      | error e => rfl
      | ok st => rfl
end Go.Proofs.YtpmghgfgbkncoaaGreatDoor.sp
end
section
set_option linter.unusedVariables false
set_option linter.unusedSimpArgs false
set_option maxRecDepth 100000
namespace Go.Proofs.YtpmghgfgbkncoaaGreatDoor.gn
open Go.RowKit

theorem grown_new {w w' : World} (h : Below w.heap.size w w') : w.grownBy w' none := ⟨h.os, h.tape, h.output, h.size, fun k hk _ => h.block k hk⟩
def CellsC (w : World) (b off : Nat) (cs : List Value) : Prop := ∀ j u, cs[j]? = some u → w.cell? ⟨b, off + j, none⟩ = some u
/-- v is a slice of n elements, of these cells: any slice that is empty, or it names its block. -/
def RdC (w : World) (v : Value) (n : Nat) (cs : List Value) : Prop :=
  (∃ p c, v = .slice p 0 c ∧ n = 0 ∧ cs = [] ∧ (p = none → c = 0)) ∨ ∃ b off c, v = .slice (some ⟨b, off, none⟩) n c ∧ b < w.heap.size ∧ CellsC w b off cs
theorem CellsC.below {w w' : World} {b off : Nat} {cs : List Value} (h : CellsC w b off cs) {B : Nat} (hb : Below B w w') (hB : b < B) : CellsC w' b off cs := fun j u hu => (hb.cell (p := ⟨b, off + j, none⟩) hB).trans (h j u hu)
theorem RdC.next {w w' : World} {v : Value} {n : Nat} {cs : List Value} (h : RdC w v n cs) (hb : Below w.heap.size w w') : RdC w' v n cs := by
  rcases h with h | ⟨b, off, c, e, hlt, hc⟩
  · exact .inl h
  · exact .inr ⟨b, off, c, e, Nat.lt_of_lt_of_le hlt hb.size, hc.below hb hlt⟩
theorem RdC.form {w : World} {v : Value} {n : Nat} {cs : List Value} (h : RdC w v n cs) : ∃ p c, v = .slice p n c := by
  rcases h with ⟨p, c, rfl, rfl, _⟩ | ⟨b, off, c, rfl, _⟩
  · exact ⟨_, _, rfl⟩
  · exact ⟨_, _, rfl⟩
/-- What an element of a slice is made of. -/
structure EltI (t e : TypeId) (z : Value) (size bytes : Nat) : Prop where
  und : Tryz.prog.underlying t = some (.slice e)
  inf : ∃ i, Tryz.prog.info? e = some i ∧ i.zero = some z ∧ i.size = size ∧ i.bytes = bytes
  zs : z.cells.size = size
  sz : 0 < size
/-- What may be appended to: an empty slice with no room, or a row of the call's own. -/
def ApC (base : Nat) (e : TypeId) (size : Nat) (w : World) (v : Value) (n : Nat) (cs : List Value) : Prop :=
  (∃ p, v = .slice p 0 0 ∧ n = 0 ∧ cs = []) ∨ w.ownsRow base e size v n cs
theorem ApC.form {base : Nat} {e : TypeId} {size : Nat} {w : World} {v : Value} {n : Nat} {cs : List Value} (h : ApC base e size w v n cs) : ∃ p c, v = .slice p n c ∧ n ≤ c := by
  rcases h with ⟨p, rfl, rfl, _⟩ | ⟨_, ⟨rfl, rfl⟩ | ⟨g, cap, cur, rfl, _, _, h, _⟩⟩
  · exact ⟨_, _, rfl, Nat.le_refl _⟩
  · exact ⟨_, _, rfl, Nat.le_refl _⟩
  · exact ⟨_, _, rfl, h⟩
theorem ApC.rdc {base : Nat} {e : TypeId} {size : Nat} {w : World} {v : Value} {n : Nat} {cs : List Value} (h : ApC base e size w v n cs) : RdC w v n cs := by
  rcases h with ⟨p, rfl, rfl, rfl⟩ | h
  · exact .inl ⟨p, 0, rfl, rfl, rfl, fun _ => rfl⟩
  · have hc := fun g => World.ownsRow.cells h (g := g)
    obtain ⟨h1, ⟨rfl, rfl⟩ | ⟨g, cap, cur, rfl, hb, hg, _⟩⟩ := h
    · exact .inl ⟨none, 0, rfl, rfl, List.eq_nil_of_length_eq_zero (by simpa using h1), fun _ => rfl⟩
    · refine .inr ⟨g, 0, cap, rfl, (Array.getElem?_eq_some_iff.1 hg).1, fun j u hu => ?_⟩
      have := hc g rfl j u hu
      rwa [Addr.add_lit] at this
theorem ApC.mono {base B : Nat} {e : TypeId} {size : Nat} {w : World} {v : Value} {n : Nat} {cs : List Value} (h : ApC base e size w v n cs) (hB : B ≤ base) : ApC B e size w v n cs := by
  rcases h with h | ⟨h1, h2 | ⟨g, cap, cur, e, hb, r⟩⟩
  · exact .inl h
  · exact .inr ⟨h1, .inl h2⟩
  · exact .inr ⟨h1, .inr ⟨g, cap, cur, e, Nat.le_trans hB hb, r⟩⟩
theorem ApC.next {base : Nat} {e : TypeId} {size : Nat} {w w' : World} {v : Value} {n : Nat} {cs : List Value} (h : ApC base e size w v n cs) (hb : Below w.heap.size w w') : ApC base e size w' v n cs := by
  rcases h with h | h
  · exact .inl h
  · exact .inr (World.ownsRow.kept h (grown_new hb) (by cases hv : v.ownBlock <;> simp))
theorem src_none {t e : TypeId} {size : Nat} (ht : Tryz.prog.underlying t = some (.slice e)) (p : Option Addr) (c : Nat) (w : World) : Src Tryz.prog size t (.slice p 0 c) 0 [] w := by
  cases p with
  | none => exact Src.ofNil w ht c
  | some a => exact Src.ofSlice w ht a 0 c [] (by simp) (fun j u hu => by cases hu) (fun u hu => by cases hu)
theorem run_ap_none {t e : TypeId} {z : Value} {size bytes : Nat} (E : EltI t e z size bytes) (ty : TypeId) (w : World) (p p' : Option Addr) (n c c' : Nat) (hle : n ≤ c) :
    (Builtin.append_ #[t, t] ty #[.slice p n c, .slice p' 0 c']).run Tryz.prog w = .ok (.slice p n c) w := by
  obtain ⟨i, hi, _, h2, _⟩ := E.inf
  have hs := src_none (size := i.size) E.und p' c' w
  cases p <;> simp [Builtin.append_, run_underlying E.und, sizeOf, typeInfo, hi, hs.len, hle, hs.cells, storeCells]
theorem run_ap {t e : TypeId} {z : Value} {size bytes : Nat} (E : EltI t e z size bytes) (ty : TypeId) {base : Nat} {w : World} {v u : Value} {n m : Nat} {cs ds : List Value} (ha : ApC base e size w v n cs) (hr : RdC w u m ds) (hd : ds.length = m * size)
    (h1 : ∀ u ∈ ds, u.oneCell' = true) (h63 : n + m ≤ maxLen) (hby : (n + m) * bytes ≤ 140737488355328) (hb : base ≤ w.heap.size) :
    ∃ v' w', (Builtin.append_ #[t, t] ty #[v, u]).run Tryz.prog w = .ok v' w' ∧ ApC base e size w' v' (n + m) (cs ++ ds) ∧ Below base w w' := by
  rcases hr with ⟨p', c', rfl, rfl, rfl, hz⟩ | ⟨b, off, c, rfl, hbl, hc⟩
  · obtain ⟨p, c, rfl, hle⟩ := ha.form
    exact ⟨_, w, run_ap_none E ty w p p' n c c' hle, by rw [List.append_nil]; exact ha, Below.refl _ _⟩
  · obtain ⟨i, hi, hi1, hi2, hi3⟩ := E.inf
    have hcells : ∀ j u, ds[j]? = some u → w.cell? ((⟨b, off, none⟩ : Addr).add j) = some u := fun j u hu => by rw [Addr.add_lit]; exact hc j u hu
    rcases ha with ⟨p, rfl, rfl, rfl⟩ | ha
    · rcases Nat.eq_zero_or_pos m with rfl | hm
      · obtain rfl : ds = [] := List.eq_nil_of_length_eq_zero (by simpa using hd)
        exact ⟨_, w, run_ap_none E ty w p _ 0 0 c (Nat.le_refl _), .inl ⟨p, rfl, rfl, rfl⟩, Below.refl _ _⟩
      · have hs : Src Tryz.prog i.size t (.slice (some ⟨b, off, none⟩) m c) m ds w := Src.ofSlice w E.und _ m c ds (by rw [hi2]; exact hd) hcells h1
        have hold := (src_none (size := i.size) E.und p 0 w).cellsD
        have hr := run_append_grow_src (P := Tryz.prog) w t t ty e i z E.und hi hi1 p 0 0 [] hold _ m ds hs (by omega) (by simp only [maxLen] at h63; omega) (growslice_fits (by omega) (by rw [hi3]; exact hby))
        have hge := grownCap_ge w (0 + m) 0 e
        have hcm : grownCap w (0 + m) 0 e ≤ maxLen := grownCap_le_maxLen w (0 + m) 0 e h63
        refine ⟨_, _, hr, .inr ⟨by rw [List.nil_append, hd, Nat.zero_add], .inr ⟨w.heap.size, _, _, rfl, hb, heap_alloc_new w.drew _, hge, hcm, ?_, ?_⟩⟩, ((Below.refl _ w).drew).alloc hb _⟩
        · simp only [Array.size_append, List.size_toArray, size_zeroCells, E.zs, List.nil_append, hd, ← Nat.add_mul]
          congr 1
          omega
        · simp only [Array.toList_append, List.nil_append]
          rw [show (0 + m) * size = ds.length by rw [hd, Nat.zero_add]]
          exact List.take_left
    · obtain ⟨v', w', hrun, h2, h3, _⟩ := run_append_own (P := Tryz.prog) w base t ty e i z size bytes E.und hi hi1 hi2 hi3 E.zs E.sz v n cs ha ⟨b, off, none⟩ m c ds hd hcells h1 h63 hby hb
      exact ⟨v', w', hrun, .inr h2, (Below.refl _ w).grown h3 hb fun k hk => (World.ownsRow.lt ha k hk).1⟩
theorem wpl_ap {t e : TypeId} {z : Value} {size bytes : Nat} (E : EltI t e z size bytes) {w : World} {ops : Array Oper} {rest : List Oper} {o : Oper} {a : Act} {Q : Exit → Act → World → Prop} (hgd : o.guard = none) (s x : Operand)
    (ho : o.op = .call { callee := .builtin .append, args := #[s, x], argTypes := #[t, t] })
    {base : Nat} {v u : Value} {n m : Nat} {cs ds : List Value} (hs : a.eval s = v) (ha : ApC base e size w v n cs) (hx : a.eval x = u) (hr : RdC w u m ds) (hd : ds.length = m * size)
    (h1 : ∀ u ∈ ds, u.oneCell' = true) (h63 : n + m ≤ maxLen) (hby : (n + m) * bytes ≤ 140737488355328) (hb : base ≤ w.heap.size)
    (h : ∀ p c w', ApC base e size w' (.slice p (n + m) c) (n + m) (cs ++ ds) → n + m ≤ c → Below base w w' → wpList Tryz.prog ops Q rest (a.put o.dst (.slice p (n + m) c)) w') :
    wpList Tryz.prog ops Q (o :: rest) a w := by
  refine wpList_plain hgd fun K hK => ?_
  obtain ⟨v', w', hrun, h2, h3⟩ := run_ap E o.type ha hr hd h1 h63 hby hb
  obtain ⟨p, c, rfl, hle⟩ := h2.form
  unfold Oper.wp
  simp [execOp, ho, resolve, invoke, builtin, hs, hx, hrun, Result.andThen]
  exact hK _ _ (h p c w' h2 hle h3)

/-- As RdC, in none of the blocks M. -/
def RdF (M : Nat → Prop) (w : World) (v : Value) (n : Nat) (cs : List Value) : Prop :=
  (∃ p c, v = .slice p 0 c ∧ n = 0 ∧ cs = [] ∧ (p = none → c = 0)) ∨ ∃ b off c, v = .slice (some ⟨b, off, none⟩) n c ∧ b < w.heap.size ∧ ¬ M b ∧ CellsC w b off cs
theorem RdF.rdc {M : Nat → Prop} {w : World} {v : Value} {n : Nat} {cs : List Value} (h : RdF M w v n cs) : RdC w v n cs := by
  rcases h with h | ⟨b, off, c, e, h1, _, h2⟩
  · exact .inl h
  · exact .inr ⟨b, off, c, e, h1, h2⟩
theorem RdC.rdf {M : Nat → Prop} {w : World} {v : Value} {n : Nat} {cs : List Value} (h : RdC w v n cs) (hm : ∀ b, M b → w.heap.size ≤ b) : RdF M w v n cs := by
  rcases h with h | ⟨b, off, c, e, h1, h2⟩
  · exact .inl h
  · exact .inr ⟨b, off, c, e, h1, fun k => by have := hm b k; omega, h2⟩
theorem RdF.kept {M : Nat → Prop} {w w' : World} {v : Value} {n : Nat} {cs : List Value} (h : RdF M w v n cs) (hs : w.heap.size ≤ w'.heap.size) (hk : ∀ b, b < w.heap.size → ¬ M b → w'.heap[b]? = w.heap[b]?) : RdF M w' v n cs := by
  rcases h with h | ⟨b, off, c, e, h1, h0, h2⟩
  · exact .inl h
  · exact .inr ⟨b, off, c, e, Nat.lt_of_lt_of_le h1 hs, h0, fun j u hu => (World.cell?_of_block (a := ⟨b, off + j, none⟩) (hk b h1 h0)).trans (h2 j u hu)⟩
theorem RdF.moved {M M' : Nat → Prop} {w : World} {v : Value} {n : Nat} {cs : List Value} (h : RdF M w v n cs) (hm : ∀ b, M' b → b < w.heap.size → M b) : RdF M' w v n cs := by
  rcases h with h | ⟨b, off, c, e, h1, h0, h2⟩
  · exact .inl h
  · exact .inr ⟨b, off, c, e, h1, fun k => h0 (hm b k h1), h2⟩

theorem RdF.next {M : Nat → Prop} {w w' : World} {v : Value} {n : Nat} {cs : List Value} (h : RdF M w v n cs) (hb : Below w.heap.size w w') : RdF M w' v n cs := h.kept hb.size fun b hl _ => hb.block b hl
theorem run_own {t e : TypeId} {z : Value} {size bytes : Nat} (E : EltI t e z size bytes) (ty : TypeId) {base : Nat} {w : World} {v : Value} {n m c : Nat} {a : Addr} {cs ds : List Value} (ha : w.ownsRow base e size v n cs) (hr : ∀ j u, ds[j]? = some u → w.cell? (a.add j) = some u) (hd : ds.length = m * size)
    (h1 : ∀ u ∈ ds, u.oneCell' = true) (h63 : n + m ≤ maxLen) (hby : (n + m) * bytes ≤ 140737488355328) (hb : base ≤ w.heap.size) (hm : 0 < m) :
    ∃ v' w', (Builtin.append_ #[t, t] ty #[v, .slice (some a) m c]).run Tryz.prog w = .ok v' w' ∧ w'.ownsRow base e size v' (n + m) (cs ++ ds) ∧ w.grownBy w' v.ownBlock ∧ (v'.ownBlock = v.ownBlock ∨ v'.ownBlock = some w.heap.size) := by
  obtain ⟨i, hi, hi1, hi2, hi3⟩ := E.inf
  obtain ⟨v', w', hrun, h2, h3, h4⟩ := run_append_own (P := Tryz.prog) w base t ty e i z size bytes E.und hi hi1 hi2 hi3 E.zs E.sz v n cs ha a m c ds hd hr h1 h63 hby hb
  refine ⟨v', w', hrun, h2, h3, ?_⟩
  have hsmall : n + m ≤ 9223372036854775807 := by simp only [maxLen] at h63; omega
  subst hi2
  subst hi3
  rcases ha with ⟨hlen, ⟨rfl, rfl⟩ | ⟨g, cap, cur, rfl, hbg, hg, hnc, hcm, hcs, htake⟩⟩
  · have hr2 := run_append_nil (P := Tryz.prog) w t ty e i z E.und hi hi1 a m c ds hd hr (by omega) (by omega) (by simp only [Nat.zero_add] at hby; omega)
    have := hrun.symm.trans hr2
    simp only [Result.ok.injEq] at this
    rw [this.1]
    exact .inr rfl
  · by_cases hroom : n + m ≤ cap
    · have hfit : n * i.size + ds.length ≤ cur.size := by rw [hd, hcs, ← Nat.add_mul]; exact Nat.mul_le_mul_right _ hroom
      have hr2 := run_append_room (P := Tryz.prog) w t ty e i E.und hi g n cap cur hg a m c ds hd hr h1 hroom hfit
      have := hrun.symm.trans hr2
      simp only [Result.ok.injEq] at this
      rw [this.1]
      exact .inl rfl
    · have holds : ∀ j u, cs[j]? = some u → w.cell? ((⟨g, 0, none⟩ : Addr).add j) = some u := World.ownsRow.cells (w := w) (base := base) (e := e) (size := i.size) (n := n) (v := .slice (some ⟨g, 0, none⟩) n cap) ⟨hlen, .inr ⟨g, cap, cur, rfl, hbg, hg, hnc, hcm, hcs, htake⟩⟩ (g := g) rfl
      have hr2 := run_append_grow (P := Tryz.prog) w t ty e i z E.und hi hi1 ⟨g, 0, none⟩ n cap cs hlen holds a m c ds hd hr (by omega) (by omega) (growslice_fits (by omega) hby)
      have := hrun.symm.trans hr2
      simp only [Result.ok.injEq] at this
      rw [this.1]
      exact .inr rfl
/-- Anything that is read, behind a row of the call's own. -/
theorem run_ow {t e : TypeId} {z : Value} {size bytes : Nat} (E : EltI t e z size bytes) (ty : TypeId) {base : Nat} {w : World} {v u : Value} {n m : Nat} {cs ds : List Value} (ha : w.ownsRow base e size v n cs) (hr : RdC w u m ds) (hd : ds.length = m * size)
    (h1 : ∀ u ∈ ds, u.oneCell' = true) (h63 : n + m ≤ maxLen) (hby : (n + m) * bytes ≤ 140737488355328) (hb : base ≤ w.heap.size) :
    ∃ v' w', (Builtin.append_ #[t, t] ty #[v, u]).run Tryz.prog w = .ok v' w' ∧ w'.ownsRow base e size v' (n + m) (cs ++ ds) ∧ Below base w w' := by
  rcases hr with ⟨p', c', rfl, rfl, rfl, hz⟩ | ⟨b, off, c, rfl, hbl, hc⟩
  · have hap : ApC base e size w v n cs := .inr ha
    obtain ⟨p, c, rfl, hle⟩ := hap.form
    exact ⟨_, w, run_ap_none E ty w p p' n c c' hle, by rw [List.append_nil]; exact ha, Below.refl _ _⟩
  · obtain ⟨i, hi, hi1, hi2, hi3⟩ := E.inf
    have hcells : ∀ j u, ds[j]? = some u → w.cell? ((⟨b, off, none⟩ : Addr).add j) = some u := fun j u hu => by rw [Addr.add_lit]; exact hc j u hu
    obtain ⟨v', w', hrun, h2, h3, _⟩ := run_append_own (P := Tryz.prog) w base t ty e i z size bytes E.und hi hi1 hi2 hi3 E.zs E.sz v n cs ha ⟨b, off, none⟩ m c ds hd hcells h1 h63 hby hb
    exact ⟨v', w', hrun, h2, (Below.refl _ w).grown h3 hb fun k hk => (World.ownsRow.lt ha k hk).1⟩
end Go.Proofs.YtpmghgfgbkncoaaGreatDoor.gn
end
section
set_option linter.unusedVariables false
namespace Go.Proofs.YtpmghgfgbkncoaaGreatDoor.gn
open Go.RowKit
open Go.Proofs.YtpmghgfgbkncoaaGreatDoor.un
open Go.Proofs.YtpmghgfgbkncoaaGreatDoor.di

def clo (g : FuncId) (c : Nat) : Value := .func (.func g) #[] #[.pointer (some ⟨c, 0, none⟩)]
/-- The closure of a key. -/
def cloF (c : Nat) (j : Tx) : Option Value :=
  if j = accK then some (clo 97 c) else if j = sizeK then some (clo 92 c) else if j = capK then some (clo 92 c)
  else if j = poolK then some (clo 96 c) else if j = nameK then some (clo 94 c) else none
theorem cloF_acc (c : Nat) : cloF c accK = some (clo 97 c) := by unfold cloF; rw [if_pos rfl]
theorem cloF_size (c : Nat) : cloF c sizeK = some (clo 92 c) := by unfold cloF; rw [if_neg (by decide), if_pos rfl]
theorem cloF_cap (c : Nat) : cloF c capK = some (clo 92 c) := by unfold cloF; rw [if_neg (by decide), if_neg (by decide), if_pos rfl]
theorem cloF_pool (c : Nat) : cloF c poolK = some (clo 96 c) := by unfold cloF; rw [if_neg (by decide), if_neg (by decide), if_neg (by decide), if_pos rfl]
theorem cloF_name (c : Nat) : cloF c nameK = some (clo 94 c) := by unfold cloF; rw [if_neg (by decide), if_neg (by decide), if_neg (by decide), if_neg (by decide), if_pos rfl]

/-- The map of the closures, for the directive in block bd. -/
structure StM (w : World) (B b c bd : Nat) (L : List (Tx × Value)) : Prop where
  m : MapV w b L
  get : ∀ j, fi.get j L = cloF c j
  ptr : PtrB w c bd
  hb : B ≤ b
  hc : B ≤ c
theorem StM.next {w w' : World} {B b c bd : Nat} {L : List (Tx × Value)} (h : StM w B b c bd L) (hb : Below w.heap.size w w') : StM w' B b c bd L := ⟨h.m.next hb, h.get, h.ptr.next hb, h.hb, h.hc⟩
theorem StM.but {w w' : World} {B b c bd R : Nat} {L : List (Tx × Value)} (h : StM w B b c bd L) (hb : But R w w') (hR : R < B) : StM w' B b c bd L :=
  ⟨h.m.but hb (by have := h.hb; omega), h.get, h.ptr.but hb (by have := h.hc; omega), h.hb, h.hc⟩

set_option maxRecDepth 100000 in
set_option maxHeartbeats 3200000 in
theorem stores_any (bd : Nat) (w : World) : Calls Tryz.prog 76 #[.pointer (some ⟨bd, 0, none⟩)] w fun e w' => ∃ b c L, e = .returned (.map (some b)) ∧ StM w' w.heap.size b c bd L ∧ Below w.heap.size w w' := by
  have ht := Tryz.underlying114
  have p0 : PtrB (w.alloc (.cells #[.pointer (some ⟨bd, 0, none⟩)] 116)) w.heap.size bd := BoxA.new _ _ _
  have b0 : Below w.heap.size w (w.alloc (.cells #[.pointer (some ⟨bd, 0, none⟩)] 116)) := (Below.refl _ w).alloc (Nat.le_refl _) _
  obtain ⟨z, hz⟩ : ∃ z, w.alloc (.cells #[.pointer (some ⟨bd, 0, none⟩)] 116) = z := ⟨_, rfl⟩
  have sz : z.heap.size = w.heap.size + 1 := by rw [← hz]; simp
  rw [hz] at p0 b0
  have y0 : Below z.heap.size z (z.alloc (.map #[] 0)) := (Below.refl _ _).alloc (Nat.le_refl _) _
  have m0 := MapV.new z
  have P0 := p0.next y0
  have B0 : Below w.heap.size w (z.alloc (.map #[] 0)) := b0.trans (y0.mono b0.size)
  have l0 : ([] : List (Tx × Value)).length ≤ 0 := Nat.le_refl _
  obtain ⟨v1, L1, r1, m1, l1, q1, g1⟩ := m0.put2 l0 (k := nameK) ht (by decide) (by decide) (clo 94 w.heap.size)
  obtain ⟨v2, L2, r2, m2, l2, q2, g2⟩ := m1.put2 l1 (k := poolK) ht (by decide) (by decide) (clo 96 w.heap.size)
  obtain ⟨v3, L3, r3, m3, l3, q3, g3⟩ := m2.put2 l2 (k := capK) ht (by decide) (by decide) (clo 92 w.heap.size)
  obtain ⟨v4, L4, r4, m4, l4, q4, g4⟩ := m3.put2 l3 (k := sizeK) ht (by decide) (by decide) (clo 92 w.heap.size)
  obtain ⟨v5, L5, r5, m5, l5, q5, g5⟩ := m4.put2 l4 (k := accK) ht (by decide) (by decide) (clo 97 w.heap.size)
  have hg : But z.heap.size (z.alloc (.map #[] 0)) v5 := (((g1.trans g2).trans g3).trans g4).trans g5
  have HB := Lib.hid (B0.grown hg B0.size (fun j hj => by cases hj; rw [sz]; omega))
  have HS := Lib.hid (show StM v5 w.heap.size z.heap.size w.heap.size bd L5 from
    ⟨m5, fun j => by rw [q5, q4, q3, q2, q1]; rfl, P0.but hg (by rw [sz]; omega), by rw [sz]; omega, Nat.le_refl _⟩)
  have u1 : (Instr.mapUpdate 114 (.map (some (w.heap.size + 1))) (.string { data := #[110, 97, 109, 101] }) (.func (.func 94) #[] #[.pointer (some ⟨w.heap.size, 0, none⟩)])).run Tryz.prog (z.alloc (.map #[] 0)) = .ok () v1 := by rw [← sz]; exact r1
  have u2 : (Instr.mapUpdate 114 (.map (some (w.heap.size + 1))) (.string { data := #[112, 111, 111, 108] }) (.func (.func 96) #[] #[.pointer (some ⟨w.heap.size, 0, none⟩)])).run Tryz.prog v1 = .ok () v2 := by rw [← sz]; exact r2
  have u3 : (Instr.mapUpdate 114 (.map (some (w.heap.size + 1))) (.string { data := #[99, 97, 112, 97, 99, 105, 116, 121] }) (.func (.func 92) #[] #[.pointer (some ⟨w.heap.size, 0, none⟩)])).run Tryz.prog v2 = .ok () v3 := by rw [← sz]; exact r3
  have u4 : (Instr.mapUpdate 114 (.map (some (w.heap.size + 1))) (.string { data := #[115, 105, 122, 101] }) (.func (.func 92) #[] #[.pointer (some ⟨w.heap.size, 0, none⟩)])).run Tryz.prog v3 = .ok () v4 := by rw [← sz]; exact r4
  have u5 : (Instr.mapUpdate 114 (.map (some (w.heap.size + 1))) (.string { data := #[97, 99, 99, 101, 115, 115] }) (.func (.func 97) #[] #[.pointer (some ⟨w.heap.size, 0, none⟩)])).run Tryz.prog v4 = .ok () v5 := by rw [← sz]; exact r5
  rw [← hz] at u1
  have SZ := Lib.hid sz
  have hmm := @run_makeMap Tryz.prog
  clear p0 b0 sz y0 m0 P0 B0 l0 r1 r2 r3 r4 r5 m1 m2 m3 m4 m5 l1 l2 l3 l4 l5 q1 q2 q3 q4 q5 g1 g2 g3 g4 g5 hg hz
  go_enter Tryz.func76, Tryz.ntmps76
  go_wp2
  go_ret
  exact ⟨z.heap.size, _, _, by rw [SZ.out]; rfl, HS.out, HB.out⟩
end Go.Proofs.YtpmghgfgbkncoaaGreatDoor.gn
end
section
set_option linter.unusedVariables false
namespace Go.Proofs.YtpmghgfgbkncoaaGreatDoor.gn
open Go.RowKit
open Go.Proofs.YtpmghgfgbkncoaaGreatDoor.un
open Go.Proofs.YtpmghgfgbkncoaaGreatDoor.di

/-! ### what the library's variables hold -/
structure LaidD (w : World) : Prop where
  u : LaidU w
  max : ∃ m : Int, w.cell? ⟨0, 0, none⟩ = some (.int .i64 m)
theorem LaidD.next {w w' : World} (h : LaidD w) (hb : Below w.heap.size w w') : LaidD w' := by
  refine ⟨h.u.next hb, ?_⟩
  obtain ⟨m, hm⟩ := h.max
  refine ⟨m, (Below.cell hb ?_).trans hm⟩
  by_cases hl : 0 < w.heap.size
  · exact hl
  · have : w.heap[0]? = none := Array.getElem?_eq_none (by omega)
    simp [World.cell?, this] at hm
/-- .. however what stands from B on is turned. -/
def LaidB (B : Nat) (w : World) : Prop := ∀ w', Below B w w' → LaidD w'
theorem LaidD.base {w : World} (h : LaidD w) : LaidB w.heap.size w := fun w' hb => h.next hb
theorem LaidB.next {B : Nat} {w w' : World} (h : LaidB B w) (hb : Below B w w') : LaidB B w' := fun w2 h2 => h w2 (hb.trans h2)
theorem LaidB.here {B : Nat} {w : World} (h : LaidB B w) : LaidD w := h w (Below.refl _ _)
theorem LaidB.up {B C : Nat} {w : World} (h : LaidB B w) (hc : B ≤ C) : LaidB C w := fun w' hb => h w' (hb.mono hc)
theorem But.low {R B : Nat} {w w' : World} (h : But R w w') (hR : B ≤ R) (hB : B ≤ w.heap.size) : Below B w w' := (Below.refl B w).grown h hB (fun j hj => by cases hj; exact hR)

/-! ### the parts of a line -/
def Prts (w : World) (p o : Nat) (ws : List Tx) : Prop := p < w.heap.size ∧ ∀ (i : Nat) (x : Tx), ws[i]? = some x → w.cell? ⟨p, o + i, none⟩ = some (.string (str x))
theorem Prts.next {w w' : World} {p o : Nat} {ws : List Tx} (h : Prts w p o ws) (hb : Below w.heap.size w w') : Prts w' p o ws :=
  ⟨Nat.lt_of_lt_of_le h.1 hb.size, fun i x hx => (Below.cell hb h.1).trans (h.2 i x hx)⟩
theorem Prts.but {R : Nat} {w w' : World} {p o : Nat} {ws : List Tx} (h : Prts w p o ws) (hb : But R w w') (hne : p ≠ R) : Prts w' p o ws :=
  ⟨Nat.lt_of_lt_of_le h.1 hb.size, fun i x hx => hb.cell (h.2 i x hx) hne⟩
theorem Prts.drop {w : World} {p o : Nat} {ws : List Tx} (h : Prts w p o ws) (n : Nat) : Prts w p (o + n) (ws.drop n) :=
  ⟨h.1, fun i x hx => by
    have := h.2 (n + i) x (by rw [List.getElem?_drop] at hx; exact hx)
    rw [Nat.add_assoc]
    exact this⟩

theorem cut_any (x : Tx) (hx : x.length ≤ 100000) (w : World) (hL : LaidD w) :
    Calls Tryz.prog 64 #[.string (str x), .string { data := #[61] }] w (Told (.tuple #[.string (str (fld x).1), .string (str (fld x).2), .bool (cut x).isSome]) w) := by
  obtain ⟨m, hm⟩ := hL.max
  refine (Any.strings_Cut layCut (str x) (str [61]) m w (by rw [str_size]; omega) hm).mono ?_
  rintro e w' ⟨he, n, hw⟩
  have e1 : (str x).data.toList = x := by simp [str]
  have e2 : (str [61]).data.toList = [61] := rfl
  rw [e1, e2, cut_lib] at he
  exact ⟨he, by rw [hw]; exact Joins.below_draws _ _ _⟩
theorem split_any_d (l : Tx) (hl : l.length ≤ 100000) (w : World) (hL : LaidD w) :
    Calls Tryz.prog 65 #[.string (str l), .string { data := #[32] }] w fun e w' => e = .returned (.slice (some ⟨w.heap.size, 0, none⟩) (words l).length (words l).length) ∧ Prts w' w.heap.size 0 (words l) ∧ Below w.heap.size w w' := by
  obtain ⟨m, hm⟩ := hL.max
  refine (Any.strings_Split laySplit (by kernel_rfl) (str l) (str [32]) m w (by rw [str_size]; omega) hm (by decide)).mono ?_
  rintro e w' ⟨he, hw⟩
  rw [countB_words] at he
  rw [splitB_words] at hw
  refine ⟨he, ⟨by rw [hw]; simp, fun i x hx => ?_⟩, by rw [hw]; exact (Below.refl _ _).alloc (Nat.le_refl _) _⟩
  rw [hw, World.cell?_alloc_mark]
  simp [hx]

/-! ### the fields that are expected -/
def fV (f : Tx × Bool) : Value := .agg #[.string (str f.1), .bool f.2]
/-- What the map holds behind these fields. -/
def fget (F : List (Tx × Bool)) (j : Tx) : Option Value := F.foldl (fun acc f => if j = f.1 then some (fV f) else acc) none
theorem fget_snoc (F : List (Tx × Bool)) (f : Tx × Bool) (j : Tx) : fget (F ++ [f]) j = if j = f.1 then some (fV f) else fget F j := by
  unfold fget
  rw [List.foldl_append]
  rfl
theorem fget_all {k : Nat} (hk : 1 ≤ k ∧ k ≤ 6) (j : Tx) : fget (fldL k) j = if has k j = true then some (fV (j, decide (j = accK))) else none := by
  have c1 : (capK = accK) = False := by simp; decide
  have c2 : (sizeK = accK) = False := by simp; decide
  have c3 : (nameK = accK) = False := by simp; decide
  have c4 : (poolK = accK) = False := by simp; decide
  by_cases h1 : j = capK
  · subst h1
    rcases six hk with rfl | rfl | rfl | rfl | rfl | rfl <;> rfl
  by_cases h2 : j = sizeK
  · subst h2
    rcases six hk with rfl | rfl | rfl | rfl | rfl | rfl <;> rfl
  by_cases h3 : j = nameK
  · subst h3
    rcases six hk with rfl | rfl | rfl | rfl | rfl | rfl <;> rfl
  by_cases h4 : j = poolK
  · subst h4
    rcases six hk with rfl | rfl | rfl | rfl | rfl | rfl <;> rfl
  by_cases h5 : j = accK
  · subst h5
    rcases six hk with rfl | rfl | rfl | rfl | rfl | rfl <;> rfl
  rcases six hk with rfl | rfl | rfl | rfl | rfl | rfl <;> simp [fget, has, fldL, h1, h2, h3, h4, h5]
theorem fld_opt {k : Nat} {f : Tx × Bool} (h : f ∈ fldL k) : f.2 = decide (f.1 = accK) ∧ has k f.1 = true := by
  refine ⟨?_, by unfold has; exact List.contains_iff_mem.2 (List.mem_map.2 ⟨f, h, rfl⟩)⟩
  unfold fldL at h
  split at h <;> simp at h
  · rcases h with rfl | rfl <;> rfl
  · subst h; rfl
  · subst h; rfl
  · rcases h with rfl | rfl | rfl | rfl <;> rfl
  · subst h; rfl
  · subst h; rfl
theorem has_mem {k : Nat} {j : Tx} (h : has k j = true) : (j, decide (j = accK)) ∈ fldL k := by
  unfold has at h
  obtain ⟨f, hf, rfl⟩ := List.mem_map.1 (List.contains_iff_mem.1 h)
  rw [← (fld_opt hf).1]
  exact hf
/-- What is still expected. -/
structure Left (w : World) (m k : Nat) (fs : List Fl) (L : List (Tx × Value)) : Prop where
  m : MapV w m L
  get : ∀ j, fi.get j L = if has k j = true ∧ j ∉ keys fs then some (fV (j, decide (j = accK))) else none
theorem Left.next {w w' : World} {m k : Nat} {fs : List Fl} {L : List (Tx × Value)} (h : Left w m k fs L) (hb : Below w.heap.size w w') : Left w' m k fs L := ⟨h.m.next hb, h.get⟩
theorem Left.but {R : Nat} {w w' : World} {m k : Nat} {fs : List Fl} {L : List (Tx × Value)} (h : Left w m k fs L) (hb : But R w w') (hne : m ≠ R) : Left w' m k fs L := ⟨h.m.but hb hne, h.get⟩
theorem Left.del {w w' : World} {m k : Nat} {fs : List Fl} {L : List (Tx × Value)} (h : Left w m k fs L) {f : Fl} (hd : MapV w' m (fi.del f.1 L)) : Left w' m k (fs ++ [f]) (fi.del f.1 L) := by
  refine ⟨hd, fun j => ?_⟩
  rw [get_del, h.get, keys_snoc]
  by_cases hj : j = f.1
  · rw [if_pos hj, if_neg]
    rintro ⟨_, hn⟩
    exact hn (by rw [hj]; simp)
  · rw [if_neg hj]
    have : j ∉ keys fs ++ [f.1] ↔ j ∉ keys fs := by simp [hj]
    simp only [this]
theorem zeroF (W : World) : (zeroValue 91).run Tryz.prog W = .ok (.agg #[.string { data := #[] }, .bool false]) W := by kernel_rfl

/-- A closure out of the map, called. -/
theorem clo_call {k : Nat} {key : Tx} (h : has k key = true) (c : Nat) : ∃ g, cloF c key = some (clo g c) ∧ (∀ (x y : Value) (W : World), (callFunc g #[x, y]).run Tryz.prog W = .ok (.enter g #[x, y]) W) ∧
    ∀ (v : Tx) (hv : v.length ≤ 140737488355328) (bd : Nat) (d : Dir) (W : World), PtrB W c bd → DirB W bd d → LaidU W → Calls Tryz.prog g #[.string (str v), .pointer (some ⟨c, 0, none⟩)] W (StoT bd key v d W) := by
  rcases key_five h with rfl | rfl | rfl | rfl | rfl
  · exact ⟨_, cloF_name c, fun x y W => by kernel_rfl, fun v hv bd d W hp hd hL => sto_name_any c bd d v (by omega) W hp hd⟩
  · exact ⟨_, cloF_pool c, fun x y W => by kernel_rfl, fun v hv bd d W hp hd hL => sto_pool_any c bd d v (by omega) W hp hd⟩
  · exact ⟨_, cloF_cap c, fun x y W => by kernel_rfl, fun v hv bd d W hp hd hL => sto_size_any c bd d v hv W hp hd hL⟩
  · refine ⟨_, cloF_size c, fun x y W => by kernel_rfl, fun v hv bd d W hp hd hL => (sto_size_any c bd d v hv W hp hd hL).mono ?_⟩
    rintro e w' ⟨h1, h2, h3⟩
    exact ⟨by rw [okv_siz, ← okv_cap]; exact h1, h2, by rw [sto_size, ← sto_cap]; exact h3⟩
  · exact ⟨_, cloF_acc c, fun x y W => by kernel_rfl, fun v hv bd d W hp hd hL => sto_acc_any c bd d v W hp hd⟩
theorem fld_len (x : Tx) : (fld x).1.length ≤ x.length ∧ (fld x).2.length ≤ x.length := by
  unfold fld
  cases hc : cut x with
  | none => simp
  | some f =>
    obtain ⟨e, _⟩ := cut_some x f.1 f.2 hc
    simp only [Option.getD_some]
    rw [e]
    simp
    omega
end Go.Proofs.YtpmghgfgbkncoaaGreatDoor.gn
end
section
namespace Go.Proofs.YtpmghgfgbkncoaaGreatDoor.gn
open Go.RowKit

theorem cell_lt {w : World} {a : Addr} {v : Value} (h : w.cell? a = some v) : a.block < w.heap.size := by
  unfold World.cell? at h
  cases hb : w.heap[a.block]? with
  | none => rw [hb] at h; simp at h
  | some o => exact lt_of_block hb

/-- v is a slice of these strings. -/
def Strs (w : World) (v : Value) (L : List (List UInt8)) : Prop :=
  ∃ A c, v = .slice A L.length c ∧ L.length ≤ c ∧ c ≤ maxLen ∧ (L.length = 0 ∨ ∃ b o, A = some ⟨b, o, none⟩ ∧ ∀ j (h : j < L.length), w.cell? ⟨b, o + j, none⟩ = some (.string (str L[j]))) ∧ ∀ s ∈ L, s.length ≤ maxLen
theorem cells9 : Tryz.prog.cellsOf 9 = 1 := by kernel_rfl
theorem open_strs1 {H : Type} {enc : TypeId × Value → H} {W : World} {fuel : Nat} {v : Value} {x : DataW H × List MemPlace}
    (h : DataW.trod enc Tryz.prog W 0 (fun _ => true) true fuel 25 [v] = some x) : ∃ L, Strs W v L := by
  rcases Go.ChangeShapes.open_strings Tryz.underlying25 Tryz.underlying9 cells9 h with ⟨hcs, _⟩ | ⟨a, len, cap, ss, hcs, _, hle, hm, hz, _, hcell, hw⟩
  · simp at hcs
    subst hcs
    exact ⟨[], none, 0, rfl, Nat.le_refl _, Nat.zero_le _, .inl rfl, fun s hs => by cases hs⟩
  · simp at hcs hz
    subst hcs
    have hl : ((ss.take len).map fun s => s.data.toList).length = len := by rw [List.length_map, List.length_take]; omega
    refine ⟨(ss.take len).map fun s => s.data.toList, some a, cap, by rw [hl], by rw [hl]; exact hle, hm, ?_, fun s hs => ?_⟩
    · by_cases h0 : len = 0
      · exact .inl (hl.trans h0)
      · obtain ⟨b, off, spot⟩ := a
        have hspot : spot = none := by simpa [Addr.add] using World.cell?_spot (hcell 0 (by omega))
        subst hspot
        refine .inr ⟨b, off, rfl, fun j hj => ?_⟩
        rw [hl] at hj
        have hadd : (⟨b, off, none⟩ : Addr).add j = ⟨b, off + j, none⟩ := by unfold Addr.add; split <;> simp_all
        have := hcell j (by omega)
        rw [hadd] at this
        rw [this]
        simp [List.getD, List.getElem?_eq_getElem (show j < ss.length by omega), str_of]
    · obtain ⟨t, ht, rfl⟩ := List.mem_map.1 hs
      simpa using hw t (List.take_subset _ _ ht)
theorem Strs.below {w w' : World} {v : Value} {L : List (List UInt8)} (h : Strs w v L) (hb : Below w.heap.size w w') : Strs w' v L := by
  obtain ⟨A, c, h1, h2, h3, h4, h5⟩ := h
  refine ⟨A, c, h1, h2, h3, ?_, h5⟩
  rcases h4 with h4 | ⟨b, o, hA, hc⟩
  · exact .inl h4
  · exact .inr ⟨b, o, hA, fun j hj => (hb.cell (p := ⟨b, o + j, none⟩) (cell_lt (hc j hj))).trans (hc j hj)⟩
theorem Strs.take {w : World} {A : Option Addr} {n c : Nat} {L : List (List UInt8)} (h : Strs w (.slice A n c) L) (k : Nat) (hk : k ≤ L.length) : Strs w (.slice A k c) (L.take k) := by
  obtain ⟨A', c', h1, h2, h3, h4, h5⟩ := h
  injection h1 with e1 e2 e3
  subst e1; subst e3
  have hl : (L.take k).length = k := by rw [List.length_take]; omega
  refine ⟨A, c, by rw [hl], by omega, h3, ?_, fun s hs => h5 s (List.mem_of_mem_take hs)⟩
  rcases h4 with h4 | ⟨b, o, hA, hc⟩
  · exact .inl (by omega)
  · exact .inr ⟨b, o, hA, fun j hj => by rw [hc j (by omega), List.getElem_take]⟩
theorem Strs.len {w : World} {A : Option Addr} {n c : Nat} {L : List (List UInt8)} (h : Strs w (.slice A n c) L) : n = L.length ∧ L.length ≤ c ∧ c ≤ maxLen := by
  obtain ⟨A', c', h1, h2, h3, h4, h5⟩ := h
  injection h1 with e1 e2 e3
  subst e3
  exact ⟨e2, h2, h3⟩

/-- v is a slice of the call's own, of these strings. -/
def Ss (w : World) (B : Nat) (v : Value) (L : List (List UInt8)) : Prop := w.ownsRow B 9 1 v L.length (L.map fun s => .string (str s))
theorem Ss_nil (w : World) (B : Nat) : Ss w B (.slice none 0 0) [] := World.ownsRow_nil w B _ 1
theorem Ss.strs {w : World} {B : Nat} {v : Value} {L : List (List UInt8)} (h : Ss w B v L) (hs : ∀ s ∈ L, s.length ≤ maxLen) : Strs w v L := by
  have hcells := fun g => World.ownsRow.cells h (g := g)
  rcases h.2 with ⟨rfl, hn⟩ | ⟨g, cap, cur, rfl, _, _, h1, h2, _⟩
  · exact ⟨none, 0, by rw [hn], by omega, Nat.zero_le _, .inl hn, hs⟩
  · refine ⟨some ⟨g, 0, none⟩, cap, rfl, h1, h2, .inr ⟨g, 0, rfl, fun j hj => ?_⟩, hs⟩
    have hadd : (⟨g, 0, none⟩ : Addr).add j = ⟨g, 0 + j, none⟩ := by unfold Addr.add; split <;> simp_all
    have := hcells g rfl j (.string (str L[j])) (by simp [List.getElem?_eq_getElem hj])
    rwa [hadd] at this
theorem Ss.kept {w w' : World} {B : Nat} {v : Value} {L : List (List UInt8)} (h : Ss w B v L) (hb : Below w.heap.size w w') : Ss w' B v L := by
  refine ⟨h.1, ?_⟩
  rcases h.2 with hn | ⟨g, cap, cur, rfl, hB, hg, rest⟩
  · exact .inl hn
  · exact .inr ⟨g, cap, cur, rfl, hB, (hb.block g (lt_of_block hg)).trans hg, rest⟩
theorem Tryz.info9 : (Tryz.prog.info? 9).map (fun i => (i.zero, i.size, i.bytes)) = some (some (.string ⟨#[]⟩), 1, 16) := by kernel_rfl
/-- A row that a call has just laid. -/
theorem strs_new (w : World) (s : List UInt8) (h : s.length ≤ maxLen) : Strs (w.alloc (.cells #[.string (str s)] 9)) (.slice (some ⟨w.heap.size, 0, none⟩) 1 1) [s] := by
  refine ⟨_, 1, rfl, Nat.le_refl _, by decide, .inr ⟨w.heap.size, 0, rfl, fun j hj => ?_⟩, fun t ht => by simp at ht; rw [ht]; exact h⟩
  have : j = 0 := by simp at hj; exact hj
  subst this
  go_simp
theorem ss_step {B : Nat} {w wr w1 : World} {v v' : Value} {L : List (List UInt8)} {x : List UInt8} (hown : Ss wr B v L) (hb : Below B w wr) (hB : B ≤ wr.heap.size)
    (h1 : w1.ownsRow B 9 1 v' (L.length + 1) ((L.map fun s => .string (str s)) ++ [.string (str x)])) (hg : (wr.alloc (.cells #[.string (str x)] 9)).grownBy w1 v.ownBlock) :
    Ss w1 B v' (L ++ [x]) ∧ Below B w w1 := by
  refine ⟨?_, (hb.alloc hB _).grown hg (by simp; omega) fun k hk => ?_⟩
  · unfold Ss
    rw [List.length_append, List.map_append]
    exact h1
  · rcases hown.2 with ⟨rfl, _⟩ | ⟨g, cap, cur, rfl, hBg, _⟩
    · cases hk
    · cases hk; exact hBg
theorem one_at (w : World) (x : Value) (t : TypeId) : (w.alloc (.cells #[x] t)).cell? ((⟨w.heap.size, 0, none⟩ : Addr).add 0) = some x := by
  have hadd : (⟨w.heap.size, 0, none⟩ : Addr).add 0 = ⟨w.heap.size, 0, none⟩ := by unfold Addr.add; split <;> simp_all
  rw [hadd]
  go_simp
end Go.Proofs.YtpmghgfgbkncoaaGreatDoor.gn
end
section
set_option linter.unusedVariables false
namespace Go.Proofs.YtpmghgfgbkncoaaGreatDoor.gn
open Go.RowKit

set_option maxRecDepth 100000
set_option maxHeartbeats 1000000
/-- v is a slice of these strings; nil has no places. -/
def Strw (w : World) (v : Value) (L : List (List UInt8)) : Prop := Strs w v L ∧ ∀ n c, v = .slice none n c → n = 0 ∧ c = 0
theorem Ss.form {w : World} {B : Nat} {v : Value} {L : List (List UInt8)} (h : Ss w B v L) : ∃ A c, v = .slice A L.length c ∧ (A = none → L.length = 0 ∧ c = 0) ∧ L.length ≤ c ∧ c ≤ maxLen := by
  rcases h.2 with ⟨rfl, hn⟩ | ⟨g, cap, cur, rfl, _, _, h1, h2, _⟩
  · exact ⟨none, 0, by rw [hn], fun _ => ⟨hn, rfl⟩, by omega, by decide⟩
  · exact ⟨_, cap, rfl, fun e => (by cases e), h1, h2⟩
/-- '[]string{}'. -/
theorem ss_made (w : World) (B : Nat) (hB : B ≤ w.heap.size) : Ss (w.alloc (.cells #[] 9)) B (.slice (some ⟨w.heap.size, 0, none⟩) 0 0) [] :=
  ⟨rfl, .inr ⟨w.heap.size, 0, #[], rfl, hB, heap_alloc_new w _, Nat.le_refl _, Nat.zero_le _, rfl, rfl⟩⟩

/-- Where a row lies that was appended to v. -/
def AtRow (w w' : World) (v : Value) (A : Option Addr) : Prop := ∀ g, A.map (·.block) = some g → v.ownBlock = some g ∨ (w.heap.size ≤ g ∧ g < w'.heap.size)

theorem wpList_append_strs' {ops : Array Oper} {rest : List Oper} {o : Oper} {a : Act} {w : World} {Q : Exit → Act → World → Prop} (hw : Region.wanted o (yielded ops a.tmps) = true) (s x : Operand)
    (ho : o.op = .call { callee := .builtin .append, args := #[s, x], argTypes := #[25, 25] }) (B : Nat) (v u : Value) (S R : List (List UInt8)) (hs : a.eval s = v) (hown : Ss w B v S) (hx : a.eval x = u) (hst : Strw w u R)
    (hlim : S.length + R.length ≤ 1099511627776) (hB : B ≤ w.heap.size)
    (h : ∀ A c n w', n = S.length + R.length → Ss w' B (.slice A n c) (S ++ R) → w.grownBy w' v.ownBlock → AtRow w w' v A → wpList Tryz.prog ops Q rest (a.put o.dst (.slice A n c)) w') : wpList Tryz.prog ops Q (o :: rest) a w := by
  obtain ⟨i0, hi, hz0, hz1, hz2⟩ := info_parts Tryz.info9
  obtain ⟨⟨A, c, rfl, hlc, hcm, hcell, _⟩, hnone⟩ := hst
  cases A with
  | none =>
    obtain ⟨h1, rfl⟩ := hnone _ _ rfl
    have hR : R = [] := List.eq_nil_of_length_eq_zero h1
    subst hR
    obtain ⟨A2, c2, hv, _⟩ := hown.form
    have e : S ++ [] = S := List.append_nil S
    have hrun := run_append_owned_none (P := Tryz.prog) (w := w) B 25 o.type 9 i0 1 Tryz.underlying25 hi v S.length _ hown
    have hk := h A2 c2 S.length w (by simp) (by rw [e, ← hv]; exact hown) ⟨rfl, rfl, rfl, Nat.le_refl _, fun _ _ _ => rfl⟩ fun g hg => .inl (by
      rw [hv]
      cases A2 with
      | none => cases hg
      | some a => exact hg)
    rw [← hv] at hk
    have hx0 : a.eval x = .slice none 0 0 := hx
    refine BigFrame.wpList_want hw fun K hK => ?_
    unfold Oper.wp execOp
    simp only [ho, resolve, invoke, builtin, Sem.run_bind, Sem.run_pure, Result.andThen_ok, List.map_toArray, List.map_cons, List.map_nil, hs, hx0, hrun]
    exact hK _ _ hk
  | some ad =>
    have hn : ∀ j u, (R.map fun s => Value.string (str s))[j]? = some u → w.cell? (ad.add j) = some u := fun j u hj => by
      rcases hcell with h0 | ⟨b, off, hA, hc⟩
      · have : R = [] := List.eq_nil_of_length_eq_zero h0
        subst this
        simp at hj
      · cases hA
        have hadd : (⟨b, off, none⟩ : Addr).add j = ⟨b, off + j, none⟩ := by unfold Addr.add; split <;> simp_all
        rw [hadd]
        rw [List.getElem?_map, Option.map_eq_some_iff] at hj
        obtain ⟨z, hz, rfl⟩ := hj
        obtain ⟨hlt, rfl⟩ := List.getElem?_eq_some_iff.1 hz
        exact hc j hlt
    obtain ⟨v', w', hr, h1, h2, _, h5⟩ := run_append_own_at (P := Tryz.prog) w B 25 o.type 9 i0 (.string ⟨#[]⟩) 1 16 Tryz.underlying25 hi hz0 hz1 hz2 rfl (by decide) v S.length _ hown ad R.length c (R.map fun s => .string (str s)) (by simp) hn
      (fun u hu => by obtain ⟨z, _, rfl⟩ := List.mem_map.1 hu; rfl) (by unfold maxLen; omega) (by omega) hB
    have hss : Ss w' B v' (S ++ R) := by
      unfold Ss
      rw [List.length_append, List.map_append]
      exact h1
    have hlt := h1.lt
    obtain ⟨A2, c2, rfl, _⟩ := hss.form
    refine BigFrame.wpList_want hw fun K hK => ?_
    unfold Oper.wp execOp
    simp only [ho, resolve, invoke, builtin, Sem.run_bind, Sem.run_pure, Result.andThen_ok, List.map_toArray, List.map_cons, List.map_nil, hs, hx, hr]
    refine hK _ _ (h A2 c2 _ w' (by simp) hss h2 fun g hg => ?_)
    have hg' : (Value.slice A2 (S ++ R).length c2).ownBlock = some g := by
      cases A2 with
      | none => cases hg
      | some a => exact hg
    rcases h5 with h5 | h5
    · exact .inl (by rw [← h5]; exact hg')
    · rw [hg'] at h5
      cases h5
      exact .inr ⟨Nat.le_refl _, (hlt _ hg').2⟩

theorem wpList_append_strs {ops : Array Oper} {rest : List Oper} {o : Oper} {a : Act} {w : World} {Q : Exit → Act → World → Prop} (hgd : o.guard = none) (s x : Operand)
    (ho : o.op = .call { callee := .builtin .append, args := #[s, x], argTypes := #[25, 25] }) (B : Nat) (v u : Value) (S R : List (List UInt8)) (hs : a.eval s = v) (hown : Ss w B v S) (hx : a.eval x = u) (hst : Strw w u R)
    (hlim : S.length + R.length ≤ 1099511627776) (hB : B ≤ w.heap.size)
    (h : ∀ A c n w', n = S.length + R.length → Ss w' B (.slice A n c) (S ++ R) → w.grownBy w' v.ownBlock → AtRow w w' v A → wpList Tryz.prog ops Q rest (a.put o.dst (.slice A n c)) w') : wpList Tryz.prog ops Q (o :: rest) a w :=
  wpList_append_strs' (by simp [Region.wanted, hgd]) s x ho B v u S R hs hown hx hst hlim hB h
end Go.Proofs.YtpmghgfgbkncoaaGreatDoor.gn
end
