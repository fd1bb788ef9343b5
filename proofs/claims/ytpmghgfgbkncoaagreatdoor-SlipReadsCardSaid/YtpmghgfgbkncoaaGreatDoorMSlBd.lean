/- Bounds of what is read, plain; a directive's beginning. -/
import Derived.Test.YtpmghgfgbkncoaaGreatDoorMSlFx
import Derived.Test.YtpmghgfgbkncoaaGreatDoorMSlPr
section
set_option linter.unusedVariables false
namespace Go.Proofs.YtpmghgfgbkncoaaGreatDoor.sp
open Go.Proofs.YtpmghgfgbkncoaaGreatDoor.un
open Go.Proofs.YtpmghgfgbkncoaaGreatDoor.di

theorem cuts_lens (c : UInt8) : ∀ l : Tx, (cuts c l).length ≤ l.length + 1 ∧ ∀ p ∈ cuts c l, p.length ≤ l.length
  | [] => by simp [cuts]
  | b :: r => by
    obtain ⟨h1, h2⟩ := cuts_lens c r
    unfold cuts
    split
    · refine ⟨by simp; omega, fun p hp => ?_⟩
      rcases List.mem_cons.1 hp with rfl | hp
      · simp
      · have := h2 p hp; simp; omega
    · cases hr : cuts c r with
      | nil => exact absurd hr (cuts_ne c r)
      | cons h t =>
        rw [hr] at h1 h2
        refine ⟨by simp at h1 ⊢; omega, fun p hp => ?_⟩
        rcases List.mem_cons.1 hp with rfl | hp
        · have := h2 h (by simp); simp; omega
        · have := h2 p (by simp [hp]); simp; omega
theorem cutB_lens {c : UInt8} : ∀ {l k v : Tx}, cutB c l = some (k, v) → k.length ≤ l.length ∧ v.length ≤ l.length
  | [], k, v, h => by cases h
  | b :: r, k, v, h => by
    unfold cutB at h
    split at h
    · cases h; simp
    · cases hr : cutB c r with
      | none => rw [hr] at h; cases h
      | some f =>
        obtain ⟨k2, v2⟩ := f
        rw [hr] at h
        cases h
        have := cutB_lens hr
        simp; omega
theorem within_bd {s : Tx} {a b n : Nat} (h : within? s a b = some n) : n ≤ b := by
  unfold within? at h
  split at h
  · split at h
    · cases h; rename_i h; exact h.2
    · cases h
  · cases h
/-- Bounds of a slip that is read: n lines behind the first one. -/
structure Bd (n : Nat) (x : Slip) : Prop where
  user : x.user.length ≤ 10000
  pool : x.pool.length ≤ 1000
  nodes : 0 ≤ x.nodes ∧ x.nodes ≤ 1099511627776
  wall : 0 ≤ x.wall ∧ x.wall ≤ 1099511627776
  qos : 0 ≤ x.qos ∧ x.qos ≤ 1099511627776
  cap : 0 ≤ x.cap ∧ x.cap ≤ 1099511627776
  inn : 0 ≤ x.inn ∧ x.inn ≤ 1099511627776
  out : 0 ≤ x.out ∧ x.out ≤ 1099511627776
  after : x.after.length ≤ 10001 ∧ ∀ d ∈ x.after, 0 ≤ d.1 ∧ d.1 ≤ 1099511627776
  make : x.make.length ≤ n ∧ ∀ d ∈ x.make, chk d = true
  drop : x.drop.length ≤ n ∧ ∀ s ∈ x.drop, s.length ≤ 1000
  use : x.use.length ≤ n ∧ ∀ s ∈ x.use, s.length ≤ 1000
theorem bd_zero : Bd 0 Slip.zero := ⟨by decide, by decide, by decide, by decide, by decide, by decide, by decide, by decide, ⟨by decide, fun d hd => by cases hd⟩, ⟨by decide, fun d hd => by cases hd⟩, ⟨by decide, fun d hd => by cases hd⟩, ⟨by decide, fun d hd => by cases hd⟩⟩
theorem deps_bd : ∀ (L : List Tx) (A : List (Int × Bool)), L.mapM dep? = some A → A.length = L.length ∧ ∀ d ∈ A, 0 ≤ d.1 ∧ d.1 ≤ 1099511627776
  | [], A, h => by
    simp at h
    subst h
    exact ⟨rfl, fun d hd => by cases hd⟩
  | p :: r, A, h => by
    rw [List.mapM_cons] at h
    cases hp : dep? p with
    | none => rw [hp] at h; cases h
    | some d =>
      rw [hp] at h
      cases hr : r.mapM dep? with
      | none => rw [hr] at h; cases h
      | some B =>
        rw [hr] at h
        cases h
        obtain ⟨h1, h2⟩ := deps_bd r B hr
        refine ⟨by simp [h1], fun e he => ?_⟩
        rcases List.mem_cons.1 he with rfl | he
        · unfold dep? at hp
          split at hp
          · split at hp
            · rename_i hw
              have := within_bd hw
              split at hp
              · cases hp; dsimp only; omega
              · cases hp
            · cases hp
          · cases hp
        · exact h2 e he
theorem fput_bd {x y : Slip} {k v : Tx} (h : Bd 0 x) (hv : v.length ≤ 10000) (hp : fput x (k, v) = some y) : Bd 0 y := by
  by_cases k0 : k = userK
  · unfold fput at hp
    rw [if_pos k0] at hp
    cases hp
    exact ⟨hv, h.pool, h.nodes, h.wall, h.qos, h.cap, h.inn, h.out, h.after, h.make, h.drop, h.use⟩
  by_cases k1 : k = nodesK
  · have e : fput x (k, v) = (within? v 1 64).map fun n => { x with nodes := (n : Int) } := by unfold fput; rw [if_neg k0, if_pos k1]; dsimp only; cases within? v 1 64 <;> rfl
    rw [e] at hp
    cases hw : within? v 1 64 with
    | none => rw [hw] at hp; cases hp
    | some n =>
      rw [hw] at hp
      cases hp
      have := within_bd hw
      exact ⟨h.user, h.pool, ⟨by show (0 : Int) ≤ (n : Int); omega, by show (n : Int) ≤ _; omega⟩, h.wall, h.qos, h.cap, h.inn, h.out, h.after, h.make, h.drop, h.use⟩
  by_cases k2 : k = wallK
  · have e : fput x (k, v) = (within? v 1 1048576).map fun n => { x with wall := (n : Int) } := by unfold fput; rw [if_neg k0, if_neg k1, if_pos k2]; dsimp only; cases within? v 1 1048576 <;> rfl
    rw [e] at hp
    cases hw : within? v 1 1048576 with
    | none => rw [hw] at hp; cases hp
    | some n =>
      rw [hw] at hp
      cases hp
      have := within_bd hw
      exact ⟨h.user, h.pool, h.nodes, ⟨by show (0 : Int) ≤ (n : Int); omega, by show (n : Int) ≤ _; omega⟩, h.qos, h.cap, h.inn, h.out, h.after, h.make, h.drop, h.use⟩
  by_cases k3 : k = qosK
  · have e : fput x (k, v) = (within? v 0 9).map fun n => { x with qos := (n : Int) } := by unfold fput; rw [if_neg k0, if_neg k1, if_neg k2, if_pos k3]; dsimp only; cases within? v 0 9 <;> rfl
    rw [e] at hp
    cases hw : within? v 0 9 with
    | none => rw [hw] at hp; cases hp
    | some n =>
      rw [hw] at hp
      cases hp
      have := within_bd hw
      exact ⟨h.user, h.pool, h.nodes, h.wall, ⟨by show (0 : Int) ≤ (n : Int); omega, by show (n : Int) ≤ _; omega⟩, h.cap, h.inn, h.out, h.after, h.make, h.drop, h.use⟩
  by_cases k4 : k = afterK
  · have e : fput x (k, v) = ((cuts 44 v).mapM dep?).map fun l => { x with after := l } := by unfold fput; rw [if_neg k0, if_neg k1, if_neg k2, if_neg k3, if_pos k4]
    rw [e] at hp
    cases hw : (cuts 44 v).mapM dep? with
    | none => rw [hw] at hp; cases hp
    | some A =>
      rw [hw] at hp
      cases hp
      obtain ⟨h1, h2⟩ := deps_bd _ A hw
      have h3 := (cuts_lens 44 v).1
      exact ⟨h.user, h.pool, h.nodes, h.wall, h.qos, h.cap, h.inn, h.out, ⟨by show A.length ≤ 10001; omega, h2⟩, h.make, h.drop, h.use⟩
  · unfold fput at hp
    rw [if_neg k0, if_neg k1, if_neg k2, if_neg k3, if_neg k4] at hp
    cases hp
theorem frun_bd : ∀ (ws : List Tx) (x : Slip) (K : List Tx) (y : Slip) (K' : List Tx), Bd 0 x → (∀ w ∈ ws, w.length ≤ 10000) → frun (x, K) ws = some (y, K') → Bd 0 y
  | [], x, K, y, K', h, _, he => by
    cases he
    exact h
  | w :: ws, x, K, y, K', h, hw, he => by
    rw [frun, cut_B] at he
    cases hc : cutB 61 w with
    | none => rw [hc] at he; cases he
    | some f =>
      obtain ⟨k, v⟩ := f
      rw [hc] at he
      dsimp only at he
      split at he
      · cases he
      · cases hp : fput x (k, v) with
        | none => rw [hp] at he; cases he
        | some z =>
          rw [hp] at he
          exact frun_bd ws z _ y K' (fput_bd h (Nat.le_trans (cutB_lens hc).2 (hw w (by simp))) hp) (fun u hu => hw u (by simp [hu])) he
theorem first_bd {l : Tx} {x : Slip} (hl : l.length ≤ 10000) (h : first? l = some x) : Bd 0 x := by
  have hc := (cuts_lens 32 l).2
  unfold first? at h
  cases hs : cuts 32 l with
  | nil => exact absurd hs (cuts_ne 32 l)
  | cons j ws =>
    rw [hs] at h hc
    dsimp only at h
    split at h
    · cases hf : frun (Slip.zero, []) ws with
      | none => rw [hf] at h; cases h
      | some s =>
        obtain ⟨y, K⟩ := s
        rw [hf] at h
        dsimp only at h
        split at h
        · cases h
          exact frun_bd ws _ _ _ _ bd_zero (fun w hw => Nat.le_trans (hc w (by simp [hw])) hl) hf
        · cases h
    · cases h
theorem chk_bd {d : Dir} (h : chk d = true) : d.name.length ≤ 32 ∧ d.pool.length ≤ 32 ∧ 0 ≤ d.size ∧ d.size ≤ 1099511627776 := by
  obtain ⟨h1, h2, h3, h4⟩ := chk_name h
  exact ⟨by omega, by omega, by omega, by omega⟩
theorem put_bd {n : Nat} {x : Slip} {d : Dir} (h : Bd n x) (hc : chk d = true) : Bd (n + 1) (put x d) := by
  obtain ⟨h1, h2, h3, h4⟩ := chk_bd hc
  have up : ∀ {y : Slip}, Bd n y → Bd (n + 1) y := fun k => ⟨k.user, k.pool, k.nodes, k.wall, k.qos, k.cap, k.inn, k.out, k.after, ⟨Nat.le_succ_of_le k.make.1, k.make.2⟩, ⟨Nat.le_succ_of_le k.drop.1, k.drop.2⟩, ⟨Nat.le_succ_of_le k.use.1, k.use.2⟩⟩
  unfold put
  split
  · exact up ⟨h.user, by show d.pool.length ≤ 1000; omega, h.nodes, h.wall, h.qos, ⟨h3, h4⟩, h.inn, h.out, h.after, h.make, h.drop, h.use⟩
  split
  · exact up ⟨h.user, h.pool, h.nodes, h.wall, h.qos, h.cap, ⟨h3, h4⟩, h.out, h.after, h.make, h.drop, h.use⟩
  split
  · exact up ⟨h.user, h.pool, h.nodes, h.wall, h.qos, h.cap, h.inn, ⟨h3, h4⟩, h.after, h.make, h.drop, h.use⟩
  split
  · have k := up h
    exact ⟨k.user, k.pool, k.nodes, k.wall, k.qos, k.cap, k.inn, k.out, k.after, ⟨by show (x.make ++ [d]).length ≤ n + 1; rw [List.length_append]; have := h.make.1; simp; omega, fun e he => by
      rcases List.mem_append.1 he with he | he
      · exact h.make.2 e he
      · simp at he; subst he; exact hc⟩, k.drop, k.use⟩
  split
  · have k := up h
    exact ⟨k.user, k.pool, k.nodes, k.wall, k.qos, k.cap, k.inn, k.out, k.after, k.make, ⟨by show (x.drop ++ [d.name]).length ≤ n + 1; rw [List.length_append]; have := h.drop.1; simp; omega, fun e he => by
      rcases List.mem_append.1 he with he | he
      · exact h.drop.2 e he
      · simp at he; subst he; omega⟩, k.use⟩
  split
  · have k := up h
    exact ⟨k.user, k.pool, k.nodes, k.wall, k.qos, k.cap, k.inn, k.out, k.after, k.make, k.drop, ⟨by show (x.use ++ [d.name]).length ≤ n + 1; rw [List.length_append]; have := h.use.1; simp; omega, fun e he => by
      rcases List.mem_append.1 he with he | he
      · exact h.use.2 e he
      · simp at he; subst he; omega⟩⟩
  · exact up h
theorem bd_mono {n m : Nat} {x : Slip} (k : Bd n x) (h : n ≤ m) : Bd m x := ⟨k.user, k.pool, k.nodes, k.wall, k.qos, k.cap, k.inn, k.out, k.after, ⟨Nat.le_trans k.make.1 h, k.make.2⟩, ⟨Nat.le_trans k.drop.1 h, k.drop.2⟩, ⟨Nat.le_trans k.use.1 h, k.use.2⟩⟩

/-! ### a directive's beginning, by the document's tests -/
theorem isD_bb {y : Tx} (h : y = [35, 66, 66]) : isD y = true := by subst h; decide
theorem isD_short {y : Tx} (h : y ≠ [35, 66, 66]) (hl : y.length < 4) : ¬ isD y = true := by
  unfold isD
  rw [decide_eq_false (show ¬ y = bbW from h), Bool.false_or]
  intro hp
  have := (List.isPrefixOf_iff_prefix.1 hp).length_le
  simp at this
  omega
theorem isD_long {y : Tx} (h : y ≠ [35, 66, 66]) (hl : 4 ≤ y.length) : isD y = true ↔ y.take 4 = [35, 66, 66, 32] := by
  unfold isD
  rw [decide_eq_false (show ¬ y = bbW from h), Bool.false_or, List.isPrefixOf_iff_prefix, List.prefix_iff_eq_take]
  exact ⟨fun e => e.symm, fun e => e.symm⟩
/-! ### the lines behind the first one, as they go on -/
def LR (x0 : Slip) (ws : List Tx) (i : Nat) (x : Slip) (S : List Nat) : Prop := lrun (x0, []) 2 ws = lrun (x, S) (i + 1) (ws.drop (i - 1))
theorem lr_start (x0 : Slip) (ws : List Tx) : LR x0 ws 1 x0 [] := rfl
theorem lr_split {x0 : Slip} {ws : List Tx} {i : Nat} {x : Slip} {S : List Nat} {y : Tx} (h : LR x0 ws i x S) (hi : 1 ≤ i) (hy : ws[i - 1]? = some y) : lrun (x0, []) 2 ws = lrun (x, S) (i + 1) (y :: ws.drop i) := by
  unfold LR at h
  obtain ⟨hl, hy⟩ := List.getElem?_eq_some_iff.1 hy
  rw [h, List.drop_eq_getElem_cons hl, hy, show i - 1 + 1 = i by omega]
theorem lr_skip {x0 : Slip} {ws : List Tx} {i : Nat} {x : Slip} {S : List Nat} {y : Tx} (h : LR x0 ws i x S) (hi : 1 ≤ i) (hy : ws[i - 1]? = some y) (hd : ¬ isD y = true) : LR x0 ws (i + 1) x S := by
  unfold LR
  rw [lr_split h hi hy, lrun, if_neg hd, Nat.add_sub_cancel]
theorem lr_next {x0 : Slip} {ws : List Tx} {i : Nat} {x : Slip} {S : List Nat} {y : Tx} (h : LR x0 ws i x S) (hi : 1 ≤ i) (hy : ws[i - 1]? = some y) (hd : isD y = true) (he : lerr y = 0) {d : Dir} (hdr : ldir y = d) (hs : ¬ (d.kind ≤ 3 ∧ d.kind ∈ S)) : LR x0 ws (i + 1) (put x d) (d.kind :: S) := by
  unfold LR
  subst hdr
  rw [lr_split h hi hy, lrun, if_pos hd, if_neg (by simp [he]), if_neg hs, Nat.add_sub_cancel]
theorem lr_err {x0 : Slip} {ws : List Tx} {i : Nat} {x : Slip} {S : List Nat} {y : Tx} (h : LR x0 ws i x S) (hi : 1 ≤ i) (hy : ws[i - 1]? = some y) (hd : isD y = true) (he : lerr y ≠ 0) : lrun (x0, []) 2 ws = .error (lerr y, i + 1) := by
  rw [lr_split h hi hy, lrun, if_pos hd, if_pos he]
theorem lr_twice {x0 : Slip} {ws : List Tx} {i : Nat} {x : Slip} {S : List Nat} {y : Tx} (h : LR x0 ws i x S) (hi : 1 ≤ i) (hy : ws[i - 1]? = some y) (hd : isD y = true) (he : lerr y = 0) {d : Dir} (hdr : ldir y = d) (hs : d.kind ≤ 3 ∧ d.kind ∈ S) : lrun (x0, []) 2 ws = .error (150, i + 1) := by
  subst hdr
  rw [lr_split h hi hy, lrun, if_pos hd, if_neg (by simp [he]), if_pos hs]
theorem lr_end {x0 : Slip} {ws : List Tx} {n : Nat} {x : Slip} {S : List Nat} (h : LR x0 ws n x S) (hn : n = ws.length + 1) : lrun (x0, []) 2 ws = .ok (x, S) := by
  unfold LR at h
  rw [h, hn, Nat.add_sub_cancel, List.drop_length]
  rfl
end Go.Proofs.YtpmghgfgbkncoaaGreatDoor.sp
end
