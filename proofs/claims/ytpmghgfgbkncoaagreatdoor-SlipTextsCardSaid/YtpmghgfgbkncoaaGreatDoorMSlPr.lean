/- What the lines of a text leave, plain; how read stands ahead of a line; the round's body. -/
import Derived.Test.YtpmghgfgbkncoaaGreatDoorMSlLi
import Derived.Test.YtpmghgfgbkncoaaGreatDoorMSlH
import Derived.LoopIn
section
set_option linter.unusedVariables false
set_option linter.unusedSimpArgs false
set_option maxRecDepth 100000
namespace Go.Proofs.YtpmghgfgbkncoaaGreatDoor.sp
open Go.Proofs.YtpmghgfgbkncoaaGreatDoor.un
open Go.Proofs.YtpmghgfgbkncoaaGreatDoor.di

theorem pread_app : ∀ (a : List Tx) (x : Slip) (i : Nat) (b : List Tx), pread x i (a ++ b) = match pread x i a with
    | .ok y => pread y (i + a.length) b
    | .error e => .error e
  | [], x, i, b => rfl
  | l :: a, x, i, b => by
    have ih := fun y => pread_app a y (i + 1) b
    rw [List.cons_append, pread, pread]
    cases hp : pline x i l with
    | error e => rfl
    | ok y =>
      dsimp only
      rw [ih, List.length_cons, show i + 1 + a.length = i + (a.length + 1) by omega]
theorem pread_take {L : List Tx} {k : Nat} {l : Tx} {x : Slip} (hl : L[k]? = some l) (h : pread Slip.zero 1 (L.take k) = .ok x) : pread Slip.zero 1 (L.take (k + 1)) = pline x (k + 1) l := by
  have hk := (List.getElem?_eq_some_iff.1 hl).1
  rw [List.take_add_one, hl, pread_app, h]
  dsimp only
  rw [List.length_take, Nat.min_eq_left (Nat.le_of_lt hk), Nat.add_comm 1 k]
  show pread x (k + 1) [l] = _
  unfold pread
  cases pline x (k + 1) l with
  | error e => rfl
  | ok y => rfl
theorem pread_bad {L : List Tx} {k : Nat} {e : Int × Nat} (h : pread Slip.zero 1 (L.take k) = .error e) : pread Slip.zero 1 L = .error e := by
  rw [← List.take_append_drop k L, pread_app, h]
/-- Few more. -/
def Few (x : Slip) (k : Nat) : Prop := x.make.length ≤ k ∧ x.drop.length ≤ k ∧ x.use.length ≤ k
theorem frun_few : ∀ (ws : List Tx) (a st : Slip × List Tx), frun a ws = some st → st.1.make = a.1.make ∧ st.1.drop = a.1.drop ∧ st.1.use = a.1.use
  | [], a, st, h => by
    unfold frun at h
    cases h
    exact ⟨rfl, rfl, rfl⟩
  | w :: r, a, st, h => by
    unfold frun at h
    cases hcut : cut w with
    | none => rw [hcut] at h; cases h
    | some f =>
      rw [hcut] at h
      dsimp only at h
      split at h
      · cases h
      · cases hp : fput a.1 f with
        | none => rw [hp] at h; cases h
        | some y =>
          rw [hp] at h
          obtain ⟨i1, i2, i3⟩ := frun_few r _ st h
          rw [i1, i2, i3]
          unfold fput at hp
          split at hp
          · cases hp; exact ⟨rfl, rfl, rfl⟩
          split at hp
          · obtain ⟨n, _, rfl⟩ := Option.map_eq_some_iff.1 hp; exact ⟨rfl, rfl, rfl⟩
          split at hp
          · obtain ⟨n, _, rfl⟩ := Option.map_eq_some_iff.1 hp; exact ⟨rfl, rfl, rfl⟩
          split at hp
          · obtain ⟨n, _, rfl⟩ := Option.map_eq_some_iff.1 hp; exact ⟨rfl, rfl, rfl⟩
          split at hp
          · obtain ⟨n, _, rfl⟩ := Option.map_eq_some_iff.1 hp; exact ⟨rfl, rfl, rfl⟩
          · cases hp
theorem first_few {l : Tx} {x : Slip} (hf : first? l = some x) : Few x 0 := by
  unfold first? at hf
  cases hw : cuts 32 l with
  | nil => rw [hw] at hf; cases hf
  | cons j ws =>
    rw [hw] at hf
    dsimp only at hf
    split at hf
    · cases hr : frun (Slip.zero, []) ws with
      | none => rw [hr] at hf; cases hf
      | some st =>
        rw [hr] at hf
        dsimp only at hf
        obtain ⟨i1, i2, i3⟩ := frun_few ws _ st hr
        split at hf
        · cases hf
          unfold Few
          rw [i1, i2, i3]
          exact ⟨Nat.le_refl _, Nat.le_refl _, Nat.le_refl _⟩
        · cases hf
    · cases hf
theorem put_few (x : Slip) (d : Dir) {k : Nat} (h : Few x k) : Few (put x d) (k + 1) := by
  obtain ⟨a, b, c⟩ := h
  unfold put
  split
  · exact ⟨by show x.make.length ≤ _; omega, by show x.drop.length ≤ _; omega, by show x.use.length ≤ _; omega⟩
  split
  · exact ⟨by show x.make.length ≤ _; omega, by show x.drop.length ≤ _; omega, by show x.use.length ≤ _; omega⟩
  split
  · exact ⟨by show x.make.length ≤ _; omega, by show x.drop.length ≤ _; omega, by show x.use.length ≤ _; omega⟩
  split
  · exact ⟨by simp; omega, by show x.drop.length ≤ _; omega, by show x.use.length ≤ _; omega⟩
  split
  · exact ⟨by show x.make.length ≤ _; omega, by simp; omega, by show x.use.length ≤ _; omega⟩
  split
  · exact ⟨by show x.make.length ≤ _; omega, by show x.drop.length ≤ _; omega, by simp; omega⟩
  · exact ⟨by omega, by omega, by omega⟩
theorem pline_few {x y : Slip} {i k : Nat} {l : Tx} (h : pline x i l = .ok y) (hx : Few x k) : Few y (k + 1) := by
  have up : ∀ z : Slip, z.make = x.make → z.drop = x.drop → z.use = x.use → Few z (k + 1) := fun z h1 h2 h3 => by
    obtain ⟨a, b, c⟩ := hx
    unfold Few
    rw [h1, h2, h3]
    exact ⟨by omega, by omega, by omega⟩
  unfold pline at h
  split at h
  · cases hf : first? l with
    | none => rw [hf] at h; cases h
    | some z =>
      rw [hf] at h
      cases h
      obtain ⟨a, b, c⟩ := first_few hf
      exact ⟨by omega, by omega, by omega⟩
  split at h
  · split at h
    · cases h
    · cases hp : pput x (ldir l) with
      | none => rw [hp] at h; cases h
      | some z =>
        rw [hp] at h
        cases h
        unfold pput at hp
        split at hp
        · split at hp
          · cases hp; exact up _ rfl rfl rfl
          · cases hp
        split at hp
        · split at hp
          · cases hp; exact up _ rfl rfl rfl
          · cases hp
        split at hp
        · split at hp
          · cases hp; exact up _ rfl rfl rfl
          · cases hp
        · cases hp; exact put_few x _ hx
  · cases h
    exact up _ rfl rfl rfl
theorem pread_few : ∀ (L : List Tx) (x y : Slip) (i k : Nat), pread x i L = .ok y → Few x k → Few y (k + L.length)
  | [], x, y, i, k, h, hx => by unfold pread at h; cases h; exact hx
  | l :: L, x, y, i, k, h, hx => by
    rw [pread] at h
    cases hp : pline x i l with
    | error e => rw [hp] at h; cases h
    | ok z =>
      rw [hp] at h
      have := pread_few L z y (i + 1) (k + 1) h (pline_few hp hx)
      rw [List.length_cons, show k + (L.length + 1) = k + 1 + L.length by omega]
      exact this
end Go.Proofs.YtpmghgfgbkncoaaGreatDoor.sp
namespace Go.Proofs.YtpmghgfgbkncoaaGreatDoor.gn
open Go.RowKit Go.Shelf
open Go.Proofs.YtpmghgfgbkncoaaGreatDoor.un
open Go.Proofs.YtpmghgfgbkncoaaGreatDoor.di
open Go.Proofs.YtpmghgfgbkncoaaGreatDoor.sp (Slip cuts cutB isD first? pput pline pread chkS sread fldB fldB_len cuts_ne pread_take pread_bad pread_few Few cuts_mem_len cuts_len)

attribute [local go_sem] Oper.semAt_some

/-- How read stands ahead of line k (from 0 on): the result's box B0, the reader R, the pointer's box PB. -/
structure RdI (w : World) (L : List Tx) (B0 R PB : Nat) (k : Nat) (W : World) : Prop where
  st : ∃ x g, Rdr W R x (k : Int) g ∧ ¬ Mr R g PB ∧ pread Slip.zero 1 (L.take k) = .ok x
  p : BoxA W PB 65 #[.pointer (some ⟨R, 0, none⟩)]
  low : ∃ W0, Below w.heap.size w W0 ∧ Below R W0 W ∧ R ≤ W0.heap.size ∧ B0 < R ∧ w.heap.size ≤ B0 ∧ BoxA W0 B0 27 (scs Slip.zero ⟨.slice none 0 0, .slice none 0 0, .slice none 0 0, .slice none 0 0⟩)
  laid : LaidB R W
  pb : R < PB
theorem cells_ne {W : World} {l : Nat} {o o' : Obj} (h : W.heap[l]? = some o) (ho : o.isCells = false) {b : Nat} {u : Obj} (hb : W.heap[b]? = some u) (hu : u.isCells = true) : (W.putObj l o').heap[b]? = W.heap[b]? :=
  World.putObj_heap_other (fun e => by subst e; rw [h] at hb; cases hb; rw [ho] at hu; cases hu)
end Go.Proofs.YtpmghgfgbkncoaaGreatDoor.gn
end
section
set_option linter.unusedVariables false
namespace Go.Proofs.YtpmghgfgbkncoaaGreatDoor.sp
open Go.Proofs.YtpmghgfgbkncoaaGreatDoor.un
open Go.Proofs.YtpmghgfgbkncoaaGreatDoor.di

/-- Bounds of what is read. -/
structure Sm (x : Slip) : Prop where
  user : x.user.length ≤ 20000
  pool : x.pool.length ≤ 20000
  nodes : 0 ≤ x.nodes ∧ x.nodes ≤ 1099511627776
  wall : 0 ≤ x.wall ∧ x.wall ≤ 1099511627776
  qos : 0 ≤ x.qos ∧ x.qos ≤ 1099511627776
  cap : 0 ≤ x.cap ∧ x.cap ≤ 1099511627776
  inn : 0 ≤ x.inn ∧ x.inn ≤ 1099511627776
  out : 0 ≤ x.out ∧ x.out ≤ 1099511627776
  after : ∀ d ∈ x.after, 0 ≤ d.1 ∧ d.1 ≤ 1099511627776
  make : ∀ d ∈ x.make, chk d = true
  drop : ∀ n ∈ x.drop, n.length ≤ 20000
  use : ∀ n ∈ x.use, n.length ≤ 20000
theorem sm_zero : Sm Slip.zero := by
  refine ⟨by decide, by decide, ⟨by decide, by decide⟩, ⟨by decide, by decide⟩, ⟨by decide, by decide⟩, ⟨by decide, by decide⟩, ⟨by decide, by decide⟩, ⟨by decide, by decide⟩, fun d hd => ?_, fun d hd => ?_, fun d hd => ?_, fun d hd => ?_⟩ <;> cases hd
theorem within_le {v : Tx} {a b n : Nat} (h : within? v a b = some n) : a ≤ n ∧ n ≤ b := by
  unfold within? at h
  cases hn : num? v with
  | none => rw [hn] at h; cases h
  | some m =>
    rw [hn] at h
    dsimp only at h
    split at h
    · next h2 => cases h; exact h2
    · cases h
theorem dep_le {p : Tx} {d : Int × Bool} (h : dep? p = some d) : 0 ≤ d.1 ∧ d.1 ≤ 1099511627776 := by
  unfold dep? at h
  cases hc : cutB 58 p with
  | none => rw [hc] at h; cases h
  | some f =>
    rw [hc] at h
    dsimp only at h
    cases hw : within? f.2 1 1073741824 with
    | none => rw [hw] at h; cases h
    | some n =>
      rw [hw] at h
      dsimp only at h
      have := within_le hw
      split at h
      · cases h; dsimp only; omega
      · cases h
theorem deps_le : ∀ (L : List Tx) (l : List (Int × Bool)), L.mapM dep? = some l → ∀ d ∈ l, 0 ≤ d.1 ∧ d.1 ≤ 1099511627776
  | [], l, h, d, hd => by simp at h; subst h; cases hd
  | p :: L, l, h, d, hd => by
    rw [List.mapM_cons] at h
    cases hp : dep? p with
    | none => rw [hp] at h; cases h
    | some e =>
      rw [hp] at h
      cases hr : L.mapM dep? with
      | none => rw [hr] at h; cases h
      | some r =>
        rw [hr] at h
        simp at h
        subst h
        rcases List.mem_cons.1 hd with rfl | hd
        · exact dep_le hp
        · exact deps_le L r hr d hd
theorem fput_sm {x y : Slip} {f : Fl} (hf : f.2.length ≤ 20000) (h : fput x f = some y) (hx : Sm x) : Sm y := by
  unfold fput at h
  split at h
  · cases h; exact ⟨hf, hx.pool, hx.nodes, hx.wall, hx.qos, hx.cap, hx.inn, hx.out, hx.after, hx.make, hx.drop, hx.use⟩
  split at h
  · cases hw : within? f.2 1 64 with
    | none => rw [hw] at h; cases h
    | some n =>
    rw [hw] at h
    cases h
    have := within_le hw
    exact ⟨hx.user, hx.pool, by dsimp only; omega, hx.wall, hx.qos, hx.cap, hx.inn, hx.out, hx.after, hx.make, hx.drop, hx.use⟩
  split at h
  · cases hw : within? f.2 1 1048576 with
    | none => rw [hw] at h; cases h
    | some n =>
    rw [hw] at h
    cases h
    have := within_le hw
    exact ⟨hx.user, hx.pool, hx.nodes, by dsimp only; omega, hx.qos, hx.cap, hx.inn, hx.out, hx.after, hx.make, hx.drop, hx.use⟩
  split at h
  · cases hw : within? f.2 0 9 with
    | none => rw [hw] at h; cases h
    | some n =>
    rw [hw] at h
    cases h
    have := within_le hw
    exact ⟨hx.user, hx.pool, hx.nodes, hx.wall, by dsimp only; omega, hx.cap, hx.inn, hx.out, hx.after, hx.make, hx.drop, hx.use⟩
  split at h
  · obtain ⟨l, hl, rfl⟩ := Option.map_eq_some_iff.1 h
    exact ⟨hx.user, hx.pool, hx.nodes, hx.wall, hx.qos, hx.cap, hx.inn, hx.out, deps_le _ _ hl, hx.make, hx.drop, hx.use⟩
  · cases h
theorem cut_len {w : Tx} {f : Fl} (h : cut w = some f) : f.2.length ≤ w.length := by
  rw [cut_B] at h
  have := fldB_len 61 w
  unfold fldB at this
  rw [h] at this
  exact this.2
theorem frun_sm : ∀ (ws : List Tx) (a st : Slip × List Tx), (∀ w ∈ ws, w.length ≤ 20000) → frun a ws = some st → Sm a.1 → Sm st.1
  | [], a, st, _, h, hx => by unfold frun at h; cases h; exact hx
  | w :: r, a, st, hw, h, hx => by
    unfold frun at h
    cases hcut : cut w with
    | none => rw [hcut] at h; cases h
    | some f =>
      rw [hcut] at h
      dsimp only at h
      split at h
      · cases h
      · cases hp : fput a.1 f with
        | none => rw [hp] at h; cases h
        | some y =>
          rw [hp] at h
          exact frun_sm r _ st (fun z hz => hw z (by simp [hz])) h (fput_sm (Nat.le_trans (cut_len hcut) (hw w (by simp))) hp hx)
theorem first_sm {l : Tx} {x : Slip} (hl : l.length ≤ 20000) (hf : first? l = some x) : Sm x := by
  have hm := cuts_mem_len 32 l
  unfold first? at hf
  cases hw : cuts 32 l with
  | nil => rw [hw] at hf; cases hf
  | cons j ws =>
    rw [hw] at hf hm
    dsimp only at hf
    split at hf
    · cases hr : frun (Slip.zero, []) ws with
      | none => rw [hr] at hf; cases hf
      | some st =>
        rw [hr] at hf
        dsimp only at hf
        have := frun_sm ws _ st (fun w hw => Nat.le_trans (hm w (by simp [hw])) hl) hr sm_zero
        split at hf
        · cases hf; exact this
        · cases hf
    · cases hf
theorem chk_name {d : Dir} (h : chk d = true) : d.name.length ≤ 32 ∧ d.pool.length ≤ 32 ∧ (0 ≤ d.size ∧ d.size ≤ 1099511627776) ∧ d.kind ≤ 6 := by
  obtain ⟨c0, c1, cz, c2, c3, c4, c5, c6⟩ := (chk_iff d).1 h
  refine ⟨?_, ?_, cz, c0.2⟩
  · rcases c3 with e | e
    · exact name_len (c2.1 e)
    · rw [e]; decide
  · rcases c5 with e | e
    · exact name_len (c4.1 e)
    · rw [e]; decide
theorem pput_sm {x y : Slip} {d : Dir} (hd : chk d = true) (h : pput x d = some y) (hx : Sm x) : Sm y := by
  obtain ⟨n1, n2, n3, n4⟩ := chk_name hd
  unfold pput at h
  split at h
  · split at h
    · cases h; exact ⟨hx.user, by dsimp only; omega, hx.nodes, hx.wall, hx.qos, n3, hx.inn, hx.out, hx.after, hx.make, hx.drop, hx.use⟩
    · cases h
  split at h
  · split at h
    · cases h; exact ⟨hx.user, hx.pool, hx.nodes, hx.wall, hx.qos, hx.cap, n3, hx.out, hx.after, hx.make, hx.drop, hx.use⟩
    · cases h
  split at h
  · split at h
    · cases h; exact ⟨hx.user, hx.pool, hx.nodes, hx.wall, hx.qos, hx.cap, hx.inn, n3, hx.after, hx.make, hx.drop, hx.use⟩
    · cases h
  · next h1 h2 h3 =>
    cases h
    unfold put
    rw [if_neg h1, if_neg h2, if_neg h3]
    split
    · exact ⟨hx.user, hx.pool, hx.nodes, hx.wall, hx.qos, hx.cap, hx.inn, hx.out, hx.after, fun e he => by
        rcases List.mem_append.1 he with he | he
        · exact hx.make e he
        · simp at he; subst he; exact hd, hx.drop, hx.use⟩
    split
    · exact ⟨hx.user, hx.pool, hx.nodes, hx.wall, hx.qos, hx.cap, hx.inn, hx.out, hx.after, hx.make, fun e he => by
        rcases List.mem_append.1 he with he | he
        · exact hx.drop e he
        · simp at he; subst he; omega, hx.use⟩
    split
    · exact ⟨hx.user, hx.pool, hx.nodes, hx.wall, hx.qos, hx.cap, hx.inn, hx.out, hx.after, hx.make, hx.drop, fun e he => by
        rcases List.mem_append.1 he with he | he
        · exact hx.use e he
        · simp at he; subst he; omega⟩
    · exact hx
theorem pline_sm {x y : Slip} {i : Nat} {l : Tx} (hl : l.length ≤ 20000) (h : pline x i l = .ok y) (hx : Sm x) : Sm y := by
  unfold pline at h
  split at h
  · cases hf : first? l with
    | none => rw [hf] at h; cases h
    | some z => rw [hf] at h; cases h; exact first_sm hl hf
  split at h
  · split at h
    · cases h
    · next he =>
      cases hp : pput x (ldir l) with
      | none => rw [hp] at h; cases h
      | some z =>
        rw [hp] at h
        cases h
        exact pput_sm (ldir_chk (Decidable.not_not.1 he)) hp hx
  · cases h; exact hx
theorem pread_sm : ∀ (L : List Tx) (x y : Slip) (i : Nat), (∀ l ∈ L, l.length ≤ 20000) → pread x i L = .ok y → Sm x → Sm y
  | [], x, y, i, _, h, hx => by unfold pread at h; cases h; exact hx
  | l :: L, x, y, i, hL, h, hx => by
    rw [pread] at h
    cases hp : pline x i l with
    | error e => rw [hp] at h; cases h
    | ok z =>
      rw [hp] at h
      exact pread_sm L z y (i + 1) (fun m hm => hL m (by simp [hm])) h (pline_sm (hL l (by simp)) hp hx)
end Go.Proofs.YtpmghgfgbkncoaaGreatDoor.sp
namespace Go.Proofs.YtpmghgfgbkncoaaGreatDoor.gn
open Go.Proofs.YtpmghgfgbkncoaaGreatDoor.di
open Go.Proofs.YtpmghgfgbkncoaaGreatDoor.sp (Slip Sm chk_name)
theorem sw_sm {x : Slip} (h : Sm x) : SW x :=
  ⟨by have := h.user; omega, by have := h.pool; omega, by have := h.nodes; omega, by have := h.wall; omega, by have := h.qos; omega, by have := h.cap; omega, by have := h.inn; omega, by have := h.out; omega,
    fun d hd => by have := h.after d hd; omega, fun d hd => by
      obtain ⟨a, b, c, e⟩ := chk_name (h.make d hd)
      exact ⟨by omega, by omega, by omega, by omega, by omega⟩, fun n hn => by have := h.drop n hn; omega, fun n hn => by have := h.use n hn; omega⟩
end Go.Proofs.YtpmghgfgbkncoaaGreatDoor.gn
end
