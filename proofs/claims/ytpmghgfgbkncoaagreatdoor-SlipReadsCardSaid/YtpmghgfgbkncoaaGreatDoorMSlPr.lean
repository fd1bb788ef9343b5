/- What the lines of a text leave, plain; how read stands ahead of a line; the round's body. -/
import Derived.Test.YtpmghgfgbkncoaaGreatDoorMSlLi
import Derived.Test.YtpmghgfgbkncoaaGreatDoorMSlCk
import Derived.LoopIn
import Derived.Test.YtpmghgfgbkncoaaGreatDoorGenPn
import Derived.Deep.Onto
import Derived.Test.YtpmghgfgbkncoaaGreatDoorMDiK
import Derived.Test.YtpmghgfgbkncoaaGreatDoorMUnG
import Derived.WalkKit
import Derived.ProofKit
import Derived.OpenShut
import Derived.Test.YtpmghgfgbkncoaaGreatDoorMSlD
import Derived.Deep.Slices
section
set_option linter.unusedVariables false
set_option linter.unusedSimpArgs false
set_option maxRecDepth 100000
namespace Go.Proofs.YtpmghgfgbkncoaaGreatDoor.sp
open Go.Proofs.YtpmghgfgbkncoaaGreatDoor.un
open Go.Proofs.YtpmghgfgbkncoaaGreatDoor.di

theorem pread_app : ∀ (a : List Tx) (x : Slip) (i : Nat) (b : List Tx), pread x i (a ++ b) = match pread x i a with
    | .ok y => pread y (i + a.length) b
    | .error e => .error e
  | [], x, i, b => rfl
  | l :: a, x, i, b => by
    have ih := fun y => pread_app a y (i + 1) b
    rw [List.cons_append, pread, pread]
    cases hp : pline x i l with
    | error e => rfl
    | ok y =>
      dsimp only
      rw [ih, List.length_cons, show i + 1 + a.length = i + (a.length + 1) by omega]
theorem pread_take {L : List Tx} {k : Nat} {l : Tx} {x : Slip} (hl : L[k]? = some l) (h : pread Slip.zero 1 (L.take k) = .ok x) : pread Slip.zero 1 (L.take (k + 1)) = pline x (k + 1) l := by
  have hk := (List.getElem?_eq_some_iff.1 hl).1
  rw [List.take_add_one, hl, pread_app, h]
  dsimp only
  rw [List.length_take, Nat.min_eq_left (Nat.le_of_lt hk), Nat.add_comm 1 k]
  show pread x (k + 1) [l] = _
  unfold pread
  cases pline x (k + 1) l with
  | error e => rfl
  | ok y => rfl
theorem pread_bad {L : List Tx} {k : Nat} {e : Int × Nat} (h : pread Slip.zero 1 (L.take k) = .error e) : pread Slip.zero 1 L = .error e := by
  rw [← List.take_append_drop k L, pread_app, h]
/-- Few more. -/
def Few (x : Slip) (k : Nat) : Prop := x.make.length ≤ k ∧ x.drop.length ≤ k ∧ x.use.length ≤ k
theorem frun_few : ∀ (ws : List Tx) (a st : Slip × List Tx), frun a ws = some st → st.1.make = a.1.make ∧ st.1.drop = a.1.drop ∧ st.1.use = a.1.use
  | [], a, st, h => by
    unfold frun at h
    cases h
    exact ⟨rfl, rfl, rfl⟩
  | w :: r, a, st, h => by
    unfold frun at h
    cases hcut : cut w with
    | none => rw [hcut] at h; cases h
    | some f =>
      rw [hcut] at h
      dsimp only at h
      split at h
      · cases h
      · cases hp : fput a.1 f with
        | none => rw [hp] at h; cases h
        | some y =>
          rw [hp] at h
          obtain ⟨i1, i2, i3⟩ := frun_few r _ st h
          rw [i1, i2, i3]
          unfold fput at hp
          split at hp
          · cases hp; exact ⟨rfl, rfl, rfl⟩
          split at hp
          · obtain ⟨n, _, rfl⟩ := Option.map_eq_some_iff.1 hp; exact ⟨rfl, rfl, rfl⟩
          split at hp
          · obtain ⟨n, _, rfl⟩ := Option.map_eq_some_iff.1 hp; exact ⟨rfl, rfl, rfl⟩
          split at hp
          · obtain ⟨n, _, rfl⟩ := Option.map_eq_some_iff.1 hp; exact ⟨rfl, rfl, rfl⟩
          split at hp
          · obtain ⟨n, _, rfl⟩ := Option.map_eq_some_iff.1 hp; exact ⟨rfl, rfl, rfl⟩
          · cases hp
theorem first_few {l : Tx} {x : Slip} (hf : first? l = some x) : Few x 0 := by
  unfold first? at hf
  cases hw : cuts 32 l with
  | nil => rw [hw] at hf; cases hf
  | cons j ws =>
    rw [hw] at hf
    dsimp only at hf
    split at hf
    · cases hr : frun (Slip.zero, []) ws with
      | none => rw [hr] at hf; cases hf
      | some st =>
        rw [hr] at hf
        dsimp only at hf
        obtain ⟨i1, i2, i3⟩ := frun_few ws _ st hr
        split at hf
        · cases hf
          unfold Few
          rw [i1, i2, i3]
          exact ⟨Nat.le_refl _, Nat.le_refl _, Nat.le_refl _⟩
        · cases hf
    · cases hf
theorem put_few (x : Slip) (d : Dir) {k : Nat} (h : Few x k) : Few (put x d) (k + 1) := by
  obtain ⟨a, b, c⟩ := h
  unfold put
  split
  · exact ⟨by show x.make.length ≤ _; omega, by show x.drop.length ≤ _; omega, by show x.use.length ≤ _; omega⟩
  split
  · exact ⟨by show x.make.length ≤ _; omega, by show x.drop.length ≤ _; omega, by show x.use.length ≤ _; omega⟩
  split
  · exact ⟨by show x.make.length ≤ _; omega, by show x.drop.length ≤ _; omega, by show x.use.length ≤ _; omega⟩
  split
  · exact ⟨by simp; omega, by show x.drop.length ≤ _; omega, by show x.use.length ≤ _; omega⟩
  split
  · exact ⟨by show x.make.length ≤ _; omega, by simp; omega, by show x.use.length ≤ _; omega⟩
  split
  · exact ⟨by show x.make.length ≤ _; omega, by show x.drop.length ≤ _; omega, by simp; omega⟩
  · exact ⟨by omega, by omega, by omega⟩
theorem pline_few {x y : Slip} {i k : Nat} {l : Tx} (h : pline x i l = .ok y) (hx : Few x k) : Few y (k + 1) := by
  have up : ∀ z : Slip, z.make = x.make → z.drop = x.drop → z.use = x.use → Few z (k + 1) := fun z h1 h2 h3 => by
    obtain ⟨a, b, c⟩ := hx
    unfold Few
    rw [h1, h2, h3]
    exact ⟨by omega, by omega, by omega⟩
  unfold pline at h
  split at h
  · cases hf : first? l with
    | none => rw [hf] at h; cases h
    | some z =>
      rw [hf] at h
      cases h
      obtain ⟨a, b, c⟩ := first_few hf
      exact ⟨by omega, by omega, by omega⟩
  split at h
  · split at h
    · cases h
    · cases hp : pput x (ldir l) with
      | none => rw [hp] at h; cases h
      | some z =>
        rw [hp] at h
        cases h
        unfold pput at hp
        split at hp
        · split at hp
          · cases hp; exact up _ rfl rfl rfl
          · cases hp
        split at hp
        · split at hp
          · cases hp; exact up _ rfl rfl rfl
          · cases hp
        split at hp
        · split at hp
          · cases hp; exact up _ rfl rfl rfl
          · cases hp
        · cases hp; exact put_few x _ hx
  · cases h
    exact up _ rfl rfl rfl
theorem pread_few : ∀ (L : List Tx) (x y : Slip) (i k : Nat), pread x i L = .ok y → Few x k → Few y (k + L.length)
  | [], x, y, i, k, h, hx => by unfold pread at h; cases h; exact hx
  | l :: L, x, y, i, k, h, hx => by
    rw [pread] at h
    cases hp : pline x i l with
    | error e => rw [hp] at h; cases h
    | ok z =>
      rw [hp] at h
      have := pread_few L z y (i + 1) (k + 1) h (pline_few hp hx)
      rw [List.length_cons, show k + (L.length + 1) = k + 1 + L.length by omega]
      exact this
end Go.Proofs.YtpmghgfgbkncoaaGreatDoor.sp
namespace Go.Proofs.YtpmghgfgbkncoaaGreatDoor.gn
open Go.RowKit Go.Shelf
open Go.Proofs.YtpmghgfgbkncoaaGreatDoor.un
open Go.Proofs.YtpmghgfgbkncoaaGreatDoor.di
open Go.Proofs.YtpmghgfgbkncoaaGreatDoor.sp (Slip cuts cutB isD first? pput pline pread chkS sread fldB fldB_len cuts_ne pread_take pread_bad pread_few Few cuts_mem_len cuts_len)

attribute [local go_sem] Oper.semAt_some

/-- How read stands ahead of line k (from 0 on): the result's box B0, the reader R, the pointer's box PB. -/
structure RdI (w : World) (L : List Tx) (B0 R PB : Nat) (k : Nat) (W : World) : Prop where
  st : ∃ x g, Rdr W R x (k : Int) g ∧ ¬ Mr R g PB ∧ pread Slip.zero 1 (L.take k) = .ok x
  p : BoxA W PB 65 #[.pointer (some ⟨R, 0, none⟩)]
  low : ∃ W0, Below w.heap.size w W0 ∧ Below R W0 W ∧ R ≤ W0.heap.size ∧ B0 < R ∧ w.heap.size ≤ B0 ∧ BoxA W0 B0 27 (scs Slip.zero ⟨.slice none 0 0, .slice none 0 0, .slice none 0 0, .slice none 0 0⟩)
  laid : LaidB R W
  pb : R < PB
theorem cells_ne {W : World} {l : Nat} {o o' : Obj} (h : W.heap[l]? = some o) (ho : o.isCells = false) {b : Nat} {u : Obj} (hb : W.heap[b]? = some u) (hu : u.isCells = true) : (W.putObj l o').heap[b]? = W.heap[b]? :=
  World.putObj_heap_other (fun e => by subst e; rw [h] at hb; cases hb; rw [ho] at hu; cases hu)
end Go.Proofs.YtpmghgfgbkncoaaGreatDoor.gn
end
section
set_option linter.unusedVariables false
namespace Go.Proofs.YtpmghgfgbkncoaaGreatDoor.sp
open Go.Proofs.YtpmghgfgbkncoaaGreatDoor.un
open Go.Proofs.YtpmghgfgbkncoaaGreatDoor.di

/-- Bounds of what is read. -/
structure Sm (x : Slip) : Prop where
  user : x.user.length ≤ 20000
  pool : x.pool.length ≤ 20000
  nodes : 0 ≤ x.nodes ∧ x.nodes ≤ 1099511627776
  wall : 0 ≤ x.wall ∧ x.wall ≤ 1099511627776
  qos : 0 ≤ x.qos ∧ x.qos ≤ 1099511627776
  cap : 0 ≤ x.cap ∧ x.cap ≤ 1099511627776
  inn : 0 ≤ x.inn ∧ x.inn ≤ 1099511627776
  out : 0 ≤ x.out ∧ x.out ≤ 1099511627776
  after : ∀ d ∈ x.after, 0 ≤ d.1 ∧ d.1 ≤ 1099511627776
  make : ∀ d ∈ x.make, chk d = true
  drop : ∀ n ∈ x.drop, n.length ≤ 20000
  use : ∀ n ∈ x.use, n.length ≤ 20000
theorem sm_zero : Sm Slip.zero := by
  refine ⟨by decide, by decide, ⟨by decide, by decide⟩, ⟨by decide, by decide⟩, ⟨by decide, by decide⟩, ⟨by decide, by decide⟩, ⟨by decide, by decide⟩, ⟨by decide, by decide⟩, fun d hd => ?_, fun d hd => ?_, fun d hd => ?_, fun d hd => ?_⟩ <;> cases hd
theorem within_le {v : Tx} {a b n : Nat} (h : within? v a b = some n) : a ≤ n ∧ n ≤ b := by
  unfold within? at h
  cases hn : num? v with
  | none => rw [hn] at h; cases h
  | some m =>
    rw [hn] at h
    dsimp only at h
    split at h
    · next h2 => cases h; exact h2
    · cases h
theorem dep_le {p : Tx} {d : Int × Bool} (h : dep? p = some d) : 0 ≤ d.1 ∧ d.1 ≤ 1099511627776 := by
  unfold dep? at h
  cases hc : cutB 58 p with
  | none => rw [hc] at h; cases h
  | some f =>
    rw [hc] at h
    dsimp only at h
    cases hw : within? f.2 1 1073741824 with
    | none => rw [hw] at h; cases h
    | some n =>
      rw [hw] at h
      dsimp only at h
      have := within_le hw
      split at h
      · cases h; dsimp only; omega
      · cases h
theorem deps_le : ∀ (L : List Tx) (l : List (Int × Bool)), L.mapM dep? = some l → ∀ d ∈ l, 0 ≤ d.1 ∧ d.1 ≤ 1099511627776
  | [], l, h, d, hd => by simp at h; subst h; cases hd
  | p :: L, l, h, d, hd => by
    rw [List.mapM_cons] at h
    cases hp : dep? p with
    | none => rw [hp] at h; cases h
    | some e =>
      rw [hp] at h
      cases hr : L.mapM dep? with
      | none => rw [hr] at h; cases h
      | some r =>
        rw [hr] at h
        simp at h
        subst h
        rcases List.mem_cons.1 hd with rfl | hd
        · exact dep_le hp
        · exact deps_le L r hr d hd
theorem fput_sm {x y : Slip} {f : Fl} (hf : f.2.length ≤ 20000) (h : fput x f = some y) (hx : Sm x) : Sm y := by
  unfold fput at h
  split at h
  · cases h; exact ⟨hf, hx.pool, hx.nodes, hx.wall, hx.qos, hx.cap, hx.inn, hx.out, hx.after, hx.make, hx.drop, hx.use⟩
  split at h
  · cases hw : within? f.2 1 64 with
    | none => rw [hw] at h; cases h
    | some n =>
    rw [hw] at h
    cases h
    have := within_le hw
    exact ⟨hx.user, hx.pool, by dsimp only; omega, hx.wall, hx.qos, hx.cap, hx.inn, hx.out, hx.after, hx.make, hx.drop, hx.use⟩
  split at h
  · cases hw : within? f.2 1 1048576 with
    | none => rw [hw] at h; cases h
    | some n =>
    rw [hw] at h
    cases h
    have := within_le hw
    exact ⟨hx.user, hx.pool, hx.nodes, by dsimp only; omega, hx.qos, hx.cap, hx.inn, hx.out, hx.after, hx.make, hx.drop, hx.use⟩
  split at h
  · cases hw : within? f.2 0 9 with
    | none => rw [hw] at h; cases h
    | some n =>
    rw [hw] at h
    cases h
    have := within_le hw
    exact ⟨hx.user, hx.pool, hx.nodes, hx.wall, by dsimp only; omega, hx.cap, hx.inn, hx.out, hx.after, hx.make, hx.drop, hx.use⟩
  split at h
  · obtain ⟨l, hl, rfl⟩ := Option.map_eq_some_iff.1 h
    exact ⟨hx.user, hx.pool, hx.nodes, hx.wall, hx.qos, hx.cap, hx.inn, hx.out, deps_le _ _ hl, hx.make, hx.drop, hx.use⟩
  · cases h
theorem cut_len {w : Tx} {f : Fl} (h : cut w = some f) : f.2.length ≤ w.length := by
  rw [cut_B] at h
  have := fldB_len 61 w
  unfold fldB at this
  rw [h] at this
  exact this.2
theorem frun_sm : ∀ (ws : List Tx) (a st : Slip × List Tx), (∀ w ∈ ws, w.length ≤ 20000) → frun a ws = some st → Sm a.1 → Sm st.1
  | [], a, st, _, h, hx => by unfold frun at h; cases h; exact hx
  | w :: r, a, st, hw, h, hx => by
    unfold frun at h
    cases hcut : cut w with
    | none => rw [hcut] at h; cases h
    | some f =>
      rw [hcut] at h
      dsimp only at h
      split at h
      · cases h
      · cases hp : fput a.1 f with
        | none => rw [hp] at h; cases h
        | some y =>
          rw [hp] at h
          exact frun_sm r _ st (fun z hz => hw z (by simp [hz])) h (fput_sm (Nat.le_trans (cut_len hcut) (hw w (by simp))) hp hx)
theorem first_sm {l : Tx} {x : Slip} (hl : l.length ≤ 20000) (hf : first? l = some x) : Sm x := by
  have hm := cuts_mem_len 32 l
  unfold first? at hf
  cases hw : cuts 32 l with
  | nil => rw [hw] at hf; cases hf
  | cons j ws =>
    rw [hw] at hf hm
    dsimp only at hf
    split at hf
    · cases hr : frun (Slip.zero, []) ws with
      | none => rw [hr] at hf; cases hf
      | some st =>
        rw [hr] at hf
        dsimp only at hf
        have := frun_sm ws _ st (fun w hw => Nat.le_trans (hm w (by simp [hw])) hl) hr sm_zero
        split at hf
        · cases hf; exact this
        · cases hf
    · cases hf
theorem chk_name {d : Dir} (h : chk d = true) : d.name.length ≤ 32 ∧ d.pool.length ≤ 32 ∧ (0 ≤ d.size ∧ d.size ≤ 1099511627776) ∧ d.kind ≤ 6 := by
  obtain ⟨c0, c1, cz, c2, c3, c4, c5, c6⟩ := (chk_iff d).1 h
  refine ⟨?_, ?_, cz, c0.2⟩
  · rcases c3 with e | e
    · exact name_len (c2.1 e)
    · rw [e]; decide
  · rcases c5 with e | e
    · exact name_len (c4.1 e)
    · rw [e]; decide
theorem pput_sm {x y : Slip} {d : Dir} (hd : chk d = true) (h : pput x d = some y) (hx : Sm x) : Sm y := by
  obtain ⟨n1, n2, n3, n4⟩ := chk_name hd
  unfold pput at h
  split at h
  · split at h
    · cases h; exact ⟨hx.user, by dsimp only; omega, hx.nodes, hx.wall, hx.qos, n3, hx.inn, hx.out, hx.after, hx.make, hx.drop, hx.use⟩
    · cases h
  split at h
  · split at h
    · cases h; exact ⟨hx.user, hx.pool, hx.nodes, hx.wall, hx.qos, hx.cap, n3, hx.out, hx.after, hx.make, hx.drop, hx.use⟩
    · cases h
  split at h
  · split at h
    · cases h; exact ⟨hx.user, hx.pool, hx.nodes, hx.wall, hx.qos, hx.cap, hx.inn, n3, hx.after, hx.make, hx.drop, hx.use⟩
    · cases h
  · next h1 h2 h3 =>
    cases h
    unfold put
    rw [if_neg h1, if_neg h2, if_neg h3]
    split
    · exact ⟨hx.user, hx.pool, hx.nodes, hx.wall, hx.qos, hx.cap, hx.inn, hx.out, hx.after, fun e he => by
        rcases List.mem_append.1 he with he | he
        · exact hx.make e he
        · simp at he; subst he; exact hd, hx.drop, hx.use⟩
    split
    · exact ⟨hx.user, hx.pool, hx.nodes, hx.wall, hx.qos, hx.cap, hx.inn, hx.out, hx.after, hx.make, fun e he => by
        rcases List.mem_append.1 he with he | he
        · exact hx.drop e he
        · simp at he; subst he; omega, hx.use⟩
    split
    · exact ⟨hx.user, hx.pool, hx.nodes, hx.wall, hx.qos, hx.cap, hx.inn, hx.out, hx.after, hx.make, hx.drop, fun e he => by
        rcases List.mem_append.1 he with he | he
        · exact hx.use e he
        · simp at he; subst he; omega⟩
    · exact hx
theorem pline_sm {x y : Slip} {i : Nat} {l : Tx} (hl : l.length ≤ 20000) (h : pline x i l = .ok y) (hx : Sm x) : Sm y := by
  unfold pline at h
  split at h
  · cases hf : first? l with
    | none => rw [hf] at h; cases h
    | some z => rw [hf] at h; cases h; exact first_sm hl hf
  split at h
  · split at h
    · cases h
    · next he =>
      cases hp : pput x (ldir l) with
      | none => rw [hp] at h; cases h
      | some z =>
        rw [hp] at h
        cases h
        exact pput_sm (ldir_chk (Decidable.not_not.1 he)) hp hx
  · cases h; exact hx
theorem pread_sm : ∀ (L : List Tx) (x y : Slip) (i : Nat), (∀ l ∈ L, l.length ≤ 20000) → pread x i L = .ok y → Sm x → Sm y
  | [], x, y, i, _, h, hx => by unfold pread at h; cases h; exact hx
  | l :: L, x, y, i, hL, h, hx => by
    rw [pread] at h
    cases hp : pline x i l with
    | error e => rw [hp] at h; cases h
    | ok z =>
      rw [hp] at h
      exact pread_sm L z y (i + 1) (fun m hm => hL m (by simp [hm])) h (pline_sm (hL l (by simp)) hp hx)
end Go.Proofs.YtpmghgfgbkncoaaGreatDoor.sp
namespace Go.Proofs.YtpmghgfgbkncoaaGreatDoor.gn
open Go.Proofs.YtpmghgfgbkncoaaGreatDoor.di
open Go.Proofs.YtpmghgfgbkncoaaGreatDoor.sp (Slip Sm chk_name)
theorem sw_sm {x : Slip} (h : Sm x) : SW x :=
  ⟨by have := h.user; omega, by have := h.pool; omega, by have := h.nodes; omega, by have := h.wall; omega, by have := h.qos; omega, by have := h.cap; omega, by have := h.inn; omega, by have := h.out; omega,
    fun d hd => by have := h.after d hd; omega, fun d hd => by
      obtain ⟨a, b, c, e⟩ := chk_name (h.make d hd)
      exact ⟨by omega, by omega, by omega, by omega, by omega⟩, fun n hn => by have := h.drop n hn; omega, fun n hn => by have := h.use n hn; omega⟩
end Go.Proofs.YtpmghgfgbkncoaaGreatDoor.gn
end
section
set_option linter.unusedVariables false
set_option linter.unusedSimpArgs false
set_option maxRecDepth 100000
namespace Go.Proofs.YtpmghgfgbkncoaaGreatDoor.gn
open Go.RowKit Go.Shelf
open Go.Proofs.YtpmghgfgbkncoaaGreatDoor.un
open Go.Proofs.YtpmghgfgbkncoaaGreatDoor.di
open Go.Proofs.YtpmghgfgbkncoaaGreatDoor.sp (Slip cuts cutB isD first? pput pline pread chkS sread fldB fldB_len cuts_ne pread_take pread_bad pread_few Few cuts_mem_len cuts_len)

attribute [local go_sem] Oper.semAt_some

theorem lines_any (s : Tx) (w : World) : Calls Tryz.prog 37 #[.string (str s)] w fun e w' => e = .returned (.func (.func 63) #[] #[.pointer (some ⟨w.heap.size, 0, none⟩)]) ∧ w' = w.alloc (.cells #[.string (str s)] 9) := by
  go_enter Tryz.func37, Tryz.ntmps37
  go_wp2
  go_ret
  exact ⟨rfl, rfl⟩
theorem RdI.next {w : World} {L : List Tx} {B0 R PB k : Nat} {W W' : World} (h : RdI w L B0 R PB k W) (hb : Below W.heap.size W W') : RdI w L B0 R PB k W' := by
  obtain ⟨⟨x, g, h1, h2, h3⟩, hp, ⟨W0, l1, l2, l3, l4, l5, l6⟩, hl, hpb⟩ := h
  have hR : R ≤ W.heap.size := Nat.le_of_lt h1.box.lt
  exact ⟨⟨x, g, h1.next hb, h2, h3⟩, hp.next hb, ⟨W0, l1, l2.trans (hb.mono hR), l3, l4, l5, l6⟩, hl.next (hb.mono hR), hpb⟩
theorem low_put {B l : Nat} {W : World} (hl : B ≤ l) (o' : Obj) : Below B W (W.putObj l o') :=
  ⟨rfl, rfl, rfl, by rw [World.putObj_size]; exact Nat.le_refl _, fun k hk => World.putObj_heap_other (by omega)⟩
theorem RdI.put {w : World} {L : List Tx} {B0 R PB k l : Nat} {W : World} {o o' : Obj} (hl : R ≤ l) (h : RdI w L B0 R PB k W) (ho : W.heap[l]? = some o) (hc : o.isCells = false) (_ : o'.isCells = false) : RdI w L B0 R PB k (W.putObj l o') := by
  obtain ⟨⟨x, g, h1, h2, h3⟩, hp, ⟨W0, l1, l2, l3, l4, l5, l6⟩, hl2, hpb⟩ := h
  refine ⟨⟨x, g, h1.kept fun b hb => ?_, h2, h3⟩, ?_, ⟨W0, l1, l2.trans (low_put hl o'), l3, l4, l5, l6⟩, hl2.next (low_put hl o'), hpb⟩
  · obtain ⟨_, _, u, hu, hcu⟩ := h1.lM hb
    exact cells_ne ho hc hu hcu
  · exact (cells_ne ho hc hp rfl).trans hp
theorem RdI.calm {w : World} {L : List Tx} {B0 R PB k D : Nat} (hD : R ≤ D) : Calm D (RdI w L B0 R PB k) :=
  ⟨fun A C h hb => h.next hb, fun A l o o' hl h h1 h2 h3 => h.put (Nat.le_trans hD hl) h1 h2 h3⟩
/-- An error among the lines. -/
def RdP (w : World) (L : List Tx) (ch : List PanicEntry) (W : World) : Prop := ∃ (e : Int) (i : Nat), pread Slip.zero 1 L = .error (e, i) ∧ ch = pnc e (i : Int) ∧ Below w.heap.size w W

/-- The rows of a slip, its own, from a block on. -/
structure SO (w : World) (B : Nat) (x : Slip) (g : Gh) : Prop where
  a : w.ownsRow B 44 2 g.a x.after.length (flA x.after)
  m : w.ownsRow B 51 5 g.m x.make.length (flM x.make)
  d : w.ownsRow B 9 1 g.d x.drop.length (flS x.drop)
  u : w.ownsRow B 9 1 g.u x.use.length (flS x.use)
theorem SO.sr {w : World} {B : Nat} {x : Slip} {g : Gh} (h : SO w B x g) : SR w x g := ⟨(ApC.rdc (.inr h.a)), (ApC.rdc (.inr h.m)), (ApC.rdc (.inr h.d)), (ApC.rdc (.inr h.u)), cp_own h.a, cp_own h.m, cp_own h.d, cp_own h.u⟩
theorem SO.kept {w w' : World} {B : Nat} {x : Slip} {g : Gh} (h : SO w B x g) (hk : ∀ b, B ≤ b → w'.heap[b]? = w.heap[b]?) : SO w' B x g :=
  ⟨own_same h.a fun b hb => hk b (World.ownsRow.lt h.a b hb).1, own_same h.m fun b hb => hk b (World.ownsRow.lt h.m b hb).1, own_same h.d fun b hb => hk b (World.ownsRow.lt h.d b hb).1, own_same h.u fun b hb => hk b (World.ownsRow.lt h.u b hb).1⟩
theorem Rdr.so {w : World} {R B : Nat} {x : Slip} {line : Int} {g : Gh} (h : Rdr w R x line g) (hB : B ≤ R + 1) : SO w B x g := ⟨World.ownsRow.mono h.a hB, World.ownsRow.mono h.m hB, World.ownsRow.mono h.d hB, World.ownsRow.mono h.u hB⟩
/-- What read answers. -/
def ReadT2 (L : List Tx) (w : World) (en : Ending) (w' : World) : Prop := Below w.heap.size w w' ∧ match pread Slip.zero 1 L with
  | .error e => en = .panicked (pnc e.1 (e.2 : Int))
  | .ok x => if chkS x = true then ∃ g, en = .returned (sV x g) ∧ SO w' w.heap.size x g else en = .panicked (pnc 150 (L.length : Int))

theorem keeps_of {D : Nat} {W W' : World} {R : Nat} {x : Slip} {line : Int} {g : Gh} (h : Rdr W R x line g) (hs : W.heap.size ≤ W'.heap.size) (hk : ∀ b, b < W.heap.size → ¬ Mr R g b → W'.heap[b]? = W.heap[b]?) : KeepsFrom D W W' := by
  refine ⟨hs, fun k o _ hko ho => (hk k (Array.getElem?_eq_some_iff.1 hko).1 fun hm => ?_).trans hko⟩
  obtain ⟨_, _, u, hu, hcu⟩ := h.lM hm
  rw [hko] at hu
  cases hu
  rw [ho] at hcu
  cases hcu
/-- The slip's beginning. -/
abbrev g0 : Gh := ⟨.slice none 0 0, .slice none 0 0, .slice none 0 0, .slice none 0 0⟩
theorem rdr_zero {W : World} {R : Nat} (h : BoxA W R 67 (rcs Slip.zero g0 0)) : Rdr W R Slip.zero 0 g0 :=
  ⟨h, World.ownsRow_nil _ _ _ _, World.ownsRow_nil _ _ _ _, World.ownsRow_nil _ _ _ _, World.ownsRow_nil _ _ _ _, fun b hb => by cases hb⟩
theorem mr_zero {R b : Nat} (h : b ≠ R) : ¬ Mr R g0 b := by
  rintro (h1 | h1 | h1 | h1 | h1)
  · exact h h1
  all_goals cases h1
/-- A line has been read. -/
theorem RdI.step {w : World} {L : List Tx} {B0 R PB k : Nat} {W W2 : World} (h : RdI w L B0 R PB k W) {x y : Slip} {g g2 : Gh} (hr : Rdr W R x (k : Int) g) (hn : ¬ Mr R g PB) (hr2 : Rdr W2 R y ((k + 1 : Nat) : Int) g2) (hk : Kp R g g2 W W2) (hp : pread Slip.zero 1 (L.take (k + 1)) = .ok y) : RdI w L B0 R PB (k + 1) W2 := by
  obtain ⟨_, hpb, ⟨W0, l1, l2, l3, l4, l5, l6⟩, hl, hlt⟩ := h
  have hpz := hpb.lt
  exact ⟨⟨y, g2, hr2, hk.off hpz hn, hp⟩, (hk.same PB hpz hn).trans hpb, ⟨W0, l1, l2.trans hk.low, l3, l4, l5, l6⟩, hl.next hk.low, hlt⟩
theorem RdI.low' {w : World} {L : List Tx} {B0 R PB k : Nat} {W : World} (h : RdI w L B0 R PB k W) : Below w.heap.size w W := by
  obtain ⟨_, _, ⟨W0, l1, l2, l3, l4, l5, l6⟩, _, _⟩ := h
  exact l1.trans (l2.mono (by omega))

theorem boxes4 (w : World) (o1 o2 o3 o4 : Array Value) {t1 t2 t3 t4 : TypeId} {W4 : World} (h : (((w.alloc (.cells o1 t1)).alloc (.cells o2 t2)).alloc (.cells o3 t3)).alloc (.cells o4 t4) = W4) :
    BoxA W4 w.heap.size t1 o1 ∧ BoxA W4 (w.heap.size + 1) t2 o2 ∧ BoxA W4 (w.heap.size + 1 + 1) t3 o3 ∧ BoxA W4 (w.heap.size + 1 + 1 + 1) t4 o4 ∧ W4.heap.size = w.heap.size + 4 ∧ Below w.heap.size w W4 := by
  have b : ∀ (W : World) (o : Obj), Below W.heap.size W (W.alloc o) := fun W o => (Below.refl _ W).alloc (Nat.le_refl _) _
  have z : ∀ (W : World) (o : Obj), (W.alloc o).heap.size = W.heap.size + 1 := fun W o => by simp
  have n1 := BoxA.new w t1 o1
  obtain ⟨w1, h1⟩ : ∃ w1, w.alloc (.cells o1 t1) = w1 := ⟨_, rfl⟩
  have b1 := b w (.cells o1 t1)
  have z1 := z w (.cells o1 t1)
  rw [h1] at h n1 b1 z1
  have n2 := BoxA.new w1 t2 o2
  obtain ⟨w2, h2⟩ : ∃ w2, w1.alloc (.cells o2 t2) = w2 := ⟨_, rfl⟩
  have b2 := b w1 (.cells o2 t2)
  have z2 := z w1 (.cells o2 t2)
  rw [h2] at h n2 b2 z2
  have n3 := BoxA.new w2 t3 o3
  obtain ⟨w3, h3⟩ : ∃ w3, w2.alloc (.cells o3 t3) = w3 := ⟨_, rfl⟩
  have b3 := b w2 (.cells o3 t3)
  have z3 := z w2 (.cells o3 t3)
  rw [h3] at h n3 b3 z3
  have n4 := BoxA.new w3 t4 o4
  have b4 := b w3 (.cells o4 t4)
  have z4 := z w3 (.cells o4 t4)
  rw [h] at n4 b4 z4
  rw [z3, z2, z1] at n4
  rw [z2, z1] at n3
  rw [z1] at n2
  exact ⟨((n1.next b2).next b3).next b4, (n2.next b3).next b4, n3.next b4, n4, by omega, ((b1.trans (b2.mono b1.size)).trans (b3.mono (by omega))).trans (b4.mono (by omega))⟩
/-- How the last question may end: by a panic, in frames with one deferred block. -/
def PanQ (D : Nat) (ch0 : List PanicEntry) (W : World) : Exit → Act → World → Prop
  | .panic ch, a, w2 => a.defers = [{ target := .collected D, args := #[] }] ∧ ch = ch0 ∧ Below W.heap.size W w2
  | _, _, _ => False
set_option maxHeartbeats 8000000 in
theorem read_slip (s : Tx) (hs : s.length ≤ 10000) (w : World) (hL : LaidD w) : Calls Tryz.prog 18 #[.string (str s)] w (ReadT2 (cuts 10 s) w) := by
  refine callsF 6 Tryz.func18 rfl ?_
  simp only [Tryz.ntmps18, List.size_toArray, List.length_cons, List.length_nil, Nat.reduceAdd, Nat.reduceSub, Array.replicate_succ, Array.replicate_zero, List.push_toArray, List.append_toArray, List.nil_append, List.cons_append]
  refine wpF_seq_k (n := 6) fun K hK => ?_
  gi_wp2_with fail
  refine wpF_seq_k (n := 6) fun K hK => ?_
  gi_wp2_with fail
  refine wpF_seq ?_
  refine wpF_seq_k (n := 6) fun K hK => ?_
  gi_wp2_with (refine ⟨trivial, ?_⟩; gi_at_call 37; refine (callsIn_wide.2 (lines_any _ _)).mono ?_; rintro e w' ⟨rfl, rfl⟩)
  obtain ⟨W4, hW4⟩ : ∃ W4, ((((w.alloc (.cells #[.string { data := #[] }, .int .i64 0, .int .i64 0, .int .i64 0, .slice none 0 0, .int .i64 0, .int .i64 0, .int .i64 0, .string { data := #[] }, .slice none 0 0, .slice none 0 0, .slice none 0 0] 27)).alloc (.cells #[.string { data := #[] }, .int .i64 0, .int .i64 0, .int .i64 0, .slice none 0 0, .int .i64 0, .int .i64 0, .int .i64 0, .string { data := #[] }, .slice none 0 0, .slice none 0 0, .slice none 0 0, .int .i64 0] 67)).alloc (.cells #[.pointer (some ⟨w.heap.size + 1, 0, none⟩)] 65)).alloc (.cells #[.string (str s)] 9)) = W4 := ⟨_, rfl⟩
  have hbx : BoxA W4 w.heap.size 27 (scs Slip.zero g0) ∧ BoxA W4 (w.heap.size + 1) 67 (rcs Slip.zero g0 0) ∧ BoxA W4 (w.heap.size + 1 + 1) 65 #[.pointer (some ⟨w.heap.size + 1, 0, none⟩)] ∧ Boxed W4 (w.heap.size + 1 + 1 + 1) 9 (.string (str s)) ∧ W4.heap.size = w.heap.size + 4 ∧ Below w.heap.size w W4 := by
    exact boxes4 w _ _ _ _ hW4
  obtain ⟨x0, x1, x2, x3, x4, x5⟩ := hbx
  rw [hW4]
  clear hW4
  have hseq := lines1_seq 5 (by omega) s (by omega) (w.heap.size + 1 + 1 + 1) W4 x3
  have HLB := Lib.hid (show LaidB (w.heap.size + 1) W4 from fun W' hb => hL.next (x5.trans (hb.mono (Nat.le_succ _))))
  have HL0 := Lib.hid (cuts_mem_len 10 s)
  have hcl := cuts_len 10 s
  generalize cuts 10 s = L at *
  have hI0 : RdI w L w.heap.size (w.heap.size + 1) (w.heap.size + 1 + 1) 0 W4 :=
    ⟨⟨Slip.zero, g0, rdr_zero x1, mr_zero (by omega), rfl⟩, x2, ⟨W4, x5, Below.refl _ _, by omega, by omega, Nat.le_refl _, x0⟩, HLB.out, by omega⟩
  have HSZ := Lib.hid x4
  clear x0 x1 x2 x3 x5 hL
  refine wpF_block ?_
  refine range_p (n := 6) (α := Nat × Tx) (encs := encL) (fn0 := Tryz.f18) rfl rfl (enters_of Tryz.func63 (by kernel_rfl) rfl) hseq (Below.refl _ _) (fun _ => rfl)
    (RdI w L w.heap.size (w.heap.size + 1) (w.heap.size + 1 + 1)) (RdP w L) (fun k A h => h.laid.here) (fun k => RdI.calm (by omega)) hI0
    (fun (x : Nat × Tx) => { tmps := #[.string (str s), undef, .pointer (some ⟨w.heap.size, 0, none⟩), .pointer (some ⟨w.heap.size + 1 + 1, 0, none⟩), .int .i64 (x.1 : Nat), .string (str x.2),
      .agg #[.string { data := #[] }, .int .i64 0, .int .i64 0, .int .i64 0, .slice none 0 0, .int .i64 0, .int .i64 0, .int .i64 0, .string { data := #[] }, .slice none 0 0, .slice none 0 0, .slice none 0 0, .int .i64 0],
      .pointer (some ⟨w.heap.size + 1, 0, none⟩), .string (str s), .func (.func 63) #[] #[.pointer (some ⟨w.heap.size + 1 + 1 + 1, 0, none⟩)], .int .i64 (x.1 : Nat), .string (str x.2), undef, undef, undef, undef, undef, undef, undef, undef, undef, undef, undef, undef, undef, undef, undef, undef, undef, undef, undef, undef, undef, undef, undef, undef, undef, undef, undef, undef], defers := [] })
    ?assign ?body ?done ?pan
  case assign =>
    rintro l0 k ⟨i, line⟩ W K hI hK
    unfold encL
    gi_wp2
    exact hK
  case body =>
    rintro l0 k ⟨i, line⟩ W hx hI
    have hxk : L[k]? = some line ∧ i = 1 + k := by
      rw [numb_at] at hx
      obtain ⟨y, hy, e⟩ := Option.map_eq_some_iff.1 hx
      simp only [Prod.mk.injEq] at e
      exact ⟨by rw [hy, e.2], e.1.symm⟩
    obtain ⟨hxk, rfl⟩ := hxk
    have HI := Lib.hid hI
    obtain ⟨⟨x, g, hr, hn, hp⟩, hpb, _, hld, _⟩ := hI
    have hkL := (List.getElem?_eq_some_iff.1 hxk).1
    have hlin : line.length ≤ 20000 := by have := HL0.out line (List.mem_of_getElem? hxk); omega
    have hfew : Few x k := by
      have := pread_few (L.take k) _ _ 1 0 hp ⟨Nat.le_refl _, Nat.le_refl _, Nat.le_refl _⟩
      rwa [List.length_take, Nat.zero_add, Nat.min_eq_left (Nat.le_of_lt hkL)] at this
    have HTK := Lib.hid (pread_take hxk hp)
    have HPB := Lib.hid (fun (e : Int × Nat) (h : pline x (k + 1) line = .error e) => (show pread Slip.zero 1 L = .error e from pread_bad (k := k + 1) (by rw [pread_take hxk hp, h])))
    have c0 := hpb.cell 0 _
    have hpl := hpb.lt
    have c12 := hr.box.cell 12 _
    have f12 := hr.box.free 12
    have hrl := hr.box.lt
    obtain ⟨ik, hik⟩ : ∃ ik : Int, ((1 + k : Nat) : Int) = ik := ⟨_, rfl⟩
    have HIK := Lib.hid (show ik = ((k + 1 : Nat) : Int) by omega)
    have hr1 := hr.put (y := x) (l2 := ik) 12 (.int .i64 ik) rfl rfl rfl rfl rfl
    have HR0 := Lib.hid hr
    have HN0 := Lib.hid hn
    have HLD := Lib.hid hld
    have HXK := Lib.hid hxk
    have HFW := Lib.hid hfew
    have HP := Lib.hid hp
    have HCL := Lib.hid (show k ≤ 10001 by omega)
    have HLN := Lib.hid hlin
    dsimp only
    rw [hik]
    clear hseq hx hxk hr hn hp hpb hld hkL hlin hfew hI0 hik
    gi_upto_region 6 with fail
    obtain ⟨W1, hW1⟩ : ∃ W1, W.setCell ⟨w.heap.size + 1, 12, none⟩ (.int .i64 ik) = W1 := ⟨_, rfl⟩
    have HK1 := Lib.hid (show Kp (w.heap.size + 1) g g W W1 by rw [← hW1]; exact Kp.set g W _ 12 _)
    rw [hW1] at hr1 ⊢
    have HR1 := Lib.hid hr1
    have HL1 := Lib.hid (HLD.out.next HK1.out.low)
    have hrl1 : w.heap.size + 1 < W1.heap.size := hr1.box.lt
    have hpl1 : w.heap.size + 1 + 1 < W1.heap.size := Nat.lt_of_lt_of_le hpl HK1.out.low.size
    have c01 : W1.cell? ⟨w.heap.size + 1 + 1, 0, none⟩ = some (.pointer (some ⟨w.heap.size + 1, 0, none⟩)) := by
      rw [← hW1]
      exact (World.cell?_of_block (a := ⟨w.heap.size + 1 + 1, 0, none⟩) (Below.heap_setCell _ _ _ _ (by simp))).trans c0
    clear hr1 hW1 c0 c12 f12 hrl hpl
    by_cases hk0 : k = 0
    · have q0 : (ik == 1) = true := by rw [beq_iff_eq, HIK.out]; omega
      have hx0 : x = Slip.zero := by
        have := HP.out
        rw [hk0, List.take_zero] at this
        unfold pread at this
        exact (Except.ok.inj this).symm
      have HPL := Lib.hid (show pline x (k + 1) line = match first? line with
          | some y => .ok y
          | none => .error (150, 1) by unfold pline; rw [if_pos (by omega)]; cases first? line <;> rfl)
      have HJ := Lib.hid (job_any (by rw [← hx0]; exact HR1.out) line HLN.out HL1.out)
      have HK0 := Lib.hid hk0
      unfold JobT at HJ
      clear hk0 hx0
      cases hf : first? line with
      | none =>
        rw [hf] at HJ HPL
        clear hf
        gi_wp2_with (refine ⟨trivial, ?_⟩; gi_at_call 38; refine (CallsIn.inRound l0 (callsIn_wide.2 HJ.out)).mono ?_; rintro e w2 ⟨rfl, hb⟩; have HB := Lib.hid hb; clear hb)
        have hlk := HK1.out.lk HB.out
        refine ⟨rfl, keeps_of HR0.out hlk.1.size hlk.2, 150, 1, HPB.out _ HPL.out, by rw [HIK.out, HK0.out], HI.out.low'.trans (hlk.1.mono (Nat.le_succ _))⟩
      | some y =>
        rw [hf] at HJ HPL
        clear hf
        gi_wp2_with (refine ⟨trivial, ?_⟩; gi_at_call 38; refine (CallsIn.inRound l0 (callsIn_wide.2 HJ.out)).mono ?_; rintro e w2 ⟨rfl, g2, hr2, hk2⟩; have HR2 := Lib.hid hr2; have HK2 := Lib.hid (HK1.out.trans hk2); clear hr2 hk2)
        exact ⟨keeps_of HR0.out HK2.out.low.size HK2.out.same, HI.out.step HR0.out HN0.out (HIK.out ▸ HR2.out) HK2.out (by rw [HTK.out, HPL.out])⟩
    · have q0 : (ik == 1) = false := by rw [beq_eq_false_iff_ne, HIK.out]; omega
      have HPL := Lib.hid (show pline x (k + 1) line = if isD line = true then (if lerr line ≠ 0 then .error (lerr line, k + 1) else match pput x (ldir line) with
          | none => .error (150, k + 1)
          | some y => .ok y) else .ok x by unfold pline; rw [if_neg (by omega)]; rfl)
      have HIS := Lib.hid (show ∀ W, Calls Tryz.prog 39 #[.string (str line)] W fun e w' => e = .returned (.bool (isD line)) ∧ W = w' from fun W => Is_any line W)
      have HD := Lib.hid (directive_any HR1.out line HLN.out HL1.out (by have := HFW.out.1; have := HCL.out; omega) (by have := HFW.out.2.1; have := HCL.out; omega) (by have := HFW.out.2.2; have := HCL.out; omega))
      clear hk0
      cases hi : isD line with
      | false =>
        rw [hi] at HPL HIS
        clear hi
        gi_wp2_with (refine ⟨trivial, ?_⟩; gi_at_call 39; refine (CallsIn.inRound l0 (callsIn_wide.2 (HIS.out _))).mono ?_; rintro e w2 ⟨rfl, rfl⟩)
        exact ⟨keeps_of HR0.out HK1.out.low.size HK1.out.same, HI.out.step HR0.out HN0.out (HIK.out ▸ HR1.out) HK1.out (by rw [HTK.out, HPL.out]; rfl)⟩
      | true =>
        rw [hi, if_pos rfl] at HPL
        rw [hi] at HIS
        clear hi
        by_cases he : lerr line = 0
        · rw [if_neg (by simp [he])] at HPL
          have HD := Lib.hid (show Calls Tryz.prog 40 #[.pointer (some ⟨w.heap.size + 1, 0, none⟩), .string (str line)] W1 (StoT2 (w.heap.size + 1) g (pput x (ldir line)) ik W1) from HD.out.mono (fun e w' h => by unfold DirT at h; rw [if_pos he] at h; exact h))
          clear he
          cases hpp : pput x (ldir line) with
          | none =>
            rw [hpp] at HPL HD
            clear hpp
            gi_wp2_with (first
              | (refine ⟨trivial, ?_⟩; gi_at_call 39; refine (CallsIn.inRound l0 (callsIn_wide.2 (HIS.out _))).mono ?_; rintro e w2 ⟨rfl, rfl⟩)
              | (refine ⟨trivial, ?_⟩; gi_at_call 40; refine (CallsIn.inRound l0 (callsIn_wide.2 HD.out)).mono ?_; rintro e w3 ⟨rfl, hb⟩; have HB := Lib.hid hb; clear hb))
            have hlk := HK1.out.lk HB.out
            exact ⟨rfl, keeps_of HR0.out hlk.1.size hlk.2, 150, k + 1, HPB.out _ HPL.out, by rw [HIK.out], HI.out.low'.trans (hlk.1.mono (Nat.le_succ _))⟩
          | some y =>
            rw [hpp] at HPL HD
            clear hpp
            gi_wp2_with (first
              | (refine ⟨trivial, ?_⟩; gi_at_call 39; refine (CallsIn.inRound l0 (callsIn_wide.2 (HIS.out _))).mono ?_; rintro e w2 ⟨rfl, rfl⟩)
              | (refine ⟨trivial, ?_⟩; gi_at_call 40; refine (CallsIn.inRound l0 (callsIn_wide.2 HD.out)).mono ?_; rintro e w3 ⟨rfl, g2, hr2, hk2⟩; have HR2 := Lib.hid hr2; have HK2 := Lib.hid (HK1.out.trans hk2); clear hr2 hk2))
            exact ⟨keeps_of HR0.out HK2.out.low.size HK2.out.same, HI.out.step HR0.out HN0.out (HIK.out ▸ HR2.out) HK2.out (by rw [HTK.out, HPL.out])⟩
        · rw [if_pos he] at HPL
          have HD := Lib.hid (show Calls Tryz.prog 40 #[.pointer (some ⟨w.heap.size + 1, 0, none⟩), .string (str line)] W1 (fun en w' => en = .panicked (pnc (lerr line) ik) ∧ Lk (w.heap.size + 1) g W1 w') from HD.out.mono (fun e w' h => by unfold DirT at h; rw [if_neg he] at h; exact h))
          clear he
          gi_wp2_with (first
            | (refine ⟨trivial, ?_⟩; gi_at_call 39; refine (CallsIn.inRound l0 (callsIn_wide.2 (HIS.out _))).mono ?_; rintro e w2 ⟨rfl, rfl⟩)
            | (refine ⟨trivial, ?_⟩; gi_at_call 40; refine (CallsIn.inRound l0 (callsIn_wide.2 HD.out)).mono ?_; rintro e w3 ⟨rfl, hb⟩; have HB := Lib.hid hb; clear hb))
          have hlk := HK1.out.lk HB.out
          exact ⟨rfl, keeps_of HR0.out hlk.1.size hlk.2, lerr line, k + 1, HPB.out _ HPL.out, by rw [HIK.out], HI.out.low'.trans (hlk.1.mono (Nat.le_succ _))⟩
  case done =>
    rintro D W hDl hI hD
    show wpF _ _ _ _ _ _
    refine wpF_seq_k (n := 6) fun K0 hK0 => ?_
    have HLW := Lib.hid hI.low'
    obtain ⟨⟨x, g, hr, hn, hp⟩, hpb, ⟨W0, l1, l2, l3, l4, l5, hB0⟩, hld, hlt⟩ := hI
    rw [numb_len, List.take_length] at hp
    rw [numb_len] at hr
    have HB0 := Lib.hid (show BoxA W w.heap.size 27 (scs Slip.zero g0) from (l2.block _ l4).trans hB0)
    have HR := Lib.hid hr
    have HDL := Lib.hid hDl
    have hsw : SW x := sw_sm (sp.pread_sm L _ _ 1 (fun l hl => by have := HL0.out l hl; omega) hp sp.sm_zero)
    have hrl := hr.box.lt
    have hpl := hpb.lt
    have hDW := (Array.getElem?_eq_some_iff.1 hD).1
    have HCH := Lib.hid (fun (W2 : World) (hb : Below W.heap.size W W2) => Check_slip x g W2 ((hr.sr).next hb) hsw (hld.here.next hb))
    have HDN := Lib.hid (fun (W2 : World) (hb : Below W.heap.size W W2) => (hb.block D hDW).trans hD)
    have HRD : Hid (∀ (en : Ending) (w' : World), (match pread Slip.zero 1 L with
        | .error e => en = .panicked (pnc e.1 (e.2 : Int))
        | .ok x => if chkS x = true then ∃ g, en = .returned (sV x g) ∧ SO w' w.heap.size x g else en = .panicked (pnc 150 (L.length : Int))) = if chkS x = true then ∃ g, en = .returned (sV x g) ∧ SO w' w.heap.size x g else en = .panicked (pnc 150 (L.length : Int))) := fun en w' => by rw [hp]
    have hpc := hpb.cell 0 _
    obtain ⟨pa, ca, ea, _, _⟩ := hr.sr.ca
    obtain ⟨pm, cm, em, _, _⟩ := hr.sr.cm
    obtain ⟨pd, cd, ed, _, _⟩ := hr.sr.cd
    obtain ⟨pu, cu, eu, _, _⟩ := hr.sr.cu
    obtain ⟨us, nodes, wall, qos, after, cap, inn, out, pool, mk, dr, use⟩ := x
    obtain ⟨va, vm, vd, vu⟩ := g
    dsimp only at ea em ed eu
    subst ea em ed eu
    obtain ⟨na, hna⟩ : ∃ n, after.length = n := ⟨_, rfl⟩
    obtain ⟨nm, hnm⟩ : ∃ n, mk.length = n := ⟨_, rfl⟩
    obtain ⟨nd, hnd⟩ : ∃ n, dr.length = n := ⟨_, rfl⟩
    obtain ⟨nu, hnu⟩ : ∃ n, use.length = n := ⟨_, rfl⟩
    rw [hna, hnm, hnd, hnu] at hr HR HCH
    have HSR := Lib.hid hr.sr
    have HS : Hid (∀ W2, Below W.heap.size W W2 → (fun W2 => W2.cell? ⟨w.heap.size + 1 + 1, 0, none⟩ = some (.pointer (some ⟨w.heap.size + 1, 0, none⟩)) ∧ W2.cell? ⟨w.heap.size + 1, 0, none⟩ = some (.string (str us)) ∧ W2.cell? ⟨w.heap.size + 1, 1, none⟩ = some (.int .i64 nodes) ∧ W2.cell? ⟨w.heap.size + 1, 2, none⟩ = some (.int .i64 wall) ∧ W2.cell? ⟨w.heap.size + 1, 3, none⟩ = some (.int .i64 qos) ∧ W2.cell? ⟨w.heap.size + 1, 4, none⟩ = some (.slice pa na ca) ∧ W2.cell? ⟨w.heap.size + 1, 5, none⟩ = some (.int .i64 cap) ∧ W2.cell? ⟨w.heap.size + 1, 6, none⟩ = some (.int .i64 inn) ∧ W2.cell? ⟨w.heap.size + 1, 7, none⟩ = some (.int .i64 out) ∧ W2.cell? ⟨w.heap.size + 1, 8, none⟩ = some (.string (str pool)) ∧ W2.cell? ⟨w.heap.size + 1, 9, none⟩ = some (.slice pm nm cm) ∧ W2.cell? ⟨w.heap.size + 1, 10, none⟩ = some (.slice pd nd cd) ∧ W2.cell? ⟨w.heap.size + 1, 11, none⟩ = some (.slice pu nu cu)) W2) := fun W2 hb => ⟨(Below.cell hb hpl).trans hpc, (Below.cell hb hrl).trans (hr.box.cell 0 _), (Below.cell hb hrl).trans (hr.box.cell 1 _), (Below.cell hb hrl).trans (hr.box.cell 2 _), (Below.cell hb hrl).trans (hr.box.cell 3 _), (Below.cell hb hrl).trans (hr.box.cell 4 _), (Below.cell hb hrl).trans (hr.box.cell 5 _), (Below.cell hb hrl).trans (hr.box.cell 6 _), (Below.cell hb hrl).trans (hr.box.cell 7 _), (Below.cell hb hrl).trans (hr.box.cell 8 _), (Below.cell hb hrl).trans (hr.box.cell 9 _), (Below.cell hb hrl).trans (hr.box.cell 10 _), (Below.cell hb hrl).trans (hr.box.cell 11 _)⟩
    have hsC := HS.out W (Below.refl _ _)
    clear hna hnm hnd hnu hr hI0 hseq hpb hB0 l1 l2 l3 l4 l5 hld hp hn hpc hsw hDW hDl hD HL0 hcl hs x4
    cases hc : chkS ⟨us, nodes, wall, qos, after, cap, inn, out, pool, mk, dr, use⟩ with
    | false =>
      have HSE : Hid (sE ⟨us, nodes, wall, qos, after, cap, inn, out, pool, mk, dr, use⟩ = 150) := by show _ = _; unfold sE; rw [hc]; rfl
      rw [HSE.out] at HCH
      rw [hc] at HRD
      clear hc
      unfold sV scs at HCH
      dsimp only at hsC HCH
      obtain ⟨hpc, d0, d1, d2, d3, d4, d5, d6, d7, d8, d9, d10, d11⟩ := hsC
      have HRL := Lib.hid hrl
      refine wpIn_mono (Q := Exit.then K0 (PanQ D (pnc 150 (L.length : Int)) W)) ?_ (fun e a3 w3 h => ?_)
      rotate_left
      · cases e with
        | normal => exact h
        | panic ch =>
          obtain ⟨h1, rfl, h3⟩ := h
          have HD2 := HDN.out _ h3
          show LeavesInM _ _ _ _ _ _ a3.defers _ _
          rw [h1]
          refine ⟨by simp, .inl ⟨_, _, rfl, run_takeDeferred HD2, ?_⟩⟩
          refine ⟨(HLW.out.trans (h3.mono HLW.out.size)).trans (belowK_b (w := w) (Nat.le_refl _) _ D _ _ (by have := HDL.out; have := HSZ.out; omega) HD2 rfl rfl), ?_⟩
          rw [HRD.out]
          rfl
        | exit k => exact h.elim
        | goto k => exact h.elim
        | ret => exact h.elim
        | outgrown => exact h.elim
      refine wpIn_wide.2 ?_
      refine wp_region_held_drew (S := (fun W2 => W2.cell? ⟨w.heap.size + 1 + 1, 0, none⟩ = some (.pointer (some ⟨w.heap.size + 1, 0, none⟩)) ∧ W2.cell? ⟨w.heap.size + 1, 0, none⟩ = some (.string (str us)) ∧ W2.cell? ⟨w.heap.size + 1, 1, none⟩ = some (.int .i64 nodes) ∧ W2.cell? ⟨w.heap.size + 1, 2, none⟩ = some (.int .i64 wall) ∧ W2.cell? ⟨w.heap.size + 1, 3, none⟩ = some (.int .i64 qos) ∧ W2.cell? ⟨w.heap.size + 1, 4, none⟩ = some (.slice pa na ca) ∧ W2.cell? ⟨w.heap.size + 1, 5, none⟩ = some (.int .i64 cap) ∧ W2.cell? ⟨w.heap.size + 1, 6, none⟩ = some (.int .i64 inn) ∧ W2.cell? ⟨w.heap.size + 1, 7, none⟩ = some (.int .i64 out) ∧ W2.cell? ⟨w.heap.size + 1, 8, none⟩ = some (.string (str pool)) ∧ W2.cell? ⟨w.heap.size + 1, 9, none⟩ = some (.slice pm nm cm) ∧ W2.cell? ⟨w.heap.size + 1, 10, none⟩ = some (.slice pd nd cd) ∧ W2.cell? ⟨w.heap.size + 1, 11, none⟩ = some (.slice pu nu cu))) (by kernel_rfl) (by exact HS.out _ (drew_low W)) (fun hHeld => ?_)
      refine wpAnyH_take (i := 0) (v := ?_) (ata at0) (by kernel_rfl) (by kernel_rfl) (by kernel_rfl) (fun _ _ _ h => h) (Or.inl ⟨by rfl, ?_⟩) (by assumption) ?_
      rotate_left
      · (intro w hSw; (try dsimp only at hSw); go_simp; (first | done | with_reducible rfl))
      try simp only [Act.put, List.setIfInBounds_toArray, List.set_cons_zero, List.set_cons_succ]
      refine wpAnyH_take (i := 1) (v := ?_) (ata (atS at0)) (by kernel_rfl) (by kernel_rfl) (by kernel_rfl) (fun _ _ _ h => h) (Or.inl ⟨by rfl, ?_⟩) (by assumption) ?_
      rotate_left
      · (intro w hSw; (try dsimp only at hSw); go_simp; (first | done | with_reducible rfl))
      try simp only [Act.put, List.setIfInBounds_toArray, List.set_cons_zero, List.set_cons_succ]
      refine wpAnyH_take (i := 2) (v := ?_) (ata (atS (atS at0))) (by kernel_rfl) (by kernel_rfl) (by kernel_rfl) (fun _ _ _ h => h) (Or.inl ⟨by rfl, ?_⟩) (by assumption) ?_
      rotate_left
      · (intro w hSw; (try dsimp only at hSw); go_simp; (first | done | with_reducible rfl))
      try simp only [Act.put, List.setIfInBounds_toArray, List.set_cons_zero, List.set_cons_succ]
      refine wpAnyH_take (i := 3) (v := ?_) (ata (atS (atS (atS at0)))) (by kernel_rfl) (by kernel_rfl) (by kernel_rfl) (fun _ _ _ h => h) (Or.inl ⟨by rfl, ?_⟩) (by assumption) ?_
      rotate_left
      · (intro w hSw; (try dsimp only at hSw); go_simp; (first | done | with_reducible rfl))
      try simp only [Act.put, List.setIfInBounds_toArray, List.set_cons_zero, List.set_cons_succ]
      refine wpAnyH_take (i := 4) (v := ?_) (ata (atS (atS (atS (atS at0))))) (by kernel_rfl) (by kernel_rfl) (by kernel_rfl) (fun _ _ _ h => h) (Or.inl ⟨by rfl, ?_⟩) (by assumption) ?_
      rotate_left
      · (intro w hSw; (try dsimp only at hSw); go_simp; (first | done | with_reducible rfl))
      try simp only [Act.put, List.setIfInBounds_toArray, List.set_cons_zero, List.set_cons_succ]
      refine wpAnyH_ready (rs := [5]) (by kernel_rfl) (by simp) ?_
      refine AllReadyH.cons (ata (atS (atS (atS (atS (atS at0)))))) (fun K hK => ?_) AllReadyH.nil
      go_simp
      (go_at_call 14; ((with_reducible refine (HCH.out _ (drew_low W)).mono ?_); rintro e w2 ⟨rfl, hb2⟩); have hb2 := (drew_low W).trans (hb2.mono (drew_low W).size); have HB2 := Lib.hid hb2; clear hb2)
      refine hK.out _ _ (by exact HS.out _ HB2.out) (fun hHeld => ?_)
      clear hK K
      try simp only [Act.put, List.setIfInBounds_toArray, List.set_cons_zero, List.set_cons_succ]
      refine wpAnyH_take (i := 6) (v := ?_) (ata (atS (atS (atS (atS (atS (atS at0))))))) (by kernel_rfl) (by kernel_rfl) (by kernel_rfl) (fun _ _ _ h => h) (Or.inl ⟨by rfl, ?_⟩) (by assumption) ?_
      rotate_left
      · (intro w hSw; (try dsimp only at hSw); go_simp; (first | done | with_reducible rfl))
      try simp only [Act.put, List.setIfInBounds_toArray, List.set_cons_zero, List.set_cons_succ]
      refine wpAnyH_ready (rs := [7]) (by kernel_rfl) (by simp) ?_
      refine AllReadyH.cons (ata (atS (atS (atS (atS (atS (atS (atS at0)))))))) (fun K hK => ?_) AllReadyH.nil
      go_simp
      (go_at_call 41; ((with_reducible refine (must_no (HR.out.next HB2.out)).mono ?_); rintro e w3 ⟨rfl, rfl⟩))
      exact ⟨rfl, rfl, HB2.out⟩
    | true =>
      have HSE : Hid (sE ⟨us, nodes, wall, qos, after, cap, inn, out, pool, mk, dr, use⟩ = 0) := by show _ = _; unfold sE; rw [hc]; rfl
      rw [HSE.out] at HCH
      rw [hc] at HRD
      clear hc
      unfold sV scs at HCH
      dsimp only at hsC HCH
      obtain ⟨hpc, d0, d1, d2, d3, d4, d5, d6, d7, d8, d9, d10, d11⟩ := hsC
      have HRL := Lib.hid hrl
      refine wpIn_mono (Q := Exit.then K0 fun _ _ _ => False) ?_ (fun e a3 w3 h => ?_)
      rotate_left
      · cases e with
        | normal => exact h
        | panic ch => exact h.elim
        | exit k => exact h.elim
        | goto k => exact h.elim
        | ret => exact h.elim
        | outgrown => exact h.elim
      refine wpIn_wide.2 ?_
      go_upto_region 10 with fail
      refine wp_region_held_drew (S := (fun W2 => W2.cell? ⟨w.heap.size + 1 + 1, 0, none⟩ = some (.pointer (some ⟨w.heap.size + 1, 0, none⟩)) ∧ W2.cell? ⟨w.heap.size + 1, 0, none⟩ = some (.string (str us)) ∧ W2.cell? ⟨w.heap.size + 1, 1, none⟩ = some (.int .i64 nodes) ∧ W2.cell? ⟨w.heap.size + 1, 2, none⟩ = some (.int .i64 wall) ∧ W2.cell? ⟨w.heap.size + 1, 3, none⟩ = some (.int .i64 qos) ∧ W2.cell? ⟨w.heap.size + 1, 4, none⟩ = some (.slice pa na ca) ∧ W2.cell? ⟨w.heap.size + 1, 5, none⟩ = some (.int .i64 cap) ∧ W2.cell? ⟨w.heap.size + 1, 6, none⟩ = some (.int .i64 inn) ∧ W2.cell? ⟨w.heap.size + 1, 7, none⟩ = some (.int .i64 out) ∧ W2.cell? ⟨w.heap.size + 1, 8, none⟩ = some (.string (str pool)) ∧ W2.cell? ⟨w.heap.size + 1, 9, none⟩ = some (.slice pm nm cm) ∧ W2.cell? ⟨w.heap.size + 1, 10, none⟩ = some (.slice pd nd cd) ∧ W2.cell? ⟨w.heap.size + 1, 11, none⟩ = some (.slice pu nu cu))) (by kernel_rfl) (by exact HS.out _ (drew_low W)) (fun hHeld => ?_)
      refine wpAnyH_take (i := 0) (v := ?_) (ata at0) (by kernel_rfl) (by kernel_rfl) (by kernel_rfl) (fun _ _ _ h => h) (Or.inl ⟨by rfl, ?_⟩) (by assumption) ?_
      rotate_left
      · (intro w hSw; (try dsimp only at hSw); go_simp; (first | done | with_reducible rfl))
      try simp only [Act.put, List.setIfInBounds_toArray, List.set_cons_zero, List.set_cons_succ]
      refine wpAnyH_take (i := 1) (v := ?_) (ata (atS at0)) (by kernel_rfl) (by kernel_rfl) (by kernel_rfl) (fun _ _ _ h => h) (Or.inl ⟨by rfl, ?_⟩) (by assumption) ?_
      rotate_left
      · (intro w hSw; (try dsimp only at hSw); go_simp; (first | done | with_reducible rfl))
      try simp only [Act.put, List.setIfInBounds_toArray, List.set_cons_zero, List.set_cons_succ]
      refine wpAnyH_take (i := 2) (v := ?_) (ata (atS (atS at0))) (by kernel_rfl) (by kernel_rfl) (by kernel_rfl) (fun _ _ _ h => h) (Or.inl ⟨by rfl, ?_⟩) (by assumption) ?_
      rotate_left
      · (intro w hSw; (try dsimp only at hSw); go_simp; (first | done | with_reducible rfl))
      try simp only [Act.put, List.setIfInBounds_toArray, List.set_cons_zero, List.set_cons_succ]
      refine wpAnyH_take (i := 3) (v := ?_) (ata (atS (atS (atS at0)))) (by kernel_rfl) (by kernel_rfl) (by kernel_rfl) (fun _ _ _ h => h) (Or.inl ⟨by rfl, ?_⟩) (by assumption) ?_
      rotate_left
      · (intro w hSw; (try dsimp only at hSw); go_simp; (first | done | with_reducible rfl))
      try simp only [Act.put, List.setIfInBounds_toArray, List.set_cons_zero, List.set_cons_succ]
      refine wpAnyH_take (i := 4) (v := ?_) (ata (atS (atS (atS (atS at0))))) (by kernel_rfl) (by kernel_rfl) (by kernel_rfl) (fun _ _ _ h => h) (Or.inl ⟨by rfl, ?_⟩) (by assumption) ?_
      rotate_left
      · (intro w hSw; (try dsimp only at hSw); go_simp; (first | done | with_reducible rfl))
      try simp only [Act.put, List.setIfInBounds_toArray, List.set_cons_zero, List.set_cons_succ]
      refine wpAnyH_ready (rs := [5]) (by kernel_rfl) (by simp) ?_
      refine AllReadyH.cons (ata (atS (atS (atS (atS (atS at0)))))) (fun K hK => ?_) AllReadyH.nil
      go_simp
      (go_at_call 14; ((with_reducible refine (HCH.out _ (drew_low W)).mono ?_); rintro e w2 ⟨rfl, hb2⟩); have hb2 := (drew_low W).trans (hb2.mono (drew_low W).size); have HB2 := Lib.hid hb2; clear hb2)
      refine hK.out _ _ (by exact HS.out _ HB2.out) (fun hHeld => ?_)
      clear hK K
      try simp only [Act.put, List.setIfInBounds_toArray, List.set_cons_zero, List.set_cons_succ]
      refine wpAnyH_take (i := 6) (v := ?_) (ata (atS (atS (atS (atS (atS (atS at0))))))) (by kernel_rfl) (by kernel_rfl) (by kernel_rfl) (fun _ _ _ h => h) (Or.inl ⟨by rfl, ?_⟩) (by assumption) ?_
      rotate_left
      · (intro w hSw; (try dsimp only at hSw); go_simp; (first | done | with_reducible rfl))
      try simp only [Act.put, List.setIfInBounds_toArray, List.set_cons_zero, List.set_cons_succ]
      refine wpAnyH_ready (rs := [7]) (by kernel_rfl) (by simp) ?_
      refine AllReadyH.cons (ata (atS (atS (atS (atS (atS (atS (atS at0)))))))) (fun K hK => ?_) AllReadyH.nil
      go_simp
      (go_at_call 41; ((with_reducible refine (must_yes (HR.out.next HB2.out)).mono ?_); rintro e w3 ⟨rfl, rfl⟩))
      refine hK.out _ _ (by exact HS.out _ HB2.out) (fun hHeld => ?_)
      clear hK K
      try simp only [Act.put, List.setIfInBounds_toArray, List.set_cons_zero, List.set_cons_succ]
      refine wpAnyH_done (by kernel_rfl) ?_ _
      refine hK0 _ _ ?_
      refine wpF_of (n := 6) (wpIn_wide.2 ?_)
      clear hpc d0 d1 d2 d3 d4 d5 d6 d7 d8 d9 d10 d11 hHeld
      have hb2 := HB2.out
      obtain ⟨hpc, d0, d1, d2, d3, d4, d5, d6, d7, d8, d9, d10, d11⟩ := HS.out _ hb2
      have hrl2 : w.heap.size + 1 < w2.heap.size := Nat.lt_of_lt_of_le hrl hb2.size
      have hpl2 : w.heap.size + 1 + 1 < w2.heap.size := Nat.lt_of_lt_of_le hpl hb2.size
      have hB2 : w2.heap[w.heap.size]? = some (.cells _ 27 (0, 0)) := HB0.out.next hb2
      have HB2B := Lib.hid hB2
      clear hb2 hpl hrl
      go_wp2_with (refine wpList_store_row rfl _ _ _ rfl w.heap.size #[.string (str us), .int .i64 nodes, .int .i64 wall, .int .i64 qos, .slice pa na ca, .int .i64 cap, .int .i64 inn, .int .i64 out, .string (str pool), .slice pm nm cm, .slice pd nd cd, .slice pu nu cu] rfl rfl _ _ hB2 (by kernel_rfl) rfl (by kernel_rfl) ?_)
      have HDW := HDL.out
      have hs4 := HSZ.out
      have HD3 : (w2.setRow w.heap.size #[.string (str us), .int .i64 nodes, .int .i64 wall, .int .i64 qos, .slice pa na ca, .int .i64 cap, .int .i64 inn, .int .i64 out, .string (str pool), .slice pm nm cm, .slice pd nd cd, .slice pu nu cu]).heap[D]? = some (.deferred (some [])) := (setRow_other _ _ _ _ (by omega)).trans (HDN.out _ HB2.out)
      refine ⟨by simp, .inl ⟨_, _, rfl, run_takeDeferred HD3, ?_⟩⟩
      have HB4 : ((w2.setRow w.heap.size #[.string (str us), .int .i64 nodes, .int .i64 wall, .int .i64 qos, .slice pa na ca, .int .i64 cap, .int .i64 inn, .int .i64 out, .string (str pool), .slice pm nm cm, .slice pd nd cd, .slice pu nu cu]).putObj D (.deferred none)).heap[w.heap.size]? = some (.cells #[.string (str us), .int .i64 nodes, .int .i64 wall, .int .i64 qos, .slice pa na ca, .int .i64 cap, .int .i64 inn, .int .i64 out, .string (str pool), .slice pm nm cm, .slice pd nd cd, .slice pu nu cu] 27 (0, 0)) := (World.putObj_heap_other (by omega)).trans (setRow_heap _ _ _ _ _ _ HB2B.out)
      refine ⟨_, results_cell_row rfl _ _ _ _ _ _ _ rfl HB4 Tryz.underlying27 rfl (by kernel_rfl), ?_⟩
      refine ⟨(below_setRow (HLW.out.trans (HB2.out.mono HLW.out.size)) (Nat.le_refl _) _).trans (belowK_b (w := w) (Nat.le_refl _) _ D _ _ (by omega) HD3 rfl rfl), ?_⟩
      rw [HRD.out]
      refine ⟨⟨_, _, _, _⟩, rfl, ((HR.out.next HB2.out).kept fun b hb => ?_).so (by omega)⟩
      obtain ⟨hb1, _, u, hu, hcu⟩ := (HR.out.next HB2.out).lM hb
      have hu2 : (w2.setRow w.heap.size #[.string (str us), .int .i64 nodes, .int .i64 wall, .int .i64 qos, .slice pa na ca, .int .i64 cap, .int .i64 inn, .int .i64 out, .string (str pool), .slice pm nm cm, .slice pd nd cd, .slice pu nu cu]).heap[b]? = some u := (setRow_other _ _ _ _ (by omega)).trans hu
      exact ((cells_ne HD3 rfl hu2 hcu).trans hu2).trans hu.symm
  case pan =>
    rintro D ch W hDl ⟨e, i, hp, rfl, hb⟩ hD
    refine ⟨by simp, .inl ⟨_, _, rfl, run_takeDeferred hD, ?_⟩⟩
    refine ⟨hb.trans (belowK_b (w := w) (Nat.le_refl _) _ D _ _ (by have := HSZ.out; omega) hD rfl rfl), ?_⟩
    rw [hp]
end Go.Proofs.YtpmghgfgbkncoaaGreatDoor.gn
end
section
set_option linter.unusedVariables false
namespace Go.Proofs.YtpmghgfgbkncoaaGreatDoor.gn
open Go.ChangeShapes Go.WideShapes Go.ChangeAt Go.RowKit
open Go.Proofs.YtpmghgfgbkncoaaGreatDoor.di

section
variable {H : Type} {enc : TypeId × Value → H} {W : World}
theorem dTrod5 {P : Program} {base : Nat} {spare : Nat → Bool} {held : Bool} {t : TypeId} {f0 f1 f2 f3 f4 : Field} {fuel : Nat} {cs : List Value} {x : DataW H × List MemPlace} (ht : P.underlying t = some (.struct #[f0, f1, f2, f3, f4])) (h : DataW.trod enc P W base spare held fuel t cs = some x) :
    ∃ y0 y1 y2 y3 y4 n, DataW.trod enc P W base spare held n f0.type ((cs.drop f0.offset).take (P.cellsOf f0.type)) = some y0 ∧ DataW.trod enc P W base spare held n f1.type ((cs.drop f1.offset).take (P.cellsOf f1.type)) = some y1 ∧
      DataW.trod enc P W base spare held n f2.type ((cs.drop f2.offset).take (P.cellsOf f2.type)) = some y2 ∧ DataW.trod enc P W base spare held n f3.type ((cs.drop f3.offset).take (P.cellsOf f3.type)) = some y3 ∧ DataW.trod enc P W base spare held n f4.type ((cs.drop f4.offset).take (P.cellsOf f4.type)) = some y4 := by
  obtain ⟨xs, n, _, rfl, hl, hlen, hf⟩ := DataW.trod_struct ht h
  match xs, hlen with
  | [y0, y1, y2, y3, y4], _ => exact ⟨y0, y1, y2, y3, y4, n, by simpa using hf 0 f0 rfl, by simpa using hf 1 f1 rfl, by simpa using hf 2 f2 rfl, by simpa using hf 3 f3 rfl, by simpa using hf 4 f4 rfl⟩
theorem dStr : Tryz.prog.cellsOf 9 = 1 := by kernel_rfl
theorem dU8 : Tryz.prog.cellsOf 5 = 1 := by kernel_rfl
theorem dI64 : Tryz.prog.cellsOf 2 = 1 := by kernel_rfl
theorem dBool : Tryz.prog.cellsOf 4 = 1 := by kernel_rfl
theorem dDir : (Tryz.prog.info? 51).map (·.size) = some 5 := by kernel_rfl
theorem dDir5 : Tryz.prog.cellsOf 51 = 5 := by kernel_rfl
theorem arr5 {cs : Array Value} (h : cs.size = 5) : ∃ c0 c1 c2 c3 c4, cs = #[c0, c1, c2, c3, c4] := by
  obtain ⟨l⟩ := cs
  match l, h with
  | [c0, c1, c2, c3, c4], _ => exact ⟨c0, c1, c2, c3, c4, rfl⟩
set_option maxRecDepth 100000 in
theorem open_dir {base : Nat} {v : Value} {d : DataW H} {p : List MemPlace} (hv : Value.okWide Tryz.prog W .any base 51 v) (h : DataW.Trod enc Tryz.prog W 0 (fun _ => true) true 51 v d p) :
    ∃ a : Dir, v = dV a ∧ DW a := by
  obtain ⟨cs, rfl, hsz⟩ := okWide_struct Tryz.underlying51 hv
  obtain ⟨c0, c1, c2, c3, c4, rfl⟩ := arr5 (hsz.trans dDir5)
  obtain ⟨fuel, hf⟩ := h
  have hf' : DataW.trod enc Tryz.prog W 0 (fun _ => true) true fuel 51 [c0, c1, c2, c3, c4] = some (d, p) := by simpa [Value.cells] using hf
  obtain ⟨z0, z1, z2, z3, z4, m, k0, k1, k2, k3, k4⟩ := dTrod5 Tryz.underlying51 hf'
  have k0 : DataW.trod enc Tryz.prog W 0 (fun _ => true) true m 5 [c0] = some z0 := by simpa [dU8] using k0
  have k1 : DataW.trod enc Tryz.prog W 0 (fun _ => true) true m 9 [c1] = some z1 := by simpa [dStr] using k1
  have k2 : DataW.trod enc Tryz.prog W 0 (fun _ => true) true m 9 [c2] = some z2 := by simpa [dStr] using k2
  have k3 : DataW.trod enc Tryz.prog W 0 (fun _ => true) true m 2 [c3] = some z3 := by simpa [dI64] using k3
  have k4 : DataW.trod enc Tryz.prog W 0 (fun _ => true) true m 4 [c4] = some z4 := by simpa [dBool] using k4
  obtain ⟨q0, e0, _, w0⟩ := DataW.trod_int Tryz.underlying5 k0
  obtain ⟨s1, e1, _, hs1⟩ := DataW.trod_string Tryz.underlying9 k1
  obtain ⟨s2, e2, _, hs2⟩ := DataW.trod_string Tryz.underlying9 k2
  obtain ⟨q3, e3, _, w3⟩ := DataW.trod_int Tryz.underlying2 k3
  obtain ⟨b4, e4, _⟩ := DataW.trod_bool Tryz.underlying4 k4
  simp at e0 e1 e2 e3 e4
  subst e0 e1 e2 e3 e4
  obtain ⟨l1, u1⟩ : 0 ≤ q0 ∧ q0 ≤ 255 := by simpa [Lit.wf, IntKind.min, IntKind.max, IntKind.signed, IntKind.bits] using w0
  obtain ⟨l3, u3⟩ : -9223372036854775808 ≤ q3 ∧ q3 ≤ 9223372036854775807 := by simpa [Lit.wf, IntKind.min, IntKind.max, IntKind.signed, IntKind.bits] using w3
  refine ⟨⟨q0.toNat, s1.data.toList, s2.data.toList, q3, b4⟩, ?_, ⟨by show q0.toNat < 256; omega, ?_, ?_, l3, u3⟩⟩
  · have : ((q0.toNat : Nat) : Int) = q0 := by omega
    simp [dV, dcs, str_of, this]
  · have : s1.size ≤ maxLen := by simpa using hs1
    unfold maxLen at this
    show s1.data.toList.length ≤ _
    rw [Array.length_toList]
    exact this
  · have : s2.size ≤ maxLen := by simpa using hs2
    unfold maxLen at this
    show s2.data.toList.length ≤ _
    rw [Array.length_toList]
    exact this
end
end Go.Proofs.YtpmghgfgbkncoaaGreatDoor.gn
end
section
set_option linter.unusedVariables false
namespace Go.Proofs.YtpmghgfgbkncoaaGreatDoor.gn
open Go.ChangeShapes Go.WideShapes Go.ChangeAt Go.RowKit Go.Deep
open Go.Proofs.YtpmghgfgbkncoaaGreatDoor.un
open Go.Proofs.YtpmghgfgbkncoaaGreatDoor.di
open Go.Proofs.YtpmghgfgbkncoaaGreatDoor.sp (Slip)

section
variable {H : Type} {enc : TypeId × Value → H} {W : World}
/-- A slice of whatever elements, opened. -/
theorem open_rowG {α : Type} (f : α → List Value) {k : Nat} (hf : ∀ x, (f x).length = k) (hk0 : 0 < k) (ok : α → Prop) (z : α) {t e : TypeId} (ht : Tryz.prog.underlying t = some (.slice e)) (he : Tryz.prog.cellsOf e = k)
    (h1 : ∀ fuel cs x, DataW.trod enc Tryz.prog W 0 (fun _ => true) true fuel e cs = some x → cs.length = k → ∃ y, cs = f y ∧ ok y)
    {fuel : Nat} {v : Value} {x : DataW H × List MemPlace} (h : DataW.trod enc Tryz.prog W 0 (fun _ => true) true fuel t [v] = some x) : ∃ l : List α, RdC W v l.length (l.flatMap f) ∧ Cp v l.length ∧ ∀ y ∈ l, ok y := by
  rcases open_slice ht h with ⟨hcs, _⟩ | ⟨a, len, cap, m, n, D, Pl, hcs, _, hle, hcap, hm, _, hi⟩
  · simp at hcs
    subst hcs
    exact ⟨[], .inl ⟨none, 0, rfl, rfl, rfl, fun _ => rfl⟩, ⟨_, _, rfl, Nat.le_refl _, by decide⟩, fun y hy => by cases hy⟩
  · simp at hcs
    subst hcs
    simp at hm
    have hex : ∀ i, i < len → ∃ y : α, (∀ j u, (f y)[j]? = some u → W.cell? ((a.add (i * k)).add j) = some u) ∧ ok y := fun i hil => by
      obtain ⟨cs', hc, ht⟩ := hi i (by omega)
      rw [he] at hc
      obtain ⟨_, hl, hcells⟩ := World.cells?_some hc
      obtain ⟨y, hy, hw⟩ := h1 _ _ _ ht hl
      refine ⟨y, fun j u hu => ?_, hw⟩
      rw [← hy] at hu
      exact (hcells j (by obtain ⟨hj, _⟩ := List.getElem?_eq_some_iff.1 hu; omega)).trans hu
    have hLx : ∃ L : List α, L.length = len ∧ ∀ i (hil : i < L.length), (∀ j u, (f L[i])[j]? = some u → W.cell? ((a.add (i * k)).add j) = some u) ∧ ok L[i] := by
      refine ⟨(List.range len).map fun i => if hil : i < len then Classical.choose (hex i hil) else z, by simp, fun i hil => ?_⟩
      have hil' : i < len := by simpa using hil
      simp only [List.getElem_map, List.getElem_range, dif_pos hil']
      exact Classical.choose_spec (hex i hil')
    obtain ⟨L, rfl, hL⟩ := hLx
    refine ⟨L, ?_, ⟨_, _, rfl, hle, hcap⟩, fun y hy => ?_⟩
    · by_cases h0 : L.length = 0
      · have e : L = [] := List.eq_nil_of_length_eq_zero h0
        subst e
        exact .inl ⟨some a, cap, rfl, rfl, rfl, fun e => by cases e⟩
      · obtain ⟨b, off, spot⟩ := a
        have h00 := (hL 0 (by omega)).1 0 ((f L[0])[0]'(by rw [hf]; exact hk0)) (List.getElem?_eq_getElem _)
        have hspot : spot = none := by simpa [Addr.add] using World.cell?_spot h00
        subst hspot
        have hadd : ∀ o j, (⟨b, o, none⟩ : Addr).add j = ⟨b, o + j, none⟩ := fun o j => by unfold Addr.add; split <;> simp_all
        simp only [hadd] at h00
        refine .inr ⟨b, off, cap, rfl, World.block_lt_of_cell? W _ h00, fun j u hu => ?_⟩
        have hjl : j < L.length * k := by
          have := (List.getElem?_eq_some_iff.1 hu).1
          rwa [flat_len f k hf] at this
        have hdm : j / k < L.length := Nat.div_lt_of_lt_mul (by rwa [Nat.mul_comm])
        have hmod : j % k < k := Nat.mod_lt _ hk0
        have hj : j = j / k * k + j % k := by rw [Nat.mul_comm]; exact (Nat.div_add_mod j k).symm
        have hq := (hL (j / k) hdm).1 (j % k) u (by
          rw [hj, flat_at f k hf L (j / k) (j % k) L[j / k] (List.getElem?_eq_getElem hdm) hmod] at hu
          exact hu)
        rw [hadd, hadd, Nat.add_assoc, ← hj] at hq
        exact hq
    · obtain ⟨i, hil, rfl⟩ := List.mem_iff_getElem.1 hy
      exact (hL i hil).2
theorem list2 {α : Type} {l : List α} (h : l.length = 2) : ∃ a b, l = [a, b] := by
  match l, h with
  | [a, b], _ => exact ⟨a, b, rfl⟩
theorem list5 {α : Type} {l : List α} (h : l.length = 5) : ∃ a b c d e, l = [a, b, c, d, e] := by
  match l, h with
  | [a, b, c, d, e], _ => exact ⟨a, b, c, d, e, rfl⟩
theorem list12 {α : Type} {l : List α} (h : l.length = 12) : ∃ a b c d e f g h i j k m, l = [a, b, c, d, e, f, g, h, i, j, k, m] := by
  match l, h with
  | [a, b, c, d, e, f, g, h, i, j, k, m], _ => exact ⟨a, b, c, d, e, f, g, h, i, j, k, m, rfl⟩
theorem open_int64 {fuel : Nat} {v : Value} {x : DataW H × List MemPlace} (h : DataW.trod enc Tryz.prog W 0 (fun _ => true) true fuel 2 [v] = some x) : ∃ n : Int, v = .int .i64 n ∧ -9223372036854775808 ≤ n ∧ n ≤ 9223372036854775807 := by
  obtain ⟨k, hk, _, hw⟩ := DataW.trod_int Tryz.underlying2 h
  simp at hk
  obtain ⟨l3, u3⟩ : -9223372036854775808 ≤ k ∧ k ≤ 9223372036854775807 := by simpa [Lit.wf, IntKind.min, IntKind.max, IntKind.signed, IntKind.bits] using hw
  exact ⟨k, hk, l3, u3⟩
theorem open_str {fuel : Nat} {v : Value} {x : DataW H × List MemPlace} (h : DataW.trod enc Tryz.prog W 0 (fun _ => true) true fuel 9 [v] = some x) : ∃ l : Tx, v = .string (str l) ∧ l.length ≤ 9223372036854775807 := by
  obtain ⟨s, e, _, hs⟩ := DataW.trod_string Tryz.underlying9 h
  simp at e
  have : s.size ≤ maxLen := by simpa using hs
  unfold maxLen at this
  exact ⟨s.data.toList, by rw [e, str_of], by rw [Array.length_toList]; exact this⟩
theorem dDep2 : Tryz.prog.cellsOf 44 = 2 := by kernel_rfl
theorem open_dep {fuel : Nat} {cs : List Value} {x : DataW H × List MemPlace} (h : DataW.trod enc Tryz.prog W 0 (fun _ => true) true fuel 44 cs = some x) (hl : cs.length = 2) :
    ∃ d : Dep, cs = cA d ∧ (-9223372036854775808 ≤ d.1 ∧ d.1 ≤ 9223372036854775807) := by
  obtain ⟨c0, c1, rfl⟩ := list2 hl
  obtain ⟨xs, m, _, rfl, _, hlen, hf⟩ := DataW.trod_struct Tryz.underlying44 h
  obtain ⟨z0, z1, rfl⟩ := list2 hlen
  have k0 : DataW.trod enc Tryz.prog W 0 (fun _ => true) true m 2 [c0] = some z0 := by simpa [dI64] using hf 0 _ rfl
  have k1 : DataW.trod enc Tryz.prog W 0 (fun _ => true) true m 4 [c1] = some z1 := by simpa [dBool] using hf 1 _ rfl
  obtain ⟨n, rfl, hn⟩ := open_int64 k0
  obtain ⟨b, e1, _⟩ := DataW.trod_bool Tryz.underlying4 k1
  simp at e1
  subst e1
  exact ⟨(n, b), rfl, hn⟩
theorem open_dir5 {fuel : Nat} {cs : List Value} {x : DataW H × List MemPlace} (h : DataW.trod enc Tryz.prog W 0 (fun _ => true) true fuel 51 cs = some x) (hl : cs.length = 5) :
    ∃ d : Dir, cs = cM d ∧ DW d := by
  obtain ⟨c0, c1, c2, c3, c4, rfl⟩ := list5 hl
  obtain ⟨xs, m, _, rfl, _, hlen, hf⟩ := DataW.trod_struct Tryz.underlying51 h
  obtain ⟨z0, z1, z2, z3, z4, rfl⟩ := list5 hlen
  have k0 : DataW.trod enc Tryz.prog W 0 (fun _ => true) true m 5 [c0] = some z0 := by simpa [dU8] using hf 0 _ rfl
  have k1 : DataW.trod enc Tryz.prog W 0 (fun _ => true) true m 9 [c1] = some z1 := by simpa [dStr] using hf 1 _ rfl
  have k2 : DataW.trod enc Tryz.prog W 0 (fun _ => true) true m 9 [c2] = some z2 := by simpa [dStr] using hf 2 _ rfl
  have k3 : DataW.trod enc Tryz.prog W 0 (fun _ => true) true m 2 [c3] = some z3 := by simpa [dI64] using hf 3 _ rfl
  have k4 : DataW.trod enc Tryz.prog W 0 (fun _ => true) true m 4 [c4] = some z4 := by simpa [dBool] using hf 4 _ rfl
  obtain ⟨q0, e0, _, w0⟩ := DataW.trod_int Tryz.underlying5 k0
  obtain ⟨n1, rfl, hn1⟩ := open_str k1
  obtain ⟨n2, rfl, hn2⟩ := open_str k2
  obtain ⟨n3, rfl, hn3⟩ := open_int64 k3
  obtain ⟨b4, e4, _⟩ := DataW.trod_bool Tryz.underlying4 k4
  simp at e0 e4
  subst e0 e4
  obtain ⟨l1, u1⟩ : 0 ≤ q0 ∧ q0 ≤ 255 := by simpa [Lit.wf, IntKind.min, IntKind.max, IntKind.signed, IntKind.bits] using w0
  refine ⟨⟨q0.toNat, n1, n2, n3, b4⟩, ?_, ⟨by show q0.toNat < 256; omega, hn1, hn2, hn3.1, hn3.2⟩⟩
  have : ((q0.toNat : Nat) : Int) = q0 := by omega
  simp [cM, this]
theorem open_s1 {fuel : Nat} {cs : List Value} {x : DataW H × List MemPlace} (h : DataW.trod enc Tryz.prog W 0 (fun _ => true) true fuel 9 cs = some x) (hl : cs.length = 1) : ∃ l : Tx, cs = cS l ∧ l.length ≤ 9223372036854775807 := by
  match cs, hl with
  | [c], _ =>
    obtain ⟨l, rfl, h2⟩ := open_str h
    exact ⟨l, rfl, h2⟩
theorem dRA : Tryz.prog.cellsOf 23 = 1 := by kernel_rfl
theorem dRM : Tryz.prog.cellsOf 24 = 1 := by kernel_rfl
theorem dRS : Tryz.prog.cellsOf 25 = 1 := by kernel_rfl
theorem dSlip12 : Tryz.prog.cellsOf 27 = 12 := by kernel_rfl
set_option maxRecDepth 100000 in
theorem open_slip {base : Nat} {v : Value} {d : DataW H} {p : List MemPlace} (hv : Value.okWide Tryz.prog W .any base 27 v) (h : DataW.Trod enc Tryz.prog W 0 (fun _ => true) true 27 v d p) :
    ∃ (x : Slip) (g : Gh), v = sV x g ∧ SR W x g ∧ SW x := by
  obtain ⟨cs, rfl, hsz⟩ := okWide_struct Tryz.underlying27 hv
  obtain ⟨l⟩ := cs
  obtain ⟨c0, c1, c2, c3, c4, c5, c6, c7, c8, c9, c10, c11, rfl⟩ := list12 (show l.length = 12 from hsz.trans dSlip12)
  obtain ⟨fuel, hf⟩ := h
  have hf' : DataW.trod enc Tryz.prog W 0 (fun _ => true) true fuel 27 [c0, c1, c2, c3, c4, c5, c6, c7, c8, c9, c10, c11] = some (d, p) := by simpa [Value.cells] using hf
  obtain ⟨xs, m, _, _, _, hlen, hk⟩ := DataW.trod_struct Tryz.underlying27 hf'
  obtain ⟨z0, z1, z2, z3, z4, z5, z6, z7, z8, z9, z10, z11, rfl⟩ := list12 hlen
  have k0 : DataW.trod enc Tryz.prog W 0 (fun _ => true) true m 9 [c0] = some z0 := by simpa [dStr] using hk 0 _ rfl
  have k1 : DataW.trod enc Tryz.prog W 0 (fun _ => true) true m 2 [c1] = some z1 := by simpa [dI64] using hk 1 _ rfl
  have k2 : DataW.trod enc Tryz.prog W 0 (fun _ => true) true m 2 [c2] = some z2 := by simpa [dI64] using hk 2 _ rfl
  have k3 : DataW.trod enc Tryz.prog W 0 (fun _ => true) true m 2 [c3] = some z3 := by simpa [dI64] using hk 3 _ rfl
  have k4 : DataW.trod enc Tryz.prog W 0 (fun _ => true) true m 23 [c4] = some z4 := by simpa [dRA] using hk 4 _ rfl
  have k5 : DataW.trod enc Tryz.prog W 0 (fun _ => true) true m 2 [c5] = some z5 := by simpa [dI64] using hk 5 _ rfl
  have k6 : DataW.trod enc Tryz.prog W 0 (fun _ => true) true m 2 [c6] = some z6 := by simpa [dI64] using hk 6 _ rfl
  have k7 : DataW.trod enc Tryz.prog W 0 (fun _ => true) true m 2 [c7] = some z7 := by simpa [dI64] using hk 7 _ rfl
  have k8 : DataW.trod enc Tryz.prog W 0 (fun _ => true) true m 9 [c8] = some z8 := by simpa [dStr] using hk 8 _ rfl
  have k9 : DataW.trod enc Tryz.prog W 0 (fun _ => true) true m 24 [c9] = some z9 := by simpa [dRM] using hk 9 _ rfl
  have k10 : DataW.trod enc Tryz.prog W 0 (fun _ => true) true m 25 [c10] = some z10 := by simpa [dRS] using hk 10 _ rfl
  have k11 : DataW.trod enc Tryz.prog W 0 (fun _ => true) true m 25 [c11] = some z11 := by simpa [dRS] using hk 11 _ rfl
  obtain ⟨us, rfl, hus⟩ := open_str k0
  obtain ⟨nodes, rfl, hno⟩ := open_int64 k1
  obtain ⟨wall, rfl, hwa⟩ := open_int64 k2
  obtain ⟨qos, rfl, hqo⟩ := open_int64 k3
  obtain ⟨cap, rfl, hca⟩ := open_int64 k5
  obtain ⟨inn, rfl, hin⟩ := open_int64 k6
  obtain ⟨out, rfl, hou⟩ := open_int64 k7
  obtain ⟨pool, rfl, hpo⟩ := open_str k8
  obtain ⟨after, ra, pa, wa⟩ := open_rowG cA (k := 2) (fun _ => rfl) (by decide) (fun d : Dep => -9223372036854775808 ≤ d.1 ∧ d.1 ≤ 9223372036854775807) (0, false) Tryz.underlying23 dDep2 (fun _ _ _ h hl => open_dep h hl) k4
  obtain ⟨mk, rm, pm, wm⟩ := open_rowG cM (k := 5) (fun _ => rfl) (by decide) DW ⟨0, [], [], 0, false⟩ Tryz.underlying24 dDir5 (fun _ _ _ h hl => open_dir5 h hl) k9
  obtain ⟨dr, rd, pd, wd⟩ := open_rowG cS (k := 1) (fun _ => rfl) (by decide) (fun l : Tx => l.length ≤ 9223372036854775807) [] Tryz.underlying25 dStr (fun _ _ _ h hl => open_s1 h hl) k10
  obtain ⟨use, ru, pu, wu⟩ := open_rowG cS (k := 1) (fun _ => rfl) (by decide) (fun l : Tx => l.length ≤ 9223372036854775807) [] Tryz.underlying25 dStr (fun _ _ _ h hl => open_s1 h hl) k11
  exact ⟨⟨us, nodes, wall, qos, after, cap, inn, out, pool, mk, dr, use⟩, ⟨c4, c9, c10, c11⟩, rfl, ⟨ra, rm, rd, ru, pa, pm, pd, pu⟩, ⟨hus, hpo, hno, hwa, hqo, hca, hin, hou, wa, wm, wd, wu⟩⟩
end
end Go.Proofs.YtpmghgfgbkncoaaGreatDoor.gn
end
