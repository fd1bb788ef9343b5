/- Directories in memory: each has a table of files as they are, one of what is safe, and its open operations; what a step on one of them leaves of the others. -/
import Derived.Test.YtpbgckpjgfjmgaaFiI
import Derived.LaidEqlPtr
set_option linter.unusedVariables false
namespace Go.Proofs.Ytpbgckpjgfjmgaa.fi

/-- A directory: its room, what is safe, what is open since. -/
structure FS where
  room : Nat
  safe : Tb
  op : List FOp
def FS.now (s : FS) : Tb := replay s.op s.safe
def FS.wt (s : FS) : Nat := fi.wt s.safe + wts s.op
structure FS.Ok (s : FS) : Prop where
  room : s.room ≤ 16777216
  keyed : Keyed1 s.safe
  sound : Sound s.safe
  fits : fi.fits s.op s.safe
theorem FS.Ok.keyed_now {s : FS} (h : s.Ok) : Keyed1 s.now := keyed_replay h.keyed _
theorem FS.Ok.sound_now {s : FS} (h : s.Ok) : Sound s.now := sound_replay h.sound _
theorem FS.Ok.wt_now {s : FS} (h : s.Ok) : fi.wt s.now ≤ s.wt := wt_replay h.keyed _
def valid (n : Nm) : Bool := !n.isEmpty && decide (n.length ≤ 32)
/-- The error of a name that is looked up. -/
def FS.look (s : FS) (n : Nm) : Int := if valid n then (if (get n s.now).isSome then 0 else 7) else 2
/-- What is read at a name. -/
def FS.bytes (s : FS) (n : Nm) : List UInt8 := if s.look n = 0 then ((get n s.now).map (·.1)).getD [] else []
/-- What an operation leaves that no error forbids. -/
def FS.done (s : FS) (o : FOp) : FS := { s with op := s.op ++ [o] }
theorem FS.done_now (s : FS) (o : FOp) : (s.done o).now = doOp o s.now := replay_snoc _ _ _
theorem FS.Ok.done {s : FS} (h : s.Ok) {o : FOp} (hf : fit o s.now) : (s.done o).Ok := ⟨h.room, h.keyed, h.sound, fits_snoc _ _ _ h.fits hf⟩
theorem FS.done_wt (s : FS) (o : FOp) : (s.done o).wt = s.wt + o.wt := by simp only [FS.wt, FS.done, wts_app, wts]; omega
theorem look_zero {s : FS} {n : Nm} (h : s.look n = 0) : valid n = true ∧ ∃ f, get n s.now = some f := by
  unfold FS.look at h
  split at h
  · rename_i hv
    split at h
    · rename_i hs
      exact ⟨hv, Option.isSome_iff_exists.1 hs⟩
    · cases h
  · cases h
theorem valid_len {n : Nm} (h : valid n = true) : n.length ≤ 32 := by
  unfold valid at h
  simp at h
  exact h.2
end Go.Proofs.Ytpbgckpjgfjmgaa.fi

namespace Go.Proofs.Ytpbgckpjgfjmgaa.gn
open Go.RowKit
open Go.Proofs.Ytpbgckpjgfjmgaa.fi

/-- The two functions of an operation. -/
def CloOk (w : World) (X : Nat → Prop) (v : Value × Value) : FOp → Prop
  | .make n => n.length ≤ 32 ∧ ∃ b, v = (.func (.func 31) #[] #[.pointer (some ⟨b, 0, none⟩)], .nilFunc) ∧ BoxS w b n ∧ X b
  | .app n s => n.length ≤ 32 ∧ ∃ b b2, v = (.func (.func 33) #[] #[.pointer (some ⟨b, 0, none⟩), .pointer (some ⟨b2, 0, none⟩)], .func (.func 36) #[] #[.pointer (some ⟨b, 0, none⟩), .pointer (some ⟨b2, 0, none⟩)]) ∧ BoxS w b n ∧ BoxS w b2 s ∧ X b ∧ X b2
  | .cut n k => False
  | .ren n m => n.length ≤ 32 ∧ m.length ≤ 32 ∧ ∃ b b2, v = (.func (.func 63) #[] #[.pointer (some ⟨b, 0, none⟩), .pointer (some ⟨b2, 0, none⟩)], .nilFunc) ∧ BoxS w b n ∧ BoxS w b2 m ∧ X b ∧ X b2
  | .rem n => n.length ≤ 32 ∧ ∃ b, v = (.func (.func 69) #[] #[.pointer (some ⟨b, 0, none⟩)], .nilFunc) ∧ BoxS w b n ∧ X b
theorem CloOk.kept {w w' : World} {X Y : Nat → Prop} {v : Value × Value} {o : FOp} (h : CloOk w X v o) (hs : ∀ b cs, X b → w.heap[b]? = some (.cells cs 9 (0, 0)) → w'.heap[b]? = some (.cells cs 9 (0, 0)))
    (hi : ∀ b cs, X b → w.heap[b]? = some (.cells cs 3 (0, 0)) → w'.heap[b]? = some (.cells cs 3 (0, 0))) (hX : ∀ i, X i → Y i) : CloOk w' Y v o := by
  cases o with
  | make n => obtain ⟨hn, b, rfl, h1, h2⟩ := h; exact ⟨hn, b, rfl, hs b _ h2 h1, hX _ h2⟩
  | app n s => obtain ⟨hn, b, b2, rfl, h1, h2, h3, h4⟩ := h; exact ⟨hn, b, b2, rfl, hs b _ h3 h1, hs b2 _ h4 h2, hX _ h3, hX _ h4⟩
  | cut n k => exact False.elim h
  | ren n m => obtain ⟨hn, hm, b, b2, rfl, h1, h2, h3, h4⟩ := h; exact ⟨hn, hm, b, b2, rfl, hs b _ h3 h1, hs b2 _ h4 h2, hX _ h3, hX _ h4⟩
  | rem n => obtain ⟨hn, b, rfl, h1, h2⟩ := h; exact ⟨hn, b, rfl, hs b _ h2 h1, hX _ h2⟩
/-- The functions of these operations, in order. -/
inductive Clos (w : World) (X : Nat → Prop) : List (Value × Value) → List FOp → Prop
  | nil : Clos w X [] []
  | cons {c : Value × Value} {o : FOp} {cs : List (Value × Value)} {os : List FOp} : CloOk w X c o → Clos w X cs os → Clos w X (c :: cs) (o :: os)
theorem Clos.kept {w w' : World} {X Y : Nat → Prop} {cs : List (Value × Value)} {os : List FOp} (h : Clos w X cs os) (hk : ∀ c o, CloOk w X c o → CloOk w' Y c o) : Clos w' Y cs os := by
  induction h with
  | nil => exact .nil
  | cons h1 _ ih => exact .cons (hk _ _ h1) ih
theorem Clos.snoc {w : World} {X : Nat → Prop} {cs : List (Value × Value)} {os : List FOp} (h : Clos w X cs os) {c : Value × Value} {o : FOp} (h1 : CloOk w X c o) : Clos w X (cs ++ [c]) (os ++ [o]) := by
  induction h with
  | nil => exact .cons h1 .nil
  | cons h2 _ ih => exact .cons h2 ih
theorem Clos.len {w : World} {X : Nat → Prop} {cs : List (Value × Value)} {os : List FOp} (h : Clos w X cs os) : cs.length = os.length := by
  induction h with
  | nil => rfl
  | cons _ _ ih => simp [ih]
theorem Clos.at_ {w : World} {X : Nat → Prop} {cs : List (Value × Value)} {os : List FOp} (h : Clos w X cs os) : ∀ (i : Nat) (hi : i < os.length), ∃ c, cs[i]? = some c ∧ CloOk w X c os[i] := by
  induction h with
  | nil => intro i hi; simp at hi
  | cons h1 _ ih =>
    intro i hi
    match i with
    | 0 => exact ⟨_, rfl, h1⟩
    | i + 1 =>
      obtain ⟨c, h2, h3⟩ := ih i (by simpa using hi)
      exact ⟨c, by simpa using h2, by simpa using h3⟩
def flatC (cs : List (Value × Value)) : List Value := cs.flatMap fun c => [c.1, c.2]
theorem flatC_len (cs : List (Value × Value)) : (flatC cs).length = cs.length * 2 := by
  induction cs with
  | nil => rfl
  | cons c r ih => simp only [flatC, List.flatMap_cons, List.length_append, List.length_cons, List.length_nil] at ih ⊢; omega

/-- A directory's block. -/
def BlkD (w : World) (d : Nat) (room : Nat) (nb sb : Nat) (v : Value) : Prop :=
  w.heap[d]? = some (.cells #[.pointer (some ⟨d, 0, none⟩), .int .i64 (room : Int), .map (some nb), .map (some sb), v] 55 (0, 0))
def OpsOk (w : World) (X : Nat → Prop) (ga : Nat → Nat) (d : Nat) (v : Value) (os : List FOp) : Prop :=
  ∃ cs, w.ownsRow 0 64 2 v os.length (flatC cs) ∧ Clos w X cs os ∧ ∀ g, v.ownBlock = some g → X g ∧ ga g = d
structure DirOk (w : World) (X : Nat → Prop) (TT : Nat → Option Tb) (role : Nat → Nat × Bool) (ga : Nat → Nat) (d : Nat) (s : FS) (nb sb : Nat) (v : Value) : Prop where
  x : X d
  ok : s.Ok
  blk : BlkD w d s.room nb sb v
  now : TT nb = some s.now
  safe : TT sb = some s.safe
  rn : role nb = (d, true)
  rs : role sb = (d, false)
  ops : OpsOk w X ga d v s.op
def SysD (w : World) (X : Nat → Prop) (TT : Nat → Option Tb) (role : Nat → Nat × Bool) (ga : Nat → Nat) (D : Nat → Option FS) : Prop :=
  SysT w X TT ∧ ∀ d s, D d = some s → ∃ nb sb v, DirOk w X TT role ga d s nb sb v
/-- Directories in memory, of which X holds all blocks. -/
def Sys (w : World) (X : Nat → Prop) (D : Nat → Option FS) : Prop := ∃ TT role ga, SysD w X TT role ga D

theorem row_kept {w w' : World} {B : Nat} {e : TypeId} {size n : Nat} {v : Value} {xs : List Value} (h : w.ownsRow B e size v n xs) (hk : ∀ g cs, v.ownBlock = some g → w.heap[g]? = some (.cells cs e (0, 0)) → w'.heap[g]? = some (.cells cs e (0, 0))) : w'.ownsRow B e size v n xs := by
  refine ⟨h.1, ?_⟩
  rcases h.2 with hn | ⟨g, cap, cur, rfl, hB, hgg, rest⟩
  · exact .inl hn
  · exact .inr ⟨g, cap, cur, rfl, hB, hk g cur rfl hgg, rest⟩
theorem OpsOk.kept {w w' : World} {X Y : Nat → Prop} {ga ga' : Nat → Nat} {d : Nat} {v : Value} {os : List FOp} (h : OpsOk w X ga d v os) (hk : ∀ i cs t, X i → w.heap[i]? = some (.cells cs t (0, 0)) → (t = 9 ∨ t = 3 ∨ (t = 64 ∧ ga i = d)) → w'.heap[i]? = some (.cells cs t (0, 0)))
    (hX : ∀ i, X i → Y i) (hg : ∀ i, i < w.heap.size → ga' i = ga i) : OpsOk w' Y ga' d v os := by
  obtain ⟨cs, h1, h2, h3⟩ := h
  refine ⟨cs, row_kept h1 fun g c hg hh => hk g c _ (h3 g hg).1 hh (.inr (.inr ⟨rfl, (h3 g hg).2⟩)), h2.kept fun c o ho => ho.kept (fun b c hX hh => hk b c _ hX hh (.inl rfl)) (fun b c hX hh => hk b c _ hX hh (.inr (.inl rfl))) hX, fun g hgv => ⟨hX _ (h3 g hgv).1, ?_⟩⟩
  rw [hg g (h1.lt g hgv).2]
  exact (h3 g hgv).2

/-- A step on directory d. -/
theorem SysD.turn {w w' : World} {X Y : Nat → Prop} {TT TT' : Nat → Option Tb} {role role' : Nat → Nat × Bool} {ga ga' : Nat → Nat} {D : Nat → Option FS} (h : SysD w X TT role ga D) (d : Nat) (s' : FS)
    (hT : SysT w' Y TT') (hTT : ∀ b, b < w.heap.size → (role b).1 ≠ d → TT' b = TT b) (hX : ∀ i, X i → Y i)
    (hk : ∀ i cs t, X i → w.heap[i]? = some (.cells cs t (0, 0)) → (t = 55 ∧ i ≠ d ∨ t = 9 ∨ t = 3 ∨ (t = 64 ∧ ga i ≠ d)) → w'.heap[i]? = some (.cells cs t (0, 0)))
    (hr : ∀ i, i < w.heap.size → role' i = role i) (hg : ∀ i, i < w.heap.size → ga' i = ga i) {nb sb : Nat} {v : Value} (hd : DirOk w' Y TT' role' ga' d s' nb sb v) : SysD w' Y TT' role' ga' (upd D d s') := by
  refine ⟨hT, fun d2 s2 hd2 => ?_⟩
  by_cases e : d2 = d
  · subst e
    rw [upd_same] at hd2
    cases hd2
    exact ⟨nb, sb, v, hd⟩
  · rw [upd_other _ _ e] at hd2
    obtain ⟨n2, s3, v2, h2⟩ := h.2 d2 s2 hd2
    have l1 := (h.1.lt h2.now).1
    have l2 := (h.1.lt h2.safe).1
    exact ⟨n2, s3, v2, hX _ h2.x, h2.ok, hk d2 _ _ h2.x h2.blk (.inl ⟨rfl, e⟩), by rw [hTT _ l1 (by rw [h2.rn]; exact e)]; exact h2.now, by rw [hTT _ l2 (by rw [h2.rs]; exact e)]; exact h2.safe,
      by rw [hr _ l1]; exact h2.rn, by rw [hr _ l2]; exact h2.rs, h2.ops.kept (fun i cs t hXi hh ht => hk i cs t hXi hh (by
        rcases ht with ht | ht | ⟨ht, h4⟩
        · exact .inr (.inl ht)
        · exact .inr (.inr (.inl ht))
        · exact .inr (.inr (.inr ⟨ht, by rw [h4]; exact e⟩)))) hX hg⟩

theorem Sys.kept {w w' : World} {X : Nat → Prop} {D : Nat → Option FS} (h : Sys w X D) (hk : ∀ i, i < w.heap.size → X i → w'.heap[i]? = w.heap[i]?) : Sys w' X D := by
  obtain ⟨TT, role, ga, h1, h2⟩ := h
  refine ⟨TT, role, ga, h1.kept hk, fun d s hd => ?_⟩
  obtain ⟨nb, sb, v, h3⟩ := h2 d s hd
  exact ⟨nb, sb, v, h3.x, h3.ok, (hk d (lt_of_block h3.blk) h3.x).trans h3.blk, h3.now, h3.safe, h3.rn, h3.rs, h3.ops.kept (fun i cs t hX hh _ => (hk i (lt_of_block hh) hX).trans hh) (fun _ h => h) (fun _ _ => rfl)⟩
theorem Sys.below {w w' : World} {X : Nat → Prop} {D : Nat → Option FS} (h : Sys w X D) (hb : Below w.heap.size w w') : Sys w' X D := h.kept fun i hi _ => hb.block i hi
theorem Sys.more {w : World} {X Y : Nat → Prop} {D : Nat → Option FS} (h : Sys w X D) (hX : ∀ i, X i → Y i) : Sys w Y D := by
  obtain ⟨TT, role, ga, h1, h2⟩ := h
  refine ⟨TT, role, ga, h1.more hX, fun d s hd => ?_⟩
  obtain ⟨nb, sb, v, h3⟩ := h2 d s hd
  exact ⟨nb, sb, v, hX _ h3.x, h3.ok, h3.blk, h3.now, h3.safe, h3.rn, h3.rs, h3.ops.kept (fun i cs t _ hh _ => hh) hX (fun _ _ => rfl)⟩
theorem Sys.sub {w : World} {X : Nat → Prop} {D D' : Nat → Option FS} (h : Sys w X D) (hD : ∀ d s, D' d = some s → D d = some s) : Sys w X D' := by
  obtain ⟨TT, role, ga, h1, h2⟩ := h
  exact ⟨TT, role, ga, h1, fun d s hd => h2 d s (hD d s hd)⟩
/-- No directory at all. -/
theorem Sys.none_ (w : World) (X : Nat → Prop) : Sys w X fun _ => none :=
  ⟨fun _ => none, fun _ => (0, false), fun _ => 0, ⟨⟨fun _ => [], fun _ => ([], false), fun _ => 0, fun _ => 0, fun _ => 0⟩, fun _ _ h => by cases h⟩, fun _ _ h => by cases h⟩
theorem Sys.ok {w : World} {X : Nat → Prop} {D : Nat → Option FS} {d : Nat} {s : FS} (h : Sys w X D) (hd : D d = some s) : s.Ok := by
  obtain ⟨TT, role, ga, h1, h2⟩ := h
  obtain ⟨nb, sb, v, h3⟩ := h2 d s hd
  exact h3.ok
theorem Sys.lt {w : World} {X : Nat → Prop} {D : Nat → Option FS} {d : Nat} {s : FS} (h : Sys w X D) (hd : D d = some s) : d < w.heap.size := by
  obtain ⟨TT, role, ga, h1, h2⟩ := h
  obtain ⟨nb, sb, v, h3⟩ := h2 d s hd
  exact lt_of_block h3.blk

/-- Behind a call on directories: it answers v; they are D now; nothing has turned but blocks of X. -/
def Does (X : Nat → Prop) (D : Nat → Option FS) (v : Value) (w : World) (e : Ending) (w' : World) : Prop := e = .returned v ∧ Sys w' (ext X w w') D ∧ Only X w w'
/-- .. it answers v, and nothing has turned. -/
def Asks (v : Value) (w : World) (e : Ending) (w' : World) : Prop := e = .returned v ∧ Below w.heap.size w w'
end Go.Proofs.Ytpbgckpjgfjmgaa.gn
