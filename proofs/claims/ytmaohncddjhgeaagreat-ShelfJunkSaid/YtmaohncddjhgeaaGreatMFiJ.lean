/- Directories in memory: each has a table of files as they are, one of what is safe, and its open operations; what a step on one of them leaves of the others. -/
import Derived.Test.YtmaohncddjhgeaaGreatMFiI
import Derived.LaidEqlPtr
section
set_option linter.unusedVariables false
namespace Go.Proofs.YtmaohncddjhgeaaGreat.fi

/-- A directory: its room, what is safe, what is open since. -/
structure FS where
  room : Nat
  safe : Tb
  op : List FOp
def FS.now (s : FS) : Tb := replay s.op s.safe
def FS.wt (s : FS) : Nat := fi.wt s.safe + wts s.op
structure FS.Ok (s : FS) : Prop where
  room : s.room ≤ 16777216
  keyed : Keyed1 s.safe
  sound : Sound s.safe
  fits : fi.fits s.op s.safe
theorem FS.Ok.keyed_now {s : FS} (h : s.Ok) : Keyed1 s.now := keyed_replay h.keyed _
theorem FS.Ok.sound_now {s : FS} (h : s.Ok) : Sound s.now := sound_replay h.sound _
theorem FS.Ok.wt_now {s : FS} (h : s.Ok) : fi.wt s.now ≤ s.wt := wt_replay h.keyed _
def valid (n : Nm) : Bool := !n.isEmpty && decide (n.length ≤ 32)
/-- The error of a name that is looked up. -/
def FS.look (s : FS) (n : Nm) : Int := if valid n then (if (get n s.now).isSome then 0 else 7) else 2
/-- What is read at a name. -/
def FS.bytes (s : FS) (n : Nm) : List UInt8 := if s.look n = 0 then ((get n s.now).map (·.1)).getD [] else []
/-- What an operation leaves that no error forbids. -/
def FS.done (s : FS) (o : FOp) : FS := { s with op := s.op ++ [o] }
theorem FS.done_now (s : FS) (o : FOp) : (s.done o).now = doOp o s.now := replay_snoc _ _ _
theorem FS.Ok.done {s : FS} (h : s.Ok) {o : FOp} (hf : fit o s.now) : (s.done o).Ok := ⟨h.room, h.keyed, h.sound, fits_snoc _ _ _ h.fits hf⟩
theorem FS.done_wt (s : FS) (o : FOp) : (s.done o).wt = s.wt + o.wt := by simp only [FS.wt, FS.done, wts_app, wts]; omega
theorem look_zero {s : FS} {n : Nm} (h : s.look n = 0) : valid n = true ∧ ∃ f, get n s.now = some f := by
  unfold FS.look at h
  split at h
  · rename_i hv
    split at h
    · rename_i hs
      exact ⟨hv, Option.isSome_iff_exists.1 hs⟩
    · cases h
  · cases h
theorem valid_len {n : Nm} (h : valid n = true) : n.length ≤ 32 := by
  unfold valid at h
  simp at h
  exact h.2
end Go.Proofs.YtmaohncddjhgeaaGreat.fi

namespace Go.Proofs.YtmaohncddjhgeaaGreat.gn
open Go.RowKit
open Go.Proofs.YtmaohncddjhgeaaGreat.fi

/-- The two functions of an operation. -/
def CloOk (w : World) (X : Nat → Prop) (v : Value × Value) : FOp → Prop
  | .make n => n.length ≤ 32 ∧ ∃ b, v = (.func (.func 39) #[] #[.pointer (some ⟨b, 0, none⟩)], .nilFunc) ∧ BoxS w b n ∧ X b
  | .app n s => n.length ≤ 32 ∧ ∃ b b2, v = (.func (.func 41) #[] #[.pointer (some ⟨b, 0, none⟩), .pointer (some ⟨b2, 0, none⟩)], .func (.func 44) #[] #[.pointer (some ⟨b, 0, none⟩), .pointer (some ⟨b2, 0, none⟩)]) ∧ BoxS w b n ∧ BoxS w b2 s ∧ X b ∧ X b2
  | .cut n k => n.length ≤ 32 ∧ ∃ b b2, v = (.func (.func 142) #[] #[.pointer (some ⟨b, 0, none⟩), .pointer (some ⟨b2, 0, none⟩)], .nilFunc) ∧ BoxS w b n ∧ BoxI w b2 (k : Int) ∧ X b ∧ X b2
  | .ren n m => n.length ≤ 32 ∧ m.length ≤ 32 ∧ ∃ b b2, v = (.func (.func 127) #[] #[.pointer (some ⟨b, 0, none⟩), .pointer (some ⟨b2, 0, none⟩)], .nilFunc) ∧ BoxS w b n ∧ BoxS w b2 m ∧ X b ∧ X b2
  | .rem n => n.length ≤ 32 ∧ ∃ b, v = (.func (.func 140) #[] #[.pointer (some ⟨b, 0, none⟩)], .nilFunc) ∧ BoxS w b n ∧ X b
theorem CloOk.kept {w w' : World} {X Y : Nat → Prop} {v : Value × Value} {o : FOp} (h : CloOk w X v o) (hs : ∀ b cs, X b → w.heap[b]? = some (.cells cs 9 (0, 0)) → w'.heap[b]? = some (.cells cs 9 (0, 0)))
    (hi : ∀ b cs, X b → w.heap[b]? = some (.cells cs 3 (0, 0)) → w'.heap[b]? = some (.cells cs 3 (0, 0))) (hX : ∀ i, X i → Y i) : CloOk w' Y v o := by
  cases o with
  | make n => obtain ⟨hn, b, rfl, h1, h2⟩ := h; exact ⟨hn, b, rfl, hs b _ h2 h1, hX _ h2⟩
  | app n s => obtain ⟨hn, b, b2, rfl, h1, h2, h3, h4⟩ := h; exact ⟨hn, b, b2, rfl, hs b _ h3 h1, hs b2 _ h4 h2, hX _ h3, hX _ h4⟩
  | cut n k => obtain ⟨hn, b, b2, rfl, h1, h2, h3, h4⟩ := h; exact ⟨hn, b, b2, rfl, hs b _ h3 h1, hi b2 _ h4 h2, hX _ h3, hX _ h4⟩
  | ren n m => obtain ⟨hn, hm, b, b2, rfl, h1, h2, h3, h4⟩ := h; exact ⟨hn, hm, b, b2, rfl, hs b _ h3 h1, hs b2 _ h4 h2, hX _ h3, hX _ h4⟩
  | rem n => obtain ⟨hn, b, rfl, h1, h2⟩ := h; exact ⟨hn, b, rfl, hs b _ h2 h1, hX _ h2⟩
/-- The functions of these operations, in order. -/
inductive Clos (w : World) (X : Nat → Prop) : List (Value × Value) → List FOp → Prop
  | nil : Clos w X [] []
  | cons {c : Value × Value} {o : FOp} {cs : List (Value × Value)} {os : List FOp} : CloOk w X c o → Clos w X cs os → Clos w X (c :: cs) (o :: os)
theorem Clos.kept {w w' : World} {X Y : Nat → Prop} {cs : List (Value × Value)} {os : List FOp} (h : Clos w X cs os) (hk : ∀ c o, CloOk w X c o → CloOk w' Y c o) : Clos w' Y cs os := by
  induction h with
  | nil => exact .nil
  | cons h1 _ ih => exact .cons (hk _ _ h1) ih
theorem Clos.snoc {w : World} {X : Nat → Prop} {cs : List (Value × Value)} {os : List FOp} (h : Clos w X cs os) {c : Value × Value} {o : FOp} (h1 : CloOk w X c o) : Clos w X (cs ++ [c]) (os ++ [o]) := by
  induction h with
  | nil => exact .cons h1 .nil
  | cons h2 _ ih => exact .cons h2 ih
theorem Clos.len {w : World} {X : Nat → Prop} {cs : List (Value × Value)} {os : List FOp} (h : Clos w X cs os) : cs.length = os.length := by
  induction h with
  | nil => rfl
  | cons _ _ ih => simp [ih]
theorem Clos.at_ {w : World} {X : Nat → Prop} {cs : List (Value × Value)} {os : List FOp} (h : Clos w X cs os) : ∀ (i : Nat) (hi : i < os.length), ∃ c, cs[i]? = some c ∧ CloOk w X c os[i] := by
  induction h with
  | nil => intro i hi; simp at hi
  | cons h1 _ ih =>
    intro i hi
    match i with
    | 0 => exact ⟨_, rfl, h1⟩
    | i + 1 =>
      obtain ⟨c, h2, h3⟩ := ih i (by simpa using hi)
      exact ⟨c, by simpa using h2, by simpa using h3⟩
def flatC (cs : List (Value × Value)) : List Value := cs.flatMap fun c => [c.1, c.2]
theorem flatC_len (cs : List (Value × Value)) : (flatC cs).length = cs.length * 2 := by
  induction cs with
  | nil => rfl
  | cons c r ih => simp only [flatC, List.flatMap_cons, List.length_append, List.length_cons, List.length_nil] at ih ⊢; omega

/-- A directory's block. -/
def BlkD (w : World) (d : Nat) (room : Nat) (nb sb : Nat) (v : Value) : Prop :=
  w.heap[d]? = some (.cells #[.pointer (some ⟨d, 0, none⟩), .int .i64 (room : Int), .map (some nb), .map (some sb), v] 69 (0, 0))
def OpsOk (w : World) (X : Nat → Prop) (ga : Nat → Nat) (d : Nat) (v : Value) (os : List FOp) : Prop :=
  ∃ cs, w.ownsRow 0 88 2 v os.length (flatC cs) ∧ Clos w X cs os ∧ ∀ g, v.ownBlock = some g → X g ∧ ga g = d
structure DirOk (w : World) (X : Nat → Prop) (TT : Nat → Option Tb) (role : Nat → Nat × Bool) (ga : Nat → Nat) (d : Nat) (s : FS) (nb sb : Nat) (v : Value) : Prop where
  x : X d
  ok : s.Ok
  blk : BlkD w d s.room nb sb v
  now : TT nb = some s.now
  safe : TT sb = some s.safe
  rn : role nb = (d, true)
  rs : role sb = (d, false)
  ops : OpsOk w X ga d v s.op
def SysD (w : World) (X : Nat → Prop) (TT : Nat → Option Tb) (role : Nat → Nat × Bool) (ga : Nat → Nat) (D : Nat → Option FS) : Prop :=
  SysT w X TT ∧ ∀ d s, D d = some s → ∃ nb sb v, DirOk w X TT role ga d s nb sb v
/-- Directories in memory, of which X holds all blocks. -/
def Sys (w : World) (X : Nat → Prop) (D : Nat → Option FS) : Prop := ∃ TT role ga, SysD w X TT role ga D

theorem row_kept {w w' : World} {B : Nat} {e : TypeId} {size n : Nat} {v : Value} {xs : List Value} (h : w.ownsRow B e size v n xs) (hk : ∀ g cs, v.ownBlock = some g → w.heap[g]? = some (.cells cs e (0, 0)) → w'.heap[g]? = some (.cells cs e (0, 0))) : w'.ownsRow B e size v n xs := by
  refine ⟨h.1, ?_⟩
  rcases h.2 with hn | ⟨g, cap, cur, rfl, hB, hgg, rest⟩
  · exact .inl hn
  · exact .inr ⟨g, cap, cur, rfl, hB, hk g cur rfl hgg, rest⟩
theorem OpsOk.kept {w w' : World} {X Y : Nat → Prop} {ga ga' : Nat → Nat} {d : Nat} {v : Value} {os : List FOp} (h : OpsOk w X ga d v os) (hk : ∀ i cs t, X i → w.heap[i]? = some (.cells cs t (0, 0)) → (t = 9 ∨ t = 3 ∨ (t = 88 ∧ ga i = d)) → w'.heap[i]? = some (.cells cs t (0, 0)))
    (hX : ∀ i, X i → Y i) (hg : ∀ i, i < w.heap.size → ga' i = ga i) : OpsOk w' Y ga' d v os := by
  obtain ⟨cs, h1, h2, h3⟩ := h
  refine ⟨cs, row_kept h1 fun g c hg hh => hk g c _ (h3 g hg).1 hh (.inr (.inr ⟨rfl, (h3 g hg).2⟩)), h2.kept fun c o ho => ho.kept (fun b c hX hh => hk b c _ hX hh (.inl rfl)) (fun b c hX hh => hk b c _ hX hh (.inr (.inl rfl))) hX, fun g hgv => ⟨hX _ (h3 g hgv).1, ?_⟩⟩
  rw [hg g (h1.lt g hgv).2]
  exact (h3 g hgv).2

/-- A step on directory d. -/
theorem SysD.turn {w w' : World} {X Y : Nat → Prop} {TT TT' : Nat → Option Tb} {role role' : Nat → Nat × Bool} {ga ga' : Nat → Nat} {D : Nat → Option FS} (h : SysD w X TT role ga D) (d : Nat) (s' : FS)
    (hT : SysT w' Y TT') (hTT : ∀ b, b < w.heap.size → (role b).1 ≠ d → TT' b = TT b) (hX : ∀ i, X i → Y i)
    (hk : ∀ i cs t, X i → w.heap[i]? = some (.cells cs t (0, 0)) → (t = 69 ∧ i ≠ d ∨ t = 9 ∨ t = 3 ∨ (t = 88 ∧ ga i ≠ d)) → w'.heap[i]? = some (.cells cs t (0, 0)))
    (hr : ∀ i, i < w.heap.size → role' i = role i) (hg : ∀ i, i < w.heap.size → ga' i = ga i) {nb sb : Nat} {v : Value} (hd : DirOk w' Y TT' role' ga' d s' nb sb v) : SysD w' Y TT' role' ga' (upd D d s') := by
  refine ⟨hT, fun d2 s2 hd2 => ?_⟩
  by_cases e : d2 = d
  · subst e
    rw [upd_same] at hd2
    cases hd2
    exact ⟨nb, sb, v, hd⟩
  · rw [upd_other _ _ e] at hd2
    obtain ⟨n2, s3, v2, h2⟩ := h.2 d2 s2 hd2
    have l1 := (h.1.lt h2.now).1
    have l2 := (h.1.lt h2.safe).1
    exact ⟨n2, s3, v2, hX _ h2.x, h2.ok, hk d2 _ _ h2.x h2.blk (.inl ⟨rfl, e⟩), by rw [hTT _ l1 (by rw [h2.rn]; exact e)]; exact h2.now, by rw [hTT _ l2 (by rw [h2.rs]; exact e)]; exact h2.safe,
      by rw [hr _ l1]; exact h2.rn, by rw [hr _ l2]; exact h2.rs, h2.ops.kept (fun i cs t hXi hh ht => hk i cs t hXi hh (by
        rcases ht with ht | ht | ⟨ht, h4⟩
        · exact .inr (.inl ht)
        · exact .inr (.inr (.inl ht))
        · exact .inr (.inr (.inr ⟨ht, by rw [h4]; exact e⟩)))) hX hg⟩

theorem Sys.kept {w w' : World} {X : Nat → Prop} {D : Nat → Option FS} (h : Sys w X D) (hk : ∀ i, i < w.heap.size → X i → w'.heap[i]? = w.heap[i]?) : Sys w' X D := by
  obtain ⟨TT, role, ga, h1, h2⟩ := h
  refine ⟨TT, role, ga, h1.kept hk, fun d s hd => ?_⟩
  obtain ⟨nb, sb, v, h3⟩ := h2 d s hd
  exact ⟨nb, sb, v, h3.x, h3.ok, (hk d (lt_of_block h3.blk) h3.x).trans h3.blk, h3.now, h3.safe, h3.rn, h3.rs, h3.ops.kept (fun i cs t hX hh _ => (hk i (lt_of_block hh) hX).trans hh) (fun _ h => h) (fun _ _ => rfl)⟩
theorem Sys.below {w w' : World} {X : Nat → Prop} {D : Nat → Option FS} (h : Sys w X D) (hb : Below w.heap.size w w') : Sys w' X D := h.kept fun i hi _ => hb.block i hi
theorem Sys.more {w : World} {X Y : Nat → Prop} {D : Nat → Option FS} (h : Sys w X D) (hX : ∀ i, X i → Y i) : Sys w Y D := by
  obtain ⟨TT, role, ga, h1, h2⟩ := h
  refine ⟨TT, role, ga, h1.more hX, fun d s hd => ?_⟩
  obtain ⟨nb, sb, v, h3⟩ := h2 d s hd
  exact ⟨nb, sb, v, hX _ h3.x, h3.ok, h3.blk, h3.now, h3.safe, h3.rn, h3.rs, h3.ops.kept (fun i cs t _ hh _ => hh) hX (fun _ _ => rfl)⟩
theorem Sys.sub {w : World} {X : Nat → Prop} {D D' : Nat → Option FS} (h : Sys w X D) (hD : ∀ d s, D' d = some s → D d = some s) : Sys w X D' := by
  obtain ⟨TT, role, ga, h1, h2⟩ := h
  exact ⟨TT, role, ga, h1, fun d s hd => h2 d s (hD d s hd)⟩
/-- No directory at all. -/
theorem Sys.none_ (w : World) (X : Nat → Prop) : Sys w X fun _ => none :=
  ⟨fun _ => none, fun _ => (0, false), fun _ => 0, ⟨⟨fun _ => [], fun _ => ([], false), fun _ => 0, fun _ => 0, fun _ => 0⟩, fun _ _ h => by cases h⟩, fun _ _ h => by cases h⟩
theorem Sys.ok {w : World} {X : Nat → Prop} {D : Nat → Option FS} {d : Nat} {s : FS} (h : Sys w X D) (hd : D d = some s) : s.Ok := by
  obtain ⟨TT, role, ga, h1, h2⟩ := h
  obtain ⟨nb, sb, v, h3⟩ := h2 d s hd
  exact h3.ok
theorem Sys.lt {w : World} {X : Nat → Prop} {D : Nat → Option FS} {d : Nat} {s : FS} (h : Sys w X D) (hd : D d = some s) : d < w.heap.size := by
  obtain ⟨TT, role, ga, h1, h2⟩ := h
  obtain ⟨nb, sb, v, h3⟩ := h2 d s hd
  exact lt_of_block h3.blk

/-- Behind a call on directories: it answers v; they are D now; nothing has turned but blocks of X. -/
def Does (X : Nat → Prop) (D : Nat → Option FS) (v : Value) (w : World) (e : Ending) (w' : World) : Prop := e = .returned v ∧ Sys w' (ext X w w') D ∧ Only X w w'
/-- .. it answers v, and nothing has turned. -/
def Asks (v : Value) (w : World) (e : Ending) (w' : World) : Prop := e = .returned v ∧ Below w.heap.size w w'
end Go.Proofs.YtmaohncddjhgeaaGreat.gn
end
section
set_option linter.unusedVariables false
set_option maxRecDepth 100000
namespace Go.Proofs.YtmaohncddjhgeaaGreat.gn
open Go.RowKit
open Go.Proofs.YtmaohncddjhgeaaGreat.fi

theorem BlkD.cells {w : World} {d room nb sb : Nat} {v : Value} (h : BlkD w d room nb sb v) :
    w.cell? ⟨d, 0, none⟩ = some (.pointer (some ⟨d, 0, none⟩)) ∧ w.cell? ⟨d, 1, none⟩ = some (.int .i64 (room : Int)) ∧ w.cell? ⟨d, 2, none⟩ = some (.map (some nb)) ∧ w.cell? ⟨d, 3, none⟩ = some (.map (some sb)) ∧ w.cell? ⟨d, 4, none⟩ = some v :=
  ⟨by rw [cell_of_row w d 0 _ _ _ h]; rfl, by rw [cell_of_row w d 1 _ _ _ h]; rfl, by rw [cell_of_row w d 2 _ _ _ h]; rfl, by rw [cell_of_row w d 3 _ _ _ h]; rfl, by rw [cell_of_row w d 4 _ _ _ h]; rfl⟩

theorem dirInfo : ∃ j, Tryz.prog.info? 69 = some j := by
  have h : (Tryz.prog.info? 69).isSome = true := by kernel_rfl
  exact Option.isSome_iff_exists.1 h

set_option maxHeartbeats 1000000 in
theorem is_any (w : World) (d : Nat) (hc : w.cell? ⟨d, 0, none⟩ = some (.pointer (some ⟨d, 0, none⟩))) :
    Calls Tryz.prog 46 #[.pointer (some ⟨d, 0, none⟩)] w fun e w' => e = .returned (.bool true) ∧ w = w' := by
  obtain ⟨j, hj⟩ := dirInfo
  have heq := run_eql_ptr_same (P := Tryz.prog) w ⟨d, 0, none⟩ Tryz.underlying25 hj
  clear hj
  go_enter Tryz.func46, Tryz.ntmps46
  go_wp2
  go_ret
  exact ⟨rfl, rfl⟩

theorem fret {a b : Int} (h : a = b) : Ending.returned (.int .i64 a) = .returned (.int .i64 b) := by rw [h]
/-- The error of names. -/
def chk (ns : List Nm) : Int := if ns.all valid then 0 else 2
theorem valid_not {n : Nm} (h : valid n = false) : n = [] ∨ 32 < n.length := by
  unfold valid at h
  simp at h
  by_cases hn : n = []
  · exact .inl hn
  · exact .inr (h hn)
theorem valid_yes {n : Nm} (h : valid n = true) : n ≠ [] ∧ n.length ≤ 32 := by
  unfold valid at h
  simpa using h

set_option maxHeartbeats 4000000 in
theorem check_any (w : World) (d g c : Nat) (ns : List Nm) (hc : w.cell? ⟨d, 0, none⟩ = some (.pointer (some ⟨d, 0, none⟩))) (hn : ∀ j (h : j < ns.length), w.cell? ⟨g, j, none⟩ = some (.string (str ns[j]))) (h0 : 0 < ns.length) (hl : ns.length ≤ 1000) :
    Calls Tryz.prog 70 #[.pointer (some ⟨d, 0, none⟩), .slice (some ⟨g, 0, none⟩) ns.length c] w fun e w' => e = .returned (.int .i64 (chk ns)) ∧ w = w' := by
  have HN := Lib.hid hn
  clear hn
  go_enter Tryz.func70, Tryz.ntmps70
  go_wp2_with (go_at_call 46; ((with_reducible refine (is_any _ _ hc).mono ?_); rintro e w' ⟨rfl, rfl⟩))
  go_loop [12] (fun i => ∃ k : Nat, k ≤ ns.length ∧ i = .int .i64 k ∧ (ns.take k).all valid = true) (fun i => ns.length - (intOf i).toNat)
  case atStart => exact ⟨0, Nat.zero_le _, rfl, rfl⟩
  case round =>
    obtain ⟨k, hk, rfl, hv⟩ := hrel
    have HV := Lib.hid hv
    clear hv
    by_cases hlt : k < ns.length
    · have hcell := HN.out k hlt
      obtain ⟨n, hn⟩ : ∃ n, n = ns[k] := ⟨_, rfl⟩
      rw [← hn] at hcell
      have hz := Lib.hid (str_size n)
      have hK := Lib.hid hn
      clear hn
      have hI : (0 : Int) ≤ (k : Int) := by omega
      have hI2 : (k : Int) < (ns.length : Int) := by omega
      cases hv1 : valid n with
      | true =>
        obtain ⟨h1, h2⟩ := valid_yes hv1
        have e1 : (str n).toList = n := str_toList n
        have e2 : n.isEmpty = false := by simpa using h1
        have e3 : ((str n).size : Int) ≤ 32 := by have := hz.out; omega
        go_wp2
        go_round
        case rel =>
          refine ⟨k + 1, by omega, by go_num, ?_⟩
          rw [List.take_succ_eq_append_getElem hlt, List.all_append, HV.out, ← hK.out]
          simp [hv1]
        case measure => simp [intOf]; omega
      | false =>
        have HC : Hid (chk ns = 2) := by
          show _ = _
          unfold chk
          rw [if_neg]
          simp only [List.all_eq_true, Classical.not_forall]
          exact ⟨n, by rw [hK.out]; exact List.getElem_mem _, by simp [hv1]⟩
        by_cases hn0 : n = []
        · subst hn0
          have e1 : (str []).toList = [] := str_toList []
          go_wp2
          go_ret
          exact ⟨fret HC.out.symm, rfl⟩
        · have e2 : n.isEmpty = false := by simpa using hn0
          have e1 : (str n).toList = n := str_toList n
          have e3 : 32 < ((str n).size : Int) := by
            have h1 := valid_not hv1
            have h2 := hz.out
            rcases h1 with h1 | h1
            · exact absurd h1 hn0
            · omega
          go_wp2
          go_ret
          exact ⟨fret HC.out.symm, rfl⟩
    · go_wp2
      go_ret
      have e : chk ns = 0 := by
        unfold chk
        have hv := HV.out
        rw [List.take_of_length_le (by omega)] at hv
        rw [hv]; rfl
      exact ⟨fret e.symm, rfl⟩

set_option maxHeartbeats 4000000 in
/-- A name at which there is an error. -/
theorem find_no (w : World) (X : Nat → Prop) (TT : Nat → Option Tb) (role : Nat → Nat × Bool) (ga : Nat → Nat) (d : Nat) (s : FS) (nb sb : Nat) (v : Value) (hS : SysT w X TT) (h : DirOk w X TT role ga d s nb sb v) (n : Nm) (hl : s.look n ≠ 0) :
    Calls Tryz.prog 34 #[.pointer (some ⟨d, 0, none⟩), .string (str n)] w (Asks (.tuple #[.pointer none, .int .i64 (s.look n)]) w) := by
  obtain ⟨c0, c1, c2, c3, c4⟩ := h.blk.cells
  have hbel : Below w.heap.size w (w.alloc (.cells #[.string (str n)] 9)) := (Below.refl _ w).alloc (Nat.le_refl _) _
  have hcd := hbel.cell (p := ⟨d, 0, none⟩) (lt_of_block h.blk) ▸ c0
  have hns : ∀ j (hj : j < [n].length), (w.alloc (.cells #[.string (str n)] 9)).cell? ⟨w.heap.size, j, none⟩ = some (.string (str [n][j])) := fun j hj => by
    have : j = 0 := by simpa using hj
    subst this
    exact cell_of_one (heap_alloc_new w _)
  have hc1 := check_any (w.alloc (.cells #[.string (str n)] 9)) d w.heap.size 1 [n] hcd hns (by simp) (by simp)
  simp only [List.length_cons, List.length_nil, Nat.zero_add] at hc1
  have HC := Lib.hid hc1
  clear hc1
  have c2' : (w.alloc (.cells #[.string (str n)] 9)).cell? ⟨d, 2, none⟩ = some (.map (some nb)) := hbel.cell (p := ⟨d, 2, none⟩) (lt_of_block h.blk) ▸ c2
  have HB := Lib.hid hbel
  have hS2 := hS.below hbel
  cases hv : valid n with
  | false =>
    have h2 : chk [n] = 2 := by simp [chk, hv]
    have hl2 : s.look n = 2 := by simp [FS.look, hv]
    rw [h2] at HC
    rw [hl2]
    clear hbel hcd hns hS hS2 h c0 c1 c2 c3 c4 h2 hl hl2 hv
    go_enter Tryz.func34, Tryz.ntmps34
    go_wp2_with (go_at_call 70; ((with_reducible refine HC.out.mono ?_); rintro e w' ⟨rfl, rfl⟩))
    go_ret2
    exact ⟨rfl, HB.out⟩
  | true =>
    have hkl : n.length ≤ maxLen := by have := valid_len hv; unfold maxLen; omega
    have h2 : chk [n] = 0 := by simp [chk, hv]
    rw [h2] at HC
    have hg : fi.get n s.now = none := by
      cases hg : fi.get n s.now with
      | none => rfl
      | some f => exact absurd (by simp [FS.look, hv, hg]) hl
    have hl2 : s.look n = 7 := by simp [FS.look, hv, hg]
    have hlook := hS2.look_none h.now hkl hg
    rw [hl2]
    clear hbel hcd hns hS hS2 h c0 c1 c2 c3 c4 h2 hl hl2 hv hg
    go_enter Tryz.func34, Tryz.ntmps34
    go_wp2_with (go_at_call 70; ((with_reducible refine HC.out.mono ?_); rintro e w' ⟨rfl, rfl⟩))
    go_ret2
    exact ⟨rfl, HB.out⟩

/-- What is known of a file that was found. -/
def Found (n : Nm) (s : FS) (w : World) (p : Nat) : Prop := ∃ A m c f, fi.get n s.now = some f ∧ BlkF w p A m c f.2 ∧ Byt w A m c f.1
set_option maxHeartbeats 4000000 in
/-- A name at which there is a file. -/
theorem find_yes (w : World) (X : Nat → Prop) (TT : Nat → Option Tb) (role : Nat → Nat × Bool) (ga : Nat → Nat) (d : Nat) (s : FS) (nb sb : Nat) (v : Value) (hS : SysT w X TT) (h : DirOk w X TT role ga d s nb sb v) (n : Nm) (hl : s.look n = 0) :
    Calls Tryz.prog 34 #[.pointer (some ⟨d, 0, none⟩), .string (str n)] w fun e w' => ∃ p, e = .returned (.tuple #[.pointer (some ⟨p, 0, none⟩), .int .i64 0]) ∧ Below w.heap.size w w' ∧ Found n s w p := by
  obtain ⟨c0, c1, c2, c3, c4⟩ := h.blk.cells
  have hbel : Below w.heap.size w (w.alloc (.cells #[.string (str n)] 9)) := (Below.refl _ w).alloc (Nat.le_refl _) _
  have hcd := hbel.cell (p := ⟨d, 0, none⟩) (lt_of_block h.blk) ▸ c0
  have hns : ∀ j (hj : j < [n].length), (w.alloc (.cells #[.string (str n)] 9)).cell? ⟨w.heap.size, j, none⟩ = some (.string (str [n][j])) := fun j hj => by
    have : j = 0 := by simpa using hj
    subst this
    exact cell_of_one (heap_alloc_new w _)
  have hc1 := check_any (w.alloc (.cells #[.string (str n)] 9)) d w.heap.size 1 [n] hcd hns (by simp) (by simp)
  simp only [List.length_cons, List.length_nil, Nat.zero_add] at hc1
  have HC := Lib.hid hc1
  clear hc1
  have c2' : (w.alloc (.cells #[.string (str n)] 9)).cell? ⟨d, 2, none⟩ = some (.map (some nb)) := hbel.cell (p := ⟨d, 2, none⟩) (lt_of_block h.blk) ▸ c2
  have HB := Lib.hid hbel
  obtain ⟨hv, f, hg⟩ := look_zero hl
  have hkl : n.length ≤ maxLen := by have := valid_len hv; unfold maxLen; omega
  have h2 : chk [n] = 0 := by simp [chk, hv]
  rw [h2] at HC
  obtain ⟨G, hG⟩ := hS
  obtain ⟨p, A, m, c, ha⟩ := hG.at_ h.now hg
  have hlook := ((hG.below hbel).tab h.now).look hkl
  rw [ha.at_] at hlook
  simp only [ptrOf] at hlook
  have HP : Hid (Found n s w p) := ⟨A, m, c, f, hg, ha.blk, ha.byt⟩
  clear hbel hcd hns hG h c0 c1 c2 c3 c4 h2 hl hv hg ha
  go_enter Tryz.func34, Tryz.ntmps34
  go_wp2_with (go_at_call 70; ((with_reducible refine HC.out.mono ?_); rintro e w' ⟨rfl, rfl⟩))
  go_ret2
  exact ⟨p, rfl, HB.out, HP.out⟩

theorem byt_string {w : World} {A : Option Addr} {n c : Nat} {l : List UInt8} (h : Byt w A n c l) : (convert 80 9 (.slice A n c)).run Tryz.prog w = .ok (.string (str l)) w := by
  rcases h.form with ⟨rfl, rfl, rfl, rfl⟩ | ⟨g, rfl⟩
  · exact run_convert_bytes_nil w _ _ Tryz.underlying80 Tryz.underlying5 0 0 _ Tryz.underlying9
  · obtain ⟨cur, hg, hc, ht⟩ := h.lt rfl
    have hn : n = l.length := h.1.symm
    subst hn
    refine run_convert_bytes_back w _ _ _ ⟨g, 0, none⟩ c l Tryz.underlying80 Tryz.underlying5 Tryz.underlying9 fun j hj => ?_
    have hadd : (⟨g, 0, none⟩ : Addr).add j = ⟨g, j, none⟩ := by unfold Addr.add; split <;> simp_all
    rw [hadd, cell_of_row w g j cur _ (0, 0) hg, ← Array.getElem?_toList]
    have h2 : (cur.toList.take l.length)[j]? = cur.toList[j]? := by rw [List.getElem?_take, if_pos hj]
    rw [← h2, ht]
    simp [Lib.byteCells, List.getElem?_eq_getElem hj]

set_option maxHeartbeats 4000000 in
theorem read_any (w : World) (X : Nat → Prop) (D : Nat → Option FS) (d : Nat) (s : FS) (hS : Sys w X D) (hd : D d = some s) (n : Nm) :
    Calls Tryz.prog 14 #[.pointer (some ⟨d, 0, none⟩), .string (str n)] w (Asks (.tuple #[.string (str (s.bytes n)), .int .i64 (s.look n)]) w) := by
  obtain ⟨TT, role, ga, h1, h2⟩ := hS
  obtain ⟨nb, sb, v, h⟩ := h2 d s hd
  by_cases hl : s.look n = 0
  · have HF := Lib.hid (find_yes w X TT role ga d s nb sb v h1 h n hl)
    have hb : s.bytes n = ((fi.get n s.now).map (·.1)).getD [] := if_pos hl
    rw [hl, hb]
    clear h hd h1 h2 hl hb
    go_enter Tryz.func14, Tryz.ntmps14
    go_wp2_with (go_at_call 34; ((with_reducible refine HF.out.mono ?_); rintro e w1 ⟨p, rfl, hb1, A, m, c, f, hg, hb, hy⟩; obtain ⟨d0, d1, d2, d3⟩ := (show BlkF w1 p A m c f.2 from (hb1.block p (lt_of_block hb)).trans hb).cells; have hcv := byt_string (hy.kept fun g _ hlt => hb1.block g hlt); have HG := Lib.hid hg; have HB := Lib.hid hb1; clear hg hb hy hb1))
    go_ret2
    refine ⟨?_, HB.out⟩
    rw [HG.out]
    rfl
  · have HF := Lib.hid (find_no w X TT role ga d s nb sb v h1 h n hl)
    have hb : s.bytes n = [] := if_neg hl
    rw [hb]
    have hne : (s.look n != 0) = true := by simpa using hl
    clear h hd h1 h2 hb hl
    go_enter Tryz.func14, Tryz.ntmps14
    go_wp2_with (go_at_call 34; ((with_reducible refine HF.out.mono ?_); rintro e w1 ⟨rfl, hb1⟩; have HB := Lib.hid hb1; clear hb1))
    go_ret2
    exact ⟨rfl, HB.out⟩
end Go.Proofs.YtmaohncddjhgeaaGreat.gn
end
section
set_option linter.unusedVariables false
set_option maxRecDepth 100000
namespace Go.Proofs.YtmaohncddjhgeaaGreat.fi
/-- How many bytes there are. -/
def tot : Tb → Nat
  | [] => 0
  | p :: r => p.2.1.length + tot r
theorem tot_wt (T : Tb) : tot T ≤ wt T := by
  induction T with
  | nil => exact Nat.le_refl _
  | cons p r ih => simp only [tot, wt]; omega
/-- The room that is left. -/
def FS.left (s : FS) : Int := (s.room : Int) - (tot s.now : Int)
def gone (left : Lit → Bool) : Tb → Nat
  | [] => 0
  | p :: r => (if left (.string p.1) then 0 else p.2.1.length) + gone left r
theorem gone_le (left : Lit → Bool) (T : Tb) : gone left T ≤ tot T := by
  induction T with
  | nil => exact Nat.le_refl _
  | cons p r ih => simp only [gone, tot]; split <;> omega
theorem gone_all {left : Lit → Bool} {T : Tb} (h : ∀ p ∈ T, left (.string p.1) = true) : gone left T = 0 := by
  induction T with
  | nil => rfl
  | cons p r ih => simp only [gone]; rw [if_pos (h p (by simp)), ih fun q hq => h q (by simp [hq])]
theorem gone_none {left : Lit → Bool} {T : Tb} (h : ∀ kl, left kl = false) : gone left T = tot T := by
  induction T with
  | nil => rfl
  | cons p r ih => simp only [gone, tot]; rw [if_neg (by simp [h]), ih]
theorem gone_same {left left' : Lit → Bool} {T : Tb} (h : ∀ p ∈ T, left' (.string p.1) = left (.string p.1)) : gone left' T = gone left T := by
  induction T with
  | nil => rfl
  | cons p r ih => simp only [gone]; rw [h p (by simp), ih fun q hq => h q (by simp [hq])]
theorem gone_step {left : Lit → Bool} {T : Tb} {k : Nm} {f : Fl} (hk : Keyed1 T) (hf : get k T = some f) (hl : left (.string k) = true) :
    gone (fun z => left z && !z.sameKey (.string k)) T = gone left T + f.1.length := by
  have hm := get_some hf
  clear hf
  induction T with
  | nil => simp at hm
  | cons p r ih =>
    obtain ⟨h1, h2⟩ := List.pairwise_cons.1 hk
    have hs : ∀ j : Nm, (Lit.string j).sameKey (.string k) = (j == k) := fun j => rfl
    rcases List.mem_cons.1 hm with rfl | hm'
    · have hr : gone (fun z => left z && !z.sameKey (.string k)) r = gone left r := gone_same fun q hq => by
        have : (q.1 == k) = false := by simpa using (h1 q hq).symm
        simp [hs, this]
      simp only [gone, hr, hl, hs]
      simp
      omega
    · have hne : (p.1 == k) = false := by simpa using h1 _ hm'
      have := ih h2 hm'
      simp only [gone, hs, hne]
      simp
      omega
end Go.Proofs.YtmaohncddjhgeaaGreat.fi

namespace Go.Proofs.YtmaohncddjhgeaaGreat.gn
open Go.RowKit
open Go.Proofs.YtmaohncddjhgeaaGreat.fi

def RoomRel (w : World) (X : Nat → Prop) (TT : Nat → Option Tb) (b : Nat) (T : Tb) (L : List (Nm × Nat)) (room : Int) (x : Value) (wr : World) : Prop :=
  ∃ left cnt, wr.ranges Tryz.prog 9 ptrR b w.heap.size L.length (dat L) left cnt ∧ x = .int .i64 (room - (gone left T : Int)) ∧ Below w.heap.size w wr ∧ w.heap.size < wr.heap.size

set_option maxHeartbeats 8000000 in
set_option maxRecDepth 100000 in
theorem room_any (w : World) (X : Nat → Prop) (D : Nat → Option FS) (d : Nat) (s : FS) (hS : Sys w X D) (hd : D d = some s) (hl : s.wt ≤ 1099511627776) :
    Calls Tryz.prog 40 #[.pointer (some ⟨d, 0, none⟩)] w (Asks (.int .i64 s.left) w) := by
  obtain ⟨TT, role, ga, h1, h2⟩ := hS
  obtain ⟨nb, sb, v, h⟩ := h2 d s hd
  obtain ⟨c0, c1, c2, c3, c4⟩ := h.blk.cells
  obtain ⟨G, hG⟩ := h1
  have hrm := h.ok.room
  have hwt := h.ok.wt_now
  have hT := h.now
  have hK := h.ok.keyed_now
  obtain ⟨T, hTe⟩ : ∃ T, T = s.now := ⟨_, rfl⟩
  rw [← hTe] at hwt hT hK
  have hleft : Hid (s.left = (s.room : Int) - (tot T : Int)) := by rw [hTe]; rfl
  have htot := tot_wt T
  clear hTe
  obtain ⟨L, hL⟩ : ∃ L, L = G.tab nb := ⟨_, rfl⟩
  have ht : Tab w nb L := by rw [hL]; exact hG.tab hT
  have hbl : nb < w.heap.size := (SysT.lt ⟨G, hG⟩ hT).1
  have hown := ht.exact
  have hget : ∀ k, fi.get k T = (fi.get k L).map G.cont := fun k => by rw [hL]; exact hG.get hT k
  have hst : ∀ p ∈ T, Maps.has (dat L) (.string p.1) = true := fun p hp => by
    have h1 := get_of_mem hK (k := p.1) (v := p.2) hp
    rw [hget] at h1
    rw [dat_has]
    cases hg : fi.get p.1 L with
    | none => rw [hg] at h1; cases h1
    | some _ => rfl
  have HG := Lib.hid hG
  have HT := Lib.hid hT
  have HK := Lib.hid hK
  have HO := Lib.hid hget
  have HST := Lib.hid hst
  have hb := h.ok.wt_now
  clear hL hget hst hG hT hK h hd h2 ht c3 c4 hb
  go_enter Tryz.func40, Tryz.ntmps40
  go_wp2_with (first
    | (go_at_call 46; ((with_reducible refine (is_any _ _ c0).mono ?_); rintro e w' ⟨rfl, rfl⟩))
    | (at_range; refine wpList_range_own _ rfl _ 66 rfl 9 77 keyLaw Tryz.underlying66 _ nb _ _ rfl hown ?_; intro w0 hrg0 hg0 hs0))
  go_frame
  go_loopw [3] (fun x wr => RoomRel w X TT nb T L (s.room : Int) x wr) (fun _ wr => wr.rangeLeft nb w.heap.size)
  case atStart =>
    refine ⟨_, _, hrg0, by rw [gone_all HST.out]; simp, (Below.refl _ _).grown hg0 (Nat.le_refl _) (fun j hj => by cases hj), by omega⟩
  case round =>
    obtain ⟨left, cnt, hrg, rfl, hbel, hsz⟩ := hrel
    have hsn := gone_le left T
    go_wp2_with (first
      | (at_next; refine wpList_next_tab _ rfl _ rfl nb w.heap.size L.length L left cnt rfl hrg ?_ ?_))
    · intro hc0 hl0
      go_wp2
      go_ret
      refine ⟨?_, hbel⟩
      rw [hleft.out, gone_none hl0]
      rfl
    · intro k p w1 cnt1 hp hlk hrg1 hlt hg1 hs1 hen
      have hf : fi.get k T = some (G.cont p) := by rw [HO.out, hp]; rfl
      have hb1 : Below w.heap.size w w1 := hbel.grown hg1 (by omega) (fun j hj => by cases hj; exact Nat.le_refl _)
      obtain ⟨p', A, n, c, h⟩ := (HG.out.below hb1).at_ HT.out hf
      have hpp : p' = p := by
        have h1 := h.at_
        rw [(show Tab w1 nb L from ⟨_, hrg1.owns⟩).uniq ((HG.out.below hb1).tab HT.out) |>.symm, hp] at h1
        exact (Option.some.inj h1).symm
      subst hpp
      obtain ⟨c0', c1', f0, f1⟩ := h.blk.cells
      have hfn : (G.cont p').1.length = n := h.byt.1
      have hstep := Lib.hid (gone_step HK.out hf hlk)
      have hsn2 := gone_le (fun z => left z && !z.sameKey (.string k)) T
      have hsn3 : gone left T + n ≤ tot T := by have := hstep.out; omega
      have HRG := Lib.hid hrg
      have HRG1 := Lib.hid hrg1
      have HFN := Lib.hid hfn
      have HS := Lib.hid hs1
      clear hf h hfn hrg hrg1 hp hlk hsn2 hs1
      go_wp2
      go_roundw
      case rel =>
        refine ⟨_, cnt1, HRG1.out, ?_, hb1, by have := HS.out; omega⟩
        have h1 := hstep.out
        have h2 := HFN.out
        rw [h1, h2]
        congr 1
        omega
      case measure =>
        rw [HRG1.out.left_eq, HRG.out.left_eq]
        exact hlt
end Go.Proofs.YtmaohncddjhgeaaGreat.gn
end
