/- Directories and journals in memory, apart from the blocks that a call holds: a call on one of them leaves those blocks. -/
import Derived.Test.YtmaohncddjhgeaaGreatMFiW
import Derived.Test.YtmaohncddjhgeaaGreatMFiR
section
set_option linter.unusedVariables false
namespace Go.Proofs.YtmaohncddjhgeaaGreat.gn
open Go.RowKit
open Go.Proofs.YtmaohncddjhgeaaGreat.fi

/-- A journal: its directory, its name, its numbers. -/
structure Jn where
  d : Nat
  name : Nm
  first : Nat
  next : Nat
def BlkJ (w : World) (j : Nat) (n : Jn) : Prop :=
  w.heap[j]? = some (.cells #[.pointer (some ⟨n.d, 0, none⟩), .pointer (some ⟨j, 0, none⟩), .string (str n.name), .int .u64 (n.first : Int), .int .u64 (n.next : Int)] 111 (0, 0))
theorem BlkJ.cells {w : World} {j : Nat} {n : Jn} (h : BlkJ w j n) : w.cell? ⟨j, 0, none⟩ = some (.pointer (some ⟨n.d, 0, none⟩)) ∧ w.cell? ⟨j, 1, none⟩ = some (.pointer (some ⟨j, 0, none⟩)) ∧ w.cell? ⟨j, 2, none⟩ = some (.string (str n.name)) ∧
    w.cell? ⟨j, 3, none⟩ = some (.int .u64 (n.first : Int)) ∧ w.cell? ⟨j, 4, none⟩ = some (.int .u64 (n.next : Int)) ∧ w.frozen? ⟨j, 4, none⟩ = false := by
  refine ⟨?_, ?_, ?_, ?_, ?_, frozen_of_row w j 4 _ _ h⟩
  · rw [cell_of_row w j 0 _ _ _ h]; rfl
  · rw [cell_of_row w j 1 _ _ _ h]; rfl
  · rw [cell_of_row w j 2 _ _ _ h]; rfl
  · rw [cell_of_row w j 3 _ _ _ h]; rfl
  · rw [cell_of_row w j 4 _ _ _ h]; rfl

def Off (Z : Nat → Prop) : Nat → Prop := fun i => ¬ Z i
/-- Directories D and journals J in memory, apart from the blocks Z. -/
structure Hold (Z : Nat → Prop) (w : World) (D : Nat → Option FS) (J : Nat → Option Jn) : Prop where
  is : ∃ X, Sys w X D ∧ (∀ i, X i → i < w.heap.size) ∧ (∀ i, Z i → ¬ X i) ∧ ∀ j n, J j = some n → ¬ X j
  z : ∀ i, Z i → i < w.heap.size
  j : ∀ j n, J j = some n → BlkJ w j n ∧ ¬ Z j
theorem Hold.none_ (w : World) (Z : Nat → Prop) (h : ∀ i, Z i → i < w.heap.size) : Hold Z w (fun _ => none) fun _ => none :=
  ⟨⟨fun _ => False, Sys.none_ _ _, fun _ h => h.elim, fun _ _ h => h, fun _ _ h => by cases h⟩, h, fun _ _ h => by cases h⟩
theorem Hold.lt {Z : Nat → Prop} {w : World} {D : Nat → Option FS} {J : Nat → Option Jn} (h : Hold Z w D J) {d : Nat} {s : FS} (hd : D d = some s) : d < w.heap.size := by
  obtain ⟨X, h1, _⟩ := h.is
  exact h1.lt hd
theorem Hold.ok {Z : Nat → Prop} {w : World} {D : Nat → Option FS} {J : Nat → Option Jn} (h : Hold Z w D J) {d : Nat} {s : FS} (hd : D d = some s) : s.Ok := by
  obtain ⟨X, h1, _⟩ := h.is
  exact h1.ok hd
theorem Hold.below {Z : Nat → Prop} {w w' : World} {D : Nat → Option FS} {J : Nat → Option Jn} (h : Hold Z w D J) (hb : Below w.heap.size w w') : Hold Z w' D J := by
  obtain ⟨X, h1, h2, h3, h4⟩ := h.is
  exact ⟨⟨X, h1.below hb, fun i hi => Nat.lt_of_lt_of_le (h2 i hi) hb.size, h3, h4⟩, fun i hi => Nat.lt_of_lt_of_le (h.z i hi) hb.size, fun j n hj => ⟨(hb.block j (lt_of_block (h.j j n hj).1)).trans (h.j j n hj).1, (h.j j n hj).2⟩⟩
theorem Hold.drew {Z : Nat → Prop} {w : World} {D : Nat → Option FS} {J : Nat → Option Jn} (h : Hold Z w D J) : Hold Z w.drew D J := h.below (Below.refl _ _).drew
/-- .. and apart from the blocks that are new, too. -/
def news (Z : Nat → Prop) (w w' : World) : Nat → Prop := fun i => Z i ∨ (w.heap.size ≤ i ∧ i < w'.heap.size)
theorem Hold.grow {Z : Nat → Prop} {w w' : World} {D : Nat → Option FS} {J : Nat → Option Jn} (h : Hold Z w D J) (hb : Below w.heap.size w w') : Hold (news Z w w') w' D J := by
  obtain ⟨X, h1, h2, h3, h4⟩ := h.is
  refine ⟨⟨X, h1.below hb, fun i hi => Nat.lt_of_lt_of_le (h2 i hi) hb.size, fun i hi hx => ?_, h4⟩, fun i hi => ?_, fun j n hj => ⟨(hb.block j (lt_of_block (h.j j n hj).1)).trans (h.j j n hj).1, fun hh => ?_⟩⟩
  · rcases hi with hi | ⟨h5, _⟩
    · exact h3 i hi hx
    · have := h2 i hx; omega
  · rcases hi with hi | ⟨_, h5⟩
    · exact Nat.lt_of_lt_of_le (h.z i hi) hb.size
    · exact h5
  · rcases hh with hh | ⟨h5, _⟩
    · exact (h.j j n hj).2 hh
    · have := lt_of_block (h.j j n hj).1; omega
theorem Hold.less {Z Z' : Nat → Prop} {w : World} {D : Nat → Option FS} {J : Nat → Option Jn} (h : Hold Z w D J) (hz : ∀ i, Z' i → Z i) : Hold Z' w D J := by
  obtain ⟨X, h1, h2, h3, h4⟩ := h.is
  exact ⟨⟨X, h1, h2, fun i hi => h3 i (hz i hi), h4⟩, fun i hi => h.z i (hz i hi), fun j n hj => ⟨(h.j j n hj).1, fun hh => (h.j j n hj).2 (hz j hh)⟩⟩
/-- A journal that is new. -/
theorem Hold.adds {Z : Nat → Prop} {w w' : World} {D : Nat → Option FS} {J : Nat → Option Jn} (h : Hold Z w D J) (hb : Below w.heap.size w w') {b : Nat} {n : Jn} (hn : BlkJ w' b n) (hbs : w.heap.size ≤ b) : Hold Z w' D (upd J b n) := by
  obtain ⟨X, h1, h2, h3, h4⟩ := h.is
  refine ⟨⟨X, h1.below hb, fun i hi => Nat.lt_of_lt_of_le (h2 i hi) hb.size, h3, fun j m hj hx => ?_⟩, fun i hi => Nat.lt_of_lt_of_le (h.z i hi) hb.size, fun j m hj => ?_⟩
  · by_cases e : j = b
    · have := h2 j hx; omega
    · rw [upd_other _ _ e] at hj
      exact h4 j m hj hx
  · by_cases e : j = b
    · subst e
      rw [upd_same] at hj
      cases hj
      exact ⟨hn, fun hz => by have := h.z _ hz; omega⟩
    · rw [upd_other _ _ e] at hj
      exact ⟨(hb.block j (lt_of_block (h.j j m hj).1)).trans (h.j j m hj).1, (h.j j m hj).2⟩
/-- A journal's next number. -/
theorem Hold.turn {Z : Nat → Prop} {w : World} {D : Nat → Option FS} {J : Nat → Option Jn} (h : Hold Z w D J) {j : Nat} {n : Jn} (hj : J j = some n) (m : Nat) {x : Int} (hx : x = (m : Int)) :
    Hold Z (w.setCell ⟨j, 4, none⟩ (.int .u64 x)) D (upd J j { n with next := m }) ∧ Only (Off Z) w (w.setCell ⟨j, 4, none⟩ (.int .u64 x)) := by
  subst hx
  have hbk : ∀ i, i ≠ j → (w.setCell ⟨j, 4, none⟩ (.int .u64 (m : Int))).heap[i]? = w.heap[i]? := fun i hi => Below.heap_setCell w _ _ i hi
  have hsz : (w.setCell ⟨j, 4, none⟩ (.int .u64 (m : Int))).heap.size = w.heap.size := by simp [World.setCell]
  obtain ⟨X, h1, h2, h3, h4⟩ := h.is
  refine ⟨⟨⟨X, h1.kept fun i _ hi => hbk i fun e => by subst e; exact h4 _ n hj hi, fun i hi => by rw [hsz]; exact h2 i hi, h3, fun k m' hk => ?_⟩, fun i hi => by rw [hsz]; exact h.z i hi, fun k m' hk => ?_⟩, ⟨rfl, rfl, rfl, by rw [hsz]; exact Nat.le_refl _, fun i _ hi => hbk i fun e => ?_⟩⟩
  · by_cases e : k = j
    · subst e; exact h4 _ n hj
    · rw [upd_other _ _ e] at hk; exact h4 k m' hk
  · by_cases e : k = j
    · subst e
      rw [upd_same] at hk
      cases hk
      exact ⟨heap_setCell (h.j _ n hj).1 _, (h.j _ n hj).2⟩
    · rw [upd_other _ _ e] at hk
      exact ⟨(hbk k e).trans (h.j k m' hk).1, (h.j k m' hk).2⟩
  · subst e
    exact hi (h.j _ n hj).2

/-- A call answers v, leaves the directories D and the journals J, and the blocks Z as they were. -/
def Went (Z : Nat → Prop) (D : Nat → Option FS) (J : Nat → Option Jn) (v : Value) (w : World) (e : Ending) (w' : World) : Prop := e = .returned v ∧ Hold Z w' D J ∧ Only (Off Z) w w'
/-- .. a directory more. -/
def AddsD (Z : Nat → Prop) (D : Nat → Option FS) (J : Nat → Option Jn) (s : FS) (w : World) (e : Ending) (w' : World) : Prop :=
  ∃ d, e = .returned (.pointer (some ⟨d, 0, none⟩)) ∧ w.heap.size ≤ d ∧ Hold Z w' (upd D d s) J ∧ Below w.heap.size w w'
theorem Hold.went {Z : Nat → Prop} {w : World} {D D' : Nat → Option FS} {J : Nat → Option Jn} (h : Hold Z w D J) {P : Program} {f : Nat} {args : Array Value} {v : Value} (hc : ∀ X, Sys w X D → Calls P f args w (Does X D' v w)) : Calls P f args w (Went Z D' J v w) := by
  obtain ⟨X, h1, h2, h3, h4⟩ := h.is
  refine (hc X h1).mono fun e w' hh => ⟨hh.1, ⟨⟨_, hh.2.1, fun i hi => ?_, fun i hi hx => ?_, fun j n hj hx => ?_⟩, fun i hi => Nat.lt_of_lt_of_le (h.z i hi) hh.2.2.size, fun j n hj => ⟨?_, (h.j j n hj).2⟩⟩, hh.2.2.mono fun i _ hi hz => h3 i hz hi⟩
  · rcases hi with hi | ⟨_, hi⟩
    · exact Nat.lt_of_lt_of_le (h2 i hi) hh.2.2.size
    · exact hi
  · rcases hx with hx | ⟨hx, _⟩
    · exact h3 i hi hx
    · have := h.z i hi; omega
  · rcases hx with hx | ⟨hx, _⟩
    · exact h4 j n hj hx
    · have := lt_of_block (h.j j n hj).1; omega
  · exact (hh.2.2.block j (lt_of_block (h.j j n hj).1) (h4 j n hj)).trans (h.j j n hj).1
theorem Hold.addsD {Z : Nat → Prop} {w : World} {D : Nat → Option FS} {J : Nat → Option Jn} (h : Hold Z w D J) {P : Program} {f : Nat} {args : Array Value} {s : FS} (hc : ∀ X, Sys w X D → Calls P f args w (Makes X D s w)) : Calls P f args w (AddsD Z D J s w) := by
  obtain ⟨X, h1, h2, h3, h4⟩ := h.is
  refine (hc X h1).mono fun e w' hh => ?_
  obtain ⟨d, q1, q2, q3, q4⟩ := hh
  refine ⟨d, q1, q2, ⟨⟨_, q3, fun i hi => ?_, fun i hi hx => ?_, fun j n hj hx => ?_⟩, fun i hi => Nat.lt_of_lt_of_le (h.z i hi) q4.size, fun j n hj => ⟨(q4.block j (lt_of_block (h.j j n hj).1)).trans (h.j j n hj).1, (h.j j n hj).2⟩⟩, q4⟩
  · rcases hi with hi | ⟨_, hi⟩
    · exact Nat.lt_of_lt_of_le (h2 i hi) q4.size
    · exact hi
  · rcases hx with hx | ⟨hx, _⟩
    · exact h3 i hi hx
    · have := h.z i hi; omega
  · rcases hx with hx | ⟨hx, _⟩
    · exact h4 j n hj hx
    · have := lt_of_block (h.j j n hj).1; omega
/-- What holds fewer blocks. -/
theorem Went.less {Z Z' : Nat → Prop} {w w0 w' : World} {D : Nat → Option FS} {J : Nat → Option Jn} {v : Value} {e : Ending} (h : Went Z D J v w e w') (hz : ∀ i, Z' i → Z i) (h0 : Only (Off Z') w0 w) : Went Z' D J v w0 e w' :=
  ⟨h.1, h.2.1.less hz, h0.trans h.2.2 fun i _ hi h' => hi (hz i h')⟩
theorem Only.cell {S : Nat → Prop} {a b : World} (h : Only S a b) {p : Addr} {v : Value} (hc : a.cell? p = some v) (hs : ¬ S p.block) : b.cell? p = some v := by
  have hlt : p.block < a.heap.size := by
    unfold World.cell? at hc
    cases hb : a.heap[p.block]? with
    | none => rw [hb] at hc; simp at hc
    | some o => exact lt_of_block hb
  have := h.block p.block hlt hs
  unfold World.cell? at hc ⊢
  rw [this]
  exact hc
theorem Only.off {Z : Nat → Prop} {a b : World} (h : Only (Off Z) a b) {i : Nat} {o : Obj} (hc : a.heap[i]? = some o) (hz : Z i) : b.heap[i]? = some o := (h.block i (lt_of_block hc) fun hn => hn hz).trans hc

/-! ### the calls on directories -/
theorem new_h {Z : Nat → Prop} {w : World} {D : Nat → Option FS} {J : Nat → Option Jn} (h : Hold Z w D J) (r : Int) : Calls Tryz.prog 7 #[.int .i64 r] w (AddsD Z D J (FS.new r) w) :=
  h.addsD fun X hS => new_any w X D hS r
theorem copy_h {Z : Nat → Prop} {w : World} {D : Nat → Option FS} {J : Nat → Option Jn} (h : Hold Z w D J) {d : Nat} {s : FS} (hd : D d = some s) (hwt : s.wt ≤ 549755813888) : Calls Tryz.prog 29 #[.pointer (some ⟨d, 0, none⟩)] w (AddsD Z D J s w) :=
  h.addsD fun X hS => copyDir_any w X D d s hS hd (by omega)
theorem make_h {Z : Nat → Prop} {w : World} {D : Nat → Option FS} {J : Nat → Option Jn} (h : Hold Z w D J) {d : Nat} {s : FS} (hd : D d = some s) (hwt : s.wt ≤ 549755813888) (n : Nm) (hn : n.length ≤ 281474976710656) :
    Calls Tryz.prog 18 #[.pointer (some ⟨d, 0, none⟩), .string (str n)] w (Went Z (upd D d (s.make n).2) J (.int .i64 (s.make n).1) w) :=
  h.went fun X hS => make_any w X D d s hS hd (by omega) n hn
theorem remove_h {Z : Nat → Prop} {w : World} {D : Nat → Option FS} {J : Nat → Option Jn} (h : Hold Z w D J) {d : Nat} {s : FS} (hd : D d = some s) (hwt : s.wt ≤ 549755813888) (n : Nm) (hn : n.length ≤ 281474976710656) :
    Calls Tryz.prog 126 #[.pointer (some ⟨d, 0, none⟩), .string (str n)] w (Went Z (upd D d (s.rem n).2) J (.int .i64 (s.rem n).1) w) :=
  h.went fun X hS => remove_any w X D d s hS hd (by omega) n hn
theorem append_h {Z : Nat → Prop} {w : World} {D : Nat → Option FS} {J : Nat → Option Jn} (h : Hold Z w D J) {d : Nat} {s : FS} (hd : D d = some s) (hwt : s.wt ≤ 549755813888) (n : Nm) (hn : n.length ≤ 281474976710656) (t : List UInt8) (ht : t.length ≤ 281474976710656) :
    Calls Tryz.prog 19 #[.pointer (some ⟨d, 0, none⟩), .string (str n), .string (str t)] w (Went Z (upd D d (s.app n t).2) J (.int .i64 (s.app n t).1) w) :=
  h.went fun X hS => append_any w X D d s hS hd hwt n hn t ht
theorem cut_h {Z : Nat → Prop} {w : World} {D : Nat → Option FS} {J : Nat → Option Jn} (h : Hold Z w D J) {d : Nat} {s : FS} (hd : D d = some s) (hwt : s.wt ≤ 549755813888) (n : Nm) (hn : n.length ≤ 281474976710656) (k : Int) :
    Calls Tryz.prog 133 #[.pointer (some ⟨d, 0, none⟩), .string (str n), .int .i64 k] w (Went Z (upd D d (s.cut n k).2) J (.int .i64 (s.cut n k).1) w) :=
  h.went fun X hS => cut_any w X D d s hS hd (by omega) n hn k
theorem rename_h {Z : Nat → Prop} {w : World} {D : Nat → Option FS} {J : Nat → Option Jn} (h : Hold Z w D J) {d : Nat} {s : FS} (hd : D d = some s) (hwt : s.wt ≤ 549755813888) (n : Nm) (hn : n.length ≤ 281474976710656) (m : Nm) (hm : m.length ≤ 281474976710656) :
    Calls Tryz.prog 100 #[.pointer (some ⟨d, 0, none⟩), .string (str n), .string (str m)] w (Went Z (upd D d (s.ren n m).2) J (.int .i64 (s.ren n m).1) w) :=
  h.went fun X hS => rename_any w X D d s hS hd (by omega) n hn m hm
theorem sync_h {Z : Nat → Prop} {w : World} {D : Nat → Option FS} {J : Nat → Option Jn} (h : Hold Z w D J) {d : Nat} {s : FS} (hd : D d = some s) (hwt : s.wt ≤ 549755813888) :
    Calls Tryz.prog 20 #[.pointer (some ⟨d, 0, none⟩)] w (Went Z (upd D d s.sync) J (.int .i64 0) w) :=
  h.went fun X hS => sync_any w X D d s hS hd (by omega)
theorem crash_h {Z : Nat → Prop} {w : World} {D : Nat → Option FS} {J : Nat → Option Jn} (h : Hold Z w D J) {d : Nat} {s : FS} (hd : D d = some s) (hwt : s.wt ≤ 549755813888) (f : Fault) (hf : f.lose < 18446744073709551616) {a b c : Int} (ha : a = f.keep) (hb : b = (f.lose : Int)) (hc : c = f.cut) :
    Calls Tryz.prog 26 #[.pointer (some ⟨d, 0, none⟩), .agg #[.int .i64 a, .int .u64 b, .int .i64 c]] w (Went Z (upd D d (s.crash f)) J (.tuple #[]) w) := by
  subst ha hb hc
  exact h.went fun X hS => crash_any w X D d s hS hd hwt f hf
theorem read_h {Z : Nat → Prop} {w : World} {D : Nat → Option FS} {J : Nat → Option Jn} (h : Hold Z w D J) {d : Nat} {s : FS} (hd : D d = some s) (n : Nm) :
    Calls Tryz.prog 14 #[.pointer (some ⟨d, 0, none⟩), .string (str n)] w (Asks (.tuple #[.string (str (s.bytes n)), .int .i64 (s.look n)]) w) := by
  obtain ⟨X, hS, _⟩ := h.is
  exact read_any w X D d s hS hd n
end Go.Proofs.YtmaohncddjhgeaaGreat.gn
end
