/- FilesSure: what the failures leave, plain; the four directories of the law, step by step. -/
import Derived.Test.YtdfiofjnijnodaaFjP
import Derived.Test.YtdfiofjnijnodaaFiB1
set_option linter.unusedVariables false
namespace Go.Proofs.Ytdfiofjnijnodaa.fi
theorem crash_all {s : FS} (h : s.Ok) : (s.crash ⟨(s.op.length : Int), 0, 0⟩).now = s.now := by
  have e := crashes_all s.op 0 s.safe
  rw [Nat.zero_add] at e
  show strip (crashes ⟨(s.op.length : Int), 0, 0⟩ 0 s.op s.safe) = replay s.op s.safe
  rw [e]
  exact strip_sound h.sound_now
theorem crash_sync {s : FS} (h : s.Ok) (f : Fault) : (s.sync.crash f).now = s.now := strip_sound h.sound_now
theorem bytes_now {s t : FS} (h : s.now = t.now) (n : Nm) : s.bytes n = t.bytes n := by
  unfold FS.bytes FS.look
  rw [h]
end Go.Proofs.Ytdfiofjnijnodaa.fi

namespace Go.Proofs.Ytdfiofjnijnodaa.gn
open Go.RowKit
open Go.Proofs.Ytdfiofjnijnodaa.fi

/-- All blocks below b. -/
def Lo (b : Nat) : Nat → Prop := fun i => i < b
theorem held_lo {W w w' : World} (h : Below W.heap.size W w) (k : Held (Lo W.heap.size) w w') : Below W.heap.size W w' := h.trans (Held.below k h.size)
/-- One directory, and the document's behind at most K acts. -/
structure Q1 (W : World) (q K d : Nat) (s : FS) (w : World) : Prop where
  duo : Duo (Lo W.heap.size) w (one1 d s) q K
  bel : Below W.heap.size W w

def NewR (W : World) (s : FS) (e : Ending) (w' : World) : Prop :=
  ∃ d, e = .returned (.pointer (some ⟨d, 0, none⟩)) ∧ Sys w' (fun i => W.heap.size ≤ i ∧ i < w'.heap.size) (one1 d s) ∧ Below W.heap.size W w'
theorem new_du (W : World) (r : Int) : Calls Try.prog 7 #[.int .i64 r] W (NewR W (FS.new r)) := by
  refine (new_any W (fun _ => False) _ (Sys.none_ _ _) r).mono fun e w' ⟨d, he, hd, hS, hb⟩ => ⟨d, he, hS.more fun i hi => ?_, hb⟩
  rcases hi with hi | hi
  · exact hi.elim
  · exact hi
def DNewR (W : World) (d : Nat) (s : FS) (w : World) (e : Ending) (w' : World) : Prop :=
  e = .returned (.pointer (some ⟨w.heap.size, 0, none⟩)) ∧ Q1 W w.heap.size 0 d s w'
theorem dnew_du {W w : World} {d : Nat} {s : FS} (h : Sys w (fun i => W.heap.size ≤ i ∧ i < w.heap.size) (one1 d s)) (hb : Below W.heap.size W w) (r : Int) (h0 : 0 ≤ r) (h1 : r ≤ 16777216) :
    Calls Try.prog 8 #[.int .i64 r] w (DNewR W d s w) := by
  refine (dnew_any5 w r h0 h1 (fun _ => False) 0).mono fun e w' ⟨he, hD, hb2⟩ => ⟨he, ⟨⟨_, _, h.below hb2, hD, fun i hi => ?_, fun i hi => ?_, fun i hi hi2 => ?_, fun i hi => ?_⟩, hb.trans (hb2.mono hb.size)⟩⟩
  · have := hb2.size
    exact ⟨by omega, fun hz => by have h2 : i < W.heap.size := hz; omega⟩
  · rcases hi with hi | hi
    · exact hi.elim
    · have := hb.size
      exact ⟨hi.2, fun hz => by have h2 : i < W.heap.size := hz; omega⟩
  · rcases hi2 with h2 | h2
    · exact h2
    · omega
  · have h2 : i < W.heap.size := hi
    have := hb.size
    have := hb2.size
    omega
def Q1R (W : World) (q K d : Nat) (s : FS) (e : Ending) (w' : World) : Prop := (∃ b, e = .returned (.bool b)) ∧ Q1 W q K d s w'
theorem do_du {W w : World} {q K d : Nat} {s : FS} (h : Q1 W q K d s w) (hwt : s.wt ≤ 549755813888) (hK : K ≤ 300) (x : Ac) (hx : AcOk x) :
    Calls Try.prog 9 #[.pointer (some ⟨d, 0, none⟩), .pointer (some ⟨q, 0, none⟩), .agg (acv x)] w (Q1R W q (K + 1) d (s.act x)) := by
  refine (act_any _ w _ q K d s h.duo (one1_at _ _) hwt hK x hx).mono fun e w' ⟨he, hD, hh⟩ => ⟨he, ⟨?_, held_lo h.bel hh⟩⟩
  rw [one1_upd] at hD
  exact hD
theorem Q1.ok {W w : World} {q K d : Nat} {s : FS} (h : Q1 W q K d s w) : s.Ok := h.duo.ok (one1_at _ _)

/-- Some directories D, too. -/
structure Qn (W : World) (q K : Nat) (D : Nat → Option FS) (w : World) : Prop where
  duo : Duo (Lo W.heap.size) w D q K
  bel : Below W.heap.size W w
theorem Q1.qn {W w : World} {q K d : Nat} {s : FS} (h : Q1 W q K d s w) : Qn W q K (one1 d s) w := ⟨h.duo, h.bel⟩
def CopyR (W : World) (q K : Nat) (D : Nat → Option FS) (s : FS) (w : World) (e : Ending) (w' : World) : Prop :=
  ∃ a, e = .returned (.pointer (some ⟨a, 0, none⟩)) ∧ (∀ d t, D d = some t → d ≠ a) ∧ Qn W q K (upd D a s) w'
theorem copy_qn {W w : World} {q K : Nat} {D : Nat → Option FS} (h : Qn W q K D w) {d : Nat} {s : FS} (hd : D d = some s) (hwt : s.wt ≤ 549755813888) :
    Calls Try.prog 10 #[.pointer (some ⟨d, 0, none⟩)] w (CopyR W q K D s w) :=
  (h.duo.makes fun X hS => copyDir_any w X D d s hS hd (by omega)).mono fun e w' ⟨a, he, ha, hD, hb⟩ => ⟨a, he, fun d t hd => Nat.ne_of_lt (Nat.lt_of_lt_of_le (h.duo.lt hd) ha), hD, h.bel.trans (hb.mono h.bel.size)⟩
def DoesR (W : World) (q K : Nat) (D : Nat → Option FS) (v : Value) (e : Ending) (w' : World) : Prop := e = .returned v ∧ Qn W q K D w'
theorem crash_qn {W w : World} {q K : Nat} {D : Nat → Option FS} (h : Qn W q K D w) {d : Nat} {s : FS} (hd : D d = some s) (hwt : s.wt ≤ 549755813888) (f : Fault) (hf : f.lose < 18446744073709551616) {a b c : Int} (ha : a = f.keep) (hb : b = (f.lose : Int)) (hc : c = f.cut) :
    Calls Try.prog 11 #[.pointer (some ⟨d, 0, none⟩), .agg #[.int .i64 a, .int .u64 b, .int .i64 c]] w (DoesR W q K (upd D d (s.crash f)) (.tuple #[])) := by
  subst ha hb hc
  exact (h.duo.does fun X hS => crash_any w X D d s hS hd hwt f hf).mono fun e w' ⟨he, hD, hh⟩ => ⟨he, hD, held_lo h.bel hh⟩
theorem sync_qn {W w : World} {q K : Nat} {D : Nat → Option FS} (h : Qn W q K D w) {d : Nat} {s : FS} (hd : D d = some s) (hwt : s.wt ≤ 549755813888) :
    Calls Try.prog 13 #[.pointer (some ⟨d, 0, none⟩)] w (DoesR W q K (upd D d s.sync) (.int .i64 0)) :=
  (h.duo.does fun X hS => sync_any w X D d s hS hd (by omega)).mono fun e w' ⟨he, hD, hh⟩ => ⟨he, hD, held_lo h.bel hh⟩
def ActR (W : World) (q K : Nat) (D : Nat → Option FS) (e : Ending) (w' : World) : Prop := (∃ b, e = .returned (.bool b)) ∧ Qn W q K D w'
theorem do_qn {W w : World} {q K : Nat} {D : Nat → Option FS} (h : Qn W q K D w) {d : Nat} {s : FS} (hd : D d = some s) (hwt : s.wt ≤ 549755813888) (hK : K ≤ 300) (x : Ac) (hx : AcOk x) :
    Calls Try.prog 9 #[.pointer (some ⟨d, 0, none⟩), .pointer (some ⟨q, 0, none⟩), .agg (acv x)] w (ActR W q (K + 1) (upd D d (s.act x))) :=
  (act_any _ w _ q K d s h.duo hd hwt hK x hx).mono fun e w' ⟨he, hD, hh⟩ => ⟨he, hD, held_lo h.bel hh⟩
theorem Qn.sb {W w : World} {q K : Nat} {D : Nat → Option FS} (h : Qn W q K D w) : SB 0 w D := by
  obtain ⟨⟨X, Y, h1, _⟩, _⟩ := h
  exact ⟨h1.more fun i _ => Nat.zero_le i, Nat.zero_le _⟩

theorem pend_sb {w : World} {D : Nat → Option FS} (h : SB 0 w D) {d : Nat} {s : FS} (hd : D d = some s) {n : Int} (hn : (s.op.length : Int) = n) :
    Calls Try.prog 12 #[.pointer (some ⟨d, 0, none⟩)] w (Says0 (.int .i64 n) w) := by
  subst hn
  exact pending_any w (From 0) D d s h.1 hd
/-- A row of m names. -/
def NmsR (m : Nat) (w : World) (e : Ending) (w' : World) : Prop :=
  ∃ A c, e = .returned (.slice A m c) ∧ (m = 0 ∨ ∃ g, A = some ⟨g, 0, none⟩ ∧ ∀ j, j < m → ∃ n : Nm, w'.cell? ⟨g, j, none⟩ = some (.string (str n))) ∧ Below w.heap.size w w' ∧ m ≤ 549755813888
theorem nms_sb {w : World} {D : Nat → Option FS} (h : SB 0 w D) {d : Nat} {s : FS} (hd : D d = some s) (hwt : s.wt ≤ 549755813888) {m : Nat} (hm : s.now.length = m) :
    Calls Try.prog 14 #[.pointer (some ⟨d, 0, none⟩)] w (NmsR m w) := by
  have hok := h.1.ok hd
  have hle : m ≤ 549755813888 := by
    have h1 := wt_len s.now
    have h2 := hok.wt_now
    omega
  refine (names_any w (From 0) D d s h.1 hd hwt).mono fun e w' ⟨v, ns, he, hl, hrow, hb⟩ => ?_
  rw [hm] at hl
  subst hl
  obtain ⟨A, c, rfl⟩ := own_form hrow
  refine ⟨A, c, he, ?_, hb, hle⟩
  rcases hrow.2 with ⟨hv, hn⟩ | ⟨g, cap, cur, hv, _⟩
  · exact .inl hn
  · cases hv
    refine .inr ⟨g, rfl, fun j hj => ⟨ns[j], ?_⟩⟩
    have h1 := World.ownsRow.cells hrow (g := g) rfl j (.string (str ns[j])) (by simp [hj])
    have hadd : (⟨g, 0, none⟩ : Addr).add j = ⟨g, j, none⟩ := by unfold Addr.add; split <;> simp_all
    rw [hadd] at h1
    exact h1
/-- The law's four directories. -/
structure Apart4 (d a b c : Nat) : Prop where
  da : d ≠ a
  db : d ≠ b
  dc : d ≠ c
  ab : a ≠ b
  ac : a ≠ c
  bc : b ≠ c
structure Quad (W : World) (q K d a b c : Nat) (sd sa sb sc : FS) (w : World) : Prop where
  ex : ∃ D, Qn W q K D w ∧ D d = some sd ∧ D a = some sa ∧ D b = some sb ∧ D c = some sc
theorem Quad.bel {W w : World} {q K d a b c : Nat} {sd sa sb sc : FS} (h : Quad W q K d a b c sd sa sb sc w) : Below W.heap.size W w := by
  obtain ⟨D, h, _⟩ := h.ex
  exact h.bel
def QuadR (W : World) (q K d a b c : Nat) (sd sa sb sc : FS) (v : Value) (e : Ending) (w' : World) : Prop := e = .returned v ∧ Quad W q K d a b c sd sa sb sc w'
theorem Quad.pend {W w : World} {q K d a b c : Nat} {sd sa sb sc : FS} (h : Quad W q K d a b c sd sa sb sc w) :
    Calls Try.prog 12 #[.pointer (some ⟨d, 0, none⟩)] w (QuadR W q K d a b c sd sa sb sc (.int .i64 (sd.op.length : Int))) := by
  obtain ⟨D, h, hd, ha, hb, hc⟩ := h.ex
  exact (pend_sb h.sb hd rfl).mono fun e w' ⟨he, hbl⟩ => ⟨he, ⟨D, ⟨h.duo.below hbl, h.bel.trans (hbl.mono h.bel.size)⟩, hd, ha, hb, hc⟩⟩
theorem Quad.crashA {W w : World} {q K d a b c : Nat} {sd sa sb sc : FS} (h : Quad W q K d a b c sd sa sb sc w) (hp : Apart4 d a b c) (hwt : sa.wt ≤ 549755813888) (f : Fault) (hf : f.lose < 18446744073709551616) {x y z : Int} (hx : x = f.keep) (hy : y = (f.lose : Int)) (hz : z = f.cut) {t : FS} (ht : sa.crash f = t) :
    Calls Try.prog 11 #[.pointer (some ⟨a, 0, none⟩), .agg #[.int .i64 x, .int .u64 y, .int .i64 z]] w (QuadR W q K d a b c sd t sb sc (.tuple #[])) := by
  subst ht
  obtain ⟨D, h, hd, ha, hb, hc⟩ := h.ex
  exact (crash_qn h ha hwt f hf hx hy hz).mono fun e w' ⟨he, hq⟩ => ⟨he, ⟨_, hq, sb_far hd hp.da, sb_at, sb_far hb hp.ab.symm, sb_far hc hp.ac.symm⟩⟩
theorem Quad.syncB {W w : World} {q K d a b c : Nat} {sd sa sb sc : FS} (h : Quad W q K d a b c sd sa sb sc w) (hp : Apart4 d a b c) (hwt : sb.wt ≤ 549755813888) {t : FS} (ht : sb.sync = t) :
    Calls Try.prog 13 #[.pointer (some ⟨b, 0, none⟩)] w (QuadR W q K d a b c sd sa t sc (.int .i64 0)) := by
  subst ht
  obtain ⟨D, h, hd, ha, hb, hc⟩ := h.ex
  exact (sync_qn h hb hwt).mono fun e w' ⟨he, hq⟩ => ⟨he, ⟨_, hq, sb_far hd hp.db, sb_far ha hp.ab, sb_at, sb_far hc hp.bc.symm⟩⟩
theorem Quad.crashB {W w : World} {q K d a b c : Nat} {sd sa sb sc : FS} (h : Quad W q K d a b c sd sa sb sc w) (hp : Apart4 d a b c) (hwt : sb.wt ≤ 549755813888) (f : Fault) (hf : f.lose < 18446744073709551616) {t : FS} (ht : sb.crash f = t) :
    Calls Try.prog 11 #[.pointer (some ⟨b, 0, none⟩), .agg #[.int .i64 f.keep, .int .u64 (f.lose : Int), .int .i64 f.cut]] w (QuadR W q K d a b c sd sa t sc (.tuple #[])) := by
  subst ht
  obtain ⟨D, h, hd, ha, hb, hc⟩ := h.ex
  exact (crash_qn h hb hwt f hf rfl rfl rfl).mono fun e w' ⟨he, hq⟩ => ⟨he, ⟨_, hq, sb_far hd hp.db, sb_far ha hp.ab, sb_at, sb_far hc hp.bc.symm⟩⟩
theorem Quad.crashC {W w : World} {q K d a b c : Nat} {sd sa sb sc : FS} (h : Quad W q K d a b c sd sa sb sc w) (hp : Apart4 d a b c) (hwt : sc.wt ≤ 549755813888) (f : Fault) (hf : f.lose < 18446744073709551616) {t : FS} (ht : sc.crash f = t) :
    Calls Try.prog 11 #[.pointer (some ⟨c, 0, none⟩), .agg #[.int .i64 f.keep, .int .u64 (f.lose : Int), .int .i64 f.cut]] w (QuadR W q K d a b c sd sa sb t (.tuple #[])) := by
  subst ht
  obtain ⟨D, h, hd, ha, hb, hc⟩ := h.ex
  exact (crash_qn h hc hwt f hf rfl rfl rfl).mono fun e w' ⟨he, hq⟩ => ⟨he, ⟨_, hq, sb_far hd hp.dc, sb_far ha hp.ac, sb_far hb hp.bc, sb_at⟩⟩
def QuadB (W : World) (q K d a b c : Nat) (sd sa sb sc : FS) (e : Ending) (w' : World) : Prop := (∃ r, e = .returned (.bool r)) ∧ Quad W q K d a b c sd sa sb sc w'
theorem Quad.doC {W w : World} {q K d a b c : Nat} {sd sa sb sc : FS} (h : Quad W q K d a b c sd sa sb sc w) (hp : Apart4 d a b c) (hwt : sc.wt ≤ 549755813888) (hK : K ≤ 300) (x : Ac) (hx : AcOk x) {t : FS} (ht : sc.act x = t) :
    Calls Try.prog 9 #[.pointer (some ⟨c, 0, none⟩), .pointer (some ⟨q, 0, none⟩), .agg (acv x)] w (QuadB W q (K + 1) d a b c sd sa sb t) := by
  subst ht
  obtain ⟨D, h, hd, ha, hb, hc⟩ := h.ex
  exact (do_qn h hc hwt hK x hx).mono fun e w' ⟨he, hq⟩ => ⟨he, ⟨_, hq, sb_far hd hp.dc, sb_far ha hp.ac, sb_far hb hp.bc, sb_at⟩⟩
/-- From now on nothing is turned: what is read. -/
structure Rd (W : World) (d a b : Nat) (sd sa sb : FS) (w : World) : Prop where
  ex : ∃ D, SB 0 w D ∧ D d = some sd ∧ D a = some sa ∧ D b = some sb
  bel : Below W.heap.size W w
theorem Quad.rd {W w : World} {q K d a b c : Nat} {sd sa sb sc : FS} (h : Quad W q K d a b c sd sa sb sc w) : Rd W d a b sd sa sb w := by
  obtain ⟨D, h, hd, ha, hb, hc⟩ := h.ex
  exact ⟨⟨D, h.sb, hd, ha, hb⟩, h.bel⟩
theorem Rd.next {W w w' : World} {d a b : Nat} {sd sa sb : FS} (h : Rd W d a b sd sa sb w) (hb : Below w.heap.size w w') : Rd W d a b sd sa sb w' := by
  obtain ⟨D, h1, h2⟩ := h.ex
  exact ⟨⟨D, h1.below hb, h2⟩, h.bel.trans (hb.mono h.bel.size)⟩
theorem Rd.nmsD {W w : World} {d a b : Nat} {sd sa sb : FS} (h : Rd W d a b sd sa sb w) (hwt : sd.wt ≤ 549755813888) {m : Nat} (hm : sd.now.length = m) :
    Calls Try.prog 14 #[.pointer (some ⟨d, 0, none⟩)] w (NmsR m w) := by
  obtain ⟨D, h1, h2, h3, h4⟩ := h.ex
  exact nms_sb h1 h2 hwt hm
theorem Rd.nmsA {W w : World} {d a b : Nat} {sd sa sb : FS} (h : Rd W d a b sd sa sb w) (hwt : sa.wt ≤ 549755813888) {m : Nat} (hm : sa.now.length = m) :
    Calls Try.prog 14 #[.pointer (some ⟨a, 0, none⟩)] w (NmsR m w) := by
  obtain ⟨D, h1, h2, h3, h4⟩ := h.ex
  exact nms_sb h1 h3 hwt hm
theorem Rd.nmsB {W w : World} {d a b : Nat} {sd sa sb : FS} (h : Rd W d a b sd sa sb w) (hwt : sb.wt ≤ 549755813888) {m : Nat} (hm : sb.now.length = m) :
    Calls Try.prog 14 #[.pointer (some ⟨b, 0, none⟩)] w (NmsR m w) := by
  obtain ⟨D, h1, h2, h3, h4⟩ := h.ex
  exact nms_sb h1 h4 hwt hm
theorem Rd.pendA {W w : World} {d a b : Nat} {sd sa sb : FS} (h : Rd W d a b sd sa sb w) (hn : sa.op.length = 0) :
    Calls Try.prog 12 #[.pointer (some ⟨a, 0, none⟩)] w (Says0 (.int .i64 0) w) := by
  obtain ⟨D, h1, h2, h3, h4⟩ := h.ex
  exact pend_sb h1 h3 (by rw [hn]; rfl)
theorem Rd.pendB {W w : World} {d a b : Nat} {sd sa sb : FS} (h : Rd W d a b sd sa sb w) (hn : sb.op.length = 0) :
    Calls Try.prog 12 #[.pointer (some ⟨b, 0, none⟩)] w (Says0 (.int .i64 0) w) := by
  obtain ⟨D, h1, h2, h3, h4⟩ := h.ex
  exact pend_sb h1 h4 (by rw [hn]; rfl)
theorem Rd.readD {W w : World} {d a b : Nat} {sd sa sb : FS} (h : Rd W d a b sd sa sb w) {n : Nm} {y : ByteArray} (hy : y = str (sd.bytes n)) :
    Calls Try.prog 15 #[.pointer (some ⟨d, 0, none⟩), .string (str n)] w (Says0 (.string y) w) := by
  obtain ⟨D, h1, h2, h3, h4⟩ := h.ex
  exact rd_sb h1 h2 rfl hy
theorem Rd.readA {W w : World} {d a b : Nat} {sd sa sb : FS} (h : Rd W d a b sd sa sb w) {n : Nm} {y : ByteArray} (hy : y = str (sa.bytes n)) :
    Calls Try.prog 15 #[.pointer (some ⟨a, 0, none⟩), .string (str n)] w (Says0 (.string y) w) := by
  obtain ⟨D, h1, h2, h3, h4⟩ := h.ex
  exact rd_sb h1 h3 rfl hy
theorem Rd.readB {W w : World} {d a b : Nat} {sd sa sb : FS} (h : Rd W d a b sd sa sb w) {n : Nm} {y : ByteArray} (hy : y = str (sb.bytes n)) :
    Calls Try.prog 15 #[.pointer (some ⟨b, 0, none⟩), .string (str n)] w (Says0 (.string y) w) := by
  obtain ⟨D, h1, h2, h3, h4⟩ := h.ex
  exact rd_sb h1 h4 rfl hy
end Go.Proofs.Ytdfiofjnijnodaa.gn
