/- The calls on directories as a law meets them: all that they turn lies from block B on. -/
import Derived.Test.YtdfiofjnijnodaaFiW
set_option linter.unusedVariables false
namespace Go.Proofs.Ytdfiofjnijnodaa.gn
open Go.RowKit
open Go.Proofs.Ytdfiofjnijnodaa.fi

def From (B : Nat) : Nat → Prop := fun i => B ≤ i
/-- Directories in memory, all of them from block B on. -/
def SB (B : Nat) (w : World) (D : Nat → Option FS) : Prop := Sys w (From B) D ∧ B ≤ w.heap.size
/-- A call answers v, and leaves the directories D. -/
def Ans (B : Nat) (D : Nat → Option FS) (v : Value) (w : World) (e : Ending) (w' : World) : Prop := e = .returned v ∧ SB B w' D ∧ Below B w w'
theorem Does.sb {B : Nat} {w w' : World} {D : Nat → Option FS} {v : Value} {e : Ending} (hB : B ≤ w.heap.size) (h : Does (From B) D v w e w') : Ans B D v w e w' := by
  refine ⟨h.1, ⟨h.2.1.more fun i hi => ?_, Nat.le_trans hB h.2.2.size⟩, h.2.2.below (fun i hi => hi) hB⟩
  rcases hi with hi | ⟨h1, _⟩
  · exact hi
  · exact Nat.le_trans hB h1
theorem SB.below {B : Nat} {w w' : World} {D : Nat → Option FS} (h : SB B w D) (hb : Below w.heap.size w w') : SB B w' D := ⟨h.1.below hb, Nat.le_trans h.2 hb.size⟩
theorem SB.drew {B : Nat} {w : World} {D : Nat → Option FS} (h : SB B w D) : SB B w.drew D := h.below (Below.refl _ _).drew
theorem SB.lt {B : Nat} {w : World} {D : Nat → Option FS} {d : Nat} {s : FS} (h : SB B w D) (hd : D d = some s) : d < w.heap.size := h.1.lt hd
theorem SB.none_ (w : World) : SB w.heap.size w fun _ => none := ⟨Sys.none_ _ _, Nat.le_refl _⟩
/-- A directory more. -/
def More (B : Nat) (D : Nat → Option FS) (s : FS) (w : World) (e : Ending) (w' : World) : Prop :=
  ∃ d, e = .returned (.pointer (some ⟨d, 0, none⟩)) ∧ w.heap.size ≤ d ∧ SB B w' (upd D d s) ∧ Below B w w'
theorem Makes.sb {B : Nat} {w w' : World} {D : Nat → Option FS} {s : FS} {e : Ending} (hB : B ≤ w.heap.size) (h : Makes (From B) D s w e w') : More B D s w e w' := by
  obtain ⟨d, h1, h2, h3, h4⟩ := h
  refine ⟨d, h1, h2, ⟨h3.more fun i hi => ?_, Nat.le_trans hB h4.size⟩, h4.mono hB⟩
  rcases hi with hi | ⟨h5, _⟩
  · exact hi
  · exact Nat.le_trans hB h5

theorem new_sb {B : Nat} {w : World} {D : Nat → Option FS} (h : SB B w D) (r : Int) : Calls Try.prog 7 #[.int .i64 r] w (More B D (FS.new r) w) :=
  (new_any w (From B) D h.1 r).mono fun e w' hh => hh.sb h.2
theorem copy_sb {B : Nat} {w : World} {D : Nat → Option FS} (h : SB B w D) {d : Nat} {s : FS} (hd : D d = some s) (hwt : s.wt ≤ 549755813888) : Calls Try.prog 10 #[.pointer (some ⟨d, 0, none⟩)] w (More B D s w) :=
  (copyDir_any w (From B) D d s h.1 hd (by omega)).mono fun e w' hh => hh.sb h.2
theorem make_sb {B : Nat} {w : World} {D : Nat → Option FS} (h : SB B w D) {d : Nat} {s : FS} (hd : D d = some s) (hwt : s.wt ≤ 549755813888) {xb : ByteArray} {n : Nm} (hx : xb = str n) (hn : n.length ≤ 281474976710656) {q : Int} {s' : FS} (hr : s.make n = (q, s')) :
    Calls Try.prog 16 #[.pointer (some ⟨d, 0, none⟩), .string xb] w (Ans B (upd D d s') (.int .i64 q) w) := by
  subst hx
  have h1 := make_any w (From B) D d s h.1 hd (by omega) n hn
  rw [hr] at h1
  exact h1.mono fun e w' hh => hh.sb h.2
theorem append_sb {B : Nat} {w : World} {D : Nat → Option FS} (h : SB B w D) {d : Nat} {s : FS} (hd : D d = some s) (hwt : s.wt ≤ 549755813888) {xb yb : ByteArray} {n : Nm} {t : List UInt8} (hx : xb = str n) (hn : n.length ≤ 281474976710656) (hy : yb = str t) (ht : t.length ≤ 281474976710656) {q : Int} {s' : FS} (hr : s.app n t = (q, s')) :
    Calls Try.prog 17 #[.pointer (some ⟨d, 0, none⟩), .string xb, .string yb] w (Ans B (upd D d s') (.int .i64 q) w) := by
  subst hx hy
  have h1 := append_any w (From B) D d s h.1 hd hwt n hn t ht
  rw [hr] at h1
  exact h1.mono fun e w' hh => hh.sb h.2
theorem remove_sb {B : Nat} {w : World} {D : Nat → Option FS} (h : SB B w D) {d : Nat} {s : FS} (hd : D d = some s) (hwt : s.wt ≤ 549755813888) {xb : ByteArray} {n : Nm} (hx : xb = str n) (hn : n.length ≤ 281474976710656) {q : Int} {s' : FS} (hr : s.rem n = (q, s')) :
    Calls Try.prog 19 #[.pointer (some ⟨d, 0, none⟩), .string xb] w (Ans B (upd D d s') (.int .i64 q) w) := by
  subst hx
  have h1 := remove_any w (From B) D d s h.1 hd (by omega) n hn
  rw [hr] at h1
  exact h1.mono fun e w' hh => hh.sb h.2
theorem sync_sb {B : Nat} {w : World} {D : Nat → Option FS} (h : SB B w D) {d : Nat} {s : FS} (hd : D d = some s) (hwt : s.wt ≤ 549755813888) {s' : FS} (hr : s.sync = s') :
    Calls Try.prog 13 #[.pointer (some ⟨d, 0, none⟩)] w (Ans B (upd D d s') (.int .i64 0) w) := by
  subst hr
  exact (sync_any w (From B) D d s h.1 hd (by omega)).mono fun e w' hh => hh.sb h.2
theorem crash_sb {B : Nat} {w : World} {D : Nat → Option FS} (h : SB B w D) {d : Nat} {s : FS} (hd : D d = some s) (hwt : s.wt ≤ 549755813888) (f : Fault) (hf : f.lose < 18446744073709551616) {a b c : Int} (ha : a = f.keep) (hb : b = (f.lose : Int)) (hc : c = f.cut) {s' : FS} (hr : s.crash f = s') :
    Calls Try.prog 11 #[.pointer (some ⟨d, 0, none⟩), .agg #[.int .i64 a, .int .u64 b, .int .i64 c]] w (Ans B (upd D d s') (.tuple #[]) w) := by
  subst hr ha hb hc
  exact (crash_any w (From B) D d s h.1 hd hwt f hf).mono fun e w' hh => hh.sb h.2
/-- .. and nothing has turned. -/
def Says0 (v : Value) (w : World) (e : Ending) (w' : World) : Prop := e = .returned v ∧ Below w.heap.size w w'
theorem read_sb {B : Nat} {w : World} {D : Nat → Option FS} (h : SB B w D) {d : Nat} {s : FS} (hd : D d = some s) {xb yb : ByteArray} {n : Nm} (hx : xb = str n) {q : Int} (hy : yb = str (s.bytes n)) (hq : q = s.look n) :
    Calls Try.prog 18 #[.pointer (some ⟨d, 0, none⟩), .string xb] w (Says0 (.tuple #[.string yb, .int .i64 q]) w) := by
  subst hx hy hq
  exact read_any w (From B) D d s h.1 hd n
theorem rd_sb {B : Nat} {w : World} {D : Nat → Option FS} (h : SB B w D) {d : Nat} {s : FS} (hd : D d = some s) {xb yb : ByteArray} {n : Nm} (hx : xb = str n) (hy : yb = str (s.bytes n)) :
    Calls Try.prog 15 #[.pointer (some ⟨d, 0, none⟩), .string xb] w (Says0 (.string yb) w) := by
  have H := Lib.hid (read_sb h hd hx hy rfl)
  clear h hd hx hy
  go_enter Try.func15, Try.ntmps15
  go_wp2_with (go_at_call 18; ((with_reducible refine H.out.mono ?_); rintro e w1 ⟨rfl, hb⟩))
  go_ret
  exact ⟨rfl, hb⟩

/-! ### head -/
def hs1 : FS := ⟨100, [], [.make [97]]⟩
def hs2 : FS := ⟨100, [], [.make [97], .app [97] [120, 121]]⟩
def hs3 : FS := ⟨100, [([97], ([120, 121], false))], []⟩
def hs4 : FS := ⟨100, [([97], ([120, 121], false))], [.app [97] [122, 119]]⟩
def hsx : FS := ⟨100, [([97], ([120, 121, 122], false))], []⟩
def hsz : FS := ⟨100, [([97], ([120, 121, 122, 119], false))], []⟩
theorem hdA1 : (FS.new 100).make [97] = (0, hs1) := by kernel_rfl
theorem hdA2 : hs1.app [97] [120, 121] = (0, hs2) := by kernel_rfl
theorem hdA3 : hs2.sync = hs3 := by kernel_rfl
theorem hdA4 : hs3.app [97] [122, 119] = (0, hs4) := by kernel_rfl
theorem hdX : hs4.crash ⟨0, 0, 1⟩ = hsx := by kernel_rfl
theorem hdY : hs4.crash ⟨1, 1, 0⟩ = hs3 := by kernel_rfl
theorem hdZ : hs4.crash ⟨1, 0, 0⟩ = hsz := by kernel_rfl
theorem hdA6 : hs4.make [97] = (8, hs4) := by kernel_rfl
theorem hdA7 : hs4.rem [98] = (7, hs4) := by kernel_rfl
theorem hdA8 : hs4.app [97] (List.replicate 97 0) = (6, hs4) := by kernel_rfl
theorem hdW0 : (FS.new 100).wt ≤ 549755813888 := by decide
theorem hdW1 : hs1.wt ≤ 549755813888 := by decide
theorem hdW2 : hs2.wt ≤ 549755813888 := by decide
theorem hdW3 : hs3.wt ≤ 549755813888 := by decide
theorem hdW4 : hs4.wt ≤ 549755813888 := by decide
theorem hdR1 : str (hsx.bytes [97]) = ⟨#[120, 121, 122]⟩ := by kernel_rfl
theorem hdR2 : str (hs3.bytes [97]) = ⟨#[120, 121]⟩ := by kernel_rfl
theorem hdR3 : str (hsz.bytes [97]) = ⟨#[120, 121, 122, 119]⟩ := by kernel_rfl
end Go.Proofs.Ytdfiofjnijnodaa.gn
