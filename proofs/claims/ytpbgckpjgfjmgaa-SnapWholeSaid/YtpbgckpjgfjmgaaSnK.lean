/- The calls as a law meets them: directories with the files "s" and "s~". -/
import Derived.Test.YtpbgckpjgfjmgaaSnM
import Derived.Test.YtpbgckpjgfjmgaaFiPe
set_option linter.unusedVariables false
set_option linter.unusedSectionVars false
namespace Go.Proofs.Ytpbgckpjgfjmgaa.fi
theorem sck_s : sck sN = 0 := by decide
theorem s_make (R : Nat) : (⟨R, [], []⟩ : FS).make sN = (0, ⟨R, [], [.make sN]⟩) := by
  unfold FS.make
  rw [look_s (s := ⟨R, [], []⟩) (x := none) (y := none) rfl, if_neg (by decide), if_neg (by decide), if_neg (by simp [FS.now, replay])]
  rfl
theorem s_app (R : Nat) (b : List UInt8) (h : b.length ≤ R) : (⟨R, [], [.make sN]⟩ : FS).app sN b = (0, ⟨R, [], [.make sN, .app sN b]⟩) := by
  have hn : (⟨R, [], [.make sN]⟩ : FS).now = tbl (some []) none := rfl
  unfold FS.app
  rw [look_s hn, if_neg (by decide), if_neg (by unfold FS.left; rw [hn, tbl_tot]; show ¬ ((R : Int) - ((0 + 0 : Nat) : Int) < _); omega)]
  rfl
theorem s_sync (R : Nat) (b : List UInt8) : (⟨R, [], [.make sN, .app sN b]⟩ : FS).sync = sst R (some b) none [] := rfl
theorem got_t (R : Nat) (x : List UInt8) : (sst R (some x) none []).got [116] = ([], 7) := by
  have h : (sst R (some x) none []).look [116] = 7 := by
    unfold FS.look
    rw [if_pos (by decide), sst_now]
    rfl
  unfold FS.got
  rw [h]; rfl
theorem crash_nine (R : Nat) (x : Option (List UInt8)) (b : List UInt8) : (sst R x (some b) [.ren tN sN]).crash ⟨9, 0, 0⟩ = sst R (some b) none [] := by
  unfold FS.crash sst
  simp only [crashes]
  rw [if_neg (by decide), if_neg (by decide), tbl_ren, tbl_strip]
end Go.Proofs.Ytpbgckpjgfjmgaa.fi

namespace Go.Proofs.Ytpbgckpjgfjmgaa.gn
open Go.RowKit
open Go.Proofs.Ytpbgckpjgfjmgaa.fi

section
variable {Z : Nat → Prop} {w : World} {D : Nat → Option FS} {J : Nat → Option Jn} (h : Hold Z w D J) {d R : Nat} {x y : Option (List UInt8)} (hd : D d = some (sst R x y [])) (hx : lx x ≤ 1000000) (hy : lx y ≤ 1000000)
include h hd hx hy
theorem lpart (t : List UInt8) (ht : t.length ≤ 262144) (hr : lx x + (frame t).length ≤ R) (k : Nat) {q : Int} (hq : q = (k : Int)) {tb : ByteArray} (hb : tb = str t) :
    Calls Try.prog 9 #[.pointer (some ⟨d, 0, none⟩), .string ⟨#[115]⟩, .string tb, .int .i64 q] w (StepD Z D J d (stp R x y (frame t) k) (.tuple #[.bool (decide (5 ≤ k)), .int .i64 0]) w) := by
  subst hb
  have hw := sst_wt R x y []
  have e : wts [] = 0 := rfl
  have hs := part_any h hd (by omega) sN (by decide) sck_s t ht k hq
  rw [snapD_yes R x y _ hr k, sst_snap R x y _ hr k] at hs
  exact Calls.mono (show Calls Try.prog 9 #[.pointer (some ⟨d, 0, none⟩), .string ⟨#[115]⟩, .string (str t), .int .i64 q] w _ from hs) fun e w' hh => hh.stepD
theorem lput (t : List UInt8) (ht : t.length ≤ 262144) (hr : lx x + (frame t).length ≤ R) {tb : ByteArray} (hb : tb = str t) :
    Calls Try.prog 8 #[.pointer (some ⟨d, 0, none⟩), .string ⟨#[115]⟩, .string tb] w (StepD Z D J d (sst R (some (frame t)) none []) (.int .i64 0) w) := by
  subst hb
  have hw := sst_wt R x y []
  have e : wts [] = 0 := rfl
  have hs := sput_any h hd (by omega) sN (by decide) sck_s t ht
  rw [sst_snap R x y _ hr 5] at hs
  exact Calls.mono (show Calls Try.prog 8 #[.pointer (some ⟨d, 0, none⟩), .string ⟨#[115]⟩, .string (str t)] w _ from hs) fun e w' hh => hh.stepD
theorem lput_no (t : List UInt8) (ht : t.length ≤ 262144) (hr : R < lx x + (frame t).length) {tb : ByteArray} (hb : tb = str t) :
    Calls Try.prog 8 #[.pointer (some ⟨d, 0, none⟩), .string ⟨#[115]⟩, .string tb] w (StepD Z D J d (sst R x y []) (.int .i64 6) w) := by
  subst hb
  have hw := sst_wt R x y []
  have e : wts [] = 0 := rfl
  have hs := sput_any h hd (by omega) sN (by decide) sck_s t ht
  rw [sst_snap_no R x y _ hr 4] at hs
  exact Calls.mono (show Calls Try.prog 8 #[.pointer (some ⟨d, 0, none⟩), .string ⟨#[115]⟩, .string (str t)] w _ from hs) fun e w' hh => hh.stepD
theorem lget {t : List UInt8} {q : Int} (hg : (sst R x y []).got sN = (t, q)) {tb : ByteArray} (hb : tb = str t) :
    Calls Try.prog 11 #[.pointer (some ⟨d, 0, none⟩), .string ⟨#[115]⟩] w (Asks (.tuple #[.string tb, .int .i64 q]) w) := by
  subst hb
  have hs := get_any h hd sN (by decide) sck_s (by rw [sst_bytes]; cases x with | none => decide | some b => have h2 : b.length ≤ 1000000 := hx; show b.length ≤ _; omega)
  rw [hg] at hs
  exact Calls.mono (show Calls Try.prog 11 #[.pointer (some ⟨d, 0, none⟩), .string ⟨#[115]⟩] w _ from hs) fun e w' hh => hh
end
theorem lget_t {Z : Nat → Prop} {w : World} {D : Nat → Option FS} {J : Nat → Option Jn} (h : Hold Z w D J) {d R : Nat} {x : List UInt8} (hd : D d = some (sst R (some x) none [])) (hx : x.length ≤ 1000000) :
    Calls Try.prog 11 #[.pointer (some ⟨d, 0, none⟩), .string ⟨#[116]⟩] w (Asks (.tuple #[.string ⟨#[]⟩, .int .i64 7]) w) := by
  have hb : ((sst R (some x) none []).bytes [116]).length ≤ 549755813888 := by
    have hl : (sst R (some x) none []).look [116] = 7 := by
      unfold FS.look
      rw [if_pos (by decide), sst_now]
      rfl
    unfold FS.bytes
    rw [hl]
    show (0 : Nat) ≤ _
    omega
  have hs := get_any h hd [116] (by decide) (by decide) hb
  rw [got_t] at hs
  exact Calls.mono (show Calls Try.prog 11 #[.pointer (some ⟨d, 0, none⟩), .string ⟨#[116]⟩] w _ from hs) fun e w' hh => hh
theorem lpend {Z : Nat → Prop} {w : World} {D : Nat → Option FS} {J : Nat → Option Jn} (h : Hold Z w D J) {d R : Nat} {x y : Option (List UInt8)} (hd : D d = some (sst R x y [])) :
    Calls Try.prog 12 #[.pointer (some ⟨d, 0, none⟩)] w (Asks (.int .i64 0) w) := by
  obtain ⟨X, hS, _⟩ := h.is
  exact pending_any w X D d _ hS hd
theorem lread {Z : Nat → Prop} {w : World} {D : Nat → Option FS} {J : Nat → Option Jn} (h : Hold Z w D J) {d R : Nat} {x : List UInt8} {y : Option (List UInt8)} (hd : D d = some (sst R (some x) y [])) {xb : ByteArray} (hb : xb = str x) :
    Calls Try.prog 17 #[.pointer (some ⟨d, 0, none⟩), .string ⟨#[115]⟩] w (Asks (.tuple #[.string xb, .int .i64 0]) w) := by
  subst hb
  have hs := read_h h hd sN
  rw [sst_bytes, sst_look] at hs
  exact Calls.mono (show Calls Try.prog 17 #[.pointer (some ⟨d, 0, none⟩), .string ⟨#[115]⟩] w _ from hs) fun e w' hh => hh
section
variable {Z : Nat → Prop} {w : World} {D : Nat → Option FS} {J : Nat → Option Jn} (h : Hold Z w D J) {d R : Nat}
include h
theorem lmake (hd : D d = some ⟨R, [], []⟩) :
    Calls Try.prog 13 #[.pointer (some ⟨d, 0, none⟩), .string ⟨#[115]⟩] w (StepD Z D J d ⟨R, [], [.make sN]⟩ (.int .i64 0) w) := by
  have hs := make_h h hd (show (0 : Nat) ≤ 549755813888 by decide) sN (by decide)
  rw [s_make] at hs
  exact Calls.mono (show Calls Try.prog 13 #[.pointer (some ⟨d, 0, none⟩), .string ⟨#[115]⟩] w _ from hs) fun e w' hh => hh.stepD
theorem lapp (hd : D d = some ⟨R, [], [.make sN]⟩) (b : List UInt8) (hl : b.length ≤ R) (hl2 : b.length ≤ 1000000) {bb : ByteArray} (hb : bb = str b) :
    Calls Try.prog 14 #[.pointer (some ⟨d, 0, none⟩), .string ⟨#[115]⟩, .string bb] w (StepD Z D J d ⟨R, [], [.make sN, .app sN b]⟩ (.int .i64 0) w) := by
  subst hb
  have hs := append_h h hd (show (1 : Nat) ≤ 549755813888 by decide) sN (by decide) b (by omega)
  rw [s_app R b hl] at hs
  exact Calls.mono (show Calls Try.prog 14 #[.pointer (some ⟨d, 0, none⟩), .string ⟨#[115]⟩, .string (str b)] w _ from hs) fun e w' hh => hh.stepD
theorem lsync (b : List UInt8) (hd : D d = some ⟨R, [], [.make sN, .app sN b]⟩) (hl2 : b.length ≤ 1000000) :
    Calls Try.prog 15 #[.pointer (some ⟨d, 0, none⟩)] w (StepD Z D J d (sst R (some b) none []) (.int .i64 0) w) := by
  have hs := sync_h h hd (show 0 + (1 + (1 + b.length + 0)) ≤ 549755813888 by omega)
  rw [s_sync R b] at hs
  exact hs.mono fun e w' hh => hh.stepD
end
end Go.Proofs.Ytpbgckpjgfjmgaa.gn
