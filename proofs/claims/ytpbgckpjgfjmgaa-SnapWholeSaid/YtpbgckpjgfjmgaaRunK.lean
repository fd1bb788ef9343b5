/- The calls on a directory as a law meets them: the directories D' behind a call, with what they tell of each place. -/
import Derived.Test.YtpbgckpjgfjmgaaRunA
set_option linter.unusedVariables false
namespace Go.Proofs.Ytpbgckpjgfjmgaa.fi
theorem new_room {r : Nat} (h : r ≤ 16777216) : FS.new r = ⟨r, [], []⟩ := by unfold FS.new; congr 1; omega
end Go.Proofs.Ytpbgckpjgfjmgaa.fi

namespace Go.Proofs.Ytpbgckpjgfjmgaa.gn
open Go.RowKit
open Go.Proofs.Ytpbgckpjgfjmgaa.fi

theorem upd_keep {α : Type} {D : Nat → Option α} {d x : Nat} {s : α} (h : x ≠ d) : upd D d s x = D x := upd_other D s h
def NewD (Z : Nat → Prop) (D : Nat → Option FS) (J : Nat → Option Jn) (s : FS) (w : World) (e : Ending) (w' : World) : Prop :=
  ∃ d D', e = .returned (.pointer (some ⟨d, 0, none⟩)) ∧ w.heap.size ≤ d ∧ Hold Z w' D' J ∧ D' d = some s ∧ (∀ x, x ≠ d → D' x = D x) ∧ Below w.heap.size w w'
def StepD (Z : Nat → Prop) (D : Nat → Option FS) (J : Nat → Option Jn) (d : Nat) (s : FS) (v : Value) (w : World) (e : Ending) (w' : World) : Prop :=
  ∃ D', e = .returned v ∧ Hold Z w' D' J ∧ D' d = some s ∧ (∀ x, x ≠ d → D' x = D x) ∧ Only (Off Z) w w'
theorem Went.stepD {Z : Nat → Prop} {D : Nat → Option FS} {J : Nat → Option Jn} {d : Nat} {s : FS} {v : Value} {w w' : World} {e : Ending} (h : Went Z (upd D d s) J v w e w') : StepD Z D J d s v w e w' :=
  ⟨_, h.1, h.2.1, upd_same _ _ _, fun x hx => upd_keep hx, h.2.2⟩
theorem Only.belowZ {Z : Nat → Prop} {a b : World} {B : Nat} (h : Only (Off Z) a b) (hz : ∀ i, i < B → Z i) (hB : B ≤ a.heap.size) : Below B a b := h.below (fun i hi => Nat.le_of_not_lt fun hl => hi (hz i hl)) hB

section
variable {Z : Nat → Prop} {w : World} {D : Nat → Option FS} {J : Nat → Option Jn} (h : Hold Z w D J)
include h
theorem lnew (r : Nat) (hr : r ≤ 16777216) {x : Int} (hx : x = (r : Int)) : Calls Try.prog 7 #[.int .i64 x] w (NewD Z D J ⟨r, [], []⟩ w) := by
  subst hx
  refine (new_h h r).mono fun e w' hh => ?_
  obtain ⟨d, h1, h2, h3, h4⟩ := hh
  rw [new_room hr] at h3
  exact ⟨d, _, h1, h2, h3, upd_same _ _ _, fun x hx => upd_keep hx, h4⟩
theorem lcopy {d : Nat} {s : FS} (hd : D d = some s) (hwt : s.wt ≤ 274877906944) : Calls Try.prog 19 #[.pointer (some ⟨d, 0, none⟩)] w (NewD Z D J s w) := by
  refine (copy_h h hd (by omega)).mono fun e w' hh => ?_
  obtain ⟨d, h1, h2, h3, h4⟩ := hh
  exact ⟨d, _, h1, h2, h3, upd_same _ _ _, fun x hx => upd_keep hx, h4⟩
theorem lcrash {d : Nat} {s s' : FS} (hd : D d = some s) (hwt : s.wt ≤ 274877906944) (f : Fault) (hf : f.lose < 18446744073709551616) {a b c : Int} (ha : a = f.keep) (hb : b = (f.lose : Int)) (hc : c = f.cut) (hs : s.crash f = s') :
    Calls Try.prog 10 #[.pointer (some ⟨d, 0, none⟩), .agg #[.int .i64 a, .int .u64 b, .int .i64 c]] w (StepD Z D J d s' (.tuple #[]) w) := by
  subst hs
  exact (crash_h h hd (by omega) f hf ha hb hc).mono fun e w' hh => hh.stepD
end
end Go.Proofs.Ytpbgckpjgfjmgaa.gn
