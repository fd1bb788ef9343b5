/- How many operations are open, as a law meets it. -/
import Derived.Test.YtphdmpplmdcnaaaMJoK
import Derived.Test.YtphdmpplmdcnaaaMFiJ
section
set_option linter.unusedVariables false
namespace Go.Proofs.Ytphdmpplmdcnaaa.gn
open Go.RowKit
open Go.Proofs.Ytphdmpplmdcnaaa.fi

theorem pending_h {Z : Nat → Prop} {w : World} {D : Nat → Option FS} {J : Nat → Option Jn} (h : Hold Z w D J) {d : Nat} {s : FS} (hd : D d = some s) :
    Calls Try.prog 12 #[.pointer (some ⟨d, 0, none⟩)] w (Asks (.int .i64 (s.op.length : Int)) w) := by
  obtain ⟨X, hS, _⟩ := h.is
  exact pending_any w X D d s hS hd
theorem lpending {Z : Nat → Prop} {w : World} {D : Nat → Option FS} {J : Nat → Option Jn} (h : Hold Z w D J) {d r : Nat} {B : List UInt8} {Rs : List (List (List UInt8))} (hd : D d = some (stt r B Rs)) :
    Calls Try.prog 12 #[.pointer (some ⟨d, 0, none⟩)] w (Asks (.int .i64 (Rs.length : Int)) w) := by
  have hs := pending_h h hd
  have e : (stt r B Rs).op.length = Rs.length := by simp [stt]
  rw [e] at hs
  exact hs
end Go.Proofs.Ytphdmpplmdcnaaa.gn
end
