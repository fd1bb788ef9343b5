/- The contract of Pending. -/
import Derived.Test.YtpbgckpjgfjmgaaFiK
set_option linter.unusedVariables false
set_option maxRecDepth 100000
namespace Go.Proofs.Ytpbgckpjgfjmgaa.gn
open Go.RowKit
open Go.Proofs.Ytpbgckpjgfjmgaa.fi

set_option maxHeartbeats 4000000 in
theorem pending_any (w : World) (X : Nat → Prop) (D : Nat → Option FS) (d : Nat) (s : FS) (hS : Sys w X D) (hd : D d = some s) :
    Calls Try.prog 12 #[.pointer (some ⟨d, 0, none⟩)] w (Asks (.int .i64 (s.op.length : Int)) w) := by
  obtain ⟨TT, role, ga, h1, h2⟩ := hS
  obtain ⟨nb, sb, v, h⟩ := h2 d s hd
  obtain ⟨c0, c1, c2, c3, c4⟩ := h.blk.cells
  obtain ⟨cs, hrow, _⟩ := h.ops
  have hv : ∃ A c, v = .slice A s.op.length c := by
    rcases hrow.2 with ⟨rfl, hn⟩ | ⟨g, cap, cur, rfl, _⟩
    · exact ⟨none, 0, by rw [hn]⟩
    · exact ⟨_, _, rfl⟩
  obtain ⟨A, c, rfl⟩ := hv
  clear hrow h
  go_enter Try.func12, Try.ntmps12
  go_wp2_with (go_at_call 24; ((with_reducible refine (is_any _ _ c0).mono ?_); rintro e w' ⟨rfl, rfl⟩))
  go_ret
  exact ⟨rfl, Below.refl _ _⟩

end Go.Proofs.Ytpbgckpjgfjmgaa.gn
