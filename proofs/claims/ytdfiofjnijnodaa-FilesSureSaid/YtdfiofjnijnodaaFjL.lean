/- 'do', whatever the act is; a failure that loses nothing, and one behind a sync, plain. -/
import Derived.Test.YtdfiofjnijnodaaFjK
set_option linter.unusedVariables false
namespace Go.Proofs.Ytdfiofjnijnodaa.fi
theorem crashes_all : ∀ (l : List FOp) (i : Nat) (T : Tb), crashes ⟨((i + l.length : Nat) : Int), 0, 0⟩ i l T = replay l T
  | [], i, T => by simp [crashes, replay]
  | o :: r, i, T => by
    have h1 := crashes_all r (i + 1) (doOp o T)
    have e : i + 1 + r.length = i + (o :: r).length := by simp only [List.length_cons]; omega
    rw [e] at h1
    have n1 : ¬ ((i + (o :: r).length : Nat) : Int) < (i : Int) := by simp only [List.length_cons]; omega
    have n2 : ¬ ((i + (o :: r).length : Nat) : Int) = (i : Int) := by simp only [List.length_cons]; omega
    show crashes _ i (o :: r) T = replay r (doOp o T)
    by_cases ha : o.isApp = true
    · cases o <;> simp [FOp.isApp] at ha
      rename_i n t
      rw [crashes_app n1 (by rintro (h | h); exact n2 h; simp at h)]
      exact h1
    · rw [crashes_do (by simpa using ha) n1 n2]
      exact h1
end Go.Proofs.Ytdfiofjnijnodaa.fi

namespace Go.Proofs.Ytdfiofjnijnodaa.gn
open Go.RowKit
open Go.Proofs.Ytdfiofjnijnodaa.fi

theorem act_any (Z : Nat → Prop) (w : World) (D : Nat → Option FS) (q K d : Nat) (s : FS) (h : Duo Z w D q K) (hd : D d = some s) (hwt : s.wt ≤ 549755813888) (hK : K ≤ 300) (x : Ac) (hx : AcOk x) :
    Calls Try.prog 9 #[.pointer (some ⟨d, 0, none⟩), .pointer (some ⟨q, 0, none⟩), .agg (acv x)] w (Acts Z (upd D d (s.act x)) q (K + 1) w) := by
  have hc : x.t % 8 = 0 ∨ x.t % 8 = 1 ∨ x.t % 8 = 2 ∨ x.t % 8 = 3 ∨ x.t % 8 = 4 ∨ x.t % 8 = 5 ∨ x.t % 8 = 6 ∨ x.t % 8 = 7 := by omega
  rcases hc with ht | ht | ht | ht | ht | ht | ht | ht
  · exact act_0 Z w D q K d s h hd hwt hK x hx ht
  · exact act_1 Z w D q K d s h hd hwt hK x hx ht
  · exact act_2 Z w D q K d s h hd hwt hK x hx ht
  · exact act_3 Z w D q K d s h hd hwt hK x hx ht
  · exact act_4 Z w D q K d s h hd hwt hK x hx ht
  · exact act_5 Z w D q K d s h hd hwt hK x hx ht
  · exact act_6 Z w D q K d s h hd hwt hK x hx ht
  · exact act_7 Z w D q K d s h hd hwt hK x hx ht
end Go.Proofs.Ytdfiofjnijnodaa.gn
