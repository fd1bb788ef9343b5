/- What an act makes of a directory, plain; its calls. -/
import Derived.Test.YtdfiofjnijnodaaFjI
set_option linter.unusedVariables false
namespace Go.Proofs.Ytdfiofjnijnodaa.fi
/-- An act: its kind (0 to 7), name, text, number, failure. -/
structure Ac where
  t : Nat
  n : Nm
  s : List UInt8
  k : Int
  f : Fault
def FS.act (s : FS) (x : Ac) : FS :=
  match x.t % 8 with
  | 0 => (s.make x.n).2
  | 1 => (s.app x.n x.s).2
  | 2 => (s.cut x.n x.k).2
  | 3 => (s.ren x.n x.s).2
  | 4 => (s.rem x.n).2
  | 5 => s.sync
  | 6 => s.crash x.f
  | _ => s
theorem wt_crashes (f : Fault) : ∀ (l : List FOp) (i : Nat) {T : Tb}, Keyed1 T → wt (crashes f i l T) ≤ wt T + wts l
  | [], i, T, _ => by simp [crashes, wts]
  | o :: r, i, T, h => by
    have h1 := wt_do h o
    have h2 := keyed_do h o
    have h3 := wt_crashes f r (i + 1) h2
    cases o with
    | app n s =>
      have h4 := wt_short h n s f.cut
      have h5 : Keyed1 (short n s f.cut T) := keyed_short h n s f.cut
      have h6 := wt_crashes f r (i + 1) h5
      simp only [crashes, wts, FOp.wt] at *
      split
      · omega
      · split
        · first
          | omega
          | (split <;> omega)
        · omega
    | _ =>
      simp only [crashes, wts, FOp.wt] at *
      split
      · omega
      · split <;> omega
theorem act_wt {s : FS} (h : s.Ok) (x : Ac) : (s.act x).wt ≤ s.wt + 1 + x.s.length := by
  unfold FS.act
  split
  · unfold FS.make
    split
    · simp only; omega
    · split
      · simp only; omega
      · split
        · simp only; omega
        · simp only [FS.done_wt, FOp.wt]; omega
  · unfold FS.app
    split
    · simp only; omega
    · split
      · simp only; omega
      · simp only [FS.done_wt, FOp.wt]; omega
  · unfold FS.cut
    split
    · simp only; omega
    · split
      · simp only; omega
      · split
        · simp only; omega
        · simp only [FS.done_wt, FOp.wt]; omega
  · unfold FS.ren
    split
    · simp only; omega
    · split
      · simp only; omega
      · simp only [FS.done_wt, FOp.wt]; omega
  · unfold FS.rem
    split
    · simp only; omega
    · simp only [FS.done_wt, FOp.wt]; omega
  · have := FS.sync_wt h; omega
  · have h1 := wt_crashes x.f s.op 0 h.keyed
    simp only [FS.wt, FS.crash, wt_strip, wts] at h1 ⊢
    omega
  · omega
end Go.Proofs.Ytdfiofjnijnodaa.fi
