/- Plain: a directory with the files "s" and "s~", what a Put's steps, a failure, a Get make of it. -/
import Derived.Test.YtpbgckpjgfjmgaaSnC
import Derived.Test.YtpbgckpjgfjmgaaSnE
import Derived.Test.YtpbgckpjgfjmgaaRunK
set_option linter.unusedVariables false
namespace Go.Proofs.Ytpbgckpjgfjmgaa.fi
open Go.Proofs.Ytpbgckpjgfjmgaa.gn (frame frame_len)

def sN : Nm := [115]
def tN : Nm := [115, 126]
/-- The files "s" and "s~", if they are there. -/
def tbl : Option (List UInt8) → Option (List UInt8) → Tb
  | none, none => []
  | some x, none => [(sN, (x, false))]
  | none, some y => [(tN, (y, false))]
  | some x, some y => [(sN, (x, false)), (tN, (y, false))]
def lx : Option (List UInt8) → Nat
  | none => 0
  | some x => x.length
theorem valid_s : valid sN = true := by decide
theorem valid_t : valid tN = true := by decide
theorem tbl_get_s (x y : Option (List UInt8)) : get sN (tbl x y) = x.map fun b => (b, false) := by cases x <;> cases y <;> rfl
theorem tbl_get_t (x y : Option (List UInt8)) : get tN (tbl x y) = y.map fun b => (b, false) := by cases x <;> cases y <;> rfl
theorem tbl_len (x y : Option (List UInt8)) : (tbl x y).length ≤ 2 := by cases x <;> cases y <;> simp [tbl]
theorem tbl_tot (x y : Option (List UInt8)) : tot (tbl x y) = lx x + lx y := by cases x <;> cases y <;> simp [tbl, tot, lx]
theorem tbl_wt (x y : Option (List UInt8)) : wt (tbl x y) ≤ 2 + lx x + lx y := by cases x <;> cases y <;> simp [tbl, wt, lx] <;> omega
theorem tbl_strip (x y : Option (List UInt8)) : strip (tbl x y) = tbl x y := by cases x <;> cases y <;> rfl
theorem tbl_rem (x y : Option (List UInt8)) : doOp (.rem tN) (tbl x y) = tbl x none := by cases x <;> cases y <;> rfl
theorem tbl_make (x : Option (List UInt8)) : doOp (.make tN) (tbl x none) = tbl x (some []) := by cases x <;> rfl
theorem tbl_app (x : Option (List UInt8)) (y b : List UInt8) : doOp (.app tN b) (tbl x (some y)) = tbl x (some (y ++ b)) := by cases x <;> rfl
theorem tbl_short (x : Option (List UInt8)) (y b : List UInt8) (c : Int) : strip (short tN b c (tbl x (some y))) = tbl x (some (y ++ b.take c.toNat)) := by cases x <;> rfl
theorem tbl_ren (x : Option (List UInt8)) (y : List UInt8) : doOp (.ren tN sN) (tbl x (some y)) = tbl (some y) none := by cases x <;> rfl
theorem look_s {s : FS} {x y : Option (List UInt8)} (h : s.now = tbl x y) : s.look sN = if x.isSome then 0 else 7 := by
  unfold FS.look
  rw [if_pos valid_s, h, tbl_get_s]
  cases x <;> rfl
theorem look_t {s : FS} {x y : Option (List UInt8)} (h : s.now = tbl x y) : s.look tN = if y.isSome then 0 else 7 := by
  unfold FS.look
  rw [if_pos valid_t, h, tbl_get_t]
  cases y <;> rfl
theorem bytes_s {s : FS} {x y : Option (List UInt8)} (h : s.now = tbl x y) : s.bytes sN = x.getD [] := by
  unfold FS.bytes
  rw [look_s h, h, tbl_get_s]
  cases x <;> rfl
theorem t_rem_no {s : FS} {x : Option (List UInt8)} (h : s.now = tbl x none) : s.rem tN = (7, s) := by
  unfold FS.rem
  rw [look_t h]; rfl
theorem t_rem_yes {s : FS} {x : Option (List UInt8)} {y : List UInt8} (h : s.now = tbl x (some y)) : s.rem tN = (0, s.done (.rem tN)) := by
  unfold FS.rem
  rw [look_t h]; rfl
theorem t_make {s : FS} {x : Option (List UInt8)} (h : s.now = tbl x none) : s.make tN = (0, s.done (.make tN)) := by
  unfold FS.make
  rw [look_t h, if_neg (by decide), if_neg (by decide), if_neg (by rw [h]; have := tbl_len x none; omega)]
theorem t_app_yes {s : FS} {x : Option (List UInt8)} {y b : List UInt8} (h : s.now = tbl x (some y)) (hl : lx x + y.length + b.length ≤ s.room) : s.app tN b = (0, s.done (.app tN b)) := by
  unfold FS.app
  rw [look_t h, if_neg (by simp), if_neg (by unfold FS.left; rw [h, tbl_tot]; show ¬ ((s.room : Int) - ((lx x + y.length : Nat) : Int) < _); omega)]
theorem t_app_no {s : FS} {x : Option (List UInt8)} {y b : List UInt8} (h : s.now = tbl x (some y)) (hl : s.room < lx x + y.length + b.length) : s.app tN b = (6, s) := by
  unfold FS.app
  rw [look_t h, if_neg (by simp), if_pos (by unfold FS.left; rw [h, tbl_tot]; show (s.room : Int) - ((lx x + y.length : Nat) : Int) < _; omega)]
theorem t_ren {s : FS} {x : Option (List UInt8)} {y : List UInt8} (h : s.now = tbl x (some y)) : s.ren tN sN = (0, s.done (.ren tN sN)) := by
  unfold FS.ren
  rw [look_t h]; rfl

/-- The files, and the operations that are open. -/
def sst (R : Nat) (x y : Option (List UInt8)) (op : List FOp) : FS := ⟨R, tbl x y, op⟩
theorem sst_now (R : Nat) (x y : Option (List UInt8)) : (sst R x y []).now = tbl x y := rfl
theorem done_sst (R : Nat) (x y : Option (List UInt8)) (op : List FOp) (o : FOp) : (sst R x y op).done o = sst R x y (op ++ [o]) := rfl
def preO : Option (List UInt8) → List FOp
  | none => []
  | some _ => [.rem tN]
theorem pre_now (R : Nat) (x y : Option (List UInt8)) : (sst R x y (preO y)).now = tbl x none := by
  cases y with
  | none => rfl
  | some y => exact tbl_rem x (some y)
theorem sst_done_now {R : Nat} {x y : Option (List UInt8)} {op : List FOp} {T : Tb} (h : (sst R x y op).now = T) (o : FOp) : (sst R x y (op ++ [o])).now = doOp o T := by
  rw [← done_sst, FS.done_now, h]
theorem sst_rem (R : Nat) (x y : Option (List UInt8)) : ((sst R x y []).rem tN).2 = sst R x y (preO y) ∧ (((sst R x y []).rem tN).1 = 0 ∨ ((sst R x y []).rem tN).1 = 7) := by
  cases y with
  | none => rw [t_rem_no (sst_now R x none)]; exact ⟨rfl, .inr rfl⟩
  | some y => rw [t_rem_yes (sst_now R x (some y))]; exact ⟨rfl, .inl rfl⟩
theorem make_now (R : Nat) (x y : Option (List UInt8)) : (sst R x y (preO y ++ [.make tN])).now = tbl x (some []) := by rw [sst_done_now (pre_now R x y), tbl_make]
theorem app_now (R : Nat) (x y : Option (List UInt8)) (b : List UInt8) : (sst R x y (preO y ++ [.make tN] ++ [.app tN b])).now = tbl x (some b) := by rw [sst_done_now (make_now R x y), tbl_app]; rfl
theorem sst_write (R : Nat) (x y : Option (List UInt8)) (b : List UInt8) : (sst R x y []).write tN b = (sst R x y (preO y ++ [.make tN])).app tN b := by
  obtain ⟨h1, h2⟩ := sst_rem R x y
  unfold FS.write
  rw [if_neg (by rcases h2 with h2 | h2 <;> rw [h2] <;> decide), h1, t_make (pre_now R x y), if_neg (show ¬ ((0 : Int) ≠ 0) by decide)]
  rfl
theorem sst_puts_yes (R : Nat) (x y : Option (List UInt8)) (b : List UInt8) (h : lx x + b.length ≤ R) : (sst R x y []).puts tN b = (0, sst R x y (preO y ++ [.make tN] ++ [.app tN b])) := by
  unfold FS.puts
  rw [sst_write, t_app_yes (make_now R x y) (by show lx x + 0 + b.length ≤ R; omega), if_neg (show ¬ ((0 : Int) ≠ 0) by decide)]
  rfl
theorem sst_puts_no (R : Nat) (x y : Option (List UInt8)) (b : List UInt8) (h : R < lx x + b.length) : (sst R x y []).puts tN b = (6, sst R x y []) := by
  unfold FS.puts
  rw [sst_write, t_app_no (make_now R x y) (by show R < lx x + 0 + b.length; omega), if_pos (show (6 : Int) ≠ 0 by decide)]
theorem sst_sync (R : Nat) (x y : Option (List UInt8)) (b : List UInt8) : (sst R x y (preO y ++ [.make tN] ++ [.app tN b])).sync = sst R x (some b) [] := by
  have h := app_now R x y b
  unfold FS.sync
  rw [h]; rfl
theorem sst_ren (R : Nat) (x : Option (List UInt8)) (b : List UInt8) : (sst R x (some b) []).ren tN sN = (0, sst R x (some b) [.ren tN sN]) := by rw [t_ren (sst_now R x (some b))]; rfl
theorem sst_end (R : Nat) (x : Option (List UInt8)) (b : List UInt8) : (sst R x (some b) [.ren tN sN]).sync = sst R (some b) none [] := by
  have h : (sst R x (some b) [.ren tN sN]).now = tbl (some b) none := tbl_ren x b
  unfold FS.sync
  rw [h]; rfl

/-- What the first k steps of a Put of b leave. -/
def stp (R : Nat) (x y : Option (List UInt8)) (b : List UInt8) : Nat → FS
  | 0 => sst R x y []
  | 1 => sst R x y (preO y ++ [.make tN] ++ [.app tN b])
  | 2 => sst R x (some b) []
  | 3 => sst R x (some b) [.ren tN sN]
  | _ => sst R (some b) none []
theorem runs_yes {f : FS → Int × FS} {r : List (FS → Int × FS)} {s s' : FS} (h : f s = (0, s')) : runs (f :: r) s = runs r s' := by rw [runs_cons, h]; rfl
theorem runs_no {f : FS → Int × FS} {r : List (FS → Int × FS)} {s s' : FS} {q : Int} (hq : q ≠ 0) (h : f s = (q, s')) : runs (f :: r) s = (q, s') := by rw [runs_cons, h, if_neg hq]
theorem sst_snap (R : Nat) (x y : Option (List UInt8)) (b : List UInt8) (h : lx x + b.length ≤ R) (k : Nat) : (sst R x y []).snap sN b k = (0, stp R x y b k) := by
  have h1 : (fun s : FS => s.puts (sN ++ [126]) b) (sst R x y []) = (0, stp R x y b 1) := sst_puts_yes R x y b h
  have h2 : (fun s : FS => ((0 : Int), s.sync)) (stp R x y b 1) = (0, stp R x y b 2) := congrArg (Prod.mk 0) (sst_sync R x y b)
  have h3 : (fun s : FS => s.ren (sN ++ [126]) sN) (stp R x y b 2) = (0, stp R x y b 3) := sst_ren R x b
  have h4 : (fun s : FS => ((0 : Int), s.sync)) (stp R x y b 3) = (0, stp R x y b 4) := congrArg (Prod.mk 0) (sst_end R x b)
  have h5 : (fun s : FS => ((0 : Int), s)) (stp R x y b 4) = (0, stp R x y b 5) := rfl
  unfold FS.snap snapL
  match k with
  | 0 => rfl
  | 1 => exact runs_yes h1
  | 2 => exact (runs_yes h1).trans (runs_yes h2)
  | 3 => exact (runs_yes h1).trans ((runs_yes h2).trans (runs_yes h3))
  | 4 => exact (runs_yes h1).trans ((runs_yes h2).trans ((runs_yes h3).trans (runs_yes h4)))
  | k + 5 =>
    rw [List.take_of_length_le (by simp)]
    exact (runs_yes h1).trans ((runs_yes h2).trans ((runs_yes h3).trans ((runs_yes h4).trans (runs_yes h5))))
theorem sst_snap_no (R : Nat) (x y : Option (List UInt8)) (b : List UInt8) (h : R < lx x + b.length) (k : Nat) : (sst R x y []).snap sN b (k + 1) = (6, sst R x y []) :=
  runs_no (by decide) (sst_puts_no R x y b h)

/-! ### a failure -/
theorem crash_none (R : Nat) (x y : Option (List UInt8)) (f : Fault) : (sst R x y []).crash f = sst R x y [] := by
  simp [FS.crash, sst, crashes, tbl_strip]
theorem crash_one (R : Nat) (x : Option (List UInt8)) (b : List UInt8) (f : Fault) : ∃ y, (sst R x none [.make tN, .app tN b]).crash f = sst R x y [] ∧ lx y ≤ b.length := by
  unfold FS.crash sst
  simp only [crashes]
  by_cases h0 : f.keep < ((0 : Nat) : Int)
  · rw [if_pos h0]
    exact ⟨none, by rw [tbl_strip], Nat.zero_le _⟩
  · rw [if_neg h0]
    by_cases h1 : f.keep = ((0 : Nat) : Int)
    · rw [if_pos h1]
      exact ⟨none, by rw [tbl_strip], Nat.zero_le _⟩
    · rw [if_neg h1, tbl_make]
      by_cases h2 : f.keep < ((0 + 1 : Nat) : Int)
      · rw [if_pos h2]
        exact ⟨some [], by rw [tbl_strip], Nat.zero_le _⟩
      · rw [if_neg h2]
        split
        · refine ⟨some ([] ++ b.take f.cut.toNat), by rw [tbl_short], ?_⟩
          show (([] : List UInt8) ++ b.take f.cut.toNat).length ≤ _
          rw [List.nil_append, List.length_take]
          omega
        · rw [tbl_app]
          exact ⟨some ([] ++ b), by rw [tbl_strip], Nat.le_refl _⟩
theorem crash_three (R : Nat) (x : Option (List UInt8)) (b : List UInt8) (f : Fault) : (sst R x (some b) [.ren tN sN]).crash f = sst R x (some b) [] ∨ (sst R x (some b) [.ren tN sN]).crash f = sst R (some b) none [] := by
  unfold FS.crash sst
  simp only [crashes]
  by_cases h0 : f.keep < ((0 : Nat) : Int)
  · rw [if_pos h0, tbl_strip]; exact .inl rfl
  · rw [if_neg h0]
    by_cases h1 : f.keep = ((0 : Nat) : Int)
    · rw [if_pos h1, tbl_strip]; exact .inl rfl
    · rw [if_neg h1, tbl_ren, tbl_strip]; exact .inr rfl
/-- Behind a failure within a Put of b: the snapshot is as it was, or b; from the fourth step on b. -/
theorem crash_stp (R : Nat) (x : Option (List UInt8)) (b : List UInt8) (k : Nat) (f : Fault) :
    ∃ x' y', (stp R x none b k).crash f = sst R x' y' [] ∧ lx y' ≤ b.length ∧ (x' = x ∧ k ≤ 3 ∨ x' = some b ∧ 3 ≤ k) := by
  match k with
  | 0 => exact ⟨x, none, crash_none _ _ _ _, Nat.zero_le _, .inl ⟨rfl, by omega⟩⟩
  | 1 =>
    obtain ⟨y, h1, h2⟩ := crash_one R x b f
    exact ⟨x, y, h1, h2, .inl ⟨rfl, by omega⟩⟩
  | 2 => exact ⟨x, some b, crash_none _ _ _ _, Nat.le_refl _, .inl ⟨rfl, by omega⟩⟩
  | 3 =>
    rcases crash_three R x b f with h | h
    · exact ⟨x, some b, h, Nat.le_refl _, .inl ⟨rfl, by omega⟩⟩
    · exact ⟨some b, none, h, Nat.zero_le _, .inr ⟨rfl, by omega⟩⟩
  | k + 4 => exact ⟨some b, none, crash_none _ _ _ _, Nat.zero_le _, .inr ⟨rfl, by omega⟩⟩

/-! ### a Get -/
theorem got_none (R : Nat) (y : Option (List UInt8)) : (sst R none y []).got sN = ([], 7) := by
  unfold FS.got
  rw [look_s (sst_now R none y)]; rfl
theorem got_some (R : Nat) (b : List UInt8) (y : Option (List UInt8)) : (sst R (some b) y []).got sN = match own b with | some t => (t, 0) | none => ([], 80) := by
  unfold FS.got
  rw [look_s (sst_now R (some b) y), bytes_s (sst_now R (some b) y)]; rfl
theorem got_frame (R : Nat) (t : List UInt8) (h : t.length ≤ 262144) (y : Option (List UInt8)) : (sst R (some (frame t)) y []).got sN = (t, 0) := by rw [got_some, own_frame h]
theorem sst_bytes (R : Nat) (x y : Option (List UInt8)) : (sst R x y []).bytes sN = x.getD [] := bytes_s (sst_now R x y)
theorem sst_look (R : Nat) (x : List UInt8) (y : Option (List UInt8)) : (sst R (some x) y []).look sN = 0 := look_s (sst_now R (some x) y)
theorem sst_wt (R : Nat) (x y : Option (List UInt8)) (op : List FOp) : (sst R x y op).wt ≤ 2 + lx x + lx y + wts op := by
  have := tbl_wt x y
  show wt (tbl x y) + wts op ≤ _
  omega
theorem stp_wt (R : Nat) (x y : Option (List UInt8)) (b : List UInt8) (k : Nat) : (stp R x y b k).wt ≤ 10 + lx x + lx y + b.length := by
  have e : lx (some b) = b.length := rfl
  have e0 : lx none = 0 := rfl
  match k with
  | 0 => have := sst_wt R x y []; simp only [wts] at this; show (sst R x y []).wt ≤ _; omega
  | 1 =>
    have := sst_wt R x y (preO y ++ [.make tN] ++ [.app tN b])
    have h2 : wts (preO y) ≤ 1 := by cases y <;> simp [preO, wts, FOp.wt]
    simp only [wts_app, wts, FOp.wt] at this
    show (sst R x y (preO y ++ [.make tN] ++ [.app tN b])).wt ≤ _
    omega
  | 2 => have := sst_wt R x (some b) []; simp only [wts, e] at this; show (sst R x (some b) []).wt ≤ _; omega
  | 3 => have := sst_wt R x (some b) [.ren tN sN]; simp only [wts, e, FOp.wt] at this; show (sst R x (some b) [.ren tN sN]).wt ≤ _; omega
  | k + 4 => have := sst_wt R (some b) none []; simp only [wts, e] at this; show (sst R (some b) none []).wt ≤ _; omega
theorem snapD_yes (R : Nat) (x y : Option (List UInt8)) (b : List UInt8) (h : lx x + b.length ≤ R) (k : Nat) : (sst R x y []).snapD sN b k = decide (5 ≤ k) := by
  unfold FS.snapD
  rw [sst_snap R x y b h k]; rfl
end Go.Proofs.Ytpbgckpjgfjmgaa.fi
