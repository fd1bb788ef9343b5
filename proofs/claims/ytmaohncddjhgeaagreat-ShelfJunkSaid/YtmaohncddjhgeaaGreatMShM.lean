/- Plain: a directory with the files "base", "base~", "log", "log~": what a Put's steps, a Start, a cut make of it; what a shelf's Open finds. -/
import Derived.Test.YtmaohncddjhgeaaGreatMJoM
import Derived.Test.YtmaohncddjhgeaaGreatMSnC
import Derived.Test.YtmaohncddjhgeaaGreatMSnE
section
set_option linter.unusedVariables false
namespace Go.Proofs.YtmaohncddjhgeaaGreat
/-- A number has one form. -/
theorem rn_form : ∀ (l : List UInt8) (k acc n : Nat) (r : List UInt8), rn k acc l = some (n, r) → ∃ x, (k = 0 ∨ 1 ≤ x) ∧ l = Lib.uvarint x ++ r ∧ n = acc + x * 128 ^ k
  | [], _, _, _, _, h => by simp [rn] at h
  | c :: t, k, acc, n, r, h => by
    have hcl : c.toNat < 256 := c.toNat_lt
    by_cases hb : (1 ≤ k ∧ c.toNat < 1) ∨ (9 ≤ k ∧ 2 ≤ c.toNat)
    · rw [rn_no _ _ _ _ hb] at h; cases h
    · by_cases hc : c.toNat < 128
      · rw [rn_last _ _ _ _ hb hc] at h
        simp only [Option.some.injEq, Prod.mk.injEq] at h
        obtain ⟨h1, h2⟩ := h
        subst h2
        refine ⟨c.toNat, by omega, ?_, by rw [← h1, Nat.mod_eq_of_lt hc]⟩
        rw [Lib.uvarint_small hc]
        simp
      · rw [rn_on _ _ _ _ hb (by omega)] at h
        obtain ⟨x, hx, ht, hn⟩ := rn_form t (k + 1) _ n r h
        have hx1 : 1 ≤ x := by omega
        refine ⟨c.toNat % 128 + 128 * x, .inr (by omega), ?_, ?_⟩
        · rw [Lib.uvarint_big (by omega)]
          have e1 : (c.toNat % 128 + 128 * x) / 128 = x := by omega
          have e2 : (c.toNat % 128 + 128 * x) % 128 + 128 = c.toNat := by omega
          rw [e1, e2, ht, List.cons_append]
          simp
        · rw [hn, Nat.pow_succ, Nat.add_mul, Nat.add_assoc, Nat.mul_comm (128 ^ k) 128, Nat.mul_comm 128 x, Nat.mul_assoc x 128]
theorem rd_form {l : List UInt8} {n : Nat} {r : List UInt8} (h : rd l = some (n, r)) : l = Lib.uvarint n ++ r := by
  obtain ⟨x, _, h1, h2⟩ := rn_form l 0 0 n r h
  have : n = x := by omega
  rw [this]; exact h1
end Go.Proofs.YtmaohncddjhgeaaGreat

namespace Go.Proofs.YtmaohncddjhgeaaGreat.fi
open Go.Proofs.YtmaohncddjhgeaaGreat.gn (frames frames_len frames_app frames_one cost cost_one cost_app scan scan_le scan_take scan_frames frame frame_len fst? fst_some scan_none scan_some)

def bN : Nm := [98, 97, 115, 101]
def xN : Nm := [98, 97, 115, 101, 126]
def yN : Nm := [108, 111, 103, 126]
def o1 (n : Nm) : Option (List UInt8) → Tb
  | none => []
  | some b => [(n, (b, false))]
def l1 : Option (List UInt8) → Nat
  | none => 0
  | some x => x.length
/-- The files "base", "base~", "log", "log~", if they are there. -/
def tb (b x l y : Option (List UInt8)) : Tb := o1 bN b ++ (o1 xN x ++ (o1 log l ++ o1 yN y))
theorem valid_b : valid bN = true := by decide
theorem valid_x : valid xN = true := by decide
theorem valid_y : valid yN = true := by decide
section
variable (b x l y : Option (List UInt8))
theorem tb_get_b : get bN (tb b x l y) = b.map fun s => (s, false) := by cases b <;> cases x <;> cases l <;> cases y <;> rfl
theorem tb_get_x : get xN (tb b x l y) = x.map fun s => (s, false) := by cases b <;> cases x <;> cases l <;> cases y <;> rfl
theorem tb_get_l : get log (tb b x l y) = l.map fun s => (s, false) := by cases b <;> cases x <;> cases l <;> cases y <;> rfl
theorem tb_get_y : get yN (tb b x l y) = y.map fun s => (s, false) := by cases b <;> cases x <;> cases l <;> cases y <;> rfl
theorem tb_len : (tb b x l y).length ≤ 4 := by cases b <;> cases x <;> cases l <;> cases y <;> simp [tb, o1]
theorem tb_tot : tot (tb b x l y) = l1 b + l1 x + l1 l + l1 y := by cases b <;> cases x <;> cases l <;> cases y <;> simp [tb, o1, tot, l1] <;> omega
theorem tb_wt : wt (tb b x l y) ≤ 4 + l1 b + l1 x + l1 l + l1 y := by cases b <;> cases x <;> cases l <;> cases y <;> simp [tb, o1, wt, l1] <;> omega
theorem tb_strip : strip (tb b x l y) = tb b x l y := by cases b <;> cases x <;> cases l <;> cases y <;> rfl
theorem tb_rem_x : doOp (.rem xN) (tb b x l y) = tb b none l y := by cases b <;> cases x <;> cases l <;> cases y <;> rfl
theorem tb_make_x : doOp (.make xN) (tb b none l y) = tb b (some []) l y := by cases b <;> cases l <;> cases y <;> rfl
theorem tb_app_x (u t : List UInt8) : doOp (.app xN t) (tb b (some u) l y) = tb b (some (u ++ t)) l y := by cases b <;> cases l <;> cases y <;> rfl
theorem tb_ren_x (u : List UInt8) : doOp (.ren xN bN) (tb b (some u) l y) = tb (some u) none l y := by cases b <;> cases l <;> cases y <;> rfl
theorem tb_rem_y : doOp (.rem yN) (tb b x l y) = tb b x l none := by cases b <;> cases x <;> cases l <;> cases y <;> rfl
theorem tb_make_y : doOp (.make yN) (tb b x l none) = tb b x l (some []) := by cases b <;> cases x <;> cases l <;> rfl
theorem tb_app_y (u t : List UInt8) : doOp (.app yN t) (tb b x l (some u)) = tb b x l (some (u ++ t)) := by cases b <;> cases x <;> cases l <;> rfl
theorem tb_ren_y (u : List UInt8) : doOp (.ren yN log) (tb b x l (some u)) = tb b x (some u) none := by cases b <;> cases x <;> cases l <;> rfl
theorem tb_make_b : doOp (.make bN) (tb none x l y) = tb (some []) x l y := by cases x <;> cases l <;> cases y <;> rfl
theorem tb_app_b (u t : List UInt8) : doOp (.app bN t) (tb (some u) x l y) = tb (some (u ++ t)) x l y := by cases x <;> cases l <;> cases y <;> rfl
theorem tb_make_l : doOp (.make log) (tb b x none y) = tb b x (some []) y := by cases b <;> cases x <;> cases y <;> rfl
theorem tb_app_l (u t : List UInt8) : doOp (.app log t) (tb b x (some u) y) = tb b x (some (u ++ t)) y := by cases b <;> cases x <;> cases y <;> rfl
theorem tb_cut_l (u : List UInt8) (k : Nat) : doOp (.cut log k) (tb b x (some u) y) = tb b x (some (u.take k)) y := by cases b <;> cases x <;> cases y <;> rfl
end
section
variable {s : FS} {b x l y : Option (List UInt8)} (h : s.now = tb b x l y)
include h
theorem look_b : s.look bN = if b.isSome then 0 else 7 := by
  unfold FS.look
  rw [if_pos valid_b, h, tb_get_b]
  cases b <;> rfl
theorem look_x : s.look xN = if x.isSome then 0 else 7 := by
  unfold FS.look
  rw [if_pos valid_x, h, tb_get_x]
  cases x <;> rfl
theorem look_l : s.look log = if l.isSome then 0 else 7 := by
  unfold FS.look
  rw [if_pos valid_log, h, tb_get_l]
  cases l <;> rfl
theorem look_y : s.look yN = if y.isSome then 0 else 7 := by
  unfold FS.look
  rw [if_pos valid_y, h, tb_get_y]
  cases y <;> rfl
theorem bytes_b : s.bytes bN = b.getD [] := by
  unfold FS.bytes
  rw [look_b h, h, tb_get_b]
  cases b <;> rfl
theorem bytes_l : s.bytes log = l.getD [] := by
  unfold FS.bytes
  rw [look_l h, h, tb_get_l]
  cases l <;> rfl
theorem left_t : s.left = (s.room : Int) - ((l1 b + l1 x + l1 l + l1 y : Nat) : Int) := by
  unfold FS.left
  rw [h, tb_tot]
theorem len_t : ¬ 16 ≤ s.now.length := by rw [h]; have := tb_len b x l y; omega
theorem make_t {n : Nm} (hl : s.look n = 7) : s.make n = (0, s.done (.make n)) := by
  unfold FS.make
  rw [hl, if_neg (by decide), if_neg (by decide), if_neg (len_t h)]
theorem app_t {n : Nm} {t : List UInt8} (hl : s.look n = 0) (hr : l1 b + l1 x + l1 l + l1 y + t.length ≤ s.room) : s.app n t = (0, s.done (.app n t)) := by
  unfold FS.app
  rw [hl, if_neg (by decide), left_t h, if_neg (by omega)]
end
theorem rem_yes {s : FS} {n : Nm} (hl : s.look n = 0) : s.rem n = (0, s.done (.rem n)) := by unfold FS.rem; rw [hl]; rfl
theorem rem_no {s : FS} {n : Nm} (hl : s.look n = 7) : s.rem n = (7, s) := by unfold FS.rem; rw [hl]; rfl
theorem ren_yes {s : FS} {a b : Nm} (h1 : valid a = true) (h2 : valid b = true) (hl : s.look a = 0) : s.ren a b = (0, s.done (.ren a b)) := by unfold FS.ren; rw [h1, h2, hl]; rfl
theorem runs_ok {f : FS → Int × FS} {r : List (FS → Int × FS)} {s s' : FS} (h : f s = (0, s')) : runs (f :: r) s = runs r s' := by rw [runs_cons, h]; rfl

/-- The files, and the operations that are open. -/
def s4 (R : Nat) (b x l y : Option (List UInt8)) (op : List FOp) : FS := ⟨R, tb b x l y, op⟩
theorem s4_now (R : Nat) (b x l y : Option (List UInt8)) : (s4 R b x l y []).now = tb b x l y := rfl
theorem done_now {s : FS} {T : Tb} (h : s.now = T) (o : FOp) : (s.done o).now = doOp o T := by rw [FS.done_now, h]
theorem sync_t {s : FS} {b x l y : Option (List UInt8)} (h : s.now = tb b x l y) : s.sync = s4 s.room b x l y [] := by unfold FS.sync; rw [h]; rfl
theorem s4_wt (R : Nat) (b x l y : Option (List UInt8)) (op : List FOp) : (s4 R b x l y op).wt ≤ 4 + l1 b + l1 x + l1 l + l1 y + wts op := by
  have := tb_wt b x l y
  show wt (tb b x l y) + wts op ≤ _
  omega

/-! ### a Put of the base -/
theorem puts_t {s : FS} {b l : Option (List UInt8)} (h : s.now = tb b none l none) (t : List UInt8) (hr : l1 b + l1 l + t.length ≤ s.room) :
    ∃ s', s.puts xN t = (0, s') ∧ s'.room = s.room ∧ s'.now = tb b (some t) l none := by
  have h1 := rem_no (look_x h)
  have h2 := make_t h (look_x h)
  have h3 : (s.done (.make xN)).now = tb b (some []) l none := by rw [done_now h, tb_make_x]
  have h4 := app_t h3 (n := xN) (t := t) (look_x h3) (by show l1 b + 0 + l1 l + 0 + t.length ≤ s.room; omega)
  refine ⟨(s.done (.make xN)).done (.app xN t), ?_, rfl, by rw [done_now h3, tb_app_x]; rfl⟩
  have hw : s.write xN t = (0, (s.done (.make xN)).done (.app xN t)) := by
    unfold FS.write
    rw [h1, if_neg (show ¬ ((7 : Int) ≠ 0 ∧ (7 : Int) ≠ 7) by decide), h2, if_neg (show ¬ (0 : Int) ≠ 0 by decide), h4]
  unfold FS.puts
  rw [hw, if_neg (show ¬ (0 : Int) ≠ 0 by decide)]
/-- What the first three, and all steps of a Put of the base leave. -/
theorem snap_t {s : FS} {b l : Option (List UInt8)} (h : s.now = tb b none l none) (t : List UInt8) (hr : l1 b + l1 l + t.length ≤ s.room) :
    s.snap bN t 5 = (0, s4 s.room (some t) none l none []) ∧ s.snap bN t 3 = (0, s4 s.room b (some t) l none [.ren xN bN]) := by
  obtain ⟨s1, h1, hr1, hn1⟩ := puts_t h t hr
  have h1' : (fun s : FS => s.puts (bN ++ [126]) t) s = (0, s1) := h1
  have h2 : (fun s : FS => ((0 : Int), s.sync)) s1 = (0, s4 s.room b (some t) l none []) := by show ((0 : Int), s1.sync) = _; rw [sync_t hn1, hr1]
  have hn2 := s4_now s.room b (some t) l none
  have h3 : (fun s : FS => s.ren (bN ++ [126]) bN) (s4 s.room b (some t) l none []) = (0, s4 s.room b (some t) l none [.ren xN bN]) := by
    show (s4 s.room b (some t) l none []).ren xN bN = _
    rw [ren_yes valid_x valid_b (look_x hn2)]; rfl
  have hn3 : (s4 s.room b (some t) l none [.ren xN bN]).now = tb (some t) none l none := tb_ren_x b l none t
  have h4 : (fun s : FS => ((0 : Int), s.sync)) (s4 s.room b (some t) l none [.ren xN bN]) = (0, s4 s.room (some t) none l none []) := by show ((0 : Int), FS.sync _) = _; rw [sync_t hn3]; rfl
  have h5 : (fun s : FS => ((0 : Int), s)) (s4 s.room (some t) none l none []) = (0, s4 s.room (some t) none l none []) := rfl
  unfold FS.snap snapL
  exact ⟨(runs_ok h1').trans ((runs_ok h2).trans ((runs_ok h3).trans ((runs_ok h4).trans (runs_ok h5)))), (runs_ok h1').trans ((runs_ok h2).trans (runs_ok h3))⟩

/-! ### a Start of the log -/
theorem start_t {s : FS} {b l : Option (List UInt8)} (h : s.now = tb b none l none) (first : Nat) (hr : l1 b + l1 l + (jhd first).length ≤ s.room) :
    s.start log first = (0, s4 s.room b none (some (jhd first)) none []) := by
  have h0 : s.remi (log ++ [126]) = (0, s) := by
    show ((if (s.rem yN).1 = 7 then (0 : Int) else (s.rem yN).1), (s.rem yN).2) = _
    rw [rem_no (look_y h)]; rfl
  have h2 : s.make (log ++ [126]) = (0, s.done (.make yN)) := make_t h (look_y h)
  have h3 : (s.done (.make yN)).now = tb b none l (some []) := by rw [done_now h, tb_make_y]
  have h4 : (s.done (.make yN)).app (log ++ [126]) (jhd first) = (0, (s.done (.make yN)).done (.app yN (jhd first))) := app_t h3 (look_y h3) (by show l1 b + 0 + l1 l + 0 + _ ≤ s.room; omega)
  have h5 : ((s.done (.make yN)).done (.app yN (jhd first))).now = tb b none l (some (jhd first)) := by rw [done_now h3, tb_app_y]; rfl
  have h6 : ((s.done (.make yN)).done (.app yN (jhd first))).sync = s4 s.room b none l (some (jhd first)) [] := sync_t h5
  have hn2 := s4_now s.room b none l (some (jhd first))
  have h7 : (s4 s.room b none l (some (jhd first)) []).ren (log ++ [126]) log = (0, s4 s.room b none l (some (jhd first)) [.ren yN log]) := ren_yes valid_y valid_log (look_y hn2)
  have hn3 : (s4 s.room b none l (some (jhd first)) [.ren yN log]).now = tb b none (some (jhd first)) none := tb_ren_y b none l (jhd first)
  have h8 : (s4 s.room b none l (some (jhd first)) [.ren yN log]).sync = s4 s.room b none (some (jhd first)) none [] := sync_t hn3
  unfold FS.start startL
  rw [runs_cons, if_pos ck_log, runs_cons, h0, if_pos rfl, runs_cons, h2, if_pos rfl, runs_cons, h4, if_pos rfl, runs_cons, if_pos rfl, h6, runs_cons, h7, if_pos rfl, runs_cons, if_pos rfl, h8]
  rfl

/-! ### what an Open finds -/
/-- The base in a snapshot's string. -/
def bsp (t : List UInt8) : Int × Nat × List UInt8 := match rd t with
  | some (n, r) => (0, n, r)
  | none => (90, 0, [])
def FS.base (s : FS) : Int × Nat × List UInt8 :=
  if (s.got bN).2 = 0 then bsp (s.got bN).1 else if (s.got bN).2 = 7 then (0, 0, []) else if (s.got bN).2 = 80 then (90, 0, []) else ((s.got bN).2, 0, [])
/-- The number behind the last entry, as an Open of the log tells it. -/
def FS.nxt (s : FS) : Nat := ((s.opens log).2.2 + ((scan (s.bytes log)).length - 1)) % 18446744073709551616
def FS.olog (s : FS) (n : Nat) : Int × FS × Nat × Nat :=
  if (s.opens log).1 = 7 then (((s.opens log).2.1.start log n).1, ((s.opens log).2.1.start log n).2, n, n)
  else if (s.opens log).1 ≠ 0 ∨ n < (s.opens log).2.2 ∨ s.nxt < n then (90, (s.opens log).2.1, 0, 0)
  else (0, (s.opens log).2.1, (s.opens log).2.2, s.nxt)
def FS.shop (s : FS) : Int × FS × Nat × Nat := if s.base.1 ≠ 0 then (s.base.1, s, 0, 0) else s.olog s.base.2.1
theorem bsp_lt (t : List UInt8) : (bsp t).2.1 < 18446744073709551616 := by
  unfold bsp
  split
  · rename_i n r h; exact rd_lt h
  · show 0 < _; omega
theorem base_lt (s : FS) : s.base.2.1 < 18446744073709551616 := by
  unfold FS.base
  split
  · exact bsp_lt _
  · split
    · show 0 < _; omega
    · split <;> (show 0 < _; omega)
theorem bsp_join {n : Nat} (hn : n < 18446744073709551616) (t : List UInt8) : bsp (Lib.uvarint n ++ t) = (0, n, t) := by
  unfold bsp
  rw [rd_uvarint n t hn]
/-- The base where there is a snapshot. -/
theorem base_some {s : FS} {x l y : Option (List UInt8)} {b : List UInt8} (h : s.now = tb (some b) x l y) : s.base = match own b with | some t => bsp t | none => (90, 0, []) := by
  have hg : s.got bN = match own b with | some t => (t, 0) | none => ([], 80) := by
    unfold FS.got
    rw [look_b h, bytes_b h]; rfl
  unfold FS.base
  rw [hg]
  cases own b <;> rfl
theorem base_none {s : FS} {x l y : Option (List UInt8)} (h : s.now = tb none x l y) : s.base = (0, 0, []) := by
  have hg : s.got bN = ([], 7) := by
    unfold FS.got
    rw [look_b h]; rfl
  unfold FS.base
  rw [hg]; rfl
theorem opens_none {s : FS} {b x y : Option (List UInt8)} (h : s.now = tb b x none y) : s.opens log = (7, s, 0) := by
  unfold FS.opens
  rw [ck_log, look_l h]; rfl
theorem trim_t (R : Nat) (b : Option (List UInt8)) (g : List UInt8) : (s4 R b none (some g) none []).trim log (cost (scan g)) g.length = (0, s4 R b none (some (frames (scan g))) none []) := by
  have h1 := scan_le g
  rw [scan_take_pre]
  unfold FS.trim
  by_cases h : cost (scan g) = g.length
  · rw [if_pos h, h, List.take_of_length_le (Nat.le_refl _)]
  · have hn := s4_now R b none (some g) none
    have hc : (s4 R b none (some g) none []).cut log (cost (scan g) : Nat) = (0, s4 R b none (some g) none [.cut log (cost (scan g))]) := by
      unfold FS.cut
      rw [look_l hn, bytes_l hn, if_neg (fun h => by cases h.1), if_neg (fun h => h rfl), if_neg (by show ¬ (_ ∨ ((g.length : Nat) : Int) < _); omega)]
      rfl
    have hn2 : (s4 R b none (some g) none [.cut log (cost (scan g))]).now = tb b none (some (g.take (cost (scan g)))) none := tb_cut_l b none none g _
    rw [if_neg h, runs_cons, hc, if_pos rfl, runs_cons, if_pos rfl, sync_t hn2]
    rfl
theorem opens_some (R : Nat) (b : Option (List UInt8)) (g : List UInt8) : (s4 R b none (some g) none []).opens log = match fnum (scan g) with | some k => (0, s4 R b none (some (frames (scan g))) none [], k) | none => (70, s4 R b none (some g) none [], 0) := by
  have hn := s4_now R b none (some g) none
  unfold FS.opens
  rw [ck_log, look_l hn, bytes_l hn]
  show (if ¬ (0 : Int) = 0 then _ else if ¬ (0 : Int) = 0 then _ else match fnum (scan g) with | none => _ | some k => _) = _
  rw [if_neg (by decide), if_neg (by decide)]
  show (match fnum (scan g) with | none => _ | some k => (((s4 R b none (some g) none []).trim log (cost (scan g)) g.length).1, ((s4 R b none (some g) none []).trim log (cost (scan g)) g.length).2, k)) = _
  rw [trim_t]
  cases fnum (scan g) <;> rfl
end Go.Proofs.YtmaohncddjhgeaaGreat.fi
end
section
set_option linter.unusedVariables false
set_option linter.unusedSectionVars false
namespace Go.Proofs.YtmaohncddjhgeaaGreat.gn
open Go.RowKit
open Go.Proofs.YtmaohncddjhgeaaGreat.fi

/-- A shelf: its journal, its directory, its base. -/
structure Sf where
  j : Nat
  d : Nat
  number : Nat
  text : List UInt8
def BlkS (w : World) (s : Nat) (n : Sf) : Prop :=
  w.heap[s]? = some (.cells #[.pointer (some ⟨n.j, 0, none⟩), .pointer (some ⟨s, 0, none⟩), .pointer (some ⟨n.d, 0, none⟩), .int .u64 (n.number : Int), .string (str n.text)] 76 (0, 0))
theorem BlkS.cells {w : World} {s : Nat} {n : Sf} (h : BlkS w s n) : w.cell? ⟨s, 0, none⟩ = some (.pointer (some ⟨n.j, 0, none⟩)) ∧ w.cell? ⟨s, 1, none⟩ = some (.pointer (some ⟨s, 0, none⟩)) ∧ w.cell? ⟨s, 2, none⟩ = some (.pointer (some ⟨n.d, 0, none⟩)) ∧
    w.cell? ⟨s, 3, none⟩ = some (.int .u64 (n.number : Int)) ∧ w.cell? ⟨s, 4, none⟩ = some (.string (str n.text)) := by
  refine ⟨?_, ?_, ?_, ?_, ?_⟩
  · rw [cell_of_row w s 0 _ _ _ h]; rfl
  · rw [cell_of_row w s 1 _ _ _ h]; rfl
  · rw [cell_of_row w s 2 _ _ _ h]; rfl
  · rw [cell_of_row w s 3 _ _ _ h]; rfl
  · rw [cell_of_row w s 4 _ _ _ h]; rfl
theorem BlkS.lt {w : World} {s : Nat} {n : Sf} (h : BlkS w s n) : s < w.heap.size := lt_of_block h
theorem BlkS.below {w w' : World} {s : Nat} {n : Sf} (h : BlkS w s n) (hb : Below w.heap.size w w') : BlkS w' s n := (hb.block s h.lt).trans h
theorem BlkS.off {Z : Nat → Prop} {w w' : World} {s : Nat} {n : Sf} (h : BlkS w s n) (ho : Only (Off Z) w w') (hz : Z s) : BlkS w' s n := ho.off h hz
/-- What was new is forgotten. -/
theorem Hold.back {Z : Nat → Prop} {w w' : World} {D : Nat → Option FS} {J : Nat → Option Jn} (h : Hold Z w D J) {p : Nat} {a b : FS} (hp : w.heap.size ≤ p) (h' : Hold Z w' (upd (upd D p a) p b) J) : Hold Z w' D J :=
  h'.sub fun d s hd => by
    have := h.lt hd
    rw [upd_other _ _ (by omega), upd_other _ _ (by omega)]
    exact hd
theorem Hold.subJ {Z : Nat → Prop} {w : World} {D : Nat → Option FS} {J J' : Nat → Option Jn} (h : Hold Z w D J) (hs : ∀ j n, J' j = some n → J j = some n) : Hold Z w D J' := by
  obtain ⟨X, h1, h2, h3, h4⟩ := h.is
  exact ⟨⟨X, h1, h2, h3, fun j n hj => h4 j n (hs j n hj)⟩, h.z, fun j n hj => h.j j n (hs j n hj)⟩
theorem Hold.ltJ {Z : Nat → Prop} {w : World} {D : Nat → Option FS} {J : Nat → Option Jn} (h : Hold Z w D J) {j : Nat} {n : Jn} (hj : J j = some n) : j < w.heap.size := lt_of_block (h.j j n hj).1
theorem Hold.backJ {Z : Nat → Prop} {w w' : World} {D' D2 : Nat → Option FS} {J : Nat → Option Jn} (h : Hold Z w D2 J) {p : Nat} {a : Jn} (hp : w.heap.size ≤ p) (h' : Hold Z w' D' (upd J p a)) : Hold Z w' D' J :=
  h'.subJ fun j n hj => by
    have := h.ltJ hj
    rw [upd_other _ _ (by omega)]
    exact hj

theorem shelfInfo : ∃ j, Tryz.prog.info? 76 = some j := by
  have h : (Tryz.prog.info? 76).isSome = true := by kernel_rfl
  exact Option.isSome_iff_exists.1 h
set_option maxRecDepth 100000
set_option maxHeartbeats 2000000
theorem sis_any (w : World) (s : Nat) (hc : w.cell? ⟨s, 1, none⟩ = some (.pointer (some ⟨s, 0, none⟩))) :
    Calls Tryz.prog 30 #[.pointer (some ⟨s, 0, none⟩)] w fun e w' => e = .returned (.bool true) ∧ w = w' := by
  obtain ⟨i, hj⟩ := shelfInfo
  have heq := run_eql_ptr_same (P := Tryz.prog) w ⟨s, 0, none⟩ Tryz.underlying27 hj
  clear hj
  go_enter Tryz.func30, Tryz.ntmps30
  go_wp2
  go_ret
  exact ⟨rfl, rfl⟩

theorem sbase_any (w : World) (s : Nat) (n : Sf) (hs : BlkS w s n) (ht : n.text.length ≤ 281474976710656) :
    Calls Tryz.prog 49 #[.pointer (some ⟨s, 0, none⟩)] w fun e w' => e = .returned (.tuple #[.int .u64 (n.number : Int), .string (str n.text)]) ∧ Below w.heap.size w w' := by
  have HK : Hid (∀ w', Below w.heap.size w w' → w'.cell? ⟨s, 3, none⟩ = some (.int .u64 (n.number : Int)) ∧ w'.cell? ⟨s, 4, none⟩ = some (.string (str n.text))) := Lib.hid fun w' hb => by
    obtain ⟨_, _, _, k3, k4⟩ := (hs.below hb).cells
    exact ⟨k3, k4⟩
  obtain ⟨_, c1, _, c3, c4⟩ := hs.cells
  have HI := Lib.hid (sis_any w s c1)
  have HC := Lib.hid (clone_any (str n.text) w.drew (by rw [str_size]; exact ht))
  clear hs c1
  generalize str n.text = y at *
  generalize n.number = x at *
  go_enter Tryz.func49, Tryz.ntmps49
  go_wp2_with (go_at_call 30; ((with_reducible refine HI.out.mono ?_); rintro e w1 ⟨rfl, rfl⟩))
  go_region_held3 (fun W => W.cell? ⟨s, 3, none⟩ = some (.int .u64 (x : Int)) ∧ W.cell? ⟨s, 4, none⟩ = some (.string y)) (go_keep)
    (first | (go_at_call 37; ((with_reducible refine HC.out.mono ?_); rintro e w1 ⟨rfl, hb1⟩; obtain ⟨k0, k1⟩ := HK.out w1 (Below.trans (Below.refl _ _).drew hb1))))
  have HB1 : Hid (Below w.heap.size w w1) := Lib.hid (Below.trans (Below.refl _ _).drew hb1)
  clear hb1 k0 k1
  go_wp2
  go_ret2
  exact ⟨rfl, HB1.out⟩

section
variable {Z : Nat → Prop} {w : World} {D : Nat → Option FS} {J : Nat → Option Jn} (h : Hold Z w D J) {s : Nat} {n : Sf} (hs : BlkS w s n) {jn : Jn} (hj : J n.j = some jn)
include h hs hj
theorem snext_any : Calls Tryz.prog 52 #[.pointer (some ⟨s, 0, none⟩)] w fun e w' => e = .returned (.int .u64 (jn.next : Int)) ∧ w = w' := by
  obtain ⟨c0, c1, _, _, _⟩ := hs.cells
  have HI := Lib.hid (sis_any w s c1)
  have HN := Lib.hid (next_any' h hj)
  clear h hs hj c1
  go_enter Tryz.func52, Tryz.ntmps52
  go_wp2_with (first
    | (go_at_call 30; ((with_reducible refine HI.out.mono ?_); rintro e w1 ⟨rfl, rfl⟩))
    | (go_at_call 75; ((with_reducible refine HN.out.mono ?_); rintro e w1 ⟨rfl, rfl⟩)))
  go_ret
  exact ⟨rfl, rfl⟩
theorem sforce_any {st : FS} (hd : D jn.d = some st) (hwt : st.wt ≤ 549755813888) :
    Calls Tryz.prog 55 #[.pointer (some ⟨s, 0, none⟩)] w (Went Z (upd D jn.d st.sync) J (.int .i64 0) w) := by
  obtain ⟨c0, c1, _, _, _⟩ := hs.cells
  have HI := Lib.hid (sis_any w s c1)
  have HN := Lib.hid (force_any h hj hd hwt)
  clear h hs hj c1 hd hwt
  go_enter Tryz.func55, Tryz.ntmps55
  go_wp2_with (first
    | (go_at_call 30; ((with_reducible refine HI.out.mono ?_); rintro e w1 ⟨rfl, rfl⟩))
    | (go_at_call 79; ((with_reducible refine HN.out.mono ?_); rintro e w1 ⟨rfl, hh, ho⟩)))
  go_ret
  exact ⟨rfl, hh, ho⟩
theorem sappend_any {st : FS} (hd : D jn.d = some st) (hwt : st.wt ≤ 549755813888) (hn : jn.name.length ≤ 1000000) (hnx : jn.next < 18446744073709551616)
    (v : Value) (L : List (List UInt8)) (hv : Strs w v L) (hl : ∀ s ∈ L, s.length ≤ 262144) (hc : cost L ≤ 1099511627776) :
    Calls Tryz.prog 12 #[.pointer (some ⟨s, 0, none⟩), v] w (Apped Z D J n.j jn L.length (st.app jn.name (frames L)) w) := by
  obtain ⟨c0, c1, _, _, _⟩ := hs.cells
  have HI := Lib.hid (sis_any w s c1)
  have HN := Lib.hid (jappend_any h hj hd hwt hn hnx v L hv hl hc)
  obtain ⟨vA, vc, rfl, _⟩ := id hv
  clear h hs hj c1 hd hwt hv
  generalize st.app jn.name (frames L) = r at *
  go_enter Tryz.func12, Tryz.ntmps12
  go_wp2_with (go_at_call 30; ((with_reducible refine HI.out.mono ?_); rintro e w1 ⟨rfl, rfl⟩))
  refine HN.out.mono ?_
  rintro e w1 (⟨hq, rfl, hh, ho⟩ | ⟨hq, rfl, hh, ho⟩)
  · have H1 := Lib.hid hh
    have O1 := Lib.hid ho
    clear hh ho
    go_wp2
    go_ret
    exact .inl ⟨hq, rfl, H1.out, O1.out⟩
  · have H1 := Lib.hid hh
    have O1 := Lib.hid ho
    clear hh ho
    go_wp2
    go_ret
    exact .inr ⟨hq, rfl, H1.out, O1.out⟩
end

/-- A slice without its first ones. -/
theorem Strs.from {w : World} {b o l c : Nat} {L : List (List UInt8)} (h : Strs w (.slice (some ⟨b, o, none⟩) l c) L) (k : Nat) (hk : k ≤ L.length) : Strs w (.slice (some ⟨b, o + k, none⟩) (l - k) (c - k)) (L.drop k) := by
  obtain ⟨A0, c0, h1, h2, h3, h4, h5⟩ := h
  injection h1 with e1 e2 e3
  subst e1; subst e3; subst e2
  have hl : (L.drop k).length = L.length - k := List.length_drop
  refine ⟨some ⟨b, o + k, none⟩, c - k, by rw [hl], by omega, by omega, ?_, fun s hs => h5 s (List.mem_of_mem_drop hs)⟩
  rcases h4 with h4 | ⟨b', o', hA, hc⟩
  · exact .inl (by omega)
  · cases hA
    refine .inr ⟨b, o + k, rfl, fun j hj => ?_⟩
    have := hc (k + j) (by omega)
    rw [List.getElem_drop, Nat.add_assoc]
    exact this
theorem add_none (b o k : Nat) : (⟨b, o, none⟩ : Addr).add k = ⟨b, o + k, none⟩ := by unfold Addr.add; split <;> simp_all
theorem add_block (a : Addr) (k : Nat) : (a.add k).block = a.block := by unfold Addr.add; split <;> rfl
theorem fresh_of {B : Nat} {a : Addr} {n c : Nat} (h : B ≤ a.block) : Fresh B (.slice (some a) n c) := ⟨fun _ _ _ e => (by cases e; exact h), fun _ _ e => (by cases e)⟩

theorem sentries_any {Z : Nat → Prop} {w : World} {D : Nat → Option FS} {J : Nat → Option Jn} (h : Hold Z w D J) {s : Nat} {n : Sf} (hs : BlkS w s n) {jn : Jn} (hj : J n.j = some jn) {st : FS} (hd : D jn.d = some st) (hbl : (st.bytes jn.name).length ≤ 549755813888)
    (E : List (List UInt8)) (hE : (scan (st.bytes jn.name)).drop 1 = E) (k : Nat) (hk : n.number = jn.first + k) (hkE : k ≤ E.length) (hnum : n.number < 18446744073709551616) :
    Calls Tryz.prog 51 #[.pointer (some ⟨s, 0, none⟩)] w fun e w' => ∃ v, e = .returned v ∧ Strs w' v (E.drop k) ∧ Fresh w.heap.size v ∧ Below w.heap.size w w' := by
  have HK : Hid (∀ w', Below w.heap.size w w' → Hold Z w' D J ∧ w'.cell? ⟨s, 0, none⟩ = some (.pointer (some ⟨n.j, 0, none⟩)) ∧ w'.cell? ⟨s, 3, none⟩ = some (.int .u64 (n.number : Int))) := Lib.hid fun w' hb => by
    obtain ⟨k0, _, _, k3, _⟩ := (hs.below hb).cells
    exact ⟨h.below hb, k0, k3⟩
  obtain ⟨c0, c1, _, _, _⟩ := hs.cells
  have HI := Lib.hid (sis_any w s c1)
  have HN := Lib.hid (entries_any h hj hd hbl)
  rw [hE] at HN
  have hEl : E.length ≤ 549755813888 := by
    have h1 := scan_le (st.bytes jn.name)
    have h2 := cost_len (scan (st.bytes jn.name))
    rw [← hE, List.length_drop]
    omega
  obtain ⟨nj, nd, num, txt⟩ := n
  obtain ⟨jd, jname, jf, jx⟩ := jn
  simp only at *
  have HJ := Lib.hid hj
  clear h hs hj c1 hd hbl hE
  go_enter Tryz.func51, Tryz.ntmps51
  go_wp2_with (go_at_call 30; ((with_reducible refine HI.out.mono ?_); rintro e w1 ⟨rfl, rfl⟩))
  refine HN.out.mono ?_
  rintro e w2 ⟨v, rfl, hst, hfr, hb⟩
  obtain ⟨A, c, rfl, hlc, hcm, _⟩ := id hst
  have HS := Lib.hid hst
  have HF := Lib.hid hfr
  have HB := Lib.hid hb
  obtain ⟨hh, k0, k3⟩ := HK.out w2 hb
  have HQ : Hid (∀ m, Calls Tryz.prog 74 #[.pointer (some ⟨nj, 0, none⟩)] (w2.drewN m) fun e w' => e = .returned (.int .u64 (jf : Int)) ∧ w' = w2.drewN m) := Lib.hid fun m => (first_any' (hh.below (below_drewN (Below.refl _ _) m)) HJ.out).mono fun e w' hh => ⟨hh.1, hh.2.symm⟩
  have hsub : IntKind.u64.wrap ((num : Int) - (jf : Int)) = (k : Int) := by simp only [IntKind.wrap_u64]; omega
  have hmin : min (k : Int) ((E.length : Nat) : Int) = (k : Int) := by omega
  have HA : Hid ((A = none ∧ E.length = 0 ∧ c = 0) ∨ (∃ a, A = some a ∧ E.length = 0) ∨ ∃ b o, A = some ⟨b, o, none⟩ ∧ E.length ≠ 0) := Lib.hid (by
    cases A with
    | none =>
      have := hfr.2 _ _ rfl
      exact .inl ⟨rfl, this⟩
    | some a =>
      by_cases h0 : E.length = 0
      · exact .inr (.inl ⟨a, rfl, h0⟩)
      · obtain ⟨A0, c0, e, _, _, h4, _⟩ := hst
        injection e with e1 e2 e3
        rcases h4 with h4 | ⟨b, o, hA, _⟩
        · exact absurd h4 h0
        · subst hA; cases e1
          exact .inr (.inr ⟨b, o, rfl, h0⟩))
  clear hst hfr hb hh hk
  go_wp2
  go_quiet ((go_at_call 74; exact Calls.quiet_of_same (HQ.out _)))
  unfold maxLen at hcm
  rcases HA.out with ⟨rfl, h0, rfl⟩ | ⟨a, rfl, h0⟩ | ⟨b, o, rfl, h0⟩
  · have hE0 : E = [] := List.eq_nil_of_length_eq_zero h0
    subst hE0
    obtain rfl : k = 0 := by simpa using hkE
    go_wp2
    all_goals go_ret
    all_goals exact ⟨_, rfl, strs_empty (L := []) rfl (Nat.zero_le _), fresh_none _, below_drewN HB.out _⟩
  · have hE0 : E = [] := List.eq_nil_of_length_eq_zero h0
    subst hE0
    obtain rfl : k = 0 := by simpa using hkE
    have hbl := HF.out.1 _ _ _ rfl
    go_wp2
    all_goals go_ret
    all_goals refine ⟨_, rfl, ?_, fresh_of (by first | exact hbl | (rw [add_block]; exact hbl)), below_drewN HB.out _⟩
    all_goals exact strs_empty (L := []) rfl (by unfold maxLen; omega)
  · have hbl := HF.out.1 _ _ _ rfl
    have hS2 := Lib.hid (HS.out.from k hkE)
    go_wp2
    all_goals go_ret
    all_goals refine ⟨_, rfl, ?_, fresh_of (by first | exact hbl | (rw [add_block]; exact hbl)), below_drewN HB.out _⟩
    · show Strs _ (.slice (some ⟨b, o, none⟩) (E.length - k) 0) _
      rw [← List.length_drop]
      exact strs_empty (by rw [List.length_drop]; omega) (Nat.zero_le _)
    · exact hS2.out

/-- A number, and a string behind it. -/
theorem join_any (w : World) (x : Nat) (hx : x < 18446744073709551616) (t : List UInt8) (ht : t.length ≤ 1099511627776) {a : Int} (ha : a = (x : Int)) :
    Calls Tryz.prog 53 #[.int .u64 a, .string (str t)] w fun e w' => e = .returned (.string (str (Lib.uvarint x ++ t))) ∧ Below w.heap.size w w' := by
  subst ha
  have hul := Lib.uvarint_length64 hx
  obtain ⟨w1, hw1⟩ : ∃ w1, w.alloc (.cells #[.int .u64 (x : Int)] 31) = w1 := ⟨_, rfl⟩
  have hz1 : w1.heap.size = w.heap.size + 1 := by rw [← hw1]; simp
  have hb1 : Below w.heap.size w w1 := by rw [← hw1]; exact (Below.refl _ w).alloc (Nat.le_refl _) _
  have hr2 : ∀ j (y : Nat), [x][j]? = some y → w1.cell? ⟨w.heap.size, 0 + j, none⟩ = some (.int .u64 (y : Int)) := by
    intro j y hj
    match j, hj with
    | 0, hj => simp at hj; subst hj; rw [← hw1, World.cell?_alloc_at _ _ _ _ rfl]; rfl
  have hpn := packNum_any [] [x] (by intro y hy; simp at hy; omega) w.heap.size (.slice none 0 0) w.heap.size 0 1 w1 (Bs_nil _ _) hr2 (by omega) (by simp; omega)
  simp only [List.length_singleton] at hpn
  have HN := Lib.hid hpn
  have HB1 := Lib.hid hb1
  have HZ1 := Lib.hid hz1
  have hss : (str t).size = t.length := str_size t
  have hsu : (str (Lib.uvarint x)).size = (Lib.uvarint x).length := str_size _
  have hcat : str (Lib.uvarint x) ++ str t = str (Lib.uvarint x ++ t) := str_app _ _
  clear hpn hb1 hz1 hr2
  go_enter Tryz.func53, Tryz.ntmps53
  go_wp2_with fail
  refine HN.out.mono ?_
  rintro e w3 ⟨v3, rfl, hB3, hb3⟩
  have hcv := bs_string hB3
  have ev : (⟨([] ++ [x].flatMap Lib.uvarint).toArray⟩ : ByteArray) = str (Lib.uvarint x) := by simp [str]
  rw [ev] at hcv
  have HB3 := Lib.hid (HB1.out.trans (hb3.mono (by rw [HZ1.out]; omega)))
  clear hb3 hB3 ev hw1
  obtain ⟨z, hz⟩ : ∃ z, str (Lib.uvarint x ++ t) = z := ⟨_, rfl⟩
  rw [hz] at hcat
  have HZ := Lib.hid hz
  clear hz
  generalize str (Lib.uvarint x) = y at *
  generalize str t = u at *
  go_wp2
  go_ret
  exact ⟨by rw [HZ.out]; rfl, HB3.out⟩
end Go.Proofs.YtmaohncddjhgeaaGreat.gn
end
section
set_option linter.unusedVariables false
set_option linter.unusedSectionVars false
namespace Go.Proofs.YtmaohncddjhgeaaGreat.fi
theorem ck_b : sck bN = 0 := by decide
theorem sync_wt' {s : FS} (h : s.Ok) : s.sync.wt ≤ s.wt := by
  have := h.wt_now
  show wt s.now + 0 ≤ _
  omega
theorem bsp_no {t : List UInt8} (h : rd t = none) : bsp t = (90, 0, []) := by unfold bsp; rw [h]
theorem bsp_yes {t r : List UInt8} {n : Nat} (h : rd t = some (n, r)) : bsp t = (0, n, r) := by unfold bsp; rw [h]
end Go.Proofs.YtmaohncddjhgeaaGreat.fi
namespace Go.Proofs.YtmaohncddjhgeaaGreat.gn
open Go.RowKit
open Go.Proofs.YtmaohncddjhgeaaGreat.fi

set_option maxRecDepth 100000
set_option maxHeartbeats 2000000
theorem bpart_h {Z : Nat → Prop} {w : World} {D : Nat → Option FS} {J : Nat → Option Jn} (h : Hold Z w D J) {d : Nat} {st : FS} (hd : D d = some st) (hwt : st.wt ≤ 137438953472) (b : List UInt8) (hb : b.length ≤ 262144) (k : Nat) {x : Int} (hx : x = (k : Int)) {y : ByteArray} (hy : str b = y) {B : List UInt8} (hB : frame b = B) :
    Calls Tryz.prog 54 #[.pointer (some ⟨d, 0, none⟩), .string ⟨#[98, 97, 115, 101]⟩, .string y, .int .i64 x] w (Went Z (upd D d (st.snap bN B k).2) J (.tuple #[.bool (st.snapD bN B k), .int .i64 (st.snap bN B k).1]) w) := by
  subst hy hB
  have hs := part_any h hd hwt bN (by decide) ck_b b hb k hx
  exact Calls.mono (show Calls Tryz.prog 54 #[.pointer (some ⟨d, 0, none⟩), .string ⟨#[98, 97, 115, 101]⟩, .string (str b), .int .i64 x] w _ from hs) fun e w' hh => hh
theorem spart_any {Z : Nat → Prop} {w : World} {D : Nat → Option FS} {J : Nat → Option Jn} (h : Hold Z w D J) {s : Nat} {n : Sf} (hs : BlkS w s n) (hz : Z s) {jn : Jn} (hj : J n.j = some jn) (hjd : jn.d = n.d) (hjx : jn.next < 18446744073709551616)
    {st : FS} (hd : D n.d = some st) (hwt : st.wt ≤ 137438953472) (t : List UInt8) (ht : (Lib.uvarint jn.next ++ t).length ≤ 262144) (k : Nat) {x : Int} (hx : x = (k : Int)) (hq : (st.snap bN (frame (Lib.uvarint jn.next ++ t)) k).1 = 0) :
    Calls Tryz.prog 25 #[.pointer (some ⟨s, 0, none⟩), .string (str t), .int .i64 x] w (Went Z (upd D n.d (st.sync.snap bN (frame (Lib.uvarint jn.next ++ t)) k).2) J
      (.tuple #[.bool (st.sync.snapD bN (frame (Lib.uvarint jn.next ++ t)) k), .int .i64 (st.sync.snap bN (frame (Lib.uvarint jn.next ++ t)) k).1]) w) := by
  subst hx
  have hok := h.ok hd
  have hwt2 := sync_wt' hok
  have htl : t.length ≤ 262144 := by rw [List.length_append] at ht; omega
  obtain ⟨_, c1, c2, _, _⟩ := hs.cells
  have HI := Lib.hid (sis_any w s c1)
  have HX := Lib.hid (snext_any h hs hj)
  have HH := Lib.hid h
  have HS := Lib.hid hs
  have HD := Lib.hid hd
  have HJ := Lib.hid hj
  have HJM := Lib.hid (fun w' => join_any w' jn.next hjx t (by omega) rfl)
  have HZ := Lib.hid hz
  have HQ := Lib.hid hq
  obtain ⟨B, hB⟩ : ∃ B, frame (Lib.uvarint jn.next ++ t) = B := ⟨_, rfl⟩
  obtain ⟨z, hz'⟩ : ∃ z, str (Lib.uvarint jn.next ++ t) = z := ⟨_, rfl⟩
  rw [hz'] at HJM
  rw [hB] at HQ ⊢
  have HP1 : Hid (∀ w1 p, w.heap.size ≤ p → Hold Z w1 (upd D p st) J → Calls Tryz.prog 54 #[.pointer (some ⟨p, 0, none⟩), .string ⟨#[98, 97, 115, 101]⟩, .string z, .int .i64 (k : Int)] w1
      fun e w' => ∃ q, e = .returned (.tuple #[.bool q, .int .i64 0]) ∧ Hold Z w' D J ∧ Only (Off Z) w1 w') := Lib.hid fun w1 p hp h1 => by
    have hb := bpart_h h1 (upd_same _ _ _) hwt _ ht k rfl hz' hB
    rw [HQ.out] at hb
    exact hb.mono fun e w' hh => ⟨_, hh.1, HH.out.back hp hh.2.1, hh.2.2⟩
  have HP2 : Hid (∀ w1, Hold Z w1 (upd D n.d st.sync) J → Calls Tryz.prog 54 #[.pointer (some ⟨n.d, 0, none⟩), .string ⟨#[98, 97, 115, 101]⟩, .string z, .int .i64 (k : Int)] w1
      (Went Z (upd D n.d (st.sync.snap bN B k).2) J (.tuple #[.bool (st.sync.snapD bN B k), .int .i64 (st.sync.snap bN B k).1]) w1)) := Lib.hid fun w1 h1 => by
    have hb := bpart_h h1 (upd_same _ _ _) (Nat.le_trans hwt2 hwt) _ ht k rfl hz' hB
    rw [upd_upd] at hb
    exact hb
  clear hz' hB
  generalize (st.sync.snap bN B k).1 = r1 at *
  generalize (st.sync.snap bN B k).2 = r2 at *
  generalize st.sync.snapD bN B k = r3 at *
  clear HQ hq h hs hj hd hz c1
  generalize str t = y at *
  clear hwt2 hok
  go_enter Tryz.func25, Tryz.ntmps25
  go_wp2_with (first
    | (go_at_call 30; ((with_reducible refine HI.out.mono ?_); rintro e w1 ⟨rfl, rfl⟩))
    | (go_at_call 52; ((with_reducible refine HX.out.mono ?_); rintro e w1 ⟨rfl, rfl⟩)))
  refine (HJM.out _).mono ?_
  rintro e w1 ⟨rfl, hb1⟩
  have H1 := Lib.hid (HH.out.below hb1)
  have S1 := HS.out.below hb1
  have O1 : Hid (Only (Off Z) w w1) := Lib.hid (Only.of_below hb1)
  obtain ⟨_, _, a2, _, _⟩ := S1.cells
  have HS1 := Lib.hid S1
  clear hb1 S1 c2
  go_wp2_with fail
  refine (copy_h H1.out HD.out (by omega)).mono ?_
  rintro e w2 ⟨p, rfl, hp, h2, hb2⟩
  have hpw : w.heap.size ≤ p := Nat.le_trans O1.out.size hp
  have H2 := Lib.hid h2
  have O2 := Lib.hid (Off.tr O1.out (Only.of_below hb2))
  have S2 := Lib.hid (HS1.out.below hb2)
  clear hp h2 hb2
  go_wp2_with fail
  refine (HP1.out _ p hpw H2.out).mono ?_
  rintro e w3 ⟨q, rfl, h3, o3⟩
  have H3 := Lib.hid h3
  have S3 := S2.out.off o3 HZ.out
  have O3 := Lib.hid (Off.tr O2.out o3)
  have HF := sforce_any h3 S3 HJ.out (st := st) (by rw [hjd]; exact HD.out) (by omega)
  rw [hjd] at HF
  have HF := Lib.hid HF
  have HS3 := Lib.hid S3
  clear h3 o3 S3
  go_wp2_with fail
  refine HF.out.mono ?_
  rintro e w4 ⟨rfl, h4, o4⟩
  have H4 := Lib.hid h4
  have S4 := HS3.out.off o4 HZ.out
  obtain ⟨_, _, b2, _, _⟩ := S4.cells
  have O4 := Lib.hid (Off.tr O3.out o4)
  clear h4 o4 S4 HF
  go_wp2_with fail
  refine (HP2.out _ H4.out).mono ?_
  rintro e w5 ⟨rfl, h5, o5⟩
  have H5 := Lib.hid h5
  have O5 := Lib.hid (Off.tr O4.out o5)
  clear h5 o5
  go_wp2
  go_ret2
  exact ⟨rfl, H5.out, O5.out⟩

theorem split_any (w : World) (b : List UInt8) (hl : b.length ≤ 1099511627776) :
    Calls Tryz.prog 81 #[.string (str b)] w (Asks (.tuple #[.int .u64 ((bsp b).2.1 : Nat), .string (str (bsp b).2.2), .int .i64 (bsp b).1]) w) := by
  have HO := Lib.hid (popen_any w b)
  cases hrd : rd b with
  | none =>
    rw [bsp_no hrd]
    have hn := numOf_no hrd
    clear hrd
    go_enter Tryz.func81, Tryz.ntmps81
    go_wp2_with fail
    refine HO.out.mono ?_
    rintro e w1 ⟨rfl, hr, hb, hz⟩
    have HB := Lib.hid hb
    have HR := Lib.hid (rNum_any w1 w.heap.size (some b) hr)
    clear hb hr
    unfold NumPost at HR
    rw [hn] at HR
    go_wp2_with fail
    refine HR.out.mono ?_
    rintro e w2 ⟨rfl, hr2, hb2⟩
    have HB2 : Hid (Below w.heap.size w w2) := Lib.hid (hb2.below HB.out (by omega) (Nat.le_refl _))
    have HV := Lib.hid (fine_no w2 w.heap.size hr2)
    clear hb2 hr2
    go_wp2_with (go_at_call 105; ((with_reducible refine HV.out.mono ?_); rintro e w3 ⟨rfl, rfl⟩))
    go_ret3
    exact ⟨rfl, HB2.out⟩
  | some nr =>
    obtain ⟨n, r⟩ := nr
    rw [bsp_yes hrd]
    have hn := numOf_yes hrd
    have hnl := rd_lt hrd
    have hform := rd_form hrd
    have hlen : (Lib.uvarint n).length ≤ b.length := by rw [hform, List.length_append]; omega
    have hdrop : b.drop (Lib.uvarint n).length = r := by rw [hform]; simp
    have HJM := Lib.hid (fun w' (a : Int) (ha : a = (n : Int)) => join_any w' n hnl [] (by simp) ha)
    rw [List.append_nil] at HJM
    have hsu : (str (Lib.uvarint n)).size = (Lib.uvarint n).length := str_size _
    have hSL := fun W => sl_from b ((Lib.uvarint n).length : Int) _ rfl hlen W
    rw [hdrop] at hSL
    have hul := Lib.uvarint_length64 hnl
    clear hrd hform hdrop
    have HJM : Hid (∀ (w' : World), Calls Tryz.prog 53 #[.int .u64 (n : Int), .string ⟨#[]⟩] w' fun e w'' => e = .returned (.string (str (Lib.uvarint n))) ∧ Below w'.heap.size w' w'') := Lib.hid fun w' => HJM.out w' _ rfl
    generalize str (Lib.uvarint n) = u at *
    generalize (Lib.uvarint n).length = un at *
    go_enter Tryz.func81, Tryz.ntmps81
    go_wp2_with fail
    refine HO.out.mono ?_
    rintro e w1 ⟨rfl, hr, hb, hz⟩
    have HB := Lib.hid hb
    have HR := Lib.hid (rNum_any w1 w.heap.size (some b) hr)
    clear hb hr
    unfold NumPost at HR
    rw [hn] at HR
    go_wp2_with fail
    refine HR.out.mono ?_
    rintro e w2 ⟨rfl, hr2, hb2⟩
    have HB2 : Hid (Below w.heap.size w w2) := Lib.hid (hb2.below HB.out (by omega) (Nat.le_refl _))
    have HV := Lib.hid (fine_yes w2 w.heap.size _ hr2)
    clear hb2 hr2
    generalize str r = sr at *
    generalize str b = sb at *
    go_wp2_with (go_at_call 105; ((with_reducible refine HV.out.mono ?_); rintro e w3 ⟨rfl, rfl⟩))
    go_region_held3 (fun _ => True) (exact trivial) (first | (go_at_call 53; ((with_reducible refine (HJM.out _).mono ?_); rintro e w4 ⟨rfl, hb4⟩)))
    have HB4 := Lib.hid (HB2.out.trans (Below.trans (Below.refl _ _).drew hb4 |>.mono HB2.out.size))
    clear hb4
    go_wp2
    go_ret3
    exact ⟨rfl, HB4.out⟩

theorem base_any {Z : Nat → Prop} {w : World} {D : Nat → Option FS} {J : Nat → Option Jn} (h : Hold Z w D J) {d : Nat} {st : FS} (hd : D d = some st) (hbl : (st.bytes bN).length ≤ 549755813888) :
    Calls Tryz.prog 56 #[.pointer (some ⟨d, 0, none⟩)] w (Asks (.tuple #[.int .u64 (st.base.2.1 : Nat), .string (str st.base.2.2), .int .i64 st.base.1]) w) := by
  have hg := get_any h hd bN (by decide) ck_b hbl
  have hgl : (st.got bN).1.length ≤ 549755813888 := by
    unfold FS.got
    split
    · simp
    · split
      · rename_i t ho
        have := own_some ho
        show t.length ≤ _
        omega
      · simp
  have HG : Hid (Calls Tryz.prog 80 #[.pointer (some ⟨d, 0, none⟩), .string ⟨#[98, 97, 115, 101]⟩] w (Asks (.tuple #[.string (str (st.got bN).1), .int .i64 (st.got bN).2]) w)) := Lib.hid hg
  have HE : Hid (st.base = if (st.got bN).2 = 0 then bsp (st.got bN).1 else if (st.got bN).2 = 7 then (0, 0, []) else if (st.got bN).2 = 80 then (90, 0, []) else ((st.got bN).2, 0, [])) := Lib.hid rfl
  clear hg h hd hbl
  generalize st.base = r at *
  generalize st.got bN = g at *
  obtain ⟨t, q⟩ := g
  simp only at *
  by_cases h0 : q = 0
  · subst h0
    have he := HE.out
    rw [if_pos rfl] at he
    subst he
    have HS := Lib.hid (fun w' => split_any w' t (by omega))
    clear HE
    generalize bsp t = r at *
    generalize str t = y at *
    go_enter Tryz.func56, Tryz.ntmps56
    go_wp2_with fail
    refine HG.out.mono ?_
    rintro e w1 ⟨rfl, hb1⟩
    have HB1 := Lib.hid hb1
    clear hb1
    go_wp2_with fail
    refine (HS.out _).mono ?_
    rintro e w2 ⟨rfl, hb2⟩
    have HB2 := Lib.hid (HB1.out.trans (hb2.mono HB1.out.size))
    clear hb2
    go_wp2
    go_ret3
    exact ⟨rfl, HB2.out⟩
  · have he := HE.out
    rw [if_neg h0] at he
    clear HE
    by_cases h7 : q = 7
    · subst h7
      rw [if_pos rfl] at he
      subst he
      go_enter Tryz.func56, Tryz.ntmps56
      go_wp2_with (go_at_call 80; ((with_reducible refine HG.out.mono ?_); rintro e w1 ⟨rfl, hb1⟩))
      go_ret3
      exact ⟨rfl, hb1⟩
    · rw [if_neg h7] at he
      by_cases h80 : q = 80
      · subst h80
        rw [if_pos rfl] at he
        subst he
        go_enter Tryz.func56, Tryz.ntmps56
        go_wp2_with (go_at_call 80; ((with_reducible refine HG.out.mono ?_); rintro e w1 ⟨rfl, hb1⟩))
        go_ret3
        exact ⟨rfl, hb1⟩
      · rw [if_neg h80] at he
        subst he
        have b0 : (q == 0) = false := by simpa using h0
        have b7 : (q == 7) = false := by simpa using h7
        have b80 : (q == 80) = false := by simpa using h80
        go_enter Tryz.func56, Tryz.ntmps56
        go_wp2_with (go_at_call 80; ((with_reducible refine HG.out.mono ?_); rintro e w1 ⟨rfl, hb1⟩))
        go_ret3
        exact ⟨rfl, hb1⟩
end Go.Proofs.YtmaohncddjhgeaaGreat.gn
end
section
set_option linter.unusedVariables false
set_option linter.unusedSectionVars false
namespace Go.Proofs.YtmaohncddjhgeaaGreat.fi
open Go.Proofs.YtmaohncddjhgeaaGreat.gn (scan cost)
theorem opens7 {s : FS} (h : (s.opens log).1 = 7) : (s.opens log).2.1 = s := by
  by_cases hl : s.look log = 0
  · exfalso
    revert h
    unfold FS.opens
    rw [ck_log, hl, if_neg (by decide), if_neg (by decide)]
    cases fnum (scan (s.bytes log)) with
    | none => intro h; exact absurd (show (70 : Int) = 7 from h) (by decide)
    | some k =>
      show (s.trim log (cost (scan (s.bytes log))) (s.bytes log).length).1 = 7 → False
      unfold FS.trim
      split
      · intro h; exact absurd (show (0 : Int) = 7 from h) (by decide)
      · have hc : ∀ c : Int, (s.cut log c).1 = 0 ∨ (s.cut log c).1 = 2 := fun c => by
          unfold FS.cut
          rw [hl, if_neg (fun h => by cases h.1), if_neg (fun h => h rfl)]
          split
          · exact .inr rfl
          · exact .inl rfl
        rw [runs_cons]
        split
        · intro h; exact absurd (show (0 : Int) = 7 from h) (by decide)
        · intro h
          rcases hc (cost (scan (s.bytes log)) : Nat) with h2 | h2 <;> (rw [h2] at h; exact absurd h (by decide))
  · unfold FS.opens
    rw [ck_log, if_neg (by decide), if_pos hl]
end Go.Proofs.YtmaohncddjhgeaaGreat.fi
namespace Go.Proofs.YtmaohncddjhgeaaGreat.gn
open Go.RowKit
open Go.Proofs.YtmaohncddjhgeaaGreat.fi

set_option maxRecDepth 100000
set_option maxHeartbeats 2000000
/-- What openLog answers, and leaves. -/
def OLog (Z : Nat → Prop) (D : Nat → Option FS) (J : Nat → Option Jn) (d : Nat) (r : Int × FS × Nat × Nat) (w : World) (e : Ending) (w' : World) : Prop :=
  (r.1 = 0 ∧ ∃ j, e = .returned (.tuple #[.pointer (some ⟨j, 0, none⟩), .int .i64 0]) ∧ w.heap.size ≤ j ∧ Hold Z w' (upd D d r.2.1) (upd J j ⟨d, log, r.2.2.1, r.2.2.2⟩) ∧ Only (Off Z) w w') ∨
  (r.1 ≠ 0 ∧ e = .returned (.tuple #[.pointer none, .int .i64 r.1]) ∧ Hold Z w' (upd D d r.2.1) J ∧ Only (Off Z) w w')
theorem jopen_l {Z : Nat → Prop} {w : World} {D : Nat → Option FS} {J : Nat → Option Jn} (h : Hold Z w D J) {d : Nat} {st : FS} (hd : D d = some st) (hwt : st.wt ≤ 274877906944) :
    Calls Tryz.prog 82 #[.pointer (some ⟨d, 0, none⟩), .string ⟨#[108, 111, 103]⟩] w (Opened Z D J d log (scan (st.bytes log)).length (st.opens log) w) := by
  have hs := jopen_any h hd hwt log (by decide)
  exact Calls.mono (show Calls Tryz.prog 82 #[.pointer (some ⟨d, 0, none⟩), .string ⟨#[108, 111, 103]⟩] w _ from hs) fun e w' hh => hh
theorem jstart_l {Z : Nat → Prop} {w : World} {D : Nat → Option FS} {J : Nat → Option Jn} (h : Hold Z w D J) {d : Nat} {st : FS} (hd : D d = some st) (hwt : st.wt ≤ 274877906944) (n : Nat) (hn : n < 18446744073709551616) :
    Calls Tryz.prog 62 #[.pointer (some ⟨d, 0, none⟩), .string ⟨#[108, 111, 103]⟩, .int .u64 (n : Int)] w (Started Z D J d log n (st.start log n) w) := by
  have hs := start_any h hd hwt log (by decide) n hn
  exact Calls.mono (show Calls Tryz.prog 62 #[.pointer (some ⟨d, 0, none⟩), .string ⟨#[108, 111, 103]⟩, .int .u64 (n : Int)] w _ from hs) fun e w' hh => hh
theorem olog_any {Z : Nat → Prop} {w : World} {D : Nat → Option FS} {J : Nat → Option Jn} (h : Hold Z w D J) {d : Nat} {st : FS} (hd : D d = some st) (hwt : st.wt ≤ 274877906944) (n : Nat) (hn : n < 18446744073709551616) :
    Calls Tryz.prog 57 #[.pointer (some ⟨d, 0, none⟩), .int .u64 (n : Int)] w (OLog Z D J d (st.olog n) w) := by
  have HH := Lib.hid h
  have HO := Lib.hid (jopen_l h hd hwt)
  have H7 := Lib.hid (@opens7 st)
  have HE : Hid (st.olog n = if (st.opens log).1 = 7 then (((st.opens log).2.1.start log n).1, ((st.opens log).2.1.start log n).2, n, n)
      else if (st.opens log).1 ≠ 0 ∨ n < (st.opens log).2.2 ∨ st.nxt < n then (90, (st.opens log).2.1, 0, 0) else (0, (st.opens log).2.1, (st.opens log).2.2, st.nxt)) := Lib.hid rfl
  have hnx : st.nxt = ((st.opens log).2.2 + ((scan (st.bytes log)).length - 1)) % 18446744073709551616 := rfl
  clear h
  unfold Opened at HO
  rw [← hnx] at HO
  clear hnx
  generalize st.nxt = nx at *
  generalize st.olog n = r at *
  generalize (scan (st.bytes log)).length = ln at *
  generalize st.opens log = o at *
  obtain ⟨q, s1, first⟩ := o
  simp only at *
  go_enter Tryz.func57, Tryz.ntmps57
  go_wp2_with fail
  refine HO.out.mono ?_
  rintro e w1 (⟨h0, j, rfl, hj, hh, ho⟩ | ⟨h0, rfl, hh, ho⟩)
  · subst h0
    have hjs : upd J j ⟨d, log, first, nx⟩ j = some ⟨d, log, first, nx⟩ := upd_same _ _ _
    have HF := Lib.hid (first_any' hh hjs)
    have HN := Lib.hid (next_any' hh hjs)
    have H1 := Lib.hid hh
    have O1 := Lib.hid ho
    have HB := Lib.hid (HH.out.backJ hj hh)
    clear hh ho hjs
    have he := HE.out
    rw [if_neg (by decide)] at he
    by_cases h1 : n < first
    · rw [if_pos (.inr (.inl h1))] at he
      subst he
      go_wp2_with (go_at_call 74; ((with_reducible refine HF.out.mono ?_); rintro e w2 ⟨rfl, rfl⟩))
      go_ret2
      exact .inr ⟨(show (90 : Int) ≠ 0 by decide), rfl, HB.out, O1.out⟩
    · by_cases h2 : nx < n
      · rw [if_pos (.inr (.inr h2))] at he
        subst he
        go_wp2_with (first
          | (go_at_call 74; ((with_reducible refine HF.out.mono ?_); rintro e w2 ⟨rfl, rfl⟩))
          | (go_at_call 75; ((with_reducible refine HN.out.mono ?_); rintro e w2 ⟨rfl, rfl⟩)))
        go_ret2
        exact .inr ⟨(show (90 : Int) ≠ 0 by decide), rfl, HB.out, O1.out⟩
      · rw [if_neg (by rintro (h3 | h3 | h3); exact h3 rfl; exact h1 h3; exact h2 h3)] at he
        subst he
        go_wp2_with (first
          | (go_at_call 74; ((with_reducible refine HF.out.mono ?_); rintro e w2 ⟨rfl, rfl⟩))
          | (go_at_call 75; ((with_reducible refine HN.out.mono ?_); rintro e w2 ⟨rfl, rfl⟩)))
        go_ret2
        exact .inl ⟨rfl, j, rfl, hj, H1.out, O1.out⟩
  · by_cases h7 : q = 7
    · subst h7
      have he := HE.out
      rw [if_pos rfl] at he
      subst he
      have hs := H7.out rfl
      subst hs
      have HS := Lib.hid (jstart_l hh (upd_same _ _ _) hwt n hn)
      rw [upd_self hd] at HS
      have O1 := Lib.hid ho
      have HZ1 := Lib.hid ho.size
      clear hh ho hd H7 HE HO
      unfold Started at HS
      generalize s1.start log n = r at *
      go_wp2_with fail
      refine HS.out.mono ?_
      rintro e w2 (⟨h0, j, rfl, hj, hh, ho⟩ | ⟨h0, rfl, hh, ho⟩)
      · have H2 := Lib.hid hh
        have O2 := Lib.hid (Off.tr O1.out ho)
        clear hh ho
        go_wp2
        go_ret2
        exact .inl ⟨h0, j, rfl, Nat.le_trans HZ1.out hj, H2.out, O2.out⟩
      · have H2 := Lib.hid hh
        have O2 := Lib.hid (Off.tr O1.out ho)
        clear hh ho
        have H0 := Lib.hid h0
        clear h0
        go_wp2
        go_ret2
        exact .inr ⟨H0.out, rfl, H2.out, O2.out⟩
    · have he := HE.out
      rw [if_neg h7, if_pos (.inl h0)] at he
      subst he
      have b7 : (q == 7) = false := by simpa using h7
      have b0 : (q != 0) = true := bne_of h0
      have H1 := Lib.hid hh
      have O1 := Lib.hid ho
      clear hh ho
      go_wp2
      go_ret2
      exact .inr ⟨(show (90 : Int) ≠ 0 by decide), rfl, H1.out, O1.out⟩

/-- What open answers, and leaves. -/
def ShOp (Z : Nat → Prop) (D : Nat → Option FS) (J : Nat → Option Jn) (d : Nat) (b : Int × Nat × List UInt8) (r : Int × FS × Nat × Nat) (w : World) (e : Ending) (w' : World) : Prop :=
  (r.1 = 0 ∧ ∃ s j, e = .returned (.tuple #[.pointer (some ⟨s, 0, none⟩), .int .i64 0]) ∧ w.heap.size ≤ s ∧ w.heap.size ≤ j ∧ BlkS w' s ⟨j, d, b.2.1, b.2.2⟩ ∧ Hold (fun i => Z i ∨ i = s) w' (upd D d r.2.1) (upd J j ⟨d, log, r.2.2.1, r.2.2.2⟩) ∧ Only (Off Z) w w') ∨
  (r.1 ≠ 0 ∧ e = .returned (.tuple #[.pointer none, .int .i64 r.1]) ∧ Hold Z w' (upd D d r.2.1) J ∧ Only (Off Z) w w')
theorem sopen_any {Z : Nat → Prop} {w : World} {D : Nat → Option FS} {J : Nat → Option Jn} (h : Hold Z w D J) {d : Nat} {st : FS} (hd : D d = some st) (hwt : st.wt ≤ 274877906944) :
    Calls Tryz.prog 28 #[.pointer (some ⟨d, 0, none⟩)] w (ShOp Z D J d st.base st.shop w) := by
  have hbl := bytes_wt (h.ok hd) bN
  have HH := Lib.hid h
  have HBA := Lib.hid (base_any h hd (by omega))
  have HE : Hid (st.shop = if st.base.1 ≠ 0 then (st.base.1, st, 0, 0) else st.olog st.base.2.1) := Lib.hid rfl
  have hlt := base_lt st
  have HD := Lib.hid hd
  have HOL := Lib.hid (fun w' (h : Hold Z w' D J) => olog_any h HD.out hwt st.base.2.1 hlt)
  clear h hd hbl
  generalize st.shop = r at *
  generalize st.base = b at *
  obtain ⟨q, n, t⟩ := b
  simp only at *
  go_enter Tryz.func28, Tryz.ntmps28
  go_wp2_with fail
  refine HBA.out.mono ?_
  rintro e w1 ⟨rfl, hb1⟩
  have H1 := Lib.hid (HH.out.below hb1)
  have O1 : Hid (Only (Off Z) w w1) := Lib.hid (Only.of_below hb1)
  clear hb1
  by_cases h0 : q = 0
  · subst h0
    have he := HE.out
    rw [if_neg (by decide)] at he
    have HR := Lib.hid (HOL.out w1 H1.out)
    rw [← he] at HR
    have HZ1 := Lib.hid O1.out.size
    clear he HE HOL
    unfold OLog at HR
    go_wp2_with fail
    refine HR.out.mono ?_
    rintro e w2 (⟨h0, j, rfl, hj, hh, ho⟩ | ⟨h0, rfl, hh, ho⟩)
    · have H2 := Lib.hid hh
      have O2 := Lib.hid (Off.tr O1.out ho)
      have HJ := Lib.hid (Nat.le_trans HZ1.out hj)
      clear hh ho hj
      obtain ⟨w3, hw3⟩ : ∃ w3, w2.alloc (.cells #[.pointer (some ⟨j, 0, none⟩), .pointer none, .pointer (some ⟨d, 0, none⟩), .int .u64 (n : Int), .string (str t)] 76) = w3 := ⟨_, rfl⟩
      have hz3 : w3.heap.size = w2.heap.size + 1 := by rw [← hw3]; simp
      have hk3 : w3.heap[w2.heap.size]? = some (.cells #[.pointer (some ⟨j, 0, none⟩), .pointer none, .pointer (some ⟨d, 0, none⟩), .int .u64 (n : Int), .string (str t)] 76 (0, 0)) := by rw [← hw3]; exact heap_alloc_new w2 _
      have hb3 : Below w2.heap.size w2 w3 := by rw [← hw3]; exact (Below.refl _ w2).alloc (Nat.le_refl _) _
      have hk4 := heap_setCell hk3 (j := 1) (.pointer (some ⟨w2.heap.size, 0, none⟩))
      have hb4 : Below w2.heap.size w2 (w3.setCell ⟨w2.heap.size, 1, none⟩ (.pointer (some ⟨w2.heap.size, 0, none⟩))) := hb3.setCell (Nat.le_refl _) _
      have hz4 : (w3.setCell ⟨w2.heap.size, 1, none⟩ (.pointer (some ⟨w2.heap.size, 0, none⟩))).heap.size = w2.heap.size + 1 := by rw [← hz3]; simp [World.setCell]
      have HK4 := Lib.hid hk4
      have H4 : Hid (Hold (fun i => Z i ∨ i = w2.heap.size) (w3.setCell ⟨w2.heap.size, 1, none⟩ (.pointer (some ⟨w2.heap.size, 0, none⟩))) (upd D d r.2.1) (upd J j ⟨d, log, r.2.2.1, r.2.2.2⟩)) := Lib.hid ((H2.out.grow hb4).less fun i hi => by
        rcases hi with hi | hi
        · exact .inl hi
        · exact .inr ⟨by omega, by omega⟩)
      have O4 := Lib.hid (Off.tr O2.out (Only.of_below (S := Off Z) hb4))
      have c1 : w3.cell? ⟨w2.heap.size, 1, none⟩ = some (.pointer none) := by rw [cell_of_row w3 _ 1 _ _ _ hk3]; rfl
      have c2 := frozen_of_row w3 w2.heap.size 1 _ _ hk3
      have HZ2 := Lib.hid O2.out.size
      clear hk3 hb3 hk4 hb4 hz4
      go_wp2
      go_ret2
      exact .inl ⟨h0, w2.heap.size, j, rfl, HZ2.out, HJ.out, HK4.out, H4.out, O4.out⟩
    · have H2 := Lib.hid hh
      have O2 := Lib.hid (Off.tr O1.out ho)
      clear hh ho
      have b0 := bne_of h0
      have H0 := Lib.hid h0
      clear h0
      go_wp2
      go_ret2
      exact .inr ⟨H0.out, rfl, H2.out, O2.out⟩
  · have he := HE.out
    rw [if_pos h0] at he
    subst he
    have b0 := bne_of h0
    have H0 := Lib.hid h0
    clear h0 HE HOL
    have HU := Lib.hid (upd_self HD.out)
    go_wp2
    go_ret2
    exact .inr ⟨H0.out, rfl, by rw [HU.out]; exact H1.out, O1.out⟩

/-- What Open answers, and leaves. -/
def ShOpen (Z : Nat → Prop) (D : Nat → Option FS) (J : Nat → Option Jn) (d : Nat) (b : Int × Nat × List UInt8) (r : Int × FS × Nat × Nat) (w : World) (e : Ending) (w' : World) : Prop :=
  (r.1 = 0 ∧ ∃ s j, e = .returned (.tuple #[.pointer (some ⟨s, 0, none⟩), .int .i64 0]) ∧ w.heap.size ≤ s ∧ w.heap.size ≤ j ∧ BlkS w' s ⟨j, d, b.2.1, b.2.2⟩ ∧ Hold (fun i => Z i ∨ i = s) w' (upd D d r.2.1) (upd J j ⟨d, log, r.2.2.1, r.2.2.2⟩) ∧ Only (Off Z) w w') ∨
  (r.1 ≠ 0 ∧ e = .returned (.tuple #[.pointer none, .int .i64 r.1]) ∧ Hold Z w' D J ∧ Only (Off Z) w w')
theorem shopen_any {Z : Nat → Prop} {w : World} {D : Nat → Option FS} {J : Nat → Option Jn} (h : Hold Z w D J) {d : Nat} {st : FS} (hd : D d = some st) (hwt : st.wt ≤ 274877906944) :
    Calls Tryz.prog 8 #[.pointer (some ⟨d, 0, none⟩)] w (ShOpen Z D J d st.base st.shop w) := by
  have HH := Lib.hid h
  have HD := Lib.hid hd
  have HC := Lib.hid (copy_h h hd (by omega))
  have HO : Hid (∀ (w' : World) (D : Nat → Option FS) (d : Nat), Hold Z w' D J → D d = some st → Calls Tryz.prog 28 #[.pointer (some ⟨d, 0, none⟩)] w' (ShOp Z D J d st.base st.shop w')) := Lib.hid fun w' D d h hd => sopen_any h hd hwt
  clear h hd
  unfold ShOp at HO
  generalize st.shop = r at *
  generalize st.base = b at *
  go_enter Tryz.func8, Tryz.ntmps8
  go_wp2_with fail
  refine HC.out.mono ?_
  rintro e w1 ⟨p, rfl, hp, hh, hb⟩
  have H1 := Lib.hid hh
  have O1 : Hid (Only (Off Z) w w1) := Lib.hid (Only.of_below hb)
  clear hh hb
  go_wp2_with fail
  refine (HO.out w1 _ p H1.out (upd_same _ _ _)).mono ?_
  rintro e w2 (⟨h0, s, j, rfl, hs, hj, hk, hh, ho⟩ | ⟨h0, rfl, hh, ho⟩)
  · have h2 := hh.less (Z' := Z) fun i hi => .inl hi
    have h3 := HH.out.backJ (Nat.le_trans O1.out.size hj) h2
    have H2 := Lib.hid (HH.out.back hp h3)
    have O2 := Lib.hid (Off.tr O1.out ho)
    have HZ2 := Lib.hid O2.out.size
    clear hh ho h2 h3 hk hs hj
    go_wp2_with fail
    refine (HO.out w2 _ d H2.out HD.out).mono ?_
    rintro e w3 (⟨_, s, j, rfl, hs, hj, hk, hh, ho⟩ | ⟨h1, _⟩)
    · have HK := Lib.hid hk
      have H3 := Lib.hid hh
      have O3 := Lib.hid (Off.tr O2.out ho)
      have HS := Lib.hid (Nat.le_trans HZ2.out hs)
      have HJ := Lib.hid (Nat.le_trans HZ2.out hj)
      clear hk hh ho hs hj
      go_wp2
      go_ret2
      exact .inl ⟨h0, s, j, rfl, HS.out, HJ.out, HK.out, H3.out, O3.out⟩
    · exact absurd h0 h1
  · have H2 := Lib.hid (HH.out.back hp hh)
    have O2 := Lib.hid (Off.tr O1.out ho)
    clear hh ho
    have b0 := bne_of h0
    have H0 := Lib.hid h0
    clear h0
    go_wp2
    go_ret2
    exact .inr ⟨H0.out, rfl, H2.out, O2.out⟩
end Go.Proofs.YtmaohncddjhgeaaGreat.gn
end
section
set_option linter.unusedVariables false
set_option linter.unusedSectionVars false
namespace Go.Proofs.YtmaohncddjhgeaaGreat.gn
open Go.RowKit
open Go.Proofs.YtmaohncddjhgeaaGreat.fi

set_option maxRecDepth 100000
set_option maxHeartbeats 2000000
/-- What a Save's steps share: the boxes of the shelf, the string, the number; the row of steps. -/
structure SaB (w : World) (p q r A s : Nat) (t : List UInt8) (x : Nat) : Prop where
  hp : Boxed w p 27 (.pointer (some ⟨s, 0, none⟩))
  hq : Boxed w q 9 (.string (str t))
  hr : Boxed w r 31 (.int .u64 (x : Int))
  ha : w.heap[A]? = some (.cells #[.func (.func 59) #[] #[.pointer (some ⟨p, 0, none⟩), .pointer (some ⟨q, 0, none⟩)], .func (.func 60) #[] #[.pointer (some ⟨r, 0, none⟩), .pointer (some ⟨q, 0, none⟩), .pointer (some ⟨p, 0, none⟩)],
    .func (.func 61) #[] #[.pointer (some ⟨p, 0, none⟩), .pointer (some ⟨r, 0, none⟩)], .func (.func 63) #[] #[.pointer (some ⟨p, 0, none⟩), .pointer (some ⟨r, 0, none⟩)]] 52 (0, 0))
theorem SaB.kept {w w' : World} {p q r A s : Nat} {t : List UInt8} {x : Nat} (h : SaB w p q r A s t x) {S : Nat → Prop} (ho : Only S w w') (h1 : ¬ S p) (h2 : ¬ S q) (h3 : ¬ S r) (h4 : ¬ S A) : SaB w' p q r A s t x :=
  ⟨(ho.block p h.hp.lt h1).trans h.hp, (ho.block q h.hq.lt h2).trans h.hq, (ho.block r h.hr.lt h3).trans h.hr, (ho.block A (lt_of_block h.ha) h4).trans h.ha⟩
theorem SaB.below {w w' : World} {p q r A s : Nat} {t : List UInt8} {x : Nat} (h : SaB w p q r A s t x) (hb : Below w.heap.size w w') : SaB w' p q r A s t x :=
  ⟨(hb.block p h.hp.lt).trans h.hp, (hb.block q h.hq.lt).trans h.hq, (hb.block r h.hr.lt).trans h.hr, (hb.block A (lt_of_block h.ha)).trans h.ha⟩
theorem SaB.cells {wr : World} {p q r A s : Nat} {t : List UInt8} {x : Nat} (h : SaB wr p q r A s t x) :
    wr.cell? ⟨A, 0, none⟩ = some (.func (.func 59) #[] #[.pointer (some ⟨p, 0, none⟩), .pointer (some ⟨q, 0, none⟩)]) ∧
    wr.cell? ⟨A, 1, none⟩ = some (.func (.func 60) #[] #[.pointer (some ⟨r, 0, none⟩), .pointer (some ⟨q, 0, none⟩), .pointer (some ⟨p, 0, none⟩)]) ∧
    wr.cell? ⟨A, 2, none⟩ = some (.func (.func 61) #[] #[.pointer (some ⟨p, 0, none⟩), .pointer (some ⟨r, 0, none⟩)]) ∧
    wr.cell? ⟨A, 3, none⟩ = some (.func (.func 63) #[] #[.pointer (some ⟨p, 0, none⟩), .pointer (some ⟨r, 0, none⟩)]) :=
  ⟨by rw [cell_of_row _ _ 0 _ _ _ h.ha]; rfl, by rw [cell_of_row _ _ 1 _ _ _ h.ha]; rfl, by rw [cell_of_row _ _ 2 _ _ _ h.ha]; rfl, by rw [cell_of_row _ _ 3 _ _ _ h.ha]; rfl⟩

theorem saving_any {Z : Nat → Prop} {w : World} {D : Nat → Option FS} {J : Nat → Option Jn} (h : Hold Z w D J) {s : Nat} {n : Sf} (hs : BlkS w s n) {jn : Jn} (hj : J n.j = some jn) (t : List UInt8) :
    Calls Tryz.prog 31 #[.pointer (some ⟨s, 0, none⟩), .string (str t)] w fun e w' => e = .returned (.slice (some ⟨w.heap.size + 3, 0, none⟩) 4 4) ∧ Below w.heap.size w w' ∧ w'.heap.size = w.heap.size + 4 ∧
      SaB w' w.heap.size (w.heap.size + 1) (w.heap.size + 2) (w.heap.size + 3) s t jn.next := by
  obtain ⟨w2, hw2⟩ : ∃ w2, (w.alloc (.cells #[.pointer (some ⟨s, 0, none⟩)] 27)).alloc (.cells #[.string (str t)] 9) = w2 := ⟨_, rfl⟩
  have hz2 : w2.heap.size = w.heap.size + 2 := by rw [← hw2]; simp
  have hb2 : Below w.heap.size w w2 := by rw [← hw2]; exact ((Below.refl _ w).alloc (Nat.le_refl _) _).alloc (by simp) _
  have hp2 : Boxed w2 w.heap.size 27 (.pointer (some ⟨s, 0, none⟩)) := by rw [← hw2]; exact (Boxed.new w _ _).alloc _
  have hq2 : Boxed w2 (w.heap.size + 1) 9 (.string (str t)) := by
    rw [← hw2]
    have := Boxed.new (w.alloc (.cells #[.pointer (some ⟨s, 0, none⟩)] 27)) 9 (.string (str t))
    simpa using this
  have HN := Lib.hid (snext_any (h.below hb2) (hs.below hb2) hj)
  obtain ⟨w3, hw3⟩ : ∃ w3, w2.alloc (.cells #[.int .u64 0] 31) = w3 := ⟨_, rfl⟩
  have hz3 : w3.heap.size = w.heap.size + 3 := by rw [← hw3]; simp [hz2]
  have hr3 : Boxed w3 (w.heap.size + 2) 31 (.int .u64 0) := by
    rw [← hw3]
    have := Boxed.new w2 31 (.int .u64 0)
    rw [hz2] at this
    exact this
  have hp3 := hp2.alloc (.cells #[.int .u64 0] 31)
  have hq3 := hq2.alloc (.cells #[.int .u64 0] 31)
  rw [hw3] at hp3 hq3
  have hb3 : Below w.heap.size w w3 := by rw [← hw3]; exact hb2.alloc (by omega) _
  have c1 := hp2.cell
  have c3 := hr3.cell
  have c4 := hr3.frozen
  have HP4 : Hid (Boxed (w3.setCell ⟨w.heap.size + 2, 0, none⟩ (.int .u64 (jn.next : Int))) w.heap.size 27 (.pointer (some ⟨s, 0, none⟩))) := Lib.hid ((Below.heap_setCell _ _ _ _ (by show w.heap.size ≠ w.heap.size + 2; omega)).trans hp3)
  have HQ4 : Hid (Boxed (w3.setCell ⟨w.heap.size + 2, 0, none⟩ (.int .u64 (jn.next : Int))) (w.heap.size + 1) 9 (.string (str t))) := Lib.hid ((Below.heap_setCell _ _ _ _ (by show w.heap.size + 1 ≠ w.heap.size + 2; omega)).trans hq3)
  have HR4 := Lib.hid (hr3.set (.int .u64 (jn.next : Int)))
  have HB4 : Hid (Below w.heap.size w (w3.setCell ⟨w.heap.size + 2, 0, none⟩ (.int .u64 (jn.next : Int)))) := Lib.hid (hb3.setCell (by show w.heap.size ≤ w.heap.size + 2; omega) _)
  have hz4 : (w3.setCell ⟨w.heap.size + 2, 0, none⟩ (.int .u64 (jn.next : Int))).heap.size = w.heap.size + 3 := by rw [← hz3]; simp [World.setCell]
  have HZ4 := Lib.hid hz4
  clear h hs hj hb2 hp2 hq2 hr3 hp3 hq3 hb3 hz4
  obtain ⟨y, hy⟩ : ∃ y, str t = y := ⟨_, rfl⟩
  have HY := Lib.hid hy
  rw [hy] at hw2 HQ4 ⊢
  clear hy
  generalize jn.next = x at *
  go_enter Tryz.func31, Tryz.ntmps31
  go_wp2_with (go_at_call 52; ((with_reducible refine HN.out.mono ?_); rintro e w9 ⟨rfl, rfl⟩))
  go_ret
  refine ⟨rfl, HB4.out.alloc (by rw [HZ4.out]; omega) _, ?_, HP4.out.alloc _, ?_, HR4.out.alloc _, alloc_at' HZ4.out.symm⟩
  · have e : ∀ (W : World) (o : Obj), (W.alloc o).heap.size = W.heap.size + 1 := fun W o => by simp
    rw [e, HZ4.out]
  · rw [HY.out]; exact HQ4.out.alloc _

section
variable {Z : Nat → Prop} {w : World} {D : Nat → Option FS} {J : Nat → Option Jn} (h : Hold Z w D J) {s : Nat} {n : Sf} (hs : BlkS w s n) (hz : Z s) {p q r A : Nat} {t : List UInt8} {x : Nat} (hb : SaB w p q r A s t x)
include h hs hz hb
theorem sav1 {jn : Jn} (hj : J n.j = some jn) (hjd : jn.d = n.d) (hjx : jn.next < 18446744073709551616) {st : FS} (hd : D n.d = some st) (hwt : st.wt ≤ 137438953472) (ht : (Lib.uvarint jn.next ++ t).length ≤ 262144) (hq : (st.snap bN (frame (Lib.uvarint jn.next ++ t)) 5).1 = 0) :
    Calls Tryz.prog 59 #[.pointer (some ⟨p, 0, none⟩), .pointer (some ⟨q, 0, none⟩)] w (Went Z (upd D n.d (st.sync.snap bN (frame (Lib.uvarint jn.next ++ t)) 5).2) J (.int .i64 (st.sync.snap bN (frame (Lib.uvarint jn.next ++ t)) 5).1) w) := by
  have HM := spart_any h hs hz hj hjd hjx hd hwt t ht 5 (x := 5) rfl hq
  have c1 := hb.hp.cell
  have c2 := hb.hq.cell
  clear h hs hz hb hj hd hq
  generalize st.sync.snap bN (frame (Lib.uvarint jn.next ++ t)) 5 = R at *
  generalize st.sync.snapD bN (frame (Lib.uvarint jn.next ++ t)) 5 = R3 at *
  generalize str t = y at *
  go_enter Tryz.func59, Tryz.ntmps59
  go_wp2_with (go_at_call 25; ((with_reducible refine HM.mono ?_); rintro e w1 ⟨rfl, hh, ho⟩))
  go_ret
  exact ⟨rfl, hh, ho⟩
theorem sav2 (ne : s ≠ p ∧ s ≠ q ∧ s ≠ r) (ht : t.length ≤ 1000000) :
    Calls Tryz.prog 60 #[.pointer (some ⟨r, 0, none⟩), .pointer (some ⟨q, 0, none⟩), .pointer (some ⟨p, 0, none⟩)] w fun e w' => e = .returned (.int .i64 0) ∧ BlkS w' s ⟨n.j, n.d, x, t⟩ ∧ Only (fun i => i = s) w w' := by
  obtain ⟨n1, n2, n3⟩ := ne
  have HC := Lib.hid (fun W => clone_any (str t) W (by rw [str_size]; omega))
  have HK : Hid (∀ W w', W.heap = w.heap → Below W.heap.size W w' → w'.cell? ⟨p, 0, none⟩ = some (.pointer (some ⟨s, 0, none⟩)) ∧ w'.cell? ⟨q, 0, none⟩ = some (.string (str t)) ∧ w'.cell? ⟨r, 0, none⟩ = some (.int .u64 (x : Int)) ∧ BlkS w' s n) := Lib.hid fun W w' hW hb' => by
    have b1 : SaB W p q r A s t x := ⟨by unfold Boxed; rw [hW]; exact hb.hp, by unfold Boxed; rw [hW]; exact hb.hq, by unfold Boxed; rw [hW]; exact hb.hr, by rw [hW]; exact hb.ha⟩
    have b2 : BlkS W s n := by unfold BlkS; rw [hW]; exact hs
    exact ⟨(b1.below hb').hp.cell, (b1.below hb').hq.cell, (b1.below hb').hr.cell, b2.below hb'⟩
  obtain ⟨c1, c2, c3, b1⟩ := HK.out w w rfl (Below.refl _ _)
  have HKd := Lib.hid (fun w1 => HK.out w.drew w1 rfl)
  have f3 := frozen_of_row w s 3 _ _ b1
  have f4 := frozen_of_row w s 4 _ _ b1
  obtain ⟨_, _, _, k3, k4⟩ := b1.cells
  clear h hs hz hb b1
  go_enter Tryz.func60, Tryz.ntmps60
  go_wp2
  go_region_held3 (fun W => W.cell? ⟨p, 0, none⟩ = some (.pointer (some ⟨s, 0, none⟩)) ∧ W.cell? ⟨q, 0, none⟩ = some (.string (str t)) ∧ W.cell? ⟨r, 0, none⟩ = some (.int .u64 (x : Int))) (go_keep)
    (first
      | (go_at_call 37; ((with_reducible refine (HC.out _).mono ?_); rintro e w1 ⟨rfl, hb1⟩; obtain ⟨d1, d2, d3, b1⟩ := HKd.out w1 hb1; have g3 := frozen_of_row w1 s 3 _ _ b1; have g4 := frozen_of_row w1 s 4 _ _ b1; obtain ⟨_, _, _, k13, k14⟩ := b1.cells)))
  have HBS := Lib.hid (heap_setCell (heap_setCell b1 (j := 3) (.int .u64 (x : Int))) (j := 4) (.string (str t)))
  have HO : Hid (Only (fun i => i = s) w ((w1.setCell ⟨s, 3, none⟩ (.int .u64 (x : Int))).setCell ⟨s, 4, none⟩ (.string (str t)))) := Lib.hid (((Only.of_below (S := fun i => i = s) (Below.trans (Below.refl _ _).drew hb1)).setCell (fun _ => rfl) _).setCell (fun _ => rfl) _)
  clear hb1 d1 d2 d3 b1 g3 g4 k13 k14
  go_wp2
  go_ret
  exact ⟨rfl, HBS.out, HO.out⟩
theorem sav3 (zp : Z p) (zr : Z r) (hd : ∃ st, D n.d = some st ∧ st.wt ≤ 137438953472 ∧ (st.start log x).1 = 0) (hx : x < 18446744073709551616) :
    Calls Tryz.prog 61 #[.pointer (some ⟨p, 0, none⟩), .pointer (some ⟨r, 0, none⟩)] w (Went Z D J (.int .i64 0) w) := by
  obtain ⟨st, hd, hwt, h0⟩ := hd
  have HK : Hid (∀ w', Below w.heap.size w w' → w'.cell? ⟨p, 0, none⟩ = some (.pointer (some ⟨s, 0, none⟩)) ∧ w'.cell? ⟨s, 2, none⟩ = some (.pointer (some ⟨n.d, 0, none⟩)) ∧ w'.cell? ⟨r, 0, none⟩ = some (.int .u64 (x : Int))) := Lib.hid fun w' hb' => by
    obtain ⟨_, _, k2, _⟩ := (hs.below hb').cells
    exact ⟨(hb.below hb').hp.cell, k2, (hb.below hb').hr.cell⟩
  obtain ⟨c1, c2, c3⟩ := HK.out w (Below.refl _ _)
  have HC := Lib.hid (copy_h h.drew hd (by omega))
  have HS : Hid (∀ w1 d, w.drew.heap.size ≤ d → Hold Z w1 (upd D d st) J → Calls Tryz.prog 62 #[.pointer (some ⟨d, 0, none⟩), .string ⟨#[108, 111, 103]⟩, .int .u64 (x : Int)] w1
      fun e w' => ∃ j, e = .returned (.tuple #[.pointer (some ⟨j, 0, none⟩), .int .i64 0]) ∧ Hold Z w' D J ∧ Only (Off Z) w1 w') := Lib.hid fun w1 d hd1 h1 => (jstart_l h1 (upd_same _ _ _) (by omega) x hx).mono fun e w' hh => by
    rcases hh with ⟨_, j, he, hj, hh, ho⟩ | ⟨h2, _⟩
    · exact ⟨j, he, h.back hd1 (h1.backJ hj hh), ho⟩
    · exact absurd h0 h2
  have HK2 : Hid (∀ w1 w2, Below w.heap.size w w1 → Only (Off Z) w1 w2 → w2.cell? ⟨p, 0, none⟩ = some (.pointer (some ⟨s, 0, none⟩)) ∧ w2.cell? ⟨s, 2, none⟩ = some (.pointer (some ⟨n.d, 0, none⟩)) ∧ w2.cell? ⟨r, 0, none⟩ = some (.int .u64 (x : Int))) := Lib.hid fun w1 w2 h1 h2 => by
    obtain ⟨k1, k2, k3⟩ := HK.out w1 h1
    exact ⟨h2.cell k1 fun hn => hn zp, h2.cell k2 fun hn => hn hz, h2.cell k3 fun hn => hn zr⟩
  have HH := Lib.hid h
  have HB1 : Hid (∀ w1, Below w.drew.heap.size w.drew w1 → Below w.heap.size w w1) := Lib.hid fun w1 hb => Below.trans (Below.refl _ _).drew hb
  clear h hs hz hb hd h0
  go_enter Tryz.func61, Tryz.ntmps61
  go_wp2
  go_region_held3 (fun W => W.cell? ⟨p, 0, none⟩ = some (.pointer (some ⟨s, 0, none⟩)) ∧ W.cell? ⟨s, 2, none⟩ = some (.pointer (some ⟨n.d, 0, none⟩)) ∧ W.cell? ⟨r, 0, none⟩ = some (.int .u64 (x : Int))) (go_keep)
    (first
      | (go_at_call 29; ((with_reducible refine HC.out.mono ?_); rintro e w1 ⟨d1, rfl, hd1, hh1, hb1⟩; obtain ⟨k1, k2, k3⟩ := HK.out w1 (HB1.out w1 hb1)))
      | (go_at_call 62; ((with_reducible refine (HS.out _ _ hd1 hh1).mono ?_); rintro e w2 ⟨j, rfl, hh2, ho2⟩; obtain ⟨l1, l2, l3⟩ := HK2.out w1 w2 (HB1.out w1 hb1) ho2)))
  have H2 := Lib.hid hh2
  have O2 : Hid (Only (Off Z) w w2) := Lib.hid (Off.tr (Only.of_below (HB1.out w1 hb1)) ho2)
  clear hh1 hb1 k1 k2 k3 hh2 ho2 l1 l2 l3
  go_wp2
  go_ret
  exact ⟨rfl, H2.out, O2.out⟩
theorem sav4 (zp : Z p) (zq : Z q) (zr : Z r) (zA : Z A) (ne : s ≠ p ∧ s ≠ q ∧ s ≠ r ∧ s ≠ A) {st : FS} (hd : D n.d = some st) (hwt : st.wt ≤ 137438953472) (h0 : (st.start log x).1 = 0) (hx : x < 18446744073709551616) :
    Calls Tryz.prog 63 #[.pointer (some ⟨p, 0, none⟩), .pointer (some ⟨r, 0, none⟩)] w fun e w' => e = .returned (.int .i64 0) ∧ ∃ j, w.heap.size ≤ j ∧ BlkS w' s { n with j := j } ∧
      Hold Z w' (upd D n.d (st.start log x).2) (upd J j ⟨n.d, log, x, x⟩) ∧ SaB w' p q r A s t x ∧ Only (fun i => ¬ Z i ∨ i = s) w w' := by
  have HK : Hid (∀ w', Only (Off Z) w w' → w'.cell? ⟨p, 0, none⟩ = some (.pointer (some ⟨s, 0, none⟩)) ∧ w'.cell? ⟨s, 2, none⟩ = some (.pointer (some ⟨n.d, 0, none⟩)) ∧ w'.cell? ⟨r, 0, none⟩ = some (.int .u64 (x : Int)) ∧ BlkS w' s n ∧ SaB w' p q r A s t x) := Lib.hid fun w' ho => by
    have hs' := hs.off ho hz
    have hb' := hb.kept ho (fun hn => hn zp) (fun hn => hn zq) (fun hn => hn zr) (fun hn => hn zA)
    obtain ⟨_, _, k2, _⟩ := hs'.cells
    exact ⟨hb'.hp.cell, k2, hb'.hr.cell, hs', hb'⟩
  obtain ⟨c1, c2, c3, _⟩ := HK.out w (Only.refl _ _)
  have HKd := Lib.hid (fun w1 (ho : Only (Off Z) w.drew w1) => HK.out w1 (Off.tr (Only.of_below (Below.refl _ _).drew) ho))
  have HS : Hid (Calls Tryz.prog 62 #[.pointer (some ⟨n.d, 0, none⟩), .string ⟨#[108, 111, 103]⟩, .int .u64 (x : Int)] w.drew
      fun e w' => ∃ j, e = .returned (.tuple #[.pointer (some ⟨j, 0, none⟩), .int .i64 0]) ∧ w.heap.size ≤ j ∧ Hold Z w' (upd D n.d (st.start log x).2) (upd J j ⟨n.d, log, x, x⟩) ∧ Only (Off Z) w.drew w') := Lib.hid ((jstart_l h.drew hd (by omega) x hx).mono fun e w' hh => by
    rcases hh with ⟨_, j, he, hj, hh, ho⟩ | ⟨h2, _⟩
    · exact ⟨j, he, hj, hh, ho⟩
    · exact absurd h0 h2)
  have HZ : Hid (Z s) := Lib.hid hz
  have HNE : Hid (s ≠ p ∧ s ≠ q ∧ s ≠ r ∧ s ≠ A) := Lib.hid ne
  clear h hs hz hb hd h0
  generalize (st.start log x).2 = R at *
  go_enter Tryz.func63, Tryz.ntmps63
  go_wp2
  go_region_held3 (fun W => W.cell? ⟨p, 0, none⟩ = some (.pointer (some ⟨s, 0, none⟩)) ∧ W.cell? ⟨s, 2, none⟩ = some (.pointer (some ⟨n.d, 0, none⟩)) ∧ W.cell? ⟨r, 0, none⟩ = some (.int .u64 (x : Int))) (go_keep)
    (first
      | (go_at_call 62; ((with_reducible refine HS.out.mono ?_); rintro e w1 ⟨j, rfl, hj, hh1, ho1⟩; obtain ⟨d1, d2, d3, b1, e1⟩ := HKd.out w1 ho1)))
  have g0 := frozen_of_row w1 s 0 _ _ b1
  obtain ⟨k0, _, _, _, _⟩ := b1.cells
  have HBS := Lib.hid (heap_setCell b1 (j := 0) (.pointer (some ⟨j, 0, none⟩)))
  have HO1 : Hid (Only (Off Z) w w1) := Lib.hid (Off.tr (Only.of_below (Below.refl _ _).drew) ho1)
  have HO : Hid (Only (fun i => i = s) w1 (w1.setCell ⟨s, 0, none⟩ (.pointer (some ⟨j, 0, none⟩)))) := Lib.hid ((Only.refl (fun i => i = s) w1).setCell (fun _ => rfl) _)
  have HH := Lib.hid (hh1.box HO.out fun i hi => by subst hi; exact HZ.out)
  have HE := Lib.hid (e1.kept HO.out (Ne.symm HNE.out.1) (Ne.symm HNE.out.2.1) (Ne.symm HNE.out.2.2.1) (Ne.symm HNE.out.2.2.2))
  have HJ := Lib.hid hj
  clear hj hh1 ho1 d2 d3 b1 e1
  go_wp2
  go_ret
  exact ⟨rfl, j, HJ.out, HBS.out, HH.out, HE.out, ⟨HO.out.os.trans HO1.out.os, HO.out.tape.trans HO1.out.tape, HO.out.output.trans HO1.out.output, Nat.le_trans HO1.out.size HO.out.size, fun i hi hn => (HO.out.block i (Nat.lt_of_lt_of_le hi HO1.out.size) fun e => hn (.inr e)).trans (HO1.out.block i hi fun e => hn (.inl e))⟩⟩
end
end Go.Proofs.YtmaohncddjhgeaaGreat.gn
end
section
set_option linter.unusedVariables false
set_option linter.unusedSectionVars false
namespace Go.Proofs.YtmaohncddjhgeaaGreat.gn
open Go.RowKit
open Go.Proofs.YtmaohncddjhgeaaGreat.fi

set_option maxRecDepth 100000
set_option maxHeartbeats 4000000
theorem save_run (I : Nat → World → Prop) (A p q r s : Nat) (y : ByteArray) (w : World) (hi : w.cell? ⟨s, 1, none⟩ = some (.pointer (some ⟨s, 0, none⟩)))
    (hc : ∀ k wr, I k wr → wr.cell? ⟨A, 0, none⟩ = some (.func (.func 59) #[] #[.pointer (some ⟨p, 0, none⟩), .pointer (some ⟨q, 0, none⟩)]) ∧ wr.cell? ⟨A, 1, none⟩ = some (.func (.func 60) #[] #[.pointer (some ⟨r, 0, none⟩), .pointer (some ⟨q, 0, none⟩), .pointer (some ⟨p, 0, none⟩)]) ∧ wr.cell? ⟨A, 2, none⟩ = some (.func (.func 61) #[] #[.pointer (some ⟨p, 0, none⟩), .pointer (some ⟨r, 0, none⟩)]) ∧ wr.cell? ⟨A, 3, none⟩ = some (.func (.func 63) #[] #[.pointer (some ⟨p, 0, none⟩), .pointer (some ⟨r, 0, none⟩)]))
    (h0 : Calls Tryz.prog 31 #[.pointer (some ⟨s, 0, none⟩), .string y] w fun e w' => e = .returned (.slice (some ⟨A, 0, none⟩) 4 4) ∧ I 0 w')
    (s0 : ∀ wr, I 0 wr → Calls Tryz.prog 59 #[.pointer (some ⟨p, 0, none⟩), .pointer (some ⟨q, 0, none⟩)] wr fun e w' => e = .returned (.int .i64 0) ∧ I 1 w')
    (s1 : ∀ wr, I 1 wr → Calls Tryz.prog 60 #[.pointer (some ⟨r, 0, none⟩), .pointer (some ⟨q, 0, none⟩), .pointer (some ⟨p, 0, none⟩)] wr fun e w' => e = .returned (.int .i64 0) ∧ I 2 w')
    (s2 : ∀ wr, I 2 wr → Calls Tryz.prog 61 #[.pointer (some ⟨p, 0, none⟩), .pointer (some ⟨r, 0, none⟩)] wr fun e w' => e = .returned (.int .i64 0) ∧ I 3 w')
    (s3 : ∀ wr, I 3 wr → Calls Tryz.prog 63 #[.pointer (some ⟨p, 0, none⟩), .pointer (some ⟨r, 0, none⟩)] wr fun e w' => e = .returned (.int .i64 0) ∧ I 4 w') :
    Calls Tryz.prog 9 #[.pointer (some ⟨s, 0, none⟩), .string y] w fun e w' => e = .returned (.int .i64 0) ∧ I 4 w' := by
  have HC := Lib.hid hc
  have HI0 := Lib.hid (sis_any w s hi)
  have H0 := Lib.hid h0
  have S0 := Lib.hid s0
  have S1 := Lib.hid s1
  have S2 := Lib.hid s2
  have S3 := Lib.hid s3
  clear hc h0 hi s0 s1 s2 s3
  go_enter Tryz.func9, Tryz.ntmps9
  go_wp2_with (go_at_call 30; ((with_reducible refine HI0.out.mono ?_); rintro e w9 ⟨rfl, rfl⟩))
  refine H0.out.mono ?_
  rintro e w0 ⟨rfl, i0⟩
  have I0 := Lib.hid i0
  clear i0
  go_wp2
  go_loopw [15] (fun v15 wr => ∃ k : Nat, k ≤ 4 ∧ v15 = .int .i64 (k : Int) ∧ I k wr) (fun v15 _ => 4 - (intOf v15).toNat)
  case atStart => exact ⟨0, by omega, rfl, I0.out⟩
  case round =>
    obtain ⟨k, hk, rfl, hI⟩ := hrel
    obtain ⟨a0, a1, a2, a3⟩ := HC.out k _ hI
    have HI := Lib.hid hI
    clear hI
    obtain rfl | rfl | rfl | rfl | rfl : k = 0 ∨ k = 1 ∨ k = 2 ∨ k = 3 ∨ k = 4 := by omega
    · go_wp2_with fail
      refine (S0.out _ HI.out).mono ?_
      rintro e w1 ⟨rfl, h1⟩
      clear a0 a1 a2 a3
      have H1 := Lib.hid h1
      clear h1
      go_wp2
      go_roundw
      case rel => exact ⟨1, by omega, by go_num, H1.out⟩
      case measure => simp [intOf]
    · go_wp2_with fail
      refine (S1.out _ HI.out).mono ?_
      rintro e w1 ⟨rfl, h1⟩
      clear a0 a1 a2 a3
      have H1 := Lib.hid h1
      clear h1
      go_wp2
      go_roundw
      case rel => exact ⟨2, by omega, by go_num, H1.out⟩
      case measure => simp [intOf]
    · go_wp2_with fail
      refine (S2.out _ HI.out).mono ?_
      rintro e w1 ⟨rfl, h1⟩
      clear a0 a1 a2 a3
      have H1 := Lib.hid h1
      clear h1
      go_wp2
      go_roundw
      case rel => exact ⟨3, by omega, by go_num, H1.out⟩
      case measure => simp [intOf]
    · go_wp2_with fail
      refine (S3.out _ HI.out).mono ?_
      rintro e w1 ⟨rfl, h1⟩
      clear a0 a1 a2 a3
      have H1 := Lib.hid h1
      clear h1
      go_wp2
      go_roundw
      case rel => exact ⟨4, by omega, by go_num, H1.out⟩
      case measure => simp [intOf]
    · go_wp2
      go_ret
      exact ⟨rfl, HI.out⟩

/-- Between two steps of a Save. -/
def SvI (Z Z1 : Nat → Prop) (w : World) (D : Nat → Option FS) (J : Nat → Option Jn) (p q r A s : Nat) (t : List UInt8) (x : Nat) (n : Sf) (st2 st3 : FS) (k : Nat) (wr : World) : Prop :=
  SaB wr p q r A s t x ∧ Only (fun i => ¬ Z i ∨ i = s) w wr ∧
  match k with
  | 0 => BlkS wr s n ∧ Hold Z1 wr D J
  | 1 => BlkS wr s n ∧ Hold Z1 wr (upd D n.d st2) J
  | 2 => BlkS wr s ⟨n.j, n.d, x, t⟩ ∧ Hold Z1 wr (upd D n.d st2) J
  | 3 => BlkS wr s ⟨n.j, n.d, x, t⟩ ∧ Hold Z1 wr (upd D n.d st2) J
  | _ => ∃ j, w.heap.size ≤ j ∧ BlkS wr s ⟨j, n.d, x, t⟩ ∧ Hold Z1 wr (upd D n.d st3) (upd J j ⟨n.d, log, x, x⟩)
theorem only_two {Z Z1 : Nat → Prop} {s : Nat} {a b c : World} (h : Only (fun i => ¬ Z i ∨ i = s) a b) (k : Only (fun i => ¬ Z1 i ∨ i = s) b c) (hz : ∀ i, Z i → Z1 i) : Only (fun i => ¬ Z i ∨ i = s) a c :=
  h.trans k fun i _ hi => by
    rcases hi with hi | hi
    · exact .inl fun hn => hi (hz i hn)
    · exact .inr hi
theorem only_of_off {Z1 : Nat → Prop} {s : Nat} {b c : World} (k : Only (Off Z1) b c) : Only (fun i => ¬ Z1 i ∨ i = s) b c := k.mono fun i _ hi => .inl hi
theorem only_of_s {Z1 : Nat → Prop} {s : Nat} {b c : World} (k : Only (fun i => i = s) b c) : Only (fun i => ¬ Z1 i ∨ i = s) b c := k.mono fun i _ hi => .inr hi

/-- What a Save answers, and leaves, where nothing fails. -/
theorem save_any {Z : Nat → Prop} {w : World} {D : Nat → Option FS} {J : Nat → Option Jn} (h : Hold Z w D J) {s : Nat} {n : Sf} (hs : BlkS w s n) (hz : Z s) {jn : Jn} (hj : J n.j = some jn) (hjd : jn.d = n.d) (hjx : jn.next < 18446744073709551616)
    {st : FS} (hd : D n.d = some st) (hwt : st.wt ≤ 137438953472) (t : List UInt8) (ht : (Lib.uvarint jn.next ++ t).length ≤ 262144) (hq : (st.snap bN (frame (Lib.uvarint jn.next ++ t)) 5).1 = 0)
    {st2 st3 : FS} (h2 : st.sync.snap bN (frame (Lib.uvarint jn.next ++ t)) 5 = (0, st2)) (hw2 : st2.wt ≤ 137438953472) (h3 : st2.start log jn.next = (0, st3)) :
    Calls Tryz.prog 9 #[.pointer (some ⟨s, 0, none⟩), .string (str t)] w fun e w' => e = .returned (.int .i64 0) ∧ ∃ j, w.heap.size ≤ j ∧ BlkS w' s ⟨j, n.d, jn.next, t⟩ ∧
      Hold Z w' (upd D n.d st3) (upd J j ⟨n.d, log, jn.next, jn.next⟩) ∧ Only (fun i => ¬ Z i ∨ i = s) w w' := by
  have hsl := hs.lt
  have htl : t.length ≤ 1000000 := by rw [List.length_append] at ht; omega
  obtain ⟨Z1, hZ1⟩ : ∃ Z1 : Nat → Prop, Z1 = fun i => Z i ∨ (w.heap.size ≤ i ∧ i < w.heap.size + 4) := ⟨_, rfl⟩
  have zz : ∀ k, k < 4 → Z1 (w.heap.size + k) := fun k hk => by subst hZ1; exact .inr ⟨by omega, by omega⟩
  have zs : Z1 s := by subst hZ1; exact .inl hz
  have zle : ∀ i, Z i → Z1 i := fun i hi => by subst hZ1; exact .inl hi
  have hD2 : upd D n.d st2 n.d = some st2 := upd_same _ _ _
  refine (save_run (SvI Z Z1 w D J w.heap.size (w.heap.size + 1) (w.heap.size + 2) (w.heap.size + 3) s t jn.next n st2 st3) (w.heap.size + 3) w.heap.size (w.heap.size + 1) (w.heap.size + 2) s (str t) w hs.cells.2.1 (fun k wr hi => hi.1.cells) ?_ ?_ ?_ ?_ ?_).mono ?_
  · refine (saving_any h hs hj t).mono fun e w' hh => ?_
    obtain ⟨he, hb, hsz, hsa⟩ := hh
    refine ⟨he, hsa, Only.of_below hb, hs.below hb, (h.grow hb).less fun i hi => ?_⟩
    subst hZ1
    rcases hi with hi | hi
    · exact .inl hi
    · exact .inr ⟨hi.1, by omega⟩
  · rintro wr ⟨hb, ho, hk, hh⟩
    refine (sav1 hh hk zs hb hj hjd hjx hd hwt ht hq).mono fun e w' hw => ?_
    obtain ⟨he, h1, h4⟩ := hw
    rw [h2] at he h1
    exact ⟨he, hb.kept h4 (fun hn => hn (zz 0 (by omega))) (fun hn => hn (zz 1 (by omega))) (fun hn => hn (zz 2 (by omega))) (fun hn => hn (zz 3 (by omega))), only_two ho (only_of_off h4) zle, hk.off h4 zs, h1⟩
  · rintro wr ⟨hb, ho, hk, hh⟩
    refine (sav2 hh hk zs hb ⟨by omega, by omega, by omega⟩ htl).mono fun e w' hw => ?_
    obtain ⟨he, h1, h4⟩ := hw
    exact ⟨he, hb.kept h4 (by omega) (by omega) (by omega) (by omega), only_two ho (only_of_s h4) zle, h1, hh.box h4 fun i hi => by subst hi; exact zs⟩
  · rintro wr ⟨hb, ho, hk, hh⟩
    refine (sav3 hh hk zs hb (zz 0 (by omega)) (zz 2 (by omega)) ⟨st2, hD2, hw2, by rw [h3]⟩ hjx).mono fun e w' hw => ?_
    obtain ⟨he, h1, h4⟩ := hw
    exact ⟨he, hb.kept h4 (fun hn => hn (zz 0 (by omega))) (fun hn => hn (zz 1 (by omega))) (fun hn => hn (zz 2 (by omega))) (fun hn => hn (zz 3 (by omega))), only_two ho (only_of_off h4) zle, hk.off h4 zs, h1⟩
  · rintro wr ⟨hb, ho, hk, hh⟩
    have hsz := ho.size
    refine (sav4 hh hk zs hb (zz 0 (by omega)) (zz 1 (by omega)) (zz 2 (by omega)) (zz 3 (by omega)) ⟨by omega, by omega, by omega, by omega⟩ hD2 hw2 (by rw [h3]) hjx).mono fun e w' hw => ?_
    obtain ⟨he, j, hj', hk', hh', hb', ho'⟩ := hw
    rw [h3, upd_upd] at hh'
    exact ⟨he, hb', only_two ho ho' zle, j, Nat.le_trans hsz hj', hk', hh'⟩
  · rintro e w' ⟨he, _, ho, j, hj', hk', hh'⟩
    exact ⟨he, j, hj', hk', hh'.less zle, ho⟩
end Go.Proofs.YtmaohncddjhgeaaGreat.gn
end
