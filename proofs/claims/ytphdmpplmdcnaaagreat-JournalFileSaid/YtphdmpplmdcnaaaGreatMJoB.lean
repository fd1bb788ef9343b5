/- The contracts of is, object, check, removeIfThere, and of the steps of a Start. -/
import Derived.Test.YtphdmpplmdcnaaaGreatMJoA
import Derived.Test.YtphdmpplmdcnaaaGreatMGenClone
import Derived.RangeFuncBox
section
set_option linter.unusedVariables false
set_option linter.unusedSectionVars false
namespace Go.Proofs.YtphdmpplmdcnaaaGreat.fi
/-- The error of a journal's name. -/
def ck (n : Nm) : Int := if n = [] ∨ 32 < n.length + 1 then 2 else 0
/-- A file is removed if it is there. -/
def FS.remi (s : FS) (n : Nm) : Int × FS := (if (s.rem n).1 = 7 then 0 else (s.rem n).1, (s.rem n).2)
/-- One step after the other, until one fails. -/
def runs : List (FS → Int × FS) → FS → Int × FS
  | [], s => (0, s)
  | f :: r, s => if (f s).1 = 0 then runs r (f s).2 else f s
theorem make_empty (s : FS) : s.make [] = (2, s) := by simp [FS.make, FS.look, valid]
theorem make_wt (s : FS) (n : Nm) : (s.make n).2.wt ≤ s.wt + 1 := by
  unfold FS.make; split; · simp
  split; · simp
  split; · simp
  simp [FS.done_wt, FOp.wt]
theorem app_wt (s : FS) (n : Nm) (t : List UInt8) : (s.app n t).2.wt ≤ s.wt + (1 + t.length) := by
  unfold FS.app; split; · simp
  split; · simp
  simp [FS.done_wt, FOp.wt]
theorem rem_wt (s : FS) (n : Nm) : (s.rem n).2.wt ≤ s.wt + 1 := by
  unfold FS.rem; split; · simp
  simp [FS.done_wt, FOp.wt]
theorem ren_wt (s : FS) (n m : Nm) : (s.ren n m).2.wt ≤ s.wt + 1 := by
  unfold FS.ren; split; · simp
  split; · simp
  simp [FS.done_wt, FOp.wt]
theorem cut_wt (s : FS) (n : Nm) (k : Int) : (s.cut n k).2.wt ≤ s.wt + 1 := by
  unfold FS.cut; split; · simp
  split; · simp
  split; · simp
  simp [FS.done_wt, FOp.wt]
end Go.Proofs.YtphdmpplmdcnaaaGreat.fi

namespace Go.Proofs.YtphdmpplmdcnaaaGreat.gn
open Go.RowKit
open Go.Proofs.YtphdmpplmdcnaaaGreat.fi

theorem journalInfo : ∃ j, Tryz.prog.info? 59 = some j := by
  have h : (Tryz.prog.info? 59).isSome = true := by kernel_rfl
  exact Option.isSome_iff_exists.1 h
set_option maxRecDepth 100000 in
set_option maxHeartbeats 1000000 in
theorem jis_any (w : World) (j : Nat) (hc : w.cell? ⟨j, 1, none⟩ = some (.pointer (some ⟨j, 0, none⟩))) :
    Calls Tryz.prog 25 #[.pointer (some ⟨j, 0, none⟩)] w fun e w' => e = .returned (.bool true) ∧ w = w' := by
  obtain ⟨i, hj⟩ := journalInfo
  have heq := run_eql_ptr_same (P := Tryz.prog) w ⟨j, 0, none⟩ Tryz.underlying29 hj
  clear hj
  go_enter Tryz.func25, Tryz.ntmps25
  go_wp2
  go_ret
  exact ⟨rfl, rfl⟩

set_option maxRecDepth 100000 in
set_option maxHeartbeats 1000000 in
theorem jobject_any (w : World) (d : Nat) (n : Nm) (hn : n.length ≤ 281474976710656) (a b : Nat) {a' b' : Int} (ha : a' = (a : Int)) (hb : b' = (b : Int)) :
    Calls Tryz.prog 22 #[.agg #[.pointer (some ⟨d, 0, none⟩), .pointer none, .string (str n), .int .u64 a', .int .u64 b']] w fun e w' =>
      e = .returned (.pointer (some ⟨w.heap.size, 0, none⟩)) ∧ BlkJ w' w.heap.size ⟨d, n, a, b⟩ ∧ Below w.heap.size w w' := by
  subst ha hb
  have hss : (str n).size ≤ 281474976710656 := by rw [str_size]; exact hn
  obtain ⟨w1, hw1⟩ : ∃ w1, w.alloc (.cells #[.pointer (some ⟨d, 0, none⟩), .pointer none, .string (str n), .int .u64 (a : Int), .int .u64 (b : Int)] 59) = w1 := ⟨_, rfl⟩
  have hz : w1.heap.size = w.heap.size + 1 := by rw [← hw1]; simp
  have hb0 : Below w.heap.size w w1 := by rw [← hw1]; exact (Below.refl _ w).alloc (Nat.le_refl _) _
  have hk0 : w1.heap[w.heap.size]? = some (.cells #[.pointer (some ⟨d, 0, none⟩), .pointer none, .string (str n), .int .u64 (a : Int), .int .u64 (b : Int)] 59 (0, 0)) := by rw [← hw1]; exact heap_alloc_new w _
  have hk1 := heap_setCell hk0 (j := 1) (.pointer (some ⟨w.heap.size, 0, none⟩))
  have hc2 : (w1.setCell ⟨w.heap.size, 1, none⟩ (.pointer (some ⟨w.heap.size, 0, none⟩))).cell? ⟨w.heap.size, 2, none⟩ = some (.string (str n)) := by rw [cell_of_row _ _ 2 _ _ _ hk1]; rfl
  have hf1 := frozen_of_row w1 w.heap.size 1 _ _ hk0
  have hd1 : w1.cell? ⟨w.heap.size, 1, none⟩ = some (.pointer none) := by rw [cell_of_row _ _ 1 _ _ _ hk0]; rfl
  have hb1 : Below w.heap.size w (w1.setCell ⟨w.heap.size, 1, none⟩ (.pointer (some ⟨w.heap.size, 0, none⟩))) := hb0.setCell (Nat.le_refl _) _
  have HK := Lib.hid hk1
  have HB := Lib.hid hb1
  have hz2 : (w1.setCell ⟨w.heap.size, 1, none⟩ (.pointer (some ⟨w.heap.size, 0, none⟩))).heap.size = w.heap.size + 1 := by rw [← hz]; simp [World.setCell]
  have HZ := Lib.hid hz2
  clear hb0 hk0 hk1 hb1 hz2
  go_enter Tryz.func22, Tryz.ntmps22
  go_wp2_with fail
  refine (clone_any (str n) _ (by omega)).mono ?_
  rintro e w2 ⟨rfl, hb2⟩
  have hk2 := (hb2.block w.heap.size (by rw [HZ.out]; omega)).trans HK.out
  have hf2 := frozen_of_row w2 w.heap.size 2 _ _ hk2
  have hd2 : w2.cell? ⟨w.heap.size, 2, none⟩ = some (.string (str n)) := by rw [cell_of_row _ _ 2 _ _ _ hk2]; rfl
  have HK2 := Lib.hid (heap_setCell hk2 (j := 2) (.string (str n)))
  have HB2 := Lib.hid (HB.out.trans (hb2.mono (by rw [HZ.out]; omega)))
  clear hb2 hk2 hc2 hf1 hd1
  go_wp2
  go_ret
  exact ⟨rfl, HK2.out, HB2.out.setCell (Nat.le_refl _) _⟩

set_option maxRecDepth 100000 in
set_option maxHeartbeats 2000000 in
theorem jcheck_any {Z : Nat → Prop} {w : World} {D : Nat → Option FS} {J : Nat → Option Jn} (h : Hold Z w D J) {d : Nat} {s : FS} (hd : D d = some s) (hwt : s.wt ≤ 549755813888) (n : Nm) (hn : n.length ≤ 281474976710656) :
    Calls Tryz.prog 34 #[.pointer (some ⟨d, 0, none⟩), .string (str n)] w (Went Z D J (.int .i64 (ck n)) w) := by
  have hm := make_h h hd hwt [] (by decide)
  rw [make_empty, upd_self hd] at hm
  have HM : Calls Tryz.prog 49 #[.pointer (some ⟨d, 0, none⟩), .string ⟨#[]⟩] w (Went Z D J (.int .i64 2) w) := hm
  clear hm h hd
  have hss : (str n).size = n.length := str_size n
  by_cases h0 : n = []
  · have hk : ck n = 2 := if_pos (.inl h0)
    have he : (str n).toList.isEmpty = true := by rw [str_toList, h0]; rfl
    rw [hk]
    clear h0 hk
    generalize str n = b at *
    go_enter Tryz.func34, Tryz.ntmps34
    go_wp2_with (go_at_call 49; ((with_reducible refine HM.mono ?_); rintro e w1 ⟨rfl, hh, ho⟩))
    go_ret
    exact ⟨rfl, hh, ho⟩
  · have he : (str n).toList.isEmpty = false := by
      rw [str_toList]
      cases n with
      | nil => exact absurd rfl h0
      | cons c r => rfl
    by_cases h1 : 32 < n.length + 1
    · have hk : ck n = 2 := if_pos (.inr h1)
      rw [hk]
      clear h0 hk
      generalize str n = b at *
      go_enter Tryz.func34, Tryz.ntmps34
      go_wp2_with (go_at_call 49; ((with_reducible refine HM.mono ?_); rintro e w1 ⟨rfl, hh, ho⟩))
      go_ret
      exact ⟨rfl, hh, ho⟩
    · have hk : ck n = 0 := if_neg fun h => h.elim h0 h1
      rw [hk]
      clear h0 hk
      generalize str n = b at *
      go_enter Tryz.func34, Tryz.ntmps34
      go_wp2_with (go_at_call 49; ((with_reducible refine HM.mono ?_); rintro e w1 ⟨rfl, hh, ho⟩))
      go_ret
      exact ⟨rfl, hh, ho⟩

set_option maxRecDepth 100000 in
set_option maxHeartbeats 2000000 in
theorem remi_any {Z : Nat → Prop} {w : World} {D : Nat → Option FS} {J : Nat → Option Jn} (h : Hold Z w D J) {d : Nat} {s : FS} (hd : D d = some s) (hwt : s.wt ≤ 549755813888) (n : Nm) (hn : n.length ≤ 281474976710656) :
    Calls Tryz.prog 47 #[.pointer (some ⟨d, 0, none⟩), .string (str n)] w (Went Z (upd D d (s.remi n).2) J (.int .i64 (s.remi n).1) w) := by
  have HM := remove_h h hd hwt n hn
  clear h hd
  show Calls _ _ _ _ (Went Z (upd D d (s.rem n).2) J (.int .i64 (if (s.rem n).1 = 7 then 0 else (s.rem n).1)) w)
  generalize (s.rem n).1 = q at *
  generalize (s.rem n).2 = s' at *
  by_cases hq : q = 7
  · rw [if_pos hq]
    subst hq
    go_enter Tryz.func47, Tryz.ntmps47
    go_wp2_with (go_at_call 80; ((with_reducible refine HM.mono ?_); rintro e w1 ⟨rfl, hh, ho⟩))
    go_ret
    exact ⟨rfl, hh, ho⟩
  · rw [if_neg hq]
    have hq2 : (q != 7) = true := by simp [hq]
    go_enter Tryz.func47, Tryz.ntmps47
    go_wp2_with (go_at_call 80; ((with_reducible refine HM.mono ?_); rintro e w1 ⟨rfl, hh, ho⟩))
    go_ret
    exact ⟨rfl, hh, ho⟩

/-- The boxes that a Start's steps share. -/
structure Bxs (w : World) (p q r d : Nat) (n : Nm) (t : List UInt8) : Prop where
  p : Boxed w p 27 (.pointer (some ⟨d, 0, none⟩))
  q : Boxed w q 9 (.string (str n))
  r : Boxed w r 9 (.string (str t))
theorem Bxs.kept {w w' : World} {p q r d : Nat} {n : Nm} {t : List UInt8} (h : Bxs w p q r d n t) {S : Nat → Prop} (ho : Only S w w') (h1 : ¬ S p) (h2 : ¬ S q) (h3 : ¬ S r) : Bxs w' p q r d n t :=
  ⟨(ho.block p h.p.lt h1).trans h.p, (ho.block q h.q.lt h2).trans h.q, (ho.block r h.r.lt h3).trans h.r⟩

set_option maxRecDepth 100000
set_option maxHeartbeats 1000000
section
variable {Z : Nat → Prop} {w : World} {D : Nat → Option FS} {J : Nat → Option Jn} (h : Hold Z w D J) {d : Nat} {s : FS} (hd : D d = some s) (hwt : s.wt ≤ 549755813888) {p q r : Nat} {n : Nm} {t : List UInt8} (hb : Bxs w p q r d n t) (hn : n.length ≤ 1000000)
include h hd hwt hb hn
theorem sta1 : Calls Tryz.prog 45 #[.pointer (some ⟨p, 0, none⟩), .pointer (some ⟨q, 0, none⟩)] w (Went Z (upd D d s) J (.int .i64 (ck n)) w) := by
  have HM := jcheck_any h hd hwt n (by omega)
  have c1 := hb.p.cell
  have c2 := hb.q.cell
  rw [upd_self hd]
  clear h hd hb
  go_enter Tryz.func45, Tryz.ntmps45
  go_wp2_with (go_at_call 34; ((with_reducible refine HM.mono ?_); rintro e w1 ⟨rfl, hh, ho⟩))
  go_ret
  exact ⟨rfl, hh, ho⟩
theorem sta2 : Calls Tryz.prog 46 #[.pointer (some ⟨p, 0, none⟩), .pointer (some ⟨q, 0, none⟩)] w (Went Z (upd D d (s.remi (n ++ [126])).2) J (.int .i64 (s.remi (n ++ [126])).1) w) := by
  have HM := remi_any h hd hwt (n ++ [126]) (by simp; omega)
  have hcat : str n ++ (⟨#[126]⟩ : ByteArray) = str (n ++ [126]) := str_app n [126]
  have hss : (str n).size ≤ 1000000 := by rw [str_size]; exact hn
  have c1 := hb.p.cell
  have c2 := hb.q.cell
  clear h hd hb
  rw [← hcat] at HM
  generalize (s.remi (n ++ [126])).1 = q at *
  generalize (s.remi (n ++ [126])).2 = s' at *
  clear hcat
  generalize str n = b at *
  go_enter Tryz.func46, Tryz.ntmps46
  go_wp2_with (go_at_call 47; ((with_reducible refine HM.mono ?_); rintro e w1 ⟨rfl, hh, ho⟩))
  go_ret
  exact ⟨rfl, hh, ho⟩
theorem sta3 : Calls Tryz.prog 48 #[.pointer (some ⟨p, 0, none⟩), .pointer (some ⟨q, 0, none⟩)] w (Went Z (upd D d (s.make (n ++ [126])).2) J (.int .i64 (s.make (n ++ [126])).1) w) := by
  have HM := make_h h hd hwt (n ++ [126]) (by simp; omega)
  have hcat : str n ++ (⟨#[126]⟩ : ByteArray) = str (n ++ [126]) := str_app n [126]
  have hss : (str n).size ≤ 1000000 := by rw [str_size]; exact hn
  have c1 := hb.p.cell
  have c2 := hb.q.cell
  clear h hd hb
  rw [← hcat] at HM
  generalize (s.make (n ++ [126])).1 = q at *
  generalize (s.make (n ++ [126])).2 = s' at *
  clear hcat
  generalize str n = b at *
  go_enter Tryz.func48, Tryz.ntmps48
  go_wp2_with (go_at_call 49; ((with_reducible refine HM.mono ?_); rintro e w1 ⟨rfl, hh, ho⟩))
  go_ret
  exact ⟨rfl, hh, ho⟩
theorem sta4 (ht : t.length ≤ 1000000) : Calls Tryz.prog 50 #[.pointer (some ⟨p, 0, none⟩), .pointer (some ⟨q, 0, none⟩), .pointer (some ⟨r, 0, none⟩)] w (Went Z (upd D d (s.app (n ++ [126]) t).2) J (.int .i64 (s.app (n ++ [126]) t).1) w) := by
  have HM := append_h h hd hwt (n ++ [126]) (by simp; omega) t (by omega)
  have hcat : str n ++ (⟨#[126]⟩ : ByteArray) = str (n ++ [126]) := str_app n [126]
  have hss : (str n).size ≤ 1000000 := by rw [str_size]; exact hn
  have c1 := hb.p.cell
  have c2 := hb.q.cell
  have c3 := hb.r.cell
  clear h hd hb
  rw [← hcat] at HM
  generalize (s.app (n ++ [126]) t).1 = q at *
  generalize (s.app (n ++ [126]) t).2 = s' at *
  clear hcat
  generalize str n = b at *
  go_enter Tryz.func50, Tryz.ntmps50
  go_wp2_with (go_at_call 29; ((with_reducible refine HM.mono ?_); rintro e w1 ⟨rfl, hh, ho⟩))
  go_ret
  exact ⟨rfl, hh, ho⟩
theorem sta5 : Calls Tryz.prog 51 #[.pointer (some ⟨p, 0, none⟩)] w (Went Z (upd D d s.sync) J (.int .i64 0) w) := by
  have HM := sync_h h hd hwt
  have c1 := hb.p.cell
  clear h hd hb
  go_enter Tryz.func51, Tryz.ntmps51
  go_wp2_with (go_at_call 43; ((with_reducible refine HM.mono ?_); rintro e w1 ⟨rfl, hh, ho⟩))
  go_ret
  exact ⟨rfl, hh, ho⟩
theorem sta6 : Calls Tryz.prog 52 #[.pointer (some ⟨p, 0, none⟩), .pointer (some ⟨q, 0, none⟩)] w (Went Z (upd D d (s.ren (n ++ [126]) n).2) J (.int .i64 (s.ren (n ++ [126]) n).1) w) := by
  have HM := rename_h h hd hwt (n ++ [126]) (by simp; omega) n (by omega)
  have hcat : str n ++ (⟨#[126]⟩ : ByteArray) = str (n ++ [126]) := str_app n [126]
  have hss : (str n).size ≤ 1000000 := by rw [str_size]; exact hn
  have c1 := hb.p.cell
  have c2 := hb.q.cell
  clear h hd hb
  rw [← hcat] at HM
  generalize (s.ren (n ++ [126]) n).1 = q at *
  generalize (s.ren (n ++ [126]) n).2 = s' at *
  clear hcat
  generalize str n = b at *
  go_enter Tryz.func52, Tryz.ntmps52
  go_wp2_with (go_at_call 53; ((with_reducible refine HM.mono ?_); rintro e w1 ⟨rfl, hh, ho⟩))
  go_ret
  exact ⟨rfl, hh, ho⟩
theorem sta7 : Calls Tryz.prog 54 #[.pointer (some ⟨p, 0, none⟩)] w (Went Z (upd D d s.sync) J (.int .i64 0) w) := by
  have HM := sync_h h hd hwt
  have c1 := hb.p.cell
  clear h hd hb
  go_enter Tryz.func54, Tryz.ntmps54
  go_wp2_with (go_at_call 43; ((with_reducible refine HM.mono ?_); rintro e w1 ⟨rfl, hh, ho⟩))
  go_ret
  exact ⟨rfl, hh, ho⟩
end
end Go.Proofs.YtphdmpplmdcnaaaGreat.gn
end
