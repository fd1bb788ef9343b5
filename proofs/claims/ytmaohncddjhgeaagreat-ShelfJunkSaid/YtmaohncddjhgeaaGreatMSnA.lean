/- What snap does to a directory, plain; the contracts of check, write, rehearsed and of a Put's steps. -/
import Derived.Test.YtmaohncddjhgeaaGreatMRunA
import Derived.Test.YtmaohncddjhgeaaGreatMSealO
section
set_option linter.unusedVariables false
set_option linter.unusedSectionVars false
namespace Go.Proofs.YtmaohncddjhgeaaGreat.fi
/-- The error of a snapshot's name. -/
def sck (n : Nm) : Int := if n = [] ∨ 32 < n.length + 1 then 2 else 0
/-- A file of these bytes, in place of one that is there. -/
def FS.write (s : FS) (n : Nm) (b : List UInt8) : Int × FS :=
  if (s.rem n).1 ≠ 0 ∧ (s.rem n).1 ≠ 7 then s.rem n
  else if ((s.rem n).2.make n).1 ≠ 0 then (s.rem n).2.make n
  else ((s.rem n).2.make n).2.app n b
/-- .. if that does not fail. -/
def FS.puts (s : FS) (n : Nm) (b : List UInt8) : Int × FS := if (s.write n b).1 ≠ 0 then ((s.write n b).1, s) else s.write n b
theorem write_wt (s : FS) (n : Nm) (b : List UInt8) : (s.write n b).2.wt ≤ s.wt + (3 + b.length) := by
  have h1 := rem_wt s n
  have h2 := make_wt (s.rem n).2 n
  have h3 := app_wt ((s.rem n).2.make n).2 n b
  unfold FS.write
  split
  · omega
  · split <;> omega
theorem puts_wt (s : FS) (n : Nm) (b : List UInt8) : (s.puts n b).2.wt ≤ s.wt + (3 + b.length) := by
  have h1 := write_wt s n b
  unfold FS.puts
  split
  · show s.wt ≤ _; omega
  · exact h1
/-- The steps of a Put of a frame. -/
def snapL (n : Nm) (b : List UInt8) : List (FS → Int × FS) :=
  [fun s => s.puts (n ++ [126]) b, fun s => (0, s.sync), fun s => s.ren (n ++ [126]) n, fun s => (0, s.sync), fun s => (0, s)]
/-- What the first steps of a Put leave. -/
def FS.snap (s : FS) (n : Nm) (b : List UInt8) (k : Nat) : Int × FS := runs ((snapL n b).take k) s
theorem sck_valid {n : Nm} : sck n = 0 ↔ n ≠ [] ∧ valid (n ++ [126]) = true := by
  unfold sck valid
  constructor
  · intro h
    split at h
    · cases h
    · rename_i hh
      exact ⟨fun e => hh (.inl e), by simp; omega⟩
  · rintro ⟨h1, h2⟩
    simp at h2
    rw [if_neg]
    rintro (h | h)
    · exact h1 h
    · omega
theorem sck_not {n : Nm} (h : n ≠ []) (h2 : 32 < n.length + 1) : valid (n ++ [126]) = false := by
  unfold valid
  simp
  omega
end Go.Proofs.YtmaohncddjhgeaaGreat.fi

namespace Go.Proofs.YtmaohncddjhgeaaGreat.gn
open Go.RowKit
open Go.Proofs.YtmaohncddjhgeaaGreat.fi

/-- Fewer directories. -/
theorem Hold.sub {Z : Nat → Prop} {w : World} {D D' : Nat → Option FS} {J : Nat → Option Jn} (h : Hold Z w D J) (hs : ∀ d s, D' d = some s → D d = some s) : Hold Z w D' J := by
  obtain ⟨X, h1, h2, h3, h4⟩ := h.is
  exact ⟨⟨X, h1.sub hs, h2, h3, h4⟩, h.z, h.j⟩
theorem Off.tr {Z : Nat → Prop} {a b c : World} (h1 : Only (Off Z) a b) (h2 : Only (Off Z) b c) : Only (Off Z) a c := h1.trans h2 fun _ _ h => h

set_option maxRecDepth 100000
set_option maxHeartbeats 1000000

theorem scheck_any {Z : Nat → Prop} {w : World} {D : Nat → Option FS} {J : Nat → Option Jn} (h : Hold Z w D J) {d : Nat} {s : FS} (hd : D d = some s) (n : Nm) (hn : n.length ≤ 1000000) :
    Calls Tryz.prog 77 #[.pointer (some ⟨d, 0, none⟩), .string (str n)] w (Asks (.int .i64 (sck n)) w) := by
  by_cases h0 : n = []
  · subst h0
    have HR := Lib.hid (read_h h hd [])
    have e1 : s.look [] = 2 := by simp [FS.look, valid]
    have e2 : (str ([] : Nm)) = (⟨#[]⟩ : ByteArray) := rfl
    rw [e1] at HR
    rw [e2] at HR ⊢
    clear h hd
    generalize str (s.bytes []) = y at *
    show Calls _ _ _ _ (Asks (.int .i64 2) w)
    go_enter Tryz.func77, Tryz.ntmps77
    go_wp2_with (go_at_call 14; ((with_reducible refine HR.out.mono ?_); rintro e w1 ⟨rfl, hb⟩))
    go_ret
    exact ⟨rfl, hb⟩
  · have HR := Lib.hid (read_h h hd (n ++ [126]))
    have hcat : str n ++ (⟨#[126]⟩ : ByteArray) = str (n ++ [126]) := str_app n [126]
    have hss : (str n).size ≤ 1000000 := by rw [str_size]; exact hn
    have he : (str n).toList.isEmpty = false := by
      rw [str_toList]
      cases n with
      | nil => exact absurd rfl h0
      | cons c r => rfl
    rw [← hcat] at HR
    generalize hq : s.look (n ++ [126]) = q at HR
    have hk : (q = 0 ∧ sck n = 0) ∨ (q = 7 ∧ sck n = 0) ∨ (q = 2 ∧ sck n = 2) := by
      by_cases h1 : 32 < n.length + 1
      · refine .inr (.inr ⟨?_, if_pos (.inr h1)⟩)
        rw [← hq, FS.look, sck_not h0 h1]; rfl
      · have h2 : sck n = 0 := if_neg fun hh => hh.elim h0 h1
        have h3 := (sck_valid.1 h2).2
        rcases look_cases s (n ++ [126]) with hh | hh | hh
        · exact .inl ⟨by rw [← hq]; exact hh, h2⟩
        · exfalso
          rw [FS.look, if_pos h3] at hh
          split at hh <;> cases hh
        · exact .inr (.inl ⟨by rw [← hq]; exact hh, h2⟩)
    clear h hd h0 hcat hq
    generalize str (s.bytes (n ++ [126])) = y at *
    generalize str n = b at *
    rcases hk with ⟨rfl, hk⟩ | ⟨rfl, hk⟩ | ⟨rfl, hk⟩
    all_goals rw [hk]
    all_goals clear hk
    all_goals go_enter Tryz.func77, Tryz.ntmps77
    all_goals go_wp2_with (go_at_call 14; ((with_reducible refine HR.out.mono ?_); rintro e w1 ⟨rfl, hb⟩))
    all_goals go_ret
    all_goals exact ⟨rfl, hb⟩

theorem write_any {Z : Nat → Prop} {w : World} {D : Nat → Option FS} {J : Nat → Option Jn} (h : Hold Z w D J) {d : Nat} {s : FS} (hd : D d = some s) (hwt : s.wt ≤ 274877906944) (n : Nm) (hn : n.length ≤ 1000000) (t : List UInt8) (ht : t.length ≤ 1000000) :
    Calls Tryz.prog 97 #[.pointer (some ⟨d, 0, none⟩), .string (str n), .string (str t)] w (Went Z (upd D d (s.write n t).2) J (.int .i64 (s.write n t).1) w) := by
  have HR := Lib.hid (remove_h h hd (by omega) n (by omega))
  have w1 := rem_wt s n
  have w2 := make_wt (s.rem n).2 n
  have HM : Hid (∀ w', Hold Z w' (upd D d (s.rem n).2) J → Calls Tryz.prog 18 #[.pointer (some ⟨d, 0, none⟩), .string (str n)] w' (Went Z (upd D d ((s.rem n).2.make n).2) J (.int .i64 ((s.rem n).2.make n).1) w')) := Lib.hid fun w' h' => by
    have := make_h h' (upd_same _ _ _) (by omega) n (by omega)
    rw [upd_upd] at this; exact this
  have HA : Hid (∀ w', Hold Z w' (upd D d ((s.rem n).2.make n).2) J → Calls Tryz.prog 19 #[.pointer (some ⟨d, 0, none⟩), .string (str n), .string (str t)] w' (Went Z (upd D d (((s.rem n).2.make n).2.app n t).2) J (.int .i64 (((s.rem n).2.make n).2.app n t).1) w')) := Lib.hid fun w' h' => by
    have := append_h h' (upd_same _ _ _) (by omega) n (by omega) t (by omega)
    rw [upd_upd] at this; exact this
  clear h hd hwt w1 w2 hn ht
  unfold FS.write
  generalize ((s.rem n).2.make n).2.app n t = r3 at *
  generalize (s.rem n).2.make n = r2 at *
  generalize s.rem n = r1 at *
  generalize str n = x at *
  generalize str t = y at *
  obtain ⟨q1, s1⟩ := r1
  obtain ⟨q2, s2⟩ := r2
  obtain ⟨q3, s3⟩ := r3
  simp only at *
  by_cases h1 : q1 ≠ 0 ∧ q1 ≠ 7
  · rw [if_pos h1]
    have t1 : (q1 != 0) = true := bne_of h1.1
    have t2 : (q1 != 7) = true := by simp [h1.2]
    clear h1 HM HA
    go_enter Tryz.func97, Tryz.ntmps97
    go_wp2_with (go_at_call 126; ((with_reducible refine HR.out.mono ?_); rintro e w1 ⟨rfl, hh, ho⟩))
    go_ret
    exact ⟨rfl, hh, ho⟩
  · rw [if_neg h1]
    have h1' : q1 = 0 ∨ q1 = 7 := by omega
    clear h1
    by_cases h2 : q2 ≠ 0
    · rw [if_pos h2]
      have t1 : (q2 != 0) = true := bne_of h2
      clear h2 HA
      rcases h1' with rfl | rfl
      all_goals
        go_enter Tryz.func97, Tryz.ntmps97
        go_wp2_with fail
        refine HR.out.mono ?_
        rintro e w1 ⟨rfl, hh, ho⟩
        have HO := Lib.hid ho
        have HH := Lib.hid (HM.out w1 hh)
        clear hh ho
        go_wp2_with fail
        refine HH.out.mono ?_
        rintro e w2 ⟨rfl, hh, ho⟩
        have HO2 := Lib.hid (Off.tr HO.out ho)
        clear ho
        go_wp2
        go_ret
        exact ⟨rfl, hh, HO2.out⟩
    · rw [if_neg h2]
      have h2' : q2 = 0 := by omega
      subst h2'
      clear h2
      rcases h1' with rfl | rfl
      all_goals
        go_enter Tryz.func97, Tryz.ntmps97
        go_wp2_with fail
        refine HR.out.mono ?_
        rintro e w1 ⟨rfl, hh, ho⟩
        have HO := Lib.hid ho
        have HH := Lib.hid (HM.out w1 hh)
        clear hh ho
        go_wp2_with fail
        refine HH.out.mono ?_
        rintro e w2 ⟨rfl, hh, ho⟩
        have HO2 := Lib.hid (Off.tr HO.out ho)
        have HH2 := Lib.hid (HA.out w2 hh)
        clear ho hh
        go_wp2_with fail
        refine HH2.out.mono ?_
        rintro e w3 ⟨rfl, hh, ho⟩
        have HO3 := Lib.hid (Off.tr HO2.out ho)
        clear ho
        go_wp2
        go_ret
        exact ⟨rfl, hh, HO3.out⟩

section
variable {Z : Nat → Prop} {w : World} {D : Nat → Option FS} {J : Nat → Option Jn} (h : Hold Z w D J) {d : Nat} {s : FS} (hd : D d = some s) (hwt : s.wt ≤ 274877906944) {q r : Nat} {n : Nm} {t : List UInt8} (hn : n.length ≤ 100000) (ht : t.length ≤ 1000000)
include h hd hwt hn ht
theorem put11_any (hq : Boxed w q 9 (.string (str n))) (hr : Boxed w r 9 (.string (str t))) :
    Calls Tryz.prog 96 #[.pointer (some ⟨d, 0, none⟩), .pointer (some ⟨q, 0, none⟩), .pointer (some ⟨r, 0, none⟩)] w (Went Z (upd D d (s.write (n ++ [126]) t).2) J (.int .i64 (s.write (n ++ [126]) t).1) w) := by
  have HM := write_any h hd hwt (n ++ [126]) (by simp; omega) t ht
  have hcat : str n ++ (⟨#[126]⟩ : ByteArray) = str (n ++ [126]) := str_app n [126]
  have hss : (str n).size ≤ 1000000 := by rw [str_size]; omega
  have c1 := hq.cell
  have c2 := hr.cell
  clear h hd hq hr
  rw [← hcat] at HM
  generalize (s.write (n ++ [126]) t).1 = q at *
  generalize (s.write (n ++ [126]) t).2 = s' at *
  clear hcat
  generalize str n = b at *
  go_enter Tryz.func96, Tryz.ntmps96
  go_wp2_with (go_at_call 97; ((with_reducible refine HM.mono ?_); rintro e w1 ⟨rfl, hh, ho⟩))
  go_ret
  exact ⟨rfl, hh, ho⟩

theorem rehearsed_any (hq : Boxed w q 9 (.string (str n))) (hr : Boxed w r 9 (.string (str t))) (zq : Z q) (zr : Z r) :
    Calls Tryz.prog 95 #[.pointer (some ⟨d, 0, none⟩), .func (.func 96) #[] #[.pointer (some ⟨q, 0, none⟩), .pointer (some ⟨r, 0, none⟩)]] w (Went Z (upd D d (s.puts (n ++ [126]) t).2) J (.int .i64 (s.puts (n ++ [126]) t).1) w) := by
  have HC := Lib.hid (copy_h h hd (by omega))
  have H1 : Hid (∀ w' d', Hold Z w' (upd D d' s) J → Below w.heap.size w w' → Calls Tryz.prog 96 #[.pointer (some ⟨d', 0, none⟩), .pointer (some ⟨q, 0, none⟩), .pointer (some ⟨r, 0, none⟩)] w' (Went Z (upd D d' (s.write (n ++ [126]) t).2) J (.int .i64 (s.write (n ++ [126]) t).1) w')) := Lib.hid fun w' d' h' hb => by
    have := put11_any h' (upd_same _ _ _) hwt hn ht ((hb.block q hq.lt).trans hq) ((hb.block r hr.lt).trans hr)
    rw [upd_upd] at this
    exact this
  have H2 : Hid (∀ w', Hold Z w' D J → Only (Off Z) w w' → Calls Tryz.prog 96 #[.pointer (some ⟨d, 0, none⟩), .pointer (some ⟨q, 0, none⟩), .pointer (some ⟨r, 0, none⟩)] w' (Went Z (upd D d (s.write (n ++ [126]) t).2) J (.int .i64 (s.write (n ++ [126]) t).1) w')) := Lib.hid fun w' h' ho =>
    put11_any h' hd hwt hn ht (ho.off hq zq) (ho.off hr zr)
  have HD : Hid (∀ w' d' s', w.heap.size ≤ d' → Hold Z w' (upd D d' s') J → Hold Z w' D J) := Lib.hid fun w' d' s' hl h' => h'.sub fun d2 s2 h2 => by
    have := h.lt h2
    rw [upd_other _ _ (by omega)]; exact h2
  have HS : Hid (upd D d s = D) := Lib.hid (upd_self hd)
  clear h hd hq hr zq zr
  unfold FS.puts
  generalize s.write (n ++ [126]) t = r1 at *
  obtain ⟨q1, s1⟩ := r1
  simp only at *
  by_cases h1 : q1 ≠ 0
  · rw [if_pos h1]
    have t1 : (q1 != 0) = true := bne_of h1
    clear h1 H2
    go_enter Tryz.func95, Tryz.ntmps95
    go_wp2_with fail
    refine HC.out.mono ?_
    rintro e w1 ⟨d', rfl, hl, hh, hb⟩
    have HH := Lib.hid (H1.out w1 d' hh hb)
    have HB := Lib.hid (Only.of_below (S := Off Z) hb)
    have HL := Lib.hid hl
    clear hb hh hl
    go_wp2_with fail
    refine HH.out.mono ?_
    rintro e w2 ⟨rfl, hh, ho⟩
    have HO := Lib.hid (Off.tr HB.out ho)
    have HE := Lib.hid (HD.out _ _ _ HL.out hh)
    clear hh ho
    go_wp2
    go_ret
    exact ⟨rfl, by rw [HS.out]; exact HE.out, HO.out⟩
  · rw [if_neg h1]
    have t1 : q1 = 0 := by omega
    subst t1
    clear h1
    go_enter Tryz.func95, Tryz.ntmps95
    go_wp2_with fail
    refine HC.out.mono ?_
    rintro e w1 ⟨d', rfl, hl, hh, hb⟩
    have HH := Lib.hid (H1.out w1 d' hh hb)
    have HB := Lib.hid (Only.of_below (S := Off Z) hb)
    have HL := Lib.hid hl
    clear hb hh hl
    go_wp2_with fail
    refine HH.out.mono ?_
    rintro e w2 ⟨rfl, hh, ho⟩
    have HO := Lib.hid (Off.tr HB.out ho)
    have HE := Lib.hid (HD.out _ _ _ HL.out hh)
    clear hh ho
    have HH2 := Lib.hid (H2.out w2 HE.out HO.out)
    go_wp2_with fail
    refine HH2.out.mono ?_
    rintro e w3 ⟨rfl, hh, ho⟩
    have HO3 := Lib.hid (Off.tr HO.out ho)
    clear ho
    go_wp2
    go_ret
    exact ⟨rfl, hh, HO3.out⟩

variable {p : Nat} (hb : Bxs w p q r d n t)
include hb
theorem sn1 (zq : Z q) (zr : Z r) : Calls Tryz.prog 94 #[.pointer (some ⟨p, 0, none⟩), .pointer (some ⟨q, 0, none⟩), .pointer (some ⟨r, 0, none⟩)] w (Went Z (upd D d (s.puts (n ++ [126]) t).2) J (.int .i64 (s.puts (n ++ [126]) t).1) w) := by
  have HM := rehearsed_any h hd hwt hn ht hb.q hb.r zq zr
  have c1 := hb.p.cell
  clear h hd hb
  generalize s.puts (n ++ [126]) t = r1 at *
  go_enter Tryz.func94, Tryz.ntmps94
  go_wp2_with (go_at_call 95; ((with_reducible refine HM.mono ?_); rintro e w1 ⟨rfl, hh, ho⟩))
  go_ret
  exact ⟨rfl, hh, ho⟩
theorem sn2 : Calls Tryz.prog 98 #[.pointer (some ⟨p, 0, none⟩)] w (Went Z (upd D d s.sync) J (.int .i64 0) w) := by
  have HM := sync_h h hd (by omega)
  have c1 := hb.p.cell
  clear h hd hb
  generalize s.sync = s' at *
  go_enter Tryz.func98, Tryz.ntmps98
  go_wp2_with (go_at_call 20; ((with_reducible refine HM.mono ?_); rintro e w1 ⟨rfl, hh, ho⟩))
  go_ret
  exact ⟨rfl, hh, ho⟩
theorem sn3 : Calls Tryz.prog 99 #[.pointer (some ⟨p, 0, none⟩), .pointer (some ⟨q, 0, none⟩)] w (Went Z (upd D d (s.ren (n ++ [126]) n).2) J (.int .i64 (s.ren (n ++ [126]) n).1) w) := by
  have HM := rename_h h hd (by omega) (n ++ [126]) (by simp; omega) n (by omega)
  have hcat : str n ++ (⟨#[126]⟩ : ByteArray) = str (n ++ [126]) := str_app n [126]
  have hss : (str n).size ≤ 1000000 := by rw [str_size]; omega
  have c1 := hb.p.cell
  have c2 := hb.q.cell
  clear h hd hb
  rw [← hcat] at HM
  generalize s.ren (n ++ [126]) n = r1 at *
  clear hcat
  generalize str n = b at *
  go_enter Tryz.func99, Tryz.ntmps99
  go_wp2_with (go_at_call 100; ((with_reducible refine HM.mono ?_); rintro e w1 ⟨rfl, hh, ho⟩))
  go_ret
  exact ⟨rfl, hh, ho⟩
theorem sn4 : Calls Tryz.prog 101 #[.pointer (some ⟨p, 0, none⟩)] w (Went Z (upd D d s.sync) J (.int .i64 0) w) := by
  have HM := sync_h h hd (by omega)
  have c1 := hb.p.cell
  clear h hd hb
  generalize s.sync = s' at *
  go_enter Tryz.func101, Tryz.ntmps101
  go_wp2_with (go_at_call 20; ((with_reducible refine HM.mono ?_); rintro e w1 ⟨rfl, hh, ho⟩))
  go_ret
  exact ⟨rfl, hh, ho⟩
theorem sn5 : Calls Tryz.prog 102 #[] w (Went Z (upd D d s) J (.int .i64 0) w) := by
  have hs : upd D d s = D := upd_self hd
  rw [hs]
  have HH := Lib.hid h
  clear h hd hb hs
  go_enter Tryz.func102, Tryz.ntmps102
  go_wp2
  go_ret
  exact ⟨rfl, HH.out, Only.refl _ _⟩
end
end Go.Proofs.YtmaohncddjhgeaaGreat.gn
end
section
set_option linter.unusedVariables false
set_option linter.unusedSectionVars false
namespace Go.Proofs.YtmaohncddjhgeaaGreat.gn
open Go.RowKit
open Go.Proofs.YtmaohncddjhgeaaGreat.fi

set_option maxRecDepth 100000
set_option maxHeartbeats 1000000

/-- The steps of a Put, as closures over its boxes. -/
def fiveF (p q r : Nat) : Array Value := #[.func (.func 94) #[] #[.pointer (some ⟨p, 0, none⟩), .pointer (some ⟨q, 0, none⟩), .pointer (some ⟨r, 0, none⟩)], .func (.func 98) #[] #[.pointer (some ⟨p, 0, none⟩)],
  .func (.func 99) #[] #[.pointer (some ⟨p, 0, none⟩), .pointer (some ⟨q, 0, none⟩)], .func (.func 101) #[] #[.pointer (some ⟨p, 0, none⟩)], .func (.func 102) #[] #[]]
def noneF : Array Value := #[.nilFunc, .nilFunc, .nilFunc, .nilFunc, .nilFunc]

theorem putting_any (w : World) (d : Nat) (n : Nm) (t : List UInt8) :
    Calls Tryz.prog 78 #[.pointer (some ⟨d, 0, none⟩), .string (str n), .string (str t)] w fun e w' => ∃ p q r, e = .returned (.agg (fiveF p q r)) ∧ Below w.heap.size w w' ∧ Bxs w' p q r d n t ∧ w.heap.size ≤ p ∧ w.heap.size ≤ q ∧ w.heap.size ≤ r := by
  go_enter Tryz.func78, Tryz.ntmps78
  go_wp2
  obtain ⟨w3, hw3⟩ : ∃ w3, ((w.alloc (.cells #[.pointer (some ⟨d, 0, none⟩)] 25)).alloc (.cells #[.string (str n)] 9)).alloc (.cells #[.string (str t)] 9) = w3 := ⟨_, rfl⟩
  have hz : w3.heap.size = w.heap.size + 3 := by rw [← hw3]; simp
  have hp : Boxed w3 w.heap.size 25 (.pointer (some ⟨d, 0, none⟩)) := by rw [← hw3]; exact ((Boxed.new w _ _).alloc _).alloc _
  have hq : Boxed w3 (w.heap.size + 1) 9 (.string (str n)) := by
    rw [← hw3]
    exact Boxed.alloc (show Boxed _ _ _ _ from alloc_at (by simp)) _
  have hr : Boxed w3 (w.heap.size + 1 + 1) 9 (.string (str t)) := by
    rw [← hw3]
    exact (show Boxed _ _ _ _ from alloc_at (by simp))
  have hb : Below w.heap.size w w3 := by rw [← hw3]; exact (((Below.refl _ w).alloc (Nat.le_refl _) _).alloc (by simp) _).alloc (by simp; omega) _
  rw [hw3]
  clear hw3
  have hg : (w3.alloc (.cells (fiveF w.heap.size (w.heap.size + 1) (w.heap.size + 1 + 1)) 115)).heap[w.heap.size + 1 + 1 + 1]? = some (.cells (fiveF w.heap.size (w.heap.size + 1) (w.heap.size + 1 + 1)) 115 (0, 0)) := alloc_at (by omega)
  exact bodyPost_ret (v := .agg (fiveF w.heap.size (w.heap.size + 1) (w.heap.size + 1 + 1))) (results_cell_row rfl _ _ _ _ _ _ _ rfl hg Tryz.underlying115 rfl (by kernel_rfl)) rfl
    ⟨w.heap.size, w.heap.size + 1, w.heap.size + 1 + 1, rfl, hb.alloc hb.size _, ⟨hp.alloc _, hq.alloc _, hr.alloc _⟩, by omega, by omega, by omega⟩
end Go.Proofs.YtmaohncddjhgeaaGreat.gn
end
