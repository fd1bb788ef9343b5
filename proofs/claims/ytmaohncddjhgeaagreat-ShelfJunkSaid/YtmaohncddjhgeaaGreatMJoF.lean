/- The contracts of firstNumber, cutOff, and Open. -/
import Derived.Test.YtmaohncddjhgeaaGreatMJoD
import Derived.Test.YtmaohncddjhgeaaGreatMJoC
import Derived.Test.YtmaohncddjhgeaaGreatMPkT
section
set_option linter.unusedVariables false
set_option linter.unusedSectionVars false
namespace Go.Proofs.YtmaohncddjhgeaaGreat.fi
open Go.Proofs.YtmaohncddjhgeaaGreat.gn (scan cost)
/-- The number in the first one of a file's frames. -/
def fnum : List (List UInt8) → Option Nat
  | [] => none
  | x :: _ => match rd x with
    | some (k, []) => some k
    | _ => none
/-- What is behind the frames is cut off. -/
def FS.trim (s : FS) (n : Nm) (k l : Nat) : Int × FS := if k = l then (0, s) else runs [fun s => s.cut n (k : Int), fun s => (0, s.sync)] s
/-- What an Open answers, and leaves: its error, the directory, and the journal's first number. -/
def FS.opens (s : FS) (n : Nm) : Int × FS × Nat :=
  if ck n ≠ 0 then (ck n, s, 0) else if s.look n ≠ 0 then (s.look n, s, 0) else
  match fnum (scan (s.bytes n)) with
  | none => (70, s, 0)
  | some k => ((s.trim n (cost (scan (s.bytes n))) (s.bytes n).length).1, (s.trim n (cost (scan (s.bytes n))) (s.bytes n).length).2, k)
theorem bytes_wt {s : FS} (h : s.Ok) (n : Nm) : (s.bytes n).length ≤ s.wt := by
  unfold FS.bytes
  split
  · cases hg : get n s.now with
    | none => simp
    | some f => have := wt_get hg; have := h.wt_now; simp; omega
  · simp
end Go.Proofs.YtmaohncddjhgeaaGreat.fi

namespace Go.Proofs.YtmaohncddjhgeaaGreat.gn
open Go.RowKit
open Go.Proofs.YtmaohncddjhgeaaGreat.fi

set_option maxRecDepth 100000
set_option maxHeartbeats 4000000

theorem fnum_over {x : List UInt8} {L : List (List UInt8)} (h : overOf (numOf (some x)).2 = true) : fnum (x :: L) = some (numOf (some x)).1 := by
  unfold fnum
  cases hr : rd x with
  | none => rw [numOf_no hr] at h; cases h
  | some p =>
    obtain ⟨k, r⟩ := p
    rw [numOf_yes hr] at h ⊢
    cases r with
    | nil => simp [hr]
    | cons c r => cases h
theorem fnum_not {x : List UInt8} {L : List (List UInt8)} (h : overOf (numOf (some x)).2 = false) : fnum (x :: L) = none := by
  unfold fnum
  cases hr : rd x with
  | none => simp [hr]
  | some p =>
    obtain ⟨k, r⟩ := p
    rw [numOf_yes hr] at h
    cases r with
    | nil => cases h
    | cons c r => simp [hr]

theorem fnum_any (w : World) (v : Value) (L : List (List UInt8)) (hs : Strs w v L) :
    Calls Tryz.prog 110 #[v] w fun e w' => Below w.heap.size w w' ∧ ((∃ k : Nat, fnum L = some k ∧ k < 18446744073709551616 ∧ e = .returned (.tuple #[.int .u64 (k : Int), .int .i64 0])) ∨ (fnum L = none ∧ e = .returned (.tuple #[.int .u64 0, .int .i64 70]))) := by
  obtain ⟨A, c, rfl, hlc, hcm, hcell, _⟩ := hs
  cases L with
  | nil =>
    go_enter Tryz.func110, Tryz.ntmps110
    go_wp2
    go_ret2
    exact ⟨Below.refl _ _, .inr ⟨rfl, rfl⟩⟩
  | cons x L =>
    obtain ⟨b, o, rfl, hc⟩ : ∃ b o, A = some ⟨b, o, none⟩ ∧ w.cell? ⟨b, o, none⟩ = some (.string (str x)) := by
      rcases hcell with h0 | ⟨b, o, hA, hcl⟩
      · cases h0
      · exact ⟨b, o, hA, by have := hcl 0 (by simp); simpa only [Nat.add_zero, List.getElem_cons_zero] using this⟩
    have HO := Lib.hid (popen_any w x)
    have hul := numOf_lt (some x)
    have hyes := fnum_over (x := x) (L := L)
    have hno := fnum_not (x := x) (L := L)
    have HY := Lib.hid hyes
    have HN := Lib.hid hno
    clear hyes hno hcell
    generalize fnum (x :: L) = fo at *
    simp only [List.length_cons] at *
    have hlen : ¬ (((L.length + 1 : Nat) : Int) = 0) := by omega
    go_enter Tryz.func110, Tryz.ntmps110
    go_wp2_with fail
    refine HO.out.mono ?_
    rintro e w1 ⟨rfl, hr, hb, hz⟩
    have HB := Lib.hid hb
    have HR := Lib.hid (rNum_any w1 w.heap.size (some x) hr)
    clear hb hr
    go_wp2_with fail
    refine HR.out.mono ?_
    rintro e w2 ⟨rfl, hr2, hb2⟩
    have HB2 : Hid (Below w.heap.size w w2) := Lib.hid (hb2.below HB.out (by omega) (Nat.le_refl _))
    have HV := Lib.hid (rOver_any w2 w.heap.size _ hr2)
    clear hb2 hr2
    cases ho : overOf (numOf (some x)).2 with
    | true =>
      rw [ho] at HV
      have hy := HY.out ho
      have HY2 := Lib.hid hy
      clear hy ho
      generalize (numOf (some x)).1 = k at *
      go_wp2_with (go_at_call 131; ((with_reducible refine HV.out.mono ?_); rintro e w3 ⟨rfl, rfl⟩))
      go_ret2
      exact ⟨HB2.out, .inl ⟨k, HY2.out, hul, rfl⟩⟩
    | false =>
      rw [ho] at HV
      have hy := HN.out ho
      have HY2 := Lib.hid hy
      clear hy ho
      generalize (numOf (some x)).1 = k at *
      go_wp2_with (go_at_call 131; ((with_reducible refine HV.out.mono ?_); rintro e w3 ⟨rfl, rfl⟩))
      go_ret2
      exact ⟨HB2.out, .inr ⟨HY2.out, rfl⟩⟩

/-! ### cutOff -/
structure CuB (w : World) (p q r A d : Nat) (n : Nm) (k : Nat) : Prop where
  hp : Boxed w p 25 (.pointer (some ⟨d, 0, none⟩))
  hq : Boxed w q 9 (.string (str n))
  hr : Boxed w r 3 (.int .i64 (k : Int))
  ha : w.heap[A]? = some (.cells #[.func (.func 132) #[] #[.pointer (some ⟨p, 0, none⟩), .pointer (some ⟨q, 0, none⟩), .pointer (some ⟨r, 0, none⟩)], .func (.func 134) #[] #[.pointer (some ⟨p, 0, none⟩)]] 52 (0, 0))
theorem CuB.kept {w w' : World} {p q r A d : Nat} {n : Nm} {k : Nat} (h : CuB w p q r A d n k) {S : Nat → Prop} (ho : Only S w w') (h1 : ¬ S p) (h2 : ¬ S q) (h3 : ¬ S r) (h4 : ¬ S A) : CuB w' p q r A d n k :=
  ⟨(ho.block p h.hp.lt h1).trans h.hp, (ho.block q h.hq.lt h2).trans h.hq, (ho.block r h.hr.lt h3).trans h.hr, (ho.block A (lt_of_block h.ha) h4).trans h.ha⟩
theorem CuB.cells {wr : World} {p q r A d : Nat} {n : Nm} {k : Nat} (h : CuB wr p q r A d n k) : wr.cell? ⟨A, 0, none⟩ = some (.func (.func 132) #[] #[.pointer (some ⟨p, 0, none⟩), .pointer (some ⟨q, 0, none⟩), .pointer (some ⟨r, 0, none⟩)]) ∧
    wr.cell? ⟨A, 1, none⟩ = some (.func (.func 134) #[] #[.pointer (some ⟨p, 0, none⟩)]) :=
  ⟨by rw [cell_of_row _ _ 0 _ _ _ h.ha]; rfl, by rw [cell_of_row _ _ 1 _ _ _ h.ha]; rfl⟩
section
variable {Z : Nat → Prop} {w : World} {D : Nat → Option FS} {J : Nat → Option Jn} (h : Hold Z w D J) {d : Nat} {s : FS} (hd : D d = some s) (hwt : s.wt ≤ 549755813888) {p q r A : Nat} {n : Nm} {k : Nat} (hb : CuB w p q r A d n k) (hn : n.length ≤ 1000000)
include h hd hwt hb hn
theorem cu1 : Calls Tryz.prog 132 #[.pointer (some ⟨p, 0, none⟩), .pointer (some ⟨q, 0, none⟩), .pointer (some ⟨r, 0, none⟩)] w (Went Z (upd D d (s.cut n k).2) J (.int .i64 (s.cut n k).1) w) := by
  have HM := cut_h h hd hwt n (by omega) k
  have c1 := hb.hp.cell
  have c2 := hb.hq.cell
  have c3 := hb.hr.cell
  clear h hd hb
  generalize (s.cut n k).1 = q at *
  generalize (s.cut n k).2 = s' at *
  go_enter Tryz.func132, Tryz.ntmps132
  go_wp2_with (go_at_call 133; ((with_reducible refine HM.mono ?_); rintro e w1 ⟨rfl, hh, ho⟩))
  go_ret
  exact ⟨rfl, hh, ho⟩
theorem cu2 : Calls Tryz.prog 134 #[.pointer (some ⟨p, 0, none⟩)] w (Went Z (upd D d s.sync) J (.int .i64 0) w) := by
  have HM := sync_h h hd hwt
  have c1 := hb.hp.cell
  clear h hd hb
  go_enter Tryz.func134, Tryz.ntmps134
  go_wp2_with (go_at_call 20; ((with_reducible refine HM.mono ?_); rintro e w1 ⟨rfl, hh, ho⟩))
  go_ret
  exact ⟨rfl, hh, ho⟩
end

theorem cutOff_any {Z : Nat → Prop} {w : World} {D : Nat → Option FS} {J : Nat → Option Jn} (h : Hold Z w D J) {d : Nat} {s : FS} (hd : D d = some s) (hwt : s.wt ≤ 274877906944) (n : Nm) (hn : n.length ≤ 1000000) (k l : Nat) (hk : k ≤ 549755813888) (hl : l ≤ 549755813888) :
    Calls Tryz.prog 112 #[.pointer (some ⟨d, 0, none⟩), .string (str n), .int .i64 (k : Int), .int .i64 (l : Int)] w (Went Z (upd D d (s.trim n k l).2) J (.int .i64 (s.trim n k l).1) w) := by
  obtain ⟨w3, hw3⟩ : ∃ w3, ((w.alloc (.cells #[.pointer (some ⟨d, 0, none⟩)] 25)).alloc (.cells #[.string (str n)] 9)).alloc (.cells #[.int .i64 (k : Int)] 3) = w3 := ⟨_, rfl⟩
  have hz3 : w3.heap.size = w.heap.size + 3 := by rw [← hw3]; simp
  have hb3 : Below w.heap.size w w3 := by rw [← hw3]; exact (((Below.refl _ w).alloc (Nat.le_refl _) _).alloc (by simp) _).alloc (by simp; omega) _
  have hp3 : Boxed w3 w.heap.size 25 (.pointer (some ⟨d, 0, none⟩)) := by rw [← hw3]; exact ((Boxed.new w _ _).alloc _).alloc _
  have hq3 : Boxed w3 (w.heap.size + 1) 9 (.string (str n)) := by
    rw [← hw3]
    have := Boxed.new (w.alloc (.cells #[.pointer (some ⟨d, 0, none⟩)] 25)) 9 (.string (str n))
    exact Boxed.alloc (by simpa using this) _
  have hr3 : Boxed w3 (w.heap.size + 2) 3 (.int .i64 (k : Int)) := by
    rw [← hw3]
    have := Boxed.new ((w.alloc (.cells #[.pointer (some ⟨d, 0, none⟩)] 25)).alloc (.cells #[.string (str n)] 9)) 3 (.int .i64 (k : Int))
    simpa using this
  have c3 := hr3.cell
  by_cases hkl : k = l
  · subst hkl
    have e : s.trim n k k = (0, s) := if_pos rfl
    rw [e, upd_self hd]
    have HH := Lib.hid (h.below hb3)
    have HB : Hid (Only (Off Z) w w3) := Lib.hid (Only.of_below hb3)
    clear h hd hp3 hq3 hr3 hb3 e
    go_enter Tryz.func112, Tryz.ntmps112
    go_wp2
    go_ret
    exact ⟨rfl, HH.out, HB.out⟩
  · have e : s.trim n k l = runs [fun s => s.cut n (k : Int), fun s => (0, s.sync)] s := if_neg hkl
    rw [e]
    clear e
    obtain ⟨w1, hw1⟩ : ∃ w1, w3.alloc (.cells #[.func (.func 132) #[] #[.pointer (some ⟨w.heap.size, 0, none⟩), .pointer (some ⟨w.heap.size + 1, 0, none⟩), .pointer (some ⟨w.heap.size + 2, 0, none⟩)], .func (.func 134) #[] #[.pointer (some ⟨w.heap.size, 0, none⟩)]] 52) = w1 := ⟨_, rfl⟩
    have hz1 : w1.heap.size = w.heap.size + 4 := by rw [← hw1]; simp [hz3]
    have hb1 : Below w.heap.size w w1 := by rw [← hw1]; exact hb3.alloc (by omega) _
    have hx1 : CuB w1 w.heap.size (w.heap.size + 1) (w.heap.size + 2) (w.heap.size + 3) d n k := by
      refine ⟨?_, ?_, ?_, ?_⟩
      · rw [← hw1]; exact hp3.alloc _
      · rw [← hw1]; exact hq3.alloc _
      · rw [← hw1]; exact hr3.alloc _
      · rw [← hw1]; exact alloc_at' hz3.symm
    have zz : ∀ k, k < 4 → news Z w w1 (w.heap.size + k) := fun k hk => .inr ⟨by omega, by omega⟩
    have les : ∀ i, Z i → news Z w w1 i := fun i hi => .inl hi
    have out : ∀ {wr w' : World}, Only (Off (news Z w w1)) wr w' → Only (Off Z) w wr → Only (Off Z) w w' := fun ho h0 => h0.trans ho fun i hi hh h' => hh (.inl h')
    have keep : ∀ {i : Nat} {wr : World}, StaI (news Z w w1) w1 D J d s [fun s => s.cut n (k : Int), fun s => (0, s.sync)] i wr → CuB wr w.heap.size (w.heap.size + 1) (w.heap.size + 2) (w.heap.size + 3) d n k := fun hi =>
      hx1.kept hi.only (fun hh => hh (zz 0 (by omega))) (fun hh => hh (zz 1 (by omega))) (fun hh => hh (zz 2 (by omega))) (fun hh => hh (zz 3 (by omega)))
    have HP : Hid (Calls Tryz.prog 65 #[.slice (some ⟨w.heap.size + 3, 0, none⟩) 2 2] w1 (Stp (StaI (news Z w w1) w1 D J d s [fun s => s.cut n (k : Int), fun s => (0, s.sync)] 2) (StaF (news Z w w1) w1 D J d s [fun s => s.cut n (k : Int), fun s => (0, s.sync)]))) := by
      refine Lib.hid (perform_cutOff (StaI (news Z w w1) w1 D J d s [fun s => s.cut n (k : Int), fun s => (0, s.sync)]) _ (w.heap.size + 3) w.heap.size (w.heap.size + 1) (w.heap.size + 2) w1 (fun i wr hi => (keep hi).cells) ⟨⟨s, by rw [upd_self hd]; exact h.grow hb1, rfl, by omega⟩, Only.refl _ _⟩ ?_ ?_)
      · rintro wr hi
        obtain ⟨sk, h1, h2, h3⟩ := hi.is
        exact (cu1 h1 (upd_same _ _ _) (by omega) (keep hi) hn).mono fun e w' hw => sta_step h2 h3 hi.only (fun s => s.cut n (k : Int)) rfl (by have := cut_wt sk n k; show (sk.cut n k).2.wt ≤ _; omega) hw
      · rintro wr hi
        obtain ⟨sk, h1, h2, h3⟩ := hi.is
        exact (cu2 h1 (upd_same _ _ _) (by omega) (keep hi) hn).mono fun e w' hw => sta_step h2 h3 hi.only (fun s => (0, s.sync)) rfl (by have := FS.sync_wt (h1.ok (upd_same _ _ _)); show sk.sync.wt ≤ _; omega) hw
    have OUT := Lib.hid (fun w' (ho : Only (Off (news Z w w1)) w1 w') => out ho (Only.of_below hb1))
    have LES := Lib.hid les
    have HKL := Lib.hid hkl
    have hkl2 : ((k : Int) == (l : Int)) = false := by simp; omega
    clear h hd hp3 hq3 hr3 hb3 hb1 hx1 zz out keep les
    generalize hL : ([fun s => s.cut n (k : Int), fun s => (0, s.sync)] : List (FS → Int × FS)) = L at *
    obtain ⟨R, hR⟩ : ∃ R, runs L s = R := ⟨_, rfl⟩
    rw [hR]
    go_enter Tryz.func112, Tryz.ntmps112
    go_wp2_with fail
    refine HP.out.mono ?_
    rintro e w5 (⟨rfl, hi⟩ | ⟨q, hq, rfl, hq1, hh, ho⟩)
    · obtain ⟨sk, h1, h2, h3⟩ := hi.is
      have ho := hi.only
      clear hi
      have h2' : R = (0, sk) := by rw [← hR, ← h2, ← hL]; rfl
      subst h2'
      go_wp2
      go_ret
      exact ⟨rfl, h1.less LES.out, OUT.out _ ho⟩
    · rw [hR] at hq1 hh
      subst hq1
      go_wp2
      go_ret
      exact ⟨rfl, hh.less LES.out, OUT.out _ ho⟩
end Go.Proofs.YtmaohncddjhgeaaGreat.gn
end
section
set_option linter.unusedVariables false
set_option linter.unusedSectionVars false
namespace Go.Proofs.YtmaohncddjhgeaaGreat.gn
open Go.RowKit
open Go.Proofs.YtmaohncddjhgeaaGreat.fi

set_option maxRecDepth 100000
set_option maxHeartbeats 4000000

theorem Strs.only {w w' : World} {v : Value} {L : List (List UInt8)} (h : Strs w v L) {S : Nat → Prop} (ho : Only S w w') (hz : ∀ A n c, v = .slice (some A) n c → A.block < w.heap.size → ¬ S A.block) : Strs w' v L := by
  obtain ⟨A, c, rfl, h2, h3, h4, h5⟩ := h
  refine ⟨A, c, rfl, h2, h3, ?_, h5⟩
  rcases h4 with h4 | ⟨b, o, rfl, hc⟩
  · exact .inl h4
  · exact .inr ⟨b, o, rfl, fun j hj => ho.cell (p := ⟨b, o + j, none⟩) (hc j hj) (hz ⟨b, o, none⟩ _ _ rfl (cell_lt (a := ⟨b, o + j, none⟩) (hc j hj)))⟩

/-- What an Open's steps share. -/
structure OpB (w : World) (p q b l s f A d : Nat) (n : Nm) : Prop where
  hp : Boxed w p 25 (.pointer (some ⟨d, 0, none⟩))
  hq : Boxed w q 9 (.string (str n))
  ha : w.heap[A]? = some (.cells #[.func (.func 106) #[] #[.pointer (some ⟨p, 0, none⟩), .pointer (some ⟨q, 0, none⟩)], .func (.func 108) #[] #[.pointer (some ⟨p, 0, none⟩), .pointer (some ⟨q, 0, none⟩), .pointer (some ⟨b, 0, none⟩)],
    .func (.func 109) #[] #[.pointer (some ⟨b, 0, none⟩), .pointer (some ⟨l, 0, none⟩), .pointer (some ⟨s, 0, none⟩), .pointer (some ⟨f, 0, none⟩)],
    .func (.func 111) #[] #[.pointer (some ⟨p, 0, none⟩), .pointer (some ⟨q, 0, none⟩), .pointer (some ⟨s, 0, none⟩), .pointer (some ⟨b, 0, none⟩)]] 52 (0, 0))
theorem OpB.kept {w w' : World} {p q b l s f A d : Nat} {n : Nm} (h : OpB w p q b l s f A d n) {S : Nat → Prop} (ho : Only S w w') (h1 : ¬ S p) (h2 : ¬ S q) (h4 : ¬ S A) : OpB w' p q b l s f A d n :=
  ⟨(ho.block p h.hp.lt h1).trans h.hp, (ho.block q h.hq.lt h2).trans h.hq, (ho.block A (lt_of_block h.ha) h4).trans h.ha⟩
theorem OpB.cells {wr : World} {p q b l s f A d : Nat} {n : Nm} (h : OpB wr p q b l s f A d n) : wr.cell? ⟨A, 0, none⟩ = some (.func (.func 106) #[] #[.pointer (some ⟨p, 0, none⟩), .pointer (some ⟨q, 0, none⟩)]) ∧
    wr.cell? ⟨A, 1, none⟩ = some (.func (.func 108) #[] #[.pointer (some ⟨p, 0, none⟩), .pointer (some ⟨q, 0, none⟩), .pointer (some ⟨b, 0, none⟩)]) ∧
    wr.cell? ⟨A, 2, none⟩ = some (.func (.func 109) #[] #[.pointer (some ⟨b, 0, none⟩), .pointer (some ⟨l, 0, none⟩), .pointer (some ⟨s, 0, none⟩), .pointer (some ⟨f, 0, none⟩)]) ∧
    wr.cell? ⟨A, 3, none⟩ = some (.func (.func 111) #[] #[.pointer (some ⟨p, 0, none⟩), .pointer (some ⟨q, 0, none⟩), .pointer (some ⟨s, 0, none⟩), .pointer (some ⟨b, 0, none⟩)]) :=
  ⟨by rw [cell_of_row _ _ 0 _ _ _ h.ha]; rfl, by rw [cell_of_row _ _ 1 _ _ _ h.ha]; rfl, by rw [cell_of_row _ _ 2 _ _ _ h.ha]; rfl, by rw [cell_of_row _ _ 3 _ _ _ h.ha]; rfl⟩

section
variable {Z : Nat → Prop} {w : World} {D : Nat → Option FS} {J : Nat → Option Jn} (h : Hold Z w D J) {d : Nat} {st : FS} (hd : D d = some st) (hwt : st.wt ≤ 274877906944) {p q b l s f A : Nat} {n : Nm} (hb : OpB w p q b l s f A d n) (hn : n.length ≤ 1000000)
include h hd hwt hb hn
theorem op1_j : Calls Tryz.prog 106 #[.pointer (some ⟨p, 0, none⟩), .pointer (some ⟨q, 0, none⟩)] w (Went Z D J (.int .i64 (ck n)) w) := by
  have HM := jcheck_any h hd (by omega) n (by omega)
  have c1 := hb.hp.cell
  have c2 := hb.hq.cell
  clear h hd hb
  go_enter Tryz.func106, Tryz.ntmps106
  go_wp2_with (go_at_call 107; ((with_reducible refine HM.mono ?_); rintro e w1 ⟨rfl, hh, ho⟩))
  go_ret
  exact ⟨rfl, hh, ho⟩
theorem op2_j {x : Value} (hx : Boxed w b 9 x) : Calls Tryz.prog 108 #[.pointer (some ⟨p, 0, none⟩), .pointer (some ⟨q, 0, none⟩), .pointer (some ⟨b, 0, none⟩)] w fun e w' =>
    e = .returned (.int .i64 (st.look n)) ∧ Boxed w' b 9 (.string (str (st.bytes n))) ∧ Only (fun i => i = b) w w' := by
  have HM := read_h h hd n
  have c1 := hb.hp.cell
  have c2 := hb.hq.cell
  have HX := Lib.hid hx
  clear h hd hb hx
  generalize st.look n = c at *
  generalize st.bytes n = t at *
  go_enter Tryz.func108, Tryz.ntmps108
  go_wp2_with fail
  refine HM.mono ?_
  rintro e w1 ⟨rfl, hb1⟩
  have hx1 : Boxed w1 b 9 x := (hb1.block b HX.out.lt).trans HX.out
  have c3 := hx1.cell
  have c4 := hx1.frozen
  have HX1 := Lib.hid (hx1.set (.string (str t)))
  have HO : Hid (Only (fun i => i = b) w w1) := Lib.hid (Only.of_below hb1)
  clear hx1 hb1
  go_wp2
  go_ret
  exact ⟨rfl, HX1.out, HO.out.setCell (fun _ => rfl) _⟩
theorem op4_j {t : List UInt8} {k : Nat} (hx : Boxed w b 9 (.string (str t))) (hy : Boxed w s 3 (.int .i64 (k : Int))) (ht : t.length ≤ 549755813888) (hk : k ≤ 549755813888) : Calls Tryz.prog 111 #[.pointer (some ⟨p, 0, none⟩), .pointer (some ⟨q, 0, none⟩), .pointer (some ⟨s, 0, none⟩), .pointer (some ⟨b, 0, none⟩)] w
    (Went Z (upd D d (st.trim n k t.length).2) J (.int .i64 (st.trim n k t.length).1) w) := by
  have HM := cutOff_any h hd hwt n hn k t.length hk ht
  have c1 := hb.hp.cell
  have c2 := hb.hq.cell
  have c3 := hx.cell
  have c4 := hy.cell
  have hss : (str t).size = t.length := str_size t
  clear h hd hb hx hy
  generalize (st.trim n k t.length).1 = r1 at *
  generalize (st.trim n k t.length).2 = r2 at *
  go_enter Tryz.func111, Tryz.ntmps111
  go_wp2_with (go_at_call 112; ((with_reducible refine HM.mono ?_); rintro e w1 ⟨rfl, hh, ho⟩))
  go_ret
  exact ⟨rfl, hh, ho⟩
end
theorem op3_j {w : World} {b l s f : Nat} {t : List UInt8} {xl xs xf : Value} (hb : Boxed w b 9 (.string (str t))) (hl : Boxed w l 32 xl) (hs : Boxed w s 3 xs) (hf : Boxed w f 31 xf) (hbl : b ≠ l) (hbs : b ≠ s) (hbf : b ≠ f) (hls : l ≠ s) (hlf : l ≠ f) (hsf : s ≠ f) (ht : t.length ≤ 549755813888) :
    Calls Tryz.prog 109 #[.pointer (some ⟨b, 0, none⟩), .pointer (some ⟨l, 0, none⟩), .pointer (some ⟨s, 0, none⟩), .pointer (some ⟨f, 0, none⟩)] w fun e w' =>
      Only (fun i => i = l ∨ i = s ∨ i = f) w w' ∧ ((fnum (scan t) = none ∧ e = .returned (.int .i64 70)) ∨ ∃ k c A, fnum (scan t) = some k ∧ k < 18446744073709551616 ∧ e = .returned (.int .i64 0) ∧ Boxed w' l 32 (.slice A (scan t).length c) ∧ Boxed w' s 3 (.int .i64 (cost (scan t) : Nat)) ∧ Boxed w' f 31 (.int .u64 (k : Int))) := by
  have hsl := scan_le t
  have hcl := cost_len (scan t)
  have HS := Lib.hid (scan_any t (by omega) w)
  have hLm : ∀ s ∈ scan t, s.length ≤ maxLen := fun s hs => by have := cost_mem (scan t) s hs; unfold maxLen; omega
  have HLM := Lib.hid hLm
  have HL := Lib.hid hl
  have HX := Lib.hid hs
  have HF := Lib.hid hf
  have c1 := hb.cell
  have lb := hb.lt
  have ll := hl.lt
  have ls := hs.lt
  have lf := hf.lt
  generalize scan t = L at *
  clear hb hl hs hf hLm hsl
  go_enter Tryz.func109, Tryz.ntmps109
  go_wp2_with fail
  refine HS.out.mono ?_
  rintro e w2 ⟨v, rfl, hS, hb2⟩
  have hv : ∀ A n c, v = .slice (some A) n c → w.heap.size ≤ A.block := fun A n c e => by
    rcases hS.2 with ⟨rfl, _⟩ | ⟨g, cap, cur, rfl, hB, _⟩
    · cases e
    · cases e; exact hB
  have hst := hS.strs HLM.out
  obtain ⟨A, c, rfl, hlc, hcm, _⟩ := id hst
  have hl2 : Boxed w2 l 32 xl := (hb2.block l ll).trans HL.out
  have hs2 : Boxed w2 s 3 xs := (hb2.block s ls).trans HX.out
  have hf2 : Boxed w2 f 31 xf := (hb2.block f lf).trans HF.out
  have hl3 := hl2.set (.slice A L.length c)
  have hs3 : Boxed (w2.setCell ⟨l, 0, none⟩ (.slice A L.length c)) s 3 xs := (Below.heap_setCell _ _ _ _ (by show s ≠ l; omega)).trans hs2
  have hf3 : Boxed (w2.setCell ⟨l, 0, none⟩ (.slice A L.length c)) f 31 xf := (Below.heap_setCell _ _ _ _ (by show f ≠ l; omega)).trans hf2
  have hs4 := hs3.set (.int .i64 ((cost L : Nat) : Int))
  have hl4 : Boxed ((w2.setCell ⟨l, 0, none⟩ (.slice A L.length c)).setCell ⟨s, 0, none⟩ (.int .i64 ((cost L : Nat) : Int))) l 32 (.slice A L.length c) := (Below.heap_setCell _ _ _ _ (by show l ≠ s; omega)).trans hl3
  have hf4 : Boxed ((w2.setCell ⟨l, 0, none⟩ (.slice A L.length c)).setCell ⟨s, 0, none⟩ (.int .i64 ((cost L : Nat) : Int))) f 31 xf := (Below.heap_setCell _ _ _ _ (by show f ≠ s; omega)).trans hf3
  have ho4 : Only (fun i => i = l ∨ i = s ∨ i = f) w2 ((w2.setCell ⟨l, 0, none⟩ (.slice A L.length c)).setCell ⟨s, 0, none⟩ (.int .i64 ((cost L : Nat) : Int))) := ((Only.refl _ w2).setCell (fun _ => .inl rfl) _).setCell (fun _ => .inr (.inl rfl)) _
  have hst4 := hst.only ho4 fun B n k e _ hh => by
    have := hv B n k e
    rcases hh with hh | hh | hh <;> omega
  have HN := Lib.hid (fnum_any _ _ L hst4)
  have a1 := hl2.cell
  have a2 := hl2.frozen
  have a3 := hs3.cell
  have a4 := hs3.frozen
  have a5 := hl4.cell
  have HO4 : Hid (Only (fun i => i = l ∨ i = s ∨ i = f) w ((w2.setCell ⟨l, 0, none⟩ (.slice A L.length c)).setCell ⟨s, 0, none⟩ (.int .i64 ((cost L : Nat) : Int)))) := Lib.hid ((Only.of_below (S := fun i => i = l ∨ i = s ∨ i = f) hb2).trans ho4 fun i _ hi => hi)
  have H1 := Lib.hid hl4
  have H2 := Lib.hid hs4
  have H3 := Lib.hid hf4
  clear hl2 hs2 hf2 hl3 hs3 hf3 hs4 hl4 hf4 ho4 hst4 hst hv hS hb2
  go_wp2_with fail
  refine HN.out.mono ?_
  rintro e w5 ⟨hb5, hk⟩
  have H1' : Boxed w5 l 32 (.slice A L.length c) := (hb5.block l H1.out.lt).trans H1.out
  have H2' : Boxed w5 s 3 (.int .i64 ((cost L : Nat) : Int)) := (hb5.block s H2.out.lt).trans H2.out
  have H3' : Boxed w5 f 31 xf := (hb5.block f H3.out.lt).trans H3.out
  have HO5 := Lib.hid (HO4.out.trans (Only.of_below (S := fun i => i = l ∨ i = s ∨ i = f) hb5) fun i _ hi => hi)
  have a6 := H3'.cell
  have a7 := H3'.frozen
  have K1 := Lib.hid H1'
  have K2 := Lib.hid H2'
  have K3 := Lib.hid H3'
  clear hb5 H1' H2' H3'
  rcases hk with ⟨k, hfo, hk, rfl⟩ | ⟨hfo, rfl⟩
  · have HFO := Lib.hid hfo
    clear hfo
    go_wp2
    go_ret
    refine ⟨HO5.out.setCell (fun _ => .inr (.inr rfl)) _, .inr ⟨k, c, A, HFO.out, hk, rfl, ?_, ?_, K3.out.set _⟩⟩
    · exact (Below.heap_setCell _ _ _ _ (by show l ≠ f; omega)).trans K1.out
    · exact (Below.heap_setCell _ _ _ _ (by show s ≠ f; omega)).trans K2.out
  · have HFO := Lib.hid hfo
    clear hfo
    go_wp2
    go_ret
    exact ⟨HO5.out.setCell (fun _ => .inr (.inr rfl)) _, .inl ⟨HFO.out, rfl⟩⟩

/-- Between two steps of an Open. -/
def OpI (Z Z1 : Nat → Prop) (w : World) (D : Nat → Option FS) (J : Nat → Option Jn) (p q b l s f A d : Nat) (n : Nm) (st : FS) (k : Nat) (wr : World) : Prop :=
  OpB wr p q b l s f A d n ∧ Only (Off Z) w wr ∧
  match k with
  | 0 => Hold Z1 wr D J ∧ Boxed wr b 9 (.string ⟨#[]⟩) ∧ Boxed wr l 32 (.slice none 0 0) ∧ Boxed wr s 3 (.int .i64 0) ∧ Boxed wr f 31 (.int .u64 0)
  | 1 => ck n = 0 ∧ Hold Z1 wr D J ∧ Boxed wr b 9 (.string ⟨#[]⟩) ∧ Boxed wr l 32 (.slice none 0 0) ∧ Boxed wr s 3 (.int .i64 0) ∧ Boxed wr f 31 (.int .u64 0)
  | 2 => (ck n = 0 ∧ st.look n = 0) ∧ Hold Z1 wr D J ∧ Boxed wr b 9 (.string (str (st.bytes n))) ∧ Boxed wr l 32 (.slice none 0 0) ∧ Boxed wr s 3 (.int .i64 0) ∧ Boxed wr f 31 (.int .u64 0)
  | 3 => ∃ k c A, (ck n = 0 ∧ st.look n = 0 ∧ fnum (scan (st.bytes n)) = some k ∧ k < 18446744073709551616) ∧ Hold Z1 wr D J ∧ Boxed wr b 9 (.string (str (st.bytes n))) ∧ Boxed wr l 32 (.slice A (scan (st.bytes n)).length c) ∧
    Boxed wr s 3 (.int .i64 (cost (scan (st.bytes n)) : Nat)) ∧ Boxed wr f 31 (.int .u64 (k : Int))
  | _ => ∃ k c A, (ck n = 0 ∧ st.look n = 0 ∧ fnum (scan (st.bytes n)) = some k ∧ k < 18446744073709551616) ∧ ((st.trim n (cost (scan (st.bytes n))) (st.bytes n).length).1 = 0) ∧ Hold Z1 wr (upd D d (st.trim n (cost (scan (st.bytes n))) (st.bytes n).length).2) J ∧
    Boxed wr l 32 (.slice A (scan (st.bytes n)).length c) ∧ Boxed wr f 31 (.int .u64 (k : Int))
def OpF (Z Z1 : Nat → Prop) (w : World) (D : Nat → Option FS) (J : Nat → Option Jn) (d : Nat) (r : Int × FS × Nat) (q : Int) (wr : World) : Prop := q = r.1 ∧ Hold Z1 wr (upd D d r.2.1) J ∧ Only (Off Z) w wr
/-- What an Open answers, and leaves. -/
def Opened (Z : Nat → Prop) (D : Nat → Option FS) (J : Nat → Option Jn) (d : Nat) (n : Nm) (l : Nat) (r : Int × FS × Nat) (w : World) (e : Ending) (w' : World) : Prop :=
  (r.1 = 0 ∧ ∃ j, e = .returned (.tuple #[.pointer (some ⟨j, 0, none⟩), .int .i64 0]) ∧ w.heap.size ≤ j ∧ Hold Z w' (upd D d r.2.1) (upd J j ⟨d, n, r.2.2, (r.2.2 + (l - 1)) % 18446744073709551616⟩) ∧ Only (Off Z) w w') ∨
  (r.1 ≠ 0 ∧ e = .returned (.tuple #[.pointer none, .int .i64 r.1]) ∧ Hold Z w' (upd D d r.2.1) J ∧ Only (Off Z) w w')

theorem opens_perform {Z : Nat → Prop} {w w1 : World} {D : Nat → Option FS} {J : Nat → Option Jn} (h : Hold Z w D J) {d : Nat} {st : FS} (hd : D d = some st) (hwt : st.wt ≤ 274877906944) (n : Nm) (hn : n.length ≤ 1000000) (hb1 : Below w.heap.size w w1) (hz1 : w1.heap.size = w.heap.size + 7)
    (hx1 : OpB w1 w.heap.size (w.heap.size + 1) (w.heap.size + 2) (w.heap.size + 3) (w.heap.size + 4) (w.heap.size + 5) (w.heap.size + 6) d n) (hb : Boxed w1 (w.heap.size + 2) 9 (.string ⟨#[]⟩)) (hl : Boxed w1 (w.heap.size + 3) 32 (.slice none 0 0)) (hs : Boxed w1 (w.heap.size + 4) 3 (.int .i64 0)) (hf : Boxed w1 (w.heap.size + 5) 31 (.int .u64 0)) :
    Calls Tryz.prog 65 #[.slice (some ⟨w.heap.size + 6, 0, none⟩) 4 4] w1 (Stp (OpI Z (news Z w w1) w D J w.heap.size (w.heap.size + 1) (w.heap.size + 2) (w.heap.size + 3) (w.heap.size + 4) (w.heap.size + 5) (w.heap.size + 6) d n st 4) (OpF Z (news Z w w1) w D J d (st.opens n))) := by
  have zz : ∀ k, k < 7 → news Z w w1 (w.heap.size + k) := fun k hk => .inr ⟨by omega, by omega⟩
  have out : ∀ {wr w' : World}, Only (Off (news Z w w1)) wr w' → Only (Off Z) w wr → Only (Off Z) w w' := fun ho h0 => h0.trans ho fun i hi hh h' => hh (.inl h')
  have hbl := bytes_wt (h.ok hd) n
  have hsl := scan_le (st.bytes n)
  refine perform_open (OpI Z (news Z w w1) w D J w.heap.size (w.heap.size + 1) (w.heap.size + 2) (w.heap.size + 3) (w.heap.size + 4) (w.heap.size + 5) (w.heap.size + 6) d n st) _ (w.heap.size + 6) w.heap.size (w.heap.size + 1) (w.heap.size + 2) (w.heap.size + 3) (w.heap.size + 4) (w.heap.size + 5) w1 (fun k wr hi => hi.1.cells) ⟨hx1, Only.of_below hb1, h.grow hb1, hb, hl, hs, hf⟩ ?_ ?_ ?_ ?_
  · rintro wr ⟨hx, ho, hh, y1, y2, y3, y4⟩
    refine (op1_j hh hd hwt hx hn).mono fun e w' hw => ?_
    obtain ⟨rfl, h1, h2⟩ := hw
    by_cases hq : ck n = 0
    · rw [hq]
      exact .inl ⟨rfl, hx.kept h2 (fun hn => hn (zz 0 (by omega))) (fun hn => hn (zz 1 (by omega))) (fun hn => hn (zz 6 (by omega))), out h2 ho, hq, h1, Boxed.off y1 h2 (zz 2 (by omega)), Boxed.off y2 h2 (zz 3 (by omega)), Boxed.off y3 h2 (zz 4 (by omega)), Boxed.off y4 h2 (zz 5 (by omega))⟩
    · have e : st.opens n = (ck n, st, 0) := if_pos hq
      exact .inr ⟨ck n, hq, rfl, by rw [e], by rw [e, upd_self hd]; exact h1, out h2 ho⟩
  · rintro wr ⟨hx, ho, hc, hh, y1, y2, y3, y4⟩
    refine (op2_j hh hd hwt hx hn y1).mono fun e w' hw => ?_
    obtain ⟨rfl, h1, h2⟩ := hw
    have h3 : Hold (news Z w w1) w' D J := hh.box h2 fun i hi => by subst hi; exact zz 2 (by omega)
    have h4 : Only (Off Z) w w' := ho.trans h2 fun i hi hs hz => by omega
    by_cases hq : st.look n = 0
    · rw [hq]
      exact .inl ⟨rfl, hx.kept h2 (by omega) (by omega) (by omega), h4, ⟨hc, hq⟩, h3, h1, (h2.block _ y2.lt (by omega)).trans y2, (h2.block _ y3.lt (by omega)).trans y3, (h2.block _ y4.lt (by omega)).trans y4⟩
    · have e : st.opens n = (st.look n, st, 0) := by unfold FS.opens; rw [if_neg (by simp [hc]), if_pos hq]
      exact .inr ⟨st.look n, hq, rfl, by rw [e], by rw [e, upd_self hd]; exact h3, h4⟩
  · rintro wr ⟨hx, ho, ⟨hc, hk⟩, hh, y1, y2, y3, y4⟩
    refine (op3_j y1 y2 y3 y4 (by omega) (by omega) (by omega) (by omega) (by omega) (by omega) (by omega)).mono fun e w' hw => ?_
    obtain ⟨h2, hw⟩ := hw
    have h3 : Hold (news Z w w1) w' D J := hh.box h2 fun i hi => by
      rcases hi with rfl | rfl | rfl
      · exact zz 3 (by omega)
      · exact zz 4 (by omega)
      · exact zz 5 (by omega)
    have h4 : Only (Off Z) w w' := ho.trans h2 fun i hi hs hz => by rcases hs with hs | hs | hs <;> omega
    rcases hw with ⟨hn0, rfl⟩ | ⟨k, c, A, hk1, hk2, rfl, k1, k2, k3⟩
    · have e : st.opens n = (70, st, 0) := by unfold FS.opens; rw [if_neg (by simp [hc]), if_neg (by simp [hk]), hn0]
      exact .inr ⟨70, by decide, rfl, by rw [e], by rw [e, upd_self hd]; exact h3, h4⟩
    · exact .inl ⟨rfl, hx.kept h2 (by omega) (by omega) (by omega), h4, k, c, A, ⟨hc, hk, hk1, hk2⟩, h3, (h2.block _ y1.lt (by omega)).trans y1, k1, k2, k3⟩
  · rintro wr ⟨hx, ho, k, c, A, ⟨hc, hk, hk1, hk2⟩, hh, y1, y2, y3, y4⟩
    refine (op4_j hh hd hwt hx hn y1 y3 (by omega) (by omega)).mono fun e w' hw => ?_
    obtain ⟨rfl, h1, h2⟩ := hw
    have e : st.opens n = ((st.trim n (cost (scan (st.bytes n))) (st.bytes n).length).1, (st.trim n (cost (scan (st.bytes n))) (st.bytes n).length).2, k) := by unfold FS.opens; rw [if_neg (by simp [hc]), if_neg (by simp [hk]), hk1]
    by_cases hq : (st.trim n (cost (scan (st.bytes n))) (st.bytes n).length).1 = 0
    · rw [hq]
      exact .inl ⟨rfl, hx.kept h2 (fun hn => hn (zz 0 (by omega))) (fun hn => hn (zz 1 (by omega))) (fun hn => hn (zz 6 (by omega))), out h2 ho, k, c, A, ⟨hc, hk, hk1, hk2⟩, hq, h1, Boxed.off y2 h2 (zz 3 (by omega)), Boxed.off y4 h2 (zz 5 (by omega))⟩
    · exact .inr ⟨_, hq, rfl, by rw [e], by rw [e]; exact h1, out h2 ho⟩

theorem jopen_any {Z : Nat → Prop} {w : World} {D : Nat → Option FS} {J : Nat → Option Jn} (h : Hold Z w D J) {d : Nat} {st : FS} (hd : D d = some st) (hwt : st.wt ≤ 274877906944) (n : Nm) (hn : n.length ≤ 1000000) :
    Calls Tryz.prog 82 #[.pointer (some ⟨d, 0, none⟩), .string (str n)] w (Opened Z D J d n (scan (st.bytes n)).length (st.opens n) w) := by
  obtain ⟨w2, hw2⟩ : ∃ w2, (w.alloc (.cells #[.pointer (some ⟨d, 0, none⟩)] 25)).alloc (.cells #[.string (str n)] 9) = w2 := ⟨_, rfl⟩
  have hz2 : w2.heap.size = w.heap.size + 2 := by rw [← hw2]; simp
  have hb2 : Below w.heap.size w w2 := by rw [← hw2]; exact ((Below.refl _ w).alloc (Nat.le_refl _) _).alloc (by simp) _
  have hp2 : Boxed w2 w.heap.size 25 (.pointer (some ⟨d, 0, none⟩)) := by rw [← hw2]; exact (Boxed.new w _ _).alloc _
  have hq2 : Boxed w2 (w.heap.size + 1) 9 (.string (str n)) := by
    rw [← hw2]
    have := Boxed.new (w.alloc (.cells #[.pointer (some ⟨d, 0, none⟩)] 25)) 9 (.string (str n))
    simpa using this
  obtain ⟨w3, hw3⟩ : ∃ w3, w2.alloc (.cells #[.string ⟨#[]⟩] 9) = w3 := ⟨_, rfl⟩
  have hz3 : w3.heap.size = w.heap.size + 3 := by rw [← hw3]; simp [hz2]
  obtain ⟨w4, hw4⟩ : ∃ w4, w3.alloc (.cells #[.slice none 0 0] 32) = w4 := ⟨_, rfl⟩
  have hz4 : w4.heap.size = w.heap.size + 4 := by rw [← hw4]; simp [hz3]
  obtain ⟨w5, hw5⟩ : ∃ w5, w4.alloc (.cells #[.int .i64 0] 3) = w5 := ⟨_, rfl⟩
  have hz5 : w5.heap.size = w.heap.size + 5 := by rw [← hw5]; simp [hz4]
  obtain ⟨w6, hw6⟩ : ∃ w6, w5.alloc (.cells #[.int .u64 0] 31) = w6 := ⟨_, rfl⟩
  have hz6 : w6.heap.size = w.heap.size + 6 := by rw [← hw6]; simp [hz5]
  obtain ⟨w1, hw1⟩ : ∃ w1, w6.alloc (.cells #[.func (.func 106) #[] #[.pointer (some ⟨w.heap.size, 0, none⟩), .pointer (some ⟨w.heap.size + 1, 0, none⟩)], .func (.func 108) #[] #[.pointer (some ⟨w.heap.size, 0, none⟩), .pointer (some ⟨w.heap.size + 1, 0, none⟩), .pointer (some ⟨w.heap.size + 2, 0, none⟩)],
    .func (.func 109) #[] #[.pointer (some ⟨w.heap.size + 2, 0, none⟩), .pointer (some ⟨w.heap.size + 3, 0, none⟩), .pointer (some ⟨w.heap.size + 4, 0, none⟩), .pointer (some ⟨w.heap.size + 5, 0, none⟩)],
    .func (.func 111) #[] #[.pointer (some ⟨w.heap.size, 0, none⟩), .pointer (some ⟨w.heap.size + 1, 0, none⟩), .pointer (some ⟨w.heap.size + 4, 0, none⟩), .pointer (some ⟨w.heap.size + 2, 0, none⟩)]] 52) = w1 := ⟨_, rfl⟩
  have hz1 : w1.heap.size = w.heap.size + 7 := by rw [← hw1]; simp [hz6]
  have hb1 : Below w.heap.size w w1 := by
    rw [← hw1, ← hw6, ← hw5, ← hw4, ← hw3]
    exact ((((hb2.alloc (by omega) _).alloc (by simp [hz2]; omega) _).alloc (by simp [hz2]; omega) _).alloc (by simp [hz2]; omega) _).alloc (by simp [hz2]; omega) _
  have up : ∀ {b : Nat} {t : TypeId} {v : Value}, Boxed w2 b t v → Boxed w1 b t v := fun hh => by
    rw [← hw1, ← hw6, ← hw5, ← hw4, ← hw3]
    exact ((((hh.alloc _).alloc _).alloc _).alloc _).alloc _
  have hx1 : OpB w1 w.heap.size (w.heap.size + 1) (w.heap.size + 2) (w.heap.size + 3) (w.heap.size + 4) (w.heap.size + 5) (w.heap.size + 6) d n := ⟨up hp2, up hq2, by rw [← hw1]; exact alloc_at' hz6.symm⟩
  have hbb : Boxed w1 (w.heap.size + 2) 9 (.string ⟨#[]⟩) := by
    rw [← hw1, ← hw6, ← hw5, ← hw4, ← hw3]
    have := Boxed.new w2 9 (.string ⟨#[]⟩)
    rw [hz2] at this
    exact (((this.alloc _).alloc _).alloc _).alloc _
  have hll : Boxed w1 (w.heap.size + 3) 32 (.slice none 0 0) := by
    rw [← hw1, ← hw6, ← hw5, ← hw4]
    have := Boxed.new w3 32 (.slice none 0 0)
    rw [hz3] at this
    exact ((this.alloc _).alloc _).alloc _
  have hss : Boxed w1 (w.heap.size + 4) 3 (.int .i64 0) := by
    rw [← hw1, ← hw6, ← hw5]
    have := Boxed.new w4 3 (.int .i64 0)
    rw [hz4] at this
    exact (this.alloc _).alloc _
  have hff : Boxed w1 (w.heap.size + 5) 31 (.int .u64 0) := by
    rw [← hw1, ← hw6]
    have := Boxed.new w5 31 (.int .u64 0)
    rw [hz5] at this
    exact this.alloc _
  have HP := Lib.hid (opens_perform h hd hwt n hn hb1 hz1 hx1 hbb hll hss hff)
  have LES : Hid (∀ i, Z i → news Z w w1 i) := Lib.hid fun i hi => .inl hi
  have hcl := cost_len (scan (st.bytes n))
  have hsl := scan_le (st.bytes n)
  have hbl := bytes_wt (h.ok hd) n
  have hLn : (scan (st.bytes n)).length ≤ 549755813888 := by omega
  have HO := Lib.hid (fun w2 k m a b => jobject_any w2 d n (by omega) k m (a' := a) (b' := b))
  have hne : ∀ k, fnum (scan (st.bytes n)) = some k → 1 ≤ (scan (st.bytes n)).length := fun k hk => by
    cases hs : scan (st.bytes n) with
    | nil => rw [hs] at hk; cases hk
    | cons a l => simp
  have HNE := Lib.hid hne
  have HE : Hid (∀ k, ck n = 0 → st.look n = 0 → fnum (scan (st.bytes n)) = some k → st.opens n = ((st.trim n (cost (scan (st.bytes n))) (st.bytes n).length).1, (st.trim n (cost (scan (st.bytes n))) (st.bytes n).length).2, k)) := Lib.hid fun k hc hk hk1 => by unfold FS.opens; rw [if_neg (by simp [hc]), if_neg (by simp [hk]), hk1]
  clear hb1 up hx1 hbb hll hss hff hp2 hq2 hb2 h hd hcl hsl hbl hne
  unfold OpI at HP
  generalize st.trim n (cost (scan (st.bytes n))) (st.bytes n).length = T at *
  generalize st.opens n = R at *
  generalize fnum (scan (st.bytes n)) = fo at *
  generalize (scan (st.bytes n)).length = ln at *
  go_enter Tryz.func82, Tryz.ntmps82
  go_wp2_with fail
  refine HP.out.mono ?_
  rintro e w8 (⟨rfl, hx, ho, k, c, A, ⟨hc, hk, hk1, hk2⟩, ht, hh, hl, hf⟩ | ⟨q, hq, rfl, hq1, hh, ho⟩)
  · have e := HE.out k hc hk hk1
    have hl1 := HNE.out k hk1
    have a1 := hx.hp.cell
    have a2 := hx.hq.cell
    have a3 := hf.cell
    have a4 := hl.cell
    have H1 := Lib.hid (hh.less LES.out)
    have H2 := Lib.hid ho
    have H3 := Lib.hid e
    have H4 := Lib.hid ht
    clear hx ho hk1 hc hk ht hh hl hf e
    go_wp2_with fail
    refine (HO.out _ k ((k + (ln - 1)) % 18446744073709551616) _ _ rfl (by simp only [IntKind.wrap_u64]; omega)).mono ?_
    rintro e w9 ⟨rfl, hbk, hb9⟩
    have H5 := Lib.hid (H1.out.adds hb9 hbk (Nat.le_refl _))
    have H6 := Lib.hid (H2.out.trans (Only.of_below (S := Off Z) hb9) fun i _ hi => hi)
    have H7 := Lib.hid H2.out.size
    clear hbk hb9
    go_wp2
    go_ret2
    exact .inl ⟨by rw [H3.out]; exact H4.out, w8.heap.size, rfl, H7.out, by rw [H3.out]; exact H5.out, H6.out⟩
  · have H1 := Lib.hid (hh.less LES.out)
    have H2 := Lib.hid ho
    have hq2 := bne_of hq
    have H3 := Lib.hid hq1
    have H4 := Lib.hid hq
    clear hh ho hq1 hq
    go_wp2
    go_ret2
    have h3 := H3.out
    subst h3
    exact .inr ⟨H4.out, rfl, H1.out, H2.out⟩
end Go.Proofs.YtmaohncddjhgeaaGreat.gn
end
