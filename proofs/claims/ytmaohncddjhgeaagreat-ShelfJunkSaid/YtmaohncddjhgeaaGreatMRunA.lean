/- Steps on a directory, one after the other until one fails: what a later package says of its rows of closures. -/
import Derived.Test.YtmaohncddjhgeaaGreatMJoA
import Derived.RangeFuncBox
section
set_option linter.unusedVariables false
namespace Go.Proofs.YtmaohncddjhgeaaGreat.fi
/-- One step after the other, until one fails. -/
def runs : List (FS → Int × FS) → FS → Int × FS
  | [], s => (0, s)
  | f :: r, s => if (f s).1 = 0 then runs r (f s).2 else f s
theorem make_wt (s : FS) (n : Nm) : (s.make n).2.wt ≤ s.wt + 1 := by
  unfold FS.make; split; · simp
  split; · simp
  split; · simp
  simp [FS.done_wt, FOp.wt]
theorem app_wt (s : FS) (n : Nm) (t : List UInt8) : (s.app n t).2.wt ≤ s.wt + (1 + t.length) := by
  unfold FS.app; split; · simp
  split; · simp
  simp [FS.done_wt, FOp.wt]
theorem rem_wt (s : FS) (n : Nm) : (s.rem n).2.wt ≤ s.wt + 1 := by
  unfold FS.rem; split; · simp
  simp [FS.done_wt, FOp.wt]
theorem ren_wt (s : FS) (n m : Nm) : (s.ren n m).2.wt ≤ s.wt + 1 := by
  unfold FS.ren; split; · simp
  split; · simp
  simp [FS.done_wt, FOp.wt]
theorem cut_wt (s : FS) (n : Nm) (k : Int) : (s.cut n k).2.wt ≤ s.wt + 1 := by
  unfold FS.cut; split; · simp
  split; · simp
  split; · simp
  simp [FS.done_wt, FOp.wt]
theorem runs_cons (f : FS → Int × FS) (r : List (FS → Int × FS)) (s : FS) : runs (f :: r) s = if (f s).1 = 0 then runs r (f s).2 else f s := rfl
end Go.Proofs.YtmaohncddjhgeaaGreat.fi

namespace Go.Proofs.YtmaohncddjhgeaaGreat.gn
open Go.RowKit
open Go.Proofs.YtmaohncddjhgeaaGreat.fi

/-- A step goes on, or ends all with its error. -/
def Stp (I : World → Prop) (F : Int → World → Prop) (e : Ending) (w' : World) : Prop :=
  (e = .returned (.int .i64 0) ∧ I w') ∨ ∃ q : Int, q ≠ 0 ∧ e = .returned (.int .i64 q) ∧ F q w'
theorem bne_of {q : Int} (h : q ≠ 0) : (q != 0) = true := by simp [h]
theorem alloc_at {w : World} {cs : Array Value} {t : TypeId} {k : Nat} (h : k = w.heap.size) : (w.alloc (.cells cs t)).heap[k]? = some (.cells cs t (0, 0)) := by rw [h]; exact heap_alloc_new w _
/-- The boxes that the steps share. -/
structure Bxs (w : World) (p q r d : Nat) (n : Nm) (t : List UInt8) : Prop where
  p : Boxed w p 25 (.pointer (some ⟨d, 0, none⟩))
  q : Boxed w q 9 (.string (str n))
  r : Boxed w r 9 (.string (str t))
theorem Bxs.kept {w w' : World} {p q r d : Nat} {n : Nm} {t : List UInt8} (h : Bxs w p q r d n t) {S : Nat → Prop} (ho : Only S w w') (h1 : ¬ S p) (h2 : ¬ S q) (h3 : ¬ S r) : Bxs w' p q r d n t :=
  ⟨(ho.block p h.p.lt h1).trans h.p, (ho.block q h.q.lt h2).trans h.q, (ho.block r h.r.lt h3).trans h.r⟩
end Go.Proofs.YtmaohncddjhgeaaGreat.gn
end
section
set_option linter.unusedVariables false
namespace Go.Proofs.YtmaohncddjhgeaaGreat.gn
open Go.RowKit
open Go.Proofs.YtmaohncddjhgeaaGreat.fi


set_option maxRecDepth 100000 in
set_option maxHeartbeats 4000000 in
theorem perform_start (I : Nat → World → Prop) (F : Int → World → Prop) (A p q r : Nat) (w : World)
    (hc : ∀ k wr, I k wr → wr.cell? ⟨A, 0, none⟩ = some (.func (.func 113) #[] #[.pointer (some ⟨p, 0, none⟩), .pointer (some ⟨q, 0, none⟩)]) ∧ wr.cell? ⟨A, 1, none⟩ = some (.func (.func 114) #[] #[.pointer (some ⟨p, 0, none⟩), .pointer (some ⟨q, 0, none⟩)]) ∧ wr.cell? ⟨A, 2, none⟩ = some (.func (.func 116) #[] #[.pointer (some ⟨p, 0, none⟩), .pointer (some ⟨q, 0, none⟩)]) ∧ wr.cell? ⟨A, 3, none⟩ = some (.func (.func 117) #[] #[.pointer (some ⟨p, 0, none⟩), .pointer (some ⟨q, 0, none⟩), .pointer (some ⟨r, 0, none⟩)]) ∧ wr.cell? ⟨A, 4, none⟩ = some (.func (.func 118) #[] #[.pointer (some ⟨p, 0, none⟩)]) ∧ wr.cell? ⟨A, 5, none⟩ = some (.func (.func 119) #[] #[.pointer (some ⟨p, 0, none⟩), .pointer (some ⟨q, 0, none⟩)]) ∧ wr.cell? ⟨A, 6, none⟩ = some (.func (.func 120) #[] #[.pointer (some ⟨p, 0, none⟩)]))
    (h0 : I 0 w)
    (s0 : ∀ wr, I 0 wr → Calls Tryz.prog 113 #[.pointer (some ⟨p, 0, none⟩), .pointer (some ⟨q, 0, none⟩)] wr (Stp (I 1) F))
    (s1 : ∀ wr, I 1 wr → Calls Tryz.prog 114 #[.pointer (some ⟨p, 0, none⟩), .pointer (some ⟨q, 0, none⟩)] wr (Stp (I 2) F))
    (s2 : ∀ wr, I 2 wr → Calls Tryz.prog 116 #[.pointer (some ⟨p, 0, none⟩), .pointer (some ⟨q, 0, none⟩)] wr (Stp (I 3) F))
    (s3 : ∀ wr, I 3 wr → Calls Tryz.prog 117 #[.pointer (some ⟨p, 0, none⟩), .pointer (some ⟨q, 0, none⟩), .pointer (some ⟨r, 0, none⟩)] wr (Stp (I 4) F))
    (s4 : ∀ wr, I 4 wr → Calls Tryz.prog 118 #[.pointer (some ⟨p, 0, none⟩)] wr (Stp (I 5) F))
    (s5 : ∀ wr, I 5 wr → Calls Tryz.prog 119 #[.pointer (some ⟨p, 0, none⟩), .pointer (some ⟨q, 0, none⟩)] wr (Stp (I 6) F))
    (s6 : ∀ wr, I 6 wr → Calls Tryz.prog 120 #[.pointer (some ⟨p, 0, none⟩)] wr (Stp (I 7) F)) :
    Calls Tryz.prog 65 #[.slice (some ⟨A, 0, none⟩) 7 7] w (Stp (I 7) F) := by
  have HC := Lib.hid hc
  have S0 := Lib.hid s0
  have S1 := Lib.hid s1
  have S2 := Lib.hid s2
  have S3 := Lib.hid s3
  have S4 := Lib.hid s4
  have S5 := Lib.hid s5
  have S6 := Lib.hid s6
  clear hc s0 s1 s2 s3 s4 s5 s6
  go_enter Tryz.func65, Tryz.ntmps65
  go_wp2
  go_loopw [8] (fun v8 wr => ∃ k : Nat, k ≤ 7 ∧ v8 = .int .i64 (k : Int) ∧ I k wr) (fun v8 _ => 7 - (intOf v8).toNat)
  case atStart => exact ⟨0, by omega, rfl, h0⟩
  case round =>
    obtain ⟨k, hk, rfl, hI⟩ := hrel
    obtain ⟨a0, a1, a2, a3, a4, a5, a6⟩ := HC.out k _ hI
    have HI := Lib.hid hI
    clear hI h0
    obtain rfl | rfl | rfl | rfl | rfl | rfl | rfl | rfl : k = 0 ∨ k = 1 ∨ k = 2 ∨ k = 3 ∨ k = 4 ∨ k = 5 ∨ k = 6 ∨ k = 7 := by omega
    · go_wp2_with fail
      refine (S0.out _ HI.out).mono ?_
      rintro e w1 (⟨rfl, h1⟩ | ⟨q, hq, rfl, h1⟩)
      · clear a0 a1 a2 a3 a4 a5 a6
        have H1 := Lib.hid h1
        clear h1
        go_wp2
        go_roundw
        case rel => exact ⟨1, by omega, by go_num, H1.out⟩
        case measure => simp [intOf]
      · clear a0 a1 a2 a3 a4 a5 a6
        have H1 := Lib.hid h1
        have hq2 := bne_of hq
        clear h1
        go_wp2
        go_ret
        exact .inr ⟨q, hq, rfl, H1.out⟩
    · go_wp2_with fail
      refine (S1.out _ HI.out).mono ?_
      rintro e w1 (⟨rfl, h1⟩ | ⟨q, hq, rfl, h1⟩)
      · clear a0 a1 a2 a3 a4 a5 a6
        have H1 := Lib.hid h1
        clear h1
        go_wp2
        go_roundw
        case rel => exact ⟨2, by omega, by go_num, H1.out⟩
        case measure => simp [intOf]
      · clear a0 a1 a2 a3 a4 a5 a6
        have H1 := Lib.hid h1
        have hq2 := bne_of hq
        clear h1
        go_wp2
        go_ret
        exact .inr ⟨q, hq, rfl, H1.out⟩
    · go_wp2_with fail
      refine (S2.out _ HI.out).mono ?_
      rintro e w1 (⟨rfl, h1⟩ | ⟨q, hq, rfl, h1⟩)
      · clear a0 a1 a2 a3 a4 a5 a6
        have H1 := Lib.hid h1
        clear h1
        go_wp2
        go_roundw
        case rel => exact ⟨3, by omega, by go_num, H1.out⟩
        case measure => simp [intOf]
      · clear a0 a1 a2 a3 a4 a5 a6
        have H1 := Lib.hid h1
        have hq2 := bne_of hq
        clear h1
        go_wp2
        go_ret
        exact .inr ⟨q, hq, rfl, H1.out⟩
    · go_wp2_with fail
      refine (S3.out _ HI.out).mono ?_
      rintro e w1 (⟨rfl, h1⟩ | ⟨q, hq, rfl, h1⟩)
      · clear a0 a1 a2 a3 a4 a5 a6
        have H1 := Lib.hid h1
        clear h1
        go_wp2
        go_roundw
        case rel => exact ⟨4, by omega, by go_num, H1.out⟩
        case measure => simp [intOf]
      · clear a0 a1 a2 a3 a4 a5 a6
        have H1 := Lib.hid h1
        have hq2 := bne_of hq
        clear h1
        go_wp2
        go_ret
        exact .inr ⟨q, hq, rfl, H1.out⟩
    · go_wp2_with fail
      refine (S4.out _ HI.out).mono ?_
      rintro e w1 (⟨rfl, h1⟩ | ⟨q, hq, rfl, h1⟩)
      · clear a0 a1 a2 a3 a4 a5 a6
        have H1 := Lib.hid h1
        clear h1
        go_wp2
        go_roundw
        case rel => exact ⟨5, by omega, by go_num, H1.out⟩
        case measure => simp [intOf]
      · clear a0 a1 a2 a3 a4 a5 a6
        have H1 := Lib.hid h1
        have hq2 := bne_of hq
        clear h1
        go_wp2
        go_ret
        exact .inr ⟨q, hq, rfl, H1.out⟩
    · go_wp2_with fail
      refine (S5.out _ HI.out).mono ?_
      rintro e w1 (⟨rfl, h1⟩ | ⟨q, hq, rfl, h1⟩)
      · clear a0 a1 a2 a3 a4 a5 a6
        have H1 := Lib.hid h1
        clear h1
        go_wp2
        go_roundw
        case rel => exact ⟨6, by omega, by go_num, H1.out⟩
        case measure => simp [intOf]
      · clear a0 a1 a2 a3 a4 a5 a6
        have H1 := Lib.hid h1
        have hq2 := bne_of hq
        clear h1
        go_wp2
        go_ret
        exact .inr ⟨q, hq, rfl, H1.out⟩
    · go_wp2_with fail
      refine (S6.out _ HI.out).mono ?_
      rintro e w1 (⟨rfl, h1⟩ | ⟨q, hq, rfl, h1⟩)
      · clear a0 a1 a2 a3 a4 a5 a6
        have H1 := Lib.hid h1
        clear h1
        go_wp2
        go_roundw
        case rel => exact ⟨7, by omega, by go_num, H1.out⟩
        case measure => simp [intOf]
      · clear a0 a1 a2 a3 a4 a5 a6
        have H1 := Lib.hid h1
        have hq2 := bne_of hq
        clear h1
        go_wp2
        go_ret
        exact .inr ⟨q, hq, rfl, H1.out⟩
    · go_wp2
      go_ret
      exact .inl ⟨rfl, HI.out⟩

set_option maxRecDepth 100000 in
set_option maxHeartbeats 4000000 in
theorem perform_open (I : Nat → World → Prop) (F : Int → World → Prop) (A p q b l s f : Nat) (w : World)
    (hc : ∀ k wr, I k wr → wr.cell? ⟨A, 0, none⟩ = some (.func (.func 106) #[] #[.pointer (some ⟨p, 0, none⟩), .pointer (some ⟨q, 0, none⟩)]) ∧ wr.cell? ⟨A, 1, none⟩ = some (.func (.func 108) #[] #[.pointer (some ⟨p, 0, none⟩), .pointer (some ⟨q, 0, none⟩), .pointer (some ⟨b, 0, none⟩)]) ∧ wr.cell? ⟨A, 2, none⟩ = some (.func (.func 109) #[] #[.pointer (some ⟨b, 0, none⟩), .pointer (some ⟨l, 0, none⟩), .pointer (some ⟨s, 0, none⟩), .pointer (some ⟨f, 0, none⟩)]) ∧ wr.cell? ⟨A, 3, none⟩ = some (.func (.func 111) #[] #[.pointer (some ⟨p, 0, none⟩), .pointer (some ⟨q, 0, none⟩), .pointer (some ⟨s, 0, none⟩), .pointer (some ⟨b, 0, none⟩)]))
    (h0 : I 0 w)
    (s0 : ∀ wr, I 0 wr → Calls Tryz.prog 106 #[.pointer (some ⟨p, 0, none⟩), .pointer (some ⟨q, 0, none⟩)] wr (Stp (I 1) F))
    (s1 : ∀ wr, I 1 wr → Calls Tryz.prog 108 #[.pointer (some ⟨p, 0, none⟩), .pointer (some ⟨q, 0, none⟩), .pointer (some ⟨b, 0, none⟩)] wr (Stp (I 2) F))
    (s2 : ∀ wr, I 2 wr → Calls Tryz.prog 109 #[.pointer (some ⟨b, 0, none⟩), .pointer (some ⟨l, 0, none⟩), .pointer (some ⟨s, 0, none⟩), .pointer (some ⟨f, 0, none⟩)] wr (Stp (I 3) F))
    (s3 : ∀ wr, I 3 wr → Calls Tryz.prog 111 #[.pointer (some ⟨p, 0, none⟩), .pointer (some ⟨q, 0, none⟩), .pointer (some ⟨s, 0, none⟩), .pointer (some ⟨b, 0, none⟩)] wr (Stp (I 4) F)) :
    Calls Tryz.prog 65 #[.slice (some ⟨A, 0, none⟩) 4 4] w (Stp (I 4) F) := by
  have HC := Lib.hid hc
  have S0 := Lib.hid s0
  have S1 := Lib.hid s1
  have S2 := Lib.hid s2
  have S3 := Lib.hid s3
  clear hc s0 s1 s2 s3
  go_enter Tryz.func65, Tryz.ntmps65
  go_wp2
  go_loopw [8] (fun v8 wr => ∃ k : Nat, k ≤ 4 ∧ v8 = .int .i64 (k : Int) ∧ I k wr) (fun v8 _ => 4 - (intOf v8).toNat)
  case atStart => exact ⟨0, by omega, rfl, h0⟩
  case round =>
    obtain ⟨k, hk, rfl, hI⟩ := hrel
    obtain ⟨a0, a1, a2, a3⟩ := HC.out k _ hI
    have HI := Lib.hid hI
    clear hI h0
    obtain rfl | rfl | rfl | rfl | rfl : k = 0 ∨ k = 1 ∨ k = 2 ∨ k = 3 ∨ k = 4 := by omega
    · go_wp2_with fail
      refine (S0.out _ HI.out).mono ?_
      rintro e w1 (⟨rfl, h1⟩ | ⟨q, hq, rfl, h1⟩)
      · clear a0 a1 a2 a3
        have H1 := Lib.hid h1
        clear h1
        go_wp2
        go_roundw
        case rel => exact ⟨1, by omega, by go_num, H1.out⟩
        case measure => simp [intOf]
      · clear a0 a1 a2 a3
        have H1 := Lib.hid h1
        have hq2 := bne_of hq
        clear h1
        go_wp2
        go_ret
        exact .inr ⟨q, hq, rfl, H1.out⟩
    · go_wp2_with fail
      refine (S1.out _ HI.out).mono ?_
      rintro e w1 (⟨rfl, h1⟩ | ⟨q, hq, rfl, h1⟩)
      · clear a0 a1 a2 a3
        have H1 := Lib.hid h1
        clear h1
        go_wp2
        go_roundw
        case rel => exact ⟨2, by omega, by go_num, H1.out⟩
        case measure => simp [intOf]
      · clear a0 a1 a2 a3
        have H1 := Lib.hid h1
        have hq2 := bne_of hq
        clear h1
        go_wp2
        go_ret
        exact .inr ⟨q, hq, rfl, H1.out⟩
    · go_wp2_with fail
      refine (S2.out _ HI.out).mono ?_
      rintro e w1 (⟨rfl, h1⟩ | ⟨q, hq, rfl, h1⟩)
      · clear a0 a1 a2 a3
        have H1 := Lib.hid h1
        clear h1
        go_wp2
        go_roundw
        case rel => exact ⟨3, by omega, by go_num, H1.out⟩
        case measure => simp [intOf]
      · clear a0 a1 a2 a3
        have H1 := Lib.hid h1
        have hq2 := bne_of hq
        clear h1
        go_wp2
        go_ret
        exact .inr ⟨q, hq, rfl, H1.out⟩
    · go_wp2_with fail
      refine (S3.out _ HI.out).mono ?_
      rintro e w1 (⟨rfl, h1⟩ | ⟨q, hq, rfl, h1⟩)
      · clear a0 a1 a2 a3
        have H1 := Lib.hid h1
        clear h1
        go_wp2
        go_roundw
        case rel => exact ⟨4, by omega, by go_num, H1.out⟩
        case measure => simp [intOf]
      · clear a0 a1 a2 a3
        have H1 := Lib.hid h1
        have hq2 := bne_of hq
        clear h1
        go_wp2
        go_ret
        exact .inr ⟨q, hq, rfl, H1.out⟩
    · go_wp2
      go_ret
      exact .inl ⟨rfl, HI.out⟩

set_option maxRecDepth 100000 in
set_option maxHeartbeats 4000000 in
theorem perform_append (I : Nat → World → Prop) (F : Int → World → Prop) (A p q b : Nat) (w : World)
    (hc : ∀ k wr, I k wr → wr.cell? ⟨A, 0, none⟩ = some (.func (.func 66) #[] #[.pointer (some ⟨q, 0, none⟩), .pointer (some ⟨b, 0, none⟩)]) ∧ wr.cell? ⟨A, 1, none⟩ = some (.func (.func 68) #[] #[.pointer (some ⟨p, 0, none⟩), .pointer (some ⟨b, 0, none⟩)]) ∧ wr.cell? ⟨A, 2, none⟩ = some (.func (.func 69) #[] #[.pointer (some ⟨p, 0, none⟩), .pointer (some ⟨q, 0, none⟩)]))
    (h0 : I 0 w)
    (s0 : ∀ wr, I 0 wr → Calls Tryz.prog 66 #[.pointer (some ⟨q, 0, none⟩), .pointer (some ⟨b, 0, none⟩)] wr (Stp (I 1) F))
    (s1 : ∀ wr, I 1 wr → Calls Tryz.prog 68 #[.pointer (some ⟨p, 0, none⟩), .pointer (some ⟨b, 0, none⟩)] wr (Stp (I 2) F))
    (s2 : ∀ wr, I 2 wr → Calls Tryz.prog 69 #[.pointer (some ⟨p, 0, none⟩), .pointer (some ⟨q, 0, none⟩)] wr (Stp (I 3) F)) :
    Calls Tryz.prog 65 #[.slice (some ⟨A, 0, none⟩) 3 3] w (Stp (I 3) F) := by
  have HC := Lib.hid hc
  have S0 := Lib.hid s0
  have S1 := Lib.hid s1
  have S2 := Lib.hid s2
  clear hc s0 s1 s2
  go_enter Tryz.func65, Tryz.ntmps65
  go_wp2
  go_loopw [8] (fun v8 wr => ∃ k : Nat, k ≤ 3 ∧ v8 = .int .i64 (k : Int) ∧ I k wr) (fun v8 _ => 3 - (intOf v8).toNat)
  case atStart => exact ⟨0, by omega, rfl, h0⟩
  case round =>
    obtain ⟨k, hk, rfl, hI⟩ := hrel
    obtain ⟨a0, a1, a2⟩ := HC.out k _ hI
    have HI := Lib.hid hI
    clear hI h0
    obtain rfl | rfl | rfl | rfl : k = 0 ∨ k = 1 ∨ k = 2 ∨ k = 3 := by omega
    · go_wp2_with fail
      refine (S0.out _ HI.out).mono ?_
      rintro e w1 (⟨rfl, h1⟩ | ⟨q, hq, rfl, h1⟩)
      · clear a0 a1 a2
        have H1 := Lib.hid h1
        clear h1
        go_wp2
        go_roundw
        case rel => exact ⟨1, by omega, by go_num, H1.out⟩
        case measure => simp [intOf]
      · clear a0 a1 a2
        have H1 := Lib.hid h1
        have hq2 := bne_of hq
        clear h1
        go_wp2
        go_ret
        exact .inr ⟨q, hq, rfl, H1.out⟩
    · go_wp2_with fail
      refine (S1.out _ HI.out).mono ?_
      rintro e w1 (⟨rfl, h1⟩ | ⟨q, hq, rfl, h1⟩)
      · clear a0 a1 a2
        have H1 := Lib.hid h1
        clear h1
        go_wp2
        go_roundw
        case rel => exact ⟨2, by omega, by go_num, H1.out⟩
        case measure => simp [intOf]
      · clear a0 a1 a2
        have H1 := Lib.hid h1
        have hq2 := bne_of hq
        clear h1
        go_wp2
        go_ret
        exact .inr ⟨q, hq, rfl, H1.out⟩
    · go_wp2_with fail
      refine (S2.out _ HI.out).mono ?_
      rintro e w1 (⟨rfl, h1⟩ | ⟨q, hq, rfl, h1⟩)
      · clear a0 a1 a2
        have H1 := Lib.hid h1
        clear h1
        go_wp2
        go_roundw
        case rel => exact ⟨3, by omega, by go_num, H1.out⟩
        case measure => simp [intOf]
      · clear a0 a1 a2
        have H1 := Lib.hid h1
        have hq2 := bne_of hq
        clear h1
        go_wp2
        go_ret
        exact .inr ⟨q, hq, rfl, H1.out⟩
    · go_wp2
      go_ret
      exact .inl ⟨rfl, HI.out⟩

set_option maxRecDepth 100000 in
set_option maxHeartbeats 4000000 in
theorem perform_cutOff (I : Nat → World → Prop) (F : Int → World → Prop) (A p q r : Nat) (w : World)
    (hc : ∀ k wr, I k wr → wr.cell? ⟨A, 0, none⟩ = some (.func (.func 132) #[] #[.pointer (some ⟨p, 0, none⟩), .pointer (some ⟨q, 0, none⟩), .pointer (some ⟨r, 0, none⟩)]) ∧ wr.cell? ⟨A, 1, none⟩ = some (.func (.func 134) #[] #[.pointer (some ⟨p, 0, none⟩)]))
    (h0 : I 0 w)
    (s0 : ∀ wr, I 0 wr → Calls Tryz.prog 132 #[.pointer (some ⟨p, 0, none⟩), .pointer (some ⟨q, 0, none⟩), .pointer (some ⟨r, 0, none⟩)] wr (Stp (I 1) F))
    (s1 : ∀ wr, I 1 wr → Calls Tryz.prog 134 #[.pointer (some ⟨p, 0, none⟩)] wr (Stp (I 2) F)) :
    Calls Tryz.prog 65 #[.slice (some ⟨A, 0, none⟩) 2 2] w (Stp (I 2) F) := by
  have HC := Lib.hid hc
  have S0 := Lib.hid s0
  have S1 := Lib.hid s1
  clear hc s0 s1
  go_enter Tryz.func65, Tryz.ntmps65
  go_wp2
  go_loopw [8] (fun v8 wr => ∃ k : Nat, k ≤ 2 ∧ v8 = .int .i64 (k : Int) ∧ I k wr) (fun v8 _ => 2 - (intOf v8).toNat)
  case atStart => exact ⟨0, by omega, rfl, h0⟩
  case round =>
    obtain ⟨k, hk, rfl, hI⟩ := hrel
    obtain ⟨a0, a1⟩ := HC.out k _ hI
    have HI := Lib.hid hI
    clear hI h0
    obtain rfl | rfl | rfl : k = 0 ∨ k = 1 ∨ k = 2 := by omega
    · go_wp2_with fail
      refine (S0.out _ HI.out).mono ?_
      rintro e w1 (⟨rfl, h1⟩ | ⟨q, hq, rfl, h1⟩)
      · clear a0 a1
        have H1 := Lib.hid h1
        clear h1
        go_wp2
        go_roundw
        case rel => exact ⟨1, by omega, by go_num, H1.out⟩
        case measure => simp [intOf]
      · clear a0 a1
        have H1 := Lib.hid h1
        have hq2 := bne_of hq
        clear h1
        go_wp2
        go_ret
        exact .inr ⟨q, hq, rfl, H1.out⟩
    · go_wp2_with fail
      refine (S1.out _ HI.out).mono ?_
      rintro e w1 (⟨rfl, h1⟩ | ⟨q, hq, rfl, h1⟩)
      · clear a0 a1
        have H1 := Lib.hid h1
        clear h1
        go_wp2
        go_roundw
        case rel => exact ⟨2, by omega, by go_num, H1.out⟩
        case measure => simp [intOf]
      · clear a0 a1
        have H1 := Lib.hid h1
        have hq2 := bne_of hq
        clear h1
        go_wp2
        go_ret
        exact .inr ⟨q, hq, rfl, H1.out⟩
    · go_wp2
      go_ret
      exact .inl ⟨rfl, HI.out⟩

end Go.Proofs.YtmaohncddjhgeaaGreat.gn
end
section
set_option linter.unusedVariables false
set_option linter.unusedSectionVars false
namespace Go.Proofs.YtmaohncddjhgeaaGreat.fi
/-- The error of a journal's name. -/
def ck (n : Nm) : Int := if n = [] ∨ 32 < n.length + 1 then 2 else 0
/-- A file is removed if it is there. -/
def FS.remi (s : FS) (n : Nm) : Int × FS := (if (s.rem n).1 = 7 then 0 else (s.rem n).1, (s.rem n).2)
theorem make_empty (s : FS) : s.make [] = (2, s) := by simp [FS.make, FS.look, valid]
end Go.Proofs.YtmaohncddjhgeaaGreat.fi

namespace Go.Proofs.YtmaohncddjhgeaaGreat.gn
open Go.RowKit
open Go.Proofs.YtmaohncddjhgeaaGreat.fi

theorem journalInfo : ∃ j, Tryz.prog.info? 111 = some j := by
  have h : (Tryz.prog.info? 111).isSome = true := by kernel_rfl
  exact Option.isSome_iff_exists.1 h
set_option maxRecDepth 100000 in
set_option maxHeartbeats 1000000 in
theorem jis_any (w : World) (j : Nat) (hc : w.cell? ⟨j, 1, none⟩ = some (.pointer (some ⟨j, 0, none⟩))) :
    Calls Tryz.prog 64 #[.pointer (some ⟨j, 0, none⟩)] w fun e w' => e = .returned (.bool true) ∧ w = w' := by
  obtain ⟨i, hj⟩ := journalInfo
  have heq := run_eql_ptr_same (P := Tryz.prog) w ⟨j, 0, none⟩ Tryz.underlying74 hj
  clear hj
  go_enter Tryz.func64, Tryz.ntmps64
  go_wp2
  go_ret
  exact ⟨rfl, rfl⟩

set_option maxRecDepth 100000 in
set_option maxHeartbeats 1000000 in
theorem jobject_any (w : World) (d : Nat) (n : Nm) (hn : n.length ≤ 281474976710656) (a b : Nat) {a' b' : Int} (ha : a' = (a : Int)) (hb : b' = (b : Int)) :
    Calls Tryz.prog 84 #[.agg #[.pointer (some ⟨d, 0, none⟩), .pointer none, .string (str n), .int .u64 a', .int .u64 b']] w fun e w' =>
      e = .returned (.pointer (some ⟨w.heap.size, 0, none⟩)) ∧ BlkJ w' w.heap.size ⟨d, n, a, b⟩ ∧ Below w.heap.size w w' := by
  subst ha hb
  have hss : (str n).size ≤ 281474976710656 := by rw [str_size]; exact hn
  obtain ⟨w1, hw1⟩ : ∃ w1, w.alloc (.cells #[.pointer (some ⟨d, 0, none⟩), .pointer none, .string (str n), .int .u64 (a : Int), .int .u64 (b : Int)] 111) = w1 := ⟨_, rfl⟩
  have hz : w1.heap.size = w.heap.size + 1 := by rw [← hw1]; simp
  have hb0 : Below w.heap.size w w1 := by rw [← hw1]; exact (Below.refl _ w).alloc (Nat.le_refl _) _
  have hk0 : w1.heap[w.heap.size]? = some (.cells #[.pointer (some ⟨d, 0, none⟩), .pointer none, .string (str n), .int .u64 (a : Int), .int .u64 (b : Int)] 111 (0, 0)) := by rw [← hw1]; exact heap_alloc_new w _
  have hk1 := heap_setCell hk0 (j := 1) (.pointer (some ⟨w.heap.size, 0, none⟩))
  have hc2 : (w1.setCell ⟨w.heap.size, 1, none⟩ (.pointer (some ⟨w.heap.size, 0, none⟩))).cell? ⟨w.heap.size, 2, none⟩ = some (.string (str n)) := by rw [cell_of_row _ _ 2 _ _ _ hk1]; rfl
  have hf1 := frozen_of_row w1 w.heap.size 1 _ _ hk0
  have hd1 : w1.cell? ⟨w.heap.size, 1, none⟩ = some (.pointer none) := by rw [cell_of_row _ _ 1 _ _ _ hk0]; rfl
  have hb1 : Below w.heap.size w (w1.setCell ⟨w.heap.size, 1, none⟩ (.pointer (some ⟨w.heap.size, 0, none⟩))) := hb0.setCell (Nat.le_refl _) _
  have HK := Lib.hid hk1
  have HB := Lib.hid hb1
  have hz2 : (w1.setCell ⟨w.heap.size, 1, none⟩ (.pointer (some ⟨w.heap.size, 0, none⟩))).heap.size = w.heap.size + 1 := by rw [← hz]; simp [World.setCell]
  have HZ := Lib.hid hz2
  clear hb0 hk0 hk1 hb1 hz2
  go_enter Tryz.func84, Tryz.ntmps84
  go_wp2_with fail
  refine (clone_any (str n) _ (by omega)).mono ?_
  rintro e w2 ⟨rfl, hb2⟩
  have hk2 := (hb2.block w.heap.size (by rw [HZ.out]; omega)).trans HK.out
  have hf2 := frozen_of_row w2 w.heap.size 2 _ _ hk2
  have hd2 : w2.cell? ⟨w.heap.size, 2, none⟩ = some (.string (str n)) := by rw [cell_of_row _ _ 2 _ _ _ hk2]; rfl
  have HK2 := Lib.hid (heap_setCell hk2 (j := 2) (.string (str n)))
  have HB2 := Lib.hid (HB.out.trans (hb2.mono (by rw [HZ.out]; omega)))
  clear hb2 hk2 hc2 hf1 hd1
  go_wp2
  go_ret
  exact ⟨rfl, HK2.out, HB2.out.setCell (Nat.le_refl _) _⟩

set_option maxRecDepth 100000 in
set_option maxHeartbeats 2000000 in
theorem jcheck_any {Z : Nat → Prop} {w : World} {D : Nat → Option FS} {J : Nat → Option Jn} (h : Hold Z w D J) {d : Nat} {s : FS} (hd : D d = some s) (hwt : s.wt ≤ 549755813888) (n : Nm) (hn : n.length ≤ 281474976710656) :
    Calls Tryz.prog 107 #[.pointer (some ⟨d, 0, none⟩), .string (str n)] w (Went Z D J (.int .i64 (ck n)) w) := by
  have hm := make_h h hd hwt [] (by decide)
  rw [make_empty, upd_self hd] at hm
  have HM : Calls Tryz.prog 18 #[.pointer (some ⟨d, 0, none⟩), .string ⟨#[]⟩] w (Went Z D J (.int .i64 2) w) := hm
  clear hm h hd
  have hss : (str n).size = n.length := str_size n
  by_cases h0 : n = []
  · have hk : ck n = 2 := if_pos (.inl h0)
    have he : (str n).toList.isEmpty = true := by rw [str_toList, h0]; rfl
    rw [hk]
    clear h0 hk
    generalize str n = b at *
    go_enter Tryz.func107, Tryz.ntmps107
    go_wp2_with (go_at_call 18; ((with_reducible refine HM.mono ?_); rintro e w1 ⟨rfl, hh, ho⟩))
    go_ret
    exact ⟨rfl, hh, ho⟩
  · have he : (str n).toList.isEmpty = false := by
      rw [str_toList]
      cases n with
      | nil => exact absurd rfl h0
      | cons c r => rfl
    by_cases h1 : 32 < n.length + 1
    · have hk : ck n = 2 := if_pos (.inr h1)
      rw [hk]
      clear h0 hk
      generalize str n = b at *
      go_enter Tryz.func107, Tryz.ntmps107
      go_wp2_with (go_at_call 18; ((with_reducible refine HM.mono ?_); rintro e w1 ⟨rfl, hh, ho⟩))
      go_ret
      exact ⟨rfl, hh, ho⟩
    · have hk : ck n = 0 := if_neg fun h => h.elim h0 h1
      rw [hk]
      clear h0 hk
      generalize str n = b at *
      go_enter Tryz.func107, Tryz.ntmps107
      go_wp2_with (go_at_call 18; ((with_reducible refine HM.mono ?_); rintro e w1 ⟨rfl, hh, ho⟩))
      go_ret
      exact ⟨rfl, hh, ho⟩

set_option maxRecDepth 100000 in
set_option maxHeartbeats 2000000 in
theorem remi_any {Z : Nat → Prop} {w : World} {D : Nat → Option FS} {J : Nat → Option Jn} (h : Hold Z w D J) {d : Nat} {s : FS} (hd : D d = some s) (hwt : s.wt ≤ 549755813888) (n : Nm) (hn : n.length ≤ 281474976710656) :
    Calls Tryz.prog 115 #[.pointer (some ⟨d, 0, none⟩), .string (str n)] w (Went Z (upd D d (s.remi n).2) J (.int .i64 (s.remi n).1) w) := by
  have HM := remove_h h hd hwt n hn
  clear h hd
  show Calls _ _ _ _ (Went Z (upd D d (s.rem n).2) J (.int .i64 (if (s.rem n).1 = 7 then 0 else (s.rem n).1)) w)
  generalize (s.rem n).1 = q at *
  generalize (s.rem n).2 = s' at *
  by_cases hq : q = 7
  · rw [if_pos hq]
    subst hq
    go_enter Tryz.func115, Tryz.ntmps115
    go_wp2_with (go_at_call 126; ((with_reducible refine HM.mono ?_); rintro e w1 ⟨rfl, hh, ho⟩))
    go_ret
    exact ⟨rfl, hh, ho⟩
  · rw [if_neg hq]
    have hq2 : (q != 7) = true := by simp [hq]
    go_enter Tryz.func115, Tryz.ntmps115
    go_wp2_with (go_at_call 126; ((with_reducible refine HM.mono ?_); rintro e w1 ⟨rfl, hh, ho⟩))
    go_ret
    exact ⟨rfl, hh, ho⟩

set_option maxRecDepth 100000
set_option maxHeartbeats 1000000
section
variable {Z : Nat → Prop} {w : World} {D : Nat → Option FS} {J : Nat → Option Jn} (h : Hold Z w D J) {d : Nat} {s : FS} (hd : D d = some s) (hwt : s.wt ≤ 549755813888) {p q r : Nat} {n : Nm} {t : List UInt8} (hb : Bxs w p q r d n t) (hn : n.length ≤ 1000000)
include h hd hwt hb hn
theorem sta1 : Calls Tryz.prog 113 #[.pointer (some ⟨p, 0, none⟩), .pointer (some ⟨q, 0, none⟩)] w (Went Z (upd D d s) J (.int .i64 (ck n)) w) := by
  have HM := jcheck_any h hd hwt n (by omega)
  have c1 := hb.p.cell
  have c2 := hb.q.cell
  rw [upd_self hd]
  clear h hd hb
  go_enter Tryz.func113, Tryz.ntmps113
  go_wp2_with (go_at_call 107; ((with_reducible refine HM.mono ?_); rintro e w1 ⟨rfl, hh, ho⟩))
  go_ret
  exact ⟨rfl, hh, ho⟩
theorem sta2 : Calls Tryz.prog 114 #[.pointer (some ⟨p, 0, none⟩), .pointer (some ⟨q, 0, none⟩)] w (Went Z (upd D d (s.remi (n ++ [126])).2) J (.int .i64 (s.remi (n ++ [126])).1) w) := by
  have HM := remi_any h hd hwt (n ++ [126]) (by simp; omega)
  have hcat : str n ++ (⟨#[126]⟩ : ByteArray) = str (n ++ [126]) := str_app n [126]
  have hss : (str n).size ≤ 1000000 := by rw [str_size]; exact hn
  have c1 := hb.p.cell
  have c2 := hb.q.cell
  clear h hd hb
  rw [← hcat] at HM
  generalize (s.remi (n ++ [126])).1 = q at *
  generalize (s.remi (n ++ [126])).2 = s' at *
  clear hcat
  generalize str n = b at *
  go_enter Tryz.func114, Tryz.ntmps114
  go_wp2_with (go_at_call 115; ((with_reducible refine HM.mono ?_); rintro e w1 ⟨rfl, hh, ho⟩))
  go_ret
  exact ⟨rfl, hh, ho⟩
theorem sta3 : Calls Tryz.prog 116 #[.pointer (some ⟨p, 0, none⟩), .pointer (some ⟨q, 0, none⟩)] w (Went Z (upd D d (s.make (n ++ [126])).2) J (.int .i64 (s.make (n ++ [126])).1) w) := by
  have HM := make_h h hd hwt (n ++ [126]) (by simp; omega)
  have hcat : str n ++ (⟨#[126]⟩ : ByteArray) = str (n ++ [126]) := str_app n [126]
  have hss : (str n).size ≤ 1000000 := by rw [str_size]; exact hn
  have c1 := hb.p.cell
  have c2 := hb.q.cell
  clear h hd hb
  rw [← hcat] at HM
  generalize (s.make (n ++ [126])).1 = q at *
  generalize (s.make (n ++ [126])).2 = s' at *
  clear hcat
  generalize str n = b at *
  go_enter Tryz.func116, Tryz.ntmps116
  go_wp2_with (go_at_call 18; ((with_reducible refine HM.mono ?_); rintro e w1 ⟨rfl, hh, ho⟩))
  go_ret
  exact ⟨rfl, hh, ho⟩
theorem sta4 (ht : t.length ≤ 1000000) : Calls Tryz.prog 117 #[.pointer (some ⟨p, 0, none⟩), .pointer (some ⟨q, 0, none⟩), .pointer (some ⟨r, 0, none⟩)] w (Went Z (upd D d (s.app (n ++ [126]) t).2) J (.int .i64 (s.app (n ++ [126]) t).1) w) := by
  have HM := append_h h hd hwt (n ++ [126]) (by simp; omega) t (by omega)
  have hcat : str n ++ (⟨#[126]⟩ : ByteArray) = str (n ++ [126]) := str_app n [126]
  have hss : (str n).size ≤ 1000000 := by rw [str_size]; exact hn
  have c1 := hb.p.cell
  have c2 := hb.q.cell
  have c3 := hb.r.cell
  clear h hd hb
  rw [← hcat] at HM
  generalize (s.app (n ++ [126]) t).1 = q at *
  generalize (s.app (n ++ [126]) t).2 = s' at *
  clear hcat
  generalize str n = b at *
  go_enter Tryz.func117, Tryz.ntmps117
  go_wp2_with (go_at_call 19; ((with_reducible refine HM.mono ?_); rintro e w1 ⟨rfl, hh, ho⟩))
  go_ret
  exact ⟨rfl, hh, ho⟩
theorem sta5 : Calls Tryz.prog 118 #[.pointer (some ⟨p, 0, none⟩)] w (Went Z (upd D d s.sync) J (.int .i64 0) w) := by
  have HM := sync_h h hd hwt
  have c1 := hb.p.cell
  clear h hd hb
  go_enter Tryz.func118, Tryz.ntmps118
  go_wp2_with (go_at_call 20; ((with_reducible refine HM.mono ?_); rintro e w1 ⟨rfl, hh, ho⟩))
  go_ret
  exact ⟨rfl, hh, ho⟩
theorem sta6 : Calls Tryz.prog 119 #[.pointer (some ⟨p, 0, none⟩), .pointer (some ⟨q, 0, none⟩)] w (Went Z (upd D d (s.ren (n ++ [126]) n).2) J (.int .i64 (s.ren (n ++ [126]) n).1) w) := by
  have HM := rename_h h hd hwt (n ++ [126]) (by simp; omega) n (by omega)
  have hcat : str n ++ (⟨#[126]⟩ : ByteArray) = str (n ++ [126]) := str_app n [126]
  have hss : (str n).size ≤ 1000000 := by rw [str_size]; exact hn
  have c1 := hb.p.cell
  have c2 := hb.q.cell
  clear h hd hb
  rw [← hcat] at HM
  generalize (s.ren (n ++ [126]) n).1 = q at *
  generalize (s.ren (n ++ [126]) n).2 = s' at *
  clear hcat
  generalize str n = b at *
  go_enter Tryz.func119, Tryz.ntmps119
  go_wp2_with (go_at_call 100; ((with_reducible refine HM.mono ?_); rintro e w1 ⟨rfl, hh, ho⟩))
  go_ret
  exact ⟨rfl, hh, ho⟩
theorem sta7 : Calls Tryz.prog 120 #[.pointer (some ⟨p, 0, none⟩)] w (Went Z (upd D d s.sync) J (.int .i64 0) w) := by
  have HM := sync_h h hd hwt
  have c1 := hb.p.cell
  clear h hd hb
  go_enter Tryz.func120, Tryz.ntmps120
  go_wp2_with (go_at_call 20; ((with_reducible refine HM.mono ?_); rintro e w1 ⟨rfl, hh, ho⟩))
  go_ret
  exact ⟨rfl, hh, ho⟩
end
end Go.Proofs.YtmaohncddjhgeaaGreat.gn
end
section
set_option linter.unusedVariables false
namespace Go.Proofs.YtmaohncddjhgeaaGreat.fi
theorem new_room {r : Nat} (h : r ≤ 16777216) : FS.new r = ⟨r, [], []⟩ := by unfold FS.new; congr 1; omega
end Go.Proofs.YtmaohncddjhgeaaGreat.fi

namespace Go.Proofs.YtmaohncddjhgeaaGreat.gn
open Go.RowKit
open Go.Proofs.YtmaohncddjhgeaaGreat.fi

theorem upd_keep {α : Type} {D : Nat → Option α} {d x : Nat} {s : α} (h : x ≠ d) : upd D d s x = D x := upd_other D s h
def NewD (Z : Nat → Prop) (D : Nat → Option FS) (J : Nat → Option Jn) (s : FS) (w : World) (e : Ending) (w' : World) : Prop :=
  ∃ d D', e = .returned (.pointer (some ⟨d, 0, none⟩)) ∧ w.heap.size ≤ d ∧ Hold Z w' D' J ∧ D' d = some s ∧ (∀ x, x ≠ d → D' x = D x) ∧ Below w.heap.size w w'
def StepD (Z : Nat → Prop) (D : Nat → Option FS) (J : Nat → Option Jn) (d : Nat) (s : FS) (v : Value) (w : World) (e : Ending) (w' : World) : Prop :=
  ∃ D', e = .returned v ∧ Hold Z w' D' J ∧ D' d = some s ∧ (∀ x, x ≠ d → D' x = D x) ∧ Only (Off Z) w w'
theorem Went.stepD {Z : Nat → Prop} {D : Nat → Option FS} {J : Nat → Option Jn} {d : Nat} {s : FS} {v : Value} {w w' : World} {e : Ending} (h : Went Z (upd D d s) J v w e w') : StepD Z D J d s v w e w' :=
  ⟨_, h.1, h.2.1, upd_same _ _ _, fun x hx => upd_keep hx, h.2.2⟩
theorem Only.belowZ {Z : Nat → Prop} {a b : World} {B : Nat} (h : Only (Off Z) a b) (hz : ∀ i, i < B → Z i) (hB : B ≤ a.heap.size) : Below B a b := h.below (fun i hi => Nat.le_of_not_lt fun hl => hi (hz i hl)) hB

section
variable {Z : Nat → Prop} {w : World} {D : Nat → Option FS} {J : Nat → Option Jn} (h : Hold Z w D J)
include h
theorem lnew (r : Nat) (hr : r ≤ 16777216) {x : Int} (hx : x = (r : Int)) : Calls Tryz.prog 7 #[.int .i64 x] w (NewD Z D J ⟨r, [], []⟩ w) := by
  subst hx
  refine (new_h h r).mono fun e w' hh => ?_
  obtain ⟨d, h1, h2, h3, h4⟩ := hh
  rw [new_room hr] at h3
  exact ⟨d, _, h1, h2, h3, upd_same _ _ _, fun x hx => upd_keep hx, h4⟩
theorem lcopy {d : Nat} {s : FS} (hd : D d = some s) (hwt : s.wt ≤ 274877906944) : Calls Tryz.prog 29 #[.pointer (some ⟨d, 0, none⟩)] w (NewD Z D J s w) := by
  refine (copy_h h hd (by omega)).mono fun e w' hh => ?_
  obtain ⟨d, h1, h2, h3, h4⟩ := hh
  exact ⟨d, _, h1, h2, h3, upd_same _ _ _, fun x hx => upd_keep hx, h4⟩
theorem lcrash {d : Nat} {s s' : FS} (hd : D d = some s) (hwt : s.wt ≤ 274877906944) (f : Fault) (hf : f.lose < 18446744073709551616) {a b c : Int} (ha : a = f.keep) (hb : b = (f.lose : Int)) (hc : c = f.cut) (hs : s.crash f = s') :
    Calls Tryz.prog 26 #[.pointer (some ⟨d, 0, none⟩), .agg #[.int .i64 a, .int .u64 b, .int .i64 c]] w (StepD Z D J d s' (.tuple #[]) w) := by
  subst hs
  exact (crash_h h hd (by omega) f hf ha hb hc).mono fun e w' hh => hh.stepD
end
end Go.Proofs.YtmaohncddjhgeaaGreat.gn
end
