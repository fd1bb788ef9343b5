/- SnapFirst: the walk of the law. -/
import Derived.Test.YtpbgckpjgfjmgaaSnH
set_option linter.unusedVariables false
namespace Go.Proofs.Ytpbgckpjgfjmgaa.gn
open Go.RowKit
open Go.Proofs.Ytpbgckpjgfjmgaa.fi

set_option maxRecDepth 100000
set_option maxHeartbeats 1000000
theorem mod7 (st : Nat) : ((st : Int)).tmod 7 = ((st % 7 : Nat) : Int) := by
  rw [Int.tmod_eq_emod_of_nonneg (by omega)]; omega
theorem first_short (w : World) (s : List UInt8) (hs : 500 < s.length) (st : Nat) (hst : st < 256) (f : Fault) :
    Calls Try.prog 4 #[.string (str s), .int .u8 (st : Int), .agg #[.int .i64 f.keep, .int .u64 (f.lose : Int), .int .i64 f.cut]] w fun e w' => e = .returned (.bool true) ∧ Below w.heap.size w w' := by
  have hb : Below w.heap.size w (w.alloc (.cells #[.int .i64 f.keep, .int .u64 (f.lose : Int), .int .i64 f.cut] 24)) := (Below.refl _ w).alloc (Nat.le_refl _) _
  have HB := Lib.hid hb
  have hss : (str s).size = s.length := str_size s
  clear hb
  go_enter Try.func4, Try.ntmps4
  go_wp2_with fail
  refine (head_any _).mono ?_
  rintro e w2 ⟨rfl, hb2⟩
  have HB2 := Lib.hid (HB.out.trans (hb2.mono HB.out.size))
  clear hb2
  go_wp2
  go_ret
  exact ⟨rfl, HB2.out⟩

theorem first_long (w : World) (s : List UInt8) (hs : s.length ≤ 500) (st : Nat) (hst : st < 256) (f : Fault) (hfl : f.lose < 18446744073709551616) :
    Calls Try.prog 4 #[.string (str s), .int .u8 (st : Int), .agg #[.int .i64 f.keep, .int .u64 (f.lose : Int), .int .i64 f.cut]] w fun e w' => e = .returned (.bool true) ∧ Below w.heap.size w w' := by
  obtain ⟨u, hu⟩ : ∃ u, w.alloc (.cells #[.int .i64 f.keep, .int .u64 (f.lose : Int), .int .i64 f.cut] 24) = u := ⟨_, rfl⟩
  have hb0 : Below w.heap.size w u := by rw [← hu]; exact (Below.refl _ w).alloc (Nat.le_refl _) _
  have hz0 : u.heap.size = w.heap.size + 1 := by rw [← hu]; simp
  have hfb : u.heap[w.heap.size]? = some (.cells #[.int .i64 f.keep, .int .u64 (f.lose : Int), .int .i64 f.cut] 24 (0, 0)) := by rw [← hu]; exact heap_alloc_new w _
  have hss : (str s).size = s.length := str_size s
  have HFB := Lib.hid hfb
  have HB0 := Lib.hid hb0
  have HZ0 := Lib.hid hz0
  obtain ⟨Z, hZ⟩ : ∃ Z : Nat → Prop, Z = fun i => i < u.heap.size := ⟨_, rfl⟩
  have H0 := Lib.hid (Hold.none_ u Z fun i hi => by subst hZ; exact hi)
  have hZ' : ∀ i, i < u.heap.size → Z i := fun i hi => by subst hZ; exact hi
  have HZ := Lib.hid hZ'
  have hm7 := mod7 st
  obtain ⟨k, hk⟩ : ∃ k, k = st % 7 := ⟨_, rfl⟩
  rw [← hk] at hm7
  have hk7 : k < 7 := by omega
  have l1 : (frame s).length = 20 + s.length := frame_len _
  have x0 : lx none = 0 := rfl
  obtain ⟨x', y', c1, c2, c3⟩ := crash_stp 20000 none (frame s) k f
  have HC1 := Lib.hid c1
  clear hfb hb0 hZ' hZ hz0 hk c1
  go_enter Try.func4, Try.ntmps4
  go_wp2_with fail
  refine (lnew H0.out 20000 (by decide) rfl).mono ?_
  rintro e w1 ⟨d, D1, rfl, g, h, a, x, b⟩
  have H1 := Lib.hid h
  have A1 := Lib.hid a
  have O1 := Lib.hid (Only.of_below (S := Off Z) b)
  clear g h a x b
  go_wp2_with fail
  refine (lpart H1.out (R := 20000) (x := none) (y := none) A1.out (by omega) (by omega) s (by omega) (by omega) k rfl rfl).mono ?_
  rintro e w2 ⟨D2, rfl, h, a, x, b⟩
  have A2 := Lib.hid a
  have O2 := Lib.hid (O1.out.trans b fun i _ hi => hi)
  have H2 := Lib.hid h
  clear h a x b
  have wt2 : Hid ((stp 20000 none none (frame s) k).wt ≤ 274877906944) := Lib.hid (by have := stp_wt 20000 none none (frame s) k; omega)
  have hfk : w2.heap[w.heap.size]? = _ := O2.out.off HFB.out (HZ.out _ (by rw [HZ0.out]; omega))
  have f0 : w2.cell? ⟨w.heap.size, 0, none⟩ = some (.int .i64 f.keep) := by rw [cell_of_row _ _ 0 _ _ _ hfk]; rfl
  have f1 : w2.cell? ⟨w.heap.size, 1, none⟩ = some (.int .u64 (f.lose : Int)) := by rw [cell_of_row _ _ 1 _ _ _ hfk]; rfl
  have f2 : w2.cell? ⟨w.heap.size, 2, none⟩ = some (.int .i64 f.cut) := by rw [cell_of_row _ _ 2 _ _ _ hfk]; rfl
  clear hfk
  go_wp2_with fail
  refine (lcrash H2.out A2.out wt2.out f hfl rfl rfl rfl HC1.out).mono ?_
  rintro e w3 ⟨D3, rfl, h, a, x, b⟩
  have A3 := Lib.hid a
  have O3 := Lib.hid (O2.out.trans b fun i _ hi => hi)
  have H3 := Lib.hid h
  clear h a x b f0 f1 f2 HC1
  rcases c3 with ⟨rfl, hk3⟩ | ⟨rfl, hk3⟩
  · have t1 : decide ((4 : Int) ≤ (k : Int)) = false := decide_eq_false (by omega)
    go_wp2_with fail
    refine (lget H3.out A3.out (by omega) (by omega) (got_none 20000 y') (tb := ⟨#[]⟩) rfl).mono ?_
    rintro e w4 ⟨rfl, b⟩
    have HB4 := Lib.hid ((Only.belowZ (B := u.heap.size) O3.out HZ.out (Nat.le_refl _)).trans (b.mono O3.out.size))
    clear b
    go_wp2_with fail
    refine (head_any _).mono ?_
    rintro e w5 ⟨rfl, b⟩
    have HB5 := Lib.hid (HB4.out.trans (b.mono HB4.out.size))
    clear b
    go_wp2
    go_ret
    exact ⟨rfl, HB0.out.trans (HB5.out.mono HB0.out.size)⟩
  · have xl : lx (some (frame s)) = (frame s).length := rfl
    by_cases hz : 4 ≤ k
    all_goals
      go_wp2_with fail
      refine (lget H3.out A3.out (by omega) (by omega) (got_frame 20000 s (by omega) y') (tb := str s) rfl).mono ?_
      rintro e w4 ⟨rfl, b⟩
      have HB4 := Lib.hid ((Only.belowZ (B := u.heap.size) O3.out HZ.out (Nat.le_refl _)).trans (b.mono O3.out.size))
      clear b
      go_wp2_with fail
      refine (head_any _).mono ?_
      rintro e w5 ⟨rfl, b⟩
      have HB5 := Lib.hid (HB4.out.trans (b.mono HB4.out.size))
      clear b
      go_wp2
      go_ret
      exact ⟨rfl, HB0.out.trans (HB5.out.mono HB0.out.size)⟩
end Go.Proofs.Ytpbgckpjgfjmgaa.gn
