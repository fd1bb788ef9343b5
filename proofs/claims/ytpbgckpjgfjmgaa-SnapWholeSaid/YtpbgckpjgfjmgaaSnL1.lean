/- SnapWhole: the walk of the law. -/
import Derived.Test.YtpbgckpjgfjmgaaSnH
import Derived.RegionTactic
set_option linter.unusedVariables false
namespace Go.Proofs.Ytpbgckpjgfjmgaa.gn
open Go.RowKit
open Go.Proofs.Ytpbgckpjgfjmgaa.fi

set_option maxRecDepth 100000
set_option maxHeartbeats 1000000
theorem mod7w (st : Nat) : ((st : Int)).tmod 7 = ((st % 7 : Nat) : Int) := by
  rw [Int.tmod_eq_emod_of_nonneg (by omega)]; omega
/-- What came in. -/
def whl (o s : List UInt8) (st : Nat) (f : Fault) : Array Value := #[.string (str o), .string (str s), .int .u8 (st : Int), .int .i64 f.keep, .int .u64 (f.lose : Int), .int .i64 f.cut]

theorem whole_short (w : World) (o s : List UInt8) (hs : 500 < o.length ∨ 500 < s.length) (st : Nat) (hst : st < 256) (f : Fault) :
    Calls Try.prog 3 #[.agg (whl o s st f)] w fun e w' => e = .returned (.bool true) ∧ Below w.heap.size w w' := by
  have hos : (str o).size = o.length := str_size o
  have hss : (str s).size = s.length := str_size s
  obtain ⟨u, hu⟩ : ∃ u, w.alloc (.cells (whl o s st f) 26) = u := ⟨_, rfl⟩
  have hfb : u.heap[w.heap.size]? = some (.cells (whl o s st f) 26 (0, 0)) := by rw [← hu]; exact heap_alloc_new w _
  have f0 : u.cell? ⟨w.heap.size, 0, none⟩ = some (.string (str o)) := by rw [cell_of_row _ _ 0 _ _ _ hfb]; rfl
  have f1 : u.cell? ⟨w.heap.size, 1, none⟩ = some (.string (str s)) := by rw [cell_of_row _ _ 1 _ _ _ hfb]; rfl
  have f2 : u.cell? ⟨w.heap.size, 2, none⟩ = some (.int .u8 (st : Int)) := by rw [cell_of_row _ _ 2 _ _ _ hfb]; rfl
  have f3 : u.cell? ⟨w.heap.size, 3, none⟩ = some (.int .i64 f.keep) := by rw [cell_of_row _ _ 3 _ _ _ hfb]; rfl
  have f4 : u.cell? ⟨w.heap.size, 4, none⟩ = some (.int .u64 (f.lose : Int)) := by rw [cell_of_row _ _ 4 _ _ _ hfb]; rfl
  have f5 : u.cell? ⟨w.heap.size, 5, none⟩ = some (.int .i64 f.cut) := by rw [cell_of_row _ _ 5 _ _ _ hfb]; rfl
  obtain ⟨u2, hu2⟩ : ∃ u2, u.alloc (.cells #[.int .i64 0, .int .u64 0, .int .i64 0] 24) = u2 := ⟨_, rfl⟩
  have hub : u2.heap[w.heap.size]? = some (.cells (whl o s st f) 26 (0, 0)) := by rw [← hu2]; exact (((Below.refl _ u).alloc (Nat.le_refl _) _).block _ (lt_of_block hfb)).trans hfb
  have g0 : u2.cell? ⟨w.heap.size, 0, none⟩ = some (.string (str o)) := by rw [cell_of_row _ _ 0 _ _ _ hub]; rfl
  have g1 : u2.cell? ⟨w.heap.size, 1, none⟩ = some (.string (str s)) := by rw [cell_of_row _ _ 1 _ _ _ hub]; rfl
  have g2 : u2.cell? ⟨w.heap.size, 2, none⟩ = some (.int .u8 (st : Int)) := by rw [cell_of_row _ _ 2 _ _ _ hub]; rfl
  have g3 : u2.cell? ⟨w.heap.size, 3, none⟩ = some (.int .i64 f.keep) := by rw [cell_of_row _ _ 3 _ _ _ hub]; rfl
  have g4 : u2.cell? ⟨w.heap.size, 4, none⟩ = some (.int .u64 (f.lose : Int)) := by rw [cell_of_row _ _ 4 _ _ _ hub]; rfl
  have g5 : u2.cell? ⟨w.heap.size, 5, none⟩ = some (.int .i64 f.cut) := by rw [cell_of_row _ _ 5 _ _ _ hub]; rfl
  rw [← hu2] at g0 g1 g2 g3 g4 g5
  have hbu : Below w.heap.size w u := by rw [← hu]; exact (Below.refl _ w).alloc (Nat.le_refl _) _
  have HBU := Lib.hid hbu
  have HZU : Hid (u.heap.size = w.heap.size + 1) := Lib.hid (by rw [← hu]; simp)
  clear hfb hub hu2 hbu
  unfold whl at *
  go_enter Try.func3, Try.ntmps3
  go_wp2
  go_region
  clear f0 f1 f2 f3 f4 f5 g0 g1 g2 g3 g4 g5
  obtain ⟨W, hW⟩ : ∃ W, (u.alloc (.cells #[.int .i64 f.keep, .int .u64 (f.lose : Int), .int .i64 f.cut] 24)).drew = W := ⟨_, rfl⟩
  have HB0 : Hid (Below w.heap.size w W) := Lib.hid (by rw [← hW]; exact (HBU.out.alloc HBU.out.size _).drew)
  have HFB : Hid (W.heap[u.heap.size]? = some (.cells #[.int .i64 f.keep, .int .u64 (f.lose : Int), .int .i64 f.cut] 24 (0, 0))) := Lib.hid (by rw [← hW]; exact heap_alloc_new u _)
  rw [hW]
  obtain ⟨F, hF⟩ : ∃ F, u.heap.size = F := ⟨_, rfl⟩
  rw [hF] at HFB ⊢
  clear hW hu hF HBU HZU
  by_cases h1 : 500 < o.length
  · clear hs
    go_wp2_with fail
    refine (head_any _).mono ?_
    rintro e w2 ⟨rfl, hb2⟩
    go_wp2
    go_ret
    exact ⟨rfl, HB0.out.trans (hb2.mono HB0.out.size)⟩
  · have h2 : 500 < s.length := by omega
    clear hs
    go_wp2_with fail
    refine (head_any _).mono ?_
    rintro e w2 ⟨rfl, hb2⟩
    go_wp2
    go_ret
    exact ⟨rfl, HB0.out.trans (hb2.mono HB0.out.size)⟩

theorem whole_long (w : World) (o s : List UInt8) (ho : o.length ≤ 500) (hs : s.length ≤ 500) (st : Nat) (hst : st < 256) (f : Fault) (hfl : f.lose < 18446744073709551616) :
    Calls Try.prog 3 #[.agg (whl o s st f)] w fun e w' => e = .returned (.bool true) ∧ Below w.heap.size w w' := by
  have hos : (str o).size = o.length := str_size o
  have hss : (str s).size = s.length := str_size s
  obtain ⟨u, hu⟩ : ∃ u, w.alloc (.cells (whl o s st f) 26) = u := ⟨_, rfl⟩
  have hfb : u.heap[w.heap.size]? = some (.cells (whl o s st f) 26 (0, 0)) := by rw [← hu]; exact heap_alloc_new w _
  have f0 : u.cell? ⟨w.heap.size, 0, none⟩ = some (.string (str o)) := by rw [cell_of_row _ _ 0 _ _ _ hfb]; rfl
  have f1 : u.cell? ⟨w.heap.size, 1, none⟩ = some (.string (str s)) := by rw [cell_of_row _ _ 1 _ _ _ hfb]; rfl
  have f2 : u.cell? ⟨w.heap.size, 2, none⟩ = some (.int .u8 (st : Int)) := by rw [cell_of_row _ _ 2 _ _ _ hfb]; rfl
  have f3 : u.cell? ⟨w.heap.size, 3, none⟩ = some (.int .i64 f.keep) := by rw [cell_of_row _ _ 3 _ _ _ hfb]; rfl
  have f4 : u.cell? ⟨w.heap.size, 4, none⟩ = some (.int .u64 (f.lose : Int)) := by rw [cell_of_row _ _ 4 _ _ _ hfb]; rfl
  have f5 : u.cell? ⟨w.heap.size, 5, none⟩ = some (.int .i64 f.cut) := by rw [cell_of_row _ _ 5 _ _ _ hfb]; rfl
  obtain ⟨u2, hu2⟩ : ∃ u2, u.alloc (.cells #[.int .i64 0, .int .u64 0, .int .i64 0] 24) = u2 := ⟨_, rfl⟩
  have hub : u2.heap[w.heap.size]? = some (.cells (whl o s st f) 26 (0, 0)) := by rw [← hu2]; exact (((Below.refl _ u).alloc (Nat.le_refl _) _).block _ (lt_of_block hfb)).trans hfb
  have g0 : u2.cell? ⟨w.heap.size, 0, none⟩ = some (.string (str o)) := by rw [cell_of_row _ _ 0 _ _ _ hub]; rfl
  have g1 : u2.cell? ⟨w.heap.size, 1, none⟩ = some (.string (str s)) := by rw [cell_of_row _ _ 1 _ _ _ hub]; rfl
  have g2 : u2.cell? ⟨w.heap.size, 2, none⟩ = some (.int .u8 (st : Int)) := by rw [cell_of_row _ _ 2 _ _ _ hub]; rfl
  have g3 : u2.cell? ⟨w.heap.size, 3, none⟩ = some (.int .i64 f.keep) := by rw [cell_of_row _ _ 3 _ _ _ hub]; rfl
  have g4 : u2.cell? ⟨w.heap.size, 4, none⟩ = some (.int .u64 (f.lose : Int)) := by rw [cell_of_row _ _ 4 _ _ _ hub]; rfl
  have g5 : u2.cell? ⟨w.heap.size, 5, none⟩ = some (.int .i64 f.cut) := by rw [cell_of_row _ _ 5 _ _ _ hub]; rfl
  rw [← hu2] at g0 g1 g2 g3 g4 g5
  have hbu : Below w.heap.size w u := by rw [← hu]; exact (Below.refl _ w).alloc (Nat.le_refl _) _
  have HBU := Lib.hid hbu
  have HZU : Hid (u.heap.size = w.heap.size + 1) := Lib.hid (by rw [← hu]; simp)
  clear hfb hub hu2 hbu
  unfold whl at *
  go_enter Try.func3, Try.ntmps3
  go_wp2
  go_region
  clear f0 f1 f2 f3 f4 f5 g0 g1 g2 g3 g4 g5
  obtain ⟨W, hW⟩ : ∃ W, (u.alloc (.cells #[.int .i64 f.keep, .int .u64 (f.lose : Int), .int .i64 f.cut] 24)).drew = W := ⟨_, rfl⟩
  have HB0 : Hid (Below w.heap.size w W) := Lib.hid (by rw [← hW]; exact (HBU.out.alloc HBU.out.size _).drew)
  have HFB : Hid (W.heap[u.heap.size]? = some (.cells #[.int .i64 f.keep, .int .u64 (f.lose : Int), .int .i64 f.cut] 24 (0, 0))) := Lib.hid (by rw [← hW]; exact heap_alloc_new u _)
  rw [hW]
  obtain ⟨F, hF⟩ : ∃ F, u.heap.size = F := ⟨_, rfl⟩
  rw [hF] at HFB ⊢
  clear hW hu hF HBU HZU
  obtain ⟨Z, hZ⟩ : ∃ Z : Nat → Prop, Z = fun i => i < W.heap.size := ⟨_, rfl⟩
  have H0 := Lib.hid (Hold.none_ W Z fun i hi => by subst hZ; exact hi)
  have hZ' : ∀ i, i < W.heap.size → Z i := fun i hi => by subst hZ; exact hi
  have HZ := Lib.hid hZ'
  have hm7 := mod7w st
  obtain ⟨k, hk⟩ : ∃ k, k = st % 7 := ⟨_, rfl⟩
  rw [← hk] at hm7
  have hk7 : k < 7 := by omega
  have l1 : (frame s).length = 20 + s.length := frame_len _
  have l2 : (frame o).length = 20 + o.length := frame_len _
  have x0 : lx none = 0 := rfl
  have x1 : lx (some (frame s)) = (frame s).length := rfl
  have x2 : lx (some (frame o)) = (frame o).length := rfl
  obtain ⟨x', y', c1, c2, c3⟩ := crash_stp 20000 (some (frame o)) (frame s) k f
  have HC1 := Lib.hid c1
  have t5 : (!(decide (5 ≤ k) == decide ((4 : Int) < (k : Int)))) = false := by
    have : decide (5 ≤ k) = decide ((4 : Int) < (k : Int)) := decide_eq_decide.2 (by omega)
    rw [this]; simp
  clear hZ' hZ hk c1
  go_wp2_with fail
  refine (lnew H0.out 20000 (by decide) rfl).mono ?_
  rintro e w1 ⟨d, D1, rfl, g, h, a, x, b⟩
  have H1 := Lib.hid h
  have A1 := Lib.hid a
  have O1 := Lib.hid (Only.of_below (S := Off Z) b)
  clear g h a x b
  go_wp2_with fail
  refine (lput H1.out (R := 20000) (x := none) (y := none) A1.out (by omega) (by omega) o (by omega) (by omega) rfl).mono ?_
  rintro e w2 ⟨D2, rfl, h, a, x, b⟩
  have A2 := Lib.hid a
  have O2 := Lib.hid (O1.out.trans b fun i _ hi => hi)
  have H2 := Lib.hid h
  clear h a x b
  go_wp2_with fail
  refine (lpart H2.out A2.out (by omega) (by omega) s (by omega) (by omega) k rfl rfl).mono ?_
  rintro e w3 ⟨D3, rfl, h, a, x, b⟩
  have A3 := Lib.hid a
  have O3 := Lib.hid (O2.out.trans b fun i _ hi => hi)
  have H3 := Lib.hid h
  clear h a x b
  have wt3 : Hid ((stp 20000 (some (frame o)) none (frame s) k).wt ≤ 274877906944) := Lib.hid (by have := stp_wt 20000 (some (frame o)) none (frame s) k; omega)
  have hfk : w3.heap[F]? = _ := O3.out.off HFB.out (HZ.out _ (lt_of_block HFB.out))
  have f0 : w3.cell? ⟨F, 0, none⟩ = some (.int .i64 f.keep) := by rw [cell_of_row _ _ 0 _ _ _ hfk]; rfl
  have f1 : w3.cell? ⟨F, 1, none⟩ = some (.int .u64 (f.lose : Int)) := by rw [cell_of_row _ _ 1 _ _ _ hfk]; rfl
  have f2 : w3.cell? ⟨F, 2, none⟩ = some (.int .i64 f.cut) := by rw [cell_of_row _ _ 2 _ _ _ hfk]; rfl
  clear hfk
  go_wp2_with fail
  refine (lcrash H3.out A3.out wt3.out f hfl rfl rfl rfl HC1.out).mono ?_
  rintro e w4 ⟨D4, rfl, h, a, x, b⟩
  have A4 := Lib.hid a
  have O4 := Lib.hid (O3.out.trans b fun i _ hi => hi)
  have H4 := Lib.hid h
  clear h a x b f0 f1 f2 HC1 t5
  have q1 : ((str s).toList != (str s).toList) = false := by simp
  have q2 : ((str o).toList != (str o).toList) = false := by simp
  have q3 : ((str s).toList == (str s).toList) = true := by simp
  rcases c3 with ⟨rfl, hk3⟩ | ⟨rfl, hk3⟩
  · by_cases hz : k < 3
    all_goals
      go_wp2_with fail
      refine (lget H4.out A4.out (by omega) (by omega) (got_frame 20000 o (by omega) y') (tb := str o) rfl).mono ?_
      rintro e w5 ⟨rfl, b⟩
      have H5 := Lib.hid (H4.out.below b)
      have O5 := Lib.hid (O4.out.trans (Only.of_below (S := Off Z) b) fun i _ hi => hi)
      clear b
      go_wp2_with fail
      refine (lput H5.out A4.out (by omega) (by omega) s (by omega) (by omega) rfl).mono ?_
      rintro e w6 ⟨D6, rfl, h, a, x, b⟩
      have A6 := Lib.hid a
      have O6 := Lib.hid (O5.out.trans b fun i _ hi => hi)
      have H6 := Lib.hid h
      clear h a x b
      go_wp2_with fail
      refine (lget H6.out A6.out (by omega) (by omega) (got_frame 20000 s (by omega) none) (tb := str s) rfl).mono ?_
      rintro e w7 ⟨rfl, b⟩
      have H7 := Lib.hid (H6.out.below b)
      have O7 := Lib.hid (O6.out.trans (Only.of_below (S := Off Z) b) fun i _ hi => hi)
      clear b
      go_wp2_with fail
      refine (lpend H7.out A6.out).mono ?_
      rintro e w8 ⟨rfl, b⟩
      have O8 := Lib.hid (O7.out.trans (Only.of_below (S := Off Z) b) fun i _ hi => hi)
      clear b
      go_wp2_with fail
      refine (head_any _).mono ?_
      rintro e w9 ⟨rfl, b⟩
      have O9 := Lib.hid (O8.out.trans (Only.of_below (S := Off Z) b) fun i _ hi => hi)
      clear b
      go_wp2
      go_ret
      exact ⟨rfl, HB0.out.trans ((O9.out.belowZ HZ.out (Nat.le_refl _)).mono HB0.out.size)⟩
  · by_cases hz : 4 ≤ k
    all_goals
      by_cases he : s = o
      · subst he
        go_wp2_with fail
        refine (lget H4.out A4.out (by omega) (by omega) (got_frame 20000 s (by omega) y') (tb := str s) rfl).mono ?_
        rintro e w5 ⟨rfl, b⟩
        have H5 := Lib.hid (H4.out.below b)
        have O5 := Lib.hid (O4.out.trans (Only.of_below (S := Off Z) b) fun i _ hi => hi)
        clear b
        go_wp2_with fail
        refine (lput H5.out A4.out (by omega) (by omega) s (by omega) (by omega) rfl).mono ?_
        rintro e w6 ⟨D6, rfl, h, a, x, b⟩
        have A6 := Lib.hid a
        have O6 := Lib.hid (O5.out.trans b fun i _ hi => hi)
        have H6 := Lib.hid h
        clear h a x b
        go_wp2_with fail
        refine (lget H6.out A6.out (by omega) (by omega) (got_frame 20000 s (by omega) none) (tb := str s) rfl).mono ?_
        rintro e w7 ⟨rfl, b⟩
        have H7 := Lib.hid (H6.out.below b)
        have O7 := Lib.hid (O6.out.trans (Only.of_below (S := Off Z) b) fun i _ hi => hi)
        clear b
        go_wp2_with fail
        refine (lpend H7.out A6.out).mono ?_
        rintro e w8 ⟨rfl, b⟩
        have O8 := Lib.hid (O7.out.trans (Only.of_below (S := Off Z) b) fun i _ hi => hi)
        clear b
        go_wp2_with fail
        refine (head_any _).mono ?_
        rintro e w9 ⟨rfl, b⟩
        have O9 := Lib.hid (O8.out.trans (Only.of_below (S := Off Z) b) fun i _ hi => hi)
        clear b
        go_wp2
        go_ret
        exact ⟨rfl, HB0.out.trans ((O9.out.belowZ HZ.out (Nat.le_refl _)).mono HB0.out.size)⟩
      · have hne : ¬ (str s).toList = (str o).toList := by rw [str_toList, str_toList]; exact he
        have q4 : ((str s).toList == (str o).toList) = false := beq_eq_false_iff_ne.2 hne
        have q5 : ((str s).toList != (str o).toList) = true := by rw [bne, q4]; rfl
        go_wp2_with fail
        refine (lget H4.out A4.out (by omega) (by omega) (got_frame 20000 s (by omega) y') (tb := str s) rfl).mono ?_
        rintro e w5 ⟨rfl, b⟩
        have H5 := Lib.hid (H4.out.below b)
        have O5 := Lib.hid (O4.out.trans (Only.of_below (S := Off Z) b) fun i _ hi => hi)
        clear b
        go_wp2_with fail
        refine (lput H5.out A4.out (by omega) (by omega) s (by omega) (by omega) rfl).mono ?_
        rintro e w6 ⟨D6, rfl, h, a, x, b⟩
        have A6 := Lib.hid a
        have O6 := Lib.hid (O5.out.trans b fun i _ hi => hi)
        have H6 := Lib.hid h
        clear h a x b
        go_wp2_with fail
        refine (lget H6.out A6.out (by omega) (by omega) (got_frame 20000 s (by omega) none) (tb := str s) rfl).mono ?_
        rintro e w7 ⟨rfl, b⟩
        have H7 := Lib.hid (H6.out.below b)
        have O7 := Lib.hid (O6.out.trans (Only.of_below (S := Off Z) b) fun i _ hi => hi)
        clear b
        go_wp2_with fail
        refine (lpend H7.out A6.out).mono ?_
        rintro e w8 ⟨rfl, b⟩
        have O8 := Lib.hid (O7.out.trans (Only.of_below (S := Off Z) b) fun i _ hi => hi)
        clear b
        go_wp2_with fail
        refine (head_any _).mono ?_
        rintro e w9 ⟨rfl, b⟩
        have O9 := Lib.hid (O8.out.trans (Only.of_below (S := Off Z) b) fun i _ hi => hi)
        clear b
        go_wp2
        go_ret
        exact ⟨rfl, HB0.out.trans ((O9.out.belowZ HZ.out (Nat.le_refl _)).mono HB0.out.size)⟩
end Go.Proofs.Ytpbgckpjgfjmgaa.gn
