/- The head of the law file (written by gen_exW.py). -/
import Derived.Test.YtgimecpillhmcaaExU
set_option linter.unusedVariables false
namespace Go.Proofs.Ytgimecpillhmcaa.gn
open Go.RowKit Go.Shelf Go.Sort Go.Lib
open Go.Proofs.Ytgimecpillhmcaa.ex

attribute [local go_sem] Oper.semAt_some

set_option maxHeartbeats 4000000 in
set_option maxRecDepth 100000 in
theorem head_any (w : World) : Calls Try.prog 7 #[] w (TellsB true w) := by
  go_enter Try.func7, Try.ntmps7
  go_wp2_with fail
  have F0 : Rd (w.alloc (.cells #[.int .i64 0, .int .i64 3, .int .i64 5, .int .i64 2, .int .i64 9, .int .i64 4] 37)) (.slice (some ⟨w.heap.size, 0, none⟩) 3 3) free := rd_lit rfl _ _ 3 rfl rfl
  refine Calls.mono (Take_ok false F0 (by omega) free_fine (by decide)) ?_
  rintro e w1 h
  obtain ⟨va, vb, rfl, Fa, Fb, hb⟩ := take_lit h [(6, 1), (9, 4)] [(0, 3), (5, 1)] 10 free_f _ lit_nrm1
  clear h
  replace F0 := Rd.next F0 hb
  have hx1 : RowKit.Below w.heap.size w w1 := by
    refine Below.trans ?_ (hb.mono ?_)
    · (first | exact Below.refl _ _ | exact (Below.refl _ _).alloc (by simp) _ | exact ((Below.refl _ _).alloc (by simp) _).alloc (by simp) _ | exact (((Below.refl _ _).alloc (by simp) _).alloc (by simp) _).alloc (by simp) _)
    · first | exact Nat.le_refl _ | (simp; done) | (simp; omega)
  have HB := Lib.hid hx1
  clear hb hx1
  go_wp2_with fail
  refine Calls.mono (Take_ok true F0 (by omega) free_fine (by decide)) ?_
  rintro e w2 h
  obtain ⟨vc, vd, rfl, Fc, Fd, hb⟩ := take_lit h [(0, 3), (5, 2)] [(9, 4)] 10 free_t _ lit_nrm2
  clear h
  have hx2 : RowKit.Below w1.heap.size w1 w2 := by
    refine Below.trans ?_ (hb.mono ?_)
    · (first | exact Below.refl _ _ | exact (Below.refl _ _).alloc (by simp) _ | exact ((Below.refl _ _).alloc (by simp) _).alloc (by simp) _ | exact (((Below.refl _ _).alloc (by simp) _).alloc (by simp) _).alloc (by simp) _)
    · first | exact Nat.le_refl _ | (simp; done) | (simp; omega)
  replace Fa := Rd.next Fa hx2
  replace Fb := Rd.next Fb hx2
  replace F0 := Rd.next F0 hx2
  replace HB := Lib.hid (HB.out.trans (hx2.mono HB.out.size))
  clear hb hx2
  go_wp2_with fail
  refine Calls.mono (Give_yes (a := [(0, 3), (4, 1)]) (b := [(3, 1)]) (by (first | assumption | exact Rd.al (by assumption) _ | exact Rd.al (Rd.al (by assumption) _) _ | exact Rd.al (Rd.al (Rd.al (by assumption) _) _) _ | exact rd_lit (by first | rfl | simp) _ _ _ (by rfl) (by rfl) | exact Rd.al (rd_lit (by first | rfl | simp) _ _ _ (by rfl) (by rfl)) _ | exact Rd.al (Rd.al (rd_lit (by first | rfl | simp) _ _ _ (by rfl) (by rfl)) _) _)) (by (first | assumption | exact Rd.al (by assumption) _ | exact Rd.al (Rd.al (by assumption) _) _ | exact Rd.al (Rd.al (Rd.al (by assumption) _) _) _ | exact rd_lit (by first | rfl | simp) _ _ _ (by rfl) (by rfl) | exact Rd.al (rd_lit (by first | rfl | simp) _ _ _ (by rfl) (by rfl)) _ | exact Rd.al (Rd.al (rd_lit (by first | rfl | simp) _ _ _ (by rfl) (by rfl)) _) _)) lit_fine1 lit_fine2 lit_apart (by rw [lit_nrm3]; simp)) ?_
  rintro e w3 ⟨vg, rfl, Fg, hb⟩
  rw [lit_nrm3] at Fg
  replace Fg := OwnX.rd Fg
  have hx3 : RowKit.Below w2.heap.size w2 w3 := by
    refine Below.trans ?_ (hb.mono ?_)
    · (first | exact Below.refl _ _ | exact (Below.refl _ _).alloc (by simp) _ | exact ((Below.refl _ _).alloc (by simp) _).alloc (by simp) _ | exact (((Below.refl _ _).alloc (by simp) _).alloc (by simp) _).alloc (by simp) _)
    · first | exact Nat.le_refl _ | (simp; done) | (simp; omega)
  replace Fa := Rd.next Fa hx3
  replace Fb := Rd.next Fb hx3
  replace F0 := Rd.next F0 hx3
  replace Fc := Rd.next Fc hx3
  replace Fd := Rd.next Fd hx3
  replace HB := Lib.hid (HB.out.trans (hx3.mono HB.out.size))
  clear hb hx3
  go_wp2_with fail
  refine Calls.mono (Give_no F0 F0 free_fine free_fine free_meet) ?_
  rintro e w4 ⟨rfl, hb⟩
  have hx4 : RowKit.Below w3.heap.size w3 w4 := by
    refine Below.trans ?_ (hb.mono ?_)
    · (first | exact Below.refl _ _ | exact (Below.refl _ _).alloc (by simp) _ | exact ((Below.refl _ _).alloc (by simp) _).alloc (by simp) _ | exact (((Below.refl _ _).alloc (by simp) _).alloc (by simp) _).alloc (by simp) _)
    · first | exact Nat.le_refl _ | (simp; done) | (simp; omega)
  replace Fa := Rd.next Fa hx4
  replace Fb := Rd.next Fb hx4
  replace F0 := Rd.next F0 hx4
  replace Fc := Rd.next Fc hx4
  replace Fd := Rd.next Fd hx4
  replace Fg := Rd.next Fg hx4
  replace HB := Lib.hid (HB.out.trans (hx4.mono HB.out.size))
  clear hb hx4
  go_wp2_with fail
  refine Calls.mono (Take_full true F0 (by omega) free_fine (by decide)) ?_
  rintro e w5 ⟨rfl, hb⟩
  have hx5 : RowKit.Below w4.heap.size w4 w5 := by
    refine Below.trans ?_ (hb.mono ?_)
    · (first | exact Below.refl _ _ | exact (Below.refl _ _).alloc (by simp) _ | exact ((Below.refl _ _).alloc (by simp) _).alloc (by simp) _ | exact (((Below.refl _ _).alloc (by simp) _).alloc (by simp) _).alloc (by simp) _)
    · first | exact Nat.le_refl _ | (simp; done) | (simp; omega)
  replace Fa := Rd.next Fa hx5
  replace Fb := Rd.next Fb hx5
  replace F0 := Rd.next F0 hx5
  replace Fc := Rd.next Fc hx5
  replace Fd := Rd.next Fd hx5
  replace Fg := Rd.next Fg hx5
  replace HB := Lib.hid (HB.out.trans (hx5.mono HB.out.size))
  clear hb hx5
  go_wp2_with fail
  refine Calls.mono (Norm_any (l := [(3, 2), (0, 3)]) (by (first | assumption | exact Rd.al (by assumption) _ | exact Rd.al (Rd.al (by assumption) _) _ | exact Rd.al (Rd.al (Rd.al (by assumption) _) _) _ | exact rd_lit (by first | rfl | simp) _ _ _ (by rfl) (by rfl) | exact Rd.al (rd_lit (by first | rfl | simp) _ _ _ (by rfl) (by rfl)) _ | exact Rd.al (Rd.al (rd_lit (by first | rfl | simp) _ _ _ (by rfl) (by rfl)) _) _)) lit_fine3) ?_
  rintro e w6 ⟨vn, rfl, Fn, hb⟩
  rw [lit_nrm4] at Fn
  replace Fn := OwnX.rd Fn
  have hx6 : RowKit.Below w5.heap.size w5 w6 := by
    refine Below.trans ?_ (hb.mono ?_)
    · (first | exact Below.refl _ _ | exact (Below.refl _ _).alloc (by simp) _ | exact ((Below.refl _ _).alloc (by simp) _).alloc (by simp) _ | exact (((Below.refl _ _).alloc (by simp) _).alloc (by simp) _).alloc (by simp) _)
    · first | exact Nat.le_refl _ | (simp; done) | (simp; omega)
  replace Fa := Rd.next Fa hx6
  replace Fb := Rd.next Fb hx6
  replace F0 := Rd.next F0 hx6
  replace Fc := Rd.next Fc hx6
  replace Fd := Rd.next Fd hx6
  replace Fg := Rd.next Fg hx6
  replace HB := Lib.hid (HB.out.trans (hx6.mono HB.out.size))
  clear hb hx6
  go_wp2_with fail
  refine Calls.mono (Same_yes (l := [(0, 5)]) (by (first | assumption | exact Rd.al (by assumption) _ | exact Rd.al (Rd.al (by assumption) _) _ | exact Rd.al (Rd.al (Rd.al (by assumption) _) _) _ | exact rd_lit (by first | rfl | simp) _ _ _ (by rfl) (by rfl) | exact Rd.al (rd_lit (by first | rfl | simp) _ _ _ (by rfl) (by rfl)) _ | exact Rd.al (Rd.al (rd_lit (by first | rfl | simp) _ _ _ (by rfl) (by rfl)) _) _)) (by (first | assumption | exact Rd.al (by assumption) _ | exact Rd.al (Rd.al (by assumption) _) _ | exact Rd.al (Rd.al (Rd.al (by assumption) _) _) _ | exact rd_lit (by first | rfl | simp) _ _ _ (by rfl) (by rfl) | exact Rd.al (rd_lit (by first | rfl | simp) _ _ _ (by rfl) (by rfl)) _ | exact Rd.al (Rd.al (rd_lit (by first | rfl | simp) _ _ _ (by rfl) (by rfl)) _) _)) (by simp)) ?_
  rintro e w7 ⟨rfl, hb⟩
  have hx7 : RowKit.Below w6.heap.size w6 w7 := by
    refine Below.trans ?_ (hb.mono ?_)
    · (first | exact Below.refl _ _ | exact (Below.refl _ _).alloc (by simp) _ | exact ((Below.refl _ _).alloc (by simp) _).alloc (by simp) _ | exact (((Below.refl _ _).alloc (by simp) _).alloc (by simp) _).alloc (by simp) _)
    · first | exact Nat.le_refl _ | (simp; done) | (simp; omega)
  replace Fa := Rd.next Fa hx7
  replace Fb := Rd.next Fb hx7
  replace F0 := Rd.next F0 hx7
  replace Fc := Rd.next Fc hx7
  replace Fd := Rd.next Fd hx7
  replace Fg := Rd.next Fg hx7
  replace Fn := Rd.next Fn hx7
  replace HB := Lib.hid (HB.out.trans (hx7.mono HB.out.size))
  clear hb hx7
  go_wp2_with fail
  refine Calls.mono (Same_yes (l := [(0, 3), (5, 1)]) (by (first | assumption | exact Rd.al (by assumption) _ | exact Rd.al (Rd.al (by assumption) _) _ | exact Rd.al (Rd.al (Rd.al (by assumption) _) _) _ | exact rd_lit (by first | rfl | simp) _ _ _ (by rfl) (by rfl) | exact Rd.al (rd_lit (by first | rfl | simp) _ _ _ (by rfl) (by rfl)) _ | exact Rd.al (Rd.al (rd_lit (by first | rfl | simp) _ _ _ (by rfl) (by rfl)) _) _)) (by (first | assumption | exact Rd.al (by assumption) _ | exact Rd.al (Rd.al (by assumption) _) _ | exact Rd.al (Rd.al (Rd.al (by assumption) _) _) _ | exact rd_lit (by first | rfl | simp) _ _ _ (by rfl) (by rfl) | exact Rd.al (rd_lit (by first | rfl | simp) _ _ _ (by rfl) (by rfl)) _ | exact Rd.al (Rd.al (rd_lit (by first | rfl | simp) _ _ _ (by rfl) (by rfl)) _) _)) (by simp)) ?_
  rintro e w8 ⟨rfl, hb⟩
  have hx8 : RowKit.Below w7.heap.size w7 w8 := by
    refine Below.trans ?_ (hb.mono ?_)
    · (first | exact Below.refl _ _ | exact (Below.refl _ _).alloc (by simp) _ | exact ((Below.refl _ _).alloc (by simp) _).alloc (by simp) _ | exact (((Below.refl _ _).alloc (by simp) _).alloc (by simp) _).alloc (by simp) _)
    · first | exact Nat.le_refl _ | (simp; done) | (simp; omega)
  replace Fa := Rd.next Fa hx8
  replace Fb := Rd.next Fb hx8
  replace F0 := Rd.next F0 hx8
  replace Fc := Rd.next Fc hx8
  replace Fd := Rd.next Fd hx8
  replace Fg := Rd.next Fg hx8
  replace Fn := Rd.next Fn hx8
  replace HB := Lib.hid (HB.out.trans (hx8.mono HB.out.size))
  clear hb hx8
  go_wp2_with fail
  refine Calls.mono (Same_yes (l := [(6, 1), (9, 4)]) (by (first | assumption | exact Rd.al (by assumption) _ | exact Rd.al (Rd.al (by assumption) _) _ | exact Rd.al (Rd.al (Rd.al (by assumption) _) _) _ | exact rd_lit (by first | rfl | simp) _ _ _ (by rfl) (by rfl) | exact Rd.al (rd_lit (by first | rfl | simp) _ _ _ (by rfl) (by rfl)) _ | exact Rd.al (Rd.al (rd_lit (by first | rfl | simp) _ _ _ (by rfl) (by rfl)) _) _)) (by (first | assumption | exact Rd.al (by assumption) _ | exact Rd.al (Rd.al (by assumption) _) _ | exact Rd.al (Rd.al (Rd.al (by assumption) _) _) _ | exact rd_lit (by first | rfl | simp) _ _ _ (by rfl) (by rfl) | exact Rd.al (rd_lit (by first | rfl | simp) _ _ _ (by rfl) (by rfl)) _ | exact Rd.al (Rd.al (rd_lit (by first | rfl | simp) _ _ _ (by rfl) (by rfl)) _) _)) (by simp)) ?_
  rintro e w9 ⟨rfl, hb⟩
  have hx9 : RowKit.Below w8.heap.size w8 w9 := by
    refine Below.trans ?_ (hb.mono ?_)
    · (first | exact Below.refl _ _ | exact (Below.refl _ _).alloc (by simp) _ | exact ((Below.refl _ _).alloc (by simp) _).alloc (by simp) _ | exact (((Below.refl _ _).alloc (by simp) _).alloc (by simp) _).alloc (by simp) _)
    · first | exact Nat.le_refl _ | (simp; done) | (simp; omega)
  replace Fa := Rd.next Fa hx9
  replace Fb := Rd.next Fb hx9
  replace F0 := Rd.next F0 hx9
  replace Fc := Rd.next Fc hx9
  replace Fd := Rd.next Fd hx9
  replace Fg := Rd.next Fg hx9
  replace Fn := Rd.next Fn hx9
  replace HB := Lib.hid (HB.out.trans (hx9.mono HB.out.size))
  clear hb hx9
  go_wp2_with fail
  refine Calls.mono (Same_yes (l := [(9, 4)]) (by (first | assumption | exact Rd.al (by assumption) _ | exact Rd.al (Rd.al (by assumption) _) _ | exact Rd.al (Rd.al (Rd.al (by assumption) _) _) _ | exact rd_lit (by first | rfl | simp) _ _ _ (by rfl) (by rfl) | exact Rd.al (rd_lit (by first | rfl | simp) _ _ _ (by rfl) (by rfl)) _ | exact Rd.al (Rd.al (rd_lit (by first | rfl | simp) _ _ _ (by rfl) (by rfl)) _) _)) (Rd.part (k := 2) (n := 1) (l := free) F0 _ _ rfl rfl (by decide)) (by simp)) ?_
  rintro e w10 ⟨rfl, hb⟩
  have hx10 : RowKit.Below w9.heap.size w9 w10 := by
    refine Below.trans ?_ (hb.mono ?_)
    · (first | exact Below.refl _ _ | exact (Below.refl _ _).alloc (by simp) _ | exact ((Below.refl _ _).alloc (by simp) _).alloc (by simp) _ | exact (((Below.refl _ _).alloc (by simp) _).alloc (by simp) _).alloc (by simp) _)
    · first | exact Nat.le_refl _ | (simp; done) | (simp; omega)
  replace Fa := Rd.next Fa hx10
  replace Fb := Rd.next Fb hx10
  replace F0 := Rd.next F0 hx10
  replace Fc := Rd.next Fc hx10
  replace Fd := Rd.next Fd hx10
  replace Fg := Rd.next Fg hx10
  replace Fn := Rd.next Fn hx10
  replace HB := Lib.hid (HB.out.trans (hx10.mono HB.out.size))
  clear hb hx10
  go_wp2_with fail
  refine Calls.mono (Same_yes (l := [(0, 3), (5, 2)]) (by (first | assumption | exact Rd.al (by assumption) _ | exact Rd.al (Rd.al (by assumption) _) _ | exact Rd.al (Rd.al (Rd.al (by assumption) _) _) _ | exact rd_lit (by first | rfl | simp) _ _ _ (by rfl) (by rfl) | exact Rd.al (rd_lit (by first | rfl | simp) _ _ _ (by rfl) (by rfl)) _ | exact Rd.al (Rd.al (rd_lit (by first | rfl | simp) _ _ _ (by rfl) (by rfl)) _) _)) (Rd.part (k := 0) (n := 2) (l := free) F0 _ _ rfl rfl (by decide)) (by simp)) ?_
  rintro e w11 ⟨rfl, hb⟩
  have hx11 : RowKit.Below w10.heap.size w10 w11 := by
    refine Below.trans ?_ (hb.mono ?_)
    · (first | exact Below.refl _ _ | exact (Below.refl _ _).alloc (by simp) _ | exact ((Below.refl _ _).alloc (by simp) _).alloc (by simp) _ | exact (((Below.refl _ _).alloc (by simp) _).alloc (by simp) _).alloc (by simp) _)
    · first | exact Nat.le_refl _ | (simp; done) | (simp; omega)
  replace Fa := Rd.next Fa hx11
  replace Fb := Rd.next Fb hx11
  replace F0 := Rd.next F0 hx11
  replace Fc := Rd.next Fc hx11
  replace Fd := Rd.next Fd hx11
  replace Fg := Rd.next Fg hx11
  replace Fn := Rd.next Fn hx11
  replace HB := Lib.hid (HB.out.trans (hx11.mono HB.out.size))
  clear hb hx11
  go_wp2_with fail
  refine Calls.mono (Same_yes (l := [(0, 5)]) (by (first | assumption | exact Rd.al (by assumption) _ | exact Rd.al (Rd.al (by assumption) _) _ | exact Rd.al (Rd.al (Rd.al (by assumption) _) _) _ | exact rd_lit (by first | rfl | simp) _ _ _ (by rfl) (by rfl) | exact Rd.al (rd_lit (by first | rfl | simp) _ _ _ (by rfl) (by rfl)) _ | exact Rd.al (Rd.al (rd_lit (by first | rfl | simp) _ _ _ (by rfl) (by rfl)) _) _)) (by (first | assumption | exact Rd.al (by assumption) _ | exact Rd.al (Rd.al (by assumption) _) _ | exact Rd.al (Rd.al (Rd.al (by assumption) _) _) _ | exact rd_lit (by first | rfl | simp) _ _ _ (by rfl) (by rfl) | exact Rd.al (rd_lit (by first | rfl | simp) _ _ _ (by rfl) (by rfl)) _ | exact Rd.al (Rd.al (rd_lit (by first | rfl | simp) _ _ _ (by rfl) (by rfl)) _) _)) (by simp)) ?_
  rintro e w12 ⟨rfl, hb⟩
  have hx12 : RowKit.Below w11.heap.size w11 w12 := by
    refine Below.trans ?_ (hb.mono ?_)
    · (first | exact Below.refl _ _ | exact (Below.refl _ _).alloc (by simp) _ | exact ((Below.refl _ _).alloc (by simp) _).alloc (by simp) _ | exact (((Below.refl _ _).alloc (by simp) _).alloc (by simp) _).alloc (by simp) _)
    · first | exact Nat.le_refl _ | (simp; done) | (simp; omega)
  replace Fa := Rd.next Fa hx12
  replace Fb := Rd.next Fb hx12
  replace F0 := Rd.next F0 hx12
  replace Fc := Rd.next Fc hx12
  replace Fd := Rd.next Fd hx12
  replace Fg := Rd.next Fg hx12
  replace Fn := Rd.next Fn hx12
  replace HB := Lib.hid (HB.out.trans (hx12.mono HB.out.size))
  clear hb hx12
  go_wp2_with fail
  refine Calls.mono (Total_any F0 free_fine) ?_
  rintro e w13 ⟨rfl, hb⟩
  have hx13 : RowKit.Below w12.heap.size w12 w13 := by
    refine Below.trans ?_ (hb.mono ?_)
    · (first | exact Below.refl _ _ | exact (Below.refl _ _).alloc (by simp) _ | exact ((Below.refl _ _).alloc (by simp) _).alloc (by simp) _ | exact (((Below.refl _ _).alloc (by simp) _).alloc (by simp) _).alloc (by simp) _)
    · first | exact Nat.le_refl _ | (simp; done) | (simp; omega)
  replace Fa := Rd.next Fa hx13
  replace Fb := Rd.next Fb hx13
  replace F0 := Rd.next F0 hx13
  replace Fc := Rd.next Fc hx13
  replace Fd := Rd.next Fd hx13
  replace Fg := Rd.next Fg hx13
  replace Fn := Rd.next Fn hx13
  replace HB := Lib.hid (HB.out.trans (hx13.mono HB.out.size))
  clear hb hx13
  go_wp2_with fail
  go_ret
  exact ⟨rfl, HB.out⟩
end Go.Proofs.Ytgimecpillhmcaa.gn
