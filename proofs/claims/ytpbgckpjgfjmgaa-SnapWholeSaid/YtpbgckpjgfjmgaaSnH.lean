/- The contract of the law file's head. -/
import Derived.Test.YtpbgckpjgfjmgaaSnK
set_option linter.unusedVariables false
namespace Go.Proofs.Ytpbgckpjgfjmgaa.gn
open Go.RowKit
open Go.Proofs.Ytpbgckpjgfjmgaa.fi

def abc : List UInt8 := [97, 98, 99]
def de : List UInt8 := [100, 101]
set_option maxRecDepth 100000
set_option maxHeartbeats 4000000
theorem head_any (w : World) : Calls Try.prog 6 #[] w fun e w' => e = .returned (.bool true) ∧ Below w.heap.size w w' := by
  obtain ⟨Z, hZ⟩ : ∃ Z : Nat → Prop, Z = fun i => i < w.heap.size := ⟨_, rfl⟩
  have H0 := Lib.hid (Hold.none_ w Z fun i hi => by subst hZ; exact hi)
  have hZ' : ∀ i, i < w.heap.size → Z i := fun i hi => by subst hZ; exact hi
  have HZ := Lib.hid hZ'
  have l1 : (frame abc).length = 23 := frame_len _
  have l2 : (frame de).length = 22 := frame_len _
  have x1 : lx (some (frame abc)) = 23 := l1
  have x2 : lx (some (frame de)) = 22 := l2
  have x0 : lx none = 0 := rfl
  clear hZ' hZ
  go_enter Try.func6, Try.ntmps6
  go_wp2_with fail
  refine (lnew H0.out 1000 (by decide) rfl).mono ?_
  rintro e w1 ⟨d, D1, rfl, g, h, a, x, b⟩
  have H1 := Lib.hid h
  have Ad1 := Lib.hid a
  have O1 := Lib.hid (Only.of_below (S := Off Z) b)
  clear g h a x b
  go_wp2_with fail
  refine (lput H1.out (R := 1000) (x := none) (y := none) Ad1.out (by omega) (by omega) abc (by decide) (by omega) rfl).mono ?_
  rintro e w2 ⟨D2, rfl, h, a, x, b⟩
  have Ad2 := Lib.hid a
  have O2 := Lib.hid (O1.out.trans b fun i _ hi => hi)
  have H2 := Lib.hid h
  clear h a x b
  have wt2 : (sst 1000 (some (frame abc)) none []).wt ≤ 274877906944 := by have := sst_wt 1000 (some (frame abc)) none []; have e : wts [] = 0 := rfl; omega
  go_wp2_with fail
  refine (lcopy H2.out Ad2.out wt2).mono ?_
  rintro e w3 ⟨p, D3, rfl, g, h, a, x, b⟩
  have ne_d_p : d ≠ p := Nat.ne_of_lt (Nat.lt_of_lt_of_le (H2.out.lt Ad2.out) g)
  have Ad3 := Lib.hid ((x d ne_d_p).trans Ad2.out)
  have Ap3 := Lib.hid a
  have O3 := Lib.hid (O2.out.trans (Only.of_below (S := Off Z) b) fun i _ hi => hi)
  have H3 := Lib.hid h
  clear g h a x b
  go_wp2_with fail
  refine (lcopy H3.out Ad3.out wt2).mono ?_
  rintro e w4 ⟨q, D4, rfl, g, h, a, x, b⟩
  have ne_d_q : d ≠ q := Nat.ne_of_lt (Nat.lt_of_lt_of_le (H3.out.lt Ad3.out) g)
  have ne_p_q : p ≠ q := Nat.ne_of_lt (Nat.lt_of_lt_of_le (H3.out.lt Ap3.out) g)
  have Ad4 := Lib.hid ((x d ne_d_q).trans Ad3.out)
  have Ap4 := Lib.hid ((x p ne_p_q).trans Ap3.out)
  have Aq4 := Lib.hid a
  have O4 := Lib.hid (O3.out.trans (Only.of_below (S := Off Z) b) fun i _ hi => hi)
  have H4 := Lib.hid h
  clear g h a x b
  go_wp2_with fail
  refine (lpart H4.out Ap4.out (by omega) (by omega) de (by decide) (by omega) 1 rfl rfl).mono ?_
  rintro e w5 ⟨D5, rfl, h, a, x, b⟩
  have Ad5 := Lib.hid ((x d ne_d_p).trans Ad4.out)
  have Aq5 := Lib.hid ((x q (Ne.symm ne_p_q)).trans Aq4.out)
  have Ap5 := Lib.hid a
  have O5 := Lib.hid (O4.out.trans b fun i _ hi => hi)
  have H5 := Lib.hid h
  clear h a x b
  have wt5 : (stp 1000 (some (frame abc)) none (frame de) 1).wt ≤ 274877906944 := by have := stp_wt 1000 (some (frame abc)) none (frame de) 1; omega
  obtain ⟨x6, y6, c1, c2, c3⟩ := crash_stp 1000 (some (frame abc)) (frame de) 1 ⟨0, 0, 0⟩
  have hx6 : x6 = some (frame abc) := by rcases c3 with ⟨c3, _⟩ | ⟨_, c3⟩ <;> first | exact c3 | omega
  subst hx6
  clear c3
  go_wp2_with fail
  refine (lcrash H5.out Ap5.out wt5 ⟨0, 0, 0⟩ (by decide) rfl rfl rfl c1).mono ?_
  rintro e w6 ⟨D6, rfl, h, a, x, b⟩
  have Ad6 := Lib.hid ((x d ne_d_p).trans Ad5.out)
  have Aq6 := Lib.hid ((x q (Ne.symm ne_p_q)).trans Aq5.out)
  have Ap6 := Lib.hid a
  have O6 := Lib.hid (O5.out.trans b fun i _ hi => hi)
  have H6 := Lib.hid h
  clear h a x b
  go_wp2_with fail
  refine (lpart H6.out Aq6.out (by omega) (by omega) de (by decide) (by omega) 3 rfl rfl).mono ?_
  rintro e w7 ⟨D7, rfl, h, a, x, b⟩
  have Ad7 := Lib.hid ((x d ne_d_q).trans Ad6.out)
  have Ap7 := Lib.hid ((x p ne_p_q).trans Ap6.out)
  have Aq7 := Lib.hid a
  have O7 := Lib.hid (O6.out.trans b fun i _ hi => hi)
  have H7 := Lib.hid h
  clear h a x b
  have wt7 : (stp 1000 (some (frame abc)) none (frame de) 3).wt ≤ 274877906944 := by have := stp_wt 1000 (some (frame abc)) none (frame de) 3; omega
  go_wp2_with fail
  refine (lcrash H7.out Aq7.out wt7 ⟨9, 0, 0⟩ (by decide) rfl rfl rfl (crash_nine _ _ _)).mono ?_
  rintro e w8 ⟨D8, rfl, h, a, x, b⟩
  have Ad8 := Lib.hid ((x d ne_d_q).trans Ad7.out)
  have Ap8 := Lib.hid ((x p ne_p_q).trans Ap7.out)
  have Aq8 := Lib.hid a
  have O8 := Lib.hid (O7.out.trans b fun i _ hi => hi)
  have H8 := Lib.hid h
  clear h a x b
  go_wp2_with fail
  refine (lget H8.out Ap8.out (by omega) (by omega) (got_frame 1000 abc (by decide) y6) (tb := ⟨#[97, 98, 99]⟩) rfl).mono ?_
  rintro e u1 ⟨rfl, b1⟩
  have B1 := Lib.hid b1
  clear b1
  go_wp2_with fail
  refine (lget (H8.out.below B1.out) Aq8.out (by omega) (by omega) (got_frame 1000 de (by decide) none) (tb := ⟨#[100, 101]⟩) rfl).mono ?_
  rintro e u2 ⟨rfl, b2⟩
  have B2 := Lib.hid (B1.out.trans (b2.mono B1.out.size))
  clear b2
  go_wp2_with fail
  refine (lget_t (H8.out.below B2.out) Ad8.out (by omega)).mono ?_
  rintro e u3 ⟨rfl, b3⟩
  have B3 := Lib.hid (B2.out.trans (b3.mono B2.out.size))
  clear b3
  go_wp2
  go_ret
  exact ⟨rfl, (O8.out.trans (Only.of_below (S := Off Z) B3.out) fun i _ hi => hi).belowZ HZ.out (Nat.le_refl _)⟩
end Go.Proofs.Ytpbgckpjgfjmgaa.gn
