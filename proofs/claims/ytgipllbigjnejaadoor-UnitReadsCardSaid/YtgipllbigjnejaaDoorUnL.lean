/- The walks of UnitReads and UnitTexts. -/
import Derived.Test.YtgipllbigjnejaaDoorUnH
import Derived.Test.YtgipllbigjnejaaDoorUnI
import Derived.Test.YtgipllbigjnejaaDoorUnJ
set_option linter.unusedVariables false
namespace Go.Proofs.YtgipllbigjnejaaDoor.gn
open Go.RowKit
open Go.Proofs.YtgipllbigjnejaaDoor.un

set_option maxRecDepth 100000 in
set_option maxHeartbeats 4000000 in
theorem reads_long (l : List UInt8) (hl : 200 < l.length) (hm : l.length ≤ 9223372036854775807) (w : World) (hL : LaidU w) :
    Calls Tryd.prog 3 #[.string (str l)] w (Told (.bool true) w) := by
  have z0 : 200 < (str l).size := by rw [str_size]; exact hl
  have z1 : (str l).size ≤ 9223372036854775807 := by rw [str_size]; exact hm
  have HH := Lib.hid (head_any w hL)
  clear hl hm hL
  go_enter Tryd.func3, Tryd.ntmps3
  go_wp2_with fail
  refine HH.out.mono ?_
  rintro e w1 ⟨rfl, hb⟩
  have HB := Lib.hid hb
  clear hb
  go_wp2
  go_ret
  exact ⟨rfl, HB.out⟩

set_option maxRecDepth 100000 in
set_option maxHeartbeats 4000000 in
theorem reads_any (l : List UInt8) (hm : l.length ≤ 9223372036854775807) (w : World) (hL : LaidU w) :
    Calls Tryd.prog 3 #[.string (str l)] w (Told (.bool true) w) := by
  by_cases hl : 200 < l.length
  · exact reads_long l hl hm w hL
  · have hm2 : l.length ≤ 140737488355328 := by omega
    have z0 : (str l).size ≤ 200 := by rw [str_size]; omega
    have HC := Lib.hid fun (W : World) (hb : Below w.heap.size w W) => hL.next hb
    have HM := Lib.hid hm2
    obtain ⟨o, ho⟩ : ∃ o, num? l = o := ⟨_, rfl⟩
    obtain ⟨p, hp⟩ : ∃ p, size? l = p := ⟨_, rfl⟩
    have hcase : (o = none ∧ qv o = 0 ∧ qe o = 130) ∨ ∃ n : Nat, qv o = (n : Int) ∧ qe o = 0 ∧ p = o ∧ n ≤ 1099511627776 ∧ txt (n : Nat) = l := by
      cases o with
      | none => exact .inl ⟨rfl, rfl, rfl⟩
      | some n => exact .inr ⟨n, rfl, rfl, by rw [← hp, size_num ho], (num_some ho).2.2.2.1, by rw [txt_in (num_some ho).2.2.2.1]; exact (num_some ho).2.2.2.2⟩
    have cn := fun W h => number_unit l hm2 W h
    have cd := fun W => dnumber_any l hm2 W
    have cs := fun W h => size_any l hm2 W h
    have ct := fun W => dsize_any l hm2 W
    rw [ho] at cn cd
    rw [hp] at cs ct
    have CN := Lib.hid cn; have CD := Lib.hid cd; have CS := Lib.hid cs; have CT := Lib.hid ct
    have H0 := Lib.hid (Below.refl w.heap.size w)
    have q0 : ((str l).toList == (str l).toList) = true := by simp
    obtain ⟨nb, hnb⟩ : ∃ nb, isName l = nb := ⟨_, rfl⟩
    have HNB := Lib.hid hnb
    clear cn cd cs ct hL hl ho hp hm hm2 hnb
    rcases hcase with ⟨rfl, hv, he⟩ | ⟨n, hv, he, rfl, hn, ht⟩
    · obtain ⟨pv, hpv⟩ : ∃ pv, qv p = pv := ⟨_, rfl⟩
      obtain ⟨pe, hpe⟩ : ∃ pe, qe p = pe := ⟨_, rfl⟩
      have HV := Lib.hid hpv
      have HE := Lib.hid hpe
      clear hpv hpe hv he
      go_enter Tryd.func3, Tryd.ntmps3
      go_wp2_with fail
      refine (CN.out _ (HC.out _ H0.out)).mono ?_
      rintro e w1 ⟨rfl, hb⟩
      rw [qv_none, qe_none]
      have H1 := Lib.hid hb
      clear hb
      go_wp2_with fail
      refine (CD.out _).mono ?_
      rintro e w1x ⟨rfl, rfl⟩
      rw [qv_none, qe_none]
      go_wp2_with fail
      refine (CS.out _ (HC.out _ H1.out)).mono ?_
      rintro e w2 ⟨rfl, hb⟩
      rw [HV.out, HE.out]
      have H2 := Lib.hid (H1.out.trans (hb.mono H1.out.size))
      clear hb
      go_wp2_with fail
      refine (CT.out _).mono ?_
      rintro e w3 ⟨rfl, hb⟩
      rw [HV.out, HE.out]
      have H3 := Lib.hid (H2.out.trans (hb.mono H2.out.size))
      clear hb
      go_wp2_with fail
      refine (name_any l HM.out _).mono ?_
      rintro e w4 ⟨rfl, hb⟩
      rw [HNB.out]
      have H4 := Lib.hid (H3.out.trans (hb.mono H3.out.size))
      clear hb
      go_wp2_with fail
      refine (dname_any l HM.out _).mono ?_
      rintro e w4x ⟨rfl, rfl⟩
      rw [HNB.out]
      go_wp2_with fail
      refine (head_any _ (HC.out _ H4.out)).mono ?_
      rintro e w5 ⟨rfl, hb⟩
      have H5 := Lib.hid (H4.out.trans (hb.mono H4.out.size))
      clear hb
      go_wp2
      go_ret
      exact ⟨rfl, H5.out⟩
    · have HV := Lib.hid hv
      have HE := Lib.hid he
      have HT := Lib.hid ht
      clear hv he ht
      go_enter Tryd.func3, Tryd.ntmps3
      go_wp2_with fail
      refine (CN.out _ (HC.out _ H0.out)).mono ?_
      rintro e w1 ⟨rfl, hb⟩
      rw [HV.out, HE.out]
      have H1 := Lib.hid hb
      clear hb
      go_wp2_with fail
      refine (CD.out _).mono ?_
      rintro e w1x ⟨rfl, rfl⟩
      rw [HV.out, HE.out]
      go_wp2_with fail
      refine (CS.out _ (HC.out _ H1.out)).mono ?_
      rintro e w2 ⟨rfl, hb⟩
      rw [HV.out, HE.out]
      have H2 := Lib.hid (H1.out.trans (hb.mono H1.out.size))
      clear hb
      go_wp2_with fail
      refine (CT.out _).mono ?_
      rintro e w3 ⟨rfl, hb⟩
      rw [HV.out, HE.out]
      have H3 := Lib.hid (H2.out.trans (hb.mono H2.out.size))
      clear hb
      go_wp2_with fail
      refine (name_any l HM.out _).mono ?_
      rintro e w4 ⟨rfl, hb⟩
      rw [HNB.out]
      have H4 := Lib.hid (H3.out.trans (hb.mono H3.out.size))
      clear hb
      go_wp2_with fail
      refine (dname_any l HM.out _).mono ?_
      rintro e w4x ⟨rfl, rfl⟩
      rw [HNB.out]
      go_wp2_with fail
      refine (text_any (n : Int) (by omega) (by omega) _ (HC.out _ H4.out)).mono ?_
      rintro e w5 ⟨rfl, hb⟩
      rw [HT.out]
      have H5 := Lib.hid (H4.out.trans (hb.mono H4.out.size))
      clear hb
      go_wp2_with fail
      refine (head_any _ (HC.out _ H5.out)).mono ?_
      rintro e w6 ⟨rfl, hb⟩
      have H6 := Lib.hid (H5.out.trans (hb.mono H5.out.size))
      clear hb
      go_wp2
      go_ret
      exact ⟨rfl, H6.out⟩
end Go.Proofs.YtgipllbigjnejaaDoor.gn
