/- The walk of UnitTexts. -/
import Derived.Test.YtgipllbigjnejaaDoorUnH
import Derived.Test.YtgipllbigjnejaaDoorUnJ
set_option linter.unusedVariables false
namespace Go.Proofs.YtgipllbigjnejaaDoor.gn
open Go.RowKit
open Go.Proofs.YtgipllbigjnejaaDoor.un

theorem num_nil : num? [] = none := rfl

set_option maxRecDepth 100000 in
set_option maxHeartbeats 4000000 in
theorem texts_any (n : Int) (h0 : -9223372036854775808 ≤ n) (h1 : n ≤ 9223372036854775807) (w : World) (hL : LaidU w) :
    Calls Tryd.prog 4 #[.int .i64 n] w (Told (.bool true) w) := by
  have HC := Lib.hid fun (W : World) (hb : Below w.heap.size w W) => hL.next hb
  have H0 := Lib.hid (Below.refl w.heap.size w)
  obtain ⟨s, hs⟩ : ∃ s, txt n = s := ⟨_, rfl⟩
  obtain ⟨t, ht⟩ : ∃ t, stxt n = t := ⟨_, rfl⟩
  have ct := fun W h => text_any n h0 h1 W h
  have cs := fun W h => stext_any n h0 h1 W h
  have dt := fun W => dtext_any n W
  have ds := fun W => dstext_any n W
  have hsl := txt_len n
  have htl := stxt_len n
  rw [hs] at ct dt hsl
  rw [ht] at cs ds htl
  have HSL := Lib.hid (show s.length ≤ 140737488355328 by omega)
  have HTL := Lib.hid (show t.length ≤ 140737488355328 by omega)
  have CT := Lib.hid ct; have CS := Lib.hid cs; have DT := Lib.hid dt; have DS := Lib.hid ds
  have q1 : ((str s).toList == (str s).toList) = true := by simp
  have q2 : ((str t).toList == (str t).toList) = true := by simp
  clear ct cs dt ds hsl htl hL
  by_cases hq : 0 ≤ n ∧ n ≤ 1099511627776
  · obtain ⟨m, rfl⟩ : ∃ m : Nat, n = (m : Int) := ⟨n.toNat, by omega⟩
    have hm : m ≤ top := by unfold top; omega
    have HN := Lib.hid (show num? s = some m by rw [← hs, txt_in hm]; exact num_dec hm)
    have HZ := Lib.hid (show size? t = some m by rw [← ht]; exact size_stxt hm)
    have HQ := Lib.hid (show quant (m : Int) = true from decide_eq_true hq)
    clear hs ht hq hm
    go_enter Tryd.func4, Tryd.ntmps4
    go_wp2_with fail
    refine (CT.out _ (HC.out _ H0.out)).mono ?_
    rintro e w1 ⟨rfl, hb⟩
    have H1 := Lib.hid hb
    clear hb
    go_wp2_with fail
    refine (CS.out _ (HC.out _ H1.out)).mono ?_
    rintro e w2 ⟨rfl, hb⟩
    have H2 := Lib.hid (H1.out.trans (hb.mono H1.out.size))
    clear hb
    go_wp2_with fail
    refine (DT.out _).mono ?_
    rintro e w3 ⟨rfl, hb⟩
    have H3 := Lib.hid (H2.out.trans (hb.mono H2.out.size))
    clear hb
    go_wp2_with fail
    refine (DS.out _).mono ?_
    rintro e w4 ⟨rfl, hb⟩
    have H4 := Lib.hid (H3.out.trans (hb.mono H3.out.size))
    clear hb
    go_wp2_with fail
    refine (number_unit s HSL.out _ (HC.out _ H4.out)).mono ?_
    rintro e w5 ⟨rfl, hb⟩
    rw [HN.out, qv_some, qe_some]
    have H5 := Lib.hid (H4.out.trans (hb.mono H4.out.size))
    clear hb
    go_wp2_with fail
    refine (size_any t HTL.out _ (HC.out _ H5.out)).mono ?_
    rintro e w6 ⟨rfl, hb⟩
    rw [HZ.out, qv_some, qe_some]
    have H6 := Lib.hid (H5.out.trans (hb.mono H5.out.size))
    clear hb
    go_wp2_with fail
    refine (dquant_any _ _).mono ?_
    rintro e w6x ⟨rfl, rfl⟩
    rw [HQ.out]
    go_wp2_with fail
    refine (head_any _ (HC.out _ H6.out)).mono ?_
    rintro e w7 ⟨rfl, hb⟩
    have H7 := Lib.hid (H6.out.trans (hb.mono H6.out.size))
    clear hb
    go_wp2
    go_ret
    exact ⟨rfl, H7.out⟩
  · have hs0 : s = [] := by rw [← hs]; exact txt_out hq
    have ht0 : t = [] := by rw [← ht, stxt_out (by omega)]; exact txt_out hq
    subst hs0; subst ht0
    have HN := Lib.hid num_nil
    have HZ := Lib.hid size_nil
    have HQ := Lib.hid (show quant n = false from decide_eq_false hq)
    have q3 : (str []).toList = [] := by rw [str_toList]
    clear q1 q2
    clear hs ht hq
    go_enter Tryd.func4, Tryd.ntmps4
    go_wp2_with fail
    refine (CT.out _ (HC.out _ H0.out)).mono ?_
    rintro e w1 ⟨rfl, hb⟩
    have H1 := Lib.hid hb
    clear hb
    go_wp2_with fail
    refine (CS.out _ (HC.out _ H1.out)).mono ?_
    rintro e w2 ⟨rfl, hb⟩
    have H2 := Lib.hid (H1.out.trans (hb.mono H1.out.size))
    clear hb
    go_wp2_with fail
    refine (DT.out _).mono ?_
    rintro e w3 ⟨rfl, hb⟩
    have H3 := Lib.hid (H2.out.trans (hb.mono H2.out.size))
    clear hb
    go_wp2_with fail
    refine (DS.out _).mono ?_
    rintro e w4 ⟨rfl, hb⟩
    have H4 := Lib.hid (H3.out.trans (hb.mono H3.out.size))
    clear hb
    go_wp2_with fail
    refine (number_unit [] HSL.out _ (HC.out _ H4.out)).mono ?_
    rintro e w5 ⟨rfl, hb⟩
    rw [HN.out, qv_none, qe_none]
    have H5 := Lib.hid (H4.out.trans (hb.mono H4.out.size))
    clear hb
    go_wp2_with fail
    refine (size_any [] HTL.out _ (HC.out _ H5.out)).mono ?_
    rintro e w6 ⟨rfl, hb⟩
    rw [HZ.out, qv_none, qe_none]
    have H6 := Lib.hid (H5.out.trans (hb.mono H5.out.size))
    clear hb
    go_wp2_with fail
    refine (dquant_any _ _).mono ?_
    rintro e w6x ⟨rfl, rfl⟩
    rw [HQ.out]
    go_wp2_with fail
    refine (head_any _ (HC.out _ H6.out)).mono ?_
    rintro e w7 ⟨rfl, hb⟩
    have H7 := Lib.hid (H6.out.trans (hb.mono H6.out.size))
    clear hb
    go_wp2
    go_ret
    exact ⟨rfl, H7.out⟩
end Go.Proofs.YtgipllbigjnejaaDoor.gn
