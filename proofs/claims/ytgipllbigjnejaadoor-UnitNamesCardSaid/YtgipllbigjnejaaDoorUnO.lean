/- The walk of UnitNames. -/
import Derived.Test.YtgipllbigjnejaaDoorUnJ
import Derived.Test.YtgipllbigjnejaaDoorGenSl
import Derived.Deep.LoopGhost
set_option linter.unusedVariables false
namespace Go.Proofs.YtgipllbigjnejaaDoor.gn
open Go.RowKit
open Go.Proofs.YtgipllbigjnejaaDoor.un

set_option maxRecDepth 100000 in
set_option maxHeartbeats 4000000 in
theorem names_any (l : List UInt8) (hm : l.length ≤ 9223372036854775807) (w : World) (hL : LaidU w) :
    Calls Tryd.prog 6 #[.string (str l)] w (Told (.bool true) w) := by
  have HC := Lib.hid fun (W : World) (hb : Below w.heap.size w W) => hL.next hb
  have H0 := Lib.hid (Below.refl w.heap.size w)
  by_cases hl : 200 < l.length
  · have z0 : 200 < (str l).size := by rw [str_size]; exact hl
    have z1 : (str l).size ≤ 9223372036854775807 := by rw [str_size]; exact hm
    clear hl hm hL
    go_enter Tryd.func6, Tryd.ntmps6
    go_wp2_with fail
    refine (head_any _ (HC.out _ H0.out)).mono ?_
    rintro e w1 ⟨rfl, hb⟩
    have H1 := Lib.hid hb
    clear hb
    go_wp2
    go_ret
    exact ⟨rfl, H1.out⟩
  · have hz := str_size l
    have z0 : (str l).size ≤ 200 := by omega
    have HM := Lib.hid (show l.length ≤ 140737488355328 by omega)
    have HM2 := Lib.hid (show (l ++ [97]).length ≤ 140737488355328 by rw [List.length_append]; simp; omega)
    have HZ := Lib.hid hz
    have za : (ByteArray.mk #[97]).size = 1 := rfl
    have HAP := Lib.hid (show str l ++ ByteArray.mk #[97] = str (l ++ [97]) from str_app l [97])
    cases hn : isName l with
    | false =>
      have HN := Lib.hid hn
      by_cases h0 : l.length = 0
      · have q0 : (((str l).size : Int) == 0) = true := by rw [beq_iff_eq]; omega
        clear hn hl hm hz h0 hL
        go_enter Tryd.func6, Tryd.ntmps6
        go_wp2_with fail
        refine (name_any l HM.out _).mono ?_
        rintro e w1 ⟨rfl, hb⟩
        rw [HN.out]
        have H1 := Lib.hid hb
        clear hb
        go_wp2_with fail
        refine (head_any _ (HC.out _ H1.out)).mono ?_
        rintro e w2 ⟨rfl, hb⟩
        have H2 := Lib.hid (H1.out.trans (hb.mono H1.out.size))
        clear hb
        go_wp2
        go_ret
        exact ⟨rfl, H2.out⟩
      · have q0 : (((str l).size : Int) == 0) = false := by rw [beq_eq_false_iff_ne]; omega
        have q2 : isName (l ++ [97]) = false ∨ decide (32 < ((str l).size : Int)) = true := by
          rcases Nat.lt_or_ge 32 l.length with h | h
          · exact .inr (decide_eq_true (by omega))
          · exact .inl (name_not hn h0 h)
        obtain ⟨b, hb⟩ : ∃ b, isName (l ++ [97]) = b := ⟨_, rfl⟩
        have HNB := Lib.hid hb
        rw [hb] at q2
        clear hn hl hm hz h0 hb hL
        rcases q2 with rfl | q2
        case' inr => cases b
        all_goals
          go_enter Tryd.func6, Tryd.ntmps6
          go_wp2_with fail
          refine (name_any l HM.out _).mono ?_
          rintro e w1 ⟨rfl, hb⟩
          rw [HN.out]
          have H1 := Lib.hid hb
          clear hb
          go_wp2_with fail
          rw [HAP.out]
          refine (name_any (l ++ [97]) HM2.out _).mono ?_
          rintro e w2 ⟨rfl, hb⟩
          rw [HNB.out]
          have H2 := Lib.hid (H1.out.trans (hb.mono H1.out.size))
          clear hb
          go_wp2_with fail
          refine (head_any _ (HC.out _ H2.out)).mono ?_
          rintro e w3 ⟨rfl, hb⟩
          have H3 := Lib.hid (H2.out.trans (hb.mono H2.out.size))
          clear hb
          go_wp2
          go_ret
          exact ⟨rfl, H3.out⟩
    | true =>
      have HN := Lib.hid hn
      obtain ⟨n0, n1, n2⟩ := name_one hn
      have hmore := name_more hn
      have HNA := Lib.hid hmore
      have hby : ∀ k (h : k < l.length), l[k].toNat ≠ 32 ∧ l[k].toNat ≠ 61 ∧ l[k].toNat ≠ 10 ∧ l[k].toNat ≠ 44 ∧ l[k].toNat ≠ 58 ∧ l[k].toNat < 128 := fun k h => name_bytes hn k h
      have HBY := Lib.hid hby
      have hsl : ∀ W, _ := fun W => sl_upto l (((str l).size : Int) - 1) (l.length - 1) (by omega) (by omega) W
      have HTL := Lib.hid (show (l.take (l.length - 1)).length ≤ 140737488355328 by rw [List.length_take]; omega)
      obtain ⟨lt, hlt0⟩ : ∃ lt, decide (l.length < 32) = lt := ⟨_, rfl⟩
      rw [hlt0] at HNA
      have qlt : decide (((str l).size : Int) < 32) = lt := by rw [← hlt0]; exact decide_eq_decide.2 (by omega)
      have zs : 1 ≤ (str l).size := by omega
      have zs2 : (str l).size ≤ 32 := by omega
      have hfr : ((((str l).size : Int) == 1) = true) ∨ ((((str l).size : Int) == 1) = false ∧ isName (l.take (l.length - 1)) = true) := by
        rcases Nat.lt_or_ge l.length 2 with h | h
        · exact .inl (by rw [beq_iff_eq]; omega)
        · exact .inr ⟨by rw [beq_eq_false_iff_ne]; omega, name_front hn h⟩
      have HFR := Lib.hid hfr
      generalize l.take (l.length - 1) = f at *
      clear hn hl hm hz hL hmore hby hlt0 n0 n1 n2 hfr
      go_enter Tryd.func6, Tryd.ntmps6
      go_wp2_with fail
      refine (name_any l HM.out _).mono ?_
      rintro e w1 ⟨rfl, hb⟩
      rw [HN.out]
      have H1 := Lib.hid hb
      clear hb
      go_wp2_with fail
      go_loopw [3] (fun s3 wr => ∃ k : Nat, s3 = .int .i64 k ∧ k ≤ (str l).size ∧ wr = w1) (fun s3 _ => (str l).size - (intOf s3).toNat)
      case atStart => exact ⟨0, rfl, Nat.zero_le _, rfl⟩
      case round =>
        obtain ⟨k, rfl, hk, rfl⟩ := hrel
        by_cases hlt : k < (str l).size
        · have hpl : k < l.length := by rw [← HZ.out]; exact hlt
          have hg := str_at l k hlt
          have hbb := HBY.out k hpl
          rw [← hg] at hbb
          obtain ⟨c, hc⟩ : ∃ c, (str l)[k]'hlt = c := ⟨_, rfl⟩
          rw [hc] at hbb
          have hix : ∀ W, (Instr.index 9 (.string (str l)) (.int .i64 (k : Int))).run Tryd.prog W = .ok (.int .u8 (c.toNat : Int)) W := fun W => by
            rw [← hc, run_index_string W _ (str l) .i64 (k : Int) Tryd.underlying9, dif_pos ⟨by omega, by omega⟩]
            rfl
          obtain ⟨b1, b2, b3, b4, b5, b6⟩ := hbb
          have e1 : ((c.toNat : Int) == 32) = false := by rw [beq_eq_false_iff_ne]; omega
          have e2 : ((c.toNat : Int) == 61) = false := by rw [beq_eq_false_iff_ne]; omega
          have e3 : ((c.toNat : Int) == 10) = false := by rw [beq_eq_false_iff_ne]; omega
          have e4 : ((c.toNat : Int) == 44) = false := by rw [beq_eq_false_iff_ne]; omega
          have e5 : ((c.toNat : Int) == 58) = false := by rw [beq_eq_false_iff_ne]; omega
          have e6 : decide (128 ≤ (c.toNat : Int)) = false := decide_eq_false (by omega)
          clear b1 b2 b3 b4 b5 b6 hc hg hpl
          go_wp2
          go_roundw
          case rel => exact ⟨k + 1, by go_num, by omega, trivial⟩
          case measure => simp [intOf]; omega
        · have hfr := HFR.out
          clear HBY HFR
          rcases hfr with q1 | ⟨q1, hf⟩
          · go_wp2_with fail
            rw [HAP.out]
            refine (name_any (l ++ [97]) HM2.out _).mono ?_
            rintro e w2 ⟨rfl, hb⟩
            rw [HNA.out]
            have H2 := Lib.hid (H1.out.trans (hb.mono H1.out.size))
            clear hb
            go_wp2_with fail
            refine (head_any _ (HC.out _ H2.out)).mono ?_
            rintro e w3 ⟨rfl, hb⟩
            have H3 := Lib.hid (H2.out.trans (hb.mono H2.out.size))
            clear hb
            go_wp2
            go_ret
            exact ⟨rfl, H3.out⟩
          · have HF := Lib.hid hf
            clear hf
            go_wp2_with fail
            refine (name_any f HTL.out _).mono ?_
            rintro e w2 ⟨rfl, hb⟩
            rw [HF.out]
            have H2 := Lib.hid (H1.out.trans (hb.mono H1.out.size))
            clear hb
            go_wp2_with fail
            rw [HAP.out]
            refine (name_any (l ++ [97]) HM2.out _).mono ?_
            rintro e w3 ⟨rfl, hb⟩
            rw [HNA.out]
            have H3 := Lib.hid (H2.out.trans (hb.mono H2.out.size))
            clear hb
            go_wp2_with fail
            refine (head_any _ (HC.out _ H3.out)).mono ?_
            rintro e w4 ⟨rfl, hb⟩
            have H4 := Lib.hid (H3.out.trans (hb.mono H3.out.size))
            clear hb
            go_wp2
            go_ret
            exact ⟨rfl, H4.out⟩
end Go.Proofs.YtgipllbigjnejaaDoor.gn
