/- The document's answers: digits, numbers, units. -/
import Derived.Test.YtpmghgfgbkncoaaGreatDoorMUnA
import Derived.Deep.LoopGhost
section
set_option linter.unusedVariables false
namespace Go.Proofs.YtpmghgfgbkncoaaGreatDoor.gn
open Go.RowKit
open Go.Proofs.YtpmghgfgbkncoaaGreatDoor.un
open Go.Lib (decFrom)

def quant (n : Int) : Bool := decide (0 ≤ n ∧ n ≤ 1099511627776)
theorem dquant_any (n : Int) (w : World) : Calls Tryz.prog 57 #[.int .i64 n] w fun e w' => e = .returned (.bool (quant n)) ∧ w = w' := by
  by_cases h0 : 0 ≤ n
  · by_cases h1 : n ≤ 1099511627776
    · have H := Lib.hid (show quant n = true from decide_eq_true ⟨h0, h1⟩)
      have h2 : decide (n ≤ 1099511627776) = true := decide_eq_true h1
      go_enter Tryz.func57, Tryz.ntmps57
      go_wp2
      go_ret
      exact ⟨by rw [H.out]; rfl, rfl⟩
    · have H := Lib.hid (show quant n = false from decide_eq_false (by omega))
      have h2 : decide (n ≤ 1099511627776) = false := decide_eq_false h1
      go_enter Tryz.func57, Tryz.ntmps57
      go_wp2
      go_ret
      exact ⟨by rw [H.out]; rfl, rfl⟩
  · have H := Lib.hid (show quant n = false from decide_eq_false (by omega))
    go_enter Tryz.func57, Tryz.ntmps57
    go_wp2
    go_ret
    exact ⟨by rw [H.out]; rfl, rfl⟩

theorem digit_any (c : UInt8) (w : World) : Calls Tryz.prog 72 #[.int .u8 (c.toNat : Int)] w fun e w' => e = .returned (.bool (dig c)) ∧ w = w' := by
  by_cases h0 : 48 ≤ c.toNat
  · by_cases h1 : c.toNat ≤ 57
    · have H := Lib.hid (show dig c = true from decide_eq_true ⟨h0, h1⟩)
      have h2 : decide ((c.toNat : Int) ≤ 57) = true := decide_eq_true (by omega)
      go_enter Tryz.func72, Tryz.ntmps72
      go_wp2
      go_ret
      exact ⟨by rw [H.out]; rfl, rfl⟩
    · have H := Lib.hid (show dig c = false from decide_eq_false (by omega))
      have h2 : decide ((c.toNat : Int) ≤ 57) = false := decide_eq_false (by omega)
      go_enter Tryz.func72, Tryz.ntmps72
      go_wp2
      go_ret
      exact ⟨by rw [H.out]; rfl, rfl⟩
  · have H := Lib.hid (show dig c = false from decide_eq_false (by omega))
    go_enter Tryz.func72, Tryz.ntmps72
    go_wp2
    go_ret
    exact ⟨by rw [H.out]; rfl, rfl⟩

theorem decFrom_step {l : List UInt8} {k acc : Nat} (h : k < l.length) (hd : dig (l[k]'h) = true) : decFrom acc (l.drop k) = decFrom (10 * acc + ((l[k]'h).toNat - 48)) (l.drop (k + 1)) := by
  rw [List.drop_eq_getElem_cons h, Lib.decFrom, digitVal_dig, if_pos hd]
  show decFrom (acc * 10 + _) _ = _
  rw [Nat.mul_comm]
theorem decFrom_stop {l : List UInt8} {k acc : Nat} (h : k < l.length) (hd : dig (l[k]'h) = false) : decFrom acc (l.drop k) = none := by
  rw [List.drop_eq_getElem_cons h, Lib.decFrom, digitVal_dig, if_neg (by rw [hd]; decide)]

theorem num_empty : num? [] = none := rfl
theorem num_lead {l : List UInt8} (h : 1 < l.length) (h0 : l.head? = some 48) : num? l = none := by
  unfold num?
  rw [if_pos (.inr (.inr ⟨h, h0⟩))]
theorem num_from {l : List UInt8} (h1 : l ≠ []) (h2 : l.length ≤ 13) (h3 : 1 < l.length → l.head? ≠ some 48) : num? l = match decFrom 0 l with
    | some n => if n ≤ top then some n else none
    | none => none := by
  unfold num?
  rw [if_neg]
  · rfl
  · rintro (h | h | ⟨h, h'⟩)
    · exact h1 h
    · omega
    · exact h3 h h'

set_option maxRecDepth 100000 in
set_option maxHeartbeats 3200000 in
/-- The document's Number behind its first tests. -/
theorem dnumber_go (l : List UInt8) (h1 : l ≠ []) (h2 : l.length ≤ 13) (h3 : 1 < l.length → l.head? ≠ some 48) (w : World) :
    Calls Tryz.prog 71 #[.string (str l)] w fun e w' => e = .returned (.tuple #[.int .i64 (qv (num? l)), .int .i64 (qe (num? l))]) ∧ w = w' := by
  have hnum := num_from h1 h2 h3
  obtain ⟨ans, hans⟩ : ∃ ans, decFrom 0 l = ans := ⟨_, rfl⟩
  rw [hans] at hnum
  have HN := Lib.hid hnum
  have HA := Lib.hid (show decFrom 0 (l.drop 0) = ans by simpa using hans)
  have hz := str_size l
  have hz1 : (str l).size ≤ 13 := by omega
  have hz0 : 0 < (str l).size := by
    cases l with
    | nil => exact absurd rfl h1
    | cons b r => rw [hz]; simp
  have hz2 : (((str l).size : Int) == 0) = false := by rw [beq_eq_false_iff_ne]; omega
  have hz3 : decide (13 < ((str l).size : Int)) = false := decide_eq_false (by omega)
  have hlead : (1 < (str l).size ∧ ((((str l)[0]'hz0).toNat : Int) == 48) = false) ∨ ((str l).size ≤ 1) := by
    rcases Nat.lt_or_ge 1 (str l).size with h | h
    · left
      refine ⟨h, ?_⟩
      rw [beq_eq_false_iff_ne, str_at]
      intro he
      apply h3 (by omega)
      cases l with
      | nil => exact absurd rfl h1
      | cons b r =>
        have : b.toNat = 48 := by
          have : (b.toNat : Int) = 48 := he
          omega
        have : b = 48 := UInt8.toNat_inj.1 this
        rw [this]
        rfl
    · exact .inr h
  have HZ := Lib.hid hz
  clear hz hnum hans h1 h2 h3
  rcases hlead with ⟨hl1, hl2⟩ | hl1
  case' inr => have hl3 : decide (1 < ((str l).size : Int)) = false := decide_eq_false (by omega)
  case' inl => have hl3 : decide (1 < ((str l).size : Int)) = true := decide_eq_true (by omega)
  all_goals
    go_enter Tryz.func71, Tryz.ntmps71
    go_wp2
    go_loopw [4, 5] (fun s4 s5 wr => ∃ k acc : Nat, s5 = .int .i64 k ∧ s4 = .int .i64 acc ∧ k ≤ (str l).size ∧ Aside (acc < 10 ^ k) ∧ Aside (decFrom acc (l.drop k) = ans) ∧ wr = w) (fun _ s5 _ => (str l).size - (intOf s5).toNat)
    case atStart => exact ⟨0, 0, rfl, rfl, Nat.zero_le _, (by decide : (0 : Nat) < 10 ^ 0), HA.out, rfl⟩
    case round =>
      obtain ⟨k, acc, rfl, rfl, hk, hacc, hok, rfl⟩ := hrel
      by_cases hlt : k < (str l).size
      · have hk2 : k < l.length := by have := HZ.out; omega
        have hp : acc < 10 ^ 12 := Nat.lt_of_lt_of_le hacc (Nat.pow_le_pow_right (by decide) (by omega))
        have hp2 : acc < 1000000000000 := hp
        have hpk : 10 * acc + 9 < 10 ^ (k + 1) := by
          have : acc < 10 ^ k := hacc
          rw [Nat.pow_succ]; omega
        have HP := Lib.hid hpk
        have hb := UInt8.toNat_lt ((str l)[k]'hlt)
        have hge := str_at l k hlt
        cases hd : dig ((str l)[k]'hlt) with
        | true =>
          have hd2 := hd
          unfold dig at hd2
          have hd3 : 48 ≤ ((str l)[k]'hlt).toNat ∧ ((str l)[k]'hlt).toNat ≤ 57 := by simpa using hd2
          obtain ⟨d1, d2⟩ := hd3
          have hok2 : decFrom (10 * acc + (((str l)[k]'hlt).toNat - 48)) (l.drop (k + 1)) = ans := by
            rw [hge, ← decFrom_step hk2 (by rw [← hge]; exact hd)]
            exact hok
          have HO := Lib.hid hok2
          have HD := Lib.hid hd
          clear hok2 hok hd2 hp hpk hacc hge hd
          go_wp2_with (go_at_call 72; refine (digit_any ((str l)[k]'hlt) _).mono ?_; rintro e w2 ⟨rfl, rfl⟩; rw [HD.out])
          go_roundw
          case rel => exact ⟨k + 1, 10 * acc + (((str l)[k]'hlt).toNat - 48), by go_num, by go_num, by omega, (show _ < _ by have := HP.out; omega), HO.out, trivial⟩
          case measure => simp [intOf]; omega
        | false =>
          have hans : ans = none := by
            rw [← (show decFrom acc (l.drop k) = ans from hok)]
            exact decFrom_stop hk2 (by rw [← hge]; exact hd)
          subst hans
          have HD := Lib.hid hd
          clear hok hp hpk hacc hge hd
          go_wp2_with (go_at_call 72; refine (digit_any ((str l)[k]'hlt) _).mono ?_; rintro e w2 ⟨rfl, rfl⟩; rw [HD.out])
          go_ret2
          rw [HN.out]
          exact ⟨rfl, rfl⟩
      · have hkl : k = l.length := by have := HZ.out; omega
        have hans : ans = some acc := by
          rw [← (show decFrom acc (l.drop k) = ans from hok), hkl, List.drop_length]
          rfl
        have hp : acc < 10 ^ 13 := Nat.lt_of_lt_of_le hacc (Nat.pow_le_pow_right (by decide) (by omega))
        have hp2 : acc < 10000000000000 := hp
        have hn := HN.out
        rw [hans] at hn
        dsimp only at hn
        clear hok hp hacc hans hkl HN HA
        by_cases ht : acc ≤ top
        · rw [if_pos ht] at hn
          unfold top at ht
          have HNN := Lib.hid hn
          clear hn
          go_wp2
          go_ret2
          rw [HNN.out]
          exact ⟨rfl, rfl⟩
        · rw [if_neg ht] at hn
          unfold top at ht
          have HNN := Lib.hid hn
          clear hn
          go_wp2
          go_ret2
          rw [HNN.out]
          exact ⟨rfl, rfl⟩
end Go.Proofs.YtpmghgfgbkncoaaGreatDoor.gn
end
section
set_option linter.unusedVariables false
namespace Go.Proofs.YtpmghgfgbkncoaaGreatDoor.gn
open Go.RowKit
open Go.Proofs.YtpmghgfgbkncoaaGreatDoor.un

theorem wordb_yes {c : UInt8} (h : wordb c = true) : (97 ≤ c.toNat ∧ c.toNat ≤ 122) ∨ (65 ≤ c.toNat ∧ c.toNat ≤ 90) ∨ (48 ≤ c.toNat ∧ c.toNat ≤ 57) ∨ c.toNat = 95 := by
  unfold wordb at h
  simp only [Bool.or_eq_true, decide_eq_true_eq] at h
  omega
theorem wordb_no {c : UInt8} (h : wordb c = false) : c.toNat < 45 ∨ c.toNat = 45 ∨ c.toNat = 46 ∨ c.toNat = 47 ∨ (58 ≤ c.toNat ∧ c.toNat ≤ 64) ∨ (91 ≤ c.toNat ∧ c.toNat ≤ 94) ∨ c.toNat = 96 ∨ 123 ≤ c.toNat := by
  unfold wordb at h
  simp only [Bool.or_eq_false_iff, decide_eq_false_iff_not] at h
  omega

/-- What the law's file names isName, cut at its length. -/
def nameLast (l : List UInt8) : Bool := decide (0 < l.length) && decide (l.length ≤ 32)
theorem isName_of (l : List UInt8) : isName l = (nameLast l && okFrom 0 l) := rfl

set_option maxRecDepth 100000 in
set_option maxHeartbeats 4000000 in
theorem dname_any (l : List UInt8) (hl : l.length ≤ 140737488355328) (w : World) : Calls Tryz.prog 49 #[.string (str l)] w fun e w' => e = .returned (.bool (isName l)) ∧ w = w' := by
  obtain ⟨ans, hans⟩ : ∃ ans, okFrom 0 l = ans := ⟨_, rfl⟩
  have HI := Lib.hid (show isName l = (nameLast l && ans) by rw [isName_of, hans])
  have HN := Lib.hid (show okFrom 0 (l.drop 0) = ans by simpa using hans)
  have hz := str_size l
  have hz1 : (str l).size ≤ 140737488355328 := by omega
  have HZ := Lib.hid hz
  clear hans hz hl
  go_enter Tryz.func49, Tryz.ntmps49
  go_wp2
  go_loopw [3] (fun s3 wr => ∃ k : Nat, s3 = .int .i64 k ∧ k ≤ (str l).size ∧ Aside (okFrom k (l.drop k) = ans) ∧ wr = w) (fun s3 _ => (str l).size - (intOf s3).toNat)
  case atStart => exact ⟨0, rfl, Nat.zero_le _, HN.out, rfl⟩
  case round =>
    obtain ⟨k, rfl, hk, hok, rfl⟩ := hrel
    by_cases hlt : k < (str l).size
    · have hpl : k < l.length := by rw [← HZ.out]; exact hlt
      have hg := str_at l k hlt
      have HOK := Lib.hid (show (nmAt k ((str l)[k]'hlt) && okFrom (k + 1) (l.drop (k + 1))) = ans by
        rw [hg, ← okFrom_drop hpl]
        exact hok)
      clear hok hg
      obtain ⟨c, hc⟩ : ∃ c, (str l)[k]'hlt = c := ⟨_, rfl⟩
      rw [hc] at HOK
      have hix : ∀ W, (Instr.index 9 (.string (str l)) (.int .i64 (k : Int))).run Tryz.prog W = .ok (.int .u8 (c.toNat : Int)) W := fun W => by
        rw [← hc, run_index_string W _ (str l) .i64 (k : Int) Tryz.underlying9, dif_pos ⟨by omega, by omega⟩]
        rfl
      cases hw : wordb c with
      | true =>
        have hnm : nmAt k c = true := by unfold nmAt; rw [hw]; rfl
        have HO2 := Lib.hid (show okFrom (k + 1) (l.drop (k + 1)) = ans by rw [← HOK.out, hnm]; rfl)
        have hcs := wordb_yes hw
        have hdg : dig c = decide (48 ≤ c.toNat ∧ c.toNat ≤ 57) := rfl
        clear HOK hnm hw hc
        rcases hcs with ⟨c1, c2⟩ | ⟨c1, c2⟩ | ⟨c1, c2⟩ | c1
        case' inl => have hd2 : dig c = false := by rw [hdg]; exact decide_eq_false (by omega)
        case' inr.inl => have hd2 : dig c = false := by rw [hdg]; exact decide_eq_false (by omega)
        case' inr.inr.inl => have hd2 : dig c = true := by rw [hdg]; exact decide_eq_true (by omega)
        case' inr.inr.inr =>
          have hd2 : dig c = false := by rw [hdg]; exact decide_eq_false (by omega)
          have e95 : ((c.toNat : Int) == 95) = true := by rw [beq_iff_eq]; omega
          have c2 : 94 < c.toNat := by omega
          have c3 : c.toNat < 96 := by omega
          clear c1
        all_goals
          have HD := Lib.hid hd2
          clear hd2 hdg
          go_wp2_with (go_at_call 72; refine (digit_any c _).mono ?_; rintro e w2 ⟨rfl, rfl⟩; rw [HD.out])
          go_roundw
          case rel => exact ⟨k + 1, by go_num, by omega, HO2.out, trivial⟩
          case measure => simp [intOf]; omega
      | false =>
        have hcs := wordb_no hw
        have hdg : dig c = decide (48 ≤ c.toNat ∧ c.toNat ≤ 57) := rfl
        have hd2 : dig c = false := by rw [hdg]; exact decide_eq_false (by omega)
        have HD := Lib.hid hd2
        have e95 : ((c.toNat : Int) == 95) = false := by rw [beq_eq_false_iff_ne]; omega
        have hnm : nmAt k c = (decide (k ≠ 0) && (decide (c.toNat = 45) || decide (c.toNat = 46))) := by unfold nmAt; rw [hw]; rfl
        rw [hnm] at HOK
        clear hnm hw hc hd2 hdg
        by_cases hk0 : k = 0
        · have hans : ans = false := by rw [← HOK.out, show decide (k ≠ 0) = false from decide_eq_false (by omega)]; rfl
          have HIF := Lib.hid (show isName l = false by rw [HI.out, hans]; simp)
          have k0 : ((k : Int) == 0) = true := by rw [beq_iff_eq]; omega
          clear hk0 HOK hans
          rcases hcs with c1 | c1 | c1 | c1 | ⟨c1, c2⟩ | ⟨c1, c2⟩ | c1 | c1
          case' inr.inl =>
            have c2 : 44 < c.toNat := by omega
            have c3 : c.toNat < 46 := by omega
            clear c1
          case' inr.inr.inl =>
            have c2 : 45 < c.toNat := by omega
            have c3 : c.toNat < 47 := by omega
            clear c1
          case' inr.inr.inr.inl =>
            have c2 : 46 < c.toNat := by omega
            have c3 : c.toNat < 48 := by omega
            clear c1
          case' inr.inr.inr.inr.inr.inr.inl =>
            have c2 : 95 < c.toNat := by omega
            have c3 : c.toNat < 97 := by omega
            clear c1
          all_goals
            try have d122 : decide ((c.toNat : Int) ≤ 122) = false := decide_eq_false (by omega)
            try have d90 : decide ((c.toNat : Int) ≤ 90) = false := decide_eq_false (by omega)
            go_wp2_with (go_at_call 72; refine (digit_any c _).mono ?_; rintro e w2 ⟨rfl, rfl⟩; rw [HD.out])
            go_ret
            exact ⟨by rw [HIF.out]; rfl, rfl⟩
        · have k0 : ((k : Int) == 0) = false := by rw [beq_eq_false_iff_ne]; omega
          by_cases hy : c.toNat = 45 ∨ c.toNat = 46
          · have HO2 := Lib.hid (show okFrom (k + 1) (l.drop (k + 1)) = ans by
              have := HOK.out
              rw [show decide (k ≠ 0) = true from decide_eq_true hk0, show (decide (c.toNat = 45) || decide (c.toNat = 46)) = true by simpa using hy] at this
              simpa using this)
            clear hcs HOK hk0
            rcases hy with c1 | c1
            case' inl =>
              have e45 : ((c.toNat : Int) == 45) = true := by rw [beq_iff_eq]; omega
              have c2 : 44 < c.toNat := by omega
              have c3 : c.toNat < 46 := by omega
              clear c1
            case' inr =>
              have e45 : ((c.toNat : Int) == 45) = false := by rw [beq_eq_false_iff_ne]; omega
              have e46 : ((c.toNat : Int) == 46) = true := by rw [beq_iff_eq]; omega
              have n45 : ((c.toNat : Int) != 45) = true := by rw [bne_iff_ne]; omega
              have c2 : 45 < c.toNat := by omega
              have c3 : c.toNat < 47 := by omega
              clear c1
            all_goals
              go_wp2_with (go_at_call 72; refine (digit_any c _).mono ?_; rintro e w2 ⟨rfl, rfl⟩; rw [HD.out])
              go_roundw
              case rel => exact ⟨k + 1, by go_num, by omega, HO2.out, trivial⟩
              case measure => simp [intOf]; omega
          · have hans : ans = false := by
              rw [← HOK.out, show (decide (c.toNat = 45) || decide (c.toNat = 46)) = false by
                rw [decide_eq_false (show ¬ c.toNat = 45 by omega), decide_eq_false (show ¬ c.toNat = 46 by omega)]; rfl]
              simp
            have HIF := Lib.hid (show isName l = false by rw [HI.out, hans]; simp)
            have e45 : ((c.toNat : Int) == 45) = false := by rw [beq_eq_false_iff_ne]; omega
            have e46 : ((c.toNat : Int) == 46) = false := by rw [beq_eq_false_iff_ne]; omega
            have n45 : ((c.toNat : Int) != 45) = true := by rw [bne_iff_ne]; omega
            have n46 : ((c.toNat : Int) != 46) = true := by rw [bne_iff_ne]; omega
            have hcs2 : c.toNat < 45 ∨ (46 < c.toNat ∧ c.toNat < 48) ∨ (57 < c.toNat ∧ c.toNat < 65) ∨ (90 < c.toNat ∧ c.toNat < 97) ∨ 122 < c.toNat := by omega
            clear hcs HOK hk0 hy hans
            rcases hcs2 with c1 | ⟨c1, c2⟩ | ⟨c1, c2⟩ | ⟨c1, c2⟩ | c1
            all_goals
              try have d122 : decide ((c.toNat : Int) ≤ 122) = false := decide_eq_false (by omega)
              try have d90 : decide ((c.toNat : Int) ≤ 90) = false := decide_eq_false (by omega)
              go_wp2_with (go_at_call 72; refine (digit_any c _).mono ?_; rintro e w2 ⟨rfl, rfl⟩; rw [HD.out])
              go_ret
              exact ⟨by rw [HIF.out]; rfl, rfl⟩
    · have hkl : l.length ≤ k := by rw [← HZ.out]; omega
      have hans : ans = true := by rw [← (show okFrom k (l.drop k) = ans from hok)]; exact okFrom_end l hkl
      have hnl : isName l = nameLast l := by rw [HI.out, hans]; simp
      have hz := HZ.out
      clear hok hkl hans HN
      by_cases h0 : 0 < (str l).size
      · have q0 : decide (0 < ((str l).size : Int)) = true := decide_eq_true (by omega)
        by_cases h1 : (str l).size ≤ 32
        · have q1 : decide (((str l).size : Int) ≤ 32) = true := decide_eq_true (by omega)
          have HNL := Lib.hid (show isName l = true by
            rw [hnl]; unfold nameLast; rw [decide_eq_true (show 0 < l.length by omega), decide_eq_true (show l.length ≤ 32 by omega)]; rfl)
          clear hz hnl
          go_wp2
          go_ret
          exact ⟨by rw [HNL.out]; rfl, rfl⟩
        · have q1 : decide (((str l).size : Int) ≤ 32) = false := decide_eq_false (by omega)
          have HNL := Lib.hid (show isName l = false by
            rw [hnl]; unfold nameLast; rw [decide_eq_false (show ¬ l.length ≤ 32 by omega)]; simp)
          clear hz hnl
          go_wp2
          go_ret
          exact ⟨by rw [HNL.out]; rfl, rfl⟩
      · have q0 : decide (0 < ((str l).size : Int)) = false := decide_eq_false (by omega)
        have HNL := Lib.hid (show isName l = false by
          rw [hnl]; unfold nameLast; rw [decide_eq_false (show ¬ 0 < l.length by omega)]; rfl)
        clear hz hnl
        go_wp2
        go_ret
        exact ⟨by rw [HNL.out]; rfl, rfl⟩
end Go.Proofs.YtpmghgfgbkncoaaGreatDoor.gn
end
