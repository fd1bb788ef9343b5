/- The contract of unit.Name: names. -/
import Derived.Test.YtpmghgfgbkncoaaGreatDoorMGen
import Derived.Test.YtpmghgfgbkncoaaGreatDoorMUnM
import Derived.Lib.OthersKept
import Derived.Laws.RangeAny
import Derived.Deep.LoopGhost
section
set_option linter.unusedVariables false
namespace Go.Proofs.YtpmghgfgbkncoaaGreatDoor.gn
open Go.RowKit
open Go.Proofs.YtpmghgfgbkncoaaGreatDoor.un

/-- Whether a rune may stand in a name. -/
def win (r : Int) : Bool := decide (97 ≤ r ∧ r ≤ 122) || decide (65 ≤ r ∧ r ≤ 90) || decide (48 ≤ r ∧ r ≤ 57) || decide (r = 95) || decide (r = 45) || decide (r = 46)
theorem win_yes {r : Int} (h : (97 ≤ r ∧ r ≤ 122) ∨ (65 ≤ r ∧ r ≤ 90) ∨ (48 ≤ r ∧ r ≤ 57) ∨ r = 95 ∨ r = 45 ∨ r = 46) : win r = true := by
  unfold win
  simp only [Bool.or_eq_true, decide_eq_true_eq]
  omega
theorem win_no {r : Int} (h : ¬ ((97 ≤ r ∧ r ≤ 122) ∨ (65 ≤ r ∧ r ≤ 90) ∨ (48 ≤ r ∧ r ≤ 57) ∨ r = 95 ∨ r = 45 ∨ r = 46)) : win r = false := by
  cases hw : win r with
  | false => rfl
  | true =>
    unfold win at hw
    simp only [Bool.or_eq_true, decide_eq_true_eq] at hw
    exact absurd (by omega) h
theorem ret_bool {a b : Bool} (h : a = b) : Ending.returned (.bool a) = .returned (.bool b) := by rw [h]

set_option maxRecDepth 100000 in
set_option maxHeartbeats 1600000 in
theorem within_any (r : Int) (w : World) : Calls Tryz.prog 79 #[.int .i32 r] w fun e w' => e = .returned (.bool (win r)) ∧ w = w' := by
  rcases byte_cases r with h | h | h | h | h | h | h | h | h | h | h | h
  case' inl => have hw := win_no (r := r) (by omega)
  case' inr.inl => have hw := win_yes (r := r) (by omega)
  case' inr.inr.inl => have hw := win_yes (r := r) (by omega)
  case' inr.inr.inr.inl => have hw := win_no (r := r) (by omega)
  case' inr.inr.inr.inr.inl => have hw := win_yes (r := r) (by omega)
  case' inr.inr.inr.inr.inr.inl => have hw := win_no (r := r) (by omega)
  case' inr.inr.inr.inr.inr.inr.inl => have hw := win_yes (r := r) (by omega)
  case' inr.inr.inr.inr.inr.inr.inr.inl => have hw := win_no (r := r) (by omega)
  case' inr.inr.inr.inr.inr.inr.inr.inr.inl => have hw := win_yes (r := r) (by omega)
  case' inr.inr.inr.inr.inr.inr.inr.inr.inr.inl => have hw := win_no (r := r) (by omega)
  case' inr.inr.inr.inr.inr.inr.inr.inr.inr.inr.inl => have hw := win_yes (r := r) (by omega)
  case' inr.inr.inr.inr.inr.inr.inr.inr.inr.inr.inr => have hw := win_no (r := r) (by omega)
  all_goals
    rw [hw]
    clear hw
    try subst h
    try obtain ⟨h1, h2⟩ := h
    try have e95 : (r == 95) = false := by rw [beq_eq_false_iff_ne]; omega
    try have e45 : (r == 45) = false := by rw [beq_eq_false_iff_ne]; omega
    try have e46 : (r == 46) = false := by rw [beq_eq_false_iff_ne]; omega
    go_enter Tryz.func79, Tryz.ntmps79
    go_wp2
    go_ret
    exact ⟨rfl, rfl⟩

/-- What a byte that is ASCII is, and another one. -/
theorem nm_win {i : Nat} {b : UInt8} : nmAt i b = (win (b.toNat : Int) && !(decide (i = 0) && (decide (b.toNat = 45) || decide (b.toNat = 46)))) := by
  rw [Bool.eq_iff_iff]
  unfold nmAt wordb win
  simp only [Bool.or_eq_true, Bool.and_eq_true, Bool.not_eq_true', Bool.and_eq_false_iff, Bool.or_eq_false_iff, decide_eq_true_eq, decide_eq_false_iff_not]
  omega
theorem get_str (l : List UInt8) (pos : Nat) (h : pos < (str l).size) : ((str l)[pos]'h).toNat = (l[pos]'(by rw [str_size] at h; exact h)).toNat := by rw [str_at]

set_option maxRecDepth 100000 in
set_option maxHeartbeats 3200000 in
theorem name_any (l : List UInt8) (hl : l.length ≤ 140737488355328) (w : World) : Calls Tryz.prog 59 #[.string (str l)] w fun e w' => e = .returned (.bool (isName l)) ∧ Below w.heap.size w w' := by
  have hz := str_size l
  by_cases h0 : l.length = 0
  · have hn : isName l = false := by
      unfold isName
      rw [show decide (1 ≤ l.length) = false from decide_eq_false (by omega)]
      rfl
    rw [hn]
    have hz0 : (str l).size = 0 := by omega
    clear hn h0 hz hl
    go_enter Tryz.func59, Tryz.ntmps59
    go_wp2
    go_ret
    exact ⟨rfl, Below.refl _ _⟩
  · by_cases h1 : 32 < l.length
    · have hn : isName l = false := by
        unfold isName
        rw [show decide (l.length ≤ 32) = false from decide_eq_false (by omega)]
        simp
      rw [hn]
      have hz0 : 32 < (str l).size := by omega
      have hz1 : (str l).size ≤ 140737488355328 := by omega
      have hz2 : (((str l).size : Int) == 0) = false := by rw [beq_eq_false_iff_ne]; omega
      have hz3 : decide (32 < ((str l).size : Int)) = true := decide_eq_true (by omega)
      clear hn h0 h1 hz hl
      go_enter Tryz.func59, Tryz.ntmps59
      go_wp2
      go_ret
      exact ⟨rfl, Below.refl _ _⟩
    · have hn : isName l = okFrom 0 l := by
        unfold isName
        rw [show decide (1 ≤ l.length) = true from decide_eq_true (by omega), show decide (l.length ≤ 32) = true from decide_eq_true (by omega)]
        rfl
      rw [hn]
      have HN := Lib.hid (show okFrom 0 (l.drop 0) = okFrom 0 l by simp)
      generalize okFrom 0 l = ans at *
      have hz0 : 0 < (str l).size := by omega
      have hz1 : (str l).size ≤ 32 := by omega
      have hz2 : (((str l).size : Int) == 0) = false := by rw [beq_eq_false_iff_ne]; omega
      have hz3 : decide (32 < ((str l).size : Int)) = false := decide_eq_false (by omega)
      have HZ := Lib.hid hz
      clear hn h0 h1 hz hl
      go_enter Tryz.func59, Tryz.ntmps59
      go_wp2
      go_loopw [15] (fun _ wr => ∃ pos : Nat, wr.heap[w.heap.size]? = some (.stringIter (str l) pos) ∧ Aside (Below w.heap.size w wr) ∧ Aside (okFrom pos (l.drop pos) = ans)) (fun _ wr => (str l).size - wr.iterPos w.heap.size)
      case atStart => exact ⟨0, World.iter_heap w (str l) 0, (Below.refl _ w).alloc (Nat.le_refl _) _, HN.out⟩
      case round =>
        obtain ⟨pos, hit, hbw, hok⟩ := hrel
        have hsz : w.heap.size < wr.heap.size := (Array.getElem?_eq_some_iff.1 hit).1
        by_cases hp : pos < (str l).size
        · have hpl : pos < l.length := by rw [← HZ.out]; exact hp
          rw [okFrom_drop hpl] at hok
          have HOK := Lib.hid (show (nmAt pos (l[pos]'hpl) && okFrom (pos + 1) (l.drop (pos + 1))) = ans from hok)
          have HB := Lib.hid hbw
          have hg := get_str l pos hp
          clear hok hbw
          generalize hc : l[pos]'hpl = c at *
          by_cases ha : c.toNat < 128
          · have hnx : ∀ ty, (Instr.next (.pointer (some ⟨w.heap.size, 0, none⟩)) true ty).run Tryz.prog wr = .ok (.tuple #[.bool true, .int .i64 (pos : Int), .int .i32 (c.toNat : Int)]) (wr.iterAt w.heap.size (str l) (pos + 1)) := fun ty => by
              rw [Lib.run_next_ascii_at wr w.heap.size (str l) pos ty hit hp (by omega), hg]
            have HI2 := Lib.hid (Lib.iterAt_heap wr w.heap.size (str l) pos (pos + 1) hit)
            have HB2 := Lib.hid (Lib.below_iterAt HB.out (k := w.heap.size) (Nat.le_refl _) (str l) (pos + 1))
            have HIT := Lib.hid hit
            have hnm := nm_win (i := pos) (b := c)
            rw [hnm] at HOK
            clear hit hnm hg hc hpl
            have hc2 : ((c.toNat : Nat) : Int) < 128 := by omega
            cases hw : win (c.toNat : Int) with
            | false =>
              have HW := Lib.hid hw
              have hans : ans = false := by rw [← HOK.out, hw]; rfl
              subst hans
              clear hw HOK
              go_wp2_with (go_at_call 79; refine (within_any _ _).mono ?_; rintro e w1 ⟨rfl, rfl⟩; rw [HW.out])
              go_ret
              exact ⟨rfl, HB2.out⟩
            | true =>
              have HW := Lib.hid hw
              rw [hw] at HOK
              clear hw
              by_cases h0 : pos = 0
              · subst h0
                have k0 : (((0 : Nat) : Int) == 0) = true := rfl
                by_cases h45 : c.toNat = 45
                · have hans : ans = false := by rw [← HOK.out, h45]; rfl
                  have k45 : (((c.toNat : Nat) : Int) == 45) = true := by rw [beq_iff_eq]; omega
                  subst hans
                  clear HOK h45
                  go_wp2_with (go_at_call 79; refine (within_any _ _).mono ?_; rintro e w1 ⟨rfl, rfl⟩; rw [HW.out])
                  go_ret
                  exact ⟨rfl, HB2.out⟩
                · have k45 : (((c.toNat : Nat) : Int) == 45) = false := by rw [beq_eq_false_iff_ne]; omega
                  by_cases h46 : c.toNat = 46
                  · have hans : ans = false := by rw [← HOK.out, h46]; rfl
                    have k46 : (((c.toNat : Nat) : Int) == 46) = true := by rw [beq_iff_eq]; omega
                    subst hans
                    clear HOK h45 h46
                    go_wp2_with (go_at_call 79; refine (within_any _ _).mono ?_; rintro e w1 ⟨rfl, rfl⟩; rw [HW.out])
                    go_ret
                    exact ⟨rfl, HB2.out⟩
                  · have k46 : (((c.toNat : Nat) : Int) == 46) = false := by rw [beq_eq_false_iff_ne]; omega
                    have HO2 := Lib.hid (show okFrom (0 + 1) (l.drop (0 + 1)) = ans by
                      have := HOK.out
                      rw [show decide (c.toNat = 45) = false from decide_eq_false h45, show decide (c.toNat = 46) = false from decide_eq_false h46] at this
                      simpa using this)
                    clear HOK h45 h46
                    go_wp2_with (go_at_call 79; refine (within_any _ _).mono ?_; rintro e w1 ⟨rfl, rfl⟩; rw [HW.out])
                    go_roundw
                    case rel => exact ⟨0 + 1, HI2.out, HB2.out, HO2.out⟩
                    case measure =>
                      simp only [World.iterPos, HI2.out, HIT.out]
                      omega
              · have k0 : (((pos : Nat) : Int) == 0) = false := by rw [beq_eq_false_iff_ne]; omega
                have HO2 := Lib.hid (show okFrom (pos + 1) (l.drop (pos + 1)) = ans by
                  have := HOK.out
                  rw [show decide (pos = 0) = false from decide_eq_false h0] at this
                  simpa using this)
                clear HOK
                go_wp2_with (go_at_call 79; refine (within_any _ _).mono ?_; rintro e w1 ⟨rfl, rfl⟩; rw [HW.out])
                go_roundw
                case rel => exact ⟨pos + 1, HI2.out, HB2.out, HO2.out⟩
                case measure =>
                  simp only [World.iterPos, HI2.out, HIT.out]
                  omega
          · obtain ⟨hr, hd⟩ := decode_high (str l) pos hp (by omega)
            have hle := decode_le (str l) pos
            have hnx : ∀ ty, (Instr.next (.pointer (some ⟨w.heap.size, 0, none⟩)) true ty).run Tryz.prog wr = _ := fun ty => Lib.run_next_any_at wr w.heap.size (str l) pos ty hit hp
            have HB2 := Lib.hid (Lib.below_iterAt HB.out (k := w.heap.size) (Nat.le_refl _) (str l) (pos + (Utf8.decode (str l) pos).2))
            have hans : ans = false := by rw [← HOK.out, name_high (l := l) (by omega)]; rfl
            have hw : win ((Utf8.decode (str l) pos).1 : Int) = false := win_no (by omega)
            have HW := Lib.hid hw
            subst hans
            clear hw HOK hit hg hc hpl
            go_wp2_with (go_at_call 79; refine (within_any _ _).mono ?_; rintro e w1 ⟨rfl, rfl⟩; rw [HW.out])
            go_ret
            exact ⟨rfl, HB2.out⟩
        · have hnx : ∀ ty, (Instr.next (.pointer (some ⟨w.heap.size, 0, none⟩)) true ty).run Tryz.prog wr = _ := fun ty => Lib.run_next_end_at wr w.heap.size (str l) pos ty hit hp
          have ha : ans = true := by rw [← hok]; exact okFrom_end l (by rw [← HZ.out]; omega)
          have HB := Lib.hid hbw
          subst ha
          clear hok hbw hit
          go_wp2
          go_ret
          exact ⟨rfl, HB.out⟩
end Go.Proofs.YtpmghgfgbkncoaaGreatDoor.gn
end
