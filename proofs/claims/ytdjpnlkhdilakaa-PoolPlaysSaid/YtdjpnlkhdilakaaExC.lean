/- apart, quantity, Check. -/
import Derived.Test.YtdjpnlkhdilakaaExB
set_option linter.unusedVariables false
namespace Go.Proofs.Ytdjpnlkhdilakaa.gn
open Go.RowKit Go.Shelf Go.Sort Go.Lib
open Go.Proofs.Ytdjpnlkhdilakaa.ex

attribute [local go_sem] Oper.semAt_some

/-- It answers yes or no, and makes memory. -/
def TellsB (b : Bool) (w : World) (e : Ending) (w' : World) : Prop := e = .returned (.bool b) ∧ Below w.heap.size w w'
def Tells (n : Int) (w : World) (e : Ending) (w' : World) : Prop := e = .returned (.int .i64 n) ∧ Below w.heap.size w w'
theorem of_any (n : Int) (w : World) : Calls Try.prog 37 #[.int .i64 n] w fun e w' => e = .returned (.int .i64 (min (max n 0) 1099511627776)) ∧ w' = w := by
  go_enter Try.func37, Try.ntmps37
  go_wp2
  go_ret
  exact ⟨rfl, rfl⟩
def quant (n : Int) : Bool := decide (0 ≤ n ∧ n ≤ 1099511627776)
theorem quantity_any (n : Int) (w : World) : Calls Try.prog 43 #[.int .i64 n] w fun e w' => e = .returned (.bool (quant n)) ∧ w' = w := by
  have hq : (n == min (max n 0) 1099511627776) = quant n := by
    unfold quant
    rw [Bool.eq_iff_iff, beq_iff_eq, decide_eq_true_iff]
    omega
  have h := of_any n w
  generalize min (max n 0) 1099511627776 = m at *
  go_enter Try.func43, Try.ntmps43
  go_wp2_with (go_at_call 37; refine h.mono ?_; rintro e w' ⟨rfl, rfl⟩)
  go_ret
  exact ⟨by first | rfl | rw [hq], rfl⟩

theorem apL_cons (next : Int) (x : X) (l : List X) : apL next (x :: l) = if x.1 < next then false else apL (x.1 + x.2) l := rfl
theorem ok_at {l : List X} (h : Ok l) {j : Nat} (hj : j < l.length) : okx l[j]! := by rw [getElem!_pos l j hj]; exact h _ (List.getElem_mem hj)
theorem drop_at {l : List X} {k : Nat} (h : k < l.length) : l.drop k = l[k]! :: l.drop (k + 1) := by rw [getElem!_pos l k h, List.drop_eq_getElem_cons h]

set_option maxHeartbeats 2000000 in
set_option maxRecDepth 100000 in
theorem apart_any {w : World} {v : Value} {l : List X} (h : Rd w v l) (hl : l.length ≤ 4000) (ho : Ok l) :
    Calls Try.prog 32 #[v] w (TellsB (decide (Apart l)) w) := by
  have c1 := sorted_any h hl
  have HL := Lib.hid (And.intro hl ho)
  clear h hl ho
  generalize hd : decide (Apart l) = ans
  have HD := Lib.hid hd
  clear hd
  go_enter Try.func32, Try.ntmps32
  go_upto_region 3 with (go_at_call 53; refine c1.mono ?_; rintro e w1 ⟨v1, s, rfl, h1, hp, hi, hb1, _⟩; clear c1; obtain ⟨p1, cp1, hv1⟩ := h1.rd.len; subst hv1; have H1 := Lib.hid (And.intro h1 (And.intro hb1 (And.intro hp hi))); clear h1 hb1 hp hi)
  obtain ⟨h1, hb1, hp, hi⟩ := H1.out
  have hsl : s.length ≤ 4000 := by rw [hp.length_eq]; exact HL.out.1
  have hos := (ok_perm hp).2 HL.out.2
  have hans : apL 0 s = ans := by rw [← HD.out]; exact apL_apart hp hi HL.out.2
  have HA := Lib.hid hans
  have HO := Lib.hid hos
  have HB := Lib.hid hb1
  have HR := Lib.hid h1
  clear hans hos hb1 h1 hp hi H1
  go_loopw [3, 9] (fun s3 s9 wr => ∃ (k : Nat) (next : Int), s3 = .int .i64 next ∧ s9 = .int .i64 k ∧ k ≤ s.length ∧ Aside (Below w1.heap.size w1 wr) ∧ Aside (apL next (s.drop k) = ans))
    (fun _ s9 _ => s.length - (intOf s9).toNat)
  case atStart => exact ⟨0, 0, rfl, rfl, Nat.zero_le _, Below.refl _ _, HA.out⟩
  case round =>
    obtain ⟨k, next, rfl, rfl, hk, hb, ha⟩ := hrel
    by_cases hlt : k < s.length
    · have hrd : RdS wr (.slice p1 s.length cp1) s := HR.out.below hb.out (Nat.le_refl _)
      rcases hrd with ⟨he, _⟩ | ⟨b, off, c, he, hbl, hc⟩
      · exfalso; simp only [Value.slice.injEq] at he; omega
      · simp only [Value.slice.injEq, true_and] at he
        obtain ⟨rfl, rfl⟩ := he
        have hck := hc k hlt
        have hox := ok_at HO.out hlt
        rw [drop_at hlt] at ha
        have HA2 := Lib.hid ha.out
        clear hc ha
        generalize s[k]! = x at *
        obtain ⟨x1, x2⟩ := x
        have c0 := hck.1
        have c1 := hck.2
        dsimp only at c0 c1
        unfold okx at hox
        dsimp only at hox
        have HX := Lib.hid hox
        have cE := fun W => end_any (x1, x2) W (by unfold Sml; dsimp only; omega)
        dsimp only at cE
        clear hck hox
        by_cases hn : x1 < next
        · have HN := Lib.hid hn
          have hd : decide (x1 < next) = true := decide_eq_true hn
          clear hn
          go_wp2
          go_ret
          refine ⟨?_, ?_⟩
          · have := HA2.out
            rw [apL_cons, if_pos (show ((x1, x2) : X).1 < next from HN.out)] at this
            rw [← this]; rfl
          · exact HB.out.trans ((hb.out.mono HB.out.size).alloc (Nat.le_trans HB.out.size hb.out.size) _)
        · have HN := Lib.hid hn
          have hd : decide (x1 < next) = false := decide_eq_false hn
          clear hn
          go_wp2_with (go_at_call 49; refine (cE _).mono ?_; rintro e w' ⟨rfl, rfl⟩)
          go_roundw
          case rel =>
            refine ⟨k + 1, _, rfl, by go_num, by omega, ?_, ?_⟩
            · exact (hb.out.alloc hb.out.size _).alloc (Nat.le_trans hb.out.size (by simp)) _
            · have := HA2.out
              rw [apL_cons, if_neg (show ¬ ((x1, x2) : X).1 < next from by have := HN.out; show ¬ x1 < next; omega)] at this
              exact this
          case measure => simp [intOf]; omega
    · have hks : k = s.length := by omega
      subst hks
      have HA2 := Lib.hid ha.out
      clear ha
      go_wp2
      go_ret
      refine ⟨?_, HB.out.trans (hb.out.mono HB.out.size)⟩
      have := HA2.out
      rw [List.drop_length] at this
      rw [← this]; rfl
end Go.Proofs.Ytdjpnlkhdilakaa.gn
