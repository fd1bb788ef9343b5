/- Check: the contract. -/
import Derived.Test.YtkjffoebcblpoaaGreatMUnE
section
set_option linter.unusedVariables false
namespace Go.Proofs.YtkjffoebcblpoaaGreat.gn
open Go.RowKit Go.Shelf Go.Sort Go.Lib
open Go.Proofs.YtkjffoebcblpoaaGreat.ex

attribute [local go_sem] Oper.semAt_some

/-- What Check answers. -/
def chk (l : List X) : Int := if Fine l then 0 else 110
theorem ok_cons {x : X} {l : List X} : Ok (x :: l) ↔ okx x ∧ Ok l := by
  unfold ex.Ok
  simp
theorem quant_iff {n : Int} : quant n = true ↔ 0 ≤ n ∧ n ≤ 1099511627776 := by unfold quant; exact decide_eq_true_iff

set_option maxHeartbeats 4000000 in
set_option maxRecDepth 100000 in
theorem check_any {w : World} {v : Value} {l : List X} (h : Rd w v l) (hl : l.length ≤ 1000) :
    Calls Tryz.prog 59 #[v] w (Tells (chk l) w) := by
  have HC := Lib.hid fun (wr : World) (hb : Below w.heap.size w wr) (ho : Ok l) => apart_any (h.next hb) (by omega) ho
  generalize hans : chk l = ans
  have HA := Lib.hid hans
  have HR := Lib.hid h
  obtain ⟨p1, cp1, hv1⟩ := h.len
  subst hv1
  clear h hans
  have hg : decide ((1000 : Int) < (l.length : Int)) = false := by simp; omega
  go_enter Tryz.func59, Tryz.ntmps59
  go_upto_region 4 with fail
  go_loopw [10] (fun s10 wr => ∃ k : Nat, s10 = .int .i64 k ∧ k ≤ l.length ∧ Aside (Below w.heap.size w wr) ∧ Aside (Ok l ↔ Ok (l.drop k)))
    (fun s10 _ => l.length - (intOf s10).toNat)
  case atStart => exact ⟨0, rfl, Nat.zero_le _, Below.refl _ _, Iff.rfl⟩
  case round =>
    obtain ⟨k, rfl, hk, hb, ha⟩ := hrel
    by_cases hlt : k < l.length
    · have hrd := HR.out.next hb.out
      rcases hrd with ⟨p', c', he, _⟩ | ⟨b, off, c, he, hbl, hc⟩
      · exfalso; simp only [Value.slice.injEq] at he; omega
      · simp only [Value.slice.injEq, true_and] at he
        obtain ⟨rfl, rfl⟩ := he
        have hck := hc k hlt
        rw [drop_at hlt, ok_cons] at ha
        have HA2 := Lib.hid ha.out
        clear hc ha
        generalize l[k]! = x at *
        obtain ⟨x1, x2⟩ := x
        have c0 := hck.1
        have c1 := hck.2
        dsimp only at c0 c1
        clear hck
        have k0 := (Box2.new wr 55 (.int .i64 x1) (.int .i64 x2)).cell0
        have k1 := (Box2.new wr 55 (.int .i64 x1) (.int .i64 x2)).cell1
        have bad : ¬ okx (x1, x2) → (Ending.returned (.int .i64 110) = .returned (.int .i64 ans)) := fun hn => by
          rw [← HA.out]
          unfold chk
          rw [if_neg fun hf => hn (HA2.out.1 hf.2.1).1]
        by_cases q1 : quant x1 = true
        · by_cases q2 : quant x2 = true
          · by_cases z : x2 = 0
            · have BAD := Lib.hid (bad (by unfold okx; dsimp only; omega))
              have e1 := quantity_any x1
              have e2 := quantity_any x2
              rw [q1] at e1
              rw [q2] at e2
              subst z
              clear bad q1 q2
              go_wp2_with (go_at_call 83; first | (refine (e1 _).mono ?_; rintro e w' ⟨rfl, rfl⟩) | (refine (e2 _).mono ?_; rintro e w' ⟨rfl, rfl⟩))
              go_ret
              exact ⟨BAD.out, hb.out.alloc hb.out.size _⟩
            · have hz : (x2 == 0) = false := beq_eq_false_iff_ne.2 z
              have hs1 := quant_iff.1 q1
              have hs2 := quant_iff.1 q2
              have e3 := fun W => end_any (x1, x2) W (by unfold Sml; dsimp only; omega)
              dsimp only at e3
              have e1 := quantity_any x1
              have e2 := quantity_any x2
              rw [q1] at e1
              rw [q2] at e2
              have e4 := quantity_any (x1 + x2)
              by_cases q3 : quant (x1 + x2) = true
              · rw [q3] at e4
                have hs3 := quant_iff.1 q3
                have GOOD := Lib.hid (show okx (x1, x2) from ⟨hs1.1, by dsimp only; omega, hs3.2⟩)
                clear bad q1 q2 q3 hs1 hs2 hs3 z
                generalize x1 + x2 = y at *
                go_wp2_with (first
                  | (go_at_call 83; first | (refine (e1 _).mono ?_; rintro e w' ⟨rfl, rfl⟩) | (refine (e2 _).mono ?_; rintro e w' ⟨rfl, rfl⟩) | (refine (e4 _).mono ?_; rintro e w' ⟨rfl, rfl⟩))
                  | (go_at_call 84; refine (e3 _).mono ?_; rintro e w' ⟨rfl, rfl⟩))
                go_roundw
                case rel => exact ⟨k + 1, by go_num, by omega, (hb.out.alloc hb.out.size _).alloc (Nat.le_trans hb.out.size (by simp)) _, HA2.out.trans ⟨fun h => h.2, fun h => ⟨GOOD.out, h⟩⟩⟩
                case measure => simp [intOf]; omega
              · have BAD := Lib.hid (bad (by intro ho; exact q3 (quant_iff.2 ⟨by have := ho.1; dsimp only at this; omega, ho.2.2⟩)))
                rw [Bool.not_eq_true] at q3
                rw [q3] at e4
                clear bad q1 q2 q3 hs1 hs2 z
                generalize x1 + x2 = y at *
                go_wp2_with (first
                  | (go_at_call 83; first | (refine (e1 _).mono ?_; rintro e w' ⟨rfl, rfl⟩) | (refine (e2 _).mono ?_; rintro e w' ⟨rfl, rfl⟩) | (refine (e4 _).mono ?_; rintro e w' ⟨rfl, rfl⟩))
                  | (go_at_call 84; refine (e3 _).mono ?_; rintro e w' ⟨rfl, rfl⟩))
                go_ret
                exact ⟨BAD.out, (hb.out.alloc hb.out.size _).alloc (Nat.le_trans hb.out.size (by simp)) _⟩
          · have BAD := Lib.hid (bad (by intro ho; unfold okx at ho; dsimp only at ho; exact q2 (quant_iff.2 ⟨by omega, by omega⟩)))
            have e1 := quantity_any x1
            have e2 := quantity_any x2
            rw [q1] at e1
            rw [Bool.not_eq_true] at q2
            rw [q2] at e2
            clear bad q1 q2
            go_wp2_with (go_at_call 83; first | (refine (e1 _).mono ?_; rintro e w' ⟨rfl, rfl⟩) | (refine (e2 _).mono ?_; rintro e w' ⟨rfl, rfl⟩))
            go_ret
            exact ⟨BAD.out, hb.out.alloc hb.out.size _⟩
        · have BAD := Lib.hid (bad (by intro ho; unfold okx at ho; dsimp only at ho; exact q1 (quant_iff.2 ⟨by omega, by omega⟩)))
          have e1 := quantity_any x1
          rw [Bool.not_eq_true] at q1
          rw [q1] at e1
          clear bad q1
          go_wp2_with (go_at_call 83; (refine (e1 _).mono ?_; rintro e w' ⟨rfl, rfl⟩))
          go_ret
          exact ⟨BAD.out, hb.out.alloc hb.out.size _⟩
    · have hks : k = l.length := by omega
      subst hks
      have hol : Ok l := ha.out.2 (by rw [List.drop_length]; intro x hx; cases hx)
      have hap := HC.out wr hb.out hol
      have HO := Lib.hid hol
      clear ha hol
      by_cases hA : Apart l
      · have GOOD : Hid (Ending.returned (.int .i64 0) = .returned (.int .i64 ans)) := by show _ = _; rw [← HA.out]; unfold chk; rw [if_pos ⟨hl, HO.out, hA⟩]
        rw [decide_eq_true hA] at hap
        clear hA
        go_wp2_with (go_at_call 85; refine hap.mono ?_; rintro e w' ⟨rfl, hb2⟩; have HB2 := Lib.hid hb2; clear hb2 hap)
        go_ret
        exact ⟨GOOD.out, hb.out.trans (HB2.out.mono hb.out.size)⟩
      · have BAD : Hid (Ending.returned (.int .i64 110) = .returned (.int .i64 ans)) := by show _ = _; rw [← HA.out]; unfold chk; rw [if_neg fun hf => hA hf.2.2]
        rw [decide_eq_false hA] at hap
        clear hA
        go_wp2_with (go_at_call 85; refine hap.mono ?_; rintro e w' ⟨rfl, hb2⟩; have HB2 := Lib.hid hb2; clear hb2 hap)
        go_ret
        exact ⟨BAD.out, hb.out.trans (HB2.out.mono hb.out.size)⟩
end Go.Proofs.YtkjffoebcblpoaaGreat.gn
end
