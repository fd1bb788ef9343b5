/- The document's Check, At, New: their contracts. -/
import Derived.Test.YtoofogmlodfgmaaStX
namespace Go.Proofs.Ytoofogmlodfgmaa.gn
open Go.RowKit Go.Shelf
open Go.Proofs.Ytoofogmlodfgmaa.sp

theorem q_same (n : Int) (w : World) : Calls Try.prog 25 #[.int .i64 n] w fun e w' => e = .returned (.bool (qb n)) ∧ w' = w := (quantity_any n w).mono fun _ _ h => ⟨h.1, h.2.symm⟩

theorem dcheck_short (v1 v2 : Value) (a1 a2 : Option Addr) (n1 n2 c1 c2 : Nat) (e1 : v1 = .slice a1 n1 c1) (e2 : v2 = .slice a2 n2 c2) (h : n1 ≠ n2 ∨ n1 = 0 ∨ 2000 < n1) (w : World) :
    Calls Try.prog 10 #[.agg #[v1, v2]] w (Tells 2 w) := by
  subst e1 e2
  by_cases h1 : n1 = n2
  · subst h1
    have hb : ((n1 : Int) != (n1 : Int)) = false := by simp
    by_cases h2 : n1 = 0
    · subst h2
      go_enter Try.func10, Try.ntmps10
      go_wp2
      go_ret
      exact ⟨rfl, (Below.refl _ _).alloc (Nat.le_refl _) _⟩
    · have d1 : decide ((n1 : Int) < 1) = false := decide_eq_false (by omega)
      have d2 : decide ((2000 : Int) < (n1 : Int)) = true := decide_eq_true (by omega)
      clear h h2
      go_enter Try.func10, Try.ntmps10
      go_wp2
      go_ret
      exact ⟨rfl, (Below.refl _ _).alloc (Nat.le_refl _) _⟩
  · have hb : ((n1 : Int) != (n2 : Int)) = true := by simpa using (show ¬ (n1 : Int) = n2 by omega)
    clear h h1
    go_enter Try.func10, Try.ntmps10
    go_wp2
    go_ret
    exact ⟨rfl, (Below.refl _ _).alloc (Nat.le_refl _) _⟩

theorem dcheck_zero (b o : Nat) (a2 : Option Addr) (n1 c1 c2 : Nat) (x : Int) (w : World) (h0 : 0 < n1) (h1 : n1 ≤ 2000) (hc : w.cell? ⟨b, o, none⟩ = some (.int .i64 x)) (hx : x ≠ 0) :
    Calls Try.prog 10 #[.agg #[.slice (some ⟨b, o, none⟩) n1 c1, .slice a2 n1 c2]] w (Tells 2 w) := by
  have hb : ((n1 : Int) != (n1 : Int)) = false := by simp
  have d1 : decide ((n1 : Int) < 1) = false := decide_eq_false (by omega)
  have d2 : decide ((2000 : Int) < (n1 : Int)) = false := decide_eq_false (by omega)
  have d3 : (x != 0) = true := by simpa using hx
  have d4 : (0 : Int) < (n1 : Int) := by omega
  have d5 : 0 < n1 := h0
  have lb := cell_lt hc
  clear hx
  go_enter Try.func10, Try.ntmps10
  go_wp2
  go_ret
  exact ⟨rfl, (Below.refl _ _).alloc (Nat.le_refl _) _⟩

set_option maxHeartbeats 2000000 in
theorem dcheck_main (a1 a2 : Option Addr) (n c1 c2 : Nat) (at_ m : List Int) (w : World) (e1 : at_.length = n) (e2 : m.length = n) (h0 : 0 < n) (h1 : n ≤ 2000) (hz : g at_ 0 = 0) (k1 : CellsOf w a1 at_) (k2 : CellsOf w a2 m) :
    Calls Try.prog 10 #[.agg #[.slice a1 n c1, .slice a2 n c2]] w (Tells (chk at_ m) w) := by
  obtain ⟨p1, o1, rfl, z1⟩ := k1.at_ (Below.refl w.heap.size w) (Nat.le_refl _) (show 0 < at_.length by omega)
  rw [g_of (by omega)] at hz
  rw [hz, Nat.add_zero] at z1
  have hb : ((n : Int) != (n : Int)) = false := by simp
  have d1 : decide ((n : Int) < 1) = false := decide_eq_false (by omega)
  have d2 : decide ((2000 : Int) < (n : Int)) = false := decide_eq_false (by omega)
  have d4 : (0 : Int) < (n : Int) := by omega
  have lb := cell_lt z1
  have HD := Lib.hid (okP_doc (at_ := at_) (n := m) (by omega) (by omega) (by omega) (by rw [g_of (by omega), hz]))
  have HK1 := Lib.hid k1
  have HK2 := Lib.hid k2
  have HB0 : Hid (∀ x, Below w.heap.size w (w.alloc x)) := fun x => (Below.refl _ _).alloc (Nat.le_refl _) _
  have E1 := Lib.hid e1
  have E2 := Lib.hid e2
  clear k1 k2 hz e1 e2
  go_enter Try.func10, Try.ntmps10
  go_wp2
  have bS := Box2.new w 24 (.slice (some ⟨p1, o1, none⟩) n c1) (.slice a2 n c2)
  have hb0 := HB0.out (.cells #[.slice (some ⟨p1, o1, none⟩) n c1, .slice a2 n c2] 24)
  obtain ⟨W0, hW0⟩ : ∃ W0, w.alloc (.cells #[.slice (some ⟨p1, o1, none⟩) n c1, .slice a2 n c2] 24) = W0 := ⟨_, rfl⟩
  rw [hW0] at bS hb0 ⊢
  clear hW0 z1 lb
  have HS := Lib.hid bS
  have HBW := Lib.hid hb0
  clear bS hb0 HB0
  go_loopw [3] (fun i wr => ∃ k : Nat, k ≤ n ∧ i = .int .i64 (k : Int) ∧ (∀ j, j < k → goodD at_ m j) ∧ Below W0.heap.size W0 wr) (fun i _ => n - (intOf i).toNat)
  case atStart => exact ⟨0, by omega, rfl, fun j h => by omega, Below.refl _ _⟩
  case round =>
    obtain ⟨k, hk, rfl, hq, hb⟩ := hrel
    have HQ := Lib.hid hq
    have bS := box2_next hb HS.out
    have s0 := bS.cell0
    have s1 := bS.cell1
    clear hq bS
    by_cases hlt : k < n
    · have j1 : k < at_.length := by rw [E1.out]; exact hlt
      have j2 : k < m.length := by rw [E2.out]; exact hlt
      have hk0 : (0 : Int) ≤ (k : Int) := by omega
      have hlt1 : (k : Int) < (n : Int) := by omega
      obtain ⟨q1, r1, er1, g1⟩ := (HK1.out.next HBW.out).at_ hb (Nat.le_refl _) j1
      obtain ⟨rfl, rfl⟩ : q1 = p1 ∧ r1 = o1 := by simp at er1; exact ⟨er1.1.symm, er1.2.symm⟩
      obtain ⟨q2, r2, rfl, g2⟩ := (HK2.out.next HBW.out).at_ hb (Nat.le_refl _) j2
      have hgd : goodD at_ m k ↔ Q at_[k] ∧ Q m[k] ∧ (0 < k → g at_ (k - 1) < at_[k]) := by unfold goodD; rw [g_of j1, g_of j2]
      have hno : ¬ goodD at_ m k → chk at_ m = 2 := fun h => chk_no fun h2 => h (HD.out.1 h2 k j1)
      have hst : goodD at_ m k → ∀ j, j < k + 1 → goodD at_ m j := fun h j hj => by
        rcases Nat.lt_or_eq_of_le (Nat.le_of_lt_succ hj) with h2 | h2
        · exact HQ.out j h2
        · subst h2; exact h
      by_cases hk1 : 0 < k
      · have j3 : k - 1 < at_.length := by omega
        obtain ⟨q3, r3, er3, g3⟩ := (HK1.out.next HBW.out).at_ hb (Nat.le_refl _) j3
        obtain ⟨rfl, rfl⟩ : q3 = q1 ∧ r3 = r1 := by simp at er3; exact ⟨er3.1.symm, er3.2.symm⟩
        rw [g_of j3] at hgd
        generalize at_[k] = x at *
        generalize m[k] = y at *
        generalize at_[k - 1] = z at *
        have HB := Lib.hid hb
        have HG := Lib.hid hgd
        have HN := Lib.hid hno
        have HST := Lib.hid hst
        have dk : decide ((0 : Int) < (k : Int)) = true := decide_eq_true (by omega)
        have dk2 : decide (0 < k) = true := decide_eq_true (by omega)
        have dk3 : 0 < k := by omega
        have hw1 : IntKind.i64.wrap ((k : Int) - 1) = (k : Int) - 1 := IntWalk.i64_in _ (by omega)
        have hw2 : (0 : Int) ≤ (k : Int) - 1 := by omega
        have hw5 : (1 : Int) ≤ (k : Int) := by omega
        have hw4 : ((k : Int) - 1).toNat = k - 1 := by omega
        have hw6 : (k : Int) - 1 < (n : Int) := by omega
        clear hb hgd hno hst j1 j2 j3 er1 er3 hk1
        by_cases hx : Q x
        · have qx := qb_yes hx
          by_cases hy : Q y
          · have qy := qb_yes hy
            by_cases hxz : x ≤ z
            · have d := decide_eq_true hxz
              have HE := Lib.hid (HN.out fun h => by have := (HG.out.1 h).2.2 (by omega); omega)
              clear hx hy hxz
              go_wp2
              go_quiet ((go_at_call 25; exact Calls.quiet_of_same (q_same _ _)))
              go_wp2
              go_ret
              exact ⟨ret_i64 HE.out.symm, HBW.out.trans ((Below.drewN HB.out).mono HBW.out.size)⟩
            · have d := decide_eq_false hxz
              have HE := Lib.hid (HST.out (HG.out.2 ⟨hx, hy, fun _ => by omega⟩))
              clear hx hy hxz
              go_wp2
              go_quiet ((go_at_call 25; exact Calls.quiet_of_same (q_same _ _)))
              go_wp2
              go_roundw
              case rel => exact ⟨k + 1, by omega, by go_num, HE.out, Below.drewN HB.out⟩
              case measure => simp [intOf]; omega
          · have qy := qb_no hy
            have HE := Lib.hid (HN.out fun h => hy (HG.out.1 h).2.1)
            clear hx hy
            go_wp2
            go_quiet ((go_at_call 25; exact Calls.quiet_of_same (q_same _ _)))
            go_wp2
            go_ret
            exact ⟨ret_i64 HE.out.symm, HBW.out.trans ((Below.drewN HB.out).mono HBW.out.size)⟩
        · have qx := qb_no hx
          have HE := Lib.hid (HN.out fun h => hx (HG.out.1 h).1)
          clear hx
          go_wp2
          go_quiet ((go_at_call 25; exact Calls.quiet_of_same (q_same _ _)))
          go_wp2
          go_ret
          exact ⟨ret_i64 HE.out.symm, HBW.out.trans ((Below.drewN HB.out).mono HBW.out.size)⟩
      · generalize at_[k] = x at *
        generalize m[k] = y at *
        have HB := Lib.hid hb
        have HG := Lib.hid hgd
        have HN := Lib.hid hno
        have HST := Lib.hid hst
        have dk : decide ((0 : Int) < (k : Int)) = false := decide_eq_false (by omega)
        have dk2 : decide (0 < k) = false := decide_eq_false (by omega)
        clear hb hgd hno hst j1 j2 er1
        by_cases hx : Q x
        · have qx := qb_yes hx
          by_cases hy : Q y
          · have qy := qb_yes hy
            have HE := Lib.hid (HST.out (HG.out.2 ⟨hx, hy, fun h => absurd h hk1⟩))
            clear hx hy hk1
            go_wp2
            go_quiet ((go_at_call 25; exact Calls.quiet_of_same (q_same _ _)))
            go_wp2
            go_roundw
            case rel => exact ⟨k + 1, by omega, by go_num, HE.out, Below.drewN HB.out⟩
            case measure => simp [intOf]; omega
          · have qy := qb_no hy
            have HE := Lib.hid (HN.out fun h => hy (HG.out.1 h).2.1)
            clear hx hy hk1
            go_wp2
            go_quiet ((go_at_call 25; exact Calls.quiet_of_same (q_same _ _)))
            go_wp2
            go_ret
            exact ⟨ret_i64 HE.out.symm, HBW.out.trans ((Below.drewN HB.out).mono HBW.out.size)⟩
        · have qx := qb_no hx
          have HE := Lib.hid (HN.out fun h => hx (HG.out.1 h).1)
          clear hx hk1
          go_wp2
          go_quiet ((go_at_call 25; exact Calls.quiet_of_same (q_same _ _)))
          go_wp2
          go_ret
          exact ⟨ret_i64 HE.out.symm, HBW.out.trans ((Below.drewN HB.out).mono HBW.out.size)⟩
    · have HE := Lib.hid (chk_yes (HD.out.2 fun i hi => HQ.out i (by have := E1.out; omega)))
      have HB := Lib.hid hb
      clear hb
      go_wp2
      go_ret
      exact ⟨ret_i64 HE.out.symm, HBW.out.trans (HB.out.mono HBW.out.size)⟩
theorem dcheck_any {w : World} {v : Value} {at_ m : List Int} (h : Prof w v at_ m) : Calls Try.prog 10 #[v] w (Tells (chk at_ m) w) := by
  obtain ⟨v1, v2, rfl, ⟨b1, a1, c1, rfl, _, h1⟩, ⟨b2, a2, c2, rfl, _, h2⟩⟩ := h
  by_cases hs : at_.length ≠ m.length ∨ at_.length = 0 ∨ 2000 < at_.length
  · rw [chk_no fun h => by obtain ⟨x1, x2, _, x4, _⟩ := h.parts; omega]
    exact dcheck_short _ _ a1 a2 _ _ c1 c2 rfl rfl hs w
  · have e : m.length = at_.length := by omega
    have e0 : 0 < at_.length := by omega
    by_cases hz : g at_ 0 = 0
    · rw [e]
      exact dcheck_main a1 a2 _ c1 c2 at_ m w rfl e e0 (by omega) hz h1 h2
    · rw [chk_no fun h => hz h.parts.2.2.2.2.1, e]
      rcases h1 with h1 | ⟨b, o, rfl, hc⟩
      · omega
      · have := hc 0 e0
        rw [Nat.add_zero] at this
        exact dcheck_zero b o a2 _ c1 c2 _ w e0 (by omega) this (by rw [← g_of e0]; exact hz)
end Go.Proofs.Ytoofogmlodfgmaa.gn
