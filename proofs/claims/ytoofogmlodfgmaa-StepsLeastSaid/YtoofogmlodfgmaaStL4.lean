/- StepsLeast: the law's long way. -/
import Derived.Test.YtoofogmlodfgmaaStL3
namespace Go.Proofs.Ytoofogmlodfgmaa.gn
open Go.RowKit Go.Shelf
open Go.Proofs.Ytoofogmlodfgmaa.sp
attribute [local go_sem ↓] Go.wp_at_zero Go.wp_at_succ
set_option maxHeartbeats 4000000 in
theorem least_law (v1 v2 : Value) (a1 a2 : Option Addr) (n1 n2 c1 c2 : Nat) (L : List (Int × Int)) (a b c : Nat) (w : World) (e1 : v1 = .slice a1 n1 c1) (e2 : v2 = .slice a2 n2 c2) (hP : Prof w (.agg #[v1, v2]) (L.map Prod.fst) (L.map Prod.snd)) (h1 : n1 ≤ 60) (h2 : n2 ≤ 60) (hL : Ok L) (ha : a < 256) (hb : b < 256) (hc : c < 256) :
    Calls Try.prog 6 #[.agg #[v1, v2, .int .u8 (a : Int), .int .u8 (b : Int), .int .u8 (c : Int)]] w (Yes w) := by
  subst e1 e2
  have HG := Lib.hid fun W => great_no a1 a2 n1 n2 c1 c2 h1 h2 W
  have HC := Lib.hid (chk_yes ⟨L, hL, rfl, rfl⟩)
  have HL := Lib.hid hL
  clear h1 h2 hL
  go_enter Try.func6, Try.ntmps6
  go_wp2
  obtain ⟨W0, hW0⟩ : ∃ W0, w.alloc (.cells #[.slice a1 n1 c1, .slice a2 n2 c2, .int .u8 (a : Int), .int .u8 (b : Int), .int .u8 (c : Int)] 49) = W0 := ⟨_, rfl⟩
  have bW : Box5 W0 w.heap.size 49 (.slice a1 n1 c1) (.slice a2 n2 c2) (.int .u8 (a : Int)) (.int .u8 (b : Int)) (.int .u8 (c : Int)) := by rw [← hW0]; exact Box5.new w _ _ _ _ _ _
  have hb0 : Below w.heap.size w W0 := by rw [← hW0]; exact (Below.refl _ _).alloc (Nat.le_refl _) _
  rw [hW0]
  clear hW0
  obtain ⟨g0, g1, g2, g3, g4⟩ := bW.cell
  have hlt := bW.lt
  have HP0 := Lib.hid (hP.below hb0 (Nat.le_refl _))
  have HB0 := Lib.hid hb0
  clear hP hb0 bW
  go_region_held3 (fun W => W.cell? ⟨w.heap.size, 0, none⟩ = some (.slice a1 n1 c1) ∧ W.cell? ⟨w.heap.size, 1, none⟩ = some (.slice a2 n2 c2) ∧ W.cell? ⟨w.heap.size, 2, none⟩ = some (.int .u8 (a : Int)) ∧ W.cell? ⟨w.heap.size, 3, none⟩ = some (.int .u8 (b : Int)) ∧ W.cell? ⟨w.heap.size, 4, none⟩ = some (.int .u8 (c : Int))) (go_keep) (fail)
  have bS := Box2.new W0 24 (.slice a1 n1 c1) (.slice a2 n2 c2)
  have hba := (Below.refl W0.heap.size W0).alloc (Nat.le_refl _) (.cells #[.slice a1 n1 c1, .slice a2 n2 c2] 24)
  have S0 := (SL.mk (w := w) bS (HB0.out.trans (hba.mono HB0.out.size)) (HP0.out.below hba (Nat.le_refl _))).drew
  obtain ⟨W1, hW1⟩ : ∃ W1, (W0.alloc (.cells #[.slice a1 n1 c1, .slice a2 n2 c2] 24)).drew = W1 := ⟨_, rfl⟩
  rw [hW1] at S0 ⊢
  clear hW1 hba bS g0 g1 g2 g3 g4 hlt
  generalize W0.heap.size = g at *
  have s0 := S0.bS.cell0
  have s1 := S0.bS.cell1
  have HS0 := Lib.hid S0
  clear S0
  go_wp2_with fail
  refine (HG.out _).mono ?_
  rintro e w1 ⟨rfl, hb1⟩
  have S1 := HS0.out.next hb1
  have s0 := S1.bS.cell0
  have s1 := S1.bS.cell1
  have HS1 := Lib.hid S1
  clear hb1 S1
  go_wp2_with fail
  refine (check_any HS1.out.hP).mono ?_
  rintro e w2 ⟨rfl, hb2⟩
  rw [HC.out]
  have S2 := HS1.out.next hb2
  have s0 := S2.bS.cell0
  have s1 := S2.bS.cell1
  have HS2 := Lib.hid S2
  clear hb2 S2
  have a0 : (0 : Int) ≤ (a : Int) := by omega
  have b0 : (0 : Int) ≤ (b : Int) := by omega
  have c0 : (0 : Int) ≤ (c : Int) := by omega
  have f0 : (0 : Int) ≤ (a : Int) % 200 := by omega
  have f1 : (a : Int) % 200 < 200 := by omega
  have x0 : (0 : Int) ≤ (b : Int) % 60 := by omega
  have x1 : (b : Int) % 60 < 60 := by omega
  have y0 : (0 : Int) ≤ (c : Int) % 60 := by omega
  have y1 : (c : Int) % 60 < 60 := by omega
  go_wp2_with fail
  generalize (a : Int) % 200 = f at *
  generalize (b : Int) % 60 = x at *
  generalize (c : Int) % 60 = y at *
  have qf : Q f := ⟨by omega, by omega⟩
  have qm : Q (f + x) := ⟨by omega, by omega⟩
  have qt : Q (f + x + y) := ⟨by omega, by omega⟩
  refine (leastf_yes (lo := f) (hi := f + x + y) HS2.out.hP HL.out qf qt).mono ?_
  rintro e w3 ⟨rfl, hb3⟩
  have hls := lst_is HL.out qf qt
  have hmin := lst_min HL.out qf qm qt (by omega) (by omega)
  have hseen := fun h => lst_seen HL.out qf qt h
  obtain ⟨mn, hmn⟩ : ∃ mn, mn = lst L f (f + x + y) := ⟨_, rfl⟩
  rw [← hmn] at hls hmin hseen ⊢
  have HS3 := Lib.hid (HS2.out.next hb3)
  have HLs := Lib.hid hls
  have HMin := Lib.hid hmin
  have HSeen := Lib.hid hseen
  clear hb3 hls hmin hseen hmn s0 s1
  have HQs := Lib.hid (And.intro qf (And.intro qm qt))
  clear qf qm qt
  go_wp2
  go_loopw [11, 12] (fun v11 v12 wr => ∃ (k : Nat) (is : Bool), f + k ≤ f + x + y ∧ v12 = .int .i64 (f + k) ∧ v11 = .bool is ∧ ((x + y ≤ 0 ∨ ∃ t, f ≤ t ∧ t < f + k ∧ val L t = mn) → is = true) ∧ SL w g (.slice a1 n1 c1) (.slice a2 n2 c2) (L.map Prod.fst) (L.map Prod.snd) wr) (fun _ v12 _ => (f + x + y - intOf v12).toNat)
  case atStart =>
    exact ⟨0, _, by omega, by go_num, rfl, fun h => by
      rcases h with h | ⟨t, h1, h2, _⟩
      · exact decide_eq_true (by omega)
      · exfalso; simp at h2; omega, HS3.out⟩
  case round =>
    obtain ⟨k, is, hk, rfl, rfl, his, hS⟩ := hrel
    have s0 := hS.bS.cell0
    have s1 := hS.bS.cell1
    have HIs := Lib.hid his
    have HSr := Lib.hid hS
    clear his hS
    by_cases hlt : f + k < f + x + y
    · have qk : Q (f + k) := ⟨by omega, by have := HQs.out.2.2.2; omega⟩
      have hlow := HLs.out.low (f + k) (by omega) hlt
      have HAt := Lib.hid (at_yes (t := f + k) HSr.out.hP HL.out qk)
      have hst : val L (f + k) ≠ mn → (∃ t, f ≤ t ∧ t < f + ((k + 1 : Nat) : Int) ∧ val L t = mn) → ∃ t, f ≤ t ∧ t < f + k ∧ val L t = mn := by
        rintro hn ⟨t, h1, h2, h3⟩
        refine ⟨t, h1, ?_, h3⟩
        by_cases h : t = f + k
        · subst h; exact absurd h3 hn
        · omega
      generalize val L (f + k) = mv at *
      have HSt := Lib.hid hst
      have hd : decide (mv < mn) = false := decide_eq_false (by omega)
      clear qk hst hlow
      cases is with
      | true =>
        go_wp2_with fail
        refine HAt.out.mono ?_
        rintro e w4 ⟨rfl, hb4⟩
        have HS4 := Lib.hid (HSr.out.next hb4)
        clear hb4
        go_wp2
        go_roundw
        case rel => exact ⟨k + 1, true, by omega, by go_num, rfl, fun _ => rfl, HS4.out⟩
        case measure => simp [intOf]; omega
      | false =>
        by_cases he : mv = mn
        · have hd2 : (mv == mn) = true := beq_iff_eq.2 he
          clear he
          go_wp2_with fail
          refine HAt.out.mono ?_
          rintro e w4 ⟨rfl, hb4⟩
          have HS4 := Lib.hid (HSr.out.next hb4)
          clear hb4
          go_wp2
          go_roundw
          case rel => exact ⟨k + 1, true, by omega, by go_num, rfl, fun _ => rfl, HS4.out⟩
          case measure => simp [intOf]; omega
        · have hd2 : (mv == mn) = false := beq_eq_false_iff_ne.2 he
          have HE := Lib.hid he
          clear he
          go_wp2_with fail
          refine HAt.out.mono ?_
          rintro e w4 ⟨rfl, hb4⟩
          have HS4 := Lib.hid (HSr.out.next hb4)
          clear hb4
          go_wp2
          go_roundw
          case rel => exact ⟨k + 1, false, by omega, by go_num, rfl, fun h => by
            rcases h with h | h
            · exact HIs.out (.inl h)
            · exact HIs.out (.inr (HSt.out HE.out h)), HS4.out⟩
          case measure => simp [intOf]; omega
    · have hfin : is = true := HIs.out (by
        by_cases h0 : x + y ≤ 0
        · exact .inl h0
        · obtain ⟨t, h1, h2, h3⟩ := HSeen.out (by omega)
          exact .inr ⟨t, h1, by omega, h3⟩)
      subst hfin
      have HS5 := Lib.hid HSr.out.drew
      have hmb : (mn == min (lst L f (f + x)) (lst L (f + x) (f + x + y))) = true := beq_iff_eq.2 HMin.out
      generalize hl1 : lst L f (f + x) = l1 at *
      generalize hl2 : lst L (f + x) (f + x + y) = l2 at *
      have HL1 := Lib.hid hl1
      have HL2 := Lib.hid hl2
      clear hl1 hl2
      go_wp2
      go_region_held3 (fun W => W.cell? ⟨g, 0, none⟩ = some (.slice a1 n1 c1) ∧ W.cell? ⟨g, 1, none⟩ = some (.slice a2 n2 c2)) (go_keep)
        (first
          | (go_at_call 19; ((with_reducible refine (leastf_yes (lo := f) (hi := f + x) HS5.out.hP HL.out HQs.out.1 HQs.out.2.1).mono ?_); rintro e w4 ⟨rfl, hb4⟩; rw [HL1.out]; have S6 := HS5.out.next hb4; have t0 := S6.bS.cell0; have t1 := S6.bS.cell1; have HS6 := Lib.hid S6; clear hb4 S6))
          | (go_at_call 19; ((with_reducible refine (leastf_yes (lo := f + x) (hi := f + x + y) HS6.out.hP HL.out HQs.out.2.1 HQs.out.2.2).mono ?_); rintro e w5 ⟨rfl, hb5⟩; rw [HL2.out]; have S7 := HS6.out.next hb5; have r0 := S7.bS.cell0; have r1 := S7.bS.cell1; have HS7 := Lib.hid S7; clear hb5 S7))
          | (go_at_call 9; ((with_reducible refine (head_any _).mono ?_); rintro e w6 ⟨rfl, hb6⟩; have S8 := HS7.out.next hb6; have q0 := S8.bS.cell0; have q1 := S8.bS.cell1; have HS8 := Lib.hid S8; clear hb6 S8)))
      all_goals
        go_wp2
        go_ret
        exact ⟨rfl, HS8.out.hB⟩
end Go.Proofs.Ytoofogmlodfgmaa.gn
