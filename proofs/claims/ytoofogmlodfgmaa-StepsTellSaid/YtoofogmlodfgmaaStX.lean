/- The document's Equal. -/
import Derived.Test.YtoofogmlodfgmaaStW
namespace Go.Proofs.Ytoofogmlodfgmaa.gn
open Go.RowKit Go.Shelf
open Go.Proofs.Ytoofogmlodfgmaa.sp

/-- The cells of a slice of numbers, if there are any. -/
def CellsOf (w : World) (a : Option Addr) (l : List Int) : Prop := l.length = 0 ∨ ∃ b o, a = some ⟨b, o, none⟩ ∧ ∀ j (h : j < l.length), w.cell? ⟨b, o + j, none⟩ = some (.int .i64 l[j])
theorem CellsOf.at_ {w w' : World} {a : Option Addr} {l : List Int} (h : CellsOf w a l) {B : Nat} (hb : Below B w w') (hB : w.heap.size ≤ B) {k : Nat} (hk : k < l.length) : ∃ b o, a = some ⟨b, o, none⟩ ∧ w'.cell? ⟨b, o + k, none⟩ = some (.int .i64 l[k]) := by
  rcases h with h | ⟨b, o, rfl, hc⟩
  · omega
  · exact ⟨b, o, rfl, (hb.cell (p := ⟨b, o + k, none⟩) (Nat.lt_of_lt_of_le (cell_lt (hc k hk)) hB)).trans (hc k hk)⟩
theorem CellsOf.next {w w' : World} {a : Option Addr} {l : List Int} (h : CellsOf w a l) (hb : Below w.heap.size w w') : CellsOf w' a l := by
  rcases h with h | ⟨b, o, rfl, hc⟩
  · exact .inl h
  · exact .inr ⟨b, o, rfl, fun j hj => (hb.cell (p := ⟨b, o + j, none⟩) (cell_lt (hc j hj))).trans (hc j hj)⟩

theorem dequal_far (v1 v2 u1 u2 : Value) (a1 a2 a3 a4 : Option Addr) (n1 c1 n2 c2 n3 c3 n4 c4 : Nat) (h1 : v1 = .slice a1 n1 c1) (h2 : v2 = .slice a2 n2 c2) (h3 : u1 = .slice a3 n3 c3) (h4 : u2 = .slice a4 n4 c4) (h : n1 ≠ n3 ∨ n2 ≠ n4) (w : World) :
    Calls Try.prog 14 #[.agg #[v1, v2], .agg #[u1, u2]] w (TellsB false w) := by
  subst h1 h2 h3 h4
  by_cases h5 : n1 = n3
  · subst h5
    have hb : ((n1 : Int) != (n1 : Int)) = false := by simp
    have hb2 : ((n2 : Int) != (n4 : Int)) = true := by simpa using (show ¬ (n2 : Int) = n4 by omega)
    clear h
    go_enter Try.func14, Try.ntmps14
    go_wp2
    go_ret
    exact ⟨rfl, ((Below.refl _ _).alloc (Nat.le_refl _) _).alloc (by simp) _⟩
  · have hb : ((n1 : Int) != (n3 : Int)) = true := by simpa using (show ¬ (n1 : Int) = n3 by omega)
    clear h h5
    go_enter Try.func14, Try.ntmps14
    go_wp2
    go_ret
    exact ⟨rfl, ((Below.refl _ _).alloc (Nat.le_refl _) _).alloc (by simp) _⟩

set_option maxHeartbeats 2000000 in
theorem dequal_main (a1 a2 a3 a4 : Option Addr) (n1 c1 n2 c2 c3 c4 : Nat) (l1 l2 m1 m2 : List Int) (w : World) (e1 : l1.length = n1) (e2 : l2.length = n2) (e3 : m1.length = n1) (e4 : m2.length = n2) (b1 : n1 ≤ maxLen) (b2 : n2 ≤ maxLen)
    (h1 : CellsOf w a1 l1) (h2 : CellsOf w a2 l2) (h3 : CellsOf w a3 m1) (h4 : CellsOf w a4 m2) :
    Calls Try.prog 14 #[.agg #[.slice a1 n1 c1, .slice a2 n2 c2], .agg #[.slice a3 n1 c3, .slice a4 n2 c4]] w (TellsB (same l1 m1 && same l2 m2) w) := by
  unfold maxLen at b1 b2
  have hb1 : ((n1 : Int) != (n1 : Int)) = false := by simp
  have hb2 : ((n2 : Int) != (n2 : Int)) = false := by simp
  have E1 := Lib.hid e1
  have E2 := Lib.hid e2
  have E3 := Lib.hid e3
  have E4 := Lib.hid e4
  have H1 := Lib.hid h1
  have H2 := Lib.hid h2
  have H3 := Lib.hid h3
  have H4 := Lib.hid h4
  clear e1 e2 e3 e4 h1 h2 h3 h4
  go_enter Try.func14, Try.ntmps14
  go_wp2
  have bS := (Box2.new w 24 (.slice a1 n1 c1) (.slice a2 n2 c2)).alloc (.cells #[.slice a3 n1 c3, .slice a4 n2 c4] 24)
  have bU := Box2.new (w.alloc (.cells #[.slice a1 n1 c1, .slice a2 n2 c2] 24)) 24 (.slice a3 n1 c3) (.slice a4 n2 c4)
  rw [World.size_alloc] at bU
  have hb0 : Below w.heap.size w ((w.alloc (.cells #[.slice a1 n1 c1, .slice a2 n2 c2] 24)).alloc (.cells #[.slice a3 n1 c3, .slice a4 n2 c4] 24)) := ((Below.refl _ _).alloc (Nat.le_refl _) _).alloc (by simp) _
  obtain ⟨W0, hW0⟩ : ∃ W0, (w.alloc (.cells #[.slice a1 n1 c1, .slice a2 n2 c2] 24)).alloc (.cells #[.slice a3 n1 c3, .slice a4 n2 c4] 24) = W0 := ⟨_, rfl⟩
  rw [hW0] at bS bU hb0 ⊢
  clear hW0
  have HS := Lib.hid bS
  have HU := Lib.hid bU
  have HB0 := Lib.hid hb0
  clear bS bU hb0
  go_loopw [5] (fun i wr => ∃ k : Nat, k ≤ n1 ∧ i = .int .i64 (k : Int) ∧ (∀ j (h1 : j < l1.length) (h2 : j < m1.length), j < k → l1[j] = m1[j]) ∧ Below W0.heap.size W0 wr) (fun i _ => n1 - (intOf i).toNat)
  case atStart => exact ⟨0, by omega, rfl, fun j _ _ h => by omega, Below.refl _ _⟩
  case round =>
    obtain ⟨k, hk, rfl, hq, hb⟩ := hrel
    have HQ := Lib.hid hq
    have bS := box2_next hb HS.out
    have bU := box2_next hb HU.out
    have s0 := bS.cell0
    have s1 := bS.cell1
    have u0 := bU.cell0
    have u1 := bU.cell1
    clear hq bS bU
    by_cases hlt : k < n1
    · have k1 : k < l1.length := by rw [E1.out]; exact hlt
      have k2 : k < m1.length := by rw [E3.out]; exact hlt
      have hk0 : (0 : Int) ≤ (k : Int) := by omega
      have hlt1 : (k : Int) < (n1 : Int) := by omega
      obtain ⟨p1, o1, rfl, g1⟩ := (H1.out.next HB0.out).at_ hb (Nat.le_refl _) k1
      obtain ⟨p3, o3, rfl, g3⟩ := (H3.out.next HB0.out).at_ hb (Nat.le_refl _) k2
      have hsa : l1[k] ≠ m1[k] → (same l1 m1 && same l2 m2) = false := fun h => by rw [same_at k1 k2 h]; rfl
      have hst : l1[k] = m1[k] → ∀ j (h1 : j < l1.length) (h2 : j < m1.length), j < k + 1 → l1[j] = m1[j] := fun e j h1 h2 h3 => by
        rcases Nat.lt_or_eq_of_le (Nat.le_of_lt_succ h3) with h4 | h4
        · exact HQ.out j h1 h2 h4
        · subst h4; exact e
      generalize l1[k] = x at *
      generalize m1[k] = y at *
      have HB := Lib.hid hb
      have HSA := Lib.hid hsa
      have HST := Lib.hid hst
      clear hb hsa hst k1 k2
      by_cases he : x = y
      · have hd : (x != y) = false := by simp [he]
        have HE := Lib.hid he
        clear he
        go_wp2
        go_quiet (fail)
        go_wp2
        go_roundw
        case rel => exact ⟨k + 1, by omega, by go_num, HST.out HE.out, Below.drewN HB.out⟩
        case measure => simp [intOf]; omega
      · have hd : (x != y) = true := by simpa using he
        have HE := Lib.hid (HSA.out he)
        clear he
        go_wp2
        go_quiet (fail)
        go_wp2
        go_ret
        exact ⟨ret_bool HE.out.symm, HB0.out.trans ((Below.drewN HB.out).mono HB0.out.size)⟩
    · have hs1 : Hid (same l1 m1 = true) := same_all (by rw [E1.out, E3.out]) fun j h1 h2 => HQ.out j h1 h2 (by have := E1.out; omega)
      have HBa := Lib.hid hb
      clear hb
      go_wp2
      clear s0 s1 u0 u1
      obtain ⟨W1, hW1⟩ : ∃ W1, W1 = wr := ⟨_, rfl⟩
      rw [← hW1] at HBa ⊢
      clear hW1
      go_loopw [6] (fun i wr => ∃ k : Nat, k ≤ n2 ∧ i = .int .i64 (k : Int) ∧ (∀ j (h1 : j < l2.length) (h2 : j < m2.length), j < k → l2[j] = m2[j]) ∧ Below W0.heap.size W0 wr) (fun i _ => n2 - (intOf i).toNat)
      case atStart => exact ⟨0, by omega, rfl, fun j _ _ h => by omega, HBa.out⟩
      case round =>
        obtain ⟨k2, hk2, rfl, hq2, hb⟩ := hrel
        have HQ2 := Lib.hid hq2
        have bS := box2_next hb HS.out
        have bU := box2_next hb HU.out
        have s0 := bS.cell0
        have s1 := bS.cell1
        have u0 := bU.cell0
        have u1 := bU.cell1
        clear hq2 bS bU
        by_cases hlt2 : k2 < n2
        · have j1 : k2 < l2.length := by rw [E2.out]; exact hlt2
          have j2 : k2 < m2.length := by rw [E4.out]; exact hlt2
          have hk0 : (0 : Int) ≤ (k2 : Int) := by omega
          have hlt1 : (k2 : Int) < (n2 : Int) := by omega
          obtain ⟨p2, o2, rfl, g2⟩ := (H2.out.next HB0.out).at_ hb (Nat.le_refl _) j1
          obtain ⟨p4, o4, rfl, g4⟩ := (H4.out.next HB0.out).at_ hb (Nat.le_refl _) j2
          have hsa : l2[k2] ≠ m2[k2] → (same l1 m1 && same l2 m2) = false := fun h => by rw [same_at j1 j2 h]; simp
          have hst : l2[k2] = m2[k2] → ∀ j (h1 : j < l2.length) (h2 : j < m2.length), j < k2 + 1 → l2[j] = m2[j] := fun e j h1 h2 h3 => by
            rcases Nat.lt_or_eq_of_le (Nat.le_of_lt_succ h3) with h4 | h4
            · exact HQ2.out j h1 h2 h4
            · subst h4; exact e
          generalize l2[k2] = x at *
          generalize m2[k2] = y at *
          have HB := Lib.hid hb
          have HSA := Lib.hid hsa
          have HST := Lib.hid hst
          clear hb hsa hst j1 j2
          by_cases he : x = y
          · have hd : (x != y) = false := by simp [he]
            have HE := Lib.hid he
            clear he
            go_wp2
            go_quiet (fail)
            go_wp2
            go_roundw
            case rel => exact ⟨k2 + 1, by omega, by go_num, HST.out HE.out, Below.drewN HB.out⟩
            case measure => simp [intOf]; omega
          · have hd : (x != y) = true := by simpa using he
            have HE := Lib.hid (HSA.out he)
            clear he
            go_wp2
            go_quiet (fail)
            go_wp2
            go_ret
            exact ⟨ret_bool HE.out.symm, HB0.out.trans ((Below.drewN HB.out).mono HB0.out.size)⟩
        · have hs2 : Hid ((same l1 m1 && same l2 m2) = true) := by show _ = _; rw [hs1.out, same_all (by rw [E2.out, E4.out]) fun j h1 h2 => HQ2.out j h1 h2 (by have := E2.out; omega)]; rfl
          have HB := Lib.hid hb
          clear hb
          go_wp2
          go_ret
          exact ⟨ret_bool hs2.out.symm, HB0.out.trans (HB.out.mono HB0.out.size)⟩
theorem dequal_any {w : World} {v u : Value} {l1 l2 m1 m2 : List Int} (h : Prof w v l1 l2) (h' : Prof w u m1 m2) : Calls Try.prog 14 #[v, u] w (TellsB (same l1 m1 && same l2 m2) w) := by
  obtain ⟨v1, v2, rfl, ⟨b1, a1, c1, rfl, _, h1⟩, ⟨b2, a2, c2, rfl, _, h2⟩⟩ := h
  obtain ⟨u1, u2, rfl, ⟨b3, a3, c3, rfl, _, h3⟩, ⟨b4, a4, c4, rfl, _, h4⟩⟩ := h'
  by_cases e1 : l1.length = m1.length
  · by_cases e2 : l2.length = m2.length
    · rw [← e1, ← e2]
      exact dequal_main a1 a2 a3 a4 _ c1 _ c2 c3 c4 l1 l2 m1 m2 w rfl rfl e1.symm e2.symm b1 b2 h1 h2 h3 h4
    · rw [same_len e2, Bool.and_false]
      exact dequal_far _ _ _ _ _ _ _ _ _ _ _ _ _ _ _ _ rfl rfl rfl rfl (.inr e2) w
  · rw [same_len e1, Bool.false_and]
    exact dequal_far _ _ _ _ _ _ _ _ _ _ _ _ _ _ _ _ rfl rfl rfl rfl (.inl e1) w
end Go.Proofs.Ytoofogmlodfgmaa.gn
