/- ShelfFiles: rows of acts that came in; the contracts of the law file's great, and of the document's Append. -/
import Derived.Test.YtmaohncddjhgeaaGreatMShF
import Derived.Test.YtmaohncddjhgeaaGreatMJoBy
import Derived.Deep.RegionHeld3
section
set_option linter.unusedVariables false
set_option linter.unusedSectionVars false
namespace Go.Proofs.YtmaohncddjhgeaaGreat.gn
open Go.RowKit
open Go.Proofs.YtmaohncddjhgeaaGreat.fi

/-- An act, as a law looks at it: what, and the row. -/
abbrev A9 := Nat × List (List UInt8)
/-- v is a slice of acts. -/
def Acts (w : World) (v : Value) (X : List A9) : Prop :=
  ∃ A c, v = .slice A X.length c ∧ X.length ≤ c ∧ c ≤ maxLen ∧ (X.length = 0 ∨ ∃ b o, A = some ⟨b, o, none⟩ ∧ ∀ j (h : j < X.length), w.cell? ⟨b, o + j * 6, none⟩ = some (.int .u8 (X[j].1 : Int)) ∧ ∃ u, w.cell? ⟨b, o + j * 6 + 1, none⟩ = some u ∧ Strw w u X[j].2) ∧ ∀ x ∈ X, x.1 < 256
/-- Rows that a statement looks at. -/
def RowOk9 (L : List (List UInt8)) : Prop := L.length ≤ 10 ∧ ∀ s ∈ L, s.length ≤ 300
def ActsOk (X : List A9) : Prop := X.length ≤ 40 ∧ ∀ x ∈ X, RowOk9 x.2

set_option maxRecDepth 100000
set_option maxHeartbeats 4000000
theorem great9_any (v : Value) (X : List A9) (w : World) (h : Acts w v X) :
    Calls Tryz.prog 5 #[v] w fun e w' => ((e = .returned (.bool false) ∧ ActsOk X) ∨ (e = .returned (.bool true) ∧ ¬ ActsOk X)) ∧ w = w' := by
  obtain ⟨A, cp, rfl, hcp, hcm, hcell, _⟩ := h
  have hcells : ∀ k (hk : k < X.length), ∃ b o B n c, A = some ⟨b, o, none⟩ ∧ w.cell? ⟨b, o + k * 6 + 1, none⟩ = some (.slice B n c) ∧ n = (X[k].2).length ∧ n ≤ maxLen ∧
      ∀ m (hm : m < (X[k].2).length), ∃ b' o', B = some ⟨b', o', none⟩ ∧ w.cell? ⟨b', o' + m, none⟩ = some (.string (str (X[k].2)[m])) ∧ ((X[k].2)[m]).length ≤ maxLen := fun k hk => by
    rcases hcell with h0 | ⟨b, o, hA, hcl⟩
    · omega
    · obtain ⟨_, u, hu, ⟨B, c, rfl, h2, h3, h4, h5⟩, _⟩ := hcl k hk
      refine ⟨b, o, B, _, c, hA, hu, rfl, by omega, fun m hm => ?_⟩
      rcases h4 with h4 | ⟨b', o', hB, hc⟩
      · omega
      · exact ⟨b', o', hB, hc m hm, h5 _ (List.getElem_mem hm)⟩
  have HC := Lib.hid hcells
  clear hcell hcells
  by_cases h20 : 40 < X.length
  · have HN : Hid (¬ ActsOk X) := Lib.hid fun h => by have := h.1; omega
    unfold maxLen at hcm
    go_enter Tryz.func5, Tryz.ntmps5
    go_wp2
    go_ret
    exact ⟨.inr ⟨rfl, HN.out⟩, rfl⟩
  · go_enter Tryz.func5, Tryz.ntmps5
    go_wp2
    go_loop [3] (fun v3 => ∃ k : Nat, k ≤ X.length ∧ v3 = .int .i64 (k : Int) ∧ ∀ j (hj : j < X.length), j < k → RowOk9 X[j].2) (fun v3 => X.length - (intOf v3).toNat)
    case atStart => exact ⟨0, Nat.zero_le _, rfl, fun j _ h => absurd h (Nat.not_lt_zero _)⟩
    case round =>
      obtain ⟨k, hk, rfl, hpre⟩ := hrel
      have HP := Lib.hid hpre
      clear hpre
      by_cases hlt : k < X.length
      · obtain ⟨b, o, B, n, c, hA, hcl, hn, hnm, hrow⟩ := HC.out k hlt
        subst hA
        have HR := Lib.hid hrow
        clear hrow
        have hmem : X[k] ∈ X := List.getElem_mem hlt
        have HM := Lib.hid hmem
        clear hmem
        have HK : Hid (RowOk9 X[k].2 → ∀ j (hj : j < X.length), j < k + 1 → RowOk9 X[j].2) := Lib.hid fun h j hj hl => by
          by_cases e : j = k
          · subst e; exact h
          · exact HP.out j hj (by omega)
        have HG : Hid (ActsOk X → RowOk9 X[k].2) := Lib.hid fun h => h.2 _ HM.out
        clear HM
        generalize X[k].2 = L at *
        subst hn
        unfold maxLen at hnm
        by_cases h10 : 10 < L.length
        · have HN : Hid (¬ ActsOk X) := Lib.hid fun h => by have := (HG.out h).1; omega
          go_wp2
          go_ret
          exact ⟨.inr ⟨rfl, HN.out⟩, rfl⟩
        · go_wp2
          go_loop [4] (fun v4 => ∃ m : Nat, m ≤ L.length ∧ v4 = .int .i64 (m : Int) ∧ ∀ j (hj : j < L.length), j < m → (L[j]).length ≤ 300) (fun v4 => L.length - (intOf v4).toNat)
          case atStart => exact ⟨0, Nat.zero_le _, rfl, fun j _ h => absurd h (Nat.not_lt_zero _)⟩
          case round =>
            obtain ⟨m, hm, rfl, hpre⟩ := hrel
            have HQ := Lib.hid hpre
            clear hpre
            by_cases hml : m < L.length
            · obtain ⟨b', o', hB, hcl2, hsm⟩ := HR.out m hml
              subst hB
              have hmem : L[m] ∈ L := List.getElem_mem hml
              have HM2 := Lib.hid hmem
              clear hmem
              have HK2 : Hid ((L[m]).length ≤ 300 → ∀ j (hj : j < L.length), j < m + 1 → (L[j]).length ≤ 300) := Lib.hid fun h j hj hl => by
                by_cases e : j = m
                · subst e; exact h
                · exact HQ.out j hj (by omega)
              have hss : (str L[m]).size = (L[m]).length := str_size _
              generalize L[m] = s at *
              unfold maxLen at hsm
              by_cases h300 : 300 < s.length
              · have HN : Hid (¬ ActsOk X) := Lib.hid fun h => by have := (HG.out h).2 s HM2.out; omega
                go_wp2
                go_ret
                exact ⟨.inr ⟨rfl, HN.out⟩, rfl⟩
              · have H3 := Lib.hid (HK2.out (by omega))
                go_wp2
                go_round
                case rel => exact ⟨m + 1, by omega, by go_num, H3.out⟩
                case measure => simp [intOf]; omega
            · have hml : m = L.length := by omega
              subst hml
              have H3 := Lib.hid (HK.out ⟨by omega, fun s hs => by
                obtain ⟨j, hj, rfl⟩ := List.mem_iff_getElem.1 hs
                exact HQ.out j hj hj⟩)
              go_wp2
              go_round
              case rel => exact ⟨k + 1, by omega, by go_num, H3.out⟩
              case measure => simp [intOf]; omega
      · have hkl : k = X.length := by omega
        subst hkl
        have HN : Hid (ActsOk X) := Lib.hid ⟨by omega, fun x hx => by
          obtain ⟨j, hj, rfl⟩ := List.mem_iff_getElem.1 hx
          exact HP.out j hj hj⟩
        go_wp2
        go_ret
        exact ⟨.inl ⟨rfl, HN.out⟩, rfl⟩

theorem Strw.below {w w' : World} {v : Value} {L : List (List UInt8)} (h : Strw w v L) (hb : Below w.heap.size w w') : Strw w' v L := ⟨h.1.below hb, h.2⟩
theorem Ss.strw {w : World} {B : Nat} {v : Value} {L : List (List UInt8)} (h : Ss w B v L) (hs : ∀ s ∈ L, s.length ≤ maxLen) : Strw w v L := by
  refine ⟨h.strs hs, fun n c e => ?_⟩
  subst e
  rcases h.2 with ⟨e, _⟩ | ⟨g, cap, cur, e, _⟩
  · cases e; exact ⟨rfl, rfl⟩
  · cases e
theorem Ss.only {w w' : World} {B : Nat} {v : Value} {L : List (List UInt8)} {S : Nat → Prop} (h : Ss w B v L) (ho : Only S w w') (hz : ∀ g, v.ownBlock = some g → ¬ S g) : Ss w' B v L := by
  refine ⟨h.1, ?_⟩
  rcases h.2 with hn | ⟨g, cap, cur, rfl, hB, hg, rest⟩
  · exact .inl hn
  · exact .inr ⟨g, cap, cur, rfl, hB, (ho.block g (lt_of_block hg) (hz g rfl)).trans hg, rest⟩
theorem Ss.grown {w wr w1 : World} {B b : Nat} {v : Value} {L : List (List UInt8)} (h : Ss wr B v L) (hb : Below b w wr) (hB : b ≤ wr.heap.size) (hg : wr.grownBy w1 v.ownBlock) (hbB : b ≤ B) : Below b w w1 := hb.grown hg hB fun k hk => by
  rcases h.2 with ⟨e, _⟩ | ⟨g, cap, cur, e, hBg, _⟩
  · rw [e] at hk; cases hk
  · rw [e] at hk; cases hk; exact Nat.le_trans hbB hBg
theorem dappend_any (w : World) (x : Nat) (t : List UInt8) (va : Value) (Al : List (List UInt8)) (ha : Strw w va Al) (sure : Int) (vl : Value) (L : List (List UInt8)) (hl : Strw w vl L) (h1 : Al.length ≤ 100000) (h2 : L.length ≤ 100000) :
    Calls Tryz.prog 13 #[qv x t va sure, vl] w fun e w' => ∃ A n c, n = (Al ++ L).length ∧ e = .returned (qv x t (.slice A n c) sure) ∧ Ss w' w.heap.size (.slice A n c) (Al ++ L) ∧ Below w.heap.size w w' := by
  obtain ⟨w2, hw2⟩ : ∃ w2, (w.alloc (.cells #[.int .u64 (x : Int), .string (str t), va, .int .i64 sure] 34)).alloc (.cells #[.int .u64 0, .string ⟨#[]⟩, .slice none 0 0, .int .i64 0] 34) = w2 := ⟨_, rfl⟩
  have hz2 : w2.heap.size = w.heap.size + 2 := by rw [← hw2]; simp
  have hb2 : Below w.heap.size w w2 := by rw [← hw2]; exact ((Below.refl _ w).alloc (Nat.le_refl _) _).alloc (by simp) _
  have hg1 : w2.heap[w.heap.size]? = some (.cells #[.int .u64 (x : Int), .string (str t), va, .int .i64 sure] 34 (0, 0)) := by rw [← hw2]; exact (heap_alloc_old _ _ (by simp)).trans (heap_alloc_new w _)
  have hg2 : w2.heap[w.heap.size + 1]? = some (.cells #[.int .u64 0, .string ⟨#[]⟩, .slice none 0 0, .int .i64 0] 34 (0, 0)) := by rw [← hw2]; exact alloc_at' (by simp)
  have HB2 := Lib.hid hb2
  have HG1 := Lib.hid hg1
  have HG2 := Lib.hid hg2
  have HA2 := Lib.hid (ha.below hb2)
  have HL2 := Lib.hid (hl.below hb2)
  obtain ⟨A1, c1, rfl, _⟩ := id ha.1
  obtain ⟨A2, c2, rfl, _⟩ := id hl.1
  obtain ⟨w3, hw3⟩ : ∃ w3, w2.alloc (.cells #[] 9) = w3 := ⟨_, rfl⟩
  have hz3 : w3.heap.size = w.heap.size + 3 := by rw [← hw3]; simp [hz2]
  have hb3 : Below w2.heap.size w2 w3 := by rw [← hw3]; exact (Below.refl _ w2).alloc (Nat.le_refl _) _
  have HS3 : Hid (Ss w3 (w.heap.size + 2) (.slice (some ⟨w.heap.size + 2, 0, none⟩) 0 0) []) := Lib.hid (by rw [← hw3, ← hz2]; exact ss_made w2 _ (Nat.le_refl _))
  have HA3 := Lib.hid (HA2.out.below hb3)
  have HL3 := Lib.hid (HL2.out.below hb3)
  have HB3 : Hid (Below (w.heap.size + 2) w2 w3) := Lib.hid (hb3.mono (by omega))
  have k2 : w3.cell? ⟨w.heap.size, 2, none⟩ = some (.slice A1 Al.length c1) := by rw [cell_of_row _ _ 2 _ _ _ ((hb3.block _ (by omega)).trans hg1)]; rfl
  clear ha hl hb2 hg1 hg2 hb3
  unfold qv
  go_enter Tryz.func13, Tryz.ntmps13
  go_wp2_with (at_builtin; refine wpList_append_strs' (by first | rfl | simp [Region.wanted, yielded]) _ _ rfl (w.heap.size + 2) _ _ [] Al rfl HS3.out rfl HA3.out ?c1 ?c2 ?_)
  case c1 => simp only [List.length_nil]; omega
  case c2 => omega
  rintro A5 c5 n5 w5 hn5 s5 g5 _
  have b5 := HS3.out.grown HB3.out (by omega) g5 (Nat.le_refl _)
  have HB5 := Lib.hid b5
  have HS5 : Hid (Ss w5 (w.heap.size + 2) (.slice A5 n5 c5) Al) := Lib.hid s5
  have HL5 := Lib.hid (HL2.out.below (b5.mono (by omega)))
  clear hn5 s5 g5 b5
  go_wp2_with (at_builtin; refine wpList_append_strs' (by first | rfl | simp [Region.wanted, yielded]) _ _ rfl (w.heap.size + 2) _ _ Al L rfl HS5.out rfl HL5.out ?c3 ?c4 ?_)
  case c3 => omega
  case c4 => exact Nat.le_trans (by omega) HB5.out.size
  rintro A6 c6 n6 w6 hn6 s6 g6 _
  have b6 := HS5.out.grown HB5.out (Nat.le_trans (by omega) HB5.out.size) g6 (Nat.le_refl _)
  have HB6 := Lib.hid b6
  have HS6 := Lib.hid s6
  have HN6 := Lib.hid hn6
  have hk1 := (b6.block w.heap.size (by omega)).trans HG1.out
  have hk2 := (b6.block (w.heap.size + 1) (by omega)).trans HG2.out
  have hk3 := heap_setCell hk1 (j := 2) (.slice A6 n6 c6)
  have d2 : w6.cell? ⟨w.heap.size, 2, none⟩ = some (.slice A1 Al.length c1) := by rw [cell_of_row _ _ 2 _ _ _ hk1]; rfl
  have f2 := frozen_of_row w6 w.heap.size 2 _ _ hk1
  obtain ⟨w7, hw7⟩ : ∃ w7, w6.setCell ⟨w.heap.size, 2, none⟩ (.slice A6 n6 c6) = w7 := ⟨_, rfl⟩
  have hk4 : w7.heap[w.heap.size + 1]? = some (.cells #[.int .u64 0, .string ⟨#[]⟩, .slice none 0 0, .int .i64 0] 34 (0, 0)) := by rw [← hw7]; exact (Below.heap_setCell _ _ _ _ (by show w.heap.size + 1 ≠ w.heap.size; omega)).trans hk2
  rw [hw7] at hk3
  have e0 : w7.cell? ⟨w.heap.size, 0, none⟩ = some (.int .u64 (x : Int)) := by rw [cell_of_row _ _ 0 _ _ _ hk3]; rfl
  have e1 : w7.cell? ⟨w.heap.size, 1, none⟩ = some (.string (str t)) := by rw [cell_of_row _ _ 1 _ _ _ hk3]; rfl
  have e2 : w7.cell? ⟨w.heap.size, 2, none⟩ = some (.slice A6 n6 c6) := by rw [cell_of_row _ _ 2 _ _ _ hk3]; rfl
  have e3 : w7.cell? ⟨w.heap.size, 3, none⟩ = some (.int .i64 sure) := by rw [cell_of_row _ _ 3 _ _ _ hk3]; rfl
  have h0 : w7.cell? ⟨w.heap.size + 1, 0, none⟩ = some (.int .u64 0) := by rw [cell_of_row _ _ 0 _ _ _ hk4]; rfl
  have h1 : w7.cell? ⟨w.heap.size + 1, 1, none⟩ = some (.string ⟨#[]⟩) := by rw [cell_of_row _ _ 1 _ _ _ hk4]; rfl
  have h2 : w7.cell? ⟨w.heap.size + 1, 2, none⟩ = some (.slice none 0 0) := by rw [cell_of_row _ _ 2 _ _ _ hk4]; rfl
  have h3 : w7.cell? ⟨w.heap.size + 1, 3, none⟩ = some (.int .i64 0) := by rw [cell_of_row _ _ 3 _ _ _ hk4]; rfl
  have l0 := frozen_of_row w7 _ 0 _ _ hk4
  have l1 := frozen_of_row w7 _ 1 _ _ hk4
  have l2 := frozen_of_row w7 _ 2 _ _ hk4
  have l3 := frozen_of_row w7 _ 3 _ _ hk4
  have HK4 := Lib.hid hk4
  have HB7 : Hid (Below w.heap.size w w7) := Lib.hid (by rw [← hw7]; exact (HB2.out.trans (b6.mono (by omega))).setCell (by show w.heap.size ≤ w.heap.size; exact Nat.le_refl _) _)
  have HO7 : Hid (Only (fun i => i = w.heap.size ∨ i = w.heap.size + 1) w6 w7) := Lib.hid (by rw [← hw7]; exact (Only.refl (fun i => i = w.heap.size ∨ i = w.heap.size + 1) w6).setCell (fun _ => .inl rfl) _)
  clear hk1 hk2 hk3 hk4 b6 s6 g6 hn6
  go_wp2
  have HKK4 := heap_setCell (heap_setCell (heap_setCell (heap_setCell HK4.out (j := 0) (.int .u64 (x : Int))) (j := 1) (.string (str t))) (j := 2) (.slice A6 n6 c6)) (j := 3) (.int .i64 sure)
  have hst : ∀ (W : World) (j : Nat) (v : Value), Below w.heap.size w W → Below w.heap.size w (W.setCell ⟨w.heap.size + 1, j, none⟩ v) := fun W j v h => h.setCell (by show w.heap.size ≤ w.heap.size + 1; omega) v
  have HBB := hst _ 3 (.int .i64 sure) (hst _ 2 (.slice A6 n6 c6) (hst _ 1 (.string (str t)) (hst _ 0 (.int .u64 (x : Int)) HB7.out)))
  have hso : ∀ (W : World) (j : Nat) (v : Value), Only (fun i => i = w.heap.size ∨ i = w.heap.size + 1) w6 W → Only (fun i => i = w.heap.size ∨ i = w.heap.size + 1) w6 (W.setCell ⟨w.heap.size + 1, j, none⟩ v) := fun W j v h => h.setCell (fun _ => .inr rfl) v
  have HOO := hso _ 3 (.int .i64 sure) (hso _ 2 (.slice A6 n6 c6) (hso _ 1 (.string (str t)) (hso _ 0 (.int .u64 (x : Int)) HO7.out)))
  have hn : n6 = (Al ++ L).length := by rw [HN6.out, List.length_append]
  have hss := (HS6.out.only HOO fun g hg hh => by have := (HS6.out.lt g hg).1; omega).mono (Nat.le_add_right _ 2)
  exact bodyPost_ret (v := .agg #[.int .u64 (x : Int), .string (str t), .slice A6 n6 c6, .int .i64 sure]) (results_cell_row rfl _ _ _ _ _ _ _ rfl HKK4 Tryz.underlying34 rfl (by kernel_rfl)) rfl ⟨A6, n6, c6, hn, rfl, hss, HBB⟩
end Go.Proofs.YtmaohncddjhgeaaGreat.gn
end
section
set_option linter.unusedVariables false
set_option linter.unusedSectionVars false
namespace Go.Proofs.YtmaohncddjhgeaaGreat.gn
open Go.RowKit
open Go.Proofs.YtmaohncddjhgeaaGreat.fi

def BlkQ (w : World) (Q x : Nat) (t : List UInt8) (v : Value) : Prop :=
  w.heap[Q]? = some (.cells #[.int .u64 (x : Int), .string (str t), v, .int .i64 0] 34 (0, 0))
theorem BlkQ.cells {w : World} {Q x : Nat} {t : List UInt8} {v : Value} (h : BlkQ w Q x t v) : w.cell? ⟨Q, 0, none⟩ = some (.int .u64 (x : Int)) ∧ w.cell? ⟨Q, 1, none⟩ = some (.string (str t)) ∧ w.cell? ⟨Q, 2, none⟩ = some v ∧ w.cell? ⟨Q, 3, none⟩ = some (.int .i64 0) := by
  refine ⟨?_, ?_, ?_, ?_⟩
  · rw [cell_of_row w Q 0 _ _ _ h]; rfl
  · rw [cell_of_row w Q 1 _ _ _ h]; rfl
  · rw [cell_of_row w Q 2 _ _ _ h]; rfl
  · rw [cell_of_row w Q 3 _ _ _ h]; rfl
theorem BlkQ.fr {w : World} {Q x : Nat} {t : List UInt8} {v : Value} (h : BlkQ w Q x t v) : w.frozen? ⟨Q, 0, none⟩ = false ∧ w.frozen? ⟨Q, 1, none⟩ = false ∧ w.frozen? ⟨Q, 2, none⟩ = false ∧ w.frozen? ⟨Q, 3, none⟩ = false :=
  ⟨frozen_of_row w Q 0 _ _ h, frozen_of_row w Q 1 _ _ h, frozen_of_row w Q 2 _ _ h, frozen_of_row w Q 3 _ _ h⟩
theorem BlkQ.below {w w' : World} {Q x : Nat} {t : List UInt8} {v : Value} (h : BlkQ w Q x t v) (hb : Below w.heap.size w w') : BlkQ w' Q x t v := (hb.block Q (lt_of_block h)).trans h
theorem BlkQ.only {w w' : World} {Q x : Nat} {t : List UInt8} {v : Value} (h : BlkQ w Q x t v) {S : Nat → Prop} (ho : Only S w w') (hs : ¬ S Q) : BlkQ w' Q x t v := (ho.block Q (lt_of_block h) hs).trans h
/-- The store of another value. -/
theorem BlkQ.set {w : World} {Q x : Nat} {t : List UInt8} {v : Value} (h : BlkQ w Q x t v) (x' : Nat) (t' : List UInt8) (v' : Value) :
    BlkQ ((((w.setCell ⟨Q, 0, none⟩ (.int .u64 (x' : Int))).setCell ⟨Q, 1, none⟩ (.string (str t'))).setCell ⟨Q, 2, none⟩ v').setCell ⟨Q, 3, none⟩ (.int .i64 0)) Q x' t' v' ∧
    Only (fun i => i = Q) w ((((w.setCell ⟨Q, 0, none⟩ (.int .u64 (x' : Int))).setCell ⟨Q, 1, none⟩ (.string (str t'))).setCell ⟨Q, 2, none⟩ v').setCell ⟨Q, 3, none⟩ (.int .i64 0)) := by
  refine ⟨heap_setCell (heap_setCell (heap_setCell (heap_setCell h (j := 0) (.int .u64 (x' : Int))) (j := 1) (.string (str t'))) (j := 2) v') (j := 3) (.int .i64 0), ?_⟩
  have hso : ∀ (W : World) (j : Nat) (u : Value), Only (fun i => i = Q) w W → Only (fun i => i = Q) w (W.setCell ⟨Q, j, none⟩ u) := fun W j u h => h.setCell (fun _ => rfl) u
  exact hso _ 3 _ (hso _ 2 _ (hso _ 1 _ (hso _ 0 _ (Only.refl _ _))))

/-- ShelfFiles between two rounds. -/
structure FsI (u : World) (d s Q i : Nat) (Al : List (List UInt8)) (Rs : List (List (List UInt8))) (b : Option (List UInt8)) (first : Nat) (t : List UInt8) (va : Value) (Zr : Nat → Prop) (wr : World) : Prop where
  al : Al = Rs.flatten
  rl : Rs.length ≤ i
  small : ∀ s ∈ Al, s.length ≤ 300
  count : first + Al.length ≤ 10 * i
  tl : t.length ≤ 300
  base : b = none ∨ b = some (frame (Lib.uvarint first ++ t))
  ss : Ss wr u.heap.size va Al
  own : ∀ g, va.ownBlock = some g → Zr g
  q : BlkQ wr Q first t va
  zq : Zr Q
  low : ∀ k, k < u.heap.size → Zr k
  sh : Shl Zr wr d s 400000 b first Rs first t
  bel : Below u.heap.size u wr
def FsE (u : World) (d s Q i : Nat) (v7 : Value) (wr : World) : Prop := ∃ Al Rs b first t va Zr, v7 = .bool (b.isSome) ∧ FsI u d s Q i Al Rs b first t va Zr wr
/-- Bounds. -/
theorem FsI.len {u : World} {d s Q i : Nat} {Al : List (List UInt8)} {Rs : List (List (List UInt8))} {b : Option (List UInt8)} {first : Nat} {t : List UInt8} {va : Value} {Zr : Nat → Prop} {wr : World} (h : FsI u d s Q i Al Rs b first t va Zr wr) (hi : i ≤ 40) :
    first ≤ 400 ∧ Al.length ≤ 400 ∧ l1 b ≤ 330 ∧ (jhd first ++ frames Rs.flatten).length ≤ 128030 ∧ cost Al ≤ 128000 := by
  have h1 := h.count
  have h2 := row_frames h.small
  have h3 := frames_len Al
  have hf : first < 18446744073709551616 := by omega
  have h4 := jhd_len hf
  have h5 := Lib.uvarint_length64 hf
  have h6 := h.tl
  have h7 : (jhd first ++ frames Rs.flatten).length = (jhd first).length + (frames Al).length := by rw [List.length_append, h.al]
  have h8 : l1 b ≤ 330 := by
    rcases h.base with e | e
    · rw [e]; exact Nat.zero_le _
    · rw [e]
      show (frame (Lib.uvarint first ++ t)).length ≤ 330
      rw [frame_len, List.length_append]
      omega
  exact ⟨by omega, by omega, h8, by omega, by omega⟩

set_option maxRecDepth 100000
set_option maxHeartbeats 4000000
theorem hg256 {w : World} {v : Value} {X : List A9} (h : Acts w v X) : ∀ x ∈ X, x.1 < 256 := by
  obtain ⟨_, _, _, _, _, _, h⟩ := h
  exact h
theorem files_short (w : World) (v : Value) (X : List A9) (hg : Acts w v X) (hno : ¬ ActsOk X) :
    Calls Tryz.prog 3 #[v] w fun e w' => e = .returned (.bool true) ∧ Below w.heap.size w w' := by
  have HG := Lib.hid (great9_any v X w hg)
  have HN := Lib.hid hno
  obtain ⟨A, c, rfl, _⟩ := hg
  clear hno
  go_enter Tryz.func3, Tryz.ntmps3
  go_wp2_with fail
  refine HG.out.mono ?_
  rintro e w1 ⟨⟨rfl, hk⟩ | ⟨rfl, _⟩, rfl⟩
  · exact absurd hk HN.out
  · go_wp2_with fail
    refine (head_any _).mono ?_
    rintro e w2 ⟨rfl, hb2⟩
    have HB2 := Lib.hid hb2
    clear hb2
    go_wp2
    go_ret
    exact ⟨rfl, HB2.out⟩

theorem files_long (w : World) (v : Value) (X : List A9) (hg : Acts w v X) (hok : ActsOk X) :
    Calls Tryz.prog 3 #[v] w fun e w' => e = .returned (.bool true) ∧ Below w.heap.size w w' := by
  have HG := Lib.hid (great9_any v X w hg)
  obtain ⟨A, c, rfl, hlc, hcm, _⟩ := id hg
  have HGU := Lib.hid hg
  have HOK := Lib.hid hok
  have h40 := hok.1
  obtain ⟨Z, hZ⟩ : ∃ Z : Nat → Prop, Z = fun i => i < w.heap.size := ⟨_, rfl⟩
  have H0 := Lib.hid (Hold.none_ w Z fun i hi => by subst hZ; exact hi)
  have hZ' : ∀ i, i < w.heap.size → Z i := fun i hi => by subst hZ; exact hi
  have HZ := Lib.hid hZ'
  clear hg hok hZ' hZ
  unfold maxLen at hcm
  go_enter Tryz.func3, Tryz.ntmps3
  go_wp2_with fail
  refine HG.out.mono ?_
  rintro e wx ⟨⟨rfl, _⟩ | ⟨rfl, hk⟩, rfl⟩
  case inr => exact absurd HOK.out hk
  go_wp2_with fail
  refine (lnew H0.out 400000 (by omega) rfl).mono ?_
  rintro e w1 ⟨d, D1, rfl, g, h, a, x, b⟩
  have H1 := Lib.hid h
  have A1 := Lib.hid a
  have B1 := Lib.hid b
  clear g h a x b
  go_wp2_with fail
  refine (lsh_new H1.out A1.out (by omega)).mono ?_
  rintro e w2 ⟨s, rfl, hs, hh, ho⟩
  have H2 := Lib.hid hh
  have B2 := Lib.hid (B1.out.trans (ho.belowZ HZ.out B1.out.size))
  have HSS : Hid (w.heap.size ≤ s) := Lib.hid (Nat.le_trans B1.out.size hs)
  obtain ⟨Q, hQ⟩ : ∃ Q, w2.heap.size = Q := ⟨_, rfl⟩
  have HSL : Hid (s < Q) := Lib.hid (by
    obtain ⟨D, J, j, _, hk, _⟩ := hh.is
    rw [← hQ]; exact hk.lt)
  have HQ := Lib.hid hQ
  have HQW : Hid (w.heap.size ≤ Q) := Lib.hid (by rw [← hQ]; exact B2.out.size)
  clear hs hh ho
  go_wp2
  go_loopw [8, 7] (fun v8 v7 wr => ∃ i : Nat, i ≤ X.length ∧ v8 = .int .i64 (i : Int) ∧ FsE w d s Q i v7 wr) (fun v8 _ _ => X.length - (intOf v8).toNat)
  case atStart =>
    have hb : Below w2.heap.size w2 (w2.alloc (.cells #[.int .u64 0, .string ⟨#[]⟩, .slice none 0 0, .int .i64 0] 34)) := (Below.refl _ _).alloc (Nat.le_refl _) _
    refine ⟨0, Nat.zero_le _, rfl, [], [], none, 0, [], .slice none 0 0, news (fun i => Z i ∨ i = s) w2 (w2.alloc (.cells #[.int .u64 0, .string ⟨#[]⟩, .slice none 0 0, .int .i64 0] 34)), rfl, ?_⟩
    exact ⟨rfl, Nat.le_refl _, fun _ hs => (by cases hs), Nat.le_refl _, Nat.zero_le _, .inl rfl, Ss_nil _ _, fun _ hg => (by cases hg), alloc_at' hQ.symm, .inr ⟨by omega, by simp; omega⟩, fun k hk => .inl (.inl (HZ.out k hk)), H2.out.grow hb, B2.out.trans (hb.mono B2.out.size)⟩
  case round =>
    obtain ⟨i, hi, rfl, Al, Rs, b, first, t, va, Zr, rfl, hI⟩ := hrel
    have HI := Lib.hid hI
    have hil : i ≤ 40 := by omega
    obtain ⟨hf4, hal4, hlb, hjl, hcl⟩ := hI.len hil
    obtain ⟨vA, vc, rfl, _, hvc, hvm⟩ := hI.ss.form
    have hff : first < 18446744073709551616 := by omega
    have hrl : Rs.length ≤ 1000 := by have := hI.rl; omega
    have hbig : l1 b + (jhd first ++ frames Rs.flatten).length ≤ 1000000 := by omega
    clear hI
    by_cases hlt : i < X.length
    · have hrow := HOK.out.2 _ (List.getElem_mem hlt)
      have hwhat := hg256 HGU.out _ (List.getElem_mem hlt)
      obtain ⟨b0, o0, uv, hA, hb0, hall⟩ : ∃ b0 o0 uv, A = some ⟨b0, o0, none⟩ ∧ b0 < w.heap.size ∧ ∀ w', Below w.heap.size w w' → w'.cell? ⟨b0, o0 + i * 6, none⟩ = some (.int .u8 (X[i].1 : Int)) ∧ w'.cell? ⟨b0, o0 + i * 6 + 1, none⟩ = some uv ∧ Strw w' uv X[i].2 := by
        obtain ⟨A', c', e, _, _, hc, _⟩ := HGU.out
        injection e with e1 e2 e3
        subst e1
        rcases hc with hc | ⟨b0, o0, hA, hc⟩
        · omega
        · obtain ⟨h1, uv, h2, h3⟩ := hc i hlt
          exact ⟨b0, o0, uv, hA, cell_lt (a := ⟨b0, o0 + i * 6, none⟩) h1, fun w' hb => ⟨(hb.cell (p := ⟨b0, o0 + i * 6, none⟩) (cell_lt (a := ⟨b0, o0 + i * 6, none⟩) h1)).trans h1, (hb.cell (p := ⟨b0, o0 + i * 6 + 1, none⟩) (cell_lt (a := ⟨b0, o0 + i * 6 + 1, none⟩) h2)).trans h2, h3.1.below hb, h3.2⟩⟩
      subst hA
      have h10 := hrow.1
      have HRS := Lib.hid hrow.2
      clear hrow
      generalize X[i].1 = what at *
      generalize X[i].2 = L at *
      have HALL := Lib.hid hall
      obtain ⟨hcw, hcl0, hst0⟩ := HALL.out wr HI.out.bel
      obtain ⟨rA, rc, rfl, _, hrcm, _⟩ := id hst0.1
      unfold maxLen at hrcm hvm
      have HST := Lib.hid hst0
      clear hst0 hall
      by_cases hw3 : what % 7 = 3
      · have hw3b : ((what : Int) % 7 == 3) = true := by rw [beq_iff_eq]; omega
        have hm : (first + Rs.flatten.length) % 18446744073709551616 = first + Al.length := by rw [← HI.out.al]; exact Nat.mod_eq_of_lt (by omega)
        have HF3 : Hid ((fst1 L).length ≤ 300) := Lib.hid (by
          unfold fst1
          cases L with
          | nil => exact Nat.zero_le _
          | cons a L => exact HRS.out a (by simp))
        have hmc : first + Al.length ≤ 10 * i := HI.out.count
        obtain ⟨m, hmm⟩ : ∃ m, first + Al.length = m := ⟨_, rfl⟩
        rw [hmm] at hm hmc
        have HM := Lib.hid hmm
        have hml : m < 18446744073709551616 := by omega
        have hfl : (frame (Lib.uvarint m ++ fst1 L)).length ≤ 330 := by
          have h1 := Lib.uvarint_length64 hml
          have h2 := HF3.out
          rw [frame_len, List.length_append]
          omega
        have hjm := jhd_len hml
        have HSV := Lib.hid (lsh_save HI.out.sh hbig hrl m hm (fst1 L) (by have := HF3.out; omega) rfl (by omega) (by omega))
        have HDS : Hid (∀ W : World, Calls Tryz.prog 11 #[.agg #[.int .u64 (first : Int), .string (str t), .slice vA Al.length vc, .int .i64 0], .string (str (fst1 L))] W fun e w' => e = .returned (.agg #[.int .u64 (m : Int), .string (str (fst1 L)), .slice none 0 0, .int .i64 0]) ∧ Below W.heap.size W w') := Lib.hid fun W => by
          have := dsave_any W first t vA Al.length vc (by omega) 0 (fst1 L)
          rw [hmm, Nat.mod_eq_of_lt hml] at this
          exact this
        clear hmm hm hfl hjm
        have HFL : Hid (∀ W : World, Strw W (.slice rA L.length rc) L → Calls Tryz.prog 10 #[.slice rA L.length rc] W fun e w' => e = .returned (.string (str (fst1 L))) ∧ W = w') := Lib.hid fun W h => first1_any W _ L h.1
        generalize hyy : str (fst1 L) = y at *
        have HYY := Lib.hid hyy
        clear hyy
        go_wp2_with fail
        refine (HFL.out _ HST.out).mono ?_
        rintro e w9 ⟨rfl, rfl⟩
        go_wp2_with fail
        refine HSV.out.mono ?_
        rintro e w3 ⟨rfl, hh, ho⟩
        have B3 := Lib.hid (HI.out.bel.trans (ho.below (fun i hi => by
          rcases hi with hi | hi
          · exact Nat.le_of_not_lt fun hl => hi (HI.out.low i hl)
          · subst hi; exact HSS.out) HI.out.bel.size))
        have Q3 := Lib.hid (HI.out.q.only ho fun hn => by
          rcases hn with hn | hn
          · exact hn HI.out.zq
          · exact absurd hn (Nat.ne_of_gt HSL.out))
        have S3 := Lib.hid hh
        clear hh ho hcw hcl0
        obtain ⟨_, hcl3, hst3⟩ := HALL.out w3 B3.out
        have HS3 := Lib.hid (hst3.below (Below.refl w3.heap.size w3).drew)
        have HQK : Hid (∀ w4, Below w3.drew.heap.size w3.drew w4 → Below w3.heap.size w3 w4 ∧ (w4.cell? ⟨Q, 0, none⟩ = some (.int .u64 (first : Int)) ∧ w4.cell? ⟨Q, 1, none⟩ = some (.string (str t)) ∧ w4.cell? ⟨Q, 2, none⟩ = some (.slice vA Al.length vc) ∧ w4.cell? ⟨Q, 3, none⟩ = some (.int .i64 0)) ∧
          w4.frozen? ⟨Q, 0, none⟩ = false ∧ w4.frozen? ⟨Q, 1, none⟩ = false ∧ w4.frozen? ⟨Q, 2, none⟩ = false ∧ w4.frozen? ⟨Q, 3, none⟩ = false) := Lib.hid fun w4 hb => by
          have hb2 : Below w3.heap.size w3 w4 := Below.trans (Below.refl _ _).drew hb
          exact ⟨hb2, (Q3.out.below hb2).cells, (Q3.out.below hb2).fr⟩
        obtain ⟨q0, q1, q2, q3⟩ := Q3.out.cells
        obtain ⟨g0, g1, g2, g3⟩ := Q3.out.fr
        clear hst3
        go_wp2
        go_region_with (first
          | (go_at_call 10; (refine (HFL.out _ HS3.out).mono ?_); rintro e w9 ⟨rfl, rfl⟩)
          | (go_at_call 11; (refine (HDS.out _).mono ?_); rintro e w4 ⟨rfl, hb4⟩; obtain ⟨b4, ⟨p0, p1, p2, p3⟩, ⟨r0, r1, r2, r3⟩⟩ := HQK.out w4 hb4))
        all_goals
          have hq4 := Q3.out.below b4
          obtain ⟨w5, hw5⟩ : ∃ w5, ((((w4.setCell ⟨Q, 0, none⟩ (.int .u64 (m : Int))).setCell ⟨Q, 1, none⟩ (.string y)).setCell ⟨Q, 2, none⟩ (.slice none 0 0)).setCell ⟨Q, 3, none⟩ (.int .i64 0)) = w5 := ⟨_, rfl⟩
          have hq5 : BlkQ w5 Q m (fst1 L) (.slice none 0 0) ∧ Only (fun i => i = Q) w4 w5 := by rw [← hw5, ← HYY.out]; exact hq4.set m (fst1 L) (.slice none 0 0)
          rw [hw5]
          have Q5 := Lib.hid hq5.1
          have S5 := Lib.hid ((S3.out.below b4).box hq5.2 (fun i hi => by subst hi; exact HI.out.zq) (Nat.ne_of_lt HSL.out))
          have B5 := Lib.hid ((B3.out.trans (b4.mono B3.out.size)).trans (hq5.2.below (fun i hi => by subst hi; exact HQW.out) (Nat.le_trans B3.out.size b4.size)))
          have SS5 : Hid (Strs w5 (.slice none 0 0) []) := Lib.hid (strs_nil _)
          have hf2 : m < 18446744073709551616 := hml
          have HTL : Hid ((fst1 L).length ≤ 1000000) := Lib.hid (by have := HF3.out; omega)
          have HUL : Hid ((Lib.uvarint m ++ fst1 L).length ≤ 1000000) := Lib.hid (by have h1 := Lib.uvarint_length64 hml; have := HF3.out; rw [List.length_append]; omega)
          have hbig2 : l1 (some (frame (Lib.uvarint m ++ fst1 L))) + (jhd m ++ frames ([] : List (List (List UInt8))).flatten).length ≤ 1000000 := by
            have h1 := Lib.uvarint_length64 hml
            have h2 := HF3.out
            have h3 := jhd_len hml
            have h4 : l1 (some (frame (Lib.uvarint m ++ fst1 L))) = (frame (Lib.uvarint m ++ fst1 L)).length := rfl
            rw [h4, frame_len, List.length_append, List.length_append]
            show 20 + _ + (_ + 0) ≤ _
            omega
          have hrl2 : ([] : List (List (List UInt8))).length ≤ 1000 := Nat.zero_le _
          have HJF : Hid (str (frames (Lib.uvarint m :: [])) = str (jhd m ++ frames ([] : List (List (List UInt8))).flatten)) := Lib.hid (by rw [← jhd_frames]; rfl)
          clear hq4 hw5 hq5 b4 hb4 p0 p1 p2 p3 r0 r1 r2 r3 q0 q1 q2 q3 g0 g1 g2 g3 hcl3
          go_wp2_with fail
          refine (lsh_readl S5.out hbig2 hrl2 (y := str (frames (Lib.uvarint m :: []))) HJF.out).mono ?_
          rintro e w6 ⟨rfl, b6⟩
          have S6 := Lib.hid (S5.out.below b6)
          have Q6 := Lib.hid (Q5.out.below b6)
          have T6 := Lib.hid (SS5.out.below b6)
          have B6 := Lib.hid (B5.out.trans (b6.mono B5.out.size))
          clear b6
          have hq : ((str (frames (Lib.uvarint m :: []))).toList != (str (frames (Lib.uvarint m :: []))).toList) = false := by simp
          have HBY := Lib.hid (fun (W : World) (h : Strs W (.slice none 0 0) []) => bytes_any' m hf2 (.slice none 0 0) [] W h (fun _ hs => (by cases hs)) (Nat.zero_le _))
          generalize str (frames (Lib.uvarint m :: [])) = sb at *
          go_wp2_with fail
          refine (lsh_readb S6.out hbig2 hrl2 (y := str (frame (Lib.uvarint m ++ (fst1 L)))) rfl (q := 0) rfl).mono ?_
          rintro e w7 ⟨rfl, b7⟩
          have S7 := Lib.hid (S6.out.below b7)
          have Q7 := Lib.hid (Q6.out.below b7)
          have T7 := Lib.hid (T6.out.below b7)
          have B7 := Lib.hid (B6.out.trans (b7.mono B6.out.size))
          clear b7
          obtain ⟨c0, c1, c2, c3⟩ := Q7.out.cells
          have hq2 : ((str (frame (Lib.uvarint m ++ (fst1 L)))).toList != (str (frame (Lib.uvarint m ++ (fst1 L)))).toList) = false := by simp
          have HON := Lib.hid (fun W => one_any (Lib.uvarint m ++ (fst1 L)) HUL.out W)
          have HDB : Hid (∀ W : World, Calls Tryz.prog 17 #[.agg #[.int .u64 (m : Int), .string (str (fst1 L)), (.slice none 0 0), .int .i64 0]] W fun e w' => e = .returned (.string (str (Lib.uvarint m ++ (fst1 L)))) ∧ Below W.heap.size W w') := Lib.hid fun W => dbase_any W m hf2 (fst1 L) HTL.out _ _ _ 0
          generalize str (frame (Lib.uvarint m ++ (fst1 L))) = sc at *
          go_wp2_with fail
          refine (HBY.out _ T7.out).mono ?_
          rintro e w8 ⟨rfl, b8⟩
          have S8 := Lib.hid (S7.out.below b8)
          have Q8 := Lib.hid (Q7.out.below b8)
          have T8 := Lib.hid (T7.out.below b8)
          have B8 := Lib.hid (B7.out.trans (b8.mono B7.out.size))
          clear b8 c0 c1 c2 c3
          obtain ⟨c0, c1, c2, c3⟩ := Q8.out.cells
          go_wp2_with fail
          refine (HDB.out _).mono ?_
          rintro e w9 ⟨rfl, b9⟩
          have S9 := Lib.hid (S8.out.below b9)
          have Q9 := Lib.hid (Q8.out.below b9)
          have T9 := Lib.hid (T8.out.below b9)
          have B9 := Lib.hid (B8.out.trans (b9.mono B8.out.size))
          clear b9 c0 c1 c2 c3
          go_wp2_with fail
          refine (HON.out _).mono ?_
          rintro e wa ⟨rfl, ba⟩
          have SX := Lib.hid (S9.out.below ba)
          have QX := Lib.hid (Q9.out.below ba)
          have TX := Lib.hid (T9.out.below ba)
          have BX := Lib.hid (B9.out.trans (ba.mono B9.out.size))
          clear ba
          go_wp2
          go_roundw
          case rel => exact ⟨i + 1, by omega, by go_num, [], [], some (frame (Lib.uvarint m ++ fst1 L)), m, fst1 L, .slice none 0 0, Zr, rfl, ⟨rfl, Nat.zero_le _, fun _ hs => (by cases hs), by show m + 0 ≤ _; omega, HF3.out, .inr rfl, Ss_nil _ _, fun _ hg => (by cases hg), QX.out, HI.out.zq, HI.out.low, SX.out, BX.out⟩⟩
          case measure => simp [intOf]; omega
      · have hw3b : ((what : Int) % 7 == 3) = false := by rw [beq_eq_false_iff_ne]; omega
        have hcL : cost L ≤ 3200 := by have h1 := row_frames HRS.out; rw [frames_len] at h1; omega
        have hrb : l1 b + (jhd first ++ frames (Rs ++ [L]).flatten).length ≤ 140000 := by
          have h1 : (jhd first ++ frames (Rs ++ [L]).flatten).length = (jhd first ++ frames Rs.flatten).length + (frames L).length := by
            rw [List.flatten_append, frames_app]
            simp
            omega
          rw [h1, frames_len L]
          omega
        have HSV := Lib.hid (lsh_app HI.out.sh hbig hrl (.slice rA L.length rc) L HST.out.1 (fun s hs => by have := HRS.out s hs; omega) (by omega) (by omega))
        obtain ⟨AR, hAR⟩ : ∃ AR, Al ++ L = AR := ⟨_, rfl⟩
        have HARL : Hid (AR.length = Al.length + L.length) := Lib.hid (by rw [← hAR, List.length_append])
        have HARF : Hid (AR = (Rs ++ [L]).flatten) := Lib.hid (by rw [← hAR, HI.out.al, List.flatten_append]; simp)
        have HSAR : Hid (∀ s ∈ AR, s.length ≤ 300) := Lib.hid fun s hs => by
          rw [← hAR] at hs
          rcases List.mem_append.1 hs with hs | hs
          · exact HI.out.small s hs
          · exact HRS.out s hs
        have HLX : Hid (∀ s ∈ AR, s.length ≤ maxLen) := Lib.hid fun s hs => by have := HSAR.out s hs; unfold maxLen; omega
        have HLS : Hid (∀ s ∈ AR, s.length ≤ 1000) := Lib.hid fun s hs => by have := HSAR.out s hs; omega
        have hcAR : cost AR ≤ 1000000 := by rw [← hAR, cost_app]; omega
        have HDA : Hid (∀ W : World, Strw W (.slice vA Al.length vc) Al → Strw W (.slice rA L.length rc) L → Calls Tryz.prog 13 #[.agg #[.int .u64 (first : Int), .string (str t), .slice vA Al.length vc, .int .i64 0], .slice rA L.length rc] W
            fun e w' => ∃ A c, e = .returned (.agg #[.int .u64 (first : Int), .string (str t), .slice A AR.length c, .int .i64 0]) ∧ Ss w' W.heap.size (.slice A AR.length c) AR ∧ Below W.heap.size W w') := Lib.hid fun W h1 h2 => (dappend_any W first t _ Al h1 0 _ L h2 (by omega) (by omega)).mono fun e w' hh => by
          obtain ⟨A, n, c, hn, he, hs, hb⟩ := hh
          rw [hAR] at hn hs
          subst hn
          exact ⟨A, c, he, hs, hb⟩
        have HAL := Lib.hid hAR
        clear hAR
        go_wp2_with fail
        refine HSV.out.mono ?_
        rintro e w3 ⟨rfl, hh, ho⟩
        have B3 := Lib.hid (HI.out.bel.trans (ho.belowZ HI.out.low HI.out.bel.size))
        have Q3 := Lib.hid (HI.out.q.only ho fun hn => hn HI.out.zq)
        have T3 := Lib.hid (HI.out.ss.only ho fun g hg hn => hn (HI.out.own g hg))
        have HQL : Hid (Q < w3.heap.size) := Lib.hid (lt_of_block Q3.out)
        have S3 := Lib.hid hh
        clear hh ho hcw hcl0
        obtain ⟨_, hcl3, hst3⟩ := HALL.out w3 B3.out
        have HDD := Lib.hid (HDA.out w3.drew ((T3.out.strw fun s hs => by have := HI.out.small s hs; unfold maxLen; omega).below (Below.refl w3.heap.size w3).drew) (hst3.below (Below.refl w3.heap.size w3).drew))
        have HQK : Hid (∀ w4, Below w3.drew.heap.size w3.drew w4 → Below w3.heap.size w3 w4 ∧ (w4.cell? ⟨Q, 0, none⟩ = some (.int .u64 (first : Int)) ∧ w4.cell? ⟨Q, 1, none⟩ = some (.string (str t)) ∧ w4.cell? ⟨Q, 2, none⟩ = some (.slice vA Al.length vc) ∧ w4.cell? ⟨Q, 3, none⟩ = some (.int .i64 0)) ∧
          w4.frozen? ⟨Q, 0, none⟩ = false ∧ w4.frozen? ⟨Q, 1, none⟩ = false ∧ w4.frozen? ⟨Q, 2, none⟩ = false ∧ w4.frozen? ⟨Q, 3, none⟩ = false) := Lib.hid fun w4 hb => by
          have hb2 : Below w3.heap.size w3 w4 := Below.trans (Below.refl _ _).drew hb
          exact ⟨hb2, (Q3.out.below hb2).cells, (Q3.out.below hb2).fr⟩
        obtain ⟨q0, q1, q2, q3⟩ := Q3.out.cells
        obtain ⟨g0, g1, g2, g3⟩ := Q3.out.fr
        clear hst3
        go_wp2
        go_region_with (first
          | (go_at_call 13; (refine HDD.out.mono ?_); rintro e w4 ⟨A4, c4, rfl, hs4, hb4⟩; obtain ⟨b4, ⟨p0, p1, p2, p3⟩, ⟨r0, r1, r2, r3⟩⟩ := HQK.out w4 hb4))
        all_goals
          have hq4 := Q3.out.below b4
          obtain ⟨w5, hw5⟩ : ∃ w5, ((((w4.setCell ⟨Q, 0, none⟩ (.int .u64 (first : Int))).setCell ⟨Q, 1, none⟩ (.string (str t))).setCell ⟨Q, 2, none⟩ (.slice A4 AR.length c4)).setCell ⟨Q, 3, none⟩ (.int .i64 0)) = w5 := ⟨_, rfl⟩
          have hq5 : BlkQ w5 Q first t (.slice A4 AR.length c4) ∧ Only (fun i => i = Q) w4 w5 := by rw [← hw5]; exact hq4.set first t (.slice A4 AR.length c4)
          rw [hw5]
          have Q5 := Lib.hid hq5.1
          have S5 := Lib.hid ((S3.out.grow b4).box hq5.2 (fun i hi => by subst hi; exact .inl HI.out.zq) (Nat.ne_of_lt HSL.out))
          have B5 := Lib.hid ((B3.out.trans (b4.mono B3.out.size)).trans (hq5.2.below (fun i hi => by subst hi; exact HQW.out) (Nat.le_trans B3.out.size b4.size)))
          have hs4' : Ss w4 w3.heap.size (.slice A4 AR.length c4) AR := hs4
          have hlt4 := hs4'.lt
          have ZN : Hid (∀ g, (Value.slice A4 AR.length c4).ownBlock = some g → news Zr w3 w4 g) := Lib.hid fun g hg => .inr (hlt4 g hg)
          have SS5 : Hid (Ss w5 w.heap.size (.slice A4 AR.length c4) AR) := Lib.hid ((hs4'.only hq5.2 fun g hg hn => by have h1 := (hlt4 g hg).1; have h2 := HQL.out; omega).mono B3.out.size)
          have hf2 : first < 18446744073709551616 := hff
          have HTL : Hid (t.length ≤ 1000000) := Lib.hid (by have := HI.out.tl; omega)
          have HUL : Hid ((Lib.uvarint first ++ t).length ≤ 1000000) := Lib.hid (by have h1 := Lib.uvarint_length64 hff; have := HI.out.tl; rw [List.length_append]; omega)
          have hrl2 : (Rs ++ [L]).length ≤ 1000 := by have := HI.out.rl; simp; omega
          have hbig2 : l1 b + (jhd first ++ frames (Rs ++ [L]).flatten).length ≤ 1000000 := by omega
          have HJF : Hid (str (frames (Lib.uvarint first :: AR)) = str (jhd first ++ frames (Rs ++ [L]).flatten)) := Lib.hid (by rw [← jhd_frames, HARF.out])
          have HRL3 : Hid ((Rs ++ [L]).length ≤ i + 1) := Lib.hid (by have := HI.out.rl; simp; omega)
          have HCN : Hid (first + AR.length ≤ 10 * (i + 1)) := Lib.hid (by have := HI.out.count; have := HARL.out; omega)
          clear hq4 hw5 hq5 b4 hb4 hs4 hs4' hlt4 p0 p1 p2 p3 r0 r1 r2 r3 q0 q1 q2 q3 g0 g1 g2 g3 hcl3
          rcases HI.out.base with hbe | hbe
          · subst hbe
            go_wp2_with fail
            refine (lsh_readl S5.out hbig2 hrl2 (y := str (frames (Lib.uvarint first :: AR))) HJF.out).mono ?_
            rintro e w6 ⟨rfl, b6⟩
            have S6 := Lib.hid (S5.out.below b6)
            have Q6 := Lib.hid (Q5.out.below b6)
            have T6 := Lib.hid (SS5.out.kept b6)
            have B6 := Lib.hid (B5.out.trans (b6.mono B5.out.size))
            clear b6
            have hq : ((str (frames (Lib.uvarint first :: AR))).toList != (str (frames (Lib.uvarint first :: AR))).toList) = false := by simp
            have HBY := Lib.hid (fun (W : World) (h : Strs W (.slice A4 AR.length c4) AR) => bytes_any' first hf2 (.slice A4 AR.length c4) AR W h HLS.out hcAR)
            generalize str (frames (Lib.uvarint first :: AR)) = sb at *
            go_wp2_with fail
            refine (lsh_readb S6.out hbig2 hrl2 (y := ⟨#[]⟩) rfl (q := 7) rfl).mono ?_
            rintro e w7 ⟨rfl, b7⟩
            have S7 := Lib.hid (S6.out.below b7)
            have Q7 := Lib.hid (Q6.out.below b7)
            have T7 := Lib.hid (T6.out.kept b7)
            have B7 := Lib.hid (B6.out.trans (b7.mono B6.out.size))
            clear b7
            obtain ⟨c0, c1, c2, c3⟩ := Q7.out.cells
            go_wp2_with fail
            refine (HBY.out _ (T7.out.strs HLX.out)).mono ?_
            rintro e w8 ⟨rfl, b8⟩
            have S8 := Lib.hid (S7.out.below b8)
            have Q8 := Lib.hid (Q7.out.below b8)
            have T8 := Lib.hid (T7.out.kept b8)
            have B8 := Lib.hid (B7.out.trans (b8.mono B7.out.size))
            clear b8 c0 c1 c2 c3
            have SX := S8
            have QX := Q8
            have TX := T8
            have BX := B8
            go_wp2
            go_roundw
            case rel => exact ⟨i + 1, by omega, by go_num, AR, Rs ++ [L], none, first, t, .slice A4 AR.length c4, news Zr w3 w4, rfl, ⟨HARF.out, HRL3.out, HSAR.out, HCN.out, HI.out.tl, .inl rfl, TX.out, ZN.out, QX.out, .inl HI.out.zq, fun k hk => .inl (HI.out.low k hk), SX.out, BX.out⟩⟩
            case measure => simp [intOf]; omega
          · subst hbe
            go_wp2_with fail
            refine (lsh_readl S5.out hbig2 hrl2 (y := str (frames (Lib.uvarint first :: AR))) HJF.out).mono ?_
            rintro e w6 ⟨rfl, b6⟩
            have S6 := Lib.hid (S5.out.below b6)
            have Q6 := Lib.hid (Q5.out.below b6)
            have T6 := Lib.hid (SS5.out.kept b6)
            have B6 := Lib.hid (B5.out.trans (b6.mono B5.out.size))
            clear b6
            have hq : ((str (frames (Lib.uvarint first :: AR))).toList != (str (frames (Lib.uvarint first :: AR))).toList) = false := by simp
            have HBY := Lib.hid (fun (W : World) (h : Strs W (.slice A4 AR.length c4) AR) => bytes_any' first hf2 (.slice A4 AR.length c4) AR W h HLS.out hcAR)
            generalize str (frames (Lib.uvarint first :: AR)) = sb at *
            go_wp2_with fail
            refine (lsh_readb S6.out hbig2 hrl2 (y := str (frame (Lib.uvarint first ++ t))) rfl (q := 0) rfl).mono ?_
            rintro e w7 ⟨rfl, b7⟩
            have S7 := Lib.hid (S6.out.below b7)
            have Q7 := Lib.hid (Q6.out.below b7)
            have T7 := Lib.hid (T6.out.kept b7)
            have B7 := Lib.hid (B6.out.trans (b7.mono B6.out.size))
            clear b7
            obtain ⟨c0, c1, c2, c3⟩ := Q7.out.cells
            have hq2 : ((str (frame (Lib.uvarint first ++ t))).toList != (str (frame (Lib.uvarint first ++ t))).toList) = false := by simp
            have HON := Lib.hid (fun W => one_any (Lib.uvarint first ++ t) HUL.out W)
            have HDB : Hid (∀ W : World, Calls Tryz.prog 17 #[.agg #[.int .u64 (first : Int), .string (str t), (.slice A4 AR.length c4), .int .i64 0]] W fun e w' => e = .returned (.string (str (Lib.uvarint first ++ t))) ∧ Below W.heap.size W w') := Lib.hid fun W => dbase_any W first hf2 t HTL.out _ _ _ 0
            generalize str (frame (Lib.uvarint first ++ t)) = sc at *
            go_wp2_with fail
            refine (HBY.out _ (T7.out.strs HLX.out)).mono ?_
            rintro e w8 ⟨rfl, b8⟩
            have S8 := Lib.hid (S7.out.below b8)
            have Q8 := Lib.hid (Q7.out.below b8)
            have T8 := Lib.hid (T7.out.kept b8)
            have B8 := Lib.hid (B7.out.trans (b8.mono B7.out.size))
            clear b8 c0 c1 c2 c3
            obtain ⟨c0, c1, c2, c3⟩ := Q8.out.cells
            go_wp2_with fail
            refine (HDB.out _).mono ?_
            rintro e w9 ⟨rfl, b9⟩
            have S9 := Lib.hid (S8.out.below b9)
            have Q9 := Lib.hid (Q8.out.below b9)
            have T9 := Lib.hid (T8.out.kept b9)
            have B9 := Lib.hid (B8.out.trans (b9.mono B8.out.size))
            clear b9 c0 c1 c2 c3
            go_wp2_with fail
            refine (HON.out _).mono ?_
            rintro e wa ⟨rfl, ba⟩
            have SX := Lib.hid (S9.out.below ba)
            have QX := Lib.hid (Q9.out.below ba)
            have TX := Lib.hid (T9.out.kept ba)
            have BX := Lib.hid (B9.out.trans (ba.mono B9.out.size))
            clear ba
            go_wp2
            go_roundw
            case rel => exact ⟨i + 1, by omega, by go_num, AR, Rs ++ [L], some (frame (Lib.uvarint first ++ t)), first, t, .slice A4 AR.length c4, news Zr w3 w4, rfl, ⟨HARF.out, HRL3.out, HSAR.out, HCN.out, HI.out.tl, .inr rfl, TX.out, ZN.out, QX.out, .inl HI.out.zq, fun k hk => .inl (HI.out.low k hk), SX.out, BX.out⟩⟩
            case measure => simp [intOf]; omega
    · have hil : i = X.length := by omega
      subst hil
      go_wp2_with fail
      refine (head_any _).mono ?_
      rintro e w4 ⟨rfl, b4⟩
      have B4 := Lib.hid (HI.out.bel.trans (b4.mono HI.out.bel.size))
      clear b4
      go_wp2
      go_ret
      exact ⟨rfl, B4.out⟩
end Go.Proofs.YtmaohncddjhgeaaGreat.gn
end
