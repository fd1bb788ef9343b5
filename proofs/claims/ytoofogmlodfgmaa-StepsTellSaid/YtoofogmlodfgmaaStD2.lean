/- The document's At and New: their contracts. -/
import Derived.Test.YtoofogmlodfgmaaStD1
namespace Go.Proofs.Ytoofogmlodfgmaa.gn
open Go.RowKit Go.Shelf
open Go.Proofs.Ytoofogmlodfgmaa.sp

/-- The last number that has begun, or 0. -/
theorem val_zero {L : List (Int × Int)} (hL : Ok L) {t : Int} (ht : 0 ≤ t) : vf 0 L t = sp.val L t := by
  obtain ⟨p, hp, hpt, e, hmax⟩ := hL.begun ht
  rw [e]
  exact (vf_at t 0 hL.rise).1 p hp hpt hmax

set_option maxHeartbeats 1000000 in
theorem dat_main (p1 o1 p2 o2 n c1 c2 : Nat) (L : List (Int × Int)) (t : Int) (w : World) (e1 : L.length = n) (hm : n ≤ 2000) (k1 : ∀ j (h : j < L.length), w.cell? ⟨p1, o1 + j, none⟩ = some (.int .i64 (L[j]).1)) (k2 : ∀ j (h : j < L.length), w.cell? ⟨p2, o2 + j, none⟩ = some (.int .i64 (L[j]).2)) :
    Calls Try.prog 23 #[.agg #[.slice (some ⟨p1, o1, none⟩) n c1, .slice (some ⟨p2, o2, none⟩) n c2], .int .i64 t] w (Tells (vf 0 L t) w) := by
  have HK1 := Lib.hid k1
  have HK2 := Lib.hid k2
  have E1 := Lib.hid e1
  have HB0 : Hid (∀ x, Below w.heap.size w (w.alloc x)) := fun x => (Below.refl _ _).alloc (Nat.le_refl _) _
  clear k1 k2 e1
  go_enter Try.func23, Try.ntmps23
  go_wp2
  have bS := Box2.new w 24 (.slice (some ⟨p1, o1, none⟩) n c1) (.slice (some ⟨p2, o2, none⟩) n c2)
  have hb0 := HB0.out (.cells #[.slice (some ⟨p1, o1, none⟩) n c1, .slice (some ⟨p2, o2, none⟩) n c2] 24)
  obtain ⟨W0, hW0⟩ : ∃ W0, w.alloc (.cells #[.slice (some ⟨p1, o1, none⟩) n c1, .slice (some ⟨p2, o2, none⟩) n c2] 24) = W0 := ⟨_, rfl⟩
  rw [hW0] at bS hb0 ⊢
  clear hW0
  have s0 := bS.cell0
  have s1 := bS.cell1
  have HBW := Lib.hid hb0
  clear bS hb0 HB0
  go_loop [5, 6] (fun a i => ∃ k : Nat, k ≤ n ∧ i = .int .i64 (k : Int) ∧ a = .int .i64 (vf 0 (L.take k) t)) (fun _ i => n - (intOf i).toNat)
  case atStart => exact ⟨0, by omega, rfl, rfl⟩
  case round =>
    obtain ⟨k, hk, rfl, rfl⟩ := hrel
    by_cases hlt : k < n
    · have j1 : k < L.length := by rw [E1.out]; exact hlt
      have g1 := HK1.out k j1
      have g2 := HK2.out k j1
      have q1 := (HBW.out.cell (p := ⟨p1, o1 + k, none⟩) (cell_lt g1)).trans g1
      have q2 := (HBW.out.cell (p := ⟨p2, o2 + k, none⟩) (cell_lt g2)).trans g2
      have hs : vf 0 (L.take (k + 1)) t = if (L[k]).1 ≤ t then (L[k]).2 else vf 0 (L.take k) t := by rw [List.take_succ_eq_append_getElem j1, vf_snoc]
      have hk0 : (0 : Int) ≤ (k : Int) := by omega
      have hlt1 : (k : Int) < (n : Int) := by omega
      generalize (L[k]).1 = x at *
      generalize (L[k]).2 = y at *
      have HS := Lib.hid hs
      clear hs g1 g2 j1
      by_cases hxt : x ≤ t
      · have d := decide_eq_true hxt
        have HE : Hid (vf 0 (L.take (k + 1)) t = y) := HS.out.trans (if_pos hxt)
        clear hxt
        go_wp2
        go_round
        case rel => exact ⟨k + 1, by omega, by go_num, by rw [HE.out]⟩
        case measure => simp [intOf]; omega
      · have d := decide_eq_false hxt
        have HE : Hid (vf 0 (L.take (k + 1)) t = vf 0 (L.take k) t) := HS.out.trans (if_neg hxt)
        clear hxt
        go_wp2
        go_round
        case rel => exact ⟨k + 1, by omega, by go_num, by rw [HE.out]⟩
        case measure => simp [intOf]; omega
    · have HE : Hid (vf 0 (L.take k) t = vf 0 L t) := by show _ = _; rw [List.take_of_length_le (by have := E1.out; omega)]
      go_wp2
      go_ret
      exact ⟨ret_i64 HE.out, HBW.out⟩
theorem dat_any {w : World} {v : Value} {L : List (Int × Int)} {t : Int} (h : Prof w v (L.map Prod.fst) (L.map Prod.snd)) (hL : Ok L) (ht : 0 ≤ t) : Calls Try.prog 23 #[v, .int .i64 t] w (Tells (sp.val L t) w) := by
  obtain ⟨v1, v2, rfl, ⟨b1, a1, c1, rfl, _, h1⟩, ⟨b2, a2, c2, rfl, _, h2⟩⟩ := h
  obtain ⟨x, hx⟩ := hL.zero
  have hpos := List.length_pos_of_mem hx
  rw [← val_zero hL ht]
  have l1 : (L.map Prod.fst).length = L.length := List.length_map _
  have l2 : (L.map Prod.snd).length = L.length := List.length_map _
  rcases h1 with h1 | ⟨p1, o1, rfl, k1⟩
  · omega
  · rcases h2 with h2 | ⟨p2, o2, rfl, k2⟩
    · omega
    · rw [l1, l2]
      exact dat_main p1 o1 p2 o2 _ c1 c2 L t w rfl hL.le (fun j hj => by have := k1 j (by omega); simpa using this) (fun j hj => by have := k2 j (by omega); simpa using this)

theorem dof_any (n : Int) (w : World) : Calls Try.prog 33 #[.int .i64 n] w (Says (of n) w) := by
  by_cases h0 : n < 0
  · have d : decide (n < 0) = true := decide_eq_true h0
    have H : Hid (of n = 0) := by show _ = _; unfold of; omega
    clear h0
    go_enter Try.func33, Try.ntmps33
    go_wp2
    go_ret
    exact ⟨ret_i64 H.out.symm, rfl⟩
  · have d : decide (n < 0) = false := decide_eq_false h0
    by_cases h1 : 1099511627776 < n
    · have d1 : decide (1099511627776 < n) = true := decide_eq_true h1
      have H : Hid (of n = 1099511627776) := by show _ = _; unfold of; omega
      clear h0 h1
      go_enter Try.func33, Try.ntmps33
      go_wp2
      go_ret
      exact ⟨ret_i64 H.out.symm, rfl⟩
    · have d1 : decide (1099511627776 < n) = false := decide_eq_false h1
      have H : Hid (of n = n) := by show _ = _; unfold of; omega
      clear h0 h1
      go_enter Try.func33, Try.ntmps33
      go_wp2
      go_ret
      exact ⟨ret_i64 H.out.symm, rfl⟩
theorem dnew_any (n : Int) (w : World) : Calls Try.prog 16 #[.int .i64 n] w (News n w) := by
  go_enter Try.func16, Try.ntmps16
  go_wp2_with fail
  refine (dof_any _ _).mono ?_
  rintro e w1 ⟨rfl, rfl⟩
  go_wp2
  refine bodyPost_ret (v := .agg #[.slice (some ⟨w.heap.size + 1, 0, none⟩) 1 1, .slice (some ⟨w.heap.size + 1 + 1, 0, none⟩) 1 1]) (by simp [results, Try.results16, go_sem]) rfl ⟨_, rfl, ⟨_, _, rfl, ?_, ?_⟩, ?_⟩
  · have h := (row1 (w.alloc (.cells #[.slice (some ⟨w.heap.size + 1, 0, none⟩) 1 1, .slice (some ⟨w.heap.size + 1 + 1, 0, none⟩) 1 1] 24)) 0).alloc (.cells #[.int .i64 (of n)] 2)
    rwa [World.size_alloc] at h
  · have h := row1 ((w.alloc (.cells #[.slice (some ⟨w.heap.size + 1, 0, none⟩) 1 1, .slice (some ⟨w.heap.size + 1 + 1, 0, none⟩) 1 1] 24)).alloc (.cells #[.int .i64 0] 2)) (of n)
    rwa [World.size_alloc, World.size_alloc] at h
  · exact (((Below.refl _ _).alloc (Nat.le_refl _) _).alloc (by simp) _).alloc (by simp; omega) _
end Go.Proofs.Ytoofogmlodfgmaa.gn
