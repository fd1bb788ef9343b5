/- The walk of UnitScale. -/
import Derived.Test.YtgipllbigjnejaaDoorUnH
import Derived.Test.YtgipllbigjnejaaDoorUnJ
set_option linter.unusedVariables false
namespace Go.Proofs.YtgipllbigjnejaaDoor.gn
open Go.RowKit
open Go.Proofs.YtgipllbigjnejaaDoor.un
open Go.Lib (decDigits)

/-- The units as the law lays them. -/
def lawN : Array Value := #[.string { data := #[75, 66] }, .string { data := #[77, 66] }, .string { data := #[71, 66] }, .string { data := #[84, 66] }, .string { data := #[75, 105, 66] }, .string { data := #[77, 105, 66] }, .string { data := #[71, 105, 66] }, .string { data := #[84, 105, 66] }]
def lawS : Array Value := #[.int .i64 1000, .int .i64 1000000, .int .i64 1000000000, .int .i64 1000000000000, .int .i64 1024, .int .i64 1048576, .int .i64 1073741824, .int .i64 1099511627776]
theorem lawN_at {k : Nat} (hk : k < 8) : lawN[k]? = some (.string (str (nm (7 - k)))) := by
  rcases lt8 hk with rfl | rfl | rfl | rfl | rfl | rfl | rfl | rfl <;> rfl
theorem lawS_at {k : Nat} (hk : k < 8) : lawS[k]? = some (.int .i64 (sz (7 - k) : Nat)) := by
  rcases lt8 hk with rfl | rfl | rfl | rfl | rfl | rfl | rfl | rfl <;> rfl

set_option maxRecDepth 100000 in
set_option maxHeartbeats 4000000 in
theorem scale_any (n : Int) (q : Nat) (h0 : -9223372036854775808 ≤ n) (h1 : n ≤ 9223372036854775807) (hq : q < 256) (w : World) (hL : LaidU w) :
    Calls Tryd.prog 5 #[.int .i64 n, .int .u8 (q : Int)] w (Told (.bool true) w) := by
  have HC := Lib.hid fun (W : World) (hb : Below w.heap.size w W) => hL.next hb
  obtain ⟨w3, hw3⟩ : ∃ w3, (w.alloc (.cells lawN 9)).alloc (.cells lawS 2) = w3 := ⟨_, rfl⟩
  have hcn : ∀ k, k < 8 → w3.cell? ⟨w.heap.size, k, none⟩ = some (.string (str (nm (7 - k)))) := fun k hk => by
    rw [← hw3]
    have h0 : (w.alloc (.cells lawN 9)).cell? ⟨w.heap.size, k, none⟩ = some (.string (str (nm (7 - k)))) := by rw [World.cell?_alloc_mark]; exact lawN_at hk
    rw [Below.cell ((Below.refl (w.alloc (.cells lawN 9)).heap.size _).alloc (Nat.le_refl _) _) (by simp)]
    exact h0
  have hcs : ∀ k, k < 8 → w3.cell? ⟨w.heap.size + 1, k, none⟩ = some (.int .i64 (sz (7 - k) : Nat)) := fun k hk => by
    rw [← hw3, Joins.cell_alloc_mark_at _ _ _ _ _ _ (by simp)]
    exact lawS_at hk
  have hsz3 : w.heap.size + 1 < w3.heap.size := by rw [← hw3]; simp
  have hsz3' : w.heap.size < w3.heap.size := by omega
  have HB3 := Lib.hid (show Below w.heap.size w w3 by rw [← hw3]; exact ((Below.refl _ _).alloc (Nat.le_refl _) _).alloc (by simp) _)
  unfold lawN lawS at hw3
  have htm : Int.tmod (q : Int) 8 = ((q % 8 : Nat) : Int) := rfl
  have hk8 : q % 8 < 8 := Nat.mod_lt _ (by decide)
  obtain ⟨k, hk⟩ : ∃ k, q % 8 = k := ⟨_, rfl⟩
  rw [hk] at htm hk8
  have hn3 := hcn k hk8
  have hs3 := hcs k hk8
  have hj : 7 - k < 8 := by omega
  generalize 7 - k = j at *
  have hk8i : (k : Int) < 8 := by omega
  have hk0i : (0 : Int) ≤ (k : Int) := by omega
  clear hcn hcs hk hL
  by_cases hqn : 0 ≤ n ∧ n ≤ 1099511627776
  · obtain ⟨m, rfl⟩ : ∃ m : Nat, n = (m : Int) := ⟨n.toNat, by omega⟩
    have hm : m ≤ 1099511627776 := by omega
    have HQ := Lib.hid (show quant (m : Int) = true from decide_eq_true hqn)
    have hz := size_unit hj hm
    have hsb := sz_bd hj
    have hs0 : ¬ ((sz j : Nat) : Int) = 0 := by omega
    have hs0n : ¬ sz j = 0 := by omega
    have htd : Int.tdiv 1099511627776 ((sz j : Nat) : Int) = ((top / sz j : Nat) : Int) := rfl
    have hqt : top / sz j ≤ 1099511627776 := Nat.div_le_self _ _
    have hwq := wrap_q hqt
    have z1 : (str (txt (m : Int))).size ≤ 13 := by rw [str_size]; exact txt_len _
    have z2 : (str (nm j)).size ≤ 3 := by rw [str_size]; exact nm_len hj
    have hadd := add_run (Nat.le_trans z1 (by decide)) (Nat.le_trans z2 (by decide))
    have HAP := Lib.hid (show str (txt (m : Int)) ++ str (nm j) = str (decDigits m ++ nm j) by rw [txt_in hm, str_app])
    have HLL := Lib.hid (show (decDigits m ++ nm j).length ≤ 140737488355328 by
      rw [List.length_append]
      have a1 := dec_len hm
      have a2 := nm_len hj
      omega)
    obtain ⟨l, hl⟩ : ∃ l, decDigits m ++ nm j = l := ⟨_, rfl⟩
    rw [hl] at hz HAP HLL
    have hst := fun W h => size_any l HLL.out W h
    have HST := Lib.hid hst
    clear hl hst
    have hcase : (m ≤ top / sz j ∧ size? l = some (m * sz j) ∧ m * sz j ≤ 1099511627776) ∨ (top / sz j < m ∧ size? l = none) := by
      rw [hz]
      rcases Nat.lt_or_ge (top / sz j) m with h | h
      · exact .inr ⟨h, if_neg (by omega)⟩
      · exact .inl ⟨h, if_pos h, Nat.le_trans (Nat.mul_le_mul_right _ h) (Nat.div_mul_le_self _ _)⟩
    obtain ⟨d, hd⟩ : ∃ d, top / sz j = d := ⟨_, rfl⟩
    rw [hd] at hcase htd hqt hwq
    clear hz hd hqn
    rcases hcase with ⟨hmd, hz, hmz⟩ | ⟨hmd, hz⟩
    case' inl =>
      have hmi : (m : Int) * ((sz j : Nat) : Int) = ((m * sz j : Nat) : Int) := by push_cast; rfl
      have hmi2 : IntKind.i64.wrap ((m * sz j : Nat) : Int) = ((m * sz j : Nat) : Int) := wrap_q hmz
      generalize m * sz j = y at *
    all_goals
      have HZ := Lib.hid hz
      clear hz
      go_enter Tryd.func5, Tryd.ntmps5
      go_upto_region 6 with (go_at_call 18; refine (dquant_any _ _).mono ?_; rintro e wx ⟨rfl, rfl⟩; rw [HQ.out])
      have hn3d : w3.drew.cell? ⟨w.heap.size, k, none⟩ = some (.string (str (nm j))) := hn3
      go_region_held3 (fun W => W.cell? ⟨w.heap.size, k, none⟩ = some (.string (str (nm j)))) (first | assumption | (exact hn3) | (exact hn3d)) (first
        | (go_at_call 14; refine (text_any (m : Int) (by omega) (by omega) _ (HC.out _ HB3.out.drew)).mono ?_; rintro e w4 ⟨rfl, hb4⟩; have hb4' : Below w3.heap.size w3 w4 := below_undrew hb4; clear hb4; have hn4 : w4.cell? ⟨w.heap.size, k, none⟩ = some (.string (str (nm j))) := (Below.cell hb4' hsz3').trans hn3; have HB4 := Lib.hid hb4'; have HW4 := Lib.hid (HB3.out.trans (hb4'.mono HB3.out.size)); clear hb4')
        | (go_at_call 10; rw [HAP.out]; refine (HST.out _ (HC.out _ HW4.out)).mono ?_; rintro e w5 ⟨rfl, hb5⟩; have hb5' : Below w3.heap.size w3 w5 := HB4.out.trans (hb5.mono HB4.out.size); have hn5 : w5.cell? ⟨w.heap.size, k, none⟩ = some (.string (str (nm j))) := (Below.cell hb5' hsz3').trans hn3; have hs5 : w5.cell? ⟨w.heap.size + 1, k, none⟩ = some (.int .i64 (sz j : Nat)) := (Below.cell hb5' hsz3).trans hs3; have hsz5 : w.heap.size + 1 < w5.heap.size := Nat.lt_of_lt_of_le hsz3 hb5'.size; have HW5 := Lib.hid (HB3.out.trans (hb5'.mono HB3.out.size)); clear hb5 hb5'))
    all_goals
      rw [HZ.out]
      first | rw [qv_some, qe_some] | rw [qv_none, qe_none]
      go_wp2_with (go_at_call 7; refine (head_any _ (HC.out _ HW5.out)).mono ?_; rintro e w6 ⟨rfl, hb⟩; have H6 := Lib.hid (HW5.out.trans (hb.mono HW5.out.size)); clear hb)
      go_ret
      exact ⟨rfl, H6.out⟩
  · have HQ := Lib.hid (show quant n = false from decide_eq_false hqn)
    clear hqn
    go_enter Tryd.func5, Tryd.ntmps5
    go_wp2_with (first
      | (go_at_call 18; refine (dquant_any _ _).mono ?_; rintro e wx ⟨rfl, rfl⟩; rw [HQ.out])
      | (go_at_call 7; refine (head_any _ (HC.out _ HB3.out)).mono ?_; rintro e w4 ⟨rfl, hb⟩; have H4 := Lib.hid (HB3.out.trans (hb.mono HB3.out.size)); clear hb))
    go_ret
    exact ⟨rfl, H4.out⟩
end Go.Proofs.YtgipllbigjnejaaDoor.gn
