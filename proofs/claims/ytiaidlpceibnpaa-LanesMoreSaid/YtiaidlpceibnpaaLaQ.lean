/- The program's parts of Split: quantities, what a level takes, the highest level. -/
import Derived.Test.YtiaidlpceibnpaaLaP
import Derived.Test.YtiaidlpceibnpaaSatM
import Derived.Lib.MinMax
import Derived.IntWalk
set_option linter.unusedVariables false
set_option linter.unusedSimpArgs false
namespace Go.Proofs.Ytiaidlpceibnpaa.gn
open Go.RowKit
open Go.Proofs.Ytiaidlpceibnpaa.la (OkW Qy tot cut)

theorem lof_any (n : Int) (w : World) : Calls Try.prog 14 #[.int .i64 n] w fun e w' => e = .returned (.int .i64 (st.of n)) ∧ w = w' := by
  go_enter Try.func14, Try.ntmps14
  go_wp2
  go_ret
  exact ⟨rfl, rfl⟩
theorem qy_of (n : Int) : (n == st.of n) = decide (Qy n) := by
  rw [Bool.eq_iff_iff, beq_iff_eq, decide_eq_true_iff]
  unfold Qy st.of
  omega
theorem lquantity_any (n : Int) (w : World) : Calls Try.prog 10 #[.int .i64 n] w fun e w' => e = .returned (.bool (decide (Qy n))) ∧ w = w' := by
  have H := Lib.hid (qy_of n)
  generalize decide (Qy n) = b at H ⊢
  go_enter Try.func10, Try.ntmps10
  go_wp2_with (go_at_call 14; ((with_reducible refine (lof_any _ _).mono ?_); rintro e w' ⟨rfl, rfl⟩))
  go_ret
  exact ⟨by rw [H.out]; rfl, rfl⟩
/-- All of a row up to i may be. -/
def QsTo (l : List Int) (i : Nat) : Prop := ∀ x ∈ l.take i, Qy x
theorem QsTo.step {l : List Int} {i : Nat} {x : Int} (h : QsTo l i) (hx : l[i]? = some x) (hq : Qy x) : QsTo l (i + 1) := by
  unfold QsTo at *
  rw [la_take_at hx]
  intro y hy
  rcases List.mem_append.1 hy with hy | hy
  · exact h y hy
  · rw [List.mem_singleton.1 hy]
    exact hq
set_option maxRecDepth 100000 in
set_option maxHeartbeats 3200000 in
theorem lquantities_any {w : World} {v : Value} {l : List Int} (hr : RI w v l) (hl : l.length ≤ 140737488355328) : Calls Try.prog 9 #[v] w fun e w' => e = .returned (.bool (decide (∀ x ∈ l, Qy x))) ∧ w = w' := by
  obtain ⟨p, c, rfl, hf⟩ := hr.form
  obtain ⟨n, hn⟩ : ∃ n, l.length = n := ⟨_, rfl⟩
  rw [hn]
  have HF := Lib.hid hf
  have hn1 : n ≤ 140737488355328 := by omega
  have HN := Lib.hid hn
  obtain ⟨b, hb⟩ : ∃ b, decide (∀ x ∈ l, Qy x) = b := ⟨_, rfl⟩
  rw [hb]
  have HBB := Lib.hid hb
  clear hr hf hl hn hb
  go_enter Try.func9, Try.ntmps9
  go_wp2
  go_loop [6] (fun s6 => ∃ i : Nat, s6 = .int .i64 (i : Nat) ∧ i ≤ n ∧ Aside (QsTo l i)) (fun s6 => n - (intOf s6).toNat)
  case atStart => exact ⟨0, rfl, Nat.zero_le _, fun x hx => by simp at hx⟩
  case round =>
  obtain ⟨i, rfl, hi, hrow⟩ := hrel
  have HR := Lib.hid (show QsTo l i from hrow)
  clear hrow
  by_cases hin : i < n
  · obtain ⟨x, hx⟩ : ∃ x, l[i]? = some x := ⟨_, List.getElem?_eq_getElem (by rw [HN.out]; exact hin)⟩
    obtain ⟨k, off, rfl, hk, hc⟩ := HF.out (ne_of_at hx)
    have c0 := hc i x hx
    have HX := Lib.hid hx
    have HQ := Lib.hid (lquantity_any x w)
    by_cases hq : Qy x
    · have HS := Lib.hid (HR.out.step HX.out hq)
      rw [decide_eq_true hq] at HQ
      clear hx hc hq
      go_wp2_with (go_at_call 10; ((with_reducible refine HQ.out.mono ?_); rintro e w' ⟨rfl, hw⟩; cases hw))
      go_round
      case rel => exact ⟨i + 1, by go_num, by omega, HS.out⟩
      case measure => simp [intOf]; omega
    · have HD := Lib.hid (show false = b by
        rw [← HBB.out]
        exact (decide_eq_false fun h => hq (h x (List.mem_of_getElem? HX.out))).symm)
      rw [decide_eq_false hq] at HQ
      clear hx hc hq
      go_wp2_with (go_at_call 10; ((with_reducible refine HQ.out.mono ?_); rintro e w' ⟨rfl, hw⟩; cases hw))
      go_ret
      exact ⟨by rw [HD.out]; rfl, rfl⟩
  · obtain rfl : i = n := by omega
    have HD := Lib.hid (show true = b by
      rw [← HBB.out]
      refine (decide_eq_true fun x hx => ?_).symm
      have h := HR.out
      unfold QsTo at h
      rw [List.take_of_length_le (by rw [HN.out]; exact Nat.le_refl _)] at h
      exact h x hx)
    go_wp2
    go_ret
    exact ⟨by rw [HD.out]; rfl, rfl⟩

/-! ### what a level takes -/
theorem cut_bd (v : Int) (hv : 0 ≤ v) : ∀ l : List Int, (∀ x ∈ l, Qy x) → 0 ≤ tot (cut v l) ∧ tot (cut v l) ≤ 1099511627776 * l.length
  | [], _ => by simp [cut, tot]
  | x :: l, h => by
    have := cut_bd v hv l fun y hy => h y (by simp [hy])
    have hx := h x (by simp)
    unfold Qy at hx
    simp only [cut, List.map_cons, tot, List.length_cons] at this ⊢
    omega
theorem cut_none : ∀ l : List Int, (∀ x ∈ l, Qy x) → tot (cut 0 l) = 0
  | [], _ => rfl
  | x :: l, h => by
    have h1 := cut_none l fun y hy => h y (by simp [hy])
    have hx := h x (by simp)
    unfold Qy at hx
    show min x 0 + tot (cut 0 l) = 0
    omega
theorem cut_take {l : List Int} {i : Nat} {x : Int} (v : Int) (h : l[i]? = some x) : tot (cut v (l.take (i + 1))) = tot (cut v (l.take i)) + min x v := by
  rw [la_take_at h]
  simp [cut, la.tot_app, tot]
set_option maxRecDepth 100000 in
set_option maxHeartbeats 3200000 in
theorem takes_any {w : World} {B c n : Nat} {p : Option Addr} {l : List Int} {v : Int} (hB : BoxA w B 22 #[.slice p n c]) (hn : l.length = n) (hf : l ≠ [] → IAt w p l) (hq : ∀ x ∈ l, Qy x) (h1000 : n ≤ 1000) (hv0 : 0 ≤ v) (hv1 : v ≤ 1099511627776) :
    Calls Try.prog 11 #[.int .i64 v, .pointer (some ⟨B, 0, none⟩)] w fun e w' => e = .returned (.int .i64 (tot (cut v l))) ∧ w = w' := by
  have HF := Lib.hid hf
  have HN := Lib.hid hn
  have HQ := Lib.hid hq
  have HV0 := Lib.hid hv0
  have b0 := BoxA.cell hB 0 (.slice p n c)
  have HTK := Lib.hid (fun i => cut_bd v hv0 (l.take i) (fun x hx => hq x (List.mem_of_mem_take hx)))
  obtain ⟨s0, hs0⟩ : ∃ s, s = tot (cut v l) := ⟨_, rfl⟩
  rw [← hs0]
  have HS0 := Lib.hid hs0
  clear hB hn hf hq hs0
  go_enter Try.func11, Try.ntmps11
  go_wp2
  go_loop [4, 8] (fun s4 s8 => ∃ (i : Nat) (s : Int), s4 = .int .i64 s ∧ s8 = .int .i64 (i : Nat) ∧ i ≤ n ∧ 0 ≤ s ∧ s ≤ 1099511627776000 ∧ Aside (s = tot (cut v (l.take i)))) (fun _ s8 => n - (intOf s8).toNat)
  case atStart => exact ⟨0, 0, rfl, rfl, Nat.zero_le _, by decide, by decide, show (0 : Int) = tot (cut v (l.take 0)) by simp [cut, tot]⟩
  case round =>
  obtain ⟨i, s, rfl, rfl, hi, hs0, hs1, hrow⟩ := hrel
  have HR := Lib.hid (show s = tot (cut v (l.take i)) from hrow)
  clear hrow
  by_cases hin : i < n
  · obtain ⟨x, hx⟩ : ∃ x, l[i]? = some x := ⟨_, List.getElem?_eq_getElem (by rw [HN.out]; exact hin)⟩
    obtain ⟨k, off, rfl, hk, hc⟩ := HF.out (ne_of_at hx)
    have c0 := hc i x hx
    have hxq := HQ.out x (List.mem_of_getElem? hx)
    have HS := Lib.hid (show s + min x v = tot (cut v (l.take (i + 1))) by rw [cut_take v hx, HR.out])
    have h2 := HTK.out (i + 1)
    have h3 : (l.take (i + 1)).length ≤ 1000 := by
      rw [List.length_take]
      omega
    have HS2 := Lib.hid (show 0 ≤ s + min x v ∧ s + min x v ≤ 1099511627776000 by
      have := HS.out
      omega)
    have hw : IntKind.i64.wrap (s + min x v) = s + min x v := by
      have := HS2.out
      rw [IntKind.wrap_i64]
      omega
    clear hx hc h2 h3 hxq
    go_wp2
    go_round
    case rel => exact ⟨i + 1, s + min x v, rfl, by go_num, by omega, HS2.out.1, HS2.out.2, HS.out⟩
    case measure => simp [intOf]; omega
  · obtain rfl : i = n := by omega
    have HD := Lib.hid (show s = s0 by rw [HR.out, HS0.out, List.take_of_length_le (by rw [HN.out]; exact Nat.le_refl _)])
    go_wp2
    go_ret
    exact ⟨by rw [HD.out]; rfl, rfl⟩

/-- The highest level that T is enough for. -/
def HighQ (T : Int) (l : List Int) (w : World) (e : Ending) (w' : World) : Prop := ∃ v, e = .returned (.int .i64 v) ∧ w = w' ∧ 0 ≤ v ∧ v ≤ 1099511627776 ∧ tot (cut v l) ≤ T ∧ (v = 1099511627776 ∨ T < tot (cut (v + 1) l))
set_option maxRecDepth 100000 in
set_option maxHeartbeats 3200000 in
theorem highest_any {w : World} {B c n : Nat} {p : Option Addr} {l : List Int} {T : Int} (hB : BoxA w B 22 #[.slice p n c]) (hn : l.length = n) (hf : l ≠ [] → IAt w p l) (hq : ∀ x ∈ l, Qy x) (h1000 : n ≤ 1000) (hT : 0 ≤ T) :
    Calls Try.prog 12 #[.int .i64 T, .func (.func 11) #[] #[.pointer (some ⟨B, 0, none⟩)]] w (HighQ T l w) := by
  have HTK := Lib.hid (fun (v : Int) (h0 : 0 ≤ v) (h1 : v ≤ 1099511627776) => takes_any hB hn hf hq h1000 h0 h1)
  have HZ := Lib.hid (show tot (cut 0 l) ≤ T by rw [cut_none l hq]; exact hT)
  clear hB hn hf hq h1000
  go_enter Try.func12, Try.ntmps12
  go_wp2
  go_loop [5, 6] (fun s5 s6 => ∃ (a b : Int), s5 = .int .i64 a ∧ s6 = .int .i64 b ∧ 0 ≤ a ∧ a ≤ b ∧ b ≤ 1099511627776 ∧ Aside (tot (cut a l) ≤ T ∧ (b = 1099511627776 ∨ T < tot (cut (b + 1) l)))) (fun s5 s6 => (intOf s6 - intOf s5).toNat)
  case atStart => exact ⟨0, 1099511627776, rfl, rfl, by decide, by decide, by decide, HZ.out, .inl rfl⟩
  case round =>
  obtain ⟨a, b, rfl, rfl, ha, hab, hb, hrow⟩ := hrel
  have H1 := Lib.hid (show tot (cut a l) ≤ T from hrow.1)
  have H2 := Lib.hid (show b = 1099511627776 ∨ T < tot (cut (b + 1) l) from hrow.2)
  clear hrow
  by_cases hlt : a < b
  · obtain ⟨m, hm⟩ : ∃ m, (a + b + 1) / 2 = m := ⟨_, rfl⟩
    have hm0 : a < m := by omega
    have hm1 : m ≤ b := by omega
    have HM := Lib.hid (HTK.out m (by omega) (by omega))
    obtain ⟨s, hs⟩ : ∃ s, tot (cut m l) = s := ⟨_, rfl⟩
    rw [hs] at HM
    have HSS := Lib.hid hs
    clear hs
    by_cases hle : s ≤ T
    · go_wp2_with (go_at_call 11; ((with_reducible refine HM.out.mono ?_); rintro e w' ⟨rfl, hw⟩; cases hw))
      go_round
      case rel => exact ⟨m, b, rfl, rfl, by omega, by omega, by omega, by rw [HSS.out]; exact hle, H2.out⟩
      case measure => simp [intOf]; omega
    · go_wp2_with (go_at_call 11; ((with_reducible refine HM.out.mono ?_); rintro e w' ⟨rfl, hw⟩; cases hw))
      go_round
      case rel => exact ⟨a, m - 1, rfl, rfl, by omega, by omega, by omega, H1.out, .inr (by rw [show m - 1 + 1 = m by omega, HSS.out]; omega)⟩
      case measure => simp [intOf]; omega
  · obtain rfl : a = b := by omega
    go_wp2
    go_ret
    exact ⟨a, rfl, rfl, ha, hb, H1.out, H2.out⟩
end Go.Proofs.Ytiaidlpceibnpaa.gn
