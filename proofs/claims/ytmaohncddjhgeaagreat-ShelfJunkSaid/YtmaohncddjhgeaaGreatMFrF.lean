/- The contract of first: with which string's frame some bytes begin. -/
import Derived.Test.YtmaohncddjhgeaaGreatMFrA
import Derived.Test.YtmaohncddjhgeaaGreatMGen
section
namespace Go.Proofs.YtmaohncddjhgeaaGreat.gn
open Go.RowKit
open Go.Proofs.YtmaohncddjhgeaaGreat.sl

/-- What first answers, and that it makes memory alone. -/
def Tfst (o : Option (List UInt8)) (w : World) (e : Ending) (w' : World) : Prop :=
  e = .returned (.tuple #[.string (str (o.getD [])), .bool o.isSome]) ∧ Below w.heap.size w w'

theorem fst_short {b : List UInt8} (h : b.length < 12) : fst? b = none := if_neg (fun hc => by omega)
theorem fst_head {b : List UInt8} (h : opens (b.take 12) = false) : fst? b = none := if_neg (fun hc => by rw [h] at hc; cases hc.2.1)
theorem fst_great {b : List UInt8} (h : 262144 < num (b.take 4)) : fst? b = none := if_neg (fun hc => by omega)
theorem fst_len {b : List UInt8} (h : b.length < 20 + num (b.take 4)) : fst? b = none := if_neg (fun hc => by omega)
theorem fst_body {b : List UInt8} (h1 : 12 ≤ b.length) (h2 : opens (b.take 12) = true) (h3 : num (b.take 4) ≤ 262144) (h4 : 20 + num (b.take 4) ≤ b.length) :
    (fst? b).getD [] = opened ((b.drop 12).take (8 + num (b.take 4))) ∧ (fst? b).isSome = opens ((b.drop 12).take (8 + num (b.take 4))) := by
  unfold fst? opened
  cases h5 : opens ((b.drop 12).take (8 + num (b.take 4)))
  · rw [if_neg (fun hc => by cases hc.2.2.2.2)]
    exact ⟨rfl, rfl⟩
  · rw [if_pos ⟨h1, h2, h3, h4, rfl⟩]
    exact ⟨by rw [if_pos rfl, front_body _ _ (by rw [List.length_drop]; omega)]; rfl, rfl⟩

set_option maxRecDepth 100000 in
set_option maxHeartbeats 800000 in
theorem first_a (b : List UInt8) (h : b.length < 12) (w : World) : Calls Tryz.prog 139 #[.string (str b)] w (Tfst (fst? b) w) := by
  rw [fst_short h]
  have b1 : (str b).size < 12 := by rw [str_size]; exact h
  clear h
  go_enter Tryz.func139, Tryz.ntmps139
  go_wp2
  go_ret2
  exact ⟨rfl, Below.refl _ _⟩

set_option maxRecDepth 100000 in
set_option maxHeartbeats 800000 in
theorem first_b (b : List UInt8) (h : 12 ≤ b.length) (ho : opens (b.take 12) = false) (w : World) : Calls Tryz.prog 139 #[.string (str b)] w (Tfst (fst? b) w) := by
  rw [fst_head ho]
  have b1 : 12 ≤ (str b).size := by rw [str_size]; exact h
  have HO := Lib.hid ho
  have s1 := sl_upto b 12 12 rfl h
  have HL : Hid ((b.take 12).length ≤ 140737488355328) := by show _ ≤ _; rw [List.length_take]; omega
  clear h ho
  go_enter Tryz.func139, Tryz.ntmps139
  go_wp2_with fail
  refine (open_any (b.take 12) HL.out _).mono ?_
  rintro e w1 ⟨rfl, hb1⟩
  rw [HO.out]
  have HB1 := Lib.hid hb1
  clear hb1
  go_wp2
  go_ret2
  exact ⟨rfl, HB1.out⟩

set_option maxRecDepth 100000 in
set_option maxHeartbeats 1600000 in
theorem first_c (b : List UInt8) (h : 12 ≤ b.length) (ho : opens (b.take 12) = true) (hn : 262144 < num (b.take 4) ∨ (num (b.take 4) ≤ 262144 ∧ b.length < 20 + num (b.take 4))) (hl : b.length ≤ 140737488355328) (w : World) :
    Calls Tryz.prog 139 #[.string (str b)] w (Tfst (fst? b) w) := by
  have hfst : fst? b = none := by rcases hn with hn | hn; exact fst_great hn; exact fst_len hn.2
  rw [hfst]
  clear hfst
  have b1 : 12 ≤ (str b).size := by rw [str_size]; exact h
  have b2 : (str b).size ≤ 140737488355328 := by rw [str_size]; exact hl
  have b3 : ((str b).size : Nat) = b.length := str_size b
  have hnum := num_lt (b.take 4)
  rw [List.length_take, show min 4 b.length = 4 by omega] at hnum
  have hnb : num (b.take 4) < 4294967296 := hnum
  have HO := Lib.hid ho
  have s1 := sl_upto b 12 12 rfl h
  have HL : Hid ((b.take 12).length ≤ 140737488355328) := by show _ ≤ _; rw [List.length_take]; omega
  have HF : Hid (opened (b.take 12) = b.take 4) := by show _ = _; unfold opened; rw [ho, if_pos rfl, front_head b h]
  have H4 : Hid ((b.take 4).length ≤ 4) := by show _ ≤ _; rw [List.length_take]; omega
  clear hnum ho
  rcases hn with hn | ⟨hn, hn2⟩
  · clear h hl b3
    go_enter Tryz.func139, Tryz.ntmps139
    go_wp2_with fail
    refine (open_any (b.take 12) HL.out _).mono ?_
    rintro e w1 ⟨rfl, hb1⟩
    rw [HO.out, HF.out]
    have HB1 := Lib.hid hb1
    clear hb1
    go_wp2_with fail
    refine (number_any (b.take 4) H4.out _).mono ?_
    rintro e w2 ⟨rfl, rfl⟩
    generalize num (b.take 4) = n at *
    go_wp2
    go_ret2
    exact ⟨rfl, HB1.out⟩
  · have b4 : (str b).size < 20 + num (b.take 4) := by omega
    clear h hl b3 hn2
    go_enter Tryz.func139, Tryz.ntmps139
    go_wp2_with fail
    refine (open_any (b.take 12) HL.out _).mono ?_
    rintro e w1 ⟨rfl, hb1⟩
    rw [HO.out, HF.out]
    have HB1 := Lib.hid hb1
    clear hb1
    go_wp2_with fail
    refine (number_any (b.take 4) H4.out _).mono ?_
    rintro e w2 ⟨rfl, rfl⟩
    generalize num (b.take 4) = n at *
    go_wp2_with (go_at_call 85; refine (cost_any n (by omega) _).mono ?_; rintro e w3 ⟨rfl, rfl⟩)
    go_ret2
    exact ⟨rfl, HB1.out⟩

set_option maxRecDepth 100000 in
set_option maxHeartbeats 1600000 in
theorem first_d (b : List UInt8) (h : 12 ≤ b.length) (ho : opens (b.take 12) = true) (hn : num (b.take 4) ≤ 262144) (hn2 : 20 + num (b.take 4) ≤ b.length) (hl : b.length ≤ 140737488355328) (w : World) :
    Calls Tryz.prog 139 #[.string (str b)] w (Tfst (fst? b) w) := by
  obtain ⟨e1, e2⟩ := fst_body h ho hn hn2
  have E1 := Lib.hid e1
  have E2 := Lib.hid e2
  clear e1 e2
  have b1 : 12 ≤ (str b).size := by rw [str_size]; exact h
  have b2 : (str b).size ≤ 140737488355328 := by rw [str_size]; exact hl
  have b4 : 20 + num (b.take 4) ≤ (str b).size := by rw [str_size]; exact hn2
  have HO := Lib.hid ho
  have s1 := sl_upto b 12 12 rfl h
  have s2 := sl_mid b 12 ((num (b.take 4) : Nat) + 20 : Int) 12 (8 + num (b.take 4)) rfl (by omega) (by omega)
  have HL : Hid ((b.take 12).length ≤ 140737488355328) := by show _ ≤ _; rw [List.length_take]; omega
  have HL2 : Hid (((b.drop 12).take (8 + num (b.take 4))).length ≤ 140737488355328) := by show _ ≤ _; rw [List.length_take, List.length_drop]; omega
  have HF : Hid (opened (b.take 12) = b.take 4) := by show _ = _; unfold opened; rw [ho, if_pos rfl, front_head b h]
  have H4 : Hid ((b.take 4).length ≤ 4) := by show _ ≤ _; rw [List.length_take]; omega
  clear ho h hl hn2
  go_enter Tryz.func139, Tryz.ntmps139
  go_wp2_with fail
  refine (open_any (b.take 12) HL.out _).mono ?_
  rintro e w1 ⟨rfl, hb1⟩
  rw [HO.out, HF.out]
  have HB1 := Lib.hid hb1
  clear hb1
  go_wp2_with fail
  refine (number_any (b.take 4) H4.out _).mono ?_
  rintro e w2 ⟨rfl, rfl⟩
  generalize num (b.take 4) = n at *
  go_wp2_with (go_at_call 85; refine (cost_any n (by omega) _).mono ?_; rintro e w3 ⟨rfl, rfl⟩)
  refine (open_any _ HL2.out _).mono ?_
  rintro e w4 ⟨rfl, hb4⟩
  have HB4 := Lib.hid (HB1.out.trans (hb4.mono HB1.out.size))
  clear hb4
  go_wp2
  go_ret2
  unfold Tfst
  rw [E1.out, E2.out]
  exact ⟨rfl, HB4.out⟩

theorem first_any (b : List UInt8) (hl : b.length ≤ 140737488355328) (w : World) : Calls Tryz.prog 139 #[.string (str b)] w (Tfst (fst? b) w) := by
  by_cases h : 12 ≤ b.length
  · cases ho : opens (b.take 12)
    · exact first_b b h ho w
    · by_cases hn : num (b.take 4) ≤ 262144
      · by_cases hn2 : 20 + num (b.take 4) ≤ b.length
        · exact first_d b h ho hn hn2 hl w
        · exact first_c b h ho (.inr ⟨hn, by omega⟩) hl w
      · exact first_c b h ho (.inl (by omega)) hl w
  · exact first_a b (by omega) w
end Go.Proofs.YtmaohncddjhgeaaGreat.gn
end
