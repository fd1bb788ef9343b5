/- PackShort: for every two numbers the law returns true. -/
import Derived.Test.YtjfachkonnfldaaPackH
import Derived.Deep.RegionWith
import Derived.Deep.DeepCutAuto
import Derived.Handy
namespace Go.Proofs.Ytjfachkonnfldaa
open Go.RowKit

theorem packNum_one (n bl : Nat) (hn : n < 18446744073709551616) (w : World) (hc : w.cell? ⟨bl, 0, none⟩ = some (.int .u64 (n : Int))) :
    Calls Try.prog 16 #[.slice none 0 0, .slice (some ⟨bl, 0, none⟩) 1 1] w fun e w' => ∃ v', e = .returned v' ∧ Bs w' w.heap.size v' (Lib.uvarint n) ∧ Below w.heap.size w w' := by
  have h := packNum_any [] [n] (by intro x hx; simp at hx; omega) 0 _ bl 0 1 w (Bs_nil _ _) (by
    intro j x hx
    match j, hx with
    | 0, hx => simp at hx; subst hx; exact hc
    | j + 1, hx => simp at hx) (World.block_lt_of_cell? w _ hc) (by have := Lib.uvarint_length64 hn; simp; omega)
  simpa using h

theorem packInt_one (x : Int) (bl : Nat) (h0 : -9223372036854775808 ≤ x) (h1 : x < 9223372036854775808) (w : World) (hc : w.cell? ⟨bl, 0, none⟩ = some (.int .i64 x)) :
    Calls Try.prog 17 #[.slice none 0 0, .slice (some ⟨bl, 0, none⟩) 1 1] w fun e w' => ∃ v', e = .returned v' ∧ Bs w' w.heap.size v' (Lib.uvarint (Lib.zigzag x)) ∧ Below w.heap.size w w' := by
  have h := packInt_any [] [x] (by intro x hx; simp at hx; omega) 0 _ bl 0 1 w (Bs_nil _ _) (by
    intro j x hx
    match j, hx with
    | 0, hx => simp at hx; subst hx; exact hc
    | j + 1, hx => simp at hx) (World.block_lt_of_cell? w _ hc) (by have := zig_len x h0 h1; simp; omega)
  simpa using h

theorem packInt_small (x : Int) (bl : Nat) (h0 : -64 ≤ x) (h1 : x ≤ 63) (w : World) (hc : w.cell? ⟨bl, 0, none⟩ = some (.int .i64 x)) :
    Calls Try.prog 17 #[.slice none 0 0, .slice (some ⟨bl, 0, none⟩) 1 1] w fun e w' => ∃ g cap, e = .returned (.slice (some ⟨g, 0, none⟩) 1 cap) ∧ Below w.heap.size w w' := by
  refine (packInt_one x bl (by omega) (by omega) w hc).mono ?_
  rintro e w' ⟨v', rfl, hB, hb⟩
  have hz : Lib.zigzag x < 128 := by simp only [Lib.zigzag]; split <;> omega
  rw [Lib.uvarint_small hz] at hB
  rcases Bs_cases hB with ⟨_, h⟩ | ⟨g, cap, rfl, _⟩
  · simp at h
  · exact ⟨g, cap, rfl, hb⟩

theorem uvarint_mono : ∀ (n a b : Nat), b ≤ n → a ≤ b → (Lib.uvarint a).length ≤ (Lib.uvarint b).length
  | n, a, b, hn, hab => by
    by_cases ha : a < 128
    · rw [Lib.uvarint_small ha]; exact Lib.uvarint_pos b
    · rw [Lib.uvarint_big (by omega), Lib.uvarint_big (x := b) (by omega), List.length_cons, List.length_cons]
      match n with
      | 0 => omega
      | n + 1 => have := uvarint_mono n (a / 128) (b / 128) (by omega) (by omega); omega

theorem uvarint_prefix (a b : Nat) (ha : a < 18446744073709551616) (hb : b < 18446744073709551616) (h : (Lib.uvarint b).take (Lib.uvarint a).length = Lib.uvarint a) : a = b := by
  have e : Lib.uvarint b = Lib.uvarint a ++ (Lib.uvarint b).drop (Lib.uvarint a).length := by
    have := List.take_append_drop (Lib.uvarint a).length (Lib.uvarint b)
    rw [h] at this
    exact this.symm
  have h1 := rd_uvarint b [] hb
  rw [List.append_nil, e, rd_uvarint a _ ha] at h1
  simp only [Option.some.injEq, Prod.mk.injEq] at h1
  exact h1.1

theorem bcell {W w1 : World} (hb : Below W.heap.size W w1) : ∀ b o, b < W.heap.size → w1.cell? ⟨b, o, none⟩ = W.cell? ⟨b, o, none⟩ :=
  fun b o h => hb.cell (p := ⟨b, o, none⟩) h

/-- Bytes that were made behind W stay as they are, whatever is made behind them. -/
theorem conv_later {W w1 : World} {B : Nat} {v : Value} {l : List UInt8} (hb : Below W.heap.size W w1) (hs : Bs W B v l) : (convert 24 9 v).run Try.prog w1 = .ok (.string ⟨l.toArray⟩) w1 :=
  bs_string (Below.bs hb hs (fun k hk => (World.ownsRow.lt hs k hk).2))

def ShortCut (a b : Nat) (w : World) (s5 s6 : Value) (wx : World) : Prop :=
  s5 = .string (str (Lib.uvarint a)) ∧ s6 = .string (str (Lib.uvarint b)) ∧ Below w.heap.size w wx

theorem str_ne {l r : List UInt8} (h : r.take l.length ≠ l) : (((str r).extract 0 (str l).size).toList == (str l).toList) = false := by
  rw [str_size, str_take, str_toList, str_toList]
  exact beq_eq_false_iff_ne.2 h

theorem cell_new1 (w : World) (v : Value) (T : TypeId) : (w.alloc (.cells #[v] T)).cell? ⟨w.heap.size, 0, none⟩ = some v := by
  rw [World.cell?_alloc_at _ _ _ _ rfl]; rfl

set_option maxHeartbeats 1600000 in
theorem short_le (a b : Nat) (hab : a ≤ b) (hb : b < 18446744073709551616) (w : World) :
    Calls Try.prog 5 #[.int .u64 (a : Int), .int .u64 (b : Int)] w fun e w' => e = .returned (.bool true) ∧ Below w.heap.size w w' := by
  have ha : a < 18446744073709551616 := by omega
  go_enter Try.func5, Try.ntmps5
  go_upto_region 3 with fail
  go_cut [5, 6] (fun s5 s6 wx => ShortCut a b w s5 s6 wx)
  case first =>
    go_region_with (first
      | (go_at_call 16; refine (packNum_one a _ ha _ ?_).mono ?_; (focus (first | (go_cell; done) | (simp; done))); rintro e w1 ⟨v1, rfl, hB1, hb1⟩; have hv1 := bs_string hB1; have hv1' := fun o => bs_string (World.ownsRow.alloc hB1 o); have hc1 := bcell hb1; have kb1 : Below w.heap.size w w1 := Below.trans (by go_grown) (hb1.mono (by simp <;> omega)))
      | (go_at_call 16; refine (packNum_one b _ hb _ ?_).mono ?_; (focus (first | (go_cell; done) | (simp; done))); rintro e w2 ⟨v2, rfl, hB2, hb2⟩; have hv2 := bs_string hB2; have hv12 : (convert 24 9 v1).run Try.prog w2 = .ok (.string ⟨(Lib.uvarint a).toArray⟩) w2 := by { first | exact conv_later hb2 hB1 | exact conv_later hb2 (World.ownsRow.alloc hB1 _) }; have kb2 : Below w.heap.size w w2 := by { first | exact kb1.trans (hb2.mono kb1.size) | exact (kb1.alloc kb1.size _).trans (hb2.mono (by have := kb1.size; simp; omega)) }))
    all_goals (go_wp2_with fail; go_meet; exact ⟨rfl, rfl, kb2⟩)
  case rest =>
    obtain ⟨rfl, rfl, hbel⟩ := hcut
    have hx : (str (Lib.uvarint a)).size = (Lib.uvarint a).length := str_size _
    have hy : (str (Lib.uvarint b)).size = (Lib.uvarint b).length := str_size _
    have h1 : (str (Lib.uvarint a)).size ≤ (str (Lib.uvarint b)).size := by rw [hx, hy]; exact uvarint_mono b a b (Nat.le_refl _) hab
    have h2 : (str (Lib.uvarint b)).size ≤ 10 := by rw [hy]; exact Lib.uvarint_length64 hb
    have h3 : 1 ≤ (str (Lib.uvarint a)).size := by rw [hx]; exact Lib.uvarint_pos a
    have h4 : a ≠ b → (((str (Lib.uvarint b)).extract 0 (str (Lib.uvarint a)).size).toList == (str (Lib.uvarint a)).toList) = false := fun hne => str_ne (fun h => hne (uvarint_prefix a b ha hb h))
    clear hx hy
    generalize str (Lib.uvarint a) = X at *
    generalize str (Lib.uvarint b) = Y at *
    have HB := Lib.hid hbel
    clear hbel
    have b1 : decide (Y.size < X.size) = false := decide_eq_false (by omega)
    have b2 : decide ((10 : Int) < (Y.size : Int)) = false := decide_eq_false (by omega)
    have b3 : ((X.size : Int) == 0) = false := beq_eq_false_iff_ne.2 (by omega)
    have hA : (0 : Int) ≤ (a : Int) % 64 ∧ (a : Int) % 64 < 64 := by omega
    obtain ⟨hA1, hA2⟩ := hA
    by_cases hne : a = b
    · have n1 : ((a : Int) != (b : Int)) = false := by rw [bne_eq_false_iff_eq, hne]
      clear h4 hne
      go_wp2_with fail
      refine (packInt_small _ _ (by omega) (by omega) _ (cell_new1 _ _ _)).mono ?_
      rintro e w1 ⟨g1, c1, rfl, hb1⟩
      have HB1 := Lib.hid (HB.out.trans (((Below.refl _ _).alloc (Nat.le_refl _) _).trans (hb1.mono (by simp)) |>.mono HB.out.size))
      clear hb1 HB
      go_wp2_with fail
      refine (packInt_small _ _ (by omega) (by omega) _ (cell_new1 _ _ _)).mono ?_
      rintro e w2 ⟨g2, c2, rfl, hb2⟩
      have HB2 := Lib.hid (HB1.out.trans (((Below.refl _ _).alloc (Nat.le_refl _) _).trans (hb2.mono (by simp)) |>.mono HB1.out.size))
      clear hb2 HB1
      go_wp2_with fail
      refine (packInt_small _ _ (by omega) (by omega) _ (cell_new1 _ _ _)).mono ?_
      rintro e w3 ⟨g3, c3, rfl, hb3⟩
      have HB3 := Lib.hid (HB2.out.trans (((Below.refl _ _).alloc (Nat.le_refl _) _).trans (hb3.mono (by simp)) |>.mono HB2.out.size))
      clear hb3 HB2
      go_wp2_with fail
      refine (head_any _).mono ?_
      rintro e w4 ⟨rfl, hb4⟩
      have HB4 := Lib.hid (HB3.out.trans (hb4.mono HB3.out.size))
      go_wp2
      go_ret
      exact ⟨rfl, HB4.out⟩
    · have n1 : ((a : Int) != (b : Int)) = true := by rw [bne_iff_ne]; omega
      have n2 := h4 hne
      clear h4
      go_wp2_with fail
      refine (packInt_small _ _ (by omega) (by omega) _ (cell_new1 _ _ _)).mono ?_
      rintro e w1 ⟨g1, c1, rfl, hb1⟩
      have HB1 := Lib.hid (HB.out.trans (((Below.refl _ _).alloc (Nat.le_refl _) _).trans (hb1.mono (by simp)) |>.mono HB.out.size))
      clear hb1 HB
      go_wp2_with fail
      refine (packInt_small _ _ (by omega) (by omega) _ (cell_new1 _ _ _)).mono ?_
      rintro e w2 ⟨g2, c2, rfl, hb2⟩
      have HB2 := Lib.hid (HB1.out.trans (((Below.refl _ _).alloc (Nat.le_refl _) _).trans (hb2.mono (by simp)) |>.mono HB1.out.size))
      clear hb2 HB1
      go_wp2_with fail
      refine (packInt_small _ _ (by omega) (by omega) _ (cell_new1 _ _ _)).mono ?_
      rintro e w3 ⟨g3, c3, rfl, hb3⟩
      have HB3 := Lib.hid (HB2.out.trans (((Below.refl _ _).alloc (Nat.le_refl _) _).trans (hb3.mono (by simp)) |>.mono HB2.out.size))
      clear hb3 HB2
      go_wp2_with fail
      refine (head_any _).mono ?_
      rintro e w4 ⟨rfl, hb4⟩
      have HB4 := Lib.hid (HB3.out.trans (hb4.mono HB3.out.size))
      go_wp2
      go_ret
      exact ⟨rfl, HB4.out⟩

set_option maxHeartbeats 1600000 in
theorem short_gt (a b : Nat) (hlt : a < b) (hb : b < 18446744073709551616) (w : World) :
    Calls Try.prog 5 #[.int .u64 (b : Int), .int .u64 (a : Int)] w fun e w' => e = .returned (.bool true) ∧ Below w.heap.size w w' := by
  have hab : a ≤ b := Nat.le_of_lt hlt
  have ha : a < 18446744073709551616 := by omega
  go_enter Try.func5, Try.ntmps5
  go_upto_region 3 with fail
  go_cut [5, 6] (fun s5 s6 wx => ShortCut a b w s5 s6 wx)
  case first =>
    go_region_with (first
      | (go_at_call 16; refine (packNum_one a _ ha _ ?_).mono ?_; (focus (first | (go_cell; done) | (simp; done))); rintro e w1 ⟨v1, rfl, hB1, hb1⟩; have hv1 := bs_string hB1; have hv1' := fun o => bs_string (World.ownsRow.alloc hB1 o); have hc1 := bcell hb1; have kb1 : Below w.heap.size w w1 := Below.trans (by go_grown) (hb1.mono (by simp <;> omega)))
      | (go_at_call 16; refine (packNum_one b _ hb _ ?_).mono ?_; (focus (first | (go_cell; done) | (simp; done))); rintro e w2 ⟨v2, rfl, hB2, hb2⟩; have hv2 := bs_string hB2; have hv12 : (convert 24 9 v1).run Try.prog w2 = .ok (.string ⟨(Lib.uvarint a).toArray⟩) w2 := by { first | exact conv_later hb2 hB1 | exact conv_later hb2 (World.ownsRow.alloc hB1 _) }; have kb2 : Below w.heap.size w w2 := by { first | exact kb1.trans (hb2.mono kb1.size) | exact (kb1.alloc kb1.size _).trans (hb2.mono (by have := kb1.size; simp; omega)) }))
    all_goals (go_wp2_with fail; go_meet; exact ⟨rfl, rfl, kb2⟩)
  case rest =>
    obtain ⟨rfl, rfl, hbel⟩ := hcut
    have hx : (str (Lib.uvarint a)).size = (Lib.uvarint a).length := str_size _
    have hy : (str (Lib.uvarint b)).size = (Lib.uvarint b).length := str_size _
    have h1 : (str (Lib.uvarint a)).size ≤ (str (Lib.uvarint b)).size := by rw [hx, hy]; exact uvarint_mono b a b (Nat.le_refl _) hab
    have h2 : (str (Lib.uvarint b)).size ≤ 10 := by rw [hy]; exact Lib.uvarint_length64 hb
    have h3 : 1 ≤ (str (Lib.uvarint a)).size := by rw [hx]; exact Lib.uvarint_pos a
    have h4 : a ≠ b → (((str (Lib.uvarint b)).extract 0 (str (Lib.uvarint a)).size).toList == (str (Lib.uvarint a)).toList) = false := fun hne => str_ne (fun h => hne (uvarint_prefix a b ha hb h))
    clear hx hy
    generalize str (Lib.uvarint a) = X at *
    generalize str (Lib.uvarint b) = Y at *
    have HB := Lib.hid hbel
    clear hbel
    have b1 : decide (Y.size < X.size) = false := decide_eq_false (by omega)
    have b2 : decide ((10 : Int) < (Y.size : Int)) = false := decide_eq_false (by omega)
    have b3 : ((X.size : Int) == 0) = false := beq_eq_false_iff_ne.2 (by omega)
    have hA : (0 : Int) ≤ (a : Int) % 64 ∧ (a : Int) % 64 < 64 := by omega
    obtain ⟨hA1, hA2⟩ := hA
    by_cases hne : a = b
    · have n1 : ((a : Int) != (b : Int)) = false := by rw [bne_eq_false_iff_eq, hne]
      clear h4 hne
      go_wp2_with fail
      refine (packInt_small _ _ (by omega) (by omega) _ (cell_new1 _ _ _)).mono ?_
      rintro e w1 ⟨g1, c1, rfl, hb1⟩
      have HB1 := Lib.hid (HB.out.trans (((Below.refl _ _).alloc (Nat.le_refl _) _).trans (hb1.mono (by simp)) |>.mono HB.out.size))
      clear hb1 HB
      go_wp2_with fail
      refine (packInt_small _ _ (by omega) (by omega) _ (cell_new1 _ _ _)).mono ?_
      rintro e w2 ⟨g2, c2, rfl, hb2⟩
      have HB2 := Lib.hid (HB1.out.trans (((Below.refl _ _).alloc (Nat.le_refl _) _).trans (hb2.mono (by simp)) |>.mono HB1.out.size))
      clear hb2 HB1
      go_wp2_with fail
      refine (packInt_small _ _ (by omega) (by omega) _ (cell_new1 _ _ _)).mono ?_
      rintro e w3 ⟨g3, c3, rfl, hb3⟩
      have HB3 := Lib.hid (HB2.out.trans (((Below.refl _ _).alloc (Nat.le_refl _) _).trans (hb3.mono (by simp)) |>.mono HB2.out.size))
      clear hb3 HB2
      go_wp2_with fail
      refine (head_any _).mono ?_
      rintro e w4 ⟨rfl, hb4⟩
      have HB4 := Lib.hid (HB3.out.trans (hb4.mono HB3.out.size))
      go_wp2
      go_ret
      exact ⟨rfl, HB4.out⟩
    · have n1 : ((a : Int) != (b : Int)) = true := by rw [bne_iff_ne]; omega
      have n2 := h4 hne
      clear h4
      go_wp2_with fail
      refine (packInt_small _ _ (by omega) (by omega) _ (cell_new1 _ _ _)).mono ?_
      rintro e w1 ⟨g1, c1, rfl, hb1⟩
      have HB1 := Lib.hid (HB.out.trans (((Below.refl _ _).alloc (Nat.le_refl _) _).trans (hb1.mono (by simp)) |>.mono HB.out.size))
      clear hb1 HB
      go_wp2_with fail
      refine (packInt_small _ _ (by omega) (by omega) _ (cell_new1 _ _ _)).mono ?_
      rintro e w2 ⟨g2, c2, rfl, hb2⟩
      have HB2 := Lib.hid (HB1.out.trans (((Below.refl _ _).alloc (Nat.le_refl _) _).trans (hb2.mono (by simp)) |>.mono HB1.out.size))
      clear hb2 HB1
      go_wp2_with fail
      refine (packInt_small _ _ (by omega) (by omega) _ (cell_new1 _ _ _)).mono ?_
      rintro e w3 ⟨g3, c3, rfl, hb3⟩
      have HB3 := Lib.hid (HB2.out.trans (((Below.refl _ _).alloc (Nat.le_refl _) _).trans (hb3.mono (by simp)) |>.mono HB2.out.size))
      clear hb3 HB2
      go_wp2_with fail
      refine (head_any _).mono ?_
      rintro e w4 ⟨rfl, hb4⟩
      have HB4 := Lib.hid (HB3.out.trans (hb4.mono HB3.out.size))
      go_wp2
      go_ret
      exact ⟨rfl, HB4.out⟩
end Go.Proofs.Ytjfachkonnfldaa
