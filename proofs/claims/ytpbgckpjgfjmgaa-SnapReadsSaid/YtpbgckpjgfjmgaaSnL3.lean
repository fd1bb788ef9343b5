/- SnapReads: the contract of the document's Of; the walk of the law. -/
import Derived.Test.YtpbgckpjgfjmgaaSnH
import Derived.Test.YtpbgckpjgfjmgaaFrO
set_option linter.unusedVariables false
namespace Go.Proofs.Ytpbgckpjgfjmgaa.fi
open Go.Proofs.Ytpbgckpjgfjmgaa.gn (frame frame_len fst? fst_some)
theorem own_body {b t : List UInt8} (h : own b = some t) : t = (b.drop 12).take (b.length - 20) := by
  unfold own at h
  cases hf : fst? b with
  | none => rw [hf] at h; cases h
  | some u =>
    rw [hf] at h
    simp only [Option.bind_some] at h
    split at h
    · rename_i hl
      cases h
      obtain ⟨_, _, _, h4, h5⟩ := fst_some hf
      rw [← h5] at h4
      have : b.length - 20 = t.length := by omega
      rw [this]
      exact h4
    · cases h
theorem own_len {b : List UInt8} (h : b.length < 20) : own b = none := by
  cases ho : own b with
  | none => rfl
  | some t =>
    have h2 := congrArg List.length (own_some ho).2
    rw [frame_len] at h2
    omega
theorem own_yes {b : List UInt8} (hl : b.length ≤ 1000) (h : frame ((b.drop 12).take (b.length - 20)) = b) : own b = some ((b.drop 12).take (b.length - 20)) := by
  have h2 := own_frame (t := (b.drop 12).take (b.length - 20)) (by rw [List.length_take, List.length_drop]; omega)
  rw [h] at h2
  exact h2
theorem own_no {b : List UInt8} (h : frame ((b.drop 12).take (b.length - 20)) ≠ b) : own b = none := by
  cases ho : own b with
  | none => rfl
  | some t =>
    have h1 := own_body ho
    have h2 := (own_some ho).2
    rw [h1] at h2
    exact absurd h2.symm h
end Go.Proofs.Ytpbgckpjgfjmgaa.fi

namespace Go.Proofs.Ytpbgckpjgfjmgaa.gn
open Go.RowKit
open Go.Proofs.Ytpbgckpjgfjmgaa.fi

set_option maxRecDepth 100000
set_option maxHeartbeats 1000000
theorem of_any (b : List UInt8) (hl : b.length ≤ 1000) (w : World) :
    Calls Try.prog 16 #[.string (str b)] w (Asks (.tuple #[.string (str ((own b).getD [])), .bool (own b).isSome]) w) := by
  have hss : (str b).size = b.length := str_size b
  by_cases h20 : b.length < 20
  · have ho := own_len h20
    rw [ho]
    show Calls _ _ _ _ (Asks (.tuple #[.string ⟨#[]⟩, .bool false]) w)
    go_enter Try.func16, Try.ntmps16
    go_wp2
    go_ret2
    exact ⟨rfl, Below.refl _ _⟩
  · have hsl := sl_mid b 12 ((b.length : Int) - 8) 12 (b.length - 20) rfl (by omega) (by omega)
    have hbl : ((b.drop 12).take (b.length - 20)).length = b.length - 20 := by rw [List.length_take, List.length_drop]; omega
    obtain ⟨t, ht⟩ : ∃ t, (b.drop 12).take (b.length - 20) = t := ⟨_, rfl⟩
    have hy := @own_yes b hl
    have hn := @own_no b
    rw [ht] at hsl hbl hy hn
    have hts : (str t).size = t.length := str_size t
    by_cases he : frame t = b
    · have ho := hy he
      rw [ho]
      show Calls _ _ _ _ (Asks (.tuple #[.string (str t), .bool true]) w)
      have k1 : ((str (frame t)).toList == (str b).toList) = true := by rw [str_toList, str_toList]; exact beq_iff_eq.2 he
      have k2 : ((str (frame t)).toList != (str b).toList) = false := by rw [bne, k1]; rfl
      clear hy hn ho ht he
      go_enter Try.func16, Try.ntmps16
      go_wp2_with fail
      refine (one_any t (by omega) _).mono ?_
      rintro e w1 ⟨rfl, hb1⟩
      have HB1 := Lib.hid hb1
      clear hb1
      go_wp2
      go_ret2
      exact ⟨rfl, HB1.out⟩
    · have ho := hn he
      rw [ho]
      show Calls _ _ _ _ (Asks (.tuple #[.string ⟨#[]⟩, .bool false]) w)
      have k1 : ((str (frame t)).toList == (str b).toList) = false := by rw [str_toList, str_toList]; exact beq_eq_false_iff_ne.2 he
      have k2 : ((str (frame t)).toList != (str b).toList) = true := by rw [bne, k1]; rfl
      clear hy hn ho ht he
      go_enter Try.func16, Try.ntmps16
      go_wp2_with fail
      refine (one_any t (by omega) _).mono ?_
      rintro e w1 ⟨rfl, hb1⟩
      have HB1 := Lib.hid hb1
      clear hb1
      go_wp2
      go_ret2
      exact ⟨rfl, HB1.out⟩

theorem reads_short (w : World) (b s : List UInt8) (r : Nat) (hr : r < 65536) (hno : 1000 < b.length ∨ 1000 < s.length ∨ 2000 < r) :
    Calls Try.prog 5 #[.string (str b), .string (str s), .int .u16 (r : Int)] w fun e w' => e = .returned (.bool true) ∧ Below w.heap.size w w' := by
  have hbs : (str b).size = b.length := str_size b
  have hss : (str s).size = s.length := str_size s
  by_cases h1 : 1000 < b.length
  · clear hno
    go_enter Try.func5, Try.ntmps5
    go_wp2_with fail
    refine (head_any _).mono ?_
    rintro e w2 ⟨rfl, hb2⟩
    go_wp2
    go_ret
    exact ⟨rfl, hb2⟩
  · by_cases h2 : 1000 < s.length
    · clear hno
      go_enter Try.func5, Try.ntmps5
      go_wp2_with fail
      refine (head_any _).mono ?_
      rintro e w2 ⟨rfl, hb2⟩
      go_wp2
      go_ret
      exact ⟨rfl, hb2⟩
    · have h3 : 2000 < r := by omega
      clear hno
      go_enter Try.func5, Try.ntmps5
      go_wp2_with fail
      refine (head_any _).mono ?_
      rintro e w2 ⟨rfl, hb2⟩
      go_wp2
      go_ret
      exact ⟨rfl, hb2⟩

theorem reads_long (w : World) (b s : List UInt8) (r : Nat) (h1 : b.length ≤ 1000) (h2 : s.length ≤ 1000) (h3 : r ≤ 2000) :
    Calls Try.prog 5 #[.string (str b), .string (str s), .int .u16 (r : Int)] w fun e w' => e = .returned (.bool true) ∧ Below w.heap.size w w' := by
  have hbs : (str b).size = b.length := str_size b
  have hss : (str s).size = s.length := str_size s
  obtain ⟨Z, hZ⟩ : ∃ Z : Nat → Prop, Z = fun i => i < w.heap.size := ⟨_, rfl⟩
  have H0 := Lib.hid (Hold.none_ w Z fun i hi => by subst hZ; exact hi)
  have hZ' : ∀ i, i < w.heap.size → Z i := fun i hi => by subst hZ; exact hi
  have HZ := Lib.hid hZ'
  have l1 : (frame s).length = 20 + s.length := frame_len _
  have lfs : (str (frame s)).size = (frame s).length := str_size _
  have x1 : lx (some b) = b.length := rfl
  have x0 : lx none = 0 := rfl
  have xf : lx (some (frame s)) = (frame s).length := rfl
  clear hZ' hZ
  go_enter Try.func5, Try.ntmps5
  go_wp2_with fail
  refine (lnew H0.out (b.length + r) (by omega) (by omega)).mono ?_
  rintro e w1 ⟨d, D1, rfl, g, h, a, x, bb⟩
  have H1 := Lib.hid h
  have A1 := Lib.hid a
  have O1 := Lib.hid (Only.of_below (S := Off Z) bb)
  clear g h a x bb
  go_wp2_with fail
  refine (lmake H1.out A1.out).mono ?_
  rintro e w2 ⟨D2, rfl, h, a, x, bb⟩
  have A2 := Lib.hid a
  have O2 := Lib.hid (O1.out.trans bb fun i _ hi => hi)
  have H2 := Lib.hid h
  clear h a x bb
  go_wp2_with fail
  refine (lapp H2.out A2.out b (by omega) (by omega) rfl).mono ?_
  rintro e w3 ⟨D3, rfl, h, a, x, bb⟩
  have A3 := Lib.hid a
  have O3 := Lib.hid (O2.out.trans bb fun i _ hi => hi)
  have H3 := Lib.hid h
  clear h a x bb
  go_wp2_with fail
  refine (lsync H3.out b A3.out (by omega)).mono ?_
  rintro e w4 ⟨D4, rfl, h, a, x, bb⟩
  have A4 := Lib.hid a
  have O4 := Lib.hid (O3.out.trans bb fun i _ hi => hi)
  have H4 := Lib.hid h
  clear h a x bb
  obtain ⟨R, hR⟩ : ∃ R, R = b.length + r := ⟨_, rfl⟩
  rw [← hR] at A4
  obtain ⟨t, q, k, hg, hgk⟩ : ∃ (t : List UInt8) (q : Int) (k : Bool), (sst R (some b) none []).got sN = (t, q) ∧ (t = (own b).getD [] ∧ k = (own b).isSome ∧ (k = true ∧ q = 0 ∨ k = false ∧ q = 80)) := by
    rw [got_some]
    cases ho : own b with
    | none => exact ⟨_, _, _, rfl, rfl, rfl, .inr ⟨rfl, rfl⟩⟩
    | some t => exact ⟨_, _, _, rfl, rfl, rfl, .inl ⟨rfl, rfl⟩⟩
  obtain ⟨ht, hk, hkq⟩ := hgk
  have HG := Lib.hid hg
  have HOF := Lib.hid (of_any b h1)
  rw [← ht, ← hk] at HOF
  clear hg ht hk
  rcases hkq with ⟨rfl, rfl⟩ | ⟨rfl, rfl⟩
  all_goals
    go_wp2_with fail
    refine (lget H4.out A4.out (by omega) (by omega) HG.out (tb := str t) rfl).mono ?_
    rintro e w5 ⟨rfl, bb⟩
    have H5 := Lib.hid (H4.out.below bb)
    have O5 := Lib.hid (O4.out.trans (Only.of_below (S := Off Z) bb) fun i _ hi => hi)
    clear bb
    go_wp2_with fail
    refine (HOF.out _).mono ?_
    rintro e w6 ⟨rfl, bb⟩
    have H6 := Lib.hid (H5.out.below bb)
    have O6 := Lib.hid (O5.out.trans (Only.of_below (S := Off Z) bb) fun i _ hi => hi)
    clear bb
    have q1 : ((str t).toList != (str t).toList) = false := by simp
    by_cases hfit : (frame s).length ≤ r
    · go_wp2_with fail
      refine (lput H6.out A4.out (by omega) (by omega) s (by omega) (by omega) rfl).mono ?_
      rintro e w7 ⟨D7, rfl, h, a, x, bb⟩
      have A7 := Lib.hid a
      have O7 := Lib.hid (O6.out.trans bb fun i _ hi => hi)
      have H7 := Lib.hid h
      clear h a x bb
      go_wp2_with fail
      refine (lread H7.out A7.out rfl).mono ?_
      rintro e w8 ⟨rfl, bb⟩
      have O8 := Lib.hid (O7.out.trans (Only.of_below (S := Off Z) bb) fun i _ hi => hi)
      clear bb
      go_wp2_with fail
      refine (one_any s (by omega) _).mono ?_
      rintro e w9 ⟨rfl, bb⟩
      have O9 := Lib.hid (O8.out.trans (Only.of_below (S := Off Z) bb) fun i _ hi => hi)
      clear bb
      go_wp2_with fail
      refine (one_any s (by omega) _).mono ?_
      rintro e w10 ⟨rfl, bb⟩
      have O10 := Lib.hid (O9.out.trans (Only.of_below (S := Off Z) bb) fun i _ hi => hi)
      clear bb
      have q2 : ((str (frame s)).toList == (str (frame s)).toList) = true := by simp
      go_wp2_with fail
      refine (head_any _).mono ?_
      rintro e w11 ⟨rfl, bb⟩
      have O11 := Lib.hid (O10.out.trans (Only.of_below (S := Off Z) bb) fun i _ hi => hi)
      clear bb
      go_wp2
      go_ret
      exact ⟨rfl, O11.out.belowZ HZ.out (Nat.le_refl _)⟩
    · go_wp2_with fail
      refine (lput_no H6.out A4.out (by omega) (by omega) s (by omega) (by omega) rfl).mono ?_
      rintro e w7 ⟨D7, rfl, h, a, x, bb⟩
      have A7 := Lib.hid a
      have O7 := Lib.hid (O6.out.trans bb fun i _ hi => hi)
      have H7 := Lib.hid h
      clear h a x bb
      go_wp2_with fail
      refine (lread H7.out A7.out rfl).mono ?_
      rintro e w8 ⟨rfl, bb⟩
      have O8 := Lib.hid (O7.out.trans (Only.of_below (S := Off Z) bb) fun i _ hi => hi)
      clear bb
      go_wp2_with fail
      refine (one_any s (by omega) _).mono ?_
      rintro e w9 ⟨rfl, bb⟩
      have O9 := Lib.hid (O8.out.trans (Only.of_below (S := Off Z) bb) fun i _ hi => hi)
      clear bb
      have q2 : ((str b).toList == (str b).toList) = true := by simp
      go_wp2_with fail
      refine (head_any _).mono ?_
      rintro e w11 ⟨rfl, bb⟩
      have O11 := Lib.hid (O9.out.trans (Only.of_below (S := Off Z) bb) fun i _ hi => hi)
      clear bb
      go_wp2
      go_ret
      exact ⟨rfl, O11.out.belowZ HZ.out (Nat.le_refl _)⟩
end Go.Proofs.Ytpbgckpjgfjmgaa.gn
