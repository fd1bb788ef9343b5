/- The contract of the document's Of (layer 8). -/
import Derived.Test.YtmaohncddjhgeaaGreatMSnE
import Derived.Test.YtmaohncddjhgeaaGreatMGen
import Derived.Test.YtmaohncddjhgeaaGreatMFrO
section
set_option linter.unusedVariables false
namespace Go.Proofs.YtmaohncddjhgeaaGreat.fi
open Go.Proofs.YtmaohncddjhgeaaGreat.gn (frame frame_len fst? fst_some)
theorem own_body {b t : List UInt8} (h : own b = some t) : t = (b.drop 12).take (b.length - 20) := by
  unfold own at h
  cases hf : fst? b with
  | none => rw [hf] at h; cases h
  | some u =>
    rw [hf] at h
    simp only [Option.bind_some] at h
    split at h
    · rename_i hl
      cases h
      obtain ⟨_, _, _, h4, h5⟩ := fst_some hf
      rw [← h5] at h4
      have : b.length - 20 = t.length := by omega
      rw [this]
      exact h4
    · cases h
theorem own_len {b : List UInt8} (h : b.length < 20) : own b = none := by
  cases ho : own b with
  | none => rfl
  | some t =>
    have h2 := congrArg List.length (own_some ho).2
    rw [frame_len] at h2
    omega
theorem own_yes {b : List UInt8} (hl : b.length ≤ 1000) (h : frame ((b.drop 12).take (b.length - 20)) = b) : own b = some ((b.drop 12).take (b.length - 20)) := by
  have h2 := own_frame (t := (b.drop 12).take (b.length - 20)) (by rw [List.length_take, List.length_drop]; omega)
  rw [h] at h2
  exact h2
theorem own_no {b : List UInt8} (h : frame ((b.drop 12).take (b.length - 20)) ≠ b) : own b = none := by
  cases ho : own b with
  | none => rfl
  | some t =>
    have h1 := own_body ho
    have h2 := (own_some ho).2
    rw [h1] at h2
    exact absurd h2.symm h
end Go.Proofs.YtmaohncddjhgeaaGreat.fi

namespace Go.Proofs.YtmaohncddjhgeaaGreat.gn
open Go.RowKit
open Go.Proofs.YtmaohncddjhgeaaGreat.fi

set_option maxRecDepth 100000
set_option maxHeartbeats 1000000
theorem of_any (b : List UInt8) (hl : b.length ≤ 1000) (w : World) :
    Calls Tryz.prog 21 #[.string (str b)] w (Asks (.tuple #[.string (str ((own b).getD [])), .bool (own b).isSome]) w) := by
  have hss : (str b).size = b.length := str_size b
  by_cases h20 : b.length < 20
  · have ho := own_len h20
    rw [ho]
    show Calls _ _ _ _ (Asks (.tuple #[.string ⟨#[]⟩, .bool false]) w)
    go_enter Tryz.func21, Tryz.ntmps21
    go_wp2
    go_ret2
    exact ⟨rfl, Below.refl _ _⟩
  · have hsl := sl_mid b 12 ((b.length : Int) - 8) 12 (b.length - 20) rfl (by omega) (by omega)
    have hbl : ((b.drop 12).take (b.length - 20)).length = b.length - 20 := by rw [List.length_take, List.length_drop]; omega
    obtain ⟨t, ht⟩ : ∃ t, (b.drop 12).take (b.length - 20) = t := ⟨_, rfl⟩
    have hy := @own_yes b hl
    have hn := @own_no b
    rw [ht] at hsl hbl hy hn
    have hts : (str t).size = t.length := str_size t
    by_cases he : frame t = b
    · have ho := hy he
      rw [ho]
      show Calls _ _ _ _ (Asks (.tuple #[.string (str t), .bool true]) w)
      have k1 : ((str (frame t)).toList == (str b).toList) = true := by rw [str_toList, str_toList]; exact beq_iff_eq.2 he
      have k2 : ((str (frame t)).toList != (str b).toList) = false := by rw [bne, k1]; rfl
      clear hy hn ho ht he
      go_enter Tryz.func21, Tryz.ntmps21
      go_wp2_with fail
      refine (one_any t (by omega) _).mono ?_
      rintro e w1 ⟨rfl, hb1⟩
      have HB1 := Lib.hid hb1
      clear hb1
      go_wp2
      go_ret2
      exact ⟨rfl, HB1.out⟩
    · have ho := hn he
      rw [ho]
      show Calls _ _ _ _ (Asks (.tuple #[.string ⟨#[]⟩, .bool false]) w)
      have k1 : ((str (frame t)).toList == (str b).toList) = false := by rw [str_toList, str_toList]; exact beq_eq_false_iff_ne.2 he
      have k2 : ((str (frame t)).toList != (str b).toList) = true := by rw [bne, k1]; rfl
      clear hy hn ho ht he
      go_enter Tryz.func21, Tryz.ntmps21
      go_wp2_with fail
      refine (one_any t (by omega) _).mono ?_
      rintro e w1 ⟨rfl, hb1⟩
      have HB1 := Lib.hid hb1
      clear hb1
      go_wp2
      go_ret2
      exact ⟨rfl, HB1.out⟩
end Go.Proofs.YtmaohncddjhgeaaGreat.gn
end
