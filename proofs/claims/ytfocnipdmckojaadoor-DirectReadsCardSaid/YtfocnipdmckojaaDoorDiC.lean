/- The contract of find: the word and the fields of a kind. -/
import Derived.Test.YtfocnipdmckojaaDoorDiB
import Derived.Deep.LoopGhost
import Derived.BigQuiet
set_option linter.unusedVariables false
namespace Go.Proofs.YtfocnipdmckojaaDoor.gn
open Go.RowKit
open Go.Proofs.YtfocnipdmckojaaDoor.un
open Go.Proofs.YtfocnipdmckojaaDoor.di

theorem has_isSome (L : List (Tx × Value)) (j : Tx) : Maps.has (datV L) (.string j) = (fi.get j L).isSome := datV_has j L
theorem same_str (j k : Tx) : (Lit.string j).sameKey (.string k) = decide (j = k) := by
  show (j == k) = _
  rw [Bool.eq_iff_iff, beq_iff_eq, decide_eq_true_eq]

theorem kw_inj {k q : Nat} (hk : 1 ≤ k ∧ k ≤ 6) (hq : 1 ≤ q ∧ q ≤ 6) (h : kw k = kw q) : k = q := by
  have h1 := kind_kw hk
  rw [h, kind_kw hq] at h1
  exact (Option.some.inj h1).symm
/-- What find tells of a kind that there is. -/
def FindT (k : Nat) (w : World) (e : Ending) (w' : World) : Prop :=
  ∃ a, e = .returned (.tuple #[.string (str (kw k)), .slice (some ⟨a, 0, none⟩) (fldL k).length (fldL k).length, .bool true]) ∧ Flds w' a (fldL k) ∧ w.heap.size ≤ a ∧ Below w.heap.size w w'

set_option maxRecDepth 100000 in
set_option maxHeartbeats 3200000 in
theorem kfind_yes (k : Nat) (hk : 1 ≤ k ∧ k ≤ 6) (w : World) : Calls Tryd.prog 25 #[.int .u8 (k : Nat)] w (FindT k w) := by
  have HK := Lib.hid hk
  have hk6 : k ≤ 6 := hk.2
  clear hk
  go_enter Tryd.func25, Tryd.ntmps25
  go_wp2_with (first
    | (go_at_call 17; refine (rows_any _).mono ?_; rintro e w1 ⟨b, L, a, rfl, hr, hb⟩; have HR := Lib.hid hr; have HB := Lib.hid hb; clear hr hb)
    | (at_range; refine wpList_range_map _ rfl _ 46 _ rfl Tryd.underlying46 b L rfl HR.out.m ?_; intro w2 hrg hb2 hs2; have HRG := Lib.hid hrg; have HB2 := Lib.hid hb2; clear hrg hb2))
  have HB3 := Lib.hid (HB.out.trans (HB2.out.mono HB.out.size))
  have HL := Lib.hid (show Maps.has (datV L) (.string (kw k)) = true by rw [has_isSome, HR.out.get, kind_kw HK.out]; rfl)
  go_frame
  go_loopw [9] (fun _ wr => ∃ left cnt, Aside (RngV wr b w1.heap.size L left cnt) ∧ Aside (left (.string (kw k)) = true) ∧ Aside (Below w.heap.size w wr) ∧ Aside (Below w1.heap.size w1 wr)) (fun _ wr => wr.rangeLeft b w1.heap.size)
  case atStart => exact ⟨_, _, HRG.out, HL.out, HB3.out, HB2.out⟩
  case round =>
    obtain ⟨left, cnt, hrg, hlf, hbw, hbw1⟩ := hrel
    go_wp2_with (at_next; refine wpList_next_map _ rfl _ rfl b w1.heap.size L left cnt rfl hrg ?_ ?_)
    · intro hc0 hl0
      have : left (.string (kw k)) = true := hlf
      rw [hl0] at this
      cases this
    · intro j v w4 cnt4 hg hlj hrg4 hlt hbt hs4 hen
      have hgj := HR.out.get j
      rw [hg] at hgj
      obtain ⟨q, hq, hv⟩ := Option.map_eq_some_iff.1 hgj.symm
      subst hv
      obtain ⟨hj, hq6⟩ := kind_some hq
      subst hj
      have HF := Lib.hid (HR.out.flds q hq6)
      have HQ := Lib.hid hq6
      have HG4 := Lib.hid hrg4
      have HLT := Lib.hid hlt
      have HBT := Lib.hid hbt
      have hq66 : q ≤ 6 := hq6.2
      have HB4 := Lib.hid (show Below w.heap.size w w4 from (show Below w.heap.size w wr from hbw).grown hbt (show Below w.heap.size w wr from hbw).size (fun i hi => by cases hi; exact HB.out.size))
      have HB41 := Lib.hid (show Below w1.heap.size w1 w4 from (show Below w1.heap.size w1 wr from hbw1).grown hbt (show Below w1.heap.size w1 wr from hbw1).size (fun i hi => by cases hi; exact Nat.le_refl _))
      have HRG0 := Lib.hid (show RngV wr b w1.heap.size L left cnt from hrg)
      have HLF := Lib.hid (show left (.string (kw k)) = true from hlf)
      unfold rowV at hen
      clear hg hgj hq hrg4 hlt hbt hbw hbw1 hrg hlf hlj hq6
      by_cases hqk : q = k
      · subst hqk
        go_wp2_with (go_quiet (fail))
        go_ret3
        refine ⟨a q, rfl, ?_, HF.out.2, ?_⟩
        · exact HF.out.1.next ((HB41.out.alloc HB41.out.size _).trans (Joins.below_draws _ _ _))
        · exact (HB4.out.alloc HB4.out.size _).trans (Joins.below_draws _ _ _)
      · have hne : (((q : Nat) : Int) == ((k : Nat) : Int)) = false := by rw [beq_eq_false_iff_ne]; omega
        have HNE := Lib.hid hqk
        generalize (fldL q).length = n at *
        clear hqk
        go_wp2
        go_roundw
        case rel =>
          have hy : Below w4.heap.size w4 (w4.alloc (.cells #[.int .u8 (q : Nat), .slice (some ⟨a q, 0, none⟩) n n] 44)) := (Below.refl _ _).alloc (Nat.le_refl _) _
          refine ⟨_, cnt4, HG4.out.next hy, ?_, HB4.out.trans (hy.mono HB4.out.size), HB41.out.trans (hy.mono HB41.out.size)⟩
          show (left (.string (kw k)) && !(Lit.string (kw k)).sameKey (.string (kw q))) = true
          rw [HLF.out, same_str, decide_eq_false (fun e => HNE.out (kw_inj HK.out HQ.out e).symm)]
          rfl
        case measure =>
          have hy : Below w4.heap.size w4 (w4.alloc (.cells #[.int .u8 (q : Nat), .slice (some ⟨a q, 0, none⟩) n n] 44)) := (Below.refl _ _).alloc (Nat.le_refl _) _
          rw [(HG4.out.next hy).left_eq, HRG0.out.left_eq]
          exact HLT.out
set_option maxRecDepth 100000 in
set_option maxHeartbeats 3200000 in
theorem kfind_no (k : Nat) (hk : ¬ (1 ≤ k ∧ k ≤ 6)) (w : World) : Calls Tryd.prog 25 #[.int .u8 (k : Nat)] w (Told (.tuple #[.string (str []), .slice none 0 0, .bool false]) w) := by
  have HK := Lib.hid hk
  clear hk
  go_enter Tryd.func25, Tryd.ntmps25
  go_wp2_with (first
    | (go_at_call 17; refine (rows_any _).mono ?_; rintro e w1 ⟨b, L, a, rfl, hr, hb⟩; have HR := Lib.hid hr; have HB := Lib.hid hb; clear hr hb)
    | (at_range; refine wpList_range_map _ rfl _ 46 _ rfl Tryd.underlying46 b L rfl HR.out.m ?_; intro w2 hrg hb2 hs2; have HRG := Lib.hid hrg; have HB2 := Lib.hid hb2; clear hrg hb2))
  have HB3 := Lib.hid (HB.out.trans (HB2.out.mono HB.out.size))
  go_frame
  go_loopw [9] (fun _ wr => ∃ left cnt, Aside (RngV wr b w1.heap.size L left cnt) ∧ Aside (Below w.heap.size w wr) ∧ Aside (Below w1.heap.size w1 wr)) (fun _ wr => wr.rangeLeft b w1.heap.size)
  case atStart => exact ⟨_, _, HRG.out, HB3.out, HB2.out⟩
  case round =>
    obtain ⟨left, cnt, hrg, hbw, hbw1⟩ := hrel
    go_wp2_with (at_next; refine wpList_next_map _ rfl _ rfl b w1.heap.size L left cnt rfl hrg ?_ ?_)
    · intro hc0 hl0
      have HBW := Lib.hid (show Below w.heap.size w wr from hbw)
      clear hbw hbw1 hrg
      go_wp2
      go_ret3
      exact ⟨rfl, HBW.out⟩
    · intro j v w4 cnt4 hg hlj hrg4 hlt hbt hs4 hen
      have hgj := HR.out.get j
      rw [hg] at hgj
      obtain ⟨q, hq, hv⟩ := Option.map_eq_some_iff.1 hgj.symm
      subst hv
      obtain ⟨hj, hq6⟩ := kind_some hq
      subst hj
      have HF := Lib.hid (HR.out.flds q hq6)
      have HQ := Lib.hid hq6
      have HG4 := Lib.hid hrg4
      have HLT := Lib.hid hlt
      have HBT := Lib.hid hbt
      have hq66 : q ≤ 6 := hq6.2
      have HB4 := Lib.hid (show Below w.heap.size w w4 from (show Below w.heap.size w wr from hbw).grown hbt (show Below w.heap.size w wr from hbw).size (fun i hi => by cases hi; exact HB.out.size))
      have HB41 := Lib.hid (show Below w1.heap.size w1 w4 from (show Below w1.heap.size w1 wr from hbw1).grown hbt (show Below w1.heap.size w1 wr from hbw1).size (fun i hi => by cases hi; exact Nat.le_refl _))
      have HRG0 := Lib.hid (show RngV wr b w1.heap.size L left cnt from hrg)
      unfold rowV at hen
      clear hg hgj hq hrg4 hlt hbt hbw hbw1 hrg hlj hq6
      · have hne : (((q : Nat) : Int) == ((k : Nat) : Int)) = false := by
          have := HQ.out; have := HK.out
          rw [beq_eq_false_iff_ne]; omega
        generalize (fldL q).length = n at *
        go_wp2
        go_roundw
        case rel =>
          have hy : Below w4.heap.size w4 (w4.alloc (.cells #[.int .u8 (q : Nat), .slice (some ⟨a q, 0, none⟩) n n] 44)) := (Below.refl _ _).alloc (Nat.le_refl _) _
          refine ⟨_, cnt4, HG4.out.next hy, HB4.out.trans (hy.mono HB4.out.size), HB41.out.trans (hy.mono HB41.out.size)⟩
        case measure =>
          have hy : Below w4.heap.size w4 (w4.alloc (.cells #[.int .u8 (q : Nat), .slice (some ⟨a q, 0, none⟩) n n] 44)) := (Below.refl _ _).alloc (Nat.le_refl _) _
          rw [(HG4.out.next hy).left_eq, HRG0.out.left_eq]
          exact HLT.out
end Go.Proofs.YtfocnipdmckojaaDoor.gn
