/- Contracts of the closures that store a field, and of stores. -/
import Derived.Test.YtfocnipdmckojaaDoorDiE
set_option linter.unusedVariables false
namespace Go.Proofs.YtfocnipdmckojaaDoor.gn
open Go.RowKit
open Go.Proofs.YtfocnipdmckojaaDoor.un
open Go.Proofs.YtfocnipdmckojaaDoor.di

theorem sto_name (v : Tx) (d : Dir) : sto nameK v d = if isName v = true then { d with name := v } else d := by unfold sto; rw [if_pos rfl]
theorem sto_pool (v : Tx) (d : Dir) : sto poolK v d = if isName v = true then { d with pool := v } else d := by unfold sto; rw [if_neg (by decide), if_pos rfl]
theorem sto_acc (v : Tx) (d : Dir) : sto accK v d = { d with opn := v == pubV } := by unfold sto; rw [if_neg (by decide), if_neg (by decide), if_pos rfl]
theorem sto_cap (v : Tx) (d : Dir) : sto capK v d = { d with size := (((size? v).getD 0 : Nat) : Int) } := by unfold sto; rw [if_neg (by decide), if_neg (by decide), if_neg (by decide)]
theorem sto_size (v : Tx) (d : Dir) : sto sizeK v d = { d with size := (((size? v).getD 0 : Nat) : Int) } := by unfold sto; rw [if_neg (by decide), if_neg (by decide), if_neg (by decide)]
theorem okv_cap (v : Tx) : okv capK v = decide (0 < (size? v).getD 0) := by unfold okv; rw [if_pos (.inl rfl)]
theorem okv_siz (v : Tx) : okv sizeK v = decide (0 < (size? v).getD 0) := by unfold okv; rw [if_pos (.inr rfl)]

/-- A closure that stores a field. -/
def StoT (bd : Nat) (key v : Tx) (d : Dir) (w : World) (e : Ending) (w' : World) : Prop :=
  e = .returned (.bool (okv key v)) ∧ But bd w w' ∧ DirB w' bd (sto key v d)

set_option maxRecDepth 100000 in
set_option maxHeartbeats 1600000 in
theorem sto_name_any (c bd : Nat) (d : Dir) (v : Tx) (hv : v.length ≤ 9223372036854775807) (w : World) (hp : PtrB w c bd) (hd : DirB w bd d) :
    Calls Tryd.prog 43 #[.string (str v), .pointer (some ⟨c, 0, none⟩)] w (StoT bd nameK v d w) := by
  have hc : w.cell? ⟨c, 0, none⟩ = some (.pointer (some ⟨bd, 0, none⟩)) := BoxA.cell hp 0 _ rfl
  have HD := Lib.hid hd
  have HV := Lib.hid hv
  clear hp hd hv
  go_enter Tryd.func43, Tryd.ntmps43
  go_wp2_with (go_at_call 44; refine (storeName_any bd 1 d.name v HV.out _ HD.out.cells.2.1 (BoxA.free HD.out 1) HD.out.lt).mono ?_; rintro e w1 ⟨rfl, w2, hb, hw⟩; have HB := Lib.hid hb; have HW := Lib.hid hw; clear hb hw)
  go_ret
  refine ⟨by rw [okv_name]; rfl, ?_, ?_⟩
  · rw [HW.out]
    split
    · exact (But.of_below HB.out).setCell _ _
    · exact But.of_below HB.out
  · rw [HW.out, sto_name]
    split
    · exact (HD.out.next HB.out).name v
    · exact HD.out.next HB.out
set_option maxRecDepth 100000 in
set_option maxHeartbeats 1600000 in
theorem sto_pool_any (c bd : Nat) (d : Dir) (v : Tx) (hv : v.length ≤ 9223372036854775807) (w : World) (hp : PtrB w c bd) (hd : DirB w bd d) :
    Calls Tryd.prog 45 #[.string (str v), .pointer (some ⟨c, 0, none⟩)] w (StoT bd poolK v d w) := by
  have hc : w.cell? ⟨c, 0, none⟩ = some (.pointer (some ⟨bd, 0, none⟩)) := BoxA.cell hp 0 _ rfl
  have HD := Lib.hid hd
  have HV := Lib.hid hv
  clear hp hd hv
  go_enter Tryd.func45, Tryd.ntmps45
  go_wp2_with (go_at_call 44; refine (storeName_any bd 2 d.pool v HV.out _ HD.out.cells.2.2.1 (BoxA.free HD.out 2) HD.out.lt).mono ?_; rintro e w1 ⟨rfl, w2, hb, hw⟩; have HB := Lib.hid hb; have HW := Lib.hid hw; clear hb hw)
  go_ret
  refine ⟨by rw [okv_pool]; rfl, ?_, ?_⟩
  · rw [HW.out]
    split
    · exact (But.of_below HB.out).setCell _ _
    · exact But.of_below HB.out
  · rw [HW.out, sto_pool]
    split
    · exact (HD.out.next HB.out).pool v
    · exact HD.out.next HB.out

set_option maxRecDepth 100000 in
set_option maxHeartbeats 1600000 in
theorem sto_size_any (c bd : Nat) (d : Dir) (v : Tx) (hv : v.length ≤ 140737488355328) (w : World) (hp : PtrB w c bd) (hd : DirB w bd d) (hL : LaidU w) :
    Calls Tryd.prog 41 #[.string (str v), .pointer (some ⟨c, 0, none⟩)] w (StoT bd capK v d w) := by
  have HP := Lib.hid hp
  have HD := Lib.hid hd
  have HV := Lib.hid hv
  have HL := Lib.hid hL
  obtain ⟨o, ho⟩ : ∃ o, size? v = o := ⟨_, rfl⟩
  have HO := Lib.hid ho
  clear hp hd hv hL ho
  cases o with
  | none =>
    go_enter Tryd.func41, Tryd.ntmps41
    go_wp2_with (go_at_call 42; refine (size_any v HV.out _ HL.out).mono ?_; rintro e w1 ⟨rfl, hb⟩; rw [HO.out, qv_none, qe_none]; have HB := Lib.hid hb; have hc : w1.cell? ⟨c, 0, none⟩ = some (.pointer (some ⟨bd, 0, none⟩)) := BoxA.cell (HP.out.next hb) 0 _ rfl; have hs := (HD.out.next hb).cells.2.2.2.1; have hf := BoxA.free (HD.out.next hb) 3; clear hb)
    go_ret
    refine ⟨by rw [okv_cap, HO.out]; rfl, (But.of_below HB.out).setCell _ _, ?_⟩
    rw [sto_cap, HO.out]
    exact (HD.out.next HB.out).size _
  | some n =>
    by_cases hn : n = 0
    · subst hn
      go_enter Tryd.func41, Tryd.ntmps41
      go_wp2_with (go_at_call 42; refine (size_any v HV.out _ HL.out).mono ?_; rintro e w1 ⟨rfl, hb⟩; rw [HO.out, qv_some, qe_some]; have HB := Lib.hid hb; have hc : w1.cell? ⟨c, 0, none⟩ = some (.pointer (some ⟨bd, 0, none⟩)) := BoxA.cell (HP.out.next hb) 0 _ rfl; have hs := (HD.out.next hb).cells.2.2.2.1; have hf := BoxA.free (HD.out.next hb) 3; clear hb)
      go_ret
      refine ⟨by rw [okv_cap, HO.out]; rfl, (But.of_below HB.out).setCell _ _, ?_⟩
      rw [sto_cap, HO.out]
      exact (HD.out.next HB.out).size _
    · have hn0 : decide (0 < (n : Int)) = true := decide_eq_true (by omega)
      have hn1 : 0 < n := by omega
      go_enter Tryd.func41, Tryd.ntmps41
      go_wp2_with (go_at_call 42; refine (size_any v HV.out _ HL.out).mono ?_; rintro e w1 ⟨rfl, hb⟩; rw [HO.out, qv_some, qe_some]; have HB := Lib.hid hb; have hc : w1.cell? ⟨c, 0, none⟩ = some (.pointer (some ⟨bd, 0, none⟩)) := BoxA.cell (HP.out.next hb) 0 _ rfl; have hs := (HD.out.next hb).cells.2.2.2.1; have hf := BoxA.free (HD.out.next hb) 3; clear hb)
      go_ret
      refine ⟨by rw [okv_cap, HO.out]; simp [hn1], (But.of_below HB.out).setCell _ _, ?_⟩
      rw [sto_cap, HO.out]
      exact (HD.out.next HB.out).size _

set_option maxRecDepth 100000 in
set_option maxHeartbeats 1600000 in
theorem sto_acc_any (c bd : Nat) (d : Dir) (v : Tx) (w : World) (hp : PtrB w c bd) (hd : DirB w bd d) :
    Calls Tryd.prog 46 #[.string (str v), .pointer (some ⟨c, 0, none⟩)] w (StoT bd accK v d w) := by
  have hc : w.cell? ⟨c, 0, none⟩ = some (.pointer (some ⟨bd, 0, none⟩)) := BoxA.cell hp 0 _ rfl
  have hs := hd.cells.2.2.2.2
  have hf := BoxA.free hd 4
  have HD := Lib.hid hd
  clear hp hd
  by_cases h1 : v = pubV
  · obtain ⟨q1, q2⟩ := lit_yes h1
    have HE := Lib.hid h1
    unfold pubV at q1 q2
    clear h1
    go_enter Tryd.func46, Tryd.ntmps46
    go_wp2
    go_ret
    refine ⟨by rw [okv_acc, HE.out]; rfl, (But.refl _ _).setCell _ _, ?_⟩
    rw [sto_acc, HE.out]
    exact HD.out.opn true
  · obtain ⟨q1, q2⟩ := lit_no h1
    have HE := Lib.hid (show (v == pubV) = false by rw [beq_eq_false_iff_ne]; exact h1)
    unfold pubV at q1 q2
    clear h1
    by_cases h2 : v = priV
    · obtain ⟨q3, q4⟩ := lit_yes h2
      have HF := Lib.hid (show (v == priV) = true by rw [h2]; decide)
      unfold priV at q3 q4
      clear h2
      go_enter Tryd.func46, Tryd.ntmps46
      go_wp2
      go_ret
      refine ⟨by rw [okv_acc, HE.out, HF.out]; rfl, (But.refl _ _).setCell _ _, ?_⟩
      rw [sto_acc, HE.out]
      exact HD.out.opn false
    · obtain ⟨q3, q4⟩ := lit_no h2
      have HF := Lib.hid (show (v == priV) = false by rw [beq_eq_false_iff_ne]; exact h2)
      unfold priV at q3 q4
      clear h2
      go_enter Tryd.func46, Tryd.ntmps46
      go_wp2
      go_ret
      refine ⟨by rw [okv_acc, HE.out, HF.out]; rfl, (But.refl _ _).setCell _ _, ?_⟩
      rw [sto_acc, HE.out]
      exact HD.out.opn false
end Go.Proofs.YtfocnipdmckojaaDoor.gn
