/- Contracts of value and omitted: the text of a field; is it left out? -/
import Derived.Test.YtfocnipdmckojaaDoorDiA
set_option linter.unusedVariables false
namespace Go.Proofs.YtfocnipdmckojaaDoor.gn
open Go.RowKit
open Go.Proofs.YtfocnipdmckojaaDoor.un
open Go.Proofs.YtfocnipdmckojaaDoor.di

/-- Is a field left out? -/
def omi (f : Tx × Bool) (v : Tx) : Bool := f.2 && decide (v = [])
theorem omi_iff (f : Tx × Bool) (v : Tx) : omi f v = true ↔ f.2 = true ∧ v = [] := by
  unfold omi
  simp
set_option maxRecDepth 100000 in
theorem omitted_any (key : Tx) (o : Bool) (v : Tx) (w : World) : Calls Tryd.prog 27 #[.agg #[.string (str key), .bool o], .string (str v)] w (Told (.bool (omi (key, o) v)) w) := by
  have HB := Lib.hid (show Below w.heap.size w (w.alloc (.cells #[.string (str key), .bool o] 60)) from (Below.refl _ _).alloc (Nat.le_refl _) _)
  cases o with
  | false =>
    go_enter Tryd.func27, Tryd.ntmps27
    go_wp2
    go_ret
    exact ⟨rfl, HB.out⟩
  | true =>
    have H := Lib.hid (show omi (key, true) v = decide (v = []) from rfl)
    by_cases h : v = []
    · obtain ⟨q, q2⟩ := lit_yes h
      rw [decide_eq_true h] at H
      clear h
      go_enter Tryd.func27, Tryd.ntmps27
      go_wp2
      go_ret
      exact ⟨by rw [H.out]; rfl, HB.out⟩
    · obtain ⟨q, q2⟩ := lit_no h
      rw [decide_eq_false h] at H
      clear h
      go_enter Tryd.func27, Tryd.ntmps27
      go_wp2
      go_ret
      exact ⟨by rw [H.out]; rfl, HB.out⟩

theorem val_name (d : Dir) : val d nameK = d.name := by unfold val; rw [if_pos rfl]
theorem val_pool (d : Dir) : val d poolK = d.pool := by unfold val; rw [if_neg (by decide), if_pos rfl]
theorem val_acc (d : Dir) : val d accK = if d.opn = true then pubV else [] := by unfold val; rw [if_neg (by decide), if_neg (by decide), if_pos rfl]
theorem val_size (d : Dir) {key : Tx} (h : key = capK ∨ key = sizeK) : val d key = stxt d.size := by
  rcases h with rfl | rfl
  · unfold val; rw [if_neg (by decide), if_neg (by decide), if_neg (by decide)]
  · unfold val; rw [if_neg (by decide), if_neg (by decide), if_neg (by decide)]

set_option maxRecDepth 100000 in
set_option maxHeartbeats 1600000 in
theorem value_any (d : Dir) (h0 : -9223372036854775808 ≤ d.size) (h1 : d.size ≤ 9223372036854775807) (key : Tx) (w : World) (hL : LaidU w) :
    Calls Tryd.prog 26 #[dV d, .string (str key)] w (Told (.string (str (val d key))) w) := by
  have hb : Below w.heap.size w (w.alloc (.cells (dcs d) 24)) := (Below.refl _ _).alloc (Nat.le_refl _) _
  have HB := Lib.hid hb
  have HL := Lib.hid (hL.next hb)
  have hV : dV d = .agg #[.int .u8 (d.kind : Nat), .string (str d.name), .string (str d.pool), .int .i64 d.size, .bool d.opn] := rfl
  rw [hV]
  unfold dcs at HB HL
  obtain ⟨k, n, p, z, o⟩ := d
  dsimp only at h0 h1 HB HL ⊢
  by_cases e1 : key = nameK
  · have HV := Lib.hid (show val ⟨k, n, p, z, o⟩ key = n by rw [e1]; exact val_name _)
    obtain ⟨q1, q2⟩ := lit_yes e1
    unfold nameK at q1 q2
    clear hL hb hV h0 h1 e1
    go_enter Tryd.func26, Tryd.ntmps26
    go_wp2
    go_ret
    exact ⟨by rw [HV.out]; rfl, HB.out⟩
  · obtain ⟨q1, q2⟩ := lit_no e1
    unfold nameK at q1 q2
    by_cases e2 : key = poolK
    · have HV := Lib.hid (show val ⟨k, n, p, z, o⟩ key = p by rw [e2]; exact val_pool _)
      obtain ⟨q3, q4⟩ := lit_yes e2
      unfold poolK at q3 q4
      clear hL hb hV h0 h1 e1 e2
      go_enter Tryd.func26, Tryd.ntmps26
      go_wp2
      go_ret
      exact ⟨by rw [HV.out]; rfl, HB.out⟩
    · obtain ⟨q3, q4⟩ := lit_no e2
      unfold poolK at q3 q4
      by_cases e3 : key = accK
      · have HV := Lib.hid (show val ⟨k, n, p, z, o⟩ key = if o = true then pubV else [] by rw [e3]; exact val_acc _)
        obtain ⟨q5, q6⟩ := lit_yes e3
        unfold accK at q5 q6
        clear hL hb hV h0 h1 e1 e2 e3
        cases o with
        | true =>
          go_enter Tryd.func26, Tryd.ntmps26
          go_wp2
          go_ret
          exact ⟨by rw [HV.out]; rfl, HB.out⟩
        | false =>
          go_enter Tryd.func26, Tryd.ntmps26
          go_wp2
          go_ret
          exact ⟨by rw [HV.out]; rfl, HB.out⟩
      · obtain ⟨q5, q6⟩ := lit_no e3
        unfold accK at q5 q6
        have HV := Lib.hid (show val ⟨k, n, p, z, o⟩ key = stxt z by unfold val; rw [if_neg e1, if_neg e2, if_neg e3])
        clear hL hb hV e1 e2 e3
        go_enter Tryd.func26, Tryd.ntmps26
        go_wp2_with (go_at_call 38; refine (stext_any z h0 h1 _ HL.out).mono ?_; rintro e w2 ⟨rfl, hb2⟩; have HB2 := Lib.hid (HB.out.trans (hb2.mono HB.out.size)); clear hb2)
        go_ret
        exact ⟨by rw [HV.out]; rfl, HB2.out⟩
end Go.Proofs.YtfocnipdmckojaaDoor.gn
