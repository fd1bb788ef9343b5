/- insert. -/
import Derived.Test.YtigomdihkojdmaaStS
import Derived.Test.YtigomdihkojdmaaStO
import Derived.Deep.RegionHeld3
import Derived.Deep.DrawnRows
namespace Go.Proofs.Ytigomdihkojdmaa.gn
open Go.RowKit Go.Shelf
open Go.Proofs.Ytigomdihkojdmaa.sp
attribute [local go_sem ↓] Go.wp_at_zero Go.wp_at_succ

/-- What is answered is a row of the call's own. -/
def Rows_ (l : List Int) (w : World) (e : Ending) (w' : World) : Prop := ∃ v, e = .returned v ∧ OwnI w' w.heap.size v l ∧ Below w.heap.size w w'

set_option maxHeartbeats 1000000 in
theorem insert_some (b o cap : Nat) (l : List Int) (i : Nat) (t : Int) (w : World) (hm : l.length ≤ 4000) (hi0 : 0 < i) (hi : i ≤ l.length) (hcap : l.length ≤ cap) (hcc : cap ≤ maxLen) (hc : ∀ j (h : j < l.length), w.cell? ⟨b, o + j, none⟩ = some (.int .i64 l[j])) :
    Calls Try.prog 48 #[.slice (some ⟨b, o, none⟩) l.length cap, .int .i64 (i : Int), .int .i64 t] w (Rows_ (l.take i ++ [t] ++ l.drop i) w) := by
  unfold maxLen at hcc
  have h1 : (i : Int) ≤ (l.length : Int) := by omega
  have h2 : (l.length : Int) ≤ (cap : Int) := by omega
  have h3 : (0 : Int) ≤ (i : Int) := by omega
  have h4 : (i : Int) ≤ (cap : Int) := by omega
  have htl : (l.take i).length = i := by rw [List.length_take]; omega
  have HC := Lib.hid hc
  have HT : Hid (∀ (W : World), Below w.heap.size w W → ∀ j (h : j < (l.take i).length), W.cell? ⟨b, o + j, none⟩ = some (.int .i64 (l.take i)[j])) := fun W hW j hj => by
    have hj' : j < l.length := by omega
    rw [List.getElem_take]
    exact (hW.cell (p := ⟨b, o + j, none⟩) (cell_lt (hc j hj'))).trans (hc j hj')
  have HD : Hid (∀ (W : World), Below w.heap.size w W → ∀ j (h : j < (l.drop i).length), W.cell? (Addr.add ⟨b, o + i, none⟩ j) = some (.int .i64 (l.drop i)[j])) := fun W hW j hj => by
    have hj' : i + j < l.length := by rw [List.length_drop] at hj; omega
    rw [add_lit, List.getElem_drop, show o + i + j = o + (i + j) by omega]
    exact (hW.cell (p := ⟨b, o + (i + j), none⟩) (cell_lt (hc _ hj'))).trans (hc _ hj')
  clear hc
  have HTL := Lib.hid htl
  clear htl
  have hL1 : Hid ((l.take i ++ [t]).length + (l.length - i) ≤ 100000) := by show _ ≤ _; rw [List.length_append, HTL.out]; simp; omega
  have hz1 : ∀ o, w.heap.size ≤ (w.alloc o).drew.heap.size := fun o => by show _ ≤ (w.alloc o).heap.size; simp
  by_cases hic : i < cap
  · have hne : ¬ cap = i := by omega
    go_enter Try.func48, Try.ntmps48
    go_wp2
    go_region_held3 (fun _ => True) (exact trivial) (first
      | (refine step_append_full rfl _ _ rfl b o i (l.take i) rfl HTL.out (HT.out _ (by first | exact ((Below.refl _ w).alloc (Nat.le_refl _) _) | exact ((Below.refl _ w).alloc (Nat.le_refl _) _).drew | exact ((Below.refl _ w).drew.alloc (Nat.le_refl _) _) | exact ((Below.refl _ w).drew.alloc (Nat.le_refl _) _).drew)) _ _ rfl t (by go_simp) (by omega) ?_; intro v1 w1 hv1 hb1; have tok : True := trivial)
      | (refine step_append_row rfl _ _ rfl w.heap.size v1 (l.take i ++ [t]) rfl (hv1.mono (hz1 _)) _ _ _ rfl (l.drop i) List.length_drop (HD.out _ (((Below.refl _ w).alloc (Nat.le_refl _) _).drew.trans (hb1.mono (hz1 _)))) hL1.out (Nat.le_trans (hz1 _) hb1.size) ?_; intro v2 w2 hv2 hb2))
    have h01 := ((Below.refl _ w).alloc (Nat.le_refl _) _).drew.trans (hb1.mono (hz1 _))
    have h02 := own_below h01 (hv1.mono (hz1 _)) hb2 (Nat.le_refl _) h01.size
    have HF := Lib.hid h02
    have HV := Lib.hid hv2
    clear hv1 hb1 hv2 hb2 h01 h02
    go_wp2
    go_ret
    exact ⟨v2, rfl, HV.out, HF.out⟩
  · obtain rfl : i = cap := by omega
    have hD0 : Hid ((l.drop i).length = 0) := by show _ = _; rw [List.length_drop]; omega
    have hL2 : Hid ((l.take i ++ [t]).length + 0 ≤ 100000) := by show _ ≤ _; have := hL1.out; omega
    have HD2 : Hid (∀ (W : World) (j : Nat) (h : j < (l.drop i).length), W.cell? (Addr.add ⟨b, o, none⟩ j) = some (.int .i64 (l.drop i)[j])) := fun W j hj => by
      rw [List.length_drop] at hj; omega
    go_enter Try.func48, Try.ntmps48
    go_wp2
    go_region_held3 (fun _ => True) (exact trivial) (first
      | (refine step_append_full rfl _ _ rfl b o i (l.take i) rfl HTL.out (HT.out _ (by first | exact ((Below.refl _ w).alloc (Nat.le_refl _) _) | exact ((Below.refl _ w).alloc (Nat.le_refl _) _).drew | exact ((Below.refl _ w).drew.alloc (Nat.le_refl _) _) | exact ((Below.refl _ w).drew.alloc (Nat.le_refl _) _).drew)) _ _ rfl t (by go_simp) (by omega) ?_; intro v1 w1 hv1 hb1; have tok : True := trivial)
      | (refine step_append_row rfl _ _ rfl w.heap.size v1 (l.take i ++ [t]) rfl (hv1.mono (hz1 _)) _ _ _ rfl (l.drop i) hD0.out (HD2.out _) hL2.out (Nat.le_trans (hz1 _) hb1.size) ?_; intro v2 w2 hv2 hb2))
    have h01 := ((Below.refl _ w).alloc (Nat.le_refl _) _).drew.trans (hb1.mono (hz1 _))
    have h02 := own_below h01 (hv1.mono (hz1 _)) hb2 (Nat.le_refl _) h01.size
    have HF := Lib.hid h02
    have HV := Lib.hid hv2
    clear hv1 hb1 hv2 hb2 h01 h02
    go_wp2
    go_ret
    exact ⟨v2, rfl, HV.out, HF.out⟩
/-- A number laid into a row, in a row of the call's own. -/
theorem insert_any {w : World} {v : Value} {l : List Int} (h : Ints w v l) (i : Nat) (t : Int) (hm : l.length ≤ 4000) (hi0 : 0 < i) (hi : i ≤ l.length) :
    Calls Try.prog 48 #[v, .int .i64 (i : Int), .int .i64 t] w (Rows_ (l.take i ++ [t] ++ l.drop i) w) := by
  obtain ⟨_, a, cap, rfl, ⟨hcap, hcc⟩, h' | ⟨b, o, rfl, hc⟩⟩ := h
  · omega
  · exact insert_some b o cap l i t w hm hi0 hi hcap hcc hc
end Go.Proofs.Ytigomdihkojdmaa.gn
