/- SatSums: the law's walk. -/
import Derived.Test.YtkicojenhkbinaaSatH
import Derived.Laws.AppendOwn
import Derived.ChangeSlices
namespace Go.Proofs.Ytkicojenhkbinaa.gn
open Go.RowKit
open Go.Proofs.Ytkicojenhkbinaa.st

theorem cell_lt {w : World} {a : Addr} {v : Value} (h : w.cell? a = some v) : a.block < w.heap.size := by
  unfold World.cell? at h
  cases hb : w.heap[a.block]? with
  | none => rw [hb] at h; simp at h
  | some o => exact lt_of_block hb

/-- The numbers behind i, turned round. -/
def back (l : List Int) (i : Int) : List Int := (l.drop (i + 1).toNat).reverse
theorem back_end (l : List Int) : back l ((l.length : Int) - 1) = [] := by
  unfold back
  rw [show ((l.length : Int) - 1 + 1).toNat = l.length by omega, List.drop_length]; rfl
theorem back_all (l : List Int) : back l (-1) = l.reverse := rfl
theorem back_step (l : List Int) (p : Nat) (h : p < l.length) : back l ((p : Int) - 1) = back l (p : Int) ++ [l[p]] := by
  unfold back
  rw [show ((p : Int) - 1 + 1).toNat = p by omega, show ((p : Int) + 1).toNat = p + 1 by omega, List.drop_eq_getElem_cons h, List.reverse_cons]
theorem back_len (l : List Int) (i : Int) (h0 : -1 ≤ i) (h1 : i < l.length) : ((back l i).length : Int) = l.length - 1 - i := by
  unfold back
  rw [List.length_reverse, List.length_drop]; omega

/-- v is a slice of the call's own, of these numbers. -/
def Own (w : World) (B : Nat) (v : Value) (l : List Int) : Prop := w.ownsRow B 2 1 v l.length (l.map (Value.int .i64))
theorem Own.ints {w : World} {B : Nat} {v : Value} {l : List Int} (h : Own w B v l) (hm : l.length ≤ maxLen) : Ints w v l := by
  refine ⟨hm, ?_⟩
  have hcells := fun g => World.ownsRow.cells h (g := g)
  rcases h.2 with ⟨rfl, hn⟩ | ⟨g, cap, cur, rfl, _, _, _, _, _⟩
  · exact ⟨none, 0, by rw [hn], .inl hn⟩
  · refine ⟨some ⟨g, 0, none⟩, cap, rfl, .inr ⟨g, 0, rfl, fun j hj => ?_⟩⟩
    have hadd : (⟨g, 0, none⟩ : Addr).add j = ⟨g, 0 + j, none⟩ := by unfold Addr.add; split <;> simp_all
    have := hcells g rfl j (.int .i64 l[j]) (by simp [List.getElem?_eq_getElem hj])
    rwa [hadd] at this
theorem Try.info2 : (Try.prog.info? 2).map (fun i => (i.zero, i.size, i.bytes)) = some (some (.int .i64 0), 1, 8) := by kernel_rfl

theorem own_step {B : Nat} {w wr w1 : World} {v v' : Value} {m : List Int} {x : Int} (hown : Own wr B v m) (hb : Below B w wr) (hB : B ≤ wr.heap.size)
    (h1 : w1.ownsRow B 2 1 v' (m.length + 1) (m.map (Value.int .i64) ++ [.int .i64 x])) (hg : (wr.alloc (.cells #[.int .i64 x] 2)).grownBy w1 v.ownBlock) :
    Own w1 B v' (m ++ [x]) ∧ Below B w w1 := by
  refine ⟨?_, (hb.alloc hB _).grown hg (by simp; omega) fun k hk => ?_⟩
  · unfold Own
    rw [List.length_append, List.map_append]
    exact h1
  · rcases hown.2 with ⟨rfl, _⟩ | ⟨g, cap, cur, rfl, hBg, _⟩
    · cases hk
    · cases hk; exact hBg

theorem one_at (w : World) (x : Value) : (w.alloc (.cells #[x] 2)).cell? ((⟨w.heap.size, 0, none⟩ : Addr).add 0) = some x := by
  have hadd : (⟨w.heap.size, 0, none⟩ : Addr).add 0 = ⟨w.heap.size, 0, none⟩ := by unfold Addr.add; split <;> simp_all
  rw [hadd]
  go_simp
def SumsRel (l : List Int) (w : World) (v4 v5 : Value) (wr : World) : Prop :=
  ∃ i : Int, -1 ≤ i ∧ i < l.length ∧ v5 = .int .i64 i ∧ Own wr w.heap.size v4 (back l i) ∧ Below w.heap.size w wr

set_option maxHeartbeats 1600000 in
theorem sums_some (b o cap : Nat) (l : List Int) (w : World) (hm : l.length ≤ 100) (hc : ∀ j (h : j < l.length), w.cell? ⟨b, o + j, none⟩ = some (.int .i64 l[j])) :
    Calls Try.prog 4 #[.slice (some ⟨b, o, none⟩) l.length cap] w fun e w' => e = .returned (.bool true) ∧ Below w.heap.size w w' := by
  obtain ⟨i0, hi, hz0, hz1, hz2⟩ := info_parts Try.info2
  have HI := Lib.hid (And.intro hi (And.intro hz0 (And.intro hz1 hz2)))
  have HC := Lib.hid hc
  have HM : Hid (l.length ≤ maxLen) := by show _ ≤ maxLen; unfold maxLen; omega
  clear hc hi hz0 hz1 hz2
  go_enter Try.func4, Try.ntmps4
  go_wp2_with (go_at_call 9; ((with_reducible refine (add_some _ _ _ _ _ HM.out HC.out).mono ?_); rintro e w' ⟨rfl, rfl⟩))
  go_loopw [4, 5] (fun v4 v5 wr => SumsRel l w v4 v5 wr) (fun _ v5 _ => (intOf v5 + 1).toNat)
  case atStart => exact ⟨_, by omega, by omega, rfl, by rw [back_end]; exact World.ownsRow_nil w _ _ 1, Below.refl _ _⟩
  case round =>
    obtain ⟨i, hi0, hi1, rfl, hown, hb⟩ := hrel
    by_cases h0 : 0 ≤ i
    · obtain ⟨p, rfl⟩ := Int.eq_ofNat_of_zero_le h0
      have hp : p < l.length := by omega
      have hcell : wr.cell? ⟨b, o + p, none⟩ = some (.int .i64 l[p]) := (hb.cell (p := ⟨b, o + p, none⟩) (cell_lt (HC.out p hp))).trans (HC.out p hp)
      have hlen := back_len l p (by omega) (by omega)
      have hpart : decide (sum l < of l[p]) = false := decide_eq_false (by have := sum_part (List.getElem_mem hp); omega)
      have HP := Lib.hid hpart
      have HN : Hid (back l ((p : Int) - 1) = back l (p : Int) ++ [l[p]]) := back_step l p hp
      have HB := Lib.hid hb
      have HL := Lib.hid hlen
      have hown' : wr.ownsRow w.heap.size 2 1 u4 (back l p).length ((back l p).map (Value.int .i64)) := hown
      clear hpart hb hlen
      go_wp2_with (at_builtin; refine wpList_append_own _ rfl _ _ 28 rfl w.heap.size 2 i0 (.int .i64 0) 1 8 Try.underlying28 HI.out.1 HI.out.2.1 HI.out.2.2.1 HI.out.2.2.2 rfl (by decide) _ _ _ rfl (hown'.alloc _) ⟨wr.heap.size, 0, none⟩ 1 1 [.int .i64 l[p]] rfl rfl ?c1 ?c2 ?c3 ?c4 ?c5 ?_)
      case c1 =>
        intro j u hj
        cases j with
        | zero => simp at hj; subst hj; exact one_at wr _
        | succ j => simp at hj
      case c2 => intro u hu; simp at hu; subst hu; rfl
      case c3 => unfold maxLen; have := HL.out; omega
      case c4 => have := HL.out; omega
      case c5 => have := HB.out.size; simp; omega
      intro v' w1 hown1 hgrow _
      obtain ⟨ho1, hb1⟩ := own_step hown HB.out HB.out.size hown1 hgrow
      have HO := Lib.hid ho1
      have HB1 := Lib.hid hb1
      have hcell1 : w1.cell? ⟨b, o + p, none⟩ = some (.int .i64 l[p]) := (hb1.cell (p := ⟨b, o + p, none⟩) (cell_lt (HC.out p hp))).trans (HC.out p hp)
      have hpart := HP.out
      clear hown hown' hown1 hgrow ho1 hb1 hcell
      go_wp2_with (go_at_call 7; ((with_reducible refine (of_any _ _).mono ?_); rintro e w' ⟨rfl, rfl⟩))
      go_roundw
      case rel => exact ⟨_, by omega, by omega, rfl, by rw [HN.out]; exact HO.out, HB1.out⟩
      case measure => simp [intOf]
    · obtain rfl : i = -1 := by omega
      have hI := Own.ints hown (by rw [back_all, List.length_reverse]; exact HM.out)
      rw [back_all] at hI
      have hrev := sum_rev l
      have hcw : ∀ j (h : j < l.length), wr.cell? ⟨b, o + j, none⟩ = some (.int .i64 l[j]) := fun j hj => (hb.cell (p := ⟨b, o + j, none⟩) (cell_lt (HC.out j hj))).trans (HC.out j hj)
      have HW := Lib.hid hcw
      have HI2 := Lib.hid hI
      have HR := Lib.hid hrev
      have HB := Lib.hid hb
      clear hcw hI hrev hown hb
      go_wp2_with fail
      refine (dsum_some _ _ _ _ _ HM.out HW.out).mono ?_
      rintro e w' ⟨rfl, rfl⟩
      go_wp2_with fail
      refine (add_any HI2.out).mono ?_
      rintro e w' ⟨rfl, rfl⟩
      rw [HR.out]
      go_wp2_with fail
      refine (head_any _).mono ?_
      rintro e w3 ⟨rfl, hb3⟩
      have HB3 := Lib.hid (HB.out.trans (hb3.mono HB.out.size))
      clear hb3
      go_wp2
      go_ret
      exact ⟨rfl, HB3.out⟩

set_option maxHeartbeats 1600000 in
theorem sums_long (a : Option Addr) (len cap : Nat) (hl : 100 < len) (w : World) :
    Calls Try.prog 4 #[.slice a len cap] w fun e w' => e = .returned (.bool true) ∧ Below w.heap.size w w' := by
  go_enter Try.func4, Try.ntmps4
  go_wp2_with (go_at_call 21; ((with_reducible refine (head_any _).mono ?_); rintro e w1 ⟨rfl, hb⟩; have HB := Lib.hid hb; clear hb))
  go_ret
  exact ⟨rfl, HB.out⟩
set_option maxHeartbeats 1600000 in
theorem sums_empty (a : Option Addr) (cap : Nat) (w : World) :
    Calls Try.prog 4 #[.slice a 0 cap] w fun e w' => e = .returned (.bool true) ∧ Below w.heap.size w w' := by
  go_enter Try.func4, Try.ntmps4
  go_wp2_with (go_at_call 9; ((with_reducible refine (add_empty _ _ _).mono ?_); rintro e w' ⟨rfl, rfl⟩))
  refine wp_loop_rounds 1 ?_
  rw [rounds_succ]
  go_wp2_with (first
    | (go_at_call 9; ((with_reducible refine (add_empty _ _ _).mono ?_); rintro e w' ⟨rfl, rfl⟩))
    | (go_at_call 22; ((with_reducible refine (dsum_empty _ _ _).mono ?_); rintro e w' ⟨rfl, rfl⟩))
    | (go_at_call 21; ((with_reducible refine (head_any _).mono ?_); rintro e w1 ⟨rfl, hb⟩; have HB := Lib.hid hb; clear hb)))
  go_ret
  exact ⟨rfl, HB.out⟩
theorem sums_any {w : World} {v : Value} {l : List Int} (h : Ints w v l) :
    Calls Try.prog 4 #[v] w fun e w' => e = .returned (.bool true) ∧ Below w.heap.size w w' := by
  obtain ⟨hm, a, cap, rfl, h0⟩ := h
  rcases Nat.lt_or_ge 100 l.length with h1 | h1
  · exact sums_long a _ cap h1 w
  · rcases h0 with h0 | ⟨b, o, rfl, hc⟩
    · rw [h0]; exact sums_empty a cap w
    · exact sums_some b o cap l w h1 hc

theorem cells2 : Try.prog.cellsOf 2 = 1 := by kernel_rfl
/-- A slice of numbers that came in. -/
theorem open_row {H : Type} {enc : TypeId × Value → H} {W : World} {fuel : Nat} {v : Value} {x : DataW H × List MemPlace}
    (h : DataW.trod enc Try.prog W 0 (fun _ => true) true fuel 28 [v] = some x) : ∃ l, Ints W v l ∧ ∀ n ∈ l, (Lit.int .i64 n).wf = true := by
  rcases Go.ChangeShapes.open_ints Try.underlying28 Try.underlying2 cells2 h with ⟨hcs, _⟩ | ⟨a, len, cap, zs, hcs, _, hle, hm, hz, _, hcell, hw⟩
  · simp at hcs
    subst hcs
    exact ⟨[], ⟨by simp, none, 0, rfl, .inl rfl⟩, fun n hn => by cases hn⟩
  · simp at hcs hz
    subst hcs
    have hl : (zs.take len).length = len := by rw [List.length_take]; omega
    refine ⟨zs.take len, ⟨by rw [hl]; omega, some a, cap, by rw [hl], ?_⟩, fun n hn => hw n (List.mem_of_mem_take hn)⟩
    by_cases h0 : len = 0
    · exact .inl (hl.trans h0)
    · obtain ⟨b, off, spot⟩ := a
      have hspot : spot = none := by simpa [Addr.add] using World.cell?_spot (hcell 0 (by omega))
      subst hspot
      refine .inr ⟨b, off, rfl, fun j hj => ?_⟩
      rw [hl] at hj
      have hadd : (⟨b, off, none⟩ : Addr).add j = ⟨b, off + j, none⟩ := by unfold Addr.add; split <;> simp_all
      have := hcell j (by omega)
      rw [hadd] at this
      rw [this]
      simp [List.getD, List.getElem?_eq_getElem (show j < zs.length by omega)]
end Go.Proofs.Ytkicojenhkbinaa.gn
