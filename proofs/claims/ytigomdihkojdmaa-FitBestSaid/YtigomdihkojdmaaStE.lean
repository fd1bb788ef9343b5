/- The iterator over a profile's steps: its contract. -/
import Derived.Test.YtigomdihkojdmaaStA
import Derived.BigQuiet
import Derived.Laws.NewBlocks
namespace Go.Proofs.Ytigomdihkojdmaa.gn
open Go.RowKit Go.Shelf
open Go.Proofs.Ytigomdihkojdmaa.sp

attribute [local go_sem] Oper.semAt_some

theorem grown_new {w w' : World} (h : Below w.heap.size w w') : w.grownBy w' none :=
  ⟨h.os, h.tape, h.output, h.size, fun k hk _ => h.block k hk⟩

/-- What a round keeps: what lay below n₀, and the profile's box. -/
structure KpE (n₀ Bs : Nat) (W W' : World) : Prop where
  below : Below n₀ W W'
  box : Bs < W.heap.size → W'.heap[Bs]? = W.heap[Bs]?
theorem KpE.refl (n₀ Bs : Nat) (W : World) : KpE n₀ Bs W W := ⟨Below.refl _ _, fun _ => rfl⟩
theorem KpE.trans {n₀ Bs : Nat} {A B C : World} (h : KpE n₀ Bs A B) (k : KpE n₀ Bs B C) : KpE n₀ Bs A C :=
  ⟨h.below.trans k.below, fun hb => (k.box (Nat.lt_of_lt_of_le hb h.below.size)).trans (h.box hb)⟩
theorem KpE.of_below {n₀ Bs : Nat} {W W' : World} (h : Below W.heap.size W W') (hn : n₀ ≤ W.heap.size) : KpE n₀ Bs W W' := ⟨h.mono hn, fun hb => h.block _ hb⟩
theorem KpE.cell {n₀ Bs : Nat} {W W' : World} (h : KpE n₀ Bs W W') {j : Nat} {v : Value} (hc : W.cell? ⟨Bs, j, none⟩ = some v) : W'.cell? ⟨Bs, j, none⟩ = some v :=
  (World.cell?_of_block (a := ⟨Bs, j, none⟩) (h.box (cell_lt hc))).trans hc
theorem kpe_t {n₀ Bs : Nat} {A B C : World} (h : KpE n₀ Bs A B) (k : KpE n₀ Bs B C) : KpE n₀ Bs A C := h.trans k
theorem kpe_b {n₀ Bs : Nat} {w : World} (hn : n₀ ≤ w.heap.size) (hB : Bs < w.heap.size) (W : World) (l : Nat) (o o' : Obj) (hl : w.heap.size ≤ l) (h : W.heap[l]? = some o) (h1 : o.isCells = false) (h2 : o.isWalk = false) : KpE n₀ Bs W (W.putObj l o') :=
  ⟨belowK_b hn W l o o' hl h h1 h2, fun _ => World.putObj_heap_other (by omega)⟩

set_option maxRecDepth 100000 in
set_option maxHeartbeats 4000000 in
theorem each1_in (F : Fence) (n : Nat) (h8 : F.fn 49) (hro : F.round = none) (hn : 1 ≤ n) (l Bs n₀ ba oa ca bn on cn : Nat) (at_ m : List Int) (hlen : m.length = at_.length) (hmax : at_.length ≤ maxLen) (hba : ba < n₀) (hbn : bn < n₀) (J Jx : List Wn → World → Prop)
    (hY : ∀ pre x W, J pre W → pre.length < at_.length → YieldAt F (n - 1) Try.prog l (encs x) W fun e W' =>
      (e = .returned (.bool true) ∧ J (pre ++ [x]) W' ∧ KpE n₀ Bs W W') ∨ (e = .returned (.bool false) ∧ Jx (pre ++ [x]) W'))
    (W : World) (hnW : n₀ ≤ W.heap.size) (hJ : ∀ pre W1 W2, J pre W1 → Below W1.heap.size W1 W2 → J pre W2)
    (hB0 : W.cell? ⟨Bs, 0, none⟩ = some (.slice (some ⟨ba, oa, none⟩) at_.length ca)) (hB1 : W.cell? ⟨Bs, 1, none⟩ = some (.slice (some ⟨bn, on, none⟩) at_.length cn))
    (hca : ∀ j, j < at_.length → W.cell? ⟨ba, oa + j, none⟩ = some (.int .i64 (at_[j]?.getD 0))) (hcn : ∀ j, j < at_.length → W.cell? ⟨bn, on + j, none⟩ = some (.int .i64 (m[j]?.getD 0))) (h0 : J [] W) :
    CallsIn F n Try.prog 49 #[.func (.yield l) #[] #[], .pointer (some ⟨Bs, 0, none⟩)] W fun e W' => (∃ v, e = .returned v) ∧
      ((∃ ys, ys = upto at_ m at_.length ∧ J ys W') ∨ (∃ pre, (∃ k, k ≤ at_.length ∧ pre = upto at_ m k) ∧ Jx pre W')) := by
  unfold maxLen at hmax
  refine callsIn_of_wp Try.func49 rfl h8 ?_ hro
  simp only [Try.ntmps49, List.size_toArray, List.length_cons, List.length_nil, Nat.reduceAdd, Nat.reduceSub, Array.replicate_succ, Array.replicate_zero, List.push_toArray, List.append_toArray, List.nil_append, List.cons_append]
  have HA := Lib.hid hca
  have HN := Lib.hid hcn
  have HY := Lib.hid hY
  have HJ := Lib.hid hJ
  clear hca hcn hY hJ
  gi_wp2
  gi_loopw [9] (fun i wr => ∃ k : Nat, k ≤ at_.length ∧ i = .int .i64 k ∧ J (upto at_ m k) wr ∧ KpE n₀ Bs W wr)
    (fun i _ => at_.length - (intOf i).toNat)
  case atStart => exact ⟨0, Nat.zero_le _, rfl, h0, KpE.refl _ _ _⟩
  case round =>
    obtain ⟨k, hk, rfl, hJs, hnx⟩ := hrel
    by_cases hlt : k < at_.length
    · have hsz : n₀ ≤ wr.heap.size := Nat.le_trans hnW hnx.below.size
      have hst : step at_ m k = ((at_[k]?.getD 0, nxt at_ k), m[k]?.getD 0) := rfl
      have hc0 : wr.cell? ⟨Bs, 0, none⟩ = some (.slice (some ⟨ba, oa, none⟩) at_.length ca) := hnx.cell hB0
      have hc1 : wr.cell? ⟨Bs, 1, none⟩ = some (.slice (some ⟨bn, on, none⟩) at_.length cn) := hnx.cell hB1
      have hc2 : wr.cell? ⟨ba, oa + k, none⟩ = some (.int .i64 (at_[k]?.getD 0)) := (hnx.below.cell (p := ⟨ba, oa + k, none⟩) hba).trans (HA.out k hlt)
      have hc3 : wr.cell? ⟨bn, on + k, none⟩ = some (.int .i64 (m[k]?.getD 0)) := (hnx.below.cell (p := ⟨bn, on + k, none⟩) hbn).trans (HN.out k hlt)
      have hup : upto at_ m (k + 1) = upto at_ m k ++ [step at_ m k] := upto_succ at_ m k
      have hJa : ∀ x y : Value, J (upto at_ m k) (wr.alloc (.cells #[x, y] 73)) := fun x y => HJ.out _ _ _ hJs ((Below.refl _ wr).alloc (Nat.le_refl _) _)
      have e1 : Bs < wr.heap.size := cell_lt hc0
      have e2 : ba < wr.heap.size := by omega
      by_cases hl1 : k + 1 < at_.length
      · have hc4 : wr.cell? ⟨ba, oa + (k + 1), none⟩ = some (.int .i64 (at_[k + 1]?.getD 0)) := (hnx.below.cell (p := ⟨ba, oa + (k + 1), none⟩) hba).trans (HA.out (k + 1) hl1)
        have hnx1 : nxt at_ k = at_[k + 1]?.getD 0 := if_pos hl1
        rw [hnx1] at hst
        generalize hva : at_[k]?.getD 0 = va at *
        generalize hvn : m[k]?.getD 0 = vn at *
        generalize hvt : at_[k + 1]?.getD 0 = vt at *
        obtain ⟨fn, tmps, assign, body, hy, hR⟩ := HY.out _ ((va, vt), vn) _ (hJa (.int .i64 va) (.int .i64 vt)) (by rw [upto_length]; exact hlt)
        dsimp only [encs] at hy
        have HX := Lib.hid hnx
        have HU := Lib.hid hup
        have HS := Lib.hid hst
        clear hnx hva hvn hvt hup hst hJa hnx1
        gi_wp2
        refine hR.mono ?_
        rintro e W3 (⟨rfl, hJ3, hk3⟩ | ⟨rfl, hJx3⟩)
        · gi_wp2
          go_roundw
          case rel => exact ⟨k + 1, by omega, by go_num, by rw [HU.out, HS.out]; exact hJ3, (HX.out.trans (KpE.of_below ((Below.refl _ wr).alloc (Nat.le_refl _) _) hsz)).trans hk3⟩
          case measure => simp [intOf]; omega
        · gi_wp2
          refine bodyPost_ret (results_none rfl _ _ _) rfl ?_
          exact ⟨⟨_, rfl⟩, .inr ⟨_, ⟨k + 1, by omega, by rw [HU.out, HS.out]⟩, hJx3⟩⟩
      · have hnx1 : nxt at_ k = 1099511627777 := if_neg hl1
        rw [hnx1] at hst
        generalize hva : at_[k]?.getD 0 = va at *
        generalize hvn : m[k]?.getD 0 = vn at *
        obtain ⟨fn, tmps, assign, body, hy, hR⟩ := HY.out _ ((va, 1099511627777), vn) _ (hJa (.int .i64 va) (.int .i64 1099511627777)) (by rw [upto_length]; exact hlt)
        dsimp only [encs] at hy
        have HX := Lib.hid hnx
        have HU := Lib.hid hup
        have HS := Lib.hid hst
        clear hnx hva hvn hup hst hJa hnx1
        gi_wp2
        refine hR.mono ?_
        rintro e W3 (⟨rfl, hJ3, hk3⟩ | ⟨rfl, hJx3⟩)
        · gi_wp2
          go_roundw
          case rel => exact ⟨k + 1, by omega, by go_num, by rw [HU.out, HS.out]; exact hJ3, (HX.out.trans (KpE.of_below ((Below.refl _ wr).alloc (Nat.le_refl _) _) hsz)).trans hk3⟩
          case measure => simp [intOf]; omega
        · gi_wp2
          refine bodyPost_ret (results_none rfl _ _ _) rfl ?_
          exact ⟨⟨_, rfl⟩, .inr ⟨_, ⟨k + 1, by omega, by rw [HU.out, HS.out]⟩, hJx3⟩⟩
    · obtain rfl : k = at_.length := by omega
      gi_wp2
      go_end0
      exact ⟨⟨_, rfl⟩, .inl ⟨_, rfl, hJs⟩⟩

/-- A slice of numbers in a block below n₀. -/
def IntsB (n₀ : Nat) (w : World) (v : Value) (l : List Int) : Prop :=
  ∃ b o cap, v = .slice (some ⟨b, o, none⟩) l.length cap ∧ b < n₀ ∧ ∀ j, j < l.length → w.cell? ⟨b, o + j, none⟩ = some (.int .i64 (l[j]?.getD 0))
theorem Ints.toB {w : World} {v : Value} {l : List Int} (h : Ints w v l) (h0 : 0 < l.length) {n₀ : Nat} (hn : w.heap.size ≤ n₀) : IntsB n₀ w v l := by
  obtain ⟨_, a, cap, rfl, _, h' | ⟨b, o, rfl, hc⟩⟩ := h
  · omega
  · exact ⟨b, o, cap, rfl, Nat.lt_of_lt_of_le (cell_lt (hc 0 h0)) hn, fun j hj => by rw [hc j hj, List.getElem?_eq_getElem hj]; rfl⟩
theorem IntsB.below {n₀ : Nat} {w w' : World} {v : Value} {l : List Int} (h : IntsB n₀ w v l) (hb : Below n₀ w w') : IntsB n₀ w' v l := by
  obtain ⟨b, o, cap, rfl, hbn, hc⟩ := h
  exact ⟨b, o, cap, rfl, hbn, fun j hj => (hb.cell (p := ⟨b, o + j, none⟩) hbn).trans (hc j hj)⟩

/-- **each(s)'s value, by its contract**: all steps, or the first of them. -/
theorem each_stops (F : Fence) (n : Nat) (h8 : F.fn 49) (hro : F.round = none) (hn : 1 ≤ n) (Bs n₀ : Nat) (v1 v2 : Value) (at_ m : List Int) (hlen : m.length = at_.length) (hmax : at_.length ≤ maxLen) (w : World) (hn₀ : n₀ ≤ w.heap.size)
    (h1 : IntsB n₀ w v1 at_) (h2 : IntsB n₀ w v2 m) (hB0 : w.cell? ⟨Bs, 0, none⟩ = some v1) (hB1 : w.cell? ⟨Bs, 1, none⟩ = some v2) :
    SeqStopsK F n Try.prog 49 #[.pointer (some ⟨Bs, 0, none⟩)] encs (KpE n₀ Bs) (fun ys => ys = upto at_ m at_.length)
      (fun pre => ∃ k, k ≤ at_.length ∧ pre = upto at_ m k) at_.length w := fun l J Jx W hW hJ _ hY h0 => by
  have k1 := h1.below (hW.mono hn₀)
  have k2 := h2.below (hW.mono hn₀)
  have hB0' : W.cell? ⟨Bs, 0, none⟩ = some v1 := (hW.cell (p := ⟨Bs, 0, none⟩) (cell_lt hB0)).trans hB0
  have hB1' : W.cell? ⟨Bs, 1, none⟩ = some v2 := (hW.cell (p := ⟨Bs, 1, none⟩) (cell_lt hB1)).trans hB1
  obtain ⟨ba, oa, ca, rfl, hba, hca⟩ := k1
  obtain ⟨bn, on, cn, rfl, hbn, hcn⟩ := k2
  rw [hlen] at hB1' hcn
  exact each1_in F n h8 hro hn l Bs n₀ ba oa ca bn on cn at_ m hlen hmax hba hbn J Jx hY W (Nat.le_trans hn₀ hW.size) (fun pre W1 W2 hp hb => hJ pre W1 W2 none hp (grown_new hb) (fun r e => by cases e)) hB0' hB1' hca hcn h0
end Go.Proofs.Ytigomdihkojdmaa.gn
