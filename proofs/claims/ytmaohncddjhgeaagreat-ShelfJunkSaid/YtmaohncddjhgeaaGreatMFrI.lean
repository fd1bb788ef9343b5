/- The iterator over frames: its contract. -/
import Derived.Test.YtmaohncddjhgeaaGreatMFrF
import Derived.Test.YtmaohncddjhgeaaGreatMGenRf
section
namespace Go.Proofs.YtmaohncddjhgeaaGreat.gn
open Go.RowKit Go.Shelf
open Go.Proofs.YtmaohncddjhgeaaGreat.sl

attribute [local go_sem] Oper.semAt_some

def encF (xs : List (List UInt8)) (i : Nat) : Array Value := #[.string (str (xs[i]?.getD [])), .bool xs[i]?.isSome]
/-- Block b is a box with these bytes. -/
def BoxFr (w : World) (b : Nat) (r : List UInt8) : Prop := w.heap[b]? = some (.cells #[.string (str r)] 9 (0, 0))
theorem BoxFr.cell {w : World} {b : Nat} {r : List UInt8} (h : BoxFr w b r) : w.cell? ⟨b, 0, none⟩ = some (.string (str r)) := cell_of_one h
theorem BoxFr.free {w : World} {b : Nat} {r : List UInt8} (h : BoxFr w b r) : w.frozen? ⟨b, 0, none⟩ = false := free_of_one h
theorem BoxFr.lt {w : World} {b : Nat} {r : List UInt8} (h : BoxFr w b r) : b < w.heap.size := lt_of_block h

theorem scan_fst {b : List UInt8} : (scan b)[0]? = fst? b := by
  cases h : fst? b with
  | none => rw [scan_none h]; rfl
  | some s => rw [scan_some h]; rfl
theorem scan_at {xs : List (List UInt8)} {r : List UInt8} {i : Nat} (h : scan r = xs.drop i) : xs[i]? = fst? r := by
  rw [← scan_fst, h, List.getElem?_drop, Nat.add_zero]
theorem scan_next {xs : List (List UInt8)} {r s : List UInt8} {i : Nat} (h : scan r = xs.drop i) (hs : fst? r = some s) : scan (r.drop (20 + s.length)) = xs.drop (i + 1) := by
  rw [scan_some hs] at h
  have := congrArg List.tail h
  rw [List.tail_drop] at this
  exact this
theorem scan_len {xs : List (List UInt8)} {r s : List UInt8} {i : Nat} (h : scan r = xs.drop i) (hs : fst? r = some s) : i < xs.length := by
  have h1 := scan_at h
  rw [hs] at h1
  exact (List.getElem?_eq_some_iff.1 h1).1
theorem scan_over {xs : List (List UInt8)} {r : List UInt8} {i : Nat} (h : scan r = xs.drop i) (hi : i ≤ xs.length) (hs : fst? r = none) : i = xs.length := by
  have h1 := scan_at h
  rw [hs] at h1
  have := List.getElem?_eq_none_iff.1 h1
  omega

theorem grown_b {w w' : World} (h : Below w.heap.size w w') (b : Nat) : w.grownBy w' (some b) := ⟨h.os, h.tape, h.output, h.size, fun k hk _ => h.block k hk⟩
theorem boxS_set {w : World} {b : Nat} {r : List UInt8} (h : BoxFr w b r) (t : List UInt8) : BoxFr (w.setCell ⟨b, 0, none⟩ (.string (str t))).drew b t := heap_setCell h _
theorem grown_set (w : World) (b : Nat) (v : Value) : w.grownBy (w.setCell ⟨b, 0, none⟩ v).drew (some b) :=
  ⟨rfl, rfl, rfl, by simp [World.setCell, World.drew, -World.drew_eq], fun k _ hr => Below.heap_setCell _ _ _ _ (fun e => hr (by rw [e]))⟩
def left (b : Nat) (w : World) : Nat := match w.cell? ⟨b, 0, none⟩ with
  | some (.string s) => s.size
  | _ => 0
theorem BoxFr.left {w : World} {b : Nat} {r : List UInt8} (h : BoxFr w b r) : gn.left b w = r.length := by
  unfold gn.left
  rw [h.cell]
  exact str_size r

set_option maxRecDepth 100000 in
set_option maxHeartbeats 4000000 in
theorem frames1_in (n : Nat) (hn : 1 ≤ n) (b : Nat) (r0 : List UInt8) (w : World) (hw : BoxFr w b r0) (hl : r0.length ≤ 140737488355328) :
    SeqBox n Tryz.prog 138 #[.pointer (some ⟨b, 0, none⟩)] b (encF (scan r0)) (scan r0).length w := by
  intro l J Jx W hW hJ hJx hY hZ h0
  obtain ⟨xs, hxs⟩ : ∃ xs, xs = scan r0 := ⟨_, rfl⟩
  rw [← hxs] at hY hZ
  have HY := Lib.hid hY
  have HZ := Lib.hid hZ
  have HJ := Lib.hid hJ
  clear hY hZ hJ
  refine callsIn_of_wp Tryz.func138 rfl trivial ?_ rfl
  simp only [Tryz.ntmps138, List.size_toArray, List.length_cons, List.length_nil, Nat.reduceAdd, Nat.reduceSub, Array.replicate_succ, Array.replicate_zero, List.push_toArray, List.append_toArray, List.nil_append, List.cons_append]
  gi_wp2
  gi_loopw [3] (fun _ wr => ∃ i r, i ≤ xs.length ∧ BoxFr wr b r ∧ r.length ≤ 140737488355328 ∧ scan r = xs.drop i ∧ J i wr)
    (fun _ wr => left b wr)
  case atStart => exact ⟨0, r0, Nat.zero_le _, hW.trans hw, hl, by rw [← hxs]; rfl, h0⟩
  case round =>
    obtain ⟨i, r, hi, hb, hrl, hsc, hJi⟩ := hrel
    have hc := hb.cell
    cases hf : fst? r with
    | none =>
      have hiN : i = xs.length := scan_over hsc hi hf
      have hT := first_any r hrl wr
      rw [hf] at hT
      have HT := Lib.hid hT
      have HE : Hid (encF xs xs.length = #[.string (str []), .bool false]) := by
        show _ = _
        unfold encF
        rw [List.getElem?_eq_none (Nat.le_refl _)]; rfl
      subst hiN
      have HJi := Lib.hid hJi
      clear hT hf hsc hJi hi
      gi_wp2_with (refine ⟨trivial, ?_⟩; gi_at_call 139; refine (callsIn_wide.2 HT.out).mono ?_; rintro e w1 ⟨rfl, hb1⟩; obtain ⟨fn, tmps, assign, body, hy, hR⟩ := HZ.out w1 (HJ.out _ _ _ HJi.out (grown_b hb1 b)); rw [HE.out] at hy; clear hb1)
      refine hR.mono ?_
      rintro e W3 ⟨rfl, hx⟩
      gi_wp2
      refine bodyPost_ret (results_none rfl _ _ _) rfl ?_
      exact ⟨⟨_, rfl⟩, hx⟩
    | some s =>
      have hlt : i < xs.length := scan_len hsc hf
      have hT := first_any r hrl wr
      rw [hf] at hT
      have HT := Lib.hid hT
      have HE : Hid (encF xs i = #[.string (str s), .bool true]) := by
        show _ = _
        unfold encF
        rw [scan_at hsc, hf]; rfl
      have hs1 := (fst_some hf).1
      have hs2 := (fst_some hf).2.1
      have HN := Lib.hid (scan_next hsc hf)
      have HJi := Lib.hid hJi
      have HB := Lib.hid hb
      have hsl : s.length ≤ 140737488355328 := by omega
      clear hT hf hsc hJi hi hb
      gi_wp2_with (refine ⟨trivial, ?_⟩; gi_at_call 139; refine (callsIn_wide.2 HT.out).mono ?_; rintro e w1 ⟨rfl, hb1⟩; obtain ⟨fn, tmps, assign, body, hy, hR⟩ := HY.out i w1 hlt (HJ.out _ _ _ HJi.out (grown_b hb1 b)); rw [HE.out] at hy; have HB1 := Lib.hid ((hb1.block b HB.out.lt).trans HB.out); clear hb1 hc)
      refine hR.mono ?_
      rintro e W3 ⟨rfl, hj3, hb3⟩
      have hb3' : BoxFr W3 b r := hb3.trans HB1.out
      have hc3 := hb3'.cell
      have hf3 := hb3'.free
      have HB3 := Lib.hid hb3'
      have HJ3 := Lib.hid hj3
      clear hb3 hb3' hj3 hy hR
      have hsz : (str s).size = s.length := str_size s
      have hrs : (str r).size = r.length := str_size r
      have sl := sl_from r ((s.length : Int) + 20) (20 + s.length) (by omega) hs2
      gi_wp2
      have mixed : Tryz.prog.follows .mixedOrders = true := by kernel_rfl
      gi_region_with_o (first
        | (gi_at_call 85; refine (callsIn_wide.2 (cost_any s.length (by omega) _)).mono ?_; rintro e w4 ⟨rfl, rfl⟩)
        | (refine ⟨trivial, ?_⟩; gi_at_call 85; refine (callsIn_wide.2 (cost_any s.length (by omega) _)).mono ?_; rintro e w4 ⟨rfl, rfl⟩))
      all_goals gi_wp2
      all_goals
        go_roundw
        case rel => exact ⟨i + 1, r.drop (20 + s.length), by omega, boxS_set HB3.out _, by rw [List.length_drop]; omega, HN.out, HJ.out _ _ _ HJ3.out (grown_set W3 b _)⟩
        case measure =>
          rw [BoxFr.left HB.out, BoxFr.left (boxS_set HB3.out _), List.length_drop]
          omega
end Go.Proofs.YtmaohncddjhgeaaGreat.gn
end
