/- FilesBegin's walk. -/
import Derived.Test.YtdfiofjnijnodaaFiZ
set_option linter.unusedVariables false
namespace Go.Proofs.Ytdfiofjnijnodaa.gn
open Go.RowKit
open Go.Proofs.Ytdfiofjnijnodaa.fi

theorem fcell_lt {w : World} {p : Addr} {v : Value} (h : w.cell? p = some v) : p.block < w.heap.size := by
  unfold World.cell? at h
  split at h
  · exact (Array.getElem?_eq_some_iff.1 (by assumption)).1
  · cases h
def one1 (d : Nat) (s : FS) : Nat → Option FS := upd (fun _ => none) d s
theorem one1_at (d : Nat) (s : FS) : one1 d s d = some s := upd_same _ _ _
theorem one1_upd (d : Nat) (s t : FS) : upd (one1 d s) d t = one1 d t := upd_upd _ _ _ _
def BegRel (B d bf : Nat) (f : Fault) (first : List UInt8) (L : List (List UInt8)) (w : World) (k : Nat) (x : Value) (wr : World) : Prop :=
  x = .string (str (first ++ (L.take k).flatten)) ∧ SB B wr (one1 d (logS first (L.take k))) ∧ Below B w wr ∧ (∀ j (h : j < L.length), j < k → L[j].length ≤ 300)
theorem flat_len (L : List (List UInt8)) (k : Nat) (hk : k ≤ L.length) (h : ∀ j (hj : j < L.length), j < k → L[j].length ≤ 300) : (L.take k).flatten.length ≤ 300 * k := by
  induction k with
  | zero => simp
  | succ k ih =>
    have h1 := ih (by omega) fun j hj hjk => h j hj (by omega)
    have h2 := h k (by omega) (by omega)
    rw [List.take_succ_eq_append_getElem (by omega), List.flatten_append, List.length_append, List.flatten_cons, List.flatten_nil, List.append_nil]
    omega

set_option maxHeartbeats 32000000 in
set_option maxRecDepth 100000 in
theorem begin_law (first : List UInt8) (v : Value) (L : List (List UInt8)) (f : Fault) (hfl : f.lose < 18446744073709551616) (w : World) (hv : Strs w v L) :
    Calls Try.prog 4 #[.string (str first), v, .agg #[.int .i64 f.keep, .int .u64 (f.lose : Int), .int .i64 f.cut]] w fun e w' => e = .returned (.bool true) ∧ Below w.heap.size w w' := by
  obtain ⟨A, c, rfl, hLc, hcm, hcell, hLm⟩ := hv
  have hz := Lib.hid (str_size first)
  have hb0 : Below w.heap.size w (w.alloc (.cells #[.int .i64 f.keep, .int .u64 (f.lose : Int), .int .i64 f.cut] 25)) := (Below.refl _ w).alloc (Nat.le_refl _) _
  have hbx : BoxF (w.alloc (.cells #[.int .i64 f.keep, .int .u64 (f.lose : Int), .int .i64 f.cut] 25)) w.heap.size f := heap_alloc_new w _
  have HB0 := Lib.hid hb0
  have HBX := Lib.hid hbx
  unfold maxLen at hcm
  by_cases h1 : 300 < first.length
  · have h1' : 300 < ((str first).size : Int) := by have := hz.out; omega
    clear hcell hLm hb0 hbx
    go_enter Try.func4, Try.ntmps4
    go_wp2_with (go_at_call 6; ((with_reducible refine (head_any _).mono ?_); rintro e w1 ⟨rfl, hb⟩))
    go_ret
    exact ⟨rfl, HB0.out.trans (hb.mono HB0.out.size)⟩
  · have h1' : ¬ 300 < ((str first).size : Int) := by have := hz.out; omega
    by_cases h2 : 30 < L.length
    · clear hcell hLm hb0 hbx
      go_enter Try.func4, Try.ntmps4
      go_wp2_with (go_at_call 6; ((with_reducible refine (head_any _).mono ?_); rintro e w1 ⟨rfl, hb⟩))
      go_ret
      exact ⟨rfl, HB0.out.trans (hb.mono HB0.out.size)⟩
    · have h3 : first.length ≤ 300 := by omega
      have h2' : decide (30 < (L.length : Int)) = false := by simp only [decide_eq_false_iff_not]; omega
      have HC := Lib.hid hcell
      have HLM := Lib.hid hLm
      have C0 := Lib.hid (new_sb (SB.none_ (w.alloc (.cells #[.int .i64 f.keep, .int .u64 (f.lose : Int), .int .i64 f.cut] 25))) 20000)
      clear hcell hLm hb0 hbx
      go_enter Try.func4, Try.ntmps4
      go_wp2_with (first
        | (go_at_call 7; ((with_reducible refine C0.out.mono ?_); rintro e w1 ⟨d, rfl, hd, hs, hb⟩; have B1 := Lib.hid hb; have C1 := Lib.hid (make_sb (xb := ⟨#[108, 111, 103]⟩) (n := lg) hs sb_at (by decide) rfl (by decide) log_1); clear hs hb hd))
        | (go_at_call 16; ((with_reducible refine C1.out.mono ?_); rintro e w2 ⟨rfl, hs, hb⟩; have B2 := Lib.hid hb; have C2 := Lib.hid (append_sb (xb := ⟨#[108, 111, 103]⟩) (n := lg) (t := first) hs sb_at (by decide) rfl (by decide) rfl (by omega) (log_2 first h3)); clear hs hb))
        | (go_at_call 17; ((with_reducible refine C2.out.mono ?_); rintro e w3 ⟨rfl, hs, hb⟩; have B3 := Lib.hid hb; have C3 := Lib.hid (sync_sb hs sb_at (by simp [FS.wt, wt, wts, FOp.wt]; omega) (log_3 first)); clear hs hb))
        | (go_at_call 13; ((with_reducible refine C3.out.mono ?_); rintro e w4 ⟨rfl, hs, hb⟩; have B4 := Lib.hid hb; have S4 := Lib.hid hs; clear hs hb)))
      have hB4 := Lib.hid (((B1.out.trans B2.out).trans B3.out).trans B4.out)
      have hS4 : Hid (SB (w.alloc (.cells #[.int .i64 f.keep, .int .u64 (f.lose : Int), .int .i64 f.cut] 25)).heap.size w4 (one1 d (logS first []))) := by
        have h := S4.out
        rw [upd_upd, upd_upd, upd_upd] at h
        exact h
      go_loopw [11, 12] (fun x i wr => ∃ k : Nat, k ≤ L.length ∧ i = .int .i64 k ∧ BegRel (w.alloc (.cells #[.int .i64 f.keep, .int .u64 (f.lose : Int), .int .i64 f.cut] 25)).heap.size d w.heap.size f first L (w.alloc (.cells #[.int .i64 f.keep, .int .u64 (f.lose : Int), .int .i64 f.cut] 25)) k x wr) (fun _ i _ => L.length - (intOf i).toNat)
      case atStart => exact ⟨0, Nat.zero_le _, rfl, by simp, hS4.out, hB4.out, fun j hj hjk => by omega⟩
      case round =>
        obtain ⟨k, hk, rfl, rfl, hs, hb, hsm⟩ := hrel
        have hfl' := flat_len L k hk hsm
        have hal : (first ++ (L.take k).flatten).length ≤ 10000 := by rw [List.length_append]; omega
        have hzl : (logS first (L.take k)).wt ≤ 549755813888 := by rw [log_wt, List.length_take]; omega
        by_cases hlt : k < L.length
        · obtain ⟨b, o, hA, hce⟩ : ∃ b o, A = some ⟨b, o, none⟩ ∧ ∀ j (h : j < L.length), w.cell? ⟨b, o + j, none⟩ = some (.string (str L[j])) := by
            rcases HC.out with h | h
            · omega
            · exact h
          subst hA
          obtain ⟨t, ht⟩ : ∃ t, t = L[k] := ⟨_, rfl⟩
          have hc1 := hce k hlt
          rw [← ht] at hc1
          have hbl : b < w.heap.size := fcell_lt hc1
          have hc2 : wr.cell? ⟨b, o + k, none⟩ = some (.string (str t)) := by
            rw [hb.cell (p := ⟨b, o + k, none⟩) (Nat.lt_of_lt_of_le hbl HB0.out.size), HB0.out.cell (p := ⟨b, o + k, none⟩) hbl]
            exact hc1
          have hI0 : (0 : Int) ≤ (k : Int) := by omega
          have hI1 : (k : Int) < (L.length : Int) := by omega
          have HT := Lib.hid ht
          have HSM := Lib.hid hsm
          have HS := Lib.hid hs
          have HB := Lib.hid hb
          have hts := Lib.hid (str_size t)
          clear ht hsm hs hb hc1 hce
          by_cases h300 : 300 < t.length
          · have h300' : 300 < ((str t).size : Int) := by have := hts.out; omega
            go_wp2_with (go_at_call 6; ((with_reducible refine (head_any _).mono ?_); rintro e w5 ⟨rfl, hb⟩))
            go_ret
            exact ⟨rfl, (HB0.out.trans (HB.out.mono HB0.out.size)).trans (hb.mono (Nat.le_trans HB0.out.size HB.out.size))⟩
          · have h300' : ¬ 300 < ((str t).size : Int) := by have := hts.out; omega
            have hap := log_app first (L.take k) t (by omega)
            have hx := Lib.hid (str_size (first ++ (L.take k).flatten))
            have hC := Lib.hid (append_sb (xb := ⟨#[108, 111, 103]⟩) (n := lg) (t := t) HS.out (one1_at _ _) hzl rfl (by decide) rfl (by omega) hap)
            have hsz1 : ((str (first ++ (L.take k).flatten)).size : Int) ≤ 10000 := by have := hx.out; omega
            have hsz2 : ((str t).size : Int) ≤ 300 := by omega
            clear hap
            go_wp2_with (go_at_call 17; ((with_reducible refine hC.out.mono ?_); rintro e w5 ⟨rfl, hs, hb⟩; have hc5 : w5.cell? ⟨b, o + k, none⟩ = some (.string (str t)) := (hb.cell (p := ⟨b, o + k, none⟩) (Nat.lt_of_lt_of_le hbl HB0.out.size)).trans hc2; have HS5 := Lib.hid hs; have HB5 := Lib.hid hb; clear hs hb))
            go_roundw
            case rel =>
              have htk : L.take (k + 1) = L.take k ++ [t] := by rw [List.take_succ_eq_append_getElem hlt, HT.out]
              refine ⟨k + 1, by omega, by go_num, ?_, ?_, HB.out.trans HB5.out, fun j hj hjk => ?_⟩
              · rw [htk, str_app, List.flatten_append, List.append_assoc]
                simp
              · have h := HS5.out
                rw [one1_upd] at h
                rw [htk]
                exact h
              · by_cases e : j = k
                · subst e
                  rw [← HT.out]
                  omega
                · exact HSM.out j hj (by omega)
            case measure => simp [intOf]; omega
        · have hkL : L.take k = L := List.take_of_length_le (by omega)
          rw [hkL] at hs hal hzl
          obtain ⟨q, r, hcr, hfl2⟩ := log_crash f first L
          have hbx1 : BoxF wr w.heap.size f := (hb.block _ (lt_of_block HBX.out)).trans HBX.out
          obtain ⟨e0, e1, e2⟩ := hbx1.cells
          have hlq : (first ++ q).length ≤ (first ++ L.flatten).length := by rw [hfl2]; simp only [List.length_append]; omega
          have hext : (str (first ++ L.flatten)).extract 0 (str (first ++ q)).size = str (first ++ q) := by
            rw [str_take, str_size, hfl2, ← List.append_assoc]
            congr 1
            exact List.take_left
          have HX : Hid (str (first ++ (L.take k).flatten) = str (first ++ L.flatten)) := by show _ = _; rw [hkL]
          obtain ⟨xs, hxs⟩ : ∃ xs, xs = str (first ++ (L.take k).flatten) := ⟨_, rfl⟩
          obtain ⟨ys, hys⟩ : ∃ ys, ys = str (first ++ q) := ⟨_, rfl⟩
          rw [HX.out] at hxs
          rw [← hxs, ← hys] at hext
          have hz1 : (str first).size = first.length := str_size first
          have hz2 : ys.size = (first ++ q).length := by rw [hys, str_size]
          have hz3 : xs.size = (first ++ L.flatten).length := by rw [hxs, str_size]
          have hI1 : ((str first).size : Int) ≤ (ys.size : Int) := by rw [hz1, hz2]; simp only [List.length_append]; omega
          have hI2 : (ys.size : Int) ≤ (xs.size : Int) := by rw [hz3, hz2]; omega
          have hI3 : (0 : Int) ≤ (ys.size : Int) := by omega
          have hI4 : (ys.size : Int) ≤ 10000 := by rw [hz2]; omega
          have hC := Lib.hid (crash_sb hs (one1_at _ _) hzl f hfl rfl rfl rfl hcr)
          have HYS := Lib.hid hys
          have HB := Lib.hid hb
          rw [HX.out, ← hxs]
          clear hs hb hbx1 hcr hfl2 hlq hz1 hz2 hz3 hkL hxs hys hal hzl hfl'
          go_wp2_with (first
            | (go_at_call 11; ((with_reducible refine hC.out.mono ?_); rintro e w5 ⟨rfl, hs, hb⟩; have HB5 := Lib.hid hb; have hC2 := Lib.hid (read_sb (xb := ⟨#[108, 111, 103]⟩) (yb := ys) (n := lg) (q := 0) hs sb_at rfl HYS.out rfl); clear hs hb))
            | (go_at_call 18; ((with_reducible refine hC2.out.mono ?_); rintro e w6 ⟨rfl, hb⟩; have HB6 := Lib.hid hb; clear hb))
            | (go_at_call 6; ((with_reducible refine (head_any _).mono ?_); rintro e w7 ⟨rfl, hb⟩; have HB7 := Lib.hid hb; clear hb)))
          go_ret
          have t1 := HB0.out.trans (HB.out.mono HB0.out.size)
          have t2 := t1.trans (HB5.out.mono HB0.out.size)
          have t3 := t2.trans (HB6.out.mono t2.size)
          exact ⟨rfl, t3.trans (HB7.out.mono t3.size)⟩
end Go.Proofs.Ytdfiofjnijnodaa.gn
