/- A job laid into a row of uses of the call's own: slices.Insert at numbers. -/
import Derived.Test.YtkjffoebcblpoaaGreatMBvR
import Derived.Shelf.Spec.SlicesInsertGrow
import Derived.Lib.Overlaps
import Derived.Deep.RegionLaw
section
set_option linter.unusedVariables false
set_option linter.unusedSimpArgs false
set_option maxRecDepth 100000
namespace Go.Proofs.YtkjffoebcblpoaaGreat.gn
open Go.RowKit Go.Shelf
open Go.Proofs.YtkjffoebcblpoaaGreat.bu (Bf)

attribute [local go_sem] Oper.semAt_some

theorem ics_app (l k : List Int) : ics (l ++ k) = ics l ++ ics k := by simp [ics]
/-- One number more, behind a row of the call's own. -/
theorem run_int1 {base : Nat} {w : World} {v : Value} {l : List Int} (h : OutI base w v l) (k : Nat) (job : Int) (hk : BoxA w k 2 #[.int .i64 job]) (hb : base ≤ w.heap.size) (hl : l.length ≤ 1000000) (ty : TypeId) :
    ∃ u w', (Builtin.append_ #[24, 24] ty #[v, .slice (some ⟨k, 0, none⟩) 1 1]).run Tryz.prog w = .ok u w' ∧ OutI base w' u (l ++ [job]) ∧ RowG base w v w' := by
  by_cases hz : ∃ p, v = .slice p 0 0
  · obtain ⟨p, rfl⟩ := hz
    have h0 : l = [] := by
      obtain ⟨_, _, e, _⟩ := ApC.form h
      simp only [Value.slice.injEq] at e
      exact List.eq_nil_of_length_eq_zero e.2.1.symm
    subst h0
    obtain ⟨v', w', hrun, h2, h3⟩ := run_ap eltI64 ty (base := w.heap.size) (v := .slice p 0 0) (n := 0) (cs := []) (.inl ⟨p, rfl, rfl, rfl⟩) (box_rdc (c := 1) hk) rfl (fun u hu => by simp at hu; rw [hu]; rfl) (by unfold maxLen; omega) (by omega) (Nat.le_refl _)
    exact ⟨v', w', hrun, ApC.mono h2 hb, .inr h3⟩
  · rcases h with ⟨p, rfl, hn, _⟩ | h
    · exact absurd ⟨p, rfl⟩ hz
    · obtain ⟨v', w', hrun, h1, h2, h3⟩ := run_own (m := 1) (c := 1) (a := ⟨k, 0, none⟩) (ds := [.int .i64 job]) eltI64 ty h (fun j u hu => by rw [Addr.add_lit, Nat.zero_add]; exact BoxA.cell hk j u (by simpa using hu)) rfl (fun u hu => by simp at hu; rw [hu]; rfl) (by unfold maxLen; omega) (by omega) hb (by decide)
      refine ⟨v', w', hrun, .inr ?_, .inl ⟨_, _, h, hz, h2⟩⟩
      rw [ics_app, List.length_append]
      exact h1
/-- What Insert tells. -/
def InsT (base : Nat) (W : World) (v : Value) (l : List Int) (en : Ending) (w' : World) : Prop := ∃ u, en = .returned u ∧ OutI base w' u l ∧ RowG base W v w'
theorem setL_full : ∀ (vs B : List Value), B.length = vs.length → setL B 0 vs = vs
  | [], B, h => by
    have hB : B = [] := List.eq_nil_of_length_eq_zero (by simpa using h)
    subst hB
    rfl
  | v :: r, [], h => by simp at h
  | v :: r, b :: B, h => by
    have := setL_app [v] r B 0
    unfold setL
    rw [List.set_cons_zero, show v :: B = [v] ++ B from rfl, show (0 + 1) = [v].length + 0 from rfl, this, setL_full r B (by simpa using h)]
    rfl
theorem setL_tail (A : List Value) (o : Nat) (vs : List Value) (h : o + vs.length = A.length) : setL A o vs = A.take o ++ vs := by
  have hl : (A.take o).length = o := by rw [List.length_take]; omega
  have h1 := setL_app (A.take o) vs (A.drop o) 0
  rw [List.take_append_drop, hl, Nat.add_zero, setL_full vs (A.drop o) (by rw [List.length_drop]; omega)] at h1
  exact h1
theorem own_ext {w : World} {base g n cap : Nat} {e : TypeId} {xs : List Value} (h : w.ownsRow base e 1 (.slice (some ⟨g, 0, none⟩) n cap) n xs) (hn : n + 1 ≤ cap) :
    ∃ y, w.ownsRow base e 1 (.slice (some ⟨g, 0, none⟩) (n + 1) cap) (n + 1) (xs ++ [y]) := by
  obtain ⟨h1, ⟨h2, _⟩ | ⟨g', cap', cur, h2, hb, hg, hc, hm, hcs, ht⟩⟩ := h
  · cases h2
  · cases h2
    have hlt : n < cur.size := by omega
    refine ⟨cur[n], by rw [List.length_append, h1]; simp, .inr ⟨g, cap, cur, rfl, hb, hg, hn, hm, hcs, ?_⟩⟩
    rw [Nat.mul_one] at ht ⊢
    rw [List.take_add_one, ht, Array.getElem?_toList, Array.getElem?_eq_getElem hlt]
    rfl
set_option maxHeartbeats 4000000 in
/-- Room, ahead of the last: in place. -/
theorem insI_room {w : World} {g n cap i k m : Nat} {job : Int} {cs : List Value} (hlt : i < n) (hm : m = 1) (hroom : n + m ≤ cap) (hcm : cap ≤ maxLen) (hcl : cs.length = n) (hcs : ∀ j v, cs[j]? = some v → w.cell? ⟨g, j, none⟩ = some v)
    (hsp : ∀ j, j < n + m → (w.cell? ⟨g, j, none⟩).isSome = true ∧ w.frozen? ⟨g, j, none⟩ = false) (hone : ∀ v ∈ cs, v.oneCell' = true) (hk : BoxA w k 2 #[.int .i64 job]) (hkg : k ≠ g) {tB : TypeId} {kB : Nat} (hsb : w.shape? g = some (tB, kB)) (hkB : kB ≠ 0) :
    Calls Tryz.prog 48 #[.slice (some ⟨g, 0, none⟩) n cap, .int .i64 (i : Nat), .slice (some ⟨k, 0, none⟩) m 1] w fun e w' =>
      e = .returned (.slice (some ⟨g, 0, none⟩) (n + m) cap) ∧ w' = (w.drew.setCells g (i + m) (cs.drop i)).setCells g i [.int .i64 job] := by
  unfold maxLen at hcm
  have hsz : (Tryz.prog.info? 2).map (·.size) = some 1 := by kernel_rfl
  have hsa : w.shape? k = some (2, 1) := by unfold World.shape?; rw [show w.heap[k]? = _ from hk]; rfl
  have hov : ∀ lb cb, (callFunc 77 #[.slice (some ⟨k, 0, none⟩) m 1, .slice (some ⟨g, i + m, none⟩) lb cb]).run Tryz.prog w = .ok (.value (.bool false)) w := fun lb cb => by
    rw [run_callFunc_extern Tryz.func77 (by kernel_rfl) (by kernel_rfl) (by kernel_rfl) (e := Extern.SlicesOverlaps.overlaps #[24, 24] #[4]) (by kernel_rfl),
      Lib.run_overlaps_apart w 24 4 2 Tryz.underlying24 1 Tryz.sizeOf2 ⟨k, 0, none⟩ ⟨g, i + m, none⟩ m 1 lb cb hkg _ _ _ _ hsa hsb hkB (BoxA.free hk 0) (BoxA.free hk 1)]
    rfl
  have hdl : (cs.drop i).length = n - i := by rw [List.length_drop, hcl]
  have hc1 : ∀ ty dc sc, (Builtin.copy_ #[24, 24] ty #[.slice (some ⟨g, i + m, none⟩) (n + m - (i + m)) dc, .slice (some ⟨g, i, none⟩) (n + m - i) sc]).run Tryz.prog w.drew = .ok (goInt (cs.drop i).length) (w.drew.setCells g (i + m) (cs.drop i)) := fun ty dc sc =>
    run_copy_cells w.drew _ _ ty 2 g (i + m) (n + m - (i + m)) dc ⟨g, i, none⟩ (n + m - i) sc (cs.drop i) Tryz.underlying24 hsz (by rw [hdl]; simp only [Nat.min_def]; split <;> omega)
      (fun j u hj => by rw [Addr.add_lit]; exact hcs (i + j) u (by rwa [List.getElem?_drop] at hj))
      (fun j hj => (hsp _ (by omega)).1) (fun j hj => (hsp _ (by omega)).2) (fun u hu => hone u (List.mem_of_mem_drop hu))
  obtain ⟨W1, hW1⟩ : ∃ W1, W1 = w.drew.setCells g (i + m) (cs.drop i) := ⟨_, rfl⟩
  have hc2 : ∀ ty dc, (Builtin.copy_ #[24, 24] ty #[.slice (some ⟨g, i, none⟩) (n + m - i) dc, .slice (some ⟨k, 0, none⟩) m 1]).run Tryz.prog W1 = .ok (goInt ([Value.int .i64 job] : List Value).length) (W1.setCells g i [.int .i64 job]) := fun ty dc =>
    run_copy_cells W1 _ _ ty 2 g i (n + m - i) dc ⟨k, 0, none⟩ m 1 [.int .i64 job] Tryz.underlying24 hsz (by show 1 = _; simp only [Nat.min_def]; split <;> omega)
      (fun j u hj => by
        rw [Addr.add_lit, hW1, World.cell?_setCells_out g _ _ _ _ (fun h _ => absurd h hkg), Nat.zero_add]
        exact BoxA.cell hk j u (by simpa using hj))
      (fun j hj => by rw [hW1]; exact isSome_setCells g (cs.drop i) (i + m) w.drew (fun t ht => (hsp (i + m + t) (by rw [hdl] at ht; omega)).1) (i + j) (hsp (i + j) (by have hj2 : j < 1 := hj; omega)).1) (fun j hj => by rw [hW1, World.frozen?_setCells]; exact (hsp (i + j) (by have hj2 : j < 1 := hj; omega)).2) (fun u hu => by simp at hu; rw [hu]; rfl)
  rw [← hW1] at hc1 ⊢
  have HC1 := Lib.hid hc1
  have HC2 := Lib.hid hc2
  have hz1 : ((m : Int) == 0) = false := by rw [beq_eq_false_iff_ne]; omega
  have hz2 : ((i : Int) == (n : Int)) = false := by rw [beq_eq_false_iff_ne]; omega
  have hz3 : decide ((cap : Int) < (n : Int) + (m : Int)) = false := decide_eq_false (by omega)
  have hw0 : IntKind.i64.wrap ((n : Int) + (m : Int)) = (n : Int) + (m : Int) := by rw [IntKind.wrap_i64]; omega
  have hw1 : IntKind.i64.wrap ((i : Int) + (m : Int)) = (i : Int) + (m : Int) := by rw [IntKind.wrap_i64]; omega
  have hb1 : (0 : Int) ≤ (i : Int) + (m : Int) := by omega
  have hb2 : (0 : Int) ≤ (n : Int) + (m : Int) := by omega
  have hb3 : (n : Int) + (m : Int) ≤ (cap : Int) := by omega
  have hb4 : (i : Int) + (m : Int) ≤ (n : Int) + (m : Int) := by omega
  have hb5 : (i : Int) ≤ (n : Int) + (m : Int) := by omega
  have hb6 : (i : Int) ≤ (n : Int) := by omega
  have hb7 : (i : Int) ≤ (cap : Int) := by omega
  have ht1 : ((i : Int) + (m : Int)).toNat = i + m := by omega
  have ht2 : ((n : Int) + (m : Int)).toNat = n + m := by omega
  have hn1 : ¬ cap = i + m := by omega
  have hn2 : ¬ cap = i := by omega
  have mixed : Tryz.prog.follows .mixedOrders = true := by kernel_rfl
  clear hm hroom hcl hcs hsp hone hk hkg hsb hkB hsa hdl hc1 hc2 hcm hlt hW1
  go_enter Tryz.func48, Tryz.ntmps48
  go_wp2_with (simp only [hov])
  go_region_law_o (go_loud (refine step_copy_runI rfl _ _ 24 24 rfl (.slice (some ⟨g, i + m, none⟩) (n + m - (i + m)) (cap - (i + m))) (.slice (some ⟨g, i, none⟩) (n + m - i) (cap - i)) (by simp [Act.eval, Act.put]) (by simp [Act.eval, Act.put]) (HC1.out _ _ _) ?_))
  go_wp2_with (refine wpList_copy_runI _ rfl _ _ 24 24 rfl _ _ rfl rfl (HC2.out _ _) ?_)
  go_ret
  exact ⟨rfl, rfl⟩
set_option maxHeartbeats 4000000 in
/-- No room, ahead of the last: a new row. -/
theorem insI_grow {w : World} {g n cap i k m : Nat} {job : Int} {cs : List Value} (hlt : i < n) (hm : m = 1) (hcap : n = cap) (hbig : n ≤ 1000000) (hcl : cs.length = n) (hcs : ∀ j v, cs[j]? = some v → w.cell? ⟨g, j, none⟩ = some v)
    (hone : ∀ v ∈ cs, v.oneCell' = true) (hk : BoxA w k 2 #[.int .i64 job]) (hgl : g < w.heap.size) :
    Calls Tryz.prog 48 #[.slice (some ⟨g, 0, none⟩) n cap, .int .i64 (i : Nat), .slice (some ⟨k, 0, none⟩) m 1] w fun e w' =>
      ∃ G ROW, e = .returned (.slice (some ⟨w.heap.size, 0, none⟩) (n + m) G) ∧ n + m ≤ G ∧ G ≤ maxLen ∧ ROW.size = G ∧ ROW.toList.take i = cs.take i ∧ w' = ((w.drew.alloc (.cells ROW 2)).setCells w.heap.size i [.int .i64 job]).drew.setCells w.heap.size (i + m) (cs.drop i) := by
  have hsz : (Tryz.prog.info? 2).map (·.size) = some 1 := by kernel_rfl
  obtain ⟨i0, hi0, hz0, hzs, hzb⟩ := eltI64.inf
  have hkl : k < w.heap.size := BoxA.lt hk
  have hold : (Builtin.firstCells i0.size i (.slice (some ⟨g, 0, none⟩) i cap)).run Tryz.prog w.drew = .ok (cs.take i).toArray w.drew := by
    rw [hzs]
    exact run_firstCells_some w.drew 1 i ⟨g, 0, none⟩ i cap (cs.take i) (by rw [List.length_take]; omega) (fun j u hj => by
      rw [Addr.add_lit, Nat.zero_add]
      rw [List.getElem?_take] at hj
      split at hj
      · exact hcs j u hj
      · cases hj)
  have hik : i + (n + m - i) = n + m := by omega
  have hrz : ∀ ty, (Builtin.append_ #[24, 3] ty #[.slice (some ⟨g, 0, none⟩) i cap, .int .i64 ((n : Int) + (m : Int) - (i : Int))]).run Tryz.prog w = .ok (.slice (some ⟨w.heap.size, 0, none⟩) (n + m) (grownCap w (n + m) cap 2)) (w.drew.alloc (.cells ((cs.take i).toArray ++ Builtin.zeroCells (Value.int .i64 0).cells (n + m - i) ++ Builtin.zeroCells (Value.int .i64 0).cells (grownCap w (n + m) cap 2 - (n + m))) 2)) := fun ty => by
    have h := Lib.run_append_grow_zeros w 24 3 ty 2 i0 _ .i64 .i64 Tryz.underlying24 Tryz.underlying3 hi0 hz0 (some ⟨g, 0, none⟩) i cap (cs.take i) hold (n + m - i) (by omega) (by omega) (by omega) (by omega) (by rw [hzb]; omega) (by rw [hzb, hik]; exact growslice_fits (by omega) (by omega))
    rw [hik] at h
    rw [show (n : Int) + (m : Int) - (i : Int) = ((n + m - i : Nat) : Int) by omega]
    exact h
  have hGn := grownCap_ge w (n + m) cap 2
  have hGm := grownCap_le_maxLen w (n + m) cap 2 (by unfold maxLen; omega)
  obtain ⟨G, hG⟩ : ∃ G, grownCap w (n + m) cap 2 = G := ⟨_, rfl⟩
  rw [hG] at hrz hGn hGm
  obtain ⟨ROW, hROW⟩ : ∃ ROW : Array Value, (cs.take i).toArray ++ Builtin.zeroCells (Value.int .i64 0).cells (n + m - i) ++ Builtin.zeroCells (Value.int .i64 0).cells (G - (n + m)) = ROW := ⟨_, rfl⟩
  rw [hROW] at hrz
  have hRs : ROW.size = G := by
    rw [← hROW]
    simp [Builtin.zeroCells, Value.cells]
    omega
  have hRt : ROW.toList.take i = cs.take i := by
    rw [← hROW]
    simp only [Array.toList_append, List.append_assoc]
    rw [List.take_append_of_le_length (by simp; omega)]
    exact List.take_of_length_le (by simp; omega)
  obtain ⟨W1, hW1⟩ : ∃ W1, w.drew.alloc (.cells ROW 2) = W1 := ⟨_, rfl⟩
  rw [hW1] at hrz
  have hkl2 : k < w.drew.heap.size := hkl
  have hb1 : BoxA W1 w.heap.size 2 ROW := by rw [← hW1]; exact BoxA.new w.drew 2 ROW
  have hk1 : ∀ j u, w.cell? ⟨k, j, none⟩ = some u → W1.cell? ⟨k, j, none⟩ = some u := fun j u h => by rw [← hW1]; exact (low_cell ((Below.refl _ w.drew).alloc (Nat.le_refl _) _) hkl2).trans h
  have hg1 : ∀ j u, w.cell? ⟨g, j, none⟩ = some u → W1.cell? ⟨g, j, none⟩ = some u := fun j u h => by rw [← hW1]; exact (low_cell ((Below.refl _ w.drew).alloc (Nat.le_refl _) _) (show g < w.drew.heap.size from hgl)).trans h
  have hN : ∀ j, j < n + m → (W1.cell? ⟨w.heap.size, j, none⟩).isSome = true := fun j hj => by
    rw [BoxA.cell hb1 j _ (Array.getElem?_eq_getElem (by omega))]
    rfl
  have hdl : (cs.drop i).length = n - i := by rw [List.length_drop, hcl]
  have hc1 : ∀ ty dc, (Builtin.copy_ #[24, 24] ty #[.slice (some ⟨w.heap.size, i, none⟩) (n + m - i) dc, .slice (some ⟨k, 0, none⟩) m 1]).run Tryz.prog W1 = .ok (goInt ([Value.int .i64 job] : List Value).length) (W1.setCells w.heap.size i [.int .i64 job]) := fun ty dc =>
    run_copy_cells W1 _ _ ty 2 w.heap.size i (n + m - i) dc ⟨k, 0, none⟩ m 1 [.int .i64 job] Tryz.underlying24 hsz (by show 1 = _; simp only [Nat.min_def]; split <;> omega)
      (fun j u hj => by rw [Addr.add_lit, Nat.zero_add]; exact hk1 j u (BoxA.cell hk j u (by simpa using hj)))
      (fun j hj => hN _ (by have hj2 : j < 1 := hj; omega)) (fun j hj => BoxA.free hb1 _) (fun u hu => by simp at hu; rw [hu]; rfl)
  obtain ⟨W2, hW2⟩ : ∃ W2, W1.setCells w.heap.size i [.int .i64 job] = W2 := ⟨_, rfl⟩
  rw [hW2] at hc1
  have hc2 : ∀ ty dc sc, (Builtin.copy_ #[24, 24] ty #[.slice (some ⟨w.heap.size, i + m, none⟩) (n + m - (i + m)) dc, .slice (some ⟨g, i, none⟩) (n - i) sc]).run Tryz.prog W2.drew = .ok (goInt (cs.drop i).length) (W2.drew.setCells w.heap.size (i + m) (cs.drop i)) := fun ty dc sc =>
    run_copy_cells W2.drew _ _ ty 2 w.heap.size (i + m) (n + m - (i + m)) dc ⟨g, i, none⟩ (n - i) sc (cs.drop i) Tryz.underlying24 hsz (by rw [hdl]; simp only [Nat.min_def]; split <;> omega)
      (fun j u hj => by
        show W2.cell? _ = _
        rw [Addr.add_lit, ← hW2, World.cell?_setCells_out w.heap.size _ _ _ _ (fun h _ => absurd h (by show g ≠ _; omega))]
        exact hg1 _ u (hcs (i + j) u (by rwa [List.getElem?_drop] at hj)))
      (fun j hj => by
        show (W2.cell? _).isSome = true
        rw [← hW2]
        exact isSome_setCells w.heap.size [.int .i64 job] i W1 (fun t ht => hN (i + t) (by have ht2 : t < 1 := ht; omega)) (i + m + j) (hN (i + m + j) (by rw [hdl] at hj; omega)))
      (fun j hj => by
        show W2.frozen? _ = false
        rw [← hW2, World.frozen?_setCells]
        exact BoxA.free hb1 _) (fun u hu => hone u (List.mem_of_mem_drop hu))
  obtain ⟨W3, hW3⟩ : ∃ W3, W2.drew.setCells w.heap.size (i + m) (cs.drop i) = W3 := ⟨_, rfl⟩
  rw [hW3] at hc2
  have HC0 := Lib.hid hrz
  have HC1 := Lib.hid hc1
  have HC2 := Lib.hid hc2
  have HFI := Lib.hid (show (n + m ≤ G ∧ G ≤ maxLen ∧ ROW.size = G ∧ ROW.toList.take i = cs.take i) ∧ W3 = ((w.drew.alloc (.cells ROW 2)).setCells w.heap.size i [.int .i64 job]).drew.setCells w.heap.size (i + m) (cs.drop i) from ⟨⟨hGn, hGm, hRs, hRt⟩, by rw [← hW3, ← hW2, ← hW1]⟩)
  have hz1 : ((m : Int) == 0) = false := by rw [beq_eq_false_iff_ne]; omega
  have hz2 : ((i : Int) == (n : Int)) = false := by rw [beq_eq_false_iff_ne]; omega
  have hz3 : decide ((cap : Int) < (n : Int) + (m : Int)) = true := decide_eq_true (by omega)
  have hw0 : IntKind.i64.wrap ((n : Int) + (m : Int)) = (n : Int) + (m : Int) := by rw [IntKind.wrap_i64]; omega
  have hw1 : IntKind.i64.wrap ((i : Int) + (m : Int)) = (i : Int) + (m : Int) := by rw [IntKind.wrap_i64]; omega
  have hw2 : IntKind.i64.wrap ((n : Int) + (m : Int) - (i : Int)) = (n : Int) + (m : Int) - (i : Int) := by rw [IntKind.wrap_i64]; omega
  have hb0 : (0 : Int) ≤ (i : Int) + (m : Int) := by omega
  have hb4 : (i : Int) + (m : Int) ≤ (n : Int) + (m : Int) := by omega
  have hb5 : (i : Int) ≤ (n : Int) + (m : Int) := by omega
  have hb6 : (i : Int) ≤ (n : Int) := by omega
  have hb7 : (i : Int) ≤ (cap : Int) := by omega
  have ht1 : ((i : Int) + (m : Int)).toNat = i + m := by omega
  have hn1 : ¬ G = i + m := by omega
  have hn2 : ¬ G = i := by omega
  have hn3 : ¬ cap = i := by omega
  have mixed : Tryz.prog.follows .mixedOrders = true := by kernel_rfl
  clear hm hcap hbig hcl hcs hone hk hgl hlt hsz hi0 hz0 hzs hzb hkl hold hik hrz hGn hGm hG hROW hRs hRt hW1 hkl2 hb1 hk1 hg1 hN hdl hc1 hW2 hc2 hW3
  go_enter Tryz.func48, Tryz.ntmps48
  go_wp2_with (first
    | (at_builtin; refine Lib.wpList_append_run _ rfl _ _ _ _ rfl _ _ rfl rfl _ _ (HC0.out _) ?_)
    | (refine wpList_copy_runI _ rfl _ _ 24 24 rfl _ _ rfl rfl (HC1.out _ _) ?_))
  go_region_law_o (go_loud (refine step_copy_runI rfl _ _ 24 24 rfl (.slice (some ⟨w.heap.size, i + m, none⟩) (n + m - (i + m)) (G - (i + m))) (.slice (some ⟨g, i, none⟩) (n - i) (cap - i)) (by simp [Act.eval, Act.put]) (by simp [Act.eval, Act.put]) (HC2.out _ _ _) ?_))
  go_wp2
  go_ret
  exact ⟨G, ROW, rfl, HFI.out.1.1, HFI.out.1.2.1, HFI.out.1.2.2.1, HFI.out.1.2.2.2, HFI.out.2⟩
set_option maxHeartbeats 4000000 in
theorem insI_any {base : Nat} {w : World} {v : Value} {l : List Int} (h : OutI base w v l) {i : Nat} (hi : i ≤ l.length) (hl : l.length ≤ 1000) (k : Nat) (job : Int) (hk : BoxA w k 2 #[.int .i64 job]) (hkv : i < l.length → v.ownBlock ≠ some k) (hb : base ≤ w.heap.size) :
    Calls Tryz.prog 48 #[v, .int .i64 (i : Nat), .slice (some ⟨k, 0, none⟩) 1 1] w (InsT base w v (l.take i ++ job :: l.drop i)) := by
  have mixed : Tryz.prog.follows .mixedOrders = true := by kernel_rfl
  obtain ⟨n, hn⟩ : ∃ n, l.length = n := ⟨_, rfl⟩
  have HN := Lib.hid hn
  rw [hn] at hi hl hkv
  clear hn
  by_cases hin : i = n
  · -- behind the last
    subst hin
    obtain ⟨u, w5, hrun, ho, hg⟩ := run_int1 h k job hk hb (by rw [HN.out]; omega) 24
    have HRU := Lib.hid hrun
    have HRR := Lib.hid (And.intro ho hg)
    obtain ⟨p, c, rfl, hc⟩ := ApC.form h
    rw [HN.out] at hc HRU HRR ⊢
    have hsl : ∀ W, ∃ u, (Instr.slice 24 (.slice p i c) (some (.int .i64 (i : Int))) none none).run Tryz.prog W = .ok u W := fun W => by
      rw [run_slice_l W 24 p i c Tryz.underlying24 .i64 (i : Int) (by omega) (by omega)]
      exact ⟨_, rfl⟩
    have HT := Lib.hid (show l.take i ++ job :: l.drop i = l ++ [job] by rw [List.take_of_length_le (by rw [HN.out]; exact Nat.le_refl _), List.drop_of_length_le (by rw [HN.out]; exact Nat.le_refl _)])
    obtain ⟨us, hus⟩ := hsl w
    clear h hk hkv hrun ho hg hsl
    go_enter Tryz.func48, Tryz.ntmps48
    go_wp2_with (at_builtin; refine Lib.wpList_append_run _ rfl _ _ _ _ rfl _ _ rfl rfl _ _ HRU.out ?_)
    go_ret
    exact ⟨u, rfl, by rw [HT.out]; exact HRR.out.1, HRR.out.2⟩
  · have hlt : i < n := by omega
    have hnn := HN.out
    replace hkv := hkv hlt
    rcases h with ⟨p, rfl, h0, _⟩ | h
    · omega
    · have ho := h
      obtain ⟨h1, ⟨_, h2⟩ | ⟨g, cap, cur, rfl, hbg, hg, hle, hcm, hcs, htk⟩⟩ := h
      · omega
      · have hpos : 0 < l.length := by omega
        have hgl : g < w.heap.size := (Array.getElem?_eq_some_iff.1 hg).1
        have hkg : k ≠ g := fun e => hkv (by rw [e]; rfl)
        have hrow : ∀ j u, (ics l)[j]? = some u → w.cell? ⟨g, j, none⟩ = some u := fun j u hu => by
          have := World.ownsRow.cells ho rfl j u hu
          rwa [Addr.add_lit, Nat.zero_add] at this
        have hnz : ¬ ∃ p, (Value.slice (some ⟨g, 0, none⟩) l.length cap) = .slice p 0 0 := fun ⟨p, hp⟩ => by
          simp only [Value.slice.injEq] at hp
          omega
        have hfin : ∀ xs : List Value, xs.take i = (ics l).take i → xs.length = l.length + 1 → (setL (setL xs i [.int .i64 job]) (i + 1) ((ics l).drop i) = ics (l.take i ++ job :: l.drop i)) := fun xs hx hxl => by
          show setL (xs.set i (.int .i64 job)) (i + 1) _ = _
          rw [setL_tail _ _ _ (by rw [List.length_drop, ics_len, List.length_set, hxl]; omega), List.take_add_one, List.getElem?_set_self (by omega), List.take_set_of_le (Nat.le_refl _), hx]
          simp [ics]
        by_cases hroom : l.length + 1 ≤ cap
        · obtain ⟨y, hy⟩ := own_ext ho hroom
          have hyd : w.drew.ownsRow base 2 1 (.slice (some ⟨g, 0, none⟩) (l.length + 1) cap) (l.length + 1) (ics l ++ [y]) := hy
          have hc := insI_room (w := w) (g := g) (n := l.length) (cap := cap) (i := i) (k := k) (m := 1) (job := job) (cs := ics l) (by omega) rfl hroom hcm (ics_len l) hrow (fun j hj => ⟨by
            have := World.ownsRow.cellAt hy j (by omega)
            rw [this, List.getElem?_eq_getElem (by rw [List.length_append, ics_len]; exact hj)]
            rfl, hy.frozenAt j⟩) (ics_one l) hk hkg (by unfold World.shape?; rw [hg]) (by omega)
          refine hc.mono ?_
          rintro e w' ⟨rfl, rfl⟩
          obtain ⟨a1, g1⟩ := own_stored (w := w) ((ics l).drop i) (i + 1) hyd
          obtain ⟨a2, g2⟩ := own_stored (w := w) [.int .i64 job] i a1
          refine ⟨_, rfl, .inr ?_, .inl ⟨_, _, ho, hnz, ?_⟩⟩
          · have hcom : setL (setL (ics l ++ [y]) (i + 1) ((ics l).drop i)) i [.int .i64 job] = ics (l.take i ++ job :: l.drop i) := by
              show (setL (ics l ++ [y]) (i + 1) ((ics l).drop i)).set i (.int .i64 job) = _
              rw [setL_tail _ _ _ (by rw [List.length_drop, ics_len, List.length_append, ics_len]; simp; omega)]
              have ht : ((ics l ++ [y]).take (i + 1)) = (ics l).take i ++ [(ics l)[i]'(by rw [ics_len]; omega)] := by
                rw [List.take_append_of_le_length (by rw [ics_len]; omega), List.take_add_one, List.getElem?_eq_getElem (by rw [ics_len]; omega)]
                rfl
              rw [ht, List.set_append_left _ _ (by simp [ics_len]; omega), List.set_append_right _ _ (by simp [ics_len]; omega)]
              simp [ics, show i - min i l.length = 0 by omega]
            rw [hcom] at a2
            have hlen : (l.take i ++ job :: l.drop i).length = l.length + 1 := by simp; omega
            rw [hlen]
            exact a2
          · exact ⟨g2.os.trans g1.os, g2.tape.trans g1.tape, g2.output.trans g1.output, Nat.le_trans g1.size g2.size, fun j hj hne => (g2.block j (Nat.lt_of_lt_of_le hj g1.size) hne).trans (g1.block j hj hne)⟩
        · have hcap : l.length = cap := by omega
          have hc := insI_grow (w := w) (g := g) (n := l.length) (cap := cap) (i := i) (k := k) (m := 1) (job := job) (cs := ics l) (by omega) rfl hcap (by omega) (ics_len l) hrow (ics_one l) hk hgl
          refine hc.mono ?_
          rintro e w' ⟨G, ROW, rfl, hG1, hG2, hR1, hR2, rfl⟩
          have hRL : ROW.toList.length = G := (Array.length_toList (xs := ROW)).trans hR1
          have h0 : (w.drew.alloc (.cells ROW 2)).ownsRow base 2 1 (.slice (some ⟨w.heap.size, 0, none⟩) (l.length + 1) G) (l.length + 1) (ROW.toList.take (l.length + 1)) :=
            ⟨by rw [List.length_take, hRL]; omega, .inr ⟨w.heap.size, G, ROW, rfl, hb, BoxA.new w.drew 2 ROW, hG1, hG2, by omega, by rw [Nat.mul_one]⟩⟩
          obtain ⟨a1, g1⟩ := own_stored (w := w) [.int .i64 job] i h0
          obtain ⟨a2, g2⟩ := own_stored (w := w) ((ics l).drop i) (i + 1) (show ((w.drew.alloc (.cells ROW 2)).setCells w.heap.size i [.int .i64 job]).drew.ownsRow _ _ _ _ _ _ from a1)
          have hB0 : Below w.heap.size w (w.drew.alloc (.cells ROW 2)) := ((Below.refl _ w).drew).alloc (Nat.le_refl _) _
          have hB1 : Below w.heap.size w ((w.drew.alloc (.cells ROW 2)).setCells w.heap.size i [.int .i64 job]) := hB0.grown g1 hB0.size (fun j hj => by cases hj; exact Nat.le_refl _)
          refine ⟨_, rfl, .inr ?_, .inr (hB1.drew.grown g2 hB1.size (fun j hj => by cases hj; exact Nat.le_refl _))⟩
          rw [hfin _ (by rw [List.take_take, show min i (l.length + 1) = i by omega]; exact hR2) (by rw [List.length_take, hRL]; omega)] at a2
          have hlen : (l.take i ++ job :: l.drop i).length = l.length + 1 := by simp; omega
          rw [hlen]
          exact a2
end Go.Proofs.YtkjffoebcblpoaaGreat.gn
end
