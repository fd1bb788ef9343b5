/- The program's compare of two buffers, the closures, copyOf. -/
import Derived.Test.YtkjffoebcblpoaaGreatMBvA
import Derived.Shelf.SlSortCmp.KitK
import Derived.Test.YtkjffoebcblpoaaGreatMGenTail
import Derived.Test.YtkjffoebcblpoaaGreatMBuH
section
set_option linter.unusedVariables false
set_option linter.unusedSimpArgs false
namespace Go.Proofs.YtkjffoebcblpoaaGreat.gn
open Go.RowKit
open Go.Proofs.YtkjffoebcblpoaaGreat.ex (X)
open Go.Proofs.YtkjffoebcblpoaaGreat.bu (Bf May jobOk cmpJ cmpB same)

theorem grow_oneB (w : World) (o : Obj) : w.alloc o = Go.Sort.grow w #[o] := rfl
theorem lt_cellB {w : World} {k j : Nat} {v : Value} (h : w.cell? ⟨k, j, none⟩ = some v) : k < w.heap.size := by
  unfold World.cell? at h
  cases hb : w.heap[k]? with
  | none => simp [hb] at h
  | some o => exact (Array.getElem?_eq_some_iff.1 hb).1
set_option maxRecDepth 100000 in
set_option maxHeartbeats 4000000 in
theorem compareB_any (p q : Bf × Gb) (w : World) : Calls Tryz.prog 32 #[bV p.1 p.2, bV q.1 q.2] w fun e w' => e = .returned (.int .i64 (cmpB p.1 q.1)) ∧ ∃ n os, w' = Go.Sort.grow (w.drewN n) os := by
  obtain ⟨p, ge, gr⟩ := p
  obtain ⟨q, he, hr⟩ := q
  dsimp only
  obtain ⟨W1, hW1⟩ : ∃ W, w.alloc (.cells (bcs p ⟨ge, gr⟩) 60) = W := ⟨_, rfl⟩
  have hb1 : BoxA W1 w.heap.size 60 (bcs p ⟨ge, gr⟩) := by rw [← hW1]; exact BoxA.new _ _ _
  have hl1 : Below w.heap.size w W1 := by rw [← hW1]; exact (Below.refl _ _).alloc (Nat.le_refl _) _
  obtain ⟨W2, hW2⟩ : ∃ W, W1.alloc (.cells (bcs q ⟨he, hr⟩) 60) = W := ⟨_, rfl⟩
  have hb2 : BoxA W2 W1.heap.size 60 (bcs q ⟨he, hr⟩) := by rw [← hW2]; exact BoxA.new _ _ _
  have hl2 : Below W1.heap.size W1 W2 := by rw [← hW2]; exact (Below.refl _ _).alloc (Nat.le_refl _) _
  have hs1 : W1.heap.size = w.heap.size + 1 := by rw [← hW1]; exact World.size_alloc _ _
  have hb1' := hb1.next hl2
  have hgr : W2 = Go.Sort.grow w #[.cells (bcs p ⟨ge, gr⟩) 60, .cells (bcs q ⟨he, hr⟩) 60] := by
    rw [← hW2, ← hW1, grow_oneB, grow_oneB, Go.Sort.grow_grow]
    rfl
  have HG := Lib.hid hgr
  have k0 : W2.cell? ⟨w.heap.size, 0, none⟩ = some (.int .i64 p.job) := BoxA.cell hb1' 0 _ rfl
  have k1 : W2.cell? ⟨w.heap.size, 1, none⟩ = some (.string (str p.name)) := BoxA.cell hb1' 1 _ rfl
  have m0 : W2.cell? ⟨W1.heap.size, 0, none⟩ = some (.int .i64 q.job) := BoxA.cell hb2 0 _ rfl
  have m1 : W2.cell? ⟨W1.heap.size, 1, none⟩ = some (.string (str q.name)) := BoxA.cell hb2 1 _ rfl
  rw [hs1] at m0 m1
  have z0 : w.heap.size < W2.heap.size := BoxA.lt hb1'
  have z1 : w.heap.size + 1 < W2.heap.size := by have := BoxA.lt hb2; omega
  have HK := Lib.hid (fun (Y : World) (hY : Below W2.heap.size W2 Y) => (⟨(low_cell hY z0).trans k0, (low_cell hY z0).trans k1, (low_cell hY z1).trans m0, (low_cell hY z1).trans m1⟩ : Y.cell? ⟨w.heap.size, 0, none⟩ = some (.int .i64 p.job) ∧ Y.cell? ⟨w.heap.size, 1, none⟩ = some (.string (str p.name)) ∧ Y.cell? ⟨w.heap.size + 1, 0, none⟩ = some (.int .i64 q.job) ∧ Y.cell? ⟨w.heap.size + 1, 1, none⟩ = some (.string (str q.name))))
  have HW1 := Lib.hid hW1
  have HW2 := Lib.hid hW2
  have HC := Lib.hid (fun Y => bcmp_any p.job q.job Y)
  have HS := Lib.hid (fun Y => scmp_any p.name q.name Y)
  obtain ⟨x, hx⟩ : ∃ x, cmpJ p.job q.job = x := ⟨_, rfl⟩
  obtain ⟨y, hy⟩ : ∃ y, Lib.compareBytes p.name q.name = y := ⟨_, rfl⟩
  have HB := Lib.hid (show cmpB p q = if x ≠ 0 then x else y by unfold bu.cmpB; rw [hx, hy])
  rw [hx] at HC
  rw [hy] at HS
  have HO := Lib.hid (fun (Y : World) => cor_any Y.heap.size x y (Y.alloc (.cells #[.int .i64 x, .int .i64 y] 3)) (BoxA.cell (BoxA.new Y 3 #[.int .i64 x, .int .i64 y]) 0 _ rfl) (BoxA.cell (BoxA.new Y 3 #[.int .i64 x, .int .i64 y]) 1 _ rfl))
  have HO2 := Lib.hid (fun (Y : World) => cor_any Y.heap.size x y (Y.alloc (.cells #[.int .i64 x, .int .i64 y] 3)).drew (BoxA.cell (BoxA.new Y 3 #[.int .i64 x, .int .i64 y]).drew 0 _ rfl) (BoxA.cell (BoxA.new Y 3 #[.int .i64 x, .int .i64 y]).drew 1 _ rfl))
  obtain ⟨z, hz⟩ : ∃ z, (if x ≠ 0 then x else y) = z := ⟨_, rfl⟩
  rw [hz] at HO HO2 HB
  clear hz
  unfold bcs at HW1 HW2
  clear hW1 hb1 hl1 hW2 hb2 hl2 hb1' hgr k0 k1 m0 m1 hx hy z0 z1
  unfold bV bcs
  dsimp only
  go_enter Tryz.func32, Tryz.ntmps32
  go_upto_region 1 with fail
  rw [HW1.out]
  rw [HW2.out]
  go_region_held3 (fun W => W.cell? ⟨w.heap.size, 0, none⟩ = some (.int .i64 p.job) ∧ W.cell? ⟨w.heap.size, 1, none⟩ = some (.string (str p.name)) ∧ W.cell? ⟨w.heap.size + 1, 0, none⟩ = some (.int .i64 q.job) ∧ W.cell? ⟨w.heap.size + 1, 1, none⟩ = some (.string (str q.name))) (first | exact HK.out _ (drew_lowB _) | exact HK.out _ (Below.refl _ _) | exact HK.out _ ((Below.refl _ _).alloc (Nat.le_refl _) _).drew) (first
    | (go_at_call 62; ((with_reducible refine (HC.out _).mono ?_); rintro e w5 ⟨rfl, rfl⟩))
    | (go_at_call 64; ((with_reducible refine (HS.out _).mono ?_); rintro e w5 ⟨rfl, rfl⟩))
    | (go_at_call 63; ((with_reducible first | refine (HO.out _).mono ?_ | refine (HO2.out _).mono ?_); rintro e w5 ⟨rfl, rfl⟩)))
  go_wp2
  go_ret
  exact ⟨by rw [HB.out]; rfl, 1, _, by rw [HG.out, grow_oneB]; show Go.Sort.grow (Go.Sort.grow (w.drewN 1) _) _ = _; rw [Go.Sort.grow_grow]⟩

/-! ### the closures -/
theorem named_any (name : List UInt8) (w : World) : Calls Tryz.prog 46 #[.string (str name)] w fun e w' => e = .returned (.func (.func 74) #[] #[.pointer (some ⟨w.heap.size, 0, none⟩)]) ∧ w' = w.alloc (.cells #[.string (str name)] 9) := by
  go_enter Tryz.func46, Tryz.ntmps46
  go_wp2
  go_ret
  exact ⟨rfl, rfl⟩
theorem bown_any (job : Int) (w : World) : Calls Tryz.prog 56 #[.int .i64 job] w fun e w' => e = .returned (.func (.func 81) #[] #[.pointer (some ⟨w.heap.size, 0, none⟩)]) ∧ w' = w.alloc (.cells #[.int .i64 job] 2) := by
  go_enter Tryz.func56, Tryz.ntmps56
  go_wp2
  go_ret
  exact ⟨rfl, rfl⟩
theorem named1_any (W : World) (k : Nat) (name : List UInt8) (q : Bf × Gb) (hk : W.cell? ⟨k, 0, none⟩ = some (.string (str name))) :
    Calls Tryz.prog 74 (#[.agg (bcs q.1 q.2)] ++ #[.pointer (some ⟨k, 0, none⟩)]) W fun e w' => e = .returned (.bool (same 0 name q.1)) ∧ Below W.heap.size W w' := by
  obtain ⟨b, ge, gr⟩ := q
  dsimp only
  have hne : k ≠ W.heap.size := by have := lt_cellB hk; omega
  have hb1 := BoxA.new W 26 (bcs b ⟨ge, gr⟩)
  have k2 : (W.alloc (.cells (bcs b ⟨ge, gr⟩) 26)).cell? ⟨k, 0, none⟩ = some (.string (str name)) := (low_cell ((Below.refl _ W).alloc (Nat.le_refl _) _) (lt_cellB hk)).trans hk
  unfold bcs at k2
  clear hb1
  show Calls _ _ #[.agg (bcs b ⟨ge, gr⟩), .pointer (some ⟨k, 0, none⟩)] W _
  unfold bcs
  by_cases h1 : b.job = 0
  · have d1 : (b.job == 0) = true := by rw [beq_iff_eq]; exact h1
    by_cases h2 : b.name = name
    · have d2 : ((str b.name).toList == (str name).toList) = true := by rw [str_toList, str_toList, beq_iff_eq]; exact h2
      have HS := Lib.hid (show same 0 name b = true from bu.same_iff.2 ⟨h1, h2⟩)
      clear h1 h2
      go_enter Tryz.func74, Tryz.ntmps74
      go_wp2
      go_ret
      exact ⟨by rw [HS.out]; rfl, (Below.refl _ _).alloc (Nat.le_refl _) _⟩
    · have d2 : ((str b.name).toList == (str name).toList) = false := by rw [str_toList, str_toList, beq_eq_false_iff_ne]; exact h2
      have HS := Lib.hid (show same 0 name b = false from by rw [← Bool.not_eq_true]; exact fun hh => h2 (bu.same_iff.1 hh).2)
      clear h1 h2
      go_enter Tryz.func74, Tryz.ntmps74
      go_wp2
      go_ret
      exact ⟨by rw [HS.out]; rfl, (Below.refl _ _).alloc (Nat.le_refl _) _⟩
  · have d1 : (b.job == 0) = false := by rw [beq_eq_false_iff_ne]; exact h1
    have HS := Lib.hid (show same 0 name b = false from by rw [← Bool.not_eq_true]; exact fun hh => h1 (bu.same_iff.1 hh).1)
    clear h1
    go_enter Tryz.func74, Tryz.ntmps74
    go_wp2
    go_ret
    exact ⟨by rw [HS.out]; rfl, (Below.refl _ _).alloc (Nat.le_refl _) _⟩
theorem own1_any (W : World) (k : Nat) (job : Int) (q : Bf × Gb) (hk : W.cell? ⟨k, 0, none⟩ = some (.int .i64 job)) :
    Calls Tryz.prog 81 (#[.agg (bcs q.1 q.2)] ++ #[.pointer (some ⟨k, 0, none⟩)]) W fun e w' => e = .returned (.bool (same job [] q.1)) ∧ Below W.heap.size W w' := by
  obtain ⟨b, ge, gr⟩ := q
  dsimp only
  have hne : k ≠ W.heap.size := by have := lt_cellB hk; omega
  have k2 : (W.alloc (.cells (bcs b ⟨ge, gr⟩) 26)).cell? ⟨k, 0, none⟩ = some (.int .i64 job) := (low_cell ((Below.refl _ W).alloc (Nat.le_refl _) _) (lt_cellB hk)).trans hk
  unfold bcs at k2
  show Calls _ _ #[.agg (bcs b ⟨ge, gr⟩), .pointer (some ⟨k, 0, none⟩)] W _
  unfold bcs
  by_cases h1 : b.name = []
  · have d1 : ((str b.name).toList == ([] : List UInt8)) = true := by rw [str_toList, h1]; rfl
    by_cases h2 : b.job = job
    · have d2 : (b.job == job) = true := by rw [beq_iff_eq]; exact h2
      have HS := Lib.hid (show same job [] b = true from bu.same_iff.2 ⟨h2, h1⟩)
      clear h1 h2
      go_enter Tryz.func81, Tryz.ntmps81
      go_wp2
      go_ret
      exact ⟨by rw [HS.out]; rfl, (Below.refl _ _).alloc (Nat.le_refl _) _⟩
    · have d2 : (b.job == job) = false := by rw [beq_eq_false_iff_ne]; exact h2
      have HS := Lib.hid (show same job [] b = false from by rw [← Bool.not_eq_true]; exact fun hh => h2 (bu.same_iff.1 hh).1)
      clear h1 h2
      go_enter Tryz.func81, Tryz.ntmps81
      go_wp2
      go_ret
      exact ⟨by rw [HS.out]; rfl, (Below.refl _ _).alloc (Nat.le_refl _) _⟩
  · have d1 : ((str b.name).toList == ([] : List UInt8)) = false := by rw [str_toList, beq_eq_false_iff_ne]; exact h1
    have HS := Lib.hid (show same job [] b = false from by rw [← Bool.not_eq_true]; exact fun hh => h1 (bu.same_iff.1 hh).2)
    clear h1
    go_enter Tryz.func81, Tryz.ntmps81
    go_wp2
    go_ret
    exact ⟨by rw [HS.out]; rfl, (Below.refl _ _).alloc (Nat.le_refl _) _⟩
end Go.Proofs.YtkjffoebcblpoaaGreat.gn
end
section
set_option linter.unusedVariables false
set_option linter.unusedSimpArgs false
set_option maxRecDepth 100000
namespace Go.Proofs.YtkjffoebcblpoaaGreat.gn
open Go.RowKit Go.Shelf
open Go.Proofs.YtkjffoebcblpoaaGreat.ex (X)
open Go.Proofs.YtkjffoebcblpoaaGreat.bu (Bf May jobOk same)

instance : Inhabited (Bf × Gb) := ⟨(Bf.zero, gZ)⟩
def encB (q : Bf × Gb) : List Value := (bcs q.1 q.2).toList
theorem idx_pI {α : Type} (f : α → Bf) (p : Bf → Bool) (x : α) : ∀ (l : List α) (k : Nat), Lib.idxByFrom (fun _ y => p (f y)) x l k = match (l.map f).findIdx? p with | some i => ((k + i : Nat) : Int) | none => -1
  | [], k => rfl
  | b :: l, k => by
    have ih := idx_pI f p x l (k + 1)
    unfold Lib.idxByFrom
    rw [List.map_cons, List.findIdx?_cons]
    cases hb : p (f b)
    · simp only [Bool.false_eq_true, if_false]
      rw [ih]
      cases (l.map f).findIdx? p with
      | none => rfl
      | some i => simp only [Option.map_some]; rw [show k + 1 + i = k + (i + 1) by omega]
    · simp
theorem index_any {w : World} {v : Value} {L : List (Bf × Gb)} (h : RBs w v L) (hl : L.length ≤ 140737488355328) (g : Nat) (lb : Array Value) (eg : ∀ args w, (callFunc g args).run Tryz.prog w = .ok (.enter g args) w) (p : Bf → Bool)
    (hp : ∀ (W : World) (q : Bf × Gb), Below w.heap.size w W → Calls Tryz.prog g (#[.agg (bcs q.1 q.2)] ++ lb) W fun e w' => e = .returned (.bool (p q.1)) ∧ Below W.heap.size W w') :
    Calls Tryz.prog 45 #[v, .func (.func g) #[] lb] w fun e w' => e = .returned (.int .i64 (pI ((L.map Prod.fst).findIdx? p))) ∧ Below w.heap.size w w' := by
  obtain ⟨pp, c, rfl, f⟩ := h.form
  by_cases h0 : L = []
  · subst h0
    clear f h hp
    show Calls _ _ #[.slice pp 0 c, .func (.func g) #[] lb] w _
    go_enter Tryz.func45, Tryz.ntmps45
    go_wp2
    refine wp_loop_rounds 1 ?_
    rw [rounds_succ]
    go_wp2
    go_ret
    exact ⟨rfl, Below.refl _ _⟩
  · obtain ⟨k, off, rfl, hk, hc⟩ := f h0
    have := AnyQ.slices_IndexFunc layIndexB 7 Tryz.isAgg26 Tryz.sizeOf26 encB (fun _ => rfl) (fun q => p q.1) g lb eg k off L.length c L w
      (fun W x hb => (hp W x hb).mono fun e w' hh => ⟨hh.1, hb.trans (hh.2.mono hb.size)⟩) (Nat.le_refl _) (by omega) hk (fun j hj i u hu => by
        have hq : L[j]? = some L[j]! := by rw [getElem!_pos L j hj]; exact List.getElem?_eq_getElem hj
        have hi : i < 7 := (List.getElem?_eq_some_iff.1 hu).1
        exact hc j _ hq i u hi (by simpa [encB] using hu))
    refine Calls.mono (f := 45) this ?_
    rintro e w' ⟨rfl, hb⟩
    refine ⟨?_, hb⟩
    rw [List.take_length]
    unfold Lib.idxBy
    rw [idx_pI]
    cases (L.map Prod.fst).findIdx? p with
    | none => rfl
    | some i => simp [pI]
theorem any_range {α : Type} {L : List α} (h0 : 0 < L.length) (d : Nat → α) (hd : ∀ j (hj : j < L.length), d j = L[j]) (p : α → Bool) : (List.range L.length).any (fun j => p (d j)) = L.any p := by
  rw [Bool.eq_iff_iff, List.any_eq_true, List.any_eq_true]
  constructor
  · rintro ⟨j, hj, hp⟩
    have hj := List.mem_range.1 hj
    exact ⟨L[j], List.getElem_mem hj, by rw [← hd j hj]; exact hp⟩
  · rintro ⟨q, hq, hp⟩
    obtain ⟨j, hj, rfl⟩ := List.getElem_of_mem hq
    exact ⟨j, List.mem_range.2 hj, by rw [hd j hj]; exact hp⟩
/-- Is something true of one of them? It is asked of those that are there alone. -/
theorem anyB_any {w : World} {v : Value} {L : List (Bf × Gb)} (h : RBs w v L) (hl : L.length ≤ 140737488355328) (g : Nat) (lb : Array Value) (eg : ∀ args w, (callFunc g args).run Tryz.prog w = .ok (.enter g args) w) (p : Bf → Bool)
    (hp : ∀ (W : World) (q : Bf × Gb), q ∈ L → Below w.heap.size w W → Calls Tryz.prog g (#[.agg (bcs q.1 q.2)] ++ lb) W fun e w' => e = .returned (.bool (p q.1)) ∧ Below W.heap.size W w') :
    Calls Tryz.prog 30 #[v, .func (.func g) #[] lb] w fun e w' => e = .returned (.bool ((L.map Prod.fst).any p)) ∧ Below w.heap.size w w' := by
  obtain ⟨pp, c, rfl, f⟩ := h.form
  by_cases h0 : L = []
  · subst h0
    have hx := index_any (w := w) (v := .slice pp 0 c) (L := []) h (by simp) g lb eg (fun _ => false)
    have he : Calls Tryz.prog 45 #[.slice pp 0 c, .func (.func g) #[] lb] w fun e w' => e = .returned (.int .i64 (-1)) ∧ w' = w := by
      clear f h hp hx
      go_enter Tryz.func45, Tryz.ntmps45
      go_wp2
      refine wp_loop_rounds 1 ?_
      rw [rounds_succ]
      go_wp2
      go_ret
      exact ⟨rfl, rfl⟩
    clear f h hp hx
    show Calls _ _ #[.slice pp 0 c, .func (.func g) #[] lb] w _
    go_enter Tryz.func30, Tryz.ntmps30
    go_wp2_with (go_at_call 45; refine he.mono ?_; rintro e w' ⟨rfl, rfl⟩)
    go_ret
    exact ⟨rfl, Below.refl _ _⟩
  · obtain ⟨k, off, rfl, hk, hc⟩ := f h0
    have hpos : 0 < L.length := List.length_pos_iff.2 h0
    have hmin : ∀ j, min j (L.length - 1) < L.length := fun j => by omega
    have := AnyQ.slices_ContainsFunc layAnyB 7 Tryz.isAgg26 Tryz.sizeOf26 (fun j : Nat => encB (L[min j (L.length - 1)]'(hmin j))) (fun _ => rfl) (fun j => p (L[min j (L.length - 1)]'(hmin j)).1) g lb eg k off L.length c (List.range L.length) w
      (fun W x hb => (hp W _ (List.getElem_mem (hmin x)) hb).mono fun e w' hh => ⟨hh.1, hb.trans (hh.2.mono hb.size)⟩) (by simp) (by omega) hk (fun j hj i u hu => by
        have hj' : j < L.length := by simpa using hj
        have hr : (List.range L.length)[j]! = j := by rw [getElem!_pos _ j hj]; simp
        rw [hr] at hu
        have hi : i < 7 := (List.getElem?_eq_some_iff.1 hu).1
        have hm : min j (L.length - 1) = j := by omega
        refine hc j L[j] (List.getElem?_eq_getElem hj') i u hi ?_
        simp only [hm] at hu
        simpa [encB] using hu)
    refine Calls.mono (f := 30) this ?_
    rintro e w' ⟨rfl, hb⟩
    refine ⟨?_, hb⟩
    have hr := any_range hpos (fun j => L[min j (L.length - 1)]'(hmin j)) (fun j hj => by
      have hm : min j (L.length - 1) = j := by omega
      simp only [hm]) (fun q => p q.1)
    rw [List.take_of_length_le (by simp), hr, List.any_map]
    rfl

/-! ### all -/
theorem all1B_any (W : World) (k g : Nat) (q : Bf × Gb) (b : Bool) (eg : ∀ args w, (callFunc g args).run Tryz.prog w = .ok (.enter g args) w) (hk : W.cell? ⟨k, 0, none⟩ = some (.func (.func g) #[] #[]))
    (hp : ∀ Y, Below W.heap.size W Y → Calls Tryz.prog g #[bV q.1 q.2] Y (TellsM (.bool b) Y)) :
    Calls Tryz.prog 73 (#[.agg (bcs q.1 q.2)] ++ #[.pointer (some ⟨k, 0, none⟩)]) W fun e w' => e = .returned (.bool (!b)) ∧ Below W.heap.size W w' := by
  obtain ⟨x, ge, gr⟩ := q
  dsimp only at hp ⊢
  obtain ⟨W1, hW1⟩ : ∃ W1, W.alloc (.cells (bcs x ⟨ge, gr⟩) 26) = W1 := ⟨_, rfl⟩
  have hb1 : BoxA W1 W.heap.size 26 (bcs x ⟨ge, gr⟩) := by rw [← hW1]; exact BoxA.new _ _ _
  have hl1 : Below W.heap.size W W1 := by rw [← hW1]; exact (Below.refl _ _).alloc (Nat.le_refl _) _
  have k1 : W1.cell? ⟨k, 0, none⟩ = some (.func (.func g) #[] #[]) := (low_cell hl1 (lt_cellB hk)).trans hk
  have hc := hp W1 hl1
  have HW := Lib.hid hW1
  have HL := Lib.hid hl1
  have HB := Lib.hid hb1
  have HC := Lib.hid hc
  unfold bcs at HW
  unfold bV TellsM at HC
  clear hp hk hW1 hl1 hb1 hc
  show Calls _ _ #[.agg (bcs x ⟨ge, gr⟩), .pointer (some ⟨k, 0, none⟩)] W _
  unfold bcs
  go_enter Tryz.func73, Tryz.ntmps73
  go_upto_region 1 with fail
  rw [HW.out]
  go_wp2_with (first
    | (refine wpl_load_g (by rfl) _ _ rfl W.heap.size rfl _ _ _ _ HB.out Tryz.underlying26 rfl (by kernel_rfl) ?_)
    | (go_at_fn g; ((with_reducible refine HC.out.mono ?_); rintro e w5 ⟨rfl, hb⟩); have A5 := Lib.hid (HL.out.trans (hb.mono HL.out.size)); clear hb))
  go_ret
  exact ⟨rfl, A5.out⟩
theorem allB_any {w : World} {v : Value} {L : List (Bf × Gb)} (h : RBs w v L) (hl : L.length ≤ 140737488355328) (g : Nat) (eg : ∀ args w, (callFunc g args).run Tryz.prog w = .ok (.enter g args) w) (p : Bf → Bool)
    (hp : ∀ (W : World) (q : Bf × Gb), q ∈ L → Below w.heap.size w W → Calls Tryz.prog g #[bV q.1 q.2] W (TellsM (.bool (p q.1)) W)) :
    Calls Tryz.prog 41 #[v, .func (.func g) #[] #[]] w (TellsM (.bool ((L.map Prod.fst).all p)) w) := by
  obtain ⟨W, hW⟩ : ∃ W, w.alloc (.cells #[.func (.func g) #[] #[]] 58) = W := ⟨_, rfl⟩
  have hbx : BoxA W w.heap.size 58 #[.func (.func g) #[] #[]] := by rw [← hW]; exact BoxA.new _ _ _
  have hlw : Below w.heap.size w W := by rw [← hW]; exact (Below.refl _ _).alloc (Nat.le_refl _) _
  have hc := anyB_any (h.next hlw) hl 73 #[.pointer (some ⟨w.heap.size, 0, none⟩)] (enters_of Tryz.func73 (by kernel_rfl) rfl) (fun b => !p b)
    fun Y q hq hY => all1B_any Y w.heap.size g q (p q.1) eg (BoxA.cell (BoxA.next hbx hY) 0 _ rfl) fun Z hZ => hp Z q hq ((hlw.trans (hY.mono hlw.size)).trans (hZ.mono (Nat.le_trans hlw.size hY.size)))
  have ha : (L.map Prod.fst).all p = !((L.map Prod.fst).any fun b => !p b) := List.all_eq_not_any_not
  rw [ha]
  generalize ((L.map Prod.fst).any fun b => !p b) = r at *
  have HC := Lib.hid hc
  have HW := Lib.hid hW
  have HL := Lib.hid hlw
  clear hc hW hlw hbx hp h ha
  go_enter Tryz.func41, Tryz.ntmps41
  go_upto_region 1 with fail
  rw [HW.out]
  go_wp2_with (go_at_call 30; ((with_reducible refine HC.out.mono ?_); rintro e w5 ⟨rfl, hb⟩); have A5 := Lib.hid (HL.out.trans (hb.mono HL.out.size)); clear hb)
  go_ret
  exact ⟨rfl, A5.out⟩
theorem all1I_any (W : World) (k : Nat) (n : Int) (hk : W.cell? ⟨k, 0, none⟩ = some (.func (.func 44) #[] #[])) :
    Calls Tryz.prog 87 (#[.int .i64 n] ++ #[.pointer (some ⟨k, 0, none⟩)]) W fun e w' => e = .returned (.bool (!decide (jobOk n))) ∧ ∃ q, w' = W.drewN q := by
  have HN := Lib.hid (fun Y => number_any n Y)
  generalize decide (jobOk n) = b at *
  have eg : ∀ args w, (callFunc 44 args).run Tryz.prog w = .ok (.enter 44 args) w := enters_of Tryz.func44 (by kernel_rfl) rfl
  show Calls _ _ #[.int .i64 n, .pointer (some ⟨k, 0, none⟩)] W _
  go_enter Tryz.func87, Tryz.ntmps87
  go_wp2_with (go_at_call 44; ((with_reducible refine (HN.out _).mono ?_); rintro e w5 ⟨rfl, rfl⟩))
  go_ret
  exact ⟨rfl, 0, rfl⟩
theorem allI_any {w : World} {v : Value} {l : List Int} (h : RI w v l) (hl : l.length ≤ 140737488355328) :
    Calls Tryz.prog 60 #[v, .func (.func 44) #[] #[]] w (TellsM (.bool (decide (∀ r ∈ l, jobOk r))) w) := by
  obtain ⟨W, hW⟩ : ∃ W, w.alloc (.cells #[.func (.func 44) #[] #[]] 70) = W := ⟨_, rfl⟩
  have hbx : BoxA W w.heap.size 70 #[.func (.func 44) #[] #[]] := by rw [← hW]; exact BoxA.new _ _ _
  have hlw : Below w.heap.size w W := by rw [← hW]; exact (Below.refl _ _).alloc (Nat.le_refl _) _
  have hc : Calls Tryz.prog 86 #[v, .func (.func 87) #[] #[.pointer (some ⟨w.heap.size, 0, none⟩)]] W fun e w' => e = .returned (.bool (l.any fun n => !decide (jobOk n))) ∧ Below W.heap.size W w' := by
    obtain ⟨pp, c, rfl, f⟩ := h.form
    by_cases h0 : l = []
    · subst h0
      refine Calls.mono (f := 86) (AnyE.slices_ContainsFunc_empty layAnyI pp c _ W) ?_
      rintro e w' ⟨rfl, rfl⟩
      exact ⟨rfl, Below.refl _ _⟩
    · obtain ⟨k, off, rfl, hk, hcc⟩ := f h0
      refine Calls.mono (f := 86) (AnyE.slices_ContainsFunc layAnyI (Value.int .i64) (fun n => !decide (jobOk n)) 87 #[.pointer (some ⟨w.heap.size, 0, none⟩)] (enters_of Tryz.func87 (by kernel_rfl) rfl) k off l.length c l W
        (fun Y n hY => all1I_any Y w.heap.size n (BoxA.cell (BoxA.next hbx hY) 0 _ rfl)) (Nat.le_refl _) (by omega) (fun j hj => by
          have hq : l[j]? = some l[j]! := by rw [getElem!_pos l j hj]; exact List.getElem?_eq_getElem hj
          exact (low_cell hlw hk).trans (hcc j _ hq))) ?_
      rintro e w' ⟨rfl, q, rfl⟩
      rw [List.take_length]
      exact ⟨rfl, bel_drewN (Below.refl _ _)⟩
  have ha : decide (∀ r ∈ l, jobOk r) = !(l.any fun n => !decide (jobOk n)) := by
    rw [Bool.eq_iff_iff]
    simp
  rw [ha]
  generalize (l.any fun n => !decide (jobOk n)) = r at *
  have HC := Lib.hid hc
  have HW := Lib.hid hW
  have HL := Lib.hid hlw
  clear hc hW hlw hbx h ha
  go_enter Tryz.func60, Tryz.ntmps60
  go_upto_region 1 with fail
  rw [HW.out]
  go_wp2_with (go_at_call 86; ((with_reducible refine HC.out.mono ?_); rintro e w5 ⟨rfl, hb⟩); have A5 := Lib.hid (HL.out.trans (hb.mono HL.out.size)); clear hb)
  go_ret
  exact ⟨rfl, A5.out⟩
end Go.Proofs.YtkjffoebcblpoaaGreat.gn
end
