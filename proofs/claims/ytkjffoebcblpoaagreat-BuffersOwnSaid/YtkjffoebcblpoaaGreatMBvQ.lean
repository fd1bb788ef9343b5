/- The program's without, Drop, Free. (Written by gen_bvQ.py.) -/
import Derived.Test.YtkjffoebcblpoaaGreatMBvO
section
set_option linter.unusedVariables false
set_option linter.unusedSimpArgs false
set_option maxRecDepth 100000
namespace Go.Proofs.YtkjffoebcblpoaaGreat.gn
open Go.RowKit
open Go.Proofs.YtkjffoebcblpoaaGreat.bu (Bf May Valid place same dropS freeS jobOk)

/-- What without tells. -/
def WoT (w : World) (l : List Bf) (i : Nat) (b : Bf) (en : Ending) (w' : World) : Prop := ∃ v M u, en = .returned (.tuple #[v, bV b u]) ∧ M.map Prod.fst = l.eraseIdx i ∧ Own w.heap.size w' v M ∧ ApC w.heap.size 55 2 w' u.e b.exts.length (xcs b.exts) ∧ OutI w.heap.size w' u.r b.refs ∧ Below w.heap.size w w'
theorem Own.setR {base : Nat} {w : World} {v : Value} {M : List (Bf × Gb)} (h : Own base w v M) {k : Nat} (hk : k < base) (cs : Array Value) : Own base (w.setRow k cs) v M :=
  ⟨⟨h.row.row.setR hk cs⟩, fun p hp => (h.e p hp).setR hk cs, fun p hp => ApC.setR (h.r p hp) hk cs⟩
theorem BoxA.grownB {W w6 : World} {k base : Nat} {t : TypeId} {cs : Array Value} {v : Value} {n : Nat} {xs : List Value} (hk : BoxA W k t cs) (hne : t ≠ 26 ∨ some k ≠ v.ownBlock) (ho : W.ownsRow base 26 7 v n xs) (hg : W.grownBy w6 v.ownBlock) : BoxA w6 k t cs := by
  refine (hg.block k (BoxA.lt hk) ?_).trans hk
  rcases hne with hne | hne
  · intro e
    obtain ⟨-, ⟨rfl, -⟩ | ⟨g', c', cur', rfl, -, hg', -⟩⟩ := ho
    · simp [Value.ownBlock] at e
    · simp [Value.ownBlock] at e
      subst e
      have h1 : W.heap[k]? = some (.cells cs t (0, 0)) := hk
      rw [h1] at hg'
      simp only [Option.some.injEq, Obj.cells.injEq] at hg'
      exact hne hg'.2.1
  · exact hne
set_option maxHeartbeats 6400000 in
theorem without_any {w : World} {v : Value} {L : List (Bf × Gb)} (h : RBs w v L) (hl1 : L.length ≤ 1000) (hx : ∀ q ∈ L, q.1.exts.length ≤ 1000000 ∧ q.1.refs.length ≤ 1000000) {i : Nat} {q : Bf × Gb} (hq : L[i]? = some q) :
    Calls Tryz.prog 52 #[v, .int .i64 (i : Nat)] w (WoT w (L.map Prod.fst) i q.1) := by
  obtain ⟨W, hW⟩ : ∃ W, w.alloc (.cells #[.int .i64 0, .string { data := #[] }, .string { data := #[] }, .string { data := #[] }, .bool false, .slice none 0 0, .slice none 0 0] 26) = W := ⟨_, rfl⟩
  have hbx : BoxA W w.heap.size 26 #[.int .i64 0, .string { data := #[] }, .string { data := #[] }, .string { data := #[] }, .bool false, .slice none 0 0, .slice none 0 0] := by rw [← hW]; exact BoxA.new _ _ _
  have hl : Below w.heap.size w W := by rw [← hW]; exact (Below.refl _ _).alloc (Nat.le_refl _) _
  have hs : W.heap.size = w.heap.size + 1 := by rw [← hW]; exact World.size_alloc _ _
  have HCO := Lib.hid (copies_any (h.next hl) hl1 hx)
  have HBX := Lib.hid (fun (Y : World) (hY : Below W.heap.size W Y) => (show BoxA Y w.heap.size 26 #[.int .i64 0, .string { data := #[] }, .string { data := #[] }, .string { data := #[] }, .bool false, .slice none 0 0, .slice none 0 0] from hbx.next hY))
  have HL := Lib.hid hl
  have HW := Lib.hid hW
  have HS := Lib.hid hs
  have HQ := Lib.hid (fst_at hq)
  obtain ⟨n, hn⟩ : ∃ n, L.length = n := ⟨_, rfl⟩
  have HN := Lib.hid hn
  have hin : i < n := by rw [← hn]; exact (List.getElem?_eq_some_iff.1 hq).1
  rw [hn] at hl1
  have hwi : IntKind.i64.wrap ((i : Int) + 1) = (i : Int) + 1 := by rw [IntKind.wrap_i64]; omega
  clear h hx hW hbx hl hs hq hn
  go_enter Tryz.func52, Tryz.ntmps52
  go_upto_region 1 with fail
  rw [HW.out]
  go_upto_region 2 with (go_at_call 34; ((with_reducible refine HCO.out.mono ?_); rintro e w5 ⟨u5, M5, rfl, hm5, ho5, hb5⟩); have M5' := Lib.hid (And.intro hm5 ho5); have A5 := Lib.hid (show Below W.heap.size W w5 from hb5); clear hm5 ho5 hb5)
  have HML := Lib.hid (show M5.length = n by have := congrArg List.length M5'.out.1; rw [List.length_map, List.length_map, HN.out] at this; exact this)
  obtain ⟨q5, hq5⟩ : ∃ q5, M5[i]? = some q5 := ⟨_, List.getElem?_eq_getElem (by rw [HML.out]; exact hin)⟩
  have he5 : q5.1 = q.1 := by
    have h1 := fst_at hq5
    rw [M5'.out.1, HQ.out] at h1
    exact (Option.some.inj h1).symm
  obtain ⟨b5, x5⟩ := q5
  dsimp only at he5
  subst he5
  obtain ⟨g, c, hv5, hO5⟩ := M5'.out.2.row.own (ne_of_at hq5)
  rw [HML.out] at hv5
  subst hv5
  have HO5 := Lib.hid (show w5.ownsRow W.heap.size 26 7 (.slice (some ⟨g, 0, none⟩) n c) n (bcl M5) by have := hO5; unfold OwnB at this; rwa [HML.out] at this)
  have HRA := Lib.hid (OwnB.range HO5.out hq5)
  have HQ5 := Lib.hid hq5
  have HR5 := Lib.hid (show RB w5 q.1 x5 from ⟨(M5'.out.2.e _ (List.mem_of_getElem? hq5)).rdc, (M5'.out.2.r _ (List.mem_of_getElem? hq5)).ri⟩)
  have lg : g < w5.heap.size := (World.ownsRow.lt HO5.out g rfl).2
  have HGB := Lib.hid (show W.heap.size ≤ g from (World.ownsRow.lt HO5.out g rfl).1)
  clear hq5 hO5
  go_upto_region 3 with (first
    | (refine wpList_load_mid rfl _ _ rfl g (i * 7) (by first | rfl | simp) [.int .i64 q.1.job, .string (str q.1.name), .string (str q.1.user), .string (str q.1.pool), .bool q.1.opn, x5.e, x5.r] _ HRA.out Tryz.underlying26 rfl (by kernel_rfl) ?_)
    | (refine wpList_store_row rfl _ _ _ rfl w5.heap.size (bcs q.1 x5) rfl rfl _ _ (BoxA.new w5 _ _) (by kernel_rfl) rfl (bcs_all HR5.out) ?_))
  obtain ⟨W6, hW6, hkW6, hbW6⟩ := box_endB w5 #[.int .i64 0, .string { data := #[] }, .string { data := #[] }, .string { data := #[] }, .bool false, .slice none 0 0, .slice none 0 0] (bcs q.1 x5) 26
  rw [hW6]
  obtain ⟨k6, hk6⟩ : ∃ k6, w5.heap.size = k6 := ⟨_, rfl⟩
  have HK6 := Lib.hid (show BufB W6 k6 q.1 x5 by rw [← hk6]; exact hkW6)
  have HKG := Lib.hid (show some k6 ≠ (Value.slice (some ⟨g, 0, none⟩) n c).ownBlock from fun e => by simp only [Value.ownBlock, Option.some.injEq] at e; omega)
  have HKW := Lib.hid (show k6 ≠ w.heap.size by have := A5.out.size; have := HS.out; omega)
  have HB6 := Lib.hid hbW6
  have HO6 := Lib.hid (M5'.out.2.next hbW6)
  have HOD := Lib.hid (show OwnB W.heap.size W6.drew (.slice (some ⟨g, 0, none⟩) M5.length c) M5 by have := HO5.out; rw [← HML.out] at this; exact World.ownsRow.kept this (grown_new hbW6.drew) (.inr (by simp [Value.ownBlock])))
  have HON := Lib.hid (show ∀ k, ∀ u ∈ bcl (M5.drop k), u.oneCell' = true from fun k => bcl_one (W := W6) fun p hp => HO6.out.rbs.rows p (List.mem_of_mem_drop hp))
  have HDE := Lib.hid (deleteB_any HOD.out (by rw [HML.out]; exact hin) (by rw [HML.out]; omega) HON.out)
  rw [HML.out] at HDE HOD
  have HAW := Lib.hid (A5.out.trans (HB6.out.mono A5.out.size))
  rw [hk6]
  clear hW6 hkW6 hbW6 hk6 lg
  try simp only [Act.put]
  refine wp_region_held_drew (S := (fun Y => BufB Y k6 q.1 x5)) (by kernel_rfl) (by exact (show BufB W6.drew k6 q.1 x5 from HK6.out)) (fun hHeld => ?_)
  refine wpAnyH_take (i := 0) (v := ?_) (ata at0) (by kernel_rfl) (by kernel_rfl) (by kernel_rfl) (fun _ _ _ h => h) (Or.inl ⟨by rfl, ?_⟩) (by assumption) ?_
  rotate_left
  · (intro w hSw; (try dsimp only at hSw); go_simp; (first | done | with_reducible rfl))
  try simp only [Act.put, List.setIfInBounds_toArray, List.set_cons_zero, List.set_cons_succ]
  refine wpAnyH_take (i := 1) (v := ?_) (ata (atS at0)) (by kernel_rfl) (by kernel_rfl) (by kernel_rfl) (fun _ _ _ h => h) (Or.inl ⟨by rfl, ?_⟩) (by assumption) ?_
  rotate_left
  · (intro w hSw; (try dsimp only at hSw); go_simp; (first | done | with_reducible rfl))
  try simp only [Act.put, List.setIfInBounds_toArray, List.set_cons_zero, List.set_cons_succ]
  refine wpAnyH_take (i := 2) (v := ?_) (ata (atS (atS at0))) (by kernel_rfl) (by kernel_rfl) (by kernel_rfl) (fun _ _ _ h => h) (Or.inl ⟨by rfl, ?_⟩) (by assumption) ?_
  rotate_left
  · (intro w hSw; (try dsimp only at hSw); go_simp; (first | done | with_reducible rfl))
  try simp only [Act.put, List.setIfInBounds_toArray, List.set_cons_zero, List.set_cons_succ]
  refine wpAnyH_take (i := 3) (v := ?_) (ata (atS (atS (atS at0)))) (by kernel_rfl) (by kernel_rfl) (by kernel_rfl) (fun _ _ _ h => h) (Or.inl ⟨by rfl, ?_⟩) (by assumption) ?_
  rotate_left
  · (intro w hSw; (try dsimp only at hSw); go_simp; (first | done | with_reducible rfl))
  try simp only [Act.put, List.setIfInBounds_toArray, List.set_cons_zero, List.set_cons_succ]
  refine wpAnyH_take (i := 5) (v := .agg (bcs q.1 x5)) (ata (atS (atS (atS (atS (atS at0)))))) (by kernel_rfl) (by kernel_rfl) (by kernel_rfl) (fun _ _ _ h => h) (Or.inl ⟨by rfl, ?_⟩) (by assumption) ?_
  · intro X hX; exact load_box _ rfl _ rfl (hX)
  try simp only [Act.put, List.setIfInBounds_toArray, List.set_cons_zero, List.set_cons_succ]
  refine wpAnyH_ready (rs := [4]) (by kernel_rfl) (by simp) ?_
  refine AllReadyH.cons (ata (atS (atS (atS (atS at0))))) (fun K hK => ?_) AllReadyH.nil
  go_simp
  (go_at_call 80; ((with_reducible refine HDE.out.mono ?_); rintro e w8 ⟨v8, rfl, ho8, hg8, -⟩); have G8 := Lib.hid (And.intro (show w8.ownsRow W.heap.size 26 7 v8 (M5.eraseIdx i).length (bcl (M5.eraseIdx i)) from ho8) (show W6.drew.grownBy w8 (some g) from hg8)); clear ho8 hg8; have HK8 := Lib.hid (show BufB w8 k6 q.1 x5 from BoxA.grownB (show BoxA W6.drew k6 _ _ from HK6.out) (.inr HKG.out) HOD.out G8.out.2); have A8 := Lib.hid (show Below W.heap.size W w8 from HAW.out.drew.grown G8.out.2 HAW.out.size (fun k hk => by cases hk; exact HGB.out)); have HX8 := Lib.hid (HBX.out _ A8.out))
  go_wp2_with fail
  refine hK.out _ _ (by exact HK8.out) (fun hHeld => ?_)
  clear hK K
  try simp only [Act.put, List.setIfInBounds_toArray, List.set_cons_zero, List.set_cons_succ]
  refine wpAnyH_take (i := 6) (v := ?_) (ata (atS (atS (atS (atS (atS (atS at0))))))) (by kernel_rfl) (by kernel_rfl) (by kernel_rfl) (fun _ _ _ h => h) (Or.inl ⟨by rfl, ?_⟩) (by assumption) ?_
  rotate_left
  · (intro w hSw; (try dsimp only at hSw); go_simp; (first | done | with_reducible rfl))
  try simp only [Act.put, List.setIfInBounds_toArray, List.set_cons_zero, List.set_cons_succ]
  refine wpAnyH_ready (rs := [7]) (by kernel_rfl) (by simp) ?_
  refine AllReadyH.cons (ata (atS (atS (atS (atS (atS (atS (atS at0)))))))) (fun K hK => ?_) AllReadyH.nil
  refine wp_store_row _ _ _ rfl w.heap.size (bcs q.1 x5) rfl rfl 26 #[.int .i64 0, .string { data := #[] }, .string { data := #[] }, .string { data := #[] }, .bool false, .slice none 0 0, .slice none 0 0] HX8.out (by kernel_rfl) rfl (bcs_all (show RB w8 q.1 x5 from ⟨(ApC.grownT (by decide) (show ApC _ _ _ W6.drew _ _ _ from HO6.out.e _ (List.mem_of_getElem? HQ5.out)) HOD.out G8.out.2).rdc, OutI.ri (ApC.grownT (by decide) (show OutI _ W6.drew _ _ from HO6.out.r _ (List.mem_of_getElem? HQ5.out)) HOD.out G8.out.2)⟩)) ?_
  refine hK.out _ _ (by exact (setRow_other _ _ _ _ HKW.out).trans HK8.out) (fun hHeld => ?_)
  clear hK K
  try simp only [Act.put, List.setIfInBounds_toArray, List.set_cons_zero, List.set_cons_succ]
  refine wpAnyH_done (by kernel_rfl) ?_ _
  go_wp2
  have HE := Lib.hid (show ∀ p ∈ M5, ApC W.heap.size 55 2 w8 p.2.e p.1.exts.length (xcs p.1.exts) ∧ OutI W.heap.size w8 p.2.r p.1.refs from fun p hp => ⟨ApC.grownT (by decide) (show ApC _ _ _ W6.drew _ _ _ from HO6.out.e p hp) HOD.out G8.out.2, ApC.grownT (by decide) (show OutI _ W6.drew _ _ from HO6.out.r p hp) HOD.out G8.out.2⟩)
  have HOW := Lib.hid (show Own W.heap.size w8 v8 (M5.eraseIdx i) from ⟨⟨.inr G8.out.1⟩, fun p hp => (HE.out p (mem_of_erase hp)).1, fun p hp => (HE.out p (mem_of_erase hp)).2⟩)
  have HQM := Lib.hid (HE.out _ (List.mem_of_getElem? HQ5.out))
  refine bodyPost_ret (v := .tuple #[v8, .agg (bcs q.1 x5)]) (res_tc (p := 5) (u := 4) rfl _ _ w.heap.size _ (bcs q.1 x5) _ _ rfl (setRow_heap _ _ _ _ _ _ HX8.out) Tryz.underlying26 rfl (by kernel_rfl)) rfl ?_
  have hlt : w.heap.size < W.heap.size := by rw [HS.out]; omega
  exact ⟨v8, M5.eraseIdx i, x5, rfl, by rw [erase_map, M5'.out.1], (HOW.out.setR hlt _).mono (Nat.le_of_lt hlt), (HQM.out.1.setR hlt _).mono (Nat.le_of_lt hlt), ApC.mono (ApC.setR HQM.out.2 hlt _) (Nat.le_of_lt hlt), below_setRow (HL.out.trans (A8.out.mono HL.out.size)) (Nat.le_refl _) _⟩
theorem dropP_no {w W : World} {L : List (Bf × Gb)} {E : Int} (hb : Below w.heap.size w W) : DropP w L [] Bf.zero E (.returned (.tuple #[.slice none 0 0, .agg #[.int .i64 0, .string { data := #[] }, .string { data := #[] }, .string { data := #[] }, .bool false, .slice none 0 0, .slice none 0 0], .int .i64 E])) W :=
  ⟨_, [], gZ, rfl, rfl, ⟨OutS.nil _ _, (fun p hp => by cases hp), fun p hp => by cases hp⟩, bis_nil, told_zero _ _ _, bi_zero, cb_zero, hb⟩
set_option maxHeartbeats 6400000 in
theorem pdrop_any {w : World} {v : Value} {L : List (Bf × Gb)} (h : RBs w v L) (hI : BIs L) (name user : List UInt8) :
    Calls Tryz.prog 18 #[v, .string (str name), .string (str user)] w (DropP w L (dropS (L.map Prod.fst) name user).1 (dropS (L.map Prod.fst) name user).2.1 (dropS (L.map Prod.fst) name user).2.2) := by
  obtain ⟨W, hW⟩ : ∃ W, w.alloc (.cells #[.int .i64 0, .string { data := #[] }, .string { data := #[] }, .string { data := #[] }, .bool false, .slice none 0 0, .slice none 0 0] 26) = W := ⟨_, rfl⟩
  have hbx : BoxA W w.heap.size 26 #[.int .i64 0, .string { data := #[] }, .string { data := #[] }, .string { data := #[] }, .bool false, .slice none 0 0, .slice none 0 0] := by rw [← hW]; exact BoxA.new _ _ _
  have hl : Below w.heap.size w W := by rw [← hW]; exact (Below.refl _ _).alloc (Nat.le_refl _) _
  have HCH := Lib.hid (pcheck_any (h.next hl) hI)
  have HNA := Lib.hid (fun (Y : World) => named_any name Y)
  have HCK := Lib.hid (fun (Y : World) => (BoxA.cell (BoxA.new Y 9 #[.string (str name)]) 0 _ rfl : (Y.alloc (.cells #[.string (str name)] 9)).cell? ⟨Y.heap.size, 0, none⟩ = some (.string (str name))))
  have eg : ∀ args w, (callFunc 74 args).run Tryz.prog w = .ok (.enter 74 args) w := enters_of Tryz.func74 (by kernel_rfl) rfl
  have HPL := Lib.hid (fun (Y : World) (hy : Below W.heap.size W Y) => (index_any (((h.next hl).next hy).next ((Below.refl _ Y).alloc (Nat.le_refl Y.heap.size) (.cells #[.string (str name)] 9))) hI.len 74 #[.pointer (some ⟨Y.heap.size, 0, none⟩)] eg (same 0 name) fun Z q hz => named1_any Z Y.heap.size name q ((low_cell hz (lt_cellB (HCK.out Y))).trans (HCK.out Y))).mono fun e w' hh => (show e = .returned (.int .i64 (pI (place (L.map Prod.fst) 0 name))) ∧ Below Y.heap.size Y w' from ⟨hh.1, ((Below.refl _ Y).alloc (Nat.le_refl _) _).trans (hh.2.mono (by simp))⟩))
  have HWO := Lib.hid (fun (Y : World) (hy : Below W.heap.size W Y) (hn : L.length ≤ 1000) (hx : ∀ q ∈ L, q.1.exts.length ≤ 1000000 ∧ q.1.refs.length ≤ 1000000) (i : Nat) (q : Bf × Gb) (hq : L[i]? = some q) => without_any ((h.next hl).next hy) hn hx hq)
  have HRL := Lib.hid (fun (Y : World) (hy : Below w.heap.size w Y) => (h.next hy).rows)
  obtain ⟨p, c, rfl, f⟩ := (h.next hl).form
  obtain ⟨n, hn⟩ : ∃ n, L.length = n := ⟨_, rfl⟩
  rw [hn] at HCH HPL HWO
  rw [hn]
  have HF := Lib.hid f
  have HN := Lib.hid hn
  have HI := Lib.hid hI
  have hn1 : n ≤ 140737488355328 := by rw [← hn]; exact hI.len
  have HL := Lib.hid hl
  have HW := Lib.hid hW
  have HSZ := Lib.hid (show w.heap.size < W.heap.size from hbx.lt)
  have HBX := Lib.hid (fun (Y : World) (hy : Below W.heap.size W Y) => (show BoxA Y w.heap.size 26 #[.int .i64 0, .string { data := #[] }, .string { data := #[] }, .string { data := #[] }, .bool false, .slice none 0 0, .slice none 0 0] from hbx.next hy))
  have HFIN := Lib.hid (fun (Y : World) (hy : Below W.heap.size W Y) => (show Below w.heap.size w Y from hl.trans (hy.mono hl.size)))
  clear h hI hW hbx hl f hn
  by_cases hV : Valid (L.map Prod.fst)
  rotate_left
  · have HR := Lib.hid (show dropS (L.map Prod.fst) name user = ([], Bf.zero, 170) by unfold bu.dropS; rw [if_pos hV])
    rw [vE_no hV] at HCH
    clear hV
    go_enter Tryz.func18, Tryz.ntmps18
    go_upto_region 1 with fail
    rw [HW.out]
    go_wp2_with (first
      | (go_at_call 11; ((with_reducible refine HCH.out.mono ?_); rintro e w5 ⟨rfl, hb⟩); have A5 := Lib.hid (show Below W.heap.size W w5 from hb); clear hb)
      | (refine wpList_store_row rfl _ _ _ rfl w.heap.size #[.int .i64 0, .string { data := #[] }, .string { data := #[] }, .string { data := #[] }, .bool false, .slice none 0 0, .slice none 0 0] rfl rfl _ _ (HBX.out _ A5.out) (by kernel_rfl) rfl (by kernel_rfl) ?_))
    rw [HR.out]
    refine bodyPost_ret (v := .tuple #[.slice none 0 0, .agg #[.int .i64 0, .string { data := #[] }, .string { data := #[] }, .string { data := #[] }, .bool false, .slice none 0 0, .slice none 0 0], .int .i64 170]) (res_tct (p := 7) (u := 6) (v := 8) rfl _ _ w.heap.size _ #[.int .i64 0, .string { data := #[] }, .string { data := #[] }, .string { data := #[] }, .bool false, .slice none 0 0, .slice none 0 0] _ _ rfl (setRow_heap _ _ _ _ _ _ (HBX.out _ A5.out)) Tryz.underlying26 rfl (by kernel_rfl)) rfl ?_
    exact dropP_no (below_setRow (HFIN.out _ A5.out) (Nat.le_refl _) _)
  rw [show vE (L.map Prod.fst) = 0 from if_pos hV] at HCH
  cases hpl : place (L.map Prod.fst) 0 name with
  | none =>
    rw [hpl] at HPL
    unfold pI at HPL
    dsimp only at HPL
    have HR := Lib.hid (show dropS (L.map Prod.fst) name user = ([], Bf.zero, 7) by unfold bu.dropS; rw [if_neg (not_not_intro hV), hpl])
    clear hV hpl
    go_enter Tryz.func18, Tryz.ntmps18
    go_upto_region 1 with fail
    rw [HW.out]
    go_wp2_with (first
      | (go_at_call 11; ((with_reducible refine HCH.out.mono ?_); rintro e w5 ⟨rfl, hb⟩); have A5 := Lib.hid (show Below W.heap.size W w5 from hb); clear hb)
      | (go_at_call 46; ((with_reducible refine (HNA.out _).mono ?_); rintro e w4 ⟨rfl, rfl⟩))
      | (go_at_call 45; ((with_reducible refine (HPL.out _ A5.out).mono ?_); rintro e w6 ⟨rfl, hb⟩); have A6 := Lib.hid (show Below W.heap.size W w6 from A5.out.trans (hb.mono A5.out.size)); clear hb)
      | (refine wpList_store_row rfl _ _ _ rfl w.heap.size #[.int .i64 0, .string { data := #[] }, .string { data := #[] }, .string { data := #[] }, .bool false, .slice none 0 0, .slice none 0 0] rfl rfl _ _ (HBX.out _ A6.out) (by kernel_rfl) rfl (by kernel_rfl) ?_))
    rw [HR.out]
    refine bodyPost_ret (v := .tuple #[.slice none 0 0, .agg #[.int .i64 0, .string { data := #[] }, .string { data := #[] }, .string { data := #[] }, .bool false, .slice none 0 0, .slice none 0 0], .int .i64 7]) (res_tct (p := 7) (u := 6) (v := 8) rfl _ _ w.heap.size _ #[.int .i64 0, .string { data := #[] }, .string { data := #[] }, .string { data := #[] }, .bool false, .slice none 0 0, .slice none 0 0] _ _ rfl (setRow_heap _ _ _ _ _ _ (HBX.out _ A6.out)) Tryz.underlying26 rfl (by kernel_rfl)) rfl ?_
    exact dropP_no (below_setRow (HFIN.out _ A6.out) (Nat.le_refl _) _)
  | some i =>
    obtain ⟨b0, hb0, -, -, hi⟩ := bu.place_some hpl
    rw [List.length_map, HN.out] at hi
    obtain ⟨q, hq⟩ : ∃ q, L[i]? = some q := ⟨_, List.getElem?_eq_getElem (by rw [HN.out]; exact hi)⟩
    have HR0 := Lib.hid (show dropS (L.map Prod.fst) name user = (if q.1.user ≠ user then ([], Bf.zero, 171) else if q.1.refs ≠ [] then ([], Bf.zero, 172) else ((L.map Prod.fst).eraseIdx i, q.1, 0)) by unfold bu.dropS; rw [if_neg (not_not_intro hV), hpl]; dsimp only; rw [fst_at hq])
    have hn2 : n ≤ 200 := by have := hV.1; rw [List.length_map, HN.out] at this; exact this
    obtain ⟨kb, off, rfl, hk, hc⟩ := BC.of (HF.out (ne_of_at hq))
    have HC := Lib.hid (fun (Y : World) (hy : Below W.heap.size W Y) => (show BC L kb off Y from hc.next hk hy))
    have HK := Lib.hid hk
    have HQ := Lib.hid hq
    rw [hpl] at HPL
    unfold pI at HPL
    dsimp only at HPL
    have d0 : decide ((i : Int) < 0) = false := decide_eq_false (by omega)
    have HQR := Lib.hid (fun (Y : World) (hy : Below w.heap.size w Y) => HRL.out Y hy q (List.mem_of_getElem? hq))
    have HQI := Lib.hid (HI.out.all q (List.mem_of_getElem? hq))
    have HLM := Lib.hid (show ∀ q ∈ L, q.1.exts.length ≤ 1000000 ∧ q.1.refs.length ≤ 1000000 from fun q hq => may_len (hV.2.1 q.1 (List.mem_map.2 ⟨q, hq, rfl⟩)))
    have HWI := Lib.hid (fun (Y : World) (hy : Below W.heap.size W Y) => HWO.out Y hy (by omega) HLM.out i q hq)
    clear hV hpl hb0 hq hk hc HF HWO
    obtain ⟨pr, cr, hgr, -⟩ := (HQR.out w (Below.refl _ _)).r.form
    obtain ⟨nr, hnr⟩ : ∃ n, q.1.refs.length = n := ⟨_, rfl⟩
    rw [hnr] at hgr
    have HGR := Lib.hid hgr
    have HNR := Lib.hid hnr
    have CE := Lib.hid (fun (Y : World) (hy : Below W.heap.size W Y) => (show Y.cell? ⟨kb, off + i * 7 + 2, none⟩ = some (.string (str q.1.user)) ∧ Y.cell? ⟨kb, off + i * 7 + 6, none⟩ = some (.slice pr nr cr) from ⟨(HC.out Y hy).cell HQ.out 2 _ rfl, by rw [← HGR.out]; exact (HC.out Y hy).cell HQ.out 6 _ rfl⟩))
    clear hgr hnr
    by_cases hu : q.1.user = user
    rotate_left
    · have HR := Lib.hid (show dropS (L.map Prod.fst) name user = ([], Bf.zero, 171) by rw [HR0.out, if_pos hu])
      have q1 : ((str q.1.user).toList == (str user).toList) = false := by rw [str_toList, str_toList, beq_eq_false_iff_ne]; exact hu
      have q2 : ¬ (str q.1.user).toList = (str user).toList := by rw [str_toList, str_toList]; exact hu
      clear hu
      go_enter Tryz.func18, Tryz.ntmps18
      go_upto_region 1 with fail
      rw [HW.out]
      go_wp2_with (first
        | (go_at_call 11; ((with_reducible refine HCH.out.mono ?_); rintro e w5 ⟨rfl, hb⟩); have A5 := Lib.hid (show Below W.heap.size W w5 from hb); clear hb)
        | (go_at_call 46; ((with_reducible refine (HNA.out _).mono ?_); rintro e w4 ⟨rfl, rfl⟩))
        | (go_at_call 45; ((with_reducible refine (HPL.out _ A5.out).mono ?_); rintro e w6 ⟨rfl, hb⟩); have A6 := Lib.hid (show Below W.heap.size W w6 from A5.out.trans (hb.mono A5.out.size)); obtain ⟨cq2, cq6⟩ := CE.out _ A6.out; have lq : kb < w6.heap.size := Nat.lt_of_lt_of_le HK.out A6.out.size; clear hb)
        | (refine wpList_store_row rfl _ _ _ rfl w.heap.size #[.int .i64 0, .string { data := #[] }, .string { data := #[] }, .string { data := #[] }, .bool false, .slice none 0 0, .slice none 0 0] rfl rfl _ _ (HBX.out _ A6.out) (by kernel_rfl) rfl (by kernel_rfl) ?_))
      rw [HR.out]
      refine bodyPost_ret (v := .tuple #[.slice none 0 0, .agg #[.int .i64 0, .string { data := #[] }, .string { data := #[] }, .string { data := #[] }, .bool false, .slice none 0 0, .slice none 0 0], .int .i64 171]) (res_tct (p := 7) (u := 6) (v := 8) rfl _ _ w.heap.size _ #[.int .i64 0, .string { data := #[] }, .string { data := #[] }, .string { data := #[] }, .bool false, .slice none 0 0, .slice none 0 0] _ _ rfl (setRow_heap _ _ _ _ _ _ (HBX.out _ A6.out)) Tryz.underlying26 rfl (by kernel_rfl)) rfl ?_
      exact dropP_no (below_setRow (HFIN.out _ A6.out) (Nat.le_refl _) _)
    have q1 : ((str q.1.user).toList == (str user).toList) = true := by rw [str_toList, str_toList, beq_iff_eq]; exact hu
    have q2 : (str q.1.user).toList = (str user).toList := by rw [hu]
    have HR1 := Lib.hid (HR0.out.trans (if_neg (not_not_intro hu)))
    clear hu
    by_cases hr : q.1.refs = []
    rotate_left
    · have HR := Lib.hid (show dropS (L.map Prod.fst) name user = ([], Bf.zero, 172) by rw [HR1.out, if_pos hr])
      have d9 : decide ((0 : Int) < (nr : Int)) = true := decide_eq_true (by have : nr ≠ 0 := fun e => hr (List.eq_nil_of_length_eq_zero (by rw [HNR.out]; exact e)); omega)
      have d8 : 0 < nr := by have : nr ≠ 0 := fun e => hr (List.eq_nil_of_length_eq_zero (by rw [HNR.out]; exact e)); omega
      clear hr
      go_enter Tryz.func18, Tryz.ntmps18
      go_upto_region 1 with fail
      rw [HW.out]
      go_wp2_with (first
        | (go_at_call 11; ((with_reducible refine HCH.out.mono ?_); rintro e w5 ⟨rfl, hb⟩); have A5 := Lib.hid (show Below W.heap.size W w5 from hb); clear hb)
        | (go_at_call 46; ((with_reducible refine (HNA.out _).mono ?_); rintro e w4 ⟨rfl, rfl⟩))
        | (go_at_call 45; ((with_reducible refine (HPL.out _ A5.out).mono ?_); rintro e w6 ⟨rfl, hb⟩); have A6 := Lib.hid (show Below W.heap.size W w6 from A5.out.trans (hb.mono A5.out.size)); obtain ⟨cq2, cq6⟩ := CE.out _ A6.out; have lq : kb < w6.heap.size := Nat.lt_of_lt_of_le HK.out A6.out.size; clear hb)
        | (refine wpList_store_row rfl _ _ _ rfl w.heap.size #[.int .i64 0, .string { data := #[] }, .string { data := #[] }, .string { data := #[] }, .bool false, .slice none 0 0, .slice none 0 0] rfl rfl _ _ (HBX.out _ A6.out) (by kernel_rfl) rfl (by kernel_rfl) ?_))
      rw [HR.out]
      refine bodyPost_ret (v := .tuple #[.slice none 0 0, .agg #[.int .i64 0, .string { data := #[] }, .string { data := #[] }, .string { data := #[] }, .bool false, .slice none 0 0, .slice none 0 0], .int .i64 172]) (res_tct (p := 7) (u := 6) (v := 8) rfl _ _ w.heap.size _ #[.int .i64 0, .string { data := #[] }, .string { data := #[] }, .string { data := #[] }, .bool false, .slice none 0 0, .slice none 0 0] _ _ rfl (setRow_heap _ _ _ _ _ _ (HBX.out _ A6.out)) Tryz.underlying26 rfl (by kernel_rfl)) rfl ?_
      exact dropP_no (below_setRow (HFIN.out _ A6.out) (Nat.le_refl _) _)
    have hnz : nr = 0 := by rw [← HNR.out, hr]; rfl
    have d9 : decide ((0 : Int) < (nr : Int)) = false := decide_eq_false (by omega)
    have d8 : ¬ 0 < nr := by omega
    clear hnz
    have HR := Lib.hid (HR1.out.trans (if_neg (not_not_intro hr)))
    clear hr
    go_enter Tryz.func18, Tryz.ntmps18
    go_upto_region 1 with fail
    rw [HW.out]
    go_upto_region 11 with (first
      | (go_at_call 11; ((with_reducible refine HCH.out.mono ?_); rintro e w5 ⟨rfl, hb⟩); have A5 := Lib.hid (show Below W.heap.size W w5 from hb); clear hb)
      | (go_at_call 46; ((with_reducible refine (HNA.out _).mono ?_); rintro e w4 ⟨rfl, rfl⟩))
      | (go_at_call 45; ((with_reducible refine (HPL.out _ A5.out).mono ?_); rintro e w6 ⟨rfl, hb⟩); have A6 := Lib.hid (show Below W.heap.size W w6 from A5.out.trans (hb.mono A5.out.size)); obtain ⟨cq2, cq6⟩ := CE.out _ A6.out; have lq : kb < w6.heap.size := Nat.lt_of_lt_of_le HK.out A6.out.size; clear hb)
      | (go_at_call 52; ((with_reducible refine (HWI.out _ A6.out).mono ?_); rintro e w8 ⟨v8, M8, u8, rfl, hm8, ho8, he8, hr8, hb⟩); have A8 := Lib.hid (show Below W.heap.size W w8 from A6.out.trans (hb.mono A6.out.size)); have M8' := Lib.hid (And.intro hm8 (And.intro (ho8.mono A6.out.size) (And.intro (he8.mono A6.out.size) (show OutI W.heap.size w8 u8.r q.1.refs from ApC.mono hr8 A6.out.size)))); clear hm8 ho8 he8 hr8 hb; have R8 := Lib.hid (show RB w8 q.1 u8 from ⟨M8'.out.2.2.1.rdc, OutI.ri M8'.out.2.2.2⟩); unfold bV)
      | (refine wpList_store_row rfl _ _ _ rfl w8.heap.size (bcs q.1 u8) rfl rfl _ _ (BoxA.new w8 _ _) (by kernel_rfl) rfl (bcs_all R8.out) ?_))
    obtain ⟨w9, hw9, hk9, hb9⟩ := box_endB w8 #[.int .i64 0, .string { data := #[] }, .string { data := #[] }, .string { data := #[] }, .bool false, .slice none 0 0, .slice none 0 0] (bcs q.1 u8) 26
    rw [hw9]
    have A9 := Lib.hid (A8.out.trans (hb9.mono A8.out.size))
    have HO9 := Lib.hid (M8'.out.2.1.next hb9)
    have HE9 := Lib.hid (M8'.out.2.2.1.next hb9)
    have HR9 := Lib.hid (OutI.next M8'.out.2.2.2 hb9)
    have HRB := Lib.hid (R8.out.next hb9)
    have HK9 := Lib.hid (show BufB w9 w8.heap.size q.1 u8 from hk9)
    have HS9 := Lib.hid (show w8.heap.size ≠ w.heap.size by have := HSZ.out; have := A8.out.size; omega)
    have HD9 := Lib.hid (show Below W.heap.size W w9.drew from Below.drew A9.out)
    clear hw9 hk9 hb9
    obtain ⟨k8, hk8⟩ : ∃ k8, w8.heap.size = k8 := ⟨_, rfl⟩
    rw [hk8] at HK9 HS9 ⊢
    clear hk8
    refine wp_region_held_drew (S := (fun Y => BufB Y k8 q.1 u8)) (by kernel_rfl) (by exact (show BufB w9.drew k8 q.1 u8 from HK9.out)) (fun hHeld => ?_)
    refine wpAnyH_take (i := 0) (v := ?_) (ata at0) (by kernel_rfl) (by kernel_rfl) (by kernel_rfl) (fun _ _ _ h => h) (Or.inl ⟨by rfl, ?_⟩) (by assumption) ?_
    rotate_left
    · (intro w hSw; (try dsimp only at hSw); go_simp; (first | done | with_reducible rfl))
    try simp only [Act.put, List.setIfInBounds_toArray, List.set_cons_zero, List.set_cons_succ]
    refine wpAnyH_take (i := 1) (v := .agg (bcs q.1 u8)) (ata (atS at0)) (by kernel_rfl) (by kernel_rfl) (by kernel_rfl) (fun _ _ _ h => h) (Or.inl ⟨by rfl, ?_⟩) (by assumption) ?_
    · intro X hX; exact load_box _ rfl _ rfl (hX)
    try simp only [Act.put, List.setIfInBounds_toArray, List.set_cons_zero, List.set_cons_succ]
    refine wpAnyH_take (i := 2) (v := ?_) (ata (atS (atS at0))) (by kernel_rfl) (by kernel_rfl) (by kernel_rfl) (fun _ _ _ h => h) (Or.inl ⟨by rfl, ?_⟩) (by assumption) ?_
    rotate_left
    · (intro w hSw; (try dsimp only at hSw); go_simp; (first | done | with_reducible rfl))
    try simp only [Act.put, List.setIfInBounds_toArray, List.set_cons_zero, List.set_cons_succ]
    refine wpAnyH_ready (rs := [3]) (by kernel_rfl) (by simp) ?_
    refine AllReadyH.cons (ata (atS (atS (atS at0)))) (fun K hK => ?_) AllReadyH.nil
    refine wp_store_row _ _ _ rfl w.heap.size (bcs q.1 u8) rfl rfl 26 #[.int .i64 0, .string { data := #[] }, .string { data := #[] }, .string { data := #[] }, .bool false, .slice none 0 0, .slice none 0 0] (HBX.out _ HD9.out) (by kernel_rfl) rfl (bcs_all (HRB.out.next (drew_lowB _))) ?_
    refine hK.out _ _ (by exact (setRow_other _ _ _ _ HS9.out).trans (show BufB w9.drew k8 q.1 u8 from HK9.out)) (fun hHeld => ?_)
    clear hK K
    try simp only [Act.put, List.setIfInBounds_toArray, List.set_cons_zero, List.set_cons_succ]
    refine wpAnyH_take (i := 4) (v := ?_) (ata (atS (atS (atS (atS at0))))) (by kernel_rfl) (by kernel_rfl) (by kernel_rfl) (fun _ _ _ h => h) (Or.inl ⟨by rfl, ?_⟩) (by assumption) ?_
    rotate_left
    · (intro w hSw; (try dsimp only at hSw); go_simp; (first | done | with_reducible rfl))
    try simp only [Act.put, List.setIfInBounds_toArray, List.set_cons_zero, List.set_cons_succ]
    refine wpAnyH_done (by kernel_rfl) ?_ _
    go_wp2
    rw [HR.out]
    refine bodyPost_ret (v := .tuple #[v8, .agg (bcs q.1 u8), .int .i64 0]) (res_tct (p := 7) (u := 6) (v := 8) rfl _ _ w.heap.size _ (bcs q.1 u8) _ _ rfl (setRow_heap _ _ _ _ _ _ (HBX.out _ HD9.out)) Tryz.underlying26 rfl (by kernel_rfl)) rfl ?_
    have hfin := below_setRow (HFIN.out _ HD9.out) (Nat.le_refl _) (bcs q.1 u8)
    have hlt := HSZ.out
    refine ⟨v8, M8, u8, rfl, M8'.out.1, ((HO9.out.next (drew_lowB w9)).setR hlt _).mono (Nat.le_of_lt hlt), ⟨?_, fun x hx => ?_⟩, ⟨.inr (((HE9.out.next (drew_lowB w9)).setR hlt _).mono (Nat.le_of_lt hlt)), .inr (ApC.mono (ApC.setR (OutI.next HR9.out (drew_lowB w9)) hlt _) (Nat.le_of_lt hlt))⟩, HQI.out, cb_own HE9.out HR9.out, hfin⟩
    · have h1 := congrArg List.length M8'.out.1
      rw [List.length_map] at h1
      have h2 := List.length_eraseIdx_le (L.map Prod.fst) i
      rw [List.length_map, HN.out] at h2
      omega
    · have h1 : x.1 ∈ (L.map Prod.fst).eraseIdx i := by rw [← M8'.out.1]; exact List.mem_map.2 ⟨x, hx, rfl⟩
      obtain ⟨y, hy, h2⟩ := List.mem_map.1 (mem_of_erase h1)
      rw [← h2]
      exact HI.out.all y hy
set_option maxHeartbeats 6400000 in
theorem pfree_any {w : World} {v : Value} {L : List (Bf × Gb)} (h : RBs w v L) (hI : BIs L) (job : Int) :
    Calls Tryz.prog 21 #[v, .int .i64 job] w (DropP w L (freeS (L.map Prod.fst) job).1 (freeS (L.map Prod.fst) job).2.1 (freeS (L.map Prod.fst) job).2.2) := by
  obtain ⟨W, hW⟩ : ∃ W, w.alloc (.cells #[.int .i64 0, .string { data := #[] }, .string { data := #[] }, .string { data := #[] }, .bool false, .slice none 0 0, .slice none 0 0] 26) = W := ⟨_, rfl⟩
  have hbx : BoxA W w.heap.size 26 #[.int .i64 0, .string { data := #[] }, .string { data := #[] }, .string { data := #[] }, .bool false, .slice none 0 0, .slice none 0 0] := by rw [← hW]; exact BoxA.new _ _ _
  have hl : Below w.heap.size w W := by rw [← hW]; exact (Below.refl _ _).alloc (Nat.le_refl _) _
  have HCH := Lib.hid (pcheck_any (h.next hl) hI)
  have HNA := Lib.hid (fun (Y : World) => bown_any job Y)
  have HCK := Lib.hid (fun (Y : World) => (BoxA.cell (BoxA.new Y 2 #[.int .i64 job]) 0 _ rfl : (Y.alloc (.cells #[.int .i64 job] 2)).cell? ⟨Y.heap.size, 0, none⟩ = some (.int .i64 job)))
  have eg : ∀ args w, (callFunc 81 args).run Tryz.prog w = .ok (.enter 81 args) w := enters_of Tryz.func81 (by kernel_rfl) rfl
  have HPL := Lib.hid (fun (Y : World) (hy : Below W.heap.size W Y) => (index_any (((h.next hl).next hy).next ((Below.refl _ Y).alloc (Nat.le_refl Y.heap.size) (.cells #[.int .i64 job] 2))) hI.len 81 #[.pointer (some ⟨Y.heap.size, 0, none⟩)] eg (same job []) fun Z q hz => own1_any Z Y.heap.size job q ((low_cell hz (lt_cellB (HCK.out Y))).trans (HCK.out Y))).mono fun e w' hh => (show e = .returned (.int .i64 (pI (place (L.map Prod.fst) job []))) ∧ Below Y.heap.size Y w' from ⟨hh.1, ((Below.refl _ Y).alloc (Nat.le_refl _) _).trans (hh.2.mono (by simp))⟩))
  have HWO := Lib.hid (fun (Y : World) (hy : Below W.heap.size W Y) (hn : L.length ≤ 1000) (hx : ∀ q ∈ L, q.1.exts.length ≤ 1000000 ∧ q.1.refs.length ≤ 1000000) (i : Nat) (q : Bf × Gb) (hq : L[i]? = some q) => without_any ((h.next hl).next hy) hn hx hq)
  have HRL := Lib.hid (fun (Y : World) (hy : Below w.heap.size w Y) => (h.next hy).rows)
  obtain ⟨p, c, rfl, f⟩ := (h.next hl).form
  obtain ⟨n, hn⟩ : ∃ n, L.length = n := ⟨_, rfl⟩
  rw [hn] at HCH HPL HWO
  rw [hn]
  have HF := Lib.hid f
  have HN := Lib.hid hn
  have HI := Lib.hid hI
  have hn1 : n ≤ 140737488355328 := by rw [← hn]; exact hI.len
  have HL := Lib.hid hl
  have HW := Lib.hid hW
  have HSZ := Lib.hid (show w.heap.size < W.heap.size from hbx.lt)
  have HBX := Lib.hid (fun (Y : World) (hy : Below W.heap.size W Y) => (show BoxA Y w.heap.size 26 #[.int .i64 0, .string { data := #[] }, .string { data := #[] }, .string { data := #[] }, .bool false, .slice none 0 0, .slice none 0 0] from hbx.next hy))
  have HFIN := Lib.hid (fun (Y : World) (hy : Below W.heap.size W Y) => (show Below w.heap.size w Y from hl.trans (hy.mono hl.size)))
  clear h hI hW hbx hl f hn
  have HJB := Lib.hid (fun Y => number_any job Y)
  by_cases hV : Valid (L.map Prod.fst)
  rotate_left
  · have HR := Lib.hid (show freeS (L.map Prod.fst) job = ([], Bf.zero, 170) by unfold bu.freeS; rw [if_pos (fun hh => hV hh.1)])
    rw [vE_no hV] at HCH
    clear hV
    go_enter Tryz.func21, Tryz.ntmps21
    go_upto_region 1 with fail
    rw [HW.out]
    go_wp2_with (first
      | (go_at_call 11; ((with_reducible refine HCH.out.mono ?_); rintro e w5 ⟨rfl, hb⟩); have A5 := Lib.hid (show Below W.heap.size W w5 from hb); clear hb)
      | (go_at_call 44; ((with_reducible refine (HJB.out _).mono ?_); rintro e w4 ⟨rfl, rfl⟩))
      | (refine wpList_store_row rfl _ _ _ rfl w.heap.size #[.int .i64 0, .string { data := #[] }, .string { data := #[] }, .string { data := #[] }, .bool false, .slice none 0 0, .slice none 0 0] rfl rfl _ _ (HBX.out _ A5.out) (by kernel_rfl) rfl (by kernel_rfl) ?_))
    rw [HR.out]
    refine bodyPost_ret (v := .tuple #[.slice none 0 0, .agg #[.int .i64 0, .string { data := #[] }, .string { data := #[] }, .string { data := #[] }, .bool false, .slice none 0 0, .slice none 0 0], .int .i64 170]) (res_tct (p := 5) (u := 4) (v := 6) rfl _ _ w.heap.size _ #[.int .i64 0, .string { data := #[] }, .string { data := #[] }, .string { data := #[] }, .bool false, .slice none 0 0, .slice none 0 0] _ _ rfl (setRow_heap _ _ _ _ _ _ (HBX.out _ A5.out)) Tryz.underlying26 rfl (by kernel_rfl)) rfl ?_
    exact dropP_no (below_setRow (HFIN.out _ A5.out) (Nat.le_refl _) _)
  rw [show vE (L.map Prod.fst) = 0 from if_pos hV] at HCH
  by_cases hjo : jobOk job
  rotate_left
  · have HR := Lib.hid (show freeS (L.map Prod.fst) job = ([], Bf.zero, 170) by unfold bu.freeS; rw [if_pos (fun hh => hjo hh.2)])
    rw [decide_eq_false hjo] at HJB
    clear hV hjo
    go_enter Tryz.func21, Tryz.ntmps21
    go_upto_region 1 with fail
    rw [HW.out]
    go_wp2_with (first
      | (go_at_call 11; ((with_reducible refine HCH.out.mono ?_); rintro e w5 ⟨rfl, hb⟩); have A5 := Lib.hid (show Below W.heap.size W w5 from hb); clear hb)
      | (go_at_call 44; ((with_reducible refine (HJB.out _).mono ?_); rintro e w4 ⟨rfl, rfl⟩))
      | (refine wpList_store_row rfl _ _ _ rfl w.heap.size #[.int .i64 0, .string { data := #[] }, .string { data := #[] }, .string { data := #[] }, .bool false, .slice none 0 0, .slice none 0 0] rfl rfl _ _ (HBX.out _ A5.out) (by kernel_rfl) rfl (by kernel_rfl) ?_))
    rw [HR.out]
    refine bodyPost_ret (v := .tuple #[.slice none 0 0, .agg #[.int .i64 0, .string { data := #[] }, .string { data := #[] }, .string { data := #[] }, .bool false, .slice none 0 0, .slice none 0 0], .int .i64 170]) (res_tct (p := 5) (u := 4) (v := 6) rfl _ _ w.heap.size _ #[.int .i64 0, .string { data := #[] }, .string { data := #[] }, .string { data := #[] }, .bool false, .slice none 0 0, .slice none 0 0] _ _ rfl (setRow_heap _ _ _ _ _ _ (HBX.out _ A5.out)) Tryz.underlying26 rfl (by kernel_rfl)) rfl ?_
    exact dropP_no (below_setRow (HFIN.out _ A5.out) (Nat.le_refl _) _)
  rw [decide_eq_true hjo] at HJB
  cases hpl : place (L.map Prod.fst) job [] with
  | none =>
    rw [hpl] at HPL
    unfold pI at HPL
    dsimp only at HPL
    have HR := Lib.hid (show freeS (L.map Prod.fst) job = ([], Bf.zero, 7) by unfold bu.freeS; rw [if_neg (not_not_intro ⟨hV, hjo⟩), hpl])
    clear hV hpl hjo
    go_enter Tryz.func21, Tryz.ntmps21
    go_upto_region 1 with fail
    rw [HW.out]
    go_wp2_with (first
      | (go_at_call 11; ((with_reducible refine HCH.out.mono ?_); rintro e w5 ⟨rfl, hb⟩); have A5 := Lib.hid (show Below W.heap.size W w5 from hb); clear hb)
      | (go_at_call 44; ((with_reducible refine (HJB.out _).mono ?_); rintro e w4 ⟨rfl, rfl⟩))
      | (go_at_call 56; ((with_reducible refine (HNA.out _).mono ?_); rintro e w4 ⟨rfl, rfl⟩))
      | (go_at_call 45; ((with_reducible refine (HPL.out _ A5.out).mono ?_); rintro e w6 ⟨rfl, hb⟩); have A6 := Lib.hid (show Below W.heap.size W w6 from A5.out.trans (hb.mono A5.out.size)); clear hb)
      | (refine wpList_store_row rfl _ _ _ rfl w.heap.size #[.int .i64 0, .string { data := #[] }, .string { data := #[] }, .string { data := #[] }, .bool false, .slice none 0 0, .slice none 0 0] rfl rfl _ _ (HBX.out _ A6.out) (by kernel_rfl) rfl (by kernel_rfl) ?_))
    rw [HR.out]
    refine bodyPost_ret (v := .tuple #[.slice none 0 0, .agg #[.int .i64 0, .string { data := #[] }, .string { data := #[] }, .string { data := #[] }, .bool false, .slice none 0 0, .slice none 0 0], .int .i64 7]) (res_tct (p := 5) (u := 4) (v := 6) rfl _ _ w.heap.size _ #[.int .i64 0, .string { data := #[] }, .string { data := #[] }, .string { data := #[] }, .bool false, .slice none 0 0, .slice none 0 0] _ _ rfl (setRow_heap _ _ _ _ _ _ (HBX.out _ A6.out)) Tryz.underlying26 rfl (by kernel_rfl)) rfl ?_
    exact dropP_no (below_setRow (HFIN.out _ A6.out) (Nat.le_refl _) _)
  | some i =>
    obtain ⟨b0, hb0, -, -, hi⟩ := bu.place_some hpl
    rw [List.length_map, HN.out] at hi
    obtain ⟨q, hq⟩ : ∃ q, L[i]? = some q := ⟨_, List.getElem?_eq_getElem (by rw [HN.out]; exact hi)⟩
    have HR0 := Lib.hid (show freeS (L.map Prod.fst) job = ((L.map Prod.fst).eraseIdx i, q.1, 0) by unfold bu.freeS; rw [if_neg (not_not_intro ⟨hV, hjo⟩), hpl]; dsimp only; rw [fst_at hq])
    have hn2 : n ≤ 200 := by have := hV.1; rw [List.length_map, HN.out] at this; exact this
    obtain ⟨kb, off, rfl, hk, hc⟩ := BC.of (HF.out (ne_of_at hq))
    have HC := Lib.hid (fun (Y : World) (hy : Below W.heap.size W Y) => (show BC L kb off Y from hc.next hk hy))
    have HK := Lib.hid hk
    have HQ := Lib.hid hq
    rw [hpl] at HPL
    unfold pI at HPL
    dsimp only at HPL
    have d0 : decide ((i : Int) < 0) = false := decide_eq_false (by omega)
    have HQR := Lib.hid (fun (Y : World) (hy : Below w.heap.size w Y) => HRL.out Y hy q (List.mem_of_getElem? hq))
    have HQI := Lib.hid (HI.out.all q (List.mem_of_getElem? hq))
    have HLM := Lib.hid (show ∀ q ∈ L, q.1.exts.length ≤ 1000000 ∧ q.1.refs.length ≤ 1000000 from fun q hq => may_len (hV.2.1 q.1 (List.mem_map.2 ⟨q, hq, rfl⟩)))
    have HWI := Lib.hid (fun (Y : World) (hy : Below W.heap.size W Y) => HWO.out Y hy (by omega) HLM.out i q hq)
    clear hV hpl hb0 hq hk hc HF HWO hjo
    have HR := Lib.hid HR0.out
    go_enter Tryz.func21, Tryz.ntmps21
    go_upto_region 1 with fail
    rw [HW.out]
    go_upto_region 7 with (first
      | (go_at_call 11; ((with_reducible refine HCH.out.mono ?_); rintro e w5 ⟨rfl, hb⟩); have A5 := Lib.hid (show Below W.heap.size W w5 from hb); clear hb)
      | (go_at_call 44; ((with_reducible refine (HJB.out _).mono ?_); rintro e w4 ⟨rfl, rfl⟩))
      | (go_at_call 56; ((with_reducible refine (HNA.out _).mono ?_); rintro e w4 ⟨rfl, rfl⟩))
      | (go_at_call 45; ((with_reducible refine (HPL.out _ A5.out).mono ?_); rintro e w6 ⟨rfl, hb⟩); have A6 := Lib.hid (show Below W.heap.size W w6 from A5.out.trans (hb.mono A5.out.size)); clear hb)
      | (go_at_call 52; ((with_reducible refine (HWI.out _ A6.out).mono ?_); rintro e w8 ⟨v8, M8, u8, rfl, hm8, ho8, he8, hr8, hb⟩); have A8 := Lib.hid (show Below W.heap.size W w8 from A6.out.trans (hb.mono A6.out.size)); have M8' := Lib.hid (And.intro hm8 (And.intro (ho8.mono A6.out.size) (And.intro (he8.mono A6.out.size) (show OutI W.heap.size w8 u8.r q.1.refs from ApC.mono hr8 A6.out.size)))); clear hm8 ho8 he8 hr8 hb; have R8 := Lib.hid (show RB w8 q.1 u8 from ⟨M8'.out.2.2.1.rdc, OutI.ri M8'.out.2.2.2⟩); unfold bV)
      | (refine wpList_store_row rfl _ _ _ rfl w8.heap.size (bcs q.1 u8) rfl rfl _ _ (BoxA.new w8 _ _) (by kernel_rfl) rfl (bcs_all R8.out) ?_))
    obtain ⟨w9, hw9, hk9, hb9⟩ := box_endB w8 #[.int .i64 0, .string { data := #[] }, .string { data := #[] }, .string { data := #[] }, .bool false, .slice none 0 0, .slice none 0 0] (bcs q.1 u8) 26
    rw [hw9]
    have A9 := Lib.hid (A8.out.trans (hb9.mono A8.out.size))
    have HO9 := Lib.hid (M8'.out.2.1.next hb9)
    have HE9 := Lib.hid (M8'.out.2.2.1.next hb9)
    have HR9 := Lib.hid (OutI.next M8'.out.2.2.2 hb9)
    have HRB := Lib.hid (R8.out.next hb9)
    have HK9 := Lib.hid (show BufB w9 w8.heap.size q.1 u8 from hk9)
    have HS9 := Lib.hid (show w8.heap.size ≠ w.heap.size by have := HSZ.out; have := A8.out.size; omega)
    have HD9 := Lib.hid (show Below W.heap.size W w9.drew from Below.drew A9.out)
    clear hw9 hk9 hb9
    obtain ⟨k8, hk8⟩ : ∃ k8, w8.heap.size = k8 := ⟨_, rfl⟩
    rw [hk8] at HK9 HS9 ⊢
    clear hk8
    refine wp_region_held_drew (S := (fun Y => BufB Y k8 q.1 u8)) (by kernel_rfl) (by exact (show BufB w9.drew k8 q.1 u8 from HK9.out)) (fun hHeld => ?_)
    refine wpAnyH_take (i := 0) (v := ?_) (ata at0) (by kernel_rfl) (by kernel_rfl) (by kernel_rfl) (fun _ _ _ h => h) (Or.inl ⟨by rfl, ?_⟩) (by assumption) ?_
    rotate_left
    · (intro w hSw; (try dsimp only at hSw); go_simp; (first | done | with_reducible rfl))
    try simp only [Act.put, List.setIfInBounds_toArray, List.set_cons_zero, List.set_cons_succ]
    refine wpAnyH_take (i := 1) (v := .agg (bcs q.1 u8)) (ata (atS at0)) (by kernel_rfl) (by kernel_rfl) (by kernel_rfl) (fun _ _ _ h => h) (Or.inl ⟨by rfl, ?_⟩) (by assumption) ?_
    · intro X hX; exact load_box _ rfl _ rfl (hX)
    try simp only [Act.put, List.setIfInBounds_toArray, List.set_cons_zero, List.set_cons_succ]
    refine wpAnyH_take (i := 2) (v := ?_) (ata (atS (atS at0))) (by kernel_rfl) (by kernel_rfl) (by kernel_rfl) (fun _ _ _ h => h) (Or.inl ⟨by rfl, ?_⟩) (by assumption) ?_
    rotate_left
    · (intro w hSw; (try dsimp only at hSw); go_simp; (first | done | with_reducible rfl))
    try simp only [Act.put, List.setIfInBounds_toArray, List.set_cons_zero, List.set_cons_succ]
    refine wpAnyH_ready (rs := [3]) (by kernel_rfl) (by simp) ?_
    refine AllReadyH.cons (ata (atS (atS (atS at0)))) (fun K hK => ?_) AllReadyH.nil
    refine wp_store_row _ _ _ rfl w.heap.size (bcs q.1 u8) rfl rfl 26 #[.int .i64 0, .string { data := #[] }, .string { data := #[] }, .string { data := #[] }, .bool false, .slice none 0 0, .slice none 0 0] (HBX.out _ HD9.out) (by kernel_rfl) rfl (bcs_all (HRB.out.next (drew_lowB _))) ?_
    refine hK.out _ _ (by exact (setRow_other _ _ _ _ HS9.out).trans (show BufB w9.drew k8 q.1 u8 from HK9.out)) (fun hHeld => ?_)
    clear hK K
    try simp only [Act.put, List.setIfInBounds_toArray, List.set_cons_zero, List.set_cons_succ]
    refine wpAnyH_take (i := 4) (v := ?_) (ata (atS (atS (atS (atS at0))))) (by kernel_rfl) (by kernel_rfl) (by kernel_rfl) (fun _ _ _ h => h) (Or.inl ⟨by rfl, ?_⟩) (by assumption) ?_
    rotate_left
    · (intro w hSw; (try dsimp only at hSw); go_simp; (first | done | with_reducible rfl))
    try simp only [Act.put, List.setIfInBounds_toArray, List.set_cons_zero, List.set_cons_succ]
    refine wpAnyH_done (by kernel_rfl) ?_ _
    go_wp2
    rw [HR.out]
    refine bodyPost_ret (v := .tuple #[v8, .agg (bcs q.1 u8), .int .i64 0]) (res_tct (p := 5) (u := 4) (v := 6) rfl _ _ w.heap.size _ (bcs q.1 u8) _ _ rfl (setRow_heap _ _ _ _ _ _ (HBX.out _ HD9.out)) Tryz.underlying26 rfl (by kernel_rfl)) rfl ?_
    have hfin := below_setRow (HFIN.out _ HD9.out) (Nat.le_refl _) (bcs q.1 u8)
    have hlt := HSZ.out
    refine ⟨v8, M8, u8, rfl, M8'.out.1, ((HO9.out.next (drew_lowB w9)).setR hlt _).mono (Nat.le_of_lt hlt), ⟨?_, fun x hx => ?_⟩, ⟨.inr (((HE9.out.next (drew_lowB w9)).setR hlt _).mono (Nat.le_of_lt hlt)), .inr (ApC.mono (ApC.setR (OutI.next HR9.out (drew_lowB w9)) hlt _) (Nat.le_of_lt hlt))⟩, HQI.out, cb_own HE9.out HR9.out, hfin⟩
    · have h1 := congrArg List.length M8'.out.1
      rw [List.length_map] at h1
      have h2 := List.length_eraseIdx_le (L.map Prod.fst) i
      rw [List.length_map, HN.out] at h2
      omega
    · have h1 : x.1 ∈ (L.map Prod.fst).eraseIdx i := by rw [← M8'.out.1]; exact List.mem_map.2 ⟨x, hx, rfl⟩
      obtain ⟨y, hy, h2⟩ := List.mem_map.1 (mem_of_erase h1)
      rw [← h2]
      exact HI.out.all y hy
end Go.Proofs.YtkjffoebcblpoaaGreat.gn
end
