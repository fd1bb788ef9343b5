/- Rows of uses turned in place; slices.DeleteFunc; the program's Unref. (Written by gen_bvR.py.) -/
import Derived.Test.YtkjffoebcblpoaaGreatMBvQ
import Derived.Sort.OwnSortedInts
section
set_option linter.unusedVariables false
set_option linter.unusedSimpArgs false
set_option maxRecDepth 100000
namespace Go.Proofs.YtkjffoebcblpoaaGreat.gn
open Go.RowKit Go.Shelf
open Go.Proofs.YtkjffoebcblpoaaGreat.bu (Bf May Valid unref unrefS jobOk)

/-- Where a row of uses was turned: that row alone, or nothing that was there. -/
def RowG (base : Nat) (W : World) (v : Value) (w' : World) : Prop := (∃ n cs, W.ownsRow base 2 1 v n cs ∧ (¬ ∃ p, v = .slice p 0 0) ∧ W.grownBy w' v.ownBlock) ∨ Below W.heap.size W w'
theorem RowG.low {base : Nat} {W w' : World} {v : Value} (h : RowG base W v w') (hb : base ≤ W.heap.size) : Below base W w' := by
  rcases h with ⟨n, cs, h1, _, h2⟩ | h
  · exact (Below.refl _ W).grown h2 hb fun k hk => (World.ownsRow.lt h1 k hk).1
  · exact h.mono hb
theorem ApC.rowG {base base2 size2 : Nat} {W w' : World} {t2 : TypeId} (hne : 2 ≠ t2) {v u : Value} {m : Nat} {ys : List Value} (h : ApC base2 t2 size2 W u m ys) (hg : RowG base W v w') : ApC base2 t2 size2 w' u m ys := by
  rcases hg with ⟨n, cs, h1, _, h2⟩ | h1
  · exact h.grownT hne h1 h2
  · exact h.next h1
theorem OutI.flat {base : Nat} {W w' : World} {p : Option Addr} {l : List Int} (h : OutI base W (.slice p 0 0) l) : OutI base w' (.slice p 0 0) l := by
  obtain ⟨p', c', e, _⟩ := ApC.form h
  simp only [Value.slice.injEq] at e
  exact .inl ⟨p, rfl, e.2.1.symm, by rw [List.eq_nil_of_length_eq_zero e.2.1.symm]; rfl⟩
theorem OutI.rowG {base base2 : Nat} {W w' : World} {v u : Value} {l : List Int} (h : OutI base2 W u l) (hn : NeR v u) (hg : RowG base W v w') : OutI base2 w' u l := by
  rcases hg with ⟨n, cs, h1, h3, h2⟩ | h1
  · rcases hn with hn | ⟨p, rfl⟩ | hn
    · exact absurd hn h3
    · exact h.flat
    · rcases h with h | h
      · exact .inl h
      · refine .inr (World.ownsRow.kept h h2 ?_)
        cases hu : u.ownBlock with
        | none => exact .inl rfl
        | some g => exact .inr fun e => hn g e.symm hu
  · exact OutI.next h h1
theorem Own.setRefs {base g c n : Nat} {W w6 : World} {M : List (Bf × Gb)} (h : Own base W (.slice (some ⟨g, 0, none⟩) n c) M) {i : Nat} {q : Bf × Gb} (hq : M[i]? = some q) (hne : ∀ j p, j ≠ i → M[j]? = some p → NeR q.2.r p.2.r) (hg : RowG base W q.2.r w6) {u : Value} {l : List Int} (hu : OutI base w6 u l) (hb : base ≤ W.heap.size) :
    Own base (w6.setCell ⟨g, i * 7 + 6, none⟩ u) (.slice (some ⟨g, 0, none⟩) n c) (M.set i (({ q.1 with refs := l } : Bf), (⟨q.2.e, u⟩ : Gb))) ∧ Below base W (w6.setCell ⟨g, i * 7 + 6, none⟩ u) := by
  have hi := (List.getElem?_eq_some_iff.1 hq).1
  have h6 : OutS base w6 (.slice (some ⟨g, 0, none⟩) n c) M := ⟨h.row.row.rowG (by decide) hg⟩
  obtain ⟨g', c', hv, ho⟩ := h6.own (ne_of_at hq)
  simp only [Value.slice.injEq, Option.some.injEq, Addr.mk.injEq, and_true, true_and] at hv
  obtain ⟨rfl, rfl, rfl⟩ := hv
  obtain ⟨hs, hgb⟩ := World.ownsRow.stored ho (i * 7 + 6) u
  rw [← bcl_set M i q l u hq] at hs
  have hgg : base ≤ g := (World.ownsRow.lt ho g rfl).1
  refine ⟨⟨⟨?_⟩, fun p hp => ?_, fun p hp => ?_⟩, (hg.low hb).grown hgb (Nat.le_trans hb (hg.low hb).size) (fun k hk => by cases hk; exact hgg)⟩
  · rw [List.length_set]
    exact .inr hs
  · obtain ⟨j, hj, rfl⟩ := List.getElem_of_mem hp
    rw [List.length_set] at hj
    by_cases hji : j = i
    · subst hji
      rw [List.getElem_set_self]
      exact ApC.grownT (by decide) ((h.e q (List.mem_of_getElem? hq)).rowG (by decide) hg) ho hgb
    · rw [List.getElem_set_ne (fun e => hji e.symm)]
      exact ApC.grownT (by decide) ((h.e _ (List.getElem_mem hj)).rowG (by decide) hg) ho hgb
  · obtain ⟨j, hj, rfl⟩ := List.getElem_of_mem hp
    rw [List.length_set] at hj
    by_cases hji : j = i
    · subst hji
      rw [List.getElem_set_self]
      exact ApC.grownT (by decide) hu ho hgb
    · rw [List.getElem_set_ne (fun e => hji e.symm)]
      exact ApC.grownT (by decide) (OutI.rowG (h.r _ (List.getElem_mem hj)) (hne j _ hji (List.getElem?_eq_getElem hj)) hg) ho hgb

/-! ### DeleteFunc at numbers -/
theorem unref1_any (W : World) (k : Nat) (job n : Int) (hk : W.cell? ⟨k, 0, none⟩ = some (.int .i64 job)) : FnGives Tryz.prog 51 #[.pointer (some ⟨k, 0, none⟩)] #[.int .i64 n] (.bool (n == job)) W := by
  show Calls Tryz.prog 51 #[.int .i64 n, .pointer (some ⟨k, 0, none⟩)] W _
  generalize hb : (n == job) = b
  have HB := Lib.hid hb
  go_enter Tryz.func51, Tryz.ntmps51
  go_wp2
  go_ret
  exact ⟨rfl, 0, rfl⟩
theorem own_prefixT {w : World} {base g n cap k size : Nat} {e : TypeId} {xs : List Value} (h : w.ownsRow base e size (.slice (some ⟨g, 0, none⟩) n cap) n xs) (hk : k ≤ n) :
    w.ownsRow base e size (.slice (some ⟨g, 0, none⟩) k cap) k (xs.take (k * size)) := by
  have hks : k * size ≤ n * size := Nat.mul_le_mul_right _ hk
  obtain ⟨h1, ⟨h2, _⟩ | ⟨g', cap', cur, h2, hb, hg, hn, hm, hcs, ht⟩⟩ := h
  · cases h2
  · cases h2
    refine ⟨by rw [List.length_take, h1]; omega, .inr ⟨g, cap, cur, rfl, hb, hg, by omega, hm, hcs, ?_⟩⟩
    rw [← ht, List.take_take]
    congr 1
    omega
/-- What DeleteFunc tells of a row of the call's own. -/
def DelT (base : Nat) (W : World) (v : Value) (l : List Int) (en : Ending) (w' : World) : Prop := ∃ u, en = .returned u ∧ OutI base w' u l ∧ RowG base W v w' ∧ u.ownBlock = v.ownBlock ∧ ((∃ p, v = .slice p 0 0) → ∃ p, u = .slice p 0 0)
theorem delI_any {base : Nat} {w : World} {v : Value} {l : List Int} (h : OutI base w v l) (k : Nat) (job : Int) (hk : w.cell? ⟨k, 0, none⟩ = some (.int .i64 job)) (hkb : k < base) (hl : l.length ≤ 1000000) :
    Calls Tryz.prog 50 #[v, .func (.func 51) #[] #[.pointer (some ⟨k, 0, none⟩)]] w (DelT base w v (l.filter fun r => decide (r ≠ job))) := by
  by_cases h0 : l = []
  · subst h0
    obtain ⟨p, c, hv, -⟩ := ApC.form h
    have he := AnyE.slices_IndexFunc_empty (P := Tryz.prog) (ρ := layDelI_ren) { layDelI with } p c (.func (.func 51) #[] #[.pointer (some ⟨k, 0, none⟩)])
    have HE := Lib.hid (fun (W : World) => (show Calls Tryz.prog 79 #[.slice p 0 c, .func (.func 51) #[] #[.pointer (some ⟨k, 0, none⟩)]] W fun e w' => e = .returned (.int .i64 (-1)) ∧ w' = W from he W))
    have HH := Lib.hid h
    subst hv
    clear h he hl hk
    show Calls _ _ #[.slice p 0 c, .func (.func 51) #[] #[.pointer (some ⟨k, 0, none⟩)]] w _
    go_enter Tryz.func50, Tryz.ntmps50
    go_wp2_with (go_at_call 79; ((with_reducible refine (HE.out _).mono ?_); rintro e w5 ⟨rfl, rfl⟩))
    go_ret
    exact ⟨_, rfl, HH.out, .inr (Below.refl _ _), rfl, fun ⟨p', hp⟩ => ⟨p', hp⟩⟩
  · have hpos : 0 < l.length := List.length_pos_iff.2 h0
    rcases h with ⟨p, rfl, hn, _⟩ | h
    · omega
    · have ho := h
      obtain ⟨h1, ⟨_, h2⟩ | ⟨g, cap, cur, rfl, hb, hg, hle, hcm, hcs, htk⟩⟩ := h
      · omega
      · have hg1 : k ≠ g := by omega
        have hgl : g < w.heap.size := (Array.getElem?_eq_some_iff.1 hg).1
        have htk2 : cur.toList.take l.length = l.map (Value.int .i64) := by rw [Nat.mul_one] at htk; exact htk
        have := AnyE.slices_DeleteFunc layDelI (Value.int .i64) (fun _ => rfl) (fun n => n == job) 51 #[.pointer (some ⟨k, 0, none⟩)] (enters_of Tryz.func51 (by kernel_rfl) rfl) 0 Tryz.zeroValue2 g 0 cap l.toArray w
          (fun Y n hY => unref1_any Y k job n ((low_cell hY (lt_cellB hk)).trans hk))
          (fun n os dk x _ => unref1_any _ k job x (by
            unfold sortWorld
            rw [Go.Sort.cell?_grow _ _ _ (by show k < (Go.Sort.putRow _ _ _ _ _).heap.size; rw [Go.Sort.size_putRow]; exact lt_cellB hk), Go.Sort.cell?_putRow_other _ _ g 0 _ _ (Or.inl hg1)]
            exact hk))
          (holds_of_blockI hg htk2) (by simp; omega) (by simpa using hle)
        rw [List.size_toArray] at this
        have hfe : (l.filter fun x => !(x == job)) = l.filter fun r => decide (r ≠ job) := by
          congr 1
          funext x
          rw [Bool.eq_iff_iff]
          simp
        simp only [hfe] at this
        refine Calls.mono (f := 50) this ?_
        rintro e w' ⟨rfl, q, rfl⟩
        have hfl : (l.filter fun r => decide (r ≠ job)).length ≤ l.length := List.length_filter_le _ _
        obtain ⟨f, hf⟩ : ∃ f, (l.filter fun r => decide (r ≠ job)) = f := ⟨_, rfl⟩
        rw [hf] at hfl ⊢
        have hrow := ownsRow_sortedI (w := w) (base := base) (g := g) (cap := cap) (n := q) (e := 2) (os := #[]) (cur := cur) (ss := l) (ts := f ++ List.replicate (l.length - f.length) 0) (by simp; omega) hb hg hle hcm hcs
        have hgr := grownBy_sortedI (w := w) (g := g) (n := q) (os := #[]) ((f ++ List.replicate (l.length - f.length) 0).toArray)
        rw [Go.Sort.grow_empty] at hrow hgr
        have hpre := own_prefixT hrow hfl
        rw [Nat.mul_one, List.map_append, List.take_append_of_le_length (by simp), List.take_of_length_le (by simp)] at hpre
        exact ⟨_, rfl, .inr hpre, .inl ⟨_, _, ho, (fun ⟨p, hp⟩ => by simp only [Value.slice.injEq] at hp; omega), hgr⟩, rfl, fun ⟨p, hp⟩ => by simp only [Value.slice.injEq] at hp; omega⟩

theorem slice3 {base : Nat} {e : TypeId} {size : Nat} {w : World} {v : Value} {n : Nat} {cs : List Value} (h : ApC base e size w v n cs) : ∃ p m c, v = .slice p m c := by
  obtain ⟨p, c, rfl, -⟩ := h.form
  exact ⟨p, n, c, rfl⟩
/-- The cell of a buffer's uses in a row of the call's own: it may be written. -/
theorem row_cell {base g c n : Nat} {W : World} {M : List (Bf × Gb)} (h : ApC base 26 7 W (.slice (some ⟨g, 0, none⟩) n c) n (bcl M)) {i : Nat} {q : Bf × Gb} (hq : M[i]? = some q) : W.cell? ⟨g, i * 7 + 6, none⟩ = some q.2.r ∧ W.frozen? ⟨g, i * 7 + 6, none⟩ = false ∧ g < W.heap.size := by
  rcases h with ⟨p, _, hn, he⟩ | h
  · have := bcl_at M i q hq 6 _ (by omega) rfl
    rw [he] at this
    simp at this
  · have := World.ownsRow.cells h rfl _ _ (bcl_at M i q hq 6 _ (by omega) rfl)
    rw [Addr.add_lit, Nat.zero_add] at this
    exact ⟨this, h.frozenAt _, (World.ownsRow.lt h g rfl).2⟩
/-! ### Unref -/
/-- Where Unref stands. -/
structure UrW (l : List Bf) (job : Int) (base : Nat) (W0 : World) (i : Nat) (M : List (Bf × Gb)) (v : Value) (Y : World) : Prop where
  eq : M.map Prod.fst = (l.take i).map (unref job) ++ l.drop i
  own : Own base Y v M
  ne : NeM M M.length
  low : Below base W0 Y
theorem UrW.len {l : List Bf} {job : Int} {base : Nat} {W0 : World} {i : Nat} {M : List (Bf × Gb)} {v : Value} {Y : World} (h : UrW l job base W0 i M v Y) : M.length = l.length := by
  have := congrArg List.length h.eq
  rw [List.length_map, List.length_append, List.length_map, List.length_take, List.length_drop] at this
  omega
theorem UrW.at {l : List Bf} {job : Int} {base : Nat} {W0 : World} {i : Nat} {M : List (Bf × Gb)} {v : Value} {Y : World} (h : UrW l job base W0 i M v Y) {q : Bf × Gb} (hq : M[i]? = some q) : l[i]? = some q.1 := by
  have hi := (List.getElem?_eq_some_iff.1 hq).1
  rw [h.len] at hi
  have := fst_at hq
  rw [h.eq, List.getElem?_append_right (by rw [List.length_map, List.length_take]; omega)] at this
  rw [List.length_map, List.length_take, show i - min i l.length = 0 by omega, List.getElem?_drop] at this
  simpa using this
theorem NeR.same {v u x : Value} (h : NeR v x) (h1 : u.ownBlock = v.ownBlock) (h2 : (∃ p, v = .slice p 0 0) → ∃ p, u = .slice p 0 0) : NeR u x := by
  rcases h with h | h | h
  · exact .inl (h2 h)
  · exact .inr (.inl h)
  · exact .inr (.inr fun g hg => h g (by rw [← h1]; exact hg))
theorem NeM.at {M : List (Bf × Gb)} {n : Nat} (h : NeM M n) (hn : M.length ≤ n) {i j : Nat} {q p : Bf × Gb} (hq : M[i]? = some q) (hp : M[j]? = some p) (hne : j ≠ i) : NeR q.2.r p.2.r := by
  have hi := (List.getElem?_eq_some_iff.1 hq).1
  have hj := (List.getElem?_eq_some_iff.1 hp).1
  rcases Nat.lt_or_gt_of_ne hne with h1 | h1
  · exact (h j i p q h1 (by omega) hp hq).symm
  · exact h i j q p h1 (by omega) hq hp
theorem UrW.step {l : List Bf} {job : Int} {base g c n : Nat} {W0 : World} {i : Nat} {M : List (Bf × Gb)} {Y Y1 w6 : World} (h : UrW l job base W0 i M (.slice (some ⟨g, 0, none⟩) n c) Y) {q : Bf × Gb} (hq : M[i]? = some q) (h1 : Below Y.heap.size Y Y1) (hb : base ≤ Y.heap.size) {u : Value}
    (hd : OutI base w6 u (unref job q.1).refs) (hg : RowG base Y1 q.2.r w6) (hub : u.ownBlock = q.2.r.ownBlock) (huz : (∃ p, q.2.r = .slice p 0 0) → ∃ p, u = .slice p 0 0) :
    UrW l job base W0 (i + 1) (M.set i (unref job q.1, (⟨q.2.e, u⟩ : Gb))) (.slice (some ⟨g, 0, none⟩) n c) (w6.setCell ⟨g, i * 7 + 6, none⟩ u) := by
  have hi := (List.getElem?_eq_some_iff.1 hq).1
  have hlt : i < l.length := by rw [← h.len]; exact hi
  obtain ⟨ho, hl⟩ := (h.own.next h1).setRefs hq (fun j p hj hp => h.ne.at (Nat.le_refl _) hq hp hj) hg hd (Nat.le_trans hb h1.size)
  refine ⟨?_, ho, ?_, (h.low.trans (h1.mono hb)).trans hl⟩
  · have ha := h.at hq
    obtain ⟨_, hae⟩ := List.getElem?_eq_some_iff.1 ha
    rw [List.map_set, h.eq, List.set_append_right _ _ (by rw [List.length_map, List.length_take]; omega), List.length_map, List.length_take, show i - min i l.length = 0 by omega, List.drop_eq_getElem_cons hlt, List.set_cons_zero, List.take_add_one, ha, Option.toList_some, List.map_append, List.append_assoc]
    rfl
  · intro j k p p' hjk hk hp hp'
    rw [List.length_set] at hk
    by_cases hji : j = i
    · subst hji
      rw [List.getElem?_set_self hi] at hp
      rw [List.getElem?_set_ne (by omega)] at hp'
      cases hp
      exact (h.ne.at (Nat.le_refl _) hq hp' (by omega)).same hub huz
    · rw [List.getElem?_set_ne (fun e => hji e.symm)] at hp
      by_cases hki : k = i
      · subst hki
        rw [List.getElem?_set_self hi] at hp'
        cases hp'
        exact ((h.ne.at (Nat.le_refl _) hq hp hji).same hub huz).symm
      · rw [List.getElem?_set_ne (fun e => hki e.symm)] at hp'
        exact h.ne j k p p' hjk hk hp hp'
set_option maxHeartbeats 6400000 in
theorem punref_any {w : World} {v : Value} {L : List (Bf × Gb)} (h : RBs w v L) (hI : BIs L) (job : Int) :
    Calls Tryz.prog 16 #[v, .int .i64 job] w (RowP w (unrefS (L.map Prod.fst) job).1 (unrefS (L.map Prod.fst) job).2) := by
  obtain ⟨W, hW⟩ : ∃ W, w.alloc (.cells #[.int .i64 job] 2) = W := ⟨_, rfl⟩
  have hbx : BoxA W w.heap.size 2 #[.int .i64 job] := by rw [← hW]; exact BoxA.new _ _ _
  have hl : Below w.heap.size w W := by rw [← hW]; exact (Below.refl _ _).alloc (Nat.le_refl _) _
  have HCH := Lib.hid (pcheck_any (h.next hl) hI)
  have HJB := Lib.hid (fun (Y : World) => number_any job Y)
  have HBX := Lib.hid (fun (Y : World) (hY : Below W.heap.size W Y) => (show BoxA Y w.heap.size 2 #[.int .i64 job] from BoxA.next hbx hY))
  have HCO := Lib.hid (fun (hl2 : L.length ≤ 1000) (hx : ∀ q ∈ L, q.1.exts.length ≤ 1000000 ∧ q.1.refs.length ≤ 1000000) (Y : World) (hy : Below W.heap.size W Y) => copies2_any ((h.next hl).next hy) hl2 hx)
  have HFI := Lib.hid (fun (Y : World) (hy : Below W.heap.size W Y) => hl.trans (hy.mono hl.size))
  obtain ⟨p, c, rfl, -⟩ := h.form
  obtain ⟨n, hn⟩ : ∃ n, L.length = n := ⟨_, rfl⟩
  have HN := Lib.hid hn
  have HI := Lib.hid hI
  have HW := Lib.hid hW
  have HLT := Lib.hid (BoxA.lt hbx)
  rw [hn] at HCH HCO ⊢
  have ck := fun (Y : World) (hY : Below W.heap.size W Y) => (BoxA.cell (HBX.out Y hY) 0 _ rfl : Y.cell? ⟨w.heap.size, 0, none⟩ = some (.int .i64 job))
  have CK := Lib.hid ck
  clear h hI hW hbx hl hn ck
  by_cases hV : Valid (L.map Prod.fst)
  rotate_left
  · have HR := Lib.hid (show unrefS (L.map Prod.fst) job = ([], 170) by unfold bu.unrefS; rw [if_pos fun hh => hV hh.1])
    rw [vE_no hV] at HCH
    clear hV
    go_enter Tryz.func16, Tryz.ntmps16
    go_upto_region 1 with fail
    rw [HW.out]
    go_wp2_with (go_at_call 11; ((with_reducible refine HCH.out.mono ?_); rintro e w5 ⟨rfl, hb⟩); have A5 := Lib.hid (show Below W.heap.size W w5 from hb); have ck5 := CK.out _ A5.out; clear hb)
    go_ret2
    rw [HR.out]
    exact rowP_no (HFI.out _ A5.out)
  rw [show vE (L.map Prod.fst) = 0 from if_pos hV] at HCH
  by_cases hjo : jobOk job
  rotate_left
  · have HR := Lib.hid (show unrefS (L.map Prod.fst) job = ([], 170) by unfold bu.unrefS; rw [if_pos fun hh => hjo hh.2])
    rw [decide_eq_false hjo] at HJB
    clear hV hjo
    go_enter Tryz.func16, Tryz.ntmps16
    go_upto_region 1 with fail
    rw [HW.out]
    go_wp2_with (first
      | (go_at_call 11; ((with_reducible refine HCH.out.mono ?_); rintro e w5 ⟨rfl, hb⟩); have A5 := Lib.hid (show Below W.heap.size W w5 from hb); have ck5 := CK.out _ A5.out; clear hb)
      | (go_at_call 44; ((with_reducible refine (HJB.out _).mono ?_); rintro e w4 ⟨rfl, rfl⟩)))
    go_ret2
    rw [HR.out]
    exact rowP_no (HFI.out _ A5.out)
  rw [decide_eq_true hjo] at HJB
  have HR := Lib.hid (show unrefS (L.map Prod.fst) job = ((L.map Prod.fst).map (unref job), 0) by unfold bu.unrefS; rw [if_neg (not_not_intro ⟨hV, hjo⟩)])
  have HV := Lib.hid hV
  have hn200 : n ≤ 200 := by
    have := hV.1
    rwa [List.length_map, HN.out] at this
  have HLM := Lib.hid (show ∀ q ∈ L, q.1.exts.length ≤ 1000000 ∧ q.1.refs.length ≤ 1000000 from fun q hq => may_len (hV.2.1 q.1 (List.mem_map.2 ⟨q, hq, rfl⟩)))
  have HC1 := Lib.hid (HCO.out (by omega) HLM.out)
  clear hV hjo HCO
  go_enter Tryz.func16, Tryz.ntmps16
  go_upto_region 1 with fail
  rw [HW.out]
  go_upto_region 4 with (first
    | (go_at_call 11; ((with_reducible refine HCH.out.mono ?_); rintro e w5 ⟨rfl, hb⟩); have A5 := Lib.hid (show Below W.heap.size W w5 from hb); have ck5 := CK.out _ A5.out; clear hb)
    | (go_at_call 44; ((with_reducible refine (HJB.out _).mono ?_); rintro e w4 ⟨rfl, rfl⟩))
    | (go_at_call 34; ((with_reducible refine (HC1.out _ A5.out).mono ?_); rintro e w6 ⟨u6, M6, rfl, hm6, ho6, hn6, hb6⟩); have A6 := Lib.hid (show Below W.heap.size W w6 from A5.out.trans (hb6.mono A5.out.size)); have M6' := Lib.hid (And.intro hm6 (And.intro (ho6.mono A5.out.size) hn6)); clear hm6 ho6 hn6 hb6))
  have HML := Lib.hid (show M6.length = n by have := congrArg List.length M6'.out.1; rw [List.length_map, List.length_map, HN.out] at this; exact this)
  obtain ⟨p6, c6, hv6, -⟩ := ApC.form M6'.out.2.1.row.row
  rw [HML.out] at hv6
  subst hv6
  have HU0 := Lib.hid (show UrW (L.map Prod.fst) job W.heap.size W 0 M6 (.slice p6 n c6) w6 from ⟨by rw [List.take_zero, List.drop_zero]; exact M6'.out.1, M6'.out.2.1, by rw [HML.out]; exact M6'.out.2.2, A6.out⟩)
  go_wp2
  go_loopw [21] (fun s21 wr => ∃ (i : Nat) (M : List (Bf × Gb)), s21 = .int .i64 (i : Nat) ∧ i ≤ n ∧ Aside (UrW (L.map Prod.fst) job W.heap.size W i M (.slice p6 n c6) wr)) (fun s21 _ => n - (intOf s21).toNat)
  case atStart => exact ⟨0, M6, rfl, Nat.zero_le _, HU0.out⟩
  case round =>
    obtain ⟨i, M, rfl, hi, ha⟩ := hrel
    have HA := Lib.hid (show UrW (L.map Prod.fst) job W.heap.size W i M (.slice p6 n c6) wr from ha)
    clear ha
    have HLN := Lib.hid (show M.length = n by rw [HA.out.len, List.length_map, HN.out])
    by_cases hin : i < n
    · obtain ⟨q, hq⟩ : ∃ q, M[i]? = some q := ⟨_, List.getElem?_eq_getElem (by rw [HLN.out]; exact hin)⟩
      obtain ⟨g, c', hv, ho⟩ := HA.out.own.row.own (ne_of_at hq)
      simp only [Value.slice.injEq] at hv
      obtain ⟨rfl, hnm, rfl⟩ := hv
      have HO := Lib.hid (show wr.ownsRow W.heap.size 26 7 (.slice (some ⟨g, 0, none⟩) n c6) n (bcl M) by have := ho; unfold OwnB at this; rwa [HLN.out] at this)
      have HQ := Lib.hid hq
      have HRB := Lib.hid (show RB wr q.1 q.2 from HA.out.own.rbs.rows q (List.mem_of_getElem? hq))
      have HRI := Lib.hid (HA.out.own.r q (List.mem_of_getElem? hq))
      have HRA := Lib.hid (OwnB.range HO.out hq)
      have HBW := Lib.hid HA.out.low
      have lg : g < wr.heap.size := (World.ownsRow.lt HO.out g rfl).2
      have HLQ := Lib.hid (show q.1.refs.length ≤ 1000000 from (may_len (HV.out.2.1 q.1 (List.mem_of_getElem? (HA.out.at hq)))).2)
      clear hq hnm ho
      go_upto_region 7 with (first
        | (refine wpList_load_mid rfl _ _ rfl g (i * 7) (by first | rfl | simp) [.int .i64 q.1.job, .string (str q.1.name), .string (str q.1.user), .string (str q.1.pool), .bool q.1.opn, q.2.e, q.2.r] _ HRA.out Tryz.underlying26 rfl (by kernel_rfl) ?_)
        | (refine wpList_store_row rfl _ _ _ rfl wr.heap.size (bcs q.1 q.2) rfl rfl _ _ (BoxA.new wr _ _) (by kernel_rfl) rfl (bcs_all HRB.out) ?_))
      obtain ⟨W1, hW1, hkW1, hbW1⟩ := box_endB wr #[.int .i64 0, .string { data := #[] }, .string { data := #[] }, .string { data := #[] }, .bool false, .slice none 0 0, .slice none 0 0] (bcs q.1 q.2) 26
      rw [hW1]
      have HKW := Lib.hid (show BufB W1 wr.heap.size q.1 q.2 from hkW1)
      have HBX1 := Lib.hid hbW1
      have HWL := Lib.hid (HBW.out.trans (HBX1.out.mono HBW.out.size))
      have HDE := Lib.hid (delI_any (OutI.next HRI.out HBX1.out) w.heap.size job (CK.out _ HWL.out) HLT.out HLQ.out)
      have ck1 := CK.out _ HWL.out
      have cr := HKW.out.cells.2.2.2.2.2.2.1
      have lg1 : g < W1.heap.size := Nat.lt_of_lt_of_le lg HBX1.out.size
      clear hW1 hkW1 hbW1 lg
      try simp only [Act.put]
      have ii : (0 : Int) ≤ (i : Int) := by omega
      have ij : (i : Int) < (n : Int) := by omega
      go_upto_region 8 with (go_at_call 50; ((with_reducible refine HDE.out.mono ?_); rintro e w7 ⟨u, rfl, hu7, hg7, hb7, hz7⟩; obtain ⟨pu, nu, cu, rfl⟩ := slice3 hu7; have D7 := Lib.hid (And.intro hu7 (And.intro hg7 (And.intro hb7 hz7))); have HO7 := Lib.hid (ApC.rowG (by decide) (show ApC W.heap.size 26 7 W1 (.slice (some ⟨g, 0, none⟩) n c6) n (bcl M) from .inr (World.ownsRow.kept HO.out (grown_new HBX1.out) (.inr (by simp [Value.ownBlock])))) hg7); clear hu7 hg7 hb7 hz7; obtain ⟨x6, f6, l6⟩ := row_cell HO7.out HQ.out))
      have HST := Lib.hid (HA.out.step HQ.out HBX1.out HBW.out.size D7.out.1 D7.out.2.1 D7.out.2.2.1 D7.out.2.2.2)
      go_wp2
      go_roundw
      case rel => exact ⟨i + 1, _, by go_num, by omega, HST.out⟩
      case measure => simp [intOf]; omega
    · obtain rfl : i = n := by omega
      have HEQ := Lib.hid (show M.map Prod.fst = (L.map Prod.fst).map (unref job) by
        have := HA.out.eq
        rw [List.take_of_length_le (by rw [List.length_map, HN.out]; exact Nat.le_refl _), List.drop_of_length_le (by rw [List.length_map, HN.out]; exact Nat.le_refl _), List.append_nil] at this
        exact this)
      go_wp2
      go_ret2
      refine ⟨_, M, by rw [HR.out]; rfl, by rw [HR.out]; exact HEQ.out, HA.out.own.mono (Nat.le_of_lt HLT.out), ⟨by rw [HLN.out]; omega, fun x hx => ?_⟩, HFI.out _ HA.out.low⟩
      have h1 : x.1 ∈ (L.map Prod.fst).map (unref job) := by rw [← HEQ.out]; exact List.mem_map.2 ⟨x, hx, rfl⟩
      obtain ⟨y, hy, h2⟩ := List.mem_map.1 h1
      obtain ⟨z, hz, h3⟩ := List.mem_map.1 hy
      rw [← h2, ← h3]
      exact bi_unref (HI.out.all z hz) job
end Go.Proofs.YtkjffoebcblpoaaGreat.gn
end
