/- The contract of a table's copy: undamaged files of the same bytes, in new blocks; nothing that was there has turned. -/
import Derived.Test.YtmaohncddjhgeaaGreatMFiE
import Derived.Deep.LoopGhost
section
set_option linter.unusedVariables false
namespace Go.Proofs.YtmaohncddjhgeaaGreat.gn
open Go.RowKit
open Go.Proofs.YtmaohncddjhgeaaGreat.fi

theorem dat_inj {L L' : List (Nm × Nat)} (h : dat L = dat L') : L = L' := by
  have h1 : datL L = datL L' := by simpa [dat] using h
  unfold datL at h1
  exact List.map_inj_right (f := fun p : Nm × Nat => (Lit.string p.1, (DataW.lit (.int .i64 (p.2 : Int)) : DataW Unit))) (fun x y hxy => by
    obtain ⟨x1, x2⟩ := x
    obtain ⟨y1, y2⟩ := y
    simp at hxy
    obtain ⟨rfl, h2⟩ := hxy
    obtain rfl : x2 = y2 := by omega
    rfl) |>.1 h1
theorem Tab.uniq {w : World} {b : Nat} {L L' : List (Nm × Nat)} (h : Tab w b L) (h' : Tab w b L') : L = L' := by
  obtain ⟨_, es, c, hb, _, _, hD⟩ := h
  obtain ⟨_, es', c', hb', _, _, hD'⟩ := h'
  rw [hb] at hb'
  cases hb'
  exact dat_inj (hD.trans hD'.symm)

/-- The step of a range over a table. -/
theorem wpList_next_tab (w : World) {ops : Array Oper} {rest : List Oper} {o : Oper} {a : Act} {Q : Exit → Act → World → Prop} (hg : o.guard = none) (it : Operand) (hop : o.op = Op.next it false)
    (b r n : Nat) (L : List (Nm × Nat)) (left : Lit → Bool) (cnt : Nat) (hit : a.eval it = .pointer (some ⟨r, 0, none⟩)) (h : w.ranges Tryz.prog 9 ptrR b r n (dat L) left cnt)
    (hDone : cnt = 0 → (∀ kl, left kl = false) → wpList Tryz.prog ops Q rest (a.put o.dst (.tuple #[.bool false])) w)
    (hMore : ∀ (k : Nm) (p : Nat) (w' : World) (cnt' : Nat), fi.get k L = some p → left (.string k) = true → w'.ranges Tryz.prog 9 ptrR b r n (dat L) (fun z => left z && !z.sameKey (.string k)) cnt' → cnt' < cnt →
      w.grownBy w' (some r) → w'.heap.size = w.heap.size → (Instr.entry (.pointer (some ⟨r, 0, none⟩))).run Tryz.prog w' = .ok (.tuple #[.string (str k), .pointer (some ⟨p, 0, none⟩)]) w' →
      wpList Tryz.prog ops Q rest (a.put o.dst (.tuple #[.bool true, .string (str k), .pointer (some ⟨p, 0, none⟩)])) w') :
    wpList Tryz.prog ops Q (o :: rest) a w := by
  refine wpList_plain hg fun K' hK' => ?_
  unfold Oper.wp
  rcases h.next keyLaw o.type with ⟨h0, hl, hrun⟩ | ⟨key, v, kl, y, w', cnt', hkey, hlk, hv, hat, hrun, hrg, hlt, hgr, hsz, hen⟩
  · simp [execOp, hop, hit, hrun, Result.andThen]
    exact hK' _ _ (hDone h0 hl)
  · have hks : ∃ k : Nm, key = .string (str k) ∧ kl = .string k := by
      have hk := hkey
      rw [keyOf_string Tryz.underlying9] at hk
      cases key <;> simp [mapKey, Tryz.underlying9] at hk
      obtain ⟨_, rfl⟩ := hk
      exact ⟨_, by rw [str_of], rfl⟩
    obtain ⟨k, rfl, rfl⟩ := hks
    have h1 := hat .nil
    rw [dat_at] at h1
    have hp : ∃ p, fi.get k L = some p := by
      cases hgk : fi.get k L with
      | some p => exact ⟨p, rfl⟩
      | none =>
        have h2 := hat (.lit (.bool true))
        have h3 : Maps.has (dat L) (.string k) = false := by rw [dat_has, hgk]; rfl
        rw [Go.Maps.atKey_of_not_has h3] at h2
        rw [hgk, ← h2] at h1
        cases h1
    obtain ⟨p, hp⟩ := hp
    rw [hp] at h1
    have hv' : v = .pointer (some ⟨p, 0, none⟩) := ptrR_inv (o := some p) (ps := y.2) (by rw [hv, h1])
    subst hv'
    simp [execOp, hop, hit, hrun, Result.andThen]
    exact hK' _ _ (hMore k p w' cnt' hp hlk hrg hlt hgr hsz hen)

def CpRel (w : World) (X : Nat → Prop) (TT : Nat → Option Tb) (b : Nat) (T : Tb) (L : List (Nm × Nat)) (wr : World) : Prop :=
  ∃ left cnt Tl, wr.ranges Tryz.prog 9 ptrR b (w.heap.size + 1) L.length (dat L) left cnt ∧ SysT wr (ext X w wr) (upd TT w.heap.size Tl) ∧ Tl.length + cnt ≤ L.length ∧
    (∀ k, fi.get k Tl = if left (.string k) then none else fi.get k (strip T)) ∧ Below w.heap.size w wr ∧ w.heap.size + 1 < wr.heap.size

theorem get_strip (k : Nm) (T : Tb) : fi.get k (strip T) = (fi.get k T).map fun f => (f.1, false) := get_map (fun f : Fl => (f.1, false)) k T

set_option maxHeartbeats 8000000 in
set_option maxRecDepth 100000 in
theorem copy_any (w : World) (X : Nat → Prop) (TT : Nat → Option Tb) (b : Nat) (T : Tb) (hS : SysT w X TT) (hT : TT b = some T) (hl : wt T ≤ 1099511627776) :
    Calls Tryz.prog 47 #[.map (some b)] w fun e w' => ∃ b', e = .returned (.map (some b')) ∧ w.heap.size ≤ b' ∧ SysT w' (ext X w w') (upd TT b' (strip T)) ∧ Below w.heap.size w w' := by
  obtain ⟨G, hG⟩ := hS
  have hlen := hG.len hT
  have hwl := wt_len T
  obtain ⟨L, hL⟩ : ∃ L, L = G.tab b := ⟨_, rfl⟩
  have ht : Tab w b L := by rw [hL]; exact hG.tab hT
  have hbl : b < w.heap.size := (SysT.lt ⟨G, hG⟩ hT).1
  rw [← hL] at hlen
  clear hL
  have hLl : L.length ≤ 1099511627776 := by omega
  have hmade := SysT.made ⟨G, hG⟩
  have hmk : ∀ (n : Int) (W : World), (Instr.makeMap 66 (some (.int .i64 n))).run Tryz.prog W = .ok (.map (some W.heap.size)) (W.alloc (.map #[] 0)) := fun n W => by
    simp [Instr.makeMap, run_underlying Tryz.underlying66]; rfl
  have hown := ht.exact
  have hgetT : ∀ k p, fi.get k L = some p → ∃ f, fi.get k T = some f := fun k p hp => by
    have h1 := hG.get hT k
    rw [ht.uniq (hG.tab hT)] at hp
    exact ⟨_, by rw [h1, hp]; rfl⟩
  have hgetN : ∀ k, fi.get k L = none → fi.get k T = none := fun k hp => by
    rw [hG.get hT k, ← ht.uniq (hG.tab hT), hp]; rfl
  have HT := Lib.hid hT
  have HM := Lib.hid hmade
  have HG1 := Lib.hid hgetT
  have HG2 := Lib.hid hgetN
  have HL := Lib.hid hlen
  have HR : Hid (Rising (strip T)) := rising_map (f := fun f : Fl => (f.1, false)) (SysT.rising ⟨G, hG⟩ hT)
  clear hT hmade hgetT hgetN hlen hG ht hwl
  go_enter Tryz.func47, Tryz.ntmps47
  go_wp2_with (first
    | (at_len; refine wpList_len_own _ rfl _ 66 rfl 9 77 Tryz.underlying66 _ b _ _ rfl hown ?_)
    | (at_range; refine wpList_range_own _ rfl _ 66 rfl 9 77 keyLaw Tryz.underlying66 _ b _ _ rfl (hown.alloc _) ?_; intro w0 hrg0 hg0 hs0))
  go_frame
  have e1 : (w.alloc (.map #[] 0)).heap.size = w.heap.size + 1 := by simp
  rw [e1] at hrg0 hs0 ⊢
  go_loopw [4] (fun _ wr => CpRel w X TT b T L wr) (fun _ wr => wr.rangeLeft b (w.heap.size + 1))
  case atStart =>
    have hb0 : Below w.heap.size w w0 := ((Below.refl _ _).alloc (Nat.le_refl _) _).grown hg0 (by simp) (fun j hj => by cases hj)
    refine ⟨_, _, [], hrg0, ?_, by rw [dat_size]; simp, fun k => ?_, hb0, by omega⟩
    · have h1 := HM.out.below (w' := w0) ⟨hg0.os, hg0.tape, hg0.output, hg0.size, fun k hk => hg0.block k hk (by simp)⟩
      exact h1.more fun i hi => by
        rcases hi with hi | ⟨h2, h3⟩
        · exact .inl hi
        · rw [e1] at h3
          exact .inr ⟨h2, by omega⟩
    · rw [dat_has, get_strip]
      cases hk : fi.get k L with
      | none => rw [HG2.out k hk]; rfl
      | some p => rfl
  case round =>
    obtain ⟨left, cnt, Tl, hrg, hsys, hcnt, hget, hbel, hsz⟩ := hrel
    go_wp2_with (first
      | (at_next; refine wpList_next_tab _ rfl _ rfl b (w.heap.size + 1) L.length L left cnt rfl hrg ?_ ?_))
    · intro hc0 hl0
      go_wp2
      go_ret
      refine ⟨_, rfl, Nat.le_refl _, ?_, hbel⟩
      have : Tl = strip T := rising_ext (hsys.rising (upd_same _ _ _)) HR.out fun k => by rw [hget k, hl0]; rfl
      rw [← this]
      exact hsys
    · intro k p w1 cnt1 hp hlk hrg1 hlt hg1 hs1 hen
      have hbl' : b ≠ w.heap.size := by omega
      have hr : some b ≠ some (w.heap.size + 1) := fun e => by have := Option.some.inj e; omega
      obtain ⟨f, hf⟩ := HG1.out k p hp
      have hkl : k.length ≤ maxLen := (show Tab w1 b L from ⟨_, hrg1.owns⟩).keys _ (get_some hp)
      have hT1 : upd TT w.heap.size Tl b = some T := by rw [upd_other _ _ hbl']; exact HT.out
      have hsys1 : SysT w1.drew (ext X w wr) (upd TT w.heap.size Tl) := hsys.keptT fun i hi _ ht => hg1.block i hi fun e => by
        cases e
        obtain ⟨es, cl, since, seen, c0, _, _, _, _, hit, _⟩ := hrg
        rcases ht with ⟨_, _, he⟩ | ⟨_, he⟩ | ⟨_, he⟩ <;> rw [hit] at he <;> cases he
      obtain ⟨G1, hG1⟩ := hsys1
      obtain ⟨p', A, n, c, h⟩ := hG1.at_ hT1 hf
      have hpp : p' = p := by
        have h1 := h.at_
        rw [(show Tab w1.drew b L from ⟨_, hrg1.owns⟩).uniq (hG1.tab hT1) |>.symm, hp] at h1
        exact (Option.some.inj h1).symm
      subst hpp
      obtain ⟨c0, c1, f0, f1⟩ := h.blk.cells
      have hnc := h.byt.2.1
      have hcm := h.byt.2.2.1
      have hfn : f.1.length = n := h.byt.1
      have hnL : n ≤ 1099511627776 := by have := wt_get hf; omega
      unfold maxLen at hcm
      have hTl : Tl.length < maxLen := by unfold maxLen; omega
      have hbw : Below w1.drew.heap.size w1.drew (w1.drew.alloc (.cells #[.slice A n n, .bool false] 82)) := (Below.refl _ _).alloc (Nat.le_refl _) _
      obtain ⟨w2, hrun0, hg2, hsys2⟩ := hG1.add (T := Tl) (upd_same _ _ _) hbw (Nat.le_refl _) (f := (f.1, false)) (heap_alloc_new _ _) (by
        have h1 := (h.byt.clip (Nat.le_refl n)).kept (w' := w1.drew.alloc (.cells #[.slice A n n, .bool false] 82)) fun g _ hlt => hbw.block g hlt
        rw [List.take_of_length_le (by omega)] at h1
        exact h1) (fun g hg => ⟨(h.row g hg).1, (h.row g hg).2.1⟩) hkl hTl
      have hrun : (Instr.mapUpdate 66 (.map (some w.heap.size)) (.string (str k)) (.pointer (some ⟨w1.heap.size, 0, none⟩))).run Tryz.prog (w1.alloc (.cells #[.slice A n n, .bool false] 82)).drew = .ok () w2 := hrun0
      have hI0 : (0 : Int) ≤ (n : Int) := by omega
      have hI1 : (n : Int) ≤ (c : Int) := by omega
      have hI2 : (n : Int) ≤ (n : Int) := by omega
      have HA := Lib.hid h
      have H2 := Lib.hid hsys2
      have HG := Lib.hid hg2
      have HF := Lib.hid hf
      have HI := Lib.hid hget
      have HN := Lib.hid hfn
      have HS := Lib.hid hs1
      have HRG := Lib.hid hrg
      have HRG1 := Lib.hid hrg1
      clear hrun0 h hsys2 hg2 hf hget hfn hs1 hG1 hT1 hbw hrg hrg1 hsys hp hr hlk
      rcases HA.out.byt.form with ⟨rfl, rfl, rfl, _⟩ | ⟨g, rfl⟩
      · go_wp2
        go_region
        go_wp2
        go_roundw
        case rel =>
          have hws : w1.drew.heap.size = wr.heap.size := HS.out
          have hs2 := HG.out.size
          have hs3 : (w1.drew.alloc (.cells #[.slice none 0 0, .bool false] 82)).heap.size = wr.heap.size + 1 := by simp [← hws]
          rw [hs3] at hs2
          have hq1 := (HRG1.out.kept (w' := w1.drew.alloc (.cells #[.slice none 0 0, .bool false] 82)) ⟨rfl, rfl, rfl, by simp, fun k hk _ => Below.heap_alloc _ _ _ hk⟩ (row := none) (by simp) (by simp)).kept HG.out (fun e => hbl' (Option.some.inj e)) (fun e => by have := Option.some.inj e; omega)
          refine ⟨_, cnt1, fi.put k (f.1, false) Tl, hq1, ?_, ?_, fun j => ?_, ?_, by omega⟩
          · have h2 := H2.out
            rw [upd_upd] at h2
            exact h2.more fun i hi => by
              rcases hi with (hi | ⟨i1, i2⟩) | ⟨i1, i2⟩
              · exact .inl hi
              · exact .inr ⟨i1, by omega⟩
              · rw [hws] at i1
                exact .inr ⟨by omega, i2⟩
          · have := put_length (l := Tl) k (f.1, false)
            omega
          · by_cases hj : j = k
            · subst hj
              rw [get_put_same, get_strip, HF.out]
              simp [Lit.sameKey]
            · rw [get_put_other hj, HI.out j]
              have : (Lit.string j).sameKey (.string k) = false := by simp [Lit.sameKey, hj]
              simp [this]
          · have hb1 : Below w.heap.size w w1.drew := (hbel.grown hg1 (by omega) (fun j hj => by cases hj; omega)).drew
            exact (hb1.alloc (by rw [hws]; omega) _).grown HG.out (by rw [hs3]; omega) (fun j hj => by cases hj; exact Nat.le_refl _)
        case measure =>
          have hws : w1.drew.heap.size = wr.heap.size := HS.out
          have hq1 := (HRG1.out.kept (w' := w1.drew.alloc (.cells #[.slice none 0 0, .bool false] 82)) ⟨rfl, rfl, rfl, by simp, fun k hk _ => Below.heap_alloc _ _ _ hk⟩ (row := none) (by simp) (by simp)).kept HG.out (fun e => hbl' (Option.some.inj e)) (fun e => by have := Option.some.inj e; omega)
          rw [hq1.left_eq, HRG.out.left_eq]
          exact hlt
      · go_wp2
        go_region
        go_wp2
        go_roundw
        case rel =>
          have hws : w1.drew.heap.size = wr.heap.size := HS.out
          have hs2 := HG.out.size
          have hs3 : (w1.drew.alloc (.cells #[.slice (some ⟨g, 0, none⟩) n n, .bool false] 82)).heap.size = wr.heap.size + 1 := by simp [← hws]
          rw [hs3] at hs2
          have hq1 := (HRG1.out.kept (w' := w1.drew.alloc (.cells #[.slice (some ⟨g, 0, none⟩) n n, .bool false] 82)) ⟨rfl, rfl, rfl, by simp, fun k hk _ => Below.heap_alloc _ _ _ hk⟩ (row := none) (by simp) (by simp)).kept HG.out (fun e => hbl' (Option.some.inj e)) (fun e => by have := Option.some.inj e; omega)
          refine ⟨_, cnt1, fi.put k (f.1, false) Tl, hq1, ?_, ?_, fun j => ?_, ?_, by omega⟩
          · have h2 := H2.out
            rw [upd_upd] at h2
            exact h2.more fun i hi => by
              rcases hi with (hi | ⟨i1, i2⟩) | ⟨i1, i2⟩
              · exact .inl hi
              · exact .inr ⟨i1, by omega⟩
              · rw [hws] at i1
                exact .inr ⟨by omega, i2⟩
          · have := put_length (l := Tl) k (f.1, false)
            omega
          · by_cases hj : j = k
            · subst hj
              rw [get_put_same, get_strip, HF.out]
              simp [Lit.sameKey]
            · rw [get_put_other hj, HI.out j]
              have : (Lit.string j).sameKey (.string k) = false := by simp [Lit.sameKey, hj]
              simp [this]
          · have hb1 : Below w.heap.size w w1.drew := (hbel.grown hg1 (by omega) (fun j hj => by cases hj; omega)).drew
            exact (hb1.alloc (by rw [hws]; omega) _).grown HG.out (by rw [hs3]; omega) (fun j hj => by cases hj; exact Nat.le_refl _)
        case measure =>
          have hws : w1.drew.heap.size = wr.heap.size := HS.out
          have hq1 := (HRG1.out.kept (w' := w1.drew.alloc (.cells #[.slice (some ⟨g, 0, none⟩) n n, .bool false] 82)) ⟨rfl, rfl, rfl, by simp, fun k hk _ => Below.heap_alloc _ _ _ hk⟩ (row := none) (by simp) (by simp)).kept HG.out (fun e => hbl' (Option.some.inj e)) (fun e => by have := Option.some.inj e; omega)
          rw [hq1.left_eq, HRG.out.left_eq]
          exact hlt
end Go.Proofs.YtmaohncddjhgeaaGreat.gn
end
