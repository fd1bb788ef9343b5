/- The program's copies: a registry in rows of the call's own. -/
import Derived.Test.YtkjffoebcblpoaaGreatMGenOpen
import Derived.Test.YtkjffoebcblpoaaGreatMBvA
import Derived.Test.YtkjffoebcblpoaaGreatMBuP
section
set_option linter.unusedVariables false
set_option linter.unusedSimpArgs false
set_option maxRecDepth 100000
namespace Go.Proofs.YtkjffoebcblpoaaGreat.gn
open Go.RowKit
open Go.Proofs.YtkjffoebcblpoaaGreat.bu (Bf May Valid)

/-! ### whole elements stored -/
def setL (xs : List Value) : Nat → List Value → List Value
  | _, [] => xs
  | o, v :: r => setL (xs.set o v) (o + 1) r
theorem own_stored {w : World} {base size g n cap : Nat} {e : TypeId} : ∀ (vs : List Value) (o : Nat) {w : World} {xs : List Value}, w.ownsRow base e size (.slice (some ⟨g, 0, none⟩) n cap) n xs → (w.setCells g o vs).ownsRow base e size (.slice (some ⟨g, 0, none⟩) n cap) n (setL xs o vs) ∧ w.grownBy (w.setCells g o vs) (some g)
  | [], o, w, xs, h => ⟨h, rfl, rfl, rfl, Nat.le_refl _, fun _ _ _ => rfl⟩
  | v :: r, o, w, xs, h => by
    obtain ⟨h1, g1⟩ := h.stored o v
    obtain ⟨h2, g2⟩ := own_stored (w := w) r (o + 1) h1
    exact ⟨h2, g2.os.trans g1.os, g2.tape.trans g1.tape, g2.output.trans g1.output, Nat.le_trans g1.size g2.size, fun k hk hne => (g2.block k (Nat.lt_of_lt_of_le hk g1.size) hne).trans (g1.block k hk hne)⟩
theorem setL_app (A : List Value) : ∀ (vs : List Value) (B : List Value) (o : Nat), setL (A ++ B) (A.length + o) vs = A ++ setL B o vs
  | [], B, o => rfl
  | v :: r, B, o => by
    unfold setL
    rw [List.set_append_right _ _ (by omega), show A.length + o - A.length = o by omega, show A.length + o + 1 = A.length + (o + 1) by omega, setL_app A r]
theorem bcl_put (p : Bf) (g : Gb) : ∀ (L : List (Bf × Gb)) (i : Nat), i < L.length → setL (bcl L) (i * 7) (bcs p g).toList = bcl (L.set i (p, g))
  | [], i, h => by simp at h
  | q :: L, 0, h => by
    rw [List.set_cons_zero]
    simp [bcl, bcs, setL]
  | q :: L, i + 1, h => by
    have ih := bcl_put p g L i (by simpa using h)
    rw [List.set_cons_succ]
    simp only [bcl]
    rw [← ih, show (i + 1) * 7 = (bcs q.1 q.2).toList.length + i * 7 by simp [bcs]; omega, setL_app]
theorem OwnB.put {base g c : Nat} {W : World} {M : List (Bf × Gb)} (h : OwnB base W (.slice (some ⟨g, 0, none⟩) M.length c) M) {i : Nat} (hi : i < M.length) (p : Bf) (u : Gb) :
    OwnB base (W.setCells g (i * 7) (bcs p u).toList) (.slice (some ⟨g, 0, none⟩) M.length c) (M.set i (p, u)) ∧ W.grownBy (W.setCells g (i * 7) (bcs p u).toList) (some g) := by
  obtain ⟨h1, h2⟩ := own_stored (w := W) (bcs p u).toList (i * 7) h
  rw [bcl_put p u M i hi] at h1
  refine ⟨?_, h2⟩
  unfold OwnB
  rw [List.length_set]
  exact h1
theorem own_neT {base base2 size size2 : Nat} {W : World} {t1 t2 : TypeId} (hne : t1 ≠ t2) {v u : Value} {n m : Nat} {xs ys : List Value} (h1 : W.ownsRow base t1 size v n xs) (h2 : W.ownsRow base2 t2 size2 u m ys) : u.ownBlock = none ∨ u.ownBlock ≠ v.ownBlock := by
  obtain ⟨-, ⟨rfl, -⟩ | ⟨g, c, cur, rfl, -, hg, -⟩⟩ := h2
  · exact .inl rfl
  · obtain ⟨-, ⟨rfl, -⟩ | ⟨g', c', cur', rfl, -, hg', -⟩⟩ := h1
    · exact .inr (by simp [Value.ownBlock])
    · refine .inr fun e => ?_
      simp only [Value.ownBlock, Option.some.injEq] at e
      subst e
      rw [hg] at hg'
      simp only [Option.some.injEq, Obj.cells.injEq] at hg'
      exact absurd hg'.2.1 (fun e => hne e.symm)
theorem ApC.grownT {base base2 size size2 : Nat} {W W' : World} {t1 t2 : TypeId} (hne : t1 ≠ t2) {v u : Value} {n m : Nat} {xs ys : List Value} (h : ApC base2 t2 size2 W u m ys) (hv : W.ownsRow base t1 size v n xs) (hg : W.grownBy W' v.ownBlock) : ApC base2 t2 size2 W' u m ys := by
  rcases h with h | h
  · exact .inl h
  · exact .inr (World.ownsRow.kept h hg (own_neT hne hv h))
theorem OwnB.range {base g c n : Nat} {W : World} {M : List (Bf × Gb)} (h : W.ownsRow base 26 7 (.slice (some ⟨g, 0, none⟩) n c) n (bcl M)) {i : Nat} {q : Bf × Gb} (hq : M[i]? = some q) : W.rangeAt g (i * 7) (bcs q.1 q.2).toList := fun j u hu => by
  have := World.ownsRow.cells h rfl _ _ (bcl_at M i q hq j u (by have := (List.getElem?_eq_some_iff.1 hu).1; simpa [bcs] using this) (by simpa using hu))
  rwa [Addr.add_lit, Nat.zero_add] at this
theorem OwnB.there {base g c n : Nat} {W : World} {M : List (Bf × Gb)} (h : W.ownsRow base 26 7 (.slice (some ⟨g, 0, none⟩) n c) n (bcl M)) {i : Nat} {q : Bf × Gb} (hq : M[i]? = some q) : W.there g (i * 7) 7 := fun j hj =>
  ⟨by
    have := OwnB.range h hq j _ (List.getElem?_eq_getElem (show j < (bcs q.1 q.2).toList.length by simpa [bcs] using hj))
    rw [this]
    rfl, h.frozenAt _⟩
theorem OutS.own {base : Nat} {W : World} {v : Value} {M : List (Bf × Gb)} (h : OutS base W v M) (h0 : M ≠ []) : ∃ g c, v = .slice (some ⟨g, 0, none⟩) M.length c ∧ OwnB base W v M := by
  rcases h.row with ⟨p, rfl, hn, _⟩ | h
  · exact absurd (List.eq_nil_of_length_eq_zero hn) h0
  · obtain ⟨h1, ⟨_, h2⟩ | ⟨g, cap, cur, rfl, hb, hg, hle, hcm, hcs, htk⟩⟩ := h
    · exact absurd (List.eq_nil_of_length_eq_zero h2) h0
    · exact ⟨g, cap, rfl, h1, .inr ⟨g, cap, cur, rfl, hb, hg, hle, hcm, hcs, htk⟩⟩
/-- Two rows lie apart, or one has no room. -/
def NeR (v u : Value) : Prop := (∃ p, v = .slice p 0 0) ∨ (∃ p, u = .slice p 0 0) ∨ ∀ g, v.ownBlock = some g → u.ownBlock ≠ some g
theorem NeR.symm {v u : Value} (h : NeR v u) : NeR u v := by
  rcases h with h | h | h
  · exact .inr (.inl h)
  · exact .inl h
  · exact .inr (.inr fun g hu hv => h g hv hu)
theorem ApC.blk {base : Nat} {e : TypeId} {size : Nat} {w : World} {v : Value} {n : Nat} {cs : List Value} (h : ApC base e size w v n cs) : (∃ p, v = .slice p 0 0) ∨ ∀ g, v.ownBlock = some g → base ≤ g ∧ g < w.heap.size := by
  rcases h with ⟨p, rfl, _⟩ | h
  · exact .inl ⟨p, rfl⟩
  · exact .inr fun g hg => World.ownsRow.lt h g hg
/-- The uses of these lie apart. -/
def NeM (M : List (Bf × Gb)) (i : Nat) : Prop := ∀ j k p q, j < k → k < i → M[j]? = some p → M[k]? = some q → NeR p.2.r q.2.r
/-- Where copies stands. -/
structure CpW (L : List (Bf × Gb)) (base : Nat) (W0 : World) (i : Nat) (M : List (Bf × Gb)) (v : Value) (Y : World) : Prop where
  eq : M.map Prod.fst = L.map Prod.fst
  row : OutS base Y v M
  old : ∀ j p, i ≤ j → M[j]? = some p → L[j]? = some p
  e : ∀ j p, j < i → M[j]? = some p → ApC base 55 2 Y p.2.e p.1.exts.length (xcs p.1.exts)
  r : ∀ j p, j < i → M[j]? = some p → OutI base Y p.2.r p.1.refs
  ne : NeM M i
  low : Below base W0 Y
theorem CpW.len {L : List (Bf × Gb)} {base : Nat} {W0 : World} {i : Nat} {M : List (Bf × Gb)} {v : Value} {Y : World} (h : CpW L base W0 i M v Y) : M.length = L.length := by
  have := congrArg List.length h.eq
  simpa using this
theorem CpW.step {L : List (Bf × Gb)} {base : Nat} {W0 : World} {i g c n : Nat} {M : List (Bf × Gb)} {Y Y1 : World} (h : CpW L base W0 i M (.slice (some ⟨g, 0, none⟩) n c) Y) {q : Bf × Gb} (hq : M[i]? = some q) (h1 : Below Y.heap.size Y Y1) (hb : base ≤ Y.heap.size) {u : Gb}
    (he : ApC base 55 2 Y1 u.e q.1.exts.length (xcs q.1.exts)) (hr : OutI base Y1 u.r q.1.refs) (hrn : OutI Y.heap.size Y1 u.r q.1.refs) :
    CpW L base W0 (i + 1) (M.set i (q.1, u)) (.slice (some ⟨g, 0, none⟩) n c) (Y1.setCells g (i * 7) (bcs q.1 u).toList) := by
  have hi := (List.getElem?_eq_some_iff.1 hq).1
  obtain ⟨g', c', hv, ho⟩ := h.row.own (ne_of_at hq)
  simp only [Value.slice.injEq, Option.some.injEq, Addr.mk.injEq, and_true, true_and] at hv
  obtain ⟨rfl, rfl, rfl⟩ := hv
  have ho1 : OwnB base Y1 (.slice (some ⟨g, 0, none⟩) M.length c) M := ho.next h1
  obtain ⟨hp, hg⟩ := ho1.put hi q.1 u
  have hgb : base ≤ g := (World.ownsRow.lt ho1 g rfl).1
  refine ⟨?_, ⟨?_⟩, fun j p hj hp2 => ?_, fun j p hj hp2 => ?_, fun j p hj hp2 => ?_, fun j k p p' hjk hk hp2 hp3 => ?_, ?_⟩
  · rw [← h.eq, List.map_set]
    have := fst_at hq
    obtain ⟨h5, h6⟩ := List.getElem?_eq_some_iff.1 this
    conv => lhs; rw [show q.1 = (M.map Prod.fst)[i] from h6.symm]
    exact List.set_getElem_self _
  · rw [List.length_set]
    have := hp
    unfold OwnB at this
    rw [List.length_set] at this
    exact .inr this
  · rw [List.getElem?_set_ne (by omega)] at hp2
    exact h.old j p (by omega) hp2
  · by_cases hji : j = i
    · subst hji
      rw [List.getElem?_set_self hi] at hp2
      cases hp2
      exact ApC.grownT (by decide) he ho1 hg
    · rw [List.getElem?_set_ne (fun e => hji e.symm)] at hp2
      exact ApC.grownT (by decide) ((h.e j p (by omega) hp2).next h1) ho1 hg
  · by_cases hji : j = i
    · subst hji
      rw [List.getElem?_set_self hi] at hp2
      cases hp2
      exact ApC.grownT (by decide) hr ho1 hg
    · rw [List.getElem?_set_ne (fun e => hji e.symm)] at hp2
      exact ApC.grownT (by decide) (ApC.next (h.r j p (by omega) hp2) h1) ho1 hg
  · rw [List.getElem?_set_ne (by omega)] at hp2
    by_cases hki : k = i
    · subst hki
      rw [List.getElem?_set_self hi] at hp3
      cases hp3
      rcases ApC.blk (h.r j p hjk hp2) with h8 | h8
      · exact .inl h8
      · rcases ApC.blk hrn with h9 | h9
        · exact .inr (.inl h9)
        · exact .inr (.inr fun g hg1 hg2 => by
            have := (h8 g hg1).2
            have := (h9 g hg2).1
            omega)
    · rw [List.getElem?_set_ne (fun e => hki e.symm)] at hp3
      exact h.ne j k p p' hjk (by omega) hp2 hp3
  · exact (h.low.trans (h1.mono hb)).grown hg (Nat.le_trans hb h1.size) (fun k hk => by cases hk; exact hgb)
theorem CpW.end_ {L : List (Bf × Gb)} {base : Nat} {W0 : World} {i : Nat} {M : List (Bf × Gb)} {v : Value} {Y : World} (h : CpW L base W0 i M v Y) (hi : L.length ≤ i) : Own base Y v M :=
  ⟨h.row, fun p hp => by
    obtain ⟨j, hj, rfl⟩ := List.getElem_of_mem hp
    exact h.e j _ (by have := h.len; omega) (List.getElem?_eq_getElem hj), fun p hp => by
    obtain ⟨j, hj, rfl⟩ := List.getElem_of_mem hp
    exact h.r j _ (by have := h.len; omega) (List.getElem?_eq_getElem hj)⟩
set_option maxHeartbeats 6400000 in
theorem copies2_any {w : World} {v : Value} {L : List (Bf × Gb)} (h : RBs w v L) (hl : L.length ≤ 1000) (hx : ∀ q ∈ L, q.1.exts.length ≤ 1000000 ∧ q.1.refs.length ≤ 1000000) :
    Calls Tryz.prog 34 #[v] w fun e w' => ∃ u M, e = .returned u ∧ M.map Prod.fst = L.map Prod.fst ∧ Own w.heap.size w' u M ∧ NeM M L.length ∧ Below w.heap.size w w' := by
  have HRL := Lib.hid (fun (Y : World) (hy : Below w.heap.size w Y) => (h.next hy).rows)
  have HCB := Lib.hid (cpB_any h (by omega))
  have HX := Lib.hid hx
  obtain ⟨n, hn⟩ : ∃ n, L.length = n := ⟨_, rfl⟩
  have HN := Lib.hid hn
  rw [hn] at hl
  clear h hx hn
  go_enter Tryz.func34, Tryz.ntmps34
  go_upto_region 2 with (go_at_call 66; ((with_reducible refine HCB.out.mono ?_); rintro e w1 ⟨u, rfl, hu, hb⟩); have U1 := Lib.hid hu; have A1 := Lib.hid hb; clear hu hb)
  obtain ⟨p1, c1, hv1, -⟩ := ApC.form U1.out.row
  rw [HN.out] at hv1
  subst hv1
  go_wp2
  go_loopw [10] (fun s10 wr => ∃ (i : Nat) (M : List (Bf × Gb)), s10 = .int .i64 (i : Nat) ∧ i ≤ n ∧ Aside (CpW L w.heap.size w i M (.slice p1 n c1) wr)) (fun s10 _ => n - (intOf s10).toNat)
  case atStart => exact ⟨0, L, rfl, Nat.zero_le _, rfl, U1.out, (fun _ _ _ h => h), (fun _ _ h => absurd h (Nat.not_lt_zero _)), (fun _ _ h => absurd h (Nat.not_lt_zero _)), (fun _ _ _ _ _ h => absurd h (Nat.not_lt_zero _)), A1.out⟩
  case round =>
    obtain ⟨i, M, rfl, hi, ha⟩ := hrel
    have HA := Lib.hid (show CpW L w.heap.size w i M (.slice p1 n c1) wr from ha)
    clear ha
    by_cases hin : i < n
    · obtain ⟨q, hq⟩ : ∃ q, M[i]? = some q := ⟨_, List.getElem?_eq_getElem (by rw [HA.out.len, HN.out]; exact hin)⟩
      obtain ⟨g, c', hv, ho⟩ := HA.out.row.own (ne_of_at hq)
      simp only [Value.slice.injEq] at hv
      obtain ⟨rfl, hnm, rfl⟩ := hv
      have HO := Lib.hid (show wr.ownsRow w.heap.size 26 7 (.slice (some ⟨g, 0, none⟩) n c1) n (bcl M) by have := ho; unfold OwnB at this; rwa [HA.out.len, HN.out] at this)
      have HQ := Lib.hid hq
      have HQL := Lib.hid (List.mem_of_getElem? (HA.out.old i q (Nat.le_refl _) hq))
      have HQR := Lib.hid (fun (Y : World) (hy : Below w.heap.size w Y) => HRL.out Y hy q HQL.out)
      have HRA := Lib.hid (OwnB.range HO.out hq)
      have HBW := Lib.hid HA.out.low
      have lg : g < wr.heap.size := (World.ownsRow.lt HO.out g rfl).2
      clear hq hnm ho
      go_upto_region 5 with (first
        | (refine wpList_load_mid rfl _ _ rfl g (i * 7) (by first | rfl | simp) [.int .i64 q.1.job, .string (str q.1.name), .string (str q.1.user), .string (str q.1.pool), .bool q.1.opn, q.2.e, q.2.r] _ HRA.out Tryz.underlying26 rfl (by kernel_rfl) ?_)
        | (refine wpList_store_row rfl _ _ _ rfl wr.heap.size (bcs q.1 q.2) rfl rfl _ _ (BoxA.new wr _ _) (by kernel_rfl) rfl (bcs_all (HQR.out _ HBW.out)) ?_))
      obtain ⟨W1, hW1, hkW1, hbW1⟩ := box_endB wr #[.int .i64 0, .string { data := #[] }, .string { data := #[] }, .string { data := #[] }, .bool false, .slice none 0 0, .slice none 0 0] (bcs q.1 q.2) 26
      rw [hW1]
      have HKW := Lib.hid (show BoxA W1 wr.heap.size 26 (bcs q.1 q.2) from hkW1)
      have HBX := Lib.hid hbW1
      have HWL := Lib.hid (HBW.out.trans (HBX.out.mono HBW.out.size))
      have HCP := Lib.hid (copyOf_any q.1 q.2 W1 (HQR.out _ HWL.out) (HX.out q HQL.out).1 (HX.out q HQL.out).2)
      unfold bV at HCP
      clear hW1 hkW1 hbW1 lg
      try simp only [Act.put]
      go_upto_region 6 with (first
        | (refine wpl_load_g (by rfl) _ _ rfl wr.heap.size rfl _ _ _ _ HKW.out Tryz.underlying26 rfl (by kernel_rfl) ?_)
        | (go_at_call 35; ((with_reducible refine HCP.out.mono ?_); rintro e w6 ⟨u, rfl, he6, hr6, hb6⟩); have A6 := Lib.hid (HBX.out.trans (hb6.mono HBX.out.size)); have E6 := Lib.hid (And.intro he6 hr6); clear he6 hr6 hb6; have HTH := Lib.hid (OwnB.there (World.ownsRow.kept HO.out (grown_new A6.out) (.inr (by simp [Value.ownBlock]))) HQ.out); have HR6 := Lib.hid (show RB w6 q.1 u from ⟨E6.out.1.rdc, OutI.ri E6.out.2⟩))
        | (refine wpList_store_mid rfl _ _ _ rfl g (i * 7) (bcs q.1 u) (by first | rfl | simp) rfl HTH.out (by kernel_rfl) (bcs_all HR6.out) ?_))
      have HFI := Lib.hid (HA.out.step HQ.out A6.out HBW.out.size (ApC.mono E6.out.1 HWL.out.size) (ApC.mono E6.out.2 HWL.out.size) (ApC.mono E6.out.2 HBX.out.size))
      go_wp2
      go_roundw
      case rel => exact ⟨i + 1, _, by go_num, by omega, HFI.out⟩
      case measure => simp [intOf]; omega
    · obtain rfl : i = n := by omega
      have HFI := Lib.hid (HA.out.end_ (by rw [HN.out]; exact Nat.le_refl _))
      go_wp2
      go_ret
      exact ⟨_, M, rfl, HA.out.eq, HFI.out, by rw [HN.out]; exact HA.out.ne, HA.out.low⟩
theorem copies_any {w : World} {v : Value} {L : List (Bf × Gb)} (h : RBs w v L) (hl : L.length ≤ 1000) (hx : ∀ q ∈ L, q.1.exts.length ≤ 1000000 ∧ q.1.refs.length ≤ 1000000) :
    Calls Tryz.prog 34 #[v] w fun e w' => ∃ u M, e = .returned u ∧ M.map Prod.fst = L.map Prod.fst ∧ Own w.heap.size w' u M ∧ Below w.heap.size w w' :=
  (copies2_any h hl hx).mono fun e w' ⟨u, M, h1, h2, h3, _, h5⟩ => ⟨u, M, h1, h2, h3, h5⟩
end Go.Proofs.YtkjffoebcblpoaaGreat.gn
end
section
set_option linter.unusedVariables false
set_option linter.unusedSimpArgs false
set_option maxRecDepth 100000
namespace Go.Proofs.YtkjffoebcblpoaaGreat.gn
open Go.RowKit
open Go.Proofs.YtkjffoebcblpoaaGreat.bu (Bf May Valid lt)

theorem RdC.range {W : World} {k off c n : Nat} {M : List (Bf × Gb)} (h : CellsC W k off (bcl M)) {i : Nat} {q : Bf × Gb} (hq : M[i]? = some q) : W.rangeAt k (off + i * 7) (bcs q.1 q.2).toList := fun j u hu => by
  have := h _ _ (bcl_at M i q hq j u (by have := (List.getElem?_eq_some_iff.1 hu).1; simpa [bcs] using this) (by simpa using hu))
  rwa [← Nat.add_assoc] at this
set_option maxHeartbeats 6400000 in
theorem psorted_any {w : World} {v : Value} {L : List (Bf × Gb)} (h : RBs w v L) (h0 : L ≠ []) (hl : L.length ≤ 1000) :
    Calls Tryz.prog 33 #[v] w fun e w' => ∃ u s, e = .returned u ∧ OutS w.heap.size w' u s ∧ s.Perm L ∧ ((s.map Prod.fst).Pairwise fun a c => lt c a = false) ∧ Below w.heap.size w w' := by
  have HRL := Lib.hid (fun (Y : World) (hy : Below w.heap.size w Y) => (h.next hy).rows)
  have HBU := Lib.hid (bufs_any h hl)
  have HON := Lib.hid (show ∀ q ∈ L, ∀ u ∈ encB q, u.oneCell' = true from fun q hq => bcs_one (h.rows q hq))
  have H0 := Lib.hid h0
  have HLL := Lib.hid hl
  clear h hl h0
  go_enter Tryz.func33, Tryz.ntmps33
  go_upto_region 3 with (first
    | (go_at_call 43; ((with_reducible refine HBU.out.mono ?_); rintro e w1 ⟨u1, rfl, hu, hb⟩); have A1 := Lib.hid hb; have O1 := Lib.hid (show w1.ownsRow w.heap.size 60 7 u1 L.length (bcl L) from by
        rcases hu with ⟨p, rfl, hn, _⟩ | hu
        · exact absurd (List.eq_nil_of_length_eq_zero hn) H0.out
        · exact hu); have HSO := Lib.hid (sortB_any O1.out HON.out (by have := HLL.out; omega)); clear hu hb)
    | (go_at_call 65; ((with_reducible refine HSO.out.mono ?_); rintro e w2 ⟨rfl, hg, s, hs, hperm, hso⟩); have G2 := Lib.hid hg; have S2 := Lib.hid (And.intro hs (And.intro hperm hso)); clear hg hs hperm hso))
  have A2 := Lib.hid (show Below w.heap.size w w2 from A1.out.grown G2.out A1.out.size (fun g hg => (World.ownsRow.lt O1.out g hg).1))
  have HSR := Lib.hid (fun (Y : World) (hy : Below w2.heap.size w2 Y) => S2.out.1.next hy)
  have HRS := Lib.hid (fun (Y : World) (hy : Below w.heap.size w Y) (q : Bf × Gb) (hq : q ∈ s) => HRL.out Y hy q (S2.out.2.1.mem_iff.1 hq))
  obtain ⟨p1, c1, hv1⟩ := RdC.form S2.out.1
  obtain ⟨n, hn⟩ : ∃ n, s.length = n := ⟨_, rfl⟩
  have HN := Lib.hid hn
  rw [hn] at hv1 HSR
  subst hv1
  have hn1 : n ≤ 1000 := by rw [← hn, S2.out.2.1.length_eq]; exact HLL.out
  clear hn
  go_wp2
  go_loopw [4, 13] (fun s4 s13 wr => ∃ (i : Nat) (pp : Option Addr) (cc : Nat), s4 = .slice pp i cc ∧ s13 = .int .i64 (i : Nat) ∧ i ≤ n ∧ Aside (ApC w2.heap.size 26 7 wr (.slice pp i cc) (s.take i).length (bcl (s.take i))) ∧ Aside (Below w2.heap.size w2 wr)) (fun _ s13 _ => n - (intOf s13).toNat)
  case atStart => exact ⟨0, none, 0, rfl, rfl, Nat.zero_le _, .inl ⟨none, rfl, rfl, rfl⟩, Below.refl _ _⟩
  case round =>
    obtain ⟨i, pp, cc, rfl, rfl, hi, ha, hb⟩ := hrel
    have HA := Lib.hid (show ApC w2.heap.size 26 7 wr (.slice pp i cc) (s.take i).length (bcl (s.take i)) from ha)
    have HB2 := Lib.hid (show Below w2.heap.size w2 wr from hb)
    have HB := Lib.hid (show Below w.heap.size w wr from A2.out.trans (HB2.out.mono A2.out.size))
    clear ha hb
    by_cases hin : i < n
    · obtain ⟨q, hq⟩ : ∃ q, s[i]? = some q := ⟨_, List.getElem?_eq_getElem (by rw [HN.out]; exact hin)⟩
      rcases HSR.out wr HB2.out with ⟨p', c', he, hn0, _⟩ | ⟨kb, off, c', he, hk, hc⟩
      · exfalso
        omega
      simp only [Value.slice.injEq, true_and] at he
      obtain ⟨rfl, rfl⟩ := he
      have HQR := Lib.hid (fun (Y : World) (hy : Below w.heap.size w Y) => HRS.out Y hy q (List.mem_of_getElem? hq))
      have HC := Lib.hid (RdC.range (c := 0) (n := 0) hc hq)
      have HQ := Lib.hid hq
      have lkb : kb < wr.heap.size := hk
      have HTI := Lib.hid (show (s.take i).length = i by rw [List.length_take, HN.out]; omega)
      clear hq hk hc
      go_upto_region 7 with (first
        | (refine wpList_load_mid rfl _ _ rfl kb (off + i * 7) rfl [.int .i64 q.1.job, .string (str q.1.name), .string (str q.1.user), .string (str q.1.pool), .bool q.1.opn, q.2.e, q.2.r] _ HC.out Tryz.underlying60 rfl (by kernel_rfl) ?_)
        | (refine wpList_store_row rfl _ _ _ rfl wr.heap.size (bcs q.1 q.2) rfl rfl _ _ (BoxA.new wr _ _) (by kernel_rfl) rfl (bcs_all (HQR.out _ HB.out)) ?_))
      obtain ⟨W1, hW1, hkW1, hbW1⟩ := box_endB wr #[.int .i64 0, .string { data := #[] }, .string { data := #[] }, .string { data := #[] }, .bool false, .slice none 0 0, .slice none 0 0] (bcs q.1 q.2) 60
      rw [hW1]
      have HKW := Lib.hid (show BoxA W1 wr.heap.size 60 #[.int .i64 q.1.job, .string (str q.1.name), .string (str q.1.user), .string (str q.1.pool), .bool q.1.opn, q.2.e, q.2.r] from hkW1)
      have HBW := Lib.hid hbW1
      have HX2 := Lib.hid (show BoxA (W1.alloc (.cells #[.int .i64 q.1.job, .string (str q.1.name), .string (str q.1.user), .string (str q.1.pool), .bool q.1.opn, q.2.e, q.2.r] 26)) W1.heap.size 26 (bcs q.1 q.2) from BoxA.new _ _ _)
      have HX3 := Lib.hid ((Below.refl _ W1).alloc (Nat.le_refl W1.heap.size) (.cells #[.int .i64 q.1.job, .string (str q.1.name), .string (str q.1.user), .string (str q.1.pool), .bool q.1.opn, q.2.e, q.2.r] 26))
      clear hW1 hkW1 hbW1 lkb
      try simp only [Act.put]
      go_upto_region 8 with (first
        | (refine wpl_load_g (by rfl) _ _ rfl wr.heap.size rfl _ _ _ _ HKW.out Tryz.underlying60 rfl (by kernel_rfl) ?_)
        | (at_builtin; refine wpl_bufT eltB rfl _ _ rfl (v := .slice _ _ _) rfl ((HA.out.next HBW.out).next HX3.out) rfl HX2.out (bcs_one (HQR.out _ HB.out)) (by rw [HTI.out]; omega) (Nat.le_trans HB2.out.size (Nat.le_trans HBW.out.size HX3.out.size)) ?_; intro pp2 cc2 w6 h1 h3; have HO6 := Lib.hid h1; have HV6 := Lib.hid (show Below w2.heap.size w2 w6 from ((HB2.out.trans (HBW.out.mono HB2.out.size)).trans (HX3.out.mono (Nat.le_trans HB2.out.size HBW.out.size))).trans h3); clear h1 h3))
      rw [HTI.out, take_snoc HQ.out] at HO6
      rw [show min i s.length = i by rw [HN.out]; omega]
      go_wp2
      go_roundw
      case rel => exact ⟨i + 1, pp2, cc2, rfl, by go_num, by omega, HO6.out, HV6.out⟩
      case measure => simp [intOf]; omega
    · obtain rfl : i = n := by omega
      have HFI := Lib.hid (show ApC w.heap.size 26 7 wr (.slice pp i cc) s.length (bcl s) by
        have := HA.out
        rw [List.take_of_length_le (by rw [HN.out]; exact Nat.le_refl _)] at this
        exact this.mono A2.out.size)
      go_wp2
      go_ret
      exact ⟨_, s, rfl, ⟨HFI.out⟩, S2.out.2.1, S2.out.2.2, HB.out⟩
end Go.Proofs.YtkjffoebcblpoaaGreat.gn
end
