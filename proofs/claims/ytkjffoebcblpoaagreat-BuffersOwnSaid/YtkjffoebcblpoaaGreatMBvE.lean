/- The program's bufs, rising. -/
import Derived.Test.YtkjffoebcblpoaaGreatMBvB
import Derived.Test.YtkjffoebcblpoaaGreatMBuJ
section
set_option linter.unusedVariables false
set_option linter.unusedSimpArgs false
set_option maxRecDepth 100000
namespace Go.Proofs.YtkjffoebcblpoaaGreat.gn
open Go.RowKit
open Go.Proofs.YtkjffoebcblpoaaGreat.ex (X)
open Go.Proofs.YtkjffoebcblpoaaGreat.bu (Bf May jobOk cmpJ cmpB lt AdjTo)

theorem eltK : EltI 67 60 (.agg #[.int .i64 0, .string ⟨#[]⟩, .string ⟨#[]⟩, .string ⟨#[]⟩, .bool false, .slice none 0 0, .slice none 0 0]) 7 112 := elt_ofB Tryz.underlying67 (by kernel_rfl) rfl (by decide)
/-- One more of seven cells, behind a row of the call's own, whatever the element is called. -/
theorem wpl_bufT {t e : TypeId} {z : Value} (E : EltI t e z 7 112) {w : World} {ops : Array Oper} {rest : List Oper} {o : Oper} {a : Act} {Q : Exit → Act → World → Prop} (hgd : o.guard = none) (s x : Operand)
    (ho : o.op = .call { callee := .builtin .append, args := #[s, x], argTypes := #[t, t] })
    {base : Nat} {v : Value} {M : List (Bf × Gb)} (hs : a.eval s = v) (ha : ApC base e 7 w v M.length (bcl M)) {k c : Nat} {te : TypeId} {b : Bf} {g : Gb} (hx : a.eval x = .slice (some ⟨k, 0, none⟩) 1 c) (hk : BoxA w k te (bcs b g)) (hr : ∀ u ∈ (bcs b g).toList, u.oneCell' = true)
    (hl : M.length ≤ 1000000) (hb : base ≤ w.heap.size)
    (h : ∀ p c w', ApC base e 7 w' (.slice p (M.length + 1) c) (M ++ [(b, g)]).length (bcl (M ++ [(b, g)])) → Below base w w' → wpList Tryz.prog ops Q rest (a.put o.dst (.slice p (M.length + 1) c)) w') :
    wpList Tryz.prog ops Q (o :: rest) a w := by
  refine wpl_ap E hgd s x ho hs ha hx (box_rdc hk) rfl hr (by unfold maxLen; omega) (by omega) hb fun p c w' h1 h2 h3 => h p c w' ?_ h3
  rw [bcl_app, List.length_append]
  exact h1
theorem take_snoc {α : Type} {l : List α} {i : Nat} {x : α} (h : l[i]? = some x) : l.take i ++ [x] = l.take (i + 1) := by rw [List.take_add_one, h]; rfl
set_option maxHeartbeats 4000000 in
theorem bufs_any {w : World} {v : Value} {L : List (Bf × Gb)} (h : RBs w v L) (hl : L.length ≤ 1000) :
    Calls Tryz.prog 43 #[v] w fun e w' => ∃ u, e = .returned u ∧ ApC w.heap.size 60 7 w' u L.length (bcl L) ∧ Below w.heap.size w w' := by
  obtain ⟨p, c, rfl, f⟩ := h.form
  obtain ⟨n, hn⟩ : ∃ n, L.length = n := ⟨_, rfl⟩
  have HRL := Lib.hid (fun (Y : World) (hy : Below w.heap.size w Y) => (h.next hy).rows)
  have HF := Lib.hid f
  have HN := Lib.hid hn
  rw [hn] at hl ⊢
  clear h f hn
  go_enter Tryz.func43, Tryz.ntmps43
  go_wp2
  go_loopw [3, 8] (fun s3 s8 wr => ∃ (i : Nat) (pp : Option Addr) (cc : Nat), s3 = .slice pp i cc ∧ s8 = .int .i64 (i : Nat) ∧ i ≤ n ∧ Aside (ApC w.heap.size 60 7 wr (.slice pp i cc) (L.take i).length (bcl (L.take i))) ∧ Aside (Below w.heap.size w wr)) (fun _ s8 _ => n - (intOf s8).toNat)
  case atStart => exact ⟨0, none, 0, rfl, rfl, Nat.zero_le _, .inl ⟨none, rfl, rfl, rfl⟩, Below.refl _ _⟩
  case round =>
    obtain ⟨i, pp, cc, rfl, rfl, hi, ha, hb⟩ := hrel
    have HA := Lib.hid (show ApC w.heap.size 60 7 wr (.slice pp i cc) (L.take i).length (bcl (L.take i)) from ha)
    have HB := Lib.hid (show Below w.heap.size w wr from hb)
    clear ha hb
    by_cases hin : i < n
    · obtain ⟨q, hq⟩ : ∃ q, L[i]? = some q := ⟨_, List.getElem?_eq_getElem (by rw [HN.out]; exact hin)⟩
      obtain ⟨kb, off, rfl, hk, hc⟩ := BC.of (HF.out (ne_of_at hq))
      have HQR := Lib.hid (fun (Y : World) (hy : Below w.heap.size w Y) => HRL.out Y hy q (List.mem_of_getElem? hq))
      have HC := Lib.hid (show BC L kb off wr from hc.next hk HB.out)
      have HQ := Lib.hid hq
      have lkb : kb < wr.heap.size := Nat.lt_of_lt_of_le hk HB.out.size
      have hti : (L.take i).length = i := by rw [List.length_take, HN.out]; omega
      have HTI := Lib.hid hti
      clear hq hk hc HF hti
      go_upto_region 5 with (first
        | (refine wpList_load_mid rfl _ _ rfl kb (off + i * 7) rfl [.int .i64 q.1.job, .string (str q.1.name), .string (str q.1.user), .string (str q.1.pool), .bool q.1.opn, q.2.e, q.2.r] _ (HC.out i q HQ.out) Tryz.underlying26 rfl (by kernel_rfl) ?_)
        | (refine wpList_store_row rfl _ _ _ rfl wr.heap.size (bcs q.1 q.2) rfl rfl _ _ (BoxA.new wr _ _) (by kernel_rfl) rfl (bcs_all (HQR.out _ HB.out)) ?_))
      obtain ⟨W1, hW1, hkW1, hbW1⟩ := box_endB wr #[.int .i64 0, .string { data := #[] }, .string { data := #[] }, .string { data := #[] }, .bool false, .slice none 0 0, .slice none 0 0] (bcs q.1 q.2) 26
      rw [hW1]
      have HKW := Lib.hid (show BoxA W1 wr.heap.size 26 #[.int .i64 q.1.job, .string (str q.1.name), .string (str q.1.user), .string (str q.1.pool), .bool q.1.opn, q.2.e, q.2.r] from hkW1)
      have HBW := Lib.hid hbW1
      have HX2 := Lib.hid (show BoxA (W1.alloc (.cells #[.int .i64 q.1.job, .string (str q.1.name), .string (str q.1.user), .string (str q.1.pool), .bool q.1.opn, q.2.e, q.2.r] 60)) W1.heap.size 60 (bcs q.1 q.2) from BoxA.new _ _ _)
      have HX3 := Lib.hid ((Below.refl _ W1).alloc (Nat.le_refl W1.heap.size) (.cells #[.int .i64 q.1.job, .string (str q.1.name), .string (str q.1.user), .string (str q.1.pool), .bool q.1.opn, q.2.e, q.2.r] 60))
      clear hW1 hkW1 hbW1 lkb
      try simp only [Act.put]
      go_upto_region 6 with (first
        | (refine wpl_load_g (by rfl) _ _ rfl wr.heap.size rfl _ _ _ _ HKW.out Tryz.underlying26 rfl (by kernel_rfl) ?_)
        | (at_builtin; refine wpl_bufT eltK rfl _ _ rfl (v := .slice _ _ _) rfl ((HA.out.next HBW.out).next HX3.out) rfl HX2.out (bcs_one (HQR.out _ HB.out)) (by rw [HTI.out]; omega) (Nat.le_trans HB.out.size (Nat.le_trans HBW.out.size HX3.out.size)) ?_; intro pp2 cc2 w6 h1 h3; have HO6 := Lib.hid h1; have HV6 := Lib.hid (show Below w.heap.size w w6 from ((HB.out.trans (HBW.out.mono HB.out.size)).trans (HX3.out.mono (Nat.le_trans HB.out.size HBW.out.size))).trans h3); clear h1 h3))
      rw [HTI.out, take_snoc HQ.out] at HO6
      rw [show min i L.length = i by rw [HN.out]; omega]
      go_wp2
      go_roundw
      case rel => exact ⟨i + 1, pp2, cc2, rfl, by go_num, by omega, HO6.out, HV6.out⟩
      case measure => simp [intOf]; omega
    · obtain rfl : i = n := by omega
      have hfin : ApC w.heap.size 60 7 wr (.slice pp i cc) i (bcl L) := by
        have := HA.out
        rw [List.take_of_length_le (by rw [HN.out]; exact Nat.le_refl _), HN.out] at this
        exact this
      have HFI := Lib.hid hfin
      clear hfin
      go_wp2
      go_ret
      exact ⟨_, rfl, HFI.out, HB.out⟩
theorem below_growB (w : World) (n : Nat) (os : Array Obj) : Below w.heap.size w (Go.Sort.grow (w.drewN n) os) :=
  ⟨rfl, rfl, rfl, by show w.heap.size ≤ (w.heap ++ os).size; rw [Array.size_append]; omega, fun _ hj => Go.Sort.heap_grow_old (w.drewN n) os hj⟩
theorem lt_tr (a b c : Bf) (h1 : lt a b = true) (h2 : lt b c = true) : lt a c = true := bu.lt_trans h1 h2
set_option maxHeartbeats 4000000 in
theorem risingB_any {w : World} {v : Value} {L : List (Bf × Gb)} (h : RdC w v L.length (bcl L)) (hl : L.length ≤ 1000) :
    Calls Tryz.prog 42 #[v, .func (.func 32) #[] #[]] w (TellsM (.bool (decide ((L.map Prod.fst).Pairwise fun a b => lt a b = true))) w) := by
  have HROW := Lib.hid (fun (Y : World) (hy : Below w.heap.size w Y) => h.next hy)
  obtain ⟨p, c, rfl⟩ := h.form
  obtain ⟨n, hn⟩ : ∃ n, L.length = n := ⟨_, rfl⟩
  have HN := Lib.hid hn
  rw [hn] at hl HROW ⊢
  clear h hn
  have eg : ∀ args w, (callFunc 32 args).run Tryz.prog w = .ok (.enter 32 args) w := enters_of Tryz.func32 (by kernel_rfl) rfl
  have mixed : Tryz.prog.follows .mixedOrders = true := by kernel_rfl
  obtain ⟨ans, hans⟩ : ∃ ans, decide ((L.map Prod.fst).Pairwise fun a b => lt a b = true) = ans := ⟨_, rfl⟩
  rw [hans]
  have HANS := Lib.hid hans
  clear hans
  go_enter Tryz.func42, Tryz.ntmps42
  go_wp2
  go_loopw [5] (fun s5 wr => ∃ (j : Nat), s5 = .int .i64 ((j : Int) + 1) ∧ j ≤ n ∧ Aside (AdjTo lt (L.map Prod.fst) (j + 1)) ∧ Aside (Below w.heap.size w wr)) (fun s5 _ => n - (intOf s5).toNat)
  case atStart => exact ⟨0, rfl, Nat.zero_le _, AdjTo.one _ _, Below.refl _ _⟩
  case round =>
    obtain ⟨j, rfl, hj, ha, hb⟩ := hrel
    have HA := Lib.hid (show AdjTo lt (L.map Prod.fst) (j + 1) from ha)
    have HB := Lib.hid (show Below w.heap.size w wr from hb)
    clear ha hb
    by_cases hjn : j + 1 < n
    · have hjn2 : (j : Int) + 1 < (n : Int) := by omega
      obtain ⟨x, hx⟩ : ∃ x, L[j]? = some x := ⟨_, List.getElem?_eq_getElem (by rw [HN.out]; omega)⟩
      obtain ⟨y, hy⟩ : ∃ y, L[j + 1]? = some y := ⟨_, List.getElem?_eq_getElem (by rw [HN.out]; omega)⟩
      rcases HROW.out w (Below.refl _ _) with ⟨p', c', he, hn0, _⟩ | ⟨k, off, c', he, hk, hc⟩
      · exfalso; simp only [Value.slice.injEq] at he; omega
      · simp only [Value.slice.injEq, true_and] at he
        obtain ⟨rfl, rfl⟩ := he
        have HCX := Lib.hid (fun (Y : World) (hY : Below w.heap.size w Y) (i : Nat) (u : Value) (hi : i < 7) (hu : (bcs x.1 x.2)[i]? = some u) => (show Y.cell? ⟨k, off + j * 7 + i, none⟩ = some u from by
          have := (low_cell hY hk).trans (hc (j * 7 + i) u (bcl_at L j x hx i u hi hu))
          rwa [← Nat.add_assoc] at this))
        have HCY := Lib.hid (fun (Y : World) (hY : Below w.heap.size w Y) (i : Nat) (u : Value) (hi : i < 7) (hu : (bcs y.1 y.2)[i]? = some u) => (show Y.cell? ⟨k, off + (j + 1) * 7 + i, none⟩ = some u from by
          have := (low_cell hY hk).trans (hc ((j + 1) * 7 + i) u (bcl_at L (j + 1) y hy i u hi hu))
          rwa [← Nat.add_assoc] at this))
        have HCMP := Lib.hid (fun (Y : World) => (compareB_any x y Y).mono (fun e w' (hh : e = .returned (.int .i64 (cmpB x.1 y.1)) ∧ ∃ n os, w' = Go.Sort.grow (Y.drewN n) os) => (show e = .returned (.int .i64 (cmpB x.1 y.1)) ∧ Below Y.heap.size Y w' from ⟨hh.1, by obtain ⟨n, os, rfl⟩ := hh.2; exact below_growB _ n os⟩)))
        have HNO := Lib.hid (bu.cmpB_no x.1 y.1)
        have HXY := Lib.hid (And.intro (fst_at hx) (fst_at hy))
        obtain ⟨z, hz⟩ : ∃ z, cmpB x.1 y.1 = z := ⟨_, rfl⟩
        rw [hz] at HCMP HNO
        have hkk : k < wr.heap.size := Nat.lt_of_lt_of_le hk HB.out.size
        have t1 : ((j : Int) + 1 - 1) = (j : Int) := by omega
        have t2 : ((j : Int) + 1).toNat = j + 1 := by omega
        have f1 : (0 : Int) ≤ (j : Int) + 1 := by omega
        have f2 : (0 : Int) ≤ (j : Int) := by omega
        have f3 : (j : Int) < (n : Int) := by omega
        have hw1 : IntKind.i64.wrap ((j : Int) + 1 - 1) = (j : Int) := by rw [IntKind.wrap_i64]; omega
        have hw2 : IntKind.i64.wrap (j : Int) = (j : Int) := by rw [IntKind.wrap_i64]; omega
        clear hc hx hy hz
        unfold bV bcs at HCMP
        try dsimp only at HCMP
        obtain ⟨b1, g1⟩ := x
        obtain ⟨b2, g2⟩ := y
        try dsimp only at HCX HCY HNO HXY HCMP
        go_upto_region 4 with fail
        have HD := Lib.hid (show Below w.heap.size w wr.drew from HB.out.drew)
        have HKP := Lib.hid (fun (Y : World) (hY : Below w.heap.size w Y) => (show Y.cell? ⟨k, off + j * 7, none⟩ = some (.int .i64 b1.job) ∧ Y.cell? ⟨k, off + j * 7 + 1, none⟩ = some (.string (str b1.name)) ∧ Y.cell? ⟨k, off + j * 7 + 2, none⟩ = some (.string (str b1.user)) ∧ Y.cell? ⟨k, off + j * 7 + 3, none⟩ = some (.string (str b1.pool)) ∧ Y.cell? ⟨k, off + j * 7 + 4, none⟩ = some (.bool b1.opn) ∧ Y.cell? ⟨k, off + j * 7 + 5, none⟩ = some (g1.e) ∧ Y.cell? ⟨k, off + j * 7 + 6, none⟩ = some (g1.r) ∧ Y.cell? ⟨k, off + (j + 1) * 7, none⟩ = some (.int .i64 b2.job) ∧ Y.cell? ⟨k, off + (j + 1) * 7 + 1, none⟩ = some (.string (str b2.name)) ∧ Y.cell? ⟨k, off + (j + 1) * 7 + 2, none⟩ = some (.string (str b2.user)) ∧ Y.cell? ⟨k, off + (j + 1) * 7 + 3, none⟩ = some (.string (str b2.pool)) ∧ Y.cell? ⟨k, off + (j + 1) * 7 + 4, none⟩ = some (.bool b2.opn) ∧ Y.cell? ⟨k, off + (j + 1) * 7 + 5, none⟩ = some (g2.e) ∧ Y.cell? ⟨k, off + (j + 1) * 7 + 6, none⟩ = some (g2.r) from ⟨HCX.out _ hY 0 _ (by decide) rfl, HCX.out _ hY 1 _ (by decide) rfl, HCX.out _ hY 2 _ (by decide) rfl, HCX.out _ hY 3 _ (by decide) rfl, HCX.out _ hY 4 _ (by decide) rfl, HCX.out _ hY 5 _ (by decide) rfl, HCX.out _ hY 6 _ (by decide) rfl, HCY.out _ hY 0 _ (by decide) rfl, HCY.out _ hY 1 _ (by decide) rfl, HCY.out _ hY 2 _ (by decide) rfl, HCY.out _ hY 3 _ (by decide) rfl, HCY.out _ hY 4 _ (by decide) rfl, HCY.out _ hY 5 _ (by decide) rfl, HCY.out _ hY 6 _ (by decide) rfl⟩))
        have HK0 := HKP.out _ HD.out
        go_region_held3 (fun W => W.cell? ⟨k, off + j * 7, none⟩ = some (.int .i64 b1.job) ∧ W.cell? ⟨k, off + j * 7 + 1, none⟩ = some (.string (str b1.name)) ∧ W.cell? ⟨k, off + j * 7 + 2, none⟩ = some (.string (str b1.user)) ∧ W.cell? ⟨k, off + j * 7 + 3, none⟩ = some (.string (str b1.pool)) ∧ W.cell? ⟨k, off + j * 7 + 4, none⟩ = some (.bool b1.opn) ∧ W.cell? ⟨k, off + j * 7 + 5, none⟩ = some (g1.e) ∧ W.cell? ⟨k, off + j * 7 + 6, none⟩ = some (g1.r) ∧ W.cell? ⟨k, off + (j + 1) * 7, none⟩ = some (.int .i64 b2.job) ∧ W.cell? ⟨k, off + (j + 1) * 7 + 1, none⟩ = some (.string (str b2.name)) ∧ W.cell? ⟨k, off + (j + 1) * 7 + 2, none⟩ = some (.string (str b2.user)) ∧ W.cell? ⟨k, off + (j + 1) * 7 + 3, none⟩ = some (.string (str b2.pool)) ∧ W.cell? ⟨k, off + (j + 1) * 7 + 4, none⟩ = some (.bool b2.opn) ∧ W.cell? ⟨k, off + (j + 1) * 7 + 5, none⟩ = some (g2.e) ∧ W.cell? ⟨k, off + (j + 1) * 7 + 6, none⟩ = some (g2.r)) (first | exact HKP.out _ HD.out | exact HKP.out _ A9.out) ((go_at_fn 32; ((with_reducible refine (HCMP.out _).mono ?_); rintro e w9 ⟨rfl, hb⟩); have A9 := Lib.hid (HD.out.trans (hb.mono HD.out.size)); clear hb))
        have hno := HNO.out
        obtain ⟨lb, hlb⟩ : ∃ lb, lt b1 b2 = lb := ⟨_, rfl⟩
        rw [hlb] at hno
        rw [hno]
        have HLB := Lib.hid hlb
        clear hno hlb HK0
        cases lb with
        | true =>
          go_wp2
          go_roundw
          case rel => exact ⟨j + 1, by go_num, by omega, HA.out.step HXY.out.1 HXY.out.2 HLB.out, A9.out⟩
          case measure => simp [intOf]; omega
        | false =>
          have HFA := Lib.hid (show ans = false by
            rw [← HANS.out]
            refine decide_eq_false fun hp => ?_
            have h9 := bu.pair_adj hp j _ _ HXY.out.1 HXY.out.2
            rw [HLB.out] at h9
            cases h9)
          go_wp2
          go_ret
          exact ⟨by rw [HFA.out]; rfl, A9.out⟩
    · have HFA := Lib.hid (show ans = true by
        rw [← HANS.out]
        refine decide_eq_true (HA.out.all lt_tr ?_)
        rw [List.length_map, HN.out]
        omega)
      have hjn2 : ¬ (j : Int) + 1 < (n : Int) := by omega
      go_wp2
      go_ret
      exact ⟨by rw [HFA.out]; rfl, HB.out⟩
theorem cmpJ_no (a b : Int) : decide (0 ≤ cmpJ a b) = !decide (a < b) := by
  unfold bu.cmpJ
  by_cases h : a < b
  · simp [h]
  · by_cases h2 : b < a
    · simp [h, h2]
    · simp [h, h2]
theorem ilt_tr (a b c : Int) (h1 : decide (a < b) = true) (h2 : decide (b < c) = true) : decide (a < c) = true := by
  simp only [decide_eq_true_eq] at *
  omega
set_option maxHeartbeats 4000000 in
theorem risingI_any {w : World} {v : Value} {l : List Int} (h : RI w v l) (hl : l.length ≤ 1000) :
    Calls Tryz.prog 61 #[v, .func (.func 62) #[] #[]] w (TellsM (.bool (decide (l.Pairwise (· < ·)))) w) := by
  have HROW := Lib.hid (fun (Y : World) (hy : Below w.heap.size w Y) => h.next hy)
  obtain ⟨p, c, rfl, f⟩ := h.form
  obtain ⟨n, hn⟩ : ∃ n, l.length = n := ⟨_, rfl⟩
  have HN := Lib.hid hn
  have HF := Lib.hid f
  rw [hn] at hl ⊢
  clear h hn f
  have eg : ∀ args w, (callFunc 62 args).run Tryz.prog w = .ok (.enter 62 args) w := enters_of Tryz.func62 (by kernel_rfl) rfl
  have mixed : Tryz.prog.follows .mixedOrders = true := by kernel_rfl
  obtain ⟨ans, hans⟩ : ∃ ans, decide (l.Pairwise (· < ·)) = ans := ⟨_, rfl⟩
  rw [hans]
  have HANS := Lib.hid hans
  clear hans
  go_enter Tryz.func61, Tryz.ntmps61
  go_wp2
  go_loopw [5] (fun s5 wr => ∃ (j : Nat), s5 = .int .i64 ((j : Int) + 1) ∧ j ≤ n ∧ Aside (AdjTo (fun a b : Int => decide (a < b)) l (j + 1)) ∧ Aside (Below w.heap.size w wr)) (fun s5 _ => n - (intOf s5).toNat)
  case atStart => exact ⟨0, rfl, Nat.zero_le _, AdjTo.one _ _, Below.refl _ _⟩
  case round =>
    obtain ⟨j, rfl, hj, ha, hb⟩ := hrel
    have HA := Lib.hid (show AdjTo (fun a b : Int => decide (a < b)) l (j + 1) from ha)
    have HB := Lib.hid (show Below w.heap.size w wr from hb)
    clear ha hb
    by_cases hjn : j + 1 < n
    · have hjn2 : (j : Int) + 1 < (n : Int) := by omega
      obtain ⟨x, hx⟩ : ∃ x, l[j]? = some x := ⟨_, List.getElem?_eq_getElem (by rw [HN.out]; omega)⟩
      obtain ⟨y, hy⟩ : ∃ y, l[j + 1]? = some y := ⟨_, List.getElem?_eq_getElem (by rw [HN.out]; omega)⟩
      obtain ⟨k, off, rfl, hk, hc⟩ := HF.out (ne_of_at hx)
      have HCC := Lib.hid (fun (Y : World) (hY : Below w.heap.size w Y) => (show Y.cell? ⟨k, off + j, none⟩ = some (.int .i64 x) ∧ Y.cell? ⟨k, off + (j + 1), none⟩ = some (.int .i64 y) from ⟨(low_cell hY hk).trans (hc j x hx), (low_cell hY hk).trans (hc (j + 1) y hy)⟩))
      have HCMP := Lib.hid (fun (Y : World) => bcmp_any x y Y)
      have HNO := Lib.hid (cmpJ_no x y)
      have HXY := Lib.hid (And.intro hx hy)
      obtain ⟨z, hz⟩ : ∃ z, cmpJ x y = z := ⟨_, rfl⟩
      rw [hz] at HCMP HNO
      have hkk : k < wr.heap.size := Nat.lt_of_lt_of_le hk HB.out.size
      have t1 : ((j : Int) + 1 - 1) = (j : Int) := by omega
      have t2 : ((j : Int) + 1).toNat = j + 1 := by omega
      have f1 : (0 : Int) ≤ (j : Int) + 1 := by omega
      have f2 : (0 : Int) ≤ (j : Int) := by omega
      have f3 : (j : Int) < (n : Int) := by omega
      have hw1 : IntKind.i64.wrap ((j : Int) + 1 - 1) = (j : Int) := by rw [IntKind.wrap_i64]; omega
      have hw2 : IntKind.i64.wrap (j : Int) = (j : Int) := by rw [IntKind.wrap_i64]; omega
      clear hc hx hy hz
      go_upto_region 4 with fail
      have HD := Lib.hid (show Below w.heap.size w wr.drew from HB.out.drew)
      have HK0 := HCC.out _ HD.out
      go_region_held3 (fun W => W.cell? ⟨k, off + j, none⟩ = some (.int .i64 x) ∧ W.cell? ⟨k, off + (j + 1), none⟩ = some (.int .i64 y)) (first | exact HCC.out _ HD.out) ((go_at_fn 62; ((with_reducible refine (HCMP.out _).mono ?_); rintro e w9 ⟨rfl, rfl⟩)))
      have hno := HNO.out
      obtain ⟨lb, hlb⟩ : ∃ lb, decide (x < y) = lb := ⟨_, rfl⟩
      rw [hlb] at hno
      rw [hno]
      have HLB := Lib.hid hlb
      clear hno hlb HK0
      cases lb with
      | true =>
        go_wp2
        go_roundw
        case rel => exact ⟨j + 1, by go_num, by omega, HA.out.step HXY.out.1 HXY.out.2 HLB.out, HD.out⟩
        case measure => simp [intOf]; omega
      | false =>
        have HFA := Lib.hid (show ans = false by
          rw [← HANS.out]
          refine decide_eq_false fun hp => ?_
          have h9 := bu.pair_adj hp j _ _ HXY.out.1 HXY.out.2
          exact absurd h9 (of_decide_eq_false HLB.out))
        go_wp2
        go_ret
        exact ⟨by rw [HFA.out]; rfl, HD.out⟩
    · have HFA := Lib.hid (show ans = true by
        rw [← HANS.out]
        refine decide_eq_true (List.Pairwise.imp (fun h => of_decide_eq_true h) (HA.out.all ilt_tr ?_))
        rw [HN.out]
        omega)
      have hjn2 : ¬ (j : Int) + 1 < (n : Int) := by omega
      go_wp2
      go_ret
      exact ⟨by rw [HFA.out]; rfl, HB.out⟩
end Go.Proofs.YtkjffoebcblpoaaGreat.gn
end
