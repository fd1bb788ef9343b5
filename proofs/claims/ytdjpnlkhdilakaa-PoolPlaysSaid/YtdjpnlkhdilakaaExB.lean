/- sorted: the contract. -/
import Derived.Test.YtdjpnlkhdilakaaExA
set_option linter.unusedVariables false
set_option maxRecDepth 100000
namespace Go.Proofs.Ytdjpnlkhdilakaa.gn
open Go.RowKit Go.Shelf Go.Sort Go.Lib
open Go.Proofs.Ytdjpnlkhdilakaa.ex

attribute [local go_sem] Oper.semAt_some

theorem infoExt : (Try.prog.info? 54).map (fun i => (i.zero, i.size, i.bytes)) = some (some (.agg #[.int .i64 0, .int .i64 0]), 2, 16) := by kernel_rfl
theorem clone_empty (a : Addr) (c : Nat) (w : World) : Calls Try.prog 62 #[.slice (some a) 0 c] w fun e w' => ∃ v', e = .returned v' ∧ OwnX w.heap.size w' v' [] ∧ Below w.heap.size w w' := by
  have hi := infoExt
  cases hj : Try.prog.info? 54 with
  | none => rw [hj] at hi; cases hi
  | some i0 =>
    rw [hj] at hi
    simp only [Option.map_some, Option.some.injEq, Prod.mk.injEq] at hi
    have HI := Lib.hid (And.intro hj hi)
    have heq := fun W : World => Lib.run_eql_slice_nil (P := Try.prog) W 22 54 (some a) 0 c 0 0 Try.underlying22
    clear hj hi
    go_enter Try.func62, Try.ntmps62
    go_wp2_with (at_builtin; refine wpList_append_own _ rfl _ _ 22 rfl w.heap.size 54 i0 (.agg #[.int .i64 0, .int .i64 0]) 2 16 Try.underlying22 HI.out.1 HI.out.2.1 HI.out.2.2.1 HI.out.2.2.2 rfl (by decide) (.slice (some ⟨w.heap.size, 0, none⟩) 0 0) 0 [] rfl (World.ownsRow_made w #[] 0 (Nat.le_refl _) (Nat.zero_le _) (by simp)) a 0 c [] rfl rfl (fun j u hu => by cases hu) (fun u hu => by cases hu) (by decide) (by omega) (by simp) ?_; intro v' w1 hown hgr _)
    go_ret
    refine ⟨_, rfl, hown, ((Below.refl _ w).alloc (Nat.le_refl _) _).grown hgr (by simp) fun k hk => ?_⟩
    have : k = w.heap.size := by simpa [Value.ownBlock] using hk.symm
    omega
theorem clone_any {w : World} {v : Value} {l : List X} (h : Rd w v l) (hl : l.length ≤ 4000) : Calls Try.prog 62 #[v] w fun e w' => ∃ v', e = .returned v' ∧ OwnX w.heap.size w' v' l ∧ Below w.heap.size w w' := by
  rcases h with ⟨p, c, rfl, rfl, _⟩ | ⟨b, off, c, rfl, hlt, hc⟩
  · cases p with
    | none =>
      have := AnyE.slices_Clone_nil layClone 0 c w
      refine Calls.mono (f := 62) this ?_
      rintro e w' ⟨rfl, rfl⟩
      exact ⟨_, rfl, OwnX.nil _ _, Below.refl _ _⟩
    | some a => exact clone_empty a c w
  · have hi := infoExt
    cases hj : Try.prog.info? 54 with
    | none => rw [hj] at hi; cases hi
    | some i0 =>
      rw [hj] at hi
      simp only [Option.map_some, Option.some.injEq, Prod.mk.injEq] at hi
      have := AnyE.slices_Clone layClone i0 (.agg #[.int .i64 0, .int .i64 0]) 2 16 hj hi.1 hi.2.1 hi.2.2 rfl (by decide) Try.sizeOf54 b off l.length c (fl l) w (fl_length l) (by unfold maxLen; omega) (by omega)
        (fun j u hu => by
          have hj2 : j < l.length * 2 := by rw [← fl_length]; exact (List.getElem?_eq_some_iff.1 hu).1
          have h1 := fl_at l (j / 2) (by omega)
          have h2 := hc (j / 2) (by omega)
          rcases Nat.mod_two_eq_zero_or_one j with hm | hm
          · have e : j / 2 * 2 = j := by omega
            rw [e] at h1 h2
            rw [h1.1] at hu; cases hu
            exact h2.1
          · have e : j / 2 * 2 + 1 = j := by omega
            rw [Nat.add_assoc, e] at h2
            rw [e] at h1
            rw [h1.2] at hu; cases hu
            exact h2.2)
        (fl_one l)
      refine Calls.mono (f := 62) this ?_
      rintro e w' ⟨v', rfl, h1, _, h2⟩
      exact ⟨v', rfl, h1, h2⟩

theorem cf_neg (x y : X) : cf x y < 0 ↔ x.1 < y.1 := by
  unfold cf
  split
  · rename_i h; exact ⟨fun _ => h, fun _ => by omega⟩
  · rename_i h
    split
    · exact ⟨fun h => by omega, fun h2 => absurd h2 h⟩
    · exact ⟨fun h => by omega, fun h2 => absurd h2 h⟩
theorem lt_cf (x y : X) : ltOf cf x y = decide (x.1 < y.1) := decide_eq_decide.2 (cf_neg x y)
theorem cf_swo : SWO (ltOf cf) where
  irrefl x := by rw [lt_cf]; simp
  trans x y z h1 h2 := by
    rw [lt_cf, decide_eq_true_eq] at *
    omega
  ntrans x y z h1 h2 := by
    rw [lt_cf, decide_eq_false_iff_not] at *
    omega
theorem elt37 : Elt Try.prog laySortFunc_ren 2 := ⟨Try.isAgg54, Try.sizeOf54⟩
theorem enc_cell (x : X) : (encX x)[0]! = .int .i64 x.1 ∧ (encX x)[1]! = .int .i64 x.2 := ⟨rfl, rfl⟩
theorem flat_fl (l : List X) : flatK encX 2 l.toArray = (fl l).toArray := by
  refine ext_get! (by simp [fl_length]) fun t ht => ?_
  have ht' : t < l.length * 2 := by simpa using ht
  rw [get_flatK _ _ _ _ (by simpa using ht')]
  have h1 := fl_at l (t / 2) (by omega)
  have e0 : l.toArray[t / 2]! = l[t / 2]! := by simp
  rw [e0]
  have ht2 : t < (fl l).length := by rw [fl_length]; exact ht'
  have e1 : ((fl l).toArray)[t]! = (fl l)[t]! := by simp
  rw [e1]
  rcases Nat.mod_two_eq_zero_or_one t with hm | hm
  · rw [hm, (enc_cell _).1]
    have h2 := h1.1
    rw [show t / 2 * 2 = t by omega] at h2
    rw [getElem!_pos (fl l) t ht2]
    rw [List.getElem?_eq_getElem ht2] at h2
    exact (Option.some.inj h2).symm
  · rw [hm, (enc_cell _).2]
    have h2 := h1.2
    rw [show t / 2 * 2 + 1 = t by omega] at h2
    rw [getElem!_pos (fl l) t ht2]
    rw [List.getElem?_eq_getElem ht2] at h2
    exact (Option.some.inj h2).symm
theorem below_sw {w w' : World} {blk off B : Nat} {d : Array X} (h : SWK encX 2 w blk off d w') (hb : B ≤ blk) (hB : B ≤ w.heap.size) : Below B w w' := by
  obtain ⟨n, os, rfl⟩ := h
  unfold sortWorldK
  refine ⟨rfl, rfl, rfl, ?_, fun k hk => ?_⟩
  · rw [size_grow, size_putRowK]; exact Nat.le_add_right _ _
  · rw [heap_grow_old _ _ (by rw [size_putRowK]; show k < w.heap.size; omega)]
    simp [putRowK, putRow, mapBlock, Sort.ahead, Array.getElem?_modify, show blk ≠ k by omega]
theorem sort_any {base : Nat} {w : World} {v : Value} {l : List X} (h : OwnX base w v l) (hB : base ≤ w.heap.size) (hl : l.length ≤ 4000) :
    Calls Try.prog 63 #[v, .func (.func 65) #[.func (.func 64) #[] #[]] #[]] w fun e w' => e = .returned (.tuple #[]) ∧ Below base w w' ∧ ∃ s, RdS w' v s ∧ s.Perm l ∧ Inc s ∧ ∀ g, v.ownBlock = some g → base ≤ g := by
  have hown : ∀ g, v.ownBlock = some g → base ≤ g := fun g hg => (World.ownsRow.lt h g hg).1
  cases l with
  | nil =>
    obtain ⟨p, c, rfl⟩ := h.rd.len
    have := AnyF.slices_SortFunc_none laySortFunc p c (.func (.func 65) #[.func (.func 64) #[] #[]] #[]) w
    refine Calls.mono (f := 63) this ?_
    rintro e w' ⟨rfl, rfl⟩
    exact ⟨rfl, Below.refl _ _, [], h.rds, .refl _, .nil, hown⟩
  | cons x0 l0 =>
    generalize hL : x0 :: l0 = l at *
    have hpos : l.length ≠ 0 := by rw [← hL]; simp
    clear hL
    obtain ⟨h1, ⟨rfl, h2⟩ | ⟨g, cap, cur, rfl, hb, hg, hn, hcap, hcur, htake⟩⟩ := h
    · exact absurd h2 hpos
    · have hglt : g < w.heap.size := (Array.getElem?_eq_some_iff.1 hg).1
      have hH : HoldsK encX 2 w g 0 l.toArray := by
        unfold HoldsK
        rw [flat_fl]
        intro j hj
        have hj' : j < (fl l).length := by simpa using hj
        refine ⟨?_, by simp [World.frozen?, hg]⟩
        have hc := World.ownsRow.cells (⟨h1, .inr ⟨g, cap, cur, rfl, hb, hg, hn, hcap, hcur, htake⟩⟩ : w.ownsRow base 54 2 (.slice (some ⟨g, 0, none⟩) l.length cap) l.length (fl l)) rfl j (fl l)[j] (List.getElem?_eq_getElem hj')
        rw [Addr.add_lit] at hc
        rw [hc]
        simp [hj']
      have M : Srt Try.prog encX 2 cf 65 #[.func (.func 64) #[] #[]] #[] w g 0 l.toArray :=
        { R := ⟨fun _ => rfl, fun x v hv => by simp [encX] at hv; rcases hv with rfl | rfl <;> rfl, hH, hglt⟩
          hO := cf_swo
          hsz := by simp; omega
          eg := enters_of Try.func65 (by kernel_rfl) rfl
          says := fun d W _ _ x y => compare_any x y W }
      have := sv_sort laySortFunc elt37 (cap := cap) M
      rw [List.size_toArray] at this
      refine Calls.mono (f := 63) this ?_
      rintro e w' ⟨rfl, d', ⟨hp, hs⟩, S⟩
      have hsz : d'.size = l.length := by rw [hp.1]; simp
      have hH' := S.holds hglt hH (by rw [hsz]; simp)
      refine ⟨rfl, below_sw S hb (by omega), d'.toList, .inr ⟨g, 0, cap, by simp [hsz], S.lt hglt, fun j hj => ?_⟩, ?_, ?_, hown⟩
      · have hj' : j < d'.size := by simpa using hj
        have a := (hH'.cell hj' (show 0 < 2 by omega)).1
        have b := (hH'.cell hj' (show 1 < 2 by omega)).1
        rw [(enc_cell _).1, Nat.add_zero] at a
        rw [(enc_cell _).2] at b
        have e0 : d'.toList[j]! = d'[j]! := by rw [getElem!_pos d' j hj', getElem!_pos d'.toList j (by simpa using hj')]; simp
        rw [e0]
        exact ⟨a, b⟩
      · have hperm := hp.2.2
        rw [show (d'.extract 0 l.length) = d' by rw [← hsz]; simp, show (l.toArray.extract 0 l.length) = l.toArray by simp] at hperm
        simpa using hperm
      · refine List.pairwise_iff_getElem.2 fun i j hi hj hij => ?_
        have hj' : j < d'.size := by simpa using hj
        have := hs i j (Nat.zero_le _) hij (by omega)
        rw [lt_cf, decide_eq_false_iff_not, getElem!_pos d' i (by omega), getElem!_pos d' j hj'] at this
        simp only [Array.getElem_toList]
        omega

theorem sorted_any {w : World} {v : Value} {l : List X} (h : Rd w v l) (hl : l.length ≤ 4000) :
    Calls Try.prog 53 #[v] w fun e w' => ∃ v' s, e = .returned v' ∧ RdS w' v' s ∧ s.Perm l ∧ Inc s ∧ Below w.heap.size w w' ∧ ∀ g, v'.ownBlock = some g → w.heap.size ≤ g := by
  have c1 := clone_any h hl
  have C2 := Lib.hid fun (v' : Value) (w' : World) (h1 : OwnX w.heap.size w' v' l) (h2 : Below w.heap.size w w') => sort_any h1 h2.size hl
  clear h
  go_enter Try.func53, Try.ntmps53
  go_wp2_with (first
    | (go_at_call 62; refine c1.mono ?_; rintro e w1 ⟨v1, rfl, h1, hb1⟩; clear c1; have c2 := C2.out v1 w1 h1 hb1; have HB1 := Lib.hid hb1; clear h1 hb1)
    | (go_at_call 63; refine c2.mono ?_; rintro e w2 ⟨rfl, hb2, s, h3, h4, h5, h6⟩; have H3 := Lib.hid (And.intro hb2 (And.intro h3 (And.intro h4 (And.intro h5 h6)))); clear hb2 h3 h4 h5 h6 c2))
  go_ret
  obtain ⟨hb2, h3, h4, h5, h6⟩ := H3.out
  exact ⟨_, s, rfl, h3, h4, h5, HB1.out.trans hb2, h6⟩
end Go.Proofs.Ytdjpnlkhdilakaa.gn
