/- ExtentBack: the walk (written by gen_exX.py). -/
import Derived.Test.YtgimecpillhmcaaExW
import Derived.Test.YtgimecpillhmcaaExV
set_option linter.unusedVariables false
namespace Go.Proofs.Ytgimecpillhmcaa.gn
open Go.RowKit Go.Shelf Go.Sort Go.Lib
open Go.Proofs.Ytgimecpillhmcaa.ex

attribute [local go_sem] Oper.semAt_some

theorem great_any (p q : Option Addr) (n c m d : Nat) (w : World) : Calls Try.prog 6 #[.slice p n c, .slice q m d] w fun e w' => e = .returned (.bool (decide (40 < n) || decide (40 < m))) ∧ w' = w := by
  by_cases h1 : 40 < n
  · have a1 : decide ((40 : Int) < (n : Int)) = true := decide_eq_true (by omega)
    rw [decide_eq_true h1]
    clear h1
    go_enter Try.func6, Try.ntmps6
    go_wp2
    go_ret
    exact ⟨rfl, rfl⟩
  · have a1 : decide ((40 : Int) < (n : Int)) = false := decide_eq_false (by omega)
    rw [decide_eq_false h1, Bool.false_or]
    have a2 : decide ((40 : Int) < (m : Int)) = decide (40 < m) := decide_eq_decide.2 (by omega)
    clear h1
    generalize decide (40 < m) = r at *
    go_enter Try.func6, Try.ntmps6
    go_wp2
    go_ret
    exact ⟨rfl, rfl⟩
theorem quantB (n : Int) : (0 ≤ n ∧ n ≤ 1099511627776) ∨ ¬ (0 ≤ n ∧ n ≤ 1099511627776) := Classical.em _

set_option maxHeartbeats 8000000 in
set_option maxRecDepth 100000 in
theorem back_law {w : World} {va : Value} {l : List X} (h : Rd w va l) (n x : Int) (best : Bool) : Calls Try.prog 3 #[.agg #[va, .int .i64 n, .int .i64 x, .bool best]] w (TellsB true w) := by
  obtain ⟨p, c, rfl⟩ := h.len
  have mixed : Try.prog.follows .mixedOrders = true := by kernel_rfl
  have hb0 : RowKit.Below w.heap.size w (w.alloc (.cells #[.slice p l.length c, .int .i64 n, .int .i64 x, .bool best] 24)) := (Below.refl _ w).alloc (Nat.le_refl _) _
  have hh := World.alloc_heap_new w (.cells #[.slice p l.length c, .int .i64 n, .int .i64 x, .bool best] 24)
  have k0 : (w.alloc (.cells #[.slice p l.length c, .int .i64 n, .int .i64 x, .bool best] 24)).cell? ⟨w.heap.size, 0, none⟩ = some (.slice p l.length c) := cell_of_row _ _ 0 _ _ (0, 0) hh
  have k1 : (w.alloc (.cells #[.slice p l.length c, .int .i64 n, .int .i64 x, .bool best] 24)).cell? ⟨w.heap.size, 1, none⟩ = some (.int .i64 n) := cell_of_row _ _ 1 _ _ (0, 0) hh
  have k2 : (w.alloc (.cells #[.slice p l.length c, .int .i64 n, .int .i64 x, .bool best] 24)).cell? ⟨w.heap.size, 2, none⟩ = some (.int .i64 x) := cell_of_row _ _ 2 _ _ (0, 0) hh
  have k3 : (w.alloc (.cells #[.slice p l.length c, .int .i64 n, .int .i64 x, .bool best] 24)).cell? ⟨w.heap.size, 3, none⟩ = some (.bool best) := cell_of_row _ _ 3 _ _ (0, 0) hh
  have Fl := h.next hb0
  have lw : w.heap.size < (w.alloc (.cells #[.slice p l.length c, .int .i64 n, .int .i64 x, .bool best] 24)).heap.size := by simp
  clear h hh
  go_enter Try.func3, Try.ntmps3
  go_upto_region 1 with fail
  obtain ⟨w0, hw0⟩ : ∃ w0, w.alloc (.cells #[.slice p l.length c, .int .i64 n, .int .i64 x, .bool best] 24) = w0 := ⟨_, rfl⟩
  rw [hw0] at hb0 k0 k1 k2 k3 Fl lw ⊢
  clear hw0
  go_quiet (fail)
  have HB : Hid (RowKit.Below w.heap.size w (w0.drewN nq)) := ⟨hb0.os, hb0.tape, hb0.output, hb0.size, hb0.block⟩
  replace Fl : Rd (w0.drewN nq) (.slice p l.length c) l := Fl.below ⟨rfl, rfl, rfl, Nat.le_refl _, fun _ _ => rfl⟩ (Nat.le_refl _)
  generalize w0.drewN nq = y0 at *
  clear hb0 k0 k1 k2 k3 lw
  have cg := great_any p none l.length c 0 0 y0
  rw [show decide (40 < 0) = false from rfl, Bool.or_false] at cg
  by_cases hl : 40 < l.length
  · rw [decide_eq_true hl] at cg
    clear hl
    go_wp2_with fail
    refine Calls.mono cg ?_
    rintro e z ⟨rfl, rfl⟩
    go_wp2_with fail
    refine Calls.mono (head_any _) ?_
    rintro e z1 ⟨rfl, hb⟩
    have hx1 : RowKit.Below z.heap.size z z1 := by
      refine Below.trans ?_ (hb.mono ?_)
      · (first | exact Below.refl _ _ | exact (Below.refl _ _).alloc (by simp) _ | exact ((Below.refl _ _).alloc (by simp) _).alloc (by simp) _ | exact (((Below.refl _ _).alloc (by simp) _).alloc (by simp) _).alloc (by simp) _)
      · first | exact Nat.le_refl _ | (simp; done) | (simp; omega)
    replace Fl := Rd.next Fl hx1
    replace HB := Lib.hid (HB.out.trans (hx1.mono HB.out.size))
    clear hb hx1
    go_wp2_with fail
    go_ret
    exact ⟨rfl, HB.out⟩
  · rw [decide_eq_false hl] at cg
    go_wp2_with fail
    refine Calls.mono cg ?_
    rintro e z ⟨rfl, rfl⟩
    clear cg
    go_wp2_with fail
    have HL := Lib.hid hl
    clear hl
    rcases quantB n with hq | hq
    · by_cases hf : Fine l
      · by_cases ht : n ≤ tot l
        · have hll : l.length ≤ 40 := by have := HL.out; omega
          refine Calls.mono (Take_ok best Fl hq hf ht) ?_
          rintro e z1 hT
          obtain ⟨v6, v7, s, k, rfl, O6, O7, ti, h0, _, hb⟩ := hT
          have tf := ti.tf h0
          have F6 := O6.rd
          have F7 := O7.rd
          clear O6 O7 ti h0
          generalize nrm s.took = T at *
          generalize s.rest = R at *
          have fT := tf.fT (by omega)
          have fR := tf.fR (by omega)
          have hlN := (nrm_of hf.2.1 hf.2.2).len
          have HTF := Lib.hid (And.intro tf (And.intro fT (And.intro fR (And.intro hf (And.intro hlN (And.intro hll (And.intro hq ht)))))))
          clear tf fT fR hf hlN hll hq ht
          have hx1 : RowKit.Below z.heap.size z z1 := by
            refine Below.trans ?_ (hb.mono ?_)
            · (first | exact Below.refl _ _ | exact (Below.refl _ _).alloc (by simp) _ | exact ((Below.refl _ _).alloc (by simp) _).alloc (by simp) _ | exact (((Below.refl _ _).alloc (by simp) _).alloc (by simp) _).alloc (by simp) _)
            · first | exact Nat.le_refl _ | (simp; done) | (simp; omega)
          replace Fl := Rd.next Fl hx1
          replace HB := Lib.hid (HB.out.trans (hx1.mono HB.out.size))
          clear hb hx1
          go_wp2_with fail
          have cm := Meet_any F6 F7 HTF.out.2.1 HTF.out.2.2.1
          rw [decide_eq_true HTF.out.1.ap, Bool.not_true] at cm
          have hnn : (n != n) = false := by simp
          refine Calls.mono (cm) ?_
          rintro e z2 ⟨rfl, hb⟩
          clear cm
          have hx2 : RowKit.Below z1.heap.size z1 z2 := by
            refine Below.trans ?_ (hb.mono ?_)
            · (first | exact Below.refl _ _ | exact (Below.refl _ _).alloc (by simp) _ | exact ((Below.refl _ _).alloc (by simp) _).alloc (by simp) _ | exact (((Below.refl _ _).alloc (by simp) _).alloc (by simp) _).alloc (by simp) _)
            · first | exact Nat.le_refl _ | (simp; done) | (simp; omega)
          replace Fl := Rd.next Fl hx2
          replace F6 := Rd.next F6 hx2
          replace F7 := Rd.next F7 hx2
          replace HB := Lib.hid (HB.out.trans (hx2.mono HB.out.size))
          clear hb hx2
          go_wp2_with fail
          have ct := Total_any F6 HTF.out.2.1
          rw [HTF.out.1.tT] at ct
          refine Calls.mono (ct) ?_
          rintro e z3 ⟨rfl, hb⟩
          clear ct
          have hx3 : RowKit.Below z2.heap.size z2 z3 := by
            refine Below.trans ?_ (hb.mono ?_)
            · (first | exact Below.refl _ _ | exact (Below.refl _ _).alloc (by simp) _ | exact ((Below.refl _ _).alloc (by simp) _).alloc (by simp) _ | exact (((Below.refl _ _).alloc (by simp) _).alloc (by simp) _).alloc (by simp) _)
            · first | exact Nat.le_refl _ | (simp; done) | (simp; omega)
          replace Fl := Rd.next Fl hx3
          replace F6 := Rd.next F6 hx3
          replace F7 := Rd.next F7 hx3
          replace HB := Lib.hid (HB.out.trans (hx3.mono HB.out.size))
          clear hb hx3
          go_wp2_with fail
          have ct := Total_any F7 HTF.out.2.2.1
          rw [HTF.out.1.tR] at ct
          have hwr : IntKind.i64.wrap (tot l - n) = tot l - n := by have h1 := tot_top HTF.out.2.2.2.1.2.1 HTF.out.2.2.2.1.2.2; have h2 := HTF.out.2.2.2.2.2.2; rw [IntKind.wrap_i64]; omega
          have hmm : (tot l - n != tot l - n) = false := by simp
          refine Calls.mono (ct) ?_
          rintro e z4 ⟨rfl, hb⟩
          clear ct
          have hx4 : RowKit.Below z3.heap.size z3 z4 := by
            refine Below.trans ?_ (hb.mono ?_)
            · (first | exact Below.refl _ _ | exact (Below.refl _ _).alloc (by simp) _ | exact ((Below.refl _ _).alloc (by simp) _).alloc (by simp) _ | exact (((Below.refl _ _).alloc (by simp) _).alloc (by simp) _).alloc (by simp) _)
            · first | exact Nat.le_refl _ | (simp; done) | (simp; omega)
          replace Fl := Rd.next Fl hx4
          replace F6 := Rd.next F6 hx4
          replace F7 := Rd.next F7 hx4
          replace HB := Lib.hid (HB.out.trans (hx4.mono HB.out.size))
          clear hb hx4
          go_wp2_with fail
          refine Calls.mono (Total_any Fl HTF.out.2.2.2.1) ?_
          rintro e z5 ⟨rfl, hb⟩
          have hx5 : RowKit.Below z4.heap.size z4 z5 := by
            refine Below.trans ?_ (hb.mono ?_)
            · (first | exact Below.refl _ _ | exact (Below.refl _ _).alloc (by simp) _ | exact ((Below.refl _ _).alloc (by simp) _).alloc (by simp) _ | exact (((Below.refl _ _).alloc (by simp) _).alloc (by simp) _).alloc (by simp) _)
            · first | exact Nat.le_refl _ | (simp; done) | (simp; omega)
          replace Fl := Rd.next Fl hx5
          replace F6 := Rd.next F6 hx5
          replace F7 := Rd.next F7 hx5
          replace HB := Lib.hid (HB.out.trans (hx5.mono HB.out.size))
          clear hb hx5
          go_wp2_with fail
          by_cases HT : num x T
          · have HR : ¬ num x R := fun h => HTF.out.1.dj x HT h
            have Hl : num x l := (HTF.out.1.nu x).1 (.inl HT)
            have ch := Has_any x F6 HTF.out.2.1
            rw [decide_eq_true HT] at ch
            refine Calls.mono (ch) ?_
            rintro e z6 ⟨rfl, hb⟩
            clear ch
            have hx6 : RowKit.Below z5.heap.size z5 z6 := by
              refine Below.trans ?_ (hb.mono ?_)
              · (first | exact Below.refl _ _ | exact (Below.refl _ _).alloc (by simp) _ | exact ((Below.refl _ _).alloc (by simp) _).alloc (by simp) _ | exact (((Below.refl _ _).alloc (by simp) _).alloc (by simp) _).alloc (by simp) _)
              · first | exact Nat.le_refl _ | (simp; done) | (simp; omega)
            replace Fl := Rd.next Fl hx6
            replace F6 := Rd.next F6 hx6
            replace F7 := Rd.next F7 hx6
            replace HB := Lib.hid (HB.out.trans (hx6.mono HB.out.size))
            clear hb hx6
            go_wp2_with fail
            have ch := Has_any x F7 HTF.out.2.2.1
            rw [decide_eq_false HR] at ch
            refine Calls.mono (ch) ?_
            rintro e z7 ⟨rfl, hb⟩
            clear ch
            have hx7 : RowKit.Below z6.heap.size z6 z7 := by
              refine Below.trans ?_ (hb.mono ?_)
              · (first | exact Below.refl _ _ | exact (Below.refl _ _).alloc (by simp) _ | exact ((Below.refl _ _).alloc (by simp) _).alloc (by simp) _ | exact (((Below.refl _ _).alloc (by simp) _).alloc (by simp) _).alloc (by simp) _)
              · first | exact Nat.le_refl _ | (simp; done) | (simp; omega)
            replace Fl := Rd.next Fl hx7
            replace F6 := Rd.next F6 hx7
            replace F7 := Rd.next F7 hx7
            replace HB := Lib.hid (HB.out.trans (hx7.mono HB.out.size))
            clear hb hx7
            go_wp2_with fail
            have ch := Has_any x Fl HTF.out.2.2.2.1
            rw [decide_eq_true Hl] at ch
            refine Calls.mono (ch) ?_
            rintro e z8 ⟨rfl, hb⟩
            clear ch
            have hx8 : RowKit.Below z7.heap.size z7 z8 := by
              refine Below.trans ?_ (hb.mono ?_)
              · (first | exact Below.refl _ _ | exact (Below.refl _ _).alloc (by simp) _ | exact ((Below.refl _ _).alloc (by simp) _).alloc (by simp) _ | exact (((Below.refl _ _).alloc (by simp) _).alloc (by simp) _).alloc (by simp) _)
              · first | exact Nat.le_refl _ | (simp; done) | (simp; omega)
            replace Fl := Rd.next Fl hx8
            replace F6 := Rd.next F6 hx8
            replace F7 := Rd.next F7 hx8
            replace HB := Lib.hid (HB.out.trans (hx8.mono HB.out.size))
            clear hb hx8
            go_wp2_with fail
            have hbk := HTF.out.1.back HTF.out.2.2.2.1
            have cv := Give_yes F7 F6 HTF.out.2.2.1 HTF.out.2.1 (apart_comm.1 HTF.out.1.ap) (by rw [hbk]; have := HTF.out.2.2.2.2.1; have := HTF.out.2.2.2.2.2.1; omega)
            rw [hbk] at cv
            clear hbk
            refine Calls.mono (cv) ?_
            rintro e z9 ⟨vg, rfl, Fg, hb⟩
            clear cv
            replace Fg := OwnX.rd Fg
            have hx9 : RowKit.Below z8.heap.size z8 z9 := by
              refine Below.trans ?_ (hb.mono ?_)
              · (first | exact Below.refl _ _ | exact (Below.refl _ _).alloc (by simp) _ | exact ((Below.refl _ _).alloc (by simp) _).alloc (by simp) _ | exact (((Below.refl _ _).alloc (by simp) _).alloc (by simp) _).alloc (by simp) _)
              · first | exact Nat.le_refl _ | (simp; done) | (simp; omega)
            replace Fl := Rd.next Fl hx9
            replace F6 := Rd.next F6 hx9
            replace F7 := Rd.next F7 hx9
            replace HB := Lib.hid (HB.out.trans (hx9.mono HB.out.size))
            clear hb hx9
            go_wp2_with fail
            refine Calls.mono (Norm_any Fl HTF.out.2.2.2.1) ?_
            rintro e z10 ⟨vn, rfl, Fn, hb⟩
            replace Fn := OwnX.rd Fn
            have hx10 : RowKit.Below z9.heap.size z9 z10 := by
              refine Below.trans ?_ (hb.mono ?_)
              · (first | exact Below.refl _ _ | exact (Below.refl _ _).alloc (by simp) _ | exact ((Below.refl _ _).alloc (by simp) _).alloc (by simp) _ | exact (((Below.refl _ _).alloc (by simp) _).alloc (by simp) _).alloc (by simp) _)
              · first | exact Nat.le_refl _ | (simp; done) | (simp; omega)
            replace Fl := Rd.next Fl hx10
            replace F6 := Rd.next F6 hx10
            replace F7 := Rd.next F7 hx10
            replace Fg := Rd.next Fg hx10
            replace HB := Lib.hid (HB.out.trans (hx10.mono HB.out.size))
            clear hb hx10
            go_wp2_with fail
            refine Calls.mono (Same_yes Fg Fn (by have := HTF.out.2.2.2.2.1; have := HTF.out.2.2.2.2.2.1; omega)) ?_
            rintro e z11 ⟨rfl, hb⟩
            have hx11 : RowKit.Below z10.heap.size z10 z11 := by
              refine Below.trans ?_ (hb.mono ?_)
              · (first | exact Below.refl _ _ | exact (Below.refl _ _).alloc (by simp) _ | exact ((Below.refl _ _).alloc (by simp) _).alloc (by simp) _ | exact (((Below.refl _ _).alloc (by simp) _).alloc (by simp) _).alloc (by simp) _)
              · first | exact Nat.le_refl _ | (simp; done) | (simp; omega)
            replace Fl := Rd.next Fl hx11
            replace F6 := Rd.next F6 hx11
            replace F7 := Rd.next F7 hx11
            replace Fg := Rd.next Fg hx11
            replace Fn := Rd.next Fn hx11
            replace HB := Lib.hid (HB.out.trans (hx11.mono HB.out.size))
            clear hb hx11
            go_wp2_with fail
            refine Calls.mono (head_any _) ?_
            rintro e z12 ⟨rfl, hb⟩
            have hx12 : RowKit.Below z11.heap.size z11 z12 := by
              refine Below.trans ?_ (hb.mono ?_)
              · (first | exact Below.refl _ _ | exact (Below.refl _ _).alloc (by simp) _ | exact ((Below.refl _ _).alloc (by simp) _).alloc (by simp) _ | exact (((Below.refl _ _).alloc (by simp) _).alloc (by simp) _).alloc (by simp) _)
              · first | exact Nat.le_refl _ | (simp; done) | (simp; omega)
            replace Fl := Rd.next Fl hx12
            replace F6 := Rd.next F6 hx12
            replace F7 := Rd.next F7 hx12
            replace Fg := Rd.next Fg hx12
            replace Fn := Rd.next Fn hx12
            replace HB := Lib.hid (HB.out.trans (hx12.mono HB.out.size))
            clear hb hx12
            go_wp2_with fail
            go_ret
            exact ⟨rfl, HB.out⟩
          · by_cases HR : num x R
            · have Hl : num x l := (HTF.out.1.nu x).1 (.inr HR)
              have ch := Has_any x F6 HTF.out.2.1
              rw [decide_eq_false HT] at ch
              refine Calls.mono (ch) ?_
              rintro e z6 ⟨rfl, hb⟩
              clear ch
              have hx6 : RowKit.Below z5.heap.size z5 z6 := by
                refine Below.trans ?_ (hb.mono ?_)
                · (first | exact Below.refl _ _ | exact (Below.refl _ _).alloc (by simp) _ | exact ((Below.refl _ _).alloc (by simp) _).alloc (by simp) _ | exact (((Below.refl _ _).alloc (by simp) _).alloc (by simp) _).alloc (by simp) _)
                · first | exact Nat.le_refl _ | (simp; done) | (simp; omega)
              replace Fl := Rd.next Fl hx6
              replace F6 := Rd.next F6 hx6
              replace F7 := Rd.next F7 hx6
              replace HB := Lib.hid (HB.out.trans (hx6.mono HB.out.size))
              clear hb hx6
              go_wp2_with fail
              have ch := Has_any x F7 HTF.out.2.2.1
              rw [decide_eq_true HR] at ch
              refine Calls.mono (ch) ?_
              rintro e z7 ⟨rfl, hb⟩
              clear ch
              have hx7 : RowKit.Below z6.heap.size z6 z7 := by
                refine Below.trans ?_ (hb.mono ?_)
                · (first | exact Below.refl _ _ | exact (Below.refl _ _).alloc (by simp) _ | exact ((Below.refl _ _).alloc (by simp) _).alloc (by simp) _ | exact (((Below.refl _ _).alloc (by simp) _).alloc (by simp) _).alloc (by simp) _)
                · first | exact Nat.le_refl _ | (simp; done) | (simp; omega)
              replace Fl := Rd.next Fl hx7
              replace F6 := Rd.next F6 hx7
              replace F7 := Rd.next F7 hx7
              replace HB := Lib.hid (HB.out.trans (hx7.mono HB.out.size))
              clear hb hx7
              go_wp2_with fail
              have ch := Has_any x Fl HTF.out.2.2.2.1
              rw [decide_eq_true Hl] at ch
              refine Calls.mono (ch) ?_
              rintro e z8 ⟨rfl, hb⟩
              clear ch
              have hx8 : RowKit.Below z7.heap.size z7 z8 := by
                refine Below.trans ?_ (hb.mono ?_)
                · (first | exact Below.refl _ _ | exact (Below.refl _ _).alloc (by simp) _ | exact ((Below.refl _ _).alloc (by simp) _).alloc (by simp) _ | exact (((Below.refl _ _).alloc (by simp) _).alloc (by simp) _).alloc (by simp) _)
                · first | exact Nat.le_refl _ | (simp; done) | (simp; omega)
              replace Fl := Rd.next Fl hx8
              replace F6 := Rd.next F6 hx8
              replace F7 := Rd.next F7 hx8
              replace HB := Lib.hid (HB.out.trans (hx8.mono HB.out.size))
              clear hb hx8
              go_wp2_with fail
              have hbk := HTF.out.1.back HTF.out.2.2.2.1
              have cv := Give_yes F7 F6 HTF.out.2.2.1 HTF.out.2.1 (apart_comm.1 HTF.out.1.ap) (by rw [hbk]; have := HTF.out.2.2.2.2.1; have := HTF.out.2.2.2.2.2.1; omega)
              rw [hbk] at cv
              clear hbk
              refine Calls.mono (cv) ?_
              rintro e z9 ⟨vg, rfl, Fg, hb⟩
              clear cv
              replace Fg := OwnX.rd Fg
              have hx9 : RowKit.Below z8.heap.size z8 z9 := by
                refine Below.trans ?_ (hb.mono ?_)
                · (first | exact Below.refl _ _ | exact (Below.refl _ _).alloc (by simp) _ | exact ((Below.refl _ _).alloc (by simp) _).alloc (by simp) _ | exact (((Below.refl _ _).alloc (by simp) _).alloc (by simp) _).alloc (by simp) _)
                · first | exact Nat.le_refl _ | (simp; done) | (simp; omega)
              replace Fl := Rd.next Fl hx9
              replace F6 := Rd.next F6 hx9
              replace F7 := Rd.next F7 hx9
              replace HB := Lib.hid (HB.out.trans (hx9.mono HB.out.size))
              clear hb hx9
              go_wp2_with fail
              refine Calls.mono (Norm_any Fl HTF.out.2.2.2.1) ?_
              rintro e z10 ⟨vn, rfl, Fn, hb⟩
              replace Fn := OwnX.rd Fn
              have hx10 : RowKit.Below z9.heap.size z9 z10 := by
                refine Below.trans ?_ (hb.mono ?_)
                · (first | exact Below.refl _ _ | exact (Below.refl _ _).alloc (by simp) _ | exact ((Below.refl _ _).alloc (by simp) _).alloc (by simp) _ | exact (((Below.refl _ _).alloc (by simp) _).alloc (by simp) _).alloc (by simp) _)
                · first | exact Nat.le_refl _ | (simp; done) | (simp; omega)
              replace Fl := Rd.next Fl hx10
              replace F6 := Rd.next F6 hx10
              replace F7 := Rd.next F7 hx10
              replace Fg := Rd.next Fg hx10
              replace HB := Lib.hid (HB.out.trans (hx10.mono HB.out.size))
              clear hb hx10
              go_wp2_with fail
              refine Calls.mono (Same_yes Fg Fn (by have := HTF.out.2.2.2.2.1; have := HTF.out.2.2.2.2.2.1; omega)) ?_
              rintro e z11 ⟨rfl, hb⟩
              have hx11 : RowKit.Below z10.heap.size z10 z11 := by
                refine Below.trans ?_ (hb.mono ?_)
                · (first | exact Below.refl _ _ | exact (Below.refl _ _).alloc (by simp) _ | exact ((Below.refl _ _).alloc (by simp) _).alloc (by simp) _ | exact (((Below.refl _ _).alloc (by simp) _).alloc (by simp) _).alloc (by simp) _)
                · first | exact Nat.le_refl _ | (simp; done) | (simp; omega)
              replace Fl := Rd.next Fl hx11
              replace F6 := Rd.next F6 hx11
              replace F7 := Rd.next F7 hx11
              replace Fg := Rd.next Fg hx11
              replace Fn := Rd.next Fn hx11
              replace HB := Lib.hid (HB.out.trans (hx11.mono HB.out.size))
              clear hb hx11
              go_wp2_with fail
              refine Calls.mono (head_any _) ?_
              rintro e z12 ⟨rfl, hb⟩
              have hx12 : RowKit.Below z11.heap.size z11 z12 := by
                refine Below.trans ?_ (hb.mono ?_)
                · (first | exact Below.refl _ _ | exact (Below.refl _ _).alloc (by simp) _ | exact ((Below.refl _ _).alloc (by simp) _).alloc (by simp) _ | exact (((Below.refl _ _).alloc (by simp) _).alloc (by simp) _).alloc (by simp) _)
                · first | exact Nat.le_refl _ | (simp; done) | (simp; omega)
              replace Fl := Rd.next Fl hx12
              replace F6 := Rd.next F6 hx12
              replace F7 := Rd.next F7 hx12
              replace Fg := Rd.next Fg hx12
              replace Fn := Rd.next Fn hx12
              replace HB := Lib.hid (HB.out.trans (hx12.mono HB.out.size))
              clear hb hx12
              go_wp2_with fail
              go_ret
              exact ⟨rfl, HB.out⟩
            · have Hl : ¬ num x l := fun h => ((HTF.out.1.nu x).2 h).elim HT HR
              have ch := Has_any x F6 HTF.out.2.1
              rw [decide_eq_false HT] at ch
              refine Calls.mono (ch) ?_
              rintro e z6 ⟨rfl, hb⟩
              clear ch
              have hx6 : RowKit.Below z5.heap.size z5 z6 := by
                refine Below.trans ?_ (hb.mono ?_)
                · (first | exact Below.refl _ _ | exact (Below.refl _ _).alloc (by simp) _ | exact ((Below.refl _ _).alloc (by simp) _).alloc (by simp) _ | exact (((Below.refl _ _).alloc (by simp) _).alloc (by simp) _).alloc (by simp) _)
                · first | exact Nat.le_refl _ | (simp; done) | (simp; omega)
              replace Fl := Rd.next Fl hx6
              replace F6 := Rd.next F6 hx6
              replace F7 := Rd.next F7 hx6
              replace HB := Lib.hid (HB.out.trans (hx6.mono HB.out.size))
              clear hb hx6
              go_wp2_with fail
              have ch := Has_any x F7 HTF.out.2.2.1
              rw [decide_eq_false HR] at ch
              refine Calls.mono (ch) ?_
              rintro e z7 ⟨rfl, hb⟩
              clear ch
              have hx7 : RowKit.Below z6.heap.size z6 z7 := by
                refine Below.trans ?_ (hb.mono ?_)
                · (first | exact Below.refl _ _ | exact (Below.refl _ _).alloc (by simp) _ | exact ((Below.refl _ _).alloc (by simp) _).alloc (by simp) _ | exact (((Below.refl _ _).alloc (by simp) _).alloc (by simp) _).alloc (by simp) _)
                · first | exact Nat.le_refl _ | (simp; done) | (simp; omega)
              replace Fl := Rd.next Fl hx7
              replace F6 := Rd.next F6 hx7
              replace F7 := Rd.next F7 hx7
              replace HB := Lib.hid (HB.out.trans (hx7.mono HB.out.size))
              clear hb hx7
              go_wp2_with fail
              have ch := Has_any x Fl HTF.out.2.2.2.1
              rw [decide_eq_false Hl] at ch
              refine Calls.mono (ch) ?_
              rintro e z8 ⟨rfl, hb⟩
              clear ch
              have hx8 : RowKit.Below z7.heap.size z7 z8 := by
                refine Below.trans ?_ (hb.mono ?_)
                · (first | exact Below.refl _ _ | exact (Below.refl _ _).alloc (by simp) _ | exact ((Below.refl _ _).alloc (by simp) _).alloc (by simp) _ | exact (((Below.refl _ _).alloc (by simp) _).alloc (by simp) _).alloc (by simp) _)
                · first | exact Nat.le_refl _ | (simp; done) | (simp; omega)
              replace Fl := Rd.next Fl hx8
              replace F6 := Rd.next F6 hx8
              replace F7 := Rd.next F7 hx8
              replace HB := Lib.hid (HB.out.trans (hx8.mono HB.out.size))
              clear hb hx8
              go_wp2_with fail
              have hbk := HTF.out.1.back HTF.out.2.2.2.1
              have cv := Give_yes F7 F6 HTF.out.2.2.1 HTF.out.2.1 (apart_comm.1 HTF.out.1.ap) (by rw [hbk]; have := HTF.out.2.2.2.2.1; have := HTF.out.2.2.2.2.2.1; omega)
              rw [hbk] at cv
              clear hbk
              refine Calls.mono (cv) ?_
              rintro e z9 ⟨vg, rfl, Fg, hb⟩
              clear cv
              replace Fg := OwnX.rd Fg
              have hx9 : RowKit.Below z8.heap.size z8 z9 := by
                refine Below.trans ?_ (hb.mono ?_)
                · (first | exact Below.refl _ _ | exact (Below.refl _ _).alloc (by simp) _ | exact ((Below.refl _ _).alloc (by simp) _).alloc (by simp) _ | exact (((Below.refl _ _).alloc (by simp) _).alloc (by simp) _).alloc (by simp) _)
                · first | exact Nat.le_refl _ | (simp; done) | (simp; omega)
              replace Fl := Rd.next Fl hx9
              replace F6 := Rd.next F6 hx9
              replace F7 := Rd.next F7 hx9
              replace HB := Lib.hid (HB.out.trans (hx9.mono HB.out.size))
              clear hb hx9
              go_wp2_with fail
              refine Calls.mono (Norm_any Fl HTF.out.2.2.2.1) ?_
              rintro e z10 ⟨vn, rfl, Fn, hb⟩
              replace Fn := OwnX.rd Fn
              have hx10 : RowKit.Below z9.heap.size z9 z10 := by
                refine Below.trans ?_ (hb.mono ?_)
                · (first | exact Below.refl _ _ | exact (Below.refl _ _).alloc (by simp) _ | exact ((Below.refl _ _).alloc (by simp) _).alloc (by simp) _ | exact (((Below.refl _ _).alloc (by simp) _).alloc (by simp) _).alloc (by simp) _)
                · first | exact Nat.le_refl _ | (simp; done) | (simp; omega)
              replace Fl := Rd.next Fl hx10
              replace F6 := Rd.next F6 hx10
              replace F7 := Rd.next F7 hx10
              replace Fg := Rd.next Fg hx10
              replace HB := Lib.hid (HB.out.trans (hx10.mono HB.out.size))
              clear hb hx10
              go_wp2_with fail
              refine Calls.mono (Same_yes Fg Fn (by have := HTF.out.2.2.2.2.1; have := HTF.out.2.2.2.2.2.1; omega)) ?_
              rintro e z11 ⟨rfl, hb⟩
              have hx11 : RowKit.Below z10.heap.size z10 z11 := by
                refine Below.trans ?_ (hb.mono ?_)
                · (first | exact Below.refl _ _ | exact (Below.refl _ _).alloc (by simp) _ | exact ((Below.refl _ _).alloc (by simp) _).alloc (by simp) _ | exact (((Below.refl _ _).alloc (by simp) _).alloc (by simp) _).alloc (by simp) _)
                · first | exact Nat.le_refl _ | (simp; done) | (simp; omega)
              replace Fl := Rd.next Fl hx11
              replace F6 := Rd.next F6 hx11
              replace F7 := Rd.next F7 hx11
              replace Fg := Rd.next Fg hx11
              replace Fn := Rd.next Fn hx11
              replace HB := Lib.hid (HB.out.trans (hx11.mono HB.out.size))
              clear hb hx11
              go_wp2_with fail
              refine Calls.mono (head_any _) ?_
              rintro e z12 ⟨rfl, hb⟩
              have hx12 : RowKit.Below z11.heap.size z11 z12 := by
                refine Below.trans ?_ (hb.mono ?_)
                · (first | exact Below.refl _ _ | exact (Below.refl _ _).alloc (by simp) _ | exact ((Below.refl _ _).alloc (by simp) _).alloc (by simp) _ | exact (((Below.refl _ _).alloc (by simp) _).alloc (by simp) _).alloc (by simp) _)
                · first | exact Nat.le_refl _ | (simp; done) | (simp; omega)
              replace Fl := Rd.next Fl hx12
              replace F6 := Rd.next F6 hx12
              replace F7 := Rd.next F7 hx12
              replace Fg := Rd.next Fg hx12
              replace Fn := Rd.next Fn hx12
              replace HB := Lib.hid (HB.out.trans (hx12.mono HB.out.size))
              clear hb hx12
              go_wp2_with fail
              go_ret
              exact ⟨rfl, HB.out⟩
        · have hd : decide (tot l < n) = true := decide_eq_true (by omega)
          have HTL : Hid (tot l < n) := by show _ < _; omega
          clear ht
          refine Calls.mono (Take_full best Fl hq hf HTL.out) ?_
          rintro e z1 ⟨rfl, hb⟩
          have hx1 : RowKit.Below z.heap.size z z1 := by
            refine Below.trans ?_ (hb.mono ?_)
            · (first | exact Below.refl _ _ | exact (Below.refl _ _).alloc (by simp) _ | exact ((Below.refl _ _).alloc (by simp) _).alloc (by simp) _ | exact (((Below.refl _ _).alloc (by simp) _).alloc (by simp) _).alloc (by simp) _)
            · first | exact Nat.le_refl _ | (simp; done) | (simp; omega)
          replace Fl := Rd.next Fl hx1
          replace HB := Lib.hid (HB.out.trans (hx1.mono HB.out.size))
          clear hb hx1
          go_wp2_with fail
          refine Calls.mono (Total_any Fl hf) ?_
          rintro e z2 ⟨rfl, hb⟩
          have hx2 : RowKit.Below z1.heap.size z1 z2 := by
            refine Below.trans ?_ (hb.mono ?_)
            · (first | exact Below.refl _ _ | exact (Below.refl _ _).alloc (by simp) _ | exact ((Below.refl _ _).alloc (by simp) _).alloc (by simp) _ | exact (((Below.refl _ _).alloc (by simp) _).alloc (by simp) _).alloc (by simp) _)
            · first | exact Nat.le_refl _ | (simp; done) | (simp; omega)
          replace Fl := Rd.next Fl hx2
          replace HB := Lib.hid (HB.out.trans (hx2.mono HB.out.size))
          clear hb hx2
          go_wp2_with fail
          refine Calls.mono (head_any _) ?_
          rintro e z3 ⟨rfl, hb⟩
          have hx3 : RowKit.Below z2.heap.size z2 z3 := by
            refine Below.trans ?_ (hb.mono ?_)
            · (first | exact Below.refl _ _ | exact (Below.refl _ _).alloc (by simp) _ | exact ((Below.refl _ _).alloc (by simp) _).alloc (by simp) _ | exact (((Below.refl _ _).alloc (by simp) _).alloc (by simp) _).alloc (by simp) _)
            · first | exact Nat.le_refl _ | (simp; done) | (simp; omega)
          replace Fl := Rd.next Fl hx3
          replace HB := Lib.hid (HB.out.trans (hx3.mono HB.out.size))
          clear hb hx3
          go_wp2_with fail
          go_ret
          exact ⟨rfl, HB.out⟩
      · have hll : l.length ≤ 1000 := by have := HL.out; omega
        refine Calls.mono (Take_bad best Fl hll hq hf) ?_
        rintro e z1 ⟨rfl, hb⟩
        have hx1 : RowKit.Below z.heap.size z z1 := by
          refine Below.trans ?_ (hb.mono ?_)
          · (first | exact Below.refl _ _ | exact (Below.refl _ _).alloc (by simp) _ | exact ((Below.refl _ _).alloc (by simp) _).alloc (by simp) _ | exact (((Below.refl _ _).alloc (by simp) _).alloc (by simp) _).alloc (by simp) _)
          · first | exact Nat.le_refl _ | (simp; done) | (simp; omega)
        replace Fl := Rd.next Fl hx1
        replace HB := Lib.hid (HB.out.trans (hx1.mono HB.out.size))
        clear hb hx1
        go_wp2_with fail
        refine Calls.mono (head_any _) ?_
        rintro e z2 ⟨rfl, hb⟩
        have hx2 : RowKit.Below z1.heap.size z1 z2 := by
          refine Below.trans ?_ (hb.mono ?_)
          · (first | exact Below.refl _ _ | exact (Below.refl _ _).alloc (by simp) _ | exact ((Below.refl _ _).alloc (by simp) _).alloc (by simp) _ | exact (((Below.refl _ _).alloc (by simp) _).alloc (by simp) _).alloc (by simp) _)
          · first | exact Nat.le_refl _ | (simp; done) | (simp; omega)
        replace Fl := Rd.next Fl hx2
        replace HB := Lib.hid (HB.out.trans (hx2.mono HB.out.size))
        clear hb hx2
        go_wp2_with fail
        go_ret
        exact ⟨rfl, HB.out⟩
    · skip
      refine Calls.mono (Take_arg (v := .bool true) best hq) ?_
      rintro e z1 ⟨rfl, hb⟩
      have hx1 : RowKit.Below z.heap.size z z1 := by
        refine Below.trans ?_ (hb.mono ?_)
        · (first | exact Below.refl _ _ | exact (Below.refl _ _).alloc (by simp) _ | exact ((Below.refl _ _).alloc (by simp) _).alloc (by simp) _ | exact (((Below.refl _ _).alloc (by simp) _).alloc (by simp) _).alloc (by simp) _)
        · first | exact Nat.le_refl _ | (simp; done) | (simp; omega)
      replace Fl := Rd.next Fl hx1
      replace HB := Lib.hid (HB.out.trans (hx1.mono HB.out.size))
      clear hb hx1
      go_wp2_with fail
      refine Calls.mono (head_any _) ?_
      rintro e z2 ⟨rfl, hb⟩
      have hx2 : RowKit.Below z1.heap.size z1 z2 := by
        refine Below.trans ?_ (hb.mono ?_)
        · (first | exact Below.refl _ _ | exact (Below.refl _ _).alloc (by simp) _ | exact ((Below.refl _ _).alloc (by simp) _).alloc (by simp) _ | exact (((Below.refl _ _).alloc (by simp) _).alloc (by simp) _).alloc (by simp) _)
        · first | exact Nat.le_refl _ | (simp; done) | (simp; omega)
      replace Fl := Rd.next Fl hx2
      replace HB := Lib.hid (HB.out.trans (hx2.mono HB.out.size))
      clear hb hx2
      go_wp2_with fail
      go_ret
      exact ⟨rfl, HB.out⟩
end Go.Proofs.Ytgimecpillhmcaa.gn
