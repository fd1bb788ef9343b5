/- ExtentTwo: the walk (written by gen_exTw.py). -/
import Derived.Test.YtgimecpillhmcaaExX
set_option linter.unusedVariables false
namespace Go.Proofs.Ytgimecpillhmcaa.gn
open Go.RowKit Go.Shelf Go.Sort Go.Lib
open Go.Proofs.Ytgimecpillhmcaa.ex

attribute [local go_sem] Oper.semAt_some

/-- Whatever is asked, Take answers. -/
theorem Take_some {w : World} {v : Value} {l : List X} (n : Int) (best : Bool) (h : Rd w v l) (hl : l.length ≤ 1000) :
    Calls Try.prog 8 #[v, .int .i64 n, .bool best] w fun e w' => ∃ a b f, e = .returned (.tuple #[a, b, .int .i64 f]) ∧ RowKit.Below w.heap.size w w' := by
  rcases quantB n with hq | hq
  · by_cases hf : Fine l
    · by_cases ht : n ≤ tot l
      · exact (Take_ok best h hq hf ht).mono fun e w' ⟨a, b, s, k, he, _, _, _, _, _, hb⟩ => ⟨a, b, 0, he, hb⟩
      · exact (Take_full best h hq hf (by omega)).mono fun e w' ⟨he, hb⟩ => ⟨_, _, 6, he, hb⟩
    · exact (Take_bad best h hl hq hf).mono fun e w' ⟨he, hb⟩ => ⟨_, _, 110, he, hb⟩
  · obtain ⟨p, c, rfl⟩ := h.len
    exact (Take_arg (v := .bool true) best hq).mono fun e w' ⟨he, hb⟩ => ⟨_, _, 2, he, hb⟩
/-- How the loop stands that clears the row that was taken. -/
structure TwL (z0 : World) (bX bY : Nat) (vt vx vy : Value) (T J : List X) (wr : World) : Prop where
  t : ∃ T', T'.length = T.length ∧ OwnX z0.heap.size wr vt T'
  x : OwnX bX wr vx J
  y : OwnX bY wr vy J
  lx : ∀ g, vt.ownBlock = some g → g < bX ∧ g < bY
  below : RowKit.Below z0.heap.size z0 wr
theorem TwL.set {z0 : World} {bX bY : Nat} {vx vy : Value} {T J T' : List X} {wr : World} {g c : Nat} {i : Nat} (h : TwL z0 bX bY (.slice (some ⟨g, 0, none⟩) T.length c) vx vy T J wr) (hT : T'.length = T.length) (ho : OwnX z0.heap.size wr (.slice (some ⟨g, 0, none⟩) T.length c) T') (hi : i < T.length) :
    TwL z0 bX bY (.slice (some ⟨g, 0, none⟩) T.length c) vx vy T J ((wr.setCell ⟨g, i * 2, none⟩ (.int .i64 0)).setCell ⟨g, i * 2 + 1, none⟩ (.int .i64 0)) := by
  have ho' : wr.ownsRow z0.heap.size 37 2 (.slice (some ⟨g, 0, none⟩) T.length c) T.length (fl T') := by have := ho; unfold OwnX at this; rw [hT] at this; exact this
  have sA := World.ownsRow.stored ho' (i * 2) (.int .i64 0)
  have sB := World.ownsRow.stored sA.1 (i * 2 + 1) (.int .i64 0)
  have ea := fl_set T' i (0, 0) (by omega)
  dsimp only at ea
  rw [ea] at sB
  have hg := grown_trans sA.2 sB.2
  have hl := h.lx g rfl
  have hz := (World.ownsRow.lt ho' g rfl).1
  have hne : ∀ (b : Nat) (v : Value) (l : List X), OwnX b wr v l → g < b → v.ownBlock = none ∨ v.ownBlock ≠ some g := fun b v l ho hlt => by
    cases hv : v.ownBlock with
    | none => exact .inl rfl
    | some q => exact .inr (fun e => by cases e; have := (World.ownsRow.lt ho g hv).1; omega)
  refine ⟨⟨T'.set i (0, 0), by rw [List.length_set, hT], ?_⟩, World.ownsRow.kept h.x hg (hne _ _ _ h.x hl.1), World.ownsRow.kept h.y hg (hne _ _ _ h.y hl.2), h.lx, h.below.grown hg h.below.size fun k hk => by cases hk; exact hz⟩
  unfold OwnX
  rw [List.length_set, hT]
  exact sB.1

set_option maxHeartbeats 8000000 in
set_option maxRecDepth 100000 in
theorem two_law {w : World} {va : Value} {l : List X} (h : Rd w va l) (n m : Int) (best : Bool) : Calls Try.prog 4 #[.agg #[va, .int .i64 n, .int .i64 m, .bool best]] w (TellsB true w) := by
  obtain ⟨p, c, rfl⟩ := h.len
  have mixed : Try.prog.follows .mixedOrders = true := by kernel_rfl
  have hb0 : RowKit.Below w.heap.size w (w.alloc (.cells #[.slice p l.length c, .int .i64 n, .int .i64 m, .bool best] 24)) := (Below.refl _ w).alloc (Nat.le_refl _) _
  have hh := World.alloc_heap_new w (.cells #[.slice p l.length c, .int .i64 n, .int .i64 m, .bool best] 24)
  have k0 : (w.alloc (.cells #[.slice p l.length c, .int .i64 n, .int .i64 m, .bool best] 24)).cell? ⟨w.heap.size, 0, none⟩ = some (.slice p l.length c) := cell_of_row _ _ 0 _ _ (0, 0) hh
  have k1 : (w.alloc (.cells #[.slice p l.length c, .int .i64 n, .int .i64 m, .bool best] 24)).cell? ⟨w.heap.size, 1, none⟩ = some (.int .i64 n) := cell_of_row _ _ 1 _ _ (0, 0) hh
  have k2 : (w.alloc (.cells #[.slice p l.length c, .int .i64 n, .int .i64 m, .bool best] 24)).cell? ⟨w.heap.size, 2, none⟩ = some (.int .i64 m) := cell_of_row _ _ 2 _ _ (0, 0) hh
  have k3 : (w.alloc (.cells #[.slice p l.length c, .int .i64 n, .int .i64 m, .bool best] 24)).cell? ⟨w.heap.size, 3, none⟩ = some (.bool best) := cell_of_row _ _ 3 _ _ (0, 0) hh
  have Fl := h.next hb0
  have lw : w.heap.size < (w.alloc (.cells #[.slice p l.length c, .int .i64 n, .int .i64 m, .bool best] 24)).heap.size := by simp
  clear h hh
  go_enter Try.func4, Try.ntmps4
  go_upto_region 1 with fail
  obtain ⟨w0, hw0⟩ : ∃ w0, w.alloc (.cells #[.slice p l.length c, .int .i64 n, .int .i64 m, .bool best] 24) = w0 := ⟨_, rfl⟩
  rw [hw0] at hb0 k0 k1 k2 k3 Fl lw ⊢
  clear hw0
  go_quiet (fail)
  have HB : Hid (RowKit.Below w.heap.size w (w0.drewN nq)) := ⟨hb0.os, hb0.tape, hb0.output, hb0.size, hb0.block⟩
  replace Fl : Rd (w0.drewN nq) (.slice p l.length c) l := Fl.below ⟨rfl, rfl, rfl, Nat.le_refl _, fun _ _ => rfl⟩ (Nat.le_refl _)
  generalize w0.drewN nq = y0 at *
  clear hb0 k0 k1 k2 k3 lw
  have cg := great_any p none l.length c 0 0 y0
  rw [show decide (40 < 0) = false from rfl, Bool.or_false] at cg
  by_cases hl : 40 < l.length
  · rw [decide_eq_true hl] at cg
    clear hl
    go_wp2_with fail
    refine Calls.mono cg ?_
    rintro e z ⟨rfl, rfl⟩
    go_wp2_with fail
    refine Calls.mono (head_any _) ?_
    rintro e z1 ⟨rfl, hb⟩
    have hx1 : RowKit.Below z.heap.size z z1 := by
      refine Below.trans ?_ (hb.mono ?_)
      · (first | exact Below.refl _ _ | exact (Below.refl _ _).alloc (by simp) _ | exact ((Below.refl _ _).alloc (by simp) _).alloc (by simp) _ | exact (((Below.refl _ _).alloc (by simp) _).alloc (by simp) _).alloc (by simp) _)
      · first | exact Nat.le_refl _ | (simp; done) | (simp; omega)
    replace Fl := Rd.next Fl hx1
    replace HB := Lib.hid (HB.out.trans (hx1.mono HB.out.size))
    clear hb hx1
    go_wp2_with fail
    go_ret
    exact ⟨rfl, HB.out⟩
  · rw [decide_eq_false hl] at cg
    have HL := Lib.hid hl
    clear hl
    go_wp2_with fail
    refine Calls.mono cg ?_
    rintro e z ⟨rfl, rfl⟩
    clear cg
    have F0 := Lib.hid Fl
    go_wp2_with (at_builtin; refine wpl_app rfl _ _ rfl (base := z.heap.size) (v := .slice (some ⟨z.heap.size, 0, none⟩) 0 0) (l1 := []) (l2 := l) rfl (World.ownsRow_made z #[] 0 (Nat.le_refl _) (Nat.zero_le _) (by simp)) rfl (by exact Rd.al F0.out _) (by have := HL.out; simp; omega) (by simp) ?_; intro vo zo h1 h2 h3; have HO := Lib.hid (And.intro h1 h2); clear h1 h2 h3)
    have hbo : RowKit.Below z.heap.size z zo := by
      refine ((Below.refl z.heap.size z).alloc (Nat.le_refl _) _).grown HO.out.2 (by simp) fun k hk => ?_
      have : k = z.heap.size := by simpa [Value.ownBlock] using hk.symm
      omega
    replace Fl := Rd.next Fl hbo
    have Fo : Rd zo vo l := by have := HO.out.1.rd; rwa [List.nil_append] at this
    replace HB := Lib.hid (HB.out.trans (hbo.mono HB.out.size))
    clear hbo HO F0
    have HFF : Hid (Rd zo (.slice p l.length c) l ∧ Rd zo vo l) := ⟨Fl, Fo⟩
    have HBO := HB
    rcases quantB n with hq | hq
    · by_cases hf : Fine l
      · by_cases ht : n ≤ tot l
        · have hll : l.length ≤ 40 := by have := HL.out; omega
          have ZB : Hid (RowKit.Below zo.heap.size zo zo) := Below.refl _ _
          refine Calls.mono (Take_ok best Fl hq hf ht) ?_
          rintro e z1 hT
          obtain ⟨v6, v7, s, k, rfl, O6, O7, ti, h0, _, hb⟩ := hT
          have tf := ti.tf h0
          have F6 := O6.rd
          have F7 := O7.rd
          have H6 := Lib.hid O6
          clear O6 O7 ti h0
          generalize nrm s.took = T at *
          generalize s.rest = R at *
          have fT := tf.fT (by omega)
          have fR := tf.fR (by omega)
          have hR := tf.lR
          have HTF := Lib.hid (And.intro tf (And.intro fT (And.intro fR (And.intro hf (show R.length ≤ 40 ∧ l.length ≤ 40 by omega)))))
          clear tf fT fR hf hll hq ht hR
          have hx1 : RowKit.Below zo.heap.size zo z1 := by
            refine Below.trans ?_ (hb.mono ?_)
            · (first | exact Below.refl _ _ | exact (Below.refl _ _).alloc (by simp) _ | exact ((Below.refl _ _).alloc (by simp) _).alloc (by simp) _ | exact (((Below.refl _ _).alloc (by simp) _).alloc (by simp) _).alloc (by simp) _)
            · first | exact Nat.le_refl _ | (simp; done) | (simp; omega)
          replace Fl := Rd.next Fl hx1
          replace Fo := Rd.next Fo hx1
          replace HB := Lib.hid (HB.out.trans (hx1.mono HB.out.size))
          replace ZB := Lib.hid (ZB.out.trans (hx1.mono ZB.out.size))
          clear hb hx1
          go_wp2_with fail
          rcases quantB m with hq | hq
          · by_cases ht : m ≤ tot R
            · skip
              have H6a := H6
              refine Calls.mono (Take_ok (!best) F7 hq HTF.out.2.2.1 ht) ?_
              rintro e z2 hT
              obtain ⟨v8, v9, s, k, rfl, O8, O9, ti, h0, _, hb⟩ := hT
              have tk := ti.tf h0
              have F8 := O8.rd
              have F9 := O9.rd
              replace H6 := Lib.hid (H6.out.next hb)
              clear O8 O9 ti h0 H6a
              generalize nrm s.took = U at *
              generalize s.rest = S at *
              have fU := tk.fT (by have := HTF.out.2.2.2.2; omega)
              have fS := tk.fR (by have := HTF.out.2.2.2.2; omega)
              obtain ⟨tw1, tw2⟩ := HTF.out.1.two HTF.out.2.2.2.1 tk (by have := HTF.out.2.2.2.2; omega)
              have HTW := Lib.hid (And.intro fU (And.intro fS (And.intro tw1 tw2)))
              have hJ := (nrm_of HTF.out.2.2.2.1.2.1 HTF.out.2.2.2.1.2.2).len
              have HJ : Hid ((nrm l).length ≤ 40) := by show _ ≤ _; have := HTF.out.2.2.2.2; omega
              clear fU fS tw1 tw2 tk hJ ht hq
              have hx2 : RowKit.Below z1.heap.size z1 z2 := by
                refine Below.trans ?_ (hb.mono ?_)
                · (first | exact Below.refl _ _ | exact (Below.refl _ _).alloc (by simp) _ | exact ((Below.refl _ _).alloc (by simp) _).alloc (by simp) _ | exact (((Below.refl _ _).alloc (by simp) _).alloc (by simp) _).alloc (by simp) _)
                · first | exact Nat.le_refl _ | (simp; done) | (simp; omega)
              replace Fl := Rd.next Fl hx2
              replace Fo := Rd.next Fo hx2
              replace F6 := Rd.next F6 hx2
              replace F7 := Rd.next F7 hx2
              replace HB := Lib.hid (HB.out.trans (hx2.mono HB.out.size))
              replace ZB := Lib.hid (ZB.out.trans (hx2.mono ZB.out.size))
              clear hb hx2
              go_wp2_with fail
              have cv := Give_yes F9 F6 HTW.out.2.1 HTF.out.2.1 HTW.out.2.2.1.st HTW.out.2.2.1.f1.1
              refine Calls.mono (cv) ?_
              rintro e z3 ⟨vp, rfl, O, hb⟩
              clear cv
              replace H6 := Lib.hid (H6.out.next hb)
              have Fp := O.rd
              skip
              clear O
              have hx3 : RowKit.Below z2.heap.size z2 z3 := by
                refine Below.trans ?_ (hb.mono ?_)
                · (first | exact Below.refl _ _ | exact (Below.refl _ _).alloc (by simp) _ | exact ((Below.refl _ _).alloc (by simp) _).alloc (by simp) _ | exact (((Below.refl _ _).alloc (by simp) _).alloc (by simp) _).alloc (by simp) _)
                · first | exact Nat.le_refl _ | (simp; done) | (simp; omega)
              replace Fl := Rd.next Fl hx3
              replace Fo := Rd.next Fo hx3
              replace F6 := Rd.next F6 hx3
              replace F7 := Rd.next F7 hx3
              replace F8 := Rd.next F8 hx3
              replace F9 := Rd.next F9 hx3
              replace HB := Lib.hid (HB.out.trans (hx3.mono HB.out.size))
              replace ZB := Lib.hid (ZB.out.trans (hx3.mono ZB.out.size))
              clear hb hx3
              go_wp2_with fail
              have L6 : Hid (∀ g, v6.ownBlock = some g → g < z3.heap.size) := fun g hg => (World.ownsRow.lt H6.out g hg).2
              have cv := Give_yes Fp F8 HTW.out.2.2.1.f1 HTW.out.1 HTW.out.2.2.1.ap (by rw [HTW.out.2.2.1.eq]; have := HJ.out; omega)
              rw [HTW.out.2.2.1.eq] at cv
              refine Calls.mono (cv) ?_
              rintro e z4 ⟨vx, rfl, O, hb⟩
              clear cv
              replace H6 := Lib.hid (H6.out.next hb)
              have Fx := O.rd
              have Ox := O
              clear O
              have hx4 : RowKit.Below z3.heap.size z3 z4 := by
                refine Below.trans ?_ (hb.mono ?_)
                · (first | exact Below.refl _ _ | exact (Below.refl _ _).alloc (by simp) _ | exact ((Below.refl _ _).alloc (by simp) _).alloc (by simp) _ | exact (((Below.refl _ _).alloc (by simp) _).alloc (by simp) _).alloc (by simp) _)
                · first | exact Nat.le_refl _ | (simp; done) | (simp; omega)
              replace Fl := Rd.next Fl hx4
              replace Fo := Rd.next Fo hx4
              replace F6 := Rd.next F6 hx4
              replace F7 := Rd.next F7 hx4
              replace F8 := Rd.next F8 hx4
              replace F9 := Rd.next F9 hx4
              replace Fp := Rd.next Fp hx4
              replace HB := Lib.hid (HB.out.trans (hx4.mono HB.out.size))
              replace ZB := Lib.hid (ZB.out.trans (hx4.mono ZB.out.size))
              clear hb hx4
              go_wp2_with fail
              have OXh := Lib.hid Ox
              clear Ox
              have cv := Give_yes F9 F8 HTW.out.2.1 HTW.out.1 HTW.out.2.2.2.st HTW.out.2.2.2.f1.1
              refine Calls.mono (cv) ?_
              rintro e z5 ⟨vq, rfl, O, hb⟩
              replace OXh := Lib.hid (OXh.out.next hb)
              clear cv
              replace H6 := Lib.hid (H6.out.next hb)
              have Fq := O.rd
              clear O
              have hx5 : RowKit.Below z4.heap.size z4 z5 := by
                refine Below.trans ?_ (hb.mono ?_)
                · (first | exact Below.refl _ _ | exact (Below.refl _ _).alloc (by simp) _ | exact ((Below.refl _ _).alloc (by simp) _).alloc (by simp) _ | exact (((Below.refl _ _).alloc (by simp) _).alloc (by simp) _).alloc (by simp) _)
                · first | exact Nat.le_refl _ | (simp; done) | (simp; omega)
              replace Fl := Rd.next Fl hx5
              replace Fo := Rd.next Fo hx5
              replace F6 := Rd.next F6 hx5
              replace F7 := Rd.next F7 hx5
              replace F8 := Rd.next F8 hx5
              replace F9 := Rd.next F9 hx5
              replace Fp := Rd.next Fp hx5
              replace Fx := Rd.next Fx hx5
              replace HB := Lib.hid (HB.out.trans (hx5.mono HB.out.size))
              replace ZB := Lib.hid (ZB.out.trans (hx5.mono ZB.out.size))
              clear hb hx5
              go_wp2_with fail
              have cv := Give_yes Fq F6 HTW.out.2.2.2.f1 HTF.out.2.1 HTW.out.2.2.2.ap (by rw [HTW.out.2.2.2.eq]; have := HJ.out; omega)
              rw [HTW.out.2.2.2.eq] at cv
              have M6 : Hid (∀ g, v6.ownBlock = some g → g < z5.heap.size) := fun g hg => (World.ownsRow.lt H6.out g hg).2
              refine Calls.mono cv ?_
              rintro e z6 ⟨vy, rfl, Oy, hb⟩
              have OYh := Lib.hid Oy
              replace OXh := Lib.hid (OXh.out.next hb)
              replace H6 := Lib.hid (H6.out.next hb)
              replace HB := Lib.hid (HB.out.trans (hb.mono HB.out.size))
              replace ZB := Lib.hid (ZB.out.trans (hb.mono ZB.out.size))
              have hJ40 : (nrm l).length ≤ 40 := HJ.out
              generalize hNl : nrm l = J at *
              have HNL := Lib.hid hNl
              skip
              have HTL : Hid (TwL zo z3.heap.size z5.heap.size v6 vx vy T J z6) := ⟨⟨T, rfl, H6.out⟩, OXh.out, OYh.out, fun g hg => ⟨L6.out g hg, M6.out g hg⟩, ZB.out⟩
              obtain ⟨p6, c6, rfl⟩ := F6.len
              clear cv Oy OYh OXh H6 L6 M6 hb hNl ZB Fp Fq F8 F9 F7
              go_upto_region 16 with fail
              go_loopw [20] (fun s20 wr => ∃ k : Nat, s20 = .int .i64 k ∧ k ≤ T.length ∧ Aside (TwL zo z3.heap.size z5.heap.size (.slice p6 T.length c6) vx vy T J wr)) (fun s20 _ => T.length - (intOf s20).toNat)
              case atStart => exact ⟨0, rfl, Nat.zero_le _, HTL.out⟩
              case round =>
                obtain ⟨k, rfl, hk, tl⟩ := hrel
                have hT41 : T.length ≤ 1000 := HTF.out.2.1.1
                by_cases hlt : k < T.length
                · obtain ⟨T', hT', hO⟩ := tl.out.t
                  obtain ⟨g, rfl⟩ : ∃ g, p6 = some ⟨g, 0, none⟩ := by
                    obtain ⟨_, ⟨h0, h00⟩ | ⟨g, cap, cur, e, _⟩⟩ := hO
                    · omega
                    · simp only [Value.slice.injEq] at e; exact ⟨g, e.1⟩
                  have hO2 : wr.ownsRow zo.heap.size 37 2 (.slice (some ⟨g, 0, none⟩) T.length c6) T.length (fl T') := by have := hO; unfold OwnX at this; rw [hT'] at this; exact this
                  have hc := fl_at T' k (by omega)
                  have p0 : wr.cell? ⟨g, k * 2, none⟩ = some (.int .i64 T'[k]!.1) := (World.ownsRow.cellAt hO2 (k * 2) (by omega)).trans hc.1
                  have p1 : wr.cell? ⟨g, k * 2 + 1, none⟩ = some (.int .i64 T'[k]!.2) := (World.ownsRow.cellAt hO2 (k * 2 + 1) (by omega)).trans hc.2
                  have f0 : wr.frozen? ⟨g, k * 2, none⟩ = false := World.ownsRow.frozenAt hO2 (k * 2)
                  have f1 : wr.frozen? ⟨g, k * 2 + 1, none⟩ = false := World.ownsRow.frozenAt hO2 (k * 2 + 1)
                  have sA := World.ownsRow.stored hO2 (k * 2) (.int .i64 0)
                  have g1 : (wr.setCell ⟨g, k * 2, none⟩ (.int .i64 0)).cell? ⟨g, k * 2 + 1, none⟩ = some (.int .i64 T'[k]!.2) := (World.ownsRow.cellAt sA.1 (k * 2 + 1) (by omega)).trans (by rw [List.getElem?_set_ne (by omega)]; exact hc.2)
                  have g2 : (wr.setCell ⟨g, k * 2, none⟩ (.int .i64 0)).frozen? ⟨g, k * 2 + 1, none⟩ = false := World.ownsRow.frozenAt sA.1 (k * 2 + 1)
                  have lg : g < wr.heap.size := (World.ownsRow.lt hO2 g rfl).2
                  have NX := Lib.hid (tl.out.set hT' hO hlt)
                  clear hO hO2 hc sA tl hT'
                  generalize T'[k]!.1 = t1 at *
                  generalize T'[k]!.2 = t2 at *
                  go_wp2
                  go_roundw
                  case rel => exact ⟨k + 1, by go_num, by omega, NX.out⟩
                  case measure => simp [intOf]; omega
                · obtain rfl : k = T.length := by omega
                  have HE := Lib.hid tl.out
                  have hbz := tl.out.below
                  have Fl : Rd wr (.slice p l.length c) l := HFF.out.1.next hbz
                  have Fo : Rd wr vo l := HFF.out.2.next hbz
                  have Fx : Rd wr vx J := HE.out.x.rd
                  have Fy : Rd wr vy J := HE.out.y.rd
                  have HB : Hid (RowKit.Below w.heap.size w wr) := HBO.out.trans (hbz.mono HBO.out.size)
                  clear tl hbz hlt hk
                  generalize wr = zz at *
                  go_wp2_with fail
                  refine Calls.mono (Same_yes Fx Fy (by omega)) ?_
                  rintro e z7 ⟨rfl, hb⟩
                  have hx7 : RowKit.Below zz.heap.size zz z7 := by
                    refine Below.trans ?_ (hb.mono ?_)
                    · (first | exact Below.refl _ _ | exact (Below.refl _ _).alloc (by simp) _ | exact ((Below.refl _ _).alloc (by simp) _).alloc (by simp) _ | exact (((Below.refl _ _).alloc (by simp) _).alloc (by simp) _).alloc (by simp) _)
                    · first | exact Nat.le_refl _ | (simp; done) | (simp; omega)
                  replace Fl := Rd.next Fl hx7
                  replace Fo := Rd.next Fo hx7
                  replace Fx := Rd.next Fx hx7
                  replace Fy := Rd.next Fy hx7
                  replace HB := Lib.hid (HB.out.trans (hx7.mono HB.out.size))
                  clear hb hx7
                  go_wp2_with fail
                  have cn := Norm_any Fl HTF.out.2.2.2.1
                  rw [HNL.out] at cn
                  refine Calls.mono (cn) ?_
                  rintro e z8 ⟨vn, rfl, Fn, hb⟩
                  clear cn
                  replace Fn := OwnX.rd Fn
                  have hx8 : RowKit.Below z7.heap.size z7 z8 := by
                    refine Below.trans ?_ (hb.mono ?_)
                    · (first | exact Below.refl _ _ | exact (Below.refl _ _).alloc (by simp) _ | exact ((Below.refl _ _).alloc (by simp) _).alloc (by simp) _ | exact (((Below.refl _ _).alloc (by simp) _).alloc (by simp) _).alloc (by simp) _)
                    · first | exact Nat.le_refl _ | (simp; done) | (simp; omega)
                  replace Fl := Rd.next Fl hx8
                  replace Fo := Rd.next Fo hx8
                  replace Fx := Rd.next Fx hx8
                  replace Fy := Rd.next Fy hx8
                  replace HB := Lib.hid (HB.out.trans (hx8.mono HB.out.size))
                  clear hb hx8
                  go_wp2_with fail
                  refine Calls.mono (Same_yes Fx Fn (by omega)) ?_
                  rintro e z9 ⟨rfl, hb⟩
                  have hx9 : RowKit.Below z8.heap.size z8 z9 := by
                    refine Below.trans ?_ (hb.mono ?_)
                    · (first | exact Below.refl _ _ | exact (Below.refl _ _).alloc (by simp) _ | exact ((Below.refl _ _).alloc (by simp) _).alloc (by simp) _ | exact (((Below.refl _ _).alloc (by simp) _).alloc (by simp) _).alloc (by simp) _)
                    · first | exact Nat.le_refl _ | (simp; done) | (simp; omega)
                  replace Fl := Rd.next Fl hx9
                  replace Fo := Rd.next Fo hx9
                  replace Fx := Rd.next Fx hx9
                  replace Fy := Rd.next Fy hx9
                  replace Fn := Rd.next Fn hx9
                  replace HB := Lib.hid (HB.out.trans (hx9.mono HB.out.size))
                  clear hb hx9
                  go_wp2_with fail
                  refine Calls.mono (Same_yes Fl Fo (by have := HL.out; omega)) ?_
                  rintro e z10 ⟨rfl, hb⟩
                  have hx10 : RowKit.Below z9.heap.size z9 z10 := by
                    refine Below.trans ?_ (hb.mono ?_)
                    · (first | exact Below.refl _ _ | exact (Below.refl _ _).alloc (by simp) _ | exact ((Below.refl _ _).alloc (by simp) _).alloc (by simp) _ | exact (((Below.refl _ _).alloc (by simp) _).alloc (by simp) _).alloc (by simp) _)
                    · first | exact Nat.le_refl _ | (simp; done) | (simp; omega)
                  replace Fl := Rd.next Fl hx10
                  replace Fo := Rd.next Fo hx10
                  replace Fx := Rd.next Fx hx10
                  replace Fy := Rd.next Fy hx10
                  replace Fn := Rd.next Fn hx10
                  replace HB := Lib.hid (HB.out.trans (hx10.mono HB.out.size))
                  clear hb hx10
                  go_wp2_with fail
                  refine Calls.mono (head_any _) ?_
                  rintro e z11 ⟨rfl, hb⟩
                  have hx11 : RowKit.Below z10.heap.size z10 z11 := by
                    refine Below.trans ?_ (hb.mono ?_)
                    · (first | exact Below.refl _ _ | exact (Below.refl _ _).alloc (by simp) _ | exact ((Below.refl _ _).alloc (by simp) _).alloc (by simp) _ | exact (((Below.refl _ _).alloc (by simp) _).alloc (by simp) _).alloc (by simp) _)
                    · first | exact Nat.le_refl _ | (simp; done) | (simp; omega)
                  replace Fl := Rd.next Fl hx11
                  replace Fo := Rd.next Fo hx11
                  replace Fx := Rd.next Fx hx11
                  replace Fy := Rd.next Fy hx11
                  replace Fn := Rd.next Fn hx11
                  replace HB := Lib.hid (HB.out.trans (hx11.mono HB.out.size))
                  clear hb hx11
                  go_wp2_with fail
                  go_ret
                  exact ⟨rfl, HB.out⟩
            · skip
              refine Calls.mono (Take_full (!best) F7 hq HTF.out.2.2.1 (by omega)) ?_
              rintro e z2 ⟨rfl, hb⟩
              have hx2 : RowKit.Below z1.heap.size z1 z2 := by
                refine Below.trans ?_ (hb.mono ?_)
                · (first | exact Below.refl _ _ | exact (Below.refl _ _).alloc (by simp) _ | exact ((Below.refl _ _).alloc (by simp) _).alloc (by simp) _ | exact (((Below.refl _ _).alloc (by simp) _).alloc (by simp) _).alloc (by simp) _)
                · first | exact Nat.le_refl _ | (simp; done) | (simp; omega)
              replace Fl := Rd.next Fl hx2
              replace Fo := Rd.next Fo hx2
              replace F6 := Rd.next F6 hx2
              replace F7 := Rd.next F7 hx2
              replace HB := Lib.hid (HB.out.trans (hx2.mono HB.out.size))
              clear hb hx2
              go_wp2_with fail
              refine Calls.mono (Same_yes Fl Fo (by have := HL.out; omega)) ?_
              rintro e z3 ⟨rfl, hb⟩
              have hx3 : RowKit.Below z2.heap.size z2 z3 := by
                refine Below.trans ?_ (hb.mono ?_)
                · (first | exact Below.refl _ _ | exact (Below.refl _ _).alloc (by simp) _ | exact ((Below.refl _ _).alloc (by simp) _).alloc (by simp) _ | exact (((Below.refl _ _).alloc (by simp) _).alloc (by simp) _).alloc (by simp) _)
                · first | exact Nat.le_refl _ | (simp; done) | (simp; omega)
              replace Fl := Rd.next Fl hx3
              replace Fo := Rd.next Fo hx3
              replace F6 := Rd.next F6 hx3
              replace F7 := Rd.next F7 hx3
              replace HB := Lib.hid (HB.out.trans (hx3.mono HB.out.size))
              clear hb hx3
              go_wp2_with fail
              refine Calls.mono (head_any _) ?_
              rintro e z4 ⟨rfl, hb⟩
              have hx4 : RowKit.Below z3.heap.size z3 z4 := by
                refine Below.trans ?_ (hb.mono ?_)
                · (first | exact Below.refl _ _ | exact (Below.refl _ _).alloc (by simp) _ | exact ((Below.refl _ _).alloc (by simp) _).alloc (by simp) _ | exact (((Below.refl _ _).alloc (by simp) _).alloc (by simp) _).alloc (by simp) _)
                · first | exact Nat.le_refl _ | (simp; done) | (simp; omega)
              replace Fl := Rd.next Fl hx4
              replace Fo := Rd.next Fo hx4
              replace F6 := Rd.next F6 hx4
              replace F7 := Rd.next F7 hx4
              replace HB := Lib.hid (HB.out.trans (hx4.mono HB.out.size))
              clear hb hx4
              go_wp2_with fail
              go_ret
              exact ⟨rfl, HB.out⟩
          · obtain ⟨p7, c7, rfl⟩ := F7.len
            refine Calls.mono (Take_arg (v := .bool true) (!best) hq) ?_
            rintro e z2 ⟨rfl, hb⟩
            have hx2 : RowKit.Below z1.heap.size z1 z2 := by
              refine Below.trans ?_ (hb.mono ?_)
              · (first | exact Below.refl _ _ | exact (Below.refl _ _).alloc (by simp) _ | exact ((Below.refl _ _).alloc (by simp) _).alloc (by simp) _ | exact (((Below.refl _ _).alloc (by simp) _).alloc (by simp) _).alloc (by simp) _)
              · first | exact Nat.le_refl _ | (simp; done) | (simp; omega)
            replace Fl := Rd.next Fl hx2
            replace Fo := Rd.next Fo hx2
            replace F6 := Rd.next F6 hx2
            replace F7 := Rd.next F7 hx2
            replace HB := Lib.hid (HB.out.trans (hx2.mono HB.out.size))
            clear hb hx2
            go_wp2_with fail
            refine Calls.mono (Same_yes Fl Fo (by have := HL.out; omega)) ?_
            rintro e z3 ⟨rfl, hb⟩
            have hx3 : RowKit.Below z2.heap.size z2 z3 := by
              refine Below.trans ?_ (hb.mono ?_)
              · (first | exact Below.refl _ _ | exact (Below.refl _ _).alloc (by simp) _ | exact ((Below.refl _ _).alloc (by simp) _).alloc (by simp) _ | exact (((Below.refl _ _).alloc (by simp) _).alloc (by simp) _).alloc (by simp) _)
              · first | exact Nat.le_refl _ | (simp; done) | (simp; omega)
            replace Fl := Rd.next Fl hx3
            replace Fo := Rd.next Fo hx3
            replace F6 := Rd.next F6 hx3
            replace F7 := Rd.next F7 hx3
            replace HB := Lib.hid (HB.out.trans (hx3.mono HB.out.size))
            clear hb hx3
            go_wp2_with fail
            refine Calls.mono (head_any _) ?_
            rintro e z4 ⟨rfl, hb⟩
            have hx4 : RowKit.Below z3.heap.size z3 z4 := by
              refine Below.trans ?_ (hb.mono ?_)
              · (first | exact Below.refl _ _ | exact (Below.refl _ _).alloc (by simp) _ | exact ((Below.refl _ _).alloc (by simp) _).alloc (by simp) _ | exact (((Below.refl _ _).alloc (by simp) _).alloc (by simp) _).alloc (by simp) _)
              · first | exact Nat.le_refl _ | (simp; done) | (simp; omega)
            replace Fl := Rd.next Fl hx4
            replace Fo := Rd.next Fo hx4
            replace F6 := Rd.next F6 hx4
            replace F7 := Rd.next F7 hx4
            replace HB := Lib.hid (HB.out.trans (hx4.mono HB.out.size))
            clear hb hx4
            go_wp2_with fail
            go_ret
            exact ⟨rfl, HB.out⟩
        · skip
          refine Calls.mono (Take_full best Fl hq hf (by omega)) ?_
          rintro e z1 ⟨rfl, hb⟩
          have hx1 : RowKit.Below zo.heap.size zo z1 := by
            refine Below.trans ?_ (hb.mono ?_)
            · (first | exact Below.refl _ _ | exact (Below.refl _ _).alloc (by simp) _ | exact ((Below.refl _ _).alloc (by simp) _).alloc (by simp) _ | exact (((Below.refl _ _).alloc (by simp) _).alloc (by simp) _).alloc (by simp) _)
            · first | exact Nat.le_refl _ | (simp; done) | (simp; omega)
          replace Fl := Rd.next Fl hx1
          replace Fo := Rd.next Fo hx1
          replace HB := Lib.hid (HB.out.trans (hx1.mono HB.out.size))
          clear hb hx1
          go_wp2_with fail
          refine Calls.mono (Take_some m (!best) (l := []) (.inl ⟨_, _, rfl, rfl, fun _ => rfl⟩) (by simp)) ?_
          rintro e z2 ⟨u0, s0, f0, rfl, hb⟩
          have hx2 : RowKit.Below z1.heap.size z1 z2 := by
            refine Below.trans ?_ (hb.mono ?_)
            · (first | exact Below.refl _ _ | exact (Below.refl _ _).alloc (by simp) _ | exact ((Below.refl _ _).alloc (by simp) _).alloc (by simp) _ | exact (((Below.refl _ _).alloc (by simp) _).alloc (by simp) _).alloc (by simp) _)
            · first | exact Nat.le_refl _ | (simp; done) | (simp; omega)
          replace Fl := Rd.next Fl hx2
          replace Fo := Rd.next Fo hx2
          replace HB := Lib.hid (HB.out.trans (hx2.mono HB.out.size))
          clear hb hx2
          go_wp2_with fail
          refine Calls.mono (Same_yes Fl Fo (by have := HL.out; omega)) ?_
          rintro e z3 ⟨rfl, hb⟩
          have hx3 : RowKit.Below z2.heap.size z2 z3 := by
            refine Below.trans ?_ (hb.mono ?_)
            · (first | exact Below.refl _ _ | exact (Below.refl _ _).alloc (by simp) _ | exact ((Below.refl _ _).alloc (by simp) _).alloc (by simp) _ | exact (((Below.refl _ _).alloc (by simp) _).alloc (by simp) _).alloc (by simp) _)
            · first | exact Nat.le_refl _ | (simp; done) | (simp; omega)
          replace Fl := Rd.next Fl hx3
          replace Fo := Rd.next Fo hx3
          replace HB := Lib.hid (HB.out.trans (hx3.mono HB.out.size))
          clear hb hx3
          go_wp2_with fail
          refine Calls.mono (head_any _) ?_
          rintro e z4 ⟨rfl, hb⟩
          have hx4 : RowKit.Below z3.heap.size z3 z4 := by
            refine Below.trans ?_ (hb.mono ?_)
            · (first | exact Below.refl _ _ | exact (Below.refl _ _).alloc (by simp) _ | exact ((Below.refl _ _).alloc (by simp) _).alloc (by simp) _ | exact (((Below.refl _ _).alloc (by simp) _).alloc (by simp) _).alloc (by simp) _)
            · first | exact Nat.le_refl _ | (simp; done) | (simp; omega)
          replace Fl := Rd.next Fl hx4
          replace Fo := Rd.next Fo hx4
          replace HB := Lib.hid (HB.out.trans (hx4.mono HB.out.size))
          clear hb hx4
          go_wp2_with fail
          go_ret
          exact ⟨rfl, HB.out⟩
      · skip
        refine Calls.mono (Take_bad best Fl (by have := HL.out; omega) hq hf) ?_
        rintro e z1 ⟨rfl, hb⟩
        have hx1 : RowKit.Below zo.heap.size zo z1 := by
          refine Below.trans ?_ (hb.mono ?_)
          · (first | exact Below.refl _ _ | exact (Below.refl _ _).alloc (by simp) _ | exact ((Below.refl _ _).alloc (by simp) _).alloc (by simp) _ | exact (((Below.refl _ _).alloc (by simp) _).alloc (by simp) _).alloc (by simp) _)
          · first | exact Nat.le_refl _ | (simp; done) | (simp; omega)
        replace Fl := Rd.next Fl hx1
        replace Fo := Rd.next Fo hx1
        replace HB := Lib.hid (HB.out.trans (hx1.mono HB.out.size))
        clear hb hx1
        go_wp2_with fail
        refine Calls.mono (Take_some m (!best) (l := []) (.inl ⟨_, _, rfl, rfl, fun _ => rfl⟩) (by simp)) ?_
        rintro e z2 ⟨u0, s0, f0, rfl, hb⟩
        have hx2 : RowKit.Below z1.heap.size z1 z2 := by
          refine Below.trans ?_ (hb.mono ?_)
          · (first | exact Below.refl _ _ | exact (Below.refl _ _).alloc (by simp) _ | exact ((Below.refl _ _).alloc (by simp) _).alloc (by simp) _ | exact (((Below.refl _ _).alloc (by simp) _).alloc (by simp) _).alloc (by simp) _)
          · first | exact Nat.le_refl _ | (simp; done) | (simp; omega)
        replace Fl := Rd.next Fl hx2
        replace Fo := Rd.next Fo hx2
        replace HB := Lib.hid (HB.out.trans (hx2.mono HB.out.size))
        clear hb hx2
        go_wp2_with fail
        refine Calls.mono (Same_yes Fl Fo (by have := HL.out; omega)) ?_
        rintro e z3 ⟨rfl, hb⟩
        have hx3 : RowKit.Below z2.heap.size z2 z3 := by
          refine Below.trans ?_ (hb.mono ?_)
          · (first | exact Below.refl _ _ | exact (Below.refl _ _).alloc (by simp) _ | exact ((Below.refl _ _).alloc (by simp) _).alloc (by simp) _ | exact (((Below.refl _ _).alloc (by simp) _).alloc (by simp) _).alloc (by simp) _)
          · first | exact Nat.le_refl _ | (simp; done) | (simp; omega)
        replace Fl := Rd.next Fl hx3
        replace Fo := Rd.next Fo hx3
        replace HB := Lib.hid (HB.out.trans (hx3.mono HB.out.size))
        clear hb hx3
        go_wp2_with fail
        refine Calls.mono (head_any _) ?_
        rintro e z4 ⟨rfl, hb⟩
        have hx4 : RowKit.Below z3.heap.size z3 z4 := by
          refine Below.trans ?_ (hb.mono ?_)
          · (first | exact Below.refl _ _ | exact (Below.refl _ _).alloc (by simp) _ | exact ((Below.refl _ _).alloc (by simp) _).alloc (by simp) _ | exact (((Below.refl _ _).alloc (by simp) _).alloc (by simp) _).alloc (by simp) _)
          · first | exact Nat.le_refl _ | (simp; done) | (simp; omega)
        replace Fl := Rd.next Fl hx4
        replace Fo := Rd.next Fo hx4
        replace HB := Lib.hid (HB.out.trans (hx4.mono HB.out.size))
        clear hb hx4
        go_wp2_with fail
        go_ret
        exact ⟨rfl, HB.out⟩
    · skip
      refine Calls.mono (Take_arg (v := .bool true) best hq) ?_
      rintro e z1 ⟨rfl, hb⟩
      have hx1 : RowKit.Below zo.heap.size zo z1 := by
        refine Below.trans ?_ (hb.mono ?_)
        · (first | exact Below.refl _ _ | exact (Below.refl _ _).alloc (by simp) _ | exact ((Below.refl _ _).alloc (by simp) _).alloc (by simp) _ | exact (((Below.refl _ _).alloc (by simp) _).alloc (by simp) _).alloc (by simp) _)
        · first | exact Nat.le_refl _ | (simp; done) | (simp; omega)
      replace Fl := Rd.next Fl hx1
      replace Fo := Rd.next Fo hx1
      replace HB := Lib.hid (HB.out.trans (hx1.mono HB.out.size))
      clear hb hx1
      go_wp2_with fail
      refine Calls.mono (Take_some m (!best) (l := []) (.inl ⟨_, _, rfl, rfl, fun _ => rfl⟩) (by simp)) ?_
      rintro e z2 ⟨u0, s0, f0, rfl, hb⟩
      have hx2 : RowKit.Below z1.heap.size z1 z2 := by
        refine Below.trans ?_ (hb.mono ?_)
        · (first | exact Below.refl _ _ | exact (Below.refl _ _).alloc (by simp) _ | exact ((Below.refl _ _).alloc (by simp) _).alloc (by simp) _ | exact (((Below.refl _ _).alloc (by simp) _).alloc (by simp) _).alloc (by simp) _)
        · first | exact Nat.le_refl _ | (simp; done) | (simp; omega)
      replace Fl := Rd.next Fl hx2
      replace Fo := Rd.next Fo hx2
      replace HB := Lib.hid (HB.out.trans (hx2.mono HB.out.size))
      clear hb hx2
      go_wp2_with fail
      refine Calls.mono (Same_yes Fl Fo (by have := HL.out; omega)) ?_
      rintro e z3 ⟨rfl, hb⟩
      have hx3 : RowKit.Below z2.heap.size z2 z3 := by
        refine Below.trans ?_ (hb.mono ?_)
        · (first | exact Below.refl _ _ | exact (Below.refl _ _).alloc (by simp) _ | exact ((Below.refl _ _).alloc (by simp) _).alloc (by simp) _ | exact (((Below.refl _ _).alloc (by simp) _).alloc (by simp) _).alloc (by simp) _)
        · first | exact Nat.le_refl _ | (simp; done) | (simp; omega)
      replace Fl := Rd.next Fl hx3
      replace Fo := Rd.next Fo hx3
      replace HB := Lib.hid (HB.out.trans (hx3.mono HB.out.size))
      clear hb hx3
      go_wp2_with fail
      refine Calls.mono (head_any _) ?_
      rintro e z4 ⟨rfl, hb⟩
      have hx4 : RowKit.Below z3.heap.size z3 z4 := by
        refine Below.trans ?_ (hb.mono ?_)
        · (first | exact Below.refl _ _ | exact (Below.refl _ _).alloc (by simp) _ | exact ((Below.refl _ _).alloc (by simp) _).alloc (by simp) _ | exact (((Below.refl _ _).alloc (by simp) _).alloc (by simp) _).alloc (by simp) _)
        · first | exact Nat.le_refl _ | (simp; done) | (simp; omega)
      replace Fl := Rd.next Fl hx4
      replace Fo := Rd.next Fo hx4
      replace HB := Lib.hid (HB.out.trans (hx4.mono HB.out.size))
      clear hb hx4
      go_wp2_with fail
      go_ret
      exact ⟨rfl, HB.out⟩
end Go.Proofs.Ytgimecpillhmcaa.gn
