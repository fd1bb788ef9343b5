/- Take and Give of a slot in plain words; a room with more; a shape without what comes in and goes out; the contracts for any room, shape and slot. -/
import Derived.Test.YtigomdihkojdmaaFtO
import Derived.Test.YtigomdihkojdmaaStY
namespace Go.Proofs.Ytigomdihkojdmaa.gn
open Go.RowKit Go.Shelf
open Go.Proofs.Ytigomdihkojdmaa.sp

theorem more_in {L : List (Int × Int)} {a b n t : Int} (h : a ≤ t ∧ t < b) : more L a b n t = sp.val L t + n := by unfold more; rw [if_pos h]
theorem more_out {L : List (Int × Int)} {a b n t : Int} (h : ¬ (a ≤ t ∧ t < b)) : more L a b n t = sp.val L t := by unfold more; rw [if_neg h, Int.add_zero]
theorem take_fine {r : Rm} {x : Shp} {a : Slt} (hr : r.Ok) (hx : x.Q) (ha : IsSlot r x a) (n1 : r.n.length ≤ 1000) (n2 : r.b.length ≤ 1000) (n3 : r.l.length ≤ 1000) : Fine (fun n => -n) r x a := by
  have one : ∀ (L : List (Int × Int)) (hL : Ok L) (lo hi n : Int), Q n → (∀ u, lo ≤ u → u < hi → n ≤ sp.val L u) → ∀ t, Q t → Q (more L lo hi (-n) t) := fun L hL lo hi n hn h t ht => by
    have hv := hL.val ht.1
    by_cases hi' : lo ≤ t ∧ t < hi
    · rw [more_in hi']
      have := h t hi'.1 hi'.2
      exact ⟨by have := hv.1; omega, by have := hv.2; have := hn.1; omega⟩
    · rw [more_out hi']; exact hv
  have c0 := ha.c
  have o0 := ha.o
  have i0 := hx.i.1
  have w0 := hx.w.1
  refine ⟨one _ hr.l _ _ _ hx.l ha.inn.2, one _ hr.n _ _ _ hx.n ha.work.2, fun M hM => ?_, one _ hr.b _ _ _ hx.b fun u h1 h2 => ha.held.2 u h1 (by omega), ha.inn.1, ha.work.1, ha.out.1, ha.s0, ha.c0, ha.o0, n1, n2, n3⟩
  have hMo := hM.ok (by have := hM.len; omega)
  refine one M hMo _ _ _ hx.l fun u h1 h2 => ?_
  have s0 := ha.s0.1
  rw [hM.val u (by omega), more_out (by omega)]
  exact ha.out.2 u h1 h2

/-- Behind Take. -/
structure Less (r : Rm) (x : Shp) (a : Slt) (y : Rm) : Prop where
  n : ∀ t, 0 ≤ t → sp.val y.n t = more r.n a.c (a.c + x.w) (-x.n) t
  b : ∀ t, 0 ≤ t → sp.val y.b t = more r.b a.s (a.o + x.o) (-x.b) t
  l : ∀ t, 0 ≤ t → sp.val y.l t = if a.o ≤ t ∧ t < a.o + x.o then sp.val r.l t - x.l else more r.l a.s (a.s + x.i) (-x.l) t
theorem less_of {r : Rm} {x : Shp} {a : Slt} {y : Rm} (hx : x.Q) (ha : IsSlot r x a) (h : Stg (fun n => -n) r x a 4 y) : Less r x a y := by
  obtain ⟨h1, ⟨M, hM, h2, h3⟩, h4⟩ := h
  refine ⟨fun t ht => h4.val t ht, fun t ht => h1.val t ht, fun t ht => ?_⟩
  rw [h3.val t ht]
  have c0 := ha.c
  have o0 := ha.o
  have i0 := hx.i.1
  have w0 := hx.w.1
  by_cases hi : a.o ≤ t ∧ t < a.o + x.o
  · rw [more_in hi, if_pos hi, h2.val t ht, more_out (by omega)]
    show _ + -x.l = _
    omega
  · rw [more_out hi, if_neg hi, h2.val t ht]
theorem give_fine {r : Rm} {x : Shp} {a : Slt} {y : Rm} (hr : r.Ok) (hx : x.Q) (ha : IsSlot r x a) (hy : y.Ok) (h : Less r x a y) (n1 : y.n.length ≤ 1000) (n2 : y.b.length ≤ 1000) (n3 : y.l.length ≤ 1000) : Fine (fun n => n) y x a := by
  have c0 := ha.c
  have o0 := ha.o
  have i0 := hx.i.1
  have w0 := hx.w.1
  have b0 := hx.b.1
  have k0 := hx.l.1
  refine ⟨fun t ht => ?_, fun t ht => ?_, fun M hM t ht => ?_, fun t ht => ?_, ha.inn.1, ha.work.1, ha.out.1, ha.s0, ha.c0, ha.o0, n1, n2, n3⟩
  · have hv := hr.l.val ht.1
    have e := h.l t ht.1
    by_cases hi : a.s ≤ t ∧ t < a.s + x.i
    · rw [more_in hi, e, if_neg (by omega), more_in hi]
      show Q (_ + -x.l + x.l)
      rw [show sp.val r.l t + -x.l + x.l = sp.val r.l t by omega]; exact hv
    · rw [more_out hi]; exact hy.l.val ht.1
  · have hv := hr.n.val ht.1
    have e := h.n t ht.1
    by_cases hi : a.c ≤ t ∧ t < a.c + x.w
    · rw [more_in hi, e, more_in hi]
      show Q (_ + -x.n + x.n)
      rw [show sp.val r.n t + -x.n + x.n = sp.val r.n t by omega]; exact hv
    · rw [more_out hi]; exact hy.n.val ht.1
  · have hMo := hM.ok (by have := hM.len; omega)
    have hv := hr.l.val ht.1
    by_cases hi : a.o ≤ t ∧ t < a.o + x.o
    · rw [more_in hi, hM.val t ht.1, more_out (by omega), h.l t ht.1, if_pos hi]
      rw [show sp.val r.l t - x.l + x.l = sp.val r.l t by omega]; exact hv
    · rw [more_out hi]; exact hMo.val ht.1
  · have hv := hr.b.val ht.1
    have e := h.b t ht.1
    by_cases hi : a.s ≤ t ∧ t < a.o + x.o
    · rw [more_in hi, e, more_in hi]
      show Q (_ + -x.b + x.b)
      rw [show sp.val r.b t + -x.b + x.b = sp.val r.b t by omega]; exact hv
    · rw [more_out hi]; exact hy.b.val ht.1
/-- Given back, all is as it was. -/
theorem back_same {r : Rm} {x : Shp} {a : Slt} {y z : Rm} (hx : x.Q) (ha : IsSlot r x a) (h : Less r x a y) (hz : Stg (fun n => n) y x a 4 z) : samB z.n r.n = true ∧ samB z.b r.b = true ∧ samB z.l r.l = true := by
  obtain ⟨h1, ⟨M, hM, h2, h3⟩, h4⟩ := hz
  have c0 := ha.c
  have o0 := ha.o
  have i0 := hx.i.1
  have w0 := hx.w.1
  refine ⟨samB_yes fun t ht => ?_, samB_yes fun t ht => ?_, samB_yes fun t ht => ?_⟩
  · rw [h4.val t ht.1]
    by_cases hi : a.c ≤ t ∧ t < a.c + x.w
    · rw [more_in hi, h.n t ht.1, more_in hi]; show _ + -x.n + x.n = _; omega
    · rw [more_out hi, h.n t ht.1, more_out hi]
  · rw [h1.val t ht.1]
    by_cases hi : a.s ≤ t ∧ t < a.o + x.o
    · rw [more_in hi, h.b t ht.1, more_in hi]; show _ + -x.b + x.b = _; omega
    · rw [more_out hi, h.b t ht.1, more_out hi]
  · rw [h3.val t ht.1]
    by_cases ho : a.o ≤ t ∧ t < a.o + x.o
    · rw [more_in ho, h2.val t ht.1, more_out (by omega), h.l t ht.1, if_pos ho]; show _ - x.l + x.l = _; omega
    · rw [more_out ho, h2.val t ht.1]
      by_cases hi : a.s ≤ t ∧ t < a.s + x.i
      · rw [more_in hi, h.l t ht.1, if_neg ho, more_in hi]; show _ + -x.l + x.l = _; omega
      · rw [more_out hi, h.l t ht.1, if_neg ho, more_out hi]

/-- A room that has more. -/
structure MoreR (r y : Rm) : Prop where
  n : ∀ t, 0 ≤ t → sp.val r.n t ≤ sp.val y.n t
  b : ∀ t, 0 ≤ t → sp.val r.b t ≤ sp.val y.b t
  l : ∀ t, 0 ≤ t → sp.val r.l t ≤ sp.val y.l t
theorem MoreR.fits {L M : List (Int × Int)} (h : ∀ t, 0 ≤ t → sp.val L t ≤ sp.val M t) {t l n : Int} (ht : 0 ≤ t) (hf : FitsAt L t l n) : FitsAt M t l n := ⟨hf.1, fun u h1 h2 => Int.le_trans (hf.2 u h1 h2) (h u (by omega))⟩
theorem MoreR.slot {r y : Rm} {x : Shp} {a : Slt} (h : MoreR r y) (ha : IsSlot r x a) : IsSlot y x a :=
  ⟨ha.s0, ha.c0, ha.o0, MoreR.fits h.l ha.s0.1 ha.inn, ha.c, MoreR.fits h.n ha.c0.1 ha.work, ha.o, MoreR.fits h.l ha.o0.1 ha.out, MoreR.fits h.b ha.s0.1 ha.held⟩
theorem turned_more {L M : List (Int × Int)} {a b n : Int} (hn : 0 ≤ n) (h : Turned L a b n M) : ∀ t, 0 ≤ t → sp.val L t ≤ sp.val M t := fun t ht => by
  rw [h.val t ht]
  by_cases hi : a ≤ t ∧ t < b
  · rw [more_in hi]; omega
  · rw [more_out hi]; exact Int.le_refl _

/-- The first slot, or none. -/
theorem slot_some {r : Rm} {x : Shp} (hr : r.Ok) (hx : x.Q) {f : Int} (hf : Q f) {z : Slt} (h : slot? r x f = some z) : First r x f z := by
  have := slot_is hr hx hf
  rw [h] at this
  exact this
theorem slot_none {r : Rm} {x : Shp} (hr : r.Ok) (hx : x.Q) {f : Int} (hf : Q f) (h : slot? r x f = none) (a : Slt) (ha : IsSlot r x a) : a.s < f := by
  have := slot_is hr hx hf
  rw [h] at this
  exact this a ha
/-- In a room with more the first slot is there, and not later. -/
theorem more_first {r y : Rm} {x : Shp} (hr : r.Ok) (hy : y.Ok) (hx : x.Q) {f : Int} (hf : Q f) (hm : MoreR r y) {z : Slt} (h : slot? r x f = some z) : ∃ z', slot? y x f = some z' ∧ z'.s ≤ z.s ∧ z'.c ≤ z.c ∧ z'.o ≤ z.o := by
  have h1 := slot_some hr hx hf h
  have h2 := hm.slot h1.is
  cases hz : slot? y x f with
  | none => have := slot_none hy hx hf hz _ h2; have := h1.ge; omega
  | some z' => exact ⟨z', rfl, (slot_some hy hx hf hz).least _ h2 h1.ge⟩
/-- From a later time on it is not sooner. -/
theorem late_first {r : Rm} {x : Shp} (hr : r.Ok) (hx : x.Q) {f g : Int} (hf : Q f) (hg : Q g) (hfg : f ≤ g) {z z' : Slt} (h : slot? r x f = some z) (h' : slot? r x g = some z') : z.s ≤ z'.s ∧ z.c ≤ z'.c ∧ z.o ≤ z'.o ∧ g ≤ z'.s := by
  have h1 := slot_some hr hx hf h
  have h2 := slot_some hr hx hg h'
  have h3 := h2.ge
  obtain ⟨a, b, c⟩ := h1.least _ h2.is (by omega)
  exact ⟨a, b, c, h3⟩
/-- The work alone. -/
def bare (x : Shp) : Shp := ⟨0, x.w, 0, x.n, 0, x.l⟩
theorem q_zero : Q 0 := ⟨by decide, by decide⟩
theorem bare_q {x : Shp} (hw : Q x.w) (hn : Q x.n) (hl : Q x.l) : (bare x).Q := ⟨q_zero, hw, q_zero, hn, q_zero, hl⟩
theorem parts_none {r : Rm} {x : Shp} (hr : r.Ok) (hw : Q x.w) (hn : Q x.n) (hl : Q x.l) {f : Int} (hf : Q f) (h : fst? r.n f x.w x.n = none) : slot? r (bare x) f = none := by
  cases hz : slot? r (bare x) f with
  | none => rfl
  | some z =>
    have h1 := slot_some hr (bare_q hw hn hl) hf hz
    have h2 := h1.ge
    have h3 : z.s + 0 ≤ z.c := h1.is.c
    exact absurd h1.is.work (fst_none hr.n hf.1 hw.1 h z.c (by omega))
theorem parts_some {r : Rm} {x : Shp} (hr : r.Ok) (hw : Q x.w) (hn : Q x.n) (hl : Q x.l) {f t : Int} (hf : Q f) (h : fst? r.n f x.w x.n = some t) : slot? r (bare x) f = some ⟨f, t, t + x.w⟩ ∧ t + x.w ≤ 1099511627776 ∧ f ≤ t := by
  have h0 := fst_some hr.n hf.1 hw.1 h
  have h1 := h0.fits hf.2
  have h2 := h0.ge
  have w0 := hw.1
  have f0 := hf.1
  have ht := h1.1
  have hs : IsSlot r (bare x) ⟨f, t, t + x.w⟩ := ⟨hf, ⟨by show 0 ≤ t; omega, by show t ≤ _; omega⟩, ⟨by show 0 ≤ t + x.w; omega, ht⟩, ⟨by show f + 0 ≤ _; have := hf.2; omega, fun u h1 h2 => by exfalso; have h2 : u < f + 0 := h2; have h1 : f ≤ u := h1; omega⟩, by show f + 0 ≤ t; omega, h1, Int.le_refl _, ⟨by show t + x.w + 0 ≤ _; omega, fun u h1 h2 => by exfalso; have h2 : u < t + x.w + 0 := h2; have h1 : t + x.w ≤ u := h1; omega⟩,
    ⟨by show f + (t + x.w + 0 - f) ≤ _; omega, fun u h1 h2 => (hr.b.val (by have h1 : f ≤ u := h1; omega)).1⟩⟩
  refine ⟨?_, ht, h2⟩
  cases hz : slot? r (bare x) f with
  | none => have := slot_none hr (bare_q hw hn hl) hf hz _ hs; have : f < f := this; omega
  | some z =>
    have g1 := slot_some hr (bare_q hw hn hl) hf hz
    obtain ⟨l1, l2, l3⟩ := g1.least _ hs (Int.le_refl _)
    have l1 : z.s ≤ f := l1
    have l2 : z.c ≤ t := l2
    have l3 : z.o ≤ t + x.w := l3
    have g2 := g1.ge
    have g3 : z.s + 0 ≤ z.c := g1.is.c
    have g4 : z.c + x.w ≤ z.o := g1.is.o
    have g5 := h0.least z.c (by omega) g1.is.work
    obtain ⟨s, c, o⟩ := z
    have e1 : s = f := by have l1 : s ≤ f := l1; have g2 : f ≤ s := g2; omega
    have e2 : c = t := by have l2 : c ≤ t := l2; have g5 : t ≤ c := g5; omega
    have e3 : o = t + x.w := by have l3 : o ≤ t + x.w := l3; have g4 : c + x.w ≤ o := g4; omega
    rw [e1, e2, e3]

/-! The contracts, whatever is handed in. -/
theorem is_any {w : World} {v : Rv} {R : Rw} (x : Shp) (a : Slt) (h : RoomV w v R) : Calls Try.prog 9 #[.agg v.c, shpV x, sltV a] w (TellsB (isB R x a) w) := by
  by_cases hok : R.Ok ∧ x.Q ∧ Q a.s ∧ Q a.c ∧ Q a.o
  · obtain ⟨r, hr, hR⟩ := Rw.ok_iff.1 hok.1
    exact is_good h hr hR hok.2.1 hok.2.2.1 hok.2.2.2.1 hok.2.2.2.2
  · have := is_bad x a h hok
    rwa [← isB_no (R := R) (x := x) (a := a) fun hs => hok ⟨Rw.ok_iff.2 (by obtain ⟨r, h1, h2, _⟩ := hs.2; exact ⟨r, h1, h2⟩), hs.1, (by obtain ⟨r, _, _, h3⟩ := hs.2; exact ⟨h3.s0, h3.c0, h3.o0⟩)⟩] at this
end Go.Proofs.Ytigomdihkojdmaa.gn
