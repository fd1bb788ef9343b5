/- 'do': an act on a directory and on the document's. -/
import Derived.Test.YtdfiofjnijnodaaFjJ
import Derived.Deep.RegionHeld3
set_option linter.unusedVariables false
namespace Go.Proofs.Ytdfiofjnijnodaa.gn
open Go.RowKit
open Go.Proofs.Ytdfiofjnijnodaa.fi

/-- An act as a value: its cells. -/
def acv (x : Ac) : Array Value := #[.int .u8 (x.t : Int), .string (str x.n), .string (str x.s), .int .i64 x.k, .int .i64 x.f.keep, .int .u64 (x.f.lose : Int), .int .i64 x.f.cut]
structure AcOk (x : Ac) : Prop where
  t : x.t < 256
  n : x.n.length ≤ 100
  s : x.s.length ≤ 300
  f : x.f.lose < 18446744073709551616
def ActB (w : World) (b : Nat) (x : Ac) : Prop := w.heap[b]? = some (.cells (acv x) 27 (0, 0))
theorem ActB.cells {w : World} {b : Nat} {x : Ac} (h : ActB w b x) :
    w.cell? ⟨b, 0, none⟩ = some (.int .u8 (x.t : Int)) ∧ w.cell? ⟨b, 1, none⟩ = some (.string (str x.n)) ∧ w.cell? ⟨b, 2, none⟩ = some (.string (str x.s)) ∧ w.cell? ⟨b, 3, none⟩ = some (.int .i64 x.k) ∧ w.cell? ⟨b, 4, none⟩ = some (.int .i64 x.f.keep) ∧ w.cell? ⟨b, 5, none⟩ = some (.int .u64 (x.f.lose : Int)) ∧ w.cell? ⟨b, 6, none⟩ = some (.int .i64 x.f.cut) :=
  ⟨by rw [cell_of_row w b 0 _ _ _ h]; rfl, by rw [cell_of_row w b 1 _ _ _ h]; rfl, by rw [cell_of_row w b 2 _ _ _ h]; rfl, by rw [cell_of_row w b 3 _ _ _ h]; rfl, by rw [cell_of_row w b 4 _ _ _ h]; rfl, by rw [cell_of_row w b 5 _ _ _ h]; rfl, by rw [cell_of_row w b 6 _ _ _ h]; rfl⟩
/-- What 'do' answers. -/
def Acts (Z : Nat → Prop) (D : Nat → Option FS) (q K : Nat) (w : World) (e : Ending) (w' : World) : Prop := (∃ b, e = .returned (.bool b)) ∧ Duo Z w' D q K ∧ Held Z w w'
theorem Held.undrew {Z : Nat → Prop} {x w' : World} (h : Held Z x.drew w') : Held Z x w' := by
  have k : Only (fun i => ¬ Z i) x.drew w' := h
  exact ⟨k.os, k.tape, k.output, k.size, k.block⟩
def Lk (Z : Nat → Prop) (a b : Nat) : Nat → Prop := fun i => Z i ∨ i = a ∨ i = b
theorem OpB.held {Z : Nat → Prop} {w w' : World} {b : Nat} {k : Int} {nm s : ByteArray} {n : Int} (hh : Held Z w w') (h : OpB w b k nm s n) (hz : Z b) : OpB w' b k nm s n := hh.block hz h
theorem ActB.held {Z : Nat → Prop} {w w' : World} {b : Nat} {x : Ac} (hh : Held Z w w') (h : ActB w b x) (hz : Z b) : ActB w' b x := hh.block hz h

set_option maxHeartbeats 4000000 in
set_option maxRecDepth 100000 in
theorem act_0 (Z : Nat → Prop) (w : World) (D : Nat → Option FS) (q K d : Nat) (s : FS) (h : Duo Z w D q K) (hd : D d = some s) (hwt : s.wt ≤ 549755813888) (hK : K ≤ 300) (x : Ac) (hx : AcOk x) (ht : x.t % 8 = 0) :
    Calls Try.prog 9 #[.pointer (some ⟨d, 0, none⟩), .pointer (some ⟨q, 0, none⟩), .agg (acv x)] w (Acts Z (upd D d (s.act x)) q (K + 1) w) := by
  have hz : (w.alloc (.cells (acv x) 27)).heap.size = w.heap.size + 1 := by simp
  have hz2 : ((w.alloc (.cells (acv x) 27)).alloc (.cells #[.int .i64 0, .string (str x.n), .string (str x.s), .int .i64 x.k] 61)).heap.size = w.heap.size + 1 + 1 := by simp
  have hb1 : Below w.heap.size w (w.alloc (.cells (acv x) 27)) := (Below.refl _ w).alloc (Nat.le_refl _) _
  have hb2 : Below (w.alloc (.cells (acv x) 27)).heap.size (w.alloc (.cells (acv x) 27)) ((w.alloc (.cells (acv x) 27)).alloc (.cells #[.int .i64 0, .string (str x.n), .string (str x.s), .int .i64 x.k] 61)) := (Below.refl _ _).alloc (Nat.le_refl _) _
  have hb0 : Below w.heap.size w ((w.alloc (.cells (acv x) 27)).alloc (.cells #[.int .i64 0, .string (str x.n), .string (str x.s), .int .i64 x.k] 61)) := hb1.trans (hb2.mono hb1.size)
  have ha0 : ActB ((w.alloc (.cells (acv x) 27)).alloc (.cells #[.int .i64 0, .string (str x.n), .string (str x.s), .int .i64 x.k] 61)) w.heap.size x := ((hb2.block _ (by rw [hz]; omega))).trans (heap_alloc_new w _)
  have ho0 : OpB ((w.alloc (.cells (acv x) 27)).alloc (.cells #[.int .i64 0, .string (str x.n), .string (str x.s), .int .i64 x.k] 61)) (w.heap.size + 1) 0 (str x.n) (str x.s) x.k := by
    have h := heap_alloc_new (w.alloc (.cells (acv x) 27)) (.cells #[.int .i64 0, .string (str x.n), .string (str x.s), .int .i64 x.k] 61)
    rw [hz] at h
    exact h
  have hD0 : Duo (Lk Z w.heap.size (w.heap.size + 1)) ((w.alloc (.cells (acv x) 27)).alloc (.cells #[.int .i64 0, .string (str x.n), .string (str x.s), .int .i64 x.k] 61)) D q K := h.lock hb0 fun i hi => by
    rcases hi with hi | rfl | rfl
    · exact .inl hi
    · exact .inr ⟨Nat.le_refl _, by rw [hz2]; omega⟩
    · exact .inr ⟨by omega, by rw [hz2]; omega⟩
  obtain ⟨b0, b1, b2, b3, b4, b5, b6⟩ := ha0.cells
  obtain ⟨e0, e1, e2, e3⟩ := ho0.cells
  obtain ⟨a0, a1, a2, a3, a4, a5, a6⟩ := (show ActB (w.alloc (.cells (acv x) 27)) w.heap.size x from heap_alloc_new w _).cells
  have ht2 : (x.t : Int).tmod 8 = 0 := by rw [Int.tmod_eq_emod_of_nonneg (by omega)]; omega
  have hsz : (str x.s).size ≤ 300 := by rw [str_size]; exact hx.s
  have HD0 := Lib.hid hD0
  have HB0 := Lib.hid hb0
  have HA0 := Lib.hid ha0
  have HO0 := Lib.hid ho0
  have HH := Lib.hid h
  have hxn := hx.n
  have hxs := hx.s
  have hxf := hx.f
  have hact : Hid (s.act x = (s.make x.n).2) := by show _ = _; unfold FS.act; rw [ht]; rfl
  clear hb1 hb2 hb0 ha0 ho0 hD0 h hz hz2 hx ht
  unfold acv at *
  go_enter Try.func9, Try.ntmps9
  go_wp2
  go_region_held3 (fun W => W.cell? ⟨w.heap.size, 0, none⟩ = some (.int .u8 (x.t : Int)) ∧ W.cell? ⟨w.heap.size, 1, none⟩ = some (.string (str x.n)) ∧ W.cell? ⟨w.heap.size, 2, none⟩ = some (.string (str x.s)) ∧ W.cell? ⟨w.heap.size, 3, none⟩ = some (.int .i64 x.k) ∧ W.cell? ⟨w.heap.size + 1, 0, none⟩ = some (.int .i64 0) ∧ W.cell? ⟨w.heap.size + 1, 1, none⟩ = some (.string (str x.n)) ∧ W.cell? ⟨w.heap.size + 1, 2, none⟩ = some (.string (str x.s)) ∧ W.cell? ⟨w.heap.size + 1, 3, none⟩ = some (.int .i64 x.k)) (go_keep) (first | (go_at_call 16; ((with_reducible refine (Duo.does (HD0.out.below (Below.refl _ _).drew) (fun X hS => make_any _ X D d s hS hd (by omega) x.n (by omega))).mono ?_); rintro e w1 ⟨rfl, hD1, hh1⟩; have ha1 := ActB.held hh1 HA0.out (.inr (.inl rfl)); have ho1 := OpB.held hh1 HO0.out (.inr (.inr rfl)); obtain ⟨f0, f1, f2, f3, f4, f5, f6⟩ := ha1.cells; obtain ⟨g0, g1, g2, g3⟩ := ho1.cells; have HD1 := Lib.hid hD1; have HH1 := Lib.hid hh1; have HA1 := Lib.hid ha1; have HO1 := Lib.hid ho1; clear hD1 hh1 ha1 ho1)) | (go_at_call 21; ((with_reducible refine (Duo.calls HD1.out (fun Y hY => ddo_any _ Y q K hY hK 0 (by decide) (str x.n) (str x.s) hsz x.k)).mono ?_); rintro e w2 ⟨⟨r2, rfl⟩, hD2, hh2⟩; have ha2 := ActB.held hh2 HA1.out (.inr (.inl rfl)); have ho2 := OpB.held hh2 HO1.out (.inr (.inr rfl)); obtain ⟨k0, k1, k2, k3, k4, k5, k6⟩ := ha2.cells; obtain ⟨l0, l1, l2, l3⟩ := ho2.cells; have HD2 := Lib.hid hD2; have HH2 := Lib.hid hh2; clear hD2 hh2 ha2 ho2)))
  go_wp2
  go_ret
  exact ⟨⟨_, rfl⟩, by rw [hact.out]; exact HD2.out.unlock fun i hi => .inl hi, (Held.of_below HB0.out).trans ((HH1.out.undrew.trans HH2.out).less fun i hi => .inl hi)⟩

set_option maxHeartbeats 4000000 in
set_option maxRecDepth 100000 in
theorem act_1 (Z : Nat → Prop) (w : World) (D : Nat → Option FS) (q K d : Nat) (s : FS) (h : Duo Z w D q K) (hd : D d = some s) (hwt : s.wt ≤ 549755813888) (hK : K ≤ 300) (x : Ac) (hx : AcOk x) (ht : x.t % 8 = 1) :
    Calls Try.prog 9 #[.pointer (some ⟨d, 0, none⟩), .pointer (some ⟨q, 0, none⟩), .agg (acv x)] w (Acts Z (upd D d (s.act x)) q (K + 1) w) := by
  have hz : (w.alloc (.cells (acv x) 27)).heap.size = w.heap.size + 1 := by simp
  have hz2 : ((w.alloc (.cells (acv x) 27)).alloc (.cells #[.int .i64 1, .string (str x.n), .string (str x.s), .int .i64 x.k] 61)).heap.size = w.heap.size + 1 + 1 := by simp
  have hb1 : Below w.heap.size w (w.alloc (.cells (acv x) 27)) := (Below.refl _ w).alloc (Nat.le_refl _) _
  have hb2 : Below (w.alloc (.cells (acv x) 27)).heap.size (w.alloc (.cells (acv x) 27)) ((w.alloc (.cells (acv x) 27)).alloc (.cells #[.int .i64 1, .string (str x.n), .string (str x.s), .int .i64 x.k] 61)) := (Below.refl _ _).alloc (Nat.le_refl _) _
  have hb0 : Below w.heap.size w ((w.alloc (.cells (acv x) 27)).alloc (.cells #[.int .i64 1, .string (str x.n), .string (str x.s), .int .i64 x.k] 61)) := hb1.trans (hb2.mono hb1.size)
  have ha0 : ActB ((w.alloc (.cells (acv x) 27)).alloc (.cells #[.int .i64 1, .string (str x.n), .string (str x.s), .int .i64 x.k] 61)) w.heap.size x := ((hb2.block _ (by rw [hz]; omega))).trans (heap_alloc_new w _)
  have ho0 : OpB ((w.alloc (.cells (acv x) 27)).alloc (.cells #[.int .i64 1, .string (str x.n), .string (str x.s), .int .i64 x.k] 61)) (w.heap.size + 1) 1 (str x.n) (str x.s) x.k := by
    have h := heap_alloc_new (w.alloc (.cells (acv x) 27)) (.cells #[.int .i64 1, .string (str x.n), .string (str x.s), .int .i64 x.k] 61)
    rw [hz] at h
    exact h
  have hD0 : Duo (Lk Z w.heap.size (w.heap.size + 1)) ((w.alloc (.cells (acv x) 27)).alloc (.cells #[.int .i64 1, .string (str x.n), .string (str x.s), .int .i64 x.k] 61)) D q K := h.lock hb0 fun i hi => by
    rcases hi with hi | rfl | rfl
    · exact .inl hi
    · exact .inr ⟨Nat.le_refl _, by rw [hz2]; omega⟩
    · exact .inr ⟨by omega, by rw [hz2]; omega⟩
  obtain ⟨b0, b1, b2, b3, b4, b5, b6⟩ := ha0.cells
  obtain ⟨e0, e1, e2, e3⟩ := ho0.cells
  obtain ⟨a0, a1, a2, a3, a4, a5, a6⟩ := (show ActB (w.alloc (.cells (acv x) 27)) w.heap.size x from heap_alloc_new w _).cells
  have ht2 : (x.t : Int).tmod 8 = 1 := by rw [Int.tmod_eq_emod_of_nonneg (by omega)]; omega
  have hsz : (str x.s).size ≤ 300 := by rw [str_size]; exact hx.s
  have HD0 := Lib.hid hD0
  have HB0 := Lib.hid hb0
  have HA0 := Lib.hid ha0
  have HO0 := Lib.hid ho0
  have HH := Lib.hid h
  have hxn := hx.n
  have hxs := hx.s
  have hxf := hx.f
  have hact : Hid (s.act x = (s.app x.n x.s).2) := by show _ = _; unfold FS.act; rw [ht]; rfl
  clear hb1 hb2 hb0 ha0 ho0 hD0 h hz hz2 hx ht
  unfold acv at *
  go_enter Try.func9, Try.ntmps9
  go_wp2
  go_region_held3 (fun W => W.cell? ⟨w.heap.size, 0, none⟩ = some (.int .u8 (x.t : Int)) ∧ W.cell? ⟨w.heap.size, 1, none⟩ = some (.string (str x.n)) ∧ W.cell? ⟨w.heap.size, 2, none⟩ = some (.string (str x.s)) ∧ W.cell? ⟨w.heap.size, 3, none⟩ = some (.int .i64 x.k) ∧ W.cell? ⟨w.heap.size + 1, 0, none⟩ = some (.int .i64 1) ∧ W.cell? ⟨w.heap.size + 1, 1, none⟩ = some (.string (str x.n)) ∧ W.cell? ⟨w.heap.size + 1, 2, none⟩ = some (.string (str x.s)) ∧ W.cell? ⟨w.heap.size + 1, 3, none⟩ = some (.int .i64 x.k)) (go_keep) (first | (go_at_call 17; ((with_reducible refine (Duo.does (HD0.out.below (Below.refl _ _).drew) (fun X hS => append_any _ X D d s hS hd (by omega) x.n (by omega) x.s (by omega))).mono ?_); rintro e w1 ⟨rfl, hD1, hh1⟩; have ha1 := ActB.held hh1 HA0.out (.inr (.inl rfl)); have ho1 := OpB.held hh1 HO0.out (.inr (.inr rfl)); obtain ⟨f0, f1, f2, f3, f4, f5, f6⟩ := ha1.cells; obtain ⟨g0, g1, g2, g3⟩ := ho1.cells; have HD1 := Lib.hid hD1; have HH1 := Lib.hid hh1; have HA1 := Lib.hid ha1; have HO1 := Lib.hid ho1; clear hD1 hh1 ha1 ho1)) | (go_at_call 21; ((with_reducible refine (Duo.calls HD1.out (fun Y hY => ddo_any _ Y q K hY hK 1 (by decide) (str x.n) (str x.s) hsz x.k)).mono ?_); rintro e w2 ⟨⟨r2, rfl⟩, hD2, hh2⟩; have ha2 := ActB.held hh2 HA1.out (.inr (.inl rfl)); have ho2 := OpB.held hh2 HO1.out (.inr (.inr rfl)); obtain ⟨k0, k1, k2, k3, k4, k5, k6⟩ := ha2.cells; obtain ⟨l0, l1, l2, l3⟩ := ho2.cells; have HD2 := Lib.hid hD2; have HH2 := Lib.hid hh2; clear hD2 hh2 ha2 ho2)))
  go_wp2
  go_ret
  exact ⟨⟨_, rfl⟩, by rw [hact.out]; exact HD2.out.unlock fun i hi => .inl hi, (Held.of_below HB0.out).trans ((HH1.out.undrew.trans HH2.out).less fun i hi => .inl hi)⟩

set_option maxHeartbeats 4000000 in
set_option maxRecDepth 100000 in
theorem act_2 (Z : Nat → Prop) (w : World) (D : Nat → Option FS) (q K d : Nat) (s : FS) (h : Duo Z w D q K) (hd : D d = some s) (hwt : s.wt ≤ 549755813888) (hK : K ≤ 300) (x : Ac) (hx : AcOk x) (ht : x.t % 8 = 2) :
    Calls Try.prog 9 #[.pointer (some ⟨d, 0, none⟩), .pointer (some ⟨q, 0, none⟩), .agg (acv x)] w (Acts Z (upd D d (s.act x)) q (K + 1) w) := by
  have hz : (w.alloc (.cells (acv x) 27)).heap.size = w.heap.size + 1 := by simp
  have hz2 : ((w.alloc (.cells (acv x) 27)).alloc (.cells #[.int .i64 2, .string (str x.n), .string (str x.s), .int .i64 x.k] 61)).heap.size = w.heap.size + 1 + 1 := by simp
  have hb1 : Below w.heap.size w (w.alloc (.cells (acv x) 27)) := (Below.refl _ w).alloc (Nat.le_refl _) _
  have hb2 : Below (w.alloc (.cells (acv x) 27)).heap.size (w.alloc (.cells (acv x) 27)) ((w.alloc (.cells (acv x) 27)).alloc (.cells #[.int .i64 2, .string (str x.n), .string (str x.s), .int .i64 x.k] 61)) := (Below.refl _ _).alloc (Nat.le_refl _) _
  have hb0 : Below w.heap.size w ((w.alloc (.cells (acv x) 27)).alloc (.cells #[.int .i64 2, .string (str x.n), .string (str x.s), .int .i64 x.k] 61)) := hb1.trans (hb2.mono hb1.size)
  have ha0 : ActB ((w.alloc (.cells (acv x) 27)).alloc (.cells #[.int .i64 2, .string (str x.n), .string (str x.s), .int .i64 x.k] 61)) w.heap.size x := ((hb2.block _ (by rw [hz]; omega))).trans (heap_alloc_new w _)
  have ho0 : OpB ((w.alloc (.cells (acv x) 27)).alloc (.cells #[.int .i64 2, .string (str x.n), .string (str x.s), .int .i64 x.k] 61)) (w.heap.size + 1) 2 (str x.n) (str x.s) x.k := by
    have h := heap_alloc_new (w.alloc (.cells (acv x) 27)) (.cells #[.int .i64 2, .string (str x.n), .string (str x.s), .int .i64 x.k] 61)
    rw [hz] at h
    exact h
  have hD0 : Duo (Lk Z w.heap.size (w.heap.size + 1)) ((w.alloc (.cells (acv x) 27)).alloc (.cells #[.int .i64 2, .string (str x.n), .string (str x.s), .int .i64 x.k] 61)) D q K := h.lock hb0 fun i hi => by
    rcases hi with hi | rfl | rfl
    · exact .inl hi
    · exact .inr ⟨Nat.le_refl _, by rw [hz2]; omega⟩
    · exact .inr ⟨by omega, by rw [hz2]; omega⟩
  obtain ⟨b0, b1, b2, b3, b4, b5, b6⟩ := ha0.cells
  obtain ⟨e0, e1, e2, e3⟩ := ho0.cells
  obtain ⟨a0, a1, a2, a3, a4, a5, a6⟩ := (show ActB (w.alloc (.cells (acv x) 27)) w.heap.size x from heap_alloc_new w _).cells
  have ht2 : (x.t : Int).tmod 8 = 2 := by rw [Int.tmod_eq_emod_of_nonneg (by omega)]; omega
  have hsz : (str x.s).size ≤ 300 := by rw [str_size]; exact hx.s
  have HD0 := Lib.hid hD0
  have HB0 := Lib.hid hb0
  have HA0 := Lib.hid ha0
  have HO0 := Lib.hid ho0
  have HH := Lib.hid h
  have hxn := hx.n
  have hxs := hx.s
  have hxf := hx.f
  have hact : Hid (s.act x = (s.cut x.n x.k).2) := by show _ = _; unfold FS.act; rw [ht]; rfl
  clear hb1 hb2 hb0 ha0 ho0 hD0 h hz hz2 hx ht
  unfold acv at *
  go_enter Try.func9, Try.ntmps9
  go_wp2
  go_region_held3 (fun W => W.cell? ⟨w.heap.size, 0, none⟩ = some (.int .u8 (x.t : Int)) ∧ W.cell? ⟨w.heap.size, 1, none⟩ = some (.string (str x.n)) ∧ W.cell? ⟨w.heap.size, 2, none⟩ = some (.string (str x.s)) ∧ W.cell? ⟨w.heap.size, 3, none⟩ = some (.int .i64 x.k) ∧ W.cell? ⟨w.heap.size + 1, 0, none⟩ = some (.int .i64 2) ∧ W.cell? ⟨w.heap.size + 1, 1, none⟩ = some (.string (str x.n)) ∧ W.cell? ⟨w.heap.size + 1, 2, none⟩ = some (.string (str x.s)) ∧ W.cell? ⟨w.heap.size + 1, 3, none⟩ = some (.int .i64 x.k)) (go_keep) (first | (go_at_call 22; ((with_reducible refine (Duo.does (HD0.out.below (Below.refl _ _).drew) (fun X hS => cut_any _ X D d s hS hd (by omega) x.n (by omega) x.k)).mono ?_); rintro e w1 ⟨rfl, hD1, hh1⟩; have ha1 := ActB.held hh1 HA0.out (.inr (.inl rfl)); have ho1 := OpB.held hh1 HO0.out (.inr (.inr rfl)); obtain ⟨f0, f1, f2, f3, f4, f5, f6⟩ := ha1.cells; obtain ⟨g0, g1, g2, g3⟩ := ho1.cells; have HD1 := Lib.hid hD1; have HH1 := Lib.hid hh1; have HA1 := Lib.hid ha1; have HO1 := Lib.hid ho1; clear hD1 hh1 ha1 ho1)) | (go_at_call 21; ((with_reducible refine (Duo.calls HD1.out (fun Y hY => ddo_any _ Y q K hY hK 2 (by decide) (str x.n) (str x.s) hsz x.k)).mono ?_); rintro e w2 ⟨⟨r2, rfl⟩, hD2, hh2⟩; have ha2 := ActB.held hh2 HA1.out (.inr (.inl rfl)); have ho2 := OpB.held hh2 HO1.out (.inr (.inr rfl)); obtain ⟨k0, k1, k2, k3, k4, k5, k6⟩ := ha2.cells; obtain ⟨l0, l1, l2, l3⟩ := ho2.cells; have HD2 := Lib.hid hD2; have HH2 := Lib.hid hh2; clear hD2 hh2 ha2 ho2)))
  go_wp2
  go_ret
  exact ⟨⟨_, rfl⟩, by rw [hact.out]; exact HD2.out.unlock fun i hi => .inl hi, (Held.of_below HB0.out).trans ((HH1.out.undrew.trans HH2.out).less fun i hi => .inl hi)⟩

set_option maxHeartbeats 4000000 in
set_option maxRecDepth 100000 in
theorem act_3 (Z : Nat → Prop) (w : World) (D : Nat → Option FS) (q K d : Nat) (s : FS) (h : Duo Z w D q K) (hd : D d = some s) (hwt : s.wt ≤ 549755813888) (hK : K ≤ 300) (x : Ac) (hx : AcOk x) (ht : x.t % 8 = 3) :
    Calls Try.prog 9 #[.pointer (some ⟨d, 0, none⟩), .pointer (some ⟨q, 0, none⟩), .agg (acv x)] w (Acts Z (upd D d (s.act x)) q (K + 1) w) := by
  have hz : (w.alloc (.cells (acv x) 27)).heap.size = w.heap.size + 1 := by simp
  have hz2 : ((w.alloc (.cells (acv x) 27)).alloc (.cells #[.int .i64 3, .string (str x.n), .string (str x.s), .int .i64 x.k] 61)).heap.size = w.heap.size + 1 + 1 := by simp
  have hb1 : Below w.heap.size w (w.alloc (.cells (acv x) 27)) := (Below.refl _ w).alloc (Nat.le_refl _) _
  have hb2 : Below (w.alloc (.cells (acv x) 27)).heap.size (w.alloc (.cells (acv x) 27)) ((w.alloc (.cells (acv x) 27)).alloc (.cells #[.int .i64 3, .string (str x.n), .string (str x.s), .int .i64 x.k] 61)) := (Below.refl _ _).alloc (Nat.le_refl _) _
  have hb0 : Below w.heap.size w ((w.alloc (.cells (acv x) 27)).alloc (.cells #[.int .i64 3, .string (str x.n), .string (str x.s), .int .i64 x.k] 61)) := hb1.trans (hb2.mono hb1.size)
  have ha0 : ActB ((w.alloc (.cells (acv x) 27)).alloc (.cells #[.int .i64 3, .string (str x.n), .string (str x.s), .int .i64 x.k] 61)) w.heap.size x := ((hb2.block _ (by rw [hz]; omega))).trans (heap_alloc_new w _)
  have ho0 : OpB ((w.alloc (.cells (acv x) 27)).alloc (.cells #[.int .i64 3, .string (str x.n), .string (str x.s), .int .i64 x.k] 61)) (w.heap.size + 1) 3 (str x.n) (str x.s) x.k := by
    have h := heap_alloc_new (w.alloc (.cells (acv x) 27)) (.cells #[.int .i64 3, .string (str x.n), .string (str x.s), .int .i64 x.k] 61)
    rw [hz] at h
    exact h
  have hD0 : Duo (Lk Z w.heap.size (w.heap.size + 1)) ((w.alloc (.cells (acv x) 27)).alloc (.cells #[.int .i64 3, .string (str x.n), .string (str x.s), .int .i64 x.k] 61)) D q K := h.lock hb0 fun i hi => by
    rcases hi with hi | rfl | rfl
    · exact .inl hi
    · exact .inr ⟨Nat.le_refl _, by rw [hz2]; omega⟩
    · exact .inr ⟨by omega, by rw [hz2]; omega⟩
  obtain ⟨b0, b1, b2, b3, b4, b5, b6⟩ := ha0.cells
  obtain ⟨e0, e1, e2, e3⟩ := ho0.cells
  obtain ⟨a0, a1, a2, a3, a4, a5, a6⟩ := (show ActB (w.alloc (.cells (acv x) 27)) w.heap.size x from heap_alloc_new w _).cells
  have ht2 : (x.t : Int).tmod 8 = 3 := by rw [Int.tmod_eq_emod_of_nonneg (by omega)]; omega
  have hsz : (str x.s).size ≤ 300 := by rw [str_size]; exact hx.s
  have HD0 := Lib.hid hD0
  have HB0 := Lib.hid hb0
  have HA0 := Lib.hid ha0
  have HO0 := Lib.hid ho0
  have HH := Lib.hid h
  have hxn := hx.n
  have hxs := hx.s
  have hxf := hx.f
  have hact : Hid (s.act x = (s.ren x.n x.s).2) := by show _ = _; unfold FS.act; rw [ht]; rfl
  clear hb1 hb2 hb0 ha0 ho0 hD0 h hz hz2 hx ht
  unfold acv at *
  go_enter Try.func9, Try.ntmps9
  go_wp2
  go_region_held3 (fun W => W.cell? ⟨w.heap.size, 0, none⟩ = some (.int .u8 (x.t : Int)) ∧ W.cell? ⟨w.heap.size, 1, none⟩ = some (.string (str x.n)) ∧ W.cell? ⟨w.heap.size, 2, none⟩ = some (.string (str x.s)) ∧ W.cell? ⟨w.heap.size, 3, none⟩ = some (.int .i64 x.k) ∧ W.cell? ⟨w.heap.size + 1, 0, none⟩ = some (.int .i64 3) ∧ W.cell? ⟨w.heap.size + 1, 1, none⟩ = some (.string (str x.n)) ∧ W.cell? ⟨w.heap.size + 1, 2, none⟩ = some (.string (str x.s)) ∧ W.cell? ⟨w.heap.size + 1, 3, none⟩ = some (.int .i64 x.k)) (go_keep) (first | (go_at_call 23; ((with_reducible refine (Duo.does (HD0.out.below (Below.refl _ _).drew) (fun X hS => rename_any _ X D d s hS hd (by omega) x.n (by omega) x.s (by omega))).mono ?_); rintro e w1 ⟨rfl, hD1, hh1⟩; have ha1 := ActB.held hh1 HA0.out (.inr (.inl rfl)); have ho1 := OpB.held hh1 HO0.out (.inr (.inr rfl)); obtain ⟨f0, f1, f2, f3, f4, f5, f6⟩ := ha1.cells; obtain ⟨g0, g1, g2, g3⟩ := ho1.cells; have HD1 := Lib.hid hD1; have HH1 := Lib.hid hh1; have HA1 := Lib.hid ha1; have HO1 := Lib.hid ho1; clear hD1 hh1 ha1 ho1)) | (go_at_call 21; ((with_reducible refine (Duo.calls HD1.out (fun Y hY => ddo_any _ Y q K hY hK 3 (by decide) (str x.n) (str x.s) hsz x.k)).mono ?_); rintro e w2 ⟨⟨r2, rfl⟩, hD2, hh2⟩; have ha2 := ActB.held hh2 HA1.out (.inr (.inl rfl)); have ho2 := OpB.held hh2 HO1.out (.inr (.inr rfl)); obtain ⟨k0, k1, k2, k3, k4, k5, k6⟩ := ha2.cells; obtain ⟨l0, l1, l2, l3⟩ := ho2.cells; have HD2 := Lib.hid hD2; have HH2 := Lib.hid hh2; clear hD2 hh2 ha2 ho2)))
  go_wp2
  go_ret
  exact ⟨⟨_, rfl⟩, by rw [hact.out]; exact HD2.out.unlock fun i hi => .inl hi, (Held.of_below HB0.out).trans ((HH1.out.undrew.trans HH2.out).less fun i hi => .inl hi)⟩

set_option maxHeartbeats 4000000 in
set_option maxRecDepth 100000 in
theorem act_4 (Z : Nat → Prop) (w : World) (D : Nat → Option FS) (q K d : Nat) (s : FS) (h : Duo Z w D q K) (hd : D d = some s) (hwt : s.wt ≤ 549755813888) (hK : K ≤ 300) (x : Ac) (hx : AcOk x) (ht : x.t % 8 = 4) :
    Calls Try.prog 9 #[.pointer (some ⟨d, 0, none⟩), .pointer (some ⟨q, 0, none⟩), .agg (acv x)] w (Acts Z (upd D d (s.act x)) q (K + 1) w) := by
  have hz : (w.alloc (.cells (acv x) 27)).heap.size = w.heap.size + 1 := by simp
  have hz2 : ((w.alloc (.cells (acv x) 27)).alloc (.cells #[.int .i64 4, .string (str x.n), .string (str x.s), .int .i64 x.k] 61)).heap.size = w.heap.size + 1 + 1 := by simp
  have hb1 : Below w.heap.size w (w.alloc (.cells (acv x) 27)) := (Below.refl _ w).alloc (Nat.le_refl _) _
  have hb2 : Below (w.alloc (.cells (acv x) 27)).heap.size (w.alloc (.cells (acv x) 27)) ((w.alloc (.cells (acv x) 27)).alloc (.cells #[.int .i64 4, .string (str x.n), .string (str x.s), .int .i64 x.k] 61)) := (Below.refl _ _).alloc (Nat.le_refl _) _
  have hb0 : Below w.heap.size w ((w.alloc (.cells (acv x) 27)).alloc (.cells #[.int .i64 4, .string (str x.n), .string (str x.s), .int .i64 x.k] 61)) := hb1.trans (hb2.mono hb1.size)
  have ha0 : ActB ((w.alloc (.cells (acv x) 27)).alloc (.cells #[.int .i64 4, .string (str x.n), .string (str x.s), .int .i64 x.k] 61)) w.heap.size x := ((hb2.block _ (by rw [hz]; omega))).trans (heap_alloc_new w _)
  have ho0 : OpB ((w.alloc (.cells (acv x) 27)).alloc (.cells #[.int .i64 4, .string (str x.n), .string (str x.s), .int .i64 x.k] 61)) (w.heap.size + 1) 4 (str x.n) (str x.s) x.k := by
    have h := heap_alloc_new (w.alloc (.cells (acv x) 27)) (.cells #[.int .i64 4, .string (str x.n), .string (str x.s), .int .i64 x.k] 61)
    rw [hz] at h
    exact h
  have hD0 : Duo (Lk Z w.heap.size (w.heap.size + 1)) ((w.alloc (.cells (acv x) 27)).alloc (.cells #[.int .i64 4, .string (str x.n), .string (str x.s), .int .i64 x.k] 61)) D q K := h.lock hb0 fun i hi => by
    rcases hi with hi | rfl | rfl
    · exact .inl hi
    · exact .inr ⟨Nat.le_refl _, by rw [hz2]; omega⟩
    · exact .inr ⟨by omega, by rw [hz2]; omega⟩
  obtain ⟨b0, b1, b2, b3, b4, b5, b6⟩ := ha0.cells
  obtain ⟨e0, e1, e2, e3⟩ := ho0.cells
  obtain ⟨a0, a1, a2, a3, a4, a5, a6⟩ := (show ActB (w.alloc (.cells (acv x) 27)) w.heap.size x from heap_alloc_new w _).cells
  have ht2 : (x.t : Int).tmod 8 = 4 := by rw [Int.tmod_eq_emod_of_nonneg (by omega)]; omega
  have hsz : (str x.s).size ≤ 300 := by rw [str_size]; exact hx.s
  have HD0 := Lib.hid hD0
  have HB0 := Lib.hid hb0
  have HA0 := Lib.hid ha0
  have HO0 := Lib.hid ho0
  have HH := Lib.hid h
  have hxn := hx.n
  have hxs := hx.s
  have hxf := hx.f
  have hact : Hid (s.act x = (s.rem x.n).2) := by show _ = _; unfold FS.act; rw [ht]; rfl
  clear hb1 hb2 hb0 ha0 ho0 hD0 h hz hz2 hx ht
  unfold acv at *
  go_enter Try.func9, Try.ntmps9
  go_wp2
  go_region_held3 (fun W => W.cell? ⟨w.heap.size, 0, none⟩ = some (.int .u8 (x.t : Int)) ∧ W.cell? ⟨w.heap.size, 1, none⟩ = some (.string (str x.n)) ∧ W.cell? ⟨w.heap.size, 2, none⟩ = some (.string (str x.s)) ∧ W.cell? ⟨w.heap.size, 3, none⟩ = some (.int .i64 x.k) ∧ W.cell? ⟨w.heap.size + 1, 0, none⟩ = some (.int .i64 4) ∧ W.cell? ⟨w.heap.size + 1, 1, none⟩ = some (.string (str x.n)) ∧ W.cell? ⟨w.heap.size + 1, 2, none⟩ = some (.string (str x.s)) ∧ W.cell? ⟨w.heap.size + 1, 3, none⟩ = some (.int .i64 x.k)) (go_keep) (first | (go_at_call 19; ((with_reducible refine (Duo.does (HD0.out.below (Below.refl _ _).drew) (fun X hS => remove_any _ X D d s hS hd (by omega) x.n (by omega))).mono ?_); rintro e w1 ⟨rfl, hD1, hh1⟩; have ha1 := ActB.held hh1 HA0.out (.inr (.inl rfl)); have ho1 := OpB.held hh1 HO0.out (.inr (.inr rfl)); obtain ⟨f0, f1, f2, f3, f4, f5, f6⟩ := ha1.cells; obtain ⟨g0, g1, g2, g3⟩ := ho1.cells; have HD1 := Lib.hid hD1; have HH1 := Lib.hid hh1; have HA1 := Lib.hid ha1; have HO1 := Lib.hid ho1; clear hD1 hh1 ha1 ho1)) | (go_at_call 21; ((with_reducible refine (Duo.calls HD1.out (fun Y hY => ddo_any _ Y q K hY hK 4 (by decide) (str x.n) (str x.s) hsz x.k)).mono ?_); rintro e w2 ⟨⟨r2, rfl⟩, hD2, hh2⟩; have ha2 := ActB.held hh2 HA1.out (.inr (.inl rfl)); have ho2 := OpB.held hh2 HO1.out (.inr (.inr rfl)); obtain ⟨k0, k1, k2, k3, k4, k5, k6⟩ := ha2.cells; obtain ⟨l0, l1, l2, l3⟩ := ho2.cells; have HD2 := Lib.hid hD2; have HH2 := Lib.hid hh2; clear hD2 hh2 ha2 ho2)))
  go_wp2
  go_ret
  exact ⟨⟨_, rfl⟩, by rw [hact.out]; exact HD2.out.unlock fun i hi => .inl hi, (Held.of_below HB0.out).trans ((HH1.out.undrew.trans HH2.out).less fun i hi => .inl hi)⟩

set_option maxHeartbeats 4000000 in
set_option maxRecDepth 100000 in
theorem act_5 (Z : Nat → Prop) (w : World) (D : Nat → Option FS) (q K d : Nat) (s : FS) (h : Duo Z w D q K) (hd : D d = some s) (hwt : s.wt ≤ 549755813888) (hK : K ≤ 300) (x : Ac) (hx : AcOk x) (ht : x.t % 8 = 5) :
    Calls Try.prog 9 #[.pointer (some ⟨d, 0, none⟩), .pointer (some ⟨q, 0, none⟩), .agg (acv x)] w (Acts Z (upd D d (s.act x)) q (K + 1) w) := by
  have hz : (w.alloc (.cells (acv x) 27)).heap.size = w.heap.size + 1 := by simp
  have hz2 : ((w.alloc (.cells (acv x) 27)).alloc (.cells #[.int .i64 5, .string (str x.n), .string (str x.s), .int .i64 x.k] 61)).heap.size = w.heap.size + 1 + 1 := by simp
  have hb1 : Below w.heap.size w (w.alloc (.cells (acv x) 27)) := (Below.refl _ w).alloc (Nat.le_refl _) _
  have hb2 : Below (w.alloc (.cells (acv x) 27)).heap.size (w.alloc (.cells (acv x) 27)) ((w.alloc (.cells (acv x) 27)).alloc (.cells #[.int .i64 5, .string (str x.n), .string (str x.s), .int .i64 x.k] 61)) := (Below.refl _ _).alloc (Nat.le_refl _) _
  have hb0 : Below w.heap.size w ((w.alloc (.cells (acv x) 27)).alloc (.cells #[.int .i64 5, .string (str x.n), .string (str x.s), .int .i64 x.k] 61)) := hb1.trans (hb2.mono hb1.size)
  have ha0 : ActB ((w.alloc (.cells (acv x) 27)).alloc (.cells #[.int .i64 5, .string (str x.n), .string (str x.s), .int .i64 x.k] 61)) w.heap.size x := ((hb2.block _ (by rw [hz]; omega))).trans (heap_alloc_new w _)
  have ho0 : OpB ((w.alloc (.cells (acv x) 27)).alloc (.cells #[.int .i64 5, .string (str x.n), .string (str x.s), .int .i64 x.k] 61)) (w.heap.size + 1) 5 (str x.n) (str x.s) x.k := by
    have h := heap_alloc_new (w.alloc (.cells (acv x) 27)) (.cells #[.int .i64 5, .string (str x.n), .string (str x.s), .int .i64 x.k] 61)
    rw [hz] at h
    exact h
  have hD0 : Duo (Lk Z w.heap.size (w.heap.size + 1)) ((w.alloc (.cells (acv x) 27)).alloc (.cells #[.int .i64 5, .string (str x.n), .string (str x.s), .int .i64 x.k] 61)) D q K := h.lock hb0 fun i hi => by
    rcases hi with hi | rfl | rfl
    · exact .inl hi
    · exact .inr ⟨Nat.le_refl _, by rw [hz2]; omega⟩
    · exact .inr ⟨by omega, by rw [hz2]; omega⟩
  obtain ⟨b0, b1, b2, b3, b4, b5, b6⟩ := ha0.cells
  obtain ⟨e0, e1, e2, e3⟩ := ho0.cells
  obtain ⟨a0, a1, a2, a3, a4, a5, a6⟩ := (show ActB (w.alloc (.cells (acv x) 27)) w.heap.size x from heap_alloc_new w _).cells
  have ht2 : (x.t : Int).tmod 8 = 5 := by rw [Int.tmod_eq_emod_of_nonneg (by omega)]; omega
  have hsz : (str x.s).size ≤ 300 := by rw [str_size]; exact hx.s
  have HD0 := Lib.hid hD0
  have HB0 := Lib.hid hb0
  have HA0 := Lib.hid ha0
  have HO0 := Lib.hid ho0
  have HH := Lib.hid h
  have hxn := hx.n
  have hxs := hx.s
  have hxf := hx.f
  have hact : Hid (s.act x = s.sync) := by show _ = _; unfold FS.act; rw [ht]; rfl
  clear hb1 hb2 hb0 ha0 ho0 hD0 h hz hz2 hx ht
  unfold acv at *
  go_enter Try.func9, Try.ntmps9
  go_wp2_with (first | (go_at_call 24; ((with_reducible refine (Duo.calls HD0.out (fun Y hY => dsync_any _ Y q K hY)).mono ?_); rintro e w1 ⟨rfl, hD1, hh1⟩; have HD1 := Lib.hid hD1; have HH1 := Lib.hid hh1; clear hD1 hh1)) | (go_at_call 13; ((with_reducible refine (Duo.does HD1.out (fun X hS => sync_any _ X D d s hS hd (by omega))).mono ?_); rintro e w2 ⟨rfl, hD2, hh2⟩; have HD2 := Lib.hid hD2; have HH2 := Lib.hid hh2; clear hD2 hh2)))
  go_ret
  exact ⟨⟨_, rfl⟩, by rw [hact.out]; exact (HD2.out.next).unlock fun i hi => .inl hi, (Held.of_below HB0.out).trans ((HH1.out.trans HH2.out).less fun i hi => .inl hi)⟩

set_option maxHeartbeats 4000000 in
set_option maxRecDepth 100000 in
theorem act_6 (Z : Nat → Prop) (w : World) (D : Nat → Option FS) (q K d : Nat) (s : FS) (h : Duo Z w D q K) (hd : D d = some s) (hwt : s.wt ≤ 549755813888) (hK : K ≤ 300) (x : Ac) (hx : AcOk x) (ht : x.t % 8 = 6) :
    Calls Try.prog 9 #[.pointer (some ⟨d, 0, none⟩), .pointer (some ⟨q, 0, none⟩), .agg (acv x)] w (Acts Z (upd D d (s.act x)) q (K + 1) w) := by
  have hz : (w.alloc (.cells (acv x) 27)).heap.size = w.heap.size + 1 := by simp
  have hz2 : ((w.alloc (.cells (acv x) 27)).alloc (.cells #[.int .i64 6, .string (str x.n), .string (str x.s), .int .i64 x.k] 61)).heap.size = w.heap.size + 1 + 1 := by simp
  have hb1 : Below w.heap.size w (w.alloc (.cells (acv x) 27)) := (Below.refl _ w).alloc (Nat.le_refl _) _
  have hb2 : Below (w.alloc (.cells (acv x) 27)).heap.size (w.alloc (.cells (acv x) 27)) ((w.alloc (.cells (acv x) 27)).alloc (.cells #[.int .i64 6, .string (str x.n), .string (str x.s), .int .i64 x.k] 61)) := (Below.refl _ _).alloc (Nat.le_refl _) _
  have hb0 : Below w.heap.size w ((w.alloc (.cells (acv x) 27)).alloc (.cells #[.int .i64 6, .string (str x.n), .string (str x.s), .int .i64 x.k] 61)) := hb1.trans (hb2.mono hb1.size)
  have ha0 : ActB ((w.alloc (.cells (acv x) 27)).alloc (.cells #[.int .i64 6, .string (str x.n), .string (str x.s), .int .i64 x.k] 61)) w.heap.size x := ((hb2.block _ (by rw [hz]; omega))).trans (heap_alloc_new w _)
  have ho0 : OpB ((w.alloc (.cells (acv x) 27)).alloc (.cells #[.int .i64 6, .string (str x.n), .string (str x.s), .int .i64 x.k] 61)) (w.heap.size + 1) 6 (str x.n) (str x.s) x.k := by
    have h := heap_alloc_new (w.alloc (.cells (acv x) 27)) (.cells #[.int .i64 6, .string (str x.n), .string (str x.s), .int .i64 x.k] 61)
    rw [hz] at h
    exact h
  have hD0 : Duo (Lk Z w.heap.size (w.heap.size + 1)) ((w.alloc (.cells (acv x) 27)).alloc (.cells #[.int .i64 6, .string (str x.n), .string (str x.s), .int .i64 x.k] 61)) D q K := h.lock hb0 fun i hi => by
    rcases hi with hi | rfl | rfl
    · exact .inl hi
    · exact .inr ⟨Nat.le_refl _, by rw [hz2]; omega⟩
    · exact .inr ⟨by omega, by rw [hz2]; omega⟩
  obtain ⟨b0, b1, b2, b3, b4, b5, b6⟩ := ha0.cells
  obtain ⟨e0, e1, e2, e3⟩ := ho0.cells
  obtain ⟨a0, a1, a2, a3, a4, a5, a6⟩ := (show ActB (w.alloc (.cells (acv x) 27)) w.heap.size x from heap_alloc_new w _).cells
  have ht2 : (x.t : Int).tmod 8 = 6 := by rw [Int.tmod_eq_emod_of_nonneg (by omega)]; omega
  have hsz : (str x.s).size ≤ 300 := by rw [str_size]; exact hx.s
  have HD0 := Lib.hid hD0
  have HB0 := Lib.hid hb0
  have HA0 := Lib.hid ha0
  have HO0 := Lib.hid ho0
  have HH := Lib.hid h
  have hxn := hx.n
  have hxs := hx.s
  have hxf := hx.f
  have hact : Hid (s.act x = s.crash x.f) := by show _ = _; unfold FS.act; rw [ht]; rfl
  clear hb1 hb2 hb0 ha0 ho0 hD0 h hz hz2 hx ht
  unfold acv at *
  go_enter Try.func9, Try.ntmps9
  go_wp2_with (first | (go_at_call 11; ((with_reducible refine (Duo.does HD0.out (fun X hS => crash_any _ X D d s hS hd hwt x.f hxf)).mono ?_); rintro e w1 ⟨rfl, hD1, hh1⟩; have ha1 := ActB.held hh1 HA0.out (.inr (.inl rfl)); obtain ⟨f0, f1, f2, f3, f4, f5, f6⟩ := ha1.cells; have HD1 := Lib.hid hD1; have HH1 := Lib.hid hh1; clear hD1 hh1 ha1)) | (go_at_call 25; ((with_reducible refine (Duo.calls HD1.out (fun Y hY => dcrash_any _ Y q K hY hK x.f hxf)).mono ?_); rintro e w2 ⟨rfl, hD2, hh2⟩; have HD2 := Lib.hid hD2; have HH2 := Lib.hid hh2; clear hD2 hh2)))
  go_ret
  exact ⟨⟨_, rfl⟩, by rw [hact.out]; exact (HD2.out.next).unlock fun i hi => .inl hi, (Held.of_below HB0.out).trans ((HH1.out.trans HH2.out).less fun i hi => .inl hi)⟩

set_option maxHeartbeats 4000000 in
set_option maxRecDepth 100000 in
theorem act_7 (Z : Nat → Prop) (w : World) (D : Nat → Option FS) (q K d : Nat) (s : FS) (h : Duo Z w D q K) (hd : D d = some s) (hwt : s.wt ≤ 549755813888) (hK : K ≤ 300) (x : Ac) (hx : AcOk x) (ht : x.t % 8 = 7) :
    Calls Try.prog 9 #[.pointer (some ⟨d, 0, none⟩), .pointer (some ⟨q, 0, none⟩), .agg (acv x)] w (Acts Z (upd D d (s.act x)) q (K + 1) w) := by
  have hz : (w.alloc (.cells (acv x) 27)).heap.size = w.heap.size + 1 := by simp
  have hz2 : ((w.alloc (.cells (acv x) 27)).alloc (.cells #[.int .i64 7, .string (str x.n), .string (str x.s), .int .i64 x.k] 61)).heap.size = w.heap.size + 1 + 1 := by simp
  have hb1 : Below w.heap.size w (w.alloc (.cells (acv x) 27)) := (Below.refl _ w).alloc (Nat.le_refl _) _
  have hb2 : Below (w.alloc (.cells (acv x) 27)).heap.size (w.alloc (.cells (acv x) 27)) ((w.alloc (.cells (acv x) 27)).alloc (.cells #[.int .i64 7, .string (str x.n), .string (str x.s), .int .i64 x.k] 61)) := (Below.refl _ _).alloc (Nat.le_refl _) _
  have hb0 : Below w.heap.size w ((w.alloc (.cells (acv x) 27)).alloc (.cells #[.int .i64 7, .string (str x.n), .string (str x.s), .int .i64 x.k] 61)) := hb1.trans (hb2.mono hb1.size)
  have ha0 : ActB ((w.alloc (.cells (acv x) 27)).alloc (.cells #[.int .i64 7, .string (str x.n), .string (str x.s), .int .i64 x.k] 61)) w.heap.size x := ((hb2.block _ (by rw [hz]; omega))).trans (heap_alloc_new w _)
  have ho0 : OpB ((w.alloc (.cells (acv x) 27)).alloc (.cells #[.int .i64 7, .string (str x.n), .string (str x.s), .int .i64 x.k] 61)) (w.heap.size + 1) 7 (str x.n) (str x.s) x.k := by
    have h := heap_alloc_new (w.alloc (.cells (acv x) 27)) (.cells #[.int .i64 7, .string (str x.n), .string (str x.s), .int .i64 x.k] 61)
    rw [hz] at h
    exact h
  have hD0 : Duo (Lk Z w.heap.size (w.heap.size + 1)) ((w.alloc (.cells (acv x) 27)).alloc (.cells #[.int .i64 7, .string (str x.n), .string (str x.s), .int .i64 x.k] 61)) D q K := h.lock hb0 fun i hi => by
    rcases hi with hi | rfl | rfl
    · exact .inl hi
    · exact .inr ⟨Nat.le_refl _, by rw [hz2]; omega⟩
    · exact .inr ⟨by omega, by rw [hz2]; omega⟩
  obtain ⟨b0, b1, b2, b3, b4, b5, b6⟩ := ha0.cells
  obtain ⟨e0, e1, e2, e3⟩ := ho0.cells
  obtain ⟨a0, a1, a2, a3, a4, a5, a6⟩ := (show ActB (w.alloc (.cells (acv x) 27)) w.heap.size x from heap_alloc_new w _).cells
  have ht2 : (x.t : Int).tmod 8 = 7 := by rw [Int.tmod_eq_emod_of_nonneg (by omega)]; omega
  have hsz : (str x.s).size ≤ 300 := by rw [str_size]; exact hx.s
  have HD0 := Lib.hid hD0
  have HB0 := Lib.hid hb0
  have HA0 := Lib.hid ha0
  have HO0 := Lib.hid ho0
  have HH := Lib.hid h
  have hxn := hx.n
  have hxs := hx.s
  have hxf := hx.f
  have hact : Hid (s.act x = s) := by show _ = _; unfold FS.act; rw [ht]; rfl
  clear hb1 hb2 hb0 ha0 ho0 hD0 h hz hz2 hx ht
  unfold acv at *
  go_enter Try.func9, Try.ntmps9
  go_wp2
  go_ret
  exact ⟨⟨_, rfl⟩, by rw [hact.out, upd_self hd]; exact (HD0.out.next).unlock fun i hi => .inl hi, Held.of_below HB0.out⟩
end Go.Proofs.Ytdfiofjnijnodaa.gn
