/- Slot, of what may be. -/
import Derived.Test.YtigomdihkojdmaaFtI
import Derived.Test.YtigomdihkojdmaaGenRr
import Derived.OwnWalkIn
namespace Go.Proofs.Ytigomdihkojdmaa.gn
open Go.RowKit Go.Shelf
open Go.Proofs.Ytigomdihkojdmaa.sp

attribute [local go_sem] Oper.semAt_some

/-- A window before Top. -/
def Wt (y : Int × Int) : Prop := 0 ≤ y.1 ∧ y.1 ≤ y.2 ∧ y.2 ≤ 1099511627776
/-- What is looked for further on from z. -/
def Thr (r : Rm) (x : Shp) (f : Int) (pre : List (Wd Wt)) (z : Slt) : Prop := ∀ T, through r x (pre.map Subtype.val ++ T) ⟨f, f, f⟩ = through r x T z
/-- How it stands between two rounds. -/
structure SI (w : World) (v : Rv) (r : Rm) (x : Shp) (f : Int) (g : Nat) (pre : List (Wd Wt)) (W : World) : Prop where
  s : S0I w v x W
  ex : ∃ z, BoxA W g 58 (slC x f z) ∧ Thr r x f pre z ∧ z.Bd
/-- And where one has left. -/
structure SX (w : World) (v : Rv) (r : Rm) (x : Shp) (f : Int) (k : Code) (xs : List (Wd Wt)) (W : World) : Prop where
  bE : BoxA W (w.heap.size + 1 + 1 + 1) 35 #[.int .i64 0]
  hB : Below w.heap.size w W
  ex : (k = .ret ∧ ∃ z, (∀ T, through r x (xs.map Subtype.val ++ T) ⟨f, f, f⟩ = some z) ∧ BoxA W (w.heap.size + 1 + 1) 30 (sltC z)) ∨
    (k = .exit 0 ∧ (∀ T, through r x (xs.map Subtype.val ++ T) ⟨f, f, f⟩ = none) ∧ BoxA W (w.heap.size + 1 + 1) 30 (sltC ⟨0, 0, 0⟩))
theorem S0I.ab {w W W' : World} {v : Rv} {x : Shp} {M : Nat} {row : Option Nat} (h : S0I w v x W) (hg : W.grownBy W' row) (hr : ∀ r, row = some r → M ≤ r) (hM : w.heap.size + 4 ≤ M) : S0I w v x W' :=
  ⟨h.bR.ab hg hr (by omega), h.bX.ab hg hr (by omega), h.bA.ab hg hr (by omega), h.bE.ab hg hr (by omega), below_ab h.hB hg hr (by omega) (Nat.le_refl _)⟩
theorem SI.ab {w W W' : World} {v : Rv} {r : Rm} {x : Shp} {f : Int} {g : Nat} {pre : List (Wd Wt)} {M : Nat} {row : Option Nat} (h : SI w v r x f g pre W) (hg : W.grownBy W' row) (hr : ∀ r, row = some r → M ≤ r) (hM : w.heap.size + 4 ≤ M) (hgM : g < M) : SI w v r x f g pre W' :=
  ⟨h.s.ab hg hr hM, by obtain ⟨z, h1, h2⟩ := h.ex; exact ⟨z, h1.ab hg hr hgM, h2⟩⟩
theorem SX.ab {w W W' : World} {v : Rv} {r : Rm} {x : Shp} {f : Int} {k : Code} {xs : List (Wd Wt)} {M : Nat} {row : Option Nat} (h : SX w v r x f k xs W) (hg : W.grownBy W' row) (hr : ∀ r, row = some r → M ≤ r) (hM : w.heap.size + 4 ≤ M) : SX w v r x f k xs W' :=
  ⟨h.bE.ab hg hr (by omega), below_ab h.hB hg hr (by omega) (Nat.le_refl _), by
    rcases h.ex with ⟨e, z, h1, h2⟩ | ⟨e, h1, h2⟩
    · exact .inl ⟨e, z, h1, h2.ab hg hr (by omega)⟩
    · exact .inr ⟨e, h1, h2.ab hg hr (by omega)⟩⟩

theorem thr_skip {r : Rm} {x : Shp} {f : Int} {pre : List (Wd Wt)} {z : Slt} {y : Wd Wt} (h : Thr r x f pre z) (hlt : y.1.2 < z.o + x.o) : Thr r x f (pre ++ [y]) z := by
  intro T
  rw [List.map_append, List.append_assoc, h]
  show through r x (y.1 :: T) z = _
  rw [through, if_pos hlt]
theorem thr_go {r : Rm} {x : Shp} {f : Int} {pre : List (Wd Wt)} {z z' : Slt} {y : Wd Wt} (h : Thr r x f pre z) (hlt : ¬ y.1.2 < z.o + x.o) (hc : chain r x (max y.1.1 z.s) = some z') (hn : ¬ z'.o + x.o ≤ y.1.2) : Thr r x f (pre ++ [y]) z' := by
  intro T
  rw [List.map_append, List.append_assoc, h]
  show through r x (y.1 :: T) z = _
  rw [through, if_neg hlt, hc]
  exact if_neg hn
theorem thr_found {r : Rm} {x : Shp} {f : Int} {pre : List (Wd Wt)} {z z' : Slt} {y : Wd Wt} (h : Thr r x f pre z) (hlt : ¬ y.1.2 < z.o + x.o) (hc : chain r x (max y.1.1 z.s) = some z') (hn : z'.o + x.o ≤ y.1.2) : ∀ T, through r x ((pre ++ [y]).map Subtype.val ++ T) ⟨f, f, f⟩ = some z' := by
  intro T
  rw [List.map_append, List.append_assoc, h]
  show through r x (y.1 :: T) z = _
  rw [through, if_neg hlt, hc]
  exact if_pos hn
theorem thr_none {r : Rm} {x : Shp} {f : Int} {pre : List (Wd Wt)} {z : Slt} {y : Wd Wt} (h : Thr r x f pre z) (hlt : ¬ y.1.2 < z.o + x.o) (hc : chain r x (max y.1.1 z.s) = none) : ∀ T, through r x ((pre ++ [y]).map Subtype.val ++ T) ⟨f, f, f⟩ = none := by
  intro T
  rw [List.map_append, List.append_assoc, h]
  show through r x (y.1 :: T) z = _
  rw [through, if_neg hlt, hc]

/-- In a round. -/
structure SJ (w : World) (v : Rv) (x : Shp) (f : Int) (g : Nat) (z : Slt) (Bx : Nat) (ya yb : Int) (W : World) : Prop where
  s : S0I w v x W
  bL : BoxA W g 58 (slC x f z)
  bX : Box2 W Bx 64 (.int .i64 ya) (.int .i64 yb)
theorem SJ.next {w W W' : World} {v : Rv} {x : Shp} {f : Int} {g : Nat} {z : Slt} {Bx : Nat} {ya yb : Int} (h : SJ w v x f g z Bx ya yb W) (hb : Below W.heap.size W W') : SJ w v x f g z Bx ya yb W' := ⟨h.s.next hb, h.bL.next hb, box2_next hb h.bX⟩
theorem SJ.drew {w W : World} {v : Rv} {x : Shp} {f : Int} {g : Nat} {z : Slt} {Bx : Nat} {ya yb : Int} (h : SJ w v x f g z Bx ya yb W) : SJ w v x f g z Bx ya yb W.drew := h.next (Below.refl _ W).drew
theorem below_drew2 {c D : Nat} {W W' : World} (h : Below W.drew.heap.size W.drew W') : KpC c W W' ∧ KeepsFrom D W W' := ⟨⟨h.size, fun k _ _ ho _ => (h.block k (lt_of_block ho)).trans ho⟩, ⟨h.size, fun k _ _ ho _ => (h.block k (lt_of_block ho)).trans ho⟩⟩

/-- How far the three first fits have come. -/
def Chn (r : Rm) (x : Shp) (n0 : Int) (z : Slt) : Nat → Slt → Int → Prop
  | 0, y, n => y = z ∧ n = n0
  | 1, y, n => fst? r.l n0 x.i x.l = some y.s ∧ y.c = z.c ∧ y.o = z.o ∧ n = y.s + x.i
  | 2, y, n => fst? r.l n0 x.i x.l = some y.s ∧ fst? r.n (y.s + x.i) x.w x.n = some y.c ∧ y.o = z.o ∧ n = y.c + x.w
  | _, y, n => chain r x n0 = some y ∧ n = y.o + x.o
theorem chn0 {r : Rm} {x : Shp} {n0 n a : Int} {z y : Slt} (h : Chn r x n0 z 0 y n) (hf : fst? r.l n x.i x.l = some a) : Chn r x n0 z 1 ⟨a, y.c, y.o⟩ (a + x.i) := by
  obtain ⟨rfl, rfl⟩ := h
  exact ⟨hf, rfl, rfl, rfl⟩
theorem chn1 {r : Rm} {x : Shp} {n0 n a : Int} {z y : Slt} (h : Chn r x n0 z 1 y n) (hf : fst? r.n n x.w x.n = some a) : Chn r x n0 z 2 ⟨y.s, a, y.o⟩ (a + x.w) := by
  obtain ⟨h1, h2, h3, rfl⟩ := h
  exact ⟨h1, hf, h3, rfl⟩
theorem chn2 {r : Rm} {x : Shp} {n0 n a : Int} {z y : Slt} (h : Chn r x n0 z 2 y n) (hf : fst? r.l n x.o x.l = some a) : Chn r x n0 z 3 ⟨y.s, y.c, a⟩ (a + x.o) := by
  obtain ⟨h1, h2, h3, rfl⟩ := h
  refine ⟨?_, rfl⟩
  unfold chain
  rw [h1, Option.bind_some, h2, Option.bind_some, hf]
  rfl
theorem chn0n {r : Rm} {x : Shp} {n0 n : Int} {z y : Slt} (h : Chn r x n0 z 0 y n) (hf : fst? r.l n x.i x.l = none) : chain r x n0 = none := by
  obtain ⟨rfl, rfl⟩ := h
  unfold chain
  rw [hf]; rfl
theorem chn1n {r : Rm} {x : Shp} {n0 n : Int} {z y : Slt} (h : Chn r x n0 z 1 y n) (hf : fst? r.n n x.w x.n = none) : chain r x n0 = none := by
  obtain ⟨h1, h2, h3, rfl⟩ := h
  unfold chain
  rw [h1, Option.bind_some, hf]; rfl
theorem chn2n {r : Rm} {x : Shp} {n0 n : Int} {z y : Slt} (h : Chn r x n0 z 2 y n) (hf : fst? r.l n x.o x.l = none) : chain r x n0 = none := by
  obtain ⟨h1, h2, h3, rfl⟩ := h
  unfold chain
  rw [h1, Option.bind_some, h2, Option.bind_some, hf]; rfl
theorem chn_bd {r : Rm} {x : Shp} (hr : r.Ok) (hx : x.Q) {n0 n : Int} {z y : Slt} (hn : Q n0) (hz : z.Bd) : ∀ k, k ≤ 3 → Chn r x n0 z k y n → y.Bd ∧ 0 ≤ n ∧ n ≤ 4398046511104 := by
  have i1 := hx.i.1
  have i2 := hx.i.2
  have w1 := hx.w.1
  have w2 := hx.w.2
  have o1 := hx.o.1
  have o2 := hx.o.2
  obtain ⟨n1, n2⟩ := id hn
  intro k hk h
  match k, hk with
  | 0, _ =>
    obtain ⟨rfl, rfl⟩ := h
    exact ⟨hz, n1, by omega⟩
  | 1, _ =>
    obtain ⟨h1, h2, h3, rfl⟩ := h
    have f1 := fst_some hr.l n1 i1 h1
    have a1 := f1.ge
    have a2 := f1.le
    exact ⟨⟨by omega, by omega, by rw [h2]; exact hz.c0, by rw [h2]; exact hz.c1, by rw [h3]; exact hz.o0, by rw [h3]; exact hz.o1⟩, by omega, by omega⟩
  | 2, _ =>
    obtain ⟨h1, h2, h3, rfl⟩ := h
    have f1 := fst_some hr.l n1 i1 h1
    have a1 := f1.ge
    have a2 := f1.le
    have f2 := fst_some hr.n (by omega) w1 h2
    have b1 := f2.ge
    have b2 := f2.le
    exact ⟨⟨by omega, by omega, by omega, by omega, by rw [h3]; exact hz.o0, by rw [h3]; exact hz.o1⟩, by omega, by omega⟩
  | 3, _ =>
    obtain ⟨h1, rfl⟩ := h
    have hb := (chain_some hr hx n1 h1).bd hx hn
    exact ⟨hb, by have := hb.o0; omega, by have := hb.o1; omega⟩
theorem SJ.setL {w W : World} {v : Rv} {x : Shp} {f : Int} {g : Nat} {z z' : Slt} {Bx : Nat} {ya yb : Int} (h : SJ w v x f g z Bx ya yb W) (hg : w.heap.size + 4 ≤ g) (hB : g < Bx) (j : Nat) (a : Value) (he : (slC x f z).setIfInBounds j a = slC x f z') :
    SJ w v x f g z' Bx ya yb (W.setCell ⟨g, j, none⟩ a) :=
  ⟨⟨h.s.bR.other (by omega) j a, h.s.bX.other (by omega) j a, h.s.bA.other (by omega) j a, h.s.bE.other (by omega) j a, h.s.hB.setCell (p := ⟨g, j, none⟩) (by show w.heap.size ≤ g; omega) _⟩,
    he ▸ h.bL.set j a, (Below.heap_setCell _ _ _ _ (by show Bx ≠ g; omega)).trans h.bX⟩

set_option maxRecDepth 100000 in
set_option maxHeartbeats 4000000 in
theorem slot_good {w : World} {v : Rv} {R : Rw} {r : Rm} {x : Shp} {f : Int} (h : RoomV w v R) (hr : r.Ok) (hR : R.Is r) (hx : x.Q) (hf : Q f) :
    Calls Try.prog 8 #[.agg v.c, shpV x, .int .i64 f] w fun e w' => e = .returned (slotV (slot? r x f)) ∧ Below w.heap.size w w' := by
  have hv : vld3 R x [f] = true := vld3_yes (Rw.ok_iff.2 ⟨r, hr, hR⟩) hx (by simpa using hf)
  have HV := Lib.hid hv
  have S1 := (S0I.new w v x).next ((Below.refl _ _).alloc (Nat.le_refl _) (.cells #[.int .i64 f] 2))
  have HV3 := Lib.hid (valid3_any (x := x) (l := [f]) (RoomI.below h S1.hB) (row1 _ f))
  simp only [World.size_alloc] at HV3
  have HS1 := Lib.hid S1
  have i1 := hx.i.1
  have i2 := hx.i.2
  have w1 := hx.w.1
  have w2 := hx.w.2
  have o1 := hx.o.1
  have o2 := hx.o.2
  have f1 := hf.1
  have f2 := hf.2
  have HP := Lib.hid fun (W : World) => parts_any x ⟨f, f, f⟩ W (by show _ ≤ f + x.o; omega) (by show f + x.o ≤ _; omega) (by show _ ≤ f + x.o - f; omega) (by show f + x.o - f ≤ _; omega)
  have HX := Lib.hid (And.intro hr (And.intro hR (And.intro hx (And.intro hf h))))
  clear h hv hr hR hx hf S1
  unfold shpV shpC at *
  unfold sltV sltC at HP
  refine (callsIn_wide (n := 6)).1 ?_
  refine callsIn_of_wp_marks Try.func8 rfl trivial ?_ rfl
  simp only [Try.ntmps8, List.size_toArray, List.length_cons, List.length_nil, Nat.reduceAdd, Nat.reduceSub, Array.replicate_succ, Array.replicate_zero, List.push_toArray, List.append_toArray, List.nil_append, List.cons_append]
  gi_wp2
  refine wpIn_wide.2 (wp_scope_straight ?_)
  go_wp2_with (first
    | (go_at_call 17; refine HV3.out.mono ?_; rintro e w1 ⟨rfl, hb1⟩; rw [HV.out]; have S2 := HS1.out.next hb1; have x0 := S2.bX.cell 0 (.int .i64 x.i); have x1 := S2.bX.cell 1 (.int .i64 x.w); have x2 := S2.bX.cell 2 (.int .i64 x.o); have x3 := S2.bX.cell 3 (.int .i64 x.n); have x4 := S2.bX.cell 4 (.int .i64 x.b); have x5 := S2.bX.cell 5 (.int .i64 x.l); have HS2 := Lib.hid S2; clear hb1 S2)
    | (go_at_call 18; refine (HP.out _).mono ?_; rintro e w2 ⟨rfl, hb2⟩; have HS3 := Lib.hid (HS2.out.next hb2); clear hb2 x0 x1 x2 x3 x4 x5)
    | (refine wpList_store_row rfl _ _ _ rfl w2.heap.size (partsC x ⟨f, f, f⟩) rfl rfl _ _ (World.alloc_heap_new w2 _) (by kernel_rfl) rfl (by kernel_rfl) ?_))
  have bL0 : BoxA ((w2.alloc (.cells zeroP 58)).setRow w2.heap.size (partsC x ⟨f, f, f⟩)) w2.heap.size 58 (slC x f ⟨f, f, f⟩) := (BoxA.new w2 _ _).setRow
  have hb3 : Below w2.heap.size w2 ((w2.alloc (.cells zeroP 58)).setRow w2.heap.size (partsC x ⟨f, f, f⟩)) := below_setRow ((Below.refl _ _).alloc (Nat.le_refl _) _) (Nat.le_refl _) _
  have hwg : w.heap.size + 1 + 1 + 1 + 1 ≤ w2.heap.size := by have := HS3.out.bE.lt; omega
  unfold zeroP at bL0 hb3
  generalize hg : w2.heap.size = g at *
  generalize (World.setRow (w2.alloc (.cells #[.int .i64 0, .int .i64 0, .int .i64 0, .nilFunc, .int .i64 0, .int .i64 0, .int .i64 0, .nilFunc, .int .i64 0, .int .i64 0, .int .i64 0, .nilFunc, .int .i64 0, .int .i64 0, .int .i64 0, .nilFunc] 58)) g (partsC x ⟨f, f, f⟩)) = W3 at *
  have S3 : S0I w v x W3 := HS3.out.next (by rw [hg]; exact hb3)
  have hgl := bL0.lt
  have r2 := S3.bR.cell 2 (.slice v.p3 v.q3 v.r3)
  have r3 := S3.bR.cell 3 (.slice v.p4 v.q4 v.r4)
  have x4 := S3.bX.cell 4 (.int .i64 x.b)
  have HS4 := Lib.hid S3
  have HL0 := Lib.hid bL0
  clear bL0 hb3 S3 hg HV HV3 HS1 HP HS2 HS3
  refine (wpIn_wide (n := 6)).1 ?_
  refine wpIn_label ?_
  simp only [Act.put]
  go_wp2_with (go_at_call 19; refine (free_any _ _ f x.b _).mono ?_; rintro e w' ⟨rfl, rfl⟩)
  refine (wpIn_wide (n := 6)).1 ?_
  have kS := ((Box2.new W3 24 (.slice v.p3 v.q3 v.r3) (.slice v.p4 v.q4 v.r4)).alloc (.cells #[.int .i64 f] 2)).alloc (.cells #[.int .i64 x.b] 2)
  have kF := (Boxed.new (W3.alloc (.cells #[.slice v.p3 v.q3 v.r3, .slice v.p4 v.q4 v.r4] 24)) 2 (.int .i64 f)).alloc (.cells #[.int .i64 x.b] 2)
  have kN := Boxed.new ((W3.alloc (.cells #[.slice v.p3 v.q3 v.r3, .slice v.p4 v.q4 v.r4] 24)).alloc (.cells #[.int .i64 f] 2)) 2 (.int .i64 x.b)
  simp only [World.size_alloc] at kF kN
  have hb4 : Below W3.heap.size W3 (((W3.alloc (.cells #[.slice v.p3 v.q3 v.r3, .slice v.p4 v.q4 v.r4] 24)).alloc (.cells #[.int .i64 f] 2)).alloc (.cells #[.int .i64 x.b] 2)) := (((Below.refl _ W3).alloc (Nat.le_refl _) _).alloc (by simp) _).alloc (by simp; omega) _
  have hsz4 : (((W3.alloc (.cells #[.slice v.p3 v.q3 v.r3, .slice v.p4 v.q4 v.r4] 24)).alloc (.cells #[.int .i64 f] 2)).alloc (.cells #[.int .i64 x.b] 2)).heap.size = W3.heap.size + 3 := by simp
  obtain ⟨W4, hW4⟩ : ∃ W4, (((W3.alloc (.cells #[.slice v.p3 v.q3 v.r3, .slice v.p4 v.q4 v.r4] 24)).alloc (.cells #[.int .i64 f] 2)).alloc (.cells #[.int .i64 x.b] 2)) = W4 := ⟨_, rfl⟩
  rw [hW4] at kS kF kN hb4 hsz4 ⊢
  clear hW4 r2 r3 x4
  have S4 := HS4.out.next hb4
  obtain ⟨hr, hR, hx, hf, hrm⟩ := HX.out
  have hpos : 0 < r.b.length := by obtain ⟨n, hn⟩ := hr.b.zero; exact List.length_pos_of_mem hn
  have j1 := hrm.b1
  have j2 := hrm.b2
  rw [hR.ab] at j1
  rw [hR.nb] at j2
  have hseq := free1_new 5 (by omega) Wt r.b hr.b f x.b hf.1 (fun y hy => by obtain ⟨e1, e2, e3, _⟩ := (wins_is hr.b hf x.b).each y hy; exact ⟨by omega, e2, e3⟩) W3.heap.size (W3.heap.size + 1) (W3.heap.size + 1 + 1) g (.slice v.p3 v.q3 v.r3) (.slice v.p4 v.q4 v.r4) W4 kS kF kN (j1.below S4.hB (Nat.le_refl _)) (j2.below S4.hB (Nat.le_refl _))
    (((j1.toB (by rw [List.length_map]; exact hpos) (Nat.le_refl _)).below S4.hB).mono (by omega)) (((j2.toB (by rw [List.length_map]; exact hpos) (Nat.le_refl _)).below S4.hB).mono (by omega)) (by omega) (by omega) (by omega)
  have HL4 := Lib.hid (HL0.out.next hb4)
  have HS5 := Lib.hid S4
  clear kS kF kN hb4 j1 j2 S4 hr hR hx hf hrm hpos
  have hHS : Hid (w.heap.size ≤ W4.heap.size) := HS5.out.hB.size
  refine range_new (by omega) rfl (enters_of Try.func35 (by kernel_rfl) rfl) hseq (Below.refl _ _) (fun _ => rfl)
    (SI w v r x f g) (SX w v r x f) (fun pre A C row hs hg hr => hs.ab hg hr (by omega) (by omega)) (fun k xs A C row hs hg hr => hs.ab hg hr (by omega))
    ⟨HS5.out, ⟨f, f, f⟩, HL4.out, fun T => rfl, ⟨f1, f2, f1, by show f ≤ _; omega, f1, by show f ≤ _; omega⟩⟩
    (fun y a' W => ∃ Bx, W4.heap.size ≤ Bx ∧ Box2 W Bx 64 (.int .i64 y.1.1) (.int .i64 y.1.2) ∧ a' = { tmps := #[.agg v.c, .agg #[.int .i64 x.i, .int .i64 x.w, .int .i64 x.o, .int .i64 x.n, .int .i64 x.b, .int .i64 x.l], .int .i64 f, .pointer (some ⟨w.heap.size, 0, none⟩), .pointer (some ⟨w.heap.size + 1, 0, none⟩), undef, .pointer (some ⟨w.heap.size + 1 + 1, 0, none⟩), .pointer (some ⟨w.heap.size + 1 + 1 + 1, 0, none⟩), .pointer (some ⟨g, 0, none⟩), .pointer (some ⟨Bx, 0, none⟩), undef, undef, undef, undef, undef, .agg #[.slice v.p1 v.q1 v.r1, .slice v.p2 v.q2 v.r2, .slice v.p3 v.q3 v.r3, .slice v.p4 v.q4 v.r4, .slice v.p5 v.q5 v.r5, .slice v.p6 v.q6 v.r6], .agg #[.int .i64 x.i, .int .i64 x.w, .int .i64 x.o, .int .i64 x.n, .int .i64 x.b, .int .i64 x.l], .int .i64 f, .slice (some ⟨w.heap.size + 1 + 1 + 1 + 1, 0, none⟩) 1 1, .bool true, .bool false, undef, .agg #[.int .i64 x.i, .int .i64 x.w, .int .i64 x.o, .int .i64 x.n, .int .i64 x.b, .int .i64 x.l], .int .i64 f, .int .i64 f, .int .i64 f, .agg #[.int .i64 f, .int .i64 f, .int .i64 f], .agg (partsC x ⟨f, f, f⟩), .pointer (some ⟨w.heap.size, 2, none⟩), .agg #[.slice v.p3 v.q3 v.r3, .slice v.p4 v.q4 v.r4], .int .i64 f, .pointer (some ⟨w.heap.size + 1, 4, none⟩), .int .i64 x.b, .func (.func 35) #[] #[.pointer (some ⟨W3.heap.size + 1, 0, none⟩), .pointer (some ⟨W3.heap.size, 0, none⟩), .pointer (some ⟨W3.heap.size + 1 + 1, 0, none⟩)], .agg #[.int .i64 y.1.1, .int .i64 y.1.2], undef, undef, undef, undef, undef, undef, undef, undef, undef, undef, undef, undef, undef, undef, undef, undef, undef, undef, undef, undef, undef, undef, undef, undef, undef, undef, undef, undef, undef, undef, undef, undef, undef, undef, undef, undef, undef, undef, undef, undef, undef, undef, undef, undef, undef, undef, undef, undef, undef, undef, undef, undef, undef, undef, undef, undef, undef, undef, undef], defers := [] })
    (fun x a' _ X Y row hs hg hr => by obtain ⟨Bx, h1, h2, h3⟩ := hs; exact ⟨Bx, h1, box2_own Bx 64 (fun (_ : Unit) => Value.int .i64 x.1.1) (fun (_ : Unit) => Value.int .i64 x.1.2) () X Y row h2 hg (fun r e => (hr r e).2), h3⟩)
    ?assign ?body ?done ?stop
  case assign =>
    rintro l pre ⟨⟨ya, yb⟩, hy⟩ W K hI hz hK
    dsimp only [encW]
    have bX := Box2.new W 64 (.int .i64 ya) (.int .i64 yb)
    have hb : Below W.heap.size W (W.alloc (.cells #[.int .i64 ya, .int .i64 yb] 64)) := (Below.refl _ W).alloc (Nat.le_refl _) _
    have HB := Lib.hid hb
    clear hb hseq
    gi_wp2
    exact hK _ _ ((KeepsOthers.alloc _ _).from _) (KpC.of_below HB.out) (hI.ab (M := w.heap.size + 4 + g + 1) (World.grownBy_alloc W _ none) (fun r e => by cases e) (by omega) (by omega)) ⟨W.heap.size, hz, bX, rfl⟩
  case body =>
    rintro l pre ⟨⟨ya, yb⟩, hy⟩ a' W hz hI ⟨Bx, hBx, bX, rfl⟩
    obtain ⟨t0, t1, t2⟩ := id hy
    dsimp only at t0 t1 t2 bX ⊢
    obtain ⟨hS, z, hL, hT, hzb⟩ := hI
    obtain ⟨zs0, zs1, zc0, zc1, zo0, zo1⟩ := id hzb
    have HE := Lib.hid fun (W : World) => end_any z.o x.o x.l 32 W (by omega) (by omega)
    have J0 : SJ w v x f g z Bx ya yb W := ⟨hS, hL, bX⟩
    have cBx1 := J0.bX.cell1; have cg8 := J0.bL.cell 8 (.int .i64 z.o); have cg9 := J0.bL.cell 9 (.int .i64 x.o); have cg10 := J0.bL.cell 10 (.int .i64 x.l); have cg11 := J0.bL.cell 11 (.func (.func 32) #[] #[])
    have HJ : Hid (SJ w v x f g z Bx ya yb W) := J0
    have HTZ := Lib.hid (And.intro hT hzb)
    have HY := Lib.hid hy
    unfold prtC at HE
    clear hS hL hT hzb bX hseq HL4 HS5 HS4 HL0 J0
    by_cases hlt : yb < z.o + x.o
    · have d1 : decide (yb < z.o + x.o) = true := decide_eq_true hlt
      have HLT := Lib.hid hlt
      clear hlt
      gi_wp2_with fail
      refine held_round (S := (fun W => W.cell? ⟨Bx, 1, none⟩ = some (.int .i64 yb) ∧ W.cell? ⟨g, 8, none⟩ = some (.int .i64 z.o) ∧ W.cell? ⟨g, 9, none⟩ = some (.int .i64 x.o) ∧ W.cell? ⟨g, 10, none⟩ = some (.int .i64 x.l) ∧ W.cell? ⟨g, 11, none⟩ = some (.func (.func 32) #[] #[]))) (by kernel_rfl) (by kernel_rfl) (fun ⟨_, _, h⟩ => h) (by (first | (go_keep; done) | (dsimp only; go_keep))) (fun hHeld => ?_)
      refine wpAnyH_take (i := 0) (v := ?_) (ata at0) (by kernel_rfl) (by kernel_rfl) (by kernel_rfl) (fun _ _ _ h => h) (Or.inl ⟨by rfl, ?_⟩) (by assumption) ?_
      rotate_left
      · (intro w hSw; (try dsimp only at hSw); go_simp; (first | done | with_reducible rfl))
      try simp only [Act.put, List.setIfInBounds_toArray, List.set_cons_zero, List.set_cons_succ]
      refine wpAnyH_take (i := 1) (v := ?_) (ata (atS at0)) (by kernel_rfl) (by kernel_rfl) (by kernel_rfl) (fun _ _ _ h => h) (Or.inl ⟨by rfl, ?_⟩) (by assumption) ?_
      rotate_left
      · (intro w hSw; (try dsimp only at hSw); go_simp; (first | done | with_reducible rfl))
      try simp only [Act.put, List.setIfInBounds_toArray, List.set_cons_zero, List.set_cons_succ]
      refine wpAnyH_take (i := 2) (v := ?_) (ata (atS (atS at0))) (by kernel_rfl) (by kernel_rfl) (by kernel_rfl) (fun _ _ _ h => h) (Or.inl ⟨by rfl, ?_⟩) (by assumption) ?_
      rotate_left
      · (intro w hSw; (try dsimp only at hSw); go_simp; (first | done | with_reducible rfl))
      try simp only [Act.put, List.setIfInBounds_toArray, List.set_cons_zero, List.set_cons_succ]
      refine wpAnyH_take (i := 3) (v := ?_) (ata (atS (atS (atS at0)))) (by kernel_rfl) (by kernel_rfl) (by kernel_rfl) (fun _ _ _ h => h) (Or.inl ⟨by rfl, ?_⟩) (by assumption) ?_
      rotate_left
      · (intro w hSw; (try dsimp only at hSw); go_simp; (first | done | with_reducible rfl))
      try simp only [Act.put, List.setIfInBounds_toArray, List.set_cons_zero, List.set_cons_succ]
      refine wpAnyH_ready (rs := [4]) (by kernel_rfl) (by simp) ?_
      refine AllReadyH.cons (ata (atS (atS (atS (atS at0))))) (fun K hK => ?_) AllReadyH.nil
      go_simp
      (go_at_call 20; refine (HE.out _).mono ?_; rintro e w4 ⟨rfl, hb4⟩; have J4 := HJ.out.drew.next hb4; have cBx1 := J4.bX.cell1; have cg8 := J4.bL.cell 8 (.int .i64 z.o); have cg9 := J4.bL.cell 9 (.int .i64 x.o); have cg10 := J4.bL.cell 10 (.int .i64 x.l); have cg11 := J4.bL.cell 11 (.func (.func 32) #[] #[]); have HJ4 := Lib.hid J4; have HK4 := Lib.hid (below_drew2 (c := g) (D := W4.heap.size) hb4); clear hb4 J4)
      go_wp2_with fail
      refine hK.out _ _ (by (first | (go_keep; done) | (dsimp only; go_keep))) (fun hHeld => ?_)
      clear hK K
      try simp only [Act.put, List.setIfInBounds_toArray, List.set_cons_zero, List.set_cons_succ]
      refine wpAnyH_take (i := 5) (v := ?_) (ata (atS (atS (atS (atS (atS at0)))))) (by kernel_rfl) (by kernel_rfl) (by kernel_rfl) (fun _ _ _ h => h) (Or.inl ⟨by rfl, ?_⟩) (by assumption) ?_
      rotate_left
      · (intro w hSw; (try dsimp only at hSw); go_simp; (first | done | with_reducible rfl))
      try simp only [Act.put, List.setIfInBounds_toArray, List.set_cons_zero, List.set_cons_succ]
      refine wpAnyH_done (by kernel_rfl) ?_ _
      gi_wp2
      exact ⟨HK4.out.2, HK4.out.1, HJ4.out.s, z, HJ4.out.bL, thr_skip (y := ⟨(ya, yb), HY.out⟩) HTZ.out.1 HLT.out, HTZ.out.2⟩
    · have d1 : decide (yb < z.o + x.o) = false := decide_eq_false hlt
      have HLT := Lib.hid hlt
      clear hlt
      gi_wp2_with fail
      refine held_round (S := (fun W => W.cell? ⟨Bx, 1, none⟩ = some (.int .i64 yb) ∧ W.cell? ⟨g, 8, none⟩ = some (.int .i64 z.o) ∧ W.cell? ⟨g, 9, none⟩ = some (.int .i64 x.o) ∧ W.cell? ⟨g, 10, none⟩ = some (.int .i64 x.l) ∧ W.cell? ⟨g, 11, none⟩ = some (.func (.func 32) #[] #[]))) (by kernel_rfl) (by kernel_rfl) (fun ⟨_, _, h⟩ => h) (by (first | (go_keep; done) | (dsimp only; go_keep))) (fun hHeld => ?_)
      refine wpAnyH_take (i := 0) (v := ?_) (ata at0) (by kernel_rfl) (by kernel_rfl) (by kernel_rfl) (fun _ _ _ h => h) (Or.inl ⟨by rfl, ?_⟩) (by assumption) ?_
      rotate_left
      · (intro w hSw; (try dsimp only at hSw); go_simp; (first | done | with_reducible rfl))
      try simp only [Act.put, List.setIfInBounds_toArray, List.set_cons_zero, List.set_cons_succ]
      refine wpAnyH_take (i := 1) (v := ?_) (ata (atS at0)) (by kernel_rfl) (by kernel_rfl) (by kernel_rfl) (fun _ _ _ h => h) (Or.inl ⟨by rfl, ?_⟩) (by assumption) ?_
      rotate_left
      · (intro w hSw; (try dsimp only at hSw); go_simp; (first | done | with_reducible rfl))
      try simp only [Act.put, List.setIfInBounds_toArray, List.set_cons_zero, List.set_cons_succ]
      refine wpAnyH_take (i := 2) (v := ?_) (ata (atS (atS at0))) (by kernel_rfl) (by kernel_rfl) (by kernel_rfl) (fun _ _ _ h => h) (Or.inl ⟨by rfl, ?_⟩) (by assumption) ?_
      rotate_left
      · (intro w hSw; (try dsimp only at hSw); go_simp; (first | done | with_reducible rfl))
      try simp only [Act.put, List.setIfInBounds_toArray, List.set_cons_zero, List.set_cons_succ]
      refine wpAnyH_take (i := 3) (v := ?_) (ata (atS (atS (atS at0)))) (by kernel_rfl) (by kernel_rfl) (by kernel_rfl) (fun _ _ _ h => h) (Or.inl ⟨by rfl, ?_⟩) (by assumption) ?_
      rotate_left
      · (intro w hSw; (try dsimp only at hSw); go_simp; (first | done | with_reducible rfl))
      try simp only [Act.put, List.setIfInBounds_toArray, List.set_cons_zero, List.set_cons_succ]
      refine wpAnyH_ready (rs := [4]) (by kernel_rfl) (by simp) ?_
      refine AllReadyH.cons (ata (atS (atS (atS (atS at0))))) (fun K hK => ?_) AllReadyH.nil
      go_simp
      (go_at_call 20; refine (HE.out _).mono ?_; rintro e w4 ⟨rfl, hb4⟩; have J4 := HJ.out.drew.next hb4; have cBx1 := J4.bX.cell1; have cg8 := J4.bL.cell 8 (.int .i64 z.o); have cg9 := J4.bL.cell 9 (.int .i64 x.o); have cg10 := J4.bL.cell 10 (.int .i64 x.l); have cg11 := J4.bL.cell 11 (.func (.func 32) #[] #[]); have HJ4 := Lib.hid J4; have HK4 := Lib.hid (below_drew2 (c := g) (D := W4.heap.size) hb4); clear hb4 J4)
      go_wp2_with fail
      refine hK.out _ _ (by (first | (go_keep; done) | (dsimp only; go_keep))) (fun hHeld => ?_)
      clear hK K
      try simp only [Act.put, List.setIfInBounds_toArray, List.set_cons_zero, List.set_cons_succ]
      refine wpAnyH_take (i := 5) (v := ?_) (ata (atS (atS (atS (atS (atS at0)))))) (by kernel_rfl) (by kernel_rfl) (by kernel_rfl) (fun _ _ _ h => h) (Or.inl ⟨by rfl, ?_⟩) (by assumption) ?_
      rotate_left
      · (intro w hSw; (try dsimp only at hSw); go_simp; (first | done | with_reducible rfl))
      try simp only [Act.put, List.setIfInBounds_toArray, List.set_cons_zero, List.set_cons_succ]
      refine wpAnyH_done (by kernel_rfl) ?_ _
      have cX0 := HJ4.out.bX.cell0
      have l0 := HJ4.out.bL.cell 0 (.int .i64 z.s)
      gi_wp2
      generalize hm : max ya z.s = nx at *
      have hnx : Q nx := ⟨by omega, by omega⟩
      have HNX := Lib.hid (And.intro hnx hm)
      have HG := Lib.hid (And.intro hwg (And.intro hgl (And.intro hsz4 hBx)))
      clear hnx hm cX0 l0 cBx1 cg8 cg9 cg10 cg11 d1 HJ hsz4
      gi_loopw [49, 10] (fun i nv wr => ∃ (k : Nat) (z' : Slt) (nxt : Int), k ≤ 3 ∧ i = .int .i64 (k : Int) ∧ nv = .int .i64 nxt ∧ SJ w v x f g z' Bx ya yb wr ∧ Chn r x nx z k z' nxt ∧ KpC g W wr ∧ KeepsFrom W4.heap.size W wr) (fun i _ _ => 3 - (intOf i).toNat)
      case atStart => exact ⟨0, z, nx, by omega, rfl, rfl, HJ4.out, ⟨rfl, rfl⟩, HK4.out⟩
      case round =>
        obtain ⟨k, z', nxt, hk, rfl, rfl, hJ, hC, hK1, hK2⟩ := hrel
        obtain ⟨hzb', hn0, hn1⟩ := chn_bd HX.out.1 HX.out.2.2.1 HNX.out.1 HTZ.out.2 k hk hC
        have HC := Lib.hid hC
        have HJr := Lib.hid hJ
        have HKr := Lib.hid (And.intro hK1 hK2)
        have HZ := Lib.hid hzb'
        clear hC hJ hK1 hK2 hzb'
        match k, hk with
        | 0, _ =>
          have l0 := HJr.out.bL.cell 0 (.int .i64 z'.s)
          have l1 := HJr.out.bL.cell 1 (.int .i64 x.i)
          have l2 := HJr.out.bL.cell 2 (.int .i64 x.l)
          have l3 := HJr.out.bL.cell 3 (.func (.func 32) #[] #[])
          have lg := HJr.out.bL.lt
          have bP := BoxA.new wr 57 #[.int .i64 z'.s, .int .i64 x.i, .int .i64 x.l, .func (.func 32) #[] #[]]
          have hb5 : Below wr.heap.size wr (wr.alloc (.cells #[.int .i64 z'.s, .int .i64 x.i, .int .i64 x.l, .func (.func 32) #[] #[]] 57)) := (Below.refl _ _).alloc (Nat.le_refl _) _
          obtain ⟨W5, hW5⟩ : ∃ W5, wr.alloc (.cells #[.int .i64 z'.s, .int .i64 x.i, .int .i64 x.l, .func (.func 32) #[] #[]] 57) = W5 := ⟨_, rfl⟩
          have hJ5 := HJr.out.next hb5
          rw [hW5] at bP hb5 hJ5
          have HP5 := Lib.hid bP
          have HJ5 := Lib.hid hJ5
          have HB5 := Lib.hid hb5
          have HF := Lib.hid (first_any (L := r.l) (f := nxt) (long := x.i) (n := x.l) (w := W5.drew) (v := .agg #[.slice v.p5 v.q5 v.r5, .slice v.p6 v.q6 v.r6]) (by have h := (RoomI.below HX.out.2.2.2.2 hJ5.s.hB).l; rw [HX.out.2.1.al, HX.out.2.1.nl] at h; exact h.below (Below.refl _ W5).drew (Nat.le_refl _)) HX.out.1.l hn0 (by omega))
          clear bP hb5 hJ5
          gi_wp2_with fail
          clear hW5
          have P5 := HP5.out
          have p1 := P5.cell 1 (.int .i64 x.i); have p2 := P5.cell 2 (.int .i64 x.l); have p3 := P5.cell 3 (.func (.func 32) #[] #[]); have r4 := HJ5.out.s.bR.cell 4 (.slice v.p5 v.q5 v.r5); have r5 := HJ5.out.s.bR.cell 5 (.slice v.p6 v.q6 v.r6)
          clear P5 l0 l1 l2 l3
          cases hfst : fst? r.l nxt x.i x.l with
          | none =>
            have hfst := Lib.hid hfst
            refine held_round (S := (fun W => W.cell? ⟨wr.heap.size, 1, none⟩ = some (.int .i64 x.i) ∧ W.cell? ⟨wr.heap.size, 2, none⟩ = some (.int .i64 x.l) ∧ W.cell? ⟨wr.heap.size, 3, none⟩ = some (.func (.func 32) #[] #[]) ∧ W.cell? ⟨w.heap.size, 4, none⟩ = some (.slice v.p5 v.q5 v.r5) ∧ W.cell? ⟨w.heap.size, 5, none⟩ = some (.slice v.p6 v.q6 v.r6))) (by kernel_rfl) (by kernel_rfl) (fun ⟨_, _, h⟩ => h) (by (first | (go_keep; done) | (dsimp only; go_keep))) (fun hHeld => ?_)
            refine wpAnyH_take (i := 0) (v := ?_) (ata at0) (by kernel_rfl) (by kernel_rfl) (by kernel_rfl) (fun _ _ _ h => h) (Or.inl ⟨by rfl, ?_⟩) (by assumption) ?_
            rotate_left
            · (intro w hSw; (try dsimp only at hSw); go_simp; (first | done | with_reducible rfl))
            try simp only [Act.put, List.setIfInBounds_toArray, List.set_cons_zero, List.set_cons_succ]
            refine wpAnyH_take (i := 1) (v := ?_) (ata (atS at0)) (by kernel_rfl) (by kernel_rfl) (by kernel_rfl) (fun _ _ _ h => h) (Or.inl ⟨by rfl, ?_⟩) (by assumption) ?_
            rotate_left
            · (intro w hSw; (try dsimp only at hSw); go_simp; (first | done | with_reducible rfl))
            try simp only [Act.put, List.setIfInBounds_toArray, List.set_cons_zero, List.set_cons_succ]
            refine wpAnyH_take (i := 5) (v := ?_) (ata (atS (atS (atS (atS (atS at0)))))) (by kernel_rfl) (by kernel_rfl) (by kernel_rfl) (fun _ _ _ h => h) (Or.inl ⟨by rfl, ?_⟩) (by assumption) ?_
            rotate_left
            · (intro w hSw; (try dsimp only at hSw); go_simp; (first | done | with_reducible rfl))
            try simp only [Act.put, List.setIfInBounds_toArray, List.set_cons_zero, List.set_cons_succ]
            refine wpAnyH_take (i := 6) (v := ?_) (ata (atS (atS (atS (atS (atS (atS at0))))))) (by kernel_rfl) (by kernel_rfl) (by kernel_rfl) (fun _ _ _ h => h) (Or.inl ⟨by rfl, ?_⟩) (by assumption) ?_
            rotate_left
            · (intro w hSw; (try dsimp only at hSw); go_simp; (first | done | with_reducible rfl))
            try simp only [Act.put, List.setIfInBounds_toArray, List.set_cons_zero, List.set_cons_succ]
            refine wpAnyH_take (i := 7) (v := ?_) (ata (atS (atS (atS (atS (atS (atS (atS at0)))))))) (by kernel_rfl) (by kernel_rfl) (by kernel_rfl) (fun _ _ _ h => h) (Or.inl ⟨by rfl, ?_⟩) (by assumption) ?_
            rotate_left
            · (intro w hSw; (try dsimp only at hSw); go_simp; (first | done | with_reducible rfl))
            try simp only [Act.put, List.setIfInBounds_toArray, List.set_cons_zero, List.set_cons_succ]
            refine wpAnyH_take (i := 8) (v := ?_) (ata (atS (atS (atS (atS (atS (atS (atS (atS at0))))))))) (by kernel_rfl) (by kernel_rfl) (by kernel_rfl) (fun _ _ _ h => h) (Or.inl ⟨by rfl, ?_⟩) (by assumption) ?_
            rotate_left
            · (intro w hSw; (try dsimp only at hSw); go_simp; (first | done | with_reducible rfl))
            try simp only [Act.put, List.setIfInBounds_toArray, List.set_cons_zero, List.set_cons_succ]
            refine wpAnyH_take (i := 9) (v := ?_) (ata (atS (atS (atS (atS (atS (atS (atS (atS (atS at0)))))))))) (by kernel_rfl) (by kernel_rfl) (by kernel_rfl) (fun _ _ _ h => h) (Or.inl ⟨by rfl, ?_⟩) (by assumption) ?_
            rotate_left
            · (intro w hSw; (try dsimp only at hSw); go_simp; (first | done | with_reducible rfl))
            try simp only [Act.put, List.setIfInBounds_toArray, List.set_cons_zero, List.set_cons_succ]
            refine wpAnyH_ready (rs := [2]) (by kernel_rfl) (by simp) ?_
            refine AllReadyH.cons (ata (atS (atS at0))) (fun K hK => ?_) AllReadyH.nil
            go_simp
            (go_at_call 32; refine (lanes_any _ _).mono ?_; rintro e w5 ⟨rfl, rfl⟩)
            go_wp2_with fail
            refine hK.out _ _ (by (first | (go_keep; done) | (dsimp only; go_keep))) (fun hHeld => ?_)
            clear hK K
            try simp only [Act.put, List.setIfInBounds_toArray, List.set_cons_zero, List.set_cons_succ]
            refine wpAnyH_take (i := 3) (v := ?_) (ata (atS (atS (atS at0)))) (by kernel_rfl) (by kernel_rfl) (by kernel_rfl) (fun _ _ _ h => h) (Or.inl ⟨by rfl, ?_⟩) (by assumption) ?_
            rotate_left
            · (intro w hSw; (try dsimp only at hSw); go_simp; (first | done | with_reducible rfl))
            try simp only [Act.put, List.setIfInBounds_toArray, List.set_cons_zero, List.set_cons_succ]
            refine wpAnyH_take (i := 4) (v := ?_) (ata (atS (atS (atS (atS at0))))) (by kernel_rfl) (by kernel_rfl) (by kernel_rfl) (fun _ _ _ h => h) (Or.inl ⟨by rfl, ?_⟩) (by assumption) ?_
            rotate_left
            · (intro w hSw; (try dsimp only at hSw); go_simp; (first | done | with_reducible rfl))
            try simp only [Act.put, List.setIfInBounds_toArray, List.set_cons_zero, List.set_cons_succ]
            refine wpAnyH_ready (rs := [10]) (by kernel_rfl) (by simp) ?_
            refine AllReadyH.cons (ata (atS (atS (atS (atS (atS (atS (atS (atS (atS (atS at0))))))))))) (fun K hK => ?_) AllReadyH.nil
            go_simp
            (go_at_call 21; refine HF.out.mono ?_; rintro e w6 ⟨rfl, hb6⟩; rw [hfst.out]; dsimp only [fitV]; have J6 := HJ5.out.drew.next hb6; have P6 := (BoxA.next hb6 (show BoxA W5.drew wr.heap.size 57 #[.int .i64 z'.s, .int .i64 x.i, .int .i64 x.l, .func (.func 32) #[] #[]] from HP5.out)); have p1 := P6.cell 1 (.int .i64 x.i); have p2 := P6.cell 2 (.int .i64 x.l); have p3 := P6.cell 3 (.func (.func 32) #[] #[]); have r4 := J6.s.bR.cell 4 (.slice v.p5 v.q5 v.r5); have r5 := J6.s.bR.cell 5 (.slice v.p6 v.q6 v.r6); have HJ6 := Lib.hid J6; have HP6 := Lib.hid P6; have HK6 := Lib.hid (below_drew2 (c := g) (D := W4.heap.size) hb6); clear hb6 J6 P6)
            go_wp2_with fail
            refine hK.out _ _ (by (first | (go_keep; done) | (dsimp only; go_keep))) (fun hHeld => ?_)
            clear hK K
            try simp only [Act.put, List.setIfInBounds_toArray, List.set_cons_zero, List.set_cons_succ]
            refine wpAnyH_take (i := 11) (v := ?_) (ata (atS (atS (atS (atS (atS (atS (atS (atS (atS (atS (atS at0)))))))))))) (by kernel_rfl) (by kernel_rfl) (by kernel_rfl) (fun _ _ _ h => h) (Or.inl ⟨by rfl, ?_⟩) (by assumption) ?_
            rotate_left
            · (intro w hSw; (try dsimp only at hSw); go_simp; (first | done | with_reducible rfl))
            try simp only [Act.put, List.setIfInBounds_toArray, List.set_cons_zero, List.set_cons_succ]
            refine wpAnyH_take (i := 12) (v := ?_) (ata (atS (atS (atS (atS (atS (atS (atS (atS (atS (atS (atS (atS at0))))))))))))) (by kernel_rfl) (by kernel_rfl) (by kernel_rfl) (fun _ _ _ h => h) (Or.inl ⟨by rfl, ?_⟩) (by assumption) ?_
            rotate_left
            · (intro w hSw; (try dsimp only at hSw); go_simp; (first | done | with_reducible rfl))
            try simp only [Act.put, List.setIfInBounds_toArray, List.set_cons_zero, List.set_cons_succ]
            refine wpAnyH_take (i := 13) (v := ?_) (ata (atS (atS (atS (atS (atS (atS (atS (atS (atS (atS (atS (atS (atS at0)))))))))))))) (by kernel_rfl) (by kernel_rfl) (by kernel_rfl) (fun _ _ _ h => h) (Or.inl ⟨by rfl, ?_⟩) (by assumption) ?_
            rotate_left
            · (intro w hSw; (try dsimp only at hSw); go_simp; (first | done | with_reducible rfl))
            try simp only [Act.put, List.setIfInBounds_toArray, List.set_cons_zero, List.set_cons_succ]
            refine wpAnyH_take (i := 14) (v := ?_) (ata (atS (atS (atS (atS (atS (atS (atS (atS (atS (atS (atS (atS (atS (atS at0))))))))))))))) (by kernel_rfl) (by kernel_rfl) (by kernel_rfl) (fun _ _ _ h => h) (Or.inl ⟨by rfl, ?_⟩) (by assumption) ?_
            rotate_left
            · (intro w hSw; (try dsimp only at hSw); go_simp; (first | done | with_reducible rfl))
            try simp only [Act.put, List.setIfInBounds_toArray, List.set_cons_zero, List.set_cons_succ]
            refine wpAnyH_take (i := 15) (v := ?_) (ata (atS (atS (atS (atS (atS (atS (atS (atS (atS (atS (atS (atS (atS (atS (atS at0)))))))))))))))) (by kernel_rfl) (by kernel_rfl) (by kernel_rfl) (fun _ _ _ h => h) (Or.inl ⟨by rfl, ?_⟩) (by assumption) ?_
            rotate_left
            · (intro w hSw; (try dsimp only at hSw); go_simp; (first | done | with_reducible rfl))
            try simp only [Act.put, List.setIfInBounds_toArray, List.set_cons_zero, List.set_cons_succ]
            refine wpAnyH_done (by kernel_rfl) ?_ _
            gi_wp2
            exact ⟨(HKr.out.2.trans (KeepsFrom.of_below HB5.out)).trans HK6.out.2, HJ6.out.s.bE, HJ6.out.s.hB, .inr ⟨rfl, thr_none (y := ⟨(ya, yb), HY.out⟩) HTZ.out.1 (Int.not_lt.2 HLT.out) (by show chain r x (max ya z.s) = none; rw [HNX.out.2]; exact chn0n HC.out hfst.out), HJ6.out.s.bA⟩⟩
          | some a =>
            have hfst := Lib.hid hfst
            refine held_round (S := (fun W => W.cell? ⟨wr.heap.size, 1, none⟩ = some (.int .i64 x.i) ∧ W.cell? ⟨wr.heap.size, 2, none⟩ = some (.int .i64 x.l) ∧ W.cell? ⟨wr.heap.size, 3, none⟩ = some (.func (.func 32) #[] #[]) ∧ W.cell? ⟨w.heap.size, 4, none⟩ = some (.slice v.p5 v.q5 v.r5) ∧ W.cell? ⟨w.heap.size, 5, none⟩ = some (.slice v.p6 v.q6 v.r6))) (by kernel_rfl) (by kernel_rfl) (fun ⟨_, _, h⟩ => h) (by (first | (go_keep; done) | (dsimp only; go_keep))) (fun hHeld => ?_)
            refine wpAnyH_take (i := 0) (v := ?_) (ata at0) (by kernel_rfl) (by kernel_rfl) (by kernel_rfl) (fun _ _ _ h => h) (Or.inl ⟨by rfl, ?_⟩) (by assumption) ?_
            rotate_left
            · (intro w hSw; (try dsimp only at hSw); go_simp; (first | done | with_reducible rfl))
            try simp only [Act.put, List.setIfInBounds_toArray, List.set_cons_zero, List.set_cons_succ]
            refine wpAnyH_take (i := 1) (v := ?_) (ata (atS at0)) (by kernel_rfl) (by kernel_rfl) (by kernel_rfl) (fun _ _ _ h => h) (Or.inl ⟨by rfl, ?_⟩) (by assumption) ?_
            rotate_left
            · (intro w hSw; (try dsimp only at hSw); go_simp; (first | done | with_reducible rfl))
            try simp only [Act.put, List.setIfInBounds_toArray, List.set_cons_zero, List.set_cons_succ]
            refine wpAnyH_take (i := 5) (v := ?_) (ata (atS (atS (atS (atS (atS at0)))))) (by kernel_rfl) (by kernel_rfl) (by kernel_rfl) (fun _ _ _ h => h) (Or.inl ⟨by rfl, ?_⟩) (by assumption) ?_
            rotate_left
            · (intro w hSw; (try dsimp only at hSw); go_simp; (first | done | with_reducible rfl))
            try simp only [Act.put, List.setIfInBounds_toArray, List.set_cons_zero, List.set_cons_succ]
            refine wpAnyH_take (i := 6) (v := ?_) (ata (atS (atS (atS (atS (atS (atS at0))))))) (by kernel_rfl) (by kernel_rfl) (by kernel_rfl) (fun _ _ _ h => h) (Or.inl ⟨by rfl, ?_⟩) (by assumption) ?_
            rotate_left
            · (intro w hSw; (try dsimp only at hSw); go_simp; (first | done | with_reducible rfl))
            try simp only [Act.put, List.setIfInBounds_toArray, List.set_cons_zero, List.set_cons_succ]
            refine wpAnyH_take (i := 7) (v := ?_) (ata (atS (atS (atS (atS (atS (atS (atS at0)))))))) (by kernel_rfl) (by kernel_rfl) (by kernel_rfl) (fun _ _ _ h => h) (Or.inl ⟨by rfl, ?_⟩) (by assumption) ?_
            rotate_left
            · (intro w hSw; (try dsimp only at hSw); go_simp; (first | done | with_reducible rfl))
            try simp only [Act.put, List.setIfInBounds_toArray, List.set_cons_zero, List.set_cons_succ]
            refine wpAnyH_take (i := 8) (v := ?_) (ata (atS (atS (atS (atS (atS (atS (atS (atS at0))))))))) (by kernel_rfl) (by kernel_rfl) (by kernel_rfl) (fun _ _ _ h => h) (Or.inl ⟨by rfl, ?_⟩) (by assumption) ?_
            rotate_left
            · (intro w hSw; (try dsimp only at hSw); go_simp; (first | done | with_reducible rfl))
            try simp only [Act.put, List.setIfInBounds_toArray, List.set_cons_zero, List.set_cons_succ]
            refine wpAnyH_take (i := 9) (v := ?_) (ata (atS (atS (atS (atS (atS (atS (atS (atS (atS at0)))))))))) (by kernel_rfl) (by kernel_rfl) (by kernel_rfl) (fun _ _ _ h => h) (Or.inl ⟨by rfl, ?_⟩) (by assumption) ?_
            rotate_left
            · (intro w hSw; (try dsimp only at hSw); go_simp; (first | done | with_reducible rfl))
            try simp only [Act.put, List.setIfInBounds_toArray, List.set_cons_zero, List.set_cons_succ]
            refine wpAnyH_ready (rs := [2]) (by kernel_rfl) (by simp) ?_
            refine AllReadyH.cons (ata (atS (atS at0))) (fun K hK => ?_) AllReadyH.nil
            go_simp
            (go_at_call 32; refine (lanes_any _ _).mono ?_; rintro e w5 ⟨rfl, rfl⟩)
            go_wp2_with fail
            refine hK.out _ _ (by (first | (go_keep; done) | (dsimp only; go_keep))) (fun hHeld => ?_)
            clear hK K
            try simp only [Act.put, List.setIfInBounds_toArray, List.set_cons_zero, List.set_cons_succ]
            refine wpAnyH_take (i := 3) (v := ?_) (ata (atS (atS (atS at0)))) (by kernel_rfl) (by kernel_rfl) (by kernel_rfl) (fun _ _ _ h => h) (Or.inl ⟨by rfl, ?_⟩) (by assumption) ?_
            rotate_left
            · (intro w hSw; (try dsimp only at hSw); go_simp; (first | done | with_reducible rfl))
            try simp only [Act.put, List.setIfInBounds_toArray, List.set_cons_zero, List.set_cons_succ]
            refine wpAnyH_take (i := 4) (v := ?_) (ata (atS (atS (atS (atS at0))))) (by kernel_rfl) (by kernel_rfl) (by kernel_rfl) (fun _ _ _ h => h) (Or.inl ⟨by rfl, ?_⟩) (by assumption) ?_
            rotate_left
            · (intro w hSw; (try dsimp only at hSw); go_simp; (first | done | with_reducible rfl))
            try simp only [Act.put, List.setIfInBounds_toArray, List.set_cons_zero, List.set_cons_succ]
            refine wpAnyH_ready (rs := [10]) (by kernel_rfl) (by simp) ?_
            refine AllReadyH.cons (ata (atS (atS (atS (atS (atS (atS (atS (atS (atS (atS at0))))))))))) (fun K hK => ?_) AllReadyH.nil
            go_simp
            (go_at_call 21; refine HF.out.mono ?_; rintro e w6 ⟨rfl, hb6⟩; rw [hfst.out]; dsimp only [fitV]; have J6 := HJ5.out.drew.next hb6; have P6 := (BoxA.next hb6 (show BoxA W5.drew wr.heap.size 57 #[.int .i64 z'.s, .int .i64 x.i, .int .i64 x.l, .func (.func 32) #[] #[]] from HP5.out)); have p1 := P6.cell 1 (.int .i64 x.i); have p2 := P6.cell 2 (.int .i64 x.l); have p3 := P6.cell 3 (.func (.func 32) #[] #[]); have r4 := J6.s.bR.cell 4 (.slice v.p5 v.q5 v.r5); have r5 := J6.s.bR.cell 5 (.slice v.p6 v.q6 v.r6); have HJ6 := Lib.hid J6; have HP6 := Lib.hid P6; have HK6 := Lib.hid (below_drew2 (c := g) (D := W4.heap.size) hb6); clear hb6 J6 P6)
            go_wp2_with fail
            refine hK.out _ _ (by (first | (go_keep; done) | (dsimp only; go_keep))) (fun hHeld => ?_)
            clear hK K
            try simp only [Act.put, List.setIfInBounds_toArray, List.set_cons_zero, List.set_cons_succ]
            refine wpAnyH_take (i := 11) (v := ?_) (ata (atS (atS (atS (atS (atS (atS (atS (atS (atS (atS (atS at0)))))))))))) (by kernel_rfl) (by kernel_rfl) (by kernel_rfl) (fun _ _ _ h => h) (Or.inl ⟨by rfl, ?_⟩) (by assumption) ?_
            rotate_left
            · (intro w hSw; (try dsimp only at hSw); go_simp; (first | done | with_reducible rfl))
            try simp only [Act.put, List.setIfInBounds_toArray, List.set_cons_zero, List.set_cons_succ]
            refine wpAnyH_take (i := 12) (v := ?_) (ata (atS (atS (atS (atS (atS (atS (atS (atS (atS (atS (atS (atS at0))))))))))))) (by kernel_rfl) (by kernel_rfl) (by kernel_rfl) (fun _ _ _ h => h) (Or.inl ⟨by rfl, ?_⟩) (by assumption) ?_
            rotate_left
            · (intro w hSw; (try dsimp only at hSw); go_simp; (first | done | with_reducible rfl))
            try simp only [Act.put, List.setIfInBounds_toArray, List.set_cons_zero, List.set_cons_succ]
            refine wpAnyH_take (i := 13) (v := ?_) (ata (atS (atS (atS (atS (atS (atS (atS (atS (atS (atS (atS (atS (atS at0)))))))))))))) (by kernel_rfl) (by kernel_rfl) (by kernel_rfl) (fun _ _ _ h => h) (Or.inl ⟨by rfl, ?_⟩) (by assumption) ?_
            rotate_left
            · (intro w hSw; (try dsimp only at hSw); go_simp; (first | done | with_reducible rfl))
            try simp only [Act.put, List.setIfInBounds_toArray, List.set_cons_zero, List.set_cons_succ]
            refine wpAnyH_take (i := 14) (v := ?_) (ata (atS (atS (atS (atS (atS (atS (atS (atS (atS (atS (atS (atS (atS (atS at0))))))))))))))) (by kernel_rfl) (by kernel_rfl) (by kernel_rfl) (fun _ _ _ h => h) (Or.inl ⟨by rfl, ?_⟩) (by assumption) ?_
            rotate_left
            · (intro w hSw; (try dsimp only at hSw); go_simp; (first | done | with_reducible rfl))
            try simp only [Act.put, List.setIfInBounds_toArray, List.set_cons_zero, List.set_cons_succ]
            refine wpAnyH_take (i := 15) (v := ?_) (ata (atS (atS (atS (atS (atS (atS (atS (atS (atS (atS (atS (atS (atS (atS (atS at0)))))))))))))))) (by kernel_rfl) (by kernel_rfl) (by kernel_rfl) (fun _ _ _ h => h) (Or.inl ⟨by rfl, ?_⟩) (by assumption) ?_
            rotate_left
            · (intro w hSw; (try dsimp only at hSw); go_simp; (first | done | with_reducible rfl))
            try simp only [Act.put, List.setIfInBounds_toArray, List.set_cons_zero, List.set_cons_succ]
            refine wpAnyH_done (by kernel_rfl) ?_ _
            obtain ⟨hb7, ha1, ha2⟩ := chn_bd HX.out.1 HX.out.2.2.1 HNX.out.1 HTZ.out.2 1 (by omega) (chn0 HC.out hfst.out)
            have HA := Lib.hid (And.intro hb7 (And.intro ha1 ha2))
            have hwa := IntWalk.i64_in (a + x.i) (by omega)
            have hpg : g ≠ wr.heap.size := by omega
            have hpg' : wr.heap.size ≠ g := by omega
            have g0 := HJ6.out.bL.cell 0 (.int .i64 z'.s)
            have gf := HJ6.out.bL.free 0
            have HAd := Lib.hid hb7
            clear hb7
            gi_wp2_with fail
            refine held_round (S := (fun W => W.cell? ⟨wr.heap.size, 1, none⟩ = some (.int .i64 x.i))) (by kernel_rfl) (by kernel_rfl) (fun ⟨_, _, h⟩ => h) (by (first | (go_keep; done) | (dsimp only; go_keep))) (fun hHeld => ?_)
            refine wpAnyH_take (i := 0) (v := ?_) (ata at0) (by kernel_rfl) (by kernel_rfl) (by kernel_rfl) (fun _ _ _ h => h) (Or.inl ⟨by rfl, ?_⟩) (by assumption) ?_
            rotate_left
            · (intro w hSw; (try dsimp only at hSw); go_simp; (first | done | with_reducible rfl))
            try simp only [Act.put, List.setIfInBounds_toArray, List.set_cons_zero, List.set_cons_succ]
            refine wpAnyH_take (i := 1) (v := ?_) (ata (atS at0)) (by kernel_rfl) (by kernel_rfl) (by kernel_rfl) (fun _ _ _ h => h) (Or.inl ⟨by rfl, ?_⟩) (by assumption) ?_
            rotate_left
            · (intro w hSw; (try dsimp only at hSw); go_simp; (first | done | with_reducible rfl))
            try simp only [Act.put, List.setIfInBounds_toArray, List.set_cons_zero, List.set_cons_succ]
            refine wpAnyH_take (i := 2) (v := ?_) (ata (atS (atS at0))) (by kernel_rfl) (by kernel_rfl) (by kernel_rfl) (fun _ _ _ h => h) (Or.inl ⟨by rfl, ?_⟩) (by assumption) ?_
            rotate_left
            · (intro w hSw; (try dsimp only at hSw); go_simp; (first | done | with_reducible rfl))
            try simp only [Act.put, List.setIfInBounds_toArray, List.set_cons_zero, List.set_cons_succ]
            refine wpAnyH_take (i := 3) (v := ?_) (ata (atS (atS (atS at0)))) (by kernel_rfl) (by kernel_rfl) (by kernel_rfl) (fun _ _ _ h => h) (Or.inl ⟨by rfl, ?_⟩) (by assumption) ?_
            rotate_left
            · (intro w hSw; (try dsimp only at hSw); go_simp; (first | done | with_reducible rfl))
            try simp only [Act.put, List.setIfInBounds_toArray, List.set_cons_zero, List.set_cons_succ]
            refine wpAnyH_take (i := 4) (v := ?_) (ata (atS (atS (atS (atS at0))))) (by kernel_rfl) (by kernel_rfl) (by kernel_rfl) (fun _ _ _ h => h) (Or.inl ⟨by rfl, ?_⟩) (by assumption) ?_
            rotate_left
            · (intro w hSw; (try dsimp only at hSw); go_simp; (first | done | with_reducible rfl))
            try simp only [Act.put, List.setIfInBounds_toArray, List.set_cons_zero, List.set_cons_succ]
            refine wpAnyH_take (i := 5) (v := ?_) (ata (atS (atS (atS (atS (atS at0)))))) (by kernel_rfl) (by kernel_rfl) (by kernel_rfl) (fun _ _ _ h => h) (Or.inl ⟨by rfl, ?_⟩) (by assumption) ?_
            rotate_left
            · (intro w hSw; (try dsimp only at hSw); go_simp; (first | done | with_reducible rfl))
            try simp only [Act.put, List.setIfInBounds_toArray, List.set_cons_zero, List.set_cons_succ]
            refine wpAnyH_take (i := 6) (v := ?_) (ata (atS (atS (atS (atS (atS (atS at0))))))) (by kernel_rfl) (by kernel_rfl) (by kernel_rfl) (fun _ _ _ h => h) (Or.inl ⟨by rfl, ?_⟩) (by assumption) ?_
            rotate_left
            · (intro w hSw; (try dsimp only at hSw); go_simp; (first | done | with_reducible rfl))
            try simp only [Act.put, List.setIfInBounds_toArray, List.set_cons_zero, List.set_cons_succ]
            refine wpAnyH_take (i := 7) (v := ?_) (ata (atS (atS (atS (atS (atS (atS (atS at0)))))))) (by kernel_rfl) (by kernel_rfl) (by kernel_rfl) (fun _ _ _ h => h) (Or.inl ⟨by rfl, ?_⟩) (by assumption) ?_
            rotate_left
            · (intro w hSw; (try dsimp only at hSw); go_simp; (first | done | with_reducible rfl))
            try simp only [Act.put, List.setIfInBounds_toArray, List.set_cons_zero, List.set_cons_succ]
            refine wpAnyH_ready (rs := [8]) (by kernel_rfl) (by simp) ?_
            refine AllReadyH.cons (ata (atS (atS (atS (atS (atS (atS (atS (atS at0))))))))) (fun K hK => ?_) AllReadyH.nil
            go_simp
            refine hK.out _ _ (by exact (World.cell?_setCell_far _ _ _ _ hpg).trans (by assumption)) (fun hHeld => ?_)
            clear hK K
            try simp only [Act.put, List.setIfInBounds_toArray, List.set_cons_zero, List.set_cons_succ]
            refine wpAnyH_take (i := 9) (v := ?_) (ata (atS (atS (atS (atS (atS (atS (atS (atS (atS at0)))))))))) (by kernel_rfl) (by kernel_rfl) (by kernel_rfl) (fun _ _ _ h => h) (Or.inl ⟨by rfl, ?_⟩) (by assumption) ?_
            rotate_left
            · (intro w hSw; (try dsimp only at hSw); go_simp; (first | done | with_reducible rfl))
            try simp only [Act.put, List.setIfInBounds_toArray, List.set_cons_zero, List.set_cons_succ]
            refine wpAnyH_done (by kernel_rfl) ?_ _
            gi_wp2
            go_roundw
            case rel => exact ⟨1, _, _, by omega, by go_num, rfl, SJ.drew (SJ.setL (z' := ⟨a, z'.c, z'.o⟩) HJ6.out (by have := HG.out.1; omega) (by have := HG.out.2; omega) 0 (.int .i64 a) rfl), chn0 HC.out hfst.out, ((HKr.out.1.trans (KpC.of_below HB5.out)).trans HK6.out.1).trans ((KpC.set w6 0 _).trans (KpC.drew _)), ((HKr.out.2.trans (KeepsFrom.of_below HB5.out)).trans HK6.out.2).trans (((KeepsOthers.setCell w6 _ _).trans (KeepsOthers.drew _)).from _)⟩
            case measure => simp [intOf]
        | 1, _ =>
          have l0 := HJr.out.bL.cell 4 (.int .i64 z'.c)
          have l1 := HJr.out.bL.cell 5 (.int .i64 x.w)
          have l2 := HJr.out.bL.cell 6 (.int .i64 x.n)
          have l3 := HJr.out.bL.cell 7 (.func (.func 33) #[] #[])
          have lg := HJr.out.bL.lt
          have bP := BoxA.new wr 57 #[.int .i64 z'.c, .int .i64 x.w, .int .i64 x.n, .func (.func 33) #[] #[]]
          have hb5 : Below wr.heap.size wr (wr.alloc (.cells #[.int .i64 z'.c, .int .i64 x.w, .int .i64 x.n, .func (.func 33) #[] #[]] 57)) := (Below.refl _ _).alloc (Nat.le_refl _) _
          obtain ⟨W5, hW5⟩ : ∃ W5, wr.alloc (.cells #[.int .i64 z'.c, .int .i64 x.w, .int .i64 x.n, .func (.func 33) #[] #[]] 57) = W5 := ⟨_, rfl⟩
          have hJ5 := HJr.out.next hb5
          rw [hW5] at bP hb5 hJ5
          have HP5 := Lib.hid bP
          have HJ5 := Lib.hid hJ5
          have HB5 := Lib.hid hb5
          have HF := Lib.hid (first_any (L := r.n) (f := nxt) (long := x.w) (n := x.n) (w := W5.drew) (v := .agg #[.slice v.p1 v.q1 v.r1, .slice v.p2 v.q2 v.r2]) (by have h := (RoomI.below HX.out.2.2.2.2 hJ5.s.hB).n; rw [HX.out.2.1.an, HX.out.2.1.nn] at h; exact h.below (Below.refl _ W5).drew (Nat.le_refl _)) HX.out.1.n hn0 (by omega))
          clear bP hb5 hJ5
          gi_wp2_with fail
          clear hW5
          have P5 := HP5.out
          have p1 := P5.cell 1 (.int .i64 x.w); have p2 := P5.cell 2 (.int .i64 x.n); have p3 := P5.cell 3 (.func (.func 33) #[] #[]); have r0 := HJ5.out.s.bR.cell 0 (.slice v.p1 v.q1 v.r1); have r1 := HJ5.out.s.bR.cell 1 (.slice v.p2 v.q2 v.r2)
          clear P5 l0 l1 l2 l3
          cases hfst : fst? r.n nxt x.w x.n with
          | none =>
            have hfst := Lib.hid hfst
            refine held_round (S := (fun W => W.cell? ⟨wr.heap.size, 1, none⟩ = some (.int .i64 x.w) ∧ W.cell? ⟨wr.heap.size, 2, none⟩ = some (.int .i64 x.n) ∧ W.cell? ⟨wr.heap.size, 3, none⟩ = some (.func (.func 33) #[] #[]) ∧ W.cell? ⟨w.heap.size, 0, none⟩ = some (.slice v.p1 v.q1 v.r1) ∧ W.cell? ⟨w.heap.size, 1, none⟩ = some (.slice v.p2 v.q2 v.r2))) (by kernel_rfl) (by kernel_rfl) (fun ⟨_, _, h⟩ => h) (by (first | (go_keep; done) | (dsimp only; go_keep))) (fun hHeld => ?_)
            refine wpAnyH_take (i := 0) (v := ?_) (ata at0) (by kernel_rfl) (by kernel_rfl) (by kernel_rfl) (fun _ _ _ h => h) (Or.inl ⟨by rfl, ?_⟩) (by assumption) ?_
            rotate_left
            · (intro w hSw; (try dsimp only at hSw); go_simp; (first | done | with_reducible rfl))
            try simp only [Act.put, List.setIfInBounds_toArray, List.set_cons_zero, List.set_cons_succ]
            refine wpAnyH_take (i := 1) (v := ?_) (ata (atS at0)) (by kernel_rfl) (by kernel_rfl) (by kernel_rfl) (fun _ _ _ h => h) (Or.inl ⟨by rfl, ?_⟩) (by assumption) ?_
            rotate_left
            · (intro w hSw; (try dsimp only at hSw); go_simp; (first | done | with_reducible rfl))
            try simp only [Act.put, List.setIfInBounds_toArray, List.set_cons_zero, List.set_cons_succ]
            refine wpAnyH_take (i := 5) (v := ?_) (ata (atS (atS (atS (atS (atS at0)))))) (by kernel_rfl) (by kernel_rfl) (by kernel_rfl) (fun _ _ _ h => h) (Or.inl ⟨by rfl, ?_⟩) (by assumption) ?_
            rotate_left
            · (intro w hSw; (try dsimp only at hSw); go_simp; (first | done | with_reducible rfl))
            try simp only [Act.put, List.setIfInBounds_toArray, List.set_cons_zero, List.set_cons_succ]
            refine wpAnyH_take (i := 6) (v := ?_) (ata (atS (atS (atS (atS (atS (atS at0))))))) (by kernel_rfl) (by kernel_rfl) (by kernel_rfl) (fun _ _ _ h => h) (Or.inl ⟨by rfl, ?_⟩) (by assumption) ?_
            rotate_left
            · (intro w hSw; (try dsimp only at hSw); go_simp; (first | done | with_reducible rfl))
            try simp only [Act.put, List.setIfInBounds_toArray, List.set_cons_zero, List.set_cons_succ]
            refine wpAnyH_take (i := 7) (v := ?_) (ata (atS (atS (atS (atS (atS (atS (atS at0)))))))) (by kernel_rfl) (by kernel_rfl) (by kernel_rfl) (fun _ _ _ h => h) (Or.inl ⟨by rfl, ?_⟩) (by assumption) ?_
            rotate_left
            · (intro w hSw; (try dsimp only at hSw); go_simp; (first | done | with_reducible rfl))
            try simp only [Act.put, List.setIfInBounds_toArray, List.set_cons_zero, List.set_cons_succ]
            refine wpAnyH_take (i := 8) (v := ?_) (ata (atS (atS (atS (atS (atS (atS (atS (atS at0))))))))) (by kernel_rfl) (by kernel_rfl) (by kernel_rfl) (fun _ _ _ h => h) (Or.inl ⟨by rfl, ?_⟩) (by assumption) ?_
            rotate_left
            · (intro w hSw; (try dsimp only at hSw); go_simp; (first | done | with_reducible rfl))
            try simp only [Act.put, List.setIfInBounds_toArray, List.set_cons_zero, List.set_cons_succ]
            refine wpAnyH_take (i := 9) (v := ?_) (ata (atS (atS (atS (atS (atS (atS (atS (atS (atS at0)))))))))) (by kernel_rfl) (by kernel_rfl) (by kernel_rfl) (fun _ _ _ h => h) (Or.inl ⟨by rfl, ?_⟩) (by assumption) ?_
            rotate_left
            · (intro w hSw; (try dsimp only at hSw); go_simp; (first | done | with_reducible rfl))
            try simp only [Act.put, List.setIfInBounds_toArray, List.set_cons_zero, List.set_cons_succ]
            refine wpAnyH_ready (rs := [2]) (by kernel_rfl) (by simp) ?_
            refine AllReadyH.cons (ata (atS (atS at0))) (fun K hK => ?_) AllReadyH.nil
            go_simp
            (go_at_call 33; refine (nodes_any _ _).mono ?_; rintro e w5 ⟨rfl, rfl⟩)
            go_wp2_with fail
            refine hK.out _ _ (by (first | (go_keep; done) | (dsimp only; go_keep))) (fun hHeld => ?_)
            clear hK K
            try simp only [Act.put, List.setIfInBounds_toArray, List.set_cons_zero, List.set_cons_succ]
            refine wpAnyH_take (i := 3) (v := ?_) (ata (atS (atS (atS at0)))) (by kernel_rfl) (by kernel_rfl) (by kernel_rfl) (fun _ _ _ h => h) (Or.inl ⟨by rfl, ?_⟩) (by assumption) ?_
            rotate_left
            · (intro w hSw; (try dsimp only at hSw); go_simp; (first | done | with_reducible rfl))
            try simp only [Act.put, List.setIfInBounds_toArray, List.set_cons_zero, List.set_cons_succ]
            refine wpAnyH_take (i := 4) (v := ?_) (ata (atS (atS (atS (atS at0))))) (by kernel_rfl) (by kernel_rfl) (by kernel_rfl) (fun _ _ _ h => h) (Or.inl ⟨by rfl, ?_⟩) (by assumption) ?_
            rotate_left
            · (intro w hSw; (try dsimp only at hSw); go_simp; (first | done | with_reducible rfl))
            try simp only [Act.put, List.setIfInBounds_toArray, List.set_cons_zero, List.set_cons_succ]
            refine wpAnyH_ready (rs := [10]) (by kernel_rfl) (by simp) ?_
            refine AllReadyH.cons (ata (atS (atS (atS (atS (atS (atS (atS (atS (atS (atS at0))))))))))) (fun K hK => ?_) AllReadyH.nil
            go_simp
            (go_at_call 21; refine HF.out.mono ?_; rintro e w6 ⟨rfl, hb6⟩; rw [hfst.out]; dsimp only [fitV]; have J6 := HJ5.out.drew.next hb6; have P6 := (BoxA.next hb6 (show BoxA W5.drew wr.heap.size 57 #[.int .i64 z'.c, .int .i64 x.w, .int .i64 x.n, .func (.func 33) #[] #[]] from HP5.out)); have p1 := P6.cell 1 (.int .i64 x.w); have p2 := P6.cell 2 (.int .i64 x.n); have p3 := P6.cell 3 (.func (.func 33) #[] #[]); have r0 := J6.s.bR.cell 0 (.slice v.p1 v.q1 v.r1); have r1 := J6.s.bR.cell 1 (.slice v.p2 v.q2 v.r2); have HJ6 := Lib.hid J6; have HP6 := Lib.hid P6; have HK6 := Lib.hid (below_drew2 (c := g) (D := W4.heap.size) hb6); clear hb6 J6 P6)
            go_wp2_with fail
            refine hK.out _ _ (by (first | (go_keep; done) | (dsimp only; go_keep))) (fun hHeld => ?_)
            clear hK K
            try simp only [Act.put, List.setIfInBounds_toArray, List.set_cons_zero, List.set_cons_succ]
            refine wpAnyH_take (i := 11) (v := ?_) (ata (atS (atS (atS (atS (atS (atS (atS (atS (atS (atS (atS at0)))))))))))) (by kernel_rfl) (by kernel_rfl) (by kernel_rfl) (fun _ _ _ h => h) (Or.inl ⟨by rfl, ?_⟩) (by assumption) ?_
            rotate_left
            · (intro w hSw; (try dsimp only at hSw); go_simp; (first | done | with_reducible rfl))
            try simp only [Act.put, List.setIfInBounds_toArray, List.set_cons_zero, List.set_cons_succ]
            refine wpAnyH_take (i := 12) (v := ?_) (ata (atS (atS (atS (atS (atS (atS (atS (atS (atS (atS (atS (atS at0))))))))))))) (by kernel_rfl) (by kernel_rfl) (by kernel_rfl) (fun _ _ _ h => h) (Or.inl ⟨by rfl, ?_⟩) (by assumption) ?_
            rotate_left
            · (intro w hSw; (try dsimp only at hSw); go_simp; (first | done | with_reducible rfl))
            try simp only [Act.put, List.setIfInBounds_toArray, List.set_cons_zero, List.set_cons_succ]
            refine wpAnyH_take (i := 13) (v := ?_) (ata (atS (atS (atS (atS (atS (atS (atS (atS (atS (atS (atS (atS (atS at0)))))))))))))) (by kernel_rfl) (by kernel_rfl) (by kernel_rfl) (fun _ _ _ h => h) (Or.inl ⟨by rfl, ?_⟩) (by assumption) ?_
            rotate_left
            · (intro w hSw; (try dsimp only at hSw); go_simp; (first | done | with_reducible rfl))
            try simp only [Act.put, List.setIfInBounds_toArray, List.set_cons_zero, List.set_cons_succ]
            refine wpAnyH_take (i := 14) (v := ?_) (ata (atS (atS (atS (atS (atS (atS (atS (atS (atS (atS (atS (atS (atS (atS at0))))))))))))))) (by kernel_rfl) (by kernel_rfl) (by kernel_rfl) (fun _ _ _ h => h) (Or.inl ⟨by rfl, ?_⟩) (by assumption) ?_
            rotate_left
            · (intro w hSw; (try dsimp only at hSw); go_simp; (first | done | with_reducible rfl))
            try simp only [Act.put, List.setIfInBounds_toArray, List.set_cons_zero, List.set_cons_succ]
            refine wpAnyH_take (i := 15) (v := ?_) (ata (atS (atS (atS (atS (atS (atS (atS (atS (atS (atS (atS (atS (atS (atS (atS at0)))))))))))))))) (by kernel_rfl) (by kernel_rfl) (by kernel_rfl) (fun _ _ _ h => h) (Or.inl ⟨by rfl, ?_⟩) (by assumption) ?_
            rotate_left
            · (intro w hSw; (try dsimp only at hSw); go_simp; (first | done | with_reducible rfl))
            try simp only [Act.put, List.setIfInBounds_toArray, List.set_cons_zero, List.set_cons_succ]
            refine wpAnyH_done (by kernel_rfl) ?_ _
            gi_wp2
            exact ⟨(HKr.out.2.trans (KeepsFrom.of_below HB5.out)).trans HK6.out.2, HJ6.out.s.bE, HJ6.out.s.hB, .inr ⟨rfl, thr_none (y := ⟨(ya, yb), HY.out⟩) HTZ.out.1 (Int.not_lt.2 HLT.out) (by show chain r x (max ya z.s) = none; rw [HNX.out.2]; exact chn1n HC.out hfst.out), HJ6.out.s.bA⟩⟩
          | some a =>
            have hfst := Lib.hid hfst
            refine held_round (S := (fun W => W.cell? ⟨wr.heap.size, 1, none⟩ = some (.int .i64 x.w) ∧ W.cell? ⟨wr.heap.size, 2, none⟩ = some (.int .i64 x.n) ∧ W.cell? ⟨wr.heap.size, 3, none⟩ = some (.func (.func 33) #[] #[]) ∧ W.cell? ⟨w.heap.size, 0, none⟩ = some (.slice v.p1 v.q1 v.r1) ∧ W.cell? ⟨w.heap.size, 1, none⟩ = some (.slice v.p2 v.q2 v.r2))) (by kernel_rfl) (by kernel_rfl) (fun ⟨_, _, h⟩ => h) (by (first | (go_keep; done) | (dsimp only; go_keep))) (fun hHeld => ?_)
            refine wpAnyH_take (i := 0) (v := ?_) (ata at0) (by kernel_rfl) (by kernel_rfl) (by kernel_rfl) (fun _ _ _ h => h) (Or.inl ⟨by rfl, ?_⟩) (by assumption) ?_
            rotate_left
            · (intro w hSw; (try dsimp only at hSw); go_simp; (first | done | with_reducible rfl))
            try simp only [Act.put, List.setIfInBounds_toArray, List.set_cons_zero, List.set_cons_succ]
            refine wpAnyH_take (i := 1) (v := ?_) (ata (atS at0)) (by kernel_rfl) (by kernel_rfl) (by kernel_rfl) (fun _ _ _ h => h) (Or.inl ⟨by rfl, ?_⟩) (by assumption) ?_
            rotate_left
            · (intro w hSw; (try dsimp only at hSw); go_simp; (first | done | with_reducible rfl))
            try simp only [Act.put, List.setIfInBounds_toArray, List.set_cons_zero, List.set_cons_succ]
            refine wpAnyH_take (i := 5) (v := ?_) (ata (atS (atS (atS (atS (atS at0)))))) (by kernel_rfl) (by kernel_rfl) (by kernel_rfl) (fun _ _ _ h => h) (Or.inl ⟨by rfl, ?_⟩) (by assumption) ?_
            rotate_left
            · (intro w hSw; (try dsimp only at hSw); go_simp; (first | done | with_reducible rfl))
            try simp only [Act.put, List.setIfInBounds_toArray, List.set_cons_zero, List.set_cons_succ]
            refine wpAnyH_take (i := 6) (v := ?_) (ata (atS (atS (atS (atS (atS (atS at0))))))) (by kernel_rfl) (by kernel_rfl) (by kernel_rfl) (fun _ _ _ h => h) (Or.inl ⟨by rfl, ?_⟩) (by assumption) ?_
            rotate_left
            · (intro w hSw; (try dsimp only at hSw); go_simp; (first | done | with_reducible rfl))
            try simp only [Act.put, List.setIfInBounds_toArray, List.set_cons_zero, List.set_cons_succ]
            refine wpAnyH_take (i := 7) (v := ?_) (ata (atS (atS (atS (atS (atS (atS (atS at0)))))))) (by kernel_rfl) (by kernel_rfl) (by kernel_rfl) (fun _ _ _ h => h) (Or.inl ⟨by rfl, ?_⟩) (by assumption) ?_
            rotate_left
            · (intro w hSw; (try dsimp only at hSw); go_simp; (first | done | with_reducible rfl))
            try simp only [Act.put, List.setIfInBounds_toArray, List.set_cons_zero, List.set_cons_succ]
            refine wpAnyH_take (i := 8) (v := ?_) (ata (atS (atS (atS (atS (atS (atS (atS (atS at0))))))))) (by kernel_rfl) (by kernel_rfl) (by kernel_rfl) (fun _ _ _ h => h) (Or.inl ⟨by rfl, ?_⟩) (by assumption) ?_
            rotate_left
            · (intro w hSw; (try dsimp only at hSw); go_simp; (first | done | with_reducible rfl))
            try simp only [Act.put, List.setIfInBounds_toArray, List.set_cons_zero, List.set_cons_succ]
            refine wpAnyH_take (i := 9) (v := ?_) (ata (atS (atS (atS (atS (atS (atS (atS (atS (atS at0)))))))))) (by kernel_rfl) (by kernel_rfl) (by kernel_rfl) (fun _ _ _ h => h) (Or.inl ⟨by rfl, ?_⟩) (by assumption) ?_
            rotate_left
            · (intro w hSw; (try dsimp only at hSw); go_simp; (first | done | with_reducible rfl))
            try simp only [Act.put, List.setIfInBounds_toArray, List.set_cons_zero, List.set_cons_succ]
            refine wpAnyH_ready (rs := [2]) (by kernel_rfl) (by simp) ?_
            refine AllReadyH.cons (ata (atS (atS at0))) (fun K hK => ?_) AllReadyH.nil
            go_simp
            (go_at_call 33; refine (nodes_any _ _).mono ?_; rintro e w5 ⟨rfl, rfl⟩)
            go_wp2_with fail
            refine hK.out _ _ (by (first | (go_keep; done) | (dsimp only; go_keep))) (fun hHeld => ?_)
            clear hK K
            try simp only [Act.put, List.setIfInBounds_toArray, List.set_cons_zero, List.set_cons_succ]
            refine wpAnyH_take (i := 3) (v := ?_) (ata (atS (atS (atS at0)))) (by kernel_rfl) (by kernel_rfl) (by kernel_rfl) (fun _ _ _ h => h) (Or.inl ⟨by rfl, ?_⟩) (by assumption) ?_
            rotate_left
            · (intro w hSw; (try dsimp only at hSw); go_simp; (first | done | with_reducible rfl))
            try simp only [Act.put, List.setIfInBounds_toArray, List.set_cons_zero, List.set_cons_succ]
            refine wpAnyH_take (i := 4) (v := ?_) (ata (atS (atS (atS (atS at0))))) (by kernel_rfl) (by kernel_rfl) (by kernel_rfl) (fun _ _ _ h => h) (Or.inl ⟨by rfl, ?_⟩) (by assumption) ?_
            rotate_left
            · (intro w hSw; (try dsimp only at hSw); go_simp; (first | done | with_reducible rfl))
            try simp only [Act.put, List.setIfInBounds_toArray, List.set_cons_zero, List.set_cons_succ]
            refine wpAnyH_ready (rs := [10]) (by kernel_rfl) (by simp) ?_
            refine AllReadyH.cons (ata (atS (atS (atS (atS (atS (atS (atS (atS (atS (atS at0))))))))))) (fun K hK => ?_) AllReadyH.nil
            go_simp
            (go_at_call 21; refine HF.out.mono ?_; rintro e w6 ⟨rfl, hb6⟩; rw [hfst.out]; dsimp only [fitV]; have J6 := HJ5.out.drew.next hb6; have P6 := (BoxA.next hb6 (show BoxA W5.drew wr.heap.size 57 #[.int .i64 z'.c, .int .i64 x.w, .int .i64 x.n, .func (.func 33) #[] #[]] from HP5.out)); have p1 := P6.cell 1 (.int .i64 x.w); have p2 := P6.cell 2 (.int .i64 x.n); have p3 := P6.cell 3 (.func (.func 33) #[] #[]); have r0 := J6.s.bR.cell 0 (.slice v.p1 v.q1 v.r1); have r1 := J6.s.bR.cell 1 (.slice v.p2 v.q2 v.r2); have HJ6 := Lib.hid J6; have HP6 := Lib.hid P6; have HK6 := Lib.hid (below_drew2 (c := g) (D := W4.heap.size) hb6); clear hb6 J6 P6)
            go_wp2_with fail
            refine hK.out _ _ (by (first | (go_keep; done) | (dsimp only; go_keep))) (fun hHeld => ?_)
            clear hK K
            try simp only [Act.put, List.setIfInBounds_toArray, List.set_cons_zero, List.set_cons_succ]
            refine wpAnyH_take (i := 11) (v := ?_) (ata (atS (atS (atS (atS (atS (atS (atS (atS (atS (atS (atS at0)))))))))))) (by kernel_rfl) (by kernel_rfl) (by kernel_rfl) (fun _ _ _ h => h) (Or.inl ⟨by rfl, ?_⟩) (by assumption) ?_
            rotate_left
            · (intro w hSw; (try dsimp only at hSw); go_simp; (first | done | with_reducible rfl))
            try simp only [Act.put, List.setIfInBounds_toArray, List.set_cons_zero, List.set_cons_succ]
            refine wpAnyH_take (i := 12) (v := ?_) (ata (atS (atS (atS (atS (atS (atS (atS (atS (atS (atS (atS (atS at0))))))))))))) (by kernel_rfl) (by kernel_rfl) (by kernel_rfl) (fun _ _ _ h => h) (Or.inl ⟨by rfl, ?_⟩) (by assumption) ?_
            rotate_left
            · (intro w hSw; (try dsimp only at hSw); go_simp; (first | done | with_reducible rfl))
            try simp only [Act.put, List.setIfInBounds_toArray, List.set_cons_zero, List.set_cons_succ]
            refine wpAnyH_take (i := 13) (v := ?_) (ata (atS (atS (atS (atS (atS (atS (atS (atS (atS (atS (atS (atS (atS at0)))))))))))))) (by kernel_rfl) (by kernel_rfl) (by kernel_rfl) (fun _ _ _ h => h) (Or.inl ⟨by rfl, ?_⟩) (by assumption) ?_
            rotate_left
            · (intro w hSw; (try dsimp only at hSw); go_simp; (first | done | with_reducible rfl))
            try simp only [Act.put, List.setIfInBounds_toArray, List.set_cons_zero, List.set_cons_succ]
            refine wpAnyH_take (i := 14) (v := ?_) (ata (atS (atS (atS (atS (atS (atS (atS (atS (atS (atS (atS (atS (atS (atS at0))))))))))))))) (by kernel_rfl) (by kernel_rfl) (by kernel_rfl) (fun _ _ _ h => h) (Or.inl ⟨by rfl, ?_⟩) (by assumption) ?_
            rotate_left
            · (intro w hSw; (try dsimp only at hSw); go_simp; (first | done | with_reducible rfl))
            try simp only [Act.put, List.setIfInBounds_toArray, List.set_cons_zero, List.set_cons_succ]
            refine wpAnyH_take (i := 15) (v := ?_) (ata (atS (atS (atS (atS (atS (atS (atS (atS (atS (atS (atS (atS (atS (atS (atS at0)))))))))))))))) (by kernel_rfl) (by kernel_rfl) (by kernel_rfl) (fun _ _ _ h => h) (Or.inl ⟨by rfl, ?_⟩) (by assumption) ?_
            rotate_left
            · (intro w hSw; (try dsimp only at hSw); go_simp; (first | done | with_reducible rfl))
            try simp only [Act.put, List.setIfInBounds_toArray, List.set_cons_zero, List.set_cons_succ]
            refine wpAnyH_done (by kernel_rfl) ?_ _
            obtain ⟨hb7, ha1, ha2⟩ := chn_bd HX.out.1 HX.out.2.2.1 HNX.out.1 HTZ.out.2 2 (by omega) (chn1 HC.out hfst.out)
            have HA := Lib.hid (And.intro hb7 (And.intro ha1 ha2))
            have hwa := IntWalk.i64_in (a + x.w) (by omega)
            have hpg : g ≠ wr.heap.size := by omega
            have hpg' : wr.heap.size ≠ g := by omega
            have g0 := HJ6.out.bL.cell 4 (.int .i64 z'.c)
            have gf := HJ6.out.bL.free 4
            have HAd := Lib.hid hb7
            clear hb7
            gi_wp2_with fail
            refine held_round (S := (fun W => W.cell? ⟨wr.heap.size, 1, none⟩ = some (.int .i64 x.w))) (by kernel_rfl) (by kernel_rfl) (fun ⟨_, _, h⟩ => h) (by (first | (go_keep; done) | (dsimp only; go_keep))) (fun hHeld => ?_)
            refine wpAnyH_take (i := 0) (v := ?_) (ata at0) (by kernel_rfl) (by kernel_rfl) (by kernel_rfl) (fun _ _ _ h => h) (Or.inl ⟨by rfl, ?_⟩) (by assumption) ?_
            rotate_left
            · (intro w hSw; (try dsimp only at hSw); go_simp; (first | done | with_reducible rfl))
            try simp only [Act.put, List.setIfInBounds_toArray, List.set_cons_zero, List.set_cons_succ]
            refine wpAnyH_take (i := 1) (v := ?_) (ata (atS at0)) (by kernel_rfl) (by kernel_rfl) (by kernel_rfl) (fun _ _ _ h => h) (Or.inl ⟨by rfl, ?_⟩) (by assumption) ?_
            rotate_left
            · (intro w hSw; (try dsimp only at hSw); go_simp; (first | done | with_reducible rfl))
            try simp only [Act.put, List.setIfInBounds_toArray, List.set_cons_zero, List.set_cons_succ]
            refine wpAnyH_take (i := 2) (v := ?_) (ata (atS (atS at0))) (by kernel_rfl) (by kernel_rfl) (by kernel_rfl) (fun _ _ _ h => h) (Or.inl ⟨by rfl, ?_⟩) (by assumption) ?_
            rotate_left
            · (intro w hSw; (try dsimp only at hSw); go_simp; (first | done | with_reducible rfl))
            try simp only [Act.put, List.setIfInBounds_toArray, List.set_cons_zero, List.set_cons_succ]
            refine wpAnyH_take (i := 3) (v := ?_) (ata (atS (atS (atS at0)))) (by kernel_rfl) (by kernel_rfl) (by kernel_rfl) (fun _ _ _ h => h) (Or.inl ⟨by rfl, ?_⟩) (by assumption) ?_
            rotate_left
            · (intro w hSw; (try dsimp only at hSw); go_simp; (first | done | with_reducible rfl))
            try simp only [Act.put, List.setIfInBounds_toArray, List.set_cons_zero, List.set_cons_succ]
            refine wpAnyH_take (i := 4) (v := ?_) (ata (atS (atS (atS (atS at0))))) (by kernel_rfl) (by kernel_rfl) (by kernel_rfl) (fun _ _ _ h => h) (Or.inl ⟨by rfl, ?_⟩) (by assumption) ?_
            rotate_left
            · (intro w hSw; (try dsimp only at hSw); go_simp; (first | done | with_reducible rfl))
            try simp only [Act.put, List.setIfInBounds_toArray, List.set_cons_zero, List.set_cons_succ]
            refine wpAnyH_take (i := 5) (v := ?_) (ata (atS (atS (atS (atS (atS at0)))))) (by kernel_rfl) (by kernel_rfl) (by kernel_rfl) (fun _ _ _ h => h) (Or.inl ⟨by rfl, ?_⟩) (by assumption) ?_
            rotate_left
            · (intro w hSw; (try dsimp only at hSw); go_simp; (first | done | with_reducible rfl))
            try simp only [Act.put, List.setIfInBounds_toArray, List.set_cons_zero, List.set_cons_succ]
            refine wpAnyH_take (i := 6) (v := ?_) (ata (atS (atS (atS (atS (atS (atS at0))))))) (by kernel_rfl) (by kernel_rfl) (by kernel_rfl) (fun _ _ _ h => h) (Or.inl ⟨by rfl, ?_⟩) (by assumption) ?_
            rotate_left
            · (intro w hSw; (try dsimp only at hSw); go_simp; (first | done | with_reducible rfl))
            try simp only [Act.put, List.setIfInBounds_toArray, List.set_cons_zero, List.set_cons_succ]
            refine wpAnyH_take (i := 7) (v := ?_) (ata (atS (atS (atS (atS (atS (atS (atS at0)))))))) (by kernel_rfl) (by kernel_rfl) (by kernel_rfl) (fun _ _ _ h => h) (Or.inl ⟨by rfl, ?_⟩) (by assumption) ?_
            rotate_left
            · (intro w hSw; (try dsimp only at hSw); go_simp; (first | done | with_reducible rfl))
            try simp only [Act.put, List.setIfInBounds_toArray, List.set_cons_zero, List.set_cons_succ]
            refine wpAnyH_ready (rs := [8]) (by kernel_rfl) (by simp) ?_
            refine AllReadyH.cons (ata (atS (atS (atS (atS (atS (atS (atS (atS at0))))))))) (fun K hK => ?_) AllReadyH.nil
            go_simp
            refine hK.out _ _ (by exact (World.cell?_setCell_far _ _ _ _ hpg).trans (by assumption)) (fun hHeld => ?_)
            clear hK K
            try simp only [Act.put, List.setIfInBounds_toArray, List.set_cons_zero, List.set_cons_succ]
            refine wpAnyH_take (i := 9) (v := ?_) (ata (atS (atS (atS (atS (atS (atS (atS (atS (atS at0)))))))))) (by kernel_rfl) (by kernel_rfl) (by kernel_rfl) (fun _ _ _ h => h) (Or.inl ⟨by rfl, ?_⟩) (by assumption) ?_
            rotate_left
            · (intro w hSw; (try dsimp only at hSw); go_simp; (first | done | with_reducible rfl))
            try simp only [Act.put, List.setIfInBounds_toArray, List.set_cons_zero, List.set_cons_succ]
            refine wpAnyH_done (by kernel_rfl) ?_ _
            gi_wp2
            go_roundw
            case rel => exact ⟨2, _, _, by omega, by go_num, rfl, SJ.drew (SJ.setL (z' := ⟨z'.s, a, z'.o⟩) HJ6.out (by have := HG.out.1; omega) (by have := HG.out.2; omega) 4 (.int .i64 a) rfl), chn1 HC.out hfst.out, ((HKr.out.1.trans (KpC.of_below HB5.out)).trans HK6.out.1).trans ((KpC.set w6 4 _).trans (KpC.drew _)), ((HKr.out.2.trans (KeepsFrom.of_below HB5.out)).trans HK6.out.2).trans (((KeepsOthers.setCell w6 _ _).trans (KeepsOthers.drew _)).from _)⟩
            case measure => simp [intOf]
        | 2, _ =>
          have l0 := HJr.out.bL.cell 8 (.int .i64 z'.o)
          have l1 := HJr.out.bL.cell 9 (.int .i64 x.o)
          have l2 := HJr.out.bL.cell 10 (.int .i64 x.l)
          have l3 := HJr.out.bL.cell 11 (.func (.func 32) #[] #[])
          have lg := HJr.out.bL.lt
          have bP := BoxA.new wr 57 #[.int .i64 z'.o, .int .i64 x.o, .int .i64 x.l, .func (.func 32) #[] #[]]
          have hb5 : Below wr.heap.size wr (wr.alloc (.cells #[.int .i64 z'.o, .int .i64 x.o, .int .i64 x.l, .func (.func 32) #[] #[]] 57)) := (Below.refl _ _).alloc (Nat.le_refl _) _
          obtain ⟨W5, hW5⟩ : ∃ W5, wr.alloc (.cells #[.int .i64 z'.o, .int .i64 x.o, .int .i64 x.l, .func (.func 32) #[] #[]] 57) = W5 := ⟨_, rfl⟩
          have hJ5 := HJr.out.next hb5
          rw [hW5] at bP hb5 hJ5
          have HP5 := Lib.hid bP
          have HJ5 := Lib.hid hJ5
          have HB5 := Lib.hid hb5
          have HF := Lib.hid (first_any (L := r.l) (f := nxt) (long := x.o) (n := x.l) (w := W5.drew) (v := .agg #[.slice v.p5 v.q5 v.r5, .slice v.p6 v.q6 v.r6]) (by have h := (RoomI.below HX.out.2.2.2.2 hJ5.s.hB).l; rw [HX.out.2.1.al, HX.out.2.1.nl] at h; exact h.below (Below.refl _ W5).drew (Nat.le_refl _)) HX.out.1.l hn0 (by omega))
          clear bP hb5 hJ5
          gi_wp2_with fail
          clear hW5
          have P5 := HP5.out
          have p1 := P5.cell 1 (.int .i64 x.o); have p2 := P5.cell 2 (.int .i64 x.l); have p3 := P5.cell 3 (.func (.func 32) #[] #[]); have r4 := HJ5.out.s.bR.cell 4 (.slice v.p5 v.q5 v.r5); have r5 := HJ5.out.s.bR.cell 5 (.slice v.p6 v.q6 v.r6)
          clear P5 l0 l1 l2 l3
          cases hfst : fst? r.l nxt x.o x.l with
          | none =>
            have hfst := Lib.hid hfst
            refine held_round (S := (fun W => W.cell? ⟨wr.heap.size, 1, none⟩ = some (.int .i64 x.o) ∧ W.cell? ⟨wr.heap.size, 2, none⟩ = some (.int .i64 x.l) ∧ W.cell? ⟨wr.heap.size, 3, none⟩ = some (.func (.func 32) #[] #[]) ∧ W.cell? ⟨w.heap.size, 4, none⟩ = some (.slice v.p5 v.q5 v.r5) ∧ W.cell? ⟨w.heap.size, 5, none⟩ = some (.slice v.p6 v.q6 v.r6))) (by kernel_rfl) (by kernel_rfl) (fun ⟨_, _, h⟩ => h) (by (first | (go_keep; done) | (dsimp only; go_keep))) (fun hHeld => ?_)
            refine wpAnyH_take (i := 0) (v := ?_) (ata at0) (by kernel_rfl) (by kernel_rfl) (by kernel_rfl) (fun _ _ _ h => h) (Or.inl ⟨by rfl, ?_⟩) (by assumption) ?_
            rotate_left
            · (intro w hSw; (try dsimp only at hSw); go_simp; (first | done | with_reducible rfl))
            try simp only [Act.put, List.setIfInBounds_toArray, List.set_cons_zero, List.set_cons_succ]
            refine wpAnyH_take (i := 1) (v := ?_) (ata (atS at0)) (by kernel_rfl) (by kernel_rfl) (by kernel_rfl) (fun _ _ _ h => h) (Or.inl ⟨by rfl, ?_⟩) (by assumption) ?_
            rotate_left
            · (intro w hSw; (try dsimp only at hSw); go_simp; (first | done | with_reducible rfl))
            try simp only [Act.put, List.setIfInBounds_toArray, List.set_cons_zero, List.set_cons_succ]
            refine wpAnyH_take (i := 5) (v := ?_) (ata (atS (atS (atS (atS (atS at0)))))) (by kernel_rfl) (by kernel_rfl) (by kernel_rfl) (fun _ _ _ h => h) (Or.inl ⟨by rfl, ?_⟩) (by assumption) ?_
            rotate_left
            · (intro w hSw; (try dsimp only at hSw); go_simp; (first | done | with_reducible rfl))
            try simp only [Act.put, List.setIfInBounds_toArray, List.set_cons_zero, List.set_cons_succ]
            refine wpAnyH_take (i := 6) (v := ?_) (ata (atS (atS (atS (atS (atS (atS at0))))))) (by kernel_rfl) (by kernel_rfl) (by kernel_rfl) (fun _ _ _ h => h) (Or.inl ⟨by rfl, ?_⟩) (by assumption) ?_
            rotate_left
            · (intro w hSw; (try dsimp only at hSw); go_simp; (first | done | with_reducible rfl))
            try simp only [Act.put, List.setIfInBounds_toArray, List.set_cons_zero, List.set_cons_succ]
            refine wpAnyH_take (i := 7) (v := ?_) (ata (atS (atS (atS (atS (atS (atS (atS at0)))))))) (by kernel_rfl) (by kernel_rfl) (by kernel_rfl) (fun _ _ _ h => h) (Or.inl ⟨by rfl, ?_⟩) (by assumption) ?_
            rotate_left
            · (intro w hSw; (try dsimp only at hSw); go_simp; (first | done | with_reducible rfl))
            try simp only [Act.put, List.setIfInBounds_toArray, List.set_cons_zero, List.set_cons_succ]
            refine wpAnyH_take (i := 8) (v := ?_) (ata (atS (atS (atS (atS (atS (atS (atS (atS at0))))))))) (by kernel_rfl) (by kernel_rfl) (by kernel_rfl) (fun _ _ _ h => h) (Or.inl ⟨by rfl, ?_⟩) (by assumption) ?_
            rotate_left
            · (intro w hSw; (try dsimp only at hSw); go_simp; (first | done | with_reducible rfl))
            try simp only [Act.put, List.setIfInBounds_toArray, List.set_cons_zero, List.set_cons_succ]
            refine wpAnyH_take (i := 9) (v := ?_) (ata (atS (atS (atS (atS (atS (atS (atS (atS (atS at0)))))))))) (by kernel_rfl) (by kernel_rfl) (by kernel_rfl) (fun _ _ _ h => h) (Or.inl ⟨by rfl, ?_⟩) (by assumption) ?_
            rotate_left
            · (intro w hSw; (try dsimp only at hSw); go_simp; (first | done | with_reducible rfl))
            try simp only [Act.put, List.setIfInBounds_toArray, List.set_cons_zero, List.set_cons_succ]
            refine wpAnyH_ready (rs := [2]) (by kernel_rfl) (by simp) ?_
            refine AllReadyH.cons (ata (atS (atS at0))) (fun K hK => ?_) AllReadyH.nil
            go_simp
            (go_at_call 32; refine (lanes_any _ _).mono ?_; rintro e w5 ⟨rfl, rfl⟩)
            go_wp2_with fail
            refine hK.out _ _ (by (first | (go_keep; done) | (dsimp only; go_keep))) (fun hHeld => ?_)
            clear hK K
            try simp only [Act.put, List.setIfInBounds_toArray, List.set_cons_zero, List.set_cons_succ]
            refine wpAnyH_take (i := 3) (v := ?_) (ata (atS (atS (atS at0)))) (by kernel_rfl) (by kernel_rfl) (by kernel_rfl) (fun _ _ _ h => h) (Or.inl ⟨by rfl, ?_⟩) (by assumption) ?_
            rotate_left
            · (intro w hSw; (try dsimp only at hSw); go_simp; (first | done | with_reducible rfl))
            try simp only [Act.put, List.setIfInBounds_toArray, List.set_cons_zero, List.set_cons_succ]
            refine wpAnyH_take (i := 4) (v := ?_) (ata (atS (atS (atS (atS at0))))) (by kernel_rfl) (by kernel_rfl) (by kernel_rfl) (fun _ _ _ h => h) (Or.inl ⟨by rfl, ?_⟩) (by assumption) ?_
            rotate_left
            · (intro w hSw; (try dsimp only at hSw); go_simp; (first | done | with_reducible rfl))
            try simp only [Act.put, List.setIfInBounds_toArray, List.set_cons_zero, List.set_cons_succ]
            refine wpAnyH_ready (rs := [10]) (by kernel_rfl) (by simp) ?_
            refine AllReadyH.cons (ata (atS (atS (atS (atS (atS (atS (atS (atS (atS (atS at0))))))))))) (fun K hK => ?_) AllReadyH.nil
            go_simp
            (go_at_call 21; refine HF.out.mono ?_; rintro e w6 ⟨rfl, hb6⟩; rw [hfst.out]; dsimp only [fitV]; have J6 := HJ5.out.drew.next hb6; have P6 := (BoxA.next hb6 (show BoxA W5.drew wr.heap.size 57 #[.int .i64 z'.o, .int .i64 x.o, .int .i64 x.l, .func (.func 32) #[] #[]] from HP5.out)); have p1 := P6.cell 1 (.int .i64 x.o); have p2 := P6.cell 2 (.int .i64 x.l); have p3 := P6.cell 3 (.func (.func 32) #[] #[]); have r4 := J6.s.bR.cell 4 (.slice v.p5 v.q5 v.r5); have r5 := J6.s.bR.cell 5 (.slice v.p6 v.q6 v.r6); have HJ6 := Lib.hid J6; have HP6 := Lib.hid P6; have HK6 := Lib.hid (below_drew2 (c := g) (D := W4.heap.size) hb6); clear hb6 J6 P6)
            go_wp2_with fail
            refine hK.out _ _ (by (first | (go_keep; done) | (dsimp only; go_keep))) (fun hHeld => ?_)
            clear hK K
            try simp only [Act.put, List.setIfInBounds_toArray, List.set_cons_zero, List.set_cons_succ]
            refine wpAnyH_take (i := 11) (v := ?_) (ata (atS (atS (atS (atS (atS (atS (atS (atS (atS (atS (atS at0)))))))))))) (by kernel_rfl) (by kernel_rfl) (by kernel_rfl) (fun _ _ _ h => h) (Or.inl ⟨by rfl, ?_⟩) (by assumption) ?_
            rotate_left
            · (intro w hSw; (try dsimp only at hSw); go_simp; (first | done | with_reducible rfl))
            try simp only [Act.put, List.setIfInBounds_toArray, List.set_cons_zero, List.set_cons_succ]
            refine wpAnyH_take (i := 12) (v := ?_) (ata (atS (atS (atS (atS (atS (atS (atS (atS (atS (atS (atS (atS at0))))))))))))) (by kernel_rfl) (by kernel_rfl) (by kernel_rfl) (fun _ _ _ h => h) (Or.inl ⟨by rfl, ?_⟩) (by assumption) ?_
            rotate_left
            · (intro w hSw; (try dsimp only at hSw); go_simp; (first | done | with_reducible rfl))
            try simp only [Act.put, List.setIfInBounds_toArray, List.set_cons_zero, List.set_cons_succ]
            refine wpAnyH_take (i := 13) (v := ?_) (ata (atS (atS (atS (atS (atS (atS (atS (atS (atS (atS (atS (atS (atS at0)))))))))))))) (by kernel_rfl) (by kernel_rfl) (by kernel_rfl) (fun _ _ _ h => h) (Or.inl ⟨by rfl, ?_⟩) (by assumption) ?_
            rotate_left
            · (intro w hSw; (try dsimp only at hSw); go_simp; (first | done | with_reducible rfl))
            try simp only [Act.put, List.setIfInBounds_toArray, List.set_cons_zero, List.set_cons_succ]
            refine wpAnyH_take (i := 14) (v := ?_) (ata (atS (atS (atS (atS (atS (atS (atS (atS (atS (atS (atS (atS (atS (atS at0))))))))))))))) (by kernel_rfl) (by kernel_rfl) (by kernel_rfl) (fun _ _ _ h => h) (Or.inl ⟨by rfl, ?_⟩) (by assumption) ?_
            rotate_left
            · (intro w hSw; (try dsimp only at hSw); go_simp; (first | done | with_reducible rfl))
            try simp only [Act.put, List.setIfInBounds_toArray, List.set_cons_zero, List.set_cons_succ]
            refine wpAnyH_take (i := 15) (v := ?_) (ata (atS (atS (atS (atS (atS (atS (atS (atS (atS (atS (atS (atS (atS (atS (atS at0)))))))))))))))) (by kernel_rfl) (by kernel_rfl) (by kernel_rfl) (fun _ _ _ h => h) (Or.inl ⟨by rfl, ?_⟩) (by assumption) ?_
            rotate_left
            · (intro w hSw; (try dsimp only at hSw); go_simp; (first | done | with_reducible rfl))
            try simp only [Act.put, List.setIfInBounds_toArray, List.set_cons_zero, List.set_cons_succ]
            refine wpAnyH_done (by kernel_rfl) ?_ _
            gi_wp2
            exact ⟨(HKr.out.2.trans (KeepsFrom.of_below HB5.out)).trans HK6.out.2, HJ6.out.s.bE, HJ6.out.s.hB, .inr ⟨rfl, thr_none (y := ⟨(ya, yb), HY.out⟩) HTZ.out.1 (Int.not_lt.2 HLT.out) (by show chain r x (max ya z.s) = none; rw [HNX.out.2]; exact chn2n HC.out hfst.out), HJ6.out.s.bA⟩⟩
          | some a =>
            have hfst := Lib.hid hfst
            refine held_round (S := (fun W => W.cell? ⟨wr.heap.size, 1, none⟩ = some (.int .i64 x.o) ∧ W.cell? ⟨wr.heap.size, 2, none⟩ = some (.int .i64 x.l) ∧ W.cell? ⟨wr.heap.size, 3, none⟩ = some (.func (.func 32) #[] #[]) ∧ W.cell? ⟨w.heap.size, 4, none⟩ = some (.slice v.p5 v.q5 v.r5) ∧ W.cell? ⟨w.heap.size, 5, none⟩ = some (.slice v.p6 v.q6 v.r6))) (by kernel_rfl) (by kernel_rfl) (fun ⟨_, _, h⟩ => h) (by (first | (go_keep; done) | (dsimp only; go_keep))) (fun hHeld => ?_)
            refine wpAnyH_take (i := 0) (v := ?_) (ata at0) (by kernel_rfl) (by kernel_rfl) (by kernel_rfl) (fun _ _ _ h => h) (Or.inl ⟨by rfl, ?_⟩) (by assumption) ?_
            rotate_left
            · (intro w hSw; (try dsimp only at hSw); go_simp; (first | done | with_reducible rfl))
            try simp only [Act.put, List.setIfInBounds_toArray, List.set_cons_zero, List.set_cons_succ]
            refine wpAnyH_take (i := 1) (v := ?_) (ata (atS at0)) (by kernel_rfl) (by kernel_rfl) (by kernel_rfl) (fun _ _ _ h => h) (Or.inl ⟨by rfl, ?_⟩) (by assumption) ?_
            rotate_left
            · (intro w hSw; (try dsimp only at hSw); go_simp; (first | done | with_reducible rfl))
            try simp only [Act.put, List.setIfInBounds_toArray, List.set_cons_zero, List.set_cons_succ]
            refine wpAnyH_take (i := 5) (v := ?_) (ata (atS (atS (atS (atS (atS at0)))))) (by kernel_rfl) (by kernel_rfl) (by kernel_rfl) (fun _ _ _ h => h) (Or.inl ⟨by rfl, ?_⟩) (by assumption) ?_
            rotate_left
            · (intro w hSw; (try dsimp only at hSw); go_simp; (first | done | with_reducible rfl))
            try simp only [Act.put, List.setIfInBounds_toArray, List.set_cons_zero, List.set_cons_succ]
            refine wpAnyH_take (i := 6) (v := ?_) (ata (atS (atS (atS (atS (atS (atS at0))))))) (by kernel_rfl) (by kernel_rfl) (by kernel_rfl) (fun _ _ _ h => h) (Or.inl ⟨by rfl, ?_⟩) (by assumption) ?_
            rotate_left
            · (intro w hSw; (try dsimp only at hSw); go_simp; (first | done | with_reducible rfl))
            try simp only [Act.put, List.setIfInBounds_toArray, List.set_cons_zero, List.set_cons_succ]
            refine wpAnyH_take (i := 7) (v := ?_) (ata (atS (atS (atS (atS (atS (atS (atS at0)))))))) (by kernel_rfl) (by kernel_rfl) (by kernel_rfl) (fun _ _ _ h => h) (Or.inl ⟨by rfl, ?_⟩) (by assumption) ?_
            rotate_left
            · (intro w hSw; (try dsimp only at hSw); go_simp; (first | done | with_reducible rfl))
            try simp only [Act.put, List.setIfInBounds_toArray, List.set_cons_zero, List.set_cons_succ]
            refine wpAnyH_take (i := 8) (v := ?_) (ata (atS (atS (atS (atS (atS (atS (atS (atS at0))))))))) (by kernel_rfl) (by kernel_rfl) (by kernel_rfl) (fun _ _ _ h => h) (Or.inl ⟨by rfl, ?_⟩) (by assumption) ?_
            rotate_left
            · (intro w hSw; (try dsimp only at hSw); go_simp; (first | done | with_reducible rfl))
            try simp only [Act.put, List.setIfInBounds_toArray, List.set_cons_zero, List.set_cons_succ]
            refine wpAnyH_take (i := 9) (v := ?_) (ata (atS (atS (atS (atS (atS (atS (atS (atS (atS at0)))))))))) (by kernel_rfl) (by kernel_rfl) (by kernel_rfl) (fun _ _ _ h => h) (Or.inl ⟨by rfl, ?_⟩) (by assumption) ?_
            rotate_left
            · (intro w hSw; (try dsimp only at hSw); go_simp; (first | done | with_reducible rfl))
            try simp only [Act.put, List.setIfInBounds_toArray, List.set_cons_zero, List.set_cons_succ]
            refine wpAnyH_ready (rs := [2]) (by kernel_rfl) (by simp) ?_
            refine AllReadyH.cons (ata (atS (atS at0))) (fun K hK => ?_) AllReadyH.nil
            go_simp
            (go_at_call 32; refine (lanes_any _ _).mono ?_; rintro e w5 ⟨rfl, rfl⟩)
            go_wp2_with fail
            refine hK.out _ _ (by (first | (go_keep; done) | (dsimp only; go_keep))) (fun hHeld => ?_)
            clear hK K
            try simp only [Act.put, List.setIfInBounds_toArray, List.set_cons_zero, List.set_cons_succ]
            refine wpAnyH_take (i := 3) (v := ?_) (ata (atS (atS (atS at0)))) (by kernel_rfl) (by kernel_rfl) (by kernel_rfl) (fun _ _ _ h => h) (Or.inl ⟨by rfl, ?_⟩) (by assumption) ?_
            rotate_left
            · (intro w hSw; (try dsimp only at hSw); go_simp; (first | done | with_reducible rfl))
            try simp only [Act.put, List.setIfInBounds_toArray, List.set_cons_zero, List.set_cons_succ]
            refine wpAnyH_take (i := 4) (v := ?_) (ata (atS (atS (atS (atS at0))))) (by kernel_rfl) (by kernel_rfl) (by kernel_rfl) (fun _ _ _ h => h) (Or.inl ⟨by rfl, ?_⟩) (by assumption) ?_
            rotate_left
            · (intro w hSw; (try dsimp only at hSw); go_simp; (first | done | with_reducible rfl))
            try simp only [Act.put, List.setIfInBounds_toArray, List.set_cons_zero, List.set_cons_succ]
            refine wpAnyH_ready (rs := [10]) (by kernel_rfl) (by simp) ?_
            refine AllReadyH.cons (ata (atS (atS (atS (atS (atS (atS (atS (atS (atS (atS at0))))))))))) (fun K hK => ?_) AllReadyH.nil
            go_simp
            (go_at_call 21; refine HF.out.mono ?_; rintro e w6 ⟨rfl, hb6⟩; rw [hfst.out]; dsimp only [fitV]; have J6 := HJ5.out.drew.next hb6; have P6 := (BoxA.next hb6 (show BoxA W5.drew wr.heap.size 57 #[.int .i64 z'.o, .int .i64 x.o, .int .i64 x.l, .func (.func 32) #[] #[]] from HP5.out)); have p1 := P6.cell 1 (.int .i64 x.o); have p2 := P6.cell 2 (.int .i64 x.l); have p3 := P6.cell 3 (.func (.func 32) #[] #[]); have r4 := J6.s.bR.cell 4 (.slice v.p5 v.q5 v.r5); have r5 := J6.s.bR.cell 5 (.slice v.p6 v.q6 v.r6); have HJ6 := Lib.hid J6; have HP6 := Lib.hid P6; have HK6 := Lib.hid (below_drew2 (c := g) (D := W4.heap.size) hb6); clear hb6 J6 P6)
            go_wp2_with fail
            refine hK.out _ _ (by (first | (go_keep; done) | (dsimp only; go_keep))) (fun hHeld => ?_)
            clear hK K
            try simp only [Act.put, List.setIfInBounds_toArray, List.set_cons_zero, List.set_cons_succ]
            refine wpAnyH_take (i := 11) (v := ?_) (ata (atS (atS (atS (atS (atS (atS (atS (atS (atS (atS (atS at0)))))))))))) (by kernel_rfl) (by kernel_rfl) (by kernel_rfl) (fun _ _ _ h => h) (Or.inl ⟨by rfl, ?_⟩) (by assumption) ?_
            rotate_left
            · (intro w hSw; (try dsimp only at hSw); go_simp; (first | done | with_reducible rfl))
            try simp only [Act.put, List.setIfInBounds_toArray, List.set_cons_zero, List.set_cons_succ]
            refine wpAnyH_take (i := 12) (v := ?_) (ata (atS (atS (atS (atS (atS (atS (atS (atS (atS (atS (atS (atS at0))))))))))))) (by kernel_rfl) (by kernel_rfl) (by kernel_rfl) (fun _ _ _ h => h) (Or.inl ⟨by rfl, ?_⟩) (by assumption) ?_
            rotate_left
            · (intro w hSw; (try dsimp only at hSw); go_simp; (first | done | with_reducible rfl))
            try simp only [Act.put, List.setIfInBounds_toArray, List.set_cons_zero, List.set_cons_succ]
            refine wpAnyH_take (i := 13) (v := ?_) (ata (atS (atS (atS (atS (atS (atS (atS (atS (atS (atS (atS (atS (atS at0)))))))))))))) (by kernel_rfl) (by kernel_rfl) (by kernel_rfl) (fun _ _ _ h => h) (Or.inl ⟨by rfl, ?_⟩) (by assumption) ?_
            rotate_left
            · (intro w hSw; (try dsimp only at hSw); go_simp; (first | done | with_reducible rfl))
            try simp only [Act.put, List.setIfInBounds_toArray, List.set_cons_zero, List.set_cons_succ]
            refine wpAnyH_take (i := 14) (v := ?_) (ata (atS (atS (atS (atS (atS (atS (atS (atS (atS (atS (atS (atS (atS (atS at0))))))))))))))) (by kernel_rfl) (by kernel_rfl) (by kernel_rfl) (fun _ _ _ h => h) (Or.inl ⟨by rfl, ?_⟩) (by assumption) ?_
            rotate_left
            · (intro w hSw; (try dsimp only at hSw); go_simp; (first | done | with_reducible rfl))
            try simp only [Act.put, List.setIfInBounds_toArray, List.set_cons_zero, List.set_cons_succ]
            refine wpAnyH_take (i := 15) (v := ?_) (ata (atS (atS (atS (atS (atS (atS (atS (atS (atS (atS (atS (atS (atS (atS (atS at0)))))))))))))))) (by kernel_rfl) (by kernel_rfl) (by kernel_rfl) (fun _ _ _ h => h) (Or.inl ⟨by rfl, ?_⟩) (by assumption) ?_
            rotate_left
            · (intro w hSw; (try dsimp only at hSw); go_simp; (first | done | with_reducible rfl))
            try simp only [Act.put, List.setIfInBounds_toArray, List.set_cons_zero, List.set_cons_succ]
            refine wpAnyH_done (by kernel_rfl) ?_ _
            obtain ⟨hb7, ha1, ha2⟩ := chn_bd HX.out.1 HX.out.2.2.1 HNX.out.1 HTZ.out.2 3 (by omega) (chn2 HC.out hfst.out)
            have HA := Lib.hid (And.intro hb7 (And.intro ha1 ha2))
            have hwa := IntWalk.i64_in (a + x.o) (by omega)
            have hpg : g ≠ wr.heap.size := by omega
            have hpg' : wr.heap.size ≠ g := by omega
            have g0 := HJ6.out.bL.cell 8 (.int .i64 z'.o)
            have gf := HJ6.out.bL.free 8
            have HAd := Lib.hid hb7
            clear hb7
            gi_wp2_with fail
            refine held_round (S := (fun W => W.cell? ⟨wr.heap.size, 1, none⟩ = some (.int .i64 x.o))) (by kernel_rfl) (by kernel_rfl) (fun ⟨_, _, h⟩ => h) (by (first | (go_keep; done) | (dsimp only; go_keep))) (fun hHeld => ?_)
            refine wpAnyH_take (i := 0) (v := ?_) (ata at0) (by kernel_rfl) (by kernel_rfl) (by kernel_rfl) (fun _ _ _ h => h) (Or.inl ⟨by rfl, ?_⟩) (by assumption) ?_
            rotate_left
            · (intro w hSw; (try dsimp only at hSw); go_simp; (first | done | with_reducible rfl))
            try simp only [Act.put, List.setIfInBounds_toArray, List.set_cons_zero, List.set_cons_succ]
            refine wpAnyH_take (i := 1) (v := ?_) (ata (atS at0)) (by kernel_rfl) (by kernel_rfl) (by kernel_rfl) (fun _ _ _ h => h) (Or.inl ⟨by rfl, ?_⟩) (by assumption) ?_
            rotate_left
            · (intro w hSw; (try dsimp only at hSw); go_simp; (first | done | with_reducible rfl))
            try simp only [Act.put, List.setIfInBounds_toArray, List.set_cons_zero, List.set_cons_succ]
            refine wpAnyH_take (i := 2) (v := ?_) (ata (atS (atS at0))) (by kernel_rfl) (by kernel_rfl) (by kernel_rfl) (fun _ _ _ h => h) (Or.inl ⟨by rfl, ?_⟩) (by assumption) ?_
            rotate_left
            · (intro w hSw; (try dsimp only at hSw); go_simp; (first | done | with_reducible rfl))
            try simp only [Act.put, List.setIfInBounds_toArray, List.set_cons_zero, List.set_cons_succ]
            refine wpAnyH_take (i := 3) (v := ?_) (ata (atS (atS (atS at0)))) (by kernel_rfl) (by kernel_rfl) (by kernel_rfl) (fun _ _ _ h => h) (Or.inl ⟨by rfl, ?_⟩) (by assumption) ?_
            rotate_left
            · (intro w hSw; (try dsimp only at hSw); go_simp; (first | done | with_reducible rfl))
            try simp only [Act.put, List.setIfInBounds_toArray, List.set_cons_zero, List.set_cons_succ]
            refine wpAnyH_take (i := 4) (v := ?_) (ata (atS (atS (atS (atS at0))))) (by kernel_rfl) (by kernel_rfl) (by kernel_rfl) (fun _ _ _ h => h) (Or.inl ⟨by rfl, ?_⟩) (by assumption) ?_
            rotate_left
            · (intro w hSw; (try dsimp only at hSw); go_simp; (first | done | with_reducible rfl))
            try simp only [Act.put, List.setIfInBounds_toArray, List.set_cons_zero, List.set_cons_succ]
            refine wpAnyH_take (i := 5) (v := ?_) (ata (atS (atS (atS (atS (atS at0)))))) (by kernel_rfl) (by kernel_rfl) (by kernel_rfl) (fun _ _ _ h => h) (Or.inl ⟨by rfl, ?_⟩) (by assumption) ?_
            rotate_left
            · (intro w hSw; (try dsimp only at hSw); go_simp; (first | done | with_reducible rfl))
            try simp only [Act.put, List.setIfInBounds_toArray, List.set_cons_zero, List.set_cons_succ]
            refine wpAnyH_take (i := 6) (v := ?_) (ata (atS (atS (atS (atS (atS (atS at0))))))) (by kernel_rfl) (by kernel_rfl) (by kernel_rfl) (fun _ _ _ h => h) (Or.inl ⟨by rfl, ?_⟩) (by assumption) ?_
            rotate_left
            · (intro w hSw; (try dsimp only at hSw); go_simp; (first | done | with_reducible rfl))
            try simp only [Act.put, List.setIfInBounds_toArray, List.set_cons_zero, List.set_cons_succ]
            refine wpAnyH_take (i := 7) (v := ?_) (ata (atS (atS (atS (atS (atS (atS (atS at0)))))))) (by kernel_rfl) (by kernel_rfl) (by kernel_rfl) (fun _ _ _ h => h) (Or.inl ⟨by rfl, ?_⟩) (by assumption) ?_
            rotate_left
            · (intro w hSw; (try dsimp only at hSw); go_simp; (first | done | with_reducible rfl))
            try simp only [Act.put, List.setIfInBounds_toArray, List.set_cons_zero, List.set_cons_succ]
            refine wpAnyH_ready (rs := [8]) (by kernel_rfl) (by simp) ?_
            refine AllReadyH.cons (ata (atS (atS (atS (atS (atS (atS (atS (atS at0))))))))) (fun K hK => ?_) AllReadyH.nil
            go_simp
            refine hK.out _ _ (by exact (World.cell?_setCell_far _ _ _ _ hpg).trans (by assumption)) (fun hHeld => ?_)
            clear hK K
            try simp only [Act.put, List.setIfInBounds_toArray, List.set_cons_zero, List.set_cons_succ]
            refine wpAnyH_take (i := 9) (v := ?_) (ata (atS (atS (atS (atS (atS (atS (atS (atS (atS at0)))))))))) (by kernel_rfl) (by kernel_rfl) (by kernel_rfl) (fun _ _ _ h => h) (Or.inl ⟨by rfl, ?_⟩) (by assumption) ?_
            rotate_left
            · (intro w hSw; (try dsimp only at hSw); go_simp; (first | done | with_reducible rfl))
            try simp only [Act.put, List.setIfInBounds_toArray, List.set_cons_zero, List.set_cons_succ]
            refine wpAnyH_done (by kernel_rfl) ?_ _
            gi_wp2
            go_roundw
            case rel => exact ⟨3, _, _, by omega, by go_num, rfl, SJ.drew (SJ.setL (z' := ⟨z'.s, z'.c, a⟩) HJ6.out (by have := HG.out.1; omega) (by have := HG.out.2; omega) 8 (.int .i64 a) rfl), chn2 HC.out hfst.out, ((HKr.out.1.trans (KpC.of_below HB5.out)).trans HK6.out.1).trans ((KpC.set w6 8 _).trans (KpC.drew _)), ((HKr.out.2.trans (KeepsFrom.of_below HB5.out)).trans HK6.out.2).trans (((KeepsOthers.setCell w6 _ _).trans (KeepsOthers.drew _)).from _)⟩
            case measure => simp [intOf]
        | 3, _ =>
          obtain ⟨hch, hnx3⟩ : chain r x nx = some z' ∧ nxt = z'.o + x.o := HC.out
          have HCH := Lib.hid (And.intro hch hnx3)
          clear hch hnx3
          have cX1 := HJr.out.bX.cell1
          have l0 := HJr.out.bL.cell 0 (.int .i64 z'.s)
          have l4 := HJr.out.bL.cell 4 (.int .i64 z'.c)
          have l8 := HJr.out.bL.cell 8 (.int .i64 z'.o)
          have lg := HJr.out.bL.lt
          have a0 := HJr.out.s.bA.cell 0 (.int .i64 0)
          have a1 := HJr.out.s.bA.cell 1 (.int .i64 0)
          have a2 := HJr.out.s.bA.cell 2 (.int .i64 0)
          have e0 := HJr.out.s.bE.cell 0 (.int .i64 0)
          have fa0 := HJr.out.s.bA.free 0
          have fa1 := HJr.out.s.bA.free 1
          have fa2 := HJr.out.s.bA.free 2
          have fe0 := HJr.out.s.bE.free 0
          have hne1 : ¬ g = w.heap.size + 1 + 1 := by omega
          have hne2 : ¬ g = w.heap.size + 1 + 1 + 1 := by omega
          by_cases hin : nxt ≤ yb
          · have d2 : decide (nxt ≤ yb) = true := decide_eq_true hin
            have HIN := Lib.hid hin
            clear hin
            gi_wp2
            refine ⟨HKr.out.2.trans (((((KeepsOthers.setCell wr _ _).trans (KeepsOthers.setCell _ _ _)).trans (KeepsOthers.setCell _ _ _)).trans (KeepsOthers.setCell _ _ _)).from _), ?_, ?_, .inl ⟨rfl, z', thr_found (y := ⟨(ya, yb), HY.out⟩) HTZ.out.1 (Int.not_lt.2 HLT.out) (by show chain r x (max ya z.s) = some z'; rw [HNX.out.2]; exact HCH.out.1) (by show z'.o + x.o ≤ yb; rw [← HCH.out.2]; exact HIN.out), ?_⟩⟩
            · exact (((HJr.out.s.bE.other (D := w.heap.size + 1 + 1) (by omega) 0 (.int .i64 z'.s)).other (D := w.heap.size + 1 + 1) (by omega) 1 (.int .i64 z'.c)).other (D := w.heap.size + 1 + 1) (by omega) 2 (.int .i64 z'.o)).set 0 (.int .i64 0)
            · exact (((HJr.out.s.hB.setCell (p := ⟨w.heap.size + 1 + 1, 0, none⟩) (by simp; omega) _).setCell (p := ⟨w.heap.size + 1 + 1, 1, none⟩) (by simp; omega) _).setCell (p := ⟨w.heap.size + 1 + 1, 2, none⟩) (by simp; omega) _).setCell (p := ⟨w.heap.size + 1 + 1 + 1, 0, none⟩) (by simp; omega) _
            · exact (((HJr.out.s.bA.set 0 (.int .i64 z'.s)).set 1 (.int .i64 z'.c)).set 2 (.int .i64 z'.o)).other (D := w.heap.size + 1 + 1 + 1) (by omega) 0 (.int .i64 0)
          · have d2 : decide (nxt ≤ yb) = false := decide_eq_false hin
            have HIN := Lib.hid hin
            clear hin
            gi_wp2
            exact ⟨HKr.out.2, HKr.out.1, HJr.out.s, z', HJr.out.bL, thr_go (y := ⟨(ya, yb), HY.out⟩) HTZ.out.1 (Int.not_lt.2 HLT.out) (by show chain r x (max ya z.s) = some z'; rw [HNX.out.2]; exact HCH.out.1) (by show ¬ z'.o + x.o ≤ yb; rw [← HCH.out.2]; exact Int.not_le.2 HIN.out), HZ.out⟩
  case done =>
    rintro D ys W hD hys ⟨hS, z, hL, hT, hzb⟩ hK
    have hfin : Hid (slotV (slot? r x f) = .tuple #[.agg #[.int .i64 0, .int .i64 0, .int .i64 0], .int .i64 7]) := by
      have h := hT []
      rw [List.append_nil, hys] at h
      show slotV (through r x (wins r.b f x.b) ⟨f, f, f⟩) = _
      rw [h]; rfl
    clear hL hT hzb hys
    have hbA := hS.bA
    have hbE := hS.bE
    have hhB := hS.hB
    have a0 := hbA.cell 0 (.int .i64 0)
    have a1 := hbA.cell 1 (.int .i64 0)
    have a2 := hbA.cell 2 (.int .i64 0)
    have e0 := hbE.cell 0 (.int .i64 0)
    have fa0 := hbA.free 0
    have fa1 := hbA.free 1
    have fa2 := hbA.free 2
    have fe0 := hbE.free 0
    have hK' := ((((KeepsOthers.setCell W ⟨w.heap.size + 1 + 1, 0, none⟩ (.int .i64 0)).trans (KeepsOthers.setCell _ ⟨w.heap.size + 1 + 1, 1, none⟩ (.int .i64 0))).trans (KeepsOthers.setCell _ ⟨w.heap.size + 1 + 1, 2, none⟩ (.int .i64 0))).trans (KeepsOthers.setCell _ ⟨w.heap.size + 1 + 1 + 1, 0, none⟩ (.int .i64 7))).same D _ hK rfl
    clear hseq hsz4
    go_wp2
    rw [Exit.noGoto_ret]
    refine ⟨by simp, .inl ⟨_, _, rfl, run_takeDeferred hK', ?_⟩⟩
    have bA := (((hbA.set 0 (.int .i64 0)).set 1 (.int .i64 0)).set 2 (.int .i64 0)).other (D := w.heap.size + 1 + 1 + 1) (by omega) 0 (.int .i64 7)
    have bE := (((hbE.other (D := w.heap.size + 1 + 1) (by omega) 0 (.int .i64 0)).other (D := w.heap.size + 1 + 1) (by omega) 1 (.int .i64 0)).other (D := w.heap.size + 1 + 1) (by omega) 2 (.int .i64 0)).set 0 (.int .i64 7)
    have q0 := cell_kept (bA.cell 0 (.int .i64 0)) (grownBy_putObj' _ D (.deferred none)) (fun r e => by cases e; exact ⟨_, hK', rfl⟩)
    have q1 := cell_kept (bA.cell 1 (.int .i64 0)) (grownBy_putObj' _ D (.deferred none)) (fun r e => by cases e; exact ⟨_, hK', rfl⟩)
    have q2 := cell_kept (bA.cell 2 (.int .i64 0)) (grownBy_putObj' _ D (.deferred none)) (fun r e => by cases e; exact ⟨_, hK', rfl⟩)
    have q3 := cell_kept (bE.cell 0 (.int .i64 7)) (grownBy_putObj' _ D (.deferred none)) (fun r e => by cases e; exact ⟨_, hK', rfl⟩)
    refine ⟨.tuple #[.agg #[.int .i64 0, .int .i64 0, .int .i64 0], .int .i64 7], by simp [results, Try.results8, go_sem, q0, q1, q2, q3], by rw [hfin.out], ?_⟩
    exact ((((hhB.setCell (p := ⟨w.heap.size + 1 + 1, 0, none⟩) (by simp; omega) _).setCell (p := ⟨w.heap.size + 1 + 1, 1, none⟩) (by simp; omega) _).setCell (p := ⟨w.heap.size + 1 + 1, 2, none⟩) (by simp; omega) _).setCell (p := ⟨w.heap.size + 1 + 1 + 1, 0, none⟩) (by simp; omega) _).trans (belowK_b (w := w) (Nat.le_refl _) _ D _ _ (by have := hHS.out; omega) hK' rfl rfl)
  case stop =>
    rintro D k xs W hD ⟨T, hw⟩ ⟨hbE, hhB, hex⟩ hK
    rcases hex with ⟨rfl, z, hz, hbA⟩ | ⟨rfl, hz, hbA⟩
    · have hfin : Hid (slotV (slot? r x f) = .tuple #[.agg #[.int .i64 z.s, .int .i64 z.c, .int .i64 z.o], .int .i64 0]) := by
        show slotV (through r x (wins r.b f x.b) ⟨f, f, f⟩) = _
        rw [hw, hz T]; rfl
      have a0 := hbA.cell 0 (.int .i64 z.s)
      have a1 := hbA.cell 1 (.int .i64 z.c)
      have a2 := hbA.cell 2 (.int .i64 z.o)
      have e0 := hbE.cell 0 (.int .i64 0)
      clear hz hw hseq hsz4
      gi_wp2
      rw [Exit.noGoto_ret]
      refine ⟨by simp, .inl ⟨_, _, rfl, run_takeDeferred hK, ?_⟩⟩
      have q0 := cell_kept a0 (grownBy_putObj' _ D (.deferred none)) (fun r e => by cases e; exact ⟨_, hK, rfl⟩)
      have q1 := cell_kept a1 (grownBy_putObj' _ D (.deferred none)) (fun r e => by cases e; exact ⟨_, hK, rfl⟩)
      have q2 := cell_kept a2 (grownBy_putObj' _ D (.deferred none)) (fun r e => by cases e; exact ⟨_, hK, rfl⟩)
      have q3 := cell_kept e0 (grownBy_putObj' _ D (.deferred none)) (fun r e => by cases e; exact ⟨_, hK, rfl⟩)
      refine ⟨.tuple #[.agg #[.int .i64 z.s, .int .i64 z.c, .int .i64 z.o], .int .i64 0], by simp [results, Try.results8, go_sem, q0, q1, q2, q3], by rw [hfin.out], ?_⟩
      exact hhB.trans (belowK_b (w := w) (Nat.le_refl _) _ D _ _ (by have := hHS.out; omega) hK rfl rfl)
    · have hfin : Hid (slotV (slot? r x f) = .tuple #[.agg #[.int .i64 0, .int .i64 0, .int .i64 0], .int .i64 7]) := by
        show slotV (through r x (wins r.b f x.b) ⟨f, f, f⟩) = _
        rw [hw, hz T]; rfl
      have hS : BoxA W (w.heap.size + 1 + 1) 30 #[.int .i64 0, .int .i64 0, .int .i64 0] := hbA
      clear hz hw
      have hbA := hS
      have a0 := hbA.cell 0 (.int .i64 0)
      have a1 := hbA.cell 1 (.int .i64 0)
      have a2 := hbA.cell 2 (.int .i64 0)
      have e0 := hbE.cell 0 (.int .i64 0)
      have fa0 := hbA.free 0
      have fa1 := hbA.free 1
      have fa2 := hbA.free 2
      have fe0 := hbE.free 0
      have hK' := ((((KeepsOthers.setCell W ⟨w.heap.size + 1 + 1, 0, none⟩ (.int .i64 0)).trans (KeepsOthers.setCell _ ⟨w.heap.size + 1 + 1, 1, none⟩ (.int .i64 0))).trans (KeepsOthers.setCell _ ⟨w.heap.size + 1 + 1, 2, none⟩ (.int .i64 0))).trans (KeepsOthers.setCell _ ⟨w.heap.size + 1 + 1 + 1, 0, none⟩ (.int .i64 7))).same D _ hK rfl
      clear hseq hsz4
      gi_wp2
      go_wp2
      rw [Exit.noGoto_ret]
      refine ⟨by simp, .inl ⟨_, _, rfl, run_takeDeferred hK', ?_⟩⟩
      have bA := (((hbA.set 0 (.int .i64 0)).set 1 (.int .i64 0)).set 2 (.int .i64 0)).other (D := w.heap.size + 1 + 1 + 1) (by omega) 0 (.int .i64 7)
      have bE := (((hbE.other (D := w.heap.size + 1 + 1) (by omega) 0 (.int .i64 0)).other (D := w.heap.size + 1 + 1) (by omega) 1 (.int .i64 0)).other (D := w.heap.size + 1 + 1) (by omega) 2 (.int .i64 0)).set 0 (.int .i64 7)
      have q0 := cell_kept (bA.cell 0 (.int .i64 0)) (grownBy_putObj' _ D (.deferred none)) (fun r e => by cases e; exact ⟨_, hK', rfl⟩)
      have q1 := cell_kept (bA.cell 1 (.int .i64 0)) (grownBy_putObj' _ D (.deferred none)) (fun r e => by cases e; exact ⟨_, hK', rfl⟩)
      have q2 := cell_kept (bA.cell 2 (.int .i64 0)) (grownBy_putObj' _ D (.deferred none)) (fun r e => by cases e; exact ⟨_, hK', rfl⟩)
      have q3 := cell_kept (bE.cell 0 (.int .i64 7)) (grownBy_putObj' _ D (.deferred none)) (fun r e => by cases e; exact ⟨_, hK', rfl⟩)
      refine ⟨.tuple #[.agg #[.int .i64 0, .int .i64 0, .int .i64 0], .int .i64 7], by simp [results, Try.results8, go_sem, q0, q1, q2, q3], by rw [hfin.out], ?_⟩
      exact ((((hhB.setCell (p := ⟨w.heap.size + 1 + 1, 0, none⟩) (by simp; omega) _).setCell (p := ⟨w.heap.size + 1 + 1, 1, none⟩) (by simp; omega) _).setCell (p := ⟨w.heap.size + 1 + 1, 2, none⟩) (by simp; omega) _).setCell (p := ⟨w.heap.size + 1 + 1 + 1, 0, none⟩) (by simp; omega) _).trans (belowK_b (w := w) (Nat.le_refl _) _ D _ _ (by have := hHS.out; omega) hK' rfl rfl)
end Go.Proofs.Ytigomdihkojdmaa.gn
