/- Take and Give of a slot: what they leave. -/
import Derived.Test.YtigomdihkojdmaaFtH
import Derived.Test.YtigomdihkojdmaaStT
import Derived.Test.YtigomdihkojdmaaFtI
namespace Go.Proofs.Ytigomdihkojdmaa.gn
open Go.RowKit Go.Shelf
open Go.Proofs.Ytigomdihkojdmaa.sp
attribute [local go_sem ↓] Go.wp_at_zero Go.wp_at_succ

/-- How far the four windows have come: each is taken, or given. -/
def Stg (d : Int → Int) (r : Rm) (x : Shp) (a : Slt) : Nat → Rm → Prop
  | 0, y => y = r
  | 1, y => y.n = r.n ∧ y.b = r.b ∧ Turned r.l a.s (a.s + x.i) (d x.l) y.l
  | 2, y => y.b = r.b ∧ Turned r.l a.s (a.s + x.i) (d x.l) y.l ∧ Turned r.n a.c (a.c + x.w) (d x.n) y.n
  | 3, y => y.b = r.b ∧ (∃ M, Ok M ∧ Turned r.l a.s (a.s + x.i) (d x.l) M ∧ Turned M a.o (a.o + x.o) (d x.l) y.l) ∧ Turned r.n a.c (a.c + x.w) (d x.n) y.n
  | _, y => Turned r.b a.s (a.o + x.o) (d x.b) y.b ∧ (∃ M, Ok M ∧ Turned r.l a.s (a.s + x.i) (d x.l) M ∧ Turned M a.o (a.o + x.o) (d x.l) y.l) ∧ Turned r.n a.c (a.c + x.w) (d x.n) y.n
/-- Nothing goes below 0, or above Top. -/
structure Fine (d : Int → Int) (r : Rm) (x : Shp) (a : Slt) : Prop where
  g1 : ∀ t, Q t → Q (more r.l a.s (a.s + x.i) (d x.l) t)
  g2 : ∀ t, Q t → Q (more r.n a.c (a.c + x.w) (d x.n) t)
  g3 : ∀ M, Turned r.l a.s (a.s + x.i) (d x.l) M → ∀ t, Q t → Q (more M a.o (a.o + x.o) (d x.l) t)
  g4 : ∀ t, Q t → Q (more r.b a.s (a.o + x.o) (d x.b) t)
  e1 : a.s + x.i ≤ 1099511627776
  e2 : a.c + x.w ≤ 1099511627776
  e3 : a.o + x.o ≤ 1099511627776
  s : Q a.s
  c : Q a.c
  o : Q a.o
  n1 : r.n.length ≤ 1000
  n2 : r.b.length ≤ 1000
  n3 : r.l.length ≤ 1000

/-- Cells that are no numbers. -/
def NoInt (W : World) (B : Nat) : Prop := ∀ j z, W.cell? ⟨B, j, none⟩ ≠ some (.int .i64 z)
theorem Ints.setN {W : World} {v : Value} {l : List Int} {B : Nat} (h : Ints W v l) (hb : NoInt W B) (k : Nat) (u : Value) : Ints (W.setCell ⟨B, k, none⟩ u) v l := by
  obtain ⟨hm, a, cap, rfl, hcap, h⟩ := h
  refine ⟨hm, a, cap, rfl, hcap, ?_⟩
  rcases h with h | ⟨b, o, rfl, hc⟩
  · exact .inl h
  · refine .inr ⟨b, o, rfl, fun j hj => ?_⟩
    have hne : b ≠ B := fun e => by subst e; exact hb _ _ (hc j hj)
    exact (World.cell?_setCell_other W ⟨B, k, none⟩ ⟨b, o + j, none⟩ u (fun e => hne (by cases e; rfl))).trans (hc j hj)
theorem noInt_room {W : World} {B : Nat} {v : Rv} {t : TypeId} (h : BoxA W B t v.c) : NoInt W B := by
  intro j z e
  have : (v.c)[j]? = some (.int .i64 z) := by
    simp only [World.cell?, show W.heap[B]? = _ from h] at e
    simpa using e
  have hj : j < 6 := by
    have := (Array.getElem?_eq_some_iff.1 this).1
    simpa [Rv.c] using this
  match j, hj with
  | 0, _ => simp [Rv.c] at this
  | 1, _ => simp [Rv.c] at this
  | 2, _ => simp [Rv.c] at this
  | 3, _ => simp [Rv.c] at this
  | 4, _ => simp [Rv.c] at this
  | 5, _ => simp [Rv.c] at this

theorem BoxA.drew {W : World} {B : Nat} {t : TypeId} {cs : Array Value} (h : BoxA W B t cs) : BoxA W.drew B t cs := h
/-- How it stands between two windows. -/
structure CJ (w : World) (v : Rv) (R : Rw) (W : World) : Prop where
  bR : BoxA W w.heap.size 26 v.c
  bO : BoxA W (w.heap.size + 1 + 1 + 1) 26 #[.slice none 0 0, .slice none 0 0, .slice none 0 0, .slice none 0 0, .slice none 0 0, .slice none 0 0]
  hB : Below w.heap.size w W
  hR : RoomV W v R
theorem CJ.next {w W W' : World} {v : Rv} {R : Rw} (h : CJ w v R W) (hb : Below W.heap.size W W') : CJ w v R W' := ⟨h.bR.next hb, h.bO.next hb, h.hB.trans (hb.mono h.hB.size), RoomI.below h.hR hb⟩
theorem CJ.drew {w W : World} {v : Rv} {R : Rw} (h : CJ w v R W) : CJ w v R W.drew := h.next (Below.refl _ W).drew
theorem CJ.alloc {w W : World} {v : Rv} {R : Rw} (h : CJ w v R W) (o : Obj) : CJ w v R (W.alloc o) := h.next ((Below.refl _ W).alloc (Nat.le_refl _) o)

theorem noInt_box {W : World} {B : Nat} {t : TypeId} {cs : Array Value} (h : BoxA W B t cs) (hs : ∀ (j : Nat) (z : Int), cs[j]? ≠ some (.int .i64 z)) : NoInt W B := by
  intro j z e
  have : cs[j]? = some (.int .i64 z) := by
    simp only [World.cell?, show W.heap[B]? = _ from h] at e
    simpa using e
  exact hs j z this
theorem sl_set {cs : Array Value} (hs : ∀ (j : Nat) (z : Int), cs[j]? ≠ some (.int .i64 z)) (o : Nat) (a : Option Addr) (n c : Nat) : ∀ (j : Nat) (z : Int), (cs.setIfInBounds o (.slice a n c))[j]? ≠ some (.int .i64 z) := by
  intro j z
  rw [Array.getElem?_setIfInBounds]
  split
  · split
    · simp
    · simp
  · exact hs j z
theorem sl_room (v : Rv) : ∀ (j : Nat) (z : Int), (v.c)[j]? ≠ some (.int .i64 z) := by
  intro j z
  match j with
  | 0 => simp [Rv.c]
  | 1 => simp [Rv.c]
  | 2 => simp [Rv.c]
  | 3 => simp [Rv.c]
  | 4 => simp [Rv.c]
  | 5 => simp [Rv.c]
  | j + 6 => simp [Rv.c]
theorem sl_two (a1 a2 : Option Addr) (n1 c1 n2 c2 : Nat) : ∀ (j : Nat) (z : Int), (#[Value.slice a1 n1 c1, .slice a2 n2 c2])[j]? ≠ some (.int .i64 z) := by
  intro j z
  match j with
  | 0 => simp
  | 1 => simp
  | j + 2 => simp
theorem RoomI.setN {W : World} {n1 n2 b1 b2 l1 l2 : Value} {R : Rw} {B : Nat} (h : RoomI W n1 n2 b1 b2 l1 l2 R) (hb : NoInt W B) (k : Nat) (u : Value) : RoomI (W.setCell ⟨B, k, none⟩ u) n1 n2 b1 b2 l1 l2 R :=
  ⟨h.n1.setN hb k u, h.n2.setN hb k u, h.b1.setN hb k u, h.b2.setN hb k u, h.l1.setN hb k u, h.l2.setN hb k u⟩
/-- A store into a box of slices of the call's own. -/
theorem CJ.setZ {w W : World} {v : Rv} {R : Rw} {B : Nat} {t : TypeId} {cs : Array Value} (h : CJ w v R W) (hZ : BoxA W B t cs) (hs : ∀ (j : Nat) (z : Int), cs[j]? ≠ some (.int .i64 z)) (hB : w.heap.size + 3 < B) (j : Nat) (s : Value) : CJ w v R (W.setCell ⟨B, j, none⟩ s) :=
  ⟨h.bR.other (by omega) j s, h.bO.other (by omega) j s, h.hB.setCell (p := ⟨B, j, none⟩) (by show w.heap.size ≤ B; omega) _, RoomI.setN h.hR (noInt_box hZ hs) j s⟩

/-- A profile of the room is replaced. -/
theorem CJ.putR {w X : World} {u u' : Rv} {T T' : Rw} {o : Nat} {a1 a2 : Option Addr} {n1 c1 n2 c2 : Nat} {m1 m2 : List Int} (h : CJ w u T X) (hu : u'.c = (u.c.setIfInBounds o (.slice a1 n1 c1)).setIfInBounds (o + 1) (.slice a2 n2 c2))
    (hnx : ∀ W, RoomV W u T → Ints W (.slice a1 n1 c1) m1 → Ints W (.slice a2 n2 c2) m2 → RoomV W u' T') (h1 : Ints X (.slice a1 n1 c1) m1) (h2 : Ints X (.slice a2 n2 c2) m2) :
    CJ w u' T' ((X.setCell ⟨w.heap.size, o, none⟩ (.slice a1 n1 c1)).setCell ⟨w.heap.size, o + 1, none⟩ (.slice a2 n2 c2)).drew := by
  have q0 := noInt_box h.bR (sl_room u)
  have q1 := noInt_box (h.bR.set o (.slice a1 n1 c1)) (sl_set (sl_room u) o _ _ _)
  refine CJ.drew ⟨?_, (h.bO.other (by omega) _ _).other (by omega) _ _, (h.hB.setCell (p := ⟨w.heap.size, o, none⟩) (Nat.le_refl _) _).setCell (p := ⟨w.heap.size, o + 1, none⟩) (Nat.le_refl _) _, hnx _ ?_ ((h1.setN q0 _ _).setN q1 _ _) ((h2.setN q0 _ _).setN q1 _ _)⟩
  · rw [hu]; exact (h.bR.set o _).set (o + 1) _
  · exact RoomI.setN (RoomI.setN h.hR q0 _ _) q1 _ _

theorem sl_six (a b c d e f : Option Addr) (a1 a2 b1 b2 c1 c2 d1 d2 e1 e2 f1 f2 : Nat) : ∀ (j : Nat) (z : Int), (#[Value.slice a a1 a2, .slice b b1 b2, .slice c c1 c2, .slice d d1 d2, .slice e e1 e2, .slice f f1 f2])[j]? ≠ some (.int .i64 z) := by
  intro j z
  match j with
  | 0 => simp
  | 1 => simp
  | 2 => simp
  | 3 => simp
  | 4 => simp
  | 5 => simp
  | j + 6 => simp
/-- Six slices are stored into a box of six. -/
theorem room_six {W : World} {B : Nat} {t : TypeId} {u : Rv} {T : Rw} (h : BoxA W B t #[.slice none 0 0, .slice none 0 0, .slice none 0 0, .slice none 0 0, .slice none 0 0, .slice none 0 0]) (hR : RoomV W u T) :
    RoomV ((((((W.setCell ⟨B, 0, none⟩ (.slice u.p1 u.q1 u.r1)).setCell ⟨B, 1, none⟩ (.slice u.p2 u.q2 u.r2)).setCell ⟨B, 2, none⟩ (.slice u.p3 u.q3 u.r3)).setCell ⟨B, 3, none⟩ (.slice u.p4 u.q4 u.r4)).setCell ⟨B, 4, none⟩ (.slice u.p5 u.q5 u.r5)).setCell ⟨B, 5, none⟩ (.slice u.p6 u.q6 u.r6)) u T := by
  have h1 := h.set 0 (.slice u.p1 u.q1 u.r1)
  have h2 := h1.set 1 (.slice u.p2 u.q2 u.r2)
  have h3 := h2.set 2 (.slice u.p3 u.q3 u.r3)
  have h4 := h3.set 3 (.slice u.p4 u.q4 u.r4)
  have h5 := h4.set 4 (.slice u.p5 u.q5 u.r5)
  have s0 := sl_six none none none none none none 0 0 0 0 0 0 0 0 0 0 0 0
  have s1 := sl_set s0 0 u.p1 u.q1 u.r1
  have s2 := sl_set s1 1 u.p2 u.q2 u.r2
  have s3 := sl_set s2 2 u.p3 u.q3 u.r3
  have s4 := sl_set s3 3 u.p4 u.q4 u.r4
  have s5 := sl_set s4 4 u.p5 u.q5 u.r5
  exact RoomI.setN (RoomI.setN (RoomI.setN (RoomI.setN (RoomI.setN (RoomI.setN hR (noInt_box h s0) _ _) (noInt_box h1 s1) _ _) (noInt_box h2 s2) _ _) (noInt_box h3 s3) _ _) (noInt_box h4 s4) _ _) (noInt_box h5 s5) _ _

/-- One window, whichever it is. -/
structure Prt (d : Int → Int) (r : Rm) (x : Shp) (a : Slt) (u : Rv) (T : Rw) (k : Nat) (f l n hi : Int) (g : FuncId) (o : Nat) (L : List (Int × Int)) (p1 p2 : Option Addr) (q1 r1 q2 r2 : Nat) : Prop where
  ix : ∀ w, (Instr.index 58 (.agg (partsC x a)) (.int .i64 (k : Int))).run Try.prog w = .ok (.agg #[.int .i64 f, .int .i64 l, .int .i64 n, .func (.func g) #[] #[]]) w
  en : ∀ B w, (callFunc g #[.pointer (some ⟨B, 0, none⟩)]).run Try.prog w = .ok (.enter g #[.pointer (some ⟨B, 0, none⟩)]) w
  of : ∀ B w, Calls Try.prog g #[.pointer (some ⟨B, 0, none⟩)] w fun e w' => e = .returned (.pointer (some ⟨B, o, none⟩)) ∧ w = w'
  c1 : u.c[o]? = some (.slice p1 q1 r1)
  c2 : u.c[o + 1]? = some (.slice p2 q2 r2)
  pr : ∀ W, RoomV W u T → Prof W (.agg #[.slice p1 q1 r1, .slice p2 q2 r2]) (L.map Prod.fst) (L.map Prod.snd)
  ok : Ok L
  sum : f + l = hi
  qf : Q f
  qh : Q hi
  qn : Q n
  good : ∀ t, Q t → Q (more L f hi (d n) t)
  len : L.length ≤ 1998
  next : ∀ (M : List (Int × Int)) (a1 : Option Addr) (n1 c1 : Nat) (a2 : Option Addr) (n2 c2 : Nat), Turned L f hi (d n) M → Ok M → M.length ≤ L.length + 2 →
    ∃ (u' : Rv) (T' : Rw) (y' : Rm), u'.c = (u.c.setIfInBounds o (.slice a1 n1 c1)).setIfInBounds (o + 1) (.slice a2 n2 c2) ∧ T'.Is y' ∧ y'.Ok ∧ Stg d r x a (k + 1) y' ∧
      (y'.n.length ≤ r.n.length + 2 * (k + 1) ∧ y'.b.length ≤ r.b.length + 2 * (k + 1) ∧ y'.l.length ≤ r.l.length + 2 * (k + 1)) ∧
      ∀ W, RoomV W u T → Ints W (.slice a1 n1 c1) (M.map Prod.fst) → Ints W (.slice a2 n2 c2) (M.map Prod.snd) → RoomV W u' T'

theorem prt {d : Int → Int} {r : Rm} {x : Shp} {a : Slt} {u : Rv} {T : Rw} {y : Rm} (hx : x.Q) (hf : Fine d r x a) (hT : T.Is y) (hy : y.Ok) : ∀ k, k < 4 → Stg d r x a k y → (y.n.length ≤ r.n.length + 2 * k ∧ y.b.length ≤ r.b.length + 2 * k ∧ y.l.length ≤ r.l.length + 2 * k) →
    ∃ (f l n hi : Int) (g : FuncId) (o : Nat) (L : List (Int × Int)) (p1 p2 : Option Addr) (q1 r1 q2 r2 : Nat), Prt d r x a u T k f l n hi g o L p1 p2 q1 r1 q2 r2 := by
  have i1 := hx.i.1
  have w1 := hx.w.1
  have o1 := hx.o.1
  have s1 := hf.s.1
  have c1 := hf.c.1
  have t1 := hf.o.1
  have n1 := hf.n1
  have n2 := hf.n2
  have n3 := hf.n3
  intro k hk hs hl
  obtain ⟨hl1, hl2, hl3⟩ := hl
  match k, hk with
  | 0, _ =>
    have e : y = r := hs
    subst e
    exact ⟨a.s, x.i, x.l, a.s + x.i, 32, 4, y.l, _, _, _, _, _, _, ix4_0 x a, fun _ _ => by kernel_rfl, lanes_any, rfl, rfl, fun W h => by have h := h.l; rw [hT.al, hT.nl] at h; exact h, hy.l, rfl, hf.s, ⟨by omega, hf.e1⟩, hx.l, hf.g1, by omega,
      fun M a1 n1 c1 a2 n2 c2 hM hMo hMl => ⟨{ u with p5 := a1, q5 := n1, r5 := c1, p6 := a2, q6 := n2, r6 := c2 }, { T with al := M.map Prod.fst, nl := M.map Prod.snd }, { y with l := M }, rfl, ⟨hT.an, hT.nn, hT.ab, hT.nb, rfl, rfl⟩, ⟨hy.n, hy.b, hMo⟩, ⟨rfl, rfl, hM⟩, ⟨by show y.n.length ≤ _; omega, by show y.b.length ≤ _; omega, by show M.length ≤ _; omega⟩, fun W h h1 h2 => ⟨h.n1, h.n2, h.b1, h.b2, h1, h2⟩⟩⟩
  | 1, _ =>
    obtain ⟨e1, e2, e3⟩ := hs
    exact ⟨a.c, x.w, x.n, a.c + x.w, 33, 0, y.n, _, _, _, _, _, _, ix4_1 x a, fun _ _ => by kernel_rfl, nodes_any, rfl, rfl, fun W h => by have h := h.n; rw [hT.an, hT.nn] at h; exact h, hy.n, rfl, hf.c, ⟨by omega, hf.e2⟩, hx.n, (by rw [e1]; exact hf.g2), by omega,
      fun M a1 n1 c1 a2 n2 c2 hM hMo hMl => ⟨{ u with p1 := a1, q1 := n1, r1 := c1, p2 := a2, q2 := n2, r2 := c2 }, { T with an := M.map Prod.fst, nn := M.map Prod.snd }, { y with n := M }, rfl, ⟨rfl, rfl, hT.ab, hT.nb, hT.al, hT.nl⟩, ⟨hMo, hy.b, hy.l⟩, ⟨e2, e3, by rw [e1] at hM; exact hM⟩, ⟨by show M.length ≤ _; omega, by show y.b.length ≤ _; omega, by show y.l.length ≤ _; omega⟩, fun W h h1 h2 => ⟨h1, h2, h.b1, h.b2, h.l1, h.l2⟩⟩⟩
  | 2, _ =>
    obtain ⟨e1, e2, e3⟩ := hs
    exact ⟨a.o, x.o, x.l, a.o + x.o, 32, 4, y.l, _, _, _, _, _, _, ix4_2 x a, fun _ _ => by kernel_rfl, lanes_any, rfl, rfl, fun W h => by have h := h.l; rw [hT.al, hT.nl] at h; exact h, hy.l, rfl, hf.o, ⟨by omega, hf.e3⟩, hx.l, hf.g3 _ e2, by omega,
      fun M a1 n1 c1 a2 n2 c2 hM hMo hMl => ⟨{ u with p5 := a1, q5 := n1, r5 := c1, p6 := a2, q6 := n2, r6 := c2 }, { T with al := M.map Prod.fst, nl := M.map Prod.snd }, { y with l := M }, rfl, ⟨hT.an, hT.nn, hT.ab, hT.nb, rfl, rfl⟩, ⟨hy.n, hy.b, hMo⟩, ⟨e1, ⟨y.l, hy.l, e2, hM⟩, e3⟩, ⟨by show y.n.length ≤ _; omega, by show y.b.length ≤ _; omega, by show M.length ≤ _; omega⟩, fun W h h1 h2 => ⟨h.n1, h.n2, h.b1, h.b2, h1, h2⟩⟩⟩
  | 3, _ =>
    obtain ⟨e1, e2, e3⟩ := hs
    exact ⟨a.s, a.o + x.o - a.s, x.b, a.o + x.o, 34, 2, y.b, _, _, _, _, _, _, ix4_3 x a, fun _ _ => by kernel_rfl, bytes_any, rfl, rfl, fun W h => by have h := h.b; rw [hT.ab, hT.nb] at h; exact h, hy.b, by omega, hf.s, ⟨by omega, hf.e3⟩, hx.b, (by rw [e1]; exact hf.g4), by omega,
      fun M a1 n1 c1 a2 n2 c2 hM hMo hMl => ⟨{ u with p3 := a1, q3 := n1, r3 := c1, p4 := a2, q4 := n2, r4 := c2 }, { T with ab := M.map Prod.fst, nb := M.map Prod.snd }, { y with b := M }, rfl, ⟨hT.an, hT.nn, rfl, rfl, hT.al, hT.nl⟩, ⟨hy.n, hMo, hy.l⟩, ⟨by rw [e1] at hM; exact hM, e2, e3⟩, ⟨by show y.n.length ≤ _; omega, by show M.length ≤ _; omega, by show y.l.length ≤ _; omega⟩, fun W h h1 h2 => ⟨h.n1, h.n2, h1, h2, h.l1, h.l2⟩⟩⟩
end Go.Proofs.Ytigomdihkojdmaa.gn
