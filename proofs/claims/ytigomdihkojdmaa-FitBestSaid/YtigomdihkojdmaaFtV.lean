/- FitMore: what Give and Slot tell there. -/
import Derived.Test.YtigomdihkojdmaaFtR
import Derived.Test.YtigomdihkojdmaaFtS
namespace Go.Proofs.Ytigomdihkojdmaa.gn
open Go.RowKit Go.Shelf
open Go.Proofs.Ytigomdihkojdmaa.sp

/-- What steps.Give tells, whatever is handed in. -/
def Gv (L : List (Int × Int)) (w : World) (e : Ending) (w' : World) : Prop :=
  ∃ (c : Int) (a1 : Option Addr) (n1 c1 : Nat) (a2 : Option Addr) (n2 c2 : Nat), e = .returned (.tuple #[.agg #[.slice a1 n1 c1, .slice a2 n2 c2], .int .i64 c]) ∧ Below w.heap.size w w' ∧
    (c ≠ 0 ∨ c = 0 ∧ ∃ M, Ok M ∧ (∀ t, 0 ≤ t → sp.val L t ≤ sp.val M t) ∧ Ints w' (.slice a1 n1 c1) (M.map Prod.fst) ∧ Ints w' (.slice a2 n2 c2) (M.map Prod.snd))
theorem give_total {w : World} {v : Value} {L : List (Int × Int)} (lo hi n : Int) (h : Prof w v (L.map Prod.fst) (L.map Prod.snd)) (hL : Ok L) (hl : L.length ≤ 1998) : Calls Try.prog 14 #[v, .int .i64 lo, .int .i64 hi, .int .i64 n] w (Gv L w) := by
  by_cases hq : Q lo ∧ Q hi ∧ Q n
  · refine (give_yes h hL hq.1 hq.2.1 hq.2.2).mono ?_
    rintro e w1 ⟨c, M, a1, n1, c1, a2, n2, c2, rfl, hres, o1, o2, hb⟩
    refine ⟨c, a1, n1, c1, a2, n2, c2, rfl, hb, ?_⟩
    rcases hres.small hl with ⟨rfl, hT, hM, _⟩ | ⟨rfl, _, _⟩
    · exact .inr ⟨rfl, M, hM, turned_more hq.2.2.1 hT, o1.ints (by rw [List.length_map]; have := hM.le; unfold maxLen; omega), o2.ints (by rw [List.length_map]; have := hM.le; unfold maxLen; omega)⟩
    · exact .inl (by decide)
  · refine (give_no h fun hh => hq hh.2).mono ?_
    rintro e w1 ⟨rfl, hb⟩
    exact ⟨2, none, 0, 0, none, 0, 0, rfl, hb, .inl (by decide)⟩

/-- The boxes, with that of the first slot. -/
structure MB (w : World) (v : Rv) (R : Rw) (xc : Array Value) (B3 B4 B10 : Nat) (s c o : Int) (W : World) : Prop where
  l : LB w v R xc B3 B4 W
  z : BoxA W B10 30 #[.int .i64 s, .int .i64 c, .int .i64 o]
theorem MB.next {w W W' : World} {v : Rv} {R : Rw} {xc : Array Value} {B3 B4 B10 : Nat} {s c o : Int} (h : MB w v R xc B3 B4 B10 s c o W) (hb : Below W.heap.size W W') : MB w v R xc B3 B4 B10 s c o W' := ⟨h.l.next hb, h.z.next hb⟩
theorem MB.alloc {w W : World} {v : Rv} {R : Rw} {xc : Array Value} {B3 B4 B10 : Nat} {s c o : Int} (h : MB w v R xc B3 B4 B10 s c o W) (ob : Obj) : MB w v R xc B3 B4 B10 s c o (W.alloc ob) := h.next ((Below.refl _ W).alloc (Nat.le_refl _) ob)
/-- A store into a box that is another one, and the call's own. -/
theorem MB.other {w W : World} {v : Rv} {R : Rw} {xc : Array Value} {B3 B4 B10 D : Nat} {s c o : Int} (h : MB w v R xc B3 B4 B10 s c o W) (h3 : B3 ≠ D) (h4 : B4 ≠ D) (h10 : B10 ≠ D) (hD : w.heap.size ≤ D) (j : Nat) (u : Value) : MB w v R xc B3 B4 B10 s c o (W.setCell ⟨D, j, none⟩ u) :=
  ⟨⟨h.l.bR.other h3 j u, h.l.bX.other h4 j u, h.l.hB.setCell (p := ⟨D, j, none⟩) hD _, h.l.h0, h.l.l3, h.l.l4, h.l.ne⟩, h.z.other h10 j u⟩

/-- Which profile is given to. -/
structure Sel (v : Rv) (R : Rw) (r : Rm) (k o : Nat) (L : List (Int × Int)) (p1 p2 : Option Addr) (q1 r1 q2 r2 : Nat) : Prop where
  ptr : ∀ B : Nat, (#[.pointer (some ⟨B, 0, none⟩), .pointer (some ⟨B, 2, none⟩), .pointer (some ⟨B, 4, none⟩)] : Array Value)[k % 3]? = some (.pointer (some ⟨B, o, none⟩))
  c1 : v.c[o]? = some (.slice p1 q1 r1)
  c2 : v.c[o + 1]? = some (.slice p2 q2 r2)
  pr : ∀ W, RoomV W v R → Prof W (.agg #[.slice p1 q1 r1, .slice p2 q2 r2]) (L.map Prod.fst) (L.map Prod.snd)
  ok : Ok L
  len : L.length ≤ 1998
  next : ∀ (M : List (Int × Int)) (a1 : Option Addr) (n1 c1 : Nat) (a2 : Option Addr) (n2 c2 : Nat), Ok M → (∀ t, 0 ≤ t → sp.val L t ≤ sp.val M t) →
    ∃ (u' : Rv) (T' : Rw) (y' : Rm), u'.c = (v.c.setIfInBounds o (.slice a1 n1 c1)).setIfInBounds (o + 1) (.slice a2 n2 c2) ∧ T'.Is y' ∧ y'.Ok ∧ MoreR r y' ∧
      ∀ W, RoomV W v R → Ints W (.slice a1 n1 c1) (M.map Prod.fst) → Ints W (.slice a2 n2 c2) (M.map Prod.snd) → RoomV W u' T'
theorem sel {v : Rv} {R : Rw} {r : Rm} (k : Nat) (hT : R.Is r) (hr : r.Ok) (hl : r.n.length + r.b.length + r.l.length ≤ 40) :
    ∃ (o : Nat) (L : List (Int × Int)) (p1 p2 : Option Addr) (q1 r1 q2 r2 : Nat), Sel v R r k o L p1 p2 q1 r1 q2 r2 := by
  have h3 : k % 3 = 0 ∨ k % 3 = 1 ∨ k % 3 = 2 := by omega
  rcases h3 with h3 | h3 | h3
  · exact ⟨0, r.n, _, _, _, _, _, _, fun B => by rw [h3]; rfl, rfl, rfl, fun W h => by have h := h.n; rw [hT.an, hT.nn] at h; exact h, hr.n, by omega,
      fun M a1 n1 c1 a2 n2 c2 hM hm => ⟨{ v with p1 := a1, q1 := n1, r1 := c1, p2 := a2, q2 := n2, r2 := c2 }, { R with an := M.map Prod.fst, nn := M.map Prod.snd }, { r with n := M }, rfl, ⟨rfl, rfl, hT.ab, hT.nb, hT.al, hT.nl⟩, ⟨hM, hr.b, hr.l⟩, ⟨hm, fun _ _ => Int.le_refl _, fun _ _ => Int.le_refl _⟩, fun W h h1 h2 => ⟨h1, h2, h.b1, h.b2, h.l1, h.l2⟩⟩⟩
  · exact ⟨2, r.b, _, _, _, _, _, _, fun B => by rw [h3]; rfl, rfl, rfl, fun W h => by have h := h.b; rw [hT.ab, hT.nb] at h; exact h, hr.b, by omega,
      fun M a1 n1 c1 a2 n2 c2 hM hm => ⟨{ v with p3 := a1, q3 := n1, r3 := c1, p4 := a2, q4 := n2, r4 := c2 }, { R with ab := M.map Prod.fst, nb := M.map Prod.snd }, { r with b := M }, rfl, ⟨hT.an, hT.nn, rfl, rfl, hT.al, hT.nl⟩, ⟨hr.n, hM, hr.l⟩, ⟨fun _ _ => Int.le_refl _, hm, fun _ _ => Int.le_refl _⟩, fun W h h1 h2 => ⟨h.n1, h.n2, h1, h2, h.l1, h.l2⟩⟩⟩
  · exact ⟨4, r.l, _, _, _, _, _, _, fun B => by rw [h3]; rfl, rfl, rfl, fun W h => by have h := h.l; rw [hT.al, hT.nl] at h; exact h, hr.l, by omega,
      fun M a1 n1 c1 a2 n2 c2 hM hm => ⟨{ v with p5 := a1, q5 := n1, r5 := c1, p6 := a2, q6 := n2, r6 := c2 }, { R with al := M.map Prod.fst, nl := M.map Prod.snd }, { r with l := M }, rfl, ⟨hT.an, hT.nn, hT.ab, hT.nb, rfl, rfl⟩, ⟨hr.n, hr.b, hM⟩, ⟨fun _ _ => Int.le_refl _, fun _ _ => Int.le_refl _, hm⟩, fun W h h1 h2 => ⟨h.n1, h.n2, h.b1, h.b2, h1, h2⟩⟩⟩

/-- The slot from a later time on. -/
def Lt (s c o g : Int) (w : World) (e : Ending) (w' : World) : Prop := ∃ s' c' o' e' : Int, e = .returned (.tuple #[.agg #[.int .i64 s', .int .i64 c', .int .i64 o'], .int .i64 e']) ∧ Below w.heap.size w w' ∧ (e' = 7 ∨ e' = 0 ∧ s ≤ s' ∧ c ≤ c' ∧ o ≤ o' ∧ g ≤ s')
theorem slot_late {w : World} {v : Rv} {R : Rw} {r : Rm} {i wl p n b l f g s c o : Int} (h : RoomV w v R) (hr : r.Ok) (hR : R.Is r) (hx : Shp.Q ⟨i, wl, p, n, b, l⟩) (hf : Q f) (hg : Q g) (hfg : f ≤ g) (hz : slot? r ⟨i, wl, p, n, b, l⟩ f = some ⟨s, c, o⟩) :
    Calls Try.prog 8 #[.agg v.c, .agg #[.int .i64 i, .int .i64 wl, .int .i64 p, .int .i64 n, .int .i64 b, .int .i64 l], .int .i64 g] w (Lt s c o g w) := by
  cases hz2 : slot? r ⟨i, wl, p, n, b, l⟩ g with
  | none =>
    refine (slot6_none h hr hR hx hg hz2).mono ?_
    rintro e w1 ⟨rfl, hb⟩
    exact ⟨0, 0, 0, 7, rfl, hb, .inl rfl⟩
  | some z =>
    obtain ⟨s', c', o'⟩ := z
    obtain ⟨h1, h2, h3, h4⟩ := late_first hr hx hf hg hfg hz hz2
    refine (slot6_some h hr hR hx hg hz2).mono ?_
    rintro e w1 ⟨rfl, hb⟩
    exact ⟨s', c', o', 0, rfl, hb, .inr ⟨rfl, h1, h2, h3, h4⟩⟩
end Go.Proofs.Ytigomdihkojdmaa.gn
