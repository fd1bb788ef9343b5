/- StepsOwn: rows that are copied, and rows that are written. -/
import Derived.Test.YtoofogmlodfgmaaStL5
namespace Go.Proofs.Ytoofogmlodfgmaa.gn
open Go.RowKit Go.Shelf
open Go.Proofs.Ytoofogmlodfgmaa.sp

/-- All of a slice, appended to an empty one that was just built: a row with the same numbers; nothing that was there has changed. -/
theorem step_append_copy {ops : Array Oper} {o : Oper} {a : Act} {w : World} {K : Act → World → Prop} {Q : Exit → Act → World → Prop} {E : Prop} (hgd : o.guard = none) (s x : Operand)
    (ho : o.op = .call { callee := .builtin .append, args := #[s, x], argTypes := #[22, 22] })
    (b : Nat) (hs : a.eval s = .slice (some ⟨b, 0, none⟩) 0 0) (v : Value) (l : List Int) (hx : a.eval x = v) (hv : Ints w v l) (hlim : l.length ≤ 100000)
    (hK : ∀ d n c w', Ints w' (.slice d n c) l → Below w.heap.size w w' → K (a.put o.dst (.slice d n c)) w') :
    if Region.wanted o (yielded ops a.tmps) = true then Oper.wp Try.prog o a w K Q else E := by
  obtain ⟨i0, hi0, hz0, hz1, hz2⟩ := info_parts Try.info2
  have hw : Region.wanted o (yielded ops a.tmps) = true := by simp [Region.wanted, hgd]
  rw [if_pos hw]
  obtain ⟨hm, ad, cap, rfl, hcap, hcs⟩ := hv
  by_cases h0 : l.length = 0
  · obtain rfl : l = [] := List.eq_nil_of_length_eq_zero h0
    have hrun : (Builtin.append_ #[22, 22] o.type #[.slice (some ⟨b, 0, none⟩) 0 0, .slice ad 0 cap]).run Try.prog w = .ok (.slice (some ⟨b, 0, none⟩) 0 0) w := by
      rcases ad with _ | ad <;> simp [Builtin.append_, run_underlying Try.underlying22, sizeOf, typeInfo, hi0, Builtin.lenOf, Builtin.firstCells, storeCells, loadCells, loadCellsFrom]
    unfold Oper.wp
    simp at hx
    simp [execOp, ho, resolve, invoke, builtin, hs, hx, hrun, Result.andThen]
    exact hK _ _ _ w ⟨by decide, some ⟨b, 0, none⟩, 0, rfl, ⟨Nat.le_refl _, by decide⟩, .inl rfl⟩ (Below.refl _ _)
  · rcases hcs with h | ⟨p, q, rfl, hc⟩
    · exact absurd h h0
    · obtain ⟨v', w', hrun, r1, r2⟩ := run_append_arg_grows (P := Try.prog) (w := w) 22 o.type 2 i0 (.int .i64 0) 1 8 Try.underlying22 hi0 hz0 hz1 hz2 rfl (by decide) ⟨b, 0, none⟩ 0 0 [] rfl
        (fun j u hj => by simp at hj) ⟨p, q, none⟩ l.length cap (l.map (Value.int .i64)) (by simp) (fun j u hj => by
          rw [add_lit]
          simp only [List.getElem?_map, Option.map_eq_some_iff] at hj
          obtain ⟨z, hz, rfl⟩ := hj
          obtain ⟨hlt, rfl⟩ := List.getElem?_eq_some_iff.1 hz
          exact hc j hlt) (by omega) (by unfold maxLen; omega) (by omega)
      unfold Oper.wp
      simp [execOp, ho, resolve, invoke, builtin, hs, hx, hrun, Result.andThen]
      rw [Nat.zero_add, List.nil_append] at r1
      have r1' : OwnI w' w.heap.size v' l := r1
      obtain ⟨d, c, rfl⟩ := r1'.slice
      exact hK _ _ _ w' (r1'.ints hm) ⟨r2.os, r2.tape, r2.output, r2.size, fun k hk => r2.block k hk (by simp)⟩

/-- How StepsOwn's copy stands: what has been copied so far. -/
structure Rg (w0 : World) (U1 U2 : Option Value) (l1 l2 : List Int) (W : World) : Prop where
  hB : Below w0.heap.size w0 W
  h1 : ∀ u, U1 = some u → Ints W u l1
  h2 : ∀ u, U2 = some u → Ints W u l2
theorem Rg.next {w0 W W' : World} {U1 U2 : Option Value} {l1 l2 : List Int} (h : Rg w0 U1 U2 l1 l2 W) (hb : Below W.heap.size W W') : Rg w0 U1 U2 l1 l2 W' :=
  ⟨h.hB.trans (hb.mono h.hB.size), fun u hu => (h.h1 u hu).below hb (Nat.le_refl _), fun u hu => (h.h2 u hu).below hb (Nat.le_refl _)⟩
theorem Rg.start (w0 : World) (l1 l2 : List Int) : Rg w0 none none l1 l2 w0 := ⟨Below.refl _ _, (fun _ h => by cases h), (fun _ h => by cases h)⟩
theorem Rg.put1 {w0 W W' : World} {U1 U2 : Option Value} {l1 l2 : List Int} {u : Value} (h : Rg w0 U1 U2 l1 l2 W) (hb : Below W.heap.size W W') (hu : Ints W' u l1) : Rg w0 (some u) U2 l1 l2 W' :=
  ⟨(h.next hb).hB, (fun _ e => by cases e; exact hu), (h.next hb).h2⟩
theorem Rg.put2 {w0 W W' : World} {U1 U2 : Option Value} {l1 l2 : List Int} {u : Value} (h : Rg w0 U1 U2 l1 l2 W) (hb : Below W.heap.size W W') (hu : Ints W' u l2) : Rg w0 U1 (some u) l1 l2 W' :=
  ⟨(h.next hb).hB, (h.next hb).h1, (fun _ e => by cases e; exact hu)⟩

theorem Rg.set2 {w0 W : World} {U1 U2 : Option Value} {l1 l2 : List Int} {B : Nat} {t : TypeId} {a1 a2 : Option Addr} {n1 c1 n2 c2 : Nat} (h : Rg w0 U1 U2 l1 l2 W) (hb : Box2 W B t (.slice a1 n1 c1) (.slice a2 n2 c2)) (hB : w0.heap.size ≤ B) {a3 a4 : Option Addr} {n3 c3 n4 c4 : Nat} :
    Rg w0 U1 U2 l1 l2 ((W.setCell ⟨B, 0, none⟩ (.slice a3 n3 c3)).setCell ⟨B, 1, none⟩ (.slice a4 n4 c4)) :=
  ⟨(h.hB.setCell (p := ⟨B, 0, none⟩) hB _).setCell (p := ⟨B, 1, none⟩) hB _, (fun u hu => ((h.h1 u hu).set hb 0 _).set (hb.setA _) 1 _), (fun u hu => ((h.h2 u hu).set hb 0 _).set (hb.setA _) 1 _)⟩

/-- A slice that may be written: its n cells lie in a block from B on, below H. -/
def Wr (W : World) (B H : Nat) (a : Option Addr) (n : Nat) : Prop := n = 0 ∨ ∃ g, a = some ⟨g, 0, none⟩ ∧ B ≤ g ∧ g < H ∧ ∃ cells t, W.heap[g]? = some (.cells cells t (0, 0)) ∧ n ≤ cells.size
theorem Wr.next {W W' : World} {B H n : Nat} {a : Option Addr} (h : Wr W B H a n) (hb : Below W.heap.size W W') : Wr W' B H a n := by
  rcases h with h | ⟨g, rfl, h1, h2, cells, t, hc, hn⟩
  · exact .inl h
  · exact .inr ⟨g, rfl, h1, h2, cells, t, (hb.block g (Array.getElem?_eq_some_iff.1 hc).1).trans hc, hn⟩
theorem Wr.set {W : World} {B H n : Nat} {a : Option Addr} (h : Wr W B H a n) (p : Addr) (u : Value) : Wr (W.setCell p u) B H a n := by
  rcases h with h | ⟨g, rfl, h1, h2, cells, t, hc, hn⟩
  · exact .inl h
  · by_cases hp : g = p.block
    · subst hp
      cases hs : p.spot with
      | none => exact .inr ⟨_, rfl, h1, h2, cells.setIfInBounds p.off u, t, by simp [World.setCell, Array.getElem?_modify, hc, hs], by simpa using hn⟩
      | some z => exact .inr ⟨_, rfl, h1, h2, cells, t, by simp [World.setCell, Array.getElem?_modify, hc, hs], hn⟩
    · exact .inr ⟨g, rfl, h1, h2, cells, t, (Below.heap_setCell _ _ _ _ hp).trans hc, hn⟩
/-- One of its cells. -/
theorem Wr.cell {W : World} {B H n k : Nat} {a : Option Addr} (h : Wr W B H a n) (hk : k < n) : ∃ g, a = some ⟨g, 0, none⟩ ∧ B ≤ g ∧ g < H := by
  rcases h with h | ⟨g, rfl, h1, h2, _⟩
  · omega
  · exact ⟨g, rfl, h1, h2⟩
theorem Wr.there {W : World} {B H n k g : Nat} (h : Wr W B H (some ⟨g, 0, none⟩) n) (hk : k < n) : (∃ u, W.cell? ⟨g, k, none⟩ = some u) ∧ W.frozen? ⟨g, k, none⟩ = false := by
  rcases h with h | ⟨g', e, h1, h2, cells, t, hc, hn⟩
  · omega
  · simp at e
    subst e
    refine ⟨⟨cells[k]'(by omega), ?_⟩, ?_⟩
    · simp [World.cell?, hc, show k < cells.size by omega]
    · simp [World.frozen?, hc]
theorem wr_of_own {W : World} {B n c : Nat} {a : Option Addr} {l : List Int} (h : OwnI W B (.slice a n c) l) : Wr W B W.heap.size a n := by
  rcases h.2 with ⟨e, _⟩ | ⟨g, cap, cur, e, hB, hg, hc, _, hs, _⟩
  · simp at e; exact .inl e.2.1
  · simp at e
    obtain ⟨rfl, rfl, rfl⟩ := e
    exact .inr ⟨g, rfl, hB, (Array.getElem?_eq_some_iff.1 hg).1, cur, _, hg, by omega⟩

/-- What Take and Give tell, whatever is asked: rows of their own. -/
def Owns (w : World) (e : Ending) (w' : World) : Prop :=
  ∃ (c : Int) (a1 : Option Addr) (n1 c1 : Nat) (a2 : Option Addr) (n2 c2 : Nat), e = .returned (.tuple #[.agg #[.slice a1 n1 c1, .slice a2 n2 c2], .int .i64 c]) ∧ Wr w' w.heap.size w'.heap.size a1 n1 ∧ Wr w' w.heap.size w'.heap.size a2 n2 ∧ n1 ≤ 4000 ∧ n2 ≤ 4000 ∧ Below w.heap.size w w'
theorem res_len {L M : List (Int × Int)} {a b n c : Int} (h : Res L a b n c M) : M.length ≤ 2000 := by
  rcases h with ⟨_, _, h⟩ | ⟨_, rfl, _⟩
  · exact h
  · exact Nat.zero_le _
theorem owns_turns {L : List (Int × Int)} {lo hi d : Int} {w : World} (e : Ending) (w' : World) (h : Turns L lo hi d w e w') : Owns w e w' := by
  obtain ⟨c, M, a1, n1, c1, a2, n2, c2, rfl, hres, o1, o2, hb⟩ := h
  have hl := res_len hres
  have e1 := o1.len
  have e2 := o2.len
  rw [List.length_map] at e1 e2
  exact ⟨c, a1, n1, c1, a2, n2, c2, rfl, wr_of_own o1, wr_of_own o2, by omega, by omega, hb⟩
theorem owns_not {w : World} (e : Ending) (w' : World) (h : TurnsNot w e w') : Owns w e w' := by
  obtain ⟨rfl, hb⟩ := h
  exact ⟨2, none, 0, 0, none, 0, 0, rfl, .inl rfl, .inl rfl, by omega, by omega, hb⟩
theorem take_owns {w : World} {v : Value} {at_ m : List Int} (lo hi d : Int) (h : Prof w v at_ m) : Calls Try.prog 11 #[v, .int .i64 lo, .int .i64 hi, .int .i64 d] w (Owns w) := by
  by_cases hc : OkP at_ m ∧ Q lo ∧ Q hi ∧ Q d
  · obtain ⟨⟨L, hL, rfl, rfl⟩, h0, h1, h2⟩ := hc
    exact (take_yes h hL h0 h1 h2).mono owns_turns
  · exact (take_no h hc).mono owns_not
theorem give_owns {w : World} {v : Value} {at_ m : List Int} (lo hi d : Int) (h : Prof w v at_ m) : Calls Try.prog 12 #[v, .int .i64 lo, .int .i64 hi, .int .i64 d] w (Owns w) := by
  by_cases hc : OkP at_ m ∧ Q lo ∧ Q hi ∧ Q d
  · obtain ⟨⟨L, hL, rfl, rfl⟩, h0, h1, h2⟩ := hc
    exact (give_yes h hL h0 h1 h2).mono owns_turns
  · exact (give_no h hc).mono owns_not

/-- How StepsOwn stands while it writes. -/
structure LW (T0 : Nat) (W0 : World) (ga gb : Nat) (a1 : Option Addr) (n1 c1 : Nat) (a2 : Option Addr) (n2 c2 : Nat) (b1 : Option Addr) (m1 d1 : Nat) (b2 : Option Addr) (m2 d2 : Nat) (W : World) : Prop where
  bA : Box2 W ga 24 (.slice a1 n1 c1) (.slice a2 n2 c2)
  bB : Box2 W gb 24 (.slice b1 m1 d1) (.slice b2 m2 d2)
  r1 : Wr W T0 ga a1 n1
  r2 : Wr W T0 ga a2 n2
  r3 : Wr W (ga + 1) gb b1 m1
  r4 : Wr W (ga + 1) gb b2 m2
  hg : ga < gb
  hT : T0 ≤ ga
  hB : Below T0 W0 W
theorem LW.set {T0 : Nat} {W0 : World} {ga gb : Nat} {a1 : Option Addr} {n1 c1 : Nat} {a2 : Option Addr} {n2 c2 : Nat} {b1 : Option Addr} {m1 d1 : Nat} {b2 : Option Addr} {m2 d2 : Nat} {W : World} (h : LW T0 W0 ga gb a1 n1 c1 a2 n2 c2 b1 m1 d1 b2 m2 d2 W) (p : Addr) (u : Value) (h0 : T0 ≤ p.block) (h1 : p.block ≠ ga) (h2 : p.block ≠ gb) : LW T0 W0 ga gb a1 n1 c1 a2 n2 c2 b1 m1 d1 b2 m2 d2 (W.setCell p u) :=
  ⟨(Below.heap_setCell _ _ _ _ (Ne.symm h1)).trans h.bA, (Below.heap_setCell _ _ _ _ (Ne.symm h2)).trans h.bB, h.r1.set _ _, h.r2.set _ _, h.r3.set _ _, h.r4.set _ _, h.hg, h.hT, h.hB.setCell h0 _⟩
theorem LW.drew {T0 : Nat} {W0 : World} {ga gb : Nat} {a1 : Option Addr} {n1 c1 : Nat} {a2 : Option Addr} {n2 c2 : Nat} {b1 : Option Addr} {m1 d1 : Nat} {b2 : Option Addr} {m2 d2 : Nat} {W : World} (h : LW T0 W0 ga gb a1 n1 c1 a2 n2 c2 b1 m1 d1 b2 m2 d2 W) : LW T0 W0 ga gb a1 n1 c1 a2 n2 c2 b1 m1 d1 b2 m2 d2 W.drew :=
  ⟨h.bA, h.bB, h.r1, h.r2, h.r3, h.r4, h.hg, h.hT, h.hB.drew⟩
end Go.Proofs.Ytoofogmlodfgmaa.gn
