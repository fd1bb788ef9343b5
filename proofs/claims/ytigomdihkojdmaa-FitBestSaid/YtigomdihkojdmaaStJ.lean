/- join. -/
import Derived.Test.YtigomdihkojdmaaStU
namespace Go.Proofs.Ytigomdihkojdmaa.gn
open Go.RowKit Go.Shelf
open Go.Proofs.Ytigomdihkojdmaa.sp
attribute [local go_sem ↓] Go.wp_at_zero Go.wp_at_succ

/-- One number more, appended to a slice of the call's own: where the row lies. -/
theorem step_append_one {ops : Array Oper} {o : Oper} {a : Act} {w : World} {K : Act → World → Prop} {Q : Exit → Act → World → Prop} {E : Prop} (hgd : o.guard = none) (s x : Operand)
    (ho : o.op = .call { callee := .builtin .append, args := #[s, x], argTypes := #[22, 22] })
    (B : Nat) (v : Value) (l : List Int) (hs : a.eval s = v) (hown : OwnI w B v l)
    (ad : Addr) (c : Nat) (hx : a.eval x = .slice (some ad) 1 c) (t : Int) (hc : w.cell? ad = some (.int .i64 t)) (hlim : l.length ≤ 100000) (hB : B ≤ w.heap.size)
    (hK : ∀ g n cap w', OwnI w' B (.slice (some ⟨g, 0, none⟩) n cap) (l ++ [t]) → w.grownBy w' v.ownBlock → (v.ownBlock = some g ∨ g = w.heap.size) → K (a.put o.dst (.slice (some ⟨g, 0, none⟩) n cap)) w') :
    if Region.wanted o (yielded ops a.tmps) = true then Oper.wp Try.prog o a w K Q else E := by
  obtain ⟨i0, hi0, hz0, hz1, hz2⟩ := info_parts Try.info2
  refine step_append_lies w hgd s x 22 ho B 2 i0 (.int .i64 0) 1 8 Try.underlying22 hi0 hz0 hz1 hz2 rfl (by decide) v l.length (l.map (Value.int .i64)) hs hown ad 1 c [.int .i64 t] hx rfl ?_ ?_ (by decide) (by unfold maxLen; omega) (by omega) hB _ rfl ?_
  · intro j u hj
    match j, hj with
    | 0, hj =>
      have hadd : ad.add 0 = ad := by simp [Addr.add]
      simp at hj; subst hj; rw [hadd]; exact hc
    | j + 1, hj => simp at hj
  · intro u hu; simp at hu; subst hu; rfl
  · intro g cap w' ho' hgb hg _
    refine hK g _ cap w' ?_ hgb hg
    unfold OwnI
    rw [List.length_append, List.map_append]
    exact ho'

theorem OwnI.slice {w : World} {B : Nat} {v : Value} {l : List Int} (h : OwnI w B v l) : ∃ a c, v = .slice a l.length c := by
  rcases h.2 with ⟨rfl, hn⟩ | ⟨g, cap, _, rfl, _⟩
  · exact ⟨none, 0, by rw [hn]⟩
  · exact ⟨_, cap, rfl⟩
/-- Rows that lie apart. -/
def Apart (u v : Value) : Prop := ∀ k, u.ownBlock = some k → v.ownBlock ≠ some k

/-- What an append to one of two rows leaves alone. -/
structure Gr (N B : Nat) (v1 v2 : Value) (W0 W : World) : Prop where
  below : Below B W0 W
  others : KeepsOthers W0 W
  same : ∀ k, k < N → some k ≠ v1.ownBlock → some k ≠ v2.ownBlock → W.heap[k]? = W0.heap[k]?
theorem Gr.refl (N B : Nat) (v1 v2 : Value) (W : World) : Gr N B v1 v2 W W := ⟨Below.refl _ _, KeepsOthers.refl _, fun _ _ _ _ => rfl⟩
theorem Gr.next {N B : Nat} {v1 v2 : Value} {W0 W W' : World} (h : Gr N B v1 v2 W0 W) (hb : Below W.heap.size W W') (hB : B ≤ W0.heap.size) (hN : N ≤ W0.heap.size) : Gr N B v1 v2 W0 W' :=
  ⟨h.below.trans (hb.mono (Nat.le_trans hB h.below.size)), ⟨Nat.le_trans h.others.size hb.size, fun k o hk ho => (hb.block k (Array.getElem?_eq_some_iff.1 (h.others.same k o hk ho)).1).trans (h.others.same k o hk ho)⟩,
   fun k hk h1 h2 => (hb.block k (Nat.lt_of_lt_of_le hk (Nat.le_trans hN h.below.size))).trans (h.same k hk h1 h2)⟩
theorem Gr.grown {N B : Nat} {v1 v2 v : Value} {l : List Int} {W0 W W' : World} (h : Gr N B v1 v2 W0 W) (hv : v = v1 ∨ v = v2) (ho : OwnI W B v l) (hg : W.grownBy W' v.ownBlock) (hB : B ≤ W0.heap.size) (hN : N ≤ W0.heap.size) : Gr N B v1 v2 W0 W' := by
  have hs := h.below.size
  refine ⟨h.below.grown hg (Nat.le_trans hB hs) fun k hk => (ho.block k hk).1, h.others.trans (KeepsOthers.of_grownBy hg fun j o ej hj => ?_), fun k hk h1 h2 => ?_⟩
  · rcases ho.2 with ⟨rfl, _⟩ | ⟨g, cap, cur, rfl, _, hgb, _⟩
    · simp [Value.ownBlock] at ej
    · obtain rfl : g = j := by simpa [Value.ownBlock] using ej
      rw [hgb] at hj; cases hj; rfl
  · refine (hg.block k (by omega) ?_).trans (h.same k hk h1 h2)
    rcases hv with rfl | rfl
    · exact h1
    · exact h2
theorem Gr.set {c B : Nat} {v1 v2 : Value} {W0 W : World} (h : Gr (c + 1) B v1 v2 W0 W) (hB : B ≤ c + 1) (j : Nat) (a : Value) : Gr (c + 1) B v1 v2 W0 (W.setCell ⟨c + 1, j, none⟩ a) :=
  ⟨h.below.setCell (p := ⟨c + 1, j, none⟩) hB _, h.others.trans (KeepsOthers.setCell _ _ _), fun k hk h1 h2 => (Below.heap_setCell _ _ _ _ (by simp; omega)).trans (h.same k hk h1 h2)⟩

/-- How two rows stand within join. -/
structure JS (c B : Nat) (v1 v2 : Value) (W0 W : World) (u1 u2 : Value) (m1 m2 : List Int) : Prop where
  o1 : OwnI W B u1 m1
  o2 : OwnI W B u2 m2
  ap : Apart u1 u2
  box : Box2 W (c + 1) 24 (.slice none 0 0) (.slice none 0 0)
  far1 : u1.ownBlock ≠ some (c + 1)
  far2 : u2.ownBlock ≠ some (c + 1)
  gr : Gr (c + 1) B v1 v2 W0 W
  hB : B ≤ W0.heap.size
  hN : c + 2 ≤ W0.heap.size
theorem JS.next {c B : Nat} {v1 v2 u1 u2 : Value} {W0 W W' : World} {m1 m2 : List Int} (h : JS c B v1 v2 W0 W u1 u2 m1 m2) (hb : Below W.heap.size W W') : JS c B v1 v2 W0 W' u1 u2 m1 m2 :=
  ⟨h.o1.below hb, h.o2.below hb, h.ap, box2_next hb h.box, h.far1, h.far2, h.gr.next hb h.hB (by have := h.hN; omega), h.hB, h.hN⟩
theorem JS.size {c B : Nat} {v1 v2 u1 u2 : Value} {W0 W : World} {m1 m2 : List Int} (h : JS c B v1 v2 W0 W u1 u2 m1 m2) : B ≤ W.heap.size ∧ c + 2 ≤ W.heap.size := ⟨Nat.le_trans h.hB h.gr.below.size, Nat.le_trans h.hN h.gr.below.size⟩
theorem JS.step1 {c B : Nat} {v1 v2 u2 : Value} {W0 W W' w1 : World} {l1 m2 : List Int} {x : Int} {g n cap : Nat} (h0 : JS c B v1 v2 W0 W v1 u2 l1 m2) (hb : Below W.heap.size W W') (hg : W'.grownBy w1 v1.ownBlock) (ho : OwnI w1 B (.slice (some ⟨g, 0, none⟩) n cap) (l1 ++ [x])) (hat : v1.ownBlock = some g ∨ g = W'.heap.size) :
    JS c B v1 v2 W0 w1 (.slice (some ⟨g, 0, none⟩) n cap) u2 (l1 ++ [x]) m2 := by
  have h := h0.next hb
  have hs := h.size
  have hN := h.hN
  refine ⟨ho, h.o2.kept fun k hk => hg.block k (h.o2.block k hk).2 (fun e => h.ap k e.symm hk), fun k hk hk2 => ?_, h.box.kept hg (fun e => h.far1 e.symm), fun e => ?_, h.far2, h.gr.grown (.inl rfl) h.o1 hg h.hB (by omega), h.hB, h.hN⟩
  · obtain rfl : g = k := by simpa [Value.ownBlock] using hk
    rcases hat with e | e
    · exact h.ap _ e hk2
    · have := (h.o2.block _ hk2).2; omega
  · obtain rfl : g = c + 1 := by simpa [Value.ownBlock] using e
    rcases hat with e | e
    · exact h.far1 e
    · omega
theorem JS.step2 {c B : Nat} {v1 v2 u1 : Value} {W0 W W' w1 : World} {m1 l2 : List Int} {x : Int} {g n cap : Nat} (h0 : JS c B v1 v2 W0 W u1 v2 m1 l2) (hb : Below W.heap.size W W') (hg : W'.grownBy w1 v2.ownBlock) (ho : OwnI w1 B (.slice (some ⟨g, 0, none⟩) n cap) (l2 ++ [x])) (hat : v2.ownBlock = some g ∨ g = W'.heap.size) :
    JS c B v1 v2 W0 w1 u1 (.slice (some ⟨g, 0, none⟩) n cap) m1 (l2 ++ [x]) := by
  have h := h0.next hb
  have hs := h.size
  have hN := h.hN
  refine ⟨h.o1.kept fun k hk => hg.block k (h.o1.block k hk).2 (fun e => h.ap k hk e.symm), ho, fun k hk hk2 => ?_, h.box.kept hg (fun e => h.far2 e.symm), h.far1, fun e => ?_, h.gr.grown (.inr rfl) h.o2 hg h.hB (by omega), h.hB, h.hN⟩
  · obtain rfl : g = k := by simpa [Value.ownBlock] using hk2
    rcases hat with e | e
    · exact h.ap _ hk e
    · have := (h.o1.block _ hk).2; omega
  · obtain rfl : g = c + 1 := by simpa [Value.ownBlock] using e
    rcases hat with e | e
    · exact h.far2 e
    · omega
theorem cell_new1 (W : World) (x : Value) (t : TypeId) : (W.alloc (.cells #[x] t)).cell? ⟨W.heap.size, 0, none⟩ = some x := (Boxed.new W t x).cell
theorem cell_first (W : World) (x : Value) (t : TypeId) (o : Obj) : ((W.alloc (.cells #[x] t)).alloc o).cell? ⟨W.heap.size, 0, none⟩ = some x := ((Boxed.new W t x).alloc o).cell
theorem cell_second (W : World) (x : Value) (t : TypeId) (o : Obj) : ((W.alloc o).alloc (.cells #[x] t)).cell? ⟨W.heap.size + 1, 0, none⟩ = some x := by
  have := (Boxed.new (W.alloc o) t x).cell
  rwa [World.size_alloc] at this
theorem cell_grown {W w1 : World} {r : Option Nat} {b : Nat} {x : Value} (hg : W.grownBy w1 r) (hc : W.cell? ⟨b, 0, none⟩ = some x) (hne : some b ≠ r) : w1.cell? ⟨b, 0, none⟩ = some x :=
  (World.cell?_of_block (a := ⟨b, 0, none⟩) (hg.block b (cell_lt hc) hne)).trans hc
/-- What join answers. -/
def Joined (B : Nat) (v1 v2 : Value) (m1 m2 : List Int) (w : World) (e : Ending) (w' : World) : Prop :=
  ∃ a1 n1 c1 a2 n2 c2, e = .returned (.agg #[.slice a1 n1 c1, .slice a2 n2 c2]) ∧ OwnI w' B (.slice a1 n1 c1) m1 ∧ OwnI w' B (.slice a2 n2 c2) m2 ∧ Apart (.slice a1 n1 c1) (.slice a2 n2 c2) ∧ Below B w w' ∧ KeepsOthers w w' ∧
    ∀ k, k < w.heap.size → some k ≠ v1.ownBlock → some k ≠ v2.ownBlock → w'.heap[k]? = w.heap[k]?

theorem joined_end {B : Nat} {v1 v2 : Value} {w W0 U : World} {g1 m1 cp1 g2 m2 cp2 : Nat} {M1 M2 : List Int} (hB : B ≤ w.heap.size) (hB0 : Below w.heap.size w W0)
    (J : JS w.heap.size B v1 v2 W0 U (.slice (some ⟨g1, 0, none⟩) m1 cp1) (.slice (some ⟨g2, 0, none⟩) m2 cp2) M1 M2) :
    ((U.setCell ⟨w.heap.size + 1, 0, none⟩ (.slice (some ⟨g1, 0, none⟩) m1 cp1)).setCell ⟨w.heap.size + 1, 1, none⟩ (.slice (some ⟨g2, 0, none⟩) m2 cp2)).cell? ⟨w.heap.size + 1, 0, none⟩ = some (.slice (some ⟨g1, 0, none⟩) m1 cp1) ∧
    ((U.setCell ⟨w.heap.size + 1, 0, none⟩ (.slice (some ⟨g1, 0, none⟩) m1 cp1)).setCell ⟨w.heap.size + 1, 1, none⟩ (.slice (some ⟨g2, 0, none⟩) m2 cp2)).cell? ⟨w.heap.size + 1, 1, none⟩ = some (.slice (some ⟨g2, 0, none⟩) m2 cp2) ∧
    (OwnI ((U.setCell ⟨w.heap.size + 1, 0, none⟩ (.slice (some ⟨g1, 0, none⟩) m1 cp1)).setCell ⟨w.heap.size + 1, 1, none⟩ (.slice (some ⟨g2, 0, none⟩) m2 cp2)) B (.slice (some ⟨g1, 0, none⟩) m1 cp1) M1 ∧
    OwnI ((U.setCell ⟨w.heap.size + 1, 0, none⟩ (.slice (some ⟨g1, 0, none⟩) m1 cp1)).setCell ⟨w.heap.size + 1, 1, none⟩ (.slice (some ⟨g2, 0, none⟩) m2 cp2)) B (.slice (some ⟨g2, 0, none⟩) m2 cp2) M2 ∧
    Apart (.slice (some ⟨g1, 0, none⟩) m1 cp1) (.slice (some ⟨g2, 0, none⟩) m2 cp2) ∧
    Below B w ((U.setCell ⟨w.heap.size + 1, 0, none⟩ (.slice (some ⟨g1, 0, none⟩) m1 cp1)).setCell ⟨w.heap.size + 1, 1, none⟩ (.slice (some ⟨g2, 0, none⟩) m2 cp2)) ∧
    KeepsOthers w ((U.setCell ⟨w.heap.size + 1, 0, none⟩ (.slice (some ⟨g1, 0, none⟩) m1 cp1)).setCell ⟨w.heap.size + 1, 1, none⟩ (.slice (some ⟨g2, 0, none⟩) m2 cp2)) ∧
    ∀ k, k < w.heap.size → some k ≠ v1.ownBlock → some k ≠ v2.ownBlock → ((U.setCell ⟨w.heap.size + 1, 0, none⟩ (.slice (some ⟨g1, 0, none⟩) m1 cp1)).setCell ⟨w.heap.size + 1, 1, none⟩ (.slice (some ⟨g2, 0, none⟩) m2 cp2)).heap[k]? = w.heap[k]?) := by
  have bQ := Box2.set2 J.box (.slice (some ⟨g1, 0, none⟩) m1 cp1) (.slice (some ⟨g2, 0, none⟩) m2 cp2)
  have hG := (J.gr.set (by omega) 0 (.slice (some ⟨g1, 0, none⟩) m1 cp1)).set (by omega) 1 (.slice (some ⟨g2, 0, none⟩) m2 cp2)
  have k1 : ∀ k, (Value.slice (some ⟨g1, 0, none⟩) m1 cp1).ownBlock = some k → k ≠ w.heap.size + 1 := fun k e h => J.far1 (by rw [e, h])
  have k2 : ∀ k, (Value.slice (some ⟨g2, 0, none⟩) m2 cp2).ownBlock = some k → k ≠ w.heap.size + 1 := fun k e h => J.far2 (by rw [e, h])
  refine ⟨bQ.cell0, bQ.cell1, J.o1.kept fun k hk => ?_, J.o2.kept fun k hk => ?_, J.ap, (hB0.mono hB).trans hG.below, (KeepsOthers.of_grownBy (row := none) ⟨hB0.os, hB0.tape, hB0.output, hB0.size, fun k hk _ => hB0.block k hk⟩ (fun j o e => by cases e)).trans hG.others, fun k hk h1 h2 => (hG.same k (by omega) h1 h2).trans (hB0.block k hk)⟩
  · have := k1 k hk
    exact (Below.heap_setCell _ _ _ _ (by simpa using this)).trans (Below.heap_setCell _ _ _ _ (by simpa using this))
  · have := k2 k hk
    exact (Below.heap_setCell _ _ _ _ (by simpa using this)).trans (Below.heap_setCell _ _ _ _ (by simpa using this))

theorem own_last {w : World} {B : Nat} {v : Value} {l : List Int} {z : Int} (h : OwnI w B v l) (hz : l[l.length - 1]? = some z) : ∀ b, v.ownBlock = some b → w.cell? ⟨b, l.length - 1, none⟩ = some (.int .i64 z) := by
  intro b hb
  have := World.ownsRow.cells h hb (l.length - 1) (.int .i64 z) (by simp [hz])
  rwa [add_lit, Nat.zero_add] at this
set_option maxHeartbeats 4000000 in
theorem join_first (B : Nat) (v1 v2 : Value) (at_ n : Int) (w : World) (h1 : OwnI w B v1 []) (h2 : OwnI w B v2 []) (hB : B ≤ w.heap.size) (hap : Apart v1 v2) :
    Calls Try.prog 44 #[.agg #[v1, v2], .int .i64 at_, .int .i64 n] w (Joined B v1 v2 [at_] [n] w) := by
  have hv1 := Lib.hid h1
  have hv2 := Lib.hid h2
  obtain ⟨a1, c1, rfl⟩ := h1.slice
  obtain ⟨a2, c2, rfl⟩ := h2.slice
  obtain ⟨n1, hn1⟩ : ∃ n1 : Nat, n1 = 0 := ⟨0, rfl⟩
  clear h1 h2
  go_enter Try.func44, Try.ntmps44
  go_wp2
  obtain ⟨W0, hW0⟩ : ∃ W0, (w.alloc (.cells #[.slice a1 0 c1, .slice a2 0 c2] 24)).alloc (.cells #[.slice none 0 0, .slice none 0 0] 24) = W0 := ⟨_, rfl⟩
  have bS : Box2 W0 w.heap.size 24 (.slice a1 0 c1) (.slice a2 0 c2) := by rw [← hW0]; exact (Box2.new w _ _ _).alloc _
  have bR : Box2 W0 (w.heap.size + 1) 24 (.slice none 0 0) (.slice none 0 0) := by rw [← hW0]; have := Box2.new (w.alloc (.cells #[.slice a1 0 c1, .slice a2 0 c2] 24)) 24 (.slice none 0 0) (.slice none 0 0); rwa [World.size_alloc] at this
  have hsz0 : w.heap.size + 2 = W0.heap.size := by rw [← hW0]; simp
  have hB0 : Below w.heap.size w W0 := by rw [← hW0]; exact ((Below.refl _ _).alloc (Nat.le_refl _) _).alloc (by simp) _
  rw [hW0]
  clear hW0
  have e0 := bS.cell0
  have e1 := bS.cell1
  have lt1 : ∀ k, (Value.slice a1 0 c1).ownBlock = some k → k < w.heap.size := fun k hk => (hv1.out.block k hk).2
  have lt2 : ∀ k, (Value.slice a2 0 c2).ownBlock = some k → k < w.heap.size := fun k hk => (hv2.out.block k hk).2
  have J0 : JS w.heap.size B (.slice a1 0 c1) (.slice a2 0 c2) W0 W0 (.slice a1 0 c1) (.slice a2 0 c2) [] [] :=
    ⟨hv1.out.below hB0, hv2.out.below hB0, hap, bR, fun e => by have := lt1 _ e; omega, fun e => by have := lt2 _ e; omega, Gr.refl _ _ _ _ _, by omega, by omega⟩
  have HELD : Hid (∀ W, Gr (w.heap.size + 1) B (.slice a1 0 c1) (.slice a2 0 c2) W0 W → W.cell? ⟨w.heap.size, 0, none⟩ = some (.slice a1 0 c1) ∧ W.cell? ⟨w.heap.size, 1, none⟩ = some (.slice a2 0 c2)) := fun W hW => by
    have hk := hW.same w.heap.size (by omega) (fun e => by have := lt1 _ e.symm; omega) (fun e => by have := lt2 _ e.symm; omega)
    exact ⟨(World.cell?_of_block (a := ⟨w.heap.size, 0, none⟩) hk).trans e0, (World.cell?_of_block (a := ⟨w.heap.size, 1, none⟩) hk).trans e1⟩
  go_region_held3 (fun W => W.cell? ⟨w.heap.size, 0, none⟩ = some (.slice a1 0 c1) ∧ W.cell? ⟨w.heap.size, 1, none⟩ = some (.slice a2 0 c2))
      (first | go_keep | exact HELD.out _ (JS.next (by assumption) (by first | exact Below.refl _ _ | exact (Below.refl _ _).drew | exact (Below.refl _ _).alloc (Nat.le_refl _) _ | exact ((Below.refl _ _).alloc (Nat.le_refl _) _).drew | exact ((Below.refl _ _).alloc (Nat.le_refl _) _).alloc (by simp) _ | exact (((Below.refl _ _).alloc (Nat.le_refl _) _).alloc (by simp) _).drew | exact (((Below.refl _ _).alloc (Nat.le_refl _) _).drew.alloc (by show _ ≤ (World.alloc _ _).heap.size; simp) _) | exact (((Below.refl _ _).alloc (Nat.le_refl _) _).drew.alloc (by show _ ≤ (World.alloc _ _).heap.size; simp) _).drew)).gr | exact HELD.out _ (Gr.set (Gr.set (JS.gr (by assumption)) (by omega) _ _) (by omega) _ _))
      (first
        | (refine step_append_one rfl _ _ rfl B (.slice a1 0 c1) [] rfl (JS.next (by assumption) (by first | exact Below.refl _ _ | exact (Below.refl _ _).drew | exact (Below.refl _ _).alloc (Nat.le_refl _) _ | exact ((Below.refl _ _).alloc (Nat.le_refl _) _).drew | exact ((Below.refl _ _).alloc (Nat.le_refl _) _).alloc (by simp) _ | exact (((Below.refl _ _).alloc (Nat.le_refl _) _).alloc (by simp) _).drew | exact (((Below.refl _ _).alloc (Nat.le_refl _) _).drew.alloc (by show _ ≤ (World.alloc _ _).heap.size; simp) _) | exact (((Below.refl _ _).alloc (Nat.le_refl _) _).drew.alloc (by show _ ≤ (World.alloc _ _).heap.size; simp) _).drew)).o1 _ _ rfl at_ (by first | exact cell_new1 _ _ _ | exact cell_first _ _ _ _ | exact cell_second _ _ _ _ | exact cell_grown hg2 (by first | exact cell_new1 _ _ _ | exact cell_first _ _ _ _ | exact cell_second _ _ _ _) (fun e => by have := lt2 _ e.symm; omega)) (by simp) (JS.next (by assumption) (by first | exact Below.refl _ _ | exact (Below.refl _ _).drew | exact (Below.refl _ _).alloc (Nat.le_refl _) _ | exact ((Below.refl _ _).alloc (Nat.le_refl _) _).drew | exact ((Below.refl _ _).alloc (Nat.le_refl _) _).alloc (by simp) _ | exact (((Below.refl _ _).alloc (Nat.le_refl _) _).alloc (by simp) _).drew | exact (((Below.refl _ _).alloc (Nat.le_refl _) _).drew.alloc (by show _ ≤ (World.alloc _ _).heap.size; simp) _) | exact (((Below.refl _ _).alloc (Nat.le_refl _) _).drew.alloc (by show _ ≤ (World.alloc _ _).heap.size; simp) _).drew)).size.1 ?_; intro g1 m1 cp1 w1 ho1 hg1 hat1; have J1 := JS.step1 (by assumption) (by first | exact Below.refl _ _ | exact (Below.refl _ _).drew | exact (Below.refl _ _).alloc (Nat.le_refl _) _ | exact ((Below.refl _ _).alloc (Nat.le_refl _) _).drew | exact ((Below.refl _ _).alloc (Nat.le_refl _) _).alloc (by simp) _ | exact (((Below.refl _ _).alloc (Nat.le_refl _) _).alloc (by simp) _).drew | exact (((Below.refl _ _).alloc (Nat.le_refl _) _).drew.alloc (by show _ ≤ (World.alloc _ _).heap.size; simp) _) | exact (((Below.refl _ _).alloc (Nat.le_refl _) _).drew.alloc (by show _ ≤ (World.alloc _ _).heap.size; simp) _).drew) hg1 ho1 hat1; have r0 := J1.box.cell0; have r1 := J1.box.cell1; have f0 := J1.box.free 0; have f1 := J1.box.free 1)
        | (refine step_append_one rfl _ _ rfl B (.slice a2 0 c2) [] rfl (JS.next (by assumption) (by first | exact Below.refl _ _ | exact (Below.refl _ _).drew | exact (Below.refl _ _).alloc (Nat.le_refl _) _ | exact ((Below.refl _ _).alloc (Nat.le_refl _) _).drew | exact ((Below.refl _ _).alloc (Nat.le_refl _) _).alloc (by simp) _ | exact (((Below.refl _ _).alloc (Nat.le_refl _) _).alloc (by simp) _).drew | exact (((Below.refl _ _).alloc (Nat.le_refl _) _).drew.alloc (by show _ ≤ (World.alloc _ _).heap.size; simp) _) | exact (((Below.refl _ _).alloc (Nat.le_refl _) _).drew.alloc (by show _ ≤ (World.alloc _ _).heap.size; simp) _).drew)).o2 _ _ rfl n (by first | exact cell_new1 _ _ _ | exact cell_first _ _ _ _ | exact cell_second _ _ _ _ | exact cell_grown hg1 (by first | exact cell_new1 _ _ _ | exact cell_first _ _ _ _ | exact cell_second _ _ _ _) (fun e => by have := lt1 _ e.symm; omega)) (by simp) (JS.next (by assumption) (by first | exact Below.refl _ _ | exact (Below.refl _ _).drew | exact (Below.refl _ _).alloc (Nat.le_refl _) _ | exact ((Below.refl _ _).alloc (Nat.le_refl _) _).drew | exact ((Below.refl _ _).alloc (Nat.le_refl _) _).alloc (by simp) _ | exact (((Below.refl _ _).alloc (Nat.le_refl _) _).alloc (by simp) _).drew | exact (((Below.refl _ _).alloc (Nat.le_refl _) _).drew.alloc (by show _ ≤ (World.alloc _ _).heap.size; simp) _) | exact (((Below.refl _ _).alloc (Nat.le_refl _) _).drew.alloc (by show _ ≤ (World.alloc _ _).heap.size; simp) _).drew)).size.1 ?_; intro g2 m2 cp2 w2 ho2 hg2 hat2; have J2 := JS.step2 (by assumption) (by first | exact Below.refl _ _ | exact (Below.refl _ _).drew | exact (Below.refl _ _).alloc (Nat.le_refl _) _ | exact ((Below.refl _ _).alloc (Nat.le_refl _) _).drew | exact ((Below.refl _ _).alloc (Nat.le_refl _) _).alloc (by simp) _ | exact (((Below.refl _ _).alloc (Nat.le_refl _) _).alloc (by simp) _).drew | exact (((Below.refl _ _).alloc (Nat.le_refl _) _).drew.alloc (by show _ ≤ (World.alloc _ _).heap.size; simp) _) | exact (((Below.refl _ _).alloc (Nat.le_refl _) _).drew.alloc (by show _ ≤ (World.alloc _ _).heap.size; simp) _).drew) hg2 ho2 hat2; have r0 := J2.box.cell0; have r1 := J2.box.cell1; have f0 := J2.box.free 0; have f1 := J2.box.free 1))
  all_goals
    obtain ⟨q0, q1, hfin⟩ := joined_end (M1 := [] ++ [at_]) (M2 := [] ++ [n]) hB hB0 (by assumption)
    have HF := Lib.hid hfin
    clear hfin
    go_wp2
    exact bodyPost_ret (v := .agg #[.slice (some ⟨g1, 0, none⟩) m1 cp1, .slice (some ⟨g2, 0, none⟩) m2 cp2]) (by simp [results, Try.results44, go_sem, q0, q1]) rfl ⟨_, _, _, _, _, _, rfl, HF.out⟩
set_option maxHeartbeats 4000000 in
theorem join_new (B : Nat) (v1 v2 : Value) (l1 l2 : List Int) (z at_ n : Int) (w : World) (h1 : OwnI w B v1 l1) (h2 : OwnI w B v2 l2) (hB : B ≤ w.heap.size) (hap : Apart v1 v2) (hl1 : 0 < l1.length) (hl2 : 0 < l2.length) (hm1 : l1.length ≤ 4000) (hm2 : l2.length ≤ 4000) (hz : l2[l2.length - 1]? = some z) (hne : z ≠ n) :
    Calls Try.prog 44 #[.agg #[v1, v2], .int .i64 at_, .int .i64 n] w (Joined B v1 v2 (l1 ++ [at_]) (l2 ++ [n]) w) := by
  have hv1 := Lib.hid h1
  have hv2 := Lib.hid h2
  have hlast := own_last h2 hz
  obtain ⟨b1, c1, rfl⟩ := h1.form hl1
  obtain ⟨b2, c2, rfl⟩ := h2.form hl2
  have hcz := hlast b2 rfl
  have hbl2 : b2 < w.heap.size := (h2.block b2 rfl).2
  clear h1 h2 hz hlast
  generalize hn1 : l1.length = n1 at *
  generalize hn2 : l2.length = n2 at *
  have HM1 : Hid (l1.length ≤ 100000) := by show _ ≤ _; omega
  have HM2 : Hid (l2.length ≤ 100000) := by show _ ≤ _; omega
  clear hn1 hn2
  have hd : (z == n) = false := beq_eq_false_iff_ne.2 hne
  have hw1 : IntKind.i64.wrap ((n2 : Int) - 1) = (n2 : Int) - 1 := IntWalk.i64_in _ (by omega)
  have hw2 : (0 : Int) ≤ (n2 : Int) - 1 := by omega
  have hw5 : (1 : Int) ≤ (n2 : Int) := by omega
  have hw4 : ((n2 : Int) - 1).toNat = n2 - 1 := by omega
  clear hne
  go_enter Try.func44, Try.ntmps44
  go_wp2
  obtain ⟨W0, hW0⟩ : ∃ W0, (w.alloc (.cells #[.slice (some ⟨b1, 0, none⟩) n1 c1, .slice (some ⟨b2, 0, none⟩) n2 c2] 24)).alloc (.cells #[.slice none 0 0, .slice none 0 0] 24) = W0 := ⟨_, rfl⟩
  have bS : Box2 W0 w.heap.size 24 (.slice (some ⟨b1, 0, none⟩) n1 c1) (.slice (some ⟨b2, 0, none⟩) n2 c2) := by rw [← hW0]; exact (Box2.new w _ _ _).alloc _
  have bR : Box2 W0 (w.heap.size + 1) 24 (.slice none 0 0) (.slice none 0 0) := by rw [← hW0]; have := Box2.new (w.alloc (.cells #[.slice (some ⟨b1, 0, none⟩) n1 c1, .slice (some ⟨b2, 0, none⟩) n2 c2] 24)) 24 (.slice none 0 0) (.slice none 0 0); rwa [World.size_alloc] at this
  have hsz0 : w.heap.size + 2 = W0.heap.size := by rw [← hW0]; simp
  have hB0 : Below w.heap.size w W0 := by rw [← hW0]; exact ((Below.refl _ _).alloc (Nat.le_refl _) _).alloc (by simp) _
  rw [hW0]
  clear hW0
  have e0 := bS.cell0
  have e1 := bS.cell1
  have lt1 : ∀ k, (Value.slice (some ⟨b1, 0, none⟩) n1 c1).ownBlock = some k → k < w.heap.size := fun k hk => (hv1.out.block k hk).2
  have lt2 : ∀ k, (Value.slice (some ⟨b2, 0, none⟩) n2 c2).ownBlock = some k → k < w.heap.size := fun k hk => (hv2.out.block k hk).2
  have J0 : JS w.heap.size B (.slice (some ⟨b1, 0, none⟩) n1 c1) (.slice (some ⟨b2, 0, none⟩) n2 c2) W0 W0 (.slice (some ⟨b1, 0, none⟩) n1 c1) (.slice (some ⟨b2, 0, none⟩) n2 c2) l1 l2 :=
    ⟨hv1.out.below hB0, hv2.out.below hB0, hap, bR, fun e => by have := lt1 _ e; omega, fun e => by have := lt2 _ e; omega, Gr.refl _ _ _ _ _, by omega, by omega⟩
  have HELD : Hid (∀ W, Gr (w.heap.size + 1) B (.slice (some ⟨b1, 0, none⟩) n1 c1) (.slice (some ⟨b2, 0, none⟩) n2 c2) W0 W → W.cell? ⟨w.heap.size, 0, none⟩ = some (.slice (some ⟨b1, 0, none⟩) n1 c1) ∧ W.cell? ⟨w.heap.size, 1, none⟩ = some (.slice (some ⟨b2, 0, none⟩) n2 c2)) := fun W hW => by
    have hk := hW.same w.heap.size (by omega) (fun e => by have := lt1 _ e.symm; omega) (fun e => by have := lt2 _ e.symm; omega)
    exact ⟨(World.cell?_of_block (a := ⟨w.heap.size, 0, none⟩) hk).trans e0, (World.cell?_of_block (a := ⟨w.heap.size, 1, none⟩) hk).trans e1⟩
  go_region_held3 (fun W => W.cell? ⟨w.heap.size, 0, none⟩ = some (.slice (some ⟨b1, 0, none⟩) n1 c1) ∧ W.cell? ⟨w.heap.size, 1, none⟩ = some (.slice (some ⟨b2, 0, none⟩) n2 c2))
      (first | go_keep | exact HELD.out _ (JS.next (by assumption) (by first | exact Below.refl _ _ | exact (Below.refl _ _).drew | exact (Below.refl _ _).alloc (Nat.le_refl _) _ | exact ((Below.refl _ _).alloc (Nat.le_refl _) _).drew | exact ((Below.refl _ _).alloc (Nat.le_refl _) _).alloc (by simp) _ | exact (((Below.refl _ _).alloc (Nat.le_refl _) _).alloc (by simp) _).drew | exact (((Below.refl _ _).alloc (Nat.le_refl _) _).drew.alloc (by show _ ≤ (World.alloc _ _).heap.size; simp) _) | exact (((Below.refl _ _).alloc (Nat.le_refl _) _).drew.alloc (by show _ ≤ (World.alloc _ _).heap.size; simp) _).drew)).gr | exact HELD.out _ (Gr.set (Gr.set (JS.gr (by assumption)) (by omega) _ _) (by omega) _ _))
      (first
        | (refine step_append_one rfl _ _ rfl B (.slice (some ⟨b1, 0, none⟩) n1 c1) l1 rfl (JS.next (by assumption) (by first | exact Below.refl _ _ | exact (Below.refl _ _).drew | exact (Below.refl _ _).alloc (Nat.le_refl _) _ | exact ((Below.refl _ _).alloc (Nat.le_refl _) _).drew | exact ((Below.refl _ _).alloc (Nat.le_refl _) _).alloc (by simp) _ | exact (((Below.refl _ _).alloc (Nat.le_refl _) _).alloc (by simp) _).drew | exact (((Below.refl _ _).alloc (Nat.le_refl _) _).drew.alloc (by show _ ≤ (World.alloc _ _).heap.size; simp) _) | exact (((Below.refl _ _).alloc (Nat.le_refl _) _).drew.alloc (by show _ ≤ (World.alloc _ _).heap.size; simp) _).drew)).o1 _ _ rfl at_ (by first | exact cell_new1 _ _ _ | exact cell_first _ _ _ _ | exact cell_second _ _ _ _ | exact cell_grown hg2 (by first | exact cell_new1 _ _ _ | exact cell_first _ _ _ _ | exact cell_second _ _ _ _) (fun e => by have := lt2 _ e.symm; omega)) HM1.out (JS.next (by assumption) (by first | exact Below.refl _ _ | exact (Below.refl _ _).drew | exact (Below.refl _ _).alloc (Nat.le_refl _) _ | exact ((Below.refl _ _).alloc (Nat.le_refl _) _).drew | exact ((Below.refl _ _).alloc (Nat.le_refl _) _).alloc (by simp) _ | exact (((Below.refl _ _).alloc (Nat.le_refl _) _).alloc (by simp) _).drew | exact (((Below.refl _ _).alloc (Nat.le_refl _) _).drew.alloc (by show _ ≤ (World.alloc _ _).heap.size; simp) _) | exact (((Below.refl _ _).alloc (Nat.le_refl _) _).drew.alloc (by show _ ≤ (World.alloc _ _).heap.size; simp) _).drew)).size.1 ?_; intro g1 m1 cp1 w1 ho1 hg1 hat1; have J1 := JS.step1 (by assumption) (by first | exact Below.refl _ _ | exact (Below.refl _ _).drew | exact (Below.refl _ _).alloc (Nat.le_refl _) _ | exact ((Below.refl _ _).alloc (Nat.le_refl _) _).drew | exact ((Below.refl _ _).alloc (Nat.le_refl _) _).alloc (by simp) _ | exact (((Below.refl _ _).alloc (Nat.le_refl _) _).alloc (by simp) _).drew | exact (((Below.refl _ _).alloc (Nat.le_refl _) _).drew.alloc (by show _ ≤ (World.alloc _ _).heap.size; simp) _) | exact (((Below.refl _ _).alloc (Nat.le_refl _) _).drew.alloc (by show _ ≤ (World.alloc _ _).heap.size; simp) _).drew) hg1 ho1 hat1; have r0 := J1.box.cell0; have r1 := J1.box.cell1; have f0 := J1.box.free 0; have f1 := J1.box.free 1)
        | (refine step_append_one rfl _ _ rfl B (.slice (some ⟨b2, 0, none⟩) n2 c2) l2 rfl (JS.next (by assumption) (by first | exact Below.refl _ _ | exact (Below.refl _ _).drew | exact (Below.refl _ _).alloc (Nat.le_refl _) _ | exact ((Below.refl _ _).alloc (Nat.le_refl _) _).drew | exact ((Below.refl _ _).alloc (Nat.le_refl _) _).alloc (by simp) _ | exact (((Below.refl _ _).alloc (Nat.le_refl _) _).alloc (by simp) _).drew | exact (((Below.refl _ _).alloc (Nat.le_refl _) _).drew.alloc (by show _ ≤ (World.alloc _ _).heap.size; simp) _) | exact (((Below.refl _ _).alloc (Nat.le_refl _) _).drew.alloc (by show _ ≤ (World.alloc _ _).heap.size; simp) _).drew)).o2 _ _ rfl n (by first | exact cell_new1 _ _ _ | exact cell_first _ _ _ _ | exact cell_second _ _ _ _ | exact cell_grown hg1 (by first | exact cell_new1 _ _ _ | exact cell_first _ _ _ _ | exact cell_second _ _ _ _) (fun e => by have := lt1 _ e.symm; omega)) HM2.out (JS.next (by assumption) (by first | exact Below.refl _ _ | exact (Below.refl _ _).drew | exact (Below.refl _ _).alloc (Nat.le_refl _) _ | exact ((Below.refl _ _).alloc (Nat.le_refl _) _).drew | exact ((Below.refl _ _).alloc (Nat.le_refl _) _).alloc (by simp) _ | exact (((Below.refl _ _).alloc (Nat.le_refl _) _).alloc (by simp) _).drew | exact (((Below.refl _ _).alloc (Nat.le_refl _) _).drew.alloc (by show _ ≤ (World.alloc _ _).heap.size; simp) _) | exact (((Below.refl _ _).alloc (Nat.le_refl _) _).drew.alloc (by show _ ≤ (World.alloc _ _).heap.size; simp) _).drew)).size.1 ?_; intro g2 m2 cp2 w2 ho2 hg2 hat2; have J2 := JS.step2 (by assumption) (by first | exact Below.refl _ _ | exact (Below.refl _ _).drew | exact (Below.refl _ _).alloc (Nat.le_refl _) _ | exact ((Below.refl _ _).alloc (Nat.le_refl _) _).drew | exact ((Below.refl _ _).alloc (Nat.le_refl _) _).alloc (by simp) _ | exact (((Below.refl _ _).alloc (Nat.le_refl _) _).alloc (by simp) _).drew | exact (((Below.refl _ _).alloc (Nat.le_refl _) _).drew.alloc (by show _ ≤ (World.alloc _ _).heap.size; simp) _) | exact (((Below.refl _ _).alloc (Nat.le_refl _) _).drew.alloc (by show _ ≤ (World.alloc _ _).heap.size; simp) _).drew) hg2 ho2 hat2; have r0 := J2.box.cell0; have r1 := J2.box.cell1; have f0 := J2.box.free 0; have f1 := J2.box.free 1))
  all_goals
    obtain ⟨q0, q1, hfin⟩ := joined_end (M1 := l1 ++ [at_]) (M2 := l2 ++ [n]) hB hB0 (by assumption)
    have HF := Lib.hid hfin
    clear hfin
    go_wp2
    exact bodyPost_ret (v := .agg #[.slice (some ⟨g1, 0, none⟩) m1 cp1, .slice (some ⟨g2, 0, none⟩) m2 cp2]) (by simp [results, Try.results44, go_sem, q0, q1]) rfl ⟨_, _, _, _, _, _, rfl, HF.out⟩

/-- The last number is the same: nothing is joined. -/
theorem join_same (B : Nat) (v1 v2 : Value) (l1 l2 : List Int) (at_ n : Int) (w : World) (h1 : OwnI w B v1 l1) (h2 : OwnI w B v2 l2) (hB : B ≤ w.heap.size) (hap : Apart v1 v2) (hl2 : 0 < l2.length) (hm2 : l2.length ≤ 4000) (hz : l2[l2.length - 1]? = some n) :
    Calls Try.prog 44 #[.agg #[v1, v2], .int .i64 at_, .int .i64 n] w (Joined B v1 v2 l1 l2 w) := by
  have hv1 := Lib.hid h1
  have hv2 := Lib.hid h2
  have hlast := own_last h2 hz
  obtain ⟨a1, c1, rfl⟩ := h1.slice
  obtain ⟨b2, c2, rfl⟩ := h2.form hl2
  have hcz := hlast b2 rfl
  have hbl2 : b2 < w.heap.size := (h2.block b2 rfl).2
  clear h1 h2 hz hlast
  generalize hn2 : l2.length = n2 at *
  generalize hn1 : l1.length = n1 at *
  clear hn1 hn2
  have hd : (n == n) = true := by simp
  have hw1 : IntKind.i64.wrap ((n2 : Int) - 1) = (n2 : Int) - 1 := IntWalk.i64_in _ (by omega)
  have hw2 : (0 : Int) ≤ (n2 : Int) - 1 := by omega
  have hw5 : (1 : Int) ≤ (n2 : Int) := by omega
  have hw4 : ((n2 : Int) - 1).toNat = n2 - 1 := by omega
  have HB0 : Hid (∀ x y, Below w.heap.size w ((w.alloc x).alloc y)) := fun x y => ((Below.refl _ _).alloc (Nat.le_refl _) _).alloc (by simp) _
  go_enter Try.func44, Try.ntmps44
  go_wp2
  exact bodyPost_ret (v := .agg #[.slice a1 n1 c1, .slice (some ⟨b2, 0, none⟩) n2 c2]) (by simp [results, Try.results44, go_sem]) rfl
    ⟨_, _, _, _, _, _, rfl, hv1.out.below (HB0.out _ _), hv2.out.below (HB0.out _ _), hap, (HB0.out _ _).mono hB, (KeepsOthers.alloc _ _).trans (KeepsOthers.alloc _ _), fun k hk _ _ => (HB0.out _ _).block k hk⟩

/-- A step joined to a profile of the call's own. -/
theorem join_any (B : Nat) (v1 v2 : Value) (M : List (Int × Int)) (p : Int × Int) (w : World) (h1 : OwnI w B v1 (M.map Prod.fst)) (h2 : OwnI w B v2 (M.map Prod.snd)) (hB : B ≤ w.heap.size) (hap : Apart v1 v2) (hm : M.length ≤ 4000) (hp : p.2 ≠ -1) :
    Calls Try.prog 44 #[.agg #[v1, v2], .int .i64 p.1, .int .i64 p.2] w (Joined B v1 v2 ((join M p).map Prod.fst) ((join M p).map Prod.snd) w) := by
  rcases List.eq_nil_or_concat M with rfl | ⟨M', q, hM⟩
  · have e : join [] p = [p] := if_neg fun h => hp h.symm
    rw [e]
    exact join_first B v1 v2 p.1 p.2 w h1 h2 hB hap
  · rw [List.concat_eq_append] at hM
    have hl : lastv (-1) M = q.2 := by rw [hM]; exact lastv_snoc _ _ _
    have hlen : M.length = M'.length + 1 := by rw [hM]; simp
    have hz : (M.map Prod.snd)[(M.map Prod.snd).length - 1]? = some q.2 := by
      rw [List.length_map, hlen, hM]; simp
    by_cases he : q.2 = p.2
    · have e : join M p = M := if_pos (hl.trans he)
      rw [e]
      exact join_same B v1 v2 _ _ p.1 p.2 w h1 h2 hB hap (by rw [List.length_map]; omega) (by rw [List.length_map]; omega) (by rw [hz, he])
    · have e : join M p = M ++ [p] := if_neg (by rw [hl]; exact he)
      rw [e, List.map_append, List.map_append]
      exact join_new B v1 v2 _ _ q.2 p.1 p.2 w h1 h2 hB hap (by rw [List.length_map]; omega) (by rw [List.length_map]; omega) (by rw [List.length_map]; omega) (by rw [List.length_map]; omega) hz he
end Go.Proofs.Ytigomdihkojdmaa.gn
