/- change: its loop's invariant. -/
import Derived.Test.YtigomdihkojdmaaStJ
import Derived.Test.YtigomdihkojdmaaStL
import Derived.Laws.MakeOwn
namespace Go.Proofs.Ytigomdihkojdmaa.gn
open Go.RowKit Go.Shelf
open Go.Proofs.Ytigomdihkojdmaa.sp

theorem Prof.form {w : World} {v : Value} {l m : List Int} (h : Prof w v l m) : ∃ a1 c1 a2 c2, v = .agg #[.slice a1 l.length c1, .slice a2 m.length c2] := by
  obtain ⟨v1, v2, rfl, ⟨_, a1, c1, rfl, _⟩, ⟨_, a2, c2, rfl, _⟩⟩ := h
  exact ⟨a1, c1, a2, c2, rfl⟩
theorem Prof.formL {w : World} {v : Value} {L : List (Int × Int)} (h : Prof w v (L.map Prod.fst) (L.map Prod.snd)) : ∃ a1 c1 a2 c2, v = .agg #[.slice a1 L.length c1, .slice a2 L.length c2] := by
  obtain ⟨a1, c1, a2, c2, e⟩ := h.form
  rw [List.length_map, List.length_map] at e
  exact ⟨a1, c1, a2, c2, e⟩
theorem CutAt.zero {L L' : List (Int × Int)} {t : Int} (h : CutAt L t L') (hz : ∃ n, (0, n) ∈ L) : ∃ n, (0, n) ∈ L' := hz.imp fun _ h' => h.all _ h'

/-- The boxes of change. -/
structure CS (c : Nat) (lo hi : Int) (F : Value) (W : World) (u v : Value) : Prop where
  s : Box2 W c 24 u v
  i : Box2 W (c + 1) 73 (.int .i64 lo) (.int .i64 hi)
  f : Boxed W (c + 1 + 1) 74 F
  r : Box2 W (c + 1 + 1 + 1) 24 (.slice none 0 0) (.slice none 0 0)
  e : Boxed W (c + 1 + 1 + 1 + 1) 35 (.int .i64 0)
theorem CS.drew {c : Nat} {lo hi : Int} {F u v : Value} {W : World} (h : CS c lo hi F W u v) : CS c lo hi F W.drew u v := ⟨h.s, h.i, h.f, h.r, h.e⟩
theorem CS.next {c : Nat} {lo hi : Int} {F u v : Value} {W W' : World} (hb : Below W.heap.size W W') (h : CS c lo hi F W u v) : CS c lo hi F W' u v :=
  ⟨box2_next hb h.s, box2_next hb h.i, Boxed.below h.f hb, box2_next hb h.r, Boxed.below h.e hb⟩
theorem CS.set {c : Nat} {lo hi : Int} {F u v : Value} {W : World} (h : CS c lo hi F W u v) (a b : Value) : CS c lo hi F ((W.setCell ⟨c, 0, none⟩ a).setCell ⟨c, 1, none⟩ b) a b :=
  ⟨h.s.set2 a b, (h.i.kept (grownBy_setCell2 W c 0 a) (by simp)).kept (grownBy_setCell2 _ c 1 b) (by simp), (h.f.kept (grownBy_setCell2 W c 0 a) (by simp; omega)).kept (grownBy_setCell2 _ c 1 b) (by simp; omega), (h.r.kept (grownBy_setCell2 W c 0 a) (by simp; omega)).kept (grownBy_setCell2 _ c 1 b) (by simp; omega), (h.e.kept (grownBy_setCell2 W c 0 a) (by simp; omega)).kept (grownBy_setCell2 _ c 1 b) (by simp; omega)⟩
theorem Box2.no_int {W : World} {B : Nat} {t : TypeId} {a1 a2 : Option Addr} {n1 c1 n2 c2 : Nat} (h : Box2 W B t (.slice a1 n1 c1) (.slice a2 n2 c2)) (k : Nat) (z : Int) : W.cell? ⟨B, k, none⟩ ≠ some (.int .i64 z) := by
  have hb : W.heap[B]? = some (.cells #[.slice a1 n1 c1, .slice a2 n2 c2] t (0, 0)) := h
  simp only [World.cell?, hb]
  match k with
  | 0 => simp
  | 1 => simp
  | k + 2 => simp
theorem Ints.set {W : World} {v : Value} {l : List Int} {B : Nat} {t : TypeId} {a1 a2 : Option Addr} {n1 c1 n2 c2 : Nat} (h : Ints W v l) (hb : Box2 W B t (.slice a1 n1 c1) (.slice a2 n2 c2)) (k : Nat) (u : Value) : Ints (W.setCell ⟨B, k, none⟩ u) v l := by
  obtain ⟨hm, a, cap, rfl, hcap, h⟩ := h
  refine ⟨hm, a, cap, rfl, hcap, ?_⟩
  rcases h with h | ⟨b, o, rfl, hc⟩
  · exact .inl h
  · refine .inr ⟨b, o, rfl, fun j hj => ?_⟩
    have hne : b ≠ B := fun e => by subst e; exact hb.no_int _ _ (hc j hj)
    exact (World.cell?_of_block (a := ⟨b, o + j, none⟩) (Below.heap_setCell _ _ _ _ (by simpa using hne))).trans (hc j hj)
theorem Prof.set2 {W : World} {v : Value} {l m : List Int} {B : Nat} {t : TypeId} {a1 a2 a3 a4 : Option Addr} {n1 c1 n2 c2 n3 c3 n4 c4 : Nat} (h : Prof W v l m) (hb : Box2 W B t (.slice a1 n1 c1) (.slice a2 n2 c2)) : Prof ((W.setCell ⟨B, 0, none⟩ (.slice a3 n3 c3)).setCell ⟨B, 1, none⟩ (.slice a4 n4 c4)) v l m := by
  obtain ⟨v1, v2, rfl, h1, h2⟩ := h
  exact ⟨v1, v2, rfl, (h1.set hb 0 _).set (hb.setA (.slice a3 n3 c3)) 1 _, (h2.set hb 0 _).set (hb.setA (.slice a3 n3 c3)) 1 _⟩
/-- What holds where a piece of code has ended as it should. -/
def AtNormal (R : Act → World → Prop) : Exit → Act → World → Prop
  | .normal, a, w => R a w
  | _, _, _ => False
theorem atNormal_then {R : Act → World → Prop} {K : Act → World → Prop} {Q : Exit → Act → World → Prop} (h : ∀ a w, R a w → K a w) : ∀ e a w, AtNormal R e a w → Exit.then K Q e a w := by
  intro e a w hr
  cases e <;> first | exact h a w hr | exact hr.elim
theorem cut_next {L L1 : List (Int × Int)} {lo hi : Int} {v : Value} {w : World} (hL : Ok L) (hlo : Q lo) (hhi : Q hi) (hC : CutAt L lo L1) (hP : Prof w v (L1.map Prod.fst) (L1.map Prod.snd)) :
    Calls Try.prog 41 #[v, .int .i64 hi] w (Cuts L1 hi w) :=
  cut_any hP hC.rise (hC.zero hL.zero) (fun p hp => (hC.quant p hp).elim (fun h => (hL.quant p h).1.1) (fun h => by rw [h]; exact hlo.1)) (by have := hC.len; have := hL.le; omega) hhi.1
/-- Two new rows, and a box that holds them. -/
structure Made (W : World) (m bl ga gn : Nat) (W' : World) : Prop where
  box : Box2 W' bl 24 (.slice (some ⟨ga, 0, none⟩) 0 m) (.slice (some ⟨gn, 0, none⟩) 0 m)
  o1 : OwnI W' W.heap.size (.slice (some ⟨ga, 0, none⟩) 0 m) []
  o2 : OwnI W' W.heap.size (.slice (some ⟨gn, 0, none⟩) 0 m) []
  ap : ga ≠ gn
  bl0 : W.heap.size ≤ bl
  bl1 : bl ≠ ga
  bl2 : bl ≠ gn
  below : Below W.heap.size W W'
theorem Made.next {W W' W'' : World} {m bl ga gn : Nat} (h : Made W m bl ga gn W') (hb : Below W'.heap.size W' W'') : Made W m bl ga gn W'' :=
  ⟨box2_next hb h.box, h.o1.below hb, h.o2.below hb, h.ap, h.bl0, h.bl1, h.bl2, h.below.trans (hb.mono h.below.size)⟩
theorem at3_2 (W : World) (a b d : Obj) : (((W.alloc a).alloc b).alloc d).heap[W.heap.size + 1 + 1]? = some d := by
  have h := World.alloc_heap_new ((W.alloc a).alloc b) d
  rwa [World.size_alloc, World.size_alloc] at h
theorem at3_1 (W : World) (a b d : Obj) : (((W.alloc a).alloc b).alloc d).heap[W.heap.size + 1]? = some b := by
  have h := World.alloc_heap_new (W.alloc a) b
  rw [World.size_alloc] at h
  exact (Below.heap_alloc ((W.alloc a).alloc b) d _ (by simp)).trans h
theorem at3_0 (W : World) (a b d : Obj) : (((W.alloc a).alloc b).alloc d).heap[W.heap.size]? = some a :=
  (Below.heap_alloc ((W.alloc a).alloc b) d _ (by simp; omega)).trans ((Below.heap_alloc (W.alloc a) b _ (by simp)).trans (World.alloc_heap_new W a))
theorem made_row {W W' : World} {m g : Nat} {M : Array Value} (hM : M.size = m) (hm : m ≤ 4000) (h : W'.heap[g]? = some (.cells M 2 (0, 0))) (hg : W.heap.size ≤ g) : OwnI W' W.heap.size (.slice (some ⟨g, 0, none⟩) 0 m) [] :=
  ⟨rfl, .inr ⟨g, m, M, rfl, hg, h, Nat.zero_le _, by unfold maxLen; omega, by rw [hM, Nat.mul_one], by simp⟩⟩
theorem made_of {W W' : World} {m bl ga gn : Nat} {M : Array Value} (hM : M.size = m) (hm : m ≤ 4000)
    (h1 : W'.heap[bl]? = some (.cells #[.slice (some ⟨ga, 0, none⟩) 0 m, .slice (some ⟨gn, 0, none⟩) 0 m] 24 (0, 0))) (h2 : W'.heap[ga]? = some (.cells M 2 (0, 0))) (h3 : W'.heap[gn]? = some (.cells M 2 (0, 0)))
    (b1 : W.heap.size ≤ bl) (b2 : W.heap.size ≤ ga) (b3 : W.heap.size ≤ gn) (b4 : ga ≠ gn) (b5 : bl ≠ ga) (b6 : bl ≠ gn) (hb : Below W.heap.size W W') : Made W m bl ga gn W' :=
  ⟨h1, made_row hM hm h2 b2, made_row hM hm h3 b3, b4, b1, b5, b6, hb⟩
/-- Two cuts. -/
structure Cut2 (L : List (Int × Int)) (lo hi : Int) (C : List (Int × Int)) : Prop where
  rise : Rise C
  all : ∀ p ∈ L, ∃ n, (p.1, n) ∈ C
  lo : ∃ n, (lo, n) ∈ C
  hi : ∃ n, (hi, n) ∈ C
  val : ∀ p ∈ C, val L p.1 = p.2
  quant : ∀ p ∈ C, Q p.1
  len : C.length ≤ L.length + 2
  pos : 0 < C.length
theorem cut2_of {L L1 C : List (Int × Int)} {lo hi : Int} (hL : Ok L) (hlo : Q lo) (hhi : Q hi) (h1 : CutAt L lo L1) (h2 : CutAt L1 hi C) : Cut2 L lo hi C := by
  have hq1 : ∀ p ∈ L1, Q p.1 := fun p hp => by
    rcases h1.quant p hp with h | h
    · exact (hL.quant p h).1
    · rw [h]; exact hlo
  have hq2 : ∀ p ∈ C, Q p.1 := fun p hp => by
    rcases h2.quant p hp with h | h
    · exact hq1 p h
    · rw [h]; exact hhi
  -- what there is at a time is the same in L and in L1
  have hv : ∀ t, 0 ≤ t → sp.val L1 t = sp.val L t := fun t ht => by
    obtain ⟨z, hz⟩ := hL.zero
    obtain ⟨p, hp, hpt, e1, hmax⟩ := hL.begun ht
    obtain ⟨q, hq, hqt, hqmax⟩ := last_begun t h1.rise ⟨_, h1.all _ hz, ht⟩
    rw [val_at h1.rise hq hqt hqmax, ← h1.val q hq, e1]
    -- the last of L that has begun at q is p
    have hpq := hqmax p (h1.all p hp) hpt
    exact val_at hL.rise hp hpq fun r hr hrq => hmax r hr (by omega)
  refine ⟨h2.rise, fun p hp => ⟨p.2, h2.all _ (h1.all _ hp)⟩, h1.at_.imp fun _ h => h2.all _ h, h2.at_, fun p hp => ?_, hq2, by have := h1.len; have := h2.len; omega, ?_⟩
  · rw [← hv p.1 (hq2 p hp).1]; exact h2.val p hp
  · obtain ⟨z, hz⟩ := h2.at_
    exact List.length_pos_of_mem hz

/-- What change tells. -/
def Turns (L : List (Int × Int)) (lo hi δ : Int) (w : World) (e : Ending) (w' : World) : Prop :=
  ∃ (c : Int) (M : List (Int × Int)) (a1 : Option Addr) (n1 c1 : Nat) (a2 : Option Addr) (n2 c2 : Nat), e = .returned (.tuple #[.agg #[.slice a1 n1 c1, .slice a2 n2 c2], .int .i64 c]) ∧ Res L lo hi δ c M ∧
    OwnI w' w.heap.size (.slice a1 n1 c1) (M.map Prod.fst) ∧ OwnI w' w.heap.size (.slice a2 n2 c2) (M.map Prod.snd) ∧ Below w.heap.size w w'
theorem OwnI.len {w : World} {B : Nat} {a : Option Addr} {n c : Nat} {l : List Int} (h : OwnI w B (.slice a n c) l) : n = l.length := by
  obtain ⟨a', c', e⟩ := h.slice
  simp at e
  exact e.2.1
theorem own_put {w : World} {B B' D : Nat} {v : Value} {l : List Int} {o o' : Obj} (h : OwnI w B v l) (hB : B' ≤ B) (hD : w.heap[D]? = some o) (ho : o.isCells = false) : OwnI (w.putObj D o') B' v l :=
  (show OwnI (w.putObj D o') B v l from ownsRow_putObj h o' hD ho).mono hB
theorem own_nil (w : World) (B : Nat) : OwnI w B (.slice none 0 0) [] := World.ownsRow_nil w B _ 1
/-- What is joined of the first steps. -/
def mj (gx : Wn → Int) (pre : List Wn) : List (Int × Int) := joins (pre.map fun x => (x.1.1, gx x))
theorem mj_snoc (gx : Wn → Int) (pre : List Wn) (x : Wn) : mj gx (pre ++ [x]) = join (mj gx pre) (x.1.1, gx x) := by
  unfold mj; rw [List.map_append, List.map_singleton, joins_snoc]
theorem mj_len (gx : Wn → Int) (pre : List Wn) : (mj gx pre).length ≤ pre.length := by
  have := (joins_sub (L := pre.map fun x => (x.1.1, gx x))).2
  rwa [List.length_map] at this
theorem box2_not_row {W : World} {B n : Nat} {t : TypeId} {u v s : Value} {l : List Int} (h : Box2 W B t u v) (ht : t ≠ 2) (ho : OwnI W n s l) : s.ownBlock ≠ some B := by
  intro e
  rcases ho.2 with ⟨rfl, _⟩ | ⟨g, cap, cur, rfl, _, hg, _⟩
  · simp [Value.ownBlock] at e
  · obtain rfl : g = B := by simpa [Value.ownBlock] using e
    rw [show W.heap[g]? = _ from h] at hg
    simp at hg
    exact ht hg.2
/-- How the loop of change stands. -/
structure LI (n₁ c bl Bs : Nat) (lo hi : Int) (F u v : Value) (gx : Wn → Int) (v1 v2 : Value) (pre : List Wn) (W : World) : Prop where
  box : Box2 W bl 24 v1 v2
  o1 : OwnI W n₁ v1 ((mj gx pre).map Prod.fst)
  o2 : OwnI W n₁ v2 ((mj gx pre).map Prod.snd)
  ap : Apart v1 v2
  cs : CS c lo hi F W u v
  eb : Box2 W Bs 24 u v
  good : ∀ x ∈ pre, Q (gx x)
theorem LI.next {n₁ c bl Bs : Nat} {lo hi : Int} {F u v v1 v2 : Value} {gx : Wn → Int} {pre : List Wn} {W W' : World} (h : LI n₁ c bl Bs lo hi F u v gx v1 v2 pre W) (hb : Below W.heap.size W W') : LI n₁ c bl Bs lo hi F u v gx v1 v2 pre W' :=
  ⟨box2_next hb h.box, h.o1.below hb, h.o2.below hb, h.ap, CS.next hb h.cs, box2_next hb h.eb, h.good⟩
def LIx (n₁ c bl Bs : Nat) (lo hi : Int) (F u v : Value) (gx : Wn → Int) (pre : List Wn) (W : World) : Prop :=
  ∃ a1 m1 c1 a2 m2 c2, LI n₁ c bl Bs lo hi F u v gx (.slice a1 m1 c1) (.slice a2 m2 c2) pre W
theorem li_own (n₁ c bl Bs : Nat) (lo hi : Int) (F u v : Value) (gx : Wn → Int) : Own (fun pre W => LIx n₁ c bl Bs lo hi F u v gx pre W) := by
  rintro pre X Y row ⟨a1, m1, c1, a2, m2, c2, h⟩ hg hrow
  have hk : ∀ (k : Nat) (o : Obj), X.heap[k]? = some o → o.isCells = true → Y.heap[k]? = X.heap[k]? := fun k o ho hc => grownBy_keeps_cells hg hrow ho hc
  have h2 : ∀ B t u v, Box2 X B t u v → Box2 Y B t u v := fun B t u v hb => (hk B _ hb rfl).trans hb
  have h1 : ∀ B t v, Boxed X B t v → Boxed Y B t v := fun B t v hb => (hk B _ hb rfl).trans hb
  have h3 : ∀ s l, OwnI X n₁ s l → OwnI Y n₁ s l := fun s l ho => ho.kept fun k hkk => by
    rcases ho.2 with ⟨rfl, _⟩ | ⟨g, cap, cur, rfl, _, hgg, _⟩
    · simp [Value.ownBlock] at hkk
    · obtain rfl : g = k := by simpa [Value.ownBlock] using hkk
      exact hk g _ hgg rfl
  exact ⟨a1, m1, c1, a2, m2, c2, h2 _ _ _ _ h.box, h3 _ _ h.o1, h3 _ _ h.o2, h.ap, ⟨h2 _ _ _ _ h.cs.s, h2 _ _ _ _ h.cs.i, h1 _ _ _ h.cs.f, h2 _ _ _ _ h.cs.r, h1 _ _ _ h.cs.e⟩, h2 _ _ _ _ h.eb, h.good⟩
/-- A round of change that goes on. -/
theorem round_end {n₁ c bl Bs : Nat} {lo hi : Int} {F u v v1 v2 : Value} {gx : Wn → Int} {pre : List Wn} {x : Wn} {W Wj : World} {a1 : Option Addr} {m1 c1 : Nat} {a2 : Option Addr} {m2 c2 : Nat}
    {n : Int} (h : LI n₁ c bl Bs lo hi F u v gx v1 v2 pre W) (hgv : gx x = n) (hq : Q (gx x)) (hn : c + 5 ≤ n₁) (hbl : n₁ ≤ bl) (hne : bl ≠ Bs)
    (o1 : OwnI Wj n₁ (.slice a1 m1 c1) ((join (mj gx pre) (x.1.1, n)).map Prod.fst)) (o2 : OwnI Wj n₁ (.slice a2 m2 c2) ((join (mj gx pre) (x.1.1, n)).map Prod.snd)) (ap : Apart (.slice a1 m1 c1) (.slice a2 m2 c2))
    (hB : Below n₁ W Wj) (hK : KeepsOthers W Wj) (hs : ∀ k, k < W.heap.size → some k ≠ v1.ownBlock → some k ≠ v2.ownBlock → Wj.heap[k]? = W.heap[k]?) :
    Box2 Wj bl 24 v1 v2 ∧ KeepsOthers W ((Wj.setCell ⟨bl, 0, none⟩ (.slice a1 m1 c1)).setCell ⟨bl, 1, none⟩ (.slice a2 m2 c2)) ∧ KpE n₁ Bs W ((Wj.setCell ⟨bl, 0, none⟩ (.slice a1 m1 c1)).setCell ⟨bl, 1, none⟩ (.slice a2 m2 c2)) ∧
    LIx n₁ c bl Bs lo hi F u v gx (pre ++ [x]) ((Wj.setCell ⟨bl, 0, none⟩ (.slice a1 m1 c1)).setCell ⟨bl, 1, none⟩ (.slice a2 m2 c2)) := by
  subst hgv
  have hbj : ∀ B t p q, Box2 W B t p q → t ≠ 2 → Box2 Wj B t p q := fun B t p q hb ht => (hs B hb.lt (fun e => box2_not_row hb ht h.o1 e.symm) (fun e => box2_not_row hb ht h.o2 e.symm)).trans hb
  have hbox := hbj _ _ _ _ h.box (by decide)
  have heb := hbj _ _ _ _ h.eb (by decide)
  have hset : ∀ k, k ≠ bl → ((Wj.setCell ⟨bl, 0, none⟩ (.slice a1 m1 c1)).setCell ⟨bl, 1, none⟩ (.slice a2 m2 c2)).heap[k]? = Wj.heap[k]? := fun k hk =>
    (Below.heap_setCell _ _ _ k (by simpa using hk)).trans (Below.heap_setCell _ _ _ k (by simpa using hk))
  have hB4 : Below n₁ W ((Wj.setCell ⟨bl, 0, none⟩ (.slice a1 m1 c1)).setCell ⟨bl, 1, none⟩ (.slice a2 m2 c2)) := (hB.setCell (p := ⟨bl, 0, none⟩) hbl _).setCell (p := ⟨bl, 1, none⟩) hbl _
  have hlow : ∀ B t p q, Box2 W B t p q → B < n₁ → Box2 ((Wj.setCell ⟨bl, 0, none⟩ (.slice a1 m1 c1)).setCell ⟨bl, 1, none⟩ (.slice a2 m2 c2)) B t p q := fun B t p q hb hlt => (hB4.block B hlt).trans hb
  have hlow1 : ∀ B t p, Boxed W B t p → B < n₁ → Boxed ((Wj.setCell ⟨bl, 0, none⟩ (.slice a1 m1 c1)).setCell ⟨bl, 1, none⟩ (.slice a2 m2 c2)) B t p := fun B t p hb hlt => (hB4.block B hlt).trans hb
  refine ⟨hbox, (hK.trans (KeepsOthers.setCell _ _ _)).trans (KeepsOthers.setCell _ _ _), ⟨hB4, fun _ => (hset Bs (Ne.symm hne)).trans (hs Bs h.eb.lt (fun e => box2_not_row h.eb (by decide) h.o1 e.symm) (fun e => box2_not_row h.eb (by decide) h.o2 e.symm))⟩, a1, m1, c1, a2, m2, c2, hbox.set2 _ _, ?_, ?_, ap, ?_, ?_, ?_⟩
  · rw [mj_snoc]
    exact o1.kept fun k hk => hset k fun e => box2_not_row hbox (by decide) o1 (by rw [← e]; exact hk)
  · rw [mj_snoc]
    exact o2.kept fun k hk => hset k fun e => box2_not_row hbox (by decide) o2 (by rw [← e]; exact hk)
  · exact ⟨hlow _ _ _ _ h.cs.s (by omega), hlow _ _ _ _ h.cs.i (by omega), hlow1 _ _ _ h.cs.f (by omega), hlow _ _ _ _ h.cs.r (by omega), hlow1 _ _ _ h.cs.e (by omega)⟩
  · exact (hset Bs (Ne.symm hne)).trans heb
  · intro y hy
    rcases List.mem_append.1 hy with h' | h'
    · exact h.good y h'
    · simp at h'; rw [h']; exact hq
/-- .. that stops: too few, or too many. -/
theorem round_bad {n₁ c bl Bs : Nat} {lo hi : Int} {F u v v1 v2 : Value} {gx : Wn → Int} {pre : List Wn} {W : World} (h : LI n₁ c bl Bs lo hi F u v gx v1 v2 pre W) (r0 r1 : Value) (r2 : Value) :
    Box2 (((W.setCell ⟨c + 1 + 1 + 1, 0, none⟩ r0).setCell ⟨c + 1 + 1 + 1, 1, none⟩ r1).setCell ⟨c + 1 + 1 + 1 + 1, 0, none⟩ r2) (c + 1 + 1 + 1) 24 r0 r1 ∧
    Boxed (((W.setCell ⟨c + 1 + 1 + 1, 0, none⟩ r0).setCell ⟨c + 1 + 1 + 1, 1, none⟩ r1).setCell ⟨c + 1 + 1 + 1 + 1, 0, none⟩ r2) (c + 1 + 1 + 1 + 1) 35 r2 :=
  ⟨(h.cs.r.set2 r0 r1).kept (grownBy_setCell2 _ (c + 1 + 1 + 1 + 1) 0 r2) (by simp), ((h.cs.e.kept (grownBy_setCell2 W (c + 1 + 1 + 1) 0 r0) (by simp)).kept (grownBy_setCell2 _ (c + 1 + 1 + 1) 1 r1) (by simp)).set r2⟩

theorem nb_cell {w W3 Wm : World} {N nb : Nat} {d : Int} (h3 : W3.cell? ⟨nb, 0, none⟩ = some (.int .i64 d)) (hw3 : Below w.heap.size w W3) (hm : Below w.heap.size w Wm) (hlt : nb < w.heap.size) (_ : w.heap.size ≤ N) : Wm.cell? ⟨nb, 0, none⟩ = some (.int .i64 d) :=
  (hm.cell (p := ⟨nb, 0, none⟩) hlt).trans ((hw3.cell (p := ⟨nb, 0, none⟩) hlt).symm.trans h3)
theorem join_at {n₁ c bl Bs : Nat} {lo hi : Int} {F u v v1 v2 : Value} {gx : Wn → Int} {pre : List Wn} {W : World} {at_ n : Int} (h : LI n₁ c bl Bs lo hi F u v gx v1 v2 pre W) (hq : Q n) (hm : (mj gx pre).length ≤ 4000) (hn : n₁ ≤ W.heap.size) :
    Calls Try.prog 44 #[.agg #[v1, v2], .int .i64 at_, .int .i64 n] (W.alloc (.cells #[.int .i64 n] 2)) (Joined n₁ v1 v2 ((join (mj gx pre) (at_, n)).map Prod.fst) ((join (mj gx pre) (at_, n)).map Prod.snd) (W.alloc (.cells #[.int .i64 n] 2))) :=
  join_any n₁ v1 v2 (mj gx pre) (at_, n) _ (h.o1.alloc _) (h.o2.alloc _) (by simp; omega) h.ap hm (fun e => by have := hq.1; simp at e; omega)

theorem take1_any (x d : Int) (nb : Nat) (w : World) (hnb : w.cell? ⟨nb, 0, none⟩ = some (.int .i64 d)) : Calls Try.prog 39 #[.int .i64 x, .pointer (some ⟨nb, 0, none⟩)] w (Says (wrap64 (x + -d)) w) := by
  have HE : Hid (wrap64 (x - d) = wrap64 (x + -d)) := by show _ = _; rw [Int.sub_eq_add_neg]
  go_enter Try.func39, Try.ntmps39
  go_wp2
  go_ret
  exact ⟨ret_i64 HE.out, rfl⟩
theorem give1_any (x d : Int) (nb : Nat) (w : World) (hnb : w.cell? ⟨nb, 0, none⟩ = some (.int .i64 d)) : Calls Try.prog 28 #[.int .i64 x, .pointer (some ⟨nb, 0, none⟩)] w (Says (wrap64 (x + d)) w) := by
  go_enter Try.func28, Try.ntmps28
  go_wp2
  go_ret
  exact ⟨rfl, rfl⟩
/-- A step's number behind the turn. -/
def gxOf (lo hi δ : Int) (x : Wn) : Int := if meets x.1.1 x.1.2 lo hi = true then wrap64 (x.2 + δ) else x.2
end Go.Proofs.Ytigomdihkojdmaa.gn
