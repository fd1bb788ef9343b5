/- cut. -/
import Derived.Test.YtigomdihkojdmaaStI
import Derived.Test.YtigomdihkojdmaaStC
namespace Go.Proofs.Ytigomdihkojdmaa.gn
open Go.RowKit Go.Shelf
open Go.Proofs.Ytigomdihkojdmaa.sp
attribute [local go_sem ↓] Go.wp_at_zero Go.wp_at_succ

theorem Box2.below {W W' : World} {B : Nat} {t : TypeId} {u v : Value} (h : Box2 W B t u v) (hb : Below W.heap.size W W') : Box2 W' B t u v := (hb.block B h.lt).trans h
/-- s with a step that begins at t. -/
structure CutAt (L : List (Int × Int)) (t : Int) (L' : List (Int × Int)) : Prop where
  rise : Rise L'
  all : ∀ p ∈ L, p ∈ L'
  at_ : ∃ n, (t, n) ∈ L'
  val : ∀ p ∈ L', val L p.1 = p.2
  quant : ∀ p ∈ L', p ∈ L ∨ p.1 = t
  len : L'.length ≤ L.length + 1
theorem cut_there {L : List (Int × Int)} {t : Int} (hr : Rise L) (ht : ∃ n, (t, n) ∈ L) : CutAt L t L :=
  ⟨hr, fun _ h => h, ht, fun p hp => val_at hr hp (Int.le_refl _) fun _ _ h => h, fun _ h => .inl h, by omega⟩
theorem cut_new {L : List (Int × Int)} {t : Int} {i : Nat} (hr : Rise L) (hi0 : 0 < i) (hi : i ≤ L.length) (hlo : ∀ q (h : q < L.length), q < i → (L[q]).1 < t) (hhi : ∀ q (h : q < L.length), i ≤ q → t < (L[q]).1) :
    CutAt L t (L.take i ++ [(t, (L[i - 1]'(by omega)).2)] ++ L.drop i) := by
  have hi1 : i - 1 < L.length := by omega
  have hmt : ∀ p ∈ L.take i, p.1 < t := fun p hp => by
    obtain ⟨q, hq, rfl⟩ := List.getElem_of_mem hp
    rw [List.length_take] at hq
    rw [List.getElem_take]
    exact hlo q (by omega) (by omega)
  have hmd : ∀ p ∈ L.drop i, t < p.1 := fun p hp => by
    obtain ⟨q, hq, rfl⟩ := List.getElem_of_mem hp
    rw [List.length_drop] at hq
    rw [List.getElem_drop]
    exact hhi (i + q) (by omega) (by omega)
  have hall : ∀ p ∈ L, p ∈ L.take i ∨ p ∈ L.drop i := fun p hp => by
    rw [← List.take_append_drop i L] at hp
    exact List.mem_append.1 hp
  have hL : ∀ p, p ∈ L.take i ∨ p ∈ L.drop i → p ∈ L := fun p hp => by
    rcases hp with h | h
    · exact List.mem_of_mem_take h
    · exact List.mem_of_mem_drop h
  have hv : val L t = (L[i - 1]).2 := val_at hr (List.getElem_mem hi1) (by have := hlo (i - 1) hi1 (by omega); omega) fun p hp hpt => by
    obtain ⟨q, hq, rfl⟩ := List.getElem_of_mem hp
    by_cases hqi : q < i
    · by_cases e : q = i - 1
      · subst e; exact Int.le_refl _
      · have := List.pairwise_iff_getElem.1 hr q (i - 1) hq hi1 (by omega)
        omega
    · have := hhi q hq (by omega); omega
  refine ⟨?_, fun p hp => ?_, ⟨(L[i - 1]).2, by simp⟩, fun p hp => ?_, fun p hp => ?_, by simp; omega⟩
  · unfold Rise
    rw [List.pairwise_append, List.pairwise_append]
    refine ⟨⟨hr.sublist (List.take_sublist _ _), List.pairwise_singleton _ _, fun p hp q hq => ?_⟩, hr.sublist (List.drop_sublist _ _), fun p hp q hq => ?_⟩
    · simp at hq; subst hq; exact hmt p hp
    · rcases List.mem_append.1 hp with h | h
      · have := hmt p h; have := hmd q hq; omega
      · simp at h; subst h; exact hmd q hq
  · rcases hall p hp with h | h
    · simp [h]
    · simp [h]
  · have : p ∈ L ∨ p = (t, (L[i - 1]).2) := by
      rcases List.mem_append.1 hp with h | h
      · rcases List.mem_append.1 h with h | h
        · exact .inl (hL p (.inl h))
        · simp at h; exact .inr h
      · exact .inl (hL p (.inr h))
    rcases this with h | rfl
    · exact val_at hr h (Int.le_refl _) fun _ _ h => h
    · exact hv
  · rcases List.mem_append.1 hp with h | h
    · rcases List.mem_append.1 h with h | h
      · exact .inl (hL p (.inl h))
      · simp at h; subst h; exact .inr rfl
    · exact .inl (hL p (.inr h))

theorem own_set {W : World} {B N : Nat} {v : Value} {l : List Int} (h : OwnI W B v l) (hB : N < B) (j : Nat) (a : Value) : OwnI (W.setCell ⟨N, j, none⟩ a) B v l :=
  h.kept fun k hk => Below.heap_setCell _ _ _ k (by have := (h.block k hk).1; simp; omega)
theorem grownBy_setCell2 (W : World) (b j : Nat) (v : Value) : W.grownBy (W.setCell ⟨b, j, none⟩ v) (some b) :=
  ⟨rfl, rfl, rfl, (KeepsWalks.setCell W _ v).size, fun k _ hk => Below.heap_setCell _ _ _ k (fun e => hk (by rw [e]))⟩
theorem Box2.setA {W : World} {B : Nat} {t : TypeId} {u v : Value} (h : Box2 W B t u v) (a : Value) : Box2 (W.setCell ⟨B, 0, none⟩ a) B t a v := by
  obtain ⟨hlt, hk⟩ := Array.getElem?_eq_some_iff.1 h
  show (W.heap.modify B _)[B]? = _
  rw [Array.getElem?_eq_getElem (by rw [Array.size_modify]; exact hlt), Array.getElem_modify_self, hk]
  rfl
theorem Box2.setB {W : World} {B : Nat} {t : TypeId} {u v : Value} (h : Box2 W B t u v) (b : Value) : Box2 (W.setCell ⟨B, 1, none⟩ b) B t u b := by
  obtain ⟨hlt, hk⟩ := Array.getElem?_eq_some_iff.1 h
  show (W.heap.modify B _)[B]? = _
  rw [Array.getElem?_eq_getElem (by rw [Array.size_modify]; exact hlt), Array.getElem_modify_self, hk]
  rfl
theorem Box2.set2 {W : World} {B : Nat} {t : TypeId} {u v : Value} (h : Box2 W B t u v) (a b : Value) : Box2 ((W.setCell ⟨B, 0, none⟩ a).setCell ⟨B, 1, none⟩ b) B t a b := (h.setA a).setB b
/-- What cut answers. -/
def Cuts (L : List (Int × Int)) (t : Int) (w : World) (e : Ending) (w' : World) : Prop :=
  ∃ v L', e = .returned v ∧ Prof w' v (L'.map Prod.fst) (L'.map Prod.snd) ∧ CutAt L t L' ∧ Below w.heap.size w w'
theorem box2_next {W W' : World} {B : Nat} {t : TypeId} {u v : Value} (hb : Below W.heap.size W W') (h : Box2 W B t u v) : Box2 W' B t u v := (hb.block B h.lt).trans h
theorem held_below {A B C : Prop} {N : Nat} {W0 W : World} (h : A ∧ B ∧ C ∧ Below N W0 W) : Below N W0 W := h.2.2.2
theorem below_of {N : Nat} {w W0 W : World} (h : Below w.heap.size w W0) (hb : Below N W0 W) (hN : w.heap.size ≤ N := by omega) : Below w.heap.size w W := h.trans (hb.mono hN)
theorem below_next {N : Nat} {W0 W w' : World} (h : Below N W0 W) (hb : Below W.heap.size W w') (hN : N ≤ W0.heap.size) : Below N W0 w' := h.trans (hb.mono (Nat.le_trans hN h.size))

set_option maxHeartbeats 2000000 in
theorem cut_any {w : World} {v : Value} {L : List (Int × Int)} {t : Int} (h : Prof w v (L.map Prod.fst) (L.map Prod.snd)) (hr : Rise L) (hz : ∃ n, (0, n) ∈ L) (hq : ∀ p ∈ L, 0 ≤ p.1) (hl : L.length ≤ 2001) (ht : 0 ≤ t) :
    Calls Try.prog 41 #[v, .int .i64 t] w (Cuts L t w) := by
  obtain ⟨v1, v2, rfl, h1, h2⟩ := h
  have hpos : 0 < L.length := by obtain ⟨n, hn⟩ := hz; exact List.length_pos_of_mem hn
  have hrise : (L.map Prod.fst).Pairwise (· < ·) := by rw [List.pairwise_map]; exact hr
  have hzero : (L[0]).1 = 0 := by
    obtain ⟨n, hn⟩ := hz
    obtain ⟨q, hq', e⟩ := List.getElem_of_mem hn
    have h0 := hq _ (List.getElem_mem hpos)
    rcases Nat.eq_zero_or_pos q with e0 | e0
    · subst e0; rw [e]
    · have := List.pairwise_iff_getElem.1 hr 0 q hpos hq' e0
      rw [e] at this
      simp at this; omega
  obtain ⟨hm1, a1, c1, rfl, ⟨hc1, hcm1⟩, hx1 | ⟨b1, o1, rfl, hcell1⟩⟩ := h1
  · rw [List.length_map] at hx1; omega
  obtain ⟨hm2, a2, c2, rfl, ⟨hc2, hcm2⟩, hx2 | ⟨b2, o2, rfl, hcell2⟩⟩ := h2
  · rw [List.length_map] at hx2; omega
  have HS := Lib.hid fun (W : World) (hW : Below w.heap.size w W) => search_some b1 o1 c1 (L.map Prod.fst) t W (by rw [List.length_map]; omega) hrise (fun j hj => (hW.cell (p := ⟨b1, o1 + j, none⟩) (cell_lt (hcell1 j hj))).trans (hcell1 j hj))
  have hB1 : b1 < w.heap.size := cell_lt (hcell1 0 (by rw [List.length_map]; omega))
  have hB2 : b2 < w.heap.size := cell_lt (hcell2 0 (by rw [List.length_map]; omega))
  have HC2 : Hid (∀ q (h : q < L.length), w.cell? ⟨b2, o2 + q, none⟩ = some (.int .i64 (L[q]).2)) := fun q h => by have := hcell2 q (by rw [List.length_map]; exact h); rwa [List.getElem_map] at this
  have HI1 := Lib.hid fun (W : World) (hW : Below w.heap.size w W) (i : Nat) (x : Int) (hi0 : 0 < i) (hi : i ≤ L.length) => insert_any (w := W) (v := .slice (some ⟨b1, o1, none⟩) (L.map Prod.fst).length c1) (l := L.map Prod.fst) (Ints.below ⟨hm1, _, c1, rfl, ⟨hc1, hcm1⟩, .inr ⟨b1, o1, rfl, hcell1⟩⟩ hW (Nat.le_refl _)) i x (by rw [List.length_map]; omega) hi0 (by rw [List.length_map]; exact hi)
  have HI2 := Lib.hid fun (W : World) (hW : Below w.heap.size w W) (i : Nat) (x : Int) (hi0 : 0 < i) (hi : i ≤ L.length) => insert_any (w := W) (v := .slice (some ⟨b2, o2, none⟩) (L.map Prod.snd).length c2) (l := L.map Prod.snd) (Ints.below ⟨hm2, _, c2, rfl, ⟨hc2, hcm2⟩, .inr ⟨b2, o2, rfl, hcell2⟩⟩ hW (Nat.le_refl _)) i x (by rw [List.length_map]; omega) hi0 (by rw [List.length_map]; exact hi)
  have HP := Lib.hid fun (W : World) (hW : Below w.heap.size w W) => (⟨_, _, rfl, Ints.below ⟨hm1, _, c1, rfl, ⟨hc1, hcm1⟩, .inr ⟨b1, o1, rfl, hcell1⟩⟩ hW (Nat.le_refl _), Ints.below ⟨hm2, _, c2, rfl, ⟨hc2, hcm2⟩, .inr ⟨b2, o2, rfl, hcell2⟩⟩ hW (Nat.le_refl _)⟩ : Prof W (.agg #[.slice (some ⟨b1, o1, none⟩) (L.map Prod.fst).length c1, .slice (some ⟨b2, o2, none⟩) (L.map Prod.snd).length c2]) (L.map Prod.fst) (L.map Prod.snd))
  have HR := Lib.hid hr
  have HZ := Lib.hid hzero
  have hlen1 : (L.map Prod.fst).length = L.length := List.length_map _
  have hlen2 : (L.map Prod.snd).length = L.length := List.length_map _
  clear hcell1 hcell2
  generalize hn1 : (L.map Prod.fst).length = n1 at *
  generalize hn2 : (L.map Prod.snd).length = n2 at *
  have HN1 := Lib.hid hn1
  have HN2 := Lib.hid hn2
  have HL1 := Lib.hid hlen1
  have HL2 := Lib.hid hlen2
  clear hn1 hn2 hr hz hrise hzero hq hlen1 hlen2 hm1 hm2 hc1 hc2 hcm1 hcm2
  have HB0 : Hid (∀ x y, Below w.heap.size w ((w.alloc x).alloc y)) := fun x y => ((Below.refl _ _).alloc (Nat.le_refl _) _).alloc (by simp) _
  go_enter Try.func41, Try.ntmps41
  go_wp2_with fail
  refine (HS.out _ (HB0.out _ _)).mono ?_
  rintro e w1 ⟨i, there, hi, hlo, hhi, hth, rfl, rfl⟩
  have HHi := Lib.hid (And.intro hi (And.intro hlo (And.intro hhi hth)))
  clear hi hlo hhi hth
  cases there with
  | true =>
    have HH : Hid (∃ n, (t, n) ∈ L) := by
      obtain ⟨h, e⟩ := HHi.out.2.2.2.1 rfl
      have h' : i < L.length := by rw [List.length_map] at h; exact h
      refine ⟨(L[i]).2, ?_⟩
      rw [List.getElem_map] at e
      rw [← e]
      exact List.getElem_mem h'
    go_wp2
    exact bodyPost_ret (v := .agg #[.slice (some ⟨b1, o1, none⟩) n1 c1, .slice (some ⟨b2, o2, none⟩) n2 c2]) (by simp [results, Try.results41, go_sem]) rfl ⟨_, L, rfl, HP.out _ (HB0.out _ _), cut_there HR.out HH.out, HB0.out _ _⟩
  | false =>
    have hi1 : 0 < i := by
      rcases Nat.eq_zero_or_pos i with e | e
      · subst e
        have h1 := HHi.out.2.2.1 0 (by rw [List.length_map]; exact hpos) (Nat.le_refl _)
        rw [List.getElem_map, HZ.out] at h1
        have h2 := HHi.out.2.2.2.2 ⟨by rw [List.length_map]; exact hpos, by rw [List.getElem_map, HZ.out]; omega⟩
        cases h2
      · exact e
    have hi2 : i ≤ L.length := by have := HHi.out.1; rw [List.length_map] at this; exact this
    have hi3 : i - 1 < L.length := by omega
    have HCut : Hid (CutAt L t (L.take i ++ [(t, (L[i - 1]'hi3).2)] ++ L.drop i)) := cut_new HR.out hi1 hi2 (fun q h h' => by
        have := HHi.out.2.1 q (by rw [List.length_map]; exact h) h'
        rwa [List.getElem_map] at this) (fun q h h' => by
        have h3 := HHi.out.2.2.1 q (by rw [List.length_map]; exact h) h'
        rw [List.getElem_map] at h3
        rcases Int.lt_or_eq_of_le h3 with h4 | h4
        · exact h4
        · -- it would stand at i itself
          have hil : i < L.length := by omega
          have h5 := HHi.out.2.2.1 i (by rw [List.length_map]; exact hil) (Nat.le_refl _)
          rw [List.getElem_map] at h5
          have h6 : (L[i]).1 = t := by
            rcases Nat.lt_or_eq_of_le h' with h7 | h7
            · have := List.pairwise_iff_getElem.1 HR.out i q hil h h7; omega
            · subst h7; omega
          have h7 := HHi.out.2.2.2.2 ⟨by rw [List.length_map]; exact hil, by rw [List.getElem_map]; exact h6⟩
          cases h7)
    have hcellN := HC2.out (i - 1) hi3
    have hw1 : IntKind.i64.wrap ((i : Int) - 1) = (i : Int) - 1 := IntWalk.i64_in _ (by omega)
    have hw2 : (0 : Int) ≤ (i : Int) - 1 := by omega
    have hw3 : (i : Int) - 1 < (n2 : Int) := by have := HL2.out; omega
    have hw5 : (1 : Int) ≤ (i : Int) := by omega
    have hw6 : (i : Int) ≤ (n2 : Int) := by have := HL2.out; omega
    have hw4 : ((i : Int) - 1).toNat = i - 1 := by omega
    go_wp2
    obtain ⟨W0, hW0⟩ : ∃ W0, (w.alloc (.cells #[.slice (some ⟨b1, o1, none⟩) n1 c1, .slice (some ⟨b2, o2, none⟩) n2 c2] 24)).alloc (.cells #[.slice none 0 0, .slice none 0 0] 24) = W0 := ⟨_, rfl⟩
    have bS : Box2 W0 w.heap.size 24 (.slice (some ⟨b1, o1, none⟩) n1 c1) (.slice (some ⟨b2, o2, none⟩) n2 c2) := by rw [← hW0]; exact (Box2.new w _ _ _).alloc _
    have bR : Box2 W0 (w.heap.size + 1) 24 (.slice none 0 0) (.slice none 0 0) := by rw [← hW0]; have := Box2.new (w.alloc (.cells #[.slice (some ⟨b1, o1, none⟩) n1 c1, .slice (some ⟨b2, o2, none⟩) n2 c2] 24)) 24 (.slice none 0 0) (.slice none 0 0); rwa [World.size_alloc] at this
    have hB0 : Below w.heap.size w W0 := by rw [← hW0]; exact HB0.out _ _
    have hcN : W0.cell? ⟨b2, o2 + (i - 1), none⟩ = some (.int .i64 (L[i - 1]'hi3).2) := (hB0.cell (p := ⟨b2, o2 + (i - 1), none⟩) hB2).trans hcellN
    have hsz0 : w.heap.size + 2 = W0.heap.size := by rw [← hW0]; simp
    rw [hW0]
    clear hW0 hcellN
    have e0 := bS.cell0
    have e1 := bS.cell1
    have HELD : Hid (∀ W, Below (w.heap.size + 1) W0 W → W.cell? ⟨w.heap.size, 0, none⟩ = some (.slice (some ⟨b1, o1, none⟩) n1 c1) ∧ W.cell? ⟨w.heap.size, 1, none⟩ = some (.slice (some ⟨b2, o2, none⟩) n2 c2) ∧ W.cell? ⟨b2, o2 + (i - 1), none⟩ = some (.int .i64 (L[i - 1]'hi3).2) ∧ Below (w.heap.size + 1) W0 W) := fun W hW =>
      ⟨(hW.cell (p := ⟨w.heap.size, 0, none⟩) (by simp)).trans e0, (hW.cell (p := ⟨w.heap.size, 1, none⟩) (by simp)).trans e1, (hW.cell (p := ⟨b2, o2 + (i - 1), none⟩) (by simp; omega)).trans hcN, hW⟩
    generalize hx : (L[i - 1]'hi3).2 = x at *
    clear hx
    go_region_held3 (fun W => W.cell? ⟨w.heap.size, 0, none⟩ = some (.slice (some ⟨b1, o1, none⟩) n1 c1) ∧ W.cell? ⟨w.heap.size, 1, none⟩ = some (.slice (some ⟨b2, o2, none⟩) n2 c2) ∧ W.cell? ⟨b2, o2 + (i - 1), none⟩ = some (.int .i64 x) ∧ Below (w.heap.size + 1) W0 W)
      (exact HELD.out _ (by first | assumption | exact Below.drew (by assumption) | exact (Below.refl _ _).drew | exact Below.setCell (Below.setCell (by assumption) (by simp) _) (by simp) _))
      (first
        | (go_at_call 48; ((with_reducible refine (HI1.out _ (below_of hB0 (held_below (by assumption))) _ _ hi1 hi2).mono ?_); rintro e w1 ⟨u1, rfl, hu1, hb1⟩; obtain ⟨g1, m1, cp1, rfl⟩ := hu1.form_any (pos_mid _ _ _); have HU1 := Lib.hid hu1; have hN := below_next (N := w.heap.size + 1) (held_below (by assumption)) hb1 (by omega); have bR := box2_next hb1 bR; have r0 := bR.cell0; have r1 := bR.cell1; have f0 := bR.free 0; have f1 := bR.free 1))
        | (go_at_call 48; ((with_reducible refine (HI2.out _ (below_of hB0 (held_below (by assumption))) _ _ hi1 hi2).mono ?_); rintro e w2 ⟨u2, rfl, hu2, hb2⟩; obtain ⟨g2, m2, cp2, rfl⟩ := hu2.form_any (pos_mid _ _ _); have HU2 := Lib.hid hu2; have hN := below_next (N := w.heap.size + 1) (held_below (by assumption)) hb2 (by omega); have bR := box2_next hb2 bR; have r0 := bR.cell0; have r1 := bR.cell1; have f0 := bR.free 0; have f1 := bR.free 1)))
    all_goals
      have hO1 := HU1.out.below hb2
      have hO2 := HU2.out
      have hb3 : Below (w.heap.size + 1) W0 w2 := hN
      have HX := Lib.hid (And.intro hO1 (And.intro hO2 (And.intro hb3 (And.intro bR (And.intro hb1.size hb2.size)))))
      clear hO1 hO2 hb3 hu1 hu2 hb1 hb2 HU1 HU2
      go_wp2
      obtain ⟨hO1, hO2, hb3, bR3, hs1, hs2⟩ := HX.out
      have hs0 : w.heap.size + 2 ≤ W0.drew.heap.size := Nat.le_of_eq hsz0
      have bQ := Box2.set2 bR3 (.slice (some ⟨g1, 0, none⟩) m1 cp1) (.slice (some ⟨g2, 0, none⟩) m2 cp2)
      have q0 := bQ.cell0
      have q1 := bQ.cell1
      have hfst : (L.take i ++ [(t, x)] ++ L.drop i).map Prod.fst = (L.map Prod.fst).take i ++ [t] ++ (L.map Prod.fst).drop i := by simp [List.map_take, List.map_drop]
      have hsnd : (L.take i ++ [(t, x)] ++ L.drop i).map Prod.snd = (L.map Prod.snd).take i ++ [x] ++ (L.map Prod.snd).drop i := by simp [List.map_take, List.map_drop]
      have hlm : ∀ l : List Int, l.length = L.length → ∀ y, (l.take i ++ [y] ++ l.drop i).length ≤ maxLen := fun l hl' y => by
        rw [List.length_append, List.length_append, List.length_take, List.length_drop]; unfold maxLen; simp; omega
      refine bodyPost_ret (v := .agg #[.slice (some ⟨g1, 0, none⟩) m1 cp1, .slice (some ⟨g2, 0, none⟩) m2 cp2]) (by simp [results, Try.results41, go_sem, q0, q1]) rfl ⟨_, L.take i ++ [(t, x)] ++ L.drop i, rfl, ?_, HCut.out, ?_⟩
      · refine ⟨_, _, rfl, ?_, ?_⟩
        · rw [hfst]
          exact OwnI.ints (own_set (own_set hO1 (by omega) 0 _) (by omega) 1 _) (hlm _ (List.length_map _) _)
        · rw [hsnd]
          exact OwnI.ints (own_set (own_set hO2 (by omega) 0 _) (by omega) 1 _) (hlm _ (List.length_map _) _)
      · exact (below_of hB0 (hb3.setCell (p := ⟨w.heap.size + 1, 0, none⟩) (by simp) _)).setCell (p := ⟨w.heap.size + 1, 1, none⟩) (by simp) _
end Go.Proofs.Ytigomdihkojdmaa.gn
