/- The document's 'does'. -/
import Derived.Test.YtdfiofjnijnodaaFjB
import Derived.StillTailTactics
import Derived.BigQuiet
set_option linter.unusedVariables false
namespace Go.Proofs.Ytdfiofjnijnodaa.gn
open Go.RowKit
open Go.Proofs.Ytdfiofjnijnodaa.fi

def Bd (M : Nat) (L : List DF) : Prop := ∀ f ∈ L, f.2.1.size ≤ M
theorem Bd.mono {M M' : Nat} {L : List DF} (h : Bd M L) (hM : M ≤ M') : Bd M' L := fun f hf => Nat.le_trans (h f hf) hM
theorem Bd.app {M : Nat} {L L' : List DF} (h : Bd M L) (h' : Bd M L') : Bd M (L ++ L') := fun f hf => by
  rcases List.mem_append.1 hf with h1 | h1
  · exact h f h1
  · exact h' f h1
theorem Bd.without {M : Nat} {L : List DF} (h : Bd M L) (k : Nat) : Bd M (L.take k ++ L.drop (k + 1)) := Bd.app (fun f hf => h f (List.take_subset _ _ hf)) fun f hf => h f (List.drop_subset _ _ hf)
theorem Bd.set {M : Nat} {L : List DF} (h : Bd M L) (k : Nat) {f : DF} (hf : f.2.1.size ≤ M) : Bd M (L.set k f) := fun g hg => by
  rcases List.mem_or_eq_of_mem_set hg with h1 | rfl
  · exact h g h1
  · exact hf
theorem FR.form2 {w : World} {B : Nat} {v : Value} {L : List DF} (h : FR w B v L) {k : Nat} (hk : k < L.length) : ∃ g c, v = .slice (some ⟨g, 0, none⟩) L.length c ∧ B ≤ g ∧ L.length ≤ c ∧ c ≤ maxLen := by
  rcases h.form with ⟨rfl, rfl⟩ | h1
  · simp at hk
  · exact h1
/-- An operation of the document's in memory. -/
def OpB (w : World) (b : Nat) (k : Int) (nm s : ByteArray) (n : Int) : Prop := w.heap[b]? = some (.cells #[.int .i64 k, .string nm, .string s, .int .i64 n] 61 (0, 0))
theorem OpB.cells {w : World} {b : Nat} {k : Int} {nm s : ByteArray} {n : Int} (h : OpB w b k nm s n) :
    w.cell? ⟨b, 0, none⟩ = some (.int .i64 k) ∧ w.cell? ⟨b, 1, none⟩ = some (.string nm) ∧ w.cell? ⟨b, 2, none⟩ = some (.string s) ∧ w.cell? ⟨b, 3, none⟩ = some (.int .i64 n) :=
  ⟨by rw [cell_of_row w b 0 _ _ _ h]; rfl, by rw [cell_of_row w b 1 _ _ _ h]; rfl, by rw [cell_of_row w b 2 _ _ _ h]; rfl, by rw [cell_of_row w b 3 _ _ _ h]; rfl⟩
theorem OpB.below {w w' : World} {b : Nat} {k : Int} {nm s : ByteArray} {n : Int} (h : OpB w b k nm s n) (hb : Below w.heap.size w w') : OpB w' b k nm s n := (hb.block b (lt_of_block h)).trans h
theorem flatF_set1 {f : DF} {b : ByteArray} : ∀ (L : List DF) (i : Nat), L[i]? = some f → (flatF L).set (i * 3 + 1) (.string b) = flatF (L.set i (f.1, b, f.2.2))
  | [], i, h => by simp at h
  | c :: r, 0, h => by
    simp only [List.getElem?_cons_zero, Option.some.injEq] at h
    subst h
    rfl
  | c :: r, i + 1, h => by
    have := flatF_set1 (b := b) r i (by simpa using h)
    rw [flatF_cons, show (i + 1) * 3 + 1 = (i * 3 + 1) + 1 + 1 + 1 by omega, List.set_cons_succ, List.set_cons_succ, List.set_cons_succ, this]
    rfl
theorem flatF_set2 {f : DF} {b : Bool} : ∀ (L : List DF) (i : Nat), L[i]? = some f → (flatF L).set (i * 3 + 2) (.bool b) = flatF (L.set i (f.1, f.2.1, b))
  | [], i, h => by simp at h
  | c :: r, 0, h => by
    simp only [List.getElem?_cons_zero, Option.some.injEq] at h
    subst h
    rfl
  | c :: r, i + 1, h => by
    have := flatF_set2 (b := b) r i (by simpa using h)
    rw [flatF_cons, show (i + 1) * 3 + 2 = (i * 3 + 2) + 1 + 1 + 1 by omega, List.set_cons_succ, List.set_cons_succ, List.set_cons_succ, this]
    rfl
theorem FR.put1 {w : World} {B g c : Nat} {L : List DF} (h : FR w B (.slice (some ⟨g, 0, none⟩) L.length c) L) {i : Nat} {f : DF} (hi : L[i]? = some f) (b : ByteArray) :
    FR (w.setCell ⟨g, i * 3 + 1, none⟩ (.string b)) B (.slice (some ⟨g, 0, none⟩) L.length c) (L.set i (f.1, b, f.2.2)) := by
  have h1 := (World.ownsRow.stored h (i * 3 + 1) (.string b)).1
  rw [flatF_set1 L i hi] at h1
  unfold FR
  rw [List.length_set]
  exact h1
theorem FR.put2 {w : World} {B g c : Nat} {L : List DF} (h : FR w B (.slice (some ⟨g, 0, none⟩) L.length c) L) {i : Nat} {f : DF} (hi : L[i]? = some f) (b : Bool) :
    FR (w.setCell ⟨g, i * 3 + 2, none⟩ (.bool b)) B (.slice (some ⟨g, 0, none⟩) L.length c) (L.set i (f.1, f.2.1, b)) := by
  have h1 := (World.ownsRow.stored h (i * 3 + 2) (.bool b)).1
  rw [flatF_set2 L i hi] at h1
  unfold FR
  rw [List.length_set]
  exact h1
theorem FR.alloc {w : World} {B : Nat} {v : Value} {L : List DF} (h : FR w B v L) (o : Obj) : FR (w.alloc o) B v L := World.ownsRow.alloc h o
theorem FR.drew {w : World} {B : Nat} {v : Value} {L : List DF} (h : FR w B v L) : FR w.drew B v L := h
theorem FR.ge {w : World} {B g n c : Nat} {L : List DF} (h : FR w B (.slice (some ⟨g, 0, none⟩) n c) L) : B ≤ g := (World.ownsRow.lt h g rfl).1
theorem FR.free {w : World} {B g c : Nat} {L : List DF} (h : FR w B (.slice (some ⟨g, 0, none⟩) L.length c) L) (j : Nat) : w.frozen? ⟨g, j, none⟩ = false := World.ownsRow.frozenAt h j
theorem src_one (W : World) (a b : ByteArray) (u : Bool) : Src (W.alloc (.cells #[.string a, .string b, .bool u] 88)) (.slice (some ⟨W.heap.size, 0, none⟩) 1 1) [(a, b, u)] := by
  refine .inr ⟨_, _, rfl, fun j x hx => ?_⟩
  have hadd : ∀ j, (⟨W.heap.size, 0, none⟩ : Addr).add j = ⟨W.heap.size, j, none⟩ := fun j => by unfold Addr.add; split <;> simp_all
  rw [hadd, cell_of_row _ _ j _ _ _ (heap_alloc_new W _), ← Array.getElem?_toList]
  exact hx
/-- A file in a variable. -/
def FB (w : World) (b : Nat) (x y : ByteArray) (u : Bool) : Prop := w.heap[b]? = some (.cells #[.string x, .string y, .bool u] 88 (0, 0))
theorem FB.new (w : World) (x y : ByteArray) (u : Bool) : FB (w.alloc (.cells #[.string x, .string y, .bool u] 88)) w.heap.size x y u := heap_alloc_new w _
theorem FB.below {w w' : World} {b : Nat} {x y : ByteArray} {u : Bool} (h : FB w b x y u) (hb : Below w.heap.size w w') : FB w' b x y u := (hb.block b (lt_of_block h)).trans h
theorem FB.cells {w : World} {b : Nat} {x y : ByteArray} {u : Bool} (h : FB w b x y u) : w.cell? ⟨b, 0, none⟩ = some (.string x) ∧ w.cell? ⟨b, 1, none⟩ = some (.string y) ∧ w.cell? ⟨b, 2, none⟩ = some (.bool u) :=
  ⟨by rw [cell_of_row w b 0 _ _ _ h]; rfl, by rw [cell_of_row w b 1 _ _ _ h]; rfl, by rw [cell_of_row w b 2 _ _ _ h]; rfl⟩
theorem FB.free {w : World} {b : Nat} {x y : ByteArray} {u : Bool} (h : FB w b x y u) (j : Nat) : w.frozen? ⟨b, j, none⟩ = false := frozen_of_row w b j _ _ h
theorem FR.far {w : World} {B : Nat} {v : Value} {L : List DF} (h : FR w B v L) {p : Addr} (hp : p.block < B) (u : Value) : FR (w.setCell p u) B v L :=
  row_kept h fun g cs hg hh => (Below.heap_setCell w p u g (by have := (World.ownsRow.lt h g hg).1; omega)).trans hh
/-- What 'does' answers. -/
def DoesD (L : List DF) (s : ByteArray) (w : World) (e : Ending) (w' : World) : Prop :=
  ∃ v' L', e = .returned v' ∧ FR w' w.heap.size v' L' ∧ L'.length ≤ L.length + 1 ∧ (∀ M, Bd M L → Bd (M + s.size) L') ∧ Below w.heap.size w w'
theorem scut_same (w : World) (n : Int) (s : ByteArray) (hs : s.size ≤ 1099511627776) : Calls Try.prog 55 #[.int .i64 n, .string s] w fun e w' => e = .returned (.string (cutS n s)) ∧ w' = w :=
  (scut_any w n s hs).mono fun _ _ h => ⟨h.1, h.2.symm⟩

set_option maxHeartbeats 4000000 in
set_option maxRecDepth 100000 in
theorem does_none (w : World) (v : Value) (L : List DF) (nm s : ByteArray) (n many : Int) (h : FR w 0 v L) (hl : L.length ≤ 100000) (hbd : Bd 1000000 L) (hs : s.size ≤ 1000000) (q : Int) (hq : (q == 0) = false) (hat : atI nm L = -1) :
    Calls Try.prog 45 #[v, .agg #[.int .i64 q, .string nm, .string s, .int .i64 n], .int .i64 many] w (DoesD L s w) := by
  have hz : (w.alloc (.cells #[.int .i64 q, .string nm, .string s, .int .i64 n] 61)).heap.size = w.heap.size + 1 := by simp
  have hb0 : Below w.heap.size w (w.alloc (.cells #[.int .i64 q, .string nm, .string s, .int .i64 n] 61)) := (Below.refl _ w).alloc (Nat.le_refl _) _
  have ho0 : OpB (w.alloc (.cells #[.int .i64 q, .string nm, .string s, .int .i64 n] 61)) w.heap.size q nm s n := heap_alloc_new w _
  have hb1 : Below (w.heap.size + 1) (w.alloc (.cells #[.int .i64 q, .string nm, .string s, .int .i64 n] 61)) ((w.alloc (.cells #[.int .i64 q, .string nm, .string s, .int .i64 n] 61)).alloc (.cells #[] 88)) := (Below.refl _ _).alloc (by rw [hz]; omega) _
  have hr0 := FR.new0 (w.alloc (.cells #[.int .i64 q, .string nm, .string s, .int .i64 n] 61))
  rw [hz] at hr0
  have hsl : Src ((w.alloc (.cells #[.int .i64 q, .string nm, .string s, .int .i64 n] 61)).alloc (.cells #[] 88)) v L := h.src.below (hb0.trans (hb1.mono (Nat.le_succ _)))
  obtain ⟨A0, n0, c0, rfl⟩ := h.shape
  have HB0 := Lib.hid hb0
  have HO0 := Lib.hid ho0
  have HB1 := Lib.hid hb1
  have HR0 := Lib.hid hr0
  have HSL := Lib.hid hsl
  have HAT := Lib.hid hat
  have HBD := Lib.hid hbd
  clear h hb0 ho0 hb1 hr0 hsl hz hat hbd
  go_enter Try.func45, Try.ntmps45
  go_wp2_with (first
    | (at_builtin; refine wpl_appF rfl _ _ rfl (w.heap.size + 1) _ [] rfl HR0.out _ L rfl HSL.out (by simp; omega) (by simp) ?_; intro v1 w1 h1 g1; rw [List.nil_append] at h1; have hb1 := grown_below HB1.out HR0.out g1 (by simp); have o1 := HO0.out.below (hb1.mono (by simp)); obtain ⟨b0, b1, b2, b3⟩ := o1.cells; obtain ⟨A1, n1, c1, rfl⟩ := h1.shape; have H1 := Lib.hid h1; have HBB := Lib.hid hb1; have HO1 := Lib.hid o1; have hz1 : w.heap.size + 1 ≤ w1.heap.size := Nat.le_trans (by simp) hb1.size; clear h1 g1 hb1 o1)
    | (go_at_call 43; ((with_reducible refine (dat_any5 _ _ _ L nm H1.out).mono ?_); rintro e w' ⟨rfl, rfl⟩; rw [HAT.out])))
  go_ret
  exact ⟨_, _, rfl, H1.out.mono (Nat.le_succ _), Nat.le_succ _, fun M hM => hM.mono (Nat.le_add_right _ _), HB0.out.trans (HBB.out.mono (Nat.le_succ _))⟩

set_option maxHeartbeats 4000000 in
set_option maxRecDepth 100000 in
theorem does_0a (w : World) (v : Value) (L : List DF) (nm s : ByteArray) (n many : Int) (h : FR w 0 v L) (hl : L.length ≤ 100000) (hbd : Bd 1000000 L) (hs : s.size ≤ 1000000) (hat : atI nm L = -1) :
    Calls Try.prog 45 #[v, .agg #[.int .i64 0, .string nm, .string s, .int .i64 n], .int .i64 many] w (DoesD L s w) := by
  have hz : (w.alloc (.cells #[.int .i64 0, .string nm, .string s, .int .i64 n] 61)).heap.size = w.heap.size + 1 := by simp
  have hb0 : Below w.heap.size w (w.alloc (.cells #[.int .i64 0, .string nm, .string s, .int .i64 n] 61)) := (Below.refl _ w).alloc (Nat.le_refl _) _
  have ho0 : OpB (w.alloc (.cells #[.int .i64 0, .string nm, .string s, .int .i64 n] 61)) w.heap.size 0 nm s n := heap_alloc_new w _
  have hb1 : Below (w.heap.size + 1) (w.alloc (.cells #[.int .i64 0, .string nm, .string s, .int .i64 n] 61)) ((w.alloc (.cells #[.int .i64 0, .string nm, .string s, .int .i64 n] 61)).alloc (.cells #[] 88)) := (Below.refl _ _).alloc (by rw [hz]; omega) _
  have hr0 := FR.new0 (w.alloc (.cells #[.int .i64 0, .string nm, .string s, .int .i64 n] 61))
  rw [hz] at hr0
  have hsl : Src ((w.alloc (.cells #[.int .i64 0, .string nm, .string s, .int .i64 n] 61)).alloc (.cells #[] 88)) v L := h.src.below (hb0.trans (hb1.mono (Nat.le_succ _)))
  obtain ⟨A0, n0, c0, rfl⟩ := h.shape
  have HB0 := Lib.hid hb0
  have HO0 := Lib.hid ho0
  have HB1 := Lib.hid hb1
  have HR0 := Lib.hid hr0
  have HSL := Lib.hid hsl
  have HAT := Lib.hid hat
  have HBD := Lib.hid hbd
  clear h hb0 ho0 hb1 hr0 hsl hz hat hbd
  go_enter Try.func45, Try.ntmps45
  go_wp2_with (first
    | (at_builtin; refine wpl_appF rfl _ _ rfl (w.heap.size + 1) _ [] rfl HR0.out _ L rfl HSL.out (by simp; omega) (by simp) ?_; intro v1 w1 h1 g1; rw [List.nil_append] at h1; have hb1 := grown_below HB1.out HR0.out g1 (by simp); have o1 := HO0.out.below (hb1.mono (by simp)); obtain ⟨b0, b1, b2, b3⟩ := o1.cells; obtain ⟨A1, n1, c1, rfl⟩ := h1.shape; have H1 := Lib.hid h1; have HBB := Lib.hid hb1; have HO1 := Lib.hid o1; have hz1 : w.heap.size + 1 ≤ w1.heap.size := Nat.le_trans (by simp) hb1.size; clear h1 g1 hb1 o1)
    | (go_at_call 43; ((with_reducible refine (dat_any5 _ _ _ L nm H1.out).mono ?_); rintro e w' ⟨rfl, rfl⟩; rw [HAT.out]))
    | (at_builtin; refine wpl_appF rfl _ _ rfl (w.heap.size + 1) _ L rfl (H1.out.alloc _) _ [(nm, ⟨#[]⟩, false)] rfl (src_one _ _ _ _) (by simp; omega) (by simp; omega) ?_; intro v2 w2 h2 g2; have hb2 := grown_below (HBB.out.alloc (by simpa using hz1) _) (H1.out.alloc _) g2 (by simp); have H2 := Lib.hid h2; have HB2 := Lib.hid hb2; clear h2 g2 hb2))
  go_ret
  exact ⟨_, _, rfl, H2.out.mono (Nat.le_succ _), by simp, fun M hM => (hM.mono (Nat.le_add_right _ _)).app fun f hf => by
    rw [List.mem_singleton] at hf
    subst hf
    exact Nat.zero_le _, HB0.out.trans (HB2.out.mono (Nat.le_succ _))⟩

set_option maxHeartbeats 4000000 in
set_option maxRecDepth 100000 in
theorem does_0b (w : World) (v : Value) (L : List DF) (nm s : ByteArray) (n many : Int) (h : FR w 0 v L) (hl : L.length ≤ 100000) (hbd : Bd 1000000 L) (hs : s.size ≤ 1000000) (k : Nat) (hat : atI nm L = (k : Int)) (hk : k < L.length) :
    Calls Try.prog 45 #[v, .agg #[.int .i64 0, .string nm, .string s, .int .i64 n], .int .i64 many] w (DoesD L s w) := by
  have hz : (w.alloc (.cells #[.int .i64 0, .string nm, .string s, .int .i64 n] 61)).heap.size = w.heap.size + 1 := by simp
  have hb0 : Below w.heap.size w (w.alloc (.cells #[.int .i64 0, .string nm, .string s, .int .i64 n] 61)) := (Below.refl _ w).alloc (Nat.le_refl _) _
  have ho0 : OpB (w.alloc (.cells #[.int .i64 0, .string nm, .string s, .int .i64 n] 61)) w.heap.size 0 nm s n := heap_alloc_new w _
  have hb1 : Below (w.heap.size + 1) (w.alloc (.cells #[.int .i64 0, .string nm, .string s, .int .i64 n] 61)) ((w.alloc (.cells #[.int .i64 0, .string nm, .string s, .int .i64 n] 61)).alloc (.cells #[] 88)) := (Below.refl _ _).alloc (by rw [hz]; omega) _
  have hr0 := FR.new0 (w.alloc (.cells #[.int .i64 0, .string nm, .string s, .int .i64 n] 61))
  rw [hz] at hr0
  have hsl : Src ((w.alloc (.cells #[.int .i64 0, .string nm, .string s, .int .i64 n] 61)).alloc (.cells #[] 88)) v L := h.src.below (hb0.trans (hb1.mono (Nat.le_succ _)))
  obtain ⟨A0, n0, c0, rfl⟩ := h.shape
  have HB0 := Lib.hid hb0
  have HO0 := Lib.hid ho0
  have HB1 := Lib.hid hb1
  have HR0 := Lib.hid hr0
  have HSL := Lib.hid hsl
  have HAT := Lib.hid hat
  have HBD := Lib.hid hbd
  have hI0 : (0 : Int) ≤ (k : Int) := by omega
  have hI1 : (k : Int) < (L.length : Int) := by omega
  clear h hb0 ho0 hb1 hr0 hsl hz hat hbd
  go_enter Try.func45, Try.ntmps45
  go_wp2_with (first
    | (at_builtin; refine wpl_appF rfl _ _ rfl (w.heap.size + 1) _ [] rfl HR0.out _ L rfl HSL.out (by simp; omega) (by simp) ?_; intro v1 w1 h1 g1; rw [List.nil_append] at h1; have hb1 := grown_below HB1.out HR0.out g1 (by simp); have o1 := HO0.out.below (hb1.mono (by simp)); obtain ⟨b0, b1, b2, b3⟩ := o1.cells; obtain ⟨g, c, rfl, hgg, hgc, hgm⟩ := h1.form2 hk; unfold maxLen at hgm; have H1 := Lib.hid h1; have HBB := Lib.hid hb1; have HO1 := Lib.hid o1; have hz1 : w.heap.size + 1 ≤ w1.heap.size := Nat.le_trans (by simp) hb1.size; clear h1 g1 hb1 o1)
    | (go_at_call 43; ((with_reducible refine (dat_any5 _ _ _ L nm H1.out).mono ?_); rintro e w' ⟨rfl, rfl⟩; rw [HAT.out])))
  go_ret
  exact ⟨_, _, rfl, H1.out.mono (Nat.le_succ _), Nat.le_succ _, fun M hM => hM.mono (Nat.le_add_right _ _), HB0.out.trans (HBB.out.mono (Nat.le_succ _))⟩

set_option maxHeartbeats 4000000 in
set_option maxRecDepth 100000 in
theorem does_1h (w : World) (v : Value) (L : List DF) (nm s : ByteArray) (n many : Int) (h : FR w 0 v L) (hl : L.length ≤ 100000) (hbd : Bd 1000000 L) (hs : s.size ≤ 1000000) (k : Nat) (hat : atI nm L = (k : Int)) (hk : k < L.length) (f : DF) (hf : L[k]? = some f) (hu : f.2.2 = true) :
    Calls Try.prog 45 #[v, .agg #[.int .i64 1, .string nm, .string s, .int .i64 n], .int .i64 many] w (DoesD L s w) := by
  have hz : (w.alloc (.cells #[.int .i64 1, .string nm, .string s, .int .i64 n] 61)).heap.size = w.heap.size + 1 := by simp
  have hb0 : Below w.heap.size w (w.alloc (.cells #[.int .i64 1, .string nm, .string s, .int .i64 n] 61)) := (Below.refl _ w).alloc (Nat.le_refl _) _
  have ho0 : OpB (w.alloc (.cells #[.int .i64 1, .string nm, .string s, .int .i64 n] 61)) w.heap.size 1 nm s n := heap_alloc_new w _
  have hb1 : Below (w.heap.size + 1) (w.alloc (.cells #[.int .i64 1, .string nm, .string s, .int .i64 n] 61)) ((w.alloc (.cells #[.int .i64 1, .string nm, .string s, .int .i64 n] 61)).alloc (.cells #[] 88)) := (Below.refl _ _).alloc (by rw [hz]; omega) _
  have hr0 := FR.new0 (w.alloc (.cells #[.int .i64 1, .string nm, .string s, .int .i64 n] 61))
  rw [hz] at hr0
  have hsl : Src ((w.alloc (.cells #[.int .i64 1, .string nm, .string s, .int .i64 n] 61)).alloc (.cells #[] 88)) v L := h.src.below (hb0.trans (hb1.mono (Nat.le_succ _)))
  obtain ⟨A0, n0, c0, rfl⟩ := h.shape
  have HB0 := Lib.hid hb0
  have HO0 := Lib.hid ho0
  have HB1 := Lib.hid hb1
  have HR0 := Lib.hid hr0
  have HSL := Lib.hid hsl
  have HAT := Lib.hid hat
  have HBD := Lib.hid hbd
  have hI0 : (0 : Int) ≤ (k : Int) := by omega
  have hI1 : (k : Int) < (L.length : Int) := by omega
  have HF := Lib.hid hf
  have hfz : f.2.1.size ≤ 1000000 := hbd f (List.mem_of_getElem? hf)
  obtain ⟨x, y, u⟩ := f
  simp only at hfz
  clear h hb0 ho0 hb1 hr0 hsl hz hat hbd
  simp only at hu
  subst hu
  go_enter Try.func45, Try.ntmps45
  go_wp2_with (first
    | (at_builtin; refine wpl_appF rfl _ _ rfl (w.heap.size + 1) _ [] rfl HR0.out _ L rfl HSL.out (by simp; omega) (by simp) ?_; intro v1 w1 h1 g1; rw [List.nil_append] at h1; have hb1 := grown_below HB1.out HR0.out g1 (by simp); have o1 := HO0.out.below (hb1.mono (by simp)); obtain ⟨b0, b1, b2, b3⟩ := o1.cells; obtain ⟨g, c, rfl, hgg, hgc, hgm⟩ := h1.form2 hk; unfold maxLen at hgm; obtain ⟨c1, c2, c3⟩ := h1.cells HF.out; have hfr := h1.free (k * 3 + 1); have H1 := Lib.hid h1; have HBB := Lib.hid hb1; have HO1 := Lib.hid o1; have hz1 : w.heap.size + 1 ≤ w1.heap.size := Nat.le_trans (by simp) hb1.size; clear h1 g1 hb1 o1)
    | (go_at_call 43; ((with_reducible refine (dat_any5 _ _ _ L nm H1.out).mono ?_); rintro e w' ⟨rfl, rfl⟩; rw [HAT.out])))
  go_ret
  exact ⟨_, _, rfl, H1.out.mono (Nat.le_succ _), Nat.le_succ _, fun M hM => hM.mono (Nat.le_add_right _ _), HB0.out.trans (HBB.out.mono (Nat.le_succ _))⟩

set_option maxHeartbeats 4000000 in
set_option maxRecDepth 100000 in
theorem does_2h (w : World) (v : Value) (L : List DF) (nm s : ByteArray) (n many : Int) (h : FR w 0 v L) (hl : L.length ≤ 100000) (hbd : Bd 1000000 L) (hs : s.size ≤ 1000000) (k : Nat) (hat : atI nm L = (k : Int)) (hk : k < L.length) (f : DF) (hf : L[k]? = some f) (hu : f.2.2 = true) :
    Calls Try.prog 45 #[v, .agg #[.int .i64 2, .string nm, .string s, .int .i64 n], .int .i64 many] w (DoesD L s w) := by
  have hz : (w.alloc (.cells #[.int .i64 2, .string nm, .string s, .int .i64 n] 61)).heap.size = w.heap.size + 1 := by simp
  have hb0 : Below w.heap.size w (w.alloc (.cells #[.int .i64 2, .string nm, .string s, .int .i64 n] 61)) := (Below.refl _ w).alloc (Nat.le_refl _) _
  have ho0 : OpB (w.alloc (.cells #[.int .i64 2, .string nm, .string s, .int .i64 n] 61)) w.heap.size 2 nm s n := heap_alloc_new w _
  have hb1 : Below (w.heap.size + 1) (w.alloc (.cells #[.int .i64 2, .string nm, .string s, .int .i64 n] 61)) ((w.alloc (.cells #[.int .i64 2, .string nm, .string s, .int .i64 n] 61)).alloc (.cells #[] 88)) := (Below.refl _ _).alloc (by rw [hz]; omega) _
  have hr0 := FR.new0 (w.alloc (.cells #[.int .i64 2, .string nm, .string s, .int .i64 n] 61))
  rw [hz] at hr0
  have hsl : Src ((w.alloc (.cells #[.int .i64 2, .string nm, .string s, .int .i64 n] 61)).alloc (.cells #[] 88)) v L := h.src.below (hb0.trans (hb1.mono (Nat.le_succ _)))
  obtain ⟨A0, n0, c0, rfl⟩ := h.shape
  have HB0 := Lib.hid hb0
  have HO0 := Lib.hid ho0
  have HB1 := Lib.hid hb1
  have HR0 := Lib.hid hr0
  have HSL := Lib.hid hsl
  have HAT := Lib.hid hat
  have HBD := Lib.hid hbd
  have hI0 : (0 : Int) ≤ (k : Int) := by omega
  have hI1 : (k : Int) < (L.length : Int) := by omega
  have HF := Lib.hid hf
  have hfz : f.2.1.size ≤ 1000000 := hbd f (List.mem_of_getElem? hf)
  obtain ⟨x, y, u⟩ := f
  simp only at hfz
  clear h hb0 ho0 hb1 hr0 hsl hz hat hbd
  simp only at hu
  subst hu
  go_enter Try.func45, Try.ntmps45
  go_wp2_with (first
    | (at_builtin; refine wpl_appF rfl _ _ rfl (w.heap.size + 1) _ [] rfl HR0.out _ L rfl HSL.out (by simp; omega) (by simp) ?_; intro v1 w1 h1 g1; rw [List.nil_append] at h1; have hb1 := grown_below HB1.out HR0.out g1 (by simp); have o1 := HO0.out.below (hb1.mono (by simp)); obtain ⟨b0, b1, b2, b3⟩ := o1.cells; obtain ⟨g, c, rfl, hgg, hgc, hgm⟩ := h1.form2 hk; unfold maxLen at hgm; obtain ⟨c1, c2, c3⟩ := h1.cells HF.out; have hfr := h1.free (k * 3 + 1); have H1 := Lib.hid h1; have HBB := Lib.hid hb1; have HO1 := Lib.hid o1; have hz1 : w.heap.size + 1 ≤ w1.heap.size := Nat.le_trans (by simp) hb1.size; clear h1 g1 hb1 o1)
    | (go_at_call 43; ((with_reducible refine (dat_any5 _ _ _ L nm H1.out).mono ?_); rintro e w' ⟨rfl, rfl⟩; rw [HAT.out])))
  go_ret
  exact ⟨_, _, rfl, H1.out.mono (Nat.le_succ _), Nat.le_succ _, fun M hM => hM.mono (Nat.le_add_right _ _), HB0.out.trans (HBB.out.mono (Nat.le_succ _))⟩

set_option maxHeartbeats 4000000 in
set_option maxRecDepth 100000 in
theorem does_1 (w : World) (v : Value) (L : List DF) (nm s : ByteArray) (n many : Int) (h : FR w 0 v L) (hl : L.length ≤ 100000) (hbd : Bd 1000000 L) (hs : s.size ≤ 1000000) (k : Nat) (hat : atI nm L = (k : Int)) (hk : k < L.length) (f : DF) (hf : L[k]? = some f) (hu : f.2.2 = false) :
    Calls Try.prog 45 #[v, .agg #[.int .i64 1, .string nm, .string s, .int .i64 n], .int .i64 many] w (DoesD L s w) := by
  have hz : (w.alloc (.cells #[.int .i64 1, .string nm, .string s, .int .i64 n] 61)).heap.size = w.heap.size + 1 := by simp
  have hb0 : Below w.heap.size w (w.alloc (.cells #[.int .i64 1, .string nm, .string s, .int .i64 n] 61)) := (Below.refl _ w).alloc (Nat.le_refl _) _
  have ho0 : OpB (w.alloc (.cells #[.int .i64 1, .string nm, .string s, .int .i64 n] 61)) w.heap.size 1 nm s n := heap_alloc_new w _
  have hb1 : Below (w.heap.size + 1) (w.alloc (.cells #[.int .i64 1, .string nm, .string s, .int .i64 n] 61)) ((w.alloc (.cells #[.int .i64 1, .string nm, .string s, .int .i64 n] 61)).alloc (.cells #[] 88)) := (Below.refl _ _).alloc (by rw [hz]; omega) _
  have hr0 := FR.new0 (w.alloc (.cells #[.int .i64 1, .string nm, .string s, .int .i64 n] 61))
  rw [hz] at hr0
  have hsl : Src ((w.alloc (.cells #[.int .i64 1, .string nm, .string s, .int .i64 n] 61)).alloc (.cells #[] 88)) v L := h.src.below (hb0.trans (hb1.mono (Nat.le_succ _)))
  obtain ⟨A0, n0, c0, rfl⟩ := h.shape
  have HB0 := Lib.hid hb0
  have HO0 := Lib.hid ho0
  have HB1 := Lib.hid hb1
  have HR0 := Lib.hid hr0
  have HSL := Lib.hid hsl
  have HAT := Lib.hid hat
  have HBD := Lib.hid hbd
  have hI0 : (0 : Int) ≤ (k : Int) := by omega
  have hI1 : (k : Int) < (L.length : Int) := by omega
  have HF := Lib.hid hf
  have hfz : f.2.1.size ≤ 1000000 := hbd f (List.mem_of_getElem? hf)
  obtain ⟨x, y, u⟩ := f
  simp only at hfz
  clear h hb0 ho0 hb1 hr0 hsl hz hat hbd
  simp only at hu
  subst hu
  have hcz := cutS_size many s
  have hcat : ¬ 9223372036854775807 < y.size + (cutS many s).size := by omega
  go_enter Try.func45, Try.ntmps45
  go_wp2_with (first
    | (at_builtin; refine wpl_appF rfl _ _ rfl (w.heap.size + 1) _ [] rfl HR0.out _ L rfl HSL.out (by simp; omega) (by simp) ?_; intro v1 w1 h1 g1; rw [List.nil_append] at h1; have hb1 := grown_below HB1.out HR0.out g1 (by simp); have o1 := HO0.out.below (hb1.mono (by simp)); obtain ⟨b0, b1, b2, b3⟩ := o1.cells; obtain ⟨g, c, rfl, hgg, hgc, hgm⟩ := h1.form2 hk; unfold maxLen at hgm; obtain ⟨c1, c2, c3⟩ := h1.cells HF.out; have hfr := h1.free (k * 3 + 1); have H1 := Lib.hid h1; have HBB := Lib.hid hb1; have HO1 := Lib.hid o1; have hz1 : w.heap.size + 1 ≤ w1.heap.size := Nat.le_trans (by simp) hb1.size; clear h1 g1 hb1 o1)
    | (go_at_call 43; ((with_reducible refine (dat_any5 _ _ _ L nm H1.out).mono ?_); rintro e w' ⟨rfl, rfl⟩; rw [HAT.out])))
  refine wp_region_still_tail 14 (by kernel_rfl) (by kernel_rfl) ?_
  simp only [List.take_succ_cons, List.take_zero, List.drop_succ_cons, List.drop_zero]
  change wpStill _ _ w1.drew _ _ _
  iterate 10 still_step
  still_call (scut_same _ _ _ (by omega))
  iterate 3 still_step
  refine wpStill_nil ?_
  have hnew := (H1.out.put1 HF.out (y ++ cutS many s)).drew
  go_wp2
  go_ret
  refine ⟨_, _, rfl, hnew.mono (Nat.le_succ _), by rw [List.length_set]; omega, fun M hM => (hM.mono (Nat.le_add_right _ _)).set k ?_, ((HB0.out.trans (HBB.out.mono (Nat.le_succ _))).setCell (Nat.le_trans (Nat.le_succ _) hgg) _).drew⟩
  have h3 := hM _ (List.mem_of_getElem? HF.out)
  simp only [ByteArray.size_append] at h3 ⊢
  omega

set_option maxHeartbeats 4000000 in
set_option maxRecDepth 100000 in
theorem does_2 (w : World) (v : Value) (L : List DF) (nm s : ByteArray) (n many : Int) (h : FR w 0 v L) (hl : L.length ≤ 100000) (hbd : Bd 1000000 L) (hs : s.size ≤ 1000000) (k : Nat) (hat : atI nm L = (k : Int)) (hk : k < L.length) (f : DF) (hf : L[k]? = some f) (hu : f.2.2 = false) :
    Calls Try.prog 45 #[v, .agg #[.int .i64 2, .string nm, .string s, .int .i64 n], .int .i64 many] w (DoesD L s w) := by
  have hz : (w.alloc (.cells #[.int .i64 2, .string nm, .string s, .int .i64 n] 61)).heap.size = w.heap.size + 1 := by simp
  have hb0 : Below w.heap.size w (w.alloc (.cells #[.int .i64 2, .string nm, .string s, .int .i64 n] 61)) := (Below.refl _ w).alloc (Nat.le_refl _) _
  have ho0 : OpB (w.alloc (.cells #[.int .i64 2, .string nm, .string s, .int .i64 n] 61)) w.heap.size 2 nm s n := heap_alloc_new w _
  have hb1 : Below (w.heap.size + 1) (w.alloc (.cells #[.int .i64 2, .string nm, .string s, .int .i64 n] 61)) ((w.alloc (.cells #[.int .i64 2, .string nm, .string s, .int .i64 n] 61)).alloc (.cells #[] 88)) := (Below.refl _ _).alloc (by rw [hz]; omega) _
  have hr0 := FR.new0 (w.alloc (.cells #[.int .i64 2, .string nm, .string s, .int .i64 n] 61))
  rw [hz] at hr0
  have hsl : Src ((w.alloc (.cells #[.int .i64 2, .string nm, .string s, .int .i64 n] 61)).alloc (.cells #[] 88)) v L := h.src.below (hb0.trans (hb1.mono (Nat.le_succ _)))
  obtain ⟨A0, n0, c0, rfl⟩ := h.shape
  have HB0 := Lib.hid hb0
  have HO0 := Lib.hid ho0
  have HB1 := Lib.hid hb1
  have HR0 := Lib.hid hr0
  have HSL := Lib.hid hsl
  have HAT := Lib.hid hat
  have HBD := Lib.hid hbd
  have hI0 : (0 : Int) ≤ (k : Int) := by omega
  have hI1 : (k : Int) < (L.length : Int) := by omega
  have HF := Lib.hid hf
  have hfz : f.2.1.size ≤ 1000000 := hbd f (List.mem_of_getElem? hf)
  obtain ⟨x, y, u⟩ := f
  simp only at hfz
  clear h hb0 ho0 hb1 hr0 hsl hz hat hbd
  simp only at hu
  subst hu
  have hcz := cutS_size n y
  go_enter Try.func45, Try.ntmps45
  go_wp2_with (first
    | (at_builtin; refine wpl_appF rfl _ _ rfl (w.heap.size + 1) _ [] rfl HR0.out _ L rfl HSL.out (by simp; omega) (by simp) ?_; intro v1 w1 h1 g1; rw [List.nil_append] at h1; have hb1 := grown_below HB1.out HR0.out g1 (by simp); have o1 := HO0.out.below (hb1.mono (by simp)); obtain ⟨b0, b1, b2, b3⟩ := o1.cells; obtain ⟨g, c, rfl, hgg, hgc, hgm⟩ := h1.form2 hk; unfold maxLen at hgm; obtain ⟨c1, c2, c3⟩ := h1.cells HF.out; have hfr := h1.free (k * 3 + 1); have H1 := Lib.hid h1; have HBB := Lib.hid hb1; have HO1 := Lib.hid o1; have hz1 : w.heap.size + 1 ≤ w1.heap.size := Nat.le_trans (by simp) hb1.size; clear h1 g1 hb1 o1)
    | (go_at_call 43; ((with_reducible refine (dat_any5 _ _ _ L nm H1.out).mono ?_); rintro e w' ⟨rfl, rfl⟩; rw [HAT.out])))
  refine wp_region_still_tail 12 (by kernel_rfl) (by kernel_rfl) ?_
  simp only [List.take_succ_cons, List.take_zero, List.drop_succ_cons, List.drop_zero]
  change wpStill _ _ w1.drew _ _ _
  iterate 9 still_step
  still_call (scut_same _ _ _ (by omega))
  iterate 2 still_step
  refine wpStill_nil ?_
  have hnew := (H1.out.put1 HF.out (cutS n y)).drew
  go_wp2
  go_ret
  refine ⟨_, _, rfl, hnew.mono (Nat.le_succ _), by rw [List.length_set]; omega, fun M hM => (hM.mono (Nat.le_add_right _ _)).set k ?_, ((HB0.out.trans (HBB.out.mono (Nat.le_succ _))).setCell (Nat.le_trans (Nat.le_succ _) hgg) _).drew⟩
  have h3 := hM _ (List.mem_of_getElem? HF.out)
  simp only at h3 ⊢
  omega

set_option maxHeartbeats 4000000 in
set_option maxRecDepth 100000 in
theorem does_4 (w : World) (v : Value) (L : List DF) (nm s : ByteArray) (n many : Int) (h : FR w 0 v L) (hl : L.length ≤ 100000) (hbd : Bd 1000000 L) (hs : s.size ≤ 1000000) (k : Nat) (hat : atI nm L = (k : Int)) (hk : k < L.length) :
    Calls Try.prog 45 #[v, .agg #[.int .i64 4, .string nm, .string s, .int .i64 n], .int .i64 many] w (DoesD L s w) := by
  have hz : (w.alloc (.cells #[.int .i64 4, .string nm, .string s, .int .i64 n] 61)).heap.size = w.heap.size + 1 := by simp
  have hb0 : Below w.heap.size w (w.alloc (.cells #[.int .i64 4, .string nm, .string s, .int .i64 n] 61)) := (Below.refl _ w).alloc (Nat.le_refl _) _
  have ho0 : OpB (w.alloc (.cells #[.int .i64 4, .string nm, .string s, .int .i64 n] 61)) w.heap.size 4 nm s n := heap_alloc_new w _
  have hb1 : Below (w.heap.size + 1) (w.alloc (.cells #[.int .i64 4, .string nm, .string s, .int .i64 n] 61)) ((w.alloc (.cells #[.int .i64 4, .string nm, .string s, .int .i64 n] 61)).alloc (.cells #[] 88)) := (Below.refl _ _).alloc (by rw [hz]; omega) _
  have hr0 := FR.new0 (w.alloc (.cells #[.int .i64 4, .string nm, .string s, .int .i64 n] 61))
  rw [hz] at hr0
  have hsl : Src ((w.alloc (.cells #[.int .i64 4, .string nm, .string s, .int .i64 n] 61)).alloc (.cells #[] 88)) v L := h.src.below (hb0.trans (hb1.mono (Nat.le_succ _)))
  obtain ⟨A0, n0, c0, rfl⟩ := h.shape
  have HB0 := Lib.hid hb0
  have HO0 := Lib.hid ho0
  have HB1 := Lib.hid hb1
  have HR0 := Lib.hid hr0
  have HSL := Lib.hid hsl
  have HAT := Lib.hid hat
  have HBD := Lib.hid hbd
  have hI0 : (0 : Int) ≤ (k : Int) := by omega
  have hI1 : (k : Int) < (L.length : Int) := by omega
  clear h hb0 ho0 hb1 hr0 hsl hz hat hbd
  go_enter Try.func45, Try.ntmps45
  go_wp2_with (first
    | (at_builtin; refine wpl_appF rfl _ _ rfl (w.heap.size + 1) _ [] rfl HR0.out _ L rfl HSL.out (by simp; omega) (by simp) ?_; intro v1 w1 h1 g1; rw [List.nil_append] at h1; have hb1 := grown_below HB1.out HR0.out g1 (by simp); have o1 := HO0.out.below (hb1.mono (by simp)); obtain ⟨b0, b1, b2, b3⟩ := o1.cells; obtain ⟨g, c, rfl, hgg, hgc, hgm⟩ := h1.form2 hk; unfold maxLen at hgm; have H1 := Lib.hid h1; have HBB := Lib.hid hb1; have HO1 := Lib.hid o1; have hz1 : w.heap.size + 1 ≤ w1.heap.size := Nat.le_trans (by simp) hb1.size; clear h1 g1 hb1 o1)
    | (go_at_call 43; ((with_reducible refine (dat_any5 _ _ _ L nm H1.out).mono ?_); rintro e w' ⟨rfl, rfl⟩; rw [HAT.out]))
    | (go_at_call 56; ((with_reducible refine (without_any _ _ L k (H1.out.mono (Nat.zero_le _)) hk (by omega)).mono ?_); rintro e w2 ⟨v2, rfl, h2, hb2⟩; have H2 := Lib.hid h2; have HB2 := Lib.hid hb2; clear h2 hb2)))
  go_ret
  exact ⟨_, _, rfl, H2.out.mono (by omega), by rw [List.length_append, List.length_take, List.length_drop]; omega, fun M hM => (hM.mono (Nat.le_add_right _ _)).without k, HB0.out.trans ((HBB.out.mono (Nat.le_succ _)).trans (HB2.out.mono (by omega)))⟩

set_option maxHeartbeats 4000000 in
set_option maxRecDepth 100000 in
theorem does_3a (w : World) (v : Value) (L : List DF) (nm s : ByteArray) (n many : Int) (h : FR w 0 v L) (hl : L.length ≤ 100000) (hbd : Bd 1000000 L) (hs : s.size ≤ 1000000) (k : Nat) (hat : atI nm L = (k : Int)) (hk : k < L.length) (f : DF) (hf : L[k]? = some f)  (ha2 : atI s (L.take k ++ L.drop (k + 1)) = -1) :
    Calls Try.prog 45 #[v, .agg #[.int .i64 3, .string nm, .string s, .int .i64 n], .int .i64 many] w (DoesD L s w) := by
  have hz : (w.alloc (.cells #[.int .i64 3, .string nm, .string s, .int .i64 n] 61)).heap.size = w.heap.size + 1 := by simp
  have hb0 : Below w.heap.size w (w.alloc (.cells #[.int .i64 3, .string nm, .string s, .int .i64 n] 61)) := (Below.refl _ w).alloc (Nat.le_refl _) _
  have ho0 : OpB (w.alloc (.cells #[.int .i64 3, .string nm, .string s, .int .i64 n] 61)) w.heap.size 3 nm s n := heap_alloc_new w _
  have hb1 : Below (w.heap.size + 1) (w.alloc (.cells #[.int .i64 3, .string nm, .string s, .int .i64 n] 61)) ((w.alloc (.cells #[.int .i64 3, .string nm, .string s, .int .i64 n] 61)).alloc (.cells #[] 88)) := (Below.refl _ _).alloc (by rw [hz]; omega) _
  have hr0 := FR.new0 (w.alloc (.cells #[.int .i64 3, .string nm, .string s, .int .i64 n] 61))
  rw [hz] at hr0
  have hsl : Src ((w.alloc (.cells #[.int .i64 3, .string nm, .string s, .int .i64 n] 61)).alloc (.cells #[] 88)) v L := h.src.below (hb0.trans (hb1.mono (Nat.le_succ _)))
  obtain ⟨A0, n0, c0, rfl⟩ := h.shape
  have HB0 := Lib.hid hb0
  have HO0 := Lib.hid ho0
  have HB1 := Lib.hid hb1
  have HR0 := Lib.hid hr0
  have HSL := Lib.hid hsl
  have HAT := Lib.hid hat
  have HBD := Lib.hid hbd
  have hI0 : (0 : Int) ≤ (k : Int) := by omega
  have hI1 : (k : Int) < (L.length : Int) := by omega
  have HF := Lib.hid hf
  have hfz : f.2.1.size ≤ 1000000 := hbd f (List.mem_of_getElem? hf)
  obtain ⟨x, y, u⟩ := f
  simp only at hfz
  clear h hb0 ho0 hb1 hr0 hsl hz hat hbd
  have HA2 := Lib.hid ha2
  have HLL : Hid ((L.take k ++ L.drop (k + 1)).length ≤ L.length) := by show _ ≤ _; rw [List.length_append, List.length_take, List.length_drop]; omega
  have hLL := HLL.out
  clear ha2
  go_enter Try.func45, Try.ntmps45
  go_wp2_with (first
    | (at_builtin; refine wpl_appF rfl _ _ rfl (w.heap.size + 1) _ [] rfl HR0.out _ L rfl HSL.out (by simp; omega) (by simp) ?_; intro v1 w1 h1 g1; rw [List.nil_append] at h1; have hb1 := grown_below HB1.out HR0.out g1 (by simp); have o1 := HO0.out.below (hb1.mono (by simp)); obtain ⟨b0, b1, b2, b3⟩ := o1.cells; obtain ⟨g, c, rfl, hgg, hgc, hgm⟩ := h1.form2 hk; unfold maxLen at hgm; obtain ⟨c1, c2, c3⟩ := h1.cells HF.out; have hfr := h1.free (k * 3 + 1); have H1 := Lib.hid h1; have HBB := Lib.hid hb1; have HO1 := Lib.hid o1; have hz1 : w.heap.size + 1 ≤ w1.heap.size := Nat.le_trans (by simp) hb1.size; clear h1 g1 hb1 o1)
    | (go_at_call 43; ((with_reducible refine (dat_any5 _ _ _ L nm H1.out).mono ?_); rintro e w' ⟨rfl, rfl⟩; rw [HAT.out]))
    | (go_at_call 56; ((with_reducible refine (without_any _ _ L k ((H1.out.alloc _).mono (Nat.zero_le _)) hk (by omega)).mono ?_); rintro e w2 ⟨v2, rfl, h2, hb2⟩; rw [World.size_alloc] at h2 hb2; have h3 := (FB.new w1 x y u).below (hb2.mono (by simp)); obtain ⟨A2, n2, c2, rfl⟩ := h2.shape; have H2 := Lib.hid h2; have HB2 := Lib.hid ((HBB.out.alloc (by omega) _).trans (hb2.mono (by simp; omega))); have HF2 := Lib.hid h3; have HO2 := Lib.hid (HO1.out.below ((Below.refl _ _).alloc (Nat.le_refl _) _ |>.trans (hb2.mono (by simp)))); obtain ⟨d0, d1, d2⟩ := h3.cells; have dz := h3.free 0; obtain ⟨e0, e1, e2, e3⟩ := HO2.out.cells; clear h2 hb2 h3))
    | (go_at_call 43; ((with_reducible refine (dat_any5 _ _ _ (L.take k ++ L.drop (k + 1)) s H2.out).mono ?_); rintro e w' ⟨rfl, rfl⟩; rw [HA2.out]))
    | (at_builtin; (have hs3 := src_one (w2.setCell ⟨w1.heap.size, 0, none⟩ (.string s)) s y u; rw [World.size_setCell] at hs3; have hr3 := (H2.out.far (show (⟨w1.heap.size, 0, none⟩ : Addr).block < _ by simp) (.string s)).alloc (.cells #[.string s, .string y, .bool u] 88); have hz3 := HB2.out.size; rw [World.size_alloc] at hz3; have hr4 := hr3.mono (show w.heap.size + 1 ≤ _ by omega); have hb3 := ((HB2.out.setCell (p := ⟨w1.heap.size, 0, none⟩) (show w.heap.size + 1 ≤ w1.heap.size by omega) (.string s)).alloc (by rw [World.size_setCell]; omega) (.cells #[.string s, .string y, .bool u] 88)); refine wpl_appF rfl _ _ rfl (w.heap.size + 1) _ (L.take k ++ L.drop (k + 1)) rfl hr4 _ [(s, y, u)] rfl hs3 (by simp only [List.length_cons, List.length_nil]; omega) (by rw [World.size_alloc, World.size_setCell]; omega) ?_; intro v4 w4 h4 g4; have hb4 := grown_below hb3 hr4 g4 (by rw [World.size_alloc]; omega); have H4 := Lib.hid h4; have HB4 := Lib.hid hb4; clear h4 g4 hb4 hs3 hr3 hr4 hb3 hz3)))
  go_ret
  refine ⟨_, _, rfl, H4.out.mono (Nat.le_succ _), by rw [List.length_append]; simp only [List.length_cons, List.length_nil]; omega, fun M hM => Bd.app ((hM.mono (Nat.le_add_right _ _)).without k) fun f hf => ?_, HB0.out.trans (HB4.out.mono (Nat.le_succ _))⟩
  rw [List.mem_singleton] at hf
  subst hf
  have h5 := hM _ (List.mem_of_getElem? HF.out)
  simp only at h5 ⊢
  omega

set_option maxHeartbeats 4000000 in
set_option maxRecDepth 100000 in
theorem does_3b (w : World) (v : Value) (L : List DF) (nm s : ByteArray) (n many : Int) (h : FR w 0 v L) (hl : L.length ≤ 100000) (hbd : Bd 1000000 L) (hs : s.size ≤ 1000000) (k : Nat) (hat : atI nm L = (k : Int)) (hk : k < L.length) (f : DF) (hf : L[k]? = some f)  (k2 : Nat) (ha2 : atI s (L.take k ++ L.drop (k + 1)) = (k2 : Int)) (hk2 : k2 < (L.take k ++ L.drop (k + 1)).length) :
    Calls Try.prog 45 #[v, .agg #[.int .i64 3, .string nm, .string s, .int .i64 n], .int .i64 many] w (DoesD L s w) := by
  have hz : (w.alloc (.cells #[.int .i64 3, .string nm, .string s, .int .i64 n] 61)).heap.size = w.heap.size + 1 := by simp
  have hb0 : Below w.heap.size w (w.alloc (.cells #[.int .i64 3, .string nm, .string s, .int .i64 n] 61)) := (Below.refl _ w).alloc (Nat.le_refl _) _
  have ho0 : OpB (w.alloc (.cells #[.int .i64 3, .string nm, .string s, .int .i64 n] 61)) w.heap.size 3 nm s n := heap_alloc_new w _
  have hb1 : Below (w.heap.size + 1) (w.alloc (.cells #[.int .i64 3, .string nm, .string s, .int .i64 n] 61)) ((w.alloc (.cells #[.int .i64 3, .string nm, .string s, .int .i64 n] 61)).alloc (.cells #[] 88)) := (Below.refl _ _).alloc (by rw [hz]; omega) _
  have hr0 := FR.new0 (w.alloc (.cells #[.int .i64 3, .string nm, .string s, .int .i64 n] 61))
  rw [hz] at hr0
  have hsl : Src ((w.alloc (.cells #[.int .i64 3, .string nm, .string s, .int .i64 n] 61)).alloc (.cells #[] 88)) v L := h.src.below (hb0.trans (hb1.mono (Nat.le_succ _)))
  obtain ⟨A0, n0, c0, rfl⟩ := h.shape
  have HB0 := Lib.hid hb0
  have HO0 := Lib.hid ho0
  have HB1 := Lib.hid hb1
  have HR0 := Lib.hid hr0
  have HSL := Lib.hid hsl
  have HAT := Lib.hid hat
  have HBD := Lib.hid hbd
  have hI0 : (0 : Int) ≤ (k : Int) := by omega
  have hI1 : (k : Int) < (L.length : Int) := by omega
  have HF := Lib.hid hf
  have hfz : f.2.1.size ≤ 1000000 := hbd f (List.mem_of_getElem? hf)
  obtain ⟨x, y, u⟩ := f
  simp only at hfz
  clear h hb0 ho0 hb1 hr0 hsl hz hat hbd
  have HA2 := Lib.hid ha2
  have HLL : Hid ((L.take k ++ L.drop (k + 1)).length ≤ L.length) := by show _ ≤ _; rw [List.length_append, List.length_take, List.length_drop]; omega
  have hLL := HLL.out
  clear ha2
  have hJ0 : (0 : Int) ≤ (k2 : Int) := by omega
  have HL3 : Hid (((L.take k ++ L.drop (k + 1)).take k2 ++ (L.take k ++ L.drop (k + 1)).drop (k2 + 1)).length ≤ L.length) := by show _ ≤ _; rw [List.length_append, List.length_take, List.length_drop]; omega
  have hL3 := HL3.out
  go_enter Try.func45, Try.ntmps45
  go_wp2_with (first
    | (at_builtin; refine wpl_appF rfl _ _ rfl (w.heap.size + 1) _ [] rfl HR0.out _ L rfl HSL.out (by simp; omega) (by simp) ?_; intro v1 w1 h1 g1; rw [List.nil_append] at h1; have hb1 := grown_below HB1.out HR0.out g1 (by simp); have o1 := HO0.out.below (hb1.mono (by simp)); obtain ⟨b0, b1, b2, b3⟩ := o1.cells; obtain ⟨g, c, rfl, hgg, hgc, hgm⟩ := h1.form2 hk; unfold maxLen at hgm; obtain ⟨c1, c2, c3⟩ := h1.cells HF.out; have hfr := h1.free (k * 3 + 1); have H1 := Lib.hid h1; have HBB := Lib.hid hb1; have HO1 := Lib.hid o1; have hz1 : w.heap.size + 1 ≤ w1.heap.size := Nat.le_trans (by simp) hb1.size; clear h1 g1 hb1 o1)
    | (go_at_call 43; ((with_reducible refine (dat_any5 _ _ _ L nm H1.out).mono ?_); rintro e w' ⟨rfl, rfl⟩; rw [HAT.out]))
    | (go_at_call 56; ((with_reducible refine (without_any _ _ L k ((H1.out.alloc _).mono (Nat.zero_le _)) hk (by omega)).mono ?_); rintro e w2 ⟨v2, rfl, h2, hb2⟩; rw [World.size_alloc] at h2 hb2; have h3 := (FB.new w1 x y u).below (hb2.mono (by simp)); obtain ⟨A2, n2, c2, rfl⟩ := h2.shape; have H2 := Lib.hid h2; have HB2 := Lib.hid ((HBB.out.alloc (by omega) _).trans (hb2.mono (by simp; omega))); have HF2 := Lib.hid h3; have HO2 := Lib.hid (HO1.out.below ((Below.refl _ _).alloc (Nat.le_refl _) _ |>.trans (hb2.mono (by simp)))); obtain ⟨d0, d1, d2⟩ := h3.cells; have dz := h3.free 0; obtain ⟨e0, e1, e2, e3⟩ := HO2.out.cells; clear h2 hb2 h3))
    | (go_at_call 43; ((with_reducible refine (dat_any5 _ _ _ (L.take k ++ L.drop (k + 1)) s H2.out).mono ?_); rintro e w' ⟨rfl, rfl⟩; rw [HA2.out]))
    | (go_at_call 56; ((with_reducible refine (without_any _ _ (L.take k ++ L.drop (k + 1)) k2 (H2.out.mono (Nat.zero_le _)) hk2 (by omega)).mono ?_); rintro e w3 ⟨v3, rfl, h6, hb6⟩; have h3 := HF2.out.below hb6; obtain ⟨A3, n3, c3', rfl⟩ := h6.shape; have H3 := Lib.hid h6; have HB3 := Lib.hid (HB2.out.trans (hb6.mono (by have := HB2.out.size; rw [World.size_alloc] at this; omega))); obtain ⟨i0, i1, i2⟩ := h3.cells; have iz := h3.free 0; obtain ⟨j0, j1, j2, j3⟩ := (HO2.out.below hb6).cells; have hz2 : w1.heap.size < w2.heap.size := lt_of_block HF2.out; clear h6 hb6 h3))
    | (at_builtin; (have hs3 := src_one (w3.setCell ⟨w1.heap.size, 0, none⟩ (.string s)) s y u; rw [World.size_setCell] at hs3; have hr3 := (H3.out.far (show (⟨w1.heap.size, 0, none⟩ : Addr).block < _ by exact hz2) (.string s)).alloc (.cells #[.string s, .string y, .bool u] 88); have hz3 := HB3.out.size; rw [World.size_alloc] at hz3; have hr4 := hr3.mono (show w.heap.size + 1 ≤ _ by omega); have hb3 := ((HB3.out.setCell (p := ⟨w1.heap.size, 0, none⟩) (show w.heap.size + 1 ≤ w1.heap.size by omega) (.string s)).alloc (by rw [World.size_setCell]; omega) (.cells #[.string s, .string y, .bool u] 88)); refine wpl_appF rfl _ _ rfl (w.heap.size + 1) _ ((L.take k ++ L.drop (k + 1)).take k2 ++ (L.take k ++ L.drop (k + 1)).drop (k2 + 1)) rfl hr4 _ [(s, y, u)] rfl hs3 (by simp only [List.length_cons, List.length_nil]; omega) (by rw [World.size_alloc, World.size_setCell]; omega) ?_; intro v4 w4 h4 g4; have hb4 := grown_below hb3 hr4 g4 (by rw [World.size_alloc]; omega); have H4 := Lib.hid h4; have HB4 := Lib.hid hb4; clear h4 g4 hb4 hs3 hr3 hr4 hb3 hz3)))
  go_ret
  refine ⟨_, _, rfl, H4.out.mono (Nat.le_succ _), by rw [List.length_append]; simp only [List.length_cons, List.length_nil]; omega, fun M hM => Bd.app (((hM.mono (Nat.le_add_right _ _)).without k).without k2) fun f hf => ?_, HB0.out.trans (HB4.out.mono (Nat.le_succ _))⟩
  rw [List.mem_singleton] at hf
  subst hf
  have h5 := hM _ (List.mem_of_getElem? HF.out)
  simp only at h5 ⊢
  omega

theorem does_any (w : World) (v : Value) (L : List DF) (nm s : ByteArray) (q n many : Int) (h : FR w 0 v L) (hl : L.length ≤ 100000) (hbd : Bd 1000000 L) (hs : s.size ≤ 1000000) (hq : 0 ≤ q ∧ q ≤ 4) :
    Calls Try.prog 45 #[v, .agg #[.int .i64 q, .string nm, .string s, .int .i64 n], .int .i64 many] w (DoesD L s w) := by
  rcases atI_cases nm L with ha | ⟨k, ha, hk⟩
  · by_cases h0 : q = 0
    · subst h0
      exact does_0a w v L nm s n many h hl hbd hs ha
    · exact does_none w v L nm s n many h hl hbd hs q (by simpa using h0) ha
  · obtain ⟨f, hf⟩ : ∃ f, L[k]? = some f := ⟨L[k], List.getElem?_eq_getElem hk⟩
    have hc : q = 0 ∨ q = 1 ∨ q = 2 ∨ q = 3 ∨ q = 4 := by omega
    rcases hc with rfl | rfl | rfl | rfl | rfl
    · exact does_0b w v L nm s n many h hl hbd hs k ha hk
    · cases hu : f.2.2 with
      | true => exact does_1h w v L nm s n many h hl hbd hs k ha hk f hf hu
      | false => exact does_1 w v L nm s n many h hl hbd hs k ha hk f hf hu
    · cases hu : f.2.2 with
      | true => exact does_2h w v L nm s n many h hl hbd hs k ha hk f hf hu
      | false => exact does_2 w v L nm s n many h hl hbd hs k ha hk f hf hu
    · rcases atI_cases s (L.take k ++ L.drop (k + 1)) with h2 | ⟨k2, h2, hk2⟩
      · exact does_3a w v L nm s n many h hl hbd hs k ha hk f hf h2
      · exact does_3b w v L nm s n many h hl hbd hs k ha hk f hf k2 h2 hk2
    · exact does_4 w v L nm s n many h hl hbd hs k ha hk
end Go.Proofs.Ytdfiofjnijnodaa.gn
