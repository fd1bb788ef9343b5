/- For any seat: strings as lists of bytes, slices of bytes that are owned, worlds that are as they were but for one block. -/
import Derived.Test.YtekcjfdllclphaaGreatDoorRows
import Derived.WalkKit
import Derived.ProofKit
import Derived.OwnWalk
import Derived.OneCell
import Derived.Lib.VarintMem
import Derived.Lib.Hide
import Derived.Laws.AppendOwnNone
import Derived.Laws.BytesString
import Derived.Laws.Rows
import Derived.Test.YtekcjfdllclphaaGreatDoorMSlM
section
namespace Go.Proofs.YtekcjfdllclphaaGreatDoor.gn
open Go.RowKit

/-- A string of these bytes. -/
def str (l : List UInt8) : ByteArray := ⟨l.toArray⟩
theorem str_size (l : List UInt8) : (str l).size = l.length := by simp [str, ByteArray.size]
theorem str_toList (l : List UInt8) : (str l).toList = l := by rw [ByteArray.toList_eq]; rfl
theorem heap_setCell {w : World} {b j : Nat} {cs : Array Value} {t : TypeId} {fr : Nat × Nat} (h : w.heap[b]? = some (.cells cs t fr)) (u : Value) :
    (w.setCell ⟨b, j, none⟩ u).heap[b]? = some (.cells (cs.setIfInBounds j u) t fr) := by
  have hlt := lt_of_block h
  have h' : w.heap[b] = .cells cs t fr := by simpa [Array.getElem?_eq_getElem hlt] using h
  show (w.heap.modify b _)[b]? = _
  rw [Array.getElem?_eq_getElem (by simpa using hlt), Array.getElem_modify_self, h']
  rfl

/-- w' is w but for what lies in block R, and for new blocks. -/
def But (R : Nat) (w w' : World) : Prop := w.grownBy w' (some R)
theorem But.refl (R : Nat) (w : World) : But R w w := ⟨rfl, rfl, rfl, Nat.le_refl _, fun _ _ _ => rfl⟩
theorem But.trans {R : Nat} {a b c : World} (h : But R a b) (k : But R b c) : But R a c :=
  ⟨k.os.trans h.os, k.tape.trans h.tape, k.output.trans h.output, Nat.le_trans h.size k.size, fun i hi hr => (k.block i (Nat.lt_of_lt_of_le hi h.size) hr).trans (h.block i hi hr)⟩
theorem But.drew {R : Nat} {a b : World} (h : But R a b) : But R a b.drew := ⟨h.os, h.tape, h.output, h.size, h.block⟩
theorem But.alloc {R : Nat} {a b : World} (h : But R a b) (o : Obj) : But R a (b.alloc o) := h.trans (World.grownBy_alloc b o (some R))
theorem But.setCell {R : Nat} {a b : World} (h : But R a b) (j : Nat) (u : Value) : But R a (b.setCell ⟨R, j, none⟩ u) :=
  h.trans ⟨rfl, rfl, rfl, by simp [World.setCell], fun k _ hr => Below.heap_setCell _ _ _ _ (fun e => hr (by rw [e]))⟩
theorem But.cell {R : Nat} {a b : World} (h : But R a b) {p : Addr} {v : Value} (hc : a.cell? p = some v) (hne : p.block ≠ R) : b.cell? p = some v :=
  World.grownBy.cell h hc (fun e => hne (by simpa using e))

theorem Tryz.info5 : (Tryz.prog.info? 5).map (fun i => (i.zero, i.size, i.bytes)) = some (some (.int .u8 0), 1, 1) := by kernel_rfl

/-- v is a slice of bytes that owns the bytes l, in blocks from B on. -/
def Bs (w : World) (B : Nat) (v : Value) (l : List UInt8) : Prop := w.ownsRow B 5 1 v l.length (Lib.byteCells l)
theorem byteCells_len (l : List UInt8) : (Lib.byteCells l).length = l.length := by simp [Lib.byteCells]
theorem Bs_cases {w : World} {B : Nat} {v : Value} {l : List UInt8} (h : Bs w B v l) :
    (v = .slice none 0 0 ∧ l = []) ∨ ∃ g cap, v = .slice (some ⟨g, 0, none⟩) l.length cap ∧ g < w.heap.size ∧ B ≤ g ∧ l.length ≤ cap ∧ cap ≤ maxLen ∧ (∀ j u, (Lib.byteCells l)[j]? = some u → w.cell? ⟨g, j, none⟩ = some u) := by
  have hlt := h.lt
  have hcells := fun g => h.cells (g := g)
  rcases h.2 with ⟨rfl, hn⟩ | ⟨g, cap, cur, rfl, hb, hg, hle, hm, _⟩
  · exact .inl ⟨rfl, List.eq_nil_of_length_eq_zero hn⟩
  · refine .inr ⟨g, cap, rfl, (hlt g rfl).2, hb, hle, hm, fun j u hj => ?_⟩
    have hadd : (⟨g, 0, none⟩ : Addr).add j = ⟨g, j, none⟩ := by unfold Addr.add; split <;> simp_all
    have := hcells g rfl j u hj
    rwa [hadd] at this

/-- 'string(b)': the bytes. -/
theorem bs_string {w : World} {B : Nat} {v : Value} {l : List UInt8} (h : Bs w B v l) : (convert 100 9 v).run Tryz.prog w = .ok (.string ⟨l.toArray⟩) w := by
  rcases Bs_cases h with ⟨rfl, rfl⟩ | ⟨g, cp, rfl, hg, _, hle, hcp, hcl⟩
  · exact run_convert_bytes_nil w _ _ Tryz.underlying100 Tryz.underlying5 0 0 _ Tryz.underlying9
  · refine run_convert_bytes_back w _ _ _ ⟨g, 0, none⟩ cp l Tryz.underlying100 Tryz.underlying5 Tryz.underlying9 fun j hj => ?_
    have hadd : (⟨g, 0, none⟩ : Addr).add j = ⟨g, j, none⟩ := by unfold Addr.add; split <;> simp_all
    rw [hadd]
    refine hcl j _ ?_
    simp [Lib.byteCells, List.getElem?_eq_getElem hj]

theorem But.bs {R : Nat} {a b : World} {B : Nat} {v : Value} {l : List UInt8} (h : But R a b) (hs : Bs a B v l) (hne : v.ownBlock ≠ some R) : Bs b B v l := World.ownsRow.kept hs h (.inr hne)
theorem But.below {R B : Nat} {a b c : World} (h : But R b c) (hb : Below B a b) (hB : B ≤ b.heap.size) (hR : B ≤ R) : Below B a c := hb.grown h hB (fun k hk => by cases hk; exact hR)
theorem Below.bs {B B' : Nat} {a b : World} {v : Value} {l : List UInt8} (h : Below B a b) (hs : Bs a B' v l) (hv : ∀ k, v.ownBlock = some k → k < B) : Bs b B' v l := by
  refine ⟨hs.1, ?_⟩
  rcases hs.2 with hn | ⟨g, cap, cur, rfl, hb, hgg, rest⟩
  · exact .inl hn
  · exact .inr ⟨g, cap, cur, rfl, hb, (h.block g (hv g rfl)).trans hgg, rest⟩

theorem Bs_nil (w : World) (B : Nat) : Bs w B (.slice none 0 0) [] := World.ownsRow_nil w B _ 1
theorem str_take (r : List UInt8) (n : Nat) : (str r).extract 0 n = str (r.take n) := by
  apply ByteArray.ext
  simp [str]
theorem str_drop (r : List UInt8) (n : Nat) : (str r).extract n (str r).size = str (r.drop n) := by
  apply ByteArray.ext
  simp [str, ByteArray.size]
  exact List.take_of_length_le (by simp)
theorem str_app (p q : List UInt8) : str p ++ str q = str (p ++ q) := by
  apply ByteArray.ext
  simp [str]
theorem str_of (s : ByteArray) : str s.data.toList = s := by
  apply ByteArray.ext
  simp [str]
theorem str_inj {p q : List UInt8} (h : str p = str q) : p = q := by
  have h2 := congrArg (fun s => s.data.toList) h
  simpa [str] using h2
theorem str_at (l : List UInt8) (i : Nat) (h : i < (str l).size) : (str l)[i] = l[i]'(by rw [str_size] at h; exact h) := by
  simp [str]
  rfl
end Go.Proofs.YtekcjfdllclphaaGreatDoor.gn
end
section
set_option linter.unusedVariables false
namespace Go.Proofs.YtekcjfdllclphaaGreatDoor.sp
open Go.Proofs.YtekcjfdllclphaaGreatDoor.un
open Go.Proofs.YtekcjfdllclphaaGreatDoor.di

/-- No kind that is allowed once comes again. -/
def Once : List Nat → List Dir → Prop
  | _, [] => True
  | s, d :: r => ¬ (d.kind ≤ 3 ∧ d.kind ∈ s) ∧ Once (d.kind :: s) r
/-- The directives of some lines. -/
def dirLines (L : List Tx) : List Dir := L.filterMap fun l => if isD l = true then some (ldir l) else none
theorem dirLines_yes {l : Tx} (h : isD l = true) (r : List Tx) : dirLines (l :: r) = ldir l :: dirLines r := by
  unfold dirLines
  rw [List.filterMap_cons, if_pos h]
theorem dirLines_no {l : Tx} (h : ¬ isD l = true) (r : List Tx) : dirLines (l :: r) = dirLines r := by
  unfold dirLines
  rw [List.filterMap_cons, if_neg h]
theorem dirLines_app (A B : List Tx) : dirLines (A ++ B) = dirLines A ++ dirLines B := List.filterMap_append
theorem lrun_lines : ∀ (L : List Tx) (x : Slip) (s : List Nat) (i : Nat), (∀ l ∈ L, isD l = true → lerr l = 0) → Once s (dirLines L) → ∃ s', lrun (x, s) i L = .ok ((dirLines L).foldl put x, s')
  | [], x, s, i, _, _ => ⟨s, rfl⟩
  | l :: r, x, s, i, he, ho => by
    unfold lrun
    by_cases hd : isD l = true
    · rw [dirLines_yes hd] at ho ⊢
      rw [if_pos hd, if_neg (by rw [he l (by simp) hd]; simp), if_neg ho.1]
      exact lrun_lines r _ _ _ (fun y hy => he y (by simp [hy])) ho.2
    · rw [dirLines_no hd] at ho ⊢
      rw [if_neg hd]
      exact lrun_lines r x s _ (fun y hy => he y (by simp [hy])) ho
theorem dtx_line {d : Dir} (h : chk d = true) : isD (dtx d) = true ∧ lerr (dtx d) = 0 ∧ ldir (dtx d) = d := by
  have hl : (dtx d).length ≤ 306 := (made_text h).len
  have hr := text_read h
  refine ⟨?_, ?_, ?_⟩
  · unfold isD dtx lineOf
    rw [joinW_cons _ (by simp)]
    simp [bbW, List.isPrefixOf]
  · unfold lerr
    rw [if_neg (by omega), hr]
    rfl
  · unfold ldir
    rw [if_neg (by omega), hr]
    rfl
theorem dirLines_dtx : ∀ L : List Dir, (∀ d ∈ L, chk d = true) → dirLines (L.map dtx) = L
  | [], _ => rfl
  | d :: r, h => by
    have hd := dtx_line (h d (by simp))
    rw [List.map_cons, dirLines_yes hd.1, hd.2.2, dirLines_dtx r fun e he => h e (by simp [he])]
theorem put_comm (x : Slip) (d e : Dir) (h : d.kind ≠ e.kind) : put (put x d) e = put (put x e) d := by
  have hd : d.kind = 1 ∨ d.kind = 2 ∨ d.kind = 3 ∨ d.kind = 4 ∨ d.kind = 5 ∨ d.kind = 6 ∨ (d.kind ≠ 1 ∧ d.kind ≠ 2 ∧ d.kind ≠ 3 ∧ d.kind ≠ 4 ∧ d.kind ≠ 5 ∧ d.kind ≠ 6) := by omega
  have he : e.kind = 1 ∨ e.kind = 2 ∨ e.kind = 3 ∨ e.kind = 4 ∨ e.kind = 5 ∨ e.kind = 6 ∨ (e.kind ≠ 1 ∧ e.kind ≠ 2 ∧ e.kind ≠ 3 ∧ e.kind ≠ 4 ∧ e.kind ≠ 5 ∧ e.kind ≠ 6) := by omega
  rcases hd with h1 | h1 | h1 | h1 | h1 | h1 | h1 <;> rcases he with h2 | h2 | h2 | h2 | h2 | h2 | h2 <;> first | (exfalso; omega) | simp [put, h1, h2]
theorem put_make : ∀ (L : List Dir) (x : Slip), (∀ d ∈ L, d.kind = 4) → L.foldl put x = { x with make := x.make ++ L }
  | [], x, _ => by simp
  | d :: r, x, h => by
    have hd := h d (by simp)
    rw [List.foldl_cons, put_make r _ fun e he => h e (by simp [he])]
    simp [put, hd]
theorem put_drop : ∀ (L : List Tx) (x : Slip), (L.map fun n => (⟨5, n, [], 0, false⟩ : Dir)).foldl put x = { x with drop := x.drop ++ L }
  | [], x => by simp
  | d :: r, x => by
    rw [List.map_cons, List.foldl_cons, put_drop r]
    simp [put]
theorem put_use : ∀ (L : List Tx) (x : Slip), (L.map fun n => (⟨6, n, [], 0, false⟩ : Dir)).foldl put x = { x with use := x.use ++ L }
  | [], x => by simp
  | d :: r, x => by
    rw [List.map_cons, List.foldl_cons, put_use r]
    simp [put]
theorem fold_dirs {x : Slip} (h : Ok x) : (dirsS x).foldl put (head1 x) = x := by
  have hm : ∀ d ∈ x.make, d.kind = 4 := fun d hd => (h.make d hd).1
  have hp0 := h.pool0
  have hc := h.cap
  have hi := h.inn
  have ho := h.out
  unfold dirsS
  rw [List.foldl_append, List.foldl_append, List.foldl_append, List.foldl_append, List.foldl_append, put_make _ _ hm, put_drop, put_use]
  obtain ⟨u, n, w, q, a, c, i, o, p, m, dr, us⟩ := x
  simp only at hc hi ho hp0
  by_cases h1 : 0 < c
  · by_cases h2 : 0 < i
    · by_cases h3 : 0 < o
      · simp [head1, Slip.zero, put, h1, h2, h3]
      · obtain rfl : o = 0 := by omega
        simp [head1, Slip.zero, put, h1, h2]
    · obtain rfl : i = 0 := by omega
      by_cases h3 : 0 < o
      · simp [head1, Slip.zero, put, h1, h3]
      · obtain rfl : o = 0 := by omega
        simp [head1, Slip.zero, put, h1]
  · obtain rfl : c = 0 := by omega
    obtain rfl : i = 0 := by omega
    obtain rfl : o = 0 := by omega
    have := hp0 rfl
    subst this
    simp [head1, Slip.zero]
theorem once_big : ∀ (L : List Dir) (s : List Nat), (∀ d ∈ L, 3 < d.kind) → Once s L
  | [], _, _ => trivial
  | d :: r, s, h => ⟨fun hk => by have := h d (by simp); omega, once_big r _ fun e he => h e (by simp [he])⟩
/-- The kinds are parted: each that is allowed once comes once at most. -/
theorem once_of : ∀ (L : List Dir) (s : List Nat), ((L.filter fun d => decide (d.kind ≤ 3)).map (·.kind)).Nodup → (∀ d ∈ L, d.kind ≤ 3 → d.kind ∉ s) → Once s L
  | [], _, _, _ => trivial
  | d :: r, s, hn, hs => by
    refine ⟨fun hk => hs d (by simp) hk.1 hk.2, once_of r _ ?_ ?_⟩
    · by_cases hd : d.kind ≤ 3
      · rw [List.filter_cons_of_pos (by simpa using hd), List.map_cons, List.nodup_cons] at hn
        exact hn.2
      · rwa [List.filter_cons_of_neg (by simpa using hd)] at hn
    · intro e he hk
      simp only [List.mem_cons, not_or]
      refine ⟨fun hee => ?_, hs e (by simp [he]) hk⟩
      rw [List.filter_cons_of_pos (by simpa using (by omega : d.kind ≤ 3)), List.map_cons, List.nodup_cons] at hn
      exact hn.1 (List.mem_map.2 ⟨e, List.mem_filter.2 ⟨he, by simpa using hk⟩, hee⟩)
theorem dirs_mem {x : Slip} (h : Ok x) {d : Dir} (hd : d ∈ dirsS x) : chk d = true := by
  have hc := h.cap
  have hi := h.inn
  have ho := h.out
  unfold dirsS at hd
  simp only [List.mem_append] at hd
  rcases hd with ((((hd | hd) | hd) | hd) | hd) | hd
  · split at hd
    · rename_i h0
      simp only [List.mem_cons, List.not_mem_nil, or_false] at hd
      subst hd
      rw [chk_iff]
      have := h.pool1 (by omega)
      simp [hasSize, hasName, hasPool, h0, this]
      exact ⟨⟨hc.1, hc.2⟩, by decide⟩
    · simp at hd
  · split at hd
    · rename_i h0
      simp only [List.mem_cons, List.not_mem_nil, or_false] at hd
      subst hd
      rw [chk_iff]
      simp [hasSize, hasName, hasPool, h0]
      exact ⟨⟨hi.1, by omega⟩, by decide⟩
    · simp at hd
  · split at hd
    · rename_i h0
      simp only [List.mem_cons, List.not_mem_nil, or_false] at hd
      subst hd
      rw [chk_iff]
      simp [hasSize, hasName, hasPool, h0]
      exact ⟨⟨ho.1, by omega⟩, by decide⟩
    · simp at hd
  · exact (h.make d hd).2
  · obtain ⟨n, hn, rfl⟩ := List.mem_map.1 hd
    have := h.drop.2.2 n hn
    rw [chk_iff]
    simp [hasSize, hasName, hasPool, this]
    decide
  · obtain ⟨n, hn, rfl⟩ := List.mem_map.1 hd
    have := h.use.2.2 n hn
    rw [chk_iff]
    simp [hasSize, hasName, hasPool, this]
    decide
end Go.Proofs.YtekcjfdllclphaaGreatDoor.sp
end
