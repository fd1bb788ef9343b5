/- For any seat: strings as lists of bytes, slices of bytes that are owned, worlds that are as they were but for one block. -/
import Derived.Test.YtiaidlpceibnpaaRows
import Derived.WalkKit
import Derived.ProofKit
import Derived.OwnWalk
import Derived.OneCell
import Derived.Lib.VarintMem
import Derived.Lib.Hide
import Derived.Laws.AppendOwnNone
import Derived.Laws.BytesString
import Derived.Laws.Rows
namespace Go.Proofs.Ytiaidlpceibnpaa.gn
open Go.RowKit

/-- A string of these bytes. -/
def str (l : List UInt8) : ByteArray := ⟨l.toArray⟩
theorem str_size (l : List UInt8) : (str l).size = l.length := by simp [str, ByteArray.size]
theorem str_toList (l : List UInt8) : (str l).toList = l := by rw [ByteArray.toList_eq]; rfl
theorem heap_setCell {w : World} {b j : Nat} {cs : Array Value} {t : TypeId} {fr : Nat × Nat} (h : w.heap[b]? = some (.cells cs t fr)) (u : Value) :
    (w.setCell ⟨b, j, none⟩ u).heap[b]? = some (.cells (cs.setIfInBounds j u) t fr) := by
  have hlt := lt_of_block h
  have h' : w.heap[b] = .cells cs t fr := by simpa [Array.getElem?_eq_getElem hlt] using h
  show (w.heap.modify b _)[b]? = _
  rw [Array.getElem?_eq_getElem (by simpa using hlt), Array.getElem_modify_self, h']
  rfl

/-- w' is w but for what lies in block R, and for new blocks. -/
def But (R : Nat) (w w' : World) : Prop := w.grownBy w' (some R)
theorem But.refl (R : Nat) (w : World) : But R w w := ⟨rfl, rfl, rfl, Nat.le_refl _, fun _ _ _ => rfl⟩
theorem But.trans {R : Nat} {a b c : World} (h : But R a b) (k : But R b c) : But R a c :=
  ⟨k.os.trans h.os, k.tape.trans h.tape, k.output.trans h.output, Nat.le_trans h.size k.size, fun i hi hr => (k.block i (Nat.lt_of_lt_of_le hi h.size) hr).trans (h.block i hi hr)⟩
theorem But.drew {R : Nat} {a b : World} (h : But R a b) : But R a b.drew := ⟨h.os, h.tape, h.output, h.size, h.block⟩
theorem But.alloc {R : Nat} {a b : World} (h : But R a b) (o : Obj) : But R a (b.alloc o) := h.trans (World.grownBy_alloc b o (some R))
theorem But.setCell {R : Nat} {a b : World} (h : But R a b) (j : Nat) (u : Value) : But R a (b.setCell ⟨R, j, none⟩ u) :=
  h.trans ⟨rfl, rfl, rfl, by simp [World.setCell], fun k _ hr => Below.heap_setCell _ _ _ _ (fun e => hr (by rw [e]))⟩
theorem But.cell {R : Nat} {a b : World} (h : But R a b) {p : Addr} {v : Value} (hc : a.cell? p = some v) (hne : p.block ≠ R) : b.cell? p = some v :=
  World.grownBy.cell h hc (fun e => hne (by simpa using e))

theorem Try.info5 : (Try.prog.info? 5).map (fun i => (i.zero, i.size, i.bytes)) = some (some (.int .u8 0), 1, 1) := by kernel_rfl

/-- v is a slice of bytes that owns the bytes l, in blocks from B on. -/
def Bs (w : World) (B : Nat) (v : Value) (l : List UInt8) : Prop := w.ownsRow B 5 1 v l.length (Lib.byteCells l)
theorem byteCells_len (l : List UInt8) : (Lib.byteCells l).length = l.length := by simp [Lib.byteCells]
theorem Bs_cases {w : World} {B : Nat} {v : Value} {l : List UInt8} (h : Bs w B v l) :
    (v = .slice none 0 0 ∧ l = []) ∨ ∃ g cap, v = .slice (some ⟨g, 0, none⟩) l.length cap ∧ g < w.heap.size ∧ B ≤ g ∧ l.length ≤ cap ∧ cap ≤ maxLen ∧ (∀ j u, (Lib.byteCells l)[j]? = some u → w.cell? ⟨g, j, none⟩ = some u) := by
  have hlt := h.lt
  have hcells := fun g => h.cells (g := g)
  rcases h.2 with ⟨rfl, hn⟩ | ⟨g, cap, cur, rfl, hb, hg, hle, hm, _⟩
  · exact .inl ⟨rfl, List.eq_nil_of_length_eq_zero hn⟩
  · refine .inr ⟨g, cap, rfl, (hlt g rfl).2, hb, hle, hm, fun j u hj => ?_⟩
    have hadd : (⟨g, 0, none⟩ : Addr).add j = ⟨g, j, none⟩ := by unfold Addr.add; split <;> simp_all
    have := hcells g rfl j u hj
    rwa [hadd] at this


theorem But.bs {R : Nat} {a b : World} {B : Nat} {v : Value} {l : List UInt8} (h : But R a b) (hs : Bs a B v l) (hne : v.ownBlock ≠ some R) : Bs b B v l := World.ownsRow.kept hs h (.inr hne)
theorem But.below {R B : Nat} {a b c : World} (h : But R b c) (hb : Below B a b) (hB : B ≤ b.heap.size) (hR : B ≤ R) : Below B a c := hb.grown h hB (fun k hk => by cases hk; exact hR)
theorem Below.bs {B B' : Nat} {a b : World} {v : Value} {l : List UInt8} (h : Below B a b) (hs : Bs a B' v l) (hv : ∀ k, v.ownBlock = some k → k < B) : Bs b B' v l := by
  refine ⟨hs.1, ?_⟩
  rcases hs.2 with hn | ⟨g, cap, cur, rfl, hb, hgg, rest⟩
  · exact .inl hn
  · exact .inr ⟨g, cap, cur, rfl, hb, (h.block g (hv g rfl)).trans hgg, rest⟩

theorem Bs_nil (w : World) (B : Nat) : Bs w B (.slice none 0 0) [] := World.ownsRow_nil w B _ 1
theorem str_take (r : List UInt8) (n : Nat) : (str r).extract 0 n = str (r.take n) := by
  apply ByteArray.ext
  simp [str]
theorem str_drop (r : List UInt8) (n : Nat) : (str r).extract n (str r).size = str (r.drop n) := by
  apply ByteArray.ext
  simp [str, ByteArray.size]
  exact List.take_of_length_le (by simp)
theorem str_app (p q : List UInt8) : str p ++ str q = str (p ++ q) := by
  apply ByteArray.ext
  simp [str]
theorem str_of (s : ByteArray) : str s.data.toList = s := by
  apply ByteArray.ext
  simp [str]
theorem str_inj {p q : List UInt8} (h : str p = str q) : p = q := by
  have h2 := congrArg (fun s => s.data.toList) h
  simpa [str] using h2
theorem str_at (l : List UInt8) (i : Nat) (h : i < (str l).size) : (str l)[i] = l[i]'(by rw [str_size] at h; exact h) := by
  simp [str]
  rfl
end Go.Proofs.Ytiaidlpceibnpaa.gn
