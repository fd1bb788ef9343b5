/- The reader's object in memory, and the contracts of Open, of stop, of Fine, of bytes and of the function that it tells. -/
import Derived.Test.YtjfachkonnfldaaPackC
import Derived.RegionTactic
import Derived.ChangeAlike
import Derived.OneCell
import Derived.LaidEqlPtr
import Derived.Laws.EntriesVeiled
namespace Go.Proofs.Ytjfachkonnfldaa
open Go.RowKit

/-- A string of these bytes. -/
def str (l : List UInt8) : ByteArray := ⟨l.toArray⟩
theorem str_size (l : List UInt8) : (str l).size = l.length := by simp [str, ByteArray.size]
theorem str_toList (l : List UInt8) : (str l).toList = l := by rw [ByteArray.toList_eq]; rfl
theorem str_empty_true (l : List UInt8) (h : l = []) : (str l).toList.isEmpty = true := by rw [str_toList, h]; rfl

/-- What lies in the block of a reader: fine, with these bytes left; or not fine. -/
def rObj (R : Nat) : Option (List UInt8) → Obj
  | some l => .cells #[.pointer (some ⟨R, 0, none⟩), .string (str l), .func (.func 24) #[.pointer (some ⟨R, 0, none⟩)] #[]] 49 (0, 0)
  | none => .cells #[.pointer none, .string ⟨#[]⟩, .nilFunc] 49 (0, 0)
def RS (w : World) (R : Nat) (st : Option (List UInt8)) : Prop := w.heap[R]? = some (rObj R st)

theorem RS_lt {w : World} {R : Nat} {st} (h : RS w R st) : R < w.heap.size := lt_of_block h
theorem RS_some {w : World} {R : Nat} {l : List UInt8} (h : RS w R (some l)) : w.cell? ⟨R, 0, none⟩ = some (.pointer (some ⟨R, 0, none⟩)) ∧ w.cell? ⟨R, 1, none⟩ = some (.string (str l)) ∧
    w.cell? ⟨R, 2, none⟩ = some (.func (.func 24) #[.pointer (some ⟨R, 0, none⟩)] #[]) ∧ w.frozen? ⟨R, 0, none⟩ = false ∧ w.frozen? ⟨R, 1, none⟩ = false ∧ w.frozen? ⟨R, 2, none⟩ = false := by
  refine ⟨?_, ?_, ?_, ?_, ?_, ?_⟩
  · rw [cell_of_row w R 0 _ _ _ h]; rfl
  · rw [cell_of_row w R 1 _ _ _ h]; rfl
  · rw [cell_of_row w R 2 _ _ _ h]; rfl
  · exact frozen_of_row w R 0 _ _ h
  · exact frozen_of_row w R 1 _ _ h
  · exact frozen_of_row w R 2 _ _ h
theorem RS_none {w : World} {R : Nat} (h : RS w R none) : w.cell? ⟨R, 0, none⟩ = some (.pointer none) ∧ w.cell? ⟨R, 1, none⟩ = some (.string ⟨#[]⟩) := by
  refine ⟨?_, ?_⟩
  · rw [cell_of_row w R 0 _ _ _ h]; rfl
  · rw [cell_of_row w R 1 _ _ _ h]; rfl

theorem heap_setCell {w : World} {b j : Nat} {cs : Array Value} {t : TypeId} {fr : Nat × Nat} (h : w.heap[b]? = some (.cells cs t fr)) (u : Value) :
    (w.setCell ⟨b, j, none⟩ u).heap[b]? = some (.cells (cs.setIfInBounds j u) t fr) := by
  have hlt := lt_of_block h
  have h' : w.heap[b] = .cells cs t fr := by simpa [Array.getElem?_eq_getElem hlt] using h
  show (w.heap.modify b _)[b]? = _
  rw [Array.getElem?_eq_getElem (by simpa using hlt), Array.getElem_modify_self, h']
  rfl

/-- w' is w but for what lies in block R, and for new blocks. -/
def But (R : Nat) (w w' : World) : Prop := w.grownBy w' (some R)
theorem But.refl (R : Nat) (w : World) : But R w w := ⟨rfl, rfl, rfl, Nat.le_refl _, fun _ _ _ => rfl⟩
theorem But.trans {R : Nat} {a b c : World} (h : But R a b) (k : But R b c) : But R a c :=
  ⟨k.os.trans h.os, k.tape.trans h.tape, k.output.trans h.output, Nat.le_trans h.size k.size, fun i hi hr => (k.block i (Nat.lt_of_lt_of_le hi h.size) hr).trans (h.block i hi hr)⟩
theorem But.drew {R : Nat} {a b : World} (h : But R a b) : But R a b.drew := ⟨h.os, h.tape, h.output, h.size, h.block⟩
theorem But.alloc {R : Nat} {a b : World} (h : But R a b) (o : Obj) : But R a (b.alloc o) := h.trans (World.grownBy_alloc b o (some R))
theorem But.setCell {R : Nat} {a b : World} (h : But R a b) (j : Nat) (u : Value) : But R a (b.setCell ⟨R, j, none⟩ u) :=
  h.trans ⟨rfl, rfl, rfl, by simp [World.setCell], fun k _ hr => Below.heap_setCell _ _ _ _ (fun e => hr (by rw [e]))⟩
theorem But.cell {R : Nat} {a b : World} (h : But R a b) {p : Addr} {v : Value} (hc : a.cell? p = some v) (hne : p.block ≠ R) : b.cell? p = some v :=
  World.grownBy.cell h hc (fun e => hne (by simpa using e))
/-- Another reader stays as it was. -/
theorem But.other {R R' : Nat} {a b : World} {st : Option (List UInt8)} (h : But R a b) (hs : RS a R' st) (hne : R' ≠ R) : RS b R' st :=
  (h.block R' (RS_lt hs) (fun e => hne (by simpa using e))).trans hs
theorem But.bs {R : Nat} {a b : World} {B : Nat} {v : Value} {l : List UInt8} (h : But R a b) (hs : Bs a B v l) (hne : v.ownBlock ≠ some R) : Bs b B v l := World.ownsRow.kept hs h (.inr hne)
theorem But.below {R B : Nat} {a b c : World} (h : But R b c) (hb : Below B a b) (hB : B ≤ b.heap.size) (hR : B ≤ R) : Below B a c := hb.grown h hB (fun k hk => by cases hk; exact hR)
theorem Below.rs {B R : Nat} {a b : World} {st : Option (List UInt8)} (h : Below B a b) (hs : RS a R st) (hR : R < B) : RS b R st := (h.block R hR).trans hs
theorem Below.bs {B B' : Nat} {a b : World} {v : Value} {l : List UInt8} (h : Below B a b) (hs : Bs a B' v l) (hv : ∀ k, v.ownBlock = some k → k < B) : Bs b B' v l := by
  refine ⟨hs.1, ?_⟩
  rcases hs.2 with hn | ⟨g, cap, cur, rfl, hb, hgg, rest⟩
  · exact .inl hn
  · exact .inr ⟨g, cap, cur, rfl, hb, (h.block g (hv g rfl)).trans hgg, rest⟩

set_option maxHeartbeats 400000 in
theorem open_any (w : World) (l : List UInt8) : Calls Try.prog 8 #[.string (str l)] w fun e w' =>
    e = .returned (.pointer (some ⟨w.heap.size, 0, none⟩)) ∧ RS w' w.heap.size (some l) ∧ Below w.heap.size w w' ∧ w'.heap.size = w.heap.size + 1 := by
  go_enter Try.func8, Try.ntmps8
  go_wp2
  go_ret
  refine ⟨rfl, ?_, ?_, by simp⟩
  · exact heap_alloc_new w _
  · exact (Below.refl _ _).alloc (Nat.le_refl _) _

set_option maxHeartbeats 400000 in
theorem stop_any (w : World) (R : Nat) (l : List UInt8) (h : RS w R (some l)) : Calls Try.prog 24 #[.pointer (some ⟨R, 0, none⟩)] w fun e w' =>
    e = .returned (.tuple #[]) ∧ RS w' R none ∧ But R w w' ∧ w'.heap.size = w.heap.size := by
  obtain ⟨h0, h1, h2, f0, f1, f2⟩ := RS_some h
  go_enter Try.func24, Try.ntmps24
  go_wp2
  go_end0
  refine ⟨rfl, ?_, (((But.refl R w).setCell 0 _).setCell 1 _).setCell 2 _, by simp [World.setCell]⟩
  exact heap_setCell (heap_setCell (heap_setCell h _) _) _

theorem info49 : ∃ j, Try.prog.info? 49 = some j := Option.isSome_iff_exists.1 (by kernel_rfl)
theorem eql_same (a : Addr) (w : World) : (binOp .eql 30 (.pointer (some a)) (.pointer (some a))).run Try.prog w = .ok (.bool true) w := by
  obtain ⟨j, hj⟩ := info49
  exact run_eql_ptr_same w a Try.underlying30 hj
theorem eql_nil (a : Addr) (w : World) : (binOp .eql 30 (.pointer none) (.pointer (some a))).run Try.prog w = .ok (.bool false) w := by
  have h : ∀ d : Nat, (Op.equalIn (d + 1) 30 (.pointer none) (.pointer (some a))).run Try.prog w = .ok false w := fun d => by
    simp [Op.equalIn, run_underlying Try.underlying30]
  simp only [binOp]
  simp [Op.equal, Op.maxDepth, h 9999]

set_option maxHeartbeats 400000 in
theorem fine_yes (w : World) (R : Nat) (l : List UInt8) (h : RS w R (some l)) : Calls Try.prog 13 #[.pointer (some ⟨R, 0, none⟩)] w fun e w' =>
    e = .returned (.bool true) ∧ w = w' := by
  obtain ⟨h0, _⟩ := RS_some h
  have hq := eql_same ⟨R, 0, none⟩
  go_enter Try.func13, Try.ntmps13
  go_wp2
  all_goals go_ret
  all_goals exact ⟨rfl, rfl⟩

set_option maxHeartbeats 400000 in
theorem fine_no (w : World) (R : Nat) (h : RS w R none) : Calls Try.prog 13 #[.pointer (some ⟨R, 0, none⟩)] w fun e w' =>
    e = .returned (.bool false) ∧ w = w' := by
  obtain ⟨h0, _⟩ := RS_none h
  have hq := eql_nil ⟨R, 0, none⟩
  go_enter Try.func13, Try.ntmps13
  go_wp2
  all_goals go_ret
  all_goals exact ⟨rfl, rfl⟩

set_option maxHeartbeats 400000 in
theorem bytes_any (w : World) (R : Nat) : Calls Try.prog 26 #[.pointer (some ⟨R, 0, none⟩)] w fun e w' =>
    e = .returned (.func (.func 36) #[] #[.pointer (some ⟨w.heap.size, 0, none⟩)]) ∧ w.alloc (.cells #[.pointer (some ⟨R, 0, none⟩)] 30) = w' := by
  go_enter Try.func26, Try.ntmps26
  go_wp2
  go_ret
  exact ⟨rfl, rfl⟩

set_option maxHeartbeats 400000 in
theorem next_none (w : World) (R b : Nat) (h : RS w R (some [])) (hb : w.cell? ⟨b, 0, none⟩ = some (.pointer (some ⟨R, 0, none⟩))) :
    Calls Try.prog 36 #[.pointer (some ⟨b, 0, none⟩)] w fun e w' => e = .returned (.tuple #[.int .u8 0, .bool false]) ∧ w = w' := by
  obtain ⟨_, h1, _⟩ := RS_some h
  have he := str_empty_true [] rfl
  generalize str [] = s at *
  go_enter Try.func36, Try.ntmps36
  go_wp2
  go_ret2
  exact ⟨rfl, rfl⟩

set_option maxHeartbeats 400000 in
theorem next_some (w : World) (R b : Nat) (c : UInt8) (l : List UInt8) (h : RS w R (some (c :: l))) (hb : w.cell? ⟨b, 0, none⟩ = some (.pointer (some ⟨R, 0, none⟩))) :
    Calls Try.prog 36 #[.pointer (some ⟨b, 0, none⟩)] w fun e w' => e = .returned (.tuple #[.int .u8 c.toNat, .bool true]) ∧ RS w' R (some l) ∧ But R w w' := by
  obtain ⟨_, h1, _, _, f1, _⟩ := RS_some h
  have he : (str (c :: l)).toList.isEmpty = false := by rw [str_toList]; rfl
  have hs : 1 ≤ (str (c :: l)).size := by rw [str_size]; simp
  have hg : ∀ h : 0 < (str (c :: l)).size, (str (c :: l))[0] = c := fun _ => rfl
  have hx : (str (c :: l)).extract 1 (str (c :: l)).size = str l := by
    apply ByteArray.ext
    simp [str, ByteArray.size]
  have HX := Lib.hid hx
  have HG := Lib.hid hg
  have HH := Lib.hid h
  clear hx hg h
  revert he hs HX HG h1
  generalize str (c :: l) = s
  intro h1 he hs HX HG
  go_enter Try.func36, Try.ntmps36
  go_wp2
  go_region
  all_goals go_wp2
  all_goals go_ret2
  all_goals rw [HG.out (by omega), HX.out]
  all_goals refine ⟨rfl, ?_, ((But.refl R w).setCell 1 _).drew⟩
  all_goals exact heap_setCell HH.out _

end Go.Proofs.Ytjfachkonnfldaa
