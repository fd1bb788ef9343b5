/- Tables of files in memory: maps that lead to files, files that lead to bytes; what an operation may turn. -/
import Derived.Test.YtpbgckpjgfjmgaaGen
import Derived.Test.YtpbgckpjgfjmgaaFiM
import Derived.Maps.RangeWalk
import Derived.Lib.AppendStr
import Derived.Deep.Draws
set_option linter.unusedVariables false
namespace Go.Proofs.Ytpbgckpjgfjmgaa.gn
open Go.RowKit
open Go.Proofs.Ytpbgckpjgfjmgaa.fi

/-! ### worlds that are as they were but for some blocks -/
structure Only (S : Nat → Prop) (w w' : World) : Prop where
  os : w'.os = w.os
  tape : w'.tape = w.tape
  output : w'.output = w.output
  size : w.heap.size ≤ w'.heap.size
  block : ∀ i, i < w.heap.size → ¬ S i → w'.heap[i]? = w.heap[i]?
theorem Only.refl (S : Nat → Prop) (w : World) : Only S w w := ⟨rfl, rfl, rfl, Nat.le_refl _, fun _ _ _ => rfl⟩
theorem Only.trans {S S' : Nat → Prop} {a b c : World} (h : Only S a b) (k : Only S' b c) (hs : ∀ i, i < a.heap.size → S' i → S i) : Only S a c :=
  ⟨k.os.trans h.os, k.tape.trans h.tape, k.output.trans h.output, Nat.le_trans h.size k.size, fun i hi hn =>
    (k.block i (Nat.lt_of_lt_of_le hi h.size) (fun e => hn (hs i hi e))).trans (h.block i hi hn)⟩
theorem Only.mono {S S' : Nat → Prop} {a b : World} (h : Only S a b) (hs : ∀ i, i < a.heap.size → S i → S' i) : Only S' a b :=
  ⟨h.os, h.tape, h.output, h.size, fun i hi hn => h.block i hi fun e => hn (hs i hi e)⟩
theorem Only.of_below {S : Nat → Prop} {a b : World} (h : Below a.heap.size a b) : Only S a b := ⟨h.os, h.tape, h.output, h.size, fun i hi _ => h.block i hi⟩
theorem Only.of_grown {S : Nat → Prop} {a b : World} {row : Option Nat} (h : a.grownBy b row) (hr : ∀ i, row = some i → S i) : Only S a b :=
  ⟨h.os, h.tape, h.output, h.size, fun i hi hn => h.block i hi fun e => hn (hr i e.symm)⟩
theorem Only.below {S : Nat → Prop} {a b : World} {B : Nat} (h : Only S a b) (hS : ∀ i, S i → B ≤ i) (hB : B ≤ a.heap.size) : Below B a b :=
  ⟨h.os, h.tape, h.output, h.size, fun i hi => h.block i (by omega) fun e => by have := hS i e; omega⟩
theorem Only.drew {S : Nat → Prop} {a b : World} (h : Only S a b) : Only S a b.drew := ⟨h.os, h.tape, h.output, h.size, h.block⟩
theorem Only.drewN {S : Nat → Prop} {a b : World} (h : Only S a b) (n : Nat) : Only S a (b.drewN n) := ⟨h.os, h.tape, h.output, h.size, h.block⟩
theorem Only.alloc {S : Nat → Prop} {a b : World} (h : Only S a b) (o : Obj) : Only S a (b.alloc o) :=
  ⟨h.os, h.tape, h.output, Nat.le_trans h.size (by simp), fun i hi hn => (Below.heap_alloc b o i (Nat.lt_of_lt_of_le hi h.size)).trans (h.block i hi hn)⟩
theorem Only.setCell {S : Nat → Prop} {a b : World} (h : Only S a b) {p : Addr} (hp : p.block < a.heap.size → S p.block) (u : Value) : Only S a (b.setCell p u) :=
  ⟨h.os, h.tape, h.output, by simpa [World.setCell] using h.size, fun i hi hn => (Below.heap_setCell b p u i (by rintro rfl; exact hn (hp hi))).trans (h.block i hi hn)⟩

/-- The set X, and what is new. -/
def ext (X : Nat → Prop) (w w' : World) : Nat → Prop := fun i => X i ∨ (w.heap.size ≤ i ∧ i < w'.heap.size)
theorem ext_old {X : Nat → Prop} {w w' : World} {i : Nat} (h : X i) : ext X w w' i := .inl h
theorem ext_ext {X : Nat → Prop} {a b c : World} (h1 : a.heap.size ≤ b.heap.size) (h2 : b.heap.size ≤ c.heap.size) {i : Nat} (h : ext (ext X a b) b c i) : ext X a c i := by
  rcases h with (h | ⟨h, h'⟩) | ⟨h, h'⟩
  · exact .inl h
  · exact .inr ⟨h, by omega⟩
  · exact .inr ⟨by omega, h'⟩

/-! ### maps from names to blocks -/
/-- How a pointer to a block's head reads. -/
def ptrR (v : Value) : Option (DataW Unit × List MemPlace) :=
  match v with
  | .pointer none => some (.nil, [])
  | .pointer (some ⟨b, 0, none⟩) => some (.lit (.int .i64 (b : Int)), [])
  | _ => none
def ptrOf : Option Nat → Value
  | none => .pointer none
  | some b => .pointer (some ⟨b, 0, none⟩)
def blkD : Option Nat → DataW Unit
  | none => .nil
  | some b => .lit (.int .i64 (b : Int))
theorem ptrR_of (o : Option Nat) : ptrR (ptrOf o) = some (blkD o, []) := by cases o <;> rfl
theorem ptrR_inv {v : Value} {o : Option Nat} {ps : List MemPlace} (h : ptrR v = some (blkD o, ps)) : v = ptrOf o := by
  unfold ptrR at h
  split at h
  · cases o with
    | none => rfl
    | some b => simp [blkD] at h
  · cases o with
    | none => simp [blkD] at h
    | some b =>
      simp [blkD] at h
      obtain ⟨h, _⟩ := h
      obtain rfl : _ = b := Int.ofNat.inj h
      rfl
  · cases h

/-- The map of these names and blocks, as it reads. -/
def datL (L : List (Nm × Nat)) : List (Lit × DataW Unit) := L.map fun p => (.string p.1, .lit (.int .i64 (p.2 : Int)))
def dat (L : List (Nm × Nat)) : DataW Unit := .map (datL L)
theorem datL_ins (k : Nm) (b : Nat) : ∀ L : List (Nm × Nat), datL (ins (k, b) L) = DataW.insert (.string k, .lit (.int .i64 (b : Int))) (datL L)
  | [] => rfl
  | y :: r => by
    unfold ins
    have := datL_ins k b r
    cases h : bytesBefore k y.1 with
    | true => simp [datL, DataW.insert, Lit.before, h]
    | false =>
      simp only [datL] at this
      simp [datL, DataW.insert, Lit.before, h, this]
theorem datL_del (k : Nm) (L : List (Nm × Nat)) : datL (del k L) = (datL L).filter fun p => !p.1.sameKey (.string k) := by
  unfold datL del
  rw [List.filter_map]
  rfl
theorem dat_put (k : Nm) (b : Nat) (L : List (Nm × Nat)) : (dat L).put (.string k) (.lit (.int .i64 (b : Int))) = dat (put k b L) := by
  show DataW.map (DataW.insert _ ((datL L).filter fun p => !p.1.sameKey (.string k))) = .map _
  rw [← datL_del, ← datL_ins]
  rfl
theorem dat_del (k : Nm) (L : List (Nm × Nat)) : (dat L).del (.string k) = dat (del k L) := by
  show DataW.map ((datL L).filter fun p => !p.1.sameKey (.string k)) = .map _
  rw [← datL_del]
theorem find_datL (k : Nm) (L : List (Nm × Nat)) : (datL L).find? (fun p => p.1.sameKey (.string k)) = (L.find? fun p => p.1 == k).map fun p => (.string p.1, .lit (.int .i64 (p.2 : Int))) := by
  unfold datL
  rw [List.find?_map]
  rfl
theorem dat_at (k : Nm) (L : List (Nm × Nat)) : (dat L).atKey (.string k) .nil = blkD (fi.get k L) := by
  simp only [dat, DataW.atKey, find_datL, fi.get]
  cases L.find? fun p => p.1 == k <;> rfl
theorem dat_has (k : Nm) (L : List (Nm × Nat)) : Maps.has (dat L) (.string k) = (fi.get k L).isSome := by
  show (datL L).any (fun p => p.1.sameKey (.string k)) = _
  have h := find_datL k L
  rw [Bool.eq_iff_iff, List.any_eq_true, ← List.find?_isSome, h]
  unfold fi.get
  cases L.find? fun p => p.1 == k <;> simp
theorem dat_size (L : List (Nm × Nat)) : Maps.size (dat L) = L.length := by simp [dat, datL, Maps.size]

theorem keyLaw : Go.Maps.Keyed Try.prog 9 := Go.Maps.string_keyed Try.underlying9
theorem keyOfs {l : List UInt8} (h : l.length ≤ maxLen) : keyOf Try.prog 9 (.string (str l)) = some (.string l) := by
  have := Go.WideMaps.keyOf_string_mk (P := Try.prog) Try.underlying9 (s := str l) (by rw [str_size]; exact h)
  simpa [str] using this
theorem key_str {v : Value} {l : List UInt8} (hk : keyOf Try.prog 9 v = some (.string l)) : v = .string (str l) ∧ l.length ≤ maxLen := by
  rw [keyOf_string Try.underlying9] at hk
  cases v <;> simp [mapKey, Try.underlying9] at hk
  obtain ⟨h1, rfl⟩ := hk
  exact ⟨by rw [str_of], by simpa using h1⟩
theorem zeroP (w : World) : (zeroValue 70).run Try.prog w = .ok (.pointer none) w := by kernel_rfl

/-- Block b is the map of these names and blocks. -/
def Tab (w : World) (b : Nat) (L : List (Nm × Nat)) : Prop := ∃ n, w.ownsMap Try.prog 9 ptrR b n (dat L)
theorem Tab.exact {w : World} {b : Nat} {L : List (Nm × Nat)} (h : Tab w b L) : w.ownsMap Try.prog 9 ptrR b L.length (dat L) := by
  obtain ⟨n, es, clock, hb, F, _, hD⟩ := h
  refine ⟨es, clock, hb, F, ?_, hD⟩
  have h1 := congrArg Maps.size hD
  rw [dat_size] at h1
  simp only [Maps.size, length_sorted, List.length_map, Array.length_toList] at h1
  omega
theorem Tab.is {w : World} {b : Nat} {L : List (Nm × Nat)} (h : Tab w b L) : ∃ es c, w.heap[b]? = some (.map es c) := by
  obtain ⟨_, es, c, hb, _⟩ := h
  exact ⟨es, c, hb⟩
theorem Tab.kept {w w' : World} {b : Nat} {L : List (Nm × Nat)} (h : Tab w b L) (hb : w'.heap[b]? = w.heap[b]?) : Tab w' b L := by
  obtain ⟨n, es, clock, h1, h2⟩ := h
  exact ⟨n, es, clock, hb.trans h1, h2⟩
theorem Tab.apart {w : World} {b : Nat} {L : List (Nm × Nat)} (h : Tab w b L) : Keyed1 L := by
  obtain ⟨n, hn⟩ := h
  obtain ⟨es, he, hp, _⟩ := hn.entries keyLaw
  have e : datL L = es := by simpa [dat] using he
  subst e
  unfold datL at hp
  rw [List.pairwise_map] at hp
  exact hp.imp fun {a b} hab e => hab (by rw [e])
theorem Tab.keys {w : World} {b : Nat} {L : List (Nm × Nat)} (h : Tab w b L) : ∀ p ∈ L, p.1.length ≤ maxLen := by
  obtain ⟨n, es, clock, _, F, _, hD⟩ := h
  intro p hp
  have h1 : (Lit.string p.1, DataW.lit (H := Unit) (.int .i64 (p.2 : Int))) ∈ (es.toList.map (Go.WideElems.rg Try.prog 9 ptrR)).foldr DataW.insert [] := by
    have : datL L = (es.toList.map (Go.WideElems.rg Try.prog 9 ptrR)).foldr DataW.insert [] := by simpa [dat] using hD
    rw [← this]
    exact List.mem_map.2 ⟨p, hp, rfl⟩
  obtain ⟨x, hx, hxe⟩ := List.mem_map.1 (mem_sorted.1 h1)
  obtain ⟨y, hy⟩ := F.reads x hx
  rw [Go.WideElems.rg_of hy] at hxe
  have hk := Go.WideElems.rd_key hy
  rw [(congrArg Prod.fst hxe : y.1 = _)] at hk
  exact (key_str hk).2
theorem Tab.new (w : World) : Tab (w.alloc (.map #[] 0)) w.heap.size [] := ⟨0, World.ownsMap_made w _ _ _⟩
theorem Tab.look {w : World} {b : Nat} {L : List (Nm × Nat)} (h : Tab w b L) {k : Nm} (hk : k.length ≤ maxLen) :
    (Instr.lookup 52 (.map (some b)) (.string (str k)) false).run Try.prog w = .ok (ptrOf (fi.get k L)) w := by
  obtain ⟨n, hn⟩ := h
  obtain ⟨v, ps, hrun, hv⟩ := hn.lookup keyLaw Try.underlying52 (zeroP w) (ptrR_of none) (keyOfs hk)
  rw [show blkD none = (.nil : DataW Unit) from rfl, dat_at] at hv
  rw [hrun, ptrR_inv hv]
theorem Tab.put {w : World} {b : Nat} {L : List (Nm × Nat)} (h : Tab w b L) {k : Nm} (hk : k.length ≤ maxLen) (hL : L.length < maxLen) (p : Nat) :
    ∃ w', (Instr.mapUpdate 52 (.map (some b)) (.string (str k)) (.pointer (some ⟨p, 0, none⟩))).run Try.prog w = .ok () w' ∧ Tab w' b (fi.put k p L) ∧ w.grownBy w' (some b) := by
  obtain ⟨w', hrun, h1, h2⟩ := h.exact.update keyLaw Try.underlying52 hL (keyOfs hk) (ptrR_of (some p))
  exact ⟨w', hrun, ⟨_, by rw [← dat_put]; exact h1⟩, h2⟩
theorem turned_grown {w w' : World} {b : Nat} (h : w.mapTurned w' b) : w.grownBy w' (some b) := by
  obtain ⟨es, c, es', c', hb, rfl⟩ := h
  exact ⟨rfl, rfl, rfl, by simp [Go.ChangeMaps.setBlock], fun i _ hi => Go.ChangeMaps.heap_setBlock_other hb _ fun e => hi (by rw [e])⟩
theorem Tab.del {w : World} {b : Nat} {L : List (Nm × Nat)} (h : Tab w b L) {k : Nm} (hk : k.length ≤ maxLen) (ty : TypeId) :
    ∃ w', (Builtin.delete_ #[52, 9] ty #[.map (some b), .string (str k)]).run Try.prog w = .ok (.tuple #[]) w' ∧ Tab w' b (fi.del k L) ∧ w.grownBy w' (some b) := by
  obtain ⟨w', hrun, h1, h2⟩ := h.exact.drop keyLaw Try.underlying52 (keyOfs hk) ty
  exact ⟨w', hrun, ⟨_, by rw [← dat_del]; exact h1⟩, turned_grown h2⟩
end Go.Proofs.Ytpbgckpjgfjmgaa.gn
