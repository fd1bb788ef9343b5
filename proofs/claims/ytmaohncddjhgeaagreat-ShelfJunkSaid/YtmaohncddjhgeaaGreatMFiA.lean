/- Tables of files in memory: maps that lead to files, files that lead to bytes; what an operation may turn. -/
import Derived.Test.YtmaohncddjhgeaaGreatMGen
import Derived.Test.YtmaohncddjhgeaaGreatFiM
import Derived.Maps.RangeWalk
import Derived.Lib.AppendStr
import Derived.Deep.Draws
section
set_option linter.unusedVariables false
namespace Go.Proofs.YtmaohncddjhgeaaGreat.gn
open Go.RowKit
open Go.Proofs.YtmaohncddjhgeaaGreat.fi

/-! ### worlds that are as they were but for some blocks -/
structure Only (S : Nat → Prop) (w w' : World) : Prop where
  os : w'.os = w.os
  tape : w'.tape = w.tape
  output : w'.output = w.output
  size : w.heap.size ≤ w'.heap.size
  block : ∀ i, i < w.heap.size → ¬ S i → w'.heap[i]? = w.heap[i]?
theorem Only.refl (S : Nat → Prop) (w : World) : Only S w w := ⟨rfl, rfl, rfl, Nat.le_refl _, fun _ _ _ => rfl⟩
theorem Only.trans {S S' : Nat → Prop} {a b c : World} (h : Only S a b) (k : Only S' b c) (hs : ∀ i, i < a.heap.size → S' i → S i) : Only S a c :=
  ⟨k.os.trans h.os, k.tape.trans h.tape, k.output.trans h.output, Nat.le_trans h.size k.size, fun i hi hn =>
    (k.block i (Nat.lt_of_lt_of_le hi h.size) (fun e => hn (hs i hi e))).trans (h.block i hi hn)⟩
theorem Only.mono {S S' : Nat → Prop} {a b : World} (h : Only S a b) (hs : ∀ i, i < a.heap.size → S i → S' i) : Only S' a b :=
  ⟨h.os, h.tape, h.output, h.size, fun i hi hn => h.block i hi fun e => hn (hs i hi e)⟩
theorem Only.of_below {S : Nat → Prop} {a b : World} (h : Below a.heap.size a b) : Only S a b := ⟨h.os, h.tape, h.output, h.size, fun i hi _ => h.block i hi⟩
theorem Only.of_grown {S : Nat → Prop} {a b : World} {row : Option Nat} (h : a.grownBy b row) (hr : ∀ i, row = some i → S i) : Only S a b :=
  ⟨h.os, h.tape, h.output, h.size, fun i hi hn => h.block i hi fun e => hn (hr i e.symm)⟩
theorem Only.below {S : Nat → Prop} {a b : World} {B : Nat} (h : Only S a b) (hS : ∀ i, S i → B ≤ i) (hB : B ≤ a.heap.size) : Below B a b :=
  ⟨h.os, h.tape, h.output, h.size, fun i hi => h.block i (by omega) fun e => by have := hS i e; omega⟩
theorem Only.drew {S : Nat → Prop} {a b : World} (h : Only S a b) : Only S a b.drew := ⟨h.os, h.tape, h.output, h.size, h.block⟩
theorem Only.drewN {S : Nat → Prop} {a b : World} (h : Only S a b) (n : Nat) : Only S a (b.drewN n) := ⟨h.os, h.tape, h.output, h.size, h.block⟩
theorem Only.alloc {S : Nat → Prop} {a b : World} (h : Only S a b) (o : Obj) : Only S a (b.alloc o) :=
  ⟨h.os, h.tape, h.output, Nat.le_trans h.size (by simp), fun i hi hn => (Below.heap_alloc b o i (Nat.lt_of_lt_of_le hi h.size)).trans (h.block i hi hn)⟩
theorem Only.setCell {S : Nat → Prop} {a b : World} (h : Only S a b) {p : Addr} (hp : p.block < a.heap.size → S p.block) (u : Value) : Only S a (b.setCell p u) :=
  ⟨h.os, h.tape, h.output, by simpa [World.setCell] using h.size, fun i hi hn => (Below.heap_setCell b p u i (by rintro rfl; exact hn (hp hi))).trans (h.block i hi hn)⟩

/-- The set X, and what is new. -/
def ext (X : Nat → Prop) (w w' : World) : Nat → Prop := fun i => X i ∨ (w.heap.size ≤ i ∧ i < w'.heap.size)
theorem ext_old {X : Nat → Prop} {w w' : World} {i : Nat} (h : X i) : ext X w w' i := .inl h
theorem ext_ext {X : Nat → Prop} {a b c : World} (h1 : a.heap.size ≤ b.heap.size) (h2 : b.heap.size ≤ c.heap.size) {i : Nat} (h : ext (ext X a b) b c i) : ext X a c i := by
  rcases h with (h | ⟨h, h'⟩) | ⟨h, h'⟩
  · exact .inl h
  · exact .inr ⟨h, by omega⟩
  · exact .inr ⟨by omega, h'⟩

/-! ### maps from names to blocks -/
/-- How a pointer to a block's head reads. -/
def ptrR (v : Value) : Option (DataW Unit × List MemPlace) :=
  match v with
  | .pointer none => some (.nil, [])
  | .pointer (some ⟨b, 0, none⟩) => some (.lit (.int .i64 (b : Int)), [])
  | _ => none
def ptrOf : Option Nat → Value
  | none => .pointer none
  | some b => .pointer (some ⟨b, 0, none⟩)
def blkD : Option Nat → DataW Unit
  | none => .nil
  | some b => .lit (.int .i64 (b : Int))
theorem ptrR_of (o : Option Nat) : ptrR (ptrOf o) = some (blkD o, []) := by cases o <;> rfl
theorem ptrR_inv {v : Value} {o : Option Nat} {ps : List MemPlace} (h : ptrR v = some (blkD o, ps)) : v = ptrOf o := by
  unfold ptrR at h
  split at h
  · cases o with
    | none => rfl
    | some b => simp [blkD] at h
  · cases o with
    | none => simp [blkD] at h
    | some b =>
      simp [blkD] at h
      obtain ⟨h, _⟩ := h
      obtain rfl : _ = b := Int.ofNat.inj h
      rfl
  · cases h

/-- The map of these names and blocks, as it reads. -/
def datL (L : List (Nm × Nat)) : List (Lit × DataW Unit) := L.map fun p => (.string p.1, .lit (.int .i64 (p.2 : Int)))
def dat (L : List (Nm × Nat)) : DataW Unit := .map (datL L)
theorem datL_ins (k : Nm) (b : Nat) : ∀ L : List (Nm × Nat), datL (ins (k, b) L) = DataW.insert (.string k, .lit (.int .i64 (b : Int))) (datL L)
  | [] => rfl
  | y :: r => by
    unfold ins
    have := datL_ins k b r
    cases h : bytesBefore k y.1 with
    | true => simp [datL, DataW.insert, Lit.before, h]
    | false =>
      simp only [datL] at this
      simp [datL, DataW.insert, Lit.before, h, this]
theorem datL_del (k : Nm) (L : List (Nm × Nat)) : datL (del k L) = (datL L).filter fun p => !p.1.sameKey (.string k) := by
  unfold datL del
  rw [List.filter_map]
  rfl
theorem dat_put (k : Nm) (b : Nat) (L : List (Nm × Nat)) : (dat L).put (.string k) (.lit (.int .i64 (b : Int))) = dat (put k b L) := by
  show DataW.map (DataW.insert _ ((datL L).filter fun p => !p.1.sameKey (.string k))) = .map _
  rw [← datL_del, ← datL_ins]
  rfl
theorem dat_del (k : Nm) (L : List (Nm × Nat)) : (dat L).del (.string k) = dat (del k L) := by
  show DataW.map ((datL L).filter fun p => !p.1.sameKey (.string k)) = .map _
  rw [← datL_del]
theorem find_datL (k : Nm) (L : List (Nm × Nat)) : (datL L).find? (fun p => p.1.sameKey (.string k)) = (L.find? fun p => p.1 == k).map fun p => (.string p.1, .lit (.int .i64 (p.2 : Int))) := by
  unfold datL
  rw [List.find?_map]
  rfl
theorem dat_at (k : Nm) (L : List (Nm × Nat)) : (dat L).atKey (.string k) .nil = blkD (fi.get k L) := by
  simp only [dat, DataW.atKey, find_datL, fi.get]
  cases L.find? fun p => p.1 == k <;> rfl
theorem dat_has (k : Nm) (L : List (Nm × Nat)) : Maps.has (dat L) (.string k) = (fi.get k L).isSome := by
  show (datL L).any (fun p => p.1.sameKey (.string k)) = _
  have h := find_datL k L
  rw [Bool.eq_iff_iff, List.any_eq_true, ← List.find?_isSome, h]
  unfold fi.get
  cases L.find? fun p => p.1 == k <;> simp
theorem dat_size (L : List (Nm × Nat)) : Maps.size (dat L) = L.length := by simp [dat, datL, Maps.size]

theorem keyLaw : Go.Maps.Keyed Tryz.prog 9 := Go.Maps.string_keyed Tryz.underlying9
theorem keyOfs {l : List UInt8} (h : l.length ≤ maxLen) : keyOf Tryz.prog 9 (.string (str l)) = some (.string l) := by
  have := Go.WideMaps.keyOf_string_mk (P := Tryz.prog) Tryz.underlying9 (s := str l) (by rw [str_size]; exact h)
  simpa [str] using this
theorem key_str {v : Value} {l : List UInt8} (hk : keyOf Tryz.prog 9 v = some (.string l)) : v = .string (str l) ∧ l.length ≤ maxLen := by
  rw [keyOf_string Tryz.underlying9] at hk
  cases v <;> simp [mapKey, Tryz.underlying9] at hk
  obtain ⟨h1, rfl⟩ := hk
  exact ⟨by rw [str_of], by simpa using h1⟩
theorem zeroP (w : World) : (zeroValue 77).run Tryz.prog w = .ok (.pointer none) w := by kernel_rfl

/-- Block b is the map of these names and blocks. -/
def Tab (w : World) (b : Nat) (L : List (Nm × Nat)) : Prop := ∃ n, w.ownsMap Tryz.prog 9 ptrR b n (dat L)
theorem Tab.exact {w : World} {b : Nat} {L : List (Nm × Nat)} (h : Tab w b L) : w.ownsMap Tryz.prog 9 ptrR b L.length (dat L) := by
  obtain ⟨n, es, clock, hb, F, _, hD⟩ := h
  refine ⟨es, clock, hb, F, ?_, hD⟩
  have h1 := congrArg Maps.size hD
  rw [dat_size] at h1
  simp only [Maps.size, length_sorted, List.length_map, Array.length_toList] at h1
  omega
theorem Tab.is {w : World} {b : Nat} {L : List (Nm × Nat)} (h : Tab w b L) : ∃ es c, w.heap[b]? = some (.map es c) := by
  obtain ⟨_, es, c, hb, _⟩ := h
  exact ⟨es, c, hb⟩
theorem Tab.kept {w w' : World} {b : Nat} {L : List (Nm × Nat)} (h : Tab w b L) (hb : w'.heap[b]? = w.heap[b]?) : Tab w' b L := by
  obtain ⟨n, es, clock, h1, h2⟩ := h
  exact ⟨n, es, clock, hb.trans h1, h2⟩
theorem Tab.apart {w : World} {b : Nat} {L : List (Nm × Nat)} (h : Tab w b L) : Keyed1 L := by
  obtain ⟨n, hn⟩ := h
  obtain ⟨es, he, hp, _⟩ := hn.entries keyLaw
  have e : datL L = es := by simpa [dat] using he
  subst e
  unfold datL at hp
  rw [List.pairwise_map] at hp
  exact hp.imp fun {a b} hab e => hab (by rw [e])
theorem Tab.keys {w : World} {b : Nat} {L : List (Nm × Nat)} (h : Tab w b L) : ∀ p ∈ L, p.1.length ≤ maxLen := by
  obtain ⟨n, es, clock, _, F, _, hD⟩ := h
  intro p hp
  have h1 : (Lit.string p.1, DataW.lit (H := Unit) (.int .i64 (p.2 : Int))) ∈ (es.toList.map (Go.WideElems.rg Tryz.prog 9 ptrR)).foldr DataW.insert [] := by
    have : datL L = (es.toList.map (Go.WideElems.rg Tryz.prog 9 ptrR)).foldr DataW.insert [] := by simpa [dat] using hD
    rw [← this]
    exact List.mem_map.2 ⟨p, hp, rfl⟩
  obtain ⟨x, hx, hxe⟩ := List.mem_map.1 (mem_sorted.1 h1)
  obtain ⟨y, hy⟩ := F.reads x hx
  rw [Go.WideElems.rg_of hy] at hxe
  have hk := Go.WideElems.rd_key hy
  rw [(congrArg Prod.fst hxe : y.1 = _)] at hk
  exact (key_str hk).2
theorem Tab.new (w : World) : Tab (w.alloc (.map #[] 0)) w.heap.size [] := ⟨0, World.ownsMap_made w _ _ _⟩
theorem Tab.look {w : World} {b : Nat} {L : List (Nm × Nat)} (h : Tab w b L) {k : Nm} (hk : k.length ≤ maxLen) :
    (Instr.lookup 66 (.map (some b)) (.string (str k)) false).run Tryz.prog w = .ok (ptrOf (fi.get k L)) w := by
  obtain ⟨n, hn⟩ := h
  obtain ⟨v, ps, hrun, hv⟩ := hn.lookup keyLaw Tryz.underlying66 (zeroP w) (ptrR_of none) (keyOfs hk)
  rw [show blkD none = (.nil : DataW Unit) from rfl, dat_at] at hv
  rw [hrun, ptrR_inv hv]
theorem Tab.put {w : World} {b : Nat} {L : List (Nm × Nat)} (h : Tab w b L) {k : Nm} (hk : k.length ≤ maxLen) (hL : L.length < maxLen) (p : Nat) :
    ∃ w', (Instr.mapUpdate 66 (.map (some b)) (.string (str k)) (.pointer (some ⟨p, 0, none⟩))).run Tryz.prog w = .ok () w' ∧ Tab w' b (fi.put k p L) ∧ w.grownBy w' (some b) := by
  obtain ⟨w', hrun, h1, h2⟩ := h.exact.update keyLaw Tryz.underlying66 hL (keyOfs hk) (ptrR_of (some p))
  exact ⟨w', hrun, ⟨_, by rw [← dat_put]; exact h1⟩, h2⟩
theorem turned_grown {w w' : World} {b : Nat} (h : w.mapTurned w' b) : w.grownBy w' (some b) := by
  obtain ⟨es, c, es', c', hb, rfl⟩ := h
  exact ⟨rfl, rfl, rfl, by simp [Go.ChangeMaps.setBlock], fun i _ hi => Go.ChangeMaps.heap_setBlock_other hb _ fun e => hi (by rw [e])⟩
theorem Tab.del {w : World} {b : Nat} {L : List (Nm × Nat)} (h : Tab w b L) {k : Nm} (hk : k.length ≤ maxLen) (ty : TypeId) :
    ∃ w', (Builtin.delete_ #[66, 9] ty #[.map (some b), .string (str k)]).run Tryz.prog w = .ok (.tuple #[]) w' ∧ Tab w' b (fi.del k L) ∧ w.grownBy w' (some b) := by
  obtain ⟨w', hrun, h1, h2⟩ := h.exact.drop keyLaw Tryz.underlying66 (keyOfs hk) ty
  exact ⟨w', hrun, ⟨_, by rw [← dat_del]; exact h1⟩, turned_grown h2⟩
end Go.Proofs.YtmaohncddjhgeaaGreat.gn
end
section
set_option linter.unusedVariables false
namespace Go.Proofs.YtmaohncddjhgeaaGreat.fi

section
variable {V : Type}
def Rising (l : List (Nm × V)) : Prop := l.Pairwise fun p q => bytesBefore p.1 q.1 = true
theorem before_self : ∀ a : List UInt8, bytesBefore a a = false
  | [] => rfl
  | x :: r => by simp [bytesBefore, before_self r]
theorem before_asymm : ∀ a b : List UInt8, bytesBefore a b = true → bytesBefore b a = true → False
  | [], [], h, _ => by simp [bytesBefore] at h
  | [], _ :: _, _, h => by simp [bytesBefore] at h
  | _ :: _, [], h, _ => by simp [bytesBefore] at h
  | x :: r, y :: s, h, h' => by
    simp only [bytesBefore, Bool.or_eq_true, Bool.and_eq_true, decide_eq_true_eq, beq_iff_eq] at h h'
    rcases h with h | ⟨rfl, h⟩
    · rcases h' with h' | ⟨rfl, _⟩
      · exact absurd h' (by simpa using (UInt8.le_of_lt h))
      · exact absurd h (by simp)
    · rcases h' with h' | ⟨_, h'⟩
      · exact absurd h' (by simp)
      · exact before_asymm r s h h'
theorem Rising.keyed {l : List (Nm × V)} (h : Rising l) : Keyed1 l := h.imp fun {a b} hab e => by rw [e, before_self] at hab; cases hab
theorem rising_ext : ∀ {a b : List (Nm × V)}, Rising a → Rising b → (∀ k, get k a = get k b) → a = b
  | [], [], _, _, _ => rfl
  | [], y :: s, _, _, h => by
    have := h y.1
    simp [get] at this
  | x :: r, [], _, _, h => by
    have := h x.1
    simp [get] at this
  | x :: r, y :: s, ha, hb, h => by
    have hka := ha.keyed
    have hkb := hb.keyed
    obtain ⟨a1, a2⟩ := List.pairwise_cons.1 ha
    obtain ⟨b1, b2⟩ := List.pairwise_cons.1 hb
    have hxy : x = y := by
      have e1 : (x.1, x.2) ∈ y :: s := get_some (by rw [← h]; simp [get])
      have e2 : (y.1, y.2) ∈ x :: r := get_some (by rw [h]; simp [get])
      rcases List.mem_cons.1 e1 with e1 | e1
      · exact e1
      · rcases List.mem_cons.1 e2 with e2 | e2
        · exact e2.symm
        · exact absurd (b1 _ e1) fun hh => before_asymm _ _ hh (a1 _ e2)
    subst hxy
    have hr : ∀ k, get k r = get k s := fun k => by
      by_cases hk : x.1 = k
      · have n1 : get k r = none := get_none.2 fun z hz e => (List.pairwise_cons.1 hka).1 z hz (by rw [hk, e])
        have n2 : get k s = none := get_none.2 fun z hz e => (List.pairwise_cons.1 hkb).1 z hz (by rw [hk, e])
        rw [n1, n2]
      · have := h k
        have hk' : (x.1 == k) = false := by simpa using hk
        simpa [get, List.find?_cons, hk'] using this
    rw [rising_ext a2 b2 hr]
theorem rising_map {V' : Type} {f : V → V'} {l : List (Nm × V)} (h : Rising l) : Rising (l.map fun p => (p.1, f p.2)) := by
  unfold Rising
  rw [List.pairwise_map]
  exact h
end
end Go.Proofs.YtmaohncddjhgeaaGreat.fi

namespace Go.Proofs.YtmaohncddjhgeaaGreat.gn
open Go.RowKit
open Go.Proofs.YtmaohncddjhgeaaGreat.fi

theorem Tab.rising {w : World} {b : Nat} {L : List (Nm × Nat)} (h : Tab w b L) : Rising L := by
  obtain ⟨n, es, clock, _, F, _, hD⟩ := h
  have hd : datL L = (es.toList.map (Go.WideElems.rg Tryz.prog 9 ptrR)).foldr DataW.insert [] := by simpa [dat] using hD
  have hs := Go.Maps.sorted_sorted keyLaw.one _ (Go.Maps.fit_keys F) (Go.Maps.fit_apart keyLaw F)
  rw [← hd] at hs
  unfold datL at hs
  rw [List.pairwise_map] at hs
  exact hs

/-- These bytes lie behind A, of which c may be written. -/
def Byt (w : World) (A : Option Addr) (n c : Nat) (l : List UInt8) : Prop :=
  l.length = n ∧ n ≤ c ∧ c ≤ maxLen ∧
  ((A = none ∧ c = 0) ∨ ∃ g cur, A = some ⟨g, 0, none⟩ ∧ w.heap[g]? = some (.cells cur 5 (0, 0)) ∧ c ≤ cur.size ∧ cur.toList.take n = Lib.byteCells l)
def BlkF (w : World) (p : Nat) (A : Option Addr) (n c : Nat) (d : Bool) : Prop := w.heap[p]? = some (.cells #[.slice A n c, .bool d] 82 (0, 0))
theorem Byt.kept {w w' : World} {A : Option Addr} {n c : Nat} {l : List UInt8} (h : Byt w A n c l) (hg : ∀ g, A = some ⟨g, 0, none⟩ → g < w.heap.size → w'.heap[g]? = w.heap[g]?) : Byt w' A n c l := by
  refine ⟨h.1, h.2.1, h.2.2.1, ?_⟩
  rcases h.2.2.2 with hn | ⟨g, cur, rfl, hh, rest⟩
  · exact .inl hn
  · exact .inr ⟨g, cur, rfl, (hg g rfl (lt_of_block hh)).trans hh, rest⟩
theorem Byt.lt {w : World} {A : Option Addr} {n c : Nat} {l : List UInt8} (h : Byt w A n c l) {g : Nat} (hg : A = some ⟨g, 0, none⟩) : ∃ cur, w.heap[g]? = some (.cells cur 5 (0, 0)) ∧ c ≤ cur.size ∧ cur.toList.take n = Lib.byteCells l := by
  rcases h.2.2.2 with ⟨rfl, _⟩ | ⟨g', cur, rfl, hh, rest⟩
  · cases hg
  · cases hg
    exact ⟨cur, hh, rest⟩
theorem Byt.form {w : World} {A : Option Addr} {n c : Nat} {l : List UInt8} (h : Byt w A n c l) : (A = none ∧ n = 0 ∧ c = 0 ∧ l = []) ∨ ∃ g, A = some ⟨g, 0, none⟩ := by
  rcases h.2.2.2 with ⟨rfl, hc⟩ | ⟨g', cur, rfl, _⟩
  · have hn : n = 0 := by have := h.2.1; omega
    exact .inl ⟨rfl, hn, hc, List.eq_nil_of_length_eq_zero (by rw [h.1]; exact hn)⟩
  · exact .inr ⟨g', rfl⟩
theorem Byt.clip {w : World} {A : Option Addr} {n c m : Nat} {l : List UInt8} (h : Byt w A n c l) (hm : m ≤ n) : Byt w A m m (l.take m) := by
  obtain ⟨h1, h2, h3, h4⟩ := h
  refine ⟨by rw [List.length_take]; omega, Nat.le_refl _, by omega, ?_⟩
  rcases h4 with ⟨rfl, hc⟩ | ⟨g, cur, rfl, hh, hs, ht⟩
  · exact .inl ⟨rfl, by omega⟩
  · refine .inr ⟨g, cur, rfl, hh, by omega, ?_⟩
    rw [show cur.toList.take m = (cur.toList.take n).take m by rw [List.take_take, Nat.min_eq_left hm], ht]
    simp [Lib.byteCells, List.map_take]

/-- What lies where: each map's names and files, each file's bytes, whose it is; how far each row of bytes is written, and which file writes on. -/
structure Lay where
  tab : Nat → List (Nm × Nat)
  cont : Nat → Fl
  own : Nat → Nat
  len : Nat → Nat
  tail : Nat → Nat
def FileOk (w : World) (X : Nat → Prop) (G : Lay) (b p : Nat) : Prop :=
  X p ∧ G.own p = b ∧ ∃ A n c, BlkF w p A n c (G.cont p).2 ∧ Byt w A n c (G.cont p).1 ∧ ∀ g, A = some ⟨g, 0, none⟩ → X g ∧ n ≤ G.len g ∧ (c = n ∨ (n = G.len g ∧ G.tail g = p))
def TabOk (w : World) (X : Nat → Prop) (G : Lay) (b : Nat) (T : Tb) : Prop :=
  X b ∧ Tab w b (G.tab b) ∧ (G.tab b).Pairwise (fun p q => p.2 ≠ q.2) ∧ T = (G.tab b).map (fun e => (e.1, G.cont e.2)) ∧ ∀ e ∈ G.tab b, FileOk w X G b e.2
def SysG (w : World) (X : Nat → Prop) (G : Lay) (TT : Nat → Option Tb) : Prop := ∀ b T, TT b = some T → TabOk w X G b T
/-- Tables in memory, of which X holds all blocks. -/
def SysT (w : World) (X : Nat → Prop) (TT : Nat → Option Tb) : Prop := ∃ G, SysG w X G TT
def upd {α : Type} (TT : Nat → Option α) (b : Nat) (T : α) : Nat → Option α := fun i => if i = b then some T else TT i
theorem upd_same {α : Type} (TT : Nat → Option α) (b : Nat) (T : α) : upd TT b T b = some T := by simp [upd]
theorem upd_other {α : Type} (TT : Nat → Option α) {b i : Nat} (T : α) (h : i ≠ b) : upd TT b T i = TT i := by simp [upd, h]
theorem upd_upd {α : Type} (TT : Nat → Option α) (b : Nat) (T T' : α) : upd (upd TT b T) b T' = upd TT b T' := by
  funext i
  unfold upd
  split <;> simp_all
theorem upd_self {α : Type} {TT : Nat → Option α} {b : Nat} {T : α} (h : TT b = some T) : upd TT b T = TT := by
  funext i
  unfold upd
  split
  · simp_all
  · rfl

theorem FileOk.kept {w w' : World} {X : Nat → Prop} {G : Lay} {b p : Nat} (h : FileOk w X G b p) (hk : ∀ i, i < w.heap.size → X i → w'.heap[i]? = w.heap[i]?) : FileOk w' X G b p := by
  obtain ⟨hx, ho, A, n, c, hb, hy, hg⟩ := h
  exact ⟨hx, ho, A, n, c, (hk p (lt_of_block hb) hx).trans hb, hy.kept fun g hA hlt => hk g hlt (hg g hA).1, hg⟩
theorem SysG.kept {w w' : World} {X : Nat → Prop} {G : Lay} {TT : Nat → Option Tb} (h : SysG w X G TT) (hk : ∀ i, i < w.heap.size → X i → w'.heap[i]? = w.heap[i]?) : SysG w' X G TT := by
  intro b T hT
  obtain ⟨h1, h2, h3, h4, h5⟩ := h b T hT
  obtain ⟨es, cl, hes⟩ := h2.is
  exact ⟨h1, h2.kept (hk b (lt_of_block hes) h1), h3, h4, fun e he => (h5 e he).kept hk⟩
theorem SysT.kept {w w' : World} {X : Nat → Prop} {TT : Nat → Option Tb} (h : SysT w X TT) (hk : ∀ i, i < w.heap.size → X i → w'.heap[i]? = w.heap[i]?) : SysT w' X TT := by
  obtain ⟨G, hG⟩ := h
  exact ⟨G, hG.kept hk⟩
theorem SysG.below {w w' : World} {X : Nat → Prop} {G : Lay} {TT : Nat → Option Tb} (h : SysG w X G TT) (hb : Below w.heap.size w w') : SysG w' X G TT := h.kept fun i hi _ => hb.block i hi
theorem SysT.below {w w' : World} {X : Nat → Prop} {TT : Nat → Option Tb} (h : SysT w X TT) (hb : Below w.heap.size w w') : SysT w' X TT := h.kept fun i hi _ => hb.block i hi
theorem SysG.more {w : World} {X Y : Nat → Prop} {G : Lay} {TT : Nat → Option Tb} (h : SysG w X G TT) (hk : ∀ i, X i → Y i) : SysG w Y G TT := by
  intro b T hT
  obtain ⟨h1, h2, h3, h4, h5⟩ := h b T hT
  refine ⟨hk _ h1, h2, h3, h4, fun e he => ?_⟩
  obtain ⟨hx, ho, A, n, c, hb, hy, hg⟩ := h5 e he
  exact ⟨hk _ hx, ho, A, n, c, hb, hy, fun g hA => ⟨hk _ (hg g hA).1, (hg g hA).2⟩⟩
theorem SysT.more {w : World} {X Y : Nat → Prop} {TT : Nat → Option Tb} (h : SysT w X TT) (hk : ∀ i, X i → Y i) : SysT w Y TT := by
  obtain ⟨G, hG⟩ := h
  exact ⟨G, hG.more hk⟩
theorem SysT.sub {w : World} {X : Nat → Prop} {TT TT' : Nat → Option Tb} (h : SysT w X TT) (hk : ∀ b T, TT' b = some T → TT b = some T) : SysT w X TT' := by
  obtain ⟨G, hG⟩ := h
  exact ⟨G, fun b T hT => hG b T (hk b T hT)⟩
theorem SysG.tab {w : World} {X : Nat → Prop} {G : Lay} {TT : Nat → Option Tb} {b : Nat} {T : Tb} (h : SysG w X G TT) (hT : TT b = some T) : Tab w b (G.tab b) := (h b T hT).2.1
theorem SysG.get {w : World} {X : Nat → Prop} {G : Lay} {TT : Nat → Option Tb} {b : Nat} {T : Tb} (h : SysG w X G TT) (hT : TT b = some T) (k : Nm) : fi.get k T = (fi.get k (G.tab b)).map G.cont := by
  rw [(h b T hT).2.2.2.1]
  exact get_map G.cont k (G.tab b)
theorem SysG.keyed {w : World} {X : Nat → Prop} {G : Lay} {TT : Nat → Option Tb} {b : Nat} {T : Tb} (h : SysG w X G TT) (hT : TT b = some T) : Rising T := by
  rw [(h b T hT).2.2.2.1]
  exact rising_map (h.tab hT).rising
theorem SysT.rising {w : World} {X : Nat → Prop} {TT : Nat → Option Tb} {b : Nat} {T : Tb} (h : SysT w X TT) (hT : TT b = some T) : Rising T := by
  obtain ⟨G, hG⟩ := h
  exact hG.keyed hT
theorem SysT.look_none {w : World} {X : Nat → Prop} {TT : Nat → Option Tb} {b : Nat} {T : Tb} (h : SysT w X TT) (hT : TT b = some T) {k : Nm} (hk : k.length ≤ maxLen) (hn : fi.get k T = none) :
    (Instr.lookup 66 (.map (some b)) (.string (str k)) false).run Tryz.prog w = .ok (.pointer none) w := by
  obtain ⟨G, hG⟩ := h
  have h1 := (hG.tab hT).look hk
  rw [hG.get hT] at hn
  rw [h1, Option.map_eq_none_iff.1 hn]
  rfl
/-- The file that stands at k. -/
theorem SysG.file {w : World} {X : Nat → Prop} {G : Lay} {TT : Nat → Option Tb} {b : Nat} {T : Tb} (h : SysG w X G TT) (hT : TT b = some T) {k : Nm} {f : Fl} (hf : fi.get k T = some f) :
    ∃ p A n c, fi.get k (G.tab b) = some p ∧ X p ∧ BlkF w p A n c f.2 ∧ Byt w A n c f.1 ∧ G.cont p = f ∧ ∀ g, A = some ⟨g, 0, none⟩ → X g ∧ n ≤ G.len g ∧ (c = n ∨ (n = G.len g ∧ G.tail g = p)) := by
  rw [h.get hT] at hf
  obtain ⟨p, hp, rfl⟩ := Option.map_eq_some_iff.1 hf
  obtain ⟨hx, ho, A, n, c, hb, hy, hg⟩ := (h b T hT).2.2.2.2 (k, p) (get_some hp)
  exact ⟨p, A, n, c, hp, hx, hb, hy, rfl, hg⟩

theorem tabs_ne {w : World} {b p : Nat} {L : List (Nm × Nat)} {A : Option Addr} {n c : Nat} {d : Bool} (h : Tab w b L) (hp : BlkF w p A n c d) : p ≠ b := by
  rintro rfl
  obtain ⟨es, cl, he⟩ := h.is
  unfold BlkF at hp
  rw [he] at hp
  cases hp
theorem bytes_ne {w : World} {g p : Nat} {cur : Array Value} {A : Option Addr} {n c : Nat} {d : Bool} (h : w.heap[g]? = some (.cells cur 5 (0, 0))) (hp : BlkF w p A n c d) : p ≠ g := by
  rintro rfl
  unfold BlkF at hp
  rw [h] at hp
  simp at hp
theorem tab_bytes_ne {w : World} {b g : Nat} {L : List (Nm × Nat)} {cur : Array Value} (h : Tab w b L) (hg : w.heap[g]? = some (.cells cur 5 (0, 0))) : g ≠ b := by
  rintro rfl
  obtain ⟨es, cl, he⟩ := h.is
  rw [he] at hg
  cases hg

theorem apart_eq {α β : Type} : ∀ {l : List (α × β)}, l.Pairwise (fun p q => p.2 ≠ q.2) → ∀ {x y : α × β}, x ∈ l → y ∈ l → x.2 = y.2 → x = y
  | [], _, _, _, hx, _, _ => by simp at hx
  | a :: r, h, x, y, hx, hy, e => by
    obtain ⟨h1, h2⟩ := List.pairwise_cons.1 h
    rcases List.mem_cons.1 hx with rfl | hx'
    · rcases List.mem_cons.1 hy with rfl | hy'
      · rfl
      · exact absurd e (h1 y hy')
    · rcases List.mem_cons.1 hy with rfl | hy'
      · exact absurd e.symm (h1 x hx')
      · exact apart_eq h2 hx' hy' e

/-- A file that stands at k is written: to a row of its own, or to the row that it had. -/
theorem SysG.write {w w' : World} {X : Nat → Prop} {G : Lay} {TT : Nat → Option Tb} {b : Nat} {T : Tb} (h : SysG w X G TT) (hT : TT b = some T) {k : Nm} {p : Nat} {A : Option Addr} {n c : Nat} {d : Bool} (hp : fi.get k (G.tab b) = some p)
    (hbp : BlkF w p A n c d) {A' : Option Addr} {n' c' : Nat} {f' : Fl} (hbp' : BlkF w' p A' n' c' f'.2) (hy' : Byt w' A' n' c' f'.1)
    (G' : Lay) (hG1 : G'.tab = G.tab) (hG2 : G'.own = G.own) (hG3 : ∀ q, q ≠ p → G'.cont q = G.cont q) (hG4 : G'.cont p = f')
    (hx' : ∀ g, A' = some ⟨g, 0, none⟩ → ext X w w' g ∧ n' ≤ G'.len g ∧ (c' = n' ∨ (n' = G'.len g ∧ G'.tail g = p)))
    (hkeep : ∀ i, i < w.heap.size → i ≠ p → X i → ((∃ cs, w.heap[i]? = some (.cells cs 5 (0, 0))) ∨ w'.heap[i]? = w.heap[i]?))
    (hrows : ∀ q, q ≠ p → ∀ Aq nq cq lq, BlkF w q Aq nq cq (G.cont q).2 → Byt w Aq nq cq lq → (∀ g, Aq = some ⟨g, 0, none⟩ → X g ∧ nq ≤ G.len g ∧ (cq = nq ∨ (nq = G.len g ∧ G.tail g = q))) →
      Byt w' Aq nq cq lq ∧ ∀ g, Aq = some ⟨g, 0, none⟩ → nq ≤ G'.len g ∧ (cq = nq ∨ (nq = G'.len g ∧ G'.tail g = q))) :
    SysG w' (ext X w w') G' (upd TT b (fi.mod k (fun _ => f') T)) := by
  have hmem := get_some hp
  have htab0 := h b T hT
  intro b2 T2 hT2
  have hT1 : ∃ T1, TT b2 = some T1 := by
    by_cases e : b2 = b
    · subst e; exact ⟨T, hT⟩
    · rw [upd_other _ _ e] at hT2; exact ⟨T2, hT2⟩
  obtain ⟨T1, hT1⟩ := hT1
  obtain ⟨h1, h2, h3, h4, h5⟩ := h b2 T1 hT1
  have hTab : Tab w' b2 (G'.tab b2) := by
    rw [hG1]
    obtain ⟨es, cl, hes⟩ := h2.is
    rcases hkeep b2 (lt_of_block hes) (Ne.symm (tabs_ne h2 hbp)) h1 with ⟨cs, hcs⟩ | hk
    · rw [hes] at hcs; cases hcs
    · exact h2.kept hk
  refine ⟨ext_old h1, hTab, by rw [hG1]; exact h3, ?_, fun e he => ?_⟩
  · rw [hG1]
    by_cases e : b2 = b
    · subst e
      rw [upd_same] at hT2
      cases hT2
      rw [hT] at hT1
      cases hT1
      rw [h4]
      unfold fi.mod
      rw [List.map_map]
      refine List.map_congr_left fun e he => ?_
      have hap := h2.apart
      simp only [Function.comp]
      by_cases hk : e.1 = k
      · have : e.2 = p := by
          have := get_of_mem (k := e.1) (v := e.2) hap he
          rw [hk, hp] at this
          exact (Option.some.inj this).symm
        rw [if_pos hk, this, hG4]
      · have : e.2 ≠ p := fun e2 => by
          exact hk (congrArg Prod.fst (apart_eq h3 he hmem e2))
        rw [if_neg hk, hG3 _ this]
    · rw [upd_other _ _ e, hT1] at hT2
      cases hT2
      rw [h4]
      refine List.map_congr_left fun e1 he => ?_
      have : e1.2 ≠ p := fun e2 => by
        have a1 := (h5 e1 he).2.1
        have a2 := (htab0.2.2.2.2 _ hmem).2.1
        rw [e2] at a1
        exact e (a1.symm.trans a2)
      rw [hG3 _ this]
  · rw [hG1] at he
    obtain ⟨hx, ho, Aq, nq, cq, hb, hy, hg⟩ := h5 e he
    by_cases hq : e.2 = p
    · rw [hq] at ho ⊢
      refine ⟨ext_old (by rw [← hq]; exact hx), by rw [hG2]; exact ho, A', n', c', by rw [hG4]; exact hbp', by rw [hG4]; exact hy', hx'⟩
    · obtain ⟨r1, r2⟩ := hrows e.2 hq Aq nq cq _ hb hy hg
      have hb' : BlkF w' e.2 Aq nq cq (G.cont e.2).2 := by
        rcases hkeep e.2 (lt_of_block hb) hq hx with ⟨cs, hcs⟩ | hk
        · exact absurd rfl (bytes_ne hcs hb)
        · exact hk.trans hb
      exact ⟨ext_old hx, by rw [hG2]; exact ho, Aq, nq, cq, by rw [hG3 _ hq]; exact hb', by rw [hG3 _ hq]; exact r1, fun g hA => ⟨ext_old (hg g hA).1, r2 g hA⟩⟩

def put1 {α : Type} (f : Nat → α) (i : Nat) (v : α) : Nat → α := fun j => if j = i then v else f j
theorem put1_same {α : Type} (f : Nat → α) (i : Nat) (v : α) : put1 f i v i = v := by simp [put1]
theorem put1_other {α : Type} (f : Nat → α) {i j : Nat} (v : α) (h : j ≠ i) : put1 f i v j = f j := by simp [put1, h]

/-- .. to a new row. -/
theorem SysG.write_new {w w' : World} {X : Nat → Prop} {G : Lay} {TT : Nat → Option Tb} {b : Nat} {T : Tb} (h : SysG w X G TT) (hT : TT b = some T) {k : Nm} {p : Nat} {A : Option Addr} {n c : Nat} {d : Bool} (hp : fi.get k (G.tab b) = some p)
    (hbp : BlkF w p A n c d) {g' n' c' : Nat} {f' : Fl} (hbp' : BlkF w' p (some ⟨g', 0, none⟩) n' c' f'.2) (hy' : Byt w' (some ⟨g', 0, none⟩) n' c' f'.1) (hnew : w.heap.size ≤ g')
    (hkeep : ∀ i, i < w.heap.size → i ≠ p → w'.heap[i]? = w.heap[i]?) :
    SysT w' (ext X w w') (upd TT b (fi.mod k (fun _ => f') T)) := by
  obtain ⟨cur, hcur, _⟩ := hy'.lt rfl
  refine ⟨{ G with cont := put1 G.cont p f', len := put1 G.len g' n', tail := put1 G.tail g' p }, h.write hT hp hbp hbp' hy' _ rfl rfl (fun q hq => put1_other _ _ hq) (put1_same _ _ _) (fun g hg => ?_) (fun i hi hne _ => .inr (hkeep i hi hne)) (fun q hq Aq nq cq lq hb hy hg => ?_)⟩
  · cases hg
    exact ⟨.inr ⟨hnew, lt_of_block hcur⟩, by simp [put1], .inr (by simp [put1])⟩
  · have hrow : ∀ g, Aq = some ⟨g, 0, none⟩ → g < w.heap.size := fun g hA => by obtain ⟨cur, hc, _⟩ := hy.lt hA; exact lt_of_block hc
    refine ⟨hy.kept fun g hA hlt => hkeep g hlt fun e => ?_, fun g hA => ?_⟩
    · subst e
      obtain ⟨cur, hc, _⟩ := hy.lt hA
      exact absurd rfl (bytes_ne hc hbp)
    · have := hrow g hA
      show nq ≤ put1 G.len g' n' g ∧ _
      rw [put1_other _ _ (by omega)]
      refine ⟨(hg g hA).2.1, ?_⟩
      show cq = nq ∨ (nq = put1 G.len g' n' g ∧ put1 G.tail g' p g = q)
      rw [put1_other _ _ (by omega), put1_other _ _ (by omega)]
      exact (hg g hA).2.2

/-- .. to the row that it had: behind its bytes, or less of them. -/
theorem SysG.write_same {w w' : World} {X : Nat → Prop} {G : Lay} {TT : Nat → Option Tb} {b : Nat} {T : Tb} (h : SysG w X G TT) (hT : TT b = some T) {k : Nm} {p : Nat} {A : Option Addr} {n c : Nat} {d : Bool} (hp : fi.get k (G.tab b) = some p)
    (hbp : BlkF w p A n c d) (hA : ∀ g, A = some ⟨g, 0, none⟩ → X g ∧ n ≤ G.len g ∧ (c = n ∨ (n = G.len g ∧ G.tail g = p)))
    {n' c' : Nat} {f' : Fl} (hbp' : BlkF w' p A n' c' f'.2) (hy' : Byt w' A n' c' f'.1)
    (hkeep : ∀ i, i < w.heap.size → i ≠ p → (∀ g, A = some ⟨g, 0, none⟩ → i ≠ g) → w'.heap[i]? = w.heap[i]?)
    (hrow : ∀ g cur, A = some ⟨g, 0, none⟩ → w.heap[g]? = some (.cells cur 5 (0, 0)) → ∃ cur', w'.heap[g]? = some (.cells cur' 5 (0, 0)) ∧ cur'.size = cur.size ∧ ∀ m, m ≤ G.len g → cur'.toList.take m = cur.toList.take m)
    (hn : (c' = n' ∧ n' ≤ n) ∨ (c' = c ∧ n ≤ n' ∧ (n < c ∨ n' = n))) :
    SysT w' (ext X w w') (upd TT b (fi.mod k (fun _ => f') T)) := by
  have hlen : ∃ L : Nat → Nat, (∀ g, A ≠ some ⟨g, 0, none⟩ → L g = G.len g) ∧ ∀ g, A = some ⟨g, 0, none⟩ → G.len g ≤ L g ∧ n' ≤ L g ∧ (c' = n' ∨ (n' = L g ∧ G.tail g = p)) ∧ (G.len g = L g ∨ G.tail g = p) := by
    rcases hn with ⟨h1, h2⟩ | ⟨h1, h2, h3⟩
    · exact ⟨G.len, fun _ _ => rfl, fun g hg => ⟨Nat.le_refl _, Nat.le_trans h2 (hA g hg).2.1, .inl h1, .inl rfl⟩⟩
    · by_cases e : n' = n
      · subst e
        refine ⟨G.len, fun _ _ => rfl, fun g hg => ⟨Nat.le_refl _, (hA g hg).2.1, ?_, .inl rfl⟩⟩
        rw [h1]
        exact (hA g hg).2.2
      · have h4 : n < c := by rcases h3 with h3 | h3 <;> omega
        by_cases hex : ∃ g, A = some ⟨g, 0, none⟩
        · obtain ⟨g, hg⟩ := hex
          have hx := (hA g hg).2.2
          have hx2 : n = G.len g ∧ G.tail g = p := by rcases hx with hx | hx; · omega
                                                      · exact hx
          refine ⟨put1 G.len g n', fun g2 hg2 => put1_other _ _ (fun e2 => hg2 (by rw [e2]; exact hg)), fun g2 hg2 => ?_⟩
          have : g2 = g := by rw [hg] at hg2; cases hg2; rfl
          subst this
          rw [put1_same]
          exact ⟨by omega, Nat.le_refl _, .inr ⟨rfl, hx2.2⟩, .inr hx2.2⟩
        · exact ⟨G.len, fun _ _ => rfl, fun g hg => absurd ⟨g, hg⟩ hex⟩
  obtain ⟨L, hL1, hL2⟩ := hlen
  refine ⟨{ G with cont := put1 G.cont p f', len := L }, h.write hT hp hbp hbp' hy' _ rfl rfl (fun q hq => put1_other _ _ hq) (put1_same _ _ _) (fun g hg => ⟨ext_old (hA g hg).1, (hL2 g hg).2.1, (hL2 g hg).2.2.1⟩) (fun i hi hne hXi => ?_) (fun q hq Aq nq cq lq hb hy hg => ?_)⟩
  · by_cases hi2 : ∃ g, A = some ⟨g, 0, none⟩ ∧ i = g
    · obtain ⟨g, hg, rfl⟩ := hi2
      by_cases hcu : ∃ cs, w.heap[i]? = some (.cells cs 5 (0, 0))
      · exact .inl hcu
      · rcases hy'.2.2.2 with ⟨e, _⟩ | ⟨g3, cur3, e3, h3, _⟩
        · rw [hg] at e; cases e
        · -- the row was one of bytes ahead of the step, too: its file said so
          obtain ⟨hx, ho, A0, n0, c0, hb0, hy0, _⟩ := (h b T hT).2.2.2.2 (k, p) (get_some hp)
          have : A0 = A := by unfold BlkF at hb0 hbp; rw [hbp] at hb0; simp at hb0; exact hb0.1.1.symm
          subst this
          obtain ⟨cur, hc, _⟩ := hy0.lt hg
          exact absurd ⟨cur, hc⟩ hcu
    · exact .inr (hkeep i hi hne fun g hg e => hi2 ⟨g, hg, e⟩)
  · refine ⟨?_, fun g hAq => ?_⟩
    · rcases hy.2.2.2 with hno | ⟨g, cur, rfl, hcur, hcs, htk⟩
      · exact ⟨hy.1, hy.2.1, hy.2.2.1, .inl hno⟩
      · by_cases e : A = some ⟨g, 0, none⟩
        · obtain ⟨cur', h1, h2, h3⟩ := hrow g cur e hcur
          exact ⟨hy.1, hy.2.1, hy.2.2.1, .inr ⟨g, cur', rfl, h1, by omega, by rw [h3 _ (hg g rfl).2.1]; exact htk⟩⟩
        · refine hy.kept fun g2 hg2 hlt => hkeep g2 hlt ?_ fun g3 hg3 e3 => e ?_
          · cases hg2
            exact Ne.symm (bytes_ne hcur hbp)
          · cases hg2
            rw [hg3, e3]
    · by_cases e : A = some ⟨g, 0, none⟩
      · obtain ⟨l1, l2, l3, l4⟩ := hL2 g e
        refine ⟨Nat.le_trans (hg g hAq).2.1 l1, ?_⟩
        rcases (hg g hAq).2.2 with h1 | ⟨h1, h2⟩
        · exact .inl h1
        · rcases l4 with l4 | l4
          · exact .inr ⟨by rw [h1, l4], h2⟩
          · exact absurd (h2.symm.trans l4) hq
      · show nq ≤ L g ∧ (cq = nq ∨ (nq = L g ∧ G.tail g = q))
        rw [hL1 g e]
        exact (hg g hAq).2
end Go.Proofs.YtmaohncddjhgeaaGreat.gn
end
section
set_option linter.unusedVariables false
namespace Go.Proofs.YtmaohncddjhgeaaGreat.gn
open Go.RowKit
open Go.Proofs.YtmaohncddjhgeaaGreat.fi

theorem SysT.lt {w : World} {X : Nat → Prop} {TT : Nat → Option Tb} {b : Nat} {T : Tb} (h : SysT w X TT) (hT : TT b = some T) : b < w.heap.size ∧ X b := by
  obtain ⟨G, hG⟩ := h
  obtain ⟨es, cl, he⟩ := (hG.tab hT).is
  exact ⟨lt_of_block he, (hG b T hT).1⟩
theorem SysG.blk_lt {w : World} {X : Nat → Prop} {G : Lay} {TT : Nat → Option Tb} {b : Nat} {T : Tb} (h : SysG w X G TT) (hT : TT b = some T) : ∀ e ∈ G.tab b, e.2 < w.heap.size := by
  intro e he
  obtain ⟨_, _, A, n, c, hb, _⟩ := (h b T hT).2.2.2.2 e he
  exact lt_of_block hb
theorem SysG.len {w : World} {X : Nat → Prop} {G : Lay} {TT : Nat → Option Tb} {b : Nat} {T : Tb} (h : SysG w X G TT) (hT : TT b = some T) : (G.tab b).length = T.length := by
  rw [(h b T hT).2.2.2.1, List.length_map]

/-- The other tables behind a step that turned table b, and new blocks, alone. -/
theorem SysG.others {w w' : World} {X : Nat → Prop} {G G' : Lay} {TT : Nat → Option Tb} (h : SysG w X G TT) {b : Nat} (hb : ∃ es cl, w.heap[b]? = some (.map es cl)) (hk : ∀ i, i < w.heap.size → i ≠ b → w'.heap[i]? = w.heap[i]?)
    (h1 : ∀ i, i < w.heap.size → i ≠ b → G'.tab i = G.tab i) (h2 : ∀ q, q < w.heap.size → G'.cont q = G.cont q) (h3 : ∀ q, q < w.heap.size → G'.own q = G.own q) (h4 : G'.len = G.len) (h5 : G'.tail = G.tail)
    {b2 : Nat} {T2 : Tb} (hT2 : TT b2 = some T2) (hne : b2 ≠ b) : TabOk w' (ext X w w') G' b2 T2 := by
  obtain ⟨t1, t2, t3, t4, t5⟩ := h b2 T2 hT2
  obtain ⟨es, cl, hes⟩ := t2.is
  have hlt := lt_of_block hes
  refine ⟨ext_old t1, ?_, ?_, ?_, ?_⟩ <;> rw [h1 b2 hlt hne]
  · exact t2.kept (hk b2 hlt hne)
  · exact t3
  · rw [t4]
    exact List.map_congr_left fun e he => by rw [h2 _ (h.blk_lt hT2 e he)]
  · intro e he
    obtain ⟨hx, ho, A, n, c, hbk, hy, hg⟩ := t5 e he
    have hq := lt_of_block hbk
    obtain ⟨es', cl', hb'⟩ := hb
    have hpb : e.2 ≠ b := by
      rintro rfl
      unfold BlkF at hbk
      rw [hb'] at hbk
      cases hbk
    have hyk : Byt w' A n c (G.cont e.2).1 := hy.kept fun g hA hlt2 => hk g hlt2 fun e2 => by
      subst e2
      obtain ⟨cur, hc, _⟩ := hy.lt hA
      rw [hb'] at hc
      cases hc
    refine ⟨ext_old hx, by rw [h3 _ hq]; exact ho, A, n, c, by rw [h2 _ hq]; exact (hk _ hq hpb).trans hbk, by rw [h2 _ hq]; exact hyk, fun g hA => ?_⟩
    rw [h4, h5]
    exact ⟨ext_old (hg g hA).1, (hg g hA).2⟩
/-- .. and the files of table b itself that stand there as they stood. -/
theorem SysG.stays {w w' : World} {X : Nat → Prop} {G G' : Lay} {TT : Nat → Option Tb} (h : SysG w X G TT) {b : Nat} {T : Tb} (hT : TT b = some T) (hk : ∀ i, i < w.heap.size → i ≠ b → w'.heap[i]? = w.heap[i]?)
    (h2 : ∀ q, q < w.heap.size → G'.cont q = G.cont q) (h3 : ∀ q, q < w.heap.size → G'.own q = G.own q) (h4 : G'.len = G.len) (h5 : G'.tail = G.tail) {e : Nm × Nat} (he : e ∈ G.tab b) : FileOk w' (ext X w w') G' b e.2 := by
  obtain ⟨t1, t2, t3, t4, t5⟩ := h b T hT
  obtain ⟨hx, ho, A, n, c, hbk, hy, hg⟩ := t5 e he
  have hq := lt_of_block hbk
  obtain ⟨es', cl', hb'⟩ := t2.is
  have hpb : e.2 ≠ b := tabs_ne t2 hbk
  have hyk : Byt w' A n c (G.cont e.2).1 := hy.kept fun g hA hlt2 => hk g hlt2 fun e2 => by
    subst e2
    obtain ⟨cur, hc, _⟩ := hy.lt hA
    rw [hb'] at hc
    cases hc
  refine ⟨ext_old hx, by rw [h3 _ hq]; exact ho, A, n, c, by rw [h2 _ hq]; exact (hk _ hq hpb).trans hbk, by rw [h2 _ hq]; exact hyk, fun g hA => ?_⟩
  rw [h4, h5]
  exact ⟨ext_old (hg g hA).1, (hg g hA).2⟩

theorem pair_del {L : List (Nm × Nat)} (h : L.Pairwise fun p q => p.2 ≠ q.2) (k : Nm) : (fi.del k L).Pairwise fun p q => p.2 ≠ q.2 := h.filter _
theorem pair_put {L : List (Nm × Nat)} (h : L.Pairwise fun p q => p.2 ≠ q.2) (k : Nm) {p : Nat} (hp : ∀ e ∈ fi.del k L, e.2 ≠ p) : (fi.put k p L).Pairwise fun p q => p.2 ≠ q.2 := by
  unfold fi.put
  rw [(fi.ins_perm _ _).pairwise_iff (fun {a b} (h : a.2 ≠ b.2) => h.symm)]
  exact List.pairwise_cons.2 ⟨fun q hq => (hp q hq).symm, pair_del h k⟩
theorem mem_put {V : Type} {k : Nm} {v : V} {l : List (Nm × V)} {z : Nm × V} (h : z ∈ fi.put k v l) : z = (k, v) ∨ (z ∈ l ∧ z.1 ≠ k) := by
  rcases mem_ins.1 h with h | h
  · exact .inl h
  · exact .inr (mem_del.1 h)

/-- A file of its own, in a new block p, at the name k. -/
theorem SysG.add {w w1 : World} {X : Nat → Prop} {G : Lay} {TT : Nat → Option Tb} {b : Nat} {T : Tb} (h : SysG w X G TT) (hT : TT b = some T) (hw : Below w.heap.size w w1) {p : Nat} (hp : w.heap.size ≤ p) {A : Option Addr} {n : Nat} {f : Fl}
    (hb : BlkF w1 p A n n f.2) (hy : Byt w1 A n n f.1) (hA : ∀ g, A = some ⟨g, 0, none⟩ → X g ∧ n ≤ G.len g) {k : Nm} (hk : k.length ≤ maxLen) (hl : T.length < maxLen) :
    ∃ w2, (Instr.mapUpdate 66 (.map (some b)) (.string (str k)) (.pointer (some ⟨p, 0, none⟩))).run Tryz.prog w1 = .ok () w2 ∧ w1.grownBy w2 (some b) ∧ SysT w2 (ext X w w2) (upd TT b (fi.put k f T)) := by
  have ht := h.tab hT
  obtain ⟨es, cl, hes⟩ := ht.is
  have hbl := lt_of_block hes
  obtain ⟨w2, hrun, ht2, hg2⟩ := (ht.kept (hw.block b hbl)).put hk (by rw [h.len hT]; exact hl) p
  have hpl := lt_of_block hb
  have hk2 : ∀ i, i < w.heap.size → i ≠ b → w2.heap[i]? = w.heap[i]? := fun i hi hne => (hg2.block i (Nat.lt_of_lt_of_le hi hw.size) (fun e => hne (Option.some.inj e))).trans (hw.block i hi)
  have hpb : p ≠ b := by omega
  have e2 : ∀ q, q < w.heap.size → put1 G.cont p f q = G.cont q := fun q hq => put1_other _ _ (by omega)
  have e3 : ∀ q, q < w.heap.size → put1 G.own p b q = G.own q := fun q hq => put1_other _ _ (by omega)
  refine ⟨w2, hrun, hg2, { G with tab := put1 G.tab b (fi.put k p (G.tab b)), cont := put1 G.cont p f, own := put1 G.own p b }, fun b2 T2 hT2 => ?_⟩
  by_cases e : b2 = b
  · subst e
    rw [upd_same] at hT2
    cases hT2
    obtain ⟨t1, t2, t3, t4, t5⟩ := h b2 T hT
    refine ⟨ext_old t1, ?_, ?_, ?_, fun z hz => ?_⟩
    · show Tab w2 b2 (put1 G.tab b2 _ b2)
      rw [put1_same]
      exact ht2
    · show (put1 G.tab b2 _ b2).Pairwise _
      rw [put1_same]
      exact pair_put t3 k fun z hz => by have := h.blk_lt hT z (mem_del.1 hz).1; omega
    · show _ = (put1 G.tab b2 _ b2).map _
      rw [put1_same]
      show _ = (fi.put k p (G.tab b2)).map fun e => (e.1, put1 G.cont p f e.2)
      have e5 : T = (G.tab b2).map fun e => (e.1, put1 G.cont p f e.2) := by
        rw [t4]
        exact List.map_congr_left fun z hz => by rw [e2 _ (h.blk_lt hT z hz)]
      rw [put_map (put1 G.cont p f), put1_same, ← e5]
    · have hz' : z ∈ fi.put k p (G.tab b2) := by
        have : z ∈ put1 G.tab b2 (fi.put k p (G.tab b2)) b2 := hz
        rwa [put1_same] at this
      rcases mem_put hz' with rfl | ⟨hz1, _⟩
      · refine ⟨.inr ⟨hp, Nat.lt_of_lt_of_le hpl hg2.size⟩, by simp [put1], A, n, n, ?_, ?_, fun g hg => ⟨ext_old (hA g hg).1, (hA g hg).2, .inl rfl⟩⟩
        · show BlkF w2 p A n n (put1 G.cont p f p).2
          rw [put1_same]
          exact (hg2.block p hpl (fun e => hpb (Option.some.inj e))).trans hb
        · show Byt w2 A n n (put1 G.cont p f p).1
          rw [put1_same]
          refine hy.kept fun g hg hlt => hg2.block g hlt fun e => ?_
          cases e
          obtain ⟨cur, hc, _⟩ := hy.lt hg
          rw [hw.block b2 hbl, hes] at hc
          cases hc
      · exact h.stays (G' := { G with tab := put1 G.tab b2 (fi.put k p (G.tab b2)), cont := put1 G.cont p f, own := put1 G.own p b2 }) hT hk2 e2 e3 rfl rfl hz1
  · rw [upd_other _ _ e] at hT2
    exact h.others (G' := { G with tab := put1 G.tab b (fi.put k p (G.tab b)), cont := put1 G.cont p f, own := put1 G.own p b }) ⟨es, cl, hes⟩ hk2 (fun i _ hi => put1_other _ _ hi) e2 e3 rfl rfl hT2 e

/-- A name less. -/
theorem SysT.drop {w : World} {X : Nat → Prop} {TT : Nat → Option Tb} {b : Nat} {T : Tb} (h : SysT w X TT) (hT : TT b = some T) {k : Nm} (hk : k.length ≤ maxLen) (ty : TypeId) :
    ∃ w2, (Builtin.delete_ #[66, 9] ty #[.map (some b), .string (str k)]).run Tryz.prog w = .ok (.tuple #[]) w2 ∧ w.grownBy w2 (some b) ∧ SysT w2 (ext X w w2) (upd TT b (fi.del k T)) := by
  obtain ⟨G, h⟩ := h
  have ht := h.tab hT
  obtain ⟨es, cl, hes⟩ := ht.is
  have hbl := lt_of_block hes
  obtain ⟨w2, hrun, ht2, hg2⟩ := ht.del hk ty
  have hk2 : ∀ i, i < w.heap.size → i ≠ b → w2.heap[i]? = w.heap[i]? := fun i hi hne => hg2.block i hi (fun e => hne (Option.some.inj e))
  refine ⟨w2, hrun, hg2, { G with tab := put1 G.tab b (fi.del k (G.tab b)) }, fun b2 T2 hT2 => ?_⟩
  by_cases e : b2 = b
  · subst e
    rw [upd_same] at hT2
    cases hT2
    obtain ⟨t1, t2, t3, t4, t5⟩ := h b2 T hT
    refine ⟨ext_old t1, ?_, ?_, ?_, fun z hz => ?_⟩
    · show Tab w2 b2 (put1 G.tab b2 _ b2)
      rw [put1_same]
      exact ht2
    · show (put1 G.tab b2 _ b2).Pairwise _
      rw [put1_same]
      exact pair_del t3 k
    · show _ = (put1 G.tab b2 _ b2).map _
      rw [put1_same, t4]
      exact (del_map G.cont k (G.tab b2)).symm
    · have hz' : z ∈ fi.del k (G.tab b2) := by
        have : z ∈ put1 G.tab b2 (fi.del k (G.tab b2)) b2 := hz
        rwa [put1_same] at this
      exact h.stays hT hk2 (fun _ _ => rfl) (fun _ _ => rfl) rfl rfl (mem_del.1 hz').1
  · rw [upd_other _ _ e] at hT2
    exact h.others (G' := { G with tab := put1 G.tab b (fi.del k (G.tab b)) }) ⟨es, cl, hes⟩ hk2 (fun i _ hi => put1_other _ _ hi) (fun _ _ => rfl) (fun _ _ => rfl) rfl rfl hT2 e

/-- Another name: the file that stands at k1 is taken away, and laid at k2. -/
theorem SysG.move {w : World} {X : Nat → Prop} {G : Lay} {TT : Nat → Option Tb} {b : Nat} {T : Tb} (h : SysG w X G TT) (hT : TT b = some T) {k1 k2 : Nm} (hk1 : k1.length ≤ maxLen) (hk2 : k2.length ≤ maxLen) (hl : T.length < maxLen) (ty : TypeId)
    {p : Nat} (hp : fi.get k1 (G.tab b) = some p) :
    ∃ w1 w2, (Builtin.delete_ #[66, 9] ty #[.map (some b), .string (str k1)]).run Tryz.prog w = .ok (.tuple #[]) w1 ∧ w.grownBy w1 (some b) ∧
      (Instr.mapUpdate 66 (.map (some b)) (.string (str k2)) (.pointer (some ⟨p, 0, none⟩))).run Tryz.prog w1 = .ok () w2 ∧ w1.grownBy w2 (some b) ∧ SysT w2 (ext X w w2) (upd TT b (renT k1 k2 T)) := by
  have ht := h.tab hT
  obtain ⟨es, cl, hes⟩ := ht.is
  have hbl := lt_of_block hes
  obtain ⟨w1, hrun1, ht1, hg1⟩ := ht.del hk1 ty
  obtain ⟨w2, hrun2, ht2, hg2⟩ := ht1.put hk2 (Nat.lt_of_le_of_lt (del_length k1) (by rw [h.len hT]; exact hl)) p
  have hkk : ∀ i, i < w.heap.size → i ≠ b → w2.heap[i]? = w.heap[i]? := fun i hi hne =>
    (hg2.block i (Nat.lt_of_lt_of_le hi hg1.size) (fun e => hne (Option.some.inj e))).trans (hg1.block i hi (fun e => hne (Option.some.inj e)))
  have hr : renT k1 k2 T = fi.put k2 (G.cont p) (fi.del k1 T) := by
    have : fi.get k1 T = some (G.cont p) := by rw [h.get hT, hp]; rfl
    simp only [renT, this]
  rw [hr]
  refine ⟨w1, w2, hrun1, hg1, hrun2, hg2, { G with tab := put1 G.tab b (fi.put k2 p (fi.del k1 (G.tab b))) }, fun b2 T2 hT2 => ?_⟩
  by_cases e : b2 = b
  · subst e
    rw [upd_same] at hT2
    cases hT2
    obtain ⟨t1, t2, t3, t4, t5⟩ := h b2 T hT
    refine ⟨ext_old t1, ?_, ?_, ?_, fun z hz => ?_⟩
    · show Tab w2 b2 (put1 G.tab b2 _ b2)
      rw [put1_same]
      exact ht2
    · show (put1 G.tab b2 _ b2).Pairwise _
      rw [put1_same]
      refine pair_put (pair_del t3 k1) k2 fun z hz e2 => ?_
      have hz1 := mem_del.1 (mem_del.1 hz).1
      exact hz1.2 (congrArg Prod.fst (apart_eq t3 hz1.1 (get_some hp) e2))
    · show _ = (put1 G.tab b2 _ b2).map _
      rw [put1_same, t4]
      show _ = (fi.put k2 p (fi.del k1 (G.tab b2))).map fun e => (e.1, G.cont e.2)
      rw [put_map G.cont, del_map G.cont]
    · have hz' : z ∈ fi.put k2 p (fi.del k1 (G.tab b2)) := by
        have : z ∈ put1 G.tab b2 (fi.put k2 p (fi.del k1 (G.tab b2))) b2 := hz
        rwa [put1_same] at this
      rcases mem_put hz' with rfl | ⟨hz1, _⟩
      · exact h.stays (e := (k1, p)) hT hkk (fun _ _ => rfl) (fun _ _ => rfl) rfl rfl (get_some hp)
      · exact h.stays hT hkk (fun _ _ => rfl) (fun _ _ => rfl) rfl rfl (mem_del.1 hz1).1
  · rw [upd_other _ _ e] at hT2
    exact h.others (G' := { G with tab := put1 G.tab b (fi.put k2 p (fi.del k1 (G.tab b))) }) ⟨es, cl, hes⟩ hkk (fun i _ hi => put1_other _ _ hi) (fun _ _ => rfl) (fun _ _ => rfl) rfl rfl hT2 e

/-- A table more. -/
theorem SysT.made {w : World} {X : Nat → Prop} {TT : Nat → Option Tb} (h : SysT w X TT) : SysT (w.alloc (.map #[] 0)) (ext X w (w.alloc (.map #[] 0))) (upd TT w.heap.size []) := by
  obtain ⟨G, h⟩ := h
  have hb : Below w.heap.size w (w.alloc (.map #[] 0)) := (Below.refl _ w).alloc (Nat.le_refl _) _
  refine ⟨{ G with tab := put1 G.tab w.heap.size [] }, fun b2 T2 hT2 => ?_⟩
  by_cases e : b2 = w.heap.size
  · subst e
    rw [upd_same] at hT2
    cases hT2
    refine ⟨.inr ⟨Nat.le_refl _, by simp⟩, ?_, ?_, ?_, fun z hz => ?_⟩
    · show Tab _ w.heap.size (put1 G.tab _ _ _)
      rw [put1_same]
      exact Tab.new w
    · show (put1 G.tab _ _ _).Pairwise _
      rw [put1_same]
      exact .nil
    · show _ = (put1 G.tab _ _ _).map _
      rw [put1_same]
      rfl
    · have : z ∈ put1 G.tab w.heap.size [] w.heap.size := hz
      rw [put1_same] at this
      cases this
  · rw [upd_other _ _ e] at hT2
    obtain ⟨t1, t2, t3, t4, t5⟩ := (h.below hb) b2 T2 hT2
    refine ⟨ext_old t1, ?_, ?_, ?_, fun z hz => ?_⟩
    · show Tab _ b2 (put1 G.tab _ _ _)
      rw [put1_other _ _ e]
      exact t2
    · show (put1 G.tab _ _ _).Pairwise _
      rw [put1_other _ _ e]
      exact t3
    · show _ = (put1 G.tab _ _ _).map _
      rw [put1_other _ _ e]
      exact t4
    · have : z ∈ put1 G.tab w.heap.size [] b2 := hz
      rw [put1_other _ _ e] at this
      obtain ⟨hx, rest⟩ := t5 z this
      obtain ⟨ho, A, n, c, hbk, hy, hg⟩ := rest
      exact ⟨ext_old hx, ho, A, n, c, hbk, hy, fun g hA => ⟨ext_old (hg g hA).1, (hg g hA).2⟩⟩

/-! ### what a step on tables may turn -/
/-- Block i is one that tables are made of. -/
def TS (w : World) (i : Nat) : Prop := (∃ es c, w.heap[i]? = some (.map es c)) ∨ (∃ cs, w.heap[i]? = some (.cells cs 82 (0, 0))) ∨ ∃ cs, w.heap[i]? = some (.cells cs 5 (0, 0))
theorem SysG.keptT {w w' : World} {X : Nat → Prop} {G : Lay} {TT : Nat → Option Tb} (h : SysG w X G TT) (hk : ∀ i, i < w.heap.size → X i → TS w i → w'.heap[i]? = w.heap[i]?) : SysG w' X G TT := by
  intro b T hT
  obtain ⟨h1, h2, h3, h4, h5⟩ := h b T hT
  obtain ⟨es, cl, hes⟩ := h2.is
  refine ⟨h1, h2.kept (hk b (lt_of_block hes) h1 (.inl ⟨es, cl, hes⟩)), h3, h4, fun e he => ?_⟩
  obtain ⟨hx, ho, A, n, c, hb, hy, hg⟩ := h5 e he
  exact ⟨hx, ho, A, n, c, (hk e.2 (lt_of_block hb) hx (.inr (.inl ⟨_, hb⟩))).trans hb, hy.kept fun g hA hlt => by
    obtain ⟨cur, hc, _⟩ := hy.lt hA
    exact hk g hlt (hg g hA).1 (.inr (.inr ⟨cur, hc⟩)), hg⟩
theorem SysT.keptT {w w' : World} {X : Nat → Prop} {TT : Nat → Option Tb} (h : SysT w X TT) (hk : ∀ i, i < w.heap.size → X i → TS w i → w'.heap[i]? = w.heap[i]?) : SysT w' X TT := by
  obtain ⟨G, hG⟩ := h
  exact ⟨G, hG.keptT hk⟩
/-- w' is w but for blocks of X that tables are made of. -/
def OnlyT (X : Nat → Prop) (w w' : World) : Prop := Only (fun i => X i ∧ TS w i) w w'
theorem OnlyT.of_below {X : Nat → Prop} {w w' : World} (h : Below w.heap.size w w') : OnlyT X w w' := Only.of_below h
theorem OnlyT.trans {X : Nat → Prop} {a b c : World} (h : OnlyT X a b) (k : OnlyT (ext X a b) b c) : OnlyT X a c := by
  refine Only.trans h k fun i hi ⟨hx, ht⟩ => ?_
  have hx' : X i := by
    rcases hx with hx | ⟨hx, _⟩
    · exact hx
    · omega
  by_cases hn : X i ∧ TS a i
  · exact hn
  · refine ⟨hx', ?_⟩
    have hs := h.block i hi hn
    unfold TS at ht ⊢
    rw [hs] at ht
    exact ht
theorem OnlyT.more {X Y : Nat → Prop} {a b : World} (h : OnlyT X a b) (hk : ∀ i, i < a.heap.size → X i → Y i) : OnlyT Y a b := Only.mono h fun i hi ⟨hx, ht⟩ => ⟨hk i hi hx, ht⟩
theorem OnlyT.trans_old {X : Nat → Prop} {a b c : World} (h : OnlyT X a b) (k : OnlyT X b c) : OnlyT X a c := h.trans (k.more fun i _ hx => ext_old hx)
theorem OnlyT.block {X : Nat → Prop} {a b : World} (h : OnlyT X a b) {i : Nat} {cs : Array Value} {t : TypeId} (hi : a.heap[i]? = some (.cells cs t (0, 0))) (h1 : t ≠ 82) (h2 : t ≠ 5) : b.heap[i]? = some (.cells cs t (0, 0)) := by
  rw [Only.block h i (lt_of_block hi) ?_]
  · exact hi
  · rintro ⟨_, ⟨es, c, he⟩ | ⟨cs', he⟩ | ⟨cs', he⟩⟩
    · rw [hi] at he; cases he
    · rw [hi] at he; simp at he; exact h1 he.2
    · rw [hi] at he; simp at he; exact h2 he.2
/-- Behind a call on table b: it is T now; nothing else has turned. -/
def Goes (X : Nat → Prop) (TT : Nat → Option Tb) (b : Nat) (T : Tb) (w : World) (e : Ending) (w' : World) : Prop :=
  e = .returned (.tuple #[]) ∧ SysT w' (ext X w w') (upd TT b T) ∧ OnlyT X w w'
end Go.Proofs.YtmaohncddjhgeaaGreat.gn
end
