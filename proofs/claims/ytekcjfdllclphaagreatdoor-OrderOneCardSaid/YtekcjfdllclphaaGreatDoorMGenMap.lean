/- For any seat: maps of the call's own from strings to any values: looked up, put, deleted, ranged over. -/
import Derived.Test.YtekcjfdllclphaaGreatDoorMGen
import Derived.Test.YtekcjfdllclphaaGreatDoorFiM
import Derived.Maps.RangeWalk
import Derived.Maps.OwnSet
import Derived.Carry
section
set_option linter.unusedVariables false
namespace Go.Proofs.YtekcjfdllclphaaGreatDoor.gn
open Go.RowKit

/-- A value reads as itself. -/
def hR (v : Value) : Option (DataW Value × List MemPlace) := some (.held v, [])
theorem hR_inv {v u : Value} {ps : List MemPlace} (h : hR v = some (.held u, ps)) : v = u := by
  unfold hR at h
  simp only [Option.some.injEq, Prod.mk.injEq, DataW.held.injEq] at h
  exact h.1
def datV (L : List (List UInt8 × Value)) : DataW Value := .map (L.map fun p => (.string p.1, .held p.2))
theorem datV_ins (k : List UInt8) (v : Value) : ∀ L : List (List UInt8 × Value), (fi.ins (k, v) L).map (fun p => (Lit.string p.1, (DataW.held p.2 : DataW Value))) = DataW.insert (.string k, .held v) (L.map fun p => (.string p.1, .held p.2))
  | [] => rfl
  | y :: r => by
    unfold fi.ins
    have := datV_ins k v r
    cases h : bytesBefore k y.1 with
    | true => simp [DataW.insert, Lit.before, h]
    | false => simp [DataW.insert, Lit.before, h, this]
theorem datV_del (k : List UInt8) (L : List (List UInt8 × Value)) : (fi.del k L).map (fun p => (Lit.string p.1, (DataW.held p.2 : DataW Value))) = (L.map fun p => (Lit.string p.1, (DataW.held p.2 : DataW Value))).filter fun p => !p.1.sameKey (.string k) := by
  unfold fi.del
  rw [List.filter_map]
  rfl
theorem datV_put (k : List UInt8) (v : Value) (L : List (List UInt8 × Value)) : (datV L).put (.string k) (.held v) = datV (fi.put k v L) := by
  show DataW.map (DataW.insert _ ((L.map _).filter fun p => !p.1.sameKey (.string k))) = .map _
  rw [← datV_del, ← datV_ins]
  rfl
theorem datV_cut (k : List UInt8) (L : List (List UInt8 × Value)) : (datV L).del (.string k) = datV (fi.del k L) := by
  show DataW.map ((L.map _).filter fun p => !p.1.sameKey (.string k)) = .map _
  rw [← datV_del]
theorem find_datV (k : List UInt8) (L : List (List UInt8 × Value)) : (L.map fun p => (Lit.string p.1, (DataW.held p.2 : DataW Value))).find? (fun p => p.1.sameKey (.string k)) = (L.find? fun p => p.1 == k).map fun p => (.string p.1, .held p.2) := by
  rw [List.find?_map]
  rfl
theorem datV_at (k : List UInt8) (z : Value) (L : List (List UInt8 × Value)) : (datV L).atKey (.string k) (.held z) = .held ((fi.get k L).getD z) := by
  simp only [datV, DataW.atKey, find_datV, fi.get]
  cases L.find? fun p => p.1 == k <;> rfl
theorem datV_has (k : List UInt8) (L : List (List UInt8 × Value)) : Maps.has (datV L) (.string k) = (fi.get k L).isSome := by
  show (L.map fun p => (Lit.string p.1, (DataW.held p.2 : DataW Value))).any (fun p => p.1.sameKey (.string k)) = _
  have h := find_datV k L
  rw [Bool.eq_iff_iff, List.any_eq_true, ← List.find?_isSome, h]
  unfold fi.get
  cases L.find? fun p => p.1 == k <;> simp
theorem datV_size (L : List (List UInt8 × Value)) : Maps.size (datV L) = L.length := by simp [datV, Maps.size]
theorem get_put (j k : List UInt8) (v : Value) (L : List (List UInt8 × Value)) : fi.get j (fi.put k v L) = if j = k then some v else fi.get j L := by
  by_cases h : j = k
  · rw [if_pos h, h, fi.get_put_same]
  · rw [if_neg h, fi.get_put_other h]
theorem get_del (j k : List UInt8) (L : List (List UInt8 × Value)) : fi.get j (fi.del k L) = if j = k then none else fi.get j L := by
  by_cases h : j = k
  · rw [if_pos h, h, fi.get_del_same]
  · rw [if_neg h, fi.get_del_other h]

theorem keyStr : Go.Maps.Keyed Tryz.prog 9 := Go.Maps.string_keyed Tryz.underlying9
theorem keyS {l : List UInt8} (h : l.length ≤ maxLen) : keyOf Tryz.prog 9 (.string (str l)) = some (.string l) := by
  have := Go.WideMaps.keyOf_string_mk (P := Tryz.prog) Tryz.underlying9 (s := str l) (by rw [str_size]; exact h)
  simpa [str] using this

/-- Block b is the map of these names and values. -/
def MapV (w : World) (b : Nat) (L : List (List UInt8 × Value)) : Prop := ∃ n, w.ownsMap Tryz.prog 9 hR b n (datV L)
theorem MapV.exact {w : World} {b : Nat} {L : List (List UInt8 × Value)} (h : MapV w b L) : w.ownsMap Tryz.prog 9 hR b L.length (datV L) := by
  obtain ⟨n, es, clock, hb, F, _, hD⟩ := h
  refine ⟨es, clock, hb, F, ?_, hD⟩
  have h1 := congrArg Maps.size hD
  rw [datV_size] at h1
  simp only [Maps.size, length_sorted, List.length_map, Array.length_toList] at h1
  omega
theorem MapV.lt {w : World} {b : Nat} {L : List (List UInt8 × Value)} (h : MapV w b L) : b < w.heap.size := by
  obtain ⟨n, hn⟩ := h
  exact World.ownsMap.lt hn
theorem MapV.kept {w w' : World} {b : Nat} {L : List (List UInt8 × Value)} (h : MapV w b L) (hb : w'.heap[b]? = w.heap[b]?) : MapV w' b L := by
  obtain ⟨n, es, clock, h1, h2⟩ := h
  exact ⟨n, es, clock, hb.trans h1, h2⟩
theorem MapV.next {w w' : World} {b : Nat} {L : List (List UInt8 × Value)} (h : MapV w b L) (hb : Below w.heap.size w w') : MapV w' b L := h.kept (hb.block b h.lt)
theorem MapV.but {R : Nat} {w w' : World} {b : Nat} {L : List (List UInt8 × Value)} (h : MapV w b L) (hb : But R w w') (hne : b ≠ R) : MapV w' b L := h.kept (hb.block b h.lt (fun e => hne (Option.some.inj e)))
theorem MapV.drew {w : World} {b : Nat} {L : List (List UInt8 × Value)} (h : MapV w b L) : MapV w.drew b L := h
theorem MapV.new (w : World) : MapV (w.alloc (.map #[] 0)) w.heap.size [] := ⟨0, World.ownsMap_made w _ _ _⟩
theorem MapV.look {w : World} {b : Nat} {L : List (List UInt8 × Value)} (h : MapV w b L) {t e : TypeId} (ht : Tryz.prog.underlying t = some (.map 9 e)) {z : Value} (hz : (zeroValue e).run Tryz.prog w = .ok z w) {k : List UInt8} (hk : k.length ≤ maxLen) :
    (Instr.lookup t (.map (some b)) (.string (str k)) false).run Tryz.prog w = .ok ((fi.get k L).getD z) w := by
  obtain ⟨n, hn⟩ := h
  obtain ⟨v, ps, hrun, hv⟩ := hn.lookup keyStr ht hz (show hR z = some (.held z, []) from rfl) (keyS hk)
  rw [datV_at] at hv
  rw [hrun, hR_inv hv]
theorem MapV.look_ok {w : World} {b : Nat} {L : List (List UInt8 × Value)} (h : MapV w b L) {t e : TypeId} (ht : Tryz.prog.underlying t = some (.map 9 e)) {z : Value} (hz : (zeroValue e).run Tryz.prog w = .ok z w) {k : List UInt8} (hk : k.length ≤ maxLen) :
    (Instr.lookup t (.map (some b)) (.string (str k)) true).run Tryz.prog w = .ok (.tuple #[(fi.get k L).getD z, .bool (fi.get k L).isSome]) w := by
  obtain ⟨n, hn⟩ := h
  obtain ⟨v, ps, hrun, hv⟩ := hn.look_ok keyStr ht hz (show hR z = some (.held z, []) from rfl) (keyS hk)
  rw [datV_at] at hv
  rw [hrun, hR_inv hv, datV_has]
theorem MapV.put {w : World} {b : Nat} {L : List (List UInt8 × Value)} (h : MapV w b L) {t e : TypeId} (ht : Tryz.prog.underlying t = some (.map 9 e)) {k : List UInt8} (hk : k.length ≤ maxLen) (hL : L.length < maxLen) (v : Value) :
    ∃ w', (Instr.mapUpdate t (.map (some b)) (.string (str k)) v).run Tryz.prog w = .ok () w' ∧ MapV w' b (fi.put k v L) ∧ But b w w' := by
  obtain ⟨w', hrun, h1, h2⟩ := h.exact.update keyStr ht hL (keyS hk) (show hR v = some (.held v, []) from rfl)
  exact ⟨w', hrun, ⟨_, by rw [← datV_put]; exact h1⟩, h2⟩
theorem MapV.put2 {w : World} {b n : Nat} {L : List (List UInt8 × Value)} (h : MapV w b L) (hn : L.length ≤ n) {t e : TypeId} (ht : Tryz.prog.underlying t = some (.map 9 e)) {k : List UInt8} (hk : k.length ≤ maxLen) (hL : n < 1000) (v : Value) :
    ∃ w' L', (Instr.mapUpdate t (.map (some b)) (.string (str k)) v).run Tryz.prog w = .ok () w' ∧ MapV w' b L' ∧ L'.length ≤ n + 1 ∧ (∀ j, fi.get j L' = if j = k then some v else fi.get j L) ∧ But b w w' := by
  obtain ⟨w', h1, h2, h3⟩ := h.put ht hk (show L.length < maxLen by unfold maxLen; omega) v
  exact ⟨w', _, h1, h2, Nat.le_trans (fi.put_length k v) (by omega), fun j => get_put j k v L, h3⟩
theorem mapTurned_but {w w' : World} {b : Nat} (h : w.mapTurned w' b) : But b w w' := by
  obtain ⟨es, c, es', c', hb, rfl⟩ := h
  exact ⟨rfl, rfl, rfl, by simp [Go.ChangeMaps.setBlock], fun i _ hi => Go.ChangeMaps.heap_setBlock_other hb _ fun e => hi (by rw [e])⟩
theorem MapV.del {w : World} {b : Nat} {L : List (List UInt8 × Value)} (h : MapV w b L) {t e : TypeId} (ht : Tryz.prog.underlying t = some (.map 9 e)) {k : List UInt8} (hk : k.length ≤ maxLen) (ty : TypeId) :
    ∃ w', (Builtin.delete_ #[t, 9] ty #[.map (some b), .string (str k)]).run Tryz.prog w = .ok (.tuple #[]) w' ∧ MapV w' b (fi.del k L) ∧ But b w w' := by
  obtain ⟨w', hrun, h1, h2⟩ := h.exact.drop keyStr ht (keyS hk) ty
  exact ⟨w', hrun, ⟨_, by rw [← datV_cut]; exact h1⟩, mapTurned_but h2⟩

/-- A range over the map b, by block r: left says whose turn is still to come. -/
def RngV (w : World) (b r : Nat) (L : List (List UInt8 × Value)) (left : Lit → Bool) (cnt : Nat) : Prop := w.ranges Tryz.prog 9 hR b r L.length (datV L) left cnt
theorem RngV.lt {w : World} {b r : Nat} {L : List (List UInt8 × Value)} {left : Lit → Bool} {cnt : Nat} (h : RngV w b r L left cnt) : r < w.heap.size := World.ranges.lt h
theorem RngV.map {w : World} {b r : Nat} {L : List (List UInt8 × Value)} {left : Lit → Bool} {cnt : Nat} (h : RngV w b r L left cnt) : MapV w b L := ⟨_, World.ranges.owns h⟩
theorem RngV.next {w w' : World} {b r : Nat} {L : List (List UInt8 × Value)} {left : Lit → Bool} {cnt : Nat} (h : RngV w b r L left cnt) (hb : Below w.heap.size w w') : RngV w' b r L left cnt :=
  World.ranges.kept h (row := none) ⟨hb.os, hb.tape, hb.output, hb.size, fun i hi _ => hb.block i hi⟩ (by simp) (by simp)
theorem RngV.left_eq {w : World} {b r : Nat} {L : List (List UInt8 × Value)} {left : Lit → Bool} {cnt : Nat} (h : RngV w b r L left cnt) : w.rangeLeft b r = cnt := World.ranges.left_eq h
theorem key_str2 {v : Value} {kl : Lit} (hk : keyOf Tryz.prog 9 v = some kl) : ∃ k : List UInt8, v = .string (str k) ∧ kl = .string k := by
  rw [keyOf_string Tryz.underlying9] at hk
  cases v <;> simp [mapKey, Tryz.underlying9] at hk
  obtain ⟨_, rfl⟩ := hk
  exact ⟨_, by rw [str_of], rfl⟩

/-- 'range m'. -/
theorem wpList_range_map (w : World) {ops : Array Oper} {rest : List Oper} {o : Oper} {a : Act} {Q : Exit → Act → World → Prop} (hg : o.guard = none) (m : Operand) (t e : TypeId) (hop : o.op = Op.range t m) (ht : Tryz.prog.underlying t = some (.map 9 e))
    (b : Nat) (L : List (List UInt8 × Value)) (hm : a.eval m = .map (some b)) (h : MapV w b L)
    (hK : ∀ w', RngV w' b w.heap.size L (fun kl => Maps.has (datV L) kl) L.length → Below w.heap.size w w' → w'.heap.size = w.heap.size + 1 → wpList Tryz.prog ops Q rest (a.put o.dst (.pointer (some ⟨w.heap.size, 0, none⟩))) w') :
    wpList Tryz.prog ops Q (o :: rest) a w := by
  refine wpList_range_own w hg m t hop 9 e keyStr ht hR b _ _ hm h.exact ?_
  intro w' h1 h2 h3
  rw [datV_size] at h1
  exact hK w' h1 ⟨h2.os, h2.tape, h2.output, h2.size, fun i hi => h2.block i hi (by simp)⟩ h3
/-- The step. -/
theorem wpList_next_map (w : World) {ops : Array Oper} {rest : List Oper} {o : Oper} {a : Act} {Q : Exit → Act → World → Prop} (hg : o.guard = none) (it : Operand) (hop : o.op = Op.next it false)
    (b r : Nat) (L : List (List UInt8 × Value)) (left : Lit → Bool) (cnt : Nat) (hit : a.eval it = .pointer (some ⟨r, 0, none⟩)) (h : RngV w b r L left cnt)
    (hDone : cnt = 0 → (∀ kl, left kl = false) → wpList Tryz.prog ops Q rest (a.put o.dst (.tuple #[.bool false])) w)
    (hMore : ∀ (k : List UInt8) (v : Value) (w' : World) (cnt' : Nat), fi.get k L = some v → left (.string k) = true → RngV w' b r L (fun z => left z && !z.sameKey (.string k)) cnt' → cnt' < cnt →
      But r w w' → w'.heap.size = w.heap.size → (Instr.entry (.pointer (some ⟨r, 0, none⟩))).run Tryz.prog w' = .ok (.tuple #[.string (str k), v]) w' →
      wpList Tryz.prog ops Q rest (a.put o.dst (.tuple #[.bool true, .string (str k), v])) w') :
    wpList Tryz.prog ops Q (o :: rest) a w := by
  refine wpList_plain hg fun K' hK' => ?_
  unfold Oper.wp
  rcases World.ranges.next h keyStr o.type with ⟨h0, hl, hrun⟩ | ⟨key, v, kl, y, w', cnt', hkey, hlk, hv, hat, hrun, hrg, hlt, hgr, hsz, hen⟩
  · simp [execOp, hop, hit, hrun, Result.andThen]
    exact hK' _ _ (hDone h0 hl)
  · obtain ⟨k, rfl, rfl⟩ := key_str2 hkey
    have hy : y = (.held v, []) := (Option.some.inj hv).symm
    subst hy
    have hp : fi.get k L = some v := by
      have h1 := hat (.held v)
      have h2 := hat (.held (.bool true))
      have h3 := hat (.held (.bool false))
      rw [datV_at] at h1 h2 h3
      cases hgk : fi.get k L with
      | some u =>
        rw [hgk] at h1
        simp only [Option.getD_some, DataW.held.injEq] at h1
        rw [h1]
      | none =>
        rw [hgk] at h2 h3
        simp only [Option.getD_none, DataW.held.injEq] at h2 h3
        rw [← h3] at h2
        cases h2
    simp [execOp, hop, hit, hrun, Result.andThen]
    exact hK' _ _ (hMore k v w' cnt' hp hlk hrg hlt hgr hsz hen)

/-- 'v, ok := m[k]', where k is there. -/
theorem wpList_look_yes (w : World) {ops : Array Oper} {rest : List Oper} {o : Oper} {a : Act} {Q : Exit → Act → World → Prop} (hg : o.guard = none) (m x : Operand) (t e : TypeId) (hop : o.op = Op.lookup t m x true) (ht : Tryz.prog.underlying t = some (.map 9 e))
    {z : Value} (hz : ∀ W, (zeroValue e).run Tryz.prog W = .ok z W) (b : Nat) (L : List (List UInt8 × Value)) (hm : a.eval m = .map (some b)) (h : MapV w b L) (k : List UInt8) (hx : a.eval x = .string (str k)) (hk : k.length ≤ maxLen) (v : Value) (hv : fi.get k L = some v)
    (hK : wpList Tryz.prog ops Q rest (a.put o.dst (.tuple #[v, .bool true])) w) :
    wpList Tryz.prog ops Q (o :: rest) a w := by
  refine wpList_plain hg fun K' hK' => ?_
  have hrun := h.look_ok ht (hz w) hk
  rw [hv] at hrun
  unfold Oper.wp
  simp [execOp, hop, hm, hx, hrun, Result.andThen]
  exact hK' _ _ hK
/-- 'v, ok := m[k]', where k is not there. -/
theorem wpList_look_no (w : World) {ops : Array Oper} {rest : List Oper} {o : Oper} {a : Act} {Q : Exit → Act → World → Prop} (hg : o.guard = none) (m x : Operand) (t e : TypeId) (hop : o.op = Op.lookup t m x true) (ht : Tryz.prog.underlying t = some (.map 9 e))
    {z : Value} (hz : ∀ W, (zeroValue e).run Tryz.prog W = .ok z W) (b : Nat) (L : List (List UInt8 × Value)) (hm : a.eval m = .map (some b)) (h : MapV w b L) (k : List UInt8) (hx : a.eval x = .string (str k)) (hk : k.length ≤ maxLen) (hv : fi.get k L = none)
    (hK : wpList Tryz.prog ops Q rest (a.put o.dst (.tuple #[z, .bool false])) w) :
    wpList Tryz.prog ops Q (o :: rest) a w := by
  refine wpList_plain hg fun K' hK' => ?_
  have hrun := h.look_ok ht (hz w) hk
  rw [hv] at hrun
  unfold Oper.wp
  simp [execOp, hop, hm, hx, hrun, Result.andThen]
  exact hK' _ _ hK
/-- 'delete(m, k)'. -/
theorem wpList_del_map (w : World) {ops : Array Oper} {rest : List Oper} {o : Oper} {a : Act} {Q : Exit → Act → World → Prop} (hg : o.guard = none) (m x : Operand) (t e : TypeId) (hop : o.op = Op.call { callee := Callee.builtin Builtin.delete, args := #[m, x], argTypes := #[t, 9] }) (ht : Tryz.prog.underlying t = some (.map 9 e))
    (b : Nat) (L : List (List UInt8 × Value)) (hm : a.eval m = .map (some b)) (h : MapV w b L) (k : List UInt8) (hx : a.eval x = .string (str k)) (hk : k.length ≤ maxLen)
    (hK : ∀ w', MapV w' b (fi.del k L) → But b w w' → wpList Tryz.prog ops Q rest (a.put o.dst (.tuple #[])) w') :
    wpList Tryz.prog ops Q (o :: rest) a w := by
  refine wpList_plain hg fun K' hK' => ?_
  obtain ⟨w', hrun, r1, r2⟩ := h.del ht hk o.type
  unfold Oper.wp
  simp [execOp, hop, resolve, invoke, builtin, hm, hx, hrun, Result.andThen]
  exact hK' _ _ (hK w' r1 r2)
/-- 'm[k] = v'. -/
theorem wpList_put_map (w : World) {ops : Array Oper} {rest : List Oper} {o : Oper} {a : Act} {Q : Exit → Act → World → Prop} (hg : o.guard = none) (m x y : Operand) (t e : TypeId) (hop : o.op = Op.mapUpdate t m x y) (ht : Tryz.prog.underlying t = some (.map 9 e))
    (b n : Nat) (L : List (List UInt8 × Value)) (hm : a.eval m = .map (some b)) (h : MapV w b L) (hn : L.length ≤ n) (hn2 : n < 1000) (k : List UInt8) (hx : a.eval x = .string (str k)) (hk : k.length ≤ maxLen) (v : Value) (hy : a.eval y = v)
    (hK : ∀ w' L', MapV w' b L' → L'.length ≤ n + 1 → (∀ j, fi.get j L' = if j = k then some v else fi.get j L) → But b w w' → wpList Tryz.prog ops Q rest (a.put o.dst undef) w') :
    wpList Tryz.prog ops Q (o :: rest) a w := by
  refine wpList_plain hg fun K' hK' => ?_
  obtain ⟨w', L', hrun, r1, r2, r3, r4⟩ := h.put2 hn ht hk hn2 v
  unfold Oper.wp
  simp [execOp, hop, hm, hx, hy, hrun, Result.andThen]
  exact hK' _ _ (hK w' L' r1 r2 r3 r4)
end Go.Proofs.YtekcjfdllclphaaGreatDoor.gn
end
