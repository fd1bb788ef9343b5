/- Contracts of units and order: the units' map and their order. -/
import Derived.Test.YtpmghgfgbkncoaaGreatDoorMUnA
import Derived.Maps.OwnOps
import Derived.Carry
import Derived.Maps.RangeWalk
section
set_option linter.unusedVariables false
namespace Go.Proofs.YtpmghgfgbkncoaaGreatDoor.gn
open Go.RowKit
open Go.Proofs.YtpmghgfgbkncoaaGreatDoor.un

theorem strKeyed : Go.Maps.Keyed Tryz.prog 9 := Go.Maps.string_keyed Tryz.underlying9
theorem strKey {l : List UInt8} (h : l.length ≤ maxLen) : keyOf Tryz.prog 9 (.string (str l)) = some (.string l) := by
  have := Go.WideMaps.keyOf_string_mk (P := Tryz.prog) Tryz.underlying9 (s := str l) (by rw [str_size]; exact h)
  simpa [str] using this
theorem zero64 (w : World) : (zeroValue 2).run Tryz.prog w = .ok (.int .i64 0) w := by kernel_rfl
theorem el64 (n : Int) (h : (Lit.int .i64 n).wf = true) : plainElem (H := Unit) Tryz.prog 2 (.int .i64 n) = some (.lit (.int .i64 n), []) := plainElem_int Tryz.underlying2 h

/-- The map of the units, as it reads. -/
def unitD : DataW Unit := ((((((((DataW.map []).put (.string [75, 66]) (.lit (.int .i64 1000))).put (.string [77, 66]) (.lit (.int .i64 1000000))).put (.string [71, 66]) (.lit (.int .i64 1000000000))).put (.string [84, 66]) (.lit (.int .i64 1000000000000))).put (.string [75, 105, 66]) (.lit (.int .i64 1024))).put (.string [77, 105, 66]) (.lit (.int .i64 1048576))).put (.string [71, 105, 66]) (.lit (.int .i64 1073741824))).put (.string [84, 105, 66]) (.lit (.int .i64 1099511627776))
def UM (w : World) (b : Nat) : Prop := w.ownsMap Tryz.prog 9 (plainElem (H := Unit) Tryz.prog 2) b 8 unitD
theorem UM.lt {w : World} {b : Nat} (h : UM w b) : b < w.heap.size := World.ownsMap.lt h
theorem UM.next {w w' : World} {b : Nat} (h : UM w b) (hb : Below w.heap.size w w') : UM w' b := by
  have hlt := h.lt
  obtain ⟨es, clock, h1, h2⟩ := h
  exact ⟨es, clock, (hb.block b hlt).trans h1, h2⟩
theorem UM.drew {w : World} {b : Nat} (h : UM w b) : UM w.drew b := h
theorem unitD_at {k : Nat} (hk : k < 8) : unitD.atKey (.string (nm k)) (.lit (.int .i64 0)) = .lit (.int .i64 (sz k : Nat)) := by
  rcases lt8 hk with rfl | rfl | rfl | rfl | rfl | rfl | rfl | rfl <;> kernel_rfl
theorem UM.look {w : World} {b : Nat} (h : UM w b) {k : Nat} (hk : k < 8) :
    (Instr.lookup 131 (.map (some b)) (.string (str (nm k))) false).run Tryz.prog w = .ok (.int .i64 (sz k : Nat)) w := by
  have hl : (nm k).length ≤ maxLen := Nat.le_trans (nm_len hk) (by decide)
  obtain ⟨c, hrun, hat, _⟩ := World.ownsMap.lookup_int h strKeyed Tryz.underlying131 Tryz.underlying2 (zero64 w) (strKey hl)
  rw [unitD_at hk] at hat
  simp only [DataW.lit.injEq, Lit.int.injEq, true_and] at hat
  rw [hrun, hat]

set_option maxRecDepth 100000 in
set_option maxHeartbeats 1600000 in
theorem units_any (w : World) : Calls Tryz.prog 98 #[] w fun e w' => ∃ b, e = .returned (.map (some b)) ∧ UM w' b ∧ w.heap.size ≤ b ∧ Below w.heap.size w w' := by
  have h0 := World.ownsMap_made w Tryz.prog 9 (plainElem (H := Unit) Tryz.prog 2)
  have hz : (w.alloc (.map #[] 0)).heap.size = w.heap.size + 1 := by simp
  have b0 : Below w.heap.size w (w.alloc (.map #[] 0)) := (Below.refl _ w).alloc (Nat.le_refl _) _
  have k1 : keyOf Tryz.prog 9 (.string { data := #[75, 66] }) = some (.string [75, 66]) := strKey (l := [75, 66]) (by decide)
  have k2 : keyOf Tryz.prog 9 (.string { data := #[77, 66] }) = some (.string [77, 66]) := strKey (l := [77, 66]) (by decide)
  have k3 : keyOf Tryz.prog 9 (.string { data := #[71, 66] }) = some (.string [71, 66]) := strKey (l := [71, 66]) (by decide)
  have k4 : keyOf Tryz.prog 9 (.string { data := #[84, 66] }) = some (.string [84, 66]) := strKey (l := [84, 66]) (by decide)
  have k5 : keyOf Tryz.prog 9 (.string { data := #[75, 105, 66] }) = some (.string [75, 105, 66]) := strKey (l := [75, 105, 66]) (by decide)
  have k6 : keyOf Tryz.prog 9 (.string { data := #[77, 105, 66] }) = some (.string [77, 105, 66]) := strKey (l := [77, 105, 66]) (by decide)
  have k7 : keyOf Tryz.prog 9 (.string { data := #[71, 105, 66] }) = some (.string [71, 105, 66]) := strKey (l := [71, 105, 66]) (by decide)
  have k8 : keyOf Tryz.prog 9 (.string { data := #[84, 105, 66] }) = some (.string [84, 105, 66]) := strKey (l := [84, 105, 66]) (by decide)
  obtain ⟨w1, r1, o1, g1⟩ := h0.update strKeyed Tryz.underlying131 (by decide) k1 (el64 1000 (by decide))
  obtain ⟨w2, r2, o2, g2⟩ := o1.update strKeyed Tryz.underlying131 (by decide) k2 (el64 1000000 (by decide))
  obtain ⟨w3, r3, o3, g3⟩ := o2.update strKeyed Tryz.underlying131 (by decide) k3 (el64 1000000000 (by decide))
  obtain ⟨w4, r4, o4, g4⟩ := o3.update strKeyed Tryz.underlying131 (by decide) k4 (el64 1000000000000 (by decide))
  obtain ⟨w5, r5, o5, g5⟩ := o4.update strKeyed Tryz.underlying131 (by decide) k5 (el64 1024 (by decide))
  obtain ⟨w6, r6, o6, g6⟩ := o5.update strKeyed Tryz.underlying131 (by decide) k6 (el64 1048576 (by decide))
  obtain ⟨w7, r7, o7, g7⟩ := o6.update strKeyed Tryz.underlying131 (by decide) k7 (el64 1073741824 (by decide))
  obtain ⟨w8, r8, o8, g8⟩ := o7.update strKeyed Tryz.underlying131 (by decide) k8 (el64 1099511627776 (by decide))
  have hg : (w.alloc (.map #[] 0)).grownBy w8 (some w.heap.size) := But.trans (But.trans (But.trans (But.trans (But.trans (But.trans (But.trans g1 g2) g3) g4) g5) g6) g7) g8
  have HB := Lib.hid (b0.grown hg (by rw [hz]; omega) (fun k hk => by cases hk; exact Nat.le_refl _))
  have HU := Lib.hid (show UM w8 w.heap.size from o8)
  clear h0 hz b0 k1 k2 k3 k4 k5 k6 k7 k8 o1 o2 o3 o4 o5 o6 o7 o8 g1 g2 g3 g4 g5 g6 g7 g8 hg
  have hmm := @run_makeMap Tryz.prog
  go_enter Tryz.func98, Tryz.ntmps98
  go_wp2
  go_ret
  exact ⟨_, rfl, HU.out, Nat.le_refl _, HB.out⟩

/-- The units' names, in their order. -/
def ordV : Array Value := #[.string { data := #[84, 105, 66] }, .string { data := #[71, 105, 66] }, .string { data := #[77, 105, 66] }, .string { data := #[75, 105, 66] }, .string { data := #[84, 66] }, .string { data := #[71, 66] }, .string { data := #[77, 66] }, .string { data := #[75, 66] }]
theorem ordV_at {k : Nat} (hk : k < 8) : ordV[k]? = some (.string (str (nm k))) := by
  rcases lt8 hk with rfl | rfl | rfl | rfl | rfl | rfl | rfl | rfl <;> rfl

set_option maxRecDepth 100000 in
theorem order_any (w : World) : Calls Tryz.prog 99 #[] w (Told (.agg ordV) w) := by
  go_enter Tryz.func99, Tryz.ntmps99
  go_wp2
  have hg : (w.alloc (.cells ordV 133)).heap[w.heap.size]? = some (.cells ordV 133 (0, 0)) := by
    show (w.heap.push _)[w.heap.size]? = _
    rw [Array.getElem?_push_size]
  exact bodyPost_ret (v := .agg ordV) (results_cell_row rfl _ _ _ _ _ _ _ rfl hg Tryz.underlying133 rfl (by kernel_rfl)) rfl ⟨rfl, (Below.refl _ w).alloc (Nat.le_refl _) _⟩
theorem order_at (w : World) {k : Nat} (hk : k < 8) : (Instr.index 133 (.agg ordV) (.int .i64 (k : Int))).run Tryz.prog w = .ok (.string (str (nm k))) w := by
  rcases lt8 hk with rfl | rfl | rfl | rfl | rfl | rfl | rfl | rfl <;> kernel_rfl
end Go.Proofs.YtpmghgfgbkncoaaGreatDoor.gn
end
