/- Orders in memory: values, boxes; the closures that store a field, and number, either, name, size. -/
import Derived.Test.YtekcjfdllclphaaGreatDoorMOrS
import Derived.Test.YtekcjfdllclphaaGreatDoorMSlQ
import Derived.Test.YtekcjfdllclphaaGreatDoorMSlA
import Derived.Test.YtekcjfdllclphaaGreatDoorMDiE
import Derived.Test.YtekcjfdllclphaaGreatDoorMSlPa
import Derived.Test.YtekcjfdllclphaaGreatDoorMSlSa
import Derived.Laws.StructEq
section
set_option linter.unusedVariables false
set_option linter.unusedSimpArgs false
namespace Go.Proofs.YtekcjfdllclphaaGreatDoor.gn
open Go.RowKit
open Go.Proofs.YtekcjfdllclphaaGreatDoor.un
open Go.Proofs.YtekcjfdllclphaaGreatDoor.di
open Go.Proofs.YtekcjfdllclphaaGreatDoor.sp (Slip within? okW)
open Go.Proofs.YtekcjfdllclphaaGreatDoor.od (Ord okO stO numV sizV resK badW nK)

def ocs (o : Ord) (g : Gh) : Array Value := #[.int .u8 (o.kind : Nat), .int .i64 o.job, .int .i64 o.n, .string (str o.name), .string (str o.pool), .string (str o.user), .int .i64 o.size, .bool o.yes, .string (str o.slip.user), .int .i64 o.slip.nodes, .int .i64 o.slip.wall, .int .i64 o.slip.qos, g.a, .int .i64 o.slip.cap, .int .i64 o.slip.inn, .int .i64 o.slip.out, .string (str o.slip.pool), g.m, g.d, g.u]
def oV (o : Ord) (g : Gh) : Value := .agg (ocs o g)
/-- An order in a box. -/
def OrdB (W : World) (b : Nat) (o : Ord) (g : Gh) : Prop := BoxA W b 29 (ocs o g)
theorem OrdB.next {w w' : World} {b : Nat} {o : Ord} {g : Gh} (h : OrdB w b o g) (hb : Below w.heap.size w w') : OrdB w' b o g := BoxA.next h hb
theorem OrdB.lt {w : World} {b : Nat} {o : Ord} {g : Gh} (h : OrdB w b o g) : b < w.heap.size := BoxA.lt h

/-! ### number -/
def okN (v : Tx) (a b : Nat) : Bool := (within? v a b).isSome
def okM (x : Option Nat) (a b : Nat) : Bool := match x with
  | some n => decide (a ≤ n ∧ n ≤ b)
  | none => false
theorem okN_M (v : Tx) (a b : Nat) : okN v a b = okM (num? v) a b := by
  unfold okN within? okM
  cases num? v with
  | none => rfl
  | some n =>
    dsimp only
    by_cases hq : a ≤ n ∧ n ≤ b
    · rw [if_pos hq, decide_eq_true hq]; rfl
    · rw [if_neg hq, decide_eq_false hq]; rfl
/-- The cells that a number's closure has. -/
structure NumC (w : World) (c1 c2 c3 bo j : Nat) (a b : Int) : Prop where
  pt : BoxA w c1 122 #[.pointer (some ⟨bo, j, none⟩)]
  lo : BoxA w c2 2 #[.int .i64 a]
  hi : BoxA w c3 2 #[.int .i64 b]
theorem NumC.next {w w' : World} {c1 c2 c3 bo j : Nat} {a b : Int} (h : NumC w c1 c2 c3 bo j a b) (hb : Below w.heap.size w w') : NumC w' c1 c2 c3 bo j a b := ⟨h.pt.next hb, h.lo.next hb, h.hi.next hb⟩
/-- A store into a cell of the order's box, behind what makes memory. -/
def PutT (bo j : Nat) (u : Value) (b : Bool) (w : World) (e : Ending) (w' : World) : Prop := e = .returned (.bool b) ∧ ∃ w1, Below w.heap.size w w1 ∧ w' = w1.setCell ⟨bo, j, none⟩ u
set_option maxRecDepth 100000 in
set_option maxHeartbeats 3200000 in
theorem number1_any (c1 c2 c3 bo j a b : Nat) (old : Int) (v : Tx) (hv : v.length ≤ 140737488355328) (ha : a ≤ 1099511627776) (hb : b ≤ 1099511627776) (w : World) (h : NumC w c1 c2 c3 bo j a b) (hc : w.cell? ⟨bo, j, none⟩ = some (.int .i64 old)) (hf : w.frozen? ⟨bo, j, none⟩ = false) (hlt : bo < w.heap.size) (n1 : c2 ≠ bo) (n2 : c3 ≠ bo) (hL : LaidU w) :
    Calls Tryz.prog 113 #[.string (str v), .pointer (some ⟨c1, 0, none⟩), .pointer (some ⟨c2, 0, none⟩), .pointer (some ⟨c3, 0, none⟩)] w (PutT bo j (.int .i64 (numV v)) (okN v a b) w) := by
  have HN := Lib.hid h
  have HC := Lib.hid fun (W : World) (hb : Below w.heap.size w W) => (Below.cell hb hlt).trans hc
  have HF := Lib.hid fun (W : World) (hb : Below w.heap.size w W) => (show W.frozen? ⟨bo, j, none⟩ = false by rw [← hf]; unfold World.frozen?; rw [hb.block bo hlt])
  have HU := Lib.hid (number_unit v hv w hL)
  have HNE := Lib.hid (And.intro n1 n2)
  have m1 : ¬ bo = c2 := fun e => n1 e.symm
  have m2 : ¬ bo = c3 := fun e => n2 e.symm
  obtain ⟨x, hx⟩ : ∃ x, num? v = x := ⟨_, rfl⟩
  have HV := Lib.hid (show numV v = qv x by unfold numV qv; rw [hx])
  have HO := Lib.hid (show okN v a b = okM x a b by rw [okN_M, hx])
  rw [HV.out]
  rw [hx] at HU
  have hxt : ∀ n, x = some n → n ≤ 1099511627776 := fun n e => (un.num_iff.1 (hx.trans e)).1
  have K1 := Lib.hid fun (W : World) (hb : Below w.heap.size w W) => (show W.cell? ⟨c1, 0, none⟩ = some (.pointer (some ⟨bo, j, none⟩)) from (h.next hb).pt.cell 0 _)
  have K2 := Lib.hid fun (W : World) (u : Value) (hb : Below w.heap.size w W) => (show (W.setCell ⟨bo, j, none⟩ u).cell? ⟨c2, 0, none⟩ = some (.int .i64 a) from BoxA.cell (((h.next hb).lo).but ((But.refl bo W).setCell j u) n1) 0 _)
  have K3 := Lib.hid fun (W : World) (u : Value) (hb : Below w.heap.size w W) => (show (W.setCell ⟨bo, j, none⟩ u).cell? ⟨c3, 0, none⟩ = some (.int .i64 b) from BoxA.cell (((h.next hb).hi).but ((But.refl bo W).setCell j u) n2) 0 _)
  clear h hc hf hlt hL n1 n2 hv hx
  cases x with
  | none =>
    go_enter Tryz.func113, Tryz.ntmps113
    go_wp2_with (go_at_call 114; ((with_reducible refine HU.out.mono ?_); rintro e w1 ⟨rfl, hb⟩); rw [qv_none, qe_none]; have HB := Lib.hid hb; have k1 := K1.out _ hb; have hc := HC.out _ hb; have hf := HF.out _ hb; clear hb)
    go_ret
    exact ⟨by rw [HO.out]; rfl, w1, HB.out, rfl⟩
  | some n =>
    have hn := hxt n rfl
    have HQ := Lib.hid (show qv (some n) = (n : Int) from rfl)
    by_cases h1 : a ≤ n
    · have q1 : decide ((a : Int) ≤ (n : Int)) = true := decide_eq_true (by omega)
      have HO2 := Lib.hid (show okN v a b = decide ((n : Int) ≤ (b : Int)) by rw [HO.out]; show decide (a ≤ n ∧ n ≤ b) = _; rw [Bool.eq_iff_iff, decide_eq_true_eq, decide_eq_true_eq]; omega)
      clear hxt
      go_enter Tryz.func113, Tryz.ntmps113
      go_upto_region 2 with (go_at_call 114; ((with_reducible refine HU.out.mono ?_); rintro e w1 ⟨rfl, hb⟩); rw [qv_some, qe_some]; have HB := Lib.hid hb; have k1 := K1.out _ hb; have hc := HC.out _ hb; have hf := HF.out _ hb; clear hb)
      go_upto_region 3 with fail
      have k2 := K2.out _ (.int .i64 (n : Int)) HB.out
      have k3 := K3.out _ (.int .i64 (n : Int)) HB.out
      go_wp2
      go_ret
      exact ⟨by rw [HO2.out]; first | rfl | simp, w1, HB.out, rfl⟩
    · have q1 : decide ((a : Int) ≤ (n : Int)) = false := decide_eq_false (by omega)
      have HO2 := Lib.hid (show okN v a b = false by rw [HO.out]; show decide (a ≤ n ∧ n ≤ b) = _; rw [decide_eq_false]; omega)
      clear hxt
      go_enter Tryz.func113, Tryz.ntmps113
      go_upto_region 3 with (go_at_call 114; ((with_reducible refine HU.out.mono ?_); rintro e w1 ⟨rfl, hb⟩); rw [qv_some, qe_some]; have HB := Lib.hid hb; have k1 := K1.out _ hb; have hc := HC.out _ hb; have hf := HF.out _ hb; clear hb)
      have k2 := K2.out _ (.int .i64 (n : Int)) HB.out
      have k3 := K3.out _ (.int .i64 (n : Int)) HB.out
      go_wp2
      go_ret
      exact ⟨by rw [HO2.out]; first | rfl | simp, w1, HB.out, rfl⟩
end Go.Proofs.YtekcjfdllclphaaGreatDoor.gn
end
section
set_option linter.unusedVariables false
set_option linter.unusedSimpArgs false
namespace Go.Proofs.YtekcjfdllclphaaGreatDoor.gn
open Go.RowKit
open Go.Proofs.YtekcjfdllclphaaGreatDoor.un
open Go.Proofs.YtekcjfdllclphaaGreatDoor.di
open Go.Proofs.YtekcjfdllclphaaGreatDoor.sp (Slip sread)

theorem boxes_a (w : World) (z : Array Value) (t : TypeId) (y : Array Value) (u : TypeId) : ((w.alloc (.cells z t)).alloc (.cells y u)).heap[w.heap.size]? = some (.cells z t (0, 0)) := BoxA.next (BoxA.new w t z) ((Below.refl _ _).alloc (Nat.le_refl _) _)
theorem boxes_b (w : World) (z : Array Value) (t : TypeId) (y : Array Value) (u : TypeId) (cs : Array Value) : (((w.alloc (.cells z t)).alloc (.cells y u)).setRow w.heap.size cs).heap[w.heap.size + 1]? = some (.cells y u (0, 0)) := by
  have := BoxA.new (w.alloc (.cells z t)) u y
  rw [World.size_alloc] at this
  exact (setRow_other _ _ _ _ (by omega)).trans this
theorem boxes_end (w : World) (z y cs ds : Array Value) (t u : TypeId) : ∃ W, (((w.alloc (.cells z t)).alloc (.cells y u)).setRow w.heap.size cs).setRow (w.heap.size + 1) ds = W ∧ BoxA W w.heap.size t cs ∧ BoxA W (w.heap.size + 1) u ds ∧ Below w.heap.size w W :=
  ⟨_, rfl, (setRow_other _ _ _ _ (by omega)).trans (setRow_heap _ _ _ _ _ _ (boxes_a w z t y u)), setRow_heap _ _ _ _ _ _ (boxes_b w z t y u cs), below_setRow (below_setRow (((Below.refl _ w).alloc (Nat.le_refl _) _).alloc (by simp) _) (Nat.le_refl _) _) (by omega) _⟩
theorem spot_eqIn (a b c d : Int) (W : World) : (Op.equalIn 10000 32 (.agg #[.int .i64 a, .int .i64 b]) (.agg #[.int .i64 c, .int .i64 d])).run Tryz.prog W = .ok (decide (a = c) && decide (b = d)) W := by
  rw [run_equalIn_agg W 9999 32 #[.int .i64 a, .int .i64 b] #[.int .i64 c, .int .i64 d] (by kernel_rfl) (by kernel_rfl)]
  unfold Program.fieldsOf
  rw [Tryz.underlying32]
  simp [Op.eqFields, go_sem, Tryz.underlying30, Tryz.underlying3]
  by_cases h1 : a = c <;> by_cases h2 : b = d <;> simp [h1, h2]
theorem spot_eq (a b c d : Int) (W : World) : (binOp .eql 32 (.agg #[.int .i64 a, .int .i64 b]) (.agg #[.int .i64 c, .int .i64 d])).run Tryz.prog W = .ok (.bool (decide (a = c) && decide (b = d))) W := by
  rw [run_eql_struct, spot_eqIn]
  rfl
/-- What a Parse answers, its answer named. -/
def PaA (x : Slip) (e l : Int) (w : World) (en : Ending) (w' : World) : Prop := Below w.heap.size w w' ∧ ∃ g, en = .returned (.tuple #[sV x g, .agg #[.int .i64 e, .int .i64 l]]) ∧ SR w' x g
theorem parse_as {s : Tx} (hm : s.length ≤ 9223372036854775807) {x : Slip} {e l : Int} (h1 : (sread s).1 = x) (h2 : (sread s).2.1 = e) (h3 : ((sread s).2.2 : Int) = l) (w : World) (hL : LaidD w) : Calls Tryz.prog 18 #[.string (str s)] w (PaA x e l w) := by
  have := sParse_any s hm w hL
  unfold PaT at this
  rw [h1, h2, h3] at this
  exact this
theorem spot_ne (a b c d : Int) (W : World) : (binOp .neq 32 (.agg #[.int .i64 a, .int .i64 b]) (.agg #[.int .i64 c, .int .i64 d])).run Tryz.prog W = .ok (.bool (!(decide (a = c) && decide (b = d)))) W := by
  rw [run_neq_struct, spot_eqIn]
  rfl
end Go.Proofs.YtekcjfdllclphaaGreatDoor.gn
end
