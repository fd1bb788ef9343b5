/- The document's Great of orders; what a law's argument may be. -/
import Derived.Test.YtekcjfdllclphaaGreatDoorMOrI
import Derived.Test.YtekcjfdllclphaaGreatDoorMOrF
import Derived.Test.YtekcjfdllclphaaGreatDoorMSlGr
import Derived.Test.YtekcjfdllclphaaGreatDoorMSlPa
import Derived.Test.YtekcjfdllclphaaGreatDoorMSlSa
import Derived.Laws.StructEq
section
set_option linter.unusedVariables false
set_option linter.unusedSimpArgs false
namespace Go.Proofs.YtekcjfdllclphaaGreatDoor.gn
open Go.RowKit
open Go.Proofs.YtekcjfdllclphaaGreatDoor.un
open Go.Proofs.YtekcjfdllclphaaGreatDoor.di
open Go.Proofs.YtekcjfdllclphaaGreatDoor.sp (Slip)
open Go.Proofs.YtekcjfdllclphaaGreatDoor.od (Ord)

/-- An order that comes in. -/
structure OA (o : Ord) : Prop where
  job : -9223372036854775808 ≤ o.job ∧ o.job ≤ 9223372036854775807
  n : -9223372036854775808 ≤ o.n ∧ o.n ≤ 9223372036854775807
  size : -9223372036854775808 ≤ o.size ∧ o.size ≤ 9223372036854775807
  name : o.name.length ≤ 9223372036854775807
  pool : o.pool.length ≤ 9223372036854775807
  user : o.user.length ≤ 9223372036854775807
  kind : o.kind ≤ 255
  slip : SW o.slip
/-- An order that a statement looks at. -/
structure OLook (o : Ord) : Prop where
  name : o.name.length ≤ 100
  pool : o.pool.length ≤ 100
  user : o.user.length ≤ 100
  slip : Look o.slip
theorem OA.ow {o : Ord} (h : OA o) (hl : OLook o) : OW o := ⟨h.job, h.n, h.size, by have := hl.name; omega, by have := hl.pool; omega, by have := hl.user; omega, h.kind⟩
def OGrT (o : Ord) (w : World) (e : Ending) (w' : World) : Prop := ∃ b : Bool, e = .returned (.bool b) ∧ (b = false → OLook o) ∧ Below w.heap.size w w'
set_option maxRecDepth 100000 in
set_option maxHeartbeats 8000000 in
theorem ogreat_any (o : Ord) (g : Gh) (w : World) (h : SR w o.slip g) (ha : OA o) : Calls Tryz.prog 11 #[oV o g] w (OGrT o w) := by
  obtain ⟨wb, hwb⟩ : ∃ wb, w.alloc (.cells (ocs o g) 29) = wb := ⟨_, rfl⟩
  have hob : OrdB wb w.heap.size o g := by rw [← hwb]; exact BoxA.new _ _ _
  have hB1 : Below w.heap.size w wb := by rw [← hwb]; exact (Below.refl _ _).alloc (Nat.le_refl _) _
  have HB1 := Lib.hid hB1
  have HWB := Lib.hid hwb
  have HGR := Lib.hid (great_any o.slip g wb (h.next hB1) ha.slip)
  obtain ⟨-, -, -, c3, c4, c5, -, -, t8, t9, t10, t11, t12, t13, t14, t15, t16, t17, t18, t19, clt⟩ := ocel hob
  have z1 := str_size o.name
  have z2 := str_size o.pool
  have z3 := str_size o.user
  have y1 : (str o.name).size ≤ 9223372036854775807 := by rw [z1]; exact ha.name
  have y2 : (str o.pool).size ≤ 9223372036854775807 := by rw [z2]; exact ha.pool
  have y3 : (str o.user).size ≤ 9223372036854775807 := by rw [z3]; exact ha.user
  clear h ha hB1 hwb hob
  go_enter Tryz.func11, Tryz.ntmps11
  apply wp_seq_k
  intro K hK
  apply wp_region_lit
  refine Great.wpList_boxTo rfl _ _ rfl _ rfl w.heap.size rfl (ocs o g) rfl ?_
  rw [HWB.out]
  by_cases g0 : 100 < o.name.length
  · have x0 : 100 < (str o.name).size := by omega
    clear HGR
    go_wp2
    go_ret
    exact ⟨true, rfl, (fun h => by cases h), HB1.out⟩
  · have x0 : ¬ 100 < (str o.name).size := by omega
    by_cases g1 : 100 < o.pool.length
    · have x1 : 100 < (str o.pool).size := by omega
      clear HGR
      go_wp2
      go_ret
      exact ⟨true, rfl, (fun h => by cases h), HB1.out⟩
    · have x1 : ¬ 100 < (str o.pool).size := by omega
      by_cases g2 : 100 < o.user.length
      · have x2 : 100 < (str o.user).size := by omega
        clear HGR
        go_wp2
        go_ret
        exact ⟨true, rfl, (fun h => by cases h), HB1.out⟩
      · have x2 : ¬ 100 < (str o.user).size := by omega
        have HL := Lib.hid (show o.name.length ≤ 100 ∧ o.pool.length ≤ 100 ∧ o.user.length ≤ 100 by omega)
        have HD := Lib.hid (show decide (100 < ((str o.name).size : Int)) = false ∧ decide (100 < ((str o.pool).size : Int)) = false ∧ decide (100 < ((str o.user).size : Int)) = false from ⟨decide_eq_false (by omega), decide_eq_false (by omega), decide_eq_false (by omega)⟩)
        obtain ⟨va, vm, vd, vu⟩ := g
        unfold sV scs at HGR
        dsimp only at HGR t8 t9 t10 t11 t12 t13 t14 t15 t16 t17 t18 t19
        clear g0 g1 g2 z1 z2 z3
        go_wp2_with (go_at_call 27; ((with_reducible refine HGR.out.mono ?_); rintro e w1 ⟨b, rfl, hlk, hb⟩); have A1 := Lib.hid hb; have HK := Lib.hid hlk; clear hb hlk)
        go_ret
        refine ⟨b, ?_, fun e => ⟨HL.out.1, HL.out.2.1, HL.out.2.2, HK.out e⟩, HB1.out.trans (A1.out.mono HB1.out.size)⟩
        show Ending.returned (.bool (decide (100 < ((str o.name).size : Int)) || decide (100 < ((str o.pool).size : Int)) || decide (100 < ((str o.user).size : Int)) || b)) = _
        rw [HD.out.1, HD.out.2.1, HD.out.2.2]
        rfl
end Go.Proofs.YtekcjfdllclphaaGreatDoor.gn
end
section
set_option linter.unusedVariables false
set_option linter.unusedSimpArgs false
namespace Go.Proofs.YtekcjfdllclphaaGreatDoor.gn
open Go.RowKit
open Go.Proofs.YtekcjfdllclphaaGreatDoor.un
open Go.Proofs.YtekcjfdllclphaaGreatDoor.di
open Go.Proofs.YtekcjfdllclphaaGreatDoor.sp (Slip sread)

theorem boxes_a (w : World) (z : Array Value) (t : TypeId) (y : Array Value) (u : TypeId) : ((w.alloc (.cells z t)).alloc (.cells y u)).heap[w.heap.size]? = some (.cells z t (0, 0)) := BoxA.next (BoxA.new w t z) ((Below.refl _ _).alloc (Nat.le_refl _) _)
theorem boxes_b (w : World) (z : Array Value) (t : TypeId) (y : Array Value) (u : TypeId) (cs : Array Value) : (((w.alloc (.cells z t)).alloc (.cells y u)).setRow w.heap.size cs).heap[w.heap.size + 1]? = some (.cells y u (0, 0)) := by
  have := BoxA.new (w.alloc (.cells z t)) u y
  rw [World.size_alloc] at this
  exact (setRow_other _ _ _ _ (by omega)).trans this
theorem boxes_end (w : World) (z y cs ds : Array Value) (t u : TypeId) : ∃ W, (((w.alloc (.cells z t)).alloc (.cells y u)).setRow w.heap.size cs).setRow (w.heap.size + 1) ds = W ∧ BoxA W w.heap.size t cs ∧ BoxA W (w.heap.size + 1) u ds ∧ Below w.heap.size w W :=
  ⟨_, rfl, (setRow_other _ _ _ _ (by omega)).trans (setRow_heap _ _ _ _ _ _ (boxes_a w z t y u)), setRow_heap _ _ _ _ _ _ (boxes_b w z t y u cs), below_setRow (below_setRow (((Below.refl _ w).alloc (Nat.le_refl _) _).alloc (by simp) _) (Nat.le_refl _) _) (by omega) _⟩
theorem spot_eqIn (a b c d : Int) (W : World) : (Op.equalIn 10000 32 (.agg #[.int .i64 a, .int .i64 b]) (.agg #[.int .i64 c, .int .i64 d])).run Tryz.prog W = .ok (decide (a = c) && decide (b = d)) W := by
  rw [run_equalIn_agg W 9999 32 #[.int .i64 a, .int .i64 b] #[.int .i64 c, .int .i64 d] (by kernel_rfl) (by kernel_rfl)]
  unfold Program.fieldsOf
  rw [Tryz.underlying32]
  simp [Op.eqFields, go_sem, Tryz.underlying30, Tryz.underlying3]
  by_cases h1 : a = c <;> by_cases h2 : b = d <;> simp [h1, h2]
theorem spot_eq (a b c d : Int) (W : World) : (binOp .eql 32 (.agg #[.int .i64 a, .int .i64 b]) (.agg #[.int .i64 c, .int .i64 d])).run Tryz.prog W = .ok (.bool (decide (a = c) && decide (b = d))) W := by
  rw [run_eql_struct, spot_eqIn]
  rfl
/-- What a Parse answers, its answer named. -/
def PaA (x : Slip) (e l : Int) (w : World) (en : Ending) (w' : World) : Prop := Below w.heap.size w w' ∧ ∃ g, en = .returned (.tuple #[sV x g, .agg #[.int .i64 e, .int .i64 l]]) ∧ SR w' x g
theorem parse_as {s : Tx} (hm : s.length ≤ 9223372036854775807) {x : Slip} {e l : Int} (h1 : (sread s).1 = x) (h2 : (sread s).2.1 = e) (h3 : ((sread s).2.2 : Int) = l) (w : World) (hL : LaidD w) : Calls Tryz.prog 18 #[.string (str s)] w (PaA x e l w) := by
  have := sParse_any s hm w hL
  unfold PaT at this
  rw [h1, h2, h3] at this
  exact this
theorem spot_ne (a b c d : Int) (W : World) : (binOp .neq 32 (.agg #[.int .i64 a, .int .i64 b]) (.agg #[.int .i64 c, .int .i64 d])).run Tryz.prog W = .ok (.bool (!(decide (a = c) && decide (b = d)))) W := by
  rw [run_neq_struct, spot_eqIn]
  rfl
end Go.Proofs.YtekcjfdllclphaaGreatDoor.gn
end
