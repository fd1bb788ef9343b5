/- Contracts of unit.Text and unit.Number: numbers as texts. -/
import Derived.Test.YtekcjfdllclphaaGreatDoorMGen
import Derived.Test.YtekcjfdllclphaaGreatDoorMDiM
import Derived.Test.YtekcjfdllclphaaGreatDoorMUnN
import Derived.Lib.SmallJoins
import Derived.Lib.AppendIntMem
import Derived.Lib.AtoiBound
import Derived.Maps.OwnOps
import Derived.Carry
import Derived.Maps.RangeWalk
section
set_option linter.unusedVariables false
namespace Go.Proofs.YtekcjfdllclphaaGreatDoor.gn
open Go.RowKit
open Go.Proofs.YtekcjfdllclphaaGreatDoor.un

/-- What the tables of the library hold. -/
structure LaidU (w : World) : Prop where
  tab : Lib.TabIs Tryz.prog w "internal/strconv.uint64pow10" .u64 Lib.pow10Tab
  syn : ∃ tp p, w.var? Tryz.prog "strconv.ErrSyntax" = some #[.iface tp p]
theorem gErrSyn : Tryz.prog.globalNamed "strconv.ErrSyntax" = some (layParseInt_ren.g 15) := by kernel_rfl
theorem LaidU.next {w w' : World} (h : LaidU w) (hb : Below w.heap.size w w') : LaidU w' := by
  refine ⟨(Lib.tabBelow_of_tabIs h.tab) w' hb, ?_⟩
  obtain ⟨tp, p, hs⟩ := h.syn
  exact ⟨tp, p, Joins.var_stays gErrSyn hs hb (Nat.le_refl _)⟩

/-- What a call answers that makes memory alone. -/
def Told (v : Value) (w : World) (e : Ending) (w' : World) : Prop := e = .returned v ∧ Below w.heap.size w w'

theorem format_any (n : Int) (h0 : -9223372036854775808 ≤ n) (h1 : n ≤ 9223372036854775807) (w : World) (hL : LaidU w) :
    Calls Tryz.prog 122 #[.int .i64 n, .int .i64 10] w (Told (.string (str (Lib.itoa n))) w) :=
  (Any.strconv_FormatInt_10 layFormatInt n h0 h1 w hL.tab).mono fun e w' ⟨he, k, os, hw⟩ => ⟨he, by subst hw; exact Lib.below_grow _ w (Nat.le_refl _) k os⟩

/-- The answer of strconv.ParseInt. -/
def TParse (o : Option Int) (w : World) (e : Ending) (w' : World) : Prop :=
  (∀ n, o = some n → e = .returned (.tuple #[.int .i64 n, .nilIface])) ∧ (o = none → ∃ t a, e = .returned (.tuple #[.int .i64 0, .iface t (.pointer (some a))])) ∧ Below w.heap.size w w'
theorem parse_any (l : List UInt8) (hl : l.length ≤ 13) (w : World) (hL : LaidU w) :
    Calls Tryz.prog 138 #[.string (str l), .int .i64 10, .int .i64 64] w (TParse (Lib.atoi l) w) := by
  have hz := str_size l
  have hd : (str l).data.toList = l := by simp [str]
  have hp := parse_short hl
  cases ha : Lib.atoi l with
  | none =>
    obtain ⟨tp, p, hs⟩ := hL.syn
    refine (Any.strconv_ParseInt_10_at64_syntax_var layParseInt (str l) (by omega) (by rw [hd, hp, ha]; rfl) tp p w hs).mono ?_
    rintro e w' ⟨N, he, _, _, hb⟩
    exact ⟨fun n h => (by cases h), fun _ => ⟨_, _, he⟩, hb⟩
  | some n =>
    refine (Any.strconv_ParseInt_10_at64_ok layParseInt (str l) (by omega) n (by rw [hd, hp, ha]; rfl) w).mono ?_
    rintro e w' ⟨he, hw⟩
    refine ⟨fun m h => (by cases h; exact he), fun h => (by cases h), ?_⟩
    rcases hw with rfl | ⟨t, rfl⟩
    · exact Below.refl _ _
    · exact Lib.bytesWorld_below _ _ _

theorem uof_any (n : Int) (w : World) : Calls Tryz.prog 121 #[.int .i64 n] w fun e w' => e = .returned (.int .i64 (min (max n 0) 1099511627776)) ∧ w = w' := by
  go_enter Tryz.func121, Tryz.ntmps121
  go_wp2
  go_ret
  exact ⟨rfl, rfl⟩

set_option maxRecDepth 100000 in
theorem text_any (n : Int) (h0 : -9223372036854775808 ≤ n) (h1 : n ≤ 9223372036854775807) (w : World) (hL : LaidU w) :
    Calls Tryz.prog 93 #[.int .i64 n] w (Told (.string (str (txt n))) w) := by
  by_cases hq : 0 ≤ n ∧ n ≤ 1099511627776
  · have e1 : txt n = Lib.itoa n := by
      unfold txt Lib.itoa
      rw [if_pos hq, if_neg (by omega)]
    have E1 := Lib.hid e1
    have HL := Lib.hid hL
    clear e1 hL
    obtain ⟨q0, q1⟩ := hq
    have hm : min (max n 0) 1099511627776 = n := by omega
    have HM := Lib.hid hm
    clear hm
    go_enter Tryz.func93, Tryz.ntmps93
    go_wp2_with (first
      | (go_at_call 121; refine (uof_any n _).mono ?_; rintro e w' ⟨rfl, rfl⟩; rw [HM.out])
      | (go_at_call 122; refine (format_any n h0 h1 _ HL.out).mono ?_; rintro e w' ⟨rfl, hb⟩; have HB := Lib.hid hb; clear hb))
    go_ret
    exact ⟨by rw [E1.out]; rfl, HB.out⟩
  · have e1 : txt n = [] := txt_out hq
    have E1 := Lib.hid e1
    clear e1
    obtain ⟨m, hm⟩ : ∃ m, m = min (max n 0) 1099511627776 := ⟨_, rfl⟩
    have hne : (n == m) = false := by
      rw [beq_eq_false_iff_ne]
      omega
    have HM := Lib.hid hm
    clear hm hq
    go_enter Tryz.func93, Tryz.ntmps93
    go_wp2_with (go_at_call 121; refine (uof_any n _).mono ?_; rintro e w' ⟨rfl, rfl⟩; rw [← HM.out])
    go_ret
    exact ⟨by rw [E1.out]; rfl, Below.refl _ _⟩

/-- A quantity that was read, and its error. -/
def qv (o : Option Nat) : Int := ((o.getD 0 : Nat) : Int)
def qe (o : Option Nat) : Int := if o.isSome then 0 else 130
def Tnum (o : Option Nat) : World → Ending → World → Prop := Told (.tuple #[.int .i64 (qv o), .int .i64 (qe o)])
theorem qv_none : qv none = 0 := rfl
theorem qe_none : qe none = 130 := rfl
theorem qv_some (n : Nat) : qv (some n) = (n : Int) := rfl
theorem qe_some (n : Nat) : qe (some n) = 0 := rfl

set_option maxRecDepth 100000 in
theorem number_long (l : List UInt8) (hl : 13 < l.length) (hm : l.length ≤ 140737488355328) (w : World) : Calls Tryz.prog 114 #[.string (str l)] w (Tnum (num? l) w) := by
  rw [num_none_long hl]
  have hz : 13 < (str l).size := by rw [str_size]; exact hl
  have hz2 : (str l).size ≤ 140737488355328 := by rw [str_size]; exact hm
  clear hl hm
  go_enter Tryz.func114, Tryz.ntmps114
  go_wp2
  go_ret2
  exact ⟨rfl, Below.refl _ _⟩

set_option maxRecDepth 100000 in
set_option maxHeartbeats 800000 in
theorem number_bad (l : List UInt8) (hl : l.length ≤ 13) (ha : Lib.atoi l = none) (w : World) (hL : LaidU w) : Calls Tryz.prog 114 #[.string (str l)] w (Tnum (num? l) w) := by
  rw [num_of_atoi_none ha]
  have hz : (str l).size ≤ 13 := by rw [str_size]; exact hl
  have HP := Lib.hid (parse_any l hl w hL)
  have HA := Lib.hid ha
  clear hl ha hL
  go_enter Tryz.func114, Tryz.ntmps114
  go_wp2_with (go_at_call 138; refine HP.out.mono ?_; rintro e w' ⟨_, h2, hb⟩; obtain ⟨t, a, rfl⟩ := h2 HA.out; have HB := Lib.hid hb; clear hb h2)
  go_ret2
  exact ⟨rfl, HB.out⟩

set_option maxRecDepth 100000 in
set_option maxHeartbeats 1600000 in
theorem number_ok (l : List UInt8) (hl : l.length ≤ 13) (n : Int) (ha : Lib.atoi l = some n) (w : World) (hL : LaidU w) : Calls Tryz.prog 114 #[.string (str l)] w (Tnum (num? l) w) := by
  have hb := Lib.atoi_bound ha (by omega)
  have hnum := num_of_atoi ha hl
  have hz : (str l).size ≤ 13 := by rw [str_size]; exact hl
  have HP := Lib.hid (parse_any l hl w hL)
  have HA := Lib.hid ha
  have HL := Lib.hid hL
  have hx : -9223372036854775808 ≤ n := by omega
  have hy : n ≤ 9223372036854775807 := by omega
  by_cases ht : txt n = l
  · rw [if_pos ht] at hnum
    rw [hnum]
    have q1 : ((str (txt n)).toList == (str l).toList) = true := by rw [ht]; simp
    have hn0 : 0 ≤ n := by
      have := num_some hnum
      rcases Int.lt_or_le n 0 with h | h
      · rw [txt_out (by omega)] at ht
        exact absurd ht.symm this.1
      · exact h
    have HV := Lib.hid (show qv (some n.toNat) = n by rw [qv_some]; omega)
    clear hl ha hL hnum ht hb hn0
    go_enter Tryz.func114, Tryz.ntmps114
    go_wp2_with (first
      | (go_at_call 138; refine HP.out.mono ?_; rintro e w' ⟨h2, _, hb⟩; obtain rfl := h2 n HA.out; have HB := Lib.hid hb; clear hb h2)
      | (go_at_call 93; refine (text_any n hx hy _ (HL.out.next HB.out)).mono ?_; rintro e w2 ⟨rfl, hb2⟩; have HB2 := Lib.hid (HB.out.trans (hb2.mono HB.out.size)); clear hb2))
    go_ret2
    exact ⟨by rw [HV.out]; rfl, HB2.out⟩
  · rw [if_neg ht] at hnum
    rw [hnum]
    have q1 : ((str (txt n)).toList == (str l).toList) = false := by
      rw [str_toList, str_toList, beq_eq_false_iff_ne]
      exact ht
    clear hl ha hL hnum ht hb
    go_enter Tryz.func114, Tryz.ntmps114
    go_wp2_with (first
      | (go_at_call 138; refine HP.out.mono ?_; rintro e w' ⟨h2, _, hb⟩; obtain rfl := h2 n HA.out; have HB := Lib.hid hb; clear hb h2)
      | (go_at_call 93; refine (text_any n hx hy _ (HL.out.next HB.out)).mono ?_; rintro e w2 ⟨rfl, hb2⟩; have HB2 := Lib.hid (HB.out.trans (hb2.mono HB.out.size)); clear hb2))
    go_ret2
    exact ⟨rfl, HB2.out⟩

theorem number_unit (l : List UInt8) (hm : l.length ≤ 140737488355328) (w : World) (hL : LaidU w) : Calls Tryz.prog 114 #[.string (str l)] w (Tnum (num? l) w) := by
  by_cases hl : 13 < l.length
  · exact number_long l hl hm w
  · cases ha : Lib.atoi l with
    | none => exact number_bad l (by omega) ha w hL
    | some n => exact number_ok l (by omega) n ha w hL
end Go.Proofs.YtekcjfdllclphaaGreatDoor.gn
end
section
set_option linter.unusedVariables false
namespace Go.Proofs.YtekcjfdllclphaaGreatDoor.gn
open Go.RowKit
open Go.Proofs.YtekcjfdllclphaaGreatDoor.un

theorem strKeyed : Go.Maps.Keyed Tryz.prog 9 := Go.Maps.string_keyed Tryz.underlying9
theorem strKey {l : List UInt8} (h : l.length ≤ maxLen) : keyOf Tryz.prog 9 (.string (str l)) = some (.string l) := by
  have := Go.WideMaps.keyOf_string_mk (P := Tryz.prog) Tryz.underlying9 (s := str l) (by rw [str_size]; exact h)
  simpa [str] using this
theorem zero64 (w : World) : (zeroValue 2).run Tryz.prog w = .ok (.int .i64 0) w := by kernel_rfl
theorem el64 (n : Int) (h : (Lit.int .i64 n).wf = true) : plainElem (H := Unit) Tryz.prog 2 (.int .i64 n) = some (.lit (.int .i64 n), []) := plainElem_int Tryz.underlying2 h

/-- The map of the units, as it reads. -/
def unitD : DataW Unit := ((((((((DataW.map []).put (.string [75, 66]) (.lit (.int .i64 1000))).put (.string [77, 66]) (.lit (.int .i64 1000000))).put (.string [71, 66]) (.lit (.int .i64 1000000000))).put (.string [84, 66]) (.lit (.int .i64 1000000000000))).put (.string [75, 105, 66]) (.lit (.int .i64 1024))).put (.string [77, 105, 66]) (.lit (.int .i64 1048576))).put (.string [71, 105, 66]) (.lit (.int .i64 1073741824))).put (.string [84, 105, 66]) (.lit (.int .i64 1099511627776))
def UM (w : World) (b : Nat) : Prop := w.ownsMap Tryz.prog 9 (plainElem (H := Unit) Tryz.prog 2) b 8 unitD
theorem UM.lt {w : World} {b : Nat} (h : UM w b) : b < w.heap.size := World.ownsMap.lt h
theorem UM.next {w w' : World} {b : Nat} (h : UM w b) (hb : Below w.heap.size w w') : UM w' b := by
  have hlt := h.lt
  obtain ⟨es, clock, h1, h2⟩ := h
  exact ⟨es, clock, (hb.block b hlt).trans h1, h2⟩
theorem UM.drew {w : World} {b : Nat} (h : UM w b) : UM w.drew b := h
theorem unitD_at {k : Nat} (hk : k < 8) : unitD.atKey (.string (nm k)) (.lit (.int .i64 0)) = .lit (.int .i64 (sz k : Nat)) := by
  rcases lt8 hk with rfl | rfl | rfl | rfl | rfl | rfl | rfl | rfl <;> kernel_rfl
theorem UM.look {w : World} {b : Nat} (h : UM w b) {k : Nat} (hk : k < 8) :
    (Instr.lookup 175 (.map (some b)) (.string (str (nm k))) false).run Tryz.prog w = .ok (.int .i64 (sz k : Nat)) w := by
  have hl : (nm k).length ≤ maxLen := Nat.le_trans (nm_len hk) (by decide)
  obtain ⟨c, hrun, hat, _⟩ := World.ownsMap.lookup_int h strKeyed Tryz.underlying175 Tryz.underlying2 (zero64 w) (strKey hl)
  rw [unitD_at hk] at hat
  simp only [DataW.lit.injEq, Lit.int.injEq, true_and] at hat
  rw [hrun, hat]

set_option maxRecDepth 100000 in
set_option maxHeartbeats 1600000 in
theorem units_any (w : World) : Calls Tryz.prog 140 #[] w fun e w' => ∃ b, e = .returned (.map (some b)) ∧ UM w' b ∧ w.heap.size ≤ b ∧ Below w.heap.size w w' := by
  have h0 := World.ownsMap_made w Tryz.prog 9 (plainElem (H := Unit) Tryz.prog 2)
  have hz : (w.alloc (.map #[] 0)).heap.size = w.heap.size + 1 := by simp
  have b0 : Below w.heap.size w (w.alloc (.map #[] 0)) := (Below.refl _ w).alloc (Nat.le_refl _) _
  have k1 : keyOf Tryz.prog 9 (.string { data := #[75, 66] }) = some (.string [75, 66]) := strKey (l := [75, 66]) (by decide)
  have k2 : keyOf Tryz.prog 9 (.string { data := #[77, 66] }) = some (.string [77, 66]) := strKey (l := [77, 66]) (by decide)
  have k3 : keyOf Tryz.prog 9 (.string { data := #[71, 66] }) = some (.string [71, 66]) := strKey (l := [71, 66]) (by decide)
  have k4 : keyOf Tryz.prog 9 (.string { data := #[84, 66] }) = some (.string [84, 66]) := strKey (l := [84, 66]) (by decide)
  have k5 : keyOf Tryz.prog 9 (.string { data := #[75, 105, 66] }) = some (.string [75, 105, 66]) := strKey (l := [75, 105, 66]) (by decide)
  have k6 : keyOf Tryz.prog 9 (.string { data := #[77, 105, 66] }) = some (.string [77, 105, 66]) := strKey (l := [77, 105, 66]) (by decide)
  have k7 : keyOf Tryz.prog 9 (.string { data := #[71, 105, 66] }) = some (.string [71, 105, 66]) := strKey (l := [71, 105, 66]) (by decide)
  have k8 : keyOf Tryz.prog 9 (.string { data := #[84, 105, 66] }) = some (.string [84, 105, 66]) := strKey (l := [84, 105, 66]) (by decide)
  obtain ⟨w1, r1, o1, g1⟩ := h0.update strKeyed Tryz.underlying175 (by decide) k1 (el64 1000 (by decide))
  obtain ⟨w2, r2, o2, g2⟩ := o1.update strKeyed Tryz.underlying175 (by decide) k2 (el64 1000000 (by decide))
  obtain ⟨w3, r3, o3, g3⟩ := o2.update strKeyed Tryz.underlying175 (by decide) k3 (el64 1000000000 (by decide))
  obtain ⟨w4, r4, o4, g4⟩ := o3.update strKeyed Tryz.underlying175 (by decide) k4 (el64 1000000000000 (by decide))
  obtain ⟨w5, r5, o5, g5⟩ := o4.update strKeyed Tryz.underlying175 (by decide) k5 (el64 1024 (by decide))
  obtain ⟨w6, r6, o6, g6⟩ := o5.update strKeyed Tryz.underlying175 (by decide) k6 (el64 1048576 (by decide))
  obtain ⟨w7, r7, o7, g7⟩ := o6.update strKeyed Tryz.underlying175 (by decide) k7 (el64 1073741824 (by decide))
  obtain ⟨w8, r8, o8, g8⟩ := o7.update strKeyed Tryz.underlying175 (by decide) k8 (el64 1099511627776 (by decide))
  have hg : (w.alloc (.map #[] 0)).grownBy w8 (some w.heap.size) := But.trans (But.trans (But.trans (But.trans (But.trans (But.trans (But.trans g1 g2) g3) g4) g5) g6) g7) g8
  have HB := Lib.hid (b0.grown hg (by rw [hz]; omega) (fun k hk => by cases hk; exact Nat.le_refl _))
  have HU := Lib.hid (show UM w8 w.heap.size from o8)
  clear h0 hz b0 k1 k2 k3 k4 k5 k6 k7 k8 o1 o2 o3 o4 o5 o6 o7 o8 g1 g2 g3 g4 g5 g6 g7 g8 hg
  have hmm := @run_makeMap Tryz.prog
  go_enter Tryz.func140, Tryz.ntmps140
  go_wp2
  go_ret
  exact ⟨_, rfl, HU.out, Nat.le_refl _, HB.out⟩

/-- The units' names, in their order. -/
def ordV : Array Value := #[.string { data := #[84, 105, 66] }, .string { data := #[71, 105, 66] }, .string { data := #[77, 105, 66] }, .string { data := #[75, 105, 66] }, .string { data := #[84, 66] }, .string { data := #[71, 66] }, .string { data := #[77, 66] }, .string { data := #[75, 66] }]
theorem ordV_at {k : Nat} (hk : k < 8) : ordV[k]? = some (.string (str (nm k))) := by
  rcases lt8 hk with rfl | rfl | rfl | rfl | rfl | rfl | rfl | rfl <;> rfl

set_option maxRecDepth 100000 in
theorem order_any (w : World) : Calls Tryz.prog 141 #[] w (Told (.agg ordV) w) := by
  go_enter Tryz.func141, Tryz.ntmps141
  go_wp2
  have hg : (w.alloc (.cells ordV 177)).heap[w.heap.size]? = some (.cells ordV 177 (0, 0)) := by
    show (w.heap.push _)[w.heap.size]? = _
    rw [Array.getElem?_push_size]
  exact bodyPost_ret (v := .agg ordV) (results_cell_row rfl _ _ _ _ _ _ _ rfl hg Tryz.underlying177 rfl (by kernel_rfl)) rfl ⟨rfl, (Below.refl _ w).alloc (Nat.le_refl _) _⟩
theorem order_at (w : World) {k : Nat} (hk : k < 8) : (Instr.index 177 (.agg ordV) (.int .i64 (k : Int))).run Tryz.prog w = .ok (.string (str (nm k))) w := by
  rcases lt8 hk with rfl | rfl | rfl | rfl | rfl | rfl | rfl | rfl <;> kernel_rfl
end Go.Proofs.YtekcjfdllclphaaGreatDoor.gn
end
