/- Contracts of unit.Text and unit.Number: numbers as texts. -/
import Derived.Test.YtpmghgfgbkncoaaGreatDoorMGen
import Derived.Test.YtpmghgfgbkncoaaGreatDoorUnLay
import Derived.Test.YtpmghgfgbkncoaaGreatDoorMUnM
import Derived.Lib.SmallJoins
import Derived.Lib.AppendIntMem
import Derived.Lib.AtoiBound
section
set_option linter.unusedVariables false
namespace Go.Proofs.YtpmghgfgbkncoaaGreatDoor.gn
open Go.RowKit
open Go.Proofs.YtpmghgfgbkncoaaGreatDoor.un

/-- What the tables of the library hold. -/
structure LaidU (w : World) : Prop where
  tab : Lib.TabIs Tryz.prog w "internal/strconv.uint64pow10" .u64 Lib.pow10Tab
  syn : ∃ tp p, w.var? Tryz.prog "strconv.ErrSyntax" = some #[.iface tp p]
theorem gErrSyn : Tryz.prog.globalNamed "strconv.ErrSyntax" = some (layParseInt_ren.g 15) := by kernel_rfl
theorem LaidU.next {w w' : World} (h : LaidU w) (hb : Below w.heap.size w w') : LaidU w' := by
  refine ⟨(Lib.tabBelow_of_tabIs h.tab) w' hb, ?_⟩
  obtain ⟨tp, p, hs⟩ := h.syn
  exact ⟨tp, p, Joins.var_stays gErrSyn hs hb (Nat.le_refl _)⟩

/-- What a call answers that makes memory alone. -/
def Told (v : Value) (w : World) (e : Ending) (w' : World) : Prop := e = .returned v ∧ Below w.heap.size w w'

theorem format_any (n : Int) (h0 : -9223372036854775808 ≤ n) (h1 : n ≤ 9223372036854775807) (w : World) (hL : LaidU w) :
    Calls Tryz.prog 75 #[.int .i64 n, .int .i64 10] w (Told (.string (str (Lib.itoa n))) w) :=
  (Any.strconv_FormatInt_10 layFormatInt n h0 h1 w hL.tab).mono fun e w' ⟨he, k, os, hw⟩ => ⟨he, by subst hw; exact Lib.below_grow _ w (Nat.le_refl _) k os⟩

/-- The answer of strconv.ParseInt. -/
def TParse (o : Option Int) (w : World) (e : Ending) (w' : World) : Prop :=
  (∀ n, o = some n → e = .returned (.tuple #[.int .i64 n, .nilIface])) ∧ (o = none → ∃ t a, e = .returned (.tuple #[.int .i64 0, .iface t (.pointer (some a))])) ∧ Below w.heap.size w w'
theorem parse_any (l : List UInt8) (hl : l.length ≤ 13) (w : World) (hL : LaidU w) :
    Calls Tryz.prog 128 #[.string (str l), .int .i64 10, .int .i64 64] w (TParse (Lib.atoi l) w) := by
  have hz := str_size l
  have hd : (str l).data.toList = l := by simp [str]
  have hp := parse_short hl
  cases ha : Lib.atoi l with
  | none =>
    obtain ⟨tp, p, hs⟩ := hL.syn
    refine (Any.strconv_ParseInt_10_at64_syntax_var layParseInt (str l) (by omega) (by rw [hd, hp, ha]; rfl) tp p w hs).mono ?_
    rintro e w' ⟨N, he, _, _, hb⟩
    exact ⟨fun n h => (by cases h), fun _ => ⟨_, _, he⟩, hb⟩
  | some n =>
    refine (Any.strconv_ParseInt_10_at64_ok layParseInt (str l) (by omega) n (by rw [hd, hp, ha]; rfl) w).mono ?_
    rintro e w' ⟨he, hw⟩
    refine ⟨fun m h => (by cases h; exact he), fun h => (by cases h), ?_⟩
    rcases hw with rfl | ⟨t, rfl⟩
    · exact Below.refl _ _
    · exact Lib.bytesWorld_below _ _ _

theorem uof_any (n : Int) (w : World) : Calls Tryz.prog 74 #[.int .i64 n] w fun e w' => e = .returned (.int .i64 (min (max n 0) 1099511627776)) ∧ w = w' := by
  go_enter Tryz.func74, Tryz.ntmps74
  go_wp2
  go_ret
  exact ⟨rfl, rfl⟩

set_option maxRecDepth 100000 in
theorem text_any (n : Int) (h0 : -9223372036854775808 ≤ n) (h1 : n ≤ 9223372036854775807) (w : World) (hL : LaidU w) :
    Calls Tryz.prog 52 #[.int .i64 n] w (Told (.string (str (txt n))) w) := by
  by_cases hq : 0 ≤ n ∧ n ≤ 1099511627776
  · have e1 : txt n = Lib.itoa n := by
      unfold txt Lib.itoa
      rw [if_pos hq, if_neg (by omega)]
    have E1 := Lib.hid e1
    have HL := Lib.hid hL
    clear e1 hL
    obtain ⟨q0, q1⟩ := hq
    have hm : min (max n 0) 1099511627776 = n := by omega
    have HM := Lib.hid hm
    clear hm
    go_enter Tryz.func52, Tryz.ntmps52
    go_wp2_with (first
      | (go_at_call 74; refine (uof_any n _).mono ?_; rintro e w' ⟨rfl, rfl⟩; rw [HM.out])
      | (go_at_call 75; refine (format_any n h0 h1 _ HL.out).mono ?_; rintro e w' ⟨rfl, hb⟩; have HB := Lib.hid hb; clear hb))
    go_ret
    exact ⟨by rw [E1.out]; rfl, HB.out⟩
  · have e1 : txt n = [] := txt_out hq
    have E1 := Lib.hid e1
    clear e1
    obtain ⟨m, hm⟩ : ∃ m, m = min (max n 0) 1099511627776 := ⟨_, rfl⟩
    have hne : (n == m) = false := by
      rw [beq_eq_false_iff_ne]
      omega
    have HM := Lib.hid hm
    clear hm hq
    go_enter Tryz.func52, Tryz.ntmps52
    go_wp2_with (go_at_call 74; refine (uof_any n _).mono ?_; rintro e w' ⟨rfl, rfl⟩; rw [← HM.out])
    go_ret
    exact ⟨by rw [E1.out]; rfl, Below.refl _ _⟩

/-- A quantity that was read, and its error. -/
def qv (o : Option Nat) : Int := ((o.getD 0 : Nat) : Int)
def qe (o : Option Nat) : Int := if o.isSome then 0 else 130
def Tnum (o : Option Nat) : World → Ending → World → Prop := Told (.tuple #[.int .i64 (qv o), .int .i64 (qe o)])
theorem qv_none : qv none = 0 := rfl
theorem qe_none : qe none = 130 := rfl
theorem qv_some (n : Nat) : qv (some n) = (n : Int) := rfl
theorem qe_some (n : Nat) : qe (some n) = 0 := rfl

set_option maxRecDepth 100000 in
theorem number_long (l : List UInt8) (hl : 13 < l.length) (hm : l.length ≤ 140737488355328) (w : World) : Calls Tryz.prog 113 #[.string (str l)] w (Tnum (num? l) w) := by
  rw [num_none_long hl]
  have hz : 13 < (str l).size := by rw [str_size]; exact hl
  have hz2 : (str l).size ≤ 140737488355328 := by rw [str_size]; exact hm
  clear hl hm
  go_enter Tryz.func113, Tryz.ntmps113
  go_wp2
  go_ret2
  exact ⟨rfl, Below.refl _ _⟩

set_option maxRecDepth 100000 in
set_option maxHeartbeats 800000 in
theorem number_bad (l : List UInt8) (hl : l.length ≤ 13) (ha : Lib.atoi l = none) (w : World) (hL : LaidU w) : Calls Tryz.prog 113 #[.string (str l)] w (Tnum (num? l) w) := by
  rw [num_of_atoi_none ha]
  have hz : (str l).size ≤ 13 := by rw [str_size]; exact hl
  have HP := Lib.hid (parse_any l hl w hL)
  have HA := Lib.hid ha
  clear hl ha hL
  go_enter Tryz.func113, Tryz.ntmps113
  go_wp2_with (go_at_call 128; refine HP.out.mono ?_; rintro e w' ⟨_, h2, hb⟩; obtain ⟨t, a, rfl⟩ := h2 HA.out; have HB := Lib.hid hb; clear hb h2)
  go_ret2
  exact ⟨rfl, HB.out⟩

set_option maxRecDepth 100000 in
set_option maxHeartbeats 1600000 in
theorem number_ok (l : List UInt8) (hl : l.length ≤ 13) (n : Int) (ha : Lib.atoi l = some n) (w : World) (hL : LaidU w) : Calls Tryz.prog 113 #[.string (str l)] w (Tnum (num? l) w) := by
  have hb := Lib.atoi_bound ha (by omega)
  have hnum := num_of_atoi ha hl
  have hz : (str l).size ≤ 13 := by rw [str_size]; exact hl
  have HP := Lib.hid (parse_any l hl w hL)
  have HA := Lib.hid ha
  have HL := Lib.hid hL
  have hx : -9223372036854775808 ≤ n := by omega
  have hy : n ≤ 9223372036854775807 := by omega
  by_cases ht : txt n = l
  · rw [if_pos ht] at hnum
    rw [hnum]
    have q1 : ((str (txt n)).toList == (str l).toList) = true := by rw [ht]; simp
    have hn0 : 0 ≤ n := by
      have := num_some hnum
      rcases Int.lt_or_le n 0 with h | h
      · rw [txt_out (by omega)] at ht
        exact absurd ht.symm this.1
      · exact h
    have HV := Lib.hid (show qv (some n.toNat) = n by rw [qv_some]; omega)
    clear hl ha hL hnum ht hb hn0
    go_enter Tryz.func113, Tryz.ntmps113
    go_wp2_with (first
      | (go_at_call 128; refine HP.out.mono ?_; rintro e w' ⟨h2, _, hb⟩; obtain rfl := h2 n HA.out; have HB := Lib.hid hb; clear hb h2)
      | (go_at_call 52; refine (text_any n hx hy _ (HL.out.next HB.out)).mono ?_; rintro e w2 ⟨rfl, hb2⟩; have HB2 := Lib.hid (HB.out.trans (hb2.mono HB.out.size)); clear hb2))
    go_ret2
    exact ⟨by rw [HV.out]; rfl, HB2.out⟩
  · rw [if_neg ht] at hnum
    rw [hnum]
    have q1 : ((str (txt n)).toList == (str l).toList) = false := by
      rw [str_toList, str_toList, beq_eq_false_iff_ne]
      exact ht
    clear hl ha hL hnum ht hb
    go_enter Tryz.func113, Tryz.ntmps113
    go_wp2_with (first
      | (go_at_call 128; refine HP.out.mono ?_; rintro e w' ⟨h2, _, hb⟩; obtain rfl := h2 n HA.out; have HB := Lib.hid hb; clear hb h2)
      | (go_at_call 52; refine (text_any n hx hy _ (HL.out.next HB.out)).mono ?_; rintro e w2 ⟨rfl, hb2⟩; have HB2 := Lib.hid (HB.out.trans (hb2.mono HB.out.size)); clear hb2))
    go_ret2
    exact ⟨rfl, HB2.out⟩

theorem number_unit (l : List UInt8) (hm : l.length ≤ 140737488355328) (w : World) (hL : LaidU w) : Calls Tryz.prog 113 #[.string (str l)] w (Tnum (num? l) w) := by
  by_cases hl : 13 < l.length
  · exact number_long l hl hm w
  · cases ha : Lib.atoi l with
    | none => exact number_bad l (by omega) ha w hL
    | some n => exact number_ok l (by omega) n ha w hL
end Go.Proofs.YtpmghgfgbkncoaaGreatDoor.gn
end
