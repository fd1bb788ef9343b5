/- The contracts of appendInt, appendText and appendFlag. -/
import Derived.Test.YtjfachkonnfldaaPackA
import Derived.Test.YtjfachkonnfldaaPackM
import Derived.Lib.AppendStr
import Derived.Outline
namespace Go.Proofs.Ytjfachkonnfldaa
open Go.RowKit

set_option maxHeartbeats 400000 in
theorem appendInt_any (B : Nat) (x : Int) (l : List UInt8) (h0 : -9223372036854775808 ≤ x) (hx : x < 9223372036854775808) (sv : Value) (w : World) (hown : Bs w B sv l) (hBw : B ≤ w.heap.size) (hlim : l.length + 10 ≤ 140737488355328) :
    Calls Try.prog 31 #[sv, .int .i64 x] w fun e w' => ∃ v', e = .returned v' ∧ Bs w' B v' (l ++ Lib.uvarint (Lib.zigzag x)) ∧ Below B w w' := by
  have HO := Lib.hid hown
  clear hown
  have hz := zigzag_lt x h0 hx
  by_cases hs : 0 ≤ x
  · go_enter Try.func31, Try.ntmps31
    go_wp2_with fail
    rw [zig_pos x hs hx]
    refine (appendNum_any B _ l hz sv _ HO.out hBw hlim).mono ?_
    rintro e w1 ⟨v', rfl, hB, hb⟩
    go_wp2
    go_ret
    exact ⟨v', rfl, hB, hb⟩
  · have hs' : x < 0 := by omega
    clear hs
    go_enter Try.func31, Try.ntmps31
    go_wp2_with fail
    rw [zig_neg x hs' h0]
    refine (appendNum_any B _ l hz sv _ HO.out hBw hlim).mono ?_
    rintro e w1 ⟨v', rfl, hB, hb⟩
    go_wp2
    go_ret
    exact ⟨v', rfl, hB, hb⟩

theorem strCells_eq (s : ByteArray) : Lib.strCells s = Lib.byteCells s.data.toList := rfl

/-- The bytes of a string packed. -/
def txt (s : ByteArray) : List UInt8 := Lib.uvarint s.size ++ s.data.toList

set_option maxHeartbeats 400000 in
theorem appendText_any (B : Nat) (s : ByteArray) (l : List UInt8) (hs : s.size ≤ maxLen) (sv : Value) (w : World) (hown : Bs w B sv l) (hBw : B ≤ w.heap.size) (hlim : l.length + s.size + 10 ≤ 140737488355328) :
    Calls Try.prog 33 #[sv, .string s] w fun e w' => ∃ v', e = .returned v' ∧ Bs w' B v' (l ++ txt s) ∧ Below B w w' := by
  obtain ⟨i0, hi, hz0, hz1, hz2⟩ := info_parts Try.info5
  have HO := Lib.hid hown
  clear hown
  unfold maxLen at hs
  have hul := Lib.uvarint_length64 (x := s.size) (by omega)
  have hll : (l ++ Lib.uvarint s.size).length = l.length + (Lib.uvarint s.size).length := List.length_append
  have HL := Lib.hid hll
  clear hll
  go_enter Try.func33, Try.ntmps33
  go_wp2_with fail
  refine (appendNum_any B _ l (by omega) sv _ HO.out hBw (by omega)).mono ?_
  rintro e w1 ⟨v', rfl, hB, hb⟩
  unfold Bs at hB
  have hw1 : B ≤ w1.heap.size := by have := hb.size; omega
  go_wp2_with (at_builtin; refine Lib.wpList_append_own_string _ rfl _ _ 24 9 rfl B 5 i0 Try.underlying24 Try.underlying9 hi hz0 hz1 hz2 _ _ _ rfl hB s rfl ?c1 ?c2 ?c3 ?_)
  case c1 => have := HL.out; unfold maxLen; omega
  case c2 => have := HL.out; omega
  case c3 => exact hw1
  intro v2 w2 hown2 hgrow _
  have hb2 : Below B w w2 := hb.grown hgrow hw1 (fun k hk => (hB.lt k hk).1)
  go_wp2
  go_ret
  refine ⟨v2, rfl, ?_, hb2⟩
  unfold Bs txt
  have el : s.data.toList.length = s.size := by rw [Array.length_toList]; rfl
  rw [← List.append_assoc, byteCells_app, List.length_append, HL.out, el, ← strCells_eq]
  exact hown2

/-- The bytes of a flag packed. -/
def flg (b : Bool) : List UInt8 := [if b then 1 else 0]

set_option maxHeartbeats 400000 in
theorem appendFlag_any (B : Nat) (f : Bool) (l : List UInt8) (sv : Value) (w : World) (hown : Bs w B sv l) (hBw : B ≤ w.heap.size) (hlim : l.length + 10 ≤ 140737488355328) :
    Calls Try.prog 35 #[sv, .bool f] w fun e w' => ∃ v', e = .returned v' ∧ Bs w' B v' (l ++ flg f) ∧ Below B w w' := by
  obtain ⟨i0, hi, hz0, hz1, hz2⟩ := info_parts Try.info5
  unfold Bs at hown
  cases f
  · go_enter Try.func35, Try.ntmps35
    go_wp2_with (at_builtin; refine wpList_append_own _ rfl _ _ 24 rfl B 5 i0 (.int .u8 0) 1 1 Try.underlying24 hi hz0 hz1 hz2 rfl (by decide) _ _ _ rfl (hown.alloc _) ⟨w.heap.size, 0, none⟩ 1 1 [Value.int .u8 0] rfl rfl ?c1 ?c2 ?c3 ?c4 ?c5 ?_)
    case c1 =>
      intro j u hj
      match j, hj with
      | 0, hj => simp at hj; subst hj; simp [Addr.add]
    case c2 => intro u hu; simp at hu; subst hu; rfl
    case c3 => unfold maxLen; omega
    case c4 => omega
    case c5 => simp; omega
    intro v2 w2 hown2 hgrow _
    have hb2 : Below B w w2 := ((Below.refl B w).alloc hBw _).grown hgrow (by simp; omega) (fun k hk => (hown.lt k hk).1)
    go_wp2
    go_ret
    refine ⟨v2, rfl, ?_, hb2⟩
    unfold Bs flg
    rw [byteCells_app, List.length_append]
    exact hown2
  · go_enter Try.func35, Try.ntmps35
    go_wp2_with (at_builtin; refine wpList_append_own _ rfl _ _ 24 rfl B 5 i0 (.int .u8 0) 1 1 Try.underlying24 hi hz0 hz1 hz2 rfl (by decide) _ _ _ rfl (hown.alloc _) ⟨w.heap.size, 0, none⟩ 1 1 [Value.int .u8 1] rfl rfl ?c1 ?c2 ?c3 ?c4 ?c5 ?_)
    case c1 =>
      intro j u hj
      match j, hj with
      | 0, hj => simp at hj; subst hj; simp [Addr.add]
    case c2 => intro u hu; simp at hu; subst hu; rfl
    case c3 => unfold maxLen; omega
    case c4 => omega
    case c5 => simp; omega
    intro v2 w2 hown2 hgrow _
    have hb2 : Below B w w2 := ((Below.refl B w).alloc hBw _).grown hgrow (by simp; omega) (fun k hk => (hown.lt k hk).1)
    go_wp2
    go_ret
    refine ⟨v2, rfl, ?_, hb2⟩
    unfold Bs flg
    rw [byteCells_app, List.length_append]
    exact hown2

end Go.Proofs.Ytjfachkonnfldaa
