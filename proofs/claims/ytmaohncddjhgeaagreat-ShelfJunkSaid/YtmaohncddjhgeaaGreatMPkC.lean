/- In the namespace gn: the contracts of appendEach for numbers, and of Num. -/
import Derived.Test.YtmaohncddjhgeaaGreatMPkA
import Derived.Test.YtmaohncddjhgeaaGreatMPackM
import Derived.Laws.BytesArg
import Derived.Laws.IdiomStrings
section
namespace Go.Proofs.YtmaohncddjhgeaaGreat.gn
open Go.RowKit

theorem flat_snoc {α : Type} (f : α → List UInt8) (zs : List α) (k : Nat) (x : α) (h : zs[k]? = some x) : (zs.take (k + 1)).flatMap f = (zs.take k).flatMap f ++ f x := by
  have hk : k < zs.length := (List.getElem?_eq_some_iff.1 h).1
  have hx : zs[k] = x := (List.getElem?_eq_some_iff.1 h).2
  rw [List.take_succ_eq_append_getElem hk, List.flatMap_append, hx]
  simp

theorem flat_le {α : Type} (f : α → List UInt8) (zs : List α) (k : Nat) : ((zs.take k).flatMap f).length ≤ (zs.flatMap f).length := by
  have h : zs.flatMap f = (zs.take k).flatMap f ++ (zs.drop k).flatMap f := by rw [← List.flatMap_append, List.take_append_drop]
  rw [h, List.length_append]
  omega

theorem byteCells_one' (l : List UInt8) : ∀ u ∈ Lib.byteCells l, u.oneCell' = true := by
  intro u hu
  simp only [Lib.byteCells, List.mem_map] at hu
  obtain ⟨c, _, rfl⟩ := hu
  rfl

set_option maxRecDepth 100000 in
set_option maxHeartbeats 800000 in
theorem eachNum_any (bs : List UInt8) (zs : List Nat) (hz : ∀ x : Nat, x ∈ zs → x < 18446744073709551616) (b0 : Nat) (bv : Value) (bl off cap : Nat) (w : World) (hown : Bs w b0 bv bs)
    (hc : ∀ (j : Nat) (x : Nat), zs[j]? = some x → w.cell? ⟨bl, off + j, none⟩ = some (.int .u64 (x : Int))) (hbl : bl < w.heap.size)
    (hlim : bs.length + (zs.flatMap Lib.uvarint).length + zs.length + 100 ≤ 140737488355328) :
    Calls Tryz.prog 92 #[bv, .slice (some ⟨bl, off, none⟩) zs.length cap, .func (.func 93) #[] #[]] w fun e w' =>
      ∃ v', e = .returned v' ∧ Bs w' w.heap.size v' (bs ++ zs.flatMap Lib.uvarint) ∧ Below w.heap.size w w' := by
  obtain ⟨i0, hi, hz0, hz1, hz2⟩ := info_parts Tryz.info5
  have HC := Lib.hid hc
  have HZ := Lib.hid hz
  clear hc hz
  rcases Bs_cases hown with ⟨rfl, rfl⟩ | ⟨g, cp, rfl, hg, _, hle, hcp, hcl⟩
  · go_enter Tryz.func92, Tryz.ntmps92
    go_wp2_with (at_make; refine wpList_make_own _ rfl _ _ 80 rfl w.heap.size 5 i0 (.int .u8 0) 1 Tryz.underlying80 hi hz0 hz1 _ _ _ zs.length rfl rfl (by omega) ?m1 ?m2 ?m3 ?_)
    case m1 => rw [hz2]; omega
    case m2 => unfold maxLen; omega
    case m3 => exact Nat.le_refl _
    intro wm hm hgm
    go_wp2_with (at_builtin; refine wpList_append_own_none rfl _ _ 80 rfl w.heap.size 5 i0 1 Tryz.underlying80 hi _ _ _ rfl hm rfl ?_)
    have HO1 : Hid (Bs wm w.heap.size (.slice (some ⟨w.heap.size, 0, none⟩) 0 zs.length) []) := hm
    have hnx1 : Below w.heap.size w wm := (Below.refl _ _).grown hgm (Nat.le_refl _) (fun k hk => by cases hk)
    clear hm hgm
    go_wp2
    go_loopw [7, 20] (fun vo vi wr => ∃ k : Nat, k ≤ zs.length ∧ vi = .int .i64 k ∧ Bs wr w.heap.size vo ( (zs.take k).flatMap Lib.uvarint) ∧ Below w.heap.size w wr) (fun _ vi _ => zs.length - (intOf vi).toNat)
    case atStart => exact ⟨0, Nat.zero_le _, rfl, by simpa using HO1.out, hnx1⟩
    case round =>
      obtain ⟨k, hk, rfl, howk, hnx⟩ := hrel
      have HK := Lib.hid howk
      clear howk
      by_cases hlt : k < zs.length
      · obtain ⟨x, hx⟩ : ∃ x, zs[k]? = some x := ⟨zs[k], List.getElem?_eq_getElem hlt⟩
        have hcell : wr.cell? ⟨bl, off + k, none⟩ = some (.int .u64 (x : Int)) := (hnx.cell (p := ⟨bl, off + k, none⟩) hbl).trans (HC.out k x hx)
        have hbd : x < 18446744073709551616 := HZ.out x (List.mem_of_getElem? hx)
        have hfs := flat_snoc Lib.uvarint zs k x hx
        have hfl := flat_le Lib.uvarint zs k
        have hfl1 := flat_le Lib.uvarint zs (k + 1)
        rw [hfs, List.length_append] at hfl1
        have HF := Lib.hid hfs
        have HX := Lib.hid hx
        clear hfs hx
        have hsz : w.heap.size ≤ wr.heap.size := hnx.size
        have hlen : ( (zs.take k).flatMap Lib.uvarint).length +  10 ≤ 140737488355328 := by
          first | omega | (simp only [List.length_append]; omega)
        have HLn := Lib.hid hlen
        clear hlen
        go_wp2_with (go_at_call 93; refine (appendNum_any _ _ _ hbd _ _ HK.out hsz HLn.out).mono ?_; rintro e w2 ⟨v2, rfl, hB2, hb2⟩)
        have hnx2 : Below w.heap.size w w2 := hnx.trans hb2
        go_roundw
        case rel => exact ⟨k + 1, by omega, by go_num, by rw [HF.out]; skip; exact hB2, hnx2⟩
        case measure => simp [intOf]; omega
      · have hke : zs.length ≤ k := by omega
        go_wp2
        go_ret
        refine ⟨_, rfl, ?_, hnx⟩
        have ht := HK.out
        rw [List.take_of_length_le hke] at ht
        exact ht

  · have hbl2 : (Lib.byteCells bs).length = bs.length := byteCells_len bs
    have HBL := Lib.hid hbl2
    have HCL := Lib.hid hcl
    clear hcl hbl2 hown
    go_enter Tryz.func92, Tryz.ntmps92
    go_wp2_with (at_make; refine wpList_make_own _ rfl _ _ 80 rfl w.heap.size 5 i0 (.int .u8 0) 1 Tryz.underlying80 hi hz0 hz1 _ _ _ (bs.length + zs.length) rfl rfl (by omega) ?m1 ?m2 ?m3 ?_)
    case m1 => rw [hz2]; omega
    case m2 => unfold maxLen; omega
    case m3 => exact Nat.le_refl _
    intro wm hm hgm
    have hnx0 : Below w.heap.size w wm := (Below.refl _ _).grown hgm (Nat.le_refl _) (fun k hk => by cases hk)
    have hzm : w.heap.size ≤ wm.heap.size := hnx0.size
    go_wp2_with (at_builtin; refine wpList_append_own _ rfl _ _ 80 rfl w.heap.size 5 i0 (.int .u8 0) 1 1 Tryz.underlying80 hi hz0 hz1 hz2 rfl (by decide) _ _ _ rfl hm ⟨g, 0, none⟩ bs.length cp (Lib.byteCells bs) rfl (by rw [HBL.out, Nat.mul_one]) ?c1 (byteCells_one' bs) ?c3 ?c4 hzm ?_)
    case c1 =>
      intro j u hj
      have hadd : (⟨g, 0, none⟩ : Addr).add j = ⟨g, j, none⟩ := by unfold Addr.add; split <;> simp_all
      rw [hadd, hnx0.cell (p := ⟨g, j, none⟩) hg]
      exact HCL.out j u hj
    case c3 => unfold maxLen; omega
    case c4 => omega
    intro v1 w1 hown1 hgrow _
    have HO1 : Hid (Bs w1 w.heap.size v1 bs) := by
      first | exact hown1 | (simp only [Nat.zero_add, List.nil_append] at hown1; exact hown1)
    have hnx1 : Below w.heap.size w w1 := hnx0.grown hgrow hzm (fun k hk => (hm.lt k hk).1)
    clear hm hgm hown1 hgrow hnx0 hzm
    go_wp2
    go_loopw [7, 20] (fun vo vi wr => ∃ k : Nat, k ≤ zs.length ∧ vi = .int .i64 k ∧ Bs wr w.heap.size vo (bs ++ (zs.take k).flatMap Lib.uvarint) ∧ Below w.heap.size w wr) (fun _ vi _ => zs.length - (intOf vi).toNat)
    case atStart => exact ⟨0, Nat.zero_le _, rfl, by simpa using HO1.out, hnx1⟩
    case round =>
      obtain ⟨k, hk, rfl, howk, hnx⟩ := hrel
      have HK := Lib.hid howk
      clear howk
      by_cases hlt : k < zs.length
      · obtain ⟨x, hx⟩ : ∃ x, zs[k]? = some x := ⟨zs[k], List.getElem?_eq_getElem hlt⟩
        have hcell : wr.cell? ⟨bl, off + k, none⟩ = some (.int .u64 (x : Int)) := (hnx.cell (p := ⟨bl, off + k, none⟩) hbl).trans (HC.out k x hx)
        have hbd : x < 18446744073709551616 := HZ.out x (List.mem_of_getElem? hx)
        have hfs := flat_snoc Lib.uvarint zs k x hx
        have hfl := flat_le Lib.uvarint zs k
        have hfl1 := flat_le Lib.uvarint zs (k + 1)
        rw [hfs, List.length_append] at hfl1
        have HF := Lib.hid hfs
        have HX := Lib.hid hx
        clear hfs hx
        have hsz : w.heap.size ≤ wr.heap.size := hnx.size
        have hlen : (bs ++ (zs.take k).flatMap Lib.uvarint).length +  10 ≤ 140737488355328 := by
          first | omega | (simp only [List.length_append]; omega)
        have HLn := Lib.hid hlen
        clear hlen
        go_wp2_with (go_at_call 93; refine (appendNum_any _ _ _ hbd _ _ HK.out hsz HLn.out).mono ?_; rintro e w2 ⟨v2, rfl, hB2, hb2⟩)
        have hnx2 : Below w.heap.size w w2 := hnx.trans hb2
        go_roundw
        case rel => exact ⟨k + 1, by omega, by go_num, by rw [HF.out]; rw [← List.append_assoc]; exact hB2, hnx2⟩
        case measure => simp [intOf]; omega
      · have hke : zs.length ≤ k := by omega
        go_wp2
        go_ret
        refine ⟨_, rfl, ?_, hnx⟩
        have ht := HK.out
        rw [List.take_of_length_le hke] at ht
        exact ht


set_option maxRecDepth 100000 in
set_option maxHeartbeats 400000 in
theorem packNum_any (bs : List UInt8) (zs : List Nat) (hz : ∀ x : Nat, x ∈ zs → x < 18446744073709551616) (b0 : Nat) (bv : Value) (bl off cap : Nat) (w : World) (hown : Bs w b0 bv bs)
    (hc : ∀ (j : Nat) (x : Nat), zs[j]? = some x → w.cell? ⟨bl, off + j, none⟩ = some (.int .u64 (x : Int))) (hbl : bl < w.heap.size)
    (hlim : bs.length + (zs.flatMap Lib.uvarint).length + zs.length + 100 ≤ 140737488355328) :
    Calls Tryz.prog 76 #[bv, .slice (some ⟨bl, off, none⟩) zs.length cap] w fun e w' =>
      ∃ v', e = .returned v' ∧ Bs w' w.heap.size v' (bs ++ zs.flatMap Lib.uvarint) ∧ Below w.heap.size w w' := by
  have HO := Lib.hid hown
  have HC := Lib.hid hc
  have HZ := Lib.hid hz
  clear hown hc hz
  go_enter Tryz.func76, Tryz.ntmps76
  go_wp2_with fail
  refine (eachNum_any bs zs HZ.out b0 bv bl off cap _ HO.out HC.out hbl hlim).mono ?_
  rintro e w1 ⟨v', rfl, hB, hb⟩
  go_wp2
  go_ret
  exact ⟨v', rfl, hB, hb⟩

end Go.Proofs.YtmaohncddjhgeaaGreat.gn
end
