/- The document's Split. (Written by gen_slSp.py out of XDiR.) -/
import Derived.Test.YtpmghgfgbkncoaaGreatDoorMDiK
import Derived.Test.YtpmghgfgbkncoaaGreatDoorSlM
section
set_option linter.unusedVariables false
namespace Go.Proofs.YtpmghgfgbkncoaaGreatDoor.gn
open Go.RowKit
open Go.Proofs.YtpmghgfgbkncoaaGreatDoor.un
open Go.Proofs.YtpmghgfgbkncoaaGreatDoor.di
open Go.Proofs.YtpmghgfgbkncoaaGreatDoor.sp (cuts cuts_one cuts_app cuts_ne)

/-- How Split stands ahead of byte i: S is told, from f on the next word begins. -/
structure CS (c : UInt8) (l : Tx) (i f : Nat) (S : List Tx) : Prop where
  fi : f ≤ i
  il : i ≤ l.length
  sp : cuts c l = S ++ cuts c (l.drop f)
  no : c ∉ (l.drop f).take (i - f)
theorem CS.start (c : UInt8) (l : Tx) : CS c l 0 0 [] := ⟨Nat.le_refl _, Nat.zero_le _, rfl, by simp⟩
theorem CS.fin {c : UInt8} {l : Tx} {f : Nat} {S : List Tx} (h : CS c l l.length f S) : cuts c l = S ++ [l.drop f] := by
  have hn := h.no
  rw [List.take_of_length_le (by rw [List.length_drop]; exact Nat.le_refl _)] at hn
  rw [h.sp, cuts_one c _ hn]
theorem CS.split {l : Tx} {i f : Nat} (hfi : f ≤ i) (hi : i < l.length) : l.drop f = (l.drop f).take (i - f) ++ l[i] :: l.drop (i + 1) := by
  have h1 := List.take_append_drop (i - f) (l.drop f)
  rw [List.drop_drop, show f + (i - f) = i by omega, List.drop_eq_getElem_cons hi] at h1
  exact h1.symm
theorem CS.hit {c : UInt8} {l : Tx} {i f : Nat} {S : List Tx} (h : CS c l i f S) (hi : i < l.length) (hb : l[i] = c) : CS c l (i + 1) (i + 1) (S ++ [(l.drop f).take (i - f)]) := by
  refine ⟨Nat.le_refl _, by omega, ?_, by simp⟩
  have hs := CS.split h.fi hi
  rw [hb] at hs
  rw [h.sp, hs, cuts_app c _ _ h.no, List.append_assoc]
  rw [← hs]
  rfl
theorem CS.miss {c : UInt8} {l : Tx} {i f : Nat} {S : List Tx} (h : CS c l i f S) (hi : i < l.length) (hb : l[i] ≠ c) : CS c l (i + 1) f S := by
  have hf := h.fi
  refine ⟨by omega, by omega, h.sp, ?_⟩
  have hs := CS.split h.fi hi
  have ht : (l.drop f).take (i + 1 - f) = (l.drop f).take (i - f) ++ [l[i]] := by
    rw [show i + 1 - f = (i - f) + 1 by omega, List.take_add_one, List.getElem?_drop, show f + (i - f) = i by omega, List.getElem?_eq_getElem hi]
    rfl
  rw [ht]
  intro hm
  rcases List.mem_append.1 hm with hm | hm
  · exact h.no hm
  · simp only [List.mem_singleton] at hm
    exact hb hm.symm

set_option maxRecDepth 100000 in
set_option maxHeartbeats 6400000 in
theorem Split_any (c : UInt8) (l : Tx) (hl : l.length ≤ 100000) (w : World) : Calls Tryz.prog 16 #[.string (str l), .int .u8 (c.toNat : Int)] w fun e w' => ∃ v, e = .returned v ∧ Wds w.heap.size w' v (cuts c l) ∧ Below w.heap.size w w' := by
  have hz := str_size l
  have hz0 : (str l).size ≤ 100000 := by omega
  have HZ := Lib.hid hz
  have HS0 := Lib.hid (CS.start c l)
  obtain ⟨d, hd⟩ : ∃ d : Int, (c.toNat : Int) = d := ⟨_, rfl⟩
  rw [hd]
  have HD := Lib.hid hd
  clear hz hd
  go_enter Tryz.func16, Tryz.ntmps16
  go_wp2
  go_loopw [5, 6, 7] (fun s3 s4 s5 wr => ∃ (i f : Nat) (S : List Tx) (A : Option Addr) (q n : Nat), s3 = .slice A n q ∧ s4 = .int .i64 f ∧ s5 = .int .i64 i ∧ i ≤ (str l).size + 1 ∧ f ≤ i ∧ n ≤ i ∧ Aside (Ss wr w.heap.size (.slice A n q) S ∧ n = S.length ∧ Below w.heap.size w wr ∧ (i ≤ l.length → CS c l i f S) ∧ (l.length < i → S = cuts c l))) (fun _ _ s5 _ => (str l).size + 1 - (intOf s5).toNat)
  case atStart => exact ⟨0, 0, [], none, 0, 0, rfl, rfl, rfl, by omega, Nat.le_refl _, Nat.le_refl _, Ss_nil _ _, rfl, Below.refl _ _, fun _ => HS0.out, fun h => by omega⟩
  case round =>
    obtain ⟨i, f, S, A, q, n, rfl, rfl, rfl, hi, hf, hn, hss, hnl, hbw, hr1, hr2⟩ := hrel
    have HSS := Lib.hid hss
    have HNL := Lib.hid hnl
    have HBW := Lib.hid hbw
    have HR1 := Lib.hid hr1
    have HR2 := Lib.hid hr2
    clear hss hnl hbw hr1 hr2
    by_cases h1 : i < (str l).size
    · have hil : i < l.length := by rw [← HZ.out]; exact h1
      have HWS := Lib.hid (HR1.out (by omega))
      have hge := str_at l i h1
      by_cases hb : l[i] = c
      · have q1 : ((((str l)[i]'h1).toNat : Int) == d) = true := by rw [hge, hb, HD.out]; exact beq_self_eq_true _
        have HH := Lib.hid (HWS.out.hit hil hb)
        have hsl := sl_mid l (f : Int) (i : Int) f (i - f) rfl (by omega) (by omega)
        have HXL := Lib.hid (show ((l.drop f).take (i - f)).length ≤ maxLen by rw [List.length_take, List.length_drop]; unfold maxLen; omega)
        obtain ⟨x, hx⟩ : ∃ x, (l.drop f).take (i - f) = x := ⟨_, rfl⟩
        rw [hx] at hsl HH HXL
        clear hx hb hge
        go_wp2_with (at_builtin; refine wpList_append_strs rfl _ _ rfl w.heap.size _ _ S [x] rfl (HSS.out.kept ((Below.refl _ wr).alloc (Nat.le_refl _) (.cells #[.string (str x)] 9))) rfl ⟨strs_new wr x HXL.out, fun n c e => by cases e⟩ (by have := HNL.out; simp; omega) (by have := HBW.out.size; simp; omega) ?_; intro A2 c2 n2 w2 hn2 hs2 hg2 ha2; have HS2 := Lib.hid hs2; have HN2 := Lib.hid hn2; have HG2 := Lib.hid hg2; clear hn2 hs2 hg2 ha2)
        go_roundw
        case rel =>
          refine ⟨i + 1, i + 1, S ++ [x], A2, c2, n2, rfl, by go_num, by go_num, by omega, Nat.le_refl _, by have := HNL.out; have := HN2.out; simp at this; omega, HS2.out, by rw [HN2.out, List.length_append], ?_, fun _ => HH.out, fun h => by omega⟩
          exact (HBW.out.alloc HBW.out.size _).grown HG2.out (Nat.le_trans HBW.out.size (by simp)) (fun j hj => (World.ownsRow.lt HSS.out j hj).1)
        case measure => simp [intOf]; omega
      · have q1 : ((((str l)[i]'h1).toNat : Int) == d) = false := by
          rw [hge, beq_eq_false_iff_ne]
          intro e
          exact hb (UInt8.toNat_inj.1 (by have : ((l[i]'hil).toNat : Int) = (c.toNat : Int) := e.trans HD.out.symm; omega))
        have HH := Lib.hid (HWS.out.miss hil hb)
        clear hb hge
        go_wp2
        go_roundw
        case rel => exact ⟨i + 1, f, S, A, q, n, rfl, rfl, by go_num, by omega, by omega, by omega, HSS.out, HNL.out, HBW.out, fun _ => HH.out, fun h => by omega⟩
        case measure => simp [intOf]; omega
    · by_cases h2 : i = (str l).size
      · subst h2
        have hel : (str l).size = l.length := HZ.out
        have HWS := Lib.hid (show CS c l l.length f S from by have := HR1.out (by omega); rwa [hel] at this)
        have HFI := Lib.hid HWS.out.fin
        have hfl := HWS.out.fi
        have hsl := sl_from l (f : Int) f rfl hfl
        have HXL := Lib.hid (show (l.drop f).length ≤ maxLen by rw [List.length_drop]; unfold maxLen; omega)
        obtain ⟨x, hx⟩ : ∃ x, l.drop f = x := ⟨_, rfl⟩
        rw [hx] at hsl HFI HXL
        clear hx hfl
        have HEL := Lib.hid hel
        clear hel
        go_wp2_with (at_builtin; refine wpList_append_strs rfl _ _ rfl w.heap.size _ _ S [x] rfl (HSS.out.kept ((Below.refl _ wr).alloc (Nat.le_refl _) (.cells #[.string (str x)] 9))) rfl ⟨strs_new wr x HXL.out, fun n c e => by cases e⟩ (by have := HNL.out; simp; omega) (by have := HBW.out.size; simp; omega) ?_; intro A2 c2 n2 w2 hn2 hs2 hg2 ha2; have HS2 := Lib.hid hs2; have HN2 := Lib.hid hn2; have HG2 := Lib.hid hg2; clear hn2 hs2 hg2 ha2)
        go_roundw
        case rel =>
          refine ⟨(str l).size + 1, f, S ++ [x], A2, c2, n2, rfl, rfl, by go_num, Nat.le_refl _, by omega, by have := HNL.out; have := HN2.out; simp at this; omega, HS2.out, by rw [HN2.out, List.length_append], ?_, fun h => by have := HEL.out; omega, fun _ => HFI.out.symm⟩
          exact (HBW.out.alloc HBW.out.size _).grown HG2.out (Nat.le_trans HBW.out.size (by simp)) (fun j hj => (World.ownsRow.lt HSS.out j hj).1)
        case measure => simp [intOf]
      · obtain rfl : i = (str l).size + 1 := by omega
        have HSW := Lib.hid (HR2.out (by have := HZ.out; omega))
        go_wp2
        go_ret
        refine ⟨_, rfl, ?_, HBW.out⟩
        have hs := HSS.out
        rw [HSW.out] at hs
        exact hs.wds (cuts_ne c l)
end Go.Proofs.YtpmghgfgbkncoaaGreatDoor.gn
end
