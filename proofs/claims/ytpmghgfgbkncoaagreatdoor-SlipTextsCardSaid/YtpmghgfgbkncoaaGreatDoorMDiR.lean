/- The document's answers: word, asks, Words. -/
import Derived.Test.YtpmghgfgbkncoaaGreatDoorMDiH
import Derived.Test.YtpmghgfgbkncoaaGreatDoorMGenAp
import Derived.Deep.LoopGhost
section
set_option linter.unusedVariables false
namespace Go.Proofs.YtpmghgfgbkncoaaGreatDoor.gn
open Go.RowKit
open Go.Proofs.YtpmghgfgbkncoaaGreatDoor.un
open Go.Proofs.YtpmghgfgbkncoaaGreatDoor.di

/-- A kind's word; nothing, if there is no such kind. -/
def wd (k : Nat) : Tx := if 1 ≤ k ∧ k ≤ 6 then kw k else []
theorem wd_kw {k : Nat} (h : 1 ≤ k ∧ k ≤ 6) : wd k = kw k := by unfold wd; rw [if_pos h]

set_option maxRecDepth 100000 in
set_option maxHeartbeats 1600000 in
theorem dword_any (k : Nat) (h : 1 ≤ k ∧ k ≤ 6) (w : World) : Calls Tryz.prog 46 #[.int .u8 (k : Nat)] w (Told (.string (str (kw k))) w) := by
  have HB := Lib.hid (show Below w.heap.size w (w.alloc (.cells #[.string { data := #[] }, .string { data := #[106, 111, 98, 100, 119] }, .string { data := #[115, 116, 97, 103, 101, 95, 105, 110] }, .string { data := #[115, 116, 97, 103, 101, 95, 111, 117, 116] }, .string { data := #[99, 114, 101, 97, 116, 101, 95, 112, 101, 114, 115, 105, 115, 116, 101, 110, 116] }, .string { data := #[100, 101, 115, 116, 114, 111, 121, 95, 112, 101, 114, 115, 105, 115, 116, 101, 110, 116] }, .string { data := #[117, 115, 101, 95, 112, 101, 114, 115, 105, 115, 116, 101, 110, 116] }] 9)) from (Below.refl _ _).alloc (Nat.le_refl _) _)
  rcases six h with rfl | rfl | rfl | rfl | rfl | rfl
  all_goals
    go_enter Tryz.func46, Tryz.ntmps46
    go_wp2
    go_ret
    exact ⟨rfl, HB.out⟩
set_option maxRecDepth 100000 in
theorem dasks_any (k : Nat) (h : 1 ≤ k ∧ k ≤ 6) (w : World) : Calls Tryz.prog 47 #[.int .u8 (k : Nat)] w fun e w' => e = .returned (.tuple #[.bool (hasSize k), .bool (hasName k), .bool (hasPool k)]) ∧ w = w' := by
  rcases six h with rfl | rfl | rfl | rfl | rfl | rfl
  all_goals
    go_enter Tryz.func47, Tryz.ntmps47
    go_wp2
    go_ret3
    exact ⟨rfl, rfl⟩

/-! ### Words -/
/-- How Words stands ahead of byte i: S is told, from f on the next word begins. -/
structure WS (l : Tx) (i f : Nat) (S : List Tx) : Prop where
  fi : f ≤ i
  il : i ≤ l.length
  sp : words l = S ++ words (l.drop f)
  no : (32 : UInt8) ∉ (l.drop f).take (i - f)
theorem WS.start (l : Tx) : WS l 0 0 [] := ⟨Nat.le_refl _, Nat.zero_le _, rfl, by simp⟩
theorem WS.fin {l : Tx} {f : Nat} {S : List Tx} (h : WS l l.length f S) : words l = S ++ [l.drop f] := by
  have hn := h.no
  rw [List.take_of_length_le (by rw [List.length_drop]; exact Nat.le_refl _)] at hn
  rw [h.sp, words_one _ hn]
theorem WS.split {l : Tx} {i f : Nat} (hfi : f ≤ i) (hi : i < l.length) : l.drop f = (l.drop f).take (i - f) ++ l[i] :: l.drop (i + 1) := by
  have h1 := List.take_append_drop (i - f) (l.drop f)
  rw [List.drop_drop, show f + (i - f) = i by omega, List.drop_eq_getElem_cons hi] at h1
  exact h1.symm
theorem WS.hit {l : Tx} {i f : Nat} {S : List Tx} (h : WS l i f S) (hi : i < l.length) (hb : l[i] = 32) : WS l (i + 1) (i + 1) (S ++ [(l.drop f).take (i - f)]) := by
  refine ⟨Nat.le_refl _, by omega, ?_, by simp⟩
  have hs := WS.split h.fi hi
  rw [hb] at hs
  rw [h.sp, hs, words_app _ _ h.no, List.append_assoc]
  rw [← hs]
  rfl
theorem WS.miss {l : Tx} {i f : Nat} {S : List Tx} (h : WS l i f S) (hi : i < l.length) (hb : l[i] ≠ 32) : WS l (i + 1) f S := by
  have hf := h.fi
  refine ⟨by omega, by omega, h.sp, ?_⟩
  have hs := WS.split h.fi hi
  have ht : (l.drop f).take (i + 1 - f) = (l.drop f).take (i - f) ++ [l[i]] := by
    rw [show i + 1 - f = (i - f) + 1 by omega, List.take_add_one, List.getElem?_drop, show f + (i - f) = i by omega, List.getElem?_eq_getElem hi]
    rfl
  rw [ht]
  intro hm
  rcases List.mem_append.1 hm with hm | hm
  · exact h.no hm
  · simp only [List.mem_singleton] at hm
    exact hb hm.symm

/-- v is a new row of these words. -/
def Wds (B : Nat) (w : World) (v : Value) (L : List Tx) : Prop := ∃ g cap, v = .slice (some ⟨g, 0, none⟩) L.length cap ∧ Prts w g 0 L ∧ L.length ≤ cap ∧ B ≤ g
theorem Ss.wds {w : World} {B : Nat} {v : Value} {L : List Tx} (h : Ss w B v L) (hL : L ≠ []) : Wds B w v L := by
  have hc := fun g => World.ownsRow.cells h (g := g)
  have hlt := World.ownsRow.lt h
  rcases h.2 with ⟨rfl, hn⟩ | ⟨g, cap, cur, rfl, hB, _, h1, h2, _⟩
  · exact absurd (List.eq_nil_of_length_eq_zero hn) hL
  · refine ⟨g, cap, rfl, ⟨(hlt g rfl).2, fun i x hx => ?_⟩, h1, hB⟩
    have hadd : (⟨g, 0, none⟩ : Addr).add i = ⟨g, 0 + i, none⟩ := by unfold Addr.add; split <;> simp_all
    have := hc g rfl i (.string (str x)) (by simp [hx])
    rwa [hadd] at this

set_option maxRecDepth 100000 in
set_option maxHeartbeats 6400000 in
theorem Words_any (l : Tx) (hl : l.length ≤ 100000) (w : World) : Calls Tryz.prog 45 #[.string (str l)] w fun e w' => ∃ v, e = .returned v ∧ Wds w.heap.size w' v (words l) ∧ Below w.heap.size w w' := by
  have hz := str_size l
  have hz0 : (str l).size ≤ 100000 := by omega
  have HZ := Lib.hid hz
  have HS0 := Lib.hid (WS.start l)
  clear hz
  go_enter Tryz.func45, Tryz.ntmps45
  go_wp2
  go_loopw [3, 4, 5] (fun s3 s4 s5 wr => ∃ (i f : Nat) (S : List Tx) (A : Option Addr) (c n : Nat), s3 = .slice A n c ∧ s4 = .int .i64 f ∧ s5 = .int .i64 i ∧ i ≤ (str l).size + 1 ∧ f ≤ i ∧ n ≤ i ∧ Aside (Ss wr w.heap.size (.slice A n c) S ∧ n = S.length ∧ Below w.heap.size w wr ∧ (i ≤ l.length → WS l i f S) ∧ (l.length < i → S = words l))) (fun _ _ s5 _ => (str l).size + 1 - (intOf s5).toNat)
  case atStart => exact ⟨0, 0, [], none, 0, 0, rfl, rfl, rfl, by omega, Nat.le_refl _, Nat.le_refl _, Ss_nil _ _, rfl, Below.refl _ _, fun _ => HS0.out, fun h => by omega⟩
  case round =>
    obtain ⟨i, f, S, A, c, n, rfl, rfl, rfl, hi, hf, hn, hss, hnl, hbw, hr1, hr2⟩ := hrel
    have HSS := Lib.hid hss
    have HNL := Lib.hid hnl
    have HBW := Lib.hid hbw
    have HR1 := Lib.hid hr1
    have HR2 := Lib.hid hr2
    clear hss hnl hbw hr1 hr2
    by_cases h1 : i < (str l).size
    · have hil : i < l.length := by rw [← HZ.out]; exact h1
      have HWS := Lib.hid (HR1.out (by omega))
      have hge := str_at l i h1
      by_cases hb : l[i] = 32
      · have q1 : ((((str l)[i]'h1).toNat : Int) == 32) = true := by rw [hge, hb]; rfl
        have HH := Lib.hid (HWS.out.hit hil hb)
        have hsl := sl_mid l (f : Int) (i : Int) f (i - f) rfl (by omega) (by omega)
        have HXL := Lib.hid (show ((l.drop f).take (i - f)).length ≤ maxLen by rw [List.length_take, List.length_drop]; unfold maxLen; omega)
        obtain ⟨x, hx⟩ : ∃ x, (l.drop f).take (i - f) = x := ⟨_, rfl⟩
        rw [hx] at hsl HH HXL
        clear hx hb hge
        go_wp2_with (at_builtin; refine wpList_append_strs rfl _ _ rfl w.heap.size _ _ S [x] rfl (HSS.out.kept ((Below.refl _ wr).alloc (Nat.le_refl _) (.cells #[.string (str x)] 9))) rfl ⟨strs_new wr x HXL.out, fun n c e => by cases e⟩ (by have := HNL.out; simp; omega) (by have := HBW.out.size; simp; omega) ?_; intro A2 c2 n2 w2 hn2 hs2 hg2 ha2; have HS2 := Lib.hid hs2; have HN2 := Lib.hid hn2; have HG2 := Lib.hid hg2; clear hn2 hs2 hg2 ha2)
        go_roundw
        case rel =>
          refine ⟨i + 1, i + 1, S ++ [x], A2, c2, n2, rfl, by go_num, by go_num, by omega, Nat.le_refl _, by have := HNL.out; have := HN2.out; simp at this; omega, HS2.out, by rw [HN2.out, List.length_append], ?_, fun _ => HH.out, fun h => by omega⟩
          exact (HBW.out.alloc HBW.out.size _).grown HG2.out (Nat.le_trans HBW.out.size (by simp)) (fun j hj => (World.ownsRow.lt HSS.out j hj).1)
        case measure => simp [intOf]; omega
      · have q1 : ((((str l)[i]'h1).toNat : Int) == 32) = false := by
          rw [hge, beq_eq_false_iff_ne]
          intro e
          exact hb (UInt8.toNat_inj.1 (by have : ((l[i]'hil).toNat : Int) = ((32 : UInt8).toNat : Int) := e; omega))
        have HH := Lib.hid (HWS.out.miss hil hb)
        clear hb hge
        go_wp2
        go_roundw
        case rel => exact ⟨i + 1, f, S, A, c, n, rfl, rfl, by go_num, by omega, by omega, by omega, HSS.out, HNL.out, HBW.out, fun _ => HH.out, fun h => by omega⟩
        case measure => simp [intOf]; omega
    · by_cases h2 : i = (str l).size
      · subst h2
        have hel : (str l).size = l.length := HZ.out
        have HWS := Lib.hid (show WS l l.length f S from by have := HR1.out (by omega); rwa [hel] at this)
        have HFI := Lib.hid HWS.out.fin
        have hfl := HWS.out.fi
        have hsl := sl_from l (f : Int) f rfl hfl
        have HXL := Lib.hid (show (l.drop f).length ≤ maxLen by rw [List.length_drop]; unfold maxLen; omega)
        obtain ⟨x, hx⟩ : ∃ x, l.drop f = x := ⟨_, rfl⟩
        rw [hx] at hsl HFI HXL
        clear hx hfl
        have HEL := Lib.hid hel
        clear hel
        go_wp2_with (at_builtin; refine wpList_append_strs rfl _ _ rfl w.heap.size _ _ S [x] rfl (HSS.out.kept ((Below.refl _ wr).alloc (Nat.le_refl _) (.cells #[.string (str x)] 9))) rfl ⟨strs_new wr x HXL.out, fun n c e => by cases e⟩ (by have := HNL.out; simp; omega) (by have := HBW.out.size; simp; omega) ?_; intro A2 c2 n2 w2 hn2 hs2 hg2 ha2; have HS2 := Lib.hid hs2; have HN2 := Lib.hid hn2; have HG2 := Lib.hid hg2; clear hn2 hs2 hg2 ha2)
        go_roundw
        case rel =>
          refine ⟨(str l).size + 1, f, S ++ [x], A2, c2, n2, rfl, rfl, by go_num, Nat.le_refl _, by omega, by have := HNL.out; have := HN2.out; simp at this; omega, HS2.out, by rw [HN2.out, List.length_append], ?_, fun h => by have := HEL.out; omega, fun _ => HFI.out.symm⟩
          exact (HBW.out.alloc HBW.out.size _).grown HG2.out (Nat.le_trans HBW.out.size (by simp)) (fun j hj => (World.ownsRow.lt HSS.out j hj).1)
        case measure => simp [intOf]
      · obtain rfl : i = (str l).size + 1 := by omega
        have HSW := Lib.hid (HR2.out (by have := HZ.out; omega))
        go_wp2
        go_ret
        refine ⟨_, rfl, ?_, HBW.out⟩
        have hs := HSS.out
        rw [HSW.out] at hs
        exact hs.wds (words_ne l)
end Go.Proofs.YtpmghgfgbkncoaaGreatDoor.gn
end
