/- Same. -/
import Derived.Test.YtigomdihkojdmaaStT
import Derived.Test.YtigomdihkojdmaaStV
namespace Go.Proofs.Ytigomdihkojdmaa.gn
open Go.RowKit Go.Shelf
open Go.Proofs.Ytigomdihkojdmaa.sp

theorem more_zero (L : List (Int × Int)) (t : Int) : more L 0 0 0 t = val L t := by unfold more; split <;> omega
theorem res_zero {L M : List (Int × Int)} {c : Int} (h : Res L 0 0 0 c M) (hL : Ok L) (hl : L.length ≤ 1998) : c = 0 ∧ Turned L 0 0 0 M ∧ Ok M ∧ M.length ≤ L.length + 2 :=
  h.good hl fun t ht => by rw [more_zero]; exact hL.val ht.1
theorem take0 {w : World} {v : Value} {L : List (Int × Int)} (h : Prof w v (L.map Prod.fst) (L.map Prod.snd)) (hL : Ok L) : Calls Try.prog 24 #[v, .int .i64 0, .int .i64 0, .int .i64 0] w (Turns L 0 0 0 w) := by
  have := take_yes (lo := 0) (hi := 0) (d := 0) h hL ⟨by omega, by omega⟩ ⟨by omega, by omega⟩ ⟨by omega, by omega⟩
  rwa [Int.neg_zero] at this

open Classical in
/-- Do two tell the same at all times? -/
noncomputable def samB (L L' : List (Int × Int)) : Bool := if ∀ t, Q t → val L t = val L' t then true else false
theorem samB_yes {L L' : List (Int × Int)} (h : ∀ t, Q t → val L t = val L' t) : samB L L' = true := if_pos h
theorem samB_no {L L' : List (Int × Int)} (h : ¬ ∀ t, Q t → val L t = val L' t) : samB L L' = false := if_neg h
theorem maps_eq {M M' : List (Int × Int)} (h1 : M.map Prod.fst = M'.map Prod.fst) (h2 : M.map Prod.snd = M'.map Prod.snd) : M = M' := by
  apply List.ext_getElem
  · have := congrArg List.length h1; simpa using this
  · intro i hi hi'
    have e1 : (M.map Prod.fst)[i]'(by simpa using hi) = (M'.map Prod.fst)[i]'(by simpa using hi') := by simp only [h1]
    have e2 : (M.map Prod.snd)[i]'(by simpa using hi) = (M'.map Prod.snd)[i]'(by simpa using hi') := by simp only [h2]
    rw [List.getElem_map, List.getElem_map] at e1 e2
    exact Prod.ext e1 e2
theorem samB_is {L L' M M' : List (Int × Int)} (h : Turned L 0 0 0 M) (h' : Turned L' 0 0 0 M') : samB L L' = (same (M.map Prod.fst) (M'.map Prod.fst) && same (M.map Prod.snd) (M'.map Prod.snd)) := by
  have hi := same_iff h h'
  by_cases he : M = M'
  · rw [samB_yes (hi.1 he), he]
    unfold same
    simp
  · rw [samB_no fun h => he (hi.2 h)]
    unfold same
    by_cases h1 : M.map Prod.fst = M'.map Prod.fst
    · have h2 : ¬ M.map Prod.snd = M'.map Prod.snd := fun h2 => he (maps_eq h1 h2)
      rw [decide_eq_false h2]; simp
    · rw [decide_eq_false h1]; simp

set_option maxHeartbeats 1000000 in
theorem same_yes {w : World} {v u : Value} {L L' : List (Int × Int)} (h : Prof w v (L.map Prod.fst) (L.map Prod.snd)) (h' : Prof w u (L'.map Prod.fst) (L'.map Prod.snd)) (hL : Ok L) (hL' : Ok L') (hl : L.length ≤ 1998) (hl' : L'.length ≤ 1998) :
    Calls Try.prog 12 #[v, u] w (TellsB (samB L L') w) := by
  have HT1 := Lib.hid fun (W : World) (hW : Below w.heap.size w W) => take0 (h.below hW (Nat.le_refl _)) hL
  have HT2 := Lib.hid fun (W : World) (hW : Below w.heap.size w W) => take0 (h'.below hW (Nat.le_refl _)) hL'
  obtain ⟨v1, v2, rfl, i1, i2⟩ := h
  obtain ⟨u1, u2, rfl, i3, i4⟩ := h'
  have HOK := Lib.hid (And.intro hL (And.intro hL' (And.intro hl hl')))
  have hb0 : Below w.heap.size w ((w.alloc (.cells #[v1, v2] 24)).alloc (.cells #[u1, u2] 24)) := ((Below.refl _ _).alloc (Nat.le_refl _) _).alloc (by simp) _
  have bU := Box2.new (w.alloc (.cells #[v1, v2] 24)) 24 u1 u2
  rw [World.size_alloc] at bU
  have HB0 := Lib.hid hb0
  clear i1 i2 i3 i4 hL hL' hl hl' hb0
  go_enter Try.func12, Try.ntmps12
  go_wp2_with fail
  refine (HT1.out _ HB0.out).mono ?_
  rintro e w1 ⟨c, M, a1, n1, c1, a2, n2, c2, rfl, hres, o1, o2, hb1⟩
  obtain ⟨rfl, hT, hM, hMl⟩ := res_zero hres HOK.out.1 HOK.out.2.2.1
  have bU1 := box2_next hb1 bU
  have q0 := bU1.cell0
  have q1 := bU1.cell1
  have lU := bU1.lt
  have hB1 := HB0.out.trans (hb1.mono HB0.out.size)
  have HF1 := Lib.hid (And.intro hT (And.intro o1 (And.intro o2 (And.intro hB1 (And.intro hM hMl)))))
  clear hres o1 o2 hb1 bU hT hB1 bU1 hM hMl
  go_wp2_with fail
  have bX := Box2.new w1 24 (.slice a1 n1 c1) (.slice a2 n2 c2)
  have hB1a := HF1.out.2.2.2.1.alloc HF1.out.2.2.2.1.size (.cells #[.slice a1 n1 c1, .slice a2 n2 c2] 24)
  refine (HT2.out _ hB1a).mono ?_
  rintro e w2 ⟨c', M', a3, n3, c3, a4, n4, c4, rfl, hres, o3, o4, hb2⟩
  obtain ⟨rfl, hT', hM', hMl'⟩ := res_zero hres HOK.out.2.1 HOK.out.2.2.2
  have bX1 := box2_next hb2 bX
  have x0 := bX1.cell0
  have x1 := bX1.cell1
  have lX := bX1.lt
  have hB2 := hB1a.trans (hb2.mono hB1a.size)
  have p1 := (HF1.out.2.1.alloc (.cells #[.slice a1 n1 c1, .slice a2 n2 c2] 24)).below hb2
  have p2 := (HF1.out.2.2.1.alloc (.cells #[.slice a1 n1 c1, .slice a2 n2 c2] 24)).below hb2
  have hml : ∀ K : List (Int × Int), Ok K → (K.map Prod.fst).length ≤ maxLen ∧ (K.map Prod.snd).length ≤ maxLen := fun K hK => by rw [List.length_map, List.length_map]; have := hK.le; unfold maxLen; omega
  have y1 := (p1.ints (hml M HF1.out.2.2.2.2.1).1).alloc (.cells #[.slice a3 n3 c3, .slice a4 n4 c4] 24)
  have y2 := (p2.ints (hml M HF1.out.2.2.2.2.1).2).alloc (.cells #[.slice a3 n3 c3, .slice a4 n4 c4] 24)
  have y3 := (o3.ints (hml M' hM').1).alloc (.cells #[.slice a3 n3 c3, .slice a4 n4 c4] 24)
  have y4 := (o4.ints (hml M' hM').2).alloc (.cells #[.slice a3 n3 c3, .slice a4 n4 c4] 24)
  have hB3 := hB2.alloc hB2.size (.cells #[.slice a3 n3 c3, .slice a4 n4 c4] 24)
  have hsam := samB_is HF1.out.1 hT'
  have bY := Box2.new w2 24 (.slice a3 n3 c3) (.slice a4 n4 c4)
  have bX2 := bX1.alloc (.cells #[.slice a3 n3 c3, .slice a4 n4 c4] 24)
  have HY := Lib.hid (And.intro y1 (And.intro y2 (And.intro y3 (And.intro y4 (And.intro hB3 (And.intro hsam (And.intro bX2 bY)))))))
  clear hres o3 o4 hb2 bX hT' hB1a bX1 hM' hMl' hB2 p1 p2 hml y1 y2 y3 y4 hB3 hsam bX2 bY q0 q1 lU
  cases hs1 : same (M.map Prod.fst) (M'.map Prod.fst) with
  | false =>
    have HS1 := Lib.hid hs1
    clear hs1
    go_wp2_with fail
    refine (equal_any HY.out.1 HY.out.2.2.1).mono ?_
    rintro e w3 ⟨rfl, hb3⟩
    rw [HS1.out]
    have HB3 := Lib.hid (HY.out.2.2.2.2.1.trans (hb3.mono HY.out.2.2.2.2.1.size))
    clear hb3
    go_wp2
    go_ret
    exact ⟨ret_bool (by rw [HY.out.2.2.2.2.2.1, HS1.out]; rfl), HB3.out⟩
  | true =>
    have HS1 := Lib.hid hs1
    clear hs1
    go_wp2_with fail
    refine (equal_any HY.out.1 HY.out.2.2.1).mono ?_
    rintro e w3 ⟨rfl, hb3⟩
    rw [HS1.out]
    have z1 := box2_next hb3 HY.out.2.2.2.2.2.2.1
    have z2 := box2_next hb3 HY.out.2.2.2.2.2.2.2
    have z10 := z1.cell0
    have z11 := z1.cell1
    have z20 := z2.cell0
    have z21 := z2.cell1
    have hB3 := HY.out.2.2.2.2.1.trans (hb3.mono HY.out.2.2.2.2.1.size)
    have HE := Lib.hid (equal_any (HY.out.2.1.below hb3 (Nat.le_refl _)) (HY.out.2.2.2.1.below hb3 (Nat.le_refl _)))
    have HB3 := Lib.hid hB3
    clear hb3 z1 z2 hB3
    go_wp2_with fail
    refine HE.out.mono ?_
    rintro e w4 ⟨rfl, hb4⟩
    have HB4 := Lib.hid (HB3.out.trans (hb4.mono HB3.out.size))
    clear hb4
    go_wp2
    go_ret
    exact ⟨ret_bool (by rw [HY.out.2.2.2.2.2.1, HS1.out]; rfl), HB4.out⟩
end Go.Proofs.Ytigomdihkojdmaa.gn
