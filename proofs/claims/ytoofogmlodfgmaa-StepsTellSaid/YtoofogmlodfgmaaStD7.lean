/- The document's Norm; Same of what is no profile. -/
import Derived.Test.YtoofogmlodfgmaaStD6
import Derived.Test.YtoofogmlodfgmaaStL8
namespace Go.Proofs.Ytoofogmlodfgmaa.gn
open Go.RowKit Go.Shelf
open Go.Proofs.Ytoofogmlodfgmaa.sp

/-- What Norm answers. -/
def Norms (L : List (Int × Int)) (w : World) (e : Ending) (w' : World) : Prop :=
  ∃ (a1 : Option Addr) (n1 c1 : Nat) (a2 : Option Addr) (n2 c2 : Nat) (M : List (Int × Int)), e = .returned (.agg #[.slice a1 n1 c1, .slice a2 n2 c2]) ∧ Turned L 0 0 0 M ∧ Prof w' (.agg #[.slice a1 n1 c1, .slice a2 n2 c2]) (M.map Prod.fst) (M.map Prod.snd) ∧ Below w.heap.size w w'
theorem dnorm_any {w : World} {v : Value} {L : List (Int × Int)} (h : Prof w v (L.map Prod.fst) (L.map Prod.snd)) (hL : Ok L) (hl : L.length ≤ 1998) : Calls Try.prog 22 #[v] w (Norms L w) := by
  have HT := Lib.hid fun (W : World) (hW : Below w.heap.size w W) => dturn_any (x := 0) (y := 0) (δ := 0) (h.below hW (Nat.le_refl _)) hL (q_of 0 (by omega) (by omega)) (q_of 0 (by omega) (by omega)) (by omega) (by omega) hl
  obtain ⟨v1, v2, rfl, _, _⟩ := h
  have hb0 : Below w.heap.size w ((w.alloc (.cells #[v1, v2] 24)).alloc (.cells #[.slice none 0 0, .slice none 0 0] 24)) := ((Below.refl _ _).alloc (Nat.le_refl _) _).alloc (by simp) _
  have bR := Box2.new (w.alloc (.cells #[v1, v2] 24)) 24 (.slice none 0 0) (.slice none 0 0)
  rw [World.size_alloc] at bR
  have HB0 := Lib.hid hb0
  have HR := Lib.hid bR
  have HQ := Lib.hid (And.intro hL hl)
  clear hL hl hb0 bR
  go_enter Try.func22, Try.ntmps22
  go_wp2_with fail
  refine (HT.out _ HB0.out).mono ?_
  rintro e w1 ⟨c, M, a1, n1, c1, a2, n2, c2, rfl, hres, o1, o2, hb1⟩
  obtain ⟨rfl, hTu, hM, _⟩ := res_zero hres HQ.out.1 HQ.out.2
  have bR1 := box2_next hb1 HR.out
  have r0 := bR1.cell0
  have r1 := bR1.cell1
  have f0 := bR1.free 0
  have f1 := bR1.free 1
  have lr := bR1.lt
  have hbz := HB0.out.trans (hb1.mono HB0.out.size)
  have HBz := Lib.hid hbz
  have HR1 := Lib.hid bR1
  have HF := Lib.hid (And.intro hTu (And.intro hM (And.intro o1 o2)))
  clear hres o1 o2 hb1 bR1 hbz hTu hM
  go_wp2
  have bQ := (HR1.out.set2 (.slice a1 n1 c1) (.slice a2 n2 c2)).alloc (.cells #[.slice a1 n1 c1, .slice a2 n2 c2] 24)
  have q0 := bQ.cell0
  have q1 := bQ.cell1
  refine bodyPost_ret (v := .agg #[.slice a1 n1 c1, .slice a2 n2 c2]) (by simp [results, Try.results22, go_sem, q0, q1]) rfl ⟨a1, n1, c1, a2, n2, c2, M, rfl, HF.out.1, ⟨_, _, rfl, ?_, ?_⟩, ?_⟩
  · exact (((HF.out.2.2.1.ints (by rw [List.length_map]; have := HF.out.2.1.le; unfold maxLen; omega)).set HR1.out 0 (.slice a1 n1 c1)).set (HR1.out.setA (.slice a1 n1 c1)) 1 (.slice a2 n2 c2)).alloc _
  · exact (((HF.out.2.2.2.ints (by rw [List.length_map]; have := HF.out.2.1.le; unfold maxLen; omega)).set HR1.out 0 (.slice a1 n1 c1)).set (HR1.out.setA (.slice a1 n1 c1)) 1 (.slice a2 n2 c2)).alloc _
  · have hz := (HBz.out.setCell (p := ⟨w.heap.size + 1, 0, none⟩) (by simp) (.slice a1 n1 c1)).setCell (p := ⟨w.heap.size + 1, 1, none⟩) (by simp) (.slice a2 n2 c2)
    exact hz.alloc hz.size _

/-- Same of two, one of which is no profile. -/
theorem same_no {w : World} {v u : Value} {l m l' m' : List Int} (h : Prof w v l m) (h' : Prof w u l' m') (hno : ¬ (OkP l m ∧ OkP l' m')) (hl : l.length ≤ 1998) :
    Calls Try.prog 20 #[v, u] w (TellsB false w) := by
  have HT2 := Lib.hid fun (W : World) (hW : Below w.heap.size w W) => take_owns 0 0 0 (h'.below hW (Nat.le_refl _))
  have HN2 := Lib.hid fun (W : World) (hW : Below w.heap.size w W) (hn : ¬ OkP l' m') => take_no (lo := 0) (hi := 0) (d := 0) (h'.below hW (Nat.le_refl _)) (fun h => hn h.1)
  have HN1 := Lib.hid fun (W : World) (hW : Below w.heap.size w W) (hn : ¬ OkP l m) => take_no (lo := 0) (hi := 0) (d := 0) (h.below hW (Nat.le_refl _)) (fun h => hn h.1)
  have HY1 := Lib.hid fun (W : World) (hW : Below w.heap.size w W) (L : List (Int × Int)) (hL : Ok L) (e1 : l = L.map Prod.fst) (e2 : m = L.map Prod.snd) => take0 (L := L) (by rw [← e1, ← e2]; exact h.below hW (Nat.le_refl _)) hL
  obtain ⟨v1, v2, rfl, _, _⟩ := h
  obtain ⟨u1, u2, rfl, _, _⟩ := h'
  have hb0 : Below w.heap.size w ((w.alloc (.cells #[v1, v2] 24)).alloc (.cells #[u1, u2] 24)) := ((Below.refl _ _).alloc (Nat.le_refl _) _).alloc (by simp) _
  have bU := Box2.new (w.alloc (.cells #[v1, v2] 24)) 24 u1 u2
  rw [World.size_alloc] at bU
  have HB0 := Lib.hid hb0
  have HU := Lib.hid bU
  clear hb0 bU
  by_cases h1 : OkP l m
  · have h2 : ¬ OkP l' m' := fun h2 => hno ⟨h1, h2⟩
    obtain ⟨L, hL, e1, e2⟩ := h1
    have HC := Lib.hid (HY1.out _ HB0.out L hL e1 e2)
    have HQ := Lib.hid (And.intro hL (show L.length ≤ 1998 by rw [e1, List.length_map] at hl; exact hl))
    have H2 := Lib.hid h2
    clear hno hL e1 e2 h2 HT2 HN1 HY1
    go_enter Try.func20, Try.ntmps20
    go_wp2_with fail
    refine HC.out.mono ?_
    rintro e w1 ⟨c, M, a1, n1, c1, a2, n2, c2, rfl, hres, o1, o2, hb1⟩
    obtain ⟨rfl, _, _, _⟩ := res_zero hres HQ.out.1 HQ.out.2
    have bU1 := box2_next hb1 HU.out
    have q0 := bU1.cell0
    have q1 := bU1.cell1
    have lU := bU1.lt
    have hB1 := HB0.out.trans (hb1.mono HB0.out.size)
    have HB1 := Lib.hid (hB1.alloc hB1.size (.cells #[.slice a1 n1 c1, .slice a2 n2 c2] 24))
    clear hres o1 o2 hb1 bU1 hB1
    go_wp2_with fail
    refine (HN2.out _ HB1.out H2.out).mono ?_
    rintro e w2 ⟨rfl, hb2⟩
    have hB2 := HB1.out.trans (hb2.mono HB1.out.size)
    have HB2 := Lib.hid (hB2.alloc hB2.size (.cells #[.slice none 0 0, .slice none 0 0] 24))
    clear hb2 hB2 q0 q1 lU
    go_wp2
    go_ret
    exact ⟨rfl, HB2.out⟩
  · have HC := Lib.hid (HN1.out _ HB0.out h1)
    clear hno h1 HN2 HN1 HY1
    go_enter Try.func20, Try.ntmps20
    go_wp2_with fail
    refine HC.out.mono ?_
    rintro e w1 ⟨rfl, hb1⟩
    have bU1 := box2_next hb1 HU.out
    have q0 := bU1.cell0
    have q1 := bU1.cell1
    have lU := bU1.lt
    have hB1 := HB0.out.trans (hb1.mono HB0.out.size)
    have HB1 := Lib.hid (hB1.alloc hB1.size (.cells #[.slice none 0 0, .slice none 0 0] 24))
    clear hb1 bU1 hB1
    go_wp2_with fail
    refine (HT2.out _ HB1.out).mono ?_
    rintro e w2 ⟨c, a1, n1, c1, a2, n2, c2, rfl, _, _, _, _, hb2⟩
    have hB2 := HB1.out.trans (hb2.mono HB1.out.size)
    have HB2 := Lib.hid (hB2.alloc hB2.size (.cells #[.slice a1 n1 c1, .slice a2 n2 c2] 24))
    clear hb2 hB2 q0 q1 lU
    go_wp2
    go_ret
    exact ⟨rfl, HB2.out⟩
end Go.Proofs.Ytoofogmlodfgmaa.gn
