/- The iterator over the windows in which there are never fewer: its contract. -/
import Derived.Test.YtigomdihkojdmaaFtA
import Derived.Test.YtigomdihkojdmaaGenRn
import Derived.Test.YtigomdihkojdmaaStT
import Derived.Test.YtigomdihkojdmaaStV
import Derived.Deep.QuietTactic
namespace Go.Proofs.Ytigomdihkojdmaa.gn
open Go.RowKit Go.Shelf
open Go.Proofs.Ytigomdihkojdmaa.sp

attribute [local go_sem] Oper.semAt_some

theorem cells_of_cell {w : World} {a : Addr} {v : Value} (h : w.cell? a = some v) : ∃ o, w.heap[a.block]? = some o ∧ o.isCells = true := by
  unfold World.cell? at h
  cases hb : w.heap[a.block]? with
  | none => rw [hb] at h; simp at h
  | some o =>
    refine ⟨o, rfl, ?_⟩
    rw [hb] at h
    cases o <;> first | rfl | (simp at h)

/-- All cells below B, but block c's, lie as they lay. -/
structure KpB (B c : Nat) (A C : World) : Prop where
  size : A.heap.size ≤ C.heap.size
  cells : ∀ k o, k < B → k ≠ c → A.heap[k]? = some o → o.isCells = true → C.heap[k]? = some o
theorem KpB.refl (B c : Nat) (A : World) : KpB B c A A := ⟨Nat.le_refl _, fun _ _ _ _ h _ => h⟩
theorem KpB.kp {B c : Nat} {A C D : World} (h : KpB B c A C) (k : KpC c C D) : KpB B c A D := ⟨Nat.le_trans h.size k.size, fun i o hB hi ho hc => k.cells i o hi (h.cells i o hB hi ho hc) hc⟩
theorem KpB.next {B c : Nat} {A C D : World} (h : KpB B c A C) (k : Below C.heap.size C D) : KpB B c A D := h.kp (KpC.of_below k)
theorem KpB.set {B c D : Nat} {A C : World} (h : KpB B c A C) (hD : B ≤ D) (j : Nat) (v : Value) : KpB B c A (C.setCell ⟨D, j, none⟩ v) :=
  ⟨by simpa using h.size, fun k o hB hk ho hc => (Below.heap_setCell _ _ _ _ (by show k ≠ D; omega)).trans (h.cells k o hB hk ho hc)⟩
theorem KpB.drewN {B c : Nat} {A C : World} (h : KpB B c A C) (n : Nat) : KpB B c A (C.drewN n) := ⟨h.size, h.cells⟩
theorem KpB.cell {B c k o : Nat} {A C : World} {v : Value} (h : KpB B c A C) (hB : k < B) (hc : k ≠ c) (hv : A.cell? ⟨k, o, none⟩ = some v) : C.cell? ⟨k, o, none⟩ = some v := by
  obtain ⟨u, hu, hcu⟩ := cells_of_cell hv
  exact (World.cell?_of_block (a := ⟨k, o, none⟩) ((h.cells k u hB hc hu hcu).trans hu.symm)).trans hv
theorem grown_drewN (A : World) (n : Nat) : A.grownBy (A.drewN n) none := ⟨rfl, rfl, rfl, Nat.le_refl _, fun _ _ _ => rfl⟩
theorem Box2.kc {A C : World} {c B : Nat} {t : TypeId} {u v : Value} (h : Box2 A B t u v) (hk : KpC c A C) (hc : B ≠ c) : Box2 C B t u v := hk.cells B _ hc h rfl
theorem Box2.drewN {A : World} {B : Nat} {t : TypeId} {u v : Value} (h : Box2 A B t u v) (n : Nat) : Box2 (A.drewN n) B t u v := h

/-- A window that is handed over. -/
abbrev Wd (P : Int × Int → Prop) := { x : Int × Int // P x }
def encW {P : Int × Int → Prop} (x : Wd P) : Array Value := #[.agg #[.int .i64 x.1.1, .int .i64 x.1.2]]

theorem snd_at {L : List (Int × Int)} {k : Nat} (hk : k < L.length) : (L.map Prod.snd)[k]?.getD 0 = (L[k]).2 := by
  rw [List.getElem?_map, List.getElem?_eq_getElem hk]; rfl
theorem fst_at {L : List (Int × Int)} {k : Nat} (hk : k < L.length) : (L.map Prod.fst)[k]?.getD 0 = (L[k]).1 := by
  rw [List.getElem?_map, List.getElem?_eq_getElem hk]; rfl

set_option maxRecDepth 100000 in
set_option maxHeartbeats 4000000 in
theorem free1_new (n : Nat) (hn : 1 ≤ n) (P : Int × Int → Prop) (L : List (Int × Int)) (hL : Ok L) (f nn : Int) (hf : 0 ≤ f) (hP : ∀ x ∈ wins L f nn, P x) (sB fB nB c : Nat) (v1 v2 : Value) (w : World)
    (hS : Box2 w sB 24 v1 v2) (hF : Boxed w fB 2 (.int .i64 f)) (hN : Boxed w nB 2 (.int .i64 nn)) (h1 : Ints w v1 (L.map Prod.fst)) (h2 : Ints w v2 (L.map Prod.snd)) (i1 : IntsB c w v1 (L.map Prod.fst)) (i2 : IntsB c w v2 (L.map Prod.snd))
    (hsc : sB ≠ c) (hnc : nB ≠ c) (hcw : c < w.heap.size) :
    SeqNew n Try.prog 35 #[.pointer (some ⟨fB, 0, none⟩), .pointer (some ⟨sB, 0, none⟩), .pointer (some ⟨nB, 0, none⟩)] (encW (P := P)) c
      (fun ys => ys.map Subtype.val = wins L f nn) (fun pre => ∃ R, wins L f nn = pre.map Subtype.val ++ R) (L.length + 1) w := by
  intro l J Jx W hW hJ _ hY h0
  have kS := box2_next hW hS
  have kF := Boxed.next hW hF
  have kN := Boxed.next hW hN
  have j1 := h1.below hW (Nat.le_refl _)
  have j2 := h2.below hW (Nat.le_refl _)
  have lS := hS.lt
  have lN := hN.lt
  have sS := kS.lt
  have sN := kN.lt
  have sF := kF.lt
  obtain ⟨b1, o1, c1, rfl, hb1, hc1⟩ := i1
  obtain ⟨b2, o2, c2, rfl, hb2, hc2⟩ := i2
  have HA : Hid (∀ C, KpB W.heap.size c W C → ∀ k (h : k < L.length), C.cell? ⟨b1, o1 + k, none⟩ = some (.int .i64 (L[k]).1)) := fun C hC k hk => by
    have := hc1 k (by rw [List.length_map]; exact hk)
    rw [fst_at hk] at this
    exact hC.cell (Nat.lt_of_lt_of_le (cell_lt this) hW.size) (by omega) ((hW.cell (p := ⟨b1, o1 + k, none⟩) (cell_lt this)).trans this)
  have HB : Hid (∀ C, KpB W.heap.size c W C → ∀ k (h : k < L.length), C.cell? ⟨b2, o2 + k, none⟩ = some (.int .i64 (L[k]).2)) := fun C hC k hk => by
    have := hc2 k (by rw [List.length_map]; exact hk)
    rw [snd_at hk] at this
    exact hC.cell (Nat.lt_of_lt_of_le (cell_lt this) hW.size) (by omega) ((hW.cell (p := ⟨b2, o2 + k, none⟩) (cell_lt this)).trans this)
  clear hc1 hc2
  have hlen1 : (L.map Prod.fst).length = L.length := List.length_map _
  have hlen2 : (L.map Prod.snd).length = L.length := List.length_map _
  rw [hlen1] at kS j1
  rw [hlen2] at kS j2
  have hstep : Prof W (.agg #[.slice (some ⟨b1, o1, none⟩) L.length c1, .slice (some ⟨b2, o2, none⟩) L.length c2]) (L.map Prod.fst) (L.map Prod.snd) := ⟨_, _, rfl, j1, j2⟩
  have HT := Lib.hid fun (C : World) (hC : Below W.heap.size W C) => step_any (hstep.below hC (Nat.le_refl _)) hL hf
  have hix := (ix_at hL hf).lt
  have hle := hL.le
  have HK0 := Lib.hid kS
  have HKN := Lib.hid kN
  have cS0 := kS.cell0
  have cS1 := kS.cell1
  have cF := kF.cell
  have HY := Lib.hid hY
  have HJ := Lib.hid hJ
  have HPw := Lib.hid hP
  clear hY hJ j1 j2 hstep kS kF kN hS hF hN h1 h2 hlen1 hlen2 hL hP
  refine callsIn_of_wp Try.func35 rfl trivial ?_ rfl
  simp only [Try.ntmps35, List.size_toArray, List.length_cons, List.length_nil, Nat.reduceAdd, Nat.reduceSub, Array.replicate_succ, Array.replicate_zero, List.push_toArray, List.append_toArray, List.nil_append, List.cons_append]
  gi_wp2_with (refine ⟨trivial, ?_⟩; gi_at_call 36; refine (callsIn_wide.2 (HT.out _ ((Below.refl _ W).alloc (Nat.le_refl _) _))).mono ?_; rintro e w1 ⟨rfl, hb⟩; have bD := box2_next hb (Box2.new W 64 (.int .i64 f) (.int .i64 f)); have hw1 := ((Below.refl W.heap.size W).alloc (Nat.le_refl _) (.cells #[.int .i64 f, .int .i64 f] 64)).trans (hb.mono (by simp)); have HW1 := Lib.hid hw1; have HD := Lib.hid bD; clear hb bD hw1 cS0 cS1 cF)
  gi_loopw [6] (fun i wr => ∃ k : Nat, k ≤ L.length ∧ i = .int .i64 (k : Int) ∧ ∃ (pre : List (Wd P)) (a b : Int), Box2 wr W.heap.size 64 (.int .i64 a) (.int .i64 b) ∧ wins L f nn = pre.map Subtype.val ++ wgo nn (L.drop k) a b ∧ J pre wr ∧ pre.length ≤ k ∧ KpB W.heap.size c W wr)
    (fun i _ => L.length - (intOf i).toNat)
  case atStart =>
    exact ⟨ix L f, by omega, rfl, [], f, f, HD.out, rfl, HJ.out [] W w1 none h0 ⟨HW1.out.os, HW1.out.tape, HW1.out.output, HW1.out.size, fun k hk _ => HW1.out.block k hk⟩ (fun r e => by cases e), Nat.zero_le _, (KpB.refl _ _ _).next HW1.out⟩
  case round =>
    obtain ⟨k, hk, rfl, pre, a, b, bD, hw, hJp, hpk, hkp⟩ := hrel
    have kS : Box2 wr sB 24 (.slice (some ⟨b1, o1, none⟩) L.length c1) (.slice (some ⟨b2, o2, none⟩) L.length c2) := hkp.cells sB _ sS hsc HK0.out rfl
    have kN : Boxed wr nB 2 (.int .i64 nn) := hkp.cells nB _ sN hnc HKN.out rfl
    have cS0 := kS.cell0
    have cS1 := kS.cell1
    have cN := kN.cell
    have cD0 := bD.cell0
    have cD1 := bD.cell1
    have fD0 := bD.free 0
    have fD1 := bD.free 1
    have lD := bD.lt
    have HBD := Lib.hid bD
    have HKP := Lib.hid hkp
    clear kS kN bD hkp
    by_cases hlt : k < L.length
    · have hcN := HB.out wr HKP.out k hlt
      have hg : wgo nn (L.drop k) a b = if nn ≤ (L[k]).2 then wgo nn (L.drop (k + 1)) a (ende (L.drop (k + 1))) else (a, b) :: wgo nn (L.drop (k + 1)) (ende (L.drop (k + 1))) (ende (L.drop (k + 1))) := by
        rw [List.drop_eq_getElem_cons hlt]; rfl
      generalize (L[k]).2 = x at *
      rcases Classical.em (k + 1 < L.length) with hl1 | hl1 <;> rcases Classical.em (nn ≤ x) with hge | hge
      · have hcA := HA.out wr HKP.out (k + 1) hl1
        have he : ende (L.drop (k + 1)) = (L[k + 1]).1 := ende_drop hl1
        rw [he] at hg
        clear he
        generalize (L[k + 1]).1 = en at *
        rw [if_pos hge] at hg
        have hd : decide (nn ≤ x) = true := decide_eq_true hge
        have HW := Lib.hid (hw.trans (congrArg _ hg))
        clear hg hw hge
        gi_wp2_with fail
        refine wpIn_wide.2 ?_
        go_quiet (fail)
        rename_i K9 h9
        refine h9 _ _ ?_
        clear h9 K9
        have HJ2 := Lib.hid (HJ.out pre wr (wr.drewN nq) none hJp (grown_drewN _ _) (fun r e => by cases e))
        clear hJp
        gi_wp2
        go_roundw
        case rel => exact ⟨k + 1, by omega, by go_num, pre, a, en, (HBD.out.drewN nq).setB _, HW.out, HJ.out pre _ _ _ HJ2.out (grownBy_setCell2 _ W.heap.size 1 _) (fun r e => by cases e; exact Nat.le_refl _), by omega, (HKP.out.drewN nq).set (Nat.le_refl _) 1 _⟩
        case measure => simp [intOf]; omega
      · have hcA := HA.out wr HKP.out (k + 1) hl1
        have he : ende (L.drop (k + 1)) = (L[k + 1]).1 := ende_drop hl1
        rw [he] at hg
        clear he
        generalize (L[k + 1]).1 = en at *
        rw [if_neg hge] at hg
        have hd : decide (nn ≤ x) = false := decide_eq_false hge
        have hwp := hw.trans (congrArg _ hg)
        have hPx : P (a, b) := HPw.out _ (by rw [hwp]; simp)
        have hwq : wins L f nn = (pre ++ [(⟨(a, b), hPx⟩ : Wd P)]).map Subtype.val ++ wgo nn (L.drop (k + 1)) en en := by rw [hwp]; simp
        have HW := Lib.hid hwq
        clear hg hw hge hwp hwq
        gi_wp2_with fail
        refine wpIn_wide.2 ?_
        go_quiet (fail)
        rename_i K9 h9
        refine h9 _ _ ?_
        clear h9 K9
        obtain ⟨fn, tmps, assign, body, hy, hR⟩ := HY.out pre ⟨(a, b), hPx⟩ (wr.drewN nq) (HJ.out pre wr (wr.drewN nq) none hJp (grown_drewN _ _) (fun r e => by cases e)) (by omega)
        dsimp only [encW] at hy
        clear hJp
        gi_wp2
        refine hR.mono ?_
        rintro e W3 (⟨rfl, hJ3, hk3⟩ | ⟨rfl, hJx3⟩)
        · have bD3 := (HBD.out.drewN nq).kc hk3 (by have := hW.size; omega)
          have fD30 := bD3.free 0
          have fD31 := bD3.free 1
          have cD30 := bD3.cell0
          have cD31 := bD3.cell1
          have HBD3 := Lib.hid bD3
          have HKP3 := Lib.hid ((HKP.out.drewN nq).kp hk3)
          have HJ3 := Lib.hid hJ3
          clear bD3 hk3 hJ3 hR hy
          gi_wp2
          go_roundw
          case rel => exact ⟨k + 1, by omega, by go_num, pre ++ [⟨(a, b), hPx⟩], en, en, HBD3.out.set2 _ _, HW.out, HJ.out _ _ _ _ (HJ.out _ _ _ _ HJ3.out (grownBy_setCell2 _ W.heap.size 0 _) (fun r e => by cases e; exact Nat.le_refl _)) (grownBy_setCell2 _ W.heap.size 1 _) (fun r e => by cases e; exact Nat.le_refl _), by simp; omega, (HKP3.out.set (Nat.le_refl _) 0 _).set (Nat.le_refl _) 1 _⟩
          case measure => simp [intOf]; omega
        · clear hR hy
          gi_wp2
          refine bodyPost_ret (results_none rfl _ _ _) rfl ?_
          exact ⟨⟨_, rfl⟩, .inr ⟨_, ⟨_, HW.out⟩, hJx3⟩⟩
      · have he : ende (L.drop (k + 1)) = 1099511627776 := by rw [List.drop_eq_nil_of_le (by omega)]; rfl
        rw [he] at hg
        clear he
        rw [if_pos hge] at hg
        have hd : decide (nn ≤ x) = true := decide_eq_true hge
        have HW := Lib.hid (hw.trans (congrArg _ hg))
        clear hg hw hge
        gi_wp2_with fail
        refine wpIn_wide.2 ?_
        go_quiet (fail)
        rename_i K9 h9
        refine h9 _ _ ?_
        clear h9 K9
        have HJ2 := Lib.hid (HJ.out pre wr (wr.drewN nq) none hJp (grown_drewN _ _) (fun r e => by cases e))
        clear hJp
        gi_wp2
        go_roundw
        case rel => exact ⟨k + 1, by omega, by go_num, pre, a, 1099511627776, (HBD.out.drewN nq).setB _, HW.out, HJ.out pre _ _ _ HJ2.out (grownBy_setCell2 _ W.heap.size 1 _) (fun r e => by cases e; exact Nat.le_refl _), by omega, (HKP.out.drewN nq).set (Nat.le_refl _) 1 _⟩
        case measure => simp [intOf]; omega
      · have he : ende (L.drop (k + 1)) = 1099511627776 := by rw [List.drop_eq_nil_of_le (by omega)]; rfl
        rw [he] at hg
        clear he
        rw [if_neg hge] at hg
        have hd : decide (nn ≤ x) = false := decide_eq_false hge
        have hwp := hw.trans (congrArg _ hg)
        have hPx : P (a, b) := HPw.out _ (by rw [hwp]; simp)
        have hwq : wins L f nn = (pre ++ [(⟨(a, b), hPx⟩ : Wd P)]).map Subtype.val ++ wgo nn (L.drop (k + 1)) 1099511627776 1099511627776 := by rw [hwp]; simp
        have HW := Lib.hid hwq
        clear hg hw hge hwp hwq
        gi_wp2_with fail
        refine wpIn_wide.2 ?_
        go_quiet (fail)
        rename_i K9 h9
        refine h9 _ _ ?_
        clear h9 K9
        obtain ⟨fn, tmps, assign, body, hy, hR⟩ := HY.out pre ⟨(a, b), hPx⟩ (wr.drewN nq) (HJ.out pre wr (wr.drewN nq) none hJp (grown_drewN _ _) (fun r e => by cases e)) (by omega)
        dsimp only [encW] at hy
        clear hJp
        gi_wp2
        refine hR.mono ?_
        rintro e W3 (⟨rfl, hJ3, hk3⟩ | ⟨rfl, hJx3⟩)
        · have bD3 := (HBD.out.drewN nq).kc hk3 (by have := hW.size; omega)
          have fD30 := bD3.free 0
          have fD31 := bD3.free 1
          have cD30 := bD3.cell0
          have cD31 := bD3.cell1
          have HBD3 := Lib.hid bD3
          have HKP3 := Lib.hid ((HKP.out.drewN nq).kp hk3)
          have HJ3 := Lib.hid hJ3
          clear bD3 hk3 hJ3 hR hy
          gi_wp2
          go_roundw
          case rel => exact ⟨k + 1, by omega, by go_num, pre ++ [⟨(a, b), hPx⟩], 1099511627776, 1099511627776, HBD3.out.set2 _ _, HW.out, HJ.out _ _ _ _ (HJ.out _ _ _ _ HJ3.out (grownBy_setCell2 _ W.heap.size 0 _) (fun r e => by cases e; exact Nat.le_refl _)) (grownBy_setCell2 _ W.heap.size 1 _) (fun r e => by cases e; exact Nat.le_refl _), by simp; omega, (HKP3.out.set (Nat.le_refl _) 0 _).set (Nat.le_refl _) 1 _⟩
          case measure => simp [intOf]; omega
        · clear hR hy
          gi_wp2
          refine bodyPost_ret (results_none rfl _ _ _) rfl ?_
          exact ⟨⟨_, rfl⟩, .inr ⟨_, ⟨_, HW.out⟩, hJx3⟩⟩
    · obtain rfl : k = L.length := by omega
      have hg : wgo nn (L.drop L.length) a b = [(a, b)] := by rw [List.drop_length]; rfl
      have hwp := hw.trans (congrArg _ hg)
      have hPx : P (a, b) := HPw.out _ (by rw [hwp]; simp)
      have hwq : wins L f nn = (pre ++ [(⟨(a, b), hPx⟩ : Wd P)]).map Subtype.val := by rw [hwp]; simp
      have HW := Lib.hid hwq
      clear hg hw hwp hwq
      obtain ⟨fn, tmps, assign, body, hy, hR⟩ := HY.out pre ⟨(a, b), hPx⟩ wr hJp (by omega)
      dsimp only [encW] at hy
      gi_wp2
      refine hR.mono ?_
      rintro e W3 (⟨rfl, hJ3, hk3⟩ | ⟨rfl, hJx3⟩)
      · clear hR hy hJp
        gi_wp2
        go_end0
        exact ⟨⟨_, rfl⟩, .inl ⟨_, HW.out.symm, hJ3⟩⟩
      · clear hR hy hJp
        gi_wp2
        go_end0
        exact ⟨⟨_, rfl⟩, .inr ⟨_, ⟨[], by rw [List.append_nil]; exact HW.out⟩, hJx3⟩⟩
end Go.Proofs.Ytigomdihkojdmaa.gn
