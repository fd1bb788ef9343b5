/- Pools in memory; used, with. -/
import Derived.Test.YtdjpnlkhdilakaaPoB
set_option linter.unusedVariables false
set_option linter.unusedSimpArgs false
set_option maxRecDepth 100000
namespace Go.Proofs.Ytdjpnlkhdilakaa.gn
open Go.RowKit Go.Shelf Go.Sort Go.Lib
open Go.Proofs.Ytdjpnlkhdilakaa.ex
open Go.Proofs.Ytdjpnlkhdilakaa.po (Nm U less Pl)

attribute [local go_sem] Oper.semAt_some

abbrev aggP (p : Pl) (vf vu : Value) : Value := .agg #[.int .i64 p.size, .int .i64 p.grain, .int .i64 p.quota, .bool p.drain, .bool p.best, vf, vu]
abbrev boxP (p : Pl) (vf vu : Value) : Obj := .cells #[.int .i64 p.size, .int .i64 p.grain, .int .i64 p.quota, .bool p.drain, .bool p.best, vf, vu] 25
/-- v is this pool. -/
def PolV (w : World) (v : Value) (p : Pl) : Prop := ∃ vf vu, v = aggP p vf vu ∧ Rd w vf p.free ∧ RdU w vu p.uses
theorem PolV.next {w w' : World} {v : Value} {p : Pl} (h : PolV w v p) (hb : RowKit.Below w.heap.size w w') : PolV w' v p := by
  obtain ⟨vf, vu, e, h1, h2⟩ := h
  exact ⟨vf, vu, e, h1.next hb, h2.next hb⟩
/-- A pool's box. -/
structure PB (W : World) (B : Nat) (p : Pl) (vf vu : Value) : Prop where
  k0 : W.cell? ⟨B, 0, none⟩ = some (.int .i64 p.size)
  k1 : W.cell? ⟨B, 1, none⟩ = some (.int .i64 p.grain)
  k2 : W.cell? ⟨B, 2, none⟩ = some (.int .i64 p.quota)
  k3 : W.cell? ⟨B, 3, none⟩ = some (.bool p.drain)
  k4 : W.cell? ⟨B, 4, none⟩ = some (.bool p.best)
  k5 : W.cell? ⟨B, 5, none⟩ = some vf
  k6 : W.cell? ⟨B, 6, none⟩ = some vu
theorem PB.lt {W : World} {B : Nat} {p : Pl} {vf vu : Value} (h : PB W B p vf vu) : B < W.heap.size := cell_lt h.k0
theorem PB.new (w : World) (p : Pl) (vf vu : Value) : PB (w.alloc (boxP p vf vu)) w.heap.size p vf vu := by
  have hh := World.alloc_heap_new w (boxP p vf vu)
  exact ⟨cell_of_row _ _ 0 _ _ (0, 0) hh, cell_of_row _ _ 1 _ _ (0, 0) hh, cell_of_row _ _ 2 _ _ (0, 0) hh, cell_of_row _ _ 3 _ _ (0, 0) hh, cell_of_row _ _ 4 _ _ (0, 0) hh, cell_of_row _ _ 5 _ _ (0, 0) hh, cell_of_row _ _ 6 _ _ (0, 0) hh⟩
theorem PB.next {W W' : World} {B : Nat} {p : Pl} {vf vu : Value} (h : PB W B p vf vu) (hb : RowKit.Below W.heap.size W W') : PB W' B p vf vu := by
  have hl := h.lt
  have c : ∀ k, W'.cell? ⟨B, k, none⟩ = W.cell? ⟨B, k, none⟩ := fun k => hb.cell (p := ⟨B, k, none⟩) hl
  exact ⟨(c 0).trans h.k0, (c 1).trans h.k1, (c 2).trans h.k2, (c 3).trans h.k3, (c 4).trans h.k4, (c 5).trans h.k5, (c 6).trans h.k6⟩
theorem PB.drew {W : World} {B : Nat} {p : Pl} {vf vu : Value} (h : PB W B p vf vu) : PB W.drew B p vf vu := ⟨h.k0, h.k1, h.k2, h.k3, h.k4, h.k5, h.k6⟩

set_option maxHeartbeats 2000000 in
theorem used_any {w : World} {v : Value} {p : Pl} (u : Nm) (h : PolV w v p) (hr : po.Rise p.uses) (hl : p.uses.length ≤ 4000) : Calls Try.prog 23 #[v, .string (str u)] w (Tells (po.lk p.uses u) w) := by
  obtain ⟨vf, vu, rfl, hf, hu⟩ := h
  obtain ⟨W1, hW1⟩ : ∃ W1, w.alloc (boxP p vf vu) = W1 := ⟨_, rfl⟩
  have hb1 : RowKit.Below w.heap.size w W1 := by rw [← hW1]; exact (Below.refl _ w).alloc (Nat.le_refl _) _
  have pb : PB W1 w.heap.size p vf vu := by rw [← hW1]; exact PB.new w p vf vu
  have hu1 := hu.next hb1
  have cf := find_any u hu1 hr hl
  have hk := po.lk_eq (u := u) hr
  have ht := po.thr_eq p.uses u
  obtain ⟨q, c, rfl, hle⟩ := hu.2
  have hat := fun (W : World) (hb : RowKit.Below W1.heap.size W1 W) (hlt : po.pos p.uses u < p.uses.length) => (hu1.next hb).at_ hlt
  have HB := Lib.hid (And.intro hb1 pb)
  obtain ⟨size, grain, quota, drain, best, fr, us⟩ := p
  try dsimp only at *
  generalize po.pos us u = i at *
  have HC := Lib.hid cf
  have k6 := pb.k6
  try dsimp only at k6
  clear cf hf hu hu1 hr hb1 pb
  cases hth : po.thr us u with
  | true =>
    rw [hth, if_pos rfl] at hk
    rw [hth] at ht
    have hlt : i < us.length := by
      cases hd : decide (i < us.length) with
      | true => exact of_decide_eq_true hd
      | false => rw [hd] at ht; cases ht
    have hiz : decide ((i : Int) < (us.length : Int)) = true := decide_eq_true (by omega)
    have hat := fun W hb => hat W hb hlt
    rw [hth] at HC
    have HA := Lib.hid hat
    have HK := Lib.hid hk
    clear hat hk ht hth
    generalize str u = su at *
    go_enter Try.func23, Try.ntmps23
    go_upto_region 2 with (go_at_call 42; refine HC.out.mono ?_; rintro e w2 ⟨rfl, hb2⟩; have pb2 := HB.out.2.next hb2; obtain ⟨b, off, hq, hbb, _, c1⟩ := HA.out w2 hb2; have HG := Lib.hid (HB.out.1.trans (hb2.mono HB.out.1.size)); clear hb2)
    subst hq
    have c6 := pb2.k6
    try dsimp only at c6
    clear pb2 k6
    generalize us[i]!.2 = n at *
    go_wp2
    go_ret
    exact ⟨by rw [HK.out]; rfl, HG.out⟩
  | false =>
    rw [hth, if_neg (by simp)] at hk
    rw [hth] at HC
    have HK := Lib.hid hk
    clear hat hk ht hth
    generalize str u = su at *
    go_enter Try.func23, Try.ntmps23
    go_wp2_with (go_at_call 42; refine HC.out.mono ?_; rintro e w2 ⟨rfl, hb2⟩; have HG := Lib.hid (HB.out.1.trans (hb2.mono HB.out.1.size)); clear hb2)
    go_ret
    exact ⟨by rw [HK.out]; rfl, HG.out⟩

/-! with -/
theorem slice_from {w : World} {p : Option Addr} {c : Nat} {l : List U} (h : RdU w (.slice p l.length c) l) (i : Nat) (hi : i ≤ l.length) (k : Int) (hk : k = (i : Int)) :
    ∃ R, (RdU w R (l.drop i) ∧ ∃ q c', R = .slice q (l.drop i).length c') ∧ ∀ W, (Instr.slice 23 (.slice p l.length c) (some (.int .i64 k)) none none).run Try.prog W = .ok R W := by
  subst hk
  refine ⟨_, ⟨h.from i hi, _, _, by rw [List.length_drop]⟩, fun W => ?_⟩
  have hz : (sizeOf (Try.prog.elem 23)).run Try.prog W = .ok 2 W := by kernel_rfl
  rw [run_slice_l W 23 p l.length c Try.underlying23 .i64 (i : Int) (by omega) (by omega), hz]
  rfl
theorem slice_upto {w : World} {p : Option Addr} {c : Nat} {l : List U} (h : RdU w (.slice p l.length c) l) (i : Nat) (hi : i ≤ l.length) :
    ∃ R, (RdU w R (l.take i) ∧ ∃ q c', R = .slice q (l.take i).length c') ∧ ∀ W, (Instr.slice 23 (.slice p l.length c) none (some (.int .i64 (i : Int))) none).run Try.prog W = .ok R W := by
  obtain ⟨p', c', he, hle⟩ := h.2
  simp only [Value.slice.injEq, true_and] at he
  obtain ⟨rfl, rfl⟩ := he
  have hl : (l.take i).length = i := by rw [List.length_take]; omega
  have hz : ∀ W, (sizeOf (Try.prog.elem 23)).run Try.prog W = .ok 2 W := fun W => by kernel_rfl
  have hrun : ∀ W, (Instr.slice 23 (.slice p l.length c) none (some (.int .i64 (i : Int))) none).run Try.prog W = .ok (sliced p 0 i c 2) W := fun W => by
    rw [run_slice_h W 23 p l.length c Try.underlying23 .i64 (i : Int) (by omega) (by omega), hz]
    rfl
  refine ⟨_, ⟨?_, ?_⟩, hrun⟩
  · have h1 := h.upto i hi
    have e : sliced p 0 i c 2 = .slice p i c ∨ i = 0 := by
      rcases h.1 with ⟨_, _, he, h0, _⟩ | ⟨b, off, c2, he, _⟩
      · exact .inr (by omega)
      · simp only [Value.slice.injEq] at he
        obtain ⟨rfl, _⟩ := he
        left
        unfold sliced
        split <;> simp [Addr.add_lit]
    rcases e with e | rfl
    · rw [e]; exact h1
    · unfold sliced
      simp only [List.take_zero, Nat.zero_mul, Nat.sub_zero]
      refine ⟨.inl ⟨_, _, rfl, rfl, rfl, fun e => ?_⟩, _, _, rfl, Nat.zero_le _⟩
      rcases h.1 with ⟨p', c', he, _, _, hz⟩ | ⟨b, off, c2, he, _⟩
      · simp only [Value.slice.injEq] at he
        obtain ⟨rfl, _, rfl⟩ := he
        have : p = none := by
          split at e
          · exact e
          · simpa using e
        exact hz this
      · simp only [Value.slice.injEq] at he
        rw [he.1] at e
        split at e <;> cases e
  · unfold sliced
    exact ⟨_, _, by rw [hl, Nat.sub_zero]⟩
theorem one_use (w : World) (s : ByteArray) (n : Int) : RdC (w.alloc (.cells #[.string s, .int .i64 n] 62)) (.slice (some ⟨w.heap.size, 0, none⟩) 1 1) 1 [.string s, .int .i64 n] := by
  refine .inr ⟨w.heap.size, 0, 1, rfl, by simp, fun j u hu => ?_⟩
  have hh := World.alloc_heap_new w (.cells #[.string s, .int .i64 n] 62)
  rw [Nat.zero_add, cell_of_row _ _ j _ _ (0, 0) hh]
  simpa using hu
set_option maxHeartbeats 4000000 in
theorem with_any {w : World} {v : Value} {l : List U} (u : Nm) (n : Int) (h : RdU w v l) (hr : po.Rise l) (hl : l.length ≤ 3900) :
    Calls Try.prog 25 #[v, .string (str u), .int .i64 n] w fun e w' => ∃ q c, e = .returned (.slice q (po.withU l u n).length c) ∧ ApC w.heap.size 62 2 w' (.slice q (po.withU l u n).length c) (po.withU l u n).length (flU (po.withU l u n)) ∧ RowKit.Below w.heap.size w w' := by
  obtain ⟨p, c, rfl, hle⟩ := h.2
  have cf := find_any u h hr (by omega)
  have hp := po.pos_le l u
  have ht := po.thr_eq l u
  have hW : po.withU l u n = (l.take (po.pos l u) ++ if 0 < n then [(u, n)] else []) ++ l.drop (if po.thr l u then po.pos l u + 1 else po.pos l u) := po.form_with l u n
  generalize po.pos l u = i at *
  obtain ⟨R0, ⟨r0, q0, c0, e0⟩, run0⟩ := slice_upto h i hp
  obtain ⟨R1, ⟨r1, q1, c1, e1⟩, run1⟩ := slice_from h i hp (i : Int) rfl
  have HR1 : Hid (RdU w R1 (l.drop i)) := r1
  have cc := fun (W : World) (hb : RowKit.Below w.heap.size w W) => copiedU_any (r0.next hb) (by rw [List.length_take]; omega)
  have HCC := Lib.hid cc
  have hlA : (l.take i).length = i := by rw [List.length_take]; omega
  have h63 : IntKind.i64.wrap ((i : Int) + 1) = (i : Int) + 1 := by rw [IntKind.wrap_i64]; omega
  subst e0
  cases hth : po.thr l u with
  | true =>
    rw [hth, if_pos rfl] at hW
    rw [hth] at ht cf
    have hlt : i < l.length := by
      cases hd : decide (i < l.length) with
      | true => exact of_decide_eq_true hd
      | false => rw [hd] at ht; cases ht
    obtain ⟨R2, ⟨r2, q2, c2, e2⟩, run2⟩ := slice_from h (i + 1) (by omega) ((i : Int) + 1) (by omega)
    have hlD : (l.drop (i + 1)).length ≤ 3900 := by rw [List.length_drop]; omega
    have HR2 : Hid (RdU w R2 (l.drop (i + 1))) := r2
    have HC := Lib.hid cf
    generalize l.take i = A at *
    generalize l.drop (i + 1) = D at *
    have HW : Hid (po.withU l u n = (A ++ if 0 < n then [(u, n)] else []) ++ D) := hW
    have HLA := Lib.hid hlA
    have hAl : A.length ≤ 3900 := by omega
    subst e2
    clear cf r0 r1 r2 HR1 cc hW hlA ht hth h hr
    by_cases hn : 0 < n
    · have hd : decide (0 < n) = true := decide_eq_true hn
      have HN : Hid (0 < n) := hn
      clear hn
      go_enter Try.func25, Try.ntmps25
      go_wp2_with (first
        | (go_at_call 42; refine HC.out.mono ?_; rintro e w1 ⟨rfl, hb1⟩; have cc := HCC.out w1 hb1; have CC := Lib.hid cc; have HB1 := Lib.hid hb1; clear cc hb1)
        | (go_at_call 36; refine CC.out.mono ?_; rintro e w2 ⟨q3, c3, rfl, h3, hb2⟩; have hbx := HB1.out.trans (hb2.mono HB1.out.size); have H3 := Lib.hid (h3.mono HB1.out.size); have HB2 := Lib.hid hbx; clear hb2 h3 hbx)
        | (at_builtin; refine wpl_ap eltU rfl _ _ rfl (base := w.heap.size) (n := A.length) (m := 1) (cs := flU A) (ds := ([Value.string (str u), Value.int .i64 n] : List Value)) rfl (H3.out.next ((Below.refl _ _).alloc (Nat.le_refl _) _)) rfl (one_use _ _ _) rfl (by intro v hv; rcases List.mem_cons.1 hv with rfl | hv; rfl; rcases List.mem_cons.1 hv with rfl | hv; rfl; cases hv) (by unfold maxLen; omega) (by omega) (by have := HB2.out.size; simp; omega) ?_; intro p4 c4 w4 h4 _ hb4; have H4 := Lib.hid h4; have HB4 := Lib.hid ((HB2.out.alloc HB2.out.size _).trans hb4); clear h4 hb4)
        | (at_builtin; refine wpl_ap eltU rfl _ _ rfl (base := w.heap.size) (n := A.length + 1) (m := D.length) (cs := flU A ++ ([Value.string (str u), Value.int .i64 n] : List Value)) (ds := flU D) rfl H4.out rfl (HR2.out.next HB4.out).1 (flU_length D) (flU_one D) (by unfold maxLen; omega) (by omega) HB4.out.size ?_; intro p5 c5 w5 h5 h6 hb5; have H5 := Lib.hid (And.intro h5 h6); have HB5 := Lib.hid (HB4.out.trans hb5); clear h5 h6 hb5))
      go_ret
      have e : po.withU l u n = (A ++ [(u, n)]) ++ D := by rw [HW.out, if_pos HN.out]
      have el : A.length + 1 + D.length = (po.withU l u n).length := by rw [e]; simp; omega
      have ef : flU A ++ [.string (str u), .int .i64 n] ++ flU D = flU (po.withU l u n) := by rw [e, flU_append, flU_append]; rfl
      have h5 := H5.out.1
      rw [ef] at h5
      exact ⟨p5, c5, by rw [← el]; rfl, by rw [← el]; rw [el] at h5 ⊢; exact h5, HB5.out⟩
    · have hd : decide (0 < n) = false := decide_eq_false hn
      have HN : Hid (¬ 0 < n) := hn
      clear hn
      go_enter Try.func25, Try.ntmps25
      go_wp2_with (first
        | (go_at_call 42; refine HC.out.mono ?_; rintro e w1 ⟨rfl, hb1⟩; have cc := HCC.out w1 hb1; have CC := Lib.hid cc; have HB1 := Lib.hid hb1; clear cc hb1)
        | (go_at_call 36; refine CC.out.mono ?_; rintro e w2 ⟨q3, c3, rfl, h3, hb2⟩; have hbx := HB1.out.trans (hb2.mono HB1.out.size); have H3 := Lib.hid (h3.mono HB1.out.size); have HB2 := Lib.hid hbx; clear hb2 h3 hbx)
        | (at_builtin; refine wpl_ap eltU rfl _ _ rfl (base := w.heap.size) (n := A.length) (m := D.length) (cs := flU A) (ds := flU D) rfl H3.out rfl (HR2.out.next HB2.out).1 (flU_length D) (flU_one D) (by unfold maxLen; omega) (by omega) HB2.out.size ?_; intro p5 c5 w5 h5 h6 hb5; have H5 := Lib.hid (And.intro h5 h6); have HB5 := Lib.hid (HB2.out.trans hb5); clear h5 h6 hb5))
      go_ret
      have e : po.withU l u n = A ++ D := by rw [HW.out, if_neg (show ¬ 0 < n by have := HN.out; omega), List.append_nil]
      have el : A.length + D.length = (po.withU l u n).length := by rw [e]; simp
      have ef : flU A ++ flU D = flU (po.withU l u n) := by rw [e, flU_append]
      have h5 := H5.out.1
      rw [ef] at h5
      exact ⟨p5, c5, by rw [← el]; rfl, by rw [← el]; rw [el] at h5 ⊢; exact h5, HB5.out⟩
  | false =>
    rw [hth, if_neg (show ¬ (false = true) by simp)] at hW
    rw [hth] at cf
    have hlD : (l.drop i).length ≤ 3900 := by rw [List.length_drop]; omega
    have HC := Lib.hid cf
    generalize l.take i = A at *
    generalize l.drop i = D at *
    have HW : Hid (po.withU l u n = (A ++ if 0 < n then [(u, n)] else []) ++ D) := hW
    have HLA := Lib.hid hlA
    have hAl : A.length ≤ 3900 := by omega
    subst e1
    clear cf r0 r1 cc hW hlA ht hth h hr
    by_cases hn : 0 < n
    · have hd : decide (0 < n) = true := decide_eq_true hn
      have HN : Hid (0 < n) := hn
      clear hn
      go_enter Try.func25, Try.ntmps25
      go_wp2_with (first
        | (go_at_call 42; refine HC.out.mono ?_; rintro e w1 ⟨rfl, hb1⟩; have cc := HCC.out w1 hb1; have CC := Lib.hid cc; have HB1 := Lib.hid hb1; clear cc hb1)
        | (go_at_call 36; refine CC.out.mono ?_; rintro e w2 ⟨q3, c3, rfl, h3, hb2⟩; have hbx := HB1.out.trans (hb2.mono HB1.out.size); have H3 := Lib.hid (h3.mono HB1.out.size); have HB2 := Lib.hid hbx; clear hb2 h3 hbx)
        | (at_builtin; refine wpl_ap eltU rfl _ _ rfl (base := w.heap.size) (n := A.length) (m := 1) (cs := flU A) (ds := ([Value.string (str u), Value.int .i64 n] : List Value)) rfl (H3.out.next ((Below.refl _ _).alloc (Nat.le_refl _) _)) rfl (one_use _ _ _) rfl (by intro v hv; rcases List.mem_cons.1 hv with rfl | hv; rfl; rcases List.mem_cons.1 hv with rfl | hv; rfl; cases hv) (by unfold maxLen; omega) (by omega) (by have := HB2.out.size; simp; omega) ?_; intro p4 c4 w4 h4 _ hb4; have H4 := Lib.hid h4; have HB4 := Lib.hid ((HB2.out.alloc HB2.out.size _).trans hb4); clear h4 hb4)
        | (at_builtin; refine wpl_ap eltU rfl _ _ rfl (base := w.heap.size) (n := A.length + 1) (m := D.length) (cs := flU A ++ ([Value.string (str u), Value.int .i64 n] : List Value)) (ds := flU D) rfl H4.out rfl (HR1.out.next HB4.out).1 (flU_length D) (flU_one D) (by unfold maxLen; omega) (by omega) HB4.out.size ?_; intro p5 c5 w5 h5 h6 hb5; have H5 := Lib.hid (And.intro h5 h6); have HB5 := Lib.hid (HB4.out.trans hb5); clear h5 h6 hb5))
      go_ret
      have e : po.withU l u n = (A ++ [(u, n)]) ++ D := by rw [HW.out, if_pos HN.out]
      have el : A.length + 1 + D.length = (po.withU l u n).length := by rw [e]; simp; omega
      have ef : flU A ++ [.string (str u), .int .i64 n] ++ flU D = flU (po.withU l u n) := by rw [e, flU_append, flU_append]; rfl
      have h5 := H5.out.1
      rw [ef] at h5
      exact ⟨p5, c5, by rw [← el]; rfl, by rw [← el]; rw [el] at h5 ⊢; exact h5, HB5.out⟩
    · have hd : decide (0 < n) = false := decide_eq_false hn
      have HN : Hid (¬ 0 < n) := hn
      clear hn
      go_enter Try.func25, Try.ntmps25
      go_wp2_with (first
        | (go_at_call 42; refine HC.out.mono ?_; rintro e w1 ⟨rfl, hb1⟩; have cc := HCC.out w1 hb1; have CC := Lib.hid cc; have HB1 := Lib.hid hb1; clear cc hb1)
        | (go_at_call 36; refine CC.out.mono ?_; rintro e w2 ⟨q3, c3, rfl, h3, hb2⟩; have hbx := HB1.out.trans (hb2.mono HB1.out.size); have H3 := Lib.hid (h3.mono HB1.out.size); have HB2 := Lib.hid hbx; clear hb2 h3 hbx)
        | (at_builtin; refine wpl_ap eltU rfl _ _ rfl (base := w.heap.size) (n := A.length) (m := D.length) (cs := flU A) (ds := flU D) rfl H3.out rfl (HR1.out.next HB2.out).1 (flU_length D) (flU_one D) (by unfold maxLen; omega) (by omega) HB2.out.size ?_; intro p5 c5 w5 h5 h6 hb5; have H5 := Lib.hid (And.intro h5 h6); have HB5 := Lib.hid (HB2.out.trans hb5); clear h5 h6 hb5))
      go_ret
      have e : po.withU l u n = A ++ D := by rw [HW.out, if_neg (show ¬ 0 < n by have := HN.out; omega), List.append_nil]
      have el : A.length + D.length = (po.withU l u n).length := by rw [e]; simp
      have ef : flU A ++ flU D = flU (po.withU l u n) := by rw [e, flU_append]
      have h5 := H5.out.1
      rw [ef] at h5
      exact ⟨p5, c5, by rw [← el]; rfl, by rw [← el]; rw [el] at h5 ⊢; exact h5, HB5.out⟩
end Go.Proofs.Ytdjpnlkhdilakaa.gn
