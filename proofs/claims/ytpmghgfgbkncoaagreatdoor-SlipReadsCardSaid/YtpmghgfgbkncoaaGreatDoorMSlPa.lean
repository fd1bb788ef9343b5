/- The contract of slip.Parse. -/
import Derived.Test.YtpmghgfgbkncoaaGreatDoorMSlPr
import Derived.Recover
import Derived.Defers
import Derived.Test.YtpmghgfgbkncoaaGreatDoorMSlFi
section
set_option linter.unusedVariables false
set_option linter.unusedSimpArgs false
set_option maxRecDepth 100000
namespace Go.Proofs.YtpmghgfgbkncoaaGreatDoor.gn
open Go.RowKit Go.Shelf
open Go.Proofs.YtpmghgfgbkncoaaGreatDoor.un
open Go.Proofs.YtpmghgfgbkncoaaGreatDoor.di
open Go.Proofs.YtpmghgfgbkncoaaGreatDoor.sp (Slip cuts chkS sread sread_P pread)

theorem assert_spot (v : Value) (w : World) : (Instr.typeAssert (.iface 30 v) 20 30 false).run Tryz.prog w = .ok v w := by
  first | rfl | kernel_rfl | (simp [go_sem]; done)
theorem catch_pan (p : Nat) (e0 l0 e line : Int) (w : World) (hc : BoxA w p 30 #[.int .i64 e0, .int .i64 l0]) :
    CallsD Tryz.prog 17 #[.pointer (some ⟨p, 0, none⟩)] (.panicking (pnc e line)) w fun en u' w' =>
      en = .returned (.tuple #[]) ∧ u' = .panicking [{ v := spV e line, recovered := true }] ∧ w' = (w.setCell ⟨p, 0, none⟩ (.int .i64 e)).setCell ⟨p, 1, none⟩ (.int .i64 line) := by
  have c0 := hc.cell 0 _
  have c1 := hc.cell 1 _
  have f0 := hc.free 0
  have f1 := hc.free 1
  have hlt := hc.lt
  unfold pnc spV
  refine callsD_of_wpS Tryz.func17 rfl fun c₀ cs hu => ?_
  simp only [Tryz.ntmps17, List.size_toArray, List.length_cons, List.length_nil, Nat.reduceAdd, Nat.reduceSub, Array.replicate_succ, Array.replicate_zero, List.push_toArray, List.append_toArray, List.nil_append, List.cons_append]
  apply wpS_seq
  apply wpS_region
  simp [wpOpsS, go_sem, recoverD, hu, Exit.thenS]
  apply wpS_seq
  apply wpS_region
  simp [wpOpsS, go_sem, recoverD, hu, Exit.thenS]
  refine wpS_cond (t := true) rfl ?_
  simp only [if_true]
  apply wpS_region
  simp [wpOpsS, go_sem, assert_spot, c0, c1, f0, f1, bodyPostS, results, Tryz.results17]
theorem catch_idle (p : Nat) (w : World) :
    CallsD Tryz.prog 17 #[.pointer (some ⟨p, 0, none⟩)] .returning w fun e u' w' => e = .returned (.tuple #[]) ∧ u' = .returning ∧ w' = w := by
  refine callsD_of_wpS Tryz.func17 rfl fun c₀ cs hu => ?_
  simp only [Tryz.ntmps17, List.size_toArray, List.length_cons, List.length_nil, Nat.reduceAdd, Nat.reduceSub, Array.replicate_succ, Array.replicate_zero, List.push_toArray, List.append_toArray, List.nil_append, List.cons_append]
  apply wpS_seq
  apply wpS_region
  simp [wpOpsS, go_sem, recoverD, hu, Exit.thenS]
  apply wpS_seq
  apply wpS_region
  simp [wpOpsS, go_sem, recoverD, hu, Exit.thenS]
  refine wpS_cond (t := false) rfl ?_
  simp only [Bool.false_eq_true, if_false]
  refine wpS_of_wp (wp_skip ?_)
  cases c₀
  simp_all [bodyPostS, results, Tryz.results17]

/-- What Parse answers. -/
def PaT (s : Tx) (w : World) (en : Ending) (w' : World) : Prop := Below w.heap.size w w' ∧ ∃ g, en = .returned (.tuple #[sV (sread s).1 g, .agg #[.int .i64 (sread s).2.1, .int .i64 ((sread s).2.2 : Nat)]]) ∧ SR w' (sread s).1 g
theorem sr_zero (W : World) : SR W Slip.zero g0 := by
  refine ⟨ApC.rdc (.inr (World.ownsRow_nil W 0 44 2)), ApC.rdc (.inr (World.ownsRow_nil W 0 51 5)), ApC.rdc (.inr (World.ownsRow_nil W 0 9 1)), ApC.rdc (.inr (World.ownsRow_nil W 0 9 1)), ⟨_, _, rfl, by decide, by decide⟩, ⟨_, _, rfl, by decide, by decide⟩, ⟨_, _, rfl, by decide, by decide⟩, ⟨_, _, rfl, by decide, by decide⟩⟩
theorem results_cells2 {P : Program} {fn : Func} {p q : Tmp} {ty tz : TypeId} (h : fn.results = #[.cell p ty, .cell q tz]) (tmps : Array Value) (w : World) (g k : Nat) (t u : TypeId) (cs ds : Array Value) (fr fs : Nat × Nat) (d e : TypeDesc)
    (hp : tmps.getD p undef = .pointer (some ⟨g, 0, none⟩)) (hg : w.heap[g]? = some (.cells cs t fr))
    (hu : P.underlying ty = some d) (hd : (match d with | .struct _ | .array _ _ => true | _ => false) = true) (hi : (P.info? ty).map (·.size) = some cs.size)
    (hq : tmps.getD q undef = .pointer (some ⟨k, 0, none⟩)) (hk : w.heap[k]? = some (.cells ds u fs))
    (hv : P.underlying tz = some e) (he : (match e with | .struct _ | .array _ _ => true | _ => false) = true) (hj : (P.info? tz).map (·.size) = some ds.size) :
    (results fn tmps).run P w = .ok (.tuple #[.agg cs, .agg ds]) w := by
  have hp' : tmps[p]?.getD undef = .pointer (some ⟨g, 0, none⟩) := by simpa using hp
  have hq' : tmps[q]?.getD undef = .pointer (some ⟨k, 0, none⟩) := by simpa using hq
  simp [results, h, hp', hq', asAddr, run_loadVar_row w g t ty cs fr d hg hu hd hi, run_loadVar_row w k u tz ds fs e hk hv he hj, Result.andThen]
theorem scs_one {w : World} {x : Slip} {g : Gh} (h : SR w x g) : (scs x g).all (·.oneCell') = true := by
  obtain ⟨pa, ca, ea, _, _⟩ := h.ca
  obtain ⟨pm, cm, em, _, _⟩ := h.cm
  obtain ⟨pd, cd, ed, _, _⟩ := h.cd
  obtain ⟨pu, cu, eu, _, _⟩ := h.cu
  obtain ⟨va, vm, vd, vu⟩ := g
  dsimp only at ea em ed eu
  subst ea em ed eu
  unfold scs
  dsimp only
  generalize x.after.length = n1
  generalize x.make.length = n2
  generalize x.drop.length = n3
  generalize x.use.length = n4
  kernel_rfl
/-- The two ways of read. -/
theorem read_two (s : Tx) (hs : s.length ≤ 10000) (w : World) (hL : LaidD w) :
    (∃ (e line : Int), (sread s).1 = Slip.zero ∧ (sread s).2.1 = e ∧ ((sread s).2.2 : Int) = line ∧ Calls Tryz.prog 18 #[.string (str s)] w fun en w' => en = .panicked (pnc e line) ∧ Below w.heap.size w w') ∨
    (∃ x, sread s = (x, 0, 0) ∧ Calls Tryz.prog 18 #[.string (str s)] w fun en w' => Below w.heap.size w w' ∧ ∃ g, en = .returned (sV x g) ∧ SO w' w.heap.size x g) := by
  have h := read_slip s hs w hL
  have hr := sread_P hs
  unfold ReadT2 at h
  cases hp : pread Slip.zero 1 (cuts 10 s) with
  | error e =>
    rw [hp] at h hr
    exact .inl ⟨e.1, (e.2 : Int), by rw [hr], by rw [hr], by rw [hr], h.mono fun en w' h => ⟨h.2, h.1⟩⟩
  | ok x =>
    rw [hp] at h hr
    dsimp only at h hr
    cases hc : chkS x with
    | false =>
      rw [hc] at h hr
      exact .inl ⟨150, ((cuts 10 s).length : Int), by rw [hr]; rfl, by rw [hr]; rfl, by rw [hr]; rfl, h.mono fun en w' h => ⟨h.2, h.1⟩⟩
    | true =>
      rw [hc] at h hr
      exact .inr ⟨x, hr, h.mono fun en w' h => ⟨h.1, h.2⟩⟩
theorem sParse_long (s : Tx) (hs : 10000 < s.length) (hm : s.length ≤ 9223372036854775807) (w : World) : Calls Tryz.prog 8 #[.string (str s)] w (PaT s w) := by
  have hz := str_size s
  have hz0 : 10000 < (str s).size := by omega
  have hz1 : (str s).size ≤ 9223372036854775807 := by omega
  have HE : Hid (sread s = (Slip.zero, 3, 0)) := by show _ = _; unfold sp.sread; rw [if_pos hs]
  have hmf : ∀ (fn : Fn) (first cap : Array Value) (w : World), (Instr.makeFunc fn first cap).run Tryz.prog w = .ok (.func fn first cap) w := fun _ _ _ _ => rfl
  clear hs hm hz
  have h0 : ∀ o2 : Obj, ((w.alloc (.cells #[.string { data := #[] }, .int .i64 0, .int .i64 0, .int .i64 0, .slice none 0 0, .int .i64 0, .int .i64 0, .int .i64 0, .string { data := #[] }, .slice none 0 0, .slice none 0 0, .slice none 0 0] 27)).alloc o2).heap[w.heap.size]? = some (.cells #[.string { data := #[] }, .int .i64 0, .int .i64 0, .int .i64 0, .slice none 0 0, .int .i64 0, .int .i64 0, .int .i64 0, .string { data := #[] }, .slice none 0 0, .slice none 0 0, .slice none 0 0] 27 (0, 0)) := fun o2 => BoxA.next (BoxA.new w _ _) ((Below.refl _ _).alloc (Nat.le_refl _) _)
  have h1 : ∀ o1 : Obj, ((w.alloc o1).alloc (.cells #[.int .i64 0, .int .i64 0] 30)).heap[w.heap.size + 1]? = some (.cells #[.int .i64 0, .int .i64 0] 30 (0, 0)) := fun o1 => by
    have := BoxA.new (w.alloc o1) 30 #[.int .i64 0, .int .i64 0]
    rw [World.size_alloc] at this
    exact this
  have hB2 : ∀ o1 o2 : Obj, Below w.heap.size w ((w.alloc o1).alloc o2) := fun _ _ => ((Below.refl _ w).alloc (Nat.le_refl _) _).alloc (by simp) _
  have H0 := Lib.hid h0
  have H1 := Lib.hid h1
  have HB2 := Lib.hid hB2
  clear h0 h1 hB2
  go_enter_defers Tryz.func8, Tryz.ntmps8
  go_wp2_with (first
    | (refine wpList_store_row rfl _ _ _ rfl w.heap.size #[.string { data := #[] }, .int .i64 0, .int .i64 0, .int .i64 0, .slice none 0 0, .int .i64 0, .int .i64 0, .int .i64 0, .string { data := #[] }, .slice none 0 0, .slice none 0 0, .slice none 0 0] rfl rfl _ _ (H0.out _) (by kernel_rfl) rfl (by kernel_rfl) ?_)
    | (refine wpList_store_row rfl _ _ _ rfl (w.heap.size + 1) #[.int .i64 3, .int .i64 0] rfl rfl _ _ ((setRow_other _ _ _ _ (by omega)).trans (H1.out _)) (by kernel_rfl) rfl (by kernel_rfl) ?_))
  refine ⟨_, results_cells2 rfl _ _ w.heap.size (w.heap.size + 1) _ _ #[.string { data := #[] }, .int .i64 0, .int .i64 0, .int .i64 0, .slice none 0 0, .int .i64 0, .int .i64 0, .int .i64 0, .string { data := #[] }, .slice none 0 0, .slice none 0 0, .slice none 0 0] #[.int .i64 3, .int .i64 0] _ _ _ _ rfl ((setRow_other _ _ _ _ (by omega)).trans (setRow_heap _ _ _ _ _ _ (H0.out _))) Tryz.underlying27 rfl (by kernel_rfl) rfl (setRow_heap _ _ _ _ _ _ ((setRow_other _ _ _ _ (by omega)).trans (H1.out _))) Tryz.underlying30 rfl (by kernel_rfl), ?_⟩
  refine ⟨below_setRow (below_setRow (HB2.out _ _) (Nat.le_refl _) _) (by omega) _, g0, ?_, ?_⟩
  · rw [HE.out]; rfl
  · rw [HE.out]; exact sr_zero _
theorem sParse_short (s : Tx) (hs : s.length ≤ 10000) (w : World) (hL : LaidD w) : Calls Tryz.prog 8 #[.string (str s)] w (PaT s w) := by
  have hz := str_size s
  have hz0 : ¬ 10000 < (str s).size := by omega
  have hz1 : (str s).size ≤ 9223372036854775807 := by omega
  have hmf : ∀ (fn : Fn) (first cap : Array Value) (w : World), (Instr.makeFunc fn first cap).run Tryz.prog w = .ok (.func fn first cap) w := fun _ _ _ _ => rfl
  have h0 : ∀ o2 : Obj, BoxA ((w.alloc (.cells #[.string { data := #[] }, .int .i64 0, .int .i64 0, .int .i64 0, .slice none 0 0, .int .i64 0, .int .i64 0, .int .i64 0, .string { data := #[] }, .slice none 0 0, .slice none 0 0, .slice none 0 0] 27)).alloc o2) w.heap.size 27 #[.string { data := #[] }, .int .i64 0, .int .i64 0, .int .i64 0, .slice none 0 0, .int .i64 0, .int .i64 0, .int .i64 0, .string { data := #[] }, .slice none 0 0, .slice none 0 0, .slice none 0 0] := fun o2 => BoxA.next (BoxA.new w _ _) ((Below.refl _ _).alloc (Nat.le_refl _) _)
  have h1 : ∀ o1 : Obj, BoxA ((w.alloc o1).alloc (.cells #[.int .i64 0, .int .i64 0] 30)) (w.heap.size + 1) 30 #[.int .i64 0, .int .i64 0] := fun o1 => by
    have := BoxA.new (w.alloc o1) 30 #[.int .i64 0, .int .i64 0]
    rw [World.size_alloc] at this
    exact this
  have hB2 : ∀ o1 o2 : Obj, Below w.heap.size w ((w.alloc o1).alloc o2) := fun _ _ => ((Below.refl _ w).alloc (Nat.le_refl _) _).alloc (by simp) _
  have hR := fun o1 o2 : Obj => read_two s hs ((w.alloc o1).alloc o2) (hL.next (hB2 o1 o2))
  obtain ⟨W2, hW2⟩ : ∃ W2, (w.alloc (.cells #[.string { data := #[] }, .int .i64 0, .int .i64 0, .int .i64 0, .slice none 0 0, .int .i64 0, .int .i64 0, .int .i64 0, .string { data := #[] }, .slice none 0 0, .slice none 0 0, .slice none 0 0] 27)).alloc (.cells #[.int .i64 0, .int .i64 0] 30) = W2 := ⟨_, rfl⟩
  have hR2 := hR (.cells #[.string { data := #[] }, .int .i64 0, .int .i64 0, .int .i64 0, .slice none 0 0, .int .i64 0, .int .i64 0, .int .i64 0, .string { data := #[] }, .slice none 0 0, .slice none 0 0, .slice none 0 0] 27) (.cells #[.int .i64 0, .int .i64 0] 30)
  have h02 := h0 (.cells #[.int .i64 0, .int .i64 0] 30)
  have h12 := h1 (.cells #[.string { data := #[] }, .int .i64 0, .int .i64 0, .int .i64 0, .slice none 0 0, .int .i64 0, .int .i64 0, .int .i64 0, .string { data := #[] }, .slice none 0 0, .slice none 0 0, .slice none 0 0] 27)
  have hb2 := hB2 (.cells #[.string { data := #[] }, .int .i64 0, .int .i64 0, .int .i64 0, .slice none 0 0, .int .i64 0, .int .i64 0, .int .i64 0, .string { data := #[] }, .slice none 0 0, .slice none 0 0, .slice none 0 0] 27) (.cells #[.int .i64 0, .int .i64 0] 30)
  rw [hW2] at hR2 h02 h12 hb2
  have HW2 := Lib.hid hW2
  have H0 := Lib.hid h02
  have H1 := Lib.hid h12
  have HB2 := Lib.hid hb2
  clear hs hz hL h0 h1 hB2 hR h02 h12 hb2 hW2
  rcases hR2 with ⟨e0, l0, hx, he, hl, hc⟩ | ⟨x, hx, hc⟩
  · have HC := Lib.hid hc
    have HX := Lib.hid (And.intro hx (And.intro he hl))
    clear hc hx he hl
    go_enter_defers Tryz.func8, Tryz.ntmps8
    go_upto_region 4 with fail
    rw [HW2.out]
    go_wp2_with (go_at_call 18; ((with_reducible refine HC.out.mono ?_); rintro e w3 ⟨rfl, hb3⟩); have HB3 := Lib.hid hb3; clear hb3)
    refine leaves_cons (f := 17) (args := #[.pointer (some ⟨w.heap.size + 1, 0, none⟩)]) (by simp) (by simp [go_sem]) ?_
    have h13 := H1.out.next HB3.out
    refine (catch_pan (w.heap.size + 1) 0 0 e0 l0 w3 h13).mono ?_
    rintro e u' w4 ⟨rfl, rfl, rfl⟩
    have h03 := H0.out.next HB3.out
    have h04 : BoxA ((w3.setCell ⟨w.heap.size + 1, 0, none⟩ (.int .i64 e0)).setCell ⟨w.heap.size + 1, 1, none⟩ (.int .i64 l0)) w.heap.size 27 #[.string { data := #[] }, .int .i64 0, .int .i64 0, .int .i64 0, .slice none 0 0, .int .i64 0, .int .i64 0, .int .i64 0, .string { data := #[] }, .slice none 0 0, .slice none 0 0, .slice none 0 0] := (Below.heap_setCell _ _ _ _ (by simp)).trans ((Below.heap_setCell _ _ _ _ (by simp)).trans h03)
    have h14 : BoxA ((w3.setCell ⟨w.heap.size + 1, 0, none⟩ (.int .i64 e0)).setCell ⟨w.heap.size + 1, 1, none⟩ (.int .i64 l0)) (w.heap.size + 1) 30 #[.int .i64 e0, .int .i64 l0] := (h13.set 0 (.int .i64 e0)).set 1 (.int .i64 l0)
    refine ⟨_, results_cells2 rfl _ _ w.heap.size (w.heap.size + 1) _ _ #[.string { data := #[] }, .int .i64 0, .int .i64 0, .int .i64 0, .slice none 0 0, .int .i64 0, .int .i64 0, .int .i64 0, .string { data := #[] }, .slice none 0 0, .slice none 0 0, .slice none 0 0] #[.int .i64 e0, .int .i64 l0] _ _ _ _ rfl h04 Tryz.underlying27 rfl (by kernel_rfl) rfl h14 Tryz.underlying30 rfl (by kernel_rfl), ?_⟩
    obtain ⟨x1, x2, x3⟩ := HX.out
    refine ⟨((HB2.out.trans (HB3.out.mono HB2.out.size)).setCell (p := ⟨w.heap.size + 1, 0, none⟩) (by simp) _).setCell (p := ⟨w.heap.size + 1, 1, none⟩) (by simp) _, g0, ?_, ?_⟩
    · rw [x1, x2, x3]; rfl
    · rw [x1]; exact sr_zero _
  · have HC := Lib.hid hc
    have HX := Lib.hid hx
    clear hc hx
    go_enter_defers Tryz.func8, Tryz.ntmps8
    go_upto_region 4 with fail
    rw [HW2.out]
    go_wp2_with (first
      | (go_at_call 18; ((with_reducible refine HC.out.mono ?_); rintro e w3 ⟨hb3, g, rfl, hs3⟩); have HB3 := Lib.hid hb3; have HS3 := Lib.hid hs3; have h03 := Lib.hid (H0.out.next hb3); have h13 := Lib.hid (H1.out.next hb3); clear hb3 hs3)
      | (refine wpList_store_row rfl _ _ _ rfl w.heap.size (scs x g) rfl rfl _ _ h03.out (by kernel_rfl) rfl (scs_one HS3.out.sr) ?_)
      | (refine wpList_store_row rfl _ _ _ rfl (w.heap.size + 1) #[.int .i64 0, .int .i64 0] rfl rfl _ _ ((setRow_other _ _ _ _ (by omega)).trans h13.out) (by kernel_rfl) rfl (by kernel_rfl) ?_))
    refine leaves_cons (f := 17) (args := #[.pointer (some ⟨w.heap.size + 1, 0, none⟩)]) (by simp [Act.put]) (by simp [go_sem]) ?_
    refine (catch_idle (w.heap.size + 1) _).mono ?_
    rintro e u' w4 ⟨rfl, rfl, rfl⟩
    refine ⟨_, results_cells2 rfl _ _ w.heap.size (w.heap.size + 1) _ _ (scs x g) #[.int .i64 0, .int .i64 0] _ _ _ _ rfl ((setRow_other _ _ _ _ (by omega)).trans (setRow_heap _ _ _ _ _ _ h03.out)) Tryz.underlying27 rfl (by kernel_rfl) rfl (setRow_heap _ _ _ _ _ _ ((setRow_other _ _ _ _ (by omega)).trans h13.out)) Tryz.underlying30 rfl (by kernel_rfl), ?_⟩
    have hsz : w.heap.size + 1 < W2.heap.size := H1.out.lt
    refine ⟨below_setRow (below_setRow (HB2.out.trans (HB3.out.mono HB2.out.size)) (Nat.le_refl _) _) (by omega) _, g, ?_, ?_⟩
    · rw [HX.out]; rfl
    · rw [HX.out]
      exact (HS3.out.kept fun b hb => (setRow_other _ _ _ _ (by omega)).trans (setRow_other _ _ _ _ (by omega))).sr
theorem sParse_any (s : Tx) (hs : s.length ≤ 9223372036854775807) (w : World) (hL : LaidD w) : Calls Tryz.prog 8 #[.string (str s)] w (PaT s w) := by
  by_cases h : s.length ≤ 10000
  · exact sParse_short s h w hL
  · exact sParse_long s (by omega) hs w
end Go.Proofs.YtpmghgfgbkncoaaGreatDoor.gn
end
section
set_option linter.unusedVariables false
set_option linter.unusedSimpArgs false
namespace Go.Proofs.YtpmghgfgbkncoaaGreatDoor.gn
open Go.RowKit
open Go.Proofs.YtpmghgfgbkncoaaGreatDoor.un
open Go.Proofs.YtpmghgfgbkncoaaGreatDoor.di
open Go.Proofs.YtpmghgfgbkncoaaGreatDoor.sp (Slip Ok chkS chkS_iff dirsP dirsS dirsP_eq dirs_mem line1 line1_len dirs_count txtS joinC joinC_snoc join_two)

/-- The text that is told. -/
def tS (x : Slip) : Tx := if chkS x = true then txtS x else []
def STextT (x : Slip) (w : World) : Ending → World → Prop := Told (.tuple #[.string (str (tS x)), .int .i64 (sE x)]) w
/-- The text, as far as its first k directives. -/
def pfx (x : Slip) (L : List Dir) (k : Nat) : Tx := joinC 10 (line1 x :: (L.take k).map dtx)
theorem pfx_zero (x : Slip) (L : List Dir) : pfx x L 0 = line1 x := rfl
theorem pfx_succ (x : Slip) {L : List Dir} {k : Nat} {d : Dir} (hd : L[k]? = some d) : pfx x L (k + 1) = pfx x L k ++ 10 :: dtx d := by
  unfold pfx
  rw [take_snoc hd, List.map_append, ← List.cons_append]
  exact joinC_snoc 10 _ _ (by simp)
theorem lf_str (s t : Tx) : str s ++ (({ data := #[10] } : ByteArray) ++ str t) = str (s ++ 10 :: t) := by
  show str s ++ (str [10] ++ str t) = _
  rw [str_app, str_app]
  rfl
theorem sW_W {x : Slip} (h : Ok x) : SW x := by
  have a := h.user; have b := name_len h.user
  refine ⟨by omega, ?_, by have := h.nodes; omega, by have := h.wall; omega, by have := h.qos; omega, by have := h.cap; omega, by have := h.cap; have := h.inn; omega, by have := h.cap; have := h.out; omega, fun d hd => by have := h.after.2.2 d hd; omega, fun d hd => ?_, fun n hn => ?_, fun n hn => ?_⟩
  · by_cases h0 : x.cap = 0
    · rw [h.pool0 h0]; decide
    · have := name_len (h.pool1 h0); omega
  · obtain ⟨p, q, r, s⟩ := sp.chk_name (h.make d hd).2
    exact ⟨by omega, by omega, by omega, by omega, by omega⟩
  · have := name_len (h.drop.2.2 n hn); omega
  · have := name_len (h.use.2.2 n hn); omega
theorem DW_chk {d : Dir} (h : chk d = true) : DW d := by
  obtain ⟨p, q, r, s⟩ := sp.chk_name h
  exact ⟨by omega, by omega, by omega, by omega, by omega⟩
set_option maxRecDepth 100000 in
set_option maxHeartbeats 8000000 in
theorem stext_no (x : Slip) (g : Gh) (w : World) (h : SR w x g) (hW : SW x) (hL : LaidD w) (hx : ¬ chkS x = true) : Calls Tryz.prog 12 #[sV x g] w (STextT x w) := by
  have HE := Lib.hid (show sE x = 150 ∧ tS x = [] by unfold sE tS; rw [if_neg hx, if_neg hx]; exact ⟨rfl, rfl⟩)
  obtain ⟨wb, hwb⟩ : ∃ wb, w.alloc (.cells (scs x g) 27) = wb := ⟨_, rfl⟩
  have hbx : BoxA wb w.heap.size 27 (scs x g) := by rw [← hwb]; exact BoxA.new _ _ _
  have hB1 : Below w.heap.size w wb := by rw [← hwb]; exact (Below.refl _ _).alloc (Nat.le_refl _) _
  have HB1 := Lib.hid hB1
  have HWB := Lib.hid hwb
  have HCH := Lib.hid (Check_slip x g wb (h.next hB1) hW (hL.next hB1))
  rw [HE.out.1] at HCH
  obtain ⟨c0, c1, c2, c3, c4, c5, c6, c7, c8, c9, c10, c11, clt⟩ := cel_box hbx
  clear h hW hL hx hB1 hwb hbx
  obtain ⟨va, vm, vd, vu⟩ := g
  unfold sV scs at *
  dsimp only at *
  go_enter Tryz.func12, Tryz.ntmps12
  go_upto_region 1 with fail
  rw [HWB.out]
  go_wp2_with (go_at_call 14; ((with_reducible refine HCH.out.mono ?_); rintro e w1 ⟨rfl, hb⟩); have A1 := Lib.hid hb; clear hb)
  go_ret2
  exact ⟨by rw [HE.out.1, HE.out.2]; rfl, HB1.out.trans (A1.out.mono HB1.out.size)⟩
set_option maxRecDepth 100000 in
set_option maxHeartbeats 8000000 in
theorem stext_yes (x : Slip) (g : Gh) (w : World) (h : SR w x g) (hL : LaidD w) (hc : chkS x = true) : Calls Tryz.prog 12 #[sV x g] w (STextT x w) := by
  have HE := Lib.hid (show sE x = 0 ∧ tS x = txtS x by unfold sE tS; rw [if_pos hc, if_pos hc]; exact ⟨rfl, rfl⟩)
  have hx := (chkS_iff x).1 hc
  have HOK := Lib.hid hx
  have hW := sW_W hx
  obtain ⟨wb, hwb⟩ : ∃ wb, w.alloc (.cells (scs x g) 27) = wb := ⟨_, rfl⟩
  have hbx : BoxA wb w.heap.size 27 (scs x g) := by rw [← hwb]; exact BoxA.new _ _ _
  have hB1 : Below w.heap.size w wb := by rw [← hwb]; exact (Below.refl _ _).alloc (Nat.le_refl _) _
  have HB1 := Lib.hid hB1
  have HWB := Lib.hid hwb
  have HCE := Lib.hid (fun (W : World) (hb : Below wb.heap.size wb W) => cel_box (hbx.next hb))
  have HL := Lib.hid (fun (W : World) (hb : Below wb.heap.size wb W) => hL.next (hB1.trans (hb.mono hB1.size)))
  have HCH := Lib.hid (Check_slip x g wb (h.next hB1) hW (hL.next hB1))
  rw [HE.out.1] at HCH
  have HFI := Lib.hid (fun (W : World) (hb : Below wb.heap.size wb W) => first_slip x g W ((h.next hB1).next hb) hx (HL.out W hb))
  have HDI := Lib.hid (fun (W : World) (hb : Below wb.heap.size wb W) => directives_any x g W ((h.next hB1).next hb) (by have := hx.makeN.1; rw [List.length_map] at this; omega) (by have := hx.drop.1; omega) (by have := hx.use.1; omega))
  have HT : Hid (tS x = pfx x (dirsP x) (dirsP x).length) := by
    show tS x = _
    rw [HE.out.2]
    unfold pfx
    rw [List.take_length, dirsP_eq hx]
    rfl
  have HM := Lib.hid (show ∀ d ∈ dirsP x, chk d = true ∧ (dtx d).length ≤ 306 from fun d hd => by
    rw [dirsP_eq hx] at hd
    exact ⟨(dirs_mem hx hd), (made_text (dirs_mem hx hd)).len⟩)
  have hll := line1_len hx
  have hcn : (dirsP x).length ≤ 15 := by rw [dirsP_eq hx]; exact dirs_count hx
  have HPX : Hid (∀ k d, (dirsP x)[k]? = some d → pfx x (dirsP x) (k + 1) = pfx x (dirsP x) k ++ 10 :: dtx d) := fun k d hd => pfx_succ x hd
  have HPZ := Lib.hid (pfx_zero x (dirsP x))
  obtain ⟨c0, c1, c2, c3, c4, c5, c6, c7, c8, c9, c10, c11, clt⟩ := cel_box hbx
  unfold STextT
  generalize line1 x = L1 at *
  generalize dirsP x = L at *
  generalize pfx x L = PX at *
  generalize tS x = TX at *
  generalize sE x = se at *
  obtain ⟨n, hn⟩ : ∃ n, L.length = n := ⟨_, rfl⟩
  rw [hn] at HT hcn
  have HN := Lib.hid hn
  clear h hW hL hx hB1 hwb hbx hc hn HOK
  obtain ⟨va, vm, vd, vu⟩ := g
  unfold sV scs at *
  dsimp only at *
  go_enter Tryz.func12, Tryz.ntmps12
  go_upto_region 1 with fail
  rw [HWB.out]
  go_upto_region 5 with (first
    | (go_at_call 14; ((with_reducible refine HCH.out.mono ?_); rintro e w1 ⟨rfl, hb⟩); have A1 := Lib.hid (show Below wb.heap.size wb w1 from hb); obtain ⟨c0, c1, c2, c3, c4, c5, c6, c7, c8, c9, c10, c11, clt⟩ := HCE.out _ A1.out; dsimp only at c0 c1 c2 c3 c4 c5 c6 c7 c8 c9 c10 c11; clear hb)
    | (go_at_call 24; ((with_reducible refine (HFI.out _ A1.out).mono ?_); rintro e w2 ⟨rfl, hb⟩); have A2 := Lib.hid (show Below wb.heap.size wb w2 from A1.out.trans (hb.mono A1.out.size)); obtain ⟨c0, c1, c2, c3, c4, c5, c6, c7, c8, c9, c10, c11, clt⟩ := HCE.out _ A2.out; dsimp only at c0 c1 c2 c3 c4 c5 c6 c7 c8 c9 c10 c11; clear hb)
    | (go_at_call 25; ((with_reducible refine (HDI.out _ A2.out).mono ?_); rintro e w3 ⟨v, rfl, ho, hb⟩); rw [HN.out] at ho; obtain ⟨p, c, hv⟩ := (RdC.form (ApC.rdc (.inr ho))); subst hv; have HO := Lib.hid ho; have A3 := Lib.hid (show Below wb.heap.size wb w3 from A2.out.trans (hb.mono A2.out.size)); clear ho hb))
  have HR := Lib.hid (show RdC w3 (.slice p n c) n (flM L) from ApC.rdc (.inr HO.out))
  clear c0 c1 c2 c3 c4 c5 c6 c7 c8 c9 c10 c11 HO clt
  go_loopw [4, 17] (fun s4 s17 W => ∃ (k : Nat) (t : Tx), s17 = .int .i64 (k : Int) ∧ s4 = .string (str t) ∧ k ≤ n ∧ t.length ≤ 1206 + 307 * k ∧ Aside (t = PX k) ∧ Aside (Below w3.heap.size w3 W)) (fun _ s17 _ => n - (intOf s17).toNat)
  case atStart => exact ⟨0, L1, rfl, rfl, Nat.zero_le _, by omega, HPZ.out.symm, Below.refl _ _⟩
  case round =>
    obtain ⟨k, t, rfl, rfl, hk, htl, ht, hbl⟩ := hrel
    have HTK := Lib.hid (show t = PX k from ht)
    have HBL := Lib.hid (show Below w3.heap.size w3 wr from hbl)
    have HLOW := Lib.hid (A3.out.trans ((show Below w3.heap.size w3 wr from hbl).mono A3.out.size))
    have HTL := Lib.hid htl
    have e1 : (str t).size ≤ 6000 := by rw [str_size]; omega
    clear ht hbl htl
    by_cases hkn : k < n
    · obtain ⟨b, off, hp, hb, hc⟩ := (HR.out.next HBL.out).at_ (size := 5) rfl (by omega)
      subst hp
      obtain ⟨d, hd⟩ : ∃ d, L[k]? = some d := ⟨_, List.getElem?_eq_getElem (by rw [HN.out]; exact hkn)⟩
      obtain ⟨y0, y1, y2, y3, y4⟩ := cellM hc hd
      have hdm := HM.out d (List.mem_of_getElem? hd)
      have HX := Lib.hid hd
      clear hc hd
      go_upto_region 7 with fail
      have hD : BoxA (wr.alloc (.cells #[.int .u8 (d.kind : Nat), .string (str d.name), .string (str d.pool), .int .i64 d.size, .bool d.opn] 51)) wr.heap.size 51 #[.int .u8 (d.kind : Nat), .string (str d.name), .string (str d.pool), .int .i64 d.size, .bool d.opn] := BoxA.new _ _ _
      have hb4 : Below wr.heap.size wr (wr.alloc (.cells #[.int .u8 (d.kind : Nat), .string (str d.name), .string (str d.pool), .int .i64 d.size, .bool d.opn] 51)) := (Below.refl _ _).alloc (Nat.le_refl _) _
      generalize wr.alloc (.cells #[.int .u8 (d.kind : Nat), .string (str d.name), .string (str d.pool), .int .i64 d.size, .bool d.opn] 51) = w4 at *
      have z0 := hD.cell 0 _
      have z1 := hD.cell 1 _
      have z2 := hD.cell 2 _
      have z3 := hD.cell 3 _
      have z4 := hD.cell 4 _
      have zl := hD.lt
      have HB4 := Lib.hid (HBL.out.trans (hb4.mono HBL.out.size))
      have HTT := Lib.hid (Text_any d (DW_chk hdm.1) w4 (HL.out _ (HLOW.out.trans (hb4.mono HLOW.out.size))))
      have HTD := Lib.hid (show tT d = dtx d ∧ cE d = 0 by unfold tT cE; rw [if_pos hdm.1, if_pos hdm.1]; exact ⟨rfl, rfl⟩)
      have HDL := Lib.hid hdm.2
      have e2 : (str (dtx d)).size ≤ 306 := by rw [str_size]; exact hdm.2
      generalize wr.heap.size = bd at *
      clear hD hb4 y0 y1 y2 y3 y4 hb hdm
      unfold dV dcs TextT at HTT
      rw [HTD.out.1, HTD.out.2] at HTT
      go_wp2_with (go_at_call 26; ((with_reducible refine HTT.out.mono ?_); rintro e w5 ⟨rfl, hb5⟩); have HB5 := Lib.hid hb5; clear hb5)
      go_roundw
      case rel =>
        refine ⟨k + 1, t ++ 10 :: dtx d, by go_num, by rw [← lf_str], by omega, ?_, ?_, HB4.out.trans (HB5.out.mono HB4.out.size)⟩
        · have := HTL.out
          have := HDL.out
          simp
          omega
        · show _ = PX (k + 1)
          rw [HPX.out k d HX.out, ← HTK.out]
      case measure => simp [intOf]; omega
    · obtain rfl : k = n := by omega
      have HTF := Lib.hid (show t = TX by rw [HTK.out, HT.out])
      go_wp2
      go_ret2
      exact ⟨by rw [← HTF.out, HE.out.1]; rfl, HB1.out.trans (HLOW.out.mono HB1.out.size)⟩
theorem sText_any (x : Slip) (g : Gh) (w : World) (h : SR w x g) (hW : SW x) (hL : LaidD w) : Calls Tryz.prog 12 #[sV x g] w (STextT x w) := by
  by_cases hc : chkS x = true
  · exact stext_yes x g w h hL hc
  · exact stext_no x g w h hW hL hc
end Go.Proofs.YtpmghgfgbkncoaaGreatDoor.gn
end
