/- The contract of slip.Parse. -/
import Derived.Test.YtekcjfdllclphaaGreatDoorMSlRd
import Derived.Recover
import Derived.Defers
import Derived.Test.YtekcjfdllclphaaGreatDoorMSlCk
import Derived.Deep.RegionHeld3
import Derived.Test.YtekcjfdllclphaaGreatDoorMSlJ
section
set_option linter.unusedVariables false
set_option linter.unusedSimpArgs false
set_option maxRecDepth 100000
namespace Go.Proofs.YtekcjfdllclphaaGreatDoor.gn
open Go.RowKit Go.Shelf
open Go.Proofs.YtekcjfdllclphaaGreatDoor.un
open Go.Proofs.YtekcjfdllclphaaGreatDoor.di
open Go.Proofs.YtekcjfdllclphaaGreatDoor.sp (Slip cuts chkS sread sread_P pread)

theorem assert_spot (v : Value) (w : World) : (Instr.typeAssert (.iface 32 v) 20 32 false).run Tryz.prog w = .ok v w := by
  first | rfl | kernel_rfl | (simp [go_sem]; done)
theorem catch_pan (p : Nat) (e0 l0 e line : Int) (w : World) (hc : BoxA w p 32 #[.int .i64 e0, .int .i64 l0]) :
    CallsD Tryz.prog 39 #[.pointer (some ⟨p, 0, none⟩)] (.panicking (pnc e line)) w fun en u' w' =>
      en = .returned (.tuple #[]) ∧ u' = .panicking [{ v := spV e line, recovered := true }] ∧ w' = (w.setCell ⟨p, 0, none⟩ (.int .i64 e)).setCell ⟨p, 1, none⟩ (.int .i64 line) := by
  have c0 := hc.cell 0 _
  have c1 := hc.cell 1 _
  have f0 := hc.free 0
  have f1 := hc.free 1
  have hlt := hc.lt
  unfold pnc spV
  refine callsD_of_wpS Tryz.func39 rfl fun c₀ cs hu => ?_
  simp only [Tryz.ntmps39, List.size_toArray, List.length_cons, List.length_nil, Nat.reduceAdd, Nat.reduceSub, Array.replicate_succ, Array.replicate_zero, List.push_toArray, List.append_toArray, List.nil_append, List.cons_append]
  apply wpS_seq
  apply wpS_region
  simp [wpOpsS, go_sem, recoverD, hu, Exit.thenS]
  apply wpS_seq
  apply wpS_region
  simp [wpOpsS, go_sem, recoverD, hu, Exit.thenS]
  refine wpS_cond (t := true) rfl ?_
  simp only [if_true]
  apply wpS_region
  simp [wpOpsS, go_sem, assert_spot, c0, c1, f0, f1, bodyPostS, results, Tryz.results39]
theorem catch_idle (p : Nat) (w : World) :
    CallsD Tryz.prog 39 #[.pointer (some ⟨p, 0, none⟩)] .returning w fun e u' w' => e = .returned (.tuple #[]) ∧ u' = .returning ∧ w' = w := by
  refine callsD_of_wpS Tryz.func39 rfl fun c₀ cs hu => ?_
  simp only [Tryz.ntmps39, List.size_toArray, List.length_cons, List.length_nil, Nat.reduceAdd, Nat.reduceSub, Array.replicate_succ, Array.replicate_zero, List.push_toArray, List.append_toArray, List.nil_append, List.cons_append]
  apply wpS_seq
  apply wpS_region
  simp [wpOpsS, go_sem, recoverD, hu, Exit.thenS]
  apply wpS_seq
  apply wpS_region
  simp [wpOpsS, go_sem, recoverD, hu, Exit.thenS]
  refine wpS_cond (t := false) rfl ?_
  simp only [Bool.false_eq_true, if_false]
  refine wpS_of_wp (wp_skip ?_)
  cases c₀
  simp_all [bodyPostS, results, Tryz.results39]

/-- What Parse answers. -/
def PaT (s : Tx) (w : World) (en : Ending) (w' : World) : Prop := Below w.heap.size w w' ∧ ∃ g, en = .returned (.tuple #[sV (sread s).1 g, .agg #[.int .i64 (sread s).2.1, .int .i64 ((sread s).2.2 : Nat)]]) ∧ SR w' (sread s).1 g
theorem sr_zero (W : World) : SR W Slip.zero g0 := by
  refine ⟨ApC.rdc (.inr (World.ownsRow_nil W 0 88 2)), ApC.rdc (.inr (World.ownsRow_nil W 0 80 5)), ApC.rdc (.inr (World.ownsRow_nil W 0 9 1)), ApC.rdc (.inr (World.ownsRow_nil W 0 9 1)), ⟨_, _, rfl, by decide, by decide⟩, ⟨_, _, rfl, by decide, by decide⟩, ⟨_, _, rfl, by decide, by decide⟩, ⟨_, _, rfl, by decide, by decide⟩⟩
theorem results_cells2 {P : Program} {fn : Func} {p q : Tmp} {ty tz : TypeId} (h : fn.results = #[.cell p ty, .cell q tz]) (tmps : Array Value) (w : World) (g k : Nat) (t u : TypeId) (cs ds : Array Value) (fr fs : Nat × Nat) (d e : TypeDesc)
    (hp : tmps.getD p undef = .pointer (some ⟨g, 0, none⟩)) (hg : w.heap[g]? = some (.cells cs t fr))
    (hu : P.underlying ty = some d) (hd : (match d with | .struct _ | .array _ _ => true | _ => false) = true) (hi : (P.info? ty).map (·.size) = some cs.size)
    (hq : tmps.getD q undef = .pointer (some ⟨k, 0, none⟩)) (hk : w.heap[k]? = some (.cells ds u fs))
    (hv : P.underlying tz = some e) (he : (match e with | .struct _ | .array _ _ => true | _ => false) = true) (hj : (P.info? tz).map (·.size) = some ds.size) :
    (results fn tmps).run P w = .ok (.tuple #[.agg cs, .agg ds]) w := by
  have hp' : tmps[p]?.getD undef = .pointer (some ⟨g, 0, none⟩) := by simpa using hp
  have hq' : tmps[q]?.getD undef = .pointer (some ⟨k, 0, none⟩) := by simpa using hq
  simp [results, h, hp', hq', asAddr, run_loadVar_row w g t ty cs fr d hg hu hd hi, run_loadVar_row w k u tz ds fs e hk hv he hj, Result.andThen]
theorem scs_one {w : World} {x : Slip} {g : Gh} (h : SR w x g) : (scs x g).all (·.oneCell') = true := by
  obtain ⟨pa, ca, ea, _, _⟩ := h.ca
  obtain ⟨pm, cm, em, _, _⟩ := h.cm
  obtain ⟨pd, cd, ed, _, _⟩ := h.cd
  obtain ⟨pu, cu, eu, _, _⟩ := h.cu
  obtain ⟨va, vm, vd, vu⟩ := g
  dsimp only at ea em ed eu
  subst ea em ed eu
  unfold scs
  dsimp only
  generalize x.after.length = n1
  generalize x.make.length = n2
  generalize x.drop.length = n3
  generalize x.use.length = n4
  kernel_rfl
/-- The two ways of read. -/
theorem read_two (s : Tx) (hs : s.length ≤ 10000) (w : World) (hL : LaidD w) :
    (∃ (e line : Int), (sread s).1 = Slip.zero ∧ (sread s).2.1 = e ∧ ((sread s).2.2 : Int) = line ∧ Calls Tryz.prog 40 #[.string (str s)] w fun en w' => en = .panicked (pnc e line) ∧ Below w.heap.size w w') ∨
    (∃ x, sread s = (x, 0, 0) ∧ Calls Tryz.prog 40 #[.string (str s)] w fun en w' => Below w.heap.size w w' ∧ ∃ g, en = .returned (sV x g) ∧ SO w' w.heap.size x g) := by
  have h := read_slip s hs w hL
  have hr := sread_P hs
  unfold ReadT2 at h
  cases hp : pread Slip.zero 1 (cuts 10 s) with
  | error e =>
    rw [hp] at h hr
    exact .inl ⟨e.1, (e.2 : Int), by rw [hr], by rw [hr], by rw [hr], h.mono fun en w' h => ⟨h.2, h.1⟩⟩
  | ok x =>
    rw [hp] at h hr
    dsimp only at h hr
    cases hc : chkS x with
    | false =>
      rw [hc] at h hr
      exact .inl ⟨150, ((cuts 10 s).length : Int), by rw [hr]; rfl, by rw [hr]; rfl, by rw [hr]; rfl, h.mono fun en w' h => ⟨h.2, h.1⟩⟩
    | true =>
      rw [hc] at h hr
      exact .inr ⟨x, hr, h.mono fun en w' h => ⟨h.1, h.2⟩⟩
theorem sParse_long (s : Tx) (hs : 10000 < s.length) (hm : s.length ≤ 9223372036854775807) (w : World) : Calls Tryz.prog 18 #[.string (str s)] w (PaT s w) := by
  have hz := str_size s
  have hz0 : 10000 < (str s).size := by omega
  have hz1 : (str s).size ≤ 9223372036854775807 := by omega
  have HE : Hid (sread s = (Slip.zero, 3, 0)) := by show _ = _; unfold sp.sread; rw [if_pos hs]
  have hmf : ∀ (fn : Fn) (first cap : Array Value) (w : World), (Instr.makeFunc fn first cap).run Tryz.prog w = .ok (.func fn first cap) w := fun _ _ _ _ => rfl
  clear hs hm hz
  have h0 : ∀ o2 : Obj, ((w.alloc (.cells #[.string { data := #[] }, .int .i64 0, .int .i64 0, .int .i64 0, .slice none 0 0, .int .i64 0, .int .i64 0, .int .i64 0, .string { data := #[] }, .slice none 0 0, .slice none 0 0, .slice none 0 0] 27)).alloc o2).heap[w.heap.size]? = some (.cells #[.string { data := #[] }, .int .i64 0, .int .i64 0, .int .i64 0, .slice none 0 0, .int .i64 0, .int .i64 0, .int .i64 0, .string { data := #[] }, .slice none 0 0, .slice none 0 0, .slice none 0 0] 27 (0, 0)) := fun o2 => BoxA.next (BoxA.new w _ _) ((Below.refl _ _).alloc (Nat.le_refl _) _)
  have h1 : ∀ o1 : Obj, ((w.alloc o1).alloc (.cells #[.int .i64 0, .int .i64 0] 32)).heap[w.heap.size + 1]? = some (.cells #[.int .i64 0, .int .i64 0] 32 (0, 0)) := fun o1 => by
    have := BoxA.new (w.alloc o1) 32 #[.int .i64 0, .int .i64 0]
    rw [World.size_alloc] at this
    exact this
  have hB2 : ∀ o1 o2 : Obj, Below w.heap.size w ((w.alloc o1).alloc o2) := fun _ _ => ((Below.refl _ w).alloc (Nat.le_refl _) _).alloc (by simp) _
  have H0 := Lib.hid h0
  have H1 := Lib.hid h1
  have HB2 := Lib.hid hB2
  clear h0 h1 hB2
  go_enter_defers Tryz.func18, Tryz.ntmps18
  go_wp2_with (first
    | (refine wpList_store_row rfl _ _ _ rfl w.heap.size #[.string { data := #[] }, .int .i64 0, .int .i64 0, .int .i64 0, .slice none 0 0, .int .i64 0, .int .i64 0, .int .i64 0, .string { data := #[] }, .slice none 0 0, .slice none 0 0, .slice none 0 0] rfl rfl _ _ (H0.out _) (by kernel_rfl) rfl (by kernel_rfl) ?_)
    | (refine wpList_store_row rfl _ _ _ rfl (w.heap.size + 1) #[.int .i64 3, .int .i64 0] rfl rfl _ _ ((setRow_other _ _ _ _ (by omega)).trans (H1.out _)) (by kernel_rfl) rfl (by kernel_rfl) ?_))
  refine ⟨_, results_cells2 rfl _ _ w.heap.size (w.heap.size + 1) _ _ #[.string { data := #[] }, .int .i64 0, .int .i64 0, .int .i64 0, .slice none 0 0, .int .i64 0, .int .i64 0, .int .i64 0, .string { data := #[] }, .slice none 0 0, .slice none 0 0, .slice none 0 0] #[.int .i64 3, .int .i64 0] _ _ _ _ rfl ((setRow_other _ _ _ _ (by omega)).trans (setRow_heap _ _ _ _ _ _ (H0.out _))) Tryz.underlying27 rfl (by kernel_rfl) rfl (setRow_heap _ _ _ _ _ _ ((setRow_other _ _ _ _ (by omega)).trans (H1.out _))) Tryz.underlying32 rfl (by kernel_rfl), ?_⟩
  refine ⟨below_setRow (below_setRow (HB2.out _ _) (Nat.le_refl _) _) (by omega) _, g0, ?_, ?_⟩
  · rw [HE.out]; rfl
  · rw [HE.out]; exact sr_zero _
theorem sParse_short (s : Tx) (hs : s.length ≤ 10000) (w : World) (hL : LaidD w) : Calls Tryz.prog 18 #[.string (str s)] w (PaT s w) := by
  have hz := str_size s
  have hz0 : ¬ 10000 < (str s).size := by omega
  have hz1 : (str s).size ≤ 9223372036854775807 := by omega
  have hmf : ∀ (fn : Fn) (first cap : Array Value) (w : World), (Instr.makeFunc fn first cap).run Tryz.prog w = .ok (.func fn first cap) w := fun _ _ _ _ => rfl
  have h0 : ∀ o2 : Obj, BoxA ((w.alloc (.cells #[.string { data := #[] }, .int .i64 0, .int .i64 0, .int .i64 0, .slice none 0 0, .int .i64 0, .int .i64 0, .int .i64 0, .string { data := #[] }, .slice none 0 0, .slice none 0 0, .slice none 0 0] 27)).alloc o2) w.heap.size 27 #[.string { data := #[] }, .int .i64 0, .int .i64 0, .int .i64 0, .slice none 0 0, .int .i64 0, .int .i64 0, .int .i64 0, .string { data := #[] }, .slice none 0 0, .slice none 0 0, .slice none 0 0] := fun o2 => BoxA.next (BoxA.new w _ _) ((Below.refl _ _).alloc (Nat.le_refl _) _)
  have h1 : ∀ o1 : Obj, BoxA ((w.alloc o1).alloc (.cells #[.int .i64 0, .int .i64 0] 32)) (w.heap.size + 1) 32 #[.int .i64 0, .int .i64 0] := fun o1 => by
    have := BoxA.new (w.alloc o1) 32 #[.int .i64 0, .int .i64 0]
    rw [World.size_alloc] at this
    exact this
  have hB2 : ∀ o1 o2 : Obj, Below w.heap.size w ((w.alloc o1).alloc o2) := fun _ _ => ((Below.refl _ w).alloc (Nat.le_refl _) _).alloc (by simp) _
  have hR := fun o1 o2 : Obj => read_two s hs ((w.alloc o1).alloc o2) (hL.next (hB2 o1 o2))
  obtain ⟨W2, hW2⟩ : ∃ W2, (w.alloc (.cells #[.string { data := #[] }, .int .i64 0, .int .i64 0, .int .i64 0, .slice none 0 0, .int .i64 0, .int .i64 0, .int .i64 0, .string { data := #[] }, .slice none 0 0, .slice none 0 0, .slice none 0 0] 27)).alloc (.cells #[.int .i64 0, .int .i64 0] 32) = W2 := ⟨_, rfl⟩
  have hR2 := hR (.cells #[.string { data := #[] }, .int .i64 0, .int .i64 0, .int .i64 0, .slice none 0 0, .int .i64 0, .int .i64 0, .int .i64 0, .string { data := #[] }, .slice none 0 0, .slice none 0 0, .slice none 0 0] 27) (.cells #[.int .i64 0, .int .i64 0] 32)
  have h02 := h0 (.cells #[.int .i64 0, .int .i64 0] 32)
  have h12 := h1 (.cells #[.string { data := #[] }, .int .i64 0, .int .i64 0, .int .i64 0, .slice none 0 0, .int .i64 0, .int .i64 0, .int .i64 0, .string { data := #[] }, .slice none 0 0, .slice none 0 0, .slice none 0 0] 27)
  have hb2 := hB2 (.cells #[.string { data := #[] }, .int .i64 0, .int .i64 0, .int .i64 0, .slice none 0 0, .int .i64 0, .int .i64 0, .int .i64 0, .string { data := #[] }, .slice none 0 0, .slice none 0 0, .slice none 0 0] 27) (.cells #[.int .i64 0, .int .i64 0] 32)
  rw [hW2] at hR2 h02 h12 hb2
  have HW2 := Lib.hid hW2
  have H0 := Lib.hid h02
  have H1 := Lib.hid h12
  have HB2 := Lib.hid hb2
  clear hs hz hL h0 h1 hB2 hR h02 h12 hb2 hW2
  rcases hR2 with ⟨e0, l0, hx, he, hl, hc⟩ | ⟨x, hx, hc⟩
  · have HC := Lib.hid hc
    have HX := Lib.hid (And.intro hx (And.intro he hl))
    clear hc hx he hl
    go_enter_defers Tryz.func18, Tryz.ntmps18
    go_upto_region 4 with fail
    rw [HW2.out]
    go_wp2_with (go_at_call 40; ((with_reducible refine HC.out.mono ?_); rintro e w3 ⟨rfl, hb3⟩); have HB3 := Lib.hid hb3; clear hb3)
    refine leaves_cons (f := 39) (args := #[.pointer (some ⟨w.heap.size + 1, 0, none⟩)]) (by simp) (by simp [go_sem]) ?_
    have h13 := H1.out.next HB3.out
    refine (catch_pan (w.heap.size + 1) 0 0 e0 l0 w3 h13).mono ?_
    rintro e u' w4 ⟨rfl, rfl, rfl⟩
    have h03 := H0.out.next HB3.out
    have h04 : BoxA ((w3.setCell ⟨w.heap.size + 1, 0, none⟩ (.int .i64 e0)).setCell ⟨w.heap.size + 1, 1, none⟩ (.int .i64 l0)) w.heap.size 27 #[.string { data := #[] }, .int .i64 0, .int .i64 0, .int .i64 0, .slice none 0 0, .int .i64 0, .int .i64 0, .int .i64 0, .string { data := #[] }, .slice none 0 0, .slice none 0 0, .slice none 0 0] := (Below.heap_setCell _ _ _ _ (by simp)).trans ((Below.heap_setCell _ _ _ _ (by simp)).trans h03)
    have h14 : BoxA ((w3.setCell ⟨w.heap.size + 1, 0, none⟩ (.int .i64 e0)).setCell ⟨w.heap.size + 1, 1, none⟩ (.int .i64 l0)) (w.heap.size + 1) 32 #[.int .i64 e0, .int .i64 l0] := (h13.set 0 (.int .i64 e0)).set 1 (.int .i64 l0)
    refine ⟨_, results_cells2 rfl _ _ w.heap.size (w.heap.size + 1) _ _ #[.string { data := #[] }, .int .i64 0, .int .i64 0, .int .i64 0, .slice none 0 0, .int .i64 0, .int .i64 0, .int .i64 0, .string { data := #[] }, .slice none 0 0, .slice none 0 0, .slice none 0 0] #[.int .i64 e0, .int .i64 l0] _ _ _ _ rfl h04 Tryz.underlying27 rfl (by kernel_rfl) rfl h14 Tryz.underlying32 rfl (by kernel_rfl), ?_⟩
    obtain ⟨x1, x2, x3⟩ := HX.out
    refine ⟨((HB2.out.trans (HB3.out.mono HB2.out.size)).setCell (p := ⟨w.heap.size + 1, 0, none⟩) (by simp) _).setCell (p := ⟨w.heap.size + 1, 1, none⟩) (by simp) _, g0, ?_, ?_⟩
    · rw [x1, x2, x3]; rfl
    · rw [x1]; exact sr_zero _
  · have HC := Lib.hid hc
    have HX := Lib.hid hx
    clear hc hx
    go_enter_defers Tryz.func18, Tryz.ntmps18
    go_upto_region 4 with fail
    rw [HW2.out]
    go_wp2_with (first
      | (go_at_call 40; ((with_reducible refine HC.out.mono ?_); rintro e w3 ⟨hb3, g, rfl, hs3⟩); have HB3 := Lib.hid hb3; have HS3 := Lib.hid hs3; have h03 := Lib.hid (H0.out.next hb3); have h13 := Lib.hid (H1.out.next hb3); clear hb3 hs3)
      | (refine wpList_store_row rfl _ _ _ rfl w.heap.size (scs x g) rfl rfl _ _ h03.out (by kernel_rfl) rfl (scs_one HS3.out.sr) ?_)
      | (refine wpList_store_row rfl _ _ _ rfl (w.heap.size + 1) #[.int .i64 0, .int .i64 0] rfl rfl _ _ ((setRow_other _ _ _ _ (by omega)).trans h13.out) (by kernel_rfl) rfl (by kernel_rfl) ?_))
    refine leaves_cons (f := 39) (args := #[.pointer (some ⟨w.heap.size + 1, 0, none⟩)]) (by simp [Act.put]) (by simp [go_sem]) ?_
    refine (catch_idle (w.heap.size + 1) _).mono ?_
    rintro e u' w4 ⟨rfl, rfl, rfl⟩
    refine ⟨_, results_cells2 rfl _ _ w.heap.size (w.heap.size + 1) _ _ (scs x g) #[.int .i64 0, .int .i64 0] _ _ _ _ rfl ((setRow_other _ _ _ _ (by omega)).trans (setRow_heap _ _ _ _ _ _ h03.out)) Tryz.underlying27 rfl (by kernel_rfl) rfl (setRow_heap _ _ _ _ _ _ ((setRow_other _ _ _ _ (by omega)).trans h13.out)) Tryz.underlying32 rfl (by kernel_rfl), ?_⟩
    have hsz : w.heap.size + 1 < W2.heap.size := H1.out.lt
    refine ⟨below_setRow (below_setRow (HB2.out.trans (HB3.out.mono HB2.out.size)) (Nat.le_refl _) _) (by omega) _, g, ?_, ?_⟩
    · rw [HX.out]; rfl
    · rw [HX.out]
      exact (HS3.out.kept fun b hb => (setRow_other _ _ _ _ (by omega)).trans (setRow_other _ _ _ _ (by omega))).sr
theorem sParse_any (s : Tx) (hs : s.length ≤ 9223372036854775807) (w : World) (hL : LaidD w) : Calls Tryz.prog 18 #[.string (str s)] w (PaT s w) := by
  by_cases h : s.length ≤ 10000
  · exact sParse_short s h w hL
  · exact sParse_long s (by omega) hs w
end Go.Proofs.YtekcjfdllclphaaGreatDoor.gn
end
section
set_option linter.unusedVariables false
set_option linter.unusedSimpArgs false
namespace Go.Proofs.YtekcjfdllclphaaGreatDoor.sp
open Go.Proofs.YtekcjfdllclphaaGreatDoor.un
open Go.Proofs.YtekcjfdllclphaaGreatDoor.di
def jobB : Tx := [106, 111, 98, 32, 117, 115, 101, 114, 61]
def nodesB : Tx := [32, 110, 111, 100, 101, 115, 61]
def wallB : Tx := [32, 119, 97, 108, 108, 61]
def qosB : Tx := [32, 113, 111, 115, 61]
def afterB : Tx := [32, 97, 102, 116, 101, 114, 61]
def hdT (us a b : Tx) : Tx := jobB ++ us ++ nodesB ++ a ++ wallB ++ b
def qosT (n : Int) : Tx := if n = 0 then [] else qosB ++ txt n
def depsT (l : List (Int × Bool)) : Tx := if l = [] then [] else afterB ++ joinC 44 (l.map depT)
def befT (k : Nat) : Tx := if k = 0 then afterB else [44]
theorem depsT_snoc (l : List (Int × Bool)) (d : Int × Bool) : depsT (l ++ [d]) = depsT l ++ (befT l.length ++ depT d) := by
  unfold depsT befT
  cases l with
  | nil => simp [joinC]
  | cons e r =>
    rw [if_neg (by simp), if_neg (by simp), if_neg (by simp), List.map_append, List.map_cons, List.map_singleton, joinC_snoc 44 _ _ (by simp)]
    simp
theorem joinC_app (c : UInt8) : ∀ (a b : List Tx), a ≠ [] → b ≠ [] → joinC c (a ++ b) = joinC c a ++ c :: joinC c b
  | [], _, h, _ => absurd rfl h
  | [x], b, _, hb => by rw [List.singleton_append, joinC_cons c x hb]; rfl
  | x :: y :: r, b, _, hb => by
    rw [List.cons_append, joinC_cons c x (by simp), joinC_app c (y :: r) b (by simp) hb, joinC_cons c x (by simp), List.append_assoc]
    rfl
theorem line1_hd {x : Slip} (h : 0 ≤ x.qos) : line1 x = hdT x.user (txt x.nodes) (txt x.wall) ++ qosT x.qos ++ depsT x.after := by
  have e3 : joinC 32 [jobW, wtx (userK, x.user), wtx (nodesK, txt x.nodes), wtx (wallK, txt x.wall)] = hdT x.user (txt x.nodes) (txt x.wall) := by
    unfold hdT
    simp [joinC, jobW, wtx, userK, nodesK, wallK, jobB, nodesB, wallB]
  unfold line1 fsS
  rw [List.map_append, List.map_append, ← List.cons_append, ← List.cons_append]
  have e4 : ∀ (q : List Fl), (jobW :: List.map wtx [(userK, x.user), (nodesK, txt x.nodes), (wallK, txt x.wall)]) ++ q.map wtx = [jobW, wtx (userK, x.user), wtx (nodesK, txt x.nodes), wtx (wallK, txt x.wall)] ++ q.map wtx := fun _ => rfl
  unfold qosT depsT
  by_cases hq : x.qos = 0
  · rw [if_neg (by omega), if_pos hq, List.append_nil, List.map_nil, List.append_nil]
    by_cases ha : x.after = []
    · rw [if_pos ha, if_pos ha, List.map_nil, List.append_nil, List.append_nil]
      exact e3
    · rw [if_neg ha, if_neg ha, joinC_app 32 _ _ (by simp) (by simp)]
      rw [show joinC 32 (jobW :: List.map wtx [(userK, x.user), (nodesK, txt x.nodes), (wallK, txt x.wall)]) = _ from e3]
      rfl
  · rw [if_pos (by omega), if_neg hq]
    rw [show (jobW :: List.map wtx [(userK, x.user), (nodesK, txt x.nodes), (wallK, txt x.wall)]) ++ List.map wtx [(qosK, txt x.qos)] = [jobW, wtx (userK, x.user), wtx (nodesK, txt x.nodes), wtx (wallK, txt x.wall)] ++ [wtx (qosK, txt x.qos)] from rfl]
    have e5 : joinC 32 ([jobW, wtx (userK, x.user), wtx (nodesK, txt x.nodes), wtx (wallK, txt x.wall)] ++ [wtx (qosK, txt x.qos)]) = hdT x.user (txt x.nodes) (txt x.wall) ++ (qosB ++ txt x.qos) := by
      rw [joinC_app 32 _ _ (by simp) (by simp), e3]
      rfl
    by_cases ha : x.after = []
    · rw [if_pos ha, if_pos ha, List.map_nil, List.append_nil, List.append_nil]
      exact e5
    · rw [if_neg ha, if_neg ha, joinC_app 32 _ _ (by simp) (by simp), e5]
      rfl
end Go.Proofs.YtekcjfdllclphaaGreatDoor.sp
namespace Go.Proofs.YtekcjfdllclphaaGreatDoor.gn
open Go.RowKit
open Go.Proofs.YtekcjfdllclphaaGreatDoor.un
open Go.Proofs.YtekcjfdllclphaaGreatDoor.di
open Go.Proofs.YtekcjfdllclphaaGreatDoor.sp (Slip Ok hdT qosT depsT befT depT line1 line1_hd depsT_snoc jobB nodesB wallB qosB afterB)

theorem hd_str (us a b : Tx) : ({ data := #[106, 111, 98, 32, 117, 115, 101, 114, 61] } : ByteArray) ++ str us ++ { data := #[32, 110, 111, 100, 101, 115, 61] } ++ str a ++ { data := #[32, 119, 97, 108, 108, 61] } ++ str b = str (hdT us a b) := by
  show str jobB ++ str us ++ str nodesB ++ str a ++ str wallB ++ str b = _
  rw [str_app, str_app, str_app, str_app, str_app]
  rfl
theorem add_sz {a b : ByteArray} (ha : a.size ≤ 1000000) (hb : b.size ≤ 1000000) (W : World) : (Op.stringOp .add a b).run Tryz.prog W = .ok (.string (a ++ b)) W := run_string_add_sum W _ _ (by omega)
theorem app_sz {a b : ByteArray} {m n : Nat} (ha : a.size ≤ m) (hb : b.size ≤ n) : (a ++ b).size ≤ m + n := by rw [ByteArray.size_append]; omega
theorem undrew {B : Nat} {w w' : World} (h : Below B w.drew w') : Below B w w' := ⟨h.os, h.tape, h.output, h.size, h.block⟩
theorem dep_str (s bf : Tx) (n : Int) (b : Bool) : str s ++ (str bf ++ str (if b = true then sp.anyW else sp.okW) ++ str [58] ++ str (txt n)) = str (s ++ (bf ++ depT (n, b))) := by
  rw [str_app, str_app, str_app, str_app]
  unfold depT
  simp
theorem qos_str (s : Tx) (n : Int) : str s ++ (({ data := #[32, 113, 111, 115, 61] } : ByteArray) ++ str (txt n)) = str (s ++ (qosB ++ txt n)) := by
  show str s ++ (str qosB ++ str (txt n)) = _
  rw [str_app, str_app]
set_option maxRecDepth 100000 in
set_option maxHeartbeats 8000000 in
theorem first_slip (x : Slip) (g : Gh) (w : World) (h : SR w x g) (hx : Ok x) (hL : LaidD w) : Calls Tryz.prog 51 #[sV x g] w (Told (.string (str (line1 x))) w) := by
  have HF := Lib.hid (line1_hd hx.qos.1)
  have HXT := Lib.hid hx.after
  have hus : x.user.length ≤ 32 := name_len hx.user
  have hn := hx.nodes
  have hwl := hx.wall
  have hq := hx.qos
  obtain ⟨wb, hwb⟩ : ∃ wb, w.alloc (.cells (scs x g) 27) = wb := ⟨_, rfl⟩
  have hbx : BoxA wb w.heap.size 27 (scs x g) := by rw [← hwb]; exact BoxA.new _ _ _
  have hB1 : Below w.heap.size w wb := by rw [← hwb]; exact (Below.refl _ _).alloc (Nat.le_refl _) _
  have HB1 := Lib.hid hB1
  have HWB := Lib.hid hwb
  have HCE := Lib.hid (fun (W : World) (hb : Below wb.heap.size wb W) => cel_box (hbx.next hb))
  have HLB := Lib.hid (fun (W : World) (hb : Below wb.heap.size wb W) => (hL.next (hB1.trans (hb.mono hB1.size))).u)
  have HRA := Lib.hid (fun (W : World) (hb : Below wb.heap.size wb W) => ((h.next hB1).next hb).a)
  have HCA := Lib.hid h.ca
  clear hx h hL hwb hbx hB1
  obtain ⟨va, vm, vd, vu⟩ := g
  obtain ⟨us, nodes, wall, qos, after, cap, inn, out, pool, mk, dr, use⟩ := x
  unfold sV scs at *
  dsimp only at *
  obtain ⟨pa, ca, rfl, hle, hcm⟩ := HCA.out
  clear HCA
  generalize hna : after.length = na at *
  have HNA := Lib.hid hna
  clear hna
  obtain ⟨c0, c1, c2, c3, c4, c5, c6, c7, c8, c9, c10, c11, clt⟩ := HCE.out wb (Below.refl _ _)
  dsimp only at c0 c1 c2 c3 c4 c5 c6 c7 c8 c9 c10 c11
  clear c5 c6 c7 c8 c9 c10 c11
  have z1 : (str us).size ≤ 32 := by rw [str_size]; exact hus
  have z2 : (str (txt nodes)).size ≤ 13 := by rw [str_size]; exact txt_len _
  have z3 : (str (txt wall)).size ≤ 13 := by rw [str_size]; exact txt_len _
  go_enter Tryz.func51, Tryz.ntmps51
  go_upto_region 1 with fail
  rw [HWB.out]
  have s0 : ({ data := #[106, 111, 98, 32, 117, 115, 101, 114, 61] } : ByteArray).size ≤ 9 := by decide
  have s1 := app_sz s0 z1
  have s2 := app_sz (n := 7) s1 (show ({ data := #[32, 110, 111, 100, 101, 115, 61] } : ByteArray).size ≤ 7 by decide)
  have s3 := app_sz s2 z2
  have s4 := app_sz (n := 6) s3 (show ({ data := #[32, 119, 97, 108, 108, 61] } : ByteArray).size ≤ 6 by decide)
  have s5 := app_sz s4 z3
  have a1 := fun W => add_sz (a := ({ data := #[106, 111, 98, 32, 117, 115, 101, 114, 61] } : ByteArray)) (b := str us) (by omega) (by omega) W
  have a2 := fun W => add_sz (a := ({ data := #[106, 111, 98, 32, 117, 115, 101, 114, 61] } : ByteArray) ++ str us) (b := ({ data := #[32, 110, 111, 100, 101, 115, 61] } : ByteArray)) (by omega) (by decide) W
  have a3 := fun W => add_sz (a := ({ data := #[106, 111, 98, 32, 117, 115, 101, 114, 61] } : ByteArray) ++ str us ++ ({ data := #[32, 110, 111, 100, 101, 115, 61] } : ByteArray)) (b := str (txt nodes)) (by omega) (by omega) W
  have a4 := fun W => add_sz (a := ({ data := #[106, 111, 98, 32, 117, 115, 101, 114, 61] } : ByteArray) ++ str us ++ ({ data := #[32, 110, 111, 100, 101, 115, 61] } : ByteArray) ++ str (txt nodes)) (b := ({ data := #[32, 119, 97, 108, 108, 61] } : ByteArray)) (by omega) (by decide) W
  have a5 := fun W => add_sz (a := ({ data := #[106, 111, 98, 32, 117, 115, 101, 114, 61] } : ByteArray) ++ str us ++ ({ data := #[32, 110, 111, 100, 101, 115, 61] } : ByteArray) ++ str (txt nodes) ++ ({ data := #[32, 119, 97, 108, 108, 61] } : ByteArray)) (b := str (txt wall)) (by omega) (by omega) W
  have HSS := Lib.hid s5
  have HNW := Lib.hid (And.intro hn hwl)
  have HT1 := Lib.hid (fun (W : World) (hb : Below wb.heap.size wb W) => text_any nodes (by have := HNW.out; omega) (by have := HNW.out; omega) W (HLB.out W hb))
  have HT2 := Lib.hid (fun (W : World) (hb : Below wb.heap.size wb W) => text_any wall (by have := HNW.out; omega) (by have := HNW.out; omega) W (HLB.out W hb))
  have HK := Lib.hid (fun (W : World) (hb : Below wb.heap.size wb W) => (⟨(Below.cell hb clt).trans c0, (Below.cell hb clt).trans c1, (Below.cell hb clt).trans c2⟩ : W.cell? ⟨w.heap.size, 0, none⟩ = some (.string (str us)) ∧ W.cell? ⟨w.heap.size, 1, none⟩ = some (.int .i64 nodes) ∧ W.cell? ⟨w.heap.size, 2, none⟩ = some (.int .i64 wall)))
  clear s0 s1 s2 s3 s4 s5
  have HY0 := Lib.hid (drew_low wb)
  go_region_held3 (fun W => W.cell? ⟨w.heap.size, 0, none⟩ = some (.string (str us)) ∧ W.cell? ⟨w.heap.size, 1, none⟩ = some (.int .i64 nodes) ∧ W.cell? ⟨w.heap.size, 2, none⟩ = some (.int .i64 wall)) (first | exact HK.out _ HY2.out | exact HK.out _ HY1.out | exact HK.out _ HY0.out | exact HK.out _ (Below.refl _ _)) (first
    | (go_at_call 93; refine (HT1.out _ HY0.out).mono ?_; rintro e w1 ⟨rfl, hb1⟩; have HY1 := Lib.hid (HY0.out.trans (hb1.mono HY0.out.size)); clear hb1)
    | (go_at_call 93; refine (HT2.out _ HY1.out).mono ?_; rintro e w2 ⟨rfl, hb2⟩; have HY2 := Lib.hid (HY1.out.trans (hb2.mono HY1.out.size)); clear hb2))
  rw [hd_str]
  have hhl : (hdT us (txt nodes) (txt wall)).length ≤ 90 := by
    have := txt_len nodes
    have := txt_len wall
    simp [hdT, jobB, nodesB, wallB]
    omega
  obtain ⟨H, hH⟩ : ∃ H, hdT us (txt nodes) (txt wall) = H := ⟨_, rfl⟩
  rw [hH] at hhl HF ⊢
  have d3 : w2.cell? ⟨w.heap.size, 3, none⟩ = some (.int .i64 qos) := (Below.cell HY2.out clt).trans c3
  have d4 : w2.cell? ⟨w.heap.size, 4, none⟩ = some (.slice pa na ca) := (Below.cell HY2.out clt).trans c4
  have zh : (str H).size ≤ 90 := by rw [str_size]; exact hhl
  have clt2 : w.heap.size < w2.heap.size := Nat.lt_of_lt_of_le clt HY2.out.size
  have hna8 : na ≤ 8 := by have := HXT.out.1; have := HNA.out; omega
  clear a1 a2 a3 a4 a5 hH c0 c1 c2 c3 c4
  by_cases hq0 : qos = 0
  · obtain ⟨HQ, hHQ⟩ : ∃ HQ, HQ = H := ⟨_, rfl⟩
    have HHQ := Lib.hid (show HQ = H ++ qosT qos by rw [hHQ, hq0]; simp [qosT])
    have HZQ := Lib.hid (show HQ.length ≤ 120 by rw [hHQ]; omega)
    have zhq : (str HQ).size ≤ 90 := by rw [hHQ]; exact zh
    rw [← hHQ]
    clear hHQ
    subst hq0
    go_wp2
    go_loopw [3, 4, 33] (fun s3 s4 s33 wr => ∃ (k : Nat) (t : Tx) (bf : Tx), s33 = .int .i64 (k : Int) ∧ s3 = .string (str t) ∧ s4 = .string (str bf) ∧ k ≤ na ∧ t.length ≤ 120 + 30 * k ∧ bf.length ≤ 7 ∧ Aside (t = HQ ++ depsT (after.take k)) ∧ Aside (bf = befT k) ∧ Aside (Below wb.heap.size wb wr)) (fun _ _ s33 _ => na - (intOf s33).toNat)
    case atStart => exact ⟨0, HQ, afterB, rfl, rfl, rfl, Nat.zero_le _, by have := HZQ.out; omega, by decide, by show HQ = HQ ++ depsT []; simp [depsT], rfl, HY2.out⟩
    case round =>
      obtain ⟨k, t, bf, rfl, rfl, rfl, hk, htl, hbl, ht, hbf, hb⟩ := hrel
      have HT := Lib.hid (show t = HQ ++ depsT (after.take k) from ht)
      have HBF := Lib.hid (show bf = befT k from hbf)
      have HB := Lib.hid (show Below wb.heap.size wb wr from hb)
      have HTL := Lib.hid (And.intro htl hbl)
      clear ht hbf hb
      have e1 : (str t).size ≤ 400 := by rw [str_size]; omega
      have e2 : (str bf).size ≤ 7 := by rw [str_size]; exact hbl
      by_cases hkn : k < na
      · obtain ⟨b, off, hpa, hbz, hcc⟩ := RdC.at_ (size := 2) (HRA.out _ HB.out) rfl (by omega)
        subst hpa
        obtain ⟨d, hd⟩ : ∃ d, after[k]? = some d := ⟨_, List.getElem?_eq_getElem (by rw [HNA.out]; exact hkn)⟩
        have x0 : wr.cell? ⟨b, off + k * 2, none⟩ = some (.int .i64 d.1) := hcc.elt (f := cA) (k := 2) (fun _ => rfl) (j := 0) hd (by decide) rfl
        have x1 : wr.cell? ⟨b, off + k * 2 + 1, none⟩ = some (.bool d.2) := hcc.elt (f := cA) (k := 2) (fun _ => rfl) (j := 1) hd (by decide) rfl
        have HD := Lib.hid hd
        have hdb := HXT.out.2.2 d (List.mem_of_getElem? hd)
        have hlen2 : (after.take k).length = k := by rw [List.length_take, HNA.out]; omega
        have HLEN := Lib.hid hlen2
        have z4 : (str (txt d.1)).size ≤ 13 := by rw [str_size]; exact txt_len _
        have HTD := Lib.hid (fun (W : World) (hb : Below wb.heap.size wb W) => text_any d.1 (by omega) (by omega) W (HLB.out W hb))
        clear hcc hd hlen2
        have hy : Below wr.heap.size wr (wr.alloc (.cells #[.int .i64 d.1, .bool d.2] 88)) := (Below.refl _ _).alloc (Nat.le_refl _) _
        have HY := Lib.hid (HB.out.trans (hy.mono HB.out.size))
        clear hy
        obtain ⟨n, bb⟩ := d
        dsimp only at x0 x1 hdb z4 HTD HY
        cases bb with
        | true =>
          go_wp2_with (go_at_call 93; refine (HTD.out _ HY.out).mono ?_; rintro e w5 ⟨rfl, hb5⟩; have HB5 := Lib.hid (HY.out.trans (hb5.mono HY.out.size)); clear hb5)
          go_roundw
          case rel =>
            refine ⟨k + 1, t ++ (bf ++ depT (n, true)), [44], by go_num, ?_, rfl, by omega, ?_, by decide, ?_, rfl, HB5.out⟩
            · rw [← dep_str]; rfl
            · have := txt_len n
              obtain ⟨htl, hbl⟩ := HTL.out
              simp [depT, sp.anyW]
              omega
            · show t ++ (bf ++ depT (n, true)) = HQ ++ depsT (after.take (k + 1))
              rw [take_snoc HD.out, depsT_snoc, HLEN.out, ← HBF.out, HT.out, List.append_assoc]
          case measure => simp [intOf]; omega
        | false =>
          go_wp2_with (go_at_call 93; refine (HTD.out _ HY.out).mono ?_; rintro e w5 ⟨rfl, hb5⟩; have HB5 := Lib.hid (HY.out.trans (hb5.mono HY.out.size)); clear hb5)
          go_roundw
          case rel =>
            refine ⟨k + 1, t ++ (bf ++ depT (n, false)), [44], by go_num, ?_, rfl, by omega, ?_, by decide, ?_, rfl, HB5.out⟩
            · rw [← dep_str]; rfl
            · have := txt_len n
              obtain ⟨htl, hbl⟩ := HTL.out
              simp [depT, sp.okW]
              omega
            · show t ++ (bf ++ depT (n, false)) = HQ ++ depsT (after.take (k + 1))
              rw [take_snoc HD.out, depsT_snoc, HLEN.out, ← HBF.out, HT.out, List.append_assoc]
          case measure => simp [intOf]; omega
      · obtain rfl : k = na := by omega
        have HTF := Lib.hid (show t = line1 _ by
          rw [HF.out, HT.out, List.take_of_length_le (by rw [HNA.out]; exact Nat.le_refl _), ← HHQ.out])
        go_wp2
        go_ret
        exact ⟨by rw [← HTF.out]; rfl, HB1.out.trans (HB.out.mono HB1.out.size)⟩
  · have hqb : (qos == 0) = false := by rw [beq_eq_false_iff_ne]; exact hq0
    have zq : (str (txt qos)).size ≤ 13 := by rw [str_size]; exact txt_len _
    have HTQ := Lib.hid (fun (W : World) (hb : Below wb.heap.size wb W) => text_any qos (by omega) (by omega) W (HLB.out W hb))
    obtain ⟨HQ, hHQ⟩ : ∃ HQ, H ++ (qosB ++ txt qos) = HQ := ⟨_, rfl⟩
    have HHQ := Lib.hid (show HQ = H ++ qosT qos by rw [← hHQ]; unfold qosT; rw [if_neg hq0])
    have HZQ := Lib.hid (show HQ.length ≤ 120 by rw [← hHQ]; have := txt_len qos; simp [qosB]; omega)
    have HQE := Lib.hid hHQ
    clear hHQ
    go_wp2_with (go_at_call 93; refine (HTQ.out _ HY2.out).mono ?_; rintro e w3 ⟨rfl, hb3⟩; have HY3 := Lib.hid (HY2.out.trans (hb3.mono HY2.out.size)); have d43 : w3.cell? ⟨w.heap.size, 4, none⟩ = some (.slice pa na ca) := (Below.cell hb3 clt2).trans d4; have clt3 : w.heap.size < w3.heap.size := Nat.lt_of_lt_of_le clt2 hb3.size; clear hb3)
    go_loopw [3, 4, 33] (fun s3 s4 s33 wr => ∃ (k : Nat) (t : Tx) (bf : Tx), s33 = .int .i64 (k : Int) ∧ s3 = .string (str t) ∧ s4 = .string (str bf) ∧ k ≤ na ∧ t.length ≤ 120 + 30 * k ∧ bf.length ≤ 7 ∧ Aside (t = HQ ++ depsT (after.take k)) ∧ Aside (bf = befT k) ∧ Aside (Below wb.heap.size wb wr)) (fun _ _ s33 _ => na - (intOf s33).toNat)
    case atStart => exact ⟨0, HQ, afterB, rfl, by rw [← HQE.out, ← qos_str], rfl, Nat.zero_le _, by have := HZQ.out; omega, by decide, by show HQ = HQ ++ depsT []; simp [depsT], rfl, HY3.out⟩
    case round =>
      obtain ⟨k, t, bf, rfl, rfl, rfl, hk, htl, hbl, ht, hbf, hb⟩ := hrel
      have HT := Lib.hid (show t = HQ ++ depsT (after.take k) from ht)
      have HBF := Lib.hid (show bf = befT k from hbf)
      have HB := Lib.hid (show Below wb.heap.size wb wr from hb)
      have HTL := Lib.hid (And.intro htl hbl)
      clear ht hbf hb
      have e1 : (str t).size ≤ 400 := by rw [str_size]; omega
      have e2 : (str bf).size ≤ 7 := by rw [str_size]; exact hbl
      by_cases hkn : k < na
      · obtain ⟨b, off, hpa, hbz, hcc⟩ := RdC.at_ (size := 2) (HRA.out _ HB.out) rfl (by omega)
        subst hpa
        obtain ⟨d, hd⟩ : ∃ d, after[k]? = some d := ⟨_, List.getElem?_eq_getElem (by rw [HNA.out]; exact hkn)⟩
        have x0 : wr.cell? ⟨b, off + k * 2, none⟩ = some (.int .i64 d.1) := hcc.elt (f := cA) (k := 2) (fun _ => rfl) (j := 0) hd (by decide) rfl
        have x1 : wr.cell? ⟨b, off + k * 2 + 1, none⟩ = some (.bool d.2) := hcc.elt (f := cA) (k := 2) (fun _ => rfl) (j := 1) hd (by decide) rfl
        have HD := Lib.hid hd
        have hdb := HXT.out.2.2 d (List.mem_of_getElem? hd)
        have hlen2 : (after.take k).length = k := by rw [List.length_take, HNA.out]; omega
        have HLEN := Lib.hid hlen2
        have z4 : (str (txt d.1)).size ≤ 13 := by rw [str_size]; exact txt_len _
        have HTD := Lib.hid (fun (W : World) (hb : Below wb.heap.size wb W) => text_any d.1 (by omega) (by omega) W (HLB.out W hb))
        clear hcc hd hlen2
        have hy : Below wr.heap.size wr (wr.alloc (.cells #[.int .i64 d.1, .bool d.2] 88)) := (Below.refl _ _).alloc (Nat.le_refl _) _
        have HY := Lib.hid (HB.out.trans (hy.mono HB.out.size))
        clear hy
        obtain ⟨n, bb⟩ := d
        dsimp only at x0 x1 hdb z4 HTD HY
        cases bb with
        | true =>
          go_wp2_with (go_at_call 93; refine (HTD.out _ HY.out).mono ?_; rintro e w5 ⟨rfl, hb5⟩; have HB5 := Lib.hid (HY.out.trans (hb5.mono HY.out.size)); clear hb5)
          go_roundw
          case rel =>
            refine ⟨k + 1, t ++ (bf ++ depT (n, true)), [44], by go_num, ?_, rfl, by omega, ?_, by decide, ?_, rfl, HB5.out⟩
            · rw [← dep_str]; rfl
            · have := txt_len n
              obtain ⟨htl, hbl⟩ := HTL.out
              simp [depT, sp.anyW]
              omega
            · show t ++ (bf ++ depT (n, true)) = HQ ++ depsT (after.take (k + 1))
              rw [take_snoc HD.out, depsT_snoc, HLEN.out, ← HBF.out, HT.out, List.append_assoc]
          case measure => simp [intOf]; omega
        | false =>
          go_wp2_with (go_at_call 93; refine (HTD.out _ HY.out).mono ?_; rintro e w5 ⟨rfl, hb5⟩; have HB5 := Lib.hid (HY.out.trans (hb5.mono HY.out.size)); clear hb5)
          go_roundw
          case rel =>
            refine ⟨k + 1, t ++ (bf ++ depT (n, false)), [44], by go_num, ?_, rfl, by omega, ?_, by decide, ?_, rfl, HB5.out⟩
            · rw [← dep_str]; rfl
            · have := txt_len n
              obtain ⟨htl, hbl⟩ := HTL.out
              simp [depT, sp.okW]
              omega
            · show t ++ (bf ++ depT (n, false)) = HQ ++ depsT (after.take (k + 1))
              rw [take_snoc HD.out, depsT_snoc, HLEN.out, ← HBF.out, HT.out, List.append_assoc]
          case measure => simp [intOf]; omega
      · obtain rfl : k = na := by omega
        have HTF := Lib.hid (show t = line1 _ by
          rw [HF.out, HT.out, List.take_of_length_le (by rw [HNA.out]; exact Nat.le_refl _), ← HHQ.out])
        go_wp2
        go_ret
        exact ⟨by rw [← HTF.out]; rfl, HB1.out.trans (HB.out.mono HB1.out.size)⟩
end Go.Proofs.YtekcjfdllclphaaGreatDoor.gn
end
