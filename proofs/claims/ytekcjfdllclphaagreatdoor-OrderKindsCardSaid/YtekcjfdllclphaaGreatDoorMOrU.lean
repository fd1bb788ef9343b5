/- Rows of a slip that may be lie in none of the boxes that hold nothing of it. -/
import Derived.Test.YtekcjfdllclphaaGreatDoorMOrH
import Derived.Test.YtekcjfdllclphaaGreatDoorMOrM
import Derived.Test.YtekcjfdllclphaaGreatDoorMOrGr
section
set_option linter.unusedVariables false
set_option linter.unusedSimpArgs false
namespace Go.Proofs.YtekcjfdllclphaaGreatDoor.gn
open Go.RowKit
open Go.Proofs.YtekcjfdllclphaaGreatDoor.un
open Go.Proofs.YtekcjfdllclphaaGreatDoor.di
open Go.Proofs.YtekcjfdllclphaaGreatDoor.sp (Slip Ok)

/-- Cells that are no row's of a slip that may be. -/
structure Dull (cs : Array Value) : Prop where
  a : ∀ (i : Nat) (j : Int) (b : Bool), cs[i]? = some (.int .i64 j) → cs[i + 1]? = some (.bool b) → j < 1
  m : ∀ (i : Nat) (k : Int) (s : ByteArray), cs[i]? = some (.int .u8 k) → cs[i + 1]? ≠ some (.string s)
  s : ∀ (i : Nat) (n : Tx), cs[i]? = some (.string (str n)) → n = []
theorem str_nil {n : Tx} (h : (str n : ByteArray) = { data := #[] }) : n = [] := by
  have := str_size n
  rw [h] at this
  exact List.length_eq_zero_iff.1 this.symm
theorem twenty {i : Nat} (h : i < 20) : i = 0 ∨ i = 1 ∨ i = 2 ∨ i = 3 ∨ i = 4 ∨ i = 5 ∨ i = 6 ∨ i = 7 ∨ i = 8 ∨ i = 9 ∨ i = 10 ∨ i = 11 ∨ i = 12 ∨ i = 13 ∨ i = 14 ∨ i = 15 ∨ i = 16 ∨ i = 17 ∨ i = 18 ∨ i = 19 := by omega
theorem dull_at (k : Nat) : Dull (atO k) := by
  have hs : (atO k).size = 20 := rfl
  have hlt : ∀ {i : Nat} {u : Value}, (atO k)[i]? = some u → i < 20 := fun h => by rw [← hs]; exact (Array.getElem?_eq_some_iff.1 h).1
  refine ⟨fun i j b h1 h2 => ?_, fun i q s h1 h2 => ?_, fun i n h1 => ?_⟩
  · rcases twenty (hlt h1) with rfl | rfl | rfl | rfl | rfl | rfl | rfl | rfl | rfl | rfl | rfl | rfl | rfl | rfl | rfl | rfl | rfl | rfl | rfl | rfl <;> simp [atO] at h1 h2 <;> omega
  · rcases twenty (hlt h1) with rfl | rfl | rfl | rfl | rfl | rfl | rfl | rfl | rfl | rfl | rfl | rfl | rfl | rfl | rfl | rfl | rfl | rfl | rfl | rfl <;> simp [atO] at h1 h2
  · rcases twenty (hlt h1) with rfl | rfl | rfl | rfl | rfl | rfl | rfl | rfl | rfl | rfl | rfl | rfl | rfl | rfl | rfl | rfl | rfl | rfl | rfl | rfl <;> simp [atO] at h1 <;> exact str_nil h1.symm
theorem dull_spot : Dull #[.int .i64 0, .int .i64 0] := by
  have hlt : ∀ {i : Nat} {u : Value}, (#[Value.int .i64 0, Value.int .i64 0] : Array Value)[i]? = some u → i = 0 ∨ i = 1 := fun h => by have := (Array.getElem?_eq_some_iff.1 h).1; simp at this; omega
  refine ⟨fun i j b h1 h2 => ?_, fun i q s h1 h2 => ?_, fun i n h1 => ?_⟩
  · rcases hlt h1 with rfl | rfl <;> simp at h2
  · rcases hlt h1 with rfl | rfl <;> simp at h1
  · rcases hlt h1 with rfl | rfl <;> simp at h1
theorem rdc_apart {W X : World} {R : Nat} {t : TypeId} {cs : Array Value} {v : Value} {n : Nat} {us : List Value} (h : RdC W v n us) (hb : BoxA W R t cs) (hs : W.heap.size ≤ X.heap.size) (hk : ∀ b, b < W.heap.size → b ≠ R → X.heap[b]? = W.heap[b]?)
    (hne : us ≠ [] → ∀ i : Nat, ¬ ∀ (j : Nat) (u : Value), us[j]? = some u → cs[i + j]? = some u) : RdC X v n us := by
  rcases h with h | ⟨b, off, c, e, hlt, hc⟩
  · exact .inl h
  · refine .inr ⟨b, off, c, e, Nat.lt_of_lt_of_le hlt hs, ?_⟩
    by_cases hr : b = R
    · subst hr
      by_cases hu : us = []
      · intro j u hj
        rw [hu] at hj
        cases hj
      · exfalso
        refine hne hu off fun j u hj => ?_
        have := hc j u hj
        simpa [World.cell?, show W.heap[b]? = _ from hb] using this
    · intro j u hj
      exact (World.cell?_of_block (a := ⟨b, off + j, none⟩) (hk b hlt hr)).trans (hc j u hj)
theorem sr_apart {W X : World} {R : Nat} {t : TypeId} {cs : Array Value} {x : Slip} {g : Gh} (h : SR W x g) (hx : Ok x) (hb : BoxA W R t cs) (hd : Dull cs) (hs : W.heap.size ≤ X.heap.size) (hk : ∀ b, b < W.heap.size → b ≠ R → X.heap[b]? = W.heap[b]?) : SR X x g := by
  have key : ∀ (l : List Tx), (∀ n ∈ l, isName n = true) → flS l ≠ [] → ∀ i : Nat, ¬ ∀ (j : Nat) (u : Value), (flS l)[j]? = some u → cs[i + j]? = some u := fun l hl hne i hall => by
    cases l with
    | nil => exact hne rfl
    | cons n r =>
      have h0 := hd.s i n (hall 0 _ rfl)
      have := hl n (by simp)
      rw [h0] at this
      cases this
  refine ⟨rdc_apart h.a hb hs hk fun hne i hall => ?_, rdc_apart h.m hb hs hk fun hne i hall => ?_, rdc_apart h.d hb hs hk (key _ hx.drop.2.2), rdc_apart h.u hb hs hk (key _ hx.use.2.2), h.ca, h.cm, h.cd, h.cu⟩
  · cases ha : x.after with
    | nil => rw [ha] at hne; exact hne rfl
    | cons d r =>
      rw [ha] at hall
      have h1 := hd.a i d.1 d.2 (hall 0 _ rfl) (hall 1 _ rfl)
      have h2 := hx.after.2.2 d (by rw [ha]; simp)
      omega
  · cases hm : x.make with
    | nil => rw [hm] at hne; exact hne rfl
    | cons d r =>
      rw [hm] at hall
      exact hd.m i _ _ (hall 0 _ rfl) (hall 1 _ rfl)
open Go.Proofs.YtekcjfdllclphaaGreatDoor.sp in
theorem lrun_up : ∀ (L : List Tx) (s : Slip × List Nat) (i : Nat) (e : Int × Nat), lrun s i L = .error e → e.2 ≤ i + L.length
  | [], s, i, e, h => by simp [lrun] at h
  | l :: r, s, i, e, h => by
    unfold lrun at h
    split at h
    · split at h
      · cases h; simp
      · split at h
        · cases h; simp
        · have := lrun_up r _ _ _ h
          simp; omega
    · have := lrun_up r _ _ _ h
      simp; omega
open Go.Proofs.YtekcjfdllclphaaGreatDoor.sp in
theorem sread_bd (s : Tx) : (sread s).2.2 ≤ s.length + 3 := by
  unfold sread
  split
  · simp
  · split
    · simp
    · next l ws hc =>
      have hl := cuts_len 10 s
      rw [hc] at hl
      simp at hl
      split
      · simp
      · split
        · next e he =>
          have := lrun_up _ _ _ _ he
          dsimp only
          omega
        · split
          · simp
          · dsimp only; omega
/-- An order of nothing is stored, cell by cell. -/
def put20 (W : World) (b : Nat) : World := ((((((((((((((((((((W.setCell ⟨b, 0, none⟩ (.int .u8 0)).setCell ⟨b, 1, none⟩ (.int .i64 0)).setCell ⟨b, 2, none⟩ (.int .i64 0)).setCell ⟨b, 3, none⟩ (.string { data := #[] })).setCell ⟨b, 4, none⟩ (.string { data := #[] })).setCell ⟨b, 5, none⟩ (.string { data := #[] })).setCell ⟨b, 6, none⟩ (.int .i64 0)).setCell ⟨b, 7, none⟩ (.bool false)).setCell ⟨b, 8, none⟩ (.string { data := #[] })).setCell ⟨b, 9, none⟩ (.int .i64 0)).setCell ⟨b, 10, none⟩ (.int .i64 0)).setCell ⟨b, 11, none⟩ (.int .i64 0)).setCell ⟨b, 12, none⟩ (.slice none 0 0)).setCell ⟨b, 13, none⟩ (.int .i64 0)).setCell ⟨b, 14, none⟩ (.int .i64 0)).setCell ⟨b, 15, none⟩ (.int .i64 0)).setCell ⟨b, 16, none⟩ (.string { data := #[] })).setCell ⟨b, 17, none⟩ (.slice none 0 0)).setCell ⟨b, 18, none⟩ (.slice none 0 0)).setCell ⟨b, 19, none⟩ (.slice none 0 0))
theorem put20_eq : ((((((((((((((((((((zO.setIfInBounds 0 (.int .u8 0)).setIfInBounds 1 (.int .i64 0)).setIfInBounds 2 (.int .i64 0)).setIfInBounds 3 (.string { data := #[] })).setIfInBounds 4 (.string { data := #[] })).setIfInBounds 5 (.string { data := #[] })).setIfInBounds 6 (.int .i64 0)).setIfInBounds 7 (.bool false)).setIfInBounds 8 (.string { data := #[] })).setIfInBounds 9 (.int .i64 0)).setIfInBounds 10 (.int .i64 0)).setIfInBounds 11 (.int .i64 0)).setIfInBounds 12 (.slice none 0 0)).setIfInBounds 13 (.int .i64 0)).setIfInBounds 14 (.int .i64 0)).setIfInBounds 15 (.int .i64 0)).setIfInBounds 16 (.string { data := #[] })).setIfInBounds 17 (.slice none 0 0)).setIfInBounds 18 (.slice none 0 0)).setIfInBounds 19 (.slice none 0 0)) = zO := by kernel_rfl
theorem put20_box {W : World} {b : Nat} {t : TypeId} (h : BoxA W b t zO) : BoxA (put20 W b) b t zO := by
  have := (BoxA.set (BoxA.set (BoxA.set (BoxA.set (BoxA.set (BoxA.set (BoxA.set (BoxA.set (BoxA.set (BoxA.set (BoxA.set (BoxA.set (BoxA.set (BoxA.set (BoxA.set (BoxA.set (BoxA.set (BoxA.set (BoxA.set (BoxA.set h 0 (.int .u8 0)) 1 (.int .i64 0)) 2 (.int .i64 0)) 3 (.string { data := #[] })) 4 (.string { data := #[] })) 5 (.string { data := #[] })) 6 (.int .i64 0)) 7 (.bool false)) 8 (.string { data := #[] })) 9 (.int .i64 0)) 10 (.int .i64 0)) 11 (.int .i64 0)) 12 (.slice none 0 0)) 13 (.int .i64 0)) 14 (.int .i64 0)) 15 (.int .i64 0)) 16 (.string { data := #[] })) 17 (.slice none 0 0)) 18 (.slice none 0 0)) 19 (.slice none 0 0))
  rw [put20_eq] at this
  exact this
theorem put20_but (W : World) (b : Nat) : But b W (put20 W b) := (((((((((((((((((((((But.refl b W).setCell 0 (.int .u8 0)).setCell 1 (.int .i64 0)).setCell 2 (.int .i64 0)).setCell 3 (.string { data := #[] })).setCell 4 (.string { data := #[] })).setCell 5 (.string { data := #[] })).setCell 6 (.int .i64 0)).setCell 7 (.bool false)).setCell 8 (.string { data := #[] })).setCell 9 (.int .i64 0)).setCell 10 (.int .i64 0)).setCell 11 (.int .i64 0)).setCell 12 (.slice none 0 0)).setCell 13 (.int .i64 0)).setCell 14 (.int .i64 0)).setCell 15 (.int .i64 0)).setCell 16 (.string { data := #[] })).setCell 17 (.slice none 0 0)).setCell 18 (.slice none 0 0)).setCell 19 (.slice none 0 0))
end Go.Proofs.YtekcjfdllclphaaGreatDoor.gn
end
section
set_option linter.unusedVariables false
namespace Go.Proofs.YtekcjfdllclphaaGreatDoor.gn
open Go.ChangeShapes Go.WideShapes Go.ChangeAt Go.RowKit Go.Deep
open Go.Proofs.YtekcjfdllclphaaGreatDoor.un
open Go.Proofs.YtekcjfdllclphaaGreatDoor.di
open Go.Proofs.YtekcjfdllclphaaGreatDoor.sp (Slip)
open Go.Proofs.YtekcjfdllclphaaGreatDoor.od (Ord)

section
variable {H : Type} {enc : TypeId × Value → H} {W : World}
set_option maxRecDepth 100000 in
theorem open_slip12 {fuel : Nat} {cs : List Value} {x : DataW H × List MemPlace} (h : DataW.trod enc Tryz.prog W 0 (fun _ => true) true fuel 27 cs = some x) (hl : cs.length = 12) :
    ∃ (s : Slip) (g : Gh), cs = (scs s g).toList ∧ SR W s g ∧ SW s := by
  obtain ⟨c0, c1, c2, c3, c4, c5, c6, c7, c8, c9, c10, c11, rfl⟩ := list12 hl
  obtain ⟨xs, m, _, _, _, hlen, hk⟩ := DataW.trod_struct Tryz.underlying27 h
  obtain ⟨z0, z1, z2, z3, z4, z5, z6, z7, z8, z9, z10, z11, rfl⟩ := list12 hlen
  have k0 : DataW.trod enc Tryz.prog W 0 (fun _ => true) true m 9 [c0] = some z0 := by simpa [dStr] using hk 0 _ rfl
  have k1 : DataW.trod enc Tryz.prog W 0 (fun _ => true) true m 2 [c1] = some z1 := by simpa [dI64] using hk 1 _ rfl
  have k2 : DataW.trod enc Tryz.prog W 0 (fun _ => true) true m 2 [c2] = some z2 := by simpa [dI64] using hk 2 _ rfl
  have k3 : DataW.trod enc Tryz.prog W 0 (fun _ => true) true m 2 [c3] = some z3 := by simpa [dI64] using hk 3 _ rfl
  have k4 : DataW.trod enc Tryz.prog W 0 (fun _ => true) true m 23 [c4] = some z4 := by simpa [dRA] using hk 4 _ rfl
  have k5 : DataW.trod enc Tryz.prog W 0 (fun _ => true) true m 2 [c5] = some z5 := by simpa [dI64] using hk 5 _ rfl
  have k6 : DataW.trod enc Tryz.prog W 0 (fun _ => true) true m 2 [c6] = some z6 := by simpa [dI64] using hk 6 _ rfl
  have k7 : DataW.trod enc Tryz.prog W 0 (fun _ => true) true m 2 [c7] = some z7 := by simpa [dI64] using hk 7 _ rfl
  have k8 : DataW.trod enc Tryz.prog W 0 (fun _ => true) true m 9 [c8] = some z8 := by simpa [dStr] using hk 8 _ rfl
  have k9 : DataW.trod enc Tryz.prog W 0 (fun _ => true) true m 24 [c9] = some z9 := by simpa [dRM] using hk 9 _ rfl
  have k10 : DataW.trod enc Tryz.prog W 0 (fun _ => true) true m 25 [c10] = some z10 := by simpa [dRS] using hk 10 _ rfl
  have k11 : DataW.trod enc Tryz.prog W 0 (fun _ => true) true m 25 [c11] = some z11 := by simpa [dRS] using hk 11 _ rfl
  obtain ⟨us, rfl, hus⟩ := open_str k0
  obtain ⟨nodes, rfl, hno⟩ := open_int64 k1
  obtain ⟨wall, rfl, hwa⟩ := open_int64 k2
  obtain ⟨qos, rfl, hqo⟩ := open_int64 k3
  obtain ⟨cap, rfl, hca⟩ := open_int64 k5
  obtain ⟨inn, rfl, hin⟩ := open_int64 k6
  obtain ⟨out, rfl, hou⟩ := open_int64 k7
  obtain ⟨pool, rfl, hpo⟩ := open_str k8
  obtain ⟨after, ra, pa, wa⟩ := open_rowG cA (k := 2) (fun _ => rfl) (by decide) (fun d : Dep => -9223372036854775808 ≤ d.1 ∧ d.1 ≤ 9223372036854775807) (0, false) Tryz.underlying23 dDep2 (fun _ _ _ h hl => open_dep h hl) k4
  obtain ⟨mk, rm, pm, wm⟩ := open_rowG cM (k := 5) (fun _ => rfl) (by decide) DW ⟨0, [], [], 0, false⟩ Tryz.underlying24 dDir5 (fun _ _ _ h hl => open_dir5 h hl) k9
  obtain ⟨dr, rd, pd, wd⟩ := open_rowG cS (k := 1) (fun _ => rfl) (by decide) (fun l : Tx => l.length ≤ 9223372036854775807) [] Tryz.underlying25 dStr (fun _ _ _ h hl => open_s1 h hl) k10
  obtain ⟨use, ru, pu, wu⟩ := open_rowG cS (k := 1) (fun _ => rfl) (by decide) (fun l : Tx => l.length ≤ 9223372036854775807) [] Tryz.underlying25 dStr (fun _ _ _ h hl => open_s1 h hl) k11
  exact ⟨⟨us, nodes, wall, qos, after, cap, inn, out, pool, mk, dr, use⟩, ⟨c4, c9, c10, c11⟩, rfl, ⟨ra, rm, rd, ru, pa, pm, pd, pu⟩, ⟨hus, hpo, hno, hwa, hqo, hca, hin, hou, wa, wm, wd, wu⟩⟩
theorem list9 {α : Type} {l : List α} (h : l.length = 9) : ∃ a b c d e f g h i, l = [a, b, c, d, e, f, g, h, i] := by
  match l, h with
  | [a, b, c, d, e, f, g, h, i], _ => exact ⟨a, b, c, d, e, f, g, h, i, rfl⟩
theorem list20 {α : Type} {l : List α} (h : l.length = 20) : ∃ a b c d e f g i j k m n p q r s t u v x, l = [a, b, c, d, e, f, g, i, j, k, m, n, p, q, r, s, t, u, v, x] := by
  match l, h with
  | [a, b, c, d, e, f, g, i, j, k, m, n, p, q, r, s, t, u, v, x], _ => exact ⟨a, b, c, d, e, f, g, i, j, k, m, n, p, q, r, s, t, u, v, x, rfl⟩
theorem dOrd20 : Tryz.prog.cellsOf 29 = 20 := by kernel_rfl
set_option maxRecDepth 100000 in
theorem open_ord {base : Nat} {v : Value} {d : DataW H} {p : List MemPlace} (hv : Value.okWide Tryz.prog W .any base 29 v) (h : DataW.Trod enc Tryz.prog W 0 (fun _ => true) true 29 v d p) :
    ∃ (x : Ord) (g : Gh), v = oV x g ∧ SR W x.slip g ∧ OA x := by
  obtain ⟨cs, rfl, hsz⟩ := okWide_struct Tryz.underlying29 hv
  obtain ⟨l⟩ := cs
  obtain ⟨c0, c1, c2, c3, c4, c5, c6, c7, c8, c9, c10, c11, c12, c13, c14, c15, c16, c17, c18, c19, rfl⟩ := list20 (show l.length = 20 from hsz.trans dOrd20)
  obtain ⟨fuel, hf⟩ := h
  have hf' : DataW.trod enc Tryz.prog W 0 (fun _ => true) true fuel 29 [c0, c1, c2, c3, c4, c5, c6, c7, c8, c9, c10, c11, c12, c13, c14, c15, c16, c17, c18, c19] = some (d, p) := by simpa [Value.cells] using hf
  obtain ⟨xs, m, _, _, _, hlen, hk⟩ := DataW.trod_struct Tryz.underlying29 hf'
  obtain ⟨z0, z1, z2, z3, z4, z5, z6, z7, z8, rfl⟩ := list9 hlen
  have k0 : DataW.trod enc Tryz.prog W 0 (fun _ => true) true m 5 [c0] = some z0 := by simpa [dU8] using hk 0 _ rfl
  have k1 : DataW.trod enc Tryz.prog W 0 (fun _ => true) true m 2 [c1] = some z1 := by simpa [dI64] using hk 1 _ rfl
  have k2 : DataW.trod enc Tryz.prog W 0 (fun _ => true) true m 2 [c2] = some z2 := by simpa [dI64] using hk 2 _ rfl
  have k3 : DataW.trod enc Tryz.prog W 0 (fun _ => true) true m 9 [c3] = some z3 := by simpa [dStr] using hk 3 _ rfl
  have k4 : DataW.trod enc Tryz.prog W 0 (fun _ => true) true m 9 [c4] = some z4 := by simpa [dStr] using hk 4 _ rfl
  have k5 : DataW.trod enc Tryz.prog W 0 (fun _ => true) true m 9 [c5] = some z5 := by simpa [dStr] using hk 5 _ rfl
  have k6 : DataW.trod enc Tryz.prog W 0 (fun _ => true) true m 2 [c6] = some z6 := by simpa [dI64] using hk 6 _ rfl
  have k7 : DataW.trod enc Tryz.prog W 0 (fun _ => true) true m 4 [c7] = some z7 := by simpa [dBool] using hk 7 _ rfl
  have k8 : DataW.trod enc Tryz.prog W 0 (fun _ => true) true m 27 [c8, c9, c10, c11, c12, c13, c14, c15, c16, c17, c18, c19] = some z8 := by simpa [dSlip12] using hk 8 _ rfl
  obtain ⟨q0, e0, _, w0⟩ := DataW.trod_int Tryz.underlying5 k0
  simp at e0
  subst e0
  obtain ⟨l1, u1⟩ : 0 ≤ q0 ∧ q0 ≤ 255 := by simpa [Lit.wf, IntKind.min, IntKind.max, IntKind.signed, IntKind.bits] using w0
  obtain ⟨job, rfl, hjo⟩ := open_int64 k1
  obtain ⟨n, rfl, hn⟩ := open_int64 k2
  obtain ⟨nm, rfl, hnm⟩ := open_str k3
  obtain ⟨po, rfl, hpo⟩ := open_str k4
  obtain ⟨us, rfl, hus⟩ := open_str k5
  obtain ⟨sz, rfl, hsi⟩ := open_int64 k6
  obtain ⟨b7, e7, _⟩ := DataW.trod_bool Tryz.underlying4 k7
  simp at e7
  subst e7
  obtain ⟨s, g, hsl, hr, hw⟩ := open_slip12 k8 rfl
  refine ⟨⟨q0.toNat, job, n, nm, po, us, sz, b7, s⟩, g, ?_, hr, ⟨hjo, hn, hsi, hnm, hpo, hus, (by show q0.toNat ≤ 255; omega), hw⟩⟩
  have hq : ((q0.toNat : Nat) : Int) = q0 := by omega
  simp only [scs, List.cons.injEq, and_true] at hsl
  obtain ⟨rfl, rfl, rfl, rfl, rfl, rfl, rfl, rfl, rfl, rfl, rfl, rfl⟩ := hsl
  simp [oV, ocs, hq]
end
end Go.Proofs.YtekcjfdllclphaaGreatDoor.gn
end
