/- A slip that came in, opened. -/
import Derived.Test.YtpmghgfgbkncoaaGreatDoorMSlH
import Derived.Test.YtpmghgfgbkncoaaGreatDoorMDiY
import Derived.Deep.Slices
section
set_option linter.unusedVariables false
namespace Go.Proofs.YtpmghgfgbkncoaaGreatDoor.gn
open Go.ChangeShapes Go.WideShapes Go.ChangeAt Go.RowKit Go.Deep
open Go.Proofs.YtpmghgfgbkncoaaGreatDoor.un
open Go.Proofs.YtpmghgfgbkncoaaGreatDoor.di
open Go.Proofs.YtpmghgfgbkncoaaGreatDoor.sp (Slip)

section
variable {H : Type} {enc : TypeId × Value → H} {W : World}
/-- A slice of whatever elements, opened. -/
theorem open_rowG {α : Type} (f : α → List Value) {k : Nat} (hf : ∀ x, (f x).length = k) (hk0 : 0 < k) (ok : α → Prop) (z : α) {t e : TypeId} (ht : Tryz.prog.underlying t = some (.slice e)) (he : Tryz.prog.cellsOf e = k)
    (h1 : ∀ fuel cs x, DataW.trod enc Tryz.prog W 0 (fun _ => true) true fuel e cs = some x → cs.length = k → ∃ y, cs = f y ∧ ok y)
    {fuel : Nat} {v : Value} {x : DataW H × List MemPlace} (h : DataW.trod enc Tryz.prog W 0 (fun _ => true) true fuel t [v] = some x) : ∃ l : List α, RdC W v l.length (l.flatMap f) ∧ Cp v l.length ∧ ∀ y ∈ l, ok y := by
  rcases open_slice ht h with ⟨hcs, _⟩ | ⟨a, len, cap, m, n, D, Pl, hcs, _, hle, hcap, hm, _, hi⟩
  · simp at hcs
    subst hcs
    exact ⟨[], .inl ⟨none, 0, rfl, rfl, rfl, fun _ => rfl⟩, ⟨_, _, rfl, Nat.le_refl _, by decide⟩, fun y hy => by cases hy⟩
  · simp at hcs
    subst hcs
    simp at hm
    have hex : ∀ i, i < len → ∃ y : α, (∀ j u, (f y)[j]? = some u → W.cell? ((a.add (i * k)).add j) = some u) ∧ ok y := fun i hil => by
      obtain ⟨cs', hc, ht⟩ := hi i (by omega)
      rw [he] at hc
      obtain ⟨_, hl, hcells⟩ := World.cells?_some hc
      obtain ⟨y, hy, hw⟩ := h1 _ _ _ ht hl
      refine ⟨y, fun j u hu => ?_, hw⟩
      rw [← hy] at hu
      exact (hcells j (by obtain ⟨hj, _⟩ := List.getElem?_eq_some_iff.1 hu; omega)).trans hu
    have hLx : ∃ L : List α, L.length = len ∧ ∀ i (hil : i < L.length), (∀ j u, (f L[i])[j]? = some u → W.cell? ((a.add (i * k)).add j) = some u) ∧ ok L[i] := by
      refine ⟨(List.range len).map fun i => if hil : i < len then Classical.choose (hex i hil) else z, by simp, fun i hil => ?_⟩
      have hil' : i < len := by simpa using hil
      simp only [List.getElem_map, List.getElem_range, dif_pos hil']
      exact Classical.choose_spec (hex i hil')
    obtain ⟨L, rfl, hL⟩ := hLx
    refine ⟨L, ?_, ⟨_, _, rfl, hle, hcap⟩, fun y hy => ?_⟩
    · by_cases h0 : L.length = 0
      · have e : L = [] := List.eq_nil_of_length_eq_zero h0
        subst e
        exact .inl ⟨some a, cap, rfl, rfl, rfl, fun e => by cases e⟩
      · obtain ⟨b, off, spot⟩ := a
        have h00 := (hL 0 (by omega)).1 0 ((f L[0])[0]'(by rw [hf]; exact hk0)) (List.getElem?_eq_getElem _)
        have hspot : spot = none := by simpa [Addr.add] using World.cell?_spot h00
        subst hspot
        have hadd : ∀ o j, (⟨b, o, none⟩ : Addr).add j = ⟨b, o + j, none⟩ := fun o j => by unfold Addr.add; split <;> simp_all
        simp only [hadd] at h00
        refine .inr ⟨b, off, cap, rfl, World.block_lt_of_cell? W _ h00, fun j u hu => ?_⟩
        have hjl : j < L.length * k := by
          have := (List.getElem?_eq_some_iff.1 hu).1
          rwa [flat_len f k hf] at this
        have hdm : j / k < L.length := Nat.div_lt_of_lt_mul (by rwa [Nat.mul_comm])
        have hmod : j % k < k := Nat.mod_lt _ hk0
        have hj : j = j / k * k + j % k := by rw [Nat.mul_comm]; exact (Nat.div_add_mod j k).symm
        have hq := (hL (j / k) hdm).1 (j % k) u (by
          rw [hj, flat_at f k hf L (j / k) (j % k) L[j / k] (List.getElem?_eq_getElem hdm) hmod] at hu
          exact hu)
        rw [hadd, hadd, Nat.add_assoc, ← hj] at hq
        exact hq
    · obtain ⟨i, hil, rfl⟩ := List.mem_iff_getElem.1 hy
      exact (hL i hil).2
theorem list2 {α : Type} {l : List α} (h : l.length = 2) : ∃ a b, l = [a, b] := by
  match l, h with
  | [a, b], _ => exact ⟨a, b, rfl⟩
theorem list5 {α : Type} {l : List α} (h : l.length = 5) : ∃ a b c d e, l = [a, b, c, d, e] := by
  match l, h with
  | [a, b, c, d, e], _ => exact ⟨a, b, c, d, e, rfl⟩
theorem list12 {α : Type} {l : List α} (h : l.length = 12) : ∃ a b c d e f g h i j k m, l = [a, b, c, d, e, f, g, h, i, j, k, m] := by
  match l, h with
  | [a, b, c, d, e, f, g, h, i, j, k, m], _ => exact ⟨a, b, c, d, e, f, g, h, i, j, k, m, rfl⟩
theorem open_int64 {fuel : Nat} {v : Value} {x : DataW H × List MemPlace} (h : DataW.trod enc Tryz.prog W 0 (fun _ => true) true fuel 2 [v] = some x) : ∃ n : Int, v = .int .i64 n ∧ -9223372036854775808 ≤ n ∧ n ≤ 9223372036854775807 := by
  obtain ⟨k, hk, _, hw⟩ := DataW.trod_int Tryz.underlying2 h
  simp at hk
  obtain ⟨l3, u3⟩ : -9223372036854775808 ≤ k ∧ k ≤ 9223372036854775807 := by simpa [Lit.wf, IntKind.min, IntKind.max, IntKind.signed, IntKind.bits] using hw
  exact ⟨k, hk, l3, u3⟩
theorem open_str {fuel : Nat} {v : Value} {x : DataW H × List MemPlace} (h : DataW.trod enc Tryz.prog W 0 (fun _ => true) true fuel 9 [v] = some x) : ∃ l : Tx, v = .string (str l) ∧ l.length ≤ 9223372036854775807 := by
  obtain ⟨s, e, _, hs⟩ := DataW.trod_string Tryz.underlying9 h
  simp at e
  have : s.size ≤ maxLen := by simpa using hs
  unfold maxLen at this
  exact ⟨s.data.toList, by rw [e, str_of], by rw [Array.length_toList]; exact this⟩
theorem dDep2 : Tryz.prog.cellsOf 44 = 2 := by kernel_rfl
theorem open_dep {fuel : Nat} {cs : List Value} {x : DataW H × List MemPlace} (h : DataW.trod enc Tryz.prog W 0 (fun _ => true) true fuel 44 cs = some x) (hl : cs.length = 2) :
    ∃ d : Dep, cs = cA d ∧ (-9223372036854775808 ≤ d.1 ∧ d.1 ≤ 9223372036854775807) := by
  obtain ⟨c0, c1, rfl⟩ := list2 hl
  obtain ⟨xs, m, _, rfl, _, hlen, hf⟩ := DataW.trod_struct Tryz.underlying44 h
  obtain ⟨z0, z1, rfl⟩ := list2 hlen
  have k0 : DataW.trod enc Tryz.prog W 0 (fun _ => true) true m 2 [c0] = some z0 := by simpa [dI64] using hf 0 _ rfl
  have k1 : DataW.trod enc Tryz.prog W 0 (fun _ => true) true m 4 [c1] = some z1 := by simpa [dBool] using hf 1 _ rfl
  obtain ⟨n, rfl, hn⟩ := open_int64 k0
  obtain ⟨b, e1, _⟩ := DataW.trod_bool Tryz.underlying4 k1
  simp at e1
  subst e1
  exact ⟨(n, b), rfl, hn⟩
theorem open_dir5 {fuel : Nat} {cs : List Value} {x : DataW H × List MemPlace} (h : DataW.trod enc Tryz.prog W 0 (fun _ => true) true fuel 51 cs = some x) (hl : cs.length = 5) :
    ∃ d : Dir, cs = cM d ∧ DW d := by
  obtain ⟨c0, c1, c2, c3, c4, rfl⟩ := list5 hl
  obtain ⟨xs, m, _, rfl, _, hlen, hf⟩ := DataW.trod_struct Tryz.underlying51 h
  obtain ⟨z0, z1, z2, z3, z4, rfl⟩ := list5 hlen
  have k0 : DataW.trod enc Tryz.prog W 0 (fun _ => true) true m 5 [c0] = some z0 := by simpa [dU8] using hf 0 _ rfl
  have k1 : DataW.trod enc Tryz.prog W 0 (fun _ => true) true m 9 [c1] = some z1 := by simpa [dStr] using hf 1 _ rfl
  have k2 : DataW.trod enc Tryz.prog W 0 (fun _ => true) true m 9 [c2] = some z2 := by simpa [dStr] using hf 2 _ rfl
  have k3 : DataW.trod enc Tryz.prog W 0 (fun _ => true) true m 2 [c3] = some z3 := by simpa [dI64] using hf 3 _ rfl
  have k4 : DataW.trod enc Tryz.prog W 0 (fun _ => true) true m 4 [c4] = some z4 := by simpa [dBool] using hf 4 _ rfl
  obtain ⟨q0, e0, _, w0⟩ := DataW.trod_int Tryz.underlying5 k0
  obtain ⟨n1, rfl, hn1⟩ := open_str k1
  obtain ⟨n2, rfl, hn2⟩ := open_str k2
  obtain ⟨n3, rfl, hn3⟩ := open_int64 k3
  obtain ⟨b4, e4, _⟩ := DataW.trod_bool Tryz.underlying4 k4
  simp at e0 e4
  subst e0 e4
  obtain ⟨l1, u1⟩ : 0 ≤ q0 ∧ q0 ≤ 255 := by simpa [Lit.wf, IntKind.min, IntKind.max, IntKind.signed, IntKind.bits] using w0
  refine ⟨⟨q0.toNat, n1, n2, n3, b4⟩, ?_, ⟨by show q0.toNat < 256; omega, hn1, hn2, hn3.1, hn3.2⟩⟩
  have : ((q0.toNat : Nat) : Int) = q0 := by omega
  simp [cM, this]
theorem open_s1 {fuel : Nat} {cs : List Value} {x : DataW H × List MemPlace} (h : DataW.trod enc Tryz.prog W 0 (fun _ => true) true fuel 9 cs = some x) (hl : cs.length = 1) : ∃ l : Tx, cs = cS l ∧ l.length ≤ 9223372036854775807 := by
  match cs, hl with
  | [c], _ =>
    obtain ⟨l, rfl, h2⟩ := open_str h
    exact ⟨l, rfl, h2⟩
theorem dRA : Tryz.prog.cellsOf 23 = 1 := by kernel_rfl
theorem dRM : Tryz.prog.cellsOf 24 = 1 := by kernel_rfl
theorem dRS : Tryz.prog.cellsOf 25 = 1 := by kernel_rfl
theorem dSlip12 : Tryz.prog.cellsOf 27 = 12 := by kernel_rfl
set_option maxRecDepth 100000 in
theorem open_slip {base : Nat} {v : Value} {d : DataW H} {p : List MemPlace} (hv : Value.okWide Tryz.prog W .any base 27 v) (h : DataW.Trod enc Tryz.prog W 0 (fun _ => true) true 27 v d p) :
    ∃ (x : Slip) (g : Gh), v = sV x g ∧ SR W x g ∧ SW x := by
  obtain ⟨cs, rfl, hsz⟩ := okWide_struct Tryz.underlying27 hv
  obtain ⟨l⟩ := cs
  obtain ⟨c0, c1, c2, c3, c4, c5, c6, c7, c8, c9, c10, c11, rfl⟩ := list12 (show l.length = 12 from hsz.trans dSlip12)
  obtain ⟨fuel, hf⟩ := h
  have hf' : DataW.trod enc Tryz.prog W 0 (fun _ => true) true fuel 27 [c0, c1, c2, c3, c4, c5, c6, c7, c8, c9, c10, c11] = some (d, p) := by simpa [Value.cells] using hf
  obtain ⟨xs, m, _, _, _, hlen, hk⟩ := DataW.trod_struct Tryz.underlying27 hf'
  obtain ⟨z0, z1, z2, z3, z4, z5, z6, z7, z8, z9, z10, z11, rfl⟩ := list12 hlen
  have k0 : DataW.trod enc Tryz.prog W 0 (fun _ => true) true m 9 [c0] = some z0 := by simpa [dStr] using hk 0 _ rfl
  have k1 : DataW.trod enc Tryz.prog W 0 (fun _ => true) true m 2 [c1] = some z1 := by simpa [dI64] using hk 1 _ rfl
  have k2 : DataW.trod enc Tryz.prog W 0 (fun _ => true) true m 2 [c2] = some z2 := by simpa [dI64] using hk 2 _ rfl
  have k3 : DataW.trod enc Tryz.prog W 0 (fun _ => true) true m 2 [c3] = some z3 := by simpa [dI64] using hk 3 _ rfl
  have k4 : DataW.trod enc Tryz.prog W 0 (fun _ => true) true m 23 [c4] = some z4 := by simpa [dRA] using hk 4 _ rfl
  have k5 : DataW.trod enc Tryz.prog W 0 (fun _ => true) true m 2 [c5] = some z5 := by simpa [dI64] using hk 5 _ rfl
  have k6 : DataW.trod enc Tryz.prog W 0 (fun _ => true) true m 2 [c6] = some z6 := by simpa [dI64] using hk 6 _ rfl
  have k7 : DataW.trod enc Tryz.prog W 0 (fun _ => true) true m 2 [c7] = some z7 := by simpa [dI64] using hk 7 _ rfl
  have k8 : DataW.trod enc Tryz.prog W 0 (fun _ => true) true m 9 [c8] = some z8 := by simpa [dStr] using hk 8 _ rfl
  have k9 : DataW.trod enc Tryz.prog W 0 (fun _ => true) true m 24 [c9] = some z9 := by simpa [dRM] using hk 9 _ rfl
  have k10 : DataW.trod enc Tryz.prog W 0 (fun _ => true) true m 25 [c10] = some z10 := by simpa [dRS] using hk 10 _ rfl
  have k11 : DataW.trod enc Tryz.prog W 0 (fun _ => true) true m 25 [c11] = some z11 := by simpa [dRS] using hk 11 _ rfl
  obtain ⟨us, rfl, hus⟩ := open_str k0
  obtain ⟨nodes, rfl, hno⟩ := open_int64 k1
  obtain ⟨wall, rfl, hwa⟩ := open_int64 k2
  obtain ⟨qos, rfl, hqo⟩ := open_int64 k3
  obtain ⟨cap, rfl, hca⟩ := open_int64 k5
  obtain ⟨inn, rfl, hin⟩ := open_int64 k6
  obtain ⟨out, rfl, hou⟩ := open_int64 k7
  obtain ⟨pool, rfl, hpo⟩ := open_str k8
  obtain ⟨after, ra, pa, wa⟩ := open_rowG cA (k := 2) (fun _ => rfl) (by decide) (fun d : Dep => -9223372036854775808 ≤ d.1 ∧ d.1 ≤ 9223372036854775807) (0, false) Tryz.underlying23 dDep2 (fun _ _ _ h hl => open_dep h hl) k4
  obtain ⟨mk, rm, pm, wm⟩ := open_rowG cM (k := 5) (fun _ => rfl) (by decide) DW ⟨0, [], [], 0, false⟩ Tryz.underlying24 dDir5 (fun _ _ _ h hl => open_dir5 h hl) k9
  obtain ⟨dr, rd, pd, wd⟩ := open_rowG cS (k := 1) (fun _ => rfl) (by decide) (fun l : Tx => l.length ≤ 9223372036854775807) [] Tryz.underlying25 dStr (fun _ _ _ h hl => open_s1 h hl) k10
  obtain ⟨use, ru, pu, wu⟩ := open_rowG cS (k := 1) (fun _ => rfl) (by decide) (fun l : Tx => l.length ≤ 9223372036854775807) [] Tryz.underlying25 dStr (fun _ _ _ h hl => open_s1 h hl) k11
  exact ⟨⟨us, nodes, wall, qos, after, cap, inn, out, pool, mk, dr, use⟩, ⟨c4, c9, c10, c11⟩, rfl, ⟨ra, rm, rd, ru, pa, pm, pd, pu⟩, ⟨hus, hpo, hno, hwa, hqo, hca, hin, hou, wa, wm, wd, wu⟩⟩
end
end Go.Proofs.YtpmghgfgbkncoaaGreatDoor.gn
end
