/- For any seat: slices that came in, of whatever elements, opened. -/
import Derived.Test.YtkjffoebcblpoaaGreatMGenRow
import Derived.WalkKit
import Derived.ProofKit
import Derived.OpenShut
import Derived.Deep.Slices
import Derived.Test.YtkjffoebcblpoaaGreatMBvF
import Derived.Test.YtkjffoebcblpoaaGreatMBvI
section
set_option linter.unusedVariables false
namespace Go.Proofs.YtkjffoebcblpoaaGreat.gn
open Go.ChangeShapes Go.WideShapes Go.ChangeAt Go.RowKit Go.Deep

theorem flg_len {α : Type} (f : α → List Value) (k : Nat) (hk : ∀ x, (f x).length = k) : ∀ l : List α, (l.flatMap f).length = l.length * k
  | [] => by simp
  | x :: l => by
    rw [List.flatMap_cons, List.length_append, hk, flg_len f k hk l, List.length_cons, Nat.add_mul]
    omega
theorem flg_at {α : Type} (f : α → List Value) (k : Nat) (hk : ∀ x, (f x).length = k) : ∀ (l : List α) (i j : Nat) (x : α), l[i]? = some x → j < k → (l.flatMap f)[i * k + j]? = (f x)[j]?
  | [], i, j, x, h, _ => by cases h
  | y :: l, 0, j, x, h, hj => by
    cases h
    rw [List.flatMap_cons, Nat.zero_mul, Nat.zero_add, List.getElem?_append_left (by rw [hk]; exact hj)]
  | y :: l, i + 1, j, x, h, hj => by
    have e : (i + 1) * k + j = k + (i * k + j) := by rw [Nat.add_mul]; omega
    rw [List.flatMap_cons, e, List.getElem?_append_right (by rw [hk]; omega), hk, Nat.add_sub_cancel_left]
    exact flg_at f k hk l i j x h hj
/-- A slice of n elements, and its room. -/
def CpG (v : Value) (n : Nat) : Prop := ∃ p c, v = .slice p n c ∧ n ≤ c ∧ c ≤ maxLen
section
variable {H : Type} {enc : TypeId × Value → H} {W : World}
/-- A slice of whatever elements, opened. -/
theorem open_rowX {α : Type} (f : α → List Value) {k : Nat} (hf : ∀ x, (f x).length = k) (hk0 : 0 < k) (ok : α → Prop) (z : α) {t e : TypeId} (ht : Tryz.prog.underlying t = some (.slice e)) (he : Tryz.prog.cellsOf e = k)
    (h1 : ∀ fuel cs x, DataW.trod enc Tryz.prog W 0 (fun _ => true) true fuel e cs = some x → cs.length = k → ∃ y, cs = f y ∧ ok y)
    {fuel : Nat} {v : Value} {x : DataW H × List MemPlace} (h : DataW.trod enc Tryz.prog W 0 (fun _ => true) true fuel t [v] = some x) : ∃ l : List α, RdC W v l.length (l.flatMap f) ∧ CpG v l.length ∧ ∀ y ∈ l, ok y := by
  rcases open_slice ht h with ⟨hcs, _⟩ | ⟨a, len, cap, m, n, D, Pl, hcs, _, hle, hcap, hm, _, hi⟩
  · simp at hcs
    subst hcs
    exact ⟨[], .inl ⟨none, 0, rfl, rfl, rfl, fun _ => rfl⟩, ⟨_, _, rfl, Nat.le_refl _, by decide⟩, fun y hy => by cases hy⟩
  · simp at hcs
    subst hcs
    simp at hm
    have hex : ∀ i, i < len → ∃ y : α, (∀ j u, (f y)[j]? = some u → W.cell? ((a.add (i * k)).add j) = some u) ∧ ok y := fun i hil => by
      obtain ⟨cs', hc, ht⟩ := hi i (by omega)
      rw [he] at hc
      obtain ⟨_, hl, hcells⟩ := World.cells?_some hc
      obtain ⟨y, hy, hw⟩ := h1 _ _ _ ht hl
      refine ⟨y, fun j u hu => ?_, hw⟩
      rw [← hy] at hu
      exact (hcells j (by obtain ⟨hj, _⟩ := List.getElem?_eq_some_iff.1 hu; omega)).trans hu
    have hLx : ∃ L : List α, L.length = len ∧ ∀ i (hil : i < L.length), (∀ j u, (f L[i])[j]? = some u → W.cell? ((a.add (i * k)).add j) = some u) ∧ ok L[i] := by
      refine ⟨(List.range len).map fun i => if hil : i < len then Classical.choose (hex i hil) else z, by simp, fun i hil => ?_⟩
      have hil' : i < len := by simpa using hil
      simp only [List.getElem_map, List.getElem_range, dif_pos hil']
      exact Classical.choose_spec (hex i hil')
    obtain ⟨L, rfl, hL⟩ := hLx
    refine ⟨L, ?_, ⟨_, _, rfl, hle, hcap⟩, fun y hy => ?_⟩
    · by_cases h0 : L.length = 0
      · have e : L = [] := List.eq_nil_of_length_eq_zero h0
        subst e
        exact .inl ⟨some a, cap, rfl, rfl, rfl, fun e => by cases e⟩
      · obtain ⟨b, off, spot⟩ := a
        have h00 := (hL 0 (by omega)).1 0 ((f L[0])[0]'(by rw [hf]; exact hk0)) (List.getElem?_eq_getElem _)
        have hspot : spot = none := by simpa [Addr.add] using World.cell?_spot h00
        subst hspot
        have hadd : ∀ o j, (⟨b, o, none⟩ : Addr).add j = ⟨b, o + j, none⟩ := fun o j => by unfold Addr.add; split <;> simp_all
        simp only [hadd] at h00
        refine .inr ⟨b, off, cap, rfl, World.block_lt_of_cell? W _ h00, fun j u hu => ?_⟩
        have hjl : j < L.length * k := by
          have := (List.getElem?_eq_some_iff.1 hu).1
          rwa [flg_len f k hf] at this
        have hdm : j / k < L.length := Nat.div_lt_of_lt_mul (by rwa [Nat.mul_comm])
        have hmod : j % k < k := Nat.mod_lt _ hk0
        have hj : j = j / k * k + j % k := by rw [Nat.mul_comm]; exact (Nat.div_add_mod j k).symm
        have hq := (hL (j / k) hdm).1 (j % k) u (by
          rw [hj, flg_at f k hf L (j / k) (j % k) L[j / k] (List.getElem?_eq_getElem hdm) hmod] at hu
          exact hu)
        rw [hadd, hadd, Nat.add_assoc, ← hj] at hq
        exact hq
    · obtain ⟨i, hil, rfl⟩ := List.mem_iff_getElem.1 hy
      exact (hL i hil).2
theorem op_int64 {fuel : Nat} {v : Value} {x : DataW H × List MemPlace} (h : DataW.trod enc Tryz.prog W 0 (fun _ => true) true fuel 2 [v] = some x) : ∃ n : Int, v = .int .i64 n ∧ -9223372036854775808 ≤ n ∧ n ≤ 9223372036854775807 := by
  obtain ⟨k, hk, _, hw⟩ := DataW.trod_int Tryz.underlying2 h
  simp at hk
  obtain ⟨l3, u3⟩ : -9223372036854775808 ≤ k ∧ k ≤ 9223372036854775807 := by simpa [Lit.wf, IntKind.min, IntKind.max, IntKind.signed, IntKind.bits] using hw
  exact ⟨k, hk, l3, u3⟩
theorem op_str {fuel : Nat} {v : Value} {x : DataW H × List MemPlace} (h : DataW.trod enc Tryz.prog W 0 (fun _ => true) true fuel 9 [v] = some x) : ∃ l : List UInt8, v = .string (str l) ∧ l.length ≤ 9223372036854775807 := by
  obtain ⟨s, e, _, hs⟩ := DataW.trod_string Tryz.underlying9 h
  simp at e
  have : s.size ≤ maxLen := by simpa using hs
  unfold maxLen at this
  exact ⟨s.data.toList, by rw [e, str_of], by rw [Array.length_toList]; exact this⟩
theorem opB : Tryz.prog.cellsOf 4 = 1 := by kernel_rfl
theorem opI : Tryz.prog.cellsOf 2 = 1 := by kernel_rfl
theorem opS : Tryz.prog.cellsOf 9 = 1 := by kernel_rfl
end
end Go.Proofs.YtkjffoebcblpoaaGreat.gn
end
section
set_option linter.unusedVariables false
set_option linter.unusedSimpArgs false
set_option maxRecDepth 100000
namespace Go.Proofs.YtkjffoebcblpoaaGreat.gn
open Go.RowKit
open Go.Proofs.YtkjffoebcblpoaaGreat.bu (Bf May Valid Far lt)

set_option maxHeartbeats 6400000 in
theorem pcheck_any {w : World} {v : Value} {L : List (Bf × Gb)} (h : RBs w v L) (hB : BIs L) :
    Calls Tryz.prog 11 #[v] w (TellsM (.int .i64 (vE (L.map Prod.fst))) w) := by
  have eg : ∀ args w, (callFunc 29 args).run Tryz.prog w = .ok (.enter 29 args) w := enters_of Tryz.func29 (by kernel_rfl) rfl
  have HAL := Lib.hid (allB_any h hB.len 29 eg (fun b => decide (May b)) fun W q hq hW => valid_any q.1 q.2 W ((h.next hW).rows q hq) (hB.all q hq))
  have HBU := Lib.hid (fun (hl : L.length ≤ 1000) (Y : World) (hY : Below w.heap.size w Y) => bufs_any (h.next hY) hl)
  have HRI := Lib.hid (fun (hl : L.length ≤ 1000) (Y : World) (u : Value) (hu : RdC Y u L.length (bcl L)) => risingB_any hu hl)
  have HAP := Lib.hid (fun (hl : L.length ≤ 201) (hM : ∀ q ∈ L, May q.1) (Y : World) (hY : Below w.heap.size w Y) => papart_any (h.next hY) hl hM hB)
  obtain ⟨p, c, rfl, -⟩ := h.form
  obtain ⟨n, hn⟩ : ∃ n, L.length = n := ⟨_, rfl⟩
  have HN := Lib.hid hn
  have hn47 : n ≤ 140737488355328 := by rw [← hn]; exact hB.len
  rw [hn] at HAL HBU HRI HAP ⊢
  have hV : Valid (L.map Prod.fst) ↔ n ≤ 200 ∧ ((L.map Prod.fst).all fun b => decide (May b)) = true ∧ decide ((L.map Prod.fst).Pairwise fun a b => lt a b = true) = true ∧ decide ((L.map Prod.fst).Pairwise Far) = true := by
    unfold bu.Valid
    rw [List.length_map, hn, List.all_eq_true, decide_eq_true_eq, decide_eq_true_eq]
    simp only [decide_eq_true_eq]
  have HV := Lib.hid hV
  clear h hB hn hV
  by_cases h2 : n ≤ 200
  rotate_left
  · have HE := Lib.hid (show vE (L.map Prod.fst) = 170 from vE_no fun hv => h2 (HV.out.1 hv).1)
    have d2 : decide ((200 : Int) < (n : Int)) = true := decide_eq_true (by omega)
    go_enter Tryz.func11, Tryz.ntmps11
    go_wp2
    go_ret
    exact ⟨by rw [HE.out]; rfl, Below.refl _ _⟩
  have d2 : decide ((200 : Int) < (n : Int)) = false := decide_eq_false (by omega)
  have HBU2 := Lib.hid (HBU.out (by omega))
  have HRI2 := Lib.hid (HRI.out (by omega))
  have HAP2 := Lib.hid (fun (ha : ((L.map Prod.fst).all fun b => decide (May b)) = true) => HAP.out (by omega) fun q hq => of_decide_eq_true (List.all_eq_true.1 ha q.1 (List.mem_map.2 ⟨q, hq, rfl⟩)))
  clear HBU HRI HAP
  generalize ((L.map Prod.fst).all fun b => decide (May b)) = a1 at *
  generalize decide ((L.map Prod.fst).Pairwise fun a b => lt a b = true) = a2 at *
  generalize decide ((L.map Prod.fst).Pairwise Far) = a3 at *
  cases a1 with
  | false =>
    have HE := Lib.hid (show vE (L.map Prod.fst) = 170 from vE_no fun hv => by cases (HV.out.1 hv).2.1)
    go_enter Tryz.func11, Tryz.ntmps11
    go_wp2_with (go_at_call 41; ((with_reducible refine HAL.out.mono ?_); rintro e w5 ⟨rfl, hb⟩); have A5 := Lib.hid hb; clear hb)
    go_ret
    exact ⟨by rw [HE.out]; rfl, A5.out⟩
  | true =>
  have HAP3 := Lib.hid (HAP2.out rfl)
  clear HAP2
  cases a2 with
  | false =>
    have HE := Lib.hid (show vE (L.map Prod.fst) = 170 from vE_no fun hv => by cases (HV.out.1 hv).2.2.1)
    go_enter Tryz.func11, Tryz.ntmps11
    go_wp2_with (first
      | (go_at_call 41; ((with_reducible refine HAL.out.mono ?_); rintro e w5 ⟨rfl, hb⟩); have A5 := Lib.hid hb; clear hb)
      | (go_at_call 43; ((with_reducible refine (HBU2.out _ A5.out).mono ?_); rintro e w6 ⟨u, rfl, hu, hb⟩); have A6 := Lib.hid (A5.out.trans (hb.mono A5.out.size)); have U6 := Lib.hid hu.rdc; clear hb hu)
      | (go_at_call 42; ((with_reducible refine (HRI2.out _ _ U6.out).mono ?_); rintro e w7 ⟨rfl, hb⟩); have A7 := Lib.hid (A6.out.trans (hb.mono A6.out.size)); clear hb))
    go_ret
    exact ⟨by rw [HE.out]; rfl, A7.out⟩
  | true =>
  cases a3 with
  | false =>
    have HE := Lib.hid (show vE (L.map Prod.fst) = 170 from vE_no fun hv => by cases (HV.out.1 hv).2.2.2)
    go_enter Tryz.func11, Tryz.ntmps11
    go_wp2_with (first
      | (go_at_call 41; ((with_reducible refine HAL.out.mono ?_); rintro e w5 ⟨rfl, hb⟩); have A5 := Lib.hid hb; clear hb)
      | (go_at_call 43; ((with_reducible refine (HBU2.out _ A5.out).mono ?_); rintro e w6 ⟨u, rfl, hu, hb⟩); have A6 := Lib.hid (A5.out.trans (hb.mono A5.out.size)); have U6 := Lib.hid hu.rdc; clear hb hu)
      | (go_at_call 42; ((with_reducible refine (HRI2.out _ _ U6.out).mono ?_); rintro e w7 ⟨rfl, hb⟩); have A7 := Lib.hid (A6.out.trans (hb.mono A6.out.size)); clear hb)
      | (go_at_call 36; ((with_reducible refine (HAP3.out _ A7.out).mono ?_); rintro e w8 ⟨rfl, hb⟩); have A8 := Lib.hid (A7.out.trans (hb.mono A7.out.size)); clear hb))
    go_ret
    exact ⟨by rw [HE.out]; rfl, A8.out⟩
  | true =>
    have HE := Lib.hid (show vE (L.map Prod.fst) = 0 from if_pos (HV.out.2 ⟨h2, rfl, rfl, rfl⟩))
    go_enter Tryz.func11, Tryz.ntmps11
    go_wp2_with (first
      | (go_at_call 41; ((with_reducible refine HAL.out.mono ?_); rintro e w5 ⟨rfl, hb⟩); have A5 := Lib.hid hb; clear hb)
      | (go_at_call 43; ((with_reducible refine (HBU2.out _ A5.out).mono ?_); rintro e w6 ⟨u, rfl, hu, hb⟩); have A6 := Lib.hid (A5.out.trans (hb.mono A5.out.size)); have U6 := Lib.hid hu.rdc; clear hb hu)
      | (go_at_call 42; ((with_reducible refine (HRI2.out _ _ U6.out).mono ?_); rintro e w7 ⟨rfl, hb⟩); have A7 := Lib.hid (A6.out.trans (hb.mono A6.out.size)); clear hb)
      | (go_at_call 36; ((with_reducible refine (HAP3.out _ A7.out).mono ?_); rintro e w8 ⟨rfl, hb⟩); have A8 := Lib.hid (A7.out.trans (hb.mono A7.out.size)); clear hb))
    go_ret
    exact ⟨by rw [HE.out]; rfl, A8.out⟩
end Go.Proofs.YtkjffoebcblpoaaGreat.gn
end
