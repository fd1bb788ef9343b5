/- The document's answers for buffers: without, Drop, Free. (Written by gen_buI.py, ahead of the code.) -/
import Derived.Test.YtkjffoebcblpoaaGreatMBuH
section
set_option linter.unusedVariables false
set_option linter.unusedSimpArgs false
namespace Go.Proofs.YtkjffoebcblpoaaGreat.gn
open Go.RowKit
open Go.Proofs.YtkjffoebcblpoaaGreat.bu (Bf May Valid place dropS freeS jobOk)

theorem bcl_take : ∀ (L : List (Bf × Gb)) (i : Nat), bcl (L.take i) = (bcl L).take (i * 7)
  | [], i => by simp [bcl]
  | p :: L, 0 => by simp [bcl]
  | p :: L, i + 1 => by
    rw [List.take_succ_cons]
    simp only [bcl]
    rw [bcl_take L i, show (i + 1) * 7 = (bcs p.1 p.2).toList.length + i * 7 by simp [bcs]; omega, List.take_length_add_append]
theorem bcl_drop : ∀ (L : List (Bf × Gb)) (i : Nat), bcl (L.drop i) = (bcl L).drop (i * 7)
  | [], i => by simp [bcl]
  | p :: L, 0 => by simp [bcl]
  | p :: L, i + 1 => by
    rw [List.drop_succ_cons]
    simp only [bcl]
    rw [bcl_drop L i, show (i + 1) * 7 = (bcs p.1 p.2).toList.length + i * 7 by simp [bcs]; omega, List.drop_length_add_append]
theorem bcl_one {W : World} : ∀ {L : List (Bf × Gb)}, (∀ p ∈ L, RB W p.1 p.2) → ∀ u ∈ bcl L, u.oneCell' = true
  | [], _, u, hu => by simp [bcl] at hu
  | p :: L, h, u, hu => by
    simp only [bcl, List.mem_append] at hu
    rcases hu with hu | hu
    · exact bcs_one (h p List.mem_cons_self) u hu
    · exact bcl_one (fun q hq => h q (List.mem_cons_of_mem _ hq)) u hu
theorem bcs_all {W : World} {b : Bf} {g : Gb} (h : RB W b g) : (bcs b g).all (·.oneCell') = true := by
  have := all_of (bcs_one h)
  simpa using this
set_option maxRecDepth 100000
/-- The first i of a row; a row from the i-th on. -/
theorem bufs_upto {w : World} {p : Option Addr} {n c : Nat} {L : List (Bf × Gb)} (h : RBs w (.slice p n c) L) (hn : L.length = n) (hnc : n ≤ c) (i : Nat) (hi : i < n) :
    ∃ q c', (∀ W, (Instr.slice 22 (.slice p n c) none (some (.int .i64 (i : Int))) none).run Tryz.prog W = .ok (.slice q i c') W) ∧ RBs w (.slice q i c') (L.take i) := by
  have hz : ∀ W, (sizeOf (Tryz.prog.elem 22)).run Tryz.prog W = .ok 7 W := fun W => by kernel_rfl
  have hl : (L.take i).length = i := by rw [List.length_take]; omega
  rcases h.row with ⟨p', c', e, h0, _⟩ | ⟨k, off, c', e, hlt, hc⟩
  · omega
  · simp only [Value.slice.injEq] at e
    obtain ⟨rfl, _, rfl⟩ := e
    have hrun : ∀ W, (Instr.slice 22 (.slice (some ⟨k, off, none⟩) n c) none (some (.int .i64 (i : Int))) none).run Tryz.prog W = .ok (sliced (some ⟨k, off, none⟩) 0 i c 7) W := fun W => by
      rw [run_slice_h W 22 (some ⟨k, off, none⟩) n c Tryz.underlying22 .i64 (i : Int) (by omega) (by omega), hz]
      rfl
    have hs : sliced (some ⟨k, off, none⟩) 0 i c 7 = .slice (some ⟨k, off, none⟩) i c := by
      unfold sliced
      rw [if_neg (by omega)]
      simp [Addr.add_lit]
    refine ⟨_, c, fun W => by rw [hrun W, hs], ⟨.inr ⟨k, off, c, by rw [hl], hlt, fun j u hu => ?_⟩, fun q hq => h.rows q (List.mem_of_mem_take hq)⟩⟩
    rw [bcl_take] at hu
    by_cases hj : j < i * 7
    · rw [List.getElem?_take_of_lt hj] at hu
      exact hc j u hu
    · rw [List.getElem?_eq_none (by rw [List.length_take]; omega)] at hu
      cases hu
theorem bufs_from {w : World} {p : Option Addr} {n c : Nat} {L : List (Bf × Gb)} (h : RBs w (.slice p n c) L) (hn : L.length = n) (hnc : n ≤ c) (i : Nat) (hi : i ≤ n) (h0 : 0 < n) (z : Int) (hzz : z = (i : Int)) :
    ∃ q c', (∀ W, (Instr.slice 22 (.slice p n c) (some (.int .i64 z)) none none).run Tryz.prog W = .ok (.slice q (n - i) c') W) ∧ RBs w (.slice q (n - i) c') (L.drop i) := by
  subst hzz
  have hz : ∀ W, (sizeOf (Tryz.prog.elem 22)).run Tryz.prog W = .ok 7 W := fun W => by kernel_rfl
  have hl : (L.drop i).length = n - i := by rw [List.length_drop, hn]
  rcases h.row with ⟨p', c', e, h0', _⟩ | ⟨k, off, c', e, hlt, hc⟩
  · omega
  · simp only [Value.slice.injEq] at e
    obtain ⟨rfl, _, rfl⟩ := e
    have hrun : ∀ W, (Instr.slice 22 (.slice (some ⟨k, off, none⟩) n c) (some (.int .i64 (i : Int))) none none).run Tryz.prog W = .ok (sliced (some ⟨k, off, none⟩) i n c 7) W := fun W => by
      rw [run_slice_l W 22 (some ⟨k, off, none⟩) n c Tryz.underlying22 .i64 (i : Int) (by omega) (by omega), hz]
      rfl
    unfold sliced at hrun
    by_cases hci : c = i
    · rw [if_pos hci] at hrun
      refine ⟨_, _, hrun, ⟨.inr ⟨k, off, _, by rw [hl], hlt, fun j u hu => ?_⟩, fun q hq => h.rows q (List.mem_of_mem_drop hq)⟩⟩
      have : L.drop i = [] := List.drop_eq_nil_of_le (by omega)
      rw [this] at hu
      simp [bcl] at hu
    · rw [if_neg hci] at hrun
      rw [show (some (⟨k, off, none⟩ : Addr)).map (·.add (i * 7)) = some ⟨k, off + i * 7, none⟩ by simp [Addr.add_lit]] at hrun
      refine ⟨_, _, hrun, ⟨.inr ⟨k, off + i * 7, c - i, by rw [hl], hlt, fun j u hu => ?_⟩, fun q hq => h.rows q (List.mem_of_mem_drop hq)⟩⟩
      rw [bcl_drop, List.getElem?_drop] at hu
      have := hc (i * 7 + j) u hu
      rwa [← Nat.add_assoc] at this
/-- A row of buffers behind a row of the call's own. -/
theorem wpl_bufs {w : World} {ops : Array Oper} {rest : List Oper} {o : Oper} {a : Act} {Q : Exit → Act → World → Prop} (hgd : o.guard = none) (s x : Operand)
    (ho : o.op = .call { callee := .builtin .append, args := #[s, x], argTypes := #[22, 22] })
    {base : Nat} {v u : Value} {M M2 : List (Bf × Gb)} {m m2 : Nat} (hm : M.length = m) (hm2 : M2.length = m2) (hs : a.eval s = v) (ha : OutS base w v M) (hx : a.eval x = u) (hr : RBs w u M2) (hl : m + m2 ≤ 1000000) (hb : base ≤ w.heap.size)
    (h : ∀ p c w', OutS base w' (.slice p (m + m2) c) (M ++ M2) → Below base w w' → wpList Tryz.prog ops Q rest (a.put o.dst (.slice p (m + m2) c)) w') :
    wpList Tryz.prog ops Q (o :: rest) a w := by
  subst hm hm2
  refine wpl_ap eltB hgd s x ho hs ha.row hx hr.row (bcl_len M2) (bcl_one hr.rows) (by unfold maxLen; omega) (by omega) hb fun p c w' h1 h2 h3 => h p c w' ⟨?_⟩ h3
  rw [bcl_app, List.length_append]
  exact h1
theorem wp_bufs {w : World} {o : Oper} {a : Act} {K : Act → World → Prop} {Q : Exit → Act → World → Prop} (s x : Operand)
    (ho : o.op = .call { callee := .builtin .append, args := #[s, x], argTypes := #[22, 22] })
    {base : Nat} {v u : Value} {M M2 : List (Bf × Gb)} {m m2 : Nat} (hm : M.length = m) (hm2 : M2.length = m2) (hs : a.eval s = v) (ha : OutS base w v M) (hx : a.eval x = u) (hr : RBs w u M2) (hl : m + m2 ≤ 1000000) (hb : base ≤ w.heap.size)
    (h : ∀ p c w', OutS base w' (.slice p (m + m2) c) (M ++ M2) → Below base w w' → K (a.put o.dst (.slice p (m + m2) c)) w') : o.wp Tryz.prog a w K Q := by
  subst hm hm2
  obtain ⟨v', w', hrun, h2, h3⟩ := run_ap eltB o.type ha.row hr.row (bcl_len M2) (bcl_one hr.rows) (by unfold maxLen; omega) (by omega) hb
  obtain ⟨p, c, rfl, hle⟩ := h2.form
  unfold Oper.wp
  simp [execOp, ho, resolve, invoke, builtin, hs, hx, hrun, Result.andThen]
  refine h p c w' ⟨?_⟩ h3
  rw [bcl_app, List.length_append]
  exact h2
theorem OutS.set {base : Nat} {W : World} {v : Value} {M : List (Bf × Gb)} (h : OutS base W v M) {k : Nat} (hk : k < base) (cs : Array Value) : OutS base (W.setRow k cs) v M := by
  refine ⟨?_⟩
  rcases h.row with h | h
  · exact .inl h
  · refine .inr (World.ownsRow.kept h (show W.grownBy (W.setRow k cs) (some k) from ⟨rfl, rfl, rfl, by simp [World.setRow], fun j hj hne => setRow_other _ _ _ _ (fun e => hne (by rw [e]))⟩) (.inr fun e => ?_))
    have := (World.ownsRow.lt h k e).1
    omega
theorem bu_erase {α : Type} (L : List α) (i : Nat) : L.eraseIdx i = L.take i ++ L.drop (i + 1) := List.eraseIdx_eq_take_drop_succ L i
theorem mem_erase {α : Type} {L : List α} {i : Nat} {p : α} (h : p ∈ L.take i ++ L.drop (i + 1)) : p ∈ L := by
  rcases List.mem_append.1 h with h | h
  · exact List.mem_of_mem_take h
  · exact List.mem_of_mem_drop h
theorem BC.set {L : List (Bf × Gb)} {k off g : Nat} {W : World} {cs : Array Value} (h : BC L k off W) (hne : k ≠ g) : BC L k off (W.setRow g cs) := fun j q hq i v hv => (World.cell?_of_block (a := ⟨k, off + j * 7 + i, none⟩) (setRow_other _ _ _ _ hne)).trans (h j q hq i v hv)
/-- A slice whose room is no less than its length. -/
def CapOk (v : Value) : Prop := ∃ p n c, v = .slice p n c ∧ n ≤ c
set_option maxRecDepth 100000 in
set_option maxHeartbeats 6400000 in
theorem dwithout_any {w : World} {v : Value} {L : List (Bf × Gb)} (h : RBs w v L) (hcap : CapOk v) (hl200 : L.length ≤ 1000) {i : Nat} {q : Bf × Gb} (hq : L[i]? = some q) :
    Calls Tryz.prog 53 #[v, .int .i64 (i : Nat)] w (fun e w' => ∃ v', e = .returned (.tuple #[v', bV q.1 q.2]) ∧ OutS w.heap.size w' v' (L.eraseIdx i) ∧ CapOk v' ∧ Below w.heap.size w w') := by
  obtain ⟨W, hW⟩ : ∃ W, w.alloc (.cells #[.int .i64 0, .string { data := #[] }, .string { data := #[] }, .string { data := #[] }, .bool false, .slice none 0 0, .slice none 0 0] 26) = W := ⟨_, rfl⟩
  have hbx : BoxA W w.heap.size 26 #[.int .i64 0, .string { data := #[] }, .string { data := #[] }, .string { data := #[] }, .bool false, .slice none 0 0, .slice none 0 0] := by rw [← hW]; exact BoxA.new _ _ _
  have hl : Below w.heap.size w W := by rw [← hW]; exact (Below.refl _ _).alloc (Nat.le_refl _) _
  obtain ⟨p, n, c, rfl, hnc⟩ := hcap
  obtain ⟨p', c', e, f⟩ := (h.next hl).form
  simp only [Value.slice.injEq] at e
  obtain ⟨rfl, hn, rfl⟩ := e
  have hin : i < n := by rw [hn]; exact (List.getElem?_eq_some_iff.1 hq).1
  obtain ⟨pu, cu, hru, hbu⟩ := bufs_upto (h.next hl) hn.symm hnc i hin
  obtain ⟨pf, cf, hrf, hbf⟩ := bufs_from (h.next hl) hn.symm hnc (i + 1) (by omega) (by omega) ((i : Int) + 1) (by omega)
  obtain ⟨p0, c0, e0, f0⟩ := h.form
  simp only [Value.slice.injEq] at e0
  obtain ⟨rfl, hn0, rfl⟩ := e0
  clear hn0
  obtain ⟨kb, off, rfl, hk0, hc0⟩ := BC.of (f0 (ne_of_at hq))
  have HKN0 : kb ≠ w.heap.size := by omega
  have hk : kb < W.heap.size := Nat.lt_of_lt_of_le hk0 hl.size
  have hc : BC L kb off W := hc0.next hk0 hl
  have HC := Lib.hid (fun (Y : World) (hy : Below W.heap.size W Y) => (show BC L kb off Y from hc.next hk hy))
  have HBU := Lib.hid hbu
  have HBF := Lib.hid (fun (Y : World) (hy : Below W.heap.size W Y) => hbf.next hy)
  have HQ := Lib.hid hq
  have HQR := Lib.hid (fun (Y : World) (hy : Below w.heap.size w Y) => (h.next hy).rows q (List.mem_of_getElem? hq))
  have HRL := Lib.hid (fun (Y : World) (hy : Below w.heap.size w Y) => (h.next hy).rows)
  have HN := Lib.hid hn
  have hn1 : n ≤ 1000 := by omega
  have HL := Lib.hid hl
  have HW := Lib.hid hW
  have HSZ := Lib.hid (show w.heap.size < W.heap.size from hbx.lt)
  have HKN := Lib.hid (show kb ≠ w.heap.size from HKN0)
  have HBX := Lib.hid (fun (Y : World) (hy : Below W.heap.size W Y) => (show BoxA Y w.heap.size 26 #[.int .i64 0, .string { data := #[] }, .string { data := #[] }, .string { data := #[] }, .bool false, .slice none 0 0, .slice none 0 0] from hbx.next hy))
  have HFIN := Lib.hid (fun (Y : World) (hy : Below W.heap.size W Y) => (show Below w.heap.size w Y from hl.trans (hy.mono hl.size)))
  have HLT := Lib.hid (show (L.take i).length = i by rw [List.length_take]; omega)
  have HLD := Lib.hid (show (L.drop (i + 1)).length = n - (i + 1) by rw [List.length_drop]; omega)
  clear h hq hc hbu hbf f f0 hc0 hk0 hl200 hl hW hbx hk hnc hn HKN0
  go_enter Tryz.func53, Tryz.ntmps53
  go_upto_region 2 with fail
  rw [HW.out]
  go_upto_region 3 with (at_builtin; refine wpl_bufs rfl _ _ rfl (base := W.heap.size) (M := []) (M2 := L.take i) (m := 0) (m2 := i) rfl HLT.out (v := .slice none 0 0) rfl (OutS.nil _ _) rfl HBU.out (by omega) (Nat.le_refl _) ?_; intro p1 c1 w5 h1 h3; rw [Nat.zero_add, List.nil_append] at h1; have HO5 := Lib.hid h1; have HV5 := Lib.hid h3; clear h1 h3)
  have HD5 := Lib.hid (show Below W.heap.size W w5.drew from Below.drew HV5.out)
  have HOD := Lib.hid (show OutS W.heap.size w5.drew (.slice p1 i c1) (L.take i) from HO5.out.next (drew_lowB w5))
  have b1 : IntKind.i64.wrap ((i : Int) + 1) = (i : Int) + 1 := by rw [IntKind.wrap_i64]; omega
  refine wp_region_held_drew (S := (fun Y => BC L kb off Y)) (by kernel_rfl) (by exact HC.out _ HD5.out) (fun hHeld => ?_)
  refine wpAnyH_take (i := 0) (v := ?_) (ata at0) (by kernel_rfl) (by kernel_rfl) (by kernel_rfl) (fun _ _ _ h => h) (Or.inl ⟨by rfl, ?_⟩) (by assumption) ?_
  rotate_left
  · (intro w hSw; (try dsimp only at hSw); go_simp; (first | done | with_reducible rfl))
  try simp only [Act.put, List.setIfInBounds_toArray, List.set_cons_zero, List.set_cons_succ]
  refine wpAnyH_take (i := 1) (v := ?_) (ata (atS at0)) (by kernel_rfl) (by kernel_rfl) (by kernel_rfl) (fun _ _ _ h => h) (Or.inl ⟨by rfl, ?_⟩) (by assumption) ?_
  rotate_left
  · (intro w hSw; (try dsimp only at hSw); go_simp; (first | done | with_reducible rfl))
  try simp only [Act.put, List.setIfInBounds_toArray, List.set_cons_zero, List.set_cons_succ]
  refine wpAnyH_take (i := 2) (v := ?_) (ata (atS (atS at0))) (by kernel_rfl) (by kernel_rfl) (by kernel_rfl) (fun _ _ _ h => h) (Or.inl ⟨by rfl, ?_⟩) (by assumption) ?_
  rotate_left
  · (intro w hSw; (try dsimp only at hSw); go_simp; (first | done | with_reducible rfl))
  try simp only [Act.put, List.setIfInBounds_toArray, List.set_cons_zero, List.set_cons_succ]
  refine wpAnyH_take (i := 3) (v := ?_) (ata (atS (atS (atS at0)))) (by kernel_rfl) (by kernel_rfl) (by kernel_rfl) (fun _ _ _ h => h) (Or.inl ⟨by rfl, ?_⟩) (by assumption) ?_
  rotate_left
  · (intro w hSw; (try dsimp only at hSw); go_simp; (first | done | with_reducible rfl))
  try simp only [Act.put, List.setIfInBounds_toArray, List.set_cons_zero, List.set_cons_succ]
  refine wpAnyH_take (i := 4) (v := ?_) (ata (atS (atS (atS (atS at0))))) (by kernel_rfl) (by kernel_rfl) (by kernel_rfl) (fun _ _ _ h => h) (Or.inl ⟨by rfl, ?_⟩) (by assumption) ?_
  rotate_left
  · (intro w hSw; (try dsimp only at hSw); go_simp; (first | done | with_reducible rfl))
  try simp only [Act.put, List.setIfInBounds_toArray, List.set_cons_zero, List.set_cons_succ]
  refine wpAnyH_take (i := 6) (v := ?_) (ata (atS (atS (atS (atS (atS (atS at0))))))) (by kernel_rfl) (by kernel_rfl) (by kernel_rfl) (fun _ _ _ h => h) (Or.inl ⟨by rfl, ?_⟩) (by assumption) ?_
  rotate_left
  · (intro w hSw; (try dsimp only at hSw); go_simp; (first | done | with_reducible rfl))
  try simp only [Act.put, List.setIfInBounds_toArray, List.set_cons_zero, List.set_cons_succ]
  refine wpAnyH_take (i := 7) (v := ?_) (ata (atS (atS (atS (atS (atS (atS (atS at0)))))))) (by kernel_rfl) (by kernel_rfl) (by kernel_rfl) (fun _ _ _ h => h) (Or.inl ⟨by rfl, ?_⟩) (by assumption) ?_
  rotate_left
  · (intro w hSw; (try dsimp only at hSw); go_simp; (first | done | with_reducible rfl))
  try simp only [Act.put, List.setIfInBounds_toArray, List.set_cons_zero, List.set_cons_succ]
  refine wpAnyH_take (i := 8) (v := ?_) (ata (atS (atS (atS (atS (atS (atS (atS (atS at0))))))))) (by kernel_rfl) (by kernel_rfl) (by kernel_rfl) (fun _ _ _ h => h) (Or.inl ⟨by rfl, ?_⟩) (by assumption) ?_
  rotate_left
  · (intro w hSw; (try dsimp only at hSw); go_simp; (first | done | with_reducible rfl))
  try simp only [Act.put, List.setIfInBounds_toArray, List.set_cons_zero, List.set_cons_succ]
  refine wpAnyH_take (i := 9) (v := .agg (bcs q.1 q.2)) (ata (atS (atS (atS (atS (atS (atS (atS (atS (atS at0)))))))))) (by kernel_rfl) (by kernel_rfl) (by kernel_rfl) (fun _ _ _ h => h) (Or.inl ⟨by rfl, ?_⟩) (by assumption) ?_
  · intro X hX; exact load_buf _ rfl _ _ rfl q (hX i q HQ.out)
  try simp only [Act.put, List.setIfInBounds_toArray, List.set_cons_zero, List.set_cons_succ]
  refine wpAnyH_ready (rs := [5]) (by kernel_rfl) (by simp) ?_
  refine AllReadyH.cons (ata (atS (atS (atS (atS (atS at0)))))) (fun K hK => ?_) AllReadyH.nil
  refine wp_bufs _ _ rfl (base := W.heap.size) (M := L.take i) (M2 := L.drop (i + 1)) (m := i) (m2 := n - (i + 1)) HLT.out HLD.out (v := .slice p1 i c1) rfl HOD.out rfl (HBF.out _ HD5.out) (by omega) (HD5.out.size) ?_
  intro p2 c2 w6 h1 h3
  have HO6 := Lib.hid h1
  have HV6 := Lib.hid (HD5.out.trans h3)
  clear h1 h3
  refine hK.out _ _ (by exact HC.out _ HV6.out) (fun hHeld => ?_)
  clear hK K
  try simp only [Act.put, List.setIfInBounds_toArray, List.set_cons_zero, List.set_cons_succ]
  refine wpAnyH_take (i := 10) (v := ?_) (ata (atS (atS (atS (atS (atS (atS (atS (atS (atS (atS at0))))))))))) (by kernel_rfl) (by kernel_rfl) (by kernel_rfl) (fun _ _ _ h => h) (Or.inl ⟨by rfl, ?_⟩) (by assumption) ?_
  rotate_left
  · (intro w hSw; (try dsimp only at hSw); go_simp; (first | done | with_reducible rfl))
  try simp only [Act.put, List.setIfInBounds_toArray, List.set_cons_zero, List.set_cons_succ]
  refine wpAnyH_ready (rs := [11]) (by kernel_rfl) (by simp) ?_
  refine AllReadyH.cons (ata (atS (atS (atS (atS (atS (atS (atS (atS (atS (atS (atS at0)))))))))))) (fun K hK => ?_) AllReadyH.nil
  refine wp_store_row _ _ _ rfl w.heap.size (bcs q.1 q.2) rfl rfl 26 #[.int .i64 0, .string { data := #[] }, .string { data := #[] }, .string { data := #[] }, .bool false, .slice none 0 0, .slice none 0 0] (HBX.out _ HV6.out) (by kernel_rfl) rfl (bcs_all (HQR.out _ (HFIN.out _ HV6.out))) ?_
  refine hK.out _ _ (by exact BC.set (HC.out _ HV6.out) HKN.out) (fun hHeld => ?_)
  clear hK K
  try simp only [Act.put, List.setIfInBounds_toArray, List.set_cons_zero, List.set_cons_succ]
  refine wpAnyH_done (by kernel_rfl) ?_ _
  go_wp2
  refine bodyPost_ret (v := .tuple #[.slice p2 (i + (n - (i + 1))) c2, .agg (bcs q.1 q.2)]) (res_tc (p := 5) (u := 4) rfl _ _ w.heap.size _ (bcs q.1 q.2) _ _ rfl (setRow_heap _ _ _ _ _ _ (HBX.out _ HV6.out)) Tryz.underlying26 rfl (by kernel_rfl)) rfl ?_
  refine ⟨_, rfl, ?_, ⟨_, _, _, rfl, ?_⟩, below_setRow (HFIN.out _ HV6.out) (Nat.le_refl _) _⟩
  · rw [bu_erase]
    exact ⟨(HO6.out.set (by exact HSZ.out) _).row.mono (Nat.le_of_lt HSZ.out)⟩
  · obtain ⟨p9, c9, e9, hle⟩ := HO6.out.row.form
    simp only [Value.slice.injEq] at e9
    obtain ⟨_, e8, rfl⟩ := e9
    omega
end Go.Proofs.YtkjffoebcblpoaaGreat.gn
end
