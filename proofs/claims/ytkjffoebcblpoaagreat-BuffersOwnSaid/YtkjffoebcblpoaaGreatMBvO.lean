/- slices.Delete at buffers. (Written by gen_bvO.py, out of XExP.) -/
import Derived.Test.YtkjffoebcblpoaaGreatMBvN
import Derived.Deep.RegionLaw
import Derived.Lib.SliceRun
section
set_option linter.unusedVariables false
set_option linter.unusedSimpArgs false
namespace Go.Proofs.YtkjffoebcblpoaaGreat.gn
open Go.RowKit
open Go.Proofs.YtkjffoebcblpoaaGreat.bu (Bf)

attribute [local go_sem] Oper.semAt_some

theorem step_app_fitsB {ops : Array Oper} {o : Oper} {a : Act} {w : World} {K : Act → World → Prop} {Q : Exit → Act → World → Prop} {E : Prop} (hgd : o.guard = none) (s x : Operand)
    (ho : o.op = .call { callee := .builtin .append, args := #[s, x], argTypes := #[22, 22] })
    (base g k cap : Nat) (xs : List Value) (hs : a.eval s = .slice (some ⟨g, 0, none⟩) k cap) (hown : w.ownsRow base 26 7 (.slice (some ⟨g, 0, none⟩) k cap) k xs)
    (ad : Addr) (m c : Nat) (news : List Value) (hx : a.eval x = .slice (some ad) m c) (hn : news.length = m * 7) (hc : ∀ j u, news[j]? = some u → w.cell? (ad.add j) = some u) (h1c : ∀ u ∈ news, u.oneCell' = true) (b1 : k + m ≤ cap)
    (hK : ∀ w', w'.ownsRow base 26 7 (.slice (some ⟨g, 0, none⟩) (k + m) cap) (k + m) (xs ++ news) → w.grownBy w' (some g) → K (a.put o.dst (.slice (some ⟨g, 0, none⟩) (k + m) cap)) w') :
    if Region.wanted o (yielded ops a.tmps) = true then Oper.wp Tryz.prog o a w K Q else E := by
  obtain ⟨i0, hi0, hi1, hi2, hi3⟩ := eltB.inf
  have hw : Region.wanted o (yielded ops a.tmps) = true := by simp [Region.wanted, hgd]
  rw [if_pos hw]
  obtain ⟨w', hrun, r1, r2⟩ := run_append_fits (P := Tryz.prog) w base 22 o.type 26 i0 7 Tryz.underlying22 hi0 hi2 g k cap xs hown ad m c news hn hc h1c b1
  unfold Oper.wp
  simp [execOp, ho, resolve, invoke, builtin, hs, hx, hrun, Result.andThen]
  exact hK w' r1 r2

theorem own_prefixB {w : World} {base g n cap k : Nat} {xs : List Value} (h : w.ownsRow base 26 7 (.slice (some ⟨g, 0, none⟩) n cap) n xs) (hk : k ≤ n) :
    w.ownsRow base 26 7 (.slice (some ⟨g, 0, none⟩) k cap) k (xs.take (k * 7)) := by
  obtain ⟨h1, ⟨h2, _⟩ | ⟨g', cap', cur, h2, hb, hg, hn, hm, hcs, ht⟩⟩ := h
  · cases h2
  · cases h2
    refine ⟨by rw [List.length_take, h1]; omega, .inr ⟨g, cap, cur, rfl, hb, hg, by omega, hm, hcs, ?_⟩⟩
    rw [← ht, List.take_take]
    congr 1
    omega
def Z7 : List Value := [.int .i64 0, .string ⟨#[]⟩, .string ⟨#[]⟩, .string ⟨#[]⟩, .bool false, .slice none 0 0, .slice none 0 0]
theorem setL_out : ∀ (vs : List Value) (xs : List Value) (o : Nat), xs.length ≤ o → setL xs o vs = xs
  | [], xs, o, h => rfl
  | v :: r, xs, o, h => by
    unfold setL
    rw [List.set_eq_of_length_le h, setL_out r xs (o + 1) (by omega)]
theorem run_clear7 {w : World} {base g n cap c : Nat} {xs : List Value} (h : w.ownsRow base 26 7 (.slice (some ⟨g, 0, none⟩) n cap) n xs) (hk : n < cap) (ty : TypeId) :
    (Builtin.clear_ #[22] ty #[.slice (some ⟨g, n * 7, none⟩) 1 c]).run Tryz.prog w = .ok (.tuple #[]) (w.setCells g (n * 7) Z7) := by
  obtain ⟨h1, ⟨h2, _⟩ | ⟨g', cap', cur, h2, hb, hg, hn, hm, hcs, ht⟩⟩ := h
  · cases h2
  · cases h2
    have hz : (Builtin.zeroCells (Value.agg #[.int .i64 0, .string ⟨#[]⟩, .string ⟨#[]⟩, .string ⟨#[]⟩, .bool false, .slice none 0 0, .slice none 0 0]).cells 1).toList = Z7 := by kernel_rfl
    have hst := run_storeCells_cells (P := Tryz.prog) g (n * 7) Z7 0 w (fun j hj => by
      rw [cell_of_row w g _ cur _ (0, 0) hg]
      simp only [Z7, List.length_cons, List.length_nil] at hj
      rw [Array.getElem?_eq_getElem (by omega)]; rfl) (fun j hj => frozen_of_row w g _ cur _ hg) (by intro u hu; simp [Z7] at hu; rcases hu with rfl | rfl | rfl | rfl <;> rfl)
    simp only [Nat.add_zero] at hst
    simp [Builtin.clear_, run_underlying Tryz.underlying22, Tryz.zeroValue26, hz, hst]
theorem grown_undrewB {w w1 : World} {r : Option Nat} (h : w.drew.grownBy w1 r) : w.grownBy w1 r := ⟨h.os, h.tape, h.output, h.size, h.block⟩
theorem del_endB {base : Nat} {w w1 : World} {g cap n : Nat} {xs : List Value} (r1 : w1.ownsRow base 26 7 (.slice (some ⟨g, 0, none⟩) n cap) n xs) (r2 : w.grownBy w1 (some g)) :
    (w1.setCells g (n * 7) Z7).ownsRow base 26 7 (.slice (some ⟨g, 0, none⟩) n cap) n xs ∧ w.grownBy (w1.setCells g (n * 7) Z7) (some g) := by
  have h1 := r1.1
  obtain ⟨a, b⟩ := own_stored (w := w1) Z7 (n * 7) r1
  rw [setL_out Z7 xs (n * 7) (by omega)] at a
  exact ⟨a, b.os.trans r2.os, b.tape.trans r2.tape, b.output.trans r2.output, Nat.le_trans r2.size b.size, fun k hk hne => (b.block k (Nat.lt_of_lt_of_le hk r2.size) hne).trans (r2.block k hk hne)⟩

set_option maxHeartbeats 2000000 in
set_option maxRecDepth 100000 in
theorem deleteB_any {base : Nat} {w : World} {g cap i : Nat} {l : List (Bf × Gb)} (h : OwnB base w (.slice (some ⟨g, 0, none⟩) l.length cap) l) (hi : i < l.length) (hl : l.length ≤ 4000) (hone : Hid (∀ k, ∀ u ∈ bcl (l.drop k), u.oneCell' = true)) :
    Calls Tryz.prog 80 #[.slice (some ⟨g, 0, none⟩) l.length cap, .int .i64 i, .int .i64 ((i : Int) + 1)] w fun e w' => ∃ v', e = .returned v' ∧ OwnB base w' v' (l.eraseIdx i) ∧ w.grownBy w' (some g) ∧ v'.ownBlock = some g := by
  have hcap : l.length ≤ cap ∧ cap ≤ maxLen := by
    obtain ⟨h1, ⟨h2, _⟩ | ⟨g', cap', cur, h2, hb, hg, hn, hm, hcs, ht⟩⟩ := h
    · cases h2
    · cases h2; exact ⟨hn, hm⟩
  obtain ⟨hc1, hc2⟩ := hcap
  unfold maxLen at hc2
  have hp := own_prefixB h (Nat.le_of_lt hi)
  rw [← bcl_take] at hp
  have HS : Hid (w.drew.ownsRow base 26 7 (.slice (some ⟨g, 0, none⟩) i cap) i (bcl (l.take i))) := hp
  have hic : i ≤ cap := by omega
  have hjc : i + 1 ≤ cap := by omega
  have mixed : Tryz.prog.follows .mixedOrders = true := by kernel_rfl
  have hne : ((i : Int) == (i : Int) + 1) = false := beq_eq_false_iff_ne.2 (by omega)
  have hwi : IntKind.i64.wrap ((i : Int) + 1) = (i : Int) + 1 := by rw [IntKind.wrap_i64]; omega
  have hit : ((i : Int) + 1).toNat = i + 1 := by omega
  clear hp
  by_cases hcase : cap = i + 1
  · have hlen : l.length = i + 1 := by omega
    have hdr : l.drop (i + 1) = [] := by rw [List.drop_eq_nil_iff]; omega
    subst hcase
    have HIM : Hid (i + 0 ≤ i + 1) := Nat.le_succ _
    have HIC : Hid (i + 0 < i + 1) := Nat.lt_succ_self _
    have i0 : (0 : Int) ≤ (i : Int) + 1 := by omega
    have i4 : ¬ i + 1 = i := by omega
    have i9 : (i : Int) ≤ (i : Int) + 1 := by omega
    have i8 : i + 1 - i = 1 := by omega
    have HD := Lib.hid hdr
    clear h hdr
    go_enter Tryz.func80, Tryz.ntmps80
    go_upto_region 5 with fail
    go_region_law_o (go_loud (refine step_app_fitsB rfl (.tmp 22) (.tmp 25) rfl base g i (i + 1) (bcl (l.take i)) (by simp [Act.eval, Act.put]) HS.out ⟨g, 0, none⟩ 0 0 [] (by simp [Act.eval, Act.put]) rfl (fun j u hu => by cases hu) (fun u hu => by cases hu) HIM.out ?_; intro w1 r1 r2; have R1 := Lib.hid (And.intro r1 r2); clear r1 r2))
    have hcl := fun (ty : TypeId) (c : Nat) => run_clear7 (c := c) R1.out.1 HIC.out ty
    rw [Nat.add_zero] at hcl
    go_wp2
    go_ret
    refine ⟨_, rfl, ?_, (del_endB R1.out.1 (grown_undrewB R1.out.2)).2, rfl⟩
    have e1 : (l.eraseIdx i).length = i := by rw [List.length_eraseIdx_of_lt hi]; omega
    unfold OwnB
    rw [e1, bu_erase, HD.out, List.append_nil]
    have := (del_endB R1.out.1 R1.out.2 ).1
    rw [List.append_nil] at this
    exact this
  · have HN : Hid (∀ j u, (bcl (l.drop (i + 1)))[j]? = some u → w.drew.cell? ((⟨g, (i + 1) * 7, none⟩ : Addr).add j) = some u) := by
      show ∀ j u, _ → w.cell? _ = some u
      intro j u hu
      rw [bcl_drop, List.getElem?_drop] at hu
      have := World.ownsRow.cells h rfl _ _ hu
      rw [Addr.add_lit] at this ⊢
      rw [← this, Nat.zero_add]
    have hlen : l.length = i + 1 + (l.length - (i + 1)) := by omega
    generalize hm : l.length - (i + 1) = m at *
    have HL := Lib.hid hlen
    have HN1 : Hid ((bcl (l.drop (i + 1))).length = m * 7) := by show _ = _; rw [bcl_len, List.length_drop]; omega
    have HIM : Hid (i + m ≤ cap) := by show _ ≤ _; omega
    have HIC : Hid (i + m < cap) := by show _ < _; omega
    have i0 : (0 : Int) ≤ (i : Int) + 1 := by omega
    have i1 : (i : Int) + 1 ≤ (i : Int) + 1 + (m : Int) := by omega
    have i2 : (i : Int) + (m : Int) ≤ (i : Int) + 1 + (m : Int) := by omega
    have i3 : (0 : Int) ≤ (i : Int) + (m : Int) := by omega
    have i4 : ¬ cap = i + m := by omega
    have i5 : (((i : Int) + (m : Int))).toNat = i + m := by omega
    have i6 : (((i : Int) + 1 + (m : Int))).toNat = i + 1 + m := by omega
    have i7 : (i : Int) + 1 + (m : Int) ≤ (cap : Int) := by omega
    have i8 : i + 1 + m - (i + m) = 1 := by omega
    have HO := Lib.hid h
    clear h
    go_enter Tryz.func80, Tryz.ntmps80
    go_upto_region 5 with fail
    go_region_law_o (go_loud (refine step_app_fitsB rfl (.tmp 22) (.tmp 25) rfl base g i cap (bcl (l.take i)) (by simp [Act.eval, Act.put]) HS.out ⟨g, (i + 1) * 7, none⟩ m (cap - (i + 1)) (bcl (l.drop (i + 1))) (by simp [Act.eval, Act.put]) HN1.out HN.out (hone.out _) HIM.out ?_; intro w1 r1 r2; have R1 := Lib.hid (And.intro r1 r2); clear r1 r2))
    have hcl := fun (ty : TypeId) (c : Nat) => run_clear7 (c := c) R1.out.1 HIC.out ty
    go_wp2
    go_ret
    refine ⟨_, rfl, ?_, (del_endB R1.out.1 (grown_undrewB R1.out.2)).2, rfl⟩
    have e1 : (l.eraseIdx i).length = i + m := by rw [List.length_eraseIdx_of_lt hi]; omega
    unfold OwnB
    rw [e1, bu_erase, bcl_app]
    exact (del_endB R1.out.1 R1.out.2).1
end Go.Proofs.YtkjffoebcblpoaaGreat.gn
end
section
set_option linter.unusedVariables false
set_option linter.unusedSimpArgs false
set_option maxRecDepth 100000
namespace Go.Proofs.YtkjffoebcblpoaaGreat.gn
open Go.RowKit
open Go.Proofs.YtkjffoebcblpoaaGreat.bu (Bf May Valid place same findS ofS jobOk)

def pkS (l : List Bf) (p : Bf → Bool) : Bf × Bool :=
  if ¬ Valid l then (Bf.zero, false) else match l.findIdx? p with
    | none => (Bf.zero, false)
    | some i => match l[i]? with
      | none => (Bf.zero, false)
      | some b => (b, true)
theorem findS_pk (l : List Bf) (name : List UInt8) : findS l name = pkS l (same 0 name) := rfl
theorem no_zero {l : List Bf} (h : Valid l) : l.findIdx? (same 0 []) = none := by
  rw [List.findIdx?_eq_none_iff]
  intro b hb
  cases hs : same 0 [] b
  · rfl
  · obtain ⟨h1, h2⟩ := bu.same_iff.1 hs
    have := ((h.2.1 b hb).2.2.2.2.2 h1).1
    rw [h2] at this
    exact absurd this (by decide)
theorem ofS_pk (l : List Bf) (job : Int) : ofS l job = pkS l (same job []) := by
  unfold bu.ofS pkS
  by_cases hV : Valid l
  · by_cases hj : job = 0
    · subst hj
      rw [if_pos (.inr rfl), if_neg (not_not_intro hV), no_zero hV]
    · rw [if_neg (fun hh => hh.elim (fun h => h hV) hj), if_neg (not_not_intro hV)]
      rfl
  · rw [if_pos (.inl hV), if_pos hV]
theorem told_zero (L : List (Bf × Gb)) (base : Nat) (W : World) : ToldB L base W Bf.zero gZ := ⟨.inr (.inl ⟨none, rfl, rfl, rfl⟩), .inr (.inl ⟨none, rfl, rfl, rfl⟩)⟩
theorem cb_zero : CB (Bf.zero, gZ) := ⟨⟨_, _, rfl, Nat.le_refl _, Nat.zero_le _⟩, ⟨_, _, rfl, Nat.le_refl _, Nat.zero_le _⟩⟩
theorem cb_own {base : Nat} {w : World} {b : Bf} {u : Gb} (he : ApC base 55 2 w u.e b.exts.length (xcs b.exts)) (hr : OutI base w u.r b.refs) : CB (b, u) := ⟨he.cpg, ApC.cpg hr⟩
theorem ApC.setR {base : Nat} {e : TypeId} {size : Nat} {w : World} {v : Value} {n : Nat} {xs : List Value} (h : ApC base e size w v n xs) {k : Nat} (hk : k < base) (cs : Array Value) : ApC base e size (w.setRow k cs) v n xs := h.above fun j hj _ => setRow_other _ _ _ _ (by omega)
set_option maxHeartbeats 6400000 in
theorem pick_any {w : World} {v : Value} {L : List (Bf × Gb)} (h : RBs w v L) (hI : BIs L) (g : Nat) (lb : Array Value) (eg : ∀ args w, (callFunc g args).run Tryz.prog w = .ok (.enter g args) w) (p : Bf → Bool)
    (hp : ∀ (W : World) (q : Bf × Gb), Below w.heap.size w W → Calls Tryz.prog g (#[.agg (bcs q.1 q.2)] ++ lb) W fun e w' => e = .returned (.bool (p q.1)) ∧ Below W.heap.size W w') :
    Calls Tryz.prog 57 #[v, .func (.func g) #[] lb] w (BufQ w L (pkS (L.map Prod.fst) p).1 (pkS (L.map Prod.fst) p).2) := by
  obtain ⟨W, hW⟩ : ∃ W, w.alloc (.cells #[.int .i64 0, .string { data := #[] }, .string { data := #[] }, .string { data := #[] }, .bool false, .slice none 0 0, .slice none 0 0] 26) = W := ⟨_, rfl⟩
  have hbx : BoxA W w.heap.size 26 #[.int .i64 0, .string { data := #[] }, .string { data := #[] }, .string { data := #[] }, .bool false, .slice none 0 0, .slice none 0 0] := by rw [← hW]; exact BoxA.new _ _ _
  have hl : Below w.heap.size w W := by rw [← hW]; exact (Below.refl _ _).alloc (Nat.le_refl _) _
  have hs : W.heap.size = w.heap.size + 1 := by rw [← hW]; exact World.size_alloc _ _
  have HCH := Lib.hid (pcheck_any (h.next hl) hI)
  have HIX := Lib.hid (fun (Y : World) (hy : Below W.heap.size W Y) => index_any ((h.next hl).next hy) hI.len g lb eg p fun Z q hz => hp Z q ((hl.trans (hy.mono hl.size)).trans (hz.mono (Nat.le_trans hl.size hy.size))))
  have HRB := Lib.hid (fun (Y : World) (hy : Below w.heap.size w Y) => (h.next hy).rows)
  obtain ⟨pp, c, rfl, f⟩ := (h.next hl).form
  obtain ⟨n, hn⟩ : ∃ n, L.length = n := ⟨_, rfl⟩
  rw [hn] at HCH HIX ⊢
  have HF := Lib.hid f
  have HN := Lib.hid hn
  have hn1 : n ≤ 140737488355328 := by rw [← hn]; exact hI.len
  have HL := Lib.hid hl
  have HW := Lib.hid hW
  have HSZ := Lib.hid hs
  have HI := Lib.hid hI
  have HBX := Lib.hid (fun (Y : World) (hy : Below W.heap.size W Y) => (show BoxA Y w.heap.size 26 #[.int .i64 0, .string { data := #[] }, .string { data := #[] }, .string { data := #[] }, .bool false, .slice none 0 0, .slice none 0 0] from hbx.next hy))
  have HFIN := Lib.hid (fun (Y : World) (hy : Below W.heap.size W Y) => (show Below w.heap.size w Y from hl.trans (hy.mono hl.size)))
  clear h hI hW hbx hl f hn hp hs
  by_cases hV : Valid (L.map Prod.fst)
  rotate_left
  · have HR := Lib.hid (show pkS (L.map Prod.fst) p = (Bf.zero, false) by unfold pkS; rw [if_pos hV])
    rw [vE_no hV] at HCH
    clear hV
    go_enter Tryz.func57, Tryz.ntmps57
    go_upto_region 1 with fail
    rw [HW.out]
    go_wp2_with (first
      | (go_at_call 11; ((with_reducible refine HCH.out.mono ?_); rintro e w5 ⟨rfl, hb⟩); have A5 := Lib.hid (show Below W.heap.size W w5 from hb); clear hb)
      | (refine wpList_store_row rfl _ _ _ rfl w.heap.size #[.int .i64 0, .string { data := #[] }, .string { data := #[] }, .string { data := #[] }, .bool false, .slice none 0 0, .slice none 0 0] rfl rfl _ _ (HBX.out _ A5.out) (by kernel_rfl) rfl (by kernel_rfl) ?_))
    rw [HR.out]
    refine bodyPost_ret (v := .tuple #[.agg #[.int .i64 0, .string { data := #[] }, .string { data := #[] }, .string { data := #[] }, .bool false, .slice none 0 0, .slice none 0 0], .bool false]) (res_ct (p := 4) (u := 5) rfl _ _ w.heap.size _ #[.int .i64 0, .string { data := #[] }, .string { data := #[] }, .string { data := #[] }, .bool false, .slice none 0 0, .slice none 0 0] _ _ rfl (setRow_heap _ _ _ _ _ _ (HBX.out _ A5.out)) Tryz.underlying26 rfl (by kernel_rfl)) rfl ?_
    exact ⟨gZ, rfl, told_zero _ _ _, bi_zero, cb_zero, below_setRow (HFIN.out _ A5.out) (Nat.le_refl _) _⟩
  rw [show vE (L.map Prod.fst) = 0 from if_pos hV] at HCH
  have HV := Lib.hid hV
  cases hpl : (L.map Prod.fst).findIdx? p with
  | none =>
    rw [hpl] at HIX
    unfold pI at HIX
    dsimp only at HIX
    have HR := Lib.hid (show pkS (L.map Prod.fst) p = (Bf.zero, false) by unfold pkS; rw [if_neg (not_not_intro hV), hpl])
    clear hV hpl
    go_enter Tryz.func57, Tryz.ntmps57
    go_upto_region 1 with fail
    rw [HW.out]
    go_wp2_with (first
      | (go_at_call 11; ((with_reducible refine HCH.out.mono ?_); rintro e w5 ⟨rfl, hb⟩); have A5 := Lib.hid (show Below W.heap.size W w5 from hb); clear hb)
      | (go_at_call 45; ((with_reducible refine (HIX.out _ A5.out).mono ?_); rintro e w6 ⟨rfl, hb⟩); have A6 := Lib.hid (show Below W.heap.size W w6 from A5.out.trans (hb.mono A5.out.size)); clear hb)
      | (refine wpList_store_row rfl _ _ _ rfl w.heap.size #[.int .i64 0, .string { data := #[] }, .string { data := #[] }, .string { data := #[] }, .bool false, .slice none 0 0, .slice none 0 0] rfl rfl _ _ (HBX.out _ A6.out) (by kernel_rfl) rfl (by kernel_rfl) ?_))
    rw [HR.out]
    refine bodyPost_ret (v := .tuple #[.agg #[.int .i64 0, .string { data := #[] }, .string { data := #[] }, .string { data := #[] }, .bool false, .slice none 0 0, .slice none 0 0], .bool false]) (res_ct (p := 4) (u := 5) rfl _ _ w.heap.size _ #[.int .i64 0, .string { data := #[] }, .string { data := #[] }, .string { data := #[] }, .bool false, .slice none 0 0, .slice none 0 0] _ _ rfl (setRow_heap _ _ _ _ _ _ (HBX.out _ A6.out)) Tryz.underlying26 rfl (by kernel_rfl)) rfl ?_
    exact ⟨gZ, rfl, told_zero _ _ _, bi_zero, cb_zero, below_setRow (HFIN.out _ A6.out) (Nat.le_refl _) _⟩
  | some i =>
    obtain ⟨hi, -⟩ := List.findIdx?_eq_some_iff_getElem.1 hpl
    rw [List.length_map, HN.out] at hi
    obtain ⟨q, hq⟩ : ∃ q, L[i]? = some q := ⟨_, List.getElem?_eq_getElem (by rw [HN.out]; exact hi)⟩
    have HR := Lib.hid (show pkS (L.map Prod.fst) p = (q.1, true) by unfold pkS; rw [if_neg (not_not_intro hV), hpl]; dsimp only; rw [fst_at hq])
    obtain ⟨kb, off, rfl, hk, hc⟩ := BC.of (HF.out (ne_of_at hq))
    have HC := Lib.hid (fun (Y : World) (hy : Below W.heap.size W Y) => (show BC L kb off Y from hc.next hk hy))
    have HQ := Lib.hid hq
    rw [hpl] at HIX
    unfold pI at HIX
    dsimp only at HIX
    have d0 : decide ((i : Int) < 0) = false := decide_eq_false (by omega)
    have HQR := Lib.hid (fun (Y : World) (hy : Below w.heap.size w Y) => HRB.out Y hy q (List.mem_of_getElem? hq))
    have HML := Lib.hid (may_len (HV.out.2.1 q.1 (List.mem_of_getElem? (fst_at hq))))
    have HQI := Lib.hid (HI.out.all q (List.mem_of_getElem? hq))
    have HCF := Lib.hid (fun (Y : World) (hy : Below W.heap.size W Y) => copyOf_any q.1 q.2 Y (HQR.out Y (HFIN.out Y hy)) HML.out.1 HML.out.2)
    unfold bV bcs at HCF
    clear hV hpl hq hk hc HF
    go_enter Tryz.func57, Tryz.ntmps57
    go_upto_region 1 with fail
    rw [HW.out]
    go_wp2_with (first
      | (go_at_call 11; ((with_reducible refine HCH.out.mono ?_); rintro e w5 ⟨rfl, hb⟩); have A5 := Lib.hid (show Below W.heap.size W w5 from hb); clear hb)
      | (go_at_call 45; ((with_reducible refine (HIX.out _ A5.out).mono ?_); rintro e w6 ⟨rfl, hb⟩); have A6 := Lib.hid (show Below W.heap.size W w6 from A5.out.trans (hb.mono A5.out.size)); clear hb)
      | (refine wpList_load_mid rfl _ _ rfl kb (off + i * 7) rfl [.int .i64 q.1.job, .string (str q.1.name), .string (str q.1.user), .string (str q.1.pool), .bool q.1.opn, q.2.e, q.2.r] _ (HC.out _ A6.out i q HQ.out) Tryz.underlying26 rfl (by kernel_rfl) ?_)
      | (go_at_call 35; ((with_reducible refine (HCF.out _ A6.out).mono ?_); rintro e w7 ⟨u, rfl, he7, hr7, hb7⟩); have A7 := Lib.hid (show Below W.heap.size W w7 from A6.out.trans (hb7.mono A6.out.size)); have E7 := Lib.hid (And.intro he7 hr7); clear he7 hr7 hb7; have R7 := Lib.hid (show RB w7 q.1 u from ⟨E7.out.1.rdc, OutI.ri E7.out.2⟩))
      | (refine wpList_store_row rfl _ _ _ rfl w.heap.size #[.int .i64 q.1.job, .string (str q.1.name), .string (str q.1.user), .string (str q.1.pool), .bool q.1.opn, u.e, u.r] rfl rfl _ _ (HBX.out _ A7.out) (by kernel_rfl) rfl (bcs_all R7.out) ?_))
    rw [HR.out]
    refine bodyPost_ret (v := .tuple #[.agg #[.int .i64 q.1.job, .string (str q.1.name), .string (str q.1.user), .string (str q.1.pool), .bool q.1.opn, u.e, u.r], .bool true]) (res_ct (p := 4) (u := 5) rfl _ _ w.heap.size _ #[.int .i64 q.1.job, .string (str q.1.name), .string (str q.1.user), .string (str q.1.pool), .bool q.1.opn, u.e, u.r] _ _ rfl (setRow_heap _ _ _ _ _ _ (HBX.out _ A7.out)) Tryz.underlying26 rfl (by kernel_rfl)) rfl ?_
    have hb0 : w.heap.size < w6.heap.size := Nat.lt_of_lt_of_le (by rw [HSZ.out]; omega) A6.out.size
    exact ⟨u, rfl, ⟨.inr (ApC.mono (E7.out.1.setR hb0 _) (Nat.le_of_lt hb0)), .inr (ApC.mono (ApC.setR E7.out.2 hb0 _) (Nat.le_of_lt hb0))⟩, HQI.out, cb_own E7.out.1 E7.out.2, below_setRow (HFIN.out _ A7.out) (Nat.le_refl _) _⟩
theorem ToldB.mono {L : List (Bf × Gb)} {base B : Nat} {w : World} {b : Bf} {g : Gb} (h : ToldB L base w b g) (hB : B ≤ base) : ToldB L B w b g := ⟨h.e.imp id (fun x => x.mono hB), h.r.imp id (fun x => ApC.mono x hB)⟩
theorem pfind_any {w : World} {v : Value} {L : List (Bf × Gb)} (h : RBs w v L) (hI : BIs L) (name : List UInt8) :
    Calls Tryz.prog 23 #[v, .string (str name)] w (BufQ w L (findS (L.map Prod.fst) name).1 (findS (L.map Prod.fst) name).2) := by
  rw [findS_pk]
  obtain ⟨W, hW⟩ : ∃ W, w.alloc (.cells #[.int .i64 0, .string { data := #[] }, .string { data := #[] }, .string { data := #[] }, .bool false, .slice none 0 0, .slice none 0 0] 26) = W := ⟨_, rfl⟩
  have hbx : BoxA W w.heap.size 26 #[.int .i64 0, .string { data := #[] }, .string { data := #[] }, .string { data := #[] }, .bool false, .slice none 0 0, .slice none 0 0] := by rw [← hW]; exact BoxA.new _ _ _
  have hl : Below w.heap.size w W := by rw [← hW]; exact (Below.refl _ _).alloc (Nat.le_refl _) _
  obtain ⟨W1, hW1⟩ : ∃ W1, W.alloc (.cells #[.string (str name)] 9) = W1 := ⟨_, rfl⟩
  have hb1 : BoxA W1 W.heap.size 9 #[.string (str name)] := by rw [← hW1]; exact BoxA.new _ _ _
  have hl1 : Below W.heap.size W W1 := by rw [← hW1]; exact (Below.refl _ _).alloc (Nat.le_refl _) _
  have hlt : w.heap.size < W1.heap.size := Nat.lt_of_lt_of_le (BoxA.lt hbx) hl1.size
  have hk : W1.cell? ⟨W.heap.size, 0, none⟩ = some (.string (str name)) := BoxA.cell hb1 0 _ rfl
  have hr1 := (h.next hl).next hl1
  have hc := pick_any hr1 hI 74 #[.pointer (some ⟨W.heap.size, 0, none⟩)] (enters_of Tryz.func74 (by kernel_rfl) rfl) (same 0 name) fun Z q hz => named1_any Z W.heap.size name q ((low_cell hz (lt_cellB hk)).trans hk)
  obtain ⟨r, hrr⟩ : ∃ r, pkS (L.map Prod.fst) (same 0 name) = r := ⟨_, rfl⟩
  rw [hrr] at hc ⊢
  obtain ⟨b, t⟩ := r
  have HC := Lib.hid hc
  have HL := Lib.hid (hl.trans (hl1.mono hl.size))
  have HLT := Lib.hid hlt
  have HRB := Lib.hid (fun (Y : World) (hy : Below W1.heap.size W1 Y) => (hr1.next hy).rows)
  have HBX := Lib.hid (fun (Y : World) (hy : Below W1.heap.size W1 Y) => (show BoxA Y w.heap.size 26 #[.int .i64 0, .string { data := #[] }, .string { data := #[] }, .string { data := #[] }, .bool false, .slice none 0 0, .slice none 0 0] from (BoxA.next hbx hl1).next hy))
  have HNA := Lib.hid (named_any name W)
  have HW := Lib.hid hW
  rw [hW1] at HNA
  clear hc hk hl hl1 h hI hrr hr1 hbx hb1 hW hW1 hlt
  go_enter Tryz.func23, Tryz.ntmps23
  go_upto_region 1 with fail
  rw [HW.out]
  go_wp2_with (first
    | (go_at_call 46; ((with_reducible refine HNA.out.mono ?_); rintro e w4 ⟨rfl, rfl⟩))
    | (go_at_call 57; ((with_reducible refine HC.out.mono ?_); rintro e w5 ⟨g, rfl, ht, hbi, hcb, hb5⟩); have T5 := Lib.hid (And.intro ht (And.intro hbi hcb)); have B5 := Lib.hid hb5; clear ht hbi hcb hb5; unfold bV bcs)
    | (refine wpList_store_row rfl _ _ _ rfl w.heap.size #[.int .i64 b.job, .string (str b.name), .string (str b.user), .string (str b.pool), .bool b.opn, g.e, g.r] rfl rfl _ _ (HBX.out _ B5.out) (by kernel_rfl) rfl (bcs_all (T5.out.1.rb (HRB.out _ B5.out))) ?_))
  refine bodyPost_ret (v := .tuple #[.agg #[.int .i64 b.job, .string (str b.name), .string (str b.user), .string (str b.pool), .bool b.opn, g.e, g.r], .bool t]) (res_ct (p := 4) (u := 5) rfl _ _ w.heap.size _ #[.int .i64 b.job, .string (str b.name), .string (str b.user), .string (str b.pool), .bool b.opn, g.e, g.r] _ _ rfl (setRow_heap _ _ _ _ _ _ (HBX.out _ B5.out)) Tryz.underlying26 rfl (by kernel_rfl)) rfl ?_
  exact ⟨g, rfl, (T5.out.1.set HLT.out _).mono (Nat.le_of_lt HLT.out), T5.out.2.1, T5.out.2.2, below_setRow (HL.out.trans (B5.out.mono HL.out.size)) (Nat.le_refl _) _⟩
theorem pof_any {w : World} {v : Value} {L : List (Bf × Gb)} (h : RBs w v L) (hI : BIs L) (job : Int) :
    Calls Tryz.prog 25 #[v, .int .i64 job] w (BufQ w L (ofS (L.map Prod.fst) job).1 (ofS (L.map Prod.fst) job).2) := by
  rw [ofS_pk]
  obtain ⟨W, hW⟩ : ∃ W, w.alloc (.cells #[.int .i64 0, .string { data := #[] }, .string { data := #[] }, .string { data := #[] }, .bool false, .slice none 0 0, .slice none 0 0] 26) = W := ⟨_, rfl⟩
  have hbx : BoxA W w.heap.size 26 #[.int .i64 0, .string { data := #[] }, .string { data := #[] }, .string { data := #[] }, .bool false, .slice none 0 0, .slice none 0 0] := by rw [← hW]; exact BoxA.new _ _ _
  have hl : Below w.heap.size w W := by rw [← hW]; exact (Below.refl _ _).alloc (Nat.le_refl _) _
  obtain ⟨W1, hW1⟩ : ∃ W1, W.alloc (.cells #[.int .i64 job] 2) = W1 := ⟨_, rfl⟩
  have hb1 : BoxA W1 W.heap.size 2 #[.int .i64 job] := by rw [← hW1]; exact BoxA.new _ _ _
  have hl1 : Below W.heap.size W W1 := by rw [← hW1]; exact (Below.refl _ _).alloc (Nat.le_refl _) _
  have hlt : w.heap.size < W1.heap.size := Nat.lt_of_lt_of_le (BoxA.lt hbx) hl1.size
  have hk : W1.cell? ⟨W.heap.size, 0, none⟩ = some (.int .i64 job) := BoxA.cell hb1 0 _ rfl
  have hr1 := (h.next hl).next hl1
  have hc := pick_any hr1 hI 81 #[.pointer (some ⟨W.heap.size, 0, none⟩)] (enters_of Tryz.func81 (by kernel_rfl) rfl) (same job []) fun Z q hz => own1_any Z W.heap.size job q ((low_cell hz (lt_cellB hk)).trans hk)
  obtain ⟨r, hrr⟩ : ∃ r, pkS (L.map Prod.fst) (same job []) = r := ⟨_, rfl⟩
  rw [hrr] at hc ⊢
  obtain ⟨b, t⟩ := r
  have HC := Lib.hid hc
  have HL := Lib.hid (hl.trans (hl1.mono hl.size))
  have HLT := Lib.hid hlt
  have HRB := Lib.hid (fun (Y : World) (hy : Below W1.heap.size W1 Y) => (hr1.next hy).rows)
  have HBX := Lib.hid (fun (Y : World) (hy : Below W1.heap.size W1 Y) => (show BoxA Y w.heap.size 26 #[.int .i64 0, .string { data := #[] }, .string { data := #[] }, .string { data := #[] }, .bool false, .slice none 0 0, .slice none 0 0] from (BoxA.next hbx hl1).next hy))
  have HNA := Lib.hid (bown_any job W)
  have HW := Lib.hid hW
  rw [hW1] at HNA
  clear hc hk hl hl1 h hI hrr hr1 hbx hb1 hW hW1 hlt
  go_enter Tryz.func25, Tryz.ntmps25
  go_upto_region 1 with fail
  rw [HW.out]
  go_wp2_with (first
    | (go_at_call 56; ((with_reducible refine HNA.out.mono ?_); rintro e w4 ⟨rfl, rfl⟩))
    | (go_at_call 57; ((with_reducible refine HC.out.mono ?_); rintro e w5 ⟨g, rfl, ht, hbi, hcb, hb5⟩); have T5 := Lib.hid (And.intro ht (And.intro hbi hcb)); have B5 := Lib.hid hb5; clear ht hbi hcb hb5; unfold bV bcs)
    | (refine wpList_store_row rfl _ _ _ rfl w.heap.size #[.int .i64 b.job, .string (str b.name), .string (str b.user), .string (str b.pool), .bool b.opn, g.e, g.r] rfl rfl _ _ (HBX.out _ B5.out) (by kernel_rfl) rfl (bcs_all (T5.out.1.rb (HRB.out _ B5.out))) ?_))
  refine bodyPost_ret (v := .tuple #[.agg #[.int .i64 b.job, .string (str b.name), .string (str b.user), .string (str b.pool), .bool b.opn, g.e, g.r], .bool t]) (res_ct (p := 4) (u := 5) rfl _ _ w.heap.size _ #[.int .i64 b.job, .string (str b.name), .string (str b.user), .string (str b.pool), .bool b.opn, g.e, g.r] _ _ rfl (setRow_heap _ _ _ _ _ _ (HBX.out _ B5.out)) Tryz.underlying26 rfl (by kernel_rfl)) rfl ?_
  exact ⟨g, rfl, (T5.out.1.set HLT.out _).mono (Nat.le_of_lt HLT.out), T5.out.2.1, T5.out.2.2, below_setRow (HL.out.trans (B5.out.mono HL.out.size)) (Nat.le_refl _) _⟩
end Go.Proofs.YtkjffoebcblpoaaGreat.gn
end
