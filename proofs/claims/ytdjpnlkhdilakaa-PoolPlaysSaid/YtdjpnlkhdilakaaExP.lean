/- Delete, shorten: the contracts. -/
import Derived.Test.YtdjpnlkhdilakaaExO
import Derived.Deep.RegionLaw
import Derived.Lib.SliceRun
set_option linter.unusedVariables false
namespace Go.Proofs.Ytdjpnlkhdilakaa.gn
open Go.RowKit Go.Shelf Go.Sort Go.Lib
open Go.Proofs.Ytdjpnlkhdilakaa.ex

attribute [local go_sem] Oper.semAt_some

theorem step_app_fits {ops : Array Oper} {o : Oper} {a : Act} {w : World} {K : Act → World → Prop} {Q : Exit → Act → World → Prop} {E : Prop} (hgd : o.guard = none) (s x : Operand)
    (ho : o.op = .call { callee := .builtin .append, args := #[s, x], argTypes := #[22, 22] })
    (base g k cap : Nat) (xs : List Value) (hs : a.eval s = .slice (some ⟨g, 0, none⟩) k cap) (hown : w.ownsRow base 54 2 (.slice (some ⟨g, 0, none⟩) k cap) k xs)
    (ad : Addr) (m c : Nat) (news : List Value) (hx : a.eval x = .slice (some ad) m c) (hn : news.length = m * 2) (hc : ∀ j u, news[j]? = some u → w.cell? (ad.add j) = some u) (h1c : ∀ u ∈ news, u.oneCell' = true) (b1 : k + m ≤ cap)
    (hK : ∀ w', w'.ownsRow base 54 2 (.slice (some ⟨g, 0, none⟩) (k + m) cap) (k + m) (xs ++ news) → w.grownBy w' (some g) → K (a.put o.dst (.slice (some ⟨g, 0, none⟩) (k + m) cap)) w') :
    if Region.wanted o (yielded ops a.tmps) = true then Oper.wp Try.prog o a w K Q else E := by
  obtain ⟨i0, hi0, hi1, hi2, hi3⟩ := extI
  have hw : Region.wanted o (yielded ops a.tmps) = true := by simp [Region.wanted, hgd]
  rw [if_pos hw]
  obtain ⟨w', hrun, r1, r2⟩ := run_append_fits (P := Try.prog) w base 22 o.type 54 i0 2 Try.underlying22 hi0 hi2 g k cap xs hown ad m c news hn hc h1c b1
  unfold Oper.wp
  simp [execOp, ho, resolve, invoke, builtin, hs, hx, hrun, Result.andThen]
  exact hK w' r1 r2

theorem own_prefix {w : World} {base g n cap k : Nat} {xs : List Value} (h : w.ownsRow base 54 2 (.slice (some ⟨g, 0, none⟩) n cap) n xs) (hk : k ≤ n) :
    w.ownsRow base 54 2 (.slice (some ⟨g, 0, none⟩) k cap) k (xs.take (k * 2)) := by
  obtain ⟨h1, ⟨h2, _⟩ | ⟨g', cap', cur, h2, hb, hg, hn, hm, hcs, ht⟩⟩ := h
  · cases h2
  · cases h2
    refine ⟨by rw [List.length_take, h1]; omega, .inr ⟨g, cap, cur, rfl, hb, hg, by omega, hm, hcs, ?_⟩⟩
    rw [← ht, List.take_take]
    congr 1
    omega
theorem fl_take (l : List X) (k : Nat) (hk : k ≤ l.length) : (fl l).take (k * 2) = fl (l.take k) := by
  have e : fl l = fl (l.take k) ++ fl (l.drop k) := by rw [← fl_append, List.take_append_drop]
  rw [e, List.take_append_of_le_length (by rw [fl_length, List.length_take]; omega), List.take_of_length_le (by rw [fl_length, List.length_take]; omega)]
theorem run_clear2 {w : World} {base g n cap c : Nat} {xs : List Value} (h : w.ownsRow base 54 2 (.slice (some ⟨g, 0, none⟩) n cap) n xs) (hk : n < cap) (ty : TypeId) :
    (Builtin.clear_ #[22] ty #[.slice (some ⟨g, n * 2, none⟩) 1 c]).run Try.prog w = .ok (.tuple #[]) ((w.setCell ⟨g, n * 2, none⟩ (.int .i64 0)).setCell ⟨g, n * 2 + 1, none⟩ (.int .i64 0)) := by
  obtain ⟨h1, ⟨h2, _⟩ | ⟨g', cap', cur, h2, hb, hg, hn, hm, hcs, ht⟩⟩ := h
  · cases h2
  · cases h2
    have hz : (Builtin.zeroCells (Value.agg #[.int .i64 0, .int .i64 0]).cells 1).toList = [.int .i64 0, .int .i64 0] := by kernel_rfl
    have hst := run_storeCells_cells (P := Try.prog) g (n * 2) [.int .i64 0, .int .i64 0] 0 w (fun j hj => by
      rw [cell_of_row w g _ cur _ (0, 0) hg]
      simp only [List.length_cons, List.length_nil] at hj
      rw [Array.getElem?_eq_getElem (by omega)]; rfl) (fun j hj => frozen_of_row w g _ cur _ hg) (by intro u hu; simp at hu; rw [hu]; rfl)
    simp only [Nat.add_zero] at hst
    simp [Builtin.clear_, run_underlying Try.underlying22, Try.zeroValue54, hz, hst, World.setCells]

theorem fl_drop (l : List X) (k : Nat) (hk : k ≤ l.length) : (fl l).drop (k * 2) = fl (l.drop k) := by
  have e : fl l = fl (l.take k) ++ fl (l.drop k) := by rw [← fl_append, List.take_append_drop]
  rw [e, List.drop_append_of_le_length (by rw [fl_length, List.length_take]; omega), List.drop_of_length_le (by rw [fl_length, List.length_take]; omega), List.nil_append]
theorem grown_undrew {w w1 : World} {r : Option Nat} (h : w.drew.grownBy w1 r) : w.grownBy w1 r := ⟨h.os, h.tape, h.output, h.size, h.block⟩
theorem del_end {base : Nat} {w w1 : World} {g cap n : Nat} {xs : List Value} (r1 : w1.ownsRow base 54 2 (.slice (some ⟨g, 0, none⟩) n cap) n xs) (r2 : w.grownBy w1 (some g)) (u v : Value) :
    ((w1.setCell ⟨g, n * 2, none⟩ u).setCell ⟨g, n * 2 + 1, none⟩ v).ownsRow base 54 2 (.slice (some ⟨g, 0, none⟩) n cap) n xs ∧ w.grownBy ((w1.setCell ⟨g, n * 2, none⟩ u).setCell ⟨g, n * 2 + 1, none⟩ v) (some g) := by
  have h1 := r1.1
  have e1 : xs.set (n * 2) u = xs := List.set_eq_of_length_le (by omega)
  have e2 : xs.set (n * 2 + 1) v = xs := List.set_eq_of_length_le (by omega)
  have a := World.ownsRow.stored r1 (n * 2) u
  rw [e1] at a
  have b := World.ownsRow.stored a.1 (n * 2 + 1) v
  rw [e2] at b
  exact ⟨b.1, ⟨(b.2.os.trans a.2.os).trans r2.os, (b.2.tape.trans a.2.tape).trans r2.tape, (b.2.output.trans a.2.output).trans r2.output, Nat.le_trans r2.size (Nat.le_trans a.2.size b.2.size), fun k hk hne => (b.2.block k (Nat.lt_of_lt_of_le hk (Nat.le_trans r2.size a.2.size)) hne).trans ((a.2.block k (Nat.lt_of_lt_of_le hk r2.size) hne).trans (r2.block k hk hne))⟩⟩

set_option maxHeartbeats 2000000 in
set_option maxRecDepth 100000 in
theorem delete_any {base : Nat} {w : World} {g cap i : Nat} {l : List X} (h : OwnX base w (.slice (some ⟨g, 0, none⟩) l.length cap) l) (hi : i < l.length) (hl : l.length ≤ 4000) :
    Calls Try.prog 60 #[.slice (some ⟨g, 0, none⟩) l.length cap, .int .i64 i, .int .i64 ((i : Int) + 1)] w fun e w' => ∃ v', e = .returned v' ∧ OwnX base w' v' (l.eraseIdx i) ∧ w.grownBy w' (some g) ∧ v'.ownBlock = some g := by
  have hcap : l.length ≤ cap ∧ cap ≤ maxLen := by
    obtain ⟨h1, ⟨h2, _⟩ | ⟨g', cap', cur, h2, hb, hg, hn, hm, hcs, ht⟩⟩ := h
    · cases h2
    · cases h2; exact ⟨hn, hm⟩
  obtain ⟨hc1, hc2⟩ := hcap
  unfold maxLen at hc2
  have hp := own_prefix h (Nat.le_of_lt hi)
  rw [fl_take l i (Nat.le_of_lt hi)] at hp
  have hrd := h.rd
  have HS : Hid (w.drew.ownsRow base 54 2 (.slice (some ⟨g, 0, none⟩) i cap) i (fl (l.take i))) := hp
  have hic : i ≤ cap := by omega
  have hjc : i + 1 ≤ cap := by omega
  have mixed : Try.prog.follows .mixedOrders = true := by kernel_rfl
  have hne : ((i : Int) == (i : Int) + 1) = false := beq_eq_false_iff_ne.2 (by omega)
  have hwi : IntKind.i64.wrap ((i : Int) + 1) = (i : Int) + 1 := by rw [IntKind.wrap_i64]; omega
  have hit : ((i : Int) + 1).toNat = i + 1 := by omega
  clear hp
  by_cases hcase : cap = i + 1
  · have hlen : l.length = i + 1 := by omega
    have hdr : l.drop (i + 1) = [] := by rw [List.drop_eq_nil_iff]; omega
    subst hcase
    have HIM : Hid (i + 0 ≤ i + 1) := Nat.le_succ _
    have HIC : Hid (i + 0 < i + 1) := Nat.lt_succ_self _
    have i0 : (0 : Int) ≤ (i : Int) + 1 := by omega
    have i4 : ¬ i + 1 = i := by omega
    have i9 : (i : Int) ≤ (i : Int) + 1 := by omega
    have i8 : i + 1 - i = 1 := by omega
    have HD := Lib.hid hdr
    clear h hrd hdr
    go_enter Try.func60, Try.ntmps60
    go_upto_region 5 with fail
    go_region_law_o (go_loud (refine step_app_fits rfl (.tmp 22) (.tmp 25) rfl base g i (i + 1) (fl (l.take i)) (by simp [Act.eval, Act.put]) HS.out ⟨g, 0, none⟩ 0 0 [] (by simp [Act.eval, Act.put]) rfl (fun j u hu => by cases hu) (fun u hu => by cases hu) HIM.out ?_; intro w1 r1 r2; have R1 := Lib.hid (And.intro r1 r2); clear r1 r2))
    have hcl := fun (ty : TypeId) (c : Nat) => run_clear2 (c := c) R1.out.1 HIC.out ty
    rw [Nat.add_zero] at hcl
    go_wp2
    go_ret
    refine ⟨_, rfl, ?_, (del_end R1.out.1 (grown_undrew R1.out.2) _ _).2, rfl⟩
    have e1 : (l.eraseIdx i).length = i := by rw [List.length_eraseIdx_of_lt hi]; omega
    unfold OwnX
    rw [e1, erase_split, HD.out, List.append_nil]
    have := (del_end R1.out.1 R1.out.2 (.int .i64 0) (.int .i64 0)).1
    rw [List.append_nil] at this
    exact this
  · have HN : Hid (∀ j u, (fl (l.drop (i + 1)))[j]? = some u → w.drew.cell? ((⟨g, (i + 1) * 2, none⟩ : Addr).add j) = some u) := by
      show ∀ j u, _ → w.cell? _ = some u
      intro j u hu
      rw [← fl_drop l (i + 1) (by omega), List.getElem?_drop] at hu
      have := World.ownsRow.cells h rfl _ _ hu
      rw [Addr.add_lit] at this ⊢
      rw [← this, Nat.zero_add]
    have hlen : l.length = i + 1 + (l.length - (i + 1)) := by omega
    generalize hm : l.length - (i + 1) = m at *
    have HL := Lib.hid hlen
    have HN1 : Hid ((fl (l.drop (i + 1))).length = m * 2) := by show _ = _; rw [fl_length, List.length_drop]; omega
    have HIM : Hid (i + m ≤ cap) := by show _ ≤ _; omega
    have HIC : Hid (i + m < cap) := by show _ < _; omega
    have i0 : (0 : Int) ≤ (i : Int) + 1 := by omega
    have i1 : (i : Int) + 1 ≤ (i : Int) + 1 + (m : Int) := by omega
    have i2 : (i : Int) + (m : Int) ≤ (i : Int) + 1 + (m : Int) := by omega
    have i3 : (0 : Int) ≤ (i : Int) + (m : Int) := by omega
    have i4 : ¬ cap = i + m := by omega
    have i5 : (((i : Int) + (m : Int))).toNat = i + m := by omega
    have i6 : (((i : Int) + 1 + (m : Int))).toNat = i + 1 + m := by omega
    have i7 : (i : Int) + 1 + (m : Int) ≤ (cap : Int) := by omega
    have i8 : i + 1 + m - (i + m) = 1 := by omega
    have HO := Lib.hid h
    clear h hrd
    go_enter Try.func60, Try.ntmps60
    go_upto_region 5 with fail
    go_region_law_o (go_loud (refine step_app_fits rfl (.tmp 22) (.tmp 25) rfl base g i cap (fl (l.take i)) (by simp [Act.eval, Act.put]) HS.out ⟨g, (i + 1) * 2, none⟩ m (cap - (i + 1)) (fl (l.drop (i + 1))) (by simp [Act.eval, Act.put]) HN1.out HN.out (fl_one _) HIM.out ?_; intro w1 r1 r2; have R1 := Lib.hid (And.intro r1 r2); clear r1 r2))
    have hcl := fun (ty : TypeId) (c : Nat) => run_clear2 (c := c) R1.out.1 HIC.out ty
    go_wp2
    go_ret
    refine ⟨_, rfl, ?_, (del_end R1.out.1 (grown_undrew R1.out.2) _ _).2, rfl⟩
    have e1 : (l.eraseIdx i).length = i + m := by rw [List.length_eraseIdx_of_lt hi]; omega
    unfold OwnX
    rw [e1, erase_split, fl_append]
    exact (del_end R1.out.1 R1.out.2 _ _).1
end Go.Proofs.Ytdjpnlkhdilakaa.gn
