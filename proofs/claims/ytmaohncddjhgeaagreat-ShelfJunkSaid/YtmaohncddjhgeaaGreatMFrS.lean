/- The contract of Scan. -/
import Derived.Test.YtmaohncddjhgeaaGreatMFrI
import Derived.Test.YtmaohncddjhgeaaGreatMGenStrs
import Derived.Maps.AppendAt
import Derived.BigQuiet
import Derived.IntWalk
import Derived.WalkMore
import Derived.Deep.QuietTactic
section
namespace Go.Proofs.YtmaohncddjhgeaaGreat.gn
open Go.RowKit Go.Shelf
open Go.Proofs.YtmaohncddjhgeaaGreat.sl

attribute [local go_sem] Oper.semAt_some

theorem frames_any (b : List UInt8) (w : World) :
    Calls Tryz.prog 125 #[.string (str b)] w fun e w' => e = .returned (.func (.func 138) #[] #[.pointer (some ⟨w.heap.size, 0, none⟩)]) ∧ w.alloc (.cells #[.string (str b)] 9) = w' := by
  go_enter Tryz.func125, Tryz.ntmps125
  go_wp2
  go_ret
  exact ⟨rfl, rfl⟩

/-- What an append leaves, where the row lies behind n₁ and the variable's box ahead of it. -/
theorem app_box {W w1 : World} {n₀ n₁ B : Nat} {t e : TypeId} {v v' : Value} {k m : Nat} {xs ys : List Value} {tmp : Obj}
    (hv : Boxed W B t v) (hBn : B < n₁) (hB : n₀ ≤ B) (hrow : W.ownsRow n₁ e 1 v k xs) (hn : n₁ ≤ W.heap.size)
    (hown' : w1.ownsRow n₁ e 1 v' m ys) (hgrow : (W.alloc tmp).grownBy w1 v.ownBlock) :
    Boxed w1 B t v ∧ (w1.setCell ⟨B, 0, none⟩ v').ownsRow n₁ e 1 v' m ys ∧ KeepsOthers W (w1.setCell ⟨B, 0, none⟩ v') ∧ Below n₀ W (w1.setCell ⟨B, 0, none⟩ v') ∧
      (∀ j, j < n₁ → j ≠ B → (w1.setCell ⟨B, 0, none⟩ v').heap[j]? = W.heap[j]?) ∧ (∀ j, j < n₁ → w1.heap[j]? = W.heap[j]?) := by
  have hne : ∀ {A : World} {u : Value} {i : Nat} {zs : List Value}, A.ownsRow n₁ e 1 u i zs → ∀ j, j < n₁ → some j ≠ u.ownBlock := fun h j hj e' => by
    rcases h.2 with ⟨rfl, _⟩ | ⟨g, cap, cur, rfl, hg, _⟩
    · simp [Value.ownBlock] at e'
    · obtain rfl : j = g := by simpa [Value.ownBlock] using e'
      omega
  have hge : ∀ j, v.ownBlock = some j → n₁ ≤ j ∧ ∃ cs ft, W.heap[j]? = some (.cells cs e ft) := fun j ej => by
    rcases hrow.2 with ⟨rfl, _⟩ | ⟨g, cap, cur, rfl, hg, hgb, _⟩
    · simp [Value.ownBlock] at ej
    · obtain rfl : g = j := by simpa [Value.ownBlock] using ej
      exact ⟨hg, _, _, hgb⟩
  have hsz : W.heap.size ≤ w1.heap.size := by have := hgrow.size; simp at this; omega
  have hold : ∀ j, j < n₁ → w1.heap[j]? = W.heap[j]? := fun j hj =>
    (hgrow.block j (by simp; omega) (hne hrow j hj)).trans (Below.heap_alloc W tmp j (by omega))
  refine ⟨(hold B hBn).trans hv, hown'.kept (grownBy_setCell' w1 B v') (.inr fun e' => hne hown' B hBn e'.symm), ?_, ?_, fun j hj hjB => ?_, hold⟩
  · refine ((KeepsOthers.alloc W tmp).trans (KeepsOthers.of_grownBy hgrow fun j o ej hj => ?_)).trans (KeepsOthers.setCell _ _ _)
    obtain ⟨h1, cs, ft, h2⟩ := hge j ej
    rw [Below.heap_alloc W tmp j (Array.getElem?_eq_some_iff.1 h2).1, h2] at hj
    cases hj; rfl
  · exact (((Below.refl n₀ W).alloc (by omega) tmp).grown hgrow (by simp; omega) fun j ej => by have := (hge j ej).1; omega).setCell (p := ⟨B, 0, none⟩) hB v'
  · rw [Below.heap_setCell _ _ _ _ (fun e => hjB e)]
    exact hold j hj

theorem Ss.mono {w : World} {B B' : Nat} {v : Value} {L : List (List UInt8)} (h : Ss w B v L) (hB : B' ≤ B) : Ss w B' v L := by
  refine ⟨h.1, ?_⟩
  rcases h.2 with hn | ⟨g, cap, cur, hv, hg, rest⟩
  · exact .inl hn
  · exact .inr ⟨g, cap, cur, hv, Nat.le_trans hB hg, rest⟩
/-- How it stands between two rounds. -/
def ScanI (xs : List (List UInt8)) (w : World) (i : Nat) (W : World) : Prop :=
  (∃ v, Boxed W w.heap.size 32 v ∧ Ss W (w.heap.size + 3) v (xs.take i)) ∧ Boxed W (w.heap.size + 1) 3 (.int .i64 (cost (xs.take i) : Nat)) ∧ Below w.heap.size w W ∧ w.heap.size + 3 ≤ W.heap.size
theorem scanI_kept {xs : List (List UInt8)} {w : World} {i : Nat} {A B : World} {row : Option Nat} (h : ScanI xs w i A) (hg : A.grownBy B row)
    (hr : ∀ r, row = some r → r = w.heap.size + 2 ∨ (w.heap.size + 3 ≤ r ∧ ∃ o, A.heap[r]? = some o ∧ o.isCells = false)) : ScanI xs w i B := by
  obtain ⟨⟨v, hv, hs⟩, hn, hb, hz⟩ := h
  refine ⟨⟨v, hv.kept hg (fun e => ?_), World.ownsRow.kept hs hg ?_⟩, hn.kept hg (fun e => ?_), hb.grown hg hb.size (fun k e => ?_), Nat.le_trans hz hg.size⟩
  · rcases hr _ e.symm with h | ⟨h, _⟩ <;> omega
  · rcases hs.2 with ⟨rfl, _⟩ | ⟨g, cap, cur, rfl, h1, hgb, _⟩
    · exact .inl rfl
    · refine .inr fun e => ?_
      rcases hr g (by simpa [Value.ownBlock] using e.symm) with h | ⟨h, o, ho, hc⟩
      · omega
      · rw [hgb] at ho; cases ho; cases hc
  · rcases hr _ e.symm with h | ⟨h, _⟩ <;> omega
  · rcases hr k e with h | ⟨h, _⟩ <;> omega

/-- Behind a round. -/
theorem scan_round {xs L : List (List UInt8)} {w W w1 : World} {i c D g cap : Nat} {x : Int} {s : List UInt8}
    (hr : (w1.setCell ⟨w.heap.size, 0, none⟩ (.slice (some ⟨g, 0, none⟩) (L.length + 1) cap)).ownsRow (w.heap.size + 3) 9 1 (.slice (some ⟨g, 0, none⟩) (L.length + 1) cap) (L.length + 1) ((L.map fun s => .string (str s)) ++ [.string (str s)]))
    (hk : KeepsOthers W (w1.setCell ⟨w.heap.size, 0, none⟩ (.slice (some ⟨g, 0, none⟩) (L.length + 1) cap)))
    (hb2 : Below w.heap.size W (w1.setCell ⟨w.heap.size, 0, none⟩ (.slice (some ⟨g, 0, none⟩) (L.length + 1) cap)))
    (ho : ∀ j, j < w.heap.size + 3 → j ≠ w.heap.size → (w1.setCell ⟨w.heap.size, 0, none⟩ (.slice (some ⟨g, 0, none⟩) (L.length + 1) cap)).heap[j]? = W.heap[j]?)
    (hn : Boxed W (w.heap.size + 1) 3 (.int .i64 (c : Nat))) (hb : Below w.heap.size w W) (hz : w.heap.size + 3 ≤ W.heap.size)
    (ht : xs.take (i + 1) = L ++ [s]) (hx : x = ((cost (xs.take (i + 1)) : Nat) : Int)) (hL : Boxed (w1.setCell ⟨w.heap.size, 0, none⟩ (.slice (some ⟨g, 0, none⟩) (L.length + 1) cap)) w.heap.size 32 (.slice (some ⟨g, 0, none⟩) (L.length + 1) cap)) :
    goesOn D (w.heap.size + 1 + 1) (ScanI xs w (i + 1)) W .normal { tmps := #[], defers := [] } ((w1.setCell ⟨w.heap.size, 0, none⟩ (.slice (some ⟨g, 0, none⟩) (L.length + 1) cap)).setCell ⟨w.heap.size + 1, 0, none⟩ (.int .i64 x)).drew := by
  obtain ⟨W2, hW2⟩ : ∃ W2, W2 = w1.setCell ⟨w.heap.size, 0, none⟩ (.slice (some ⟨g, 0, none⟩) (L.length + 1) cap) := ⟨_, rfl⟩
  rw [← hW2] at hr hk hb2 ho hL ⊢
  have hg := grown_set W2 (w.heap.size + 1) (.int .i64 x)
  have hn2 : Boxed W2 (w.heap.size + 1) 3 (.int .i64 (c : Nat)) := (ho _ (by omega) (by omega)).trans hn
  have hn3 : Boxed (W2.setCell ⟨w.heap.size + 1, 0, none⟩ (.int .i64 x)).drew (w.heap.size + 1) 3 (.int .i64 x) := hn2.set _
  refine ⟨(hk.trans ((KeepsOthers.setCell W2 _ _).trans (KeepsOthers.drew _))).from D, ?_, ⟨_, hL.kept hg (fun e => by simp at e), ?_⟩, by rw [← hx]; exact hn3, (hb.trans hb2).grown hg (hb.trans hb2).size (fun k e => by cases e; omega), ?_⟩
  · rw [hg.block _ (by have := hb2.size; omega) (by simp), ho _ (by omega) (by omega)]
  · unfold Ss
    rw [ht, List.length_append, List.map_append]
    refine World.ownsRow.kept hr hg (.inr fun e => ?_)
    rcases hr.2 with ⟨h, _⟩ | ⟨g', cap', cur, h, hg', _⟩
    · cases h
    · injection h with h1; injection h1 with h1; injection h1 with h1
      simp only [Value.ownBlock, Option.some.injEq] at e
      omega
  · have h1 := hb2.size
    have h2 := hg.size
    omega

set_option maxRecDepth 100000 in
set_option maxHeartbeats 8000000 in
theorem scan_any (b : List UInt8) (hl : b.length ≤ 1099511627776) (w : World) :
    Calls Tryz.prog 91 #[.string (str b)] w fun e w' => ∃ v, e = .returned (.tuple #[v, .int .i64 (cost (scan b) : Nat)]) ∧ Ss w' w.heap.size v (scan b) ∧ Below w.heap.size w w' := by
  obtain ⟨i0, hi0, hz0, hz1, hz2⟩ := info_parts Tryz.info9
  have HI := Lib.hid (And.intro hi0 (And.intro hz0 (And.intro hz1 hz2)))
  clear hi0 hz0 hz1 hz2
  obtain ⟨xs, hxs⟩ : ∃ xs, xs = scan b := ⟨_, rfl⟩
  have hcx : cost xs ≤ 1099511627776 := by rw [hxs]; exact Nat.le_trans (scan_le b) hl
  have HX := Lib.hid hxs
  clear hxs
  refine (callsIn_wide (n := 6)).1 ?_
  refine callsIn_of_wp_marks Tryz.func91 rfl trivial ?_ rfl
  simp only [Tryz.ntmps91, List.size_toArray, List.length_cons, List.length_nil, Nat.reduceAdd, Nat.reduceSub, Array.replicate_succ, Array.replicate_zero, List.push_toArray, List.append_toArray, List.nil_append, List.cons_append]
  gi_wp2
  refine wpIn_wide.2 (wp_scope_straight ((wpIn_wide (n := 6)).1 ?_))
  gi_wp2
  refine wpIn_label ?_
  gi_wp2_with (refine ⟨trivial, ?_⟩; gi_at_call 125; refine (callsIn_wide.2 (frames_any b _)).mono ?_; rintro e w' ⟨rfl, rfl⟩)
  have hbb : BoxFr (((w.alloc (.cells #[.slice none 0 0] 32)).alloc (.cells #[.int .i64 0] 3)).alloc (.cells #[.string (str b)] 9)) (w.heap.size + 1 + 1) b := by
    have h := World.alloc_heap_new ((w.alloc (.cells #[.slice none 0 0] 32)).alloc (.cells #[.int .i64 0] 3)) (.cells #[.string (str b)] 9)
    rw [World.size_alloc, World.size_alloc] at h
    exact h
  have hI0 : ScanI xs w 0 (((w.alloc (.cells #[.slice none 0 0] 32)).alloc (.cells #[.int .i64 0] 3)).alloc (.cells #[.string (str b)] 9)) := by
    have bL := ((Boxed.new w 32 (.slice none 0 0)).alloc (.cells #[.int .i64 0] 3)).alloc (.cells #[.string (str b)] 9)
    have bN := (Boxed.new (w.alloc (.cells #[.slice none 0 0] 32)) 3 (.int .i64 0)).alloc (.cells #[.string (str b)] 9)
    rw [World.size_alloc] at bN
    exact ⟨⟨_, bL, by rw [List.take_zero]; exact Ss_nil _ _⟩, bN, (((Below.refl _ w).alloc (Nat.le_refl _) _).alloc (by simp) _).alloc (by simp; omega) _, by simp⟩
  have hsz : (((w.alloc (.cells #[.slice none 0 0] 32)).alloc (.cells #[.int .i64 0] 3)).alloc (.cells #[.string (str b)] 9)).heap.size = w.heap.size + 3 := by simp
  obtain ⟨W0, hW0⟩ : ∃ W0, ((w.alloc (.cells #[.slice none 0 0] 32)).alloc (.cells #[.int .i64 0] 3)).alloc (.cells #[.string (str b)] 9) = W0 := ⟨_, rfl⟩
  rw [hW0] at hbb hI0 hsz ⊢
  clear hW0
  have hseq := frames1_in 5 (by omega) (w.heap.size + 1 + 1) b W0 hbb (by omega)
  rw [← HX.out] at hseq
  refine range_box (by omega) rfl (enters_of Tryz.func138 (by kernel_rfl) rfl) hseq hbb.lt (fun _ => rfl) (ScanI xs w) (ScanI xs w xs.length) 0
    (fun i A B row h hg hr => scanI_kept h hg fun r e => by
      rcases hr r e with h | ⟨h, o⟩
      · exact .inl h
      · exact .inr ⟨by omega, o⟩)
    (fun A B row h hg hr => scanI_kept h hg fun r e => by
      rcases hr r e with h | ⟨h, o⟩
      · exact .inl h
      · exact .inr ⟨by omega, o⟩)
    hI0 (fun i => { tmps := #[.string (str b), undef, .slice none 0 0, .int .i64 0, .pointer (some ⟨w.heap.size, 0, none⟩), .pointer (some ⟨w.heap.size + 1, 0, none⟩), .string (str (xs[i]?.getD [])), .bool xs[i]?.isSome, .string (str b), .func (.func 138) #[] #[.pointer (some ⟨w.heap.size + 1 + 1, 0, none⟩)], .string (str (xs[i]?.getD [])), .bool xs[i]?.isSome, undef, undef, undef, undef, undef, undef, undef, undef, undef, undef, undef, undef, undef], defers := [] }) ?assign ?body ?last ?stop
  case assign =>
    intro l i W K hK
    dsimp only [encF]
    gi_wp2
    exact hK
  case body =>
    rintro l i W hi ⟨⟨v, hv, hs⟩, hn, hb, hz⟩ hbW
    have e : xs[i]? = some xs[i] := List.getElem?_eq_getElem hi
    rw [e]
    dsimp only [Option.getD, Option.isSome]
    have hs1 : (xs[i]).length ≤ cost xs := by have := cost_mem xs xs[i] (List.getElem_mem hi); omega
    have ht : xs.take (i + 1) = xs.take i ++ [xs[i]] := List.take_succ_eq_append_getElem hi
    have hc1 : cost (xs.take (i + 1)) = cost (xs.take i) + (20 + (xs[i]).length) := by rw [ht, cost_app, cost_one]
    have hc2 : cost (xs.take (i + 1)) ≤ cost xs := by
      have := cost_app (xs.take (i + 1)) (xs.drop (i + 1))
      rw [List.take_append_drop] at this
      omega
    have hc3 := cost_len (xs.take i)
    have HT := Lib.hid ht
    have HC1 := Lib.hid hc1
    generalize xs[i] = s at *
    clear e hi hc1 ht
    have hss : (str s).size = s.length := str_size s
    generalize xs.take i = L at *
    have hs' : W.ownsRow (w.heap.size + 3) 9 1 v L.length (L.map fun s => .string (str s)) := hs
    have hcl := hv.cell
    have hfl := hv.frozen
    generalize hcc : cost L = c at *
    have hcn := hn.cell
    have hfn := hn.frozen
    have HV := Lib.hid hv
    have HS := Lib.hid hs
    have HN := Lib.hid hn
    have HB := Lib.hid hb
    have HCC := Lib.hid hcc
    have HC2 := Lib.hid hc2
    have mixed : Tryz.prog.follows .mixedOrders = true := by kernel_rfl
    have hle : c + (20 + s.length) ≤ 1099511627776 := by have := HC1.out; omega
    obtain ⟨x, hx, hxc⟩ : ∃ x : Int, IntKind.i64.wrap ((c : Int) + ((s.length : Int) + 20)) = x ∧ x = ((cost (xs.take (i + 1)) : Nat) : Int) :=
      ⟨_, rfl, by rw [IntWalk.i64_in _ (by omega), HC1.out]; omega⟩
    have HXC := Lib.hid hxc
    clear hxc
    clear hv hs hn hb hcc hc2
    gi_wp2_with (gi_at_builtin; refine wpListIn_append_own _ rfl _ _ 32 rfl (w.heap.size + 3) 9 i0 (.string ⟨#[]⟩) 1 16 Tryz.underlying32 HI.out.1 HI.out.2.1 HI.out.2.2.1 HI.out.2.2.2 rfl (by decide) _ _ _ rfl (hs'.alloc _) ⟨W.heap.size, 0, none⟩ 1 1 [.string (str s)] rfl rfl (cell_one_new _ _ _) (by simp [Value.oneCell']) (by unfold maxLen; omega) (by omega) (by simp; omega) ?_; intro v' w1 hown' hgrow _; obtain ⟨g', cap', rfl⟩ := ownsRow_succ hown'; obtain ⟨hv1, hr2, hk2, hb2, ho2, ho1⟩ := app_box (n₀ := w.heap.size) HV.out (by omega) (Nat.le_refl _) hs' hz hown' hgrow; have hc1 := hv1.cell; have hf1 := hv1.frozen; have hn1 : Boxed w1 (w.heap.size + 1) 3 (.int .i64 (c : Nat)) := (ho1 _ (by omega)).trans HN.out; have hcn1 := hn1.cell; have hfn1 := hn1.frozen; have HR2 := Lib.hid hr2; have HK2 := Lib.hid hk2; have HB2 := Lib.hid hb2; have HO2 := Lib.hid ho2; have HL2 := Lib.hid (hv1.set (.slice (some ⟨g', 0, none⟩) (L.length + 1) cap')); clear hcl hfl hcn hfn hs' hown' hgrow hv1 hr2 hk2 hb2 ho2 ho1 hn1)
    gi_region_with_o (first
        | (gi_at_call 85; refine (CallsIn.inRound l (callsIn_wide.2 (cost_any s.length (by omega) _))).mono ?_; rintro e w4 ⟨rfl, rfl⟩)
        | (refine ⟨trivial, ?_⟩; gi_at_call 85; refine (CallsIn.inRound l (callsIn_wide.2 (cost_any s.length (by omega) _))).mono ?_; rintro e w4 ⟨rfl, rfl⟩))
    all_goals exact scan_round HR2.out HK2.out HB2.out HO2.out HN.out HB.out hz HT.out HXC.out HL2.out
  case last =>
    rintro l W hI
    have e : xs[xs.length]? = none := List.getElem?_eq_none (Nat.le_refl _)
    rw [e]
    dsimp only [Option.getD, Option.isSome]
    clear e
    gi_wp2
    exact ⟨rfl, KeepsFrom.refl _ _, hI⟩
  case stop =>
    intro D W hD ⟨⟨v, hv, hs⟩, hn, hb, hz⟩ hK
    rw [List.take_length] at hs hn
    have hcl := hv.cell
    have hcn := hn.cell
    have HS := Lib.hid hs
    have HB := Lib.hid hb
    clear hseq hI0 hbb hs hn hb hv
    gi_wp2
    refine wpIn_wide.2 ?_
    go_quiet (fail)
    have hK' : (W.drewN nq).heap[D]? = some (.deferred (some [])) := hK
    have HX2 : Hid (scan b = xs) := HX.out.symm
    rename_i K9 h9
    refine h9 _ _ ?_
    gi_wp2
    rw [Exit.noGoto_ret]
    refine ⟨by simp, .inl ⟨_, _, rfl, run_takeDeferred hK', ?_⟩⟩
    refine ⟨.tuple #[v, .int .i64 (cost xs : Nat)], by simp [results, Tryz.results91, go_sem], v, by rw [HX2.out], ?_, ?_⟩
    · rw [HX2.out]
      exact Ss.mono (ownsRow_putObj (W := W.drewN nq) HS.out _ hK' rfl) (by omega)
    · exact (below_drewN HB.out nq).trans (belowK_b (w := w) (Nat.le_refl _) (W.drewN nq) D _ _ (by omega) hK' rfl rfl)
end Go.Proofs.YtmaohncddjhgeaaGreat.gn
end
