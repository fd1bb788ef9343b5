/- joined: the iterator's contract. -/
import Derived.Test.YtdjpnlkhdilakaaExK
import Derived.Shelf.SlSortCmp.QuietGrown
import Derived.Sort.CutIn
set_option linter.unusedVariables false
namespace Go.Proofs.Ytdjpnlkhdilakaa.gn
open Go.RowKit Go.Shelf Go.Sort Go.Lib
open Go.Proofs.Ytdjpnlkhdilakaa.ex

attribute [local go_sem] Oper.semAt_some

theorem jn_cons (a b : Int) (x : X) (s : List X) : jn (a, b) (x :: s) = if x.1 = a + b then jn (a, b + x.2) s else (if 0 < b then [(a, b)] else []) ++ jn x s := rfl
theorem ok_drop {s : List X} (h : ex.Ok s) (k : Nat) : ex.Ok (s.drop k) := fun x hx => h x (List.mem_of_mem_drop hx)

set_option maxRecDepth 100000 in
set_option maxHeartbeats 4000000 in
theorem joined1_new (n : Nat) (hn : 1 ≤ n) (l : List X) (hl : l.length ≤ 4000) (ho : ex.Ok l) (ha : Apart l) (lB c : Nat) (v : Value) (w : World)
    (hB : Boxed w lB 22 v) (h : Rd w v l) (hc : c < w.heap.size) (hr : rowOf c w = none) :
    SeqK n Try.prog 66 #[.pointer (some ⟨lB, 0, none⟩)] (fun x : X => #[aggX x]) (KpR c) (fun ys => ys = nrm l) (fun _ => True) 4001 w := by
  intro l0 J Jx W hW hJ _ hY h0
  obtain ⟨p0, cp0, rfl⟩ := h.len
  have kB := (show Boxed W lB 22 (.slice p0 l.length cp0) from (hW.block lB (lt_of_block hB)).trans hB).cell
  have sB : lB < W.heap.size := Nat.lt_of_lt_of_le (lt_of_block hB) hW.size
  have hcW : c < W.heap.size := Nat.lt_of_lt_of_le hc hW.size
  have hrW : rowOf c W = none := by rw [rowOf_eq (hW.block c hc)]; exact hr
  have C1 := Lib.hid fun (W' : World) (hb : Below W.heap.size W W') => sorted_any ((h.next hW).next hb) hl
  have bD0 := Box2.new W 54 (.int .i64 0) (.int .i64 0)
  have HD0 := Lib.hid bD0
  have HY := Lib.hid hY
  have HJ := Lib.hid hJ
  have HL := Lib.hid (And.intro hl (And.intro ho ha))
  have HRW := Lib.hid hrW
  clear hY hJ hl ho ha hB h hr hrW bD0
  refine callsIn_of_wp Try.func66 rfl trivial ?_ rfl
  simp only [Try.ntmps66, List.size_toArray, List.length_cons, List.length_nil, Nat.reduceAdd, Nat.reduceSub, Array.replicate_succ, Array.replicate_zero, List.push_toArray, List.append_toArray, List.nil_append, List.cons_append]
  gi_wp2_with fail
  refine ⟨trivial, ?_⟩
  gi_at_call 53
  refine (callsIn_wide.2 (C1.out _ ((Below.refl _ W).alloc (Nat.le_refl _) _))).mono ?_
  rintro e w1 ⟨v1, s, rfl, hrd, hp, hi, hb, hown⟩
  obtain ⟨p1, cp1, hv1⟩ := hrd.rd.len
  subst hv1
  have H1 := Lib.hid (And.intro hrd (And.intro hp (And.intro hi (And.intro hb hown))))
  clear hrd hp hi hb hown
  obtain ⟨hrd, hp, hi, hb, hown⟩ := H1.out
  obtain ⟨hl, ho, ha⟩ := HL.out
  have hsl : s.length ≤ 4000 := by rw [hp.length_eq]; exact hl
  have hos := (ok_perm hp).2 ho
  have hup := inc_up hi hos ((apart_perm hp).2 ha)
  have hnrm := jn_nrm hp hi ho ha
  have hgW : ∀ g, (Value.slice p1 s.length cp1).ownBlock = some g → W.heap.size < g := fun g hg => by have := hown g hg; rw [World.size_alloc] at this; omega
  have hbW : Below W.heap.size W w1 := ((Below.refl _ W).alloc (Nat.le_refl _) _).trans (hb.mono (by simp))
  have er : rowOf c w1 = none := by rw [rowOf_eq (hbW.block c hcW)]; exact HRW.out
  have bD1 : Box2 w1 W.heap.size 54 (.int .i64 0) (.int .i64 0) := box2_next2 hb HD0.out
  have hji : JI c W.heap.size (.slice p1 s.length cp1) s w1 :=
    ⟨hrd, Nat.lt_of_lt_of_le hcW hbW.size, bD1.lt, by omega, fun g hg => by have := hgW g hg; omega, by rw [er]; simp, fun g _ => by rw [er]; simp, fun r hr => by rw [er] at hr; cases hr⟩
  have HS := Lib.hid (And.intro hos (And.intro hup hnrm))
  have HG := Lib.hid hgW
  have HJI := Lib.hid hji
  have HBD := Lib.hid bD1
  have HBW := Lib.hid hbW
  clear hrd hp hi hb hown hl ho ha hos hup hnrm hgW hbW er bD1 hji kB H1
  gi_wp2_with fail
  gi_loopw [9] (fun i wr => ∃ k : Nat, k ≤ s.length ∧ i = .int .i64 (k : Int) ∧ ∃ (pre : List X) (a b : Int), Box2 wr W.heap.size 54 (.int .i64 a) (.int .i64 b) ∧ nrm l = pre ++ jn (a, b) (s.drop k) ∧ J pre wr ∧ pre.length ≤ k ∧ JI c W.heap.size (.slice p1 s.length cp1) s wr ∧ (0 ≤ a ∧ 0 ≤ b ∧ a + b ≤ 1099511627776) ∧ W.heap.size ≤ wr.heap.size)
    (fun i _ => s.length - (intOf i).toNat)
  case atStart =>
    exact ⟨0, Nat.zero_le _, rfl, [], 0, 0, HBD.out, by rw [List.drop_zero, HS.out.2.2]; rfl, HJ.out [] W w1 none h0 (grown_new HBW.out) (fun r e => by cases e), Nat.zero_le _, HJI.out, by omega, HBW.out.size⟩
  case round =>
    obtain ⟨k, hk, rfl, pre, a, b, bD, hw, hJp, hpk, hji, hab, hWr⟩ := hrel
    by_cases hlt : k < s.length
    · rcases hji.rd with ⟨he, _⟩ | ⟨gb, off, cp, he, hbl, hcx⟩
      · exfalso; simp only [Value.slice.injEq] at he; omega
      · simp only [Value.slice.injEq, true_and] at he
        obtain ⟨rfl, rfl⟩ := he
        have hck := hcx k hlt
        have hox := ok_at HS.out.1 hlt
        rw [drop_at hlt, jn_cons] at hw
        generalize s[k]! = x at *
        obtain ⟨x1, x2⟩ := x
        have c0 := hck.1
        have c1 := hck.2
        unfold okx at hox
        dsimp only at c0 c1 hox hw
        clear hck hcx
        have hb2 : Below wr.heap.size wr (wr.alloc (boxX (x1, x2))) := (Below.refl _ _).alloc (Nat.le_refl _) _
        have bD2 := bD.alloc (boxX (x1, x2))
        have bX2 := Box2.new wr 54 (.int .i64 x1) (.int .i64 x2)
        have hji2 := hji.below hb2
        have hJ2 := HJ.out pre wr _ none hJp (grown_new hb2) (fun r e => by cases e)
        have hxr : some wr.heap.size ≠ rowOf c (wr.alloc (boxX (x1, x2))) := fun e => by
          have e2 : rowOf c (wr.alloc (boxX (x1, x2))) = rowOf c wr := rowOf_eq (hb2.block c hji.cl)
          rw [e2] at e
          have := hji.rl _ e.symm
          omega
        have hxc : wr.heap.size ≠ c := by have := hji.cl; omega
        have HI := Lib.hid (And.intro hb2 (And.intro hji2 (And.intro hJ2 (And.intro hxr (And.intro hxc (And.intro bD2 bX2))))))
        have HW := Lib.hid hw
        have d0 := bD.cell0
        have d1 := bD.cell1
        clear hJp hji hb2 hji2 hJ2 hxr hxc hw bD
        gi_upto_region 4 with fail
        obtain ⟨hb2, hji2, hJ2, hxr, hxc, bD2, bX2⟩ := HI.out
        generalize hw2 : wr.alloc (boxX (x1, x2)) = w2 at *
        have hWr2 : W.heap.size ≤ w2.heap.size := by rw [← hw2]; simp; omega
        generalize hxb : wr.heap.size = xb at *
        have qe := Lib.hid fun n os => Calls.grown_of (w := w2) (n := n) (os := os) ((end_any (a, b) (grow (w2.drewN n) os) (by unfold Sml; dsimp only; omega)).mono fun e w' h => ⟨h.1, 0, #[boxX (a, b)], h.2⟩)
        have ce := qe.out
        dsimp only at ce
        have f0 := fun n os => cell_grown (a := ⟨W.heap.size, 0, none⟩) bD2.lt bD2.cell0 n os
        have f1 := fun n os => cell_grown (a := ⟨W.heap.size, 1, none⟩) bD2.lt bD2.cell1 n os
        have g0 := fun n os => cell_grown (a := ⟨xb, 0, none⟩) bX2.lt bX2.cell0 n os
        have HI2 := Lib.hid (And.intro hb2 (And.intro hji2 (And.intro hJ2 (And.intro hxr (And.intro hxc (And.intro bD2 bX2))))))
        have mixed : Try.prog.follows .mixedOrders = true := by kernel_rfl
        have HOX := Lib.hid hox
        have HAB := Lib.hid hab
        clear hb2 hji2 hJ2 hxr hxc bD2 bX2 d0 d1 c0 c1 HI hox hab
        clear hw2
        refine wpIn_wide.2 ?_
        go_quiet_grown (first | (go_at_call 49; exact ce _ _))
        rename_i K9 h9
        refine h9 _ _ ?_
        clear h9 K9
        obtain ⟨hb2, hji2, hJ2, hxr, hxc, bD2, bX2⟩ := HI2.out
        have hb3 : Below w2.heap.size w2 (grow (w2.drewN nq) osq) := below_grow w2 nq osq
        generalize grow (w2.drewN nq) osq = w3 at *
        have hji3 := hji2.below hb3
        have bD3 := box2_next2 hb3 bD2
        have bX3 := box2_next2 hb3 bX2
        have hJ3 := HJ.out pre w2 w3 none hJ2 (grown_new hb3) (fun r e => by cases e)
        have hxr3 : some xb ≠ rowOf c w3 := by rw [rowOf_eq (hb3.block c hji2.cl)]; exact hxr
        have hWr3 : W.heap.size ≤ w3.heap.size := Nat.le_trans hWr2 hb3.size
        have hgD : ∀ g, (Value.slice (some ⟨gb, off, none⟩) s.length cp1).ownBlock = some g → g ≠ W.heap.size := fun g hg => by have := HG.out g hg; omega
        clear hb2 hji2 hJ2 hxr hb3 f0 f1 g0 ce qe mixed HI2
        have d0 := bD3.cell0
        have d1 := bD3.cell1
        have x0 := bX3.cell0
        have x1' := bX3.cell1
        have e0 := bD3.free 0
        have e1 := bD3.free 1
        have lD := bD3.lt
        have hox := HOX.out
        have hab := HAB.out
        have HI3 := Lib.hid (And.intro hji3 (And.intro bD3 (And.intro bX3 (And.intro hxr3 hgD))))
        clear hji3 bD3 bX3 hxr3 hgD
        by_cases hj : x1 = a + b
        · have hwr : IntKind.i64.wrap (b + x2) = b + x2 := by rw [IntKind.wrap_i64]; omega
          have heq : (x1 == a + b) = true := beq_iff_eq.2 hj
          have hnew : nrm l = pre ++ jn (a, b + x2) (s.drop (k + 1)) := by rw [HW.out, if_pos hj]
          have HN := Lib.hid (And.intro hnew (show 0 ≤ a ∧ 0 ≤ b + x2 ∧ a + (b + x2) ≤ 1099511627776 by omega))
          have HW3 := Lib.hid hWr3
          clear hnew hox hab hj hWr2 hWr3
          gi_wp2_with fail
          go_roundw
          case rel =>
            obtain ⟨hji3, bD3, bX3, hxr3, hgD⟩ := HI3.out
            exact ⟨k + 1, by omega, by go_num, pre, a, b + x2, bD3.setB _, HN.out.1, HJ.out pre _ _ _ hJ3 (grownBy_setCell2 _ W.heap.size 1 _) (fun r e => by cases e; exact ⟨Nat.le_refl _, Nat.le_refl _⟩), by omega, hji3.set hgD 1 _, HN.out.2, by simpa using HW3.out⟩
          case measure => simp [intOf]; omega
        · have heq : (x1 == a + b) = false := beq_eq_false_iff_ne.2 hj
          have hnew : nrm l = pre ++ ((if 0 < b then [(a, b)] else []) ++ jn (x1, x2) (s.drop (k + 1))) := by rw [HW.out, if_neg hj]
          have HX := Lib.hid (show 0 ≤ x1 ∧ 0 ≤ x2 ∧ x1 + x2 ≤ 1099511627776 by omega)
          have HW3 := Lib.hid hWr3
          by_cases hp : 0 < b
          · have hdp : decide (0 < b) = true := decide_eq_true hp
            rw [if_pos hp] at hnew
            have HN := Lib.hid hnew
            clear hnew hox hab hj hWr2 hWr3 hp
            obtain ⟨fn, tmps, assign, body, hy, hR⟩ := HY.out pre (a, b) w3 hJ3 (by omega) lD
            gi_wp2_with fail
            refine hR.mono ?_
            rintro e W4 (⟨rfl, hJ4, hk4⟩ | ⟨rfl, hJx4⟩)
            · obtain ⟨hji3, bD3, bX3, hxr3, hgD⟩ := HI3.out
              have hji4 := hji3.kp hk4
              have bD4 := KpR.box2 bD3 hk4 hji3.dc hji3.dr
              have bX4 := KpR.box2 bX3 hk4 hxc hxr3
              have y0 := bX4.cell0
              have y1 := bX4.cell1
              have u0 := bD4.free 0
              have u1 := bD4.free 1
              have v0 := bD4.cell0
              have v1 := bD4.cell1
              have lD4 := bD4.lt
              have hs4 := hk4.size
              have HI4 := Lib.hid (And.intro hji4 (And.intro bD4 (And.intro hgD (And.intro hJ4 hs4))))
              clear hji3 bD3 bX3 hxr3 hgD hji4 bD4 bX4 hk4 hJ4 hR hy d0 d1 x0 x1' e0 e1 hs4
              gi_wp2_with fail
              go_roundw
              case rel =>
                obtain ⟨hji4, bD4, hgD, hJ4, hs4⟩ := HI4.out
                exact ⟨k + 1, by omega, by go_num, pre ++ [(a, b)], x1, x2, bD4.set2 _ _, by rw [HN.out, List.append_assoc], HJ.out _ _ _ _ (HJ.out _ _ _ _ hJ4 (grownBy_setCell2 _ W.heap.size 0 _) (fun r e => by cases e; exact ⟨Nat.le_refl _, Nat.le_refl _⟩)) (grownBy_setCell2 _ W.heap.size 1 _) (fun r e => by cases e; exact ⟨Nat.le_refl _, Nat.le_refl _⟩), by simp; omega, (hji4.set hgD 0 _).set hgD 1 _, HX.out, by have := HW3.out; simp; omega⟩
              case measure => simp [intOf]; omega
            · clear hR hy
              gi_wp2_with fail
              refine bodyPost_ret (results_none rfl _ _ _) rfl ?_
              exact ⟨⟨_, rfl⟩, .inr ⟨_, trivial, hJx4⟩⟩
          · have hdp : decide (0 < b) = false := decide_eq_false hp
            rw [if_neg hp, List.nil_append] at hnew
            have HN := Lib.hid hnew
            clear hnew hox hab hj hWr2 hWr3 hp
            gi_wp2_with fail
            refine ⟨fun f h => (by cases h), ?_⟩
            gi_wp2_with fail
            go_roundw
            case rel =>
              obtain ⟨hji3, bD3, bX3, hxr3, hgD⟩ := HI3.out
              exact ⟨k + 1, by omega, by go_num, pre, x1, x2, bD3.set2 _ _, HN.out, HJ.out _ _ _ _ (HJ.out _ _ _ _ hJ3 (grownBy_setCell2 _ W.heap.size 0 _) (fun r e => by cases e; exact ⟨Nat.le_refl _, Nat.le_refl _⟩)) (grownBy_setCell2 _ W.heap.size 1 _) (fun r e => by cases e; exact ⟨Nat.le_refl _, Nat.le_refl _⟩), by omega, (hji3.set hgD 0 _).set hgD 1 _, HX.out, by have := HW3.out; simp; omega⟩
            case measure => simp [intOf]; omega
    · obtain rfl : k = s.length := by omega
      have hg : jn (a, b) (s.drop s.length) = if 0 < b then [(a, b)] else [] := by rw [List.drop_length]; rfl
      rw [hg] at hw
      clear hg
      have d0 := bD.cell0
      have d1 := bD.cell1
      by_cases hp : 0 < b
      · have hdp : decide (0 < b) = true := decide_eq_true hp
        rw [if_pos hp] at hw
        have HN := Lib.hid hw
        clear hw hp hab hji
        obtain ⟨fn, tmps, assign, body, hy, hR⟩ := HY.out pre (a, b) wr hJp (by omega) bD.lt
        gi_wp2_with fail
        refine hR.mono ?_
        rintro e W4 (⟨rfl, hJ4, hk4⟩ | ⟨rfl, hJx4⟩)
        · clear hR hy hJp
          gi_wp2
          go_end0
          exact ⟨⟨_, rfl⟩, .inl ⟨_, HN.out.symm, hJ4⟩⟩
        · clear hR hy hJp
          gi_wp2
          go_end0
          exact ⟨⟨_, rfl⟩, .inr ⟨_, trivial, hJx4⟩⟩
      · have hdp : decide (0 < b) = false := decide_eq_false hp
        rw [if_neg hp, List.append_nil] at hw
        have HN := Lib.hid (And.intro hw hJp)
        clear hw hp hab hji hJp
        gi_wp2
        go_end0
        exact ⟨⟨_, rfl⟩, .inl ⟨_, HN.out.1.symm, HN.out.2⟩⟩
end Go.Proofs.Ytdjpnlkhdilakaa.gn
