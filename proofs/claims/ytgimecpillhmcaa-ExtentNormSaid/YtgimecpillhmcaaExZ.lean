/- ExtentNorm: the walk (written by gen_exZ.py). -/
import Derived.Test.YtgimecpillhmcaaExX
set_option linter.unusedVariables false
namespace Go.Proofs.Ytgimecpillhmcaa.gn
open Go.RowKit Go.Shelf Go.Sort Go.Lib
open Go.Proofs.Ytgimecpillhmcaa.ex

attribute [local go_sem] Oper.semAt_some

theorem pair_at {J : List X} (h : Normal J) {k : Nat} (hk : k + 1 < J.length) : J[k]!.1 + J[k]!.2 < J[k + 1]!.1 := by
  have := (List.pairwise_iff_getElem.1 h.2) k (k + 1) (by omega) hk (by omega)
  rw [getElem!_pos J k (by omega), getElem!_pos J (k + 1) hk]
  exact this

set_option maxHeartbeats 8000000 in
set_option maxRecDepth 100000 in
theorem norm_law {w : World} {va vb : Value} {l m : List X} (ha : Rd w va l) (hb : Rd w vb m) (x : Int) : Calls Try.prog 5 #[va, vb, .int .i64 x] w (TellsB true w) := by
  obtain ⟨p, c, rfl⟩ := ha.len
  obtain ⟨q, d, rfl⟩ := hb.len
  have mixed : Try.prog.follows .mixedOrders = true := by kernel_rfl
  have HB : Hid (RowKit.Below w.heap.size w w) := Below.refl _ _
  have Fl := ha
  have Fm := hb
  have cg := great_any p q l.length c m.length d w
  clear ha hb
  go_enter Try.func5, Try.ntmps5
  go_wp2_with fail
  by_cases hl : (decide (40 < l.length) || decide (40 < m.length)) = true
  · rw [hl] at cg
    clear hl
    refine Calls.mono cg ?_
    rintro e z ⟨rfl, rfl⟩
    go_wp2_with fail
    refine Calls.mono (head_any _) ?_
    rintro e z1 ⟨rfl, hb⟩
    have hx1 : RowKit.Below z.heap.size z z1 := by
      refine Below.trans ?_ (hb.mono ?_)
      · (first | exact Below.refl _ _ | exact (Below.refl _ _).alloc (by simp) _ | exact ((Below.refl _ _).alloc (by simp) _).alloc (by simp) _ | exact (((Below.refl _ _).alloc (by simp) _).alloc (by simp) _).alloc (by simp) _)
      · first | exact Nat.le_refl _ | (simp; done) | (simp; omega)
    replace Fl := Rd.next Fl hx1
    replace Fm := Rd.next Fm hx1
    replace HB := Lib.hid (HB.out.trans (hx1.mono HB.out.size))
    clear hb hx1
    go_wp2_with fail
    go_ret
    exact ⟨rfl, HB.out⟩
  · have hl2 : (decide (40 < l.length) || decide (40 < m.length)) = false := by simpa using hl
    rw [hl2] at cg
    have hll : l.length ≤ 40 ∧ m.length ≤ 40 := by rw [Bool.or_eq_false_iff, decide_eq_false_iff_not, decide_eq_false_iff_not] at hl2; omega
    have HL := Lib.hid hll
    clear hl hl2 hll
    refine Calls.mono cg ?_
    rintro e z ⟨rfl, rfl⟩
    clear cg
    go_wp2_with fail
    have cc := check_any Fl (by have := HL.out; omega)
    by_cases hf : Fine l
    · rw [chk_fine hf] at cc
      refine Calls.mono (cc) ?_
      rintro e z1 ⟨rfl, hb⟩
      clear cc
      have hx1 : RowKit.Below z.heap.size z z1 := by
        refine Below.trans ?_ (hb.mono ?_)
        · (first | exact Below.refl _ _ | exact (Below.refl _ _).alloc (by simp) _ | exact ((Below.refl _ _).alloc (by simp) _).alloc (by simp) _ | exact (((Below.refl _ _).alloc (by simp) _).alloc (by simp) _).alloc (by simp) _)
        · first | exact Nat.le_refl _ | (simp; done) | (simp; omega)
      replace Fl := Rd.next Fl hx1
      replace Fm := Rd.next Fm hx1
      replace HB := Lib.hid (HB.out.trans (hx1.mono HB.out.size))
      clear hb hx1
      go_wp2_with fail
      have cc := check_any Fm (by have := HL.out; omega)
      by_cases hm : Fine m
      · rw [chk_fine hm] at cc
        refine Calls.mono (cc) ?_
        rintro e z2 ⟨rfl, hb⟩
        clear cc
        have hx2 : RowKit.Below z1.heap.size z1 z2 := by
          refine Below.trans ?_ (hb.mono ?_)
          · (first | exact Below.refl _ _ | exact (Below.refl _ _).alloc (by simp) _ | exact ((Below.refl _ _).alloc (by simp) _).alloc (by simp) _ | exact (((Below.refl _ _).alloc (by simp) _).alloc (by simp) _).alloc (by simp) _)
          · first | exact Nat.le_refl _ | (simp; done) | (simp; omega)
        replace Fl := Rd.next Fl hx2
        replace Fm := Rd.next Fm hx2
        replace HB := Lib.hid (HB.out.trans (hx2.mono HB.out.size))
        clear hb hx2
        go_wp2_with fail
        have HF := Lib.hid (And.intro hf hm)
        refine Calls.mono (Norm_any Fl hf) ?_
        rintro e z3 ⟨vn, rfl, Fn, hb⟩
        replace Fn := OwnX.rd Fn
        have hN := nrm_of hf.2.1 hf.2.2
        have hfn := nrm_fine hf.2.1 hf.2.2 hf.1
        have hse := nrm_self hN.nrm
        have hl40 := hN.len
        generalize nrm l = N at *
        obtain ⟨pn, cn, rfl⟩ := Fn.len
        have HN := Lib.hid (And.intro hN (And.intro hfn (And.intro hse (show N.length ≤ 40 by have := HL.out; omega))))
        clear hN hfn hse hl40 hf hm
        have hx3 : RowKit.Below z2.heap.size z2 z3 := by
          refine Below.trans ?_ (hb.mono ?_)
          · (first | exact Below.refl _ _ | exact (Below.refl _ _).alloc (by simp) _ | exact ((Below.refl _ _).alloc (by simp) _).alloc (by simp) _ | exact (((Below.refl _ _).alloc (by simp) _).alloc (by simp) _).alloc (by simp) _)
          · first | exact Nat.le_refl _ | (simp; done) | (simp; omega)
        replace Fl := Rd.next Fl hx3
        replace Fm := Rd.next Fm hx3
        replace HB := Lib.hid (HB.out.trans (hx3.mono HB.out.size))
        clear hb hx3
        go_upto_region 5 with fail
        have hn40 : N.length ≤ 40 := HN.out.2.2.2
        go_loopw [8] (fun s8 wr => ∃ k : Nat, s8 = .int .i64 k ∧ k ≤ N.length ∧ ∃ q, wr = z3.drewN q) (fun s8 _ => N.length - (intOf s8).toNat)
        case atStart => exact ⟨0, rfl, Nat.zero_le _, 0, rfl⟩
        case round =>
          obtain ⟨k, rfl, hk, qq, hwr⟩ := hrel
          subst hwr
          by_cases hlt : k < N.length
          · obtain ⟨bN, oN, rfl, hbN, hcN⟩ := Fn.at_ (by omega)
            have hck := hcN k hlt
            have hox := ok_at HN.out.1.nrm.1 hlt
            cases k with
            | zero =>
              clear hcN
              generalize N[0]! = y at *
              obtain ⟨y1, y2⟩ := y
              unfold okx at hox
              dsimp only at hox hck
              have c0 := hck.1
              have c1 := hck.2
              have hd : decide (y2 < 1) = false := decide_eq_false (by omega)
              rw [Nat.zero_mul, Nat.add_zero] at c0 c1
              clear hck hox
              go_wp2
              go_quiet (fail)
              go_wp2
              go_roundw
              case rel => exact ⟨1, by first | rfl | go_num, by omega, _, rfl⟩
              case measure => first | (simp [intOf]; omega) | (simp [intOf])
            | succ j =>
              have hcj := hcN j (by omega)
              have hoj := ok_at HN.out.1.nrm.1 (show j < N.length by omega)
              have hpr := pair_at HN.out.1.nrm hlt
              clear hcN
              generalize N[j + 1]! = y at *
              generalize N[j]! = v at *
              obtain ⟨y1, y2⟩ := y
              obtain ⟨v1, v2⟩ := v
              unfold okx at hox hoj
              dsimp only at hox hck hcj hoj hpr
              have c0 := hck.1
              have c1 := hck.2
              have d0 := hcj.1
              have d1 := hcj.2
              have hd : decide (y2 < 1) = false := decide_eq_false (by omega)
              have hwj : IntKind.i64.wrap ((j : Int) + 1 - 1) = (j : Int) := by rw [IntKind.wrap_i64]; omega
              have hwv : IntKind.i64.wrap (v1 + v2) = v1 + v2 := by rw [IntKind.wrap_i64]; omega
              have hle : decide (y1 ≤ v1 + v2) = false := decide_eq_false (by omega)
              have hgj : decide ((0 : Int) < (j : Int) + 1) = true := decide_eq_true (by omega)
              clear hck hcj hox hoj hpr
              go_wp2
              go_quiet (fail)
              go_wp2
              go_roundw
              case rel => exact ⟨j + 1 + 1, by go_num, by omega, _, rfl⟩
              case measure => first | (simp [intOf]; omega) | (simp [intOf])
          · obtain rfl : k = N.length := by omega
            have hbq : RowKit.Below z3.heap.size z3 (z3.drewN qq) := ⟨rfl, rfl, rfl, Nat.le_refl _, fun _ _ => rfl⟩
            replace Fl := Rd.next Fl hbq
            replace Fm := Rd.next Fm hbq
            replace Fn := Rd.next Fn hbq
            replace HB := Lib.hid (HB.out.trans (hbq.mono HB.out.size))
            generalize z3.drewN qq = zz at *
            clear hbq hlt hk
            go_wp2_with fail
            have e1 : decide (num x N) = decide (num x l) := decide_eq_decide.2 (HN.out.1.num x)
            have ch := Has_any x Fn HN.out.2.1
            rw [e1] at ch
            refine Calls.mono (ch) ?_
            rintro e z4 ⟨rfl, hb⟩
            clear ch e1
            have hx4 : RowKit.Below zz.heap.size zz z4 := by
              refine Below.trans ?_ (hb.mono ?_)
              · (first | exact Below.refl _ _ | exact (Below.refl _ _).alloc (by simp) _ | exact ((Below.refl _ _).alloc (by simp) _).alloc (by simp) _ | exact (((Below.refl _ _).alloc (by simp) _).alloc (by simp) _).alloc (by simp) _)
              · first | exact Nat.le_refl _ | (simp; done) | (simp; omega)
            replace Fl := Rd.next Fl hx4
            replace Fm := Rd.next Fm hx4
            replace Fn := Rd.next Fn hx4
            replace HB := Lib.hid (HB.out.trans (hx4.mono HB.out.size))
            clear hb hx4
            go_wp2_with fail
            refine Calls.mono (Has_any x Fl HF.out.1) ?_
            rintro e z5 ⟨rfl, hb⟩
            generalize decide (num x l) = hs at *
            have hx5 : RowKit.Below z4.heap.size z4 z5 := by
              refine Below.trans ?_ (hb.mono ?_)
              · (first | exact Below.refl _ _ | exact (Below.refl _ _).alloc (by simp) _ | exact ((Below.refl _ _).alloc (by simp) _).alloc (by simp) _ | exact (((Below.refl _ _).alloc (by simp) _).alloc (by simp) _).alloc (by simp) _)
              · first | exact Nat.le_refl _ | (simp; done) | (simp; omega)
            replace Fl := Rd.next Fl hx5
            replace Fm := Rd.next Fm hx5
            replace Fn := Rd.next Fn hx5
            replace HB := Lib.hid (HB.out.trans (hx5.mono HB.out.size))
            clear hb hx5
            go_wp2_with fail
            have ct := Total_any Fn HN.out.2.1
            rw [HN.out.1.tot] at ct
            refine Calls.mono (ct) ?_
            rintro e z6 ⟨rfl, hb⟩
            clear ct
            have hx6 : RowKit.Below z5.heap.size z5 z6 := by
              refine Below.trans ?_ (hb.mono ?_)
              · (first | exact Below.refl _ _ | exact (Below.refl _ _).alloc (by simp) _ | exact ((Below.refl _ _).alloc (by simp) _).alloc (by simp) _ | exact (((Below.refl _ _).alloc (by simp) _).alloc (by simp) _).alloc (by simp) _)
              · first | exact Nat.le_refl _ | (simp; done) | (simp; omega)
            replace Fl := Rd.next Fl hx6
            replace Fm := Rd.next Fm hx6
            replace Fn := Rd.next Fn hx6
            replace HB := Lib.hid (HB.out.trans (hx6.mono HB.out.size))
            clear hb hx6
            go_wp2_with fail
            refine Calls.mono (Total_any Fl HF.out.1) ?_
            rintro e z7 ⟨rfl, hb⟩
            have hx7 : RowKit.Below z6.heap.size z6 z7 := by
              refine Below.trans ?_ (hb.mono ?_)
              · (first | exact Below.refl _ _ | exact (Below.refl _ _).alloc (by simp) _ | exact ((Below.refl _ _).alloc (by simp) _).alloc (by simp) _ | exact (((Below.refl _ _).alloc (by simp) _).alloc (by simp) _).alloc (by simp) _)
              · first | exact Nat.le_refl _ | (simp; done) | (simp; omega)
            replace Fl := Rd.next Fl hx7
            replace Fm := Rd.next Fm hx7
            replace Fn := Rd.next Fn hx7
            replace HB := Lib.hid (HB.out.trans (hx7.mono HB.out.size))
            clear hb hx7
            go_wp2_with fail
            have cn := Norm_any Fn HN.out.2.1
            rw [HN.out.2.2.1] at cn
            refine Calls.mono (cn) ?_
            rintro e z8 ⟨vk, rfl, Fk, hb⟩
            clear cn
            replace Fk := OwnX.rd Fk
            have hx8 : RowKit.Below z7.heap.size z7 z8 := by
              refine Below.trans ?_ (hb.mono ?_)
              · (first | exact Below.refl _ _ | exact (Below.refl _ _).alloc (by simp) _ | exact ((Below.refl _ _).alloc (by simp) _).alloc (by simp) _ | exact (((Below.refl _ _).alloc (by simp) _).alloc (by simp) _).alloc (by simp) _)
              · first | exact Nat.le_refl _ | (simp; done) | (simp; omega)
            replace Fl := Rd.next Fl hx8
            replace Fm := Rd.next Fm hx8
            replace Fn := Rd.next Fn hx8
            replace HB := Lib.hid (HB.out.trans (hx8.mono HB.out.size))
            clear hb hx8
            go_wp2_with fail
            refine Calls.mono (Same_yes Fk Fn (by omega)) ?_
            rintro e z9 ⟨rfl, hb⟩
            have hx9 : RowKit.Below z8.heap.size z8 z9 := by
              refine Below.trans ?_ (hb.mono ?_)
              · (first | exact Below.refl _ _ | exact (Below.refl _ _).alloc (by simp) _ | exact ((Below.refl _ _).alloc (by simp) _).alloc (by simp) _ | exact (((Below.refl _ _).alloc (by simp) _).alloc (by simp) _).alloc (by simp) _)
              · first | exact Nat.le_refl _ | (simp; done) | (simp; omega)
            replace Fl := Rd.next Fl hx9
            replace Fm := Rd.next Fm hx9
            replace Fn := Rd.next Fn hx9
            replace Fk := Rd.next Fk hx9
            replace HB := Lib.hid (HB.out.trans (hx9.mono HB.out.size))
            clear hb hx9
            go_wp2_with fail
            refine Calls.mono (Meet_any Fl Fm HF.out.1 HF.out.2) ?_
            rintro e z10 ⟨rfl, hb⟩
            have hx10 : RowKit.Below z9.heap.size z9 z10 := by
              refine Below.trans ?_ (hb.mono ?_)
              · (first | exact Below.refl _ _ | exact (Below.refl _ _).alloc (by simp) _ | exact ((Below.refl _ _).alloc (by simp) _).alloc (by simp) _ | exact (((Below.refl _ _).alloc (by simp) _).alloc (by simp) _).alloc (by simp) _)
              · first | exact Nat.le_refl _ | (simp; done) | (simp; omega)
            replace Fl := Rd.next Fl hx10
            replace Fm := Rd.next Fm hx10
            replace Fn := Rd.next Fn hx10
            replace Fk := Rd.next Fk hx10
            replace HB := Lib.hid (HB.out.trans (hx10.mono HB.out.size))
            clear hb hx10
            go_wp2_with fail
            have cm := Meet_any Fm Fl HF.out.2 HF.out.1
            rw [show decide (Apart (m ++ l)) = decide (Apart (l ++ m)) from decide_eq_decide.2 apart_comm] at cm
            refine Calls.mono (cm) ?_
            rintro e z11 ⟨rfl, hb⟩
            clear cm
            generalize decide (Apart (l ++ m)) = ms at *
            have hx11 : RowKit.Below z10.heap.size z10 z11 := by
              refine Below.trans ?_ (hb.mono ?_)
              · (first | exact Below.refl _ _ | exact (Below.refl _ _).alloc (by simp) _ | exact ((Below.refl _ _).alloc (by simp) _).alloc (by simp) _ | exact (((Below.refl _ _).alloc (by simp) _).alloc (by simp) _).alloc (by simp) _)
              · first | exact Nat.le_refl _ | (simp; done) | (simp; omega)
            replace Fl := Rd.next Fl hx11
            replace Fm := Rd.next Fm hx11
            replace Fn := Rd.next Fn hx11
            replace Fk := Rd.next Fk hx11
            replace HB := Lib.hid (HB.out.trans (hx11.mono HB.out.size))
            clear hb hx11
            by_cases h0 : l.length = 0
            · have hz : ((l.length : Int) == 0) = true := by simp [h0]
              clear h0
              go_wp2_with fail
              refine Calls.mono (head_any _) ?_
              rintro e z12 ⟨rfl, hb⟩
              have hx12 : RowKit.Below z11.heap.size z11 z12 := by
                refine Below.trans ?_ (hb.mono ?_)
                · (first | exact Below.refl _ _ | exact (Below.refl _ _).alloc (by simp) _ | exact ((Below.refl _ _).alloc (by simp) _).alloc (by simp) _ | exact (((Below.refl _ _).alloc (by simp) _).alloc (by simp) _).alloc (by simp) _)
                · first | exact Nat.le_refl _ | (simp; done) | (simp; omega)
              replace Fl := Rd.next Fl hx12
              replace Fm := Rd.next Fm hx12
              replace Fn := Rd.next Fn hx12
              replace Fk := Rd.next Fk hx12
              replace HB := Lib.hid (HB.out.trans (hx12.mono HB.out.size))
              clear hb hx12
              go_wp2_with fail
              go_ret
              exact ⟨rfl, HB.out⟩
            · have hz : ((l.length : Int) == 0) = false := beq_eq_false_iff_ne.2 (by omega)
              have cs := Meet_any Fl Fl HF.out.1 HF.out.1
              rw [decide_eq_false (meet_self HF.out.1.2.1 (fun e => h0 (by rw [e]; rfl))), Bool.not_false] at cs
              clear h0
              go_wp2_with fail
              refine Calls.mono (cs) ?_
              rintro e z12 ⟨rfl, hb⟩
              clear cs
              have hx12 : RowKit.Below z11.heap.size z11 z12 := by
                refine Below.trans ?_ (hb.mono ?_)
                · (first | exact Below.refl _ _ | exact (Below.refl _ _).alloc (by simp) _ | exact ((Below.refl _ _).alloc (by simp) _).alloc (by simp) _ | exact (((Below.refl _ _).alloc (by simp) _).alloc (by simp) _).alloc (by simp) _)
                · first | exact Nat.le_refl _ | (simp; done) | (simp; omega)
              replace Fl := Rd.next Fl hx12
              replace Fm := Rd.next Fm hx12
              replace Fn := Rd.next Fn hx12
              replace Fk := Rd.next Fk hx12
              replace HB := Lib.hid (HB.out.trans (hx12.mono HB.out.size))
              clear hb hx12
              go_wp2_with fail
              refine Calls.mono (head_any _) ?_
              rintro e z13 ⟨rfl, hb⟩
              have hx13 : RowKit.Below z12.heap.size z12 z13 := by
                refine Below.trans ?_ (hb.mono ?_)
                · (first | exact Below.refl _ _ | exact (Below.refl _ _).alloc (by simp) _ | exact ((Below.refl _ _).alloc (by simp) _).alloc (by simp) _ | exact (((Below.refl _ _).alloc (by simp) _).alloc (by simp) _).alloc (by simp) _)
                · first | exact Nat.le_refl _ | (simp; done) | (simp; omega)
              replace Fl := Rd.next Fl hx13
              replace Fm := Rd.next Fm hx13
              replace Fn := Rd.next Fn hx13
              replace Fk := Rd.next Fk hx13
              replace HB := Lib.hid (HB.out.trans (hx13.mono HB.out.size))
              clear hb hx13
              go_wp2_with fail
              go_ret
              exact ⟨rfl, HB.out⟩
      · rw [chk_bad hm] at cc
        refine Calls.mono (cc) ?_
        rintro e z2 ⟨rfl, hb⟩
        clear cc
        have hx2 : RowKit.Below z1.heap.size z1 z2 := by
          refine Below.trans ?_ (hb.mono ?_)
          · (first | exact Below.refl _ _ | exact (Below.refl _ _).alloc (by simp) _ | exact ((Below.refl _ _).alloc (by simp) _).alloc (by simp) _ | exact (((Below.refl _ _).alloc (by simp) _).alloc (by simp) _).alloc (by simp) _)
          · first | exact Nat.le_refl _ | (simp; done) | (simp; omega)
        replace Fl := Rd.next Fl hx2
        replace Fm := Rd.next Fm hx2
        replace HB := Lib.hid (HB.out.trans (hx2.mono HB.out.size))
        clear hb hx2
        go_wp2_with fail
        refine Calls.mono (head_any _) ?_
        rintro e z3 ⟨rfl, hb⟩
        have hx3 : RowKit.Below z2.heap.size z2 z3 := by
          refine Below.trans ?_ (hb.mono ?_)
          · (first | exact Below.refl _ _ | exact (Below.refl _ _).alloc (by simp) _ | exact ((Below.refl _ _).alloc (by simp) _).alloc (by simp) _ | exact (((Below.refl _ _).alloc (by simp) _).alloc (by simp) _).alloc (by simp) _)
          · first | exact Nat.le_refl _ | (simp; done) | (simp; omega)
        replace Fl := Rd.next Fl hx3
        replace Fm := Rd.next Fm hx3
        replace HB := Lib.hid (HB.out.trans (hx3.mono HB.out.size))
        clear hb hx3
        go_wp2_with fail
        go_ret
        exact ⟨rfl, HB.out⟩
    · rw [chk_bad hf] at cc
      refine Calls.mono (cc) ?_
      rintro e z1 ⟨rfl, hb⟩
      clear cc
      have hx1 : RowKit.Below z.heap.size z z1 := by
        refine Below.trans ?_ (hb.mono ?_)
        · (first | exact Below.refl _ _ | exact (Below.refl _ _).alloc (by simp) _ | exact ((Below.refl _ _).alloc (by simp) _).alloc (by simp) _ | exact (((Below.refl _ _).alloc (by simp) _).alloc (by simp) _).alloc (by simp) _)
        · first | exact Nat.le_refl _ | (simp; done) | (simp; omega)
      replace Fl := Rd.next Fl hx1
      replace Fm := Rd.next Fm hx1
      replace HB := Lib.hid (HB.out.trans (hx1.mono HB.out.size))
      clear hb hx1
      go_wp2_with fail
      refine Calls.mono (head_any _) ?_
      rintro e z2 ⟨rfl, hb⟩
      have hx2 : RowKit.Below z1.heap.size z1 z2 := by
        refine Below.trans ?_ (hb.mono ?_)
        · (first | exact Below.refl _ _ | exact (Below.refl _ _).alloc (by simp) _ | exact ((Below.refl _ _).alloc (by simp) _).alloc (by simp) _ | exact (((Below.refl _ _).alloc (by simp) _).alloc (by simp) _).alloc (by simp) _)
        · first | exact Nat.le_refl _ | (simp; done) | (simp; omega)
      replace Fl := Rd.next Fl hx2
      replace Fm := Rd.next Fm hx2
      replace HB := Lib.hid (HB.out.trans (hx2.mono HB.out.size))
      clear hb hx2
      go_wp2_with fail
      go_ret
      exact ⟨rfl, HB.out⟩
end Go.Proofs.Ytgimecpillhmcaa.gn
