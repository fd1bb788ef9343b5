/- slices.partialInsertionSortCmpFunc at any function value. -/
import Derived.Test.YtkjffoebcblpoaaGreatMSvK
import Derived.Sort.WalkA6
import Derived.Sort.WalkC4
import Derived.Deep.DeepCutAuto
import Derived.Deep.CutBlock
section
namespace Go.Proofs.YtkjffoebcblpoaaGreat.gn
open Go.RowKit Go.Shelf Go.Sort Go.Lib
variable {P : Program} {ρ : Ren} {α : Type} [Inhabited α] {enc : α → List Value} {k : Nat} {cf : α → α → Int} {g : FuncId} {fs cb : Array Value} {w0 : World} {blk off : Nat} {d0 : Array α}

/-- What it tells: whether all is sorted. -/
def Tried (lt : α → α → Bool) (enc : α → List Value) (k : Nat) (w0 : World) (blk off : Nat) (d : Array α) (a b : Nat) (e : Ending) (w' : World) : Prop :=
  ∃ r : Array α × Bool, r = partialInsertionSort lt d a b ∧ e = .returned (.bool r.2) ∧ SWK enc k w0 blk off r.1 w'
theorem size_down (lt : α → α → Bool) : ∀ (j : Nat) (d : Array α), (shiftDown lt j d).size = d.size
  | 0, d => rfl
  | j + 1, d => by
    rw [shiftDown]
    split
    · rfl
    · rw [size_down lt j, size_swp]
theorem size_up (lt : α → α → Bool) (b : Nat) : ∀ (n j : Nat) (d : Array α), b - j ≤ n → (shiftUp lt b j d).size = d.size
  | 0, j, d, h => by rw [shiftUp, if_neg (by omega)]
  | n + 1, j, d, h => by
    rw [shiftUp]
    split
    · split
      · rfl
      · rw [size_up lt b n _ _ (by omega), size_swp]
    · rfl

set_option maxHeartbeats 32000000 in
set_option maxRecDepth 1000000 in
theorem sv_partial (L : SlLaysF0.n25 P ρ) (E : Elt P ρ k) (M : Srt P enc k cf g fs cb w0 blk off d0) {d : Array α} {w : World} {a b cap : Nat} (S : SWK enc k w0 blk off d w) (hs : d0.size = d.size) (hab : a < b) (hb : b ≤ d.size) :
    Calls P (ρ.f 25) #[.slice (some ⟨blk, off, none⟩) d.size cap, .int .i64 a, .int .i64 b, .func (.func g) fs cb] w (Tried (ltOf cf) enc k w0 blk off d a b) := by
  have mixed := L.mixed; have t0 := L.t0; have a0 := L.a0; have z0 := L.z0; have v0 := L.v0; have t3 := L.t3; have a3 := L.a3; have z3 := L.z3; have v3 := L.v3; have t4 := L.t4; have a4 := L.a4; have z4 := L.z4; have v4 := L.v4; have t22 := L.t22; have a22 := L.a22; have z22 := L.z22; have v22 := L.v22; have t25 := L.t25; have a25 := L.a25; have z25 := L.z25; have v25 := L.v25
  have aE := E.aE; have zE := E.zE
  have eg := M.eg
  have hsz : d.size < 4611686018427387904 := by rw [← hs]; exact M.hsz
  obtain ⟨_, _, FG⟩ := L.f25
  have S0 : Aside (SWK enc k w0 blk off d w) := S
  clear S
  go_enter FG, SlBodyF.n25_ntmps ρ
  go_wp2
  go_loopw [9, 10] (fun vi vs wr => ∃ (i s : Nat) (dk : Array α), vi = .int .i64 i ∧ vs = .int .i64 s ∧ a < i ∧ i ≤ b ∧ s ≤ 5 ∧ dk.size = d.size ∧ Aside (SWK enc k w0 blk off dk wr) ∧ Aside (partialIns (ltOf cf) a b (5 - s) i dk = partialIns (ltOf cf) a b 5 (a + 1) d)) (fun _ vs _ => 5 - (intOf vs).toNat)
  case atStart => exact ⟨a + 1, 0, d, by go_num, rfl, by omega, by omega, by omega, rfl, S0, rfl⟩
  case round =>
    clear S0
    obtain ⟨i, s, dk, rfl, rfl, hai, hib, hs5, hdk, S1, HE⟩ := hrel
    by_cases hlt : (s : Int) < 5
    · go_upto_block 2 with fail
      go_cut [9] from 15 to 38 (fun sv wx => Place enc k w0 blk off (fun u => i ≤ u ∧ u ≤ b ∧ Aside (u = scanSorted (ltOf cf) dk b i)) dk sv wx)
      case first =>
        go_wp2_with fail
        go_loopw [9] (fun vi wr => ∃ u : Nat, vi = .int .i64 u ∧ i ≤ u ∧ u ≤ b ∧ Aside (SWK enc k w0 blk off dk wr) ∧ Aside (scanSorted (ltOf cf) dk b u = scanSorted (ltOf cf) dk b i)) (fun vi _ => b - (intOf vi).toNat)
        case atStart => exact ⟨i, rfl, Nat.le_refl _, hib, S1, rfl⟩
        case round =>
          clear S1
          obtain ⟨u, rfl, hu1, hu2, S2, HS⟩ := hrel
          by_cases hub : u < b
          · have hg1 : decide ((u : Int) < (b : Int)) = true := decide_eq_true (by omega)
            have hg2 : decide (u < b) = true := decide_eq_true hub
            obtain ⟨v, rfl⟩ : ∃ v, u = v + 1 := ⟨u - 1, by omega⟩
            have hvz : (v : Int) + 1 < (b : Int) := by omega
            have hg3 : decide ((v : Int) + 1 < (b : Int)) = true := decide_eq_true hvz
            cases hl : ltOf cf dk[v + 1]! dk[v]! with
            | false =>
              obtain ⟨x1, y1, hv1, hd1, la1, lb1, hc1⟩ := M.notLess S2.out (by omega) (i := v + 1) (j := v) (by omega) (by omega) hl
              obtain ⟨ia2, ib2, ic2, id2⟩ := idx (z := (v : Int) + 1) (i := v + 1) (n := d.size) (by omega) (by omega) hsz
              obtain ⟨ia3, ib3, ic3, id3⟩ := idx (z := (v : Int)) (i := v) (n := d.size) (by omega) (by omega) hsz
              go_wp2_with fail
              go_quiet_grown (first | (go_at_fn g; exact hc1 _ _))
              have S3 : Aside (SWK enc k w0 blk off dk (grow (wr.drewN nq) osq)) := S2.out.grown nq osq
              clear la1 lb1 hc1 S2
              generalize grow (wr.drewN nq) osq = w3 at S3 ⊢
              clear nq osq
              go_wp2
              go_roundw
              case rel => exact ⟨v + 1 + 1, by first | rfl | go_num | (congr 1; omega), by omega, by omega, S3, (scanSorted_go (ltOf cf) dk b (v + 1) hub (by simpa using hl)).symm.trans HS.out⟩
              case measure => first | (simp [intOf]; done) | (simp [intOf]; omega)
            | true =>
              obtain ⟨x4, y4, hv4, hd4, la4, lb4, hc4⟩ := M.less S2.out (by omega) (i := v + 1) (j := v) (by omega) (by omega) hl
              obtain ⟨ia5, ib5, ic5, id5⟩ := idx (z := (v : Int) + 1) (i := v + 1) (n := d.size) (by omega) (by omega) hsz
              obtain ⟨ia6, ib6, ic6, id6⟩ := idx (z := (v : Int)) (i := v) (n := d.size) (by omega) (by omega) hsz
              go_wp2_with fail
              go_quiet_grown (first | (go_at_fn g; exact hc4 _ _))
              have S3 : Aside (SWK enc k w0 blk off dk (grow (wr.drewN nq) osq)) := S2.out.grown nq osq
              clear la4 lb4 hc4 S2
              generalize grow (wr.drewN nq) osq = w3 at S3 ⊢
              clear nq osq
              go_wp2
              go_meet
              case rel => exact ⟨v + 1, by first | rfl | go_num, ⟨by omega, by omega, (scanSorted_stop (ltOf cf) dk b (v + 1) (Or.inr (by simpa using hl))).symm.trans HS.out⟩, S3.out⟩
          · have hg1 : decide ((u : Int) < (b : Int)) = false := decide_eq_false (by omega)
            have hg2 : decide (u < b) = false := decide_eq_false hub
            have S3 : Aside (SWK enc k w0 blk off dk wr.drew) := S2.out.drew
            clear S2
            go_wp2_with fail
            go_big_region_o
            all_goals go_wp2
            go_meet
            case rel => exact ⟨u, rfl, ⟨by omega, by omega, (scanSorted_stop (ltOf cf) dk b u (Or.inl hub)).symm.trans HS.out⟩, S3.out⟩
      case rest =>
        clear S1
        obtain ⟨p, rfl, ⟨hp1, hp2, EP⟩, T2⟩ := hcut
        have S2 : Aside (SWK enc k w0 blk off dk wc) := T2
        clear T2
        by_cases hpb : (p : Int) = (b : Int)
        · obtain rfl : p = b := by omega
          have e := pi_true (ltOf cf) a p s i dk (by omega) EP.out.symm
          have EE : Aside _ := e
          clear e hpb
          go_wp2
          go_ret
          exact ⟨(dk, true), by rw [partialInsertionSort, ← HE.out, EE.out], rfl, S2.out⟩
        · have hbq : ((p : Int) == (b : Int)) = false := beq_false_of_ne hpb
          by_cases h50 : (b : Int) - (a : Int) < 50
          · have e := pi_short (ltOf cf) a b s i dk (by omega) (by rw [← EP.out]; omega) (by omega)
            have EE : Aside _ := e
            clear e
            go_wp2
            go_ret
            exact ⟨(dk, false), by rw [partialInsertionSort, ← HE.out, EE.out], rfl, S2.out⟩
          · have e := pi_go (ltOf cf) a b s i p dk (by omega) EP.out.symm (by omega) (by omega)
            have EE : Aside _ := e
            clear e
            obtain ⟨q, rfl⟩ : ∃ q, p = q + 1 := ⟨p - 1, by omega⟩
            obtain ⟨ci7, cj7, ⟨ni7, nj7, la7, lb7, sa7, sb7⟩, S3⟩ := M.exch S2.out (by omega) (i := q + 1) (j := q) (by omega) (by omega)
            obtain ⟨ia8, ib8, ic8, id8⟩ := idx (z := (q : Int) + 1) (i := q + 1) (n := d.size) (by omega) (by omega) hsz
            obtain ⟨ia9, ib9, ic9, id9⟩ := idx (z := (q : Int)) (i := q) (n := d.size) (by omega) (by omega) hsz
            clear S2
            go_wp2_with fail
            go_big_region_o
            clear la7 lb7 sa7 sb7
            generalize (wc.drew.setCells blk (off + (q + 1) * k) cj7).setCells blk (off + (q) * k) ci7 = w3 at S3 ⊢
            obtain ⟨D1, hD1⟩ : ∃ D : Array α, D = swp dk (q + 1) q := ⟨_, rfl⟩
            rw [← hD1] at S3
            have hs1 : D1.size = d.size := by rw [hD1, size_swp]; exact hdk
            have HD1 : Aside _ := hD1
            clear hD1
            have wq : IntKind.i64.wrap (q : Int) = (q : Int) := by rw [IntKind.wrap_i64]; omega
            have wq2 : IntKind.i64.wrap ((q : Int) + 1 + 1) = (q : Int) + 1 + 1 := by rw [IntKind.wrap_i64]; omega
            go_upto_if 65 with fail
            go_cut [] from 15 to 100 (fun wx => Turned enc k w0 blk off (fun d' => d' = fixDown (ltOf cf) a (q + 1) D1) (.returned (.tuple #[])) wx)
            case first =>
              by_cases h2 : 2 ≤ (q : Int) + 1 - (a : Int)
              · have hd2 : decide (2 ≤ (q : Int) + 1 - (a : Int)) = true := decide_eq_true h2
                rw [hd2]
                go_wp2_with fail
                go_loopw [11] (fun vj wr => ∃ (j : Nat) (dj : Array α), vj = .int .i64 j ∧ j ≤ q ∧ dj.size = d.size ∧ Aside (SWK enc k w0 blk off dj wr) ∧ Aside (shiftDown (ltOf cf) j dj = shiftDown (ltOf cf) q D1)) (fun vj _ => (intOf vj).toNat)
                case atStart => exact ⟨q, D1, by first | rfl | go_num, Nat.le_refl _, hs1, S3, rfl⟩
                case round =>
                  clear S3
                  obtain ⟨j, dj, rfl, hj, hdj, S4, HJ⟩ := hrel
                  have fin : ∀ R, R = shiftDown (ltOf cf) q D1 → R = fixDown (ltOf cf) a (q + 1) D1 := fun R h => by
                    rw [h, fixDown, if_pos (by omega)]; simp
                  have FIN : Aside _ := fin
                  clear fin
                  by_cases hj1 : (1 : Int) ≤ (j : Int)
                  · obtain ⟨v, rfl⟩ : ∃ v, j = v + 1 := ⟨j - 1, by omega⟩
                    have hj2 : (1 : Int) ≤ (v : Int) + 1 := by omega
                    cases hl : ltOf cf dj[v + 1]! dj[v]! with
                    | true =>
                      obtain ⟨x10, y10, hv10, hd10, la10, lb10, hc10⟩ := M.less S4.out (by omega) (i := v + 1) (j := v) (by omega) (by omega) hl
                      obtain ⟨ia11, ib11, ic11, id11⟩ := idx (z := (v : Int) + 1) (i := v + 1) (n := d.size) (by omega) (by omega) hsz
                      obtain ⟨ia12, ib12, ic12, id12⟩ := idx (z := (v : Int)) (i := v) (n := d.size) (by omega) (by omega) hsz
                      go_wp2_with fail
                      go_quiet_grown (first | (go_at_fn g; exact hc10 _ _))
                      have S5 : Aside (SWK enc k w0 blk off dj (grow (wr.drewN nq) osq)) := S4.out.grown nq osq
                      clear la10 lb10 hc10 S4
                      generalize grow (wr.drewN nq) osq = w5 at S5 ⊢
                      clear nq osq
                      go_wp2_with fail
                      obtain ⟨ci13, cj13, ⟨ni13, nj13, la13, lb13, sa13, sb13⟩, S6⟩ := M.exch S5.out (by omega) (i := v + 1) (j := v) (by omega) (by omega)
                      obtain ⟨ia14, ib14, ic14, id14⟩ := idx (z := (v : Int) + 1) (i := v + 1) (n := d.size) (by omega) (by omega) hsz
                      obtain ⟨ia15, ib15, ic15, id15⟩ := idx (z := (v : Int)) (i := v) (n := d.size) (by omega) (by omega) hsz
                      clear S5
                      go_wp2_with fail
                      go_big_region_o
                      clear la13 lb13 sa13 sb13
                      generalize (w5.drew.setCells blk (off + (v + 1) * k) cj13).setCells blk (off + (v) * k) ci13 = w6 at S6 ⊢
                      go_wp2
                      go_roundw
                      case rel =>
                        have e := shiftDown_go (ltOf cf) (v + 1) dj (by omega) (by simpa using hl)
                        have ee := e.symm.trans HJ.out
                        first
                          | exact ⟨v, swp dj (v + 1) v, rfl, by omega, by rw [size_swp]; exact hdj, S6, ee⟩
                          | ((repeat apply Exists.intro); exact ⟨⟨v, swp dj (v + 1) v, rfl, by omega, by rw [size_swp]; exact hdj, S6, ee⟩, rfl⟩)
                      case measure => first | (simp [intOf]; done) | (simp [intOf]; omega)
                    | false =>
                      obtain ⟨x16, y16, hv16, hd16, la16, lb16, hc16⟩ := M.notLess S4.out (by omega) (i := v + 1) (j := v) (by omega) (by omega) hl
                      obtain ⟨ia17, ib17, ic17, id17⟩ := idx (z := (v : Int) + 1) (i := v + 1) (n := d.size) (by omega) (by omega) hsz
                      obtain ⟨ia18, ib18, ic18, id18⟩ := idx (z := (v : Int)) (i := v) (n := d.size) (by omega) (by omega) hsz
                      go_wp2_with fail
                      go_quiet_grown (first | (go_at_fn g; exact hc16 _ _))
                      have S5 : Aside (SWK enc k w0 blk off dj (grow (wr.drewN nq) osq)) := S4.out.grown nq osq
                      clear la16 lb16 hc16 S4
                      generalize grow (wr.drewN nq) osq = w5 at S5 ⊢
                      clear nq osq
                      go_wp2
                      go_meet
                      case rel => exact ⟨rfl, dj, FIN.out _ ((shiftDown_stop (ltOf cf) (v + 1) dj (Or.inr (by simpa using hl))).symm.trans HJ.out), S5.out⟩
                  · obtain rfl : j = 0 := by omega
                    go_wp2
                    go_meet
                    case rel => exact ⟨rfl, dj, FIN.out _ ((shiftDown_stop (ltOf cf) 0 dj (Or.inl rfl)).symm.trans HJ.out), S4.out⟩
              · go_wp2_with fail
                go_meet
                case rel => exact ⟨rfl, D1, by rw [fixDown, if_neg (by omega)], S3.out⟩
            case rest =>
              clear S3
              obtain ⟨_, D2, hD2, T3⟩ := hcut
              have S4 : Aside (SWK enc k w0 blk off D2 wc) := T3
              have hs2 : D2.size = d.size := by
                rw [hD2, fixDown]
                split
                · rw [size_down]; exact hs1
                · exact hs1
              have HD2 : Aside _ := hD2
              clear hD2 T3
              have fin : ∀ D3, D3 = fixUp (ltOf cf) b (q + 1) D2 → D3.size = d.size ∧ partialIns (ltOf cf) a b (5 - (s + 1)) (q + 1) D3 = partialIns (ltOf cf) a b 5 (a + 1) d := fun D3 h => by
                refine ⟨?_, ?_⟩
                · rw [h, fixUp]
                  split
                  · rw [size_up _ _ _ _ _ (Nat.le_refl _)]; exact hs2
                  · exact hs2
                · have := EE.out.symm.trans HE.out
                  rw [Nat.add_sub_cancel, ← HD1.out, ← HD2.out, ← h] at this
                  exact this
              have FIN : Aside _ := fin
              clear fin
              by_cases h2 : 2 ≤ (b : Int) - ((q : Int) + 1)
              · go_wp2_with fail
                go_loopw [12] (fun vj wr => ∃ (j : Nat) (dj : Array α), vj = .int .i64 j ∧ q + 2 ≤ j ∧ j ≤ b ∧ dj.size = d.size ∧ Aside (SWK enc k w0 blk off dj wr) ∧ Aside (shiftUp (ltOf cf) b j dj = shiftUp (ltOf cf) b (q + 1 + 1) D2)) (fun vj _ => b - (intOf vj).toNat)
                case atStart => exact ⟨q + 1 + 1, D2, by first | rfl | go_num | (congr 1; omega), by omega, by omega, hs2, S4, rfl⟩
                case round =>
                  clear S4
                  obtain ⟨j, dj, rfl, hj, hjb, hdj, S5, HJ⟩ := hrel
                  have fin : ∀ R, R = shiftUp (ltOf cf) b (q + 1 + 1) D2 → R = fixUp (ltOf cf) b (q + 1) D2 := fun R h => by
                    rw [h, fixUp, if_pos (by omega)]
                  have FIU : Aside _ := fin
                  clear fin
                  by_cases hj1 : (j : Int) < (b : Int)
                  · obtain ⟨v, rfl⟩ : ∃ v, j = v + 1 := ⟨j - 1, by omega⟩
                    have hj2 : (v : Int) + 1 < (b : Int) := by omega
                    cases hl : ltOf cf dj[v + 1]! dj[v]! with
                    | true =>
                      obtain ⟨x19, y19, hv19, hd19, la19, lb19, hc19⟩ := M.less S5.out (by omega) (i := v + 1) (j := v) (by omega) (by omega) hl
                      obtain ⟨ia20, ib20, ic20, id20⟩ := idx (z := (v : Int) + 1) (i := v + 1) (n := d.size) (by omega) (by omega) hsz
                      obtain ⟨ia21, ib21, ic21, id21⟩ := idx (z := (v : Int)) (i := v) (n := d.size) (by omega) (by omega) hsz
                      go_wp2_with fail
                      go_quiet_grown (first | (go_at_fn g; exact hc19 _ _))
                      have S6 : Aside (SWK enc k w0 blk off dj (grow (wr.drewN nq) osq)) := S5.out.grown nq osq
                      clear la19 lb19 hc19 S5
                      generalize grow (wr.drewN nq) osq = w6 at S6 ⊢
                      clear nq osq
                      go_wp2_with fail
                      obtain ⟨ci22, cj22, ⟨ni22, nj22, la22, lb22, sa22, sb22⟩, S7⟩ := M.exch S6.out (by omega) (i := v + 1) (j := v) (by omega) (by omega)
                      obtain ⟨ia23, ib23, ic23, id23⟩ := idx (z := (v : Int) + 1) (i := v + 1) (n := d.size) (by omega) (by omega) hsz
                      obtain ⟨ia24, ib24, ic24, id24⟩ := idx (z := (v : Int)) (i := v) (n := d.size) (by omega) (by omega) hsz
                      clear S6
                      go_wp2_with fail
                      go_big_region_o
                      clear la22 lb22 sa22 sb22
                      generalize (w6.drew.setCells blk (off + (v + 1) * k) cj22).setCells blk (off + (v) * k) ci22 = w7 at S7 ⊢
                      go_wp2
                      go_roundw
                      case rel => exact ⟨v + 1 + 1, swp dj (v + 1) v, by first | rfl | go_num | (congr 1; omega), by omega, by omega, by rw [size_swp]; exact hdj, S7, by have := shiftUp_go (ltOf cf) b (v + 1) dj (by omega) (by simpa using hl); exact this.symm.trans HJ.out⟩
                      case measure => first | (simp [intOf]; done) | (simp [intOf]; omega)
                    | false =>
                      obtain ⟨x25, y25, hv25, hd25, la25, lb25, hc25⟩ := M.notLess S5.out (by omega) (i := v + 1) (j := v) (by omega) (by omega) hl
                      obtain ⟨ia26, ib26, ic26, id26⟩ := idx (z := (v : Int) + 1) (i := v + 1) (n := d.size) (by omega) (by omega) hsz
                      obtain ⟨ia27, ib27, ic27, id27⟩ := idx (z := (v : Int)) (i := v) (n := d.size) (by omega) (by omega) hsz
                      go_wp2_with fail
                      go_quiet_grown (first | (go_at_fn g; exact hc25 _ _))
                      have S6 : Aside (SWK enc k w0 blk off dj (grow (wr.drewN nq) osq)) := S5.out.grown nq osq
                      clear la25 lb25 hc25 S5
                      generalize grow (wr.drewN nq) osq = w6 at S6 ⊢
                      clear nq osq
                      have F3 := FIN.out dj (FIU.out _ ((shiftUp_stop (ltOf cf) b (v + 1) dj (Or.inr (by simpa using hl))).symm.trans HJ.out))
                      have F4 : Aside _ := F3
                      clear F3
                      go_wp2
                      go_roundw
                      case rel => exact ⟨q + 1, s + 1, dj, by first | rfl | go_num, by first | rfl | go_num, by omega, by omega, by omega, F4.out.1, S6, F4.out.2⟩
                      case measure => first | (simp [intOf]; done) | (simp [intOf]; omega)
                  · have F3 := FIN.out dj (FIU.out _ ((shiftUp_stop (ltOf cf) b j dj (Or.inl (by omega))).symm.trans HJ.out))
                    have F4 : Aside _ := F3
                    clear F3
                    go_wp2
                    go_roundw
                    case rel => exact ⟨q + 1, s + 1, dj, by first | rfl | go_num, by first | rfl | go_num, by omega, by omega, by omega, F4.out.1, S5, F4.out.2⟩
                    case measure => first | (simp [intOf]; done) | (simp [intOf]; omega)
              · have F3 := FIN.out D2 (by rw [fixUp, if_neg (by omega)])
                have F4 : Aside _ := F3
                clear F3
                go_wp2
                go_roundw
                case rel => exact ⟨q + 1, s + 1, D2, by first | rfl | go_num, by first | rfl | go_num, by omega, by omega, by omega, F4.out.1, S4, F4.out.2⟩
                case measure => first | (simp [intOf]; done) | (simp [intOf]; omega)
    · obtain rfl : s = 5 := by omega
      go_wp2
      go_ret
      have e := pi_end (ltOf cf) a b i dk
      exact ⟨(dk, false), by rw [partialInsertionSort, ← HE.out, e], rfl, S1.out⟩
end Go.Proofs.YtkjffoebcblpoaaGreat.gn
end
