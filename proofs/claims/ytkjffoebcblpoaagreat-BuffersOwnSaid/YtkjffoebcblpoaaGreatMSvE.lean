/- slices.partitionEqualCmpFunc at any function value. -/
import Derived.Test.YtkjffoebcblpoaaGreatMSvK
import Derived.Sort.WalkC
import Derived.Sort.WalkC4
import Derived.Deep.DeepCutAuto
import Derived.Deep.CutBlock
section
namespace Go.Proofs.YtkjffoebcblpoaaGreat.gn
open Go.RowKit Go.Shelf Go.Sort Go.Lib
variable {P : Program} {ρ : Ren} {α : Type} [Inhabited α] {enc : α → List Value} {k : Nat} {cf : α → α → Int} {g : FuncId} {fs cb : Array Value} {w0 : World} {blk off : Nat} {d0 : Array α}

def PartedEq (lt : α → α → Bool) (enc : α → List Value) (k : Nat) (w0 : World) (blk off : Nat) (d : Array α) (a b pivot : Nat) (e : Ending) (w' : World) : Prop :=
  e = .returned (.int .i64 (partitionEqual lt d a b pivot).1) ∧ SWK enc k w0 blk off (partitionEqual lt d a b pivot).2 w'
set_option maxHeartbeats 64000000 in
set_option maxRecDepth 1000000 in
theorem sv_partitionEqual (L : SlLaysF0.n26 P ρ) (E : Elt P ρ k) (M : Srt P enc k cf g fs cb w0 blk off d0) {d : Array α} {w : World} {a b pivot cap : Nat} (S : SWK enc k w0 blk off d w) (hs : d0.size = d.size) (hap : a ≤ pivot) (hpb : pivot < b) (hb : b ≤ d.size) :
    Calls P (ρ.f 26) #[.slice (some ⟨blk, off, none⟩) d.size cap, .int .i64 a, .int .i64 b, .int .i64 pivot, .func (.func g) fs cb] w (PartedEq (ltOf cf) enc k w0 blk off d a b pivot) := by
  have mixed := L.mixed; have t0 := L.t0; have a0 := L.a0; have z0 := L.z0; have v0 := L.v0; have t3 := L.t3; have a3 := L.a3; have z3 := L.z3; have v3 := L.v3; have t4 := L.t4; have a4 := L.a4; have z4 := L.z4; have v4 := L.v4; have t22 := L.t22; have a22 := L.a22; have z22 := L.z22; have v22 := L.v22; have t25 := L.t25; have a25 := L.a25; have z25 := L.z25; have v25 := L.v25
  have aE := E.aE; have zE := E.zE
  have eg := M.eg
  have hsz : d.size < 4611686018427387904 := by rw [← hs]; exact M.hsz
  obtain ⟨_, _, FG⟩ := L.f26
  have S0 : Aside (SWK enc k w0 blk off d w) := S
  clear S
  go_enter FG, SlBodyF.n26_ntmps ρ
  go_wp2_with fail
  obtain ⟨ci10, cj10, ⟨ni10, nj10, la10, lb10, sa10, sb10⟩, S1⟩ := M.exch S0.out (by omega) (i := a) (j := pivot) (by omega) (by omega)
  obtain ⟨ia11, ib11, ic11, id11⟩ := idx (z := (a : Int)) (i := a) (n := d.size) (by omega) (by omega) hsz
  obtain ⟨ia12, ib12, ic12, id12⟩ := idx (z := (pivot : Int)) (i := pivot) (n := d.size) (by omega) (by omega) hsz
  clear S0
  go_wp2_with fail
  go_big_region_o
  clear la10 lb10 sa10 sb10
  generalize (w.drew.setCells blk (off + (a) * k) cj10).setCells blk (off + (pivot) * k) ci10 = w1 at S1 ⊢
  obtain ⟨i, hi⟩ : ∃ i : Nat, i = a + 1 := ⟨_, rfl⟩
  obtain ⟨j, hj⟩ : ∃ j : Nat, j = b - 1 := ⟨_, rfl⟩
  obtain ⟨D, hD⟩ : ∃ D : Array α, D = swp d a pivot := ⟨_, rfl⟩
  rw [← hD] at S1
  have hDs : D.size = d.size := by rw [hD, size_swp]
  have HI : Aside (i = a + 1) := hi
  have HJ : Aside (j = b - 1) := hj
  have HD : Aside (D = swp d a pivot) := hD
  have hai : a < i := by omega
  have hij : i ≤ j + 1 := by omega
  have hjb : j < b := by omega
  have zi : (a : Int) + 1 = (i : Int) := by omega
  have zj : (b : Int) - 1 = (j : Int) := by omega
  clear hi hj hD
  have EE : Aside (partitionEqual (ltOf cf) d a b pivot = partEqLoop (ltOf cf) a i j D) := by
    show _ = _
    rw [HI.out, HJ.out, HD.out]; rfl
  obtain ⟨i0, hi0⟩ : ∃ i0 : Nat, i0 = i := ⟨_, rfl⟩
  obtain ⟨j0, hj0⟩ : ∃ j0 : Nat, j0 = j := ⟨_, rfl⟩
  obtain ⟨D0, hD0⟩ : ∃ D0 : Array α, D0 = D := ⟨_, rfl⟩
  rw [← hi0, ← hj0, ← hD0] at EE
  rw [← hD0] at S1
  have hDs0 : D0.size = d.size := by rw [hD0]; exact hDs
  have h01 : a < i0 := by omega
  have h02 : i0 ≤ j0 + 1 := by omega
  have h03 : j0 < b := by omega
  have S4 := S1
  have z0 : (a : Int) + 1 = (i0 : Int) := by omega
  have z1 : (b : Int) - 1 = (j0 : Int) := by omega
  clear hi0 hj0 hD0 HI HJ HD S1 zi zj
  go_wp2_with fail
  go_loopw [11, 12] (fun vi vj wr => ∃ (i j : Nat) (dk : Array α), vi = .int .i64 i ∧ vj = .int .i64 j ∧ a < i ∧ i ≤ j + 1 ∧ j < b ∧ dk.size = d.size ∧ Aside (SWK enc k w0 blk off dk wr) ∧ Aside (partEqLoop (ltOf cf) a i j dk = partEqLoop (ltOf cf) a i0 j0 D0)) (fun vi vj _ => (intOf vj).toNat + 1 - (intOf vi).toNat)
  case atStart => exact ⟨i0, j0, D0, by first | rfl | go_num, by first | rfl | go_num, h01, h02, h03, hDs0, S4, rfl⟩
  case round =>
    clear S4 hai hij hjb h01 h02 h03 hDs0 z0 z1
    obtain ⟨i, j, dk, rfl, rfl, hai, hij, hjb, hdk, S5, HL⟩ := hrel
    go_upto_block 2 with fail
    go_cut [11] from 31 to 49 (fun sv wx => Place enc k w0 blk off (fun u => i ≤ u ∧ u ≤ j + 1 ∧ Aside (u = scanUp (fun x => !ltOf cf dk[a]! x) dk j i)) dk sv wx)
    case first =>
      go_wp2_with fail
      go_loopw [11] (fun vi wr => ∃ u : Nat, vi = .int .i64 u ∧ i ≤ u ∧ u ≤ j + 1 ∧ Aside (SWK enc k w0 blk off dk wr) ∧ Aside (scanUp (fun x => !ltOf cf dk[a]! x) dk j u = scanUp (fun x => !ltOf cf dk[a]! x) dk j i)) (fun vi _ => j + 1 - (intOf vi).toNat)
      case atStart => exact ⟨i, by first | rfl | go_num, by omega, by omega, S5, rfl⟩
      case round =>
        clear S5
        obtain ⟨u, rfl, hp1, hp2, SR, HR⟩ := hrel
        by_cases hle : u ≤ j
        · have hg1 : decide ((u : Int) ≤ (j : Int)) = true := decide_eq_true (by omega)
          have hg2 : decide (u ≤ j) = true := decide_eq_true hle
          cases hl : ltOf cf dk[a]! dk[u]! with
          | true =>
            obtain ⟨x14, y14, hv14, hd14, la14, lb14, hc14⟩ := M.less SR.out (by omega) (i := a) (j := u) (by omega) (by omega) hl
            obtain ⟨ia15, ib15, ic15, id15⟩ := idx (z := (a : Int)) (i := a) (n := d.size) (by omega) (by omega) hsz
            obtain ⟨ia16, ib16, ic16, id16⟩ := idx (z := (u : Int)) (i := u) (n := d.size) (by omega) (by omega) hsz
            go_wp2_with fail
            go_quiet_grown (first | (go_at_fn g; exact hc14 _ _))
            have SQ : Aside (SWK enc k w0 blk off dk (grow (wr.drewN nq) osq)) := SR.out.grown nq osq
            clear la14 lb14 hc14 SR
            generalize grow (wr.drewN nq) osq = wq at SQ ⊢
            clear nq osq
            go_wp2
            go_meet
            case rel => exact ⟨u, rfl, ⟨by omega, by omega, (scanUp_end (fun x => !ltOf cf dk[a]! x) dk j u (Or.inr (by simp [hl]))).symm.trans HR.out⟩, SQ.out⟩
          | false =>
            obtain ⟨x17, y17, hv17, hd17, la17, lb17, hc17⟩ := M.notLess SR.out (by omega) (i := a) (j := u) (by omega) (by omega) hl
            obtain ⟨ia18, ib18, ic18, id18⟩ := idx (z := (a : Int)) (i := a) (n := d.size) (by omega) (by omega) hsz
            obtain ⟨ia19, ib19, ic19, id19⟩ := idx (z := (u : Int)) (i := u) (n := d.size) (by omega) (by omega) hsz
            go_wp2_with fail
            go_quiet_grown (first | (go_at_fn g; exact hc17 _ _))
            have SQ : Aside (SWK enc k w0 blk off dk (grow (wr.drewN nq) osq)) := SR.out.grown nq osq
            clear la17 lb17 hc17 SR
            generalize grow (wr.drewN nq) osq = wq at SQ ⊢
            clear nq osq
            go_wp2
            go_roundw
            case rel => exact ⟨u + 1, by go_num, by omega, by omega, SQ, (scanUp_go (fun x => !ltOf cf dk[a]! x) dk j u hle (by simp [hl])).symm.trans HR.out⟩
            case measure => first | (simp [intOf]; done) | (simp [intOf]; omega)
        · have hg1 : decide ((u : Int) ≤ (j : Int)) = false := decide_eq_false (by omega)
          have hg2 : decide (u ≤ j) = false := decide_eq_false hle
          have SQ : Aside (SWK enc k w0 blk off dk wr.drew) := SR.out.drew
          clear SR
          go_wp2_with fail
          go_big_region_o
          all_goals go_wp2
          go_meet
          case rel => exact ⟨u, rfl, ⟨by omega, by omega, (scanUp_end (fun x => !ltOf cf dk[a]! x) dk j u (Or.inl hle)).symm.trans HR.out⟩, SQ.out⟩
    case rest =>
      clear S5
      obtain ⟨p, rfl, ⟨hr13, hs13, Ep⟩, S13⟩ := hcut
      have S6 : Aside (SWK enc k w0 blk off dk wc) := S13
      clear S13
      generalize wc = w6 at S6 ⊢
      go_upto_block 4 with fail
      go_cut [12] from 50 to 67 (fun sv wx => Place enc k w0 blk off (fun u => u ≤ j ∧ p ≤ u + 1 ∧ Aside (u = scanDown (fun x => ltOf cf dk[a]! x) dk p j)) dk sv wx)
      case first =>
        go_wp2_with fail
        go_loopw [12] (fun vi wr => ∃ u : Nat, vi = .int .i64 u ∧ u ≤ j ∧ p ≤ u + 1 ∧ Aside (SWK enc k w0 blk off dk wr) ∧ Aside (scanDown (fun x => ltOf cf dk[a]! x) dk p u = scanDown (fun x => ltOf cf dk[a]! x) dk p j)) (fun vi _ => (intOf vi).toNat)
        case atStart => exact ⟨j, by first | rfl | go_num, by omega, by omega, S6, rfl⟩
        case round =>
          clear S6
          obtain ⟨u, rfl, hp1, hp2, SR, HR⟩ := hrel
          by_cases hle : p ≤ u
          · have hg1 : decide ((p : Int) ≤ (u : Int)) = true := decide_eq_true (by omega)
            have hg2 : decide (p ≤ u) = true := decide_eq_true hle
            cases hl : ltOf cf dk[a]! dk[u]! with
            | true =>
              obtain ⟨x21, y21, hv21, hd21, la21, lb21, hc21⟩ := M.less SR.out (by omega) (i := a) (j := u) (by omega) (by omega) hl
              obtain ⟨ia22, ib22, ic22, id22⟩ := idx (z := (a : Int)) (i := a) (n := d.size) (by omega) (by omega) hsz
              obtain ⟨ia23, ib23, ic23, id23⟩ := idx (z := (u : Int)) (i := u) (n := d.size) (by omega) (by omega) hsz
              go_wp2_with fail
              go_quiet_grown (first | (go_at_fn g; exact hc21 _ _))
              have SQ : Aside (SWK enc k w0 blk off dk (grow (wr.drewN nq) osq)) := SR.out.grown nq osq
              clear la21 lb21 hc21 SR
              generalize grow (wr.drewN nq) osq = wq at SQ ⊢
              clear nq osq
              go_wp2
              go_roundw
              case rel => exact ⟨u - 1, by go_num, by omega, by omega, SQ, (scanDown_go (fun x => ltOf cf dk[a]! x) dk p u hle (by omega) (by simp [hl])).symm.trans HR.out⟩
              case measure => first | (simp [intOf]; done) | (simp [intOf]; omega)
            | false =>
              obtain ⟨x24, y24, hv24, hd24, la24, lb24, hc24⟩ := M.notLess SR.out (by omega) (i := a) (j := u) (by omega) (by omega) hl
              obtain ⟨ia25, ib25, ic25, id25⟩ := idx (z := (a : Int)) (i := a) (n := d.size) (by omega) (by omega) hsz
              obtain ⟨ia26, ib26, ic26, id26⟩ := idx (z := (u : Int)) (i := u) (n := d.size) (by omega) (by omega) hsz
              go_wp2_with fail
              go_quiet_grown (first | (go_at_fn g; exact hc24 _ _))
              have SQ : Aside (SWK enc k w0 blk off dk (grow (wr.drewN nq) osq)) := SR.out.grown nq osq
              clear la24 lb24 hc24 SR
              generalize grow (wr.drewN nq) osq = wq at SQ ⊢
              clear nq osq
              go_wp2
              go_meet
              case rel => exact ⟨u, rfl, ⟨by omega, by omega, (scanDown_end (fun x => ltOf cf dk[a]! x) dk p u (Or.inr (by simp [hl]))).symm.trans HR.out⟩, SQ.out⟩
          · have hg1 : decide ((p : Int) ≤ (u : Int)) = false := decide_eq_false (by omega)
            have hg2 : decide (p ≤ u) = false := decide_eq_false hle
            have SQ : Aside (SWK enc k w0 blk off dk wr.drew) := SR.out.drew
            clear SR
            go_wp2_with fail
            go_big_region_o
            all_goals go_wp2
            go_meet
            case rel => exact ⟨u, rfl, ⟨by omega, by omega, (scanDown_end (fun x => ltOf cf dk[a]! x) dk p u (Or.inl hle)).symm.trans HR.out⟩, SQ.out⟩
      case rest =>
        clear S6
        obtain ⟨q, rfl, ⟨hr20, hs20, Eq⟩, S20⟩ := hcut
        have S7 : Aside (SWK enc k w0 blk off dk wc) := S20
        clear S20
        generalize wc = w7 at S7 ⊢
        by_cases hgt : q < p
        · have hg1 : decide ((q : Int) < (p : Int)) = true := decide_eq_true (by omega)
          have hg2 : decide (q < p) = true := decide_eq_true hgt
          have hqp : (q : Int) < (p : Int) := by omega
          have e := (partEq_break (ltOf cf) a i j dk Ep.out Eq.out hgt).symm.trans HL.out
          have EL : Aside _ := e
          clear e
          go_wp2_with fail
          go_ret
          unfold PartedEq
          rw [EE.out, ← EL.out]
          exact ⟨rfl, S7.out⟩
        · have hg1 : decide ((q : Int) < (p : Int)) = false := decide_eq_false (by omega)
          have hg2 : decide (q < p) = false := decide_eq_false hgt
          have hqp : ¬ (q : Int) < (p : Int) := by omega
          have hlt := scans_lt (ltOf cf) a i j dk (by omega) Ep.out Eq.out (by omega)
          have e := (partEq_go (ltOf cf) a i j dk Ep.out Eq.out (by omega)).symm.trans HL.out
          have EL : Aside _ := e
          clear e
          go_wp2_with fail
          obtain ⟨ci27, cj27, ⟨ni27, nj27, la27, lb27, sa27, sb27⟩, S8⟩ := M.exch S7.out (by omega) (i := p) (j := q) (by omega) (by omega)
          obtain ⟨ia28, ib28, ic28, id28⟩ := idx (z := (p : Int)) (i := p) (n := d.size) (by omega) (by omega) hsz
          obtain ⟨ia29, ib29, ic29, id29⟩ := idx (z := (q : Int)) (i := q) (n := d.size) (by omega) (by omega) hsz
          clear S7
          go_wp2_with fail
          go_big_region_o
          clear la27 lb27 sa27 sb27
          generalize (w7.drew.setCells blk (off + (p) * k) cj27).setCells blk (off + (q) * k) ci27 = w8 at S8 ⊢
          go_wp2
          go_roundw
          case rel => exact ⟨p + 1, q - 1, swp dk p q, by go_num, by go_num, by omega, by omega, by omega, by rw [size_swp]; exact hdk, S8, EL⟩
          case measure => first | (simp [intOf]; done) | (simp [intOf]; omega)
end Go.Proofs.YtkjffoebcblpoaaGreat.gn
end
