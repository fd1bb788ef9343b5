/- slices.partitionCmpFunc at any function value. -/
import Derived.Test.YtkjffoebcblpoaaGreatMSvK
import Derived.Sort.WalkC
import Derived.Sort.WalkC4
import Derived.Deep.DeepCutAuto
import Derived.Deep.CutBlock
section
namespace Go.Proofs.YtkjffoebcblpoaaGreat.gn
open Go.RowKit Go.Shelf Go.Sort Go.Lib
variable {P : Program} {ρ : Ren} {α : Type} [Inhabited α] {enc : α → List Value} {k : Nat} {cf : α → α → Int} {g : FuncId} {fs cb : Array Value} {w0 : World} {blk off : Nat} {d0 : Array α}

/-- What a partition tells. -/
def Parted (lt : α → α → Bool) (enc : α → List Value) (k : Nat) (w0 : World) (blk off : Nat) (d : Array α) (a b pivot : Nat) (e : Ending) (w' : World) : Prop :=
  e = .returned (.tuple #[.int .i64 (partition lt d a b pivot).1, .bool (partition lt d a b pivot).2.1]) ∧ SWK enc k w0 blk off (partition lt d a b pivot).2.2 w'
set_option maxHeartbeats 64000000 in
set_option maxRecDepth 1000000 in
theorem sv_partition (L : SlLaysF0.n27 P ρ) (E : Elt P ρ k) (M : Srt P enc k cf g fs cb w0 blk off d0) {d : Array α} {w : World} {a b pivot cap : Nat} (S : SWK enc k w0 blk off d w) (hs : d0.size = d.size) (hap : a ≤ pivot) (hpb : pivot < b) (hb : b ≤ d.size) :
    Calls P (ρ.f 27) #[.slice (some ⟨blk, off, none⟩) d.size cap, .int .i64 a, .int .i64 b, .int .i64 pivot, .func (.func g) fs cb] w (Parted (ltOf cf) enc k w0 blk off d a b pivot) := by
  have mixed := L.mixed; have t0 := L.t0; have a0 := L.a0; have z0 := L.z0; have v0 := L.v0; have t3 := L.t3; have a3 := L.a3; have z3 := L.z3; have v3 := L.v3; have t4 := L.t4; have a4 := L.a4; have z4 := L.z4; have v4 := L.v4; have t22 := L.t22; have a22 := L.a22; have z22 := L.z22; have v22 := L.v22; have t25 := L.t25; have a25 := L.a25; have z25 := L.z25; have v25 := L.v25
  have aE := E.aE; have zE := E.zE
  have eg := M.eg
  have hsz : d.size < 4611686018427387904 := by rw [← hs]; exact M.hsz
  obtain ⟨_, _, FG⟩ := L.f27
  have S0 : Aside (SWK enc k w0 blk off d w) := S
  clear S
  go_enter FG, SlBodyF.n27_ntmps ρ
  go_wp2_with fail
  obtain ⟨ci30, cj30, ⟨ni30, nj30, la30, lb30, sa30, sb30⟩, S1⟩ := M.exch S0.out (by omega) (i := a) (j := pivot) (by omega) (by omega)
  obtain ⟨ia31, ib31, ic31, id31⟩ := idx (z := (a : Int)) (i := a) (n := d.size) (by omega) (by omega) hsz
  obtain ⟨ia32, ib32, ic32, id32⟩ := idx (z := (pivot : Int)) (i := pivot) (n := d.size) (by omega) (by omega) hsz
  clear S0
  go_wp2_with fail
  go_big_region_o
  clear la30 lb30 sa30 sb30
  generalize (w.drew.setCells blk (off + (a) * k) cj30).setCells blk (off + (pivot) * k) ci30 = w1 at S1 ⊢
  obtain ⟨i, hi⟩ : ∃ i : Nat, i = a + 1 := ⟨_, rfl⟩
  obtain ⟨j, hj⟩ : ∃ j : Nat, j = b - 1 := ⟨_, rfl⟩
  obtain ⟨D, hD⟩ : ∃ D : Array α, D = swp d a pivot := ⟨_, rfl⟩
  rw [← hD] at S1
  have hDs : D.size = d.size := by rw [hD, size_swp]
  have HI : Aside (i = a + 1) := hi
  have HJ : Aside (j = b - 1) := hj
  have HD : Aside (D = swp d a pivot) := hD
  have hai : a < i := by omega
  have hij : i ≤ j + 1 := by omega
  have hjb : j < b := by omega
  have zi : (a : Int) + 1 = (i : Int) := by omega
  have zj : (b : Int) - 1 = (j : Int) := by omega
  clear hi hj hD
  go_upto_block 0 with fail
  go_cut [12] from 32 to 49 (fun sv wx => Place enc k w0 blk off (fun u => i ≤ u ∧ u ≤ j + 1 ∧ Aside (u = scanUp (fun x => ltOf cf x D[a]!) D j i)) D sv wx)
  case first =>
    go_wp2_with fail
    go_loopw [12] (fun vi wr => ∃ u : Nat, vi = .int .i64 u ∧ i ≤ u ∧ u ≤ j + 1 ∧ Aside (SWK enc k w0 blk off D wr) ∧ Aside (scanUp (fun x => ltOf cf x D[a]!) D j u = scanUp (fun x => ltOf cf x D[a]!) D j i)) (fun vi _ => j + 1 - (intOf vi).toNat)
    case atStart => exact ⟨i, by first | rfl | go_num, by omega, by omega, S1, rfl⟩
    case round =>
      clear S1
      obtain ⟨u, rfl, hp1, hp2, SR, HR⟩ := hrel
      by_cases hle : u ≤ j
      · have hg1 : decide ((u : Int) ≤ (j : Int)) = true := decide_eq_true (by omega)
        have hg2 : decide (u ≤ j) = true := decide_eq_true hle
        cases hl : ltOf cf D[u]! D[a]! with
        | true =>
          obtain ⟨x34, y34, hv34, hd34, la34, lb34, hc34⟩ := M.less SR.out (by omega) (i := u) (j := a) (by omega) (by omega) hl
          obtain ⟨ia35, ib35, ic35, id35⟩ := idx (z := (u : Int)) (i := u) (n := d.size) (by omega) (by omega) hsz
          obtain ⟨ia36, ib36, ic36, id36⟩ := idx (z := (a : Int)) (i := a) (n := d.size) (by omega) (by omega) hsz
          go_wp2_with fail
          go_quiet_grown (first | (go_at_fn g; exact hc34 _ _))
          have SQ : Aside (SWK enc k w0 blk off D (grow (wr.drewN nq) osq)) := SR.out.grown nq osq
          clear la34 lb34 hc34 SR
          generalize grow (wr.drewN nq) osq = wq at SQ ⊢
          clear nq osq
          go_wp2
          go_roundw
          case rel => exact ⟨u + 1, by go_num, by omega, by omega, SQ, (scanUp_go (fun x => ltOf cf x D[a]!) D j u hle (by simp [hl])).symm.trans HR.out⟩
          case measure => first | (simp [intOf]; done) | (simp [intOf]; omega)
        | false =>
          obtain ⟨x37, y37, hv37, hd37, la37, lb37, hc37⟩ := M.notLess SR.out (by omega) (i := u) (j := a) (by omega) (by omega) hl
          obtain ⟨ia38, ib38, ic38, id38⟩ := idx (z := (u : Int)) (i := u) (n := d.size) (by omega) (by omega) hsz
          obtain ⟨ia39, ib39, ic39, id39⟩ := idx (z := (a : Int)) (i := a) (n := d.size) (by omega) (by omega) hsz
          go_wp2_with fail
          go_quiet_grown (first | (go_at_fn g; exact hc37 _ _))
          have SQ : Aside (SWK enc k w0 blk off D (grow (wr.drewN nq) osq)) := SR.out.grown nq osq
          clear la37 lb37 hc37 SR
          generalize grow (wr.drewN nq) osq = wq at SQ ⊢
          clear nq osq
          go_wp2
          go_meet
          case rel => exact ⟨u, rfl, ⟨by omega, by omega, (scanUp_end (fun x => ltOf cf x D[a]!) D j u (Or.inr (by simp [hl]))).symm.trans HR.out⟩, SQ.out⟩
      · have hg1 : decide ((u : Int) ≤ (j : Int)) = false := decide_eq_false (by omega)
        have hg2 : decide (u ≤ j) = false := decide_eq_false hle
        have SQ : Aside (SWK enc k w0 blk off D wr.drew) := SR.out.drew
        clear SR
        go_wp2_with fail
        go_big_region_o
        all_goals go_wp2
        go_meet
        case rel => exact ⟨u, rfl, ⟨by omega, by omega, (scanUp_end (fun x => ltOf cf x D[a]!) D j u (Or.inl hle)).symm.trans HR.out⟩, SQ.out⟩
  case rest =>
    clear S1
    obtain ⟨p, rfl, ⟨hr33, hs33, Ep⟩, S33⟩ := hcut
    have S2 : Aside (SWK enc k w0 blk off D wc) := S33
    clear S33
    generalize wc = w2 at S2 ⊢
    go_upto_block 2 with fail
    go_cut [13] from 50 to 68 (fun sv wx => Place enc k w0 blk off (fun u => u ≤ j ∧ p ≤ u + 1 ∧ Aside (u = scanDown (fun x => !ltOf cf x D[a]!) D p j)) D sv wx)
    case first =>
      go_wp2_with fail
      go_loopw [13] (fun vi wr => ∃ u : Nat, vi = .int .i64 u ∧ u ≤ j ∧ p ≤ u + 1 ∧ Aside (SWK enc k w0 blk off D wr) ∧ Aside (scanDown (fun x => !ltOf cf x D[a]!) D p u = scanDown (fun x => !ltOf cf x D[a]!) D p j)) (fun vi _ => (intOf vi).toNat)
      case atStart => exact ⟨j, by first | rfl | go_num, by omega, by omega, S2, rfl⟩
      case round =>
        clear S2
        obtain ⟨u, rfl, hp1, hp2, SR, HR⟩ := hrel
        by_cases hle : p ≤ u
        · have hg1 : decide ((p : Int) ≤ (u : Int)) = true := decide_eq_true (by omega)
          have hg2 : decide (p ≤ u) = true := decide_eq_true hle
          cases hl : ltOf cf D[u]! D[a]! with
          | true =>
            obtain ⟨x41, y41, hv41, hd41, la41, lb41, hc41⟩ := M.less SR.out (by omega) (i := u) (j := a) (by omega) (by omega) hl
            obtain ⟨ia42, ib42, ic42, id42⟩ := idx (z := (u : Int)) (i := u) (n := d.size) (by omega) (by omega) hsz
            obtain ⟨ia43, ib43, ic43, id43⟩ := idx (z := (a : Int)) (i := a) (n := d.size) (by omega) (by omega) hsz
            go_wp2_with fail
            go_quiet_grown (first | (go_at_fn g; exact hc41 _ _))
            have SQ : Aside (SWK enc k w0 blk off D (grow (wr.drewN nq) osq)) := SR.out.grown nq osq
            clear la41 lb41 hc41 SR
            generalize grow (wr.drewN nq) osq = wq at SQ ⊢
            clear nq osq
            go_wp2
            go_meet
            case rel => exact ⟨u, rfl, ⟨by omega, by omega, (scanDown_end (fun x => !ltOf cf x D[a]!) D p u (Or.inr (by simp [hl]))).symm.trans HR.out⟩, SQ.out⟩
          | false =>
            obtain ⟨x44, y44, hv44, hd44, la44, lb44, hc44⟩ := M.notLess SR.out (by omega) (i := u) (j := a) (by omega) (by omega) hl
            obtain ⟨ia45, ib45, ic45, id45⟩ := idx (z := (u : Int)) (i := u) (n := d.size) (by omega) (by omega) hsz
            obtain ⟨ia46, ib46, ic46, id46⟩ := idx (z := (a : Int)) (i := a) (n := d.size) (by omega) (by omega) hsz
            go_wp2_with fail
            go_quiet_grown (first | (go_at_fn g; exact hc44 _ _))
            have SQ : Aside (SWK enc k w0 blk off D (grow (wr.drewN nq) osq)) := SR.out.grown nq osq
            clear la44 lb44 hc44 SR
            generalize grow (wr.drewN nq) osq = wq at SQ ⊢
            clear nq osq
            go_wp2
            go_roundw
            case rel => exact ⟨u - 1, by go_num, by omega, by omega, SQ, (scanDown_go (fun x => !ltOf cf x D[a]!) D p u hle (by omega) (by simp [hl])).symm.trans HR.out⟩
            case measure => first | (simp [intOf]; done) | (simp [intOf]; omega)
        · have hg1 : decide ((p : Int) ≤ (u : Int)) = false := decide_eq_false (by omega)
          have hg2 : decide (p ≤ u) = false := decide_eq_false hle
          have SQ : Aside (SWK enc k w0 blk off D wr.drew) := SR.out.drew
          clear SR
          go_wp2_with fail
          go_big_region_o
          all_goals go_wp2
          go_meet
          case rel => exact ⟨u, rfl, ⟨by omega, by omega, (scanDown_end (fun x => !ltOf cf x D[a]!) D p u (Or.inl hle)).symm.trans HR.out⟩, SQ.out⟩
    case rest =>
      clear S2
      obtain ⟨q, rfl, ⟨hr40, hs40, Eq⟩, S40⟩ := hcut
      have S3 : Aside (SWK enc k w0 blk off D wc) := S40
      clear S40
      generalize wc = w3 at S3 ⊢
      by_cases hgt : q < p
      · have hg1 : decide ((q : Int) < (p : Int)) = true := decide_eq_true (by omega)
        have hg2 : decide (q < p) = true := decide_eq_true hgt
        have hqp : (q : Int) < (p : Int) := by omega
        have e := part_first_break (ltOf cf) d a b pivot HI.out HJ.out HD.out Ep.out Eq.out hgt
        have EE : Aside _ := e
        clear e
        go_wp2_with fail
        obtain ⟨ci47, cj47, ⟨ni47, nj47, la47, lb47, sa47, sb47⟩, S4⟩ := M.exch S3.out (by omega) (i := q) (j := a) (by omega) (by omega)
        obtain ⟨ia48, ib48, ic48, id48⟩ := idx (z := (q : Int)) (i := q) (n := d.size) (by omega) (by omega) hsz
        obtain ⟨ia49, ib49, ic49, id49⟩ := idx (z := (a : Int)) (i := a) (n := d.size) (by omega) (by omega) hsz
        clear S3
        go_wp2_with fail
        go_big_region_o
        clear la47 lb47 sa47 sb47
        generalize (w3.drew.setCells blk (off + (q) * k) cj47).setCells blk (off + (a) * k) ci47 = w4 at S4 ⊢
        go_wp2
        go_ret2
        unfold Parted
        rw [EE.out]
        exact ⟨rfl, S4.out⟩
      · have hg1 : decide ((q : Int) < (p : Int)) = false := decide_eq_false (by omega)
        have hg2 : decide (q < p) = false := decide_eq_false hgt
        have hqp : ¬ (q : Int) < (p : Int) := by omega
        have hlt := part_scans_lt (ltOf cf) a i j D (by omega) Ep.out Eq.out (by omega)
        have e := part_first_go (ltOf cf) d a b pivot HI.out HJ.out HD.out Ep.out Eq.out (by omega)
        have EE : Aside _ := e
        clear e
        go_wp2_with fail
        obtain ⟨ci50, cj50, ⟨ni50, nj50, la50, lb50, sa50, sb50⟩, S4⟩ := M.exch S3.out (by omega) (i := p) (j := q) (by omega) (by omega)
        obtain ⟨ia51, ib51, ic51, id51⟩ := idx (z := (p : Int)) (i := p) (n := d.size) (by omega) (by omega) hsz
        obtain ⟨ia52, ib52, ic52, id52⟩ := idx (z := (q : Int)) (i := q) (n := d.size) (by omega) (by omega) hsz
        clear S3
        go_wp2_with fail
        go_big_region_o
        clear la50 lb50 sa50 sb50
        generalize (w3.drew.setCells blk (off + (p) * k) cj50).setCells blk (off + (q) * k) ci50 = w4 at S4 ⊢
        obtain ⟨i0, hi0⟩ : ∃ i0 : Nat, i0 = p + 1 := ⟨_, rfl⟩
        obtain ⟨j0, hj0⟩ : ∃ j0 : Nat, j0 = q - 1 := ⟨_, rfl⟩
        obtain ⟨D0, hD0⟩ : ∃ D0 : Array α, D0 = swp D p q := ⟨_, rfl⟩
        rw [← hi0, ← hj0, ← hD0] at EE
        rw [← hD0] at S4
        have hDs0 : D0.size = d.size := by rw [hD0, size_swp]; exact hDs
        have h01 : a < i0 := by omega
        have h02 : i0 ≤ j0 + 1 := by omega
        have h03 : j0 < b := by omega
        have z0 : (p : Int) + 1 = (i0 : Int) := by omega
        have z1 : (q : Int) - 1 = (j0 : Int) := by omega
        clear hi0 hj0 hD0 Ep Eq HI HJ HD
        go_wp2_with fail
        go_loopw [12, 13] (fun vi vj wr => ∃ (i j : Nat) (dk : Array α), vi = .int .i64 i ∧ vj = .int .i64 j ∧ a < i ∧ i ≤ j + 1 ∧ j < b ∧ dk.size = d.size ∧ Aside (SWK enc k w0 blk off dk wr) ∧ Aside (partLoop (ltOf cf) a i j dk = partLoop (ltOf cf) a i0 j0 D0)) (fun vi vj _ => (intOf vj).toNat + 1 - (intOf vi).toNat)
        case atStart => exact ⟨i0, j0, D0, by first | rfl | go_num, by first | rfl | go_num, h01, h02, h03, hDs0, S4, rfl⟩
        case round =>
          clear S4 hai hij hjb h01 h02 h03 hDs0 z0 z1
          obtain ⟨i, j, dk, rfl, rfl, hai, hij, hjb, hdk, S5, HL⟩ := hrel
          go_upto_block 6 with fail
          go_cut [12] from 105 to 122 (fun sv wx => Place enc k w0 blk off (fun u => i ≤ u ∧ u ≤ j + 1 ∧ Aside (u = scanUp (fun x => ltOf cf x dk[a]!) dk j i)) dk sv wx)
          case first =>
            go_wp2_with fail
            go_loopw [12] (fun vi wr => ∃ u : Nat, vi = .int .i64 u ∧ i ≤ u ∧ u ≤ j + 1 ∧ Aside (SWK enc k w0 blk off dk wr) ∧ Aside (scanUp (fun x => ltOf cf x dk[a]!) dk j u = scanUp (fun x => ltOf cf x dk[a]!) dk j i)) (fun vi _ => j + 1 - (intOf vi).toNat)
            case atStart => exact ⟨i, by first | rfl | go_num, by omega, by omega, S5, rfl⟩
            case round =>
              clear S5
              obtain ⟨u, rfl, hp1, hp2, SR, HR⟩ := hrel
              by_cases hle : u ≤ j
              · have hg1 : decide ((u : Int) ≤ (j : Int)) = true := decide_eq_true (by omega)
                have hg2 : decide (u ≤ j) = true := decide_eq_true hle
                cases hl : ltOf cf dk[u]! dk[a]! with
                | true =>
                  obtain ⟨x54, y54, hv54, hd54, la54, lb54, hc54⟩ := M.less SR.out (by omega) (i := u) (j := a) (by omega) (by omega) hl
                  obtain ⟨ia55, ib55, ic55, id55⟩ := idx (z := (u : Int)) (i := u) (n := d.size) (by omega) (by omega) hsz
                  obtain ⟨ia56, ib56, ic56, id56⟩ := idx (z := (a : Int)) (i := a) (n := d.size) (by omega) (by omega) hsz
                  go_wp2_with fail
                  go_quiet_grown (first | (go_at_fn g; exact hc54 _ _))
                  have SQ : Aside (SWK enc k w0 blk off dk (grow (wr.drewN nq) osq)) := SR.out.grown nq osq
                  clear la54 lb54 hc54 SR
                  generalize grow (wr.drewN nq) osq = wq at SQ ⊢
                  clear nq osq
                  go_wp2
                  go_roundw
                  case rel => exact ⟨u + 1, by go_num, by omega, by omega, SQ, (scanUp_go (fun x => ltOf cf x dk[a]!) dk j u hle (by simp [hl])).symm.trans HR.out⟩
                  case measure => first | (simp [intOf]; done) | (simp [intOf]; omega)
                | false =>
                  obtain ⟨x57, y57, hv57, hd57, la57, lb57, hc57⟩ := M.notLess SR.out (by omega) (i := u) (j := a) (by omega) (by omega) hl
                  obtain ⟨ia58, ib58, ic58, id58⟩ := idx (z := (u : Int)) (i := u) (n := d.size) (by omega) (by omega) hsz
                  obtain ⟨ia59, ib59, ic59, id59⟩ := idx (z := (a : Int)) (i := a) (n := d.size) (by omega) (by omega) hsz
                  go_wp2_with fail
                  go_quiet_grown (first | (go_at_fn g; exact hc57 _ _))
                  have SQ : Aside (SWK enc k w0 blk off dk (grow (wr.drewN nq) osq)) := SR.out.grown nq osq
                  clear la57 lb57 hc57 SR
                  generalize grow (wr.drewN nq) osq = wq at SQ ⊢
                  clear nq osq
                  go_wp2
                  go_meet
                  case rel => exact ⟨u, rfl, ⟨by omega, by omega, (scanUp_end (fun x => ltOf cf x dk[a]!) dk j u (Or.inr (by simp [hl]))).symm.trans HR.out⟩, SQ.out⟩
              · have hg1 : decide ((u : Int) ≤ (j : Int)) = false := decide_eq_false (by omega)
                have hg2 : decide (u ≤ j) = false := decide_eq_false hle
                have SQ : Aside (SWK enc k w0 blk off dk wr.drew) := SR.out.drew
                clear SR
                go_wp2_with fail
                go_big_region_o
                all_goals go_wp2
                go_meet
                case rel => exact ⟨u, rfl, ⟨by omega, by omega, (scanUp_end (fun x => ltOf cf x dk[a]!) dk j u (Or.inl hle)).symm.trans HR.out⟩, SQ.out⟩
          case rest =>
            clear S5
            obtain ⟨p, rfl, ⟨hr53, hs53, Ep⟩, S53⟩ := hcut
            have S6 : Aside (SWK enc k w0 blk off dk wc) := S53
            clear S53
            generalize wc = w6 at S6 ⊢
            go_upto_block 8 with fail
            go_cut [13] from 123 to 141 (fun sv wx => Place enc k w0 blk off (fun u => u ≤ j ∧ p ≤ u + 1 ∧ Aside (u = scanDown (fun x => !ltOf cf x dk[a]!) dk p j)) dk sv wx)
            case first =>
              go_wp2_with fail
              go_loopw [13] (fun vi wr => ∃ u : Nat, vi = .int .i64 u ∧ u ≤ j ∧ p ≤ u + 1 ∧ Aside (SWK enc k w0 blk off dk wr) ∧ Aside (scanDown (fun x => !ltOf cf x dk[a]!) dk p u = scanDown (fun x => !ltOf cf x dk[a]!) dk p j)) (fun vi _ => (intOf vi).toNat)
              case atStart => exact ⟨j, by first | rfl | go_num, by omega, by omega, S6, rfl⟩
              case round =>
                clear S6
                obtain ⟨u, rfl, hp1, hp2, SR, HR⟩ := hrel
                by_cases hle : p ≤ u
                · have hg1 : decide ((p : Int) ≤ (u : Int)) = true := decide_eq_true (by omega)
                  have hg2 : decide (p ≤ u) = true := decide_eq_true hle
                  cases hl : ltOf cf dk[u]! dk[a]! with
                  | true =>
                    obtain ⟨x61, y61, hv61, hd61, la61, lb61, hc61⟩ := M.less SR.out (by omega) (i := u) (j := a) (by omega) (by omega) hl
                    obtain ⟨ia62, ib62, ic62, id62⟩ := idx (z := (u : Int)) (i := u) (n := d.size) (by omega) (by omega) hsz
                    obtain ⟨ia63, ib63, ic63, id63⟩ := idx (z := (a : Int)) (i := a) (n := d.size) (by omega) (by omega) hsz
                    go_wp2_with fail
                    go_quiet_grown (first | (go_at_fn g; exact hc61 _ _))
                    have SQ : Aside (SWK enc k w0 blk off dk (grow (wr.drewN nq) osq)) := SR.out.grown nq osq
                    clear la61 lb61 hc61 SR
                    generalize grow (wr.drewN nq) osq = wq at SQ ⊢
                    clear nq osq
                    go_wp2
                    go_meet
                    case rel => exact ⟨u, rfl, ⟨by omega, by omega, (scanDown_end (fun x => !ltOf cf x dk[a]!) dk p u (Or.inr (by simp [hl]))).symm.trans HR.out⟩, SQ.out⟩
                  | false =>
                    obtain ⟨x64, y64, hv64, hd64, la64, lb64, hc64⟩ := M.notLess SR.out (by omega) (i := u) (j := a) (by omega) (by omega) hl
                    obtain ⟨ia65, ib65, ic65, id65⟩ := idx (z := (u : Int)) (i := u) (n := d.size) (by omega) (by omega) hsz
                    obtain ⟨ia66, ib66, ic66, id66⟩ := idx (z := (a : Int)) (i := a) (n := d.size) (by omega) (by omega) hsz
                    go_wp2_with fail
                    go_quiet_grown (first | (go_at_fn g; exact hc64 _ _))
                    have SQ : Aside (SWK enc k w0 blk off dk (grow (wr.drewN nq) osq)) := SR.out.grown nq osq
                    clear la64 lb64 hc64 SR
                    generalize grow (wr.drewN nq) osq = wq at SQ ⊢
                    clear nq osq
                    go_wp2
                    go_roundw
                    case rel => exact ⟨u - 1, by go_num, by omega, by omega, SQ, (scanDown_go (fun x => !ltOf cf x dk[a]!) dk p u hle (by omega) (by simp [hl])).symm.trans HR.out⟩
                    case measure => first | (simp [intOf]; done) | (simp [intOf]; omega)
                · have hg1 : decide ((p : Int) ≤ (u : Int)) = false := decide_eq_false (by omega)
                  have hg2 : decide (p ≤ u) = false := decide_eq_false hle
                  have SQ : Aside (SWK enc k w0 blk off dk wr.drew) := SR.out.drew
                  clear SR
                  go_wp2_with fail
                  go_big_region_o
                  all_goals go_wp2
                  go_meet
                  case rel => exact ⟨u, rfl, ⟨by omega, by omega, (scanDown_end (fun x => !ltOf cf x dk[a]!) dk p u (Or.inl hle)).symm.trans HR.out⟩, SQ.out⟩
            case rest =>
              clear S6
              obtain ⟨q, rfl, ⟨hr60, hs60, Eq⟩, S60⟩ := hcut
              have S7 : Aside (SWK enc k w0 blk off dk wc) := S60
              clear S60
              generalize wc = w7 at S7 ⊢
              by_cases hgt : q < p
              · have hg1 : decide ((q : Int) < (p : Int)) = true := decide_eq_true (by omega)
                have hg2 : decide (q < p) = true := decide_eq_true hgt
                have hqp : (q : Int) < (p : Int) := by omega
                have e := (part_break (ltOf cf) a i j dk Ep.out Eq.out hgt).symm.trans HL.out
                have EL : Aside _ := e
                clear e
                go_wp2_with fail
                obtain ⟨ci67, cj67, ⟨ni67, nj67, la67, lb67, sa67, sb67⟩, S8⟩ := M.exch S7.out (by omega) (i := q) (j := a) (by omega) (by omega)
                obtain ⟨ia68, ib68, ic68, id68⟩ := idx (z := (q : Int)) (i := q) (n := d.size) (by omega) (by omega) hsz
                obtain ⟨ia69, ib69, ic69, id69⟩ := idx (z := (a : Int)) (i := a) (n := d.size) (by omega) (by omega) hsz
                clear S7
                go_wp2_with fail
                go_big_region_o
                clear la67 lb67 sa67 sb67
                generalize (w7.drew.setCells blk (off + (q) * k) cj67).setCells blk (off + (a) * k) ci67 = w8 at S8 ⊢
                go_wp2
                go_ret2
                unfold Parted
                rw [EE.out, ← EL.out]
                exact ⟨rfl, S8.out⟩
              · have hg1 : decide ((q : Int) < (p : Int)) = false := decide_eq_false (by omega)
                have hg2 : decide (q < p) = false := decide_eq_false hgt
                have hqp : ¬ (q : Int) < (p : Int) := by omega
                have hlt := part_scans_lt (ltOf cf) a i j dk (by omega) Ep.out Eq.out (by omega)
                have e := (part_go (ltOf cf) a i j dk Ep.out Eq.out (by omega)).symm.trans HL.out
                have EL : Aside _ := e
                clear e
                go_wp2_with fail
                obtain ⟨ci70, cj70, ⟨ni70, nj70, la70, lb70, sa70, sb70⟩, S8⟩ := M.exch S7.out (by omega) (i := p) (j := q) (by omega) (by omega)
                obtain ⟨ia71, ib71, ic71, id71⟩ := idx (z := (p : Int)) (i := p) (n := d.size) (by omega) (by omega) hsz
                obtain ⟨ia72, ib72, ic72, id72⟩ := idx (z := (q : Int)) (i := q) (n := d.size) (by omega) (by omega) hsz
                clear S7
                go_wp2_with fail
                go_big_region_o
                clear la70 lb70 sa70 sb70
                generalize (w7.drew.setCells blk (off + (p) * k) cj70).setCells blk (off + (q) * k) ci70 = w8 at S8 ⊢
                go_wp2
                go_roundw
                case rel => exact ⟨p + 1, q - 1, swp dk p q, by go_num, by go_num, by omega, by omega, by omega, by rw [size_swp]; exact hdk, S8, EL⟩
                case measure => first | (simp [intOf]; done) | (simp [intOf]; omega)
end Go.Proofs.YtkjffoebcblpoaaGreat.gn
end
