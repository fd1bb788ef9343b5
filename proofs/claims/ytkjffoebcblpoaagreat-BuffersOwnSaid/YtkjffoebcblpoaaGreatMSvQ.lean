/- slices.pdqsortCmpFunc, SortFunc at any function value: the row is a permutation of what it was, sorted. -/
import Derived.Test.YtkjffoebcblpoaaGreatMSvK
import Derived.Test.YtkjffoebcblpoaaGreatMBuC
import Derived.Test.YtkjffoebcblpoaaGreatMGenAt
import Derived.Test.YtkjffoebcblpoaaGreatMSvH
import Derived.Test.YtkjffoebcblpoaaGreatMSvP
import Derived.Test.YtkjffoebcblpoaaGreatMSvE
import Derived.Test.YtkjffoebcblpoaaGreatMSvF
import Derived.Sort.AssemblyPlain
import Derived.Sort.LotD3
section
namespace Go.Proofs.YtkjffoebcblpoaaGreat.gn
open Go.RowKit Go.Shelf Go.Sort Go.Lib
variable {P : Program} {ρ : Ren} {α : Type} [Inhabited α] {enc : α → List Value} {k : Nat} {cf : α → α → Int} {g : FuncId} {fs cb : Array Value} {w0 : World} {blk off : Nat} {d0 : Array α}

section
variable (enc : α → List Value) (k : Nat) (w0 : World) (blk off : Nat)
def Some1 (Q : Array α → Prop) (W : World) : Prop := ∃ d', Q d' ∧ SWK enc k w0 blk off d' W
def LimCut (Q : Array α → Prop) (lim : Nat) (s : Value) (W : World) : Prop := ∃ l : Nat, s = .int .i64 l ∧ l ≤ lim ∧ Some1 enc k w0 blk off Q W
def PivCut (Q : Array α → Prop) (a b : Nat) (s t : Value) (W : World) : Prop := ∃ (p : Nat) (h : Int), s = .int .i64 p ∧ t = .int .i64 h ∧ a ≤ p ∧ p < b ∧ Some1 enc k w0 blk off Q W
def BitCut (Q : Bool → Prop) (d : Array α) (s : Value) (W : World) : Prop := ∃ c : Bool, s = .bool c ∧ Q c ∧ SWK enc k w0 blk off d W
end

set_option maxHeartbeats 25600000 in
set_option maxRecDepth 1000000 in
theorem sv_pdq (L : SlLaysF0.n14 P ρ) (E : Elt P ρ k) (M : Srt P enc k cf g fs cb w0 blk off d0) (cap : Nat) :
    ∀ (n a b limit : Nat) (d : Array α) (w : World), b - a < n → d0.size = d.size → SWK enc k w0 blk off d w → a ≤ b → b ≤ d.size → limit < 4611686018427387904 → Below (ltOf cf) a b d →
    Calls P (ρ.f 14) #[.slice (some ⟨blk, off, none⟩) d.size cap, .int .i64 a, .int .i64 b, .int .i64 limit, .func (.func g) fs cb] w (Turned enc k w0 blk off fun d' => PermIn a b d d' ∧ SortedIn (ltOf cf) a b d') := by
  have mixed := L.mixed; have t0 := L.t0; have a0 := L.a0; have z0 := L.z0; have v0 := L.v0; have t3 := L.t3; have a3 := L.a3; have z3 := L.z3; have v3 := L.v3; have t4 := L.t4; have a4 := L.a4; have z4 := L.z4; have v4 := L.v4; have t5 := L.t5; have a5 := L.a5; have z5 := L.z5; have v5 := L.v5; have t9 := L.t9; have a9 := L.a9; have z9 := L.z9; have v9 := L.v9; have t22 := L.t22; have a22 := L.a22; have z22 := L.z22; have v22 := L.v22; have t25 := L.t25; have a25 := L.a25; have z25 := L.z25; have v25 := L.v25; have t39 := L.t39; have a39 := L.a39; have z39 := L.z39; have v39 := L.v39; have t45 := L.t45; have a45 := L.a45; have z45 := L.z45; have v45 := L.v45; have t46 := L.t46; have a46 := L.a46; have z46 := L.z46; have v46 := L.v46; have t50 := L.t50; have a50 := L.a50; have z50 := L.z50; have v50 := L.v50; have t53 := L.t53; have a53 := L.a53; have z53 := L.z53; have v53 := L.v53; have t55 := L.t55; have a55 := L.a55; have z55 := L.z55; have v55 := L.v55; have t66 := L.t66; have a66 := L.a66; have z66 := L.z66; have v66 := L.v66; have t70 := L.t70; have a70 := L.a70; have z70 := L.z70; have v70 := L.v70; have t76 := L.t76; have a76 := L.a76; have z76 := L.z76; have v76 := L.v76; have t77 := L.t77; have a77 := L.a77; have z77 := L.z77; have v77 := L.v77
  have aE := E.aE; have zE := E.zE
  have eg := M.eg
  obtain ⟨_, _, FG⟩ := L.f14
  have e20 : ∀ args w, (callFunc (ρ.f 20) args).run P w = .ok (.enter (ρ.f 20) args) w := L.f20.enters rfl
  have e21 : ∀ args w, (callFunc (ρ.f 21) args).run P w = .ok (.enter (ρ.f 21) args) w := L.f21.enters rfl
  have e22 : ∀ args w, (callFunc (ρ.f 22) args).run P w = .ok (.enter (ρ.f 22) args) w := L.f22.enters rfl
  have e23 : ∀ args w, (callFunc (ρ.f 23) args).run P w = .ok (.enter (ρ.f 23) args) w := L.f23.enters rfl
  have e24 : ∀ args w, (callFunc (ρ.f 24) args).run P w = .ok (.enter (ρ.f 24) args) w := L.f24.enters rfl
  have e25 : ∀ args w, (callFunc (ρ.f 25) args).run P w = .ok (.enter (ρ.f 25) args) w := L.f25.enters rfl
  have e26 : ∀ args w, (callFunc (ρ.f 26) args).run P w = .ok (.enter (ρ.f 26) args) w := L.f26.enters rfl
  have e27 : ∀ args w, (callFunc (ρ.f 27) args).run P w = .ok (.enter (ρ.f 27) args) w := L.f27.enters rfl
  have e14 : ∀ args w, (callFunc (ρ.f 14) args).run P w = .ok (.enter (ρ.f 14) args) w := L.f14.enters rfl
  intro n
  induction n with
  | zero => intro _ _ _ _ _ h; exact absurd h (Nat.not_lt_zero _)
  | succ n ih =>
    intro a b limit d w hN hs S hab hb hlimit hB0
    have IH : Aside _ := ih
    clear ih
    have hsz : d.size < 4611686018427387904 := by rw [← hs]; exact M.hsz
    have S0 : Aside (SWK enc k w0 blk off d w) := S
    have B0 : Aside _ := hB0
    clear S hB0
    go_enter FG, SlBodyF.n14_ntmps ρ
    go_wp2
    go_loopw [1, 2, 3, 10, 11] (fun s1 s2 s3 s8 s9 wr => ∃ (a1 b1 lim : Nat) (wb wp : Bool) (dk : Array α), s1 = .int .i64 a1 ∧ s2 = .int .i64 b1 ∧ s3 = .int .i64 lim ∧ s8 = .bool wb ∧ s9 = .bool wp ∧ a ≤ a1 ∧ a1 ≤ b1 ∧ b1 ≤ b ∧ lim ≤ limit ∧ dk.size = d.size ∧ Aside (Below (ltOf cf) a1 b1 dk) ∧ Aside (SWK enc k w0 blk off dk wr) ∧
      Aside (∀ R, PermIn a1 b1 dk R → SortedIn (ltOf cf) a1 b1 R → PermIn a b d R ∧ SortedIn (ltOf cf) a b R)) (fun s1 s2 _ _ _ _ => (intOf s2).toNat - (intOf s1).toNat)
    case atStart => exact ⟨a, b, limit, true, true, d, rfl, rfl, rfl, rfl, rfl, Nat.le_refl _, hab, Nat.le_refl _, Nat.le_refl _, rfl, B0, S0, fun R h1 h2 => ⟨h1, h2⟩⟩
    case round =>
      clear S0 B0
      obtain ⟨a1, b1, lim, wb, wp, dk, rfl, rfl, rfl, rfl, rfl, haa, hab1, hbb, hlim, hdk, HB, S1, HR⟩ := hrel
      by_cases h12 : (b1 : Int) - (a1 : Int) ≤ 12
      · have hc := sv_insertion (P := P) (ρ := ρ) (cap := cap) (a := a1) (b := b1) { L with } E M S1.out (by omega) hab1 (by omega)
        rw [hdk] at hc
        go_wp2_with (go_at_fn (ρ.f 20); refine hc.mono ?_; rintro e w1 ⟨rfl, R, ⟨hp, hq⟩, T1⟩)
        (try simp only [Exit.inBlock, Exit.then]); refine bodyPost_ret (results_none rfl _ _ _) rfl ?_
        exact ⟨rfl, R, HR.out R hp hq, T1⟩
      · by_cases hl0 : (lim : Int) = 0
        · obtain rfl : lim = 0 := by omega
          have hc := sv_heap (P := P) (ρ := ρ) (cap := cap) (a := a1) (b := b1) { L with } E M S1.out (by omega) (by omega) (by omega)
          rw [hdk] at hc
          clear hl0
          go_wp2_with (go_at_fn (ρ.f 21); refine hc.mono ?_; rintro e w1 ⟨rfl, R, ⟨hp, hq⟩, T1⟩)
          (try simp only [Exit.inBlock, Exit.then]); refine bodyPost_ret (results_none rfl _ _ _) rfl ?_
          exact ⟨rfl, R, HR.out R hp hq, T1⟩
        · have hlz : ((lim : Int) == 0) = false := beq_false_of_ne hl0
          go_upto_if 39 with fail
          go_cut [3] from 21 (fun s3 wc => LimCut enc k w0 blk off (fun R => PermIn a1 b1 dk R) lim s3 wc)
          case first =>
            cases wb
            · have hc := sv_break (P := P) (ρ := ρ) (cap := cap) (a := a1) (b := b1) { L with } E M S1.out (by omega) (by omega) (by omega) (by omega)
              rw [hdk] at hc
              obtain ⟨l, rfl⟩ : ∃ l, lim = l + 1 := ⟨lim - 1, by omega⟩
              go_wp2_with (go_at_fn (ρ.f 22); refine hc.mono ?_; rintro e w1 ⟨rfl, R, hp, T1⟩)
              go_meet
              case rel => exact ⟨l, by first | rfl | go_num | (congr 1; omega), by omega, R, hp, T1⟩
            · go_wp2_with fail
              go_meet
              case rel => exact ⟨lim, rfl, Nat.le_refl _, dk, permIn_refl _ _ _, S1.out⟩
          case rest =>
            clear S1
            obtain ⟨l, rfl, hl, d1, hp1, T1⟩ := hcut
            have P1 : Aside _ := hp1
            have S2 : Aside (SWK enc k w0 blk off d1 wc) := T1
            have hs1 : d1.size = d.size := hp1.1.trans hdk
            clear hp1 T1
            have hc := sv_pivot (P := P) (ρ := ρ) (cap := cap) (a := a1) (b := b1) { L with } E M S2.out (by omega) (by omega) (by omega)
            rw [hs1] at hc
            go_upto_if 56 with (go_at_fn (ρ.f 23); refine hc.mono ?_; rintro e w2 ⟨p0, h0, rfl, ⟨hp1, hp2⟩, T2⟩)
            have S3 : Aside _ := T2
            clear T2 S2 hc
            go_cut [13, 14] from 21 (fun s13 s14 wc => PivCut enc k w0 blk off (fun R => PermIn a1 b1 d1 R) a1 b1 s13 s14 wc)
            case first =>
              by_cases h2 : h0 = 2
              · subst h2
                have hc := sv_reverse (P := P) (ρ := ρ) (cap := cap) (a := a1) (b := b1) { L with } E M S3.out (by omega) (by omega) (by omega)
                rw [hs1] at hc
                go_wp2_with (go_at_fn (ρ.f 24); refine hc.mono ?_; rintro e w3 ⟨rfl, R, hp, T3⟩)
                go_meet
                case rel => exact ⟨b1 - 1 - (p0 - a1), 1, by congr 1; omega, rfl, by omega, by omega, R, hp, T3⟩
              · have h2b : (h0 == 2) = false := beq_false_of_ne h2
                go_wp2_with fail
                go_meet
                case rel => exact ⟨p0, h0, rfl, rfl, hp1, hp2, d1, permIn_refl _ _ _, S3.out⟩
            case rest =>
              clear S3 hp1 hp2
              obtain ⟨p, h, rfl, rfl, hp1, hp2, d2, hq2, T2⟩ := hcut
              have P2 : Aside _ := hq2
              have S4 : Aside (SWK enc k w0 blk off d2 wc) := T2
              have hs2 : d2.size = d.size := hq2.1.trans hs1
              clear hq2 T2
              go_upto_region 15 with fail
              go_cut [75] from 21 (fun s75 wx => BitCut enc k w0 blk off (fun _ => True) d2 s75 wx)
              case first =>
                by_cases h1 : h = 1
                · subst h1
                  cases wb <;> cases wp <;> (go_wp2_with fail; go_meet; exact ⟨_, rfl, trivial, S4.out⟩)
                · have h1b : (h == 1) = false := beq_false_of_ne h1
                  cases wb <;> cases wp <;> (go_wp2_with fail; go_meet; exact ⟨_, rfl, trivial, S4.out⟩)
              case rest =>
                clear S4
                obtain ⟨c, rfl, -, T3⟩ := hcut
                have S5 : Aside (SWK enc k w0 blk off d2 wc) := T3
                clear T3
                go_upto_if 75 with fail
                go_cut [] from 21 (fun wx => Some1 enc k w0 blk off (fun R => PermIn a1 b1 d2 R) wx)
                case first =>
                  cases c
                  · go_wp2_with fail
                    go_meet
                    case rel => exact ⟨d2, permIn_refl _ _ _, S5.out⟩
                  · have hb2 : Below (ltOf cf) a1 b1 d2 := (HB.out.perm (by omega) P1.out).perm (by omega) P2.out
                    have kk := partialInsertionSort_holds (lt := ltOf cf) M.hO d2 a1 b1 (by omega) (by omega) hb2
                    have KK : Aside _ := kk
                    clear kk hb2
                    have hc := sv_partial (P := P) (ρ := ρ) (cap := cap) (a := a1) (b := b1) { L with } E M S5.out (by omega) (by omega) (by omega)
                    rw [hs2] at hc
                    go_wp2_with (go_at_fn (ρ.f 25); refine hc.mono ?_; rintro e w4 ⟨⟨R, r⟩, hr, rfl, T4⟩; (have RR := Lib.hid hr); clear hr)
                    all_goals first
                      | (go_meet
                         refine ⟨R, ?_, T4⟩
                         have := KK.out.1
                         rw [← RR.out] at this
                         exact this)
                      | ((try simp only [Exit.inBlock, Exit.then]); refine bodyPost_ret (results_none rfl _ _ _) rfl ?_
                         have hr1 : r = true := by assumption
                         have e1 := KK.out.1
                         have e2 := KK.out.2
                         rw [← RR.out] at e1 e2
                         exact ⟨rfl, R, HR.out R (permIn_trans _ _ _ _ _ P1.out (permIn_trans _ _ _ _ _ P2.out e1)) (e2 hr1), T4⟩)
                case rest =>
                  clear S5
                  obtain ⟨d3, hq3, T5⟩ := hcut
                  have P3 : Aside (PermIn a1 b1 dk d3) := permIn_trans _ _ _ _ _ P1.out (permIn_trans _ _ _ _ _ P2.out hq3)
                  have S6 : Aside (SWK enc k w0 blk off d3 wc) := T5
                  have hs3 : d3.size = d.size := hq3.1.trans hs2
                  have B3 : Aside (Below (ltOf cf) a1 b1 d3) := HB.out.perm (by omega) P3.out
                  clear hq3 T5 P1 P2
                  go_upto_region 17 with fail
                  go_cut [97] from 21 (fun s97 wx => BitCut enc k w0 blk off (fun c => c = true → 0 < a1 ∧ ltOf cf d3[a1 - 1]! d3[p]! = false) d3 s97 wx)
                  case first =>
                    by_cases ha0 : (0 : Int) < (a1 : Int)
                    · obtain ⟨u, rfl⟩ : ∃ u, a1 = u + 1 := ⟨a1 - 1, by omega⟩
                      have hu0 : (0 : Int) < (u : Int) + 1 := by omega
                      have hu1 : decide ((0 : Int) < (u : Int) + 1) = true := decide_eq_true hu0
                      have hu2 : decide ((u : Int) + 1 > 0) = true := decide_eq_true hu0
                      cases hl : ltOf cf d3[u]! d3[p]! with
                      | true =>
                        obtain ⟨x1, y1, hv1, hd1, la1, lb1, hc1⟩ := M.less S6.out (by omega) (i := u) (j := p) (by omega) (by omega) hl
                        obtain ⟨ia2, ib2, ic2, id2⟩ := idx (z := (u : Int)) (i := u) (n := d.size) (by omega) (by omega) hsz
                        obtain ⟨ia3, ib3, ic3, id3⟩ := idx (z := (p : Int)) (i := p) (n := d.size) (by omega) (by omega) hsz
                        go_wp2_with fail
                        go_quiet_grown (first | (go_at_fn g; exact hc1 _ _))
                        have S7 : Aside (SWK enc k w0 blk off d3 (grow (wc.drewN nq) osq)) := S6.out.grown nq osq
                        clear la1 lb1 hc1 S6
                        generalize grow (wc.drewN nq) osq = w7 at S7 ⊢
                        clear nq osq
                        go_wp2_with fail
                        go_meet
                        case rel => exact ⟨_, rfl, fun h => (by cases h), S7.out⟩
                      | false =>
                        obtain ⟨x4, y4, hv4, hd4, la4, lb4, hc4⟩ := M.notLess S6.out (by omega) (i := u) (j := p) (by omega) (by omega) hl
                        obtain ⟨ia5, ib5, ic5, id5⟩ := idx (z := (u : Int)) (i := u) (n := d.size) (by omega) (by omega) hsz
                        obtain ⟨ia6, ib6, ic6, id6⟩ := idx (z := (p : Int)) (i := p) (n := d.size) (by omega) (by omega) hsz
                        go_wp2_with fail
                        go_quiet_grown (first | (go_at_fn g; exact hc4 _ _))
                        have S7 : Aside (SWK enc k w0 blk off d3 (grow (wc.drewN nq) osq)) := S6.out.grown nq osq
                        clear la4 lb4 hc4 S6
                        generalize grow (wc.drewN nq) osq = w7 at S7 ⊢
                        clear nq osq
                        go_wp2_with fail
                        go_meet
                        case rel => exact ⟨_, rfl, fun _ => ⟨by omega, by simpa using hl⟩, S7.out⟩
                    · obtain rfl : a1 = 0 := by omega
                      have S7 : Aside (SWK enc k w0 blk off d3 wc.drew) := S6.out.drew
                      clear S6
                      go_wp2_with fail
                      go_big_region_o
                      all_goals go_wp2_with fail
                      go_meet
                      case rel => exact ⟨_, rfl, fun h => (by cases h), S7.out⟩
                  case rest =>
                    clear S6
                    obtain ⟨c, rfl, hc97, T6⟩ := hcut
                    have C97 : Aside _ := hc97
                    have S7 : Aside (SWK enc k w0 blk off d3 wc) := T6
                    clear hc97 T6
                    cases c with
                    | true =>
                      obtain ⟨ha0, hnl⟩ := C97.out rfl
                      obtain ⟨mid, d4, hx⟩ : ∃ mid d4, partitionEqual (ltOf cf) d3 a1 b1 p = (mid, d4) := ⟨_, _, rfl⟩
                      obtain ⟨r1, r2, r3, r4, r5⟩ := round_eq M.hO (partitionEqual_holds (ltOf cf)) ha0 hp1 hp2 (by omega) B3.out hnl hx
                      have hc := sv_partitionEqual (P := P) (ρ := ρ) (cap := cap) (a := a1) (b := b1) (pivot := p) { L with } E M S7.out (by omega) hp1 hp2 (by omega)
                      unfold PartedEq at hc
                      rw [hx, hs3] at hc
                      have R4 : Aside _ := r4
                      have R5 : Aside _ := r5
                      have hs4 : d4.size = d.size := r3.trans hs3
                      clear hx r3 r4 r5 hnl S7
                      go_wp2_with (go_at_fn (ρ.f 26); refine hc.mono ?_; rintro e w8 ⟨rfl, T8⟩)
                      go_roundw
                      case rel => exact ⟨mid, b1, l, wb, wp, d4, rfl, rfl, rfl, rfl, rfl, by omega, r2, hbb, by omega, hs4, R4, T8, fun R h1 h2 => by have := R5.out R h1 h2; exact HR.out R (permIn_trans _ _ _ _ _ P3.out this.1) this.2⟩
                      case measure => first | (simp [intOf]; done) | (simp [intOf]; omega)
                    | false =>
                      obtain ⟨mid, ap, d4, hx⟩ : ∃ mid ap d4, partition (ltOf cf) d3 a1 b1 p = (mid, ap, d4) := ⟨_, _, _, rfl⟩
                      obtain ⟨r1, r2, r3, r4, r5, r6, r7⟩ := round_part M.hO (partition_holds (ltOf cf)) hp1 hp2 (by omega) B3.out hx
                      have hc := sv_partition (P := P) (ρ := ρ) (cap := cap) (a := a1) (b := b1) (pivot := p) { L with } E M S7.out (by omega) hp1 hp2 (by omega)
                      unfold Parted at hc
                      rw [hx, hs3] at hc
                      have R4 : Aside _ := r4
                      have R5 : Aside _ := r5
                      have R6 : Aside _ := r6
                      have R7 : Aside _ := r7
                      have hs4 : d4.size = d.size := r3.trans hs3
                      clear hx r3 r4 r5 r6 r7 S7
                      go_upto_if 125 with (go_at_fn (ρ.f 27); refine hc.mono ?_; rintro e w8 ⟨rfl, T8⟩)
                      have S8 : Aside _ := T8
                      clear T8 hc
                      by_cases h4 : (mid : Int) - (a1 : Int) < (b1 : Int) - (mid : Int)
                      · have hc := IH.out a1 mid l d4 w8 (by omega) (by omega) S8.out (by omega) (by omega) (by omega) R4.out
                        rw [hs4] at hc
                        go_wp2_with (go_at_fn (ρ.f 14); refine hc.mono ?_; rintro e w9 ⟨rfl, D, ⟨hD1, hD2⟩, T9⟩)
                        have hs9 : D.size = d.size := hD1.1.trans hs4
                        have X1 : Aside _ := hD1
                        have X2 : Aside _ := hD2
                        have S9 : Aside _ := T9
                        clear hD1 hD2 T9 hc
                        go_wp2
                        go_roundw
                        case rel => exact ⟨mid + 1, b1, l, _, ap, D, by first | rfl | go_num, rfl, rfl, rfl, rfl, by omega, by omega, hbb, by omega, hs9, (R6.out D X1.out X2.out).1, S9, fun R h1 h2 => by have := (R6.out D X1.out X2.out).2 R h1 h2; exact HR.out R (permIn_trans _ _ _ _ _ P3.out this.1) this.2⟩
                        case measure => first | (simp [intOf]; done) | (simp [intOf]; omega)
                      · have hc := IH.out (mid + 1) b1 l d4 w8 (by omega) (by omega) S8.out (by omega) (by omega) (by omega) R5.out
                        rw [hs4, show ((mid + 1 : Nat) : Int) = (mid : Int) + 1 by omega] at hc
                        go_wp2_with (go_at_fn (ρ.f 14); refine hc.mono ?_; rintro e w9 ⟨rfl, D, ⟨hD1, hD2⟩, T9⟩)
                        have hs9 : D.size = d.size := hD1.1.trans hs4
                        have X1 : Aside _ := hD1
                        have X2 : Aside _ := hD2
                        have S9 : Aside _ := T9
                        clear hD1 hD2 T9 hc
                        go_wp2
                        go_roundw
                        case rel => exact ⟨a1, mid, l, _, ap, D, rfl, rfl, rfl, rfl, rfl, haa, by omega, by omega, by omega, hs9, (R7.out D X1.out X2.out).1, S9, fun R h1 h2 => by have := (R7.out D X1.out X2.out).2 R h1 h2; exact HR.out R (permIn_trans _ _ _ _ _ P3.out this.1) this.2⟩
                        case measure => first | (simp [intOf]; done) | (simp [intOf]; omega)

set_option maxHeartbeats 4000000 in
set_option maxRecDepth 1000000 in
/-- slices.SortFunc, at least one element: a permutation, sorted. -/
theorem sv_sort (L : SlLaysF0.n6 P ρ) (E : Elt P ρ k) {d : Array α} {w : World} {cap : Nat} (M : Srt P enc k cf g fs cb w blk off d) :
    Calls P (ρ.f 6) #[.slice (some ⟨blk, off, none⟩) d.size cap, .func (.func g) fs cb] w (Turned enc k w blk off fun d' => PermIn 0 d.size d d' ∧ SortedIn (ltOf cf) 0 d.size d') := by
  have hsz := M.hsz
  have hlim : Lib.bitLen d.size < 4611686018427387904 := Nat.lt_of_le_of_lt (Lib.bitLen_le d.size 62 (by omega) (by omega)) (by omega)
  have hp := sv_pdq (P := P) (ρ := ρ) { L with } E M cap (d.size + 1) 0 d.size (Lib.bitLen d.size) d w (by omega) rfl (SWK.start M.R.hH) (Nat.zero_le _) (Nat.le_refl _) hlim (Or.inl rfl)
  have hl : Calls P (ρ.f 15) #[.int .u64 (d.size : Int)] w fun e w' => e = .returned (.int .i64 (Lib.bitLen d.size : Nat)) ∧ w' = w := by
    have h := Any.bits_Len (SlLaysF0.n15.bits (P := P) (ρ := ρ) { L with }) (d.size : Int) w (by omega) (by omega)
    rwa [Int.toNat_natCast] at h
  rw [Int.natCast_zero] at hp
  have wr : IntKind.u64.wrap (d.size : Int) = d.size := by simp [IntKind.wrap, IntKind.bits, IntKind.signed]; omega
  have eg := M.eg
  have mixed := L.mixed; have t0 := L.t0; have a0 := L.a0; have z0 := L.z0; have v0 := L.v0; have t3 := L.t3; have a3 := L.a3; have z3 := L.z3; have v3 := L.v3; have t4 := L.t4; have a4 := L.a4; have z4 := L.z4; have v4 := L.v4; have t5 := L.t5; have a5 := L.a5; have z5 := L.z5; have v5 := L.v5; have t9 := L.t9; have a9 := L.a9; have z9 := L.z9; have v9 := L.v9; have t22 := L.t22; have a22 := L.a22; have z22 := L.z22; have v22 := L.v22; have t25 := L.t25; have a25 := L.a25; have z25 := L.z25; have v25 := L.v25; have t39 := L.t39; have a39 := L.a39; have z39 := L.z39; have v39 := L.v39; have t45 := L.t45; have a45 := L.a45; have z45 := L.z45; have v45 := L.v45; have t46 := L.t46; have a46 := L.a46; have z46 := L.z46; have v46 := L.v46; have t50 := L.t50; have a50 := L.a50; have z50 := L.z50; have v50 := L.v50; have t53 := L.t53; have a53 := L.a53; have z53 := L.z53; have v53 := L.v53; have t55 := L.t55; have a55 := L.a55; have z55 := L.z55; have v55 := L.v55; have t66 := L.t66; have a66 := L.a66; have z66 := L.z66; have v66 := L.v66; have t70 := L.t70; have a70 := L.a70; have z70 := L.z70; have v70 := L.v70; have t76 := L.t76; have a76 := L.a76; have z76 := L.z76; have v76 := L.v76; have t77 := L.t77; have a77 := L.a77; have z77 := L.z77; have v77 := L.v77
  have aE := E.aE; have zE := E.zE
  have e14 : ∀ args w, (callFunc (ρ.f 14) args).run P w = .ok (.enter (ρ.f 14) args) w := L.f14.enters rfl
  have e15 : ∀ args w, (callFunc (ρ.f 15) args).run P w = .ok (.enter (ρ.f 15) args) w := enters_of L.f15 (by kernel_rfl) rfl
  obtain ⟨_, _, FG⟩ := L.f6
  go_enter FG, SlBodyF.n6_ntmps ρ
  go_wp2_with (first | (go_at_fn (ρ.f 15); refine hl.mono ?_; rintro e w' ⟨rfl, rfl⟩) | (go_at_fn (ρ.f 14); refine hp.mono ?_; rintro e w' ⟨rfl, R, h1, h2⟩))
  go_end0
  exact ⟨rfl, R, h1, h2⟩
end Go.Proofs.YtkjffoebcblpoaaGreat.gn
end
