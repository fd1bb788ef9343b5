/- slices.siftDownCmpFunc, heapSortCmpFunc at any function value. -/
import Derived.Test.YtkjffoebcblpoaaGreatMSvK
import Derived.Sort.WalkB2
import Derived.Sort.LotB
import Derived.Deep.DeepCutAuto
import Derived.Deep.CutBlock
section
namespace Go.Proofs.YtkjffoebcblpoaaGreat.gn
open Go.RowKit Go.Shelf Go.Sort Go.Lib
variable {P : Program} {ρ : Ren} {α : Type} [Inhabited α] {enc : α → List Value} {k : Nat} {cf : α → α → Int} {g : FuncId} {fs cb : Array Value} {w0 : World} {blk off : Nat} {d0 : Array α}

theorem sv_size (lt : α → α → Bool) (hi F : Nat) : ∀ (r : Nat) (d : Array α), (siftDown lt hi F r d).size = d.size := by
  have key : ∀ (n r : Nat) (d : Array α), hi - r ≤ n → (siftDown lt hi F r d).size = d.size := by
    intro n
    induction n with
    | zero => intro r d h; rw [sd_end lt d (by omega)]
    | succ n ih =>
      intro r d h
      rw [siftDown]
      split
      · rfl
      · split
        · split
          · rfl
          · split
            · rw [ih _ _ (by omega), size_swp]
            · rfl
        · split
          · rfl
          · rw [ih _ _ (by omega), size_swp]
  exact fun r d => key _ r d (Nat.le_refl _)

/-- Whether there is a right child that is greater than the left one. -/
def RightOne (lt : α → α → Bool) (enc : α → List Value) (k : Nat) (w0 : World) (blk off hi F c0 c1 : Nat) (d : Array α) (s : Value) (W : World) : Prop :=
  ∃ c : Bool, s = .bool c ∧ (c = true → c1 < hi ∧ lt d[F + c0]! d[F + c1]! = true) ∧ (c = false → c1 < hi → lt d[F + c0]! d[F + c1]! = false) ∧ SWK enc k w0 blk off d W
section
variable {lt : α → α → Bool} {hi F r c0 c1 : Nat} (d : Array α)
theorem rgo (h0 : c0 = 2 * r + 1) (h1 : c1 = 2 * r + 2) (h2 : c1 < hi) (h3 : lt d[F + c0]! d[F + c1]! = true) (h4 : lt d[F + r]! d[F + c1]! = true) : siftDown lt hi F r d = siftDown lt hi F c1 (swp d (F + r) (F + c1)) := by
  subst h0; subst h1; exact sd_right_go lt d h2 h3 h4
theorem rstop (h0 : c0 = 2 * r + 1) (h1 : c1 = 2 * r + 2) (h2 : c1 < hi) (h3 : lt d[F + c0]! d[F + c1]! = true) (h4 : lt d[F + r]! d[F + c1]! = false) : siftDown lt hi F r d = d := by
  subst h0; subst h1; exact sd_right_stop lt d h2 h3 h4
theorem lgo (h0 : c0 = 2 * r + 1) (h1 : c1 = 2 * r + 2) (h2 : c0 < hi) (h3 : c1 < hi → lt d[F + c0]! d[F + c1]! = false) (h4 : lt d[F + r]! d[F + c0]! = true) : siftDown lt hi F r d = siftDown lt hi F c0 (swp d (F + r) (F + c0)) := by
  subst h0; subst h1; exact sd_left_go lt d h2 h3 h4
theorem lstop (h0 : c0 = 2 * r + 1) (h1 : c1 = 2 * r + 2) (h2 : c0 < hi) (h3 : c1 < hi → lt d[F + c0]! d[F + c1]! = false) (h4 : lt d[F + r]! d[F + c0]! = false) : siftDown lt hi F r d = d := by
  subst h0; subst h1; exact sd_left_stop lt d h2 h3 h4
end

set_option maxHeartbeats 16000000 in
set_option maxRecDepth 1000000 in
theorem sv_sift (L : SlLaysF0.n46 P ρ) (E : Elt P ρ k) (M : Srt P enc k cf g fs cb w0 blk off d0) {d : Array α} {w : World} {lo hi F cap : Nat} (S : SWK enc k w0 blk off d w) (hs : d0.size = d.size) (hlo : lo ≤ hi) (hb : F + hi ≤ d.size) :
    Calls P (ρ.f 46) #[.slice (some ⟨blk, off, none⟩) d.size cap, .int .i64 lo, .int .i64 hi, .int .i64 F, .func (.func g) fs cb] w (Turned enc k w0 blk off fun d' => d' = siftDown (ltOf cf) hi F lo d) := by
  have mixed := L.mixed; have t0 := L.t0; have a0 := L.a0; have z0 := L.z0; have v0 := L.v0; have t3 := L.t3; have a3 := L.a3; have z3 := L.z3; have v3 := L.v3; have t4 := L.t4; have a4 := L.a4; have z4 := L.z4; have v4 := L.v4; have t22 := L.t22; have a22 := L.a22; have z22 := L.z22; have v22 := L.v22; have t25 := L.t25; have a25 := L.a25; have z25 := L.z25; have v25 := L.v25
  have aE := E.aE; have zE := E.zE
  have eg := M.eg
  have hsz : d.size < 4611686018427387904 := by rw [← hs]; exact M.hsz
  obtain ⟨_, _, FG⟩ := L.f46
  have S0 : Aside (SWK enc k w0 blk off d w) := S
  clear S
  go_enter FG, SlBodyF.n46_ntmps ρ
  go_wp2
  go_loopw [10] (fun vr wr => ∃ (r : Nat) (dk : Array α), vr = .int .i64 r ∧ r ≤ hi ∧ dk.size = d.size ∧ Aside (SWK enc k w0 blk off dk wr) ∧ Aside (siftDown (ltOf cf) hi F r dk = siftDown (ltOf cf) hi F lo d)) (fun vr _ => hi - (intOf vr).toNat)
  case atStart => exact ⟨lo, d, rfl, hlo, rfl, S0, rfl⟩
  case round =>
    clear S0 hlo
    obtain ⟨r, dk, rfl, hr, hdk, S1, HE⟩ := hrel
    obtain ⟨c0, h0⟩ : ∃ c0 : Nat, c0 = 2 * r + 1 := ⟨_, rfl⟩
    obtain ⟨c1, h1⟩ : ∃ c1 : Nat, c1 = 2 * r + 2 := ⟨_, rfl⟩
    have z0 : 2 * (r : Int) + 1 = (c0 : Int) := by omega
    have z1 : (c0 : Int) + 1 = (c1 : Int) := by omega
    have i0 : r < c0 := by omega
    have i1 : c0 < c1 := by omega
    have i2 : c1 ≤ c0 + 1 := by omega
    have H0 : Aside (c0 = 2 * r + 1) := h0
    have H1 : Aside (c1 = 2 * r + 2) := h1
    clear h0 h1
    by_cases hc : (hi : Int) ≤ (c0 : Int)
    · have e := (sd_end (ltOf cf) (F := F) (root := r) dk (show hi ≤ 2 * r + 1 by have := H0.out; omega)).symm.trans HE.out
      have EE : Aside _ := e
      clear e
      go_wp2
      go_end0
      exact ⟨rfl, dk, EE.out, S1.out⟩
    · have hc0 : c0 < hi := by omega
      have wz1 : IntKind.i64.wrap (c1 : Int) = (c1 : Int) := by rw [IntKind.wrap_i64]; omega
      go_upto_region 3 with fail
      go_cut [40] from 19 to 40 (fun sv wx => RightOne (ltOf cf) enc k w0 blk off hi F c0 c1 dk sv wx)
      case first =>
        by_cases hd1 : (c1 : Int) < (hi : Int)
        · have hdd : decide ((c1 : Int) < (hi : Int)) = true := decide_eq_true hd1
          have hdn : decide (c1 < hi) = true := decide_eq_true (by omega)
          cases hl : ltOf cf dk[F + c0]! dk[F + c1]! with
          | true =>
            obtain ⟨x1, y1, hv1, hd1, la1, lb1, hc1⟩ := M.less S1.out (by omega) (i := F + c0) (j := F + c1) (by omega) (by omega) hl
            obtain ⟨ia2, ib2, ic2, id2⟩ := idx (z := (F : Int) + (c0 : Int)) (i := F + c0) (n := d.size) (by omega) (by omega) hsz
            obtain ⟨ia3, ib3, ic3, id3⟩ := idx (z := (F : Int) + (c0 : Int) + 1) (i := F + c1) (n := d.size) (by omega) (by omega) hsz
            go_wp2_with fail
            go_quiet_grown (first | (go_at_fn g; exact hc1 _ _))
            have S2 : Aside (SWK enc k w0 blk off dk (grow (wr.drewN nq) osq)) := S1.out.grown nq osq
            clear la1 lb1 hc1 S1
            generalize grow (wr.drewN nq) osq = w2 at S2 ⊢
            clear nq osq
            go_wp2_with fail
            go_meet
            case rel => exact ⟨true, rfl, fun h => ⟨by omega, hl⟩, fun h _ => (by cases h), S2.out⟩
          | false =>
            obtain ⟨x4, y4, hv4, hd4, la4, lb4, hc4⟩ := M.notLess S1.out (by omega) (i := F + c0) (j := F + c1) (by omega) (by omega) hl
            obtain ⟨ia5, ib5, ic5, id5⟩ := idx (z := (F : Int) + (c0 : Int)) (i := F + c0) (n := d.size) (by omega) (by omega) hsz
            obtain ⟨ia6, ib6, ic6, id6⟩ := idx (z := (F : Int) + (c0 : Int) + 1) (i := F + c1) (n := d.size) (by omega) (by omega) hsz
            go_wp2_with fail
            go_quiet_grown (first | (go_at_fn g; exact hc4 _ _))
            have S2 : Aside (SWK enc k w0 blk off dk (grow (wr.drewN nq) osq)) := S1.out.grown nq osq
            clear la4 lb4 hc4 S1
            generalize grow (wr.drewN nq) osq = w2 at S2 ⊢
            clear nq osq
            go_wp2_with fail
            go_meet
            case rel => exact ⟨false, rfl, fun h => (by cases h), fun h _ => hl, S2.out⟩
        · have hdd : decide ((c1 : Int) < (hi : Int)) = false := decide_eq_false hd1
          have hdn : decide (c1 < hi) = false := decide_eq_false (by omega)
          have S2 : Aside (SWK enc k w0 blk off dk wr.drew) := S1.out.drew
          clear S1
          go_wp2_with fail
          go_big_region_o
          go_wp2_with fail
          go_meet
          case rel => exact ⟨false, rfl, fun h => (by cases h), fun _ h => absurd h (by omega), S2.out⟩
      case rest =>
        clear S1
        obtain ⟨c, rfl, hct, hcf, S2⟩ := hcut
        have HT : Aside _ := hct
        have HF : Aside _ := hcf
        have S3 : Aside (SWK enc k w0 blk off dk wc) := S2
        clear hct hcf S2
        cases c with
        | true =>
          obtain ⟨j1, j2⟩ := HT.out rfl
          have J2 : Aside _ := j2
          clear j2
          cases hl : ltOf cf dk[F + r]! dk[F + c1]! with
          | true =>
            have e := (rgo (lt := ltOf cf) (hi := hi) (F := F) dk H0.out H1.out j1 J2.out hl).symm.trans HE.out
            have EE : Aside _ := e
            clear e
            obtain ⟨x7, y7, hv7, hd7, la7, lb7, hc7⟩ := M.less S3.out (by omega) (i := F + r) (j := F + c1) (by omega) (by omega) hl
            obtain ⟨ia8, ib8, ic8, id8⟩ := idx (z := (F : Int) + (r : Int)) (i := F + r) (n := d.size) (by omega) (by omega) hsz
            obtain ⟨ia9, ib9, ic9, id9⟩ := idx (z := (F : Int) + (c1 : Int)) (i := F + c1) (n := d.size) (by omega) (by omega) hsz
            go_wp2_with fail
            go_quiet_grown (first | (go_at_fn g; exact hc7 _ _))
            have S4 : Aside (SWK enc k w0 blk off dk (grow (wc.drewN nq) osq)) := S3.out.grown nq osq
            clear la7 lb7 hc7 S3
            generalize grow (wc.drewN nq) osq = w4 at S4 ⊢
            clear nq osq
            go_wp2_with fail
            obtain ⟨ci10, cj10, ⟨ni10, nj10, la10, lb10, sa10, sb10⟩, S5⟩ := M.exch S4.out (by omega) (i := F + r) (j := F + c1) (by omega) (by omega)
            obtain ⟨ia11, ib11, ic11, id11⟩ := idx (z := (F : Int) + (r : Int)) (i := F + r) (n := d.size) (by omega) (by omega) hsz
            obtain ⟨ia12, ib12, ic12, id12⟩ := idx (z := (F : Int) + (c1 : Int)) (i := F + c1) (n := d.size) (by omega) (by omega) hsz
            clear S4
            go_wp2_with fail
            go_big_region_o
            clear la10 lb10 sa10 sb10
            generalize (w4.drew.setCells blk (off + (F + r) * k) cj10).setCells blk (off + (F + c1) * k) ci10 = w5 at S5 ⊢
            go_wp2
            go_roundw
            case rel => exact ⟨c1, swp dk (F + r) (F + c1), rfl, by omega, by rw [size_swp]; exact hdk, S5, EE⟩
            case measure => first | (simp [intOf]; done) | (simp [intOf]; omega)
          | false =>
            have e := (rstop (lt := ltOf cf) (hi := hi) (F := F) dk H0.out H1.out j1 J2.out hl).symm.trans HE.out
            have EE : Aside _ := e
            clear e
            obtain ⟨x13, y13, hv13, hd13, la13, lb13, hc13⟩ := M.notLess S3.out (by omega) (i := F + r) (j := F + c1) (by omega) (by omega) hl
            obtain ⟨ia14, ib14, ic14, id14⟩ := idx (z := (F : Int) + (r : Int)) (i := F + r) (n := d.size) (by omega) (by omega) hsz
            obtain ⟨ia15, ib15, ic15, id15⟩ := idx (z := (F : Int) + (c1 : Int)) (i := F + c1) (n := d.size) (by omega) (by omega) hsz
            go_wp2_with fail
            go_quiet_grown (first | (go_at_fn g; exact hc13 _ _))
            have S4 : Aside (SWK enc k w0 blk off dk (grow (wc.drewN nq) osq)) := S3.out.grown nq osq
            clear la13 lb13 hc13 S3
            generalize grow (wc.drewN nq) osq = w4 at S4 ⊢
            clear nq osq
            go_wp2
            (try simp only [Exit.inBlock, Exit.then]); refine bodyPost_ret (results_none rfl _ _ _) rfl ?_
            exact ⟨rfl, dk, EE.out, S4.out⟩
        | false =>
          cases hl : ltOf cf dk[F + r]! dk[F + c0]! with
          | true =>
            have e := (lgo (lt := ltOf cf) (hi := hi) (F := F) dk H0.out H1.out hc0 (HF.out rfl) hl).symm.trans HE.out
            have EE : Aside _ := e
            clear e
            obtain ⟨x16, y16, hv16, hd16, la16, lb16, hc16⟩ := M.less S3.out (by omega) (i := F + r) (j := F + c0) (by omega) (by omega) hl
            obtain ⟨ia17, ib17, ic17, id17⟩ := idx (z := (F : Int) + (r : Int)) (i := F + r) (n := d.size) (by omega) (by omega) hsz
            obtain ⟨ia18, ib18, ic18, id18⟩ := idx (z := (F : Int) + (c0 : Int)) (i := F + c0) (n := d.size) (by omega) (by omega) hsz
            go_wp2_with fail
            go_quiet_grown (first | (go_at_fn g; exact hc16 _ _))
            have S4 : Aside (SWK enc k w0 blk off dk (grow (wc.drewN nq) osq)) := S3.out.grown nq osq
            clear la16 lb16 hc16 S3
            generalize grow (wc.drewN nq) osq = w4 at S4 ⊢
            clear nq osq
            go_wp2_with fail
            obtain ⟨ci19, cj19, ⟨ni19, nj19, la19, lb19, sa19, sb19⟩, S5⟩ := M.exch S4.out (by omega) (i := F + r) (j := F + c0) (by omega) (by omega)
            obtain ⟨ia20, ib20, ic20, id20⟩ := idx (z := (F : Int) + (r : Int)) (i := F + r) (n := d.size) (by omega) (by omega) hsz
            obtain ⟨ia21, ib21, ic21, id21⟩ := idx (z := (F : Int) + (c0 : Int)) (i := F + c0) (n := d.size) (by omega) (by omega) hsz
            clear S4
            go_wp2_with fail
            go_big_region_o
            clear la19 lb19 sa19 sb19
            generalize (w4.drew.setCells blk (off + (F + r) * k) cj19).setCells blk (off + (F + c0) * k) ci19 = w5 at S5 ⊢
            go_wp2
            go_roundw
            case rel => exact ⟨c0, swp dk (F + r) (F + c0), rfl, by omega, by rw [size_swp]; exact hdk, S5, EE⟩
            case measure => first | (simp [intOf]; done) | (simp [intOf]; omega)
          | false =>
            have e := (lstop (lt := ltOf cf) (hi := hi) (F := F) dk H0.out H1.out hc0 (HF.out rfl) hl).symm.trans HE.out
            have EE : Aside _ := e
            clear e
            obtain ⟨x22, y22, hv22, hd22, la22, lb22, hc22⟩ := M.notLess S3.out (by omega) (i := F + r) (j := F + c0) (by omega) (by omega) hl
            obtain ⟨ia23, ib23, ic23, id23⟩ := idx (z := (F : Int) + (r : Int)) (i := F + r) (n := d.size) (by omega) (by omega) hsz
            obtain ⟨ia24, ib24, ic24, id24⟩ := idx (z := (F : Int) + (c0 : Int)) (i := F + c0) (n := d.size) (by omega) (by omega) hsz
            go_wp2_with fail
            go_quiet_grown (first | (go_at_fn g; exact hc22 _ _))
            have S4 : Aside (SWK enc k w0 blk off dk (grow (wc.drewN nq) osq)) := S3.out.grown nq osq
            clear la22 lb22 hc22 S3
            generalize grow (wc.drewN nq) osq = w4 at S4 ⊢
            clear nq osq
            go_wp2
            (try simp only [Exit.inBlock, Exit.then]); refine bodyPost_ret (results_none rfl _ _ _) rfl ?_
            exact ⟨rfl, dk, EE.out, S4.out⟩

set_option maxHeartbeats 8000000 in
set_option maxRecDepth 1000000 in
theorem sv_heap (L : SlLaysF0.n21 P ρ) (E : Elt P ρ k) (M : Srt P enc k cf g fs cb w0 blk off d0) {d : Array α} {w : World} {a b cap : Nat} (S : SWK enc k w0 blk off d w) (hs : d0.size = d.size) (hab : a < b) (hb : b ≤ d.size) :
    Calls P (ρ.f 21) #[.slice (some ⟨blk, off, none⟩) d.size cap, .int .i64 a, .int .i64 b, .func (.func g) fs cb] w (Turned enc k w0 blk off fun d' => PermIn a b d d' ∧ SortedIn (ltOf cf) a b d') := by
  have key := heapSort_holds (lt := ltOf cf) M.hO d a b (by omega) hb
  unfold heapSort at key
  have sift := fun (W : World) (lo hi : Nat) (dk : Array α) (S' : SWK enc k w0 blk off dk W) (h1 : dk.size = d.size) (h2 : lo ≤ hi) (h3 : a + hi ≤ d.size) => by
    have h := sv_sift (P := P) (ρ := ρ) (cap := cap) (F := a) (lo := lo) (hi := hi) { L with } E M S' (by omega) h2 (by omega)
    rw [h1] at h
    exact h
  have SIFT : Aside _ := sift
  clear sift
  have mixed := L.mixed; have t0 := L.t0; have a0 := L.a0; have z0 := L.z0; have v0 := L.v0; have t3 := L.t3; have a3 := L.a3; have z3 := L.z3; have v3 := L.v3; have t4 := L.t4; have a4 := L.a4; have z4 := L.z4; have v4 := L.v4; have t22 := L.t22; have a22 := L.a22; have z22 := L.z22; have v22 := L.v22; have t25 := L.t25; have a25 := L.a25; have z25 := L.z25; have v25 := L.v25
  have aE := E.aE; have zE := E.zE
  have eg := M.eg
  have hsz : d.size < 4611686018427387904 := by rw [← hs]; exact M.hsz
  obtain ⟨_, _, FG⟩ := L.f21
  have e46 : ∀ args w, (callFunc (ρ.f 46) args).run P w = .ok (.enter (ρ.f 46) args) w := L.f46.enters rfl
  obtain ⟨N, hN⟩ : ∃ N : Nat, N = b - a := ⟨_, rfl⟩
  rw [← hN] at key
  obtain ⟨m0, hm0⟩ : ∃ m0 : Nat, m0 = (N - 1) / 2 := ⟨_, rfl⟩
  rw [← hm0] at key
  have KEY : Aside _ := key
  clear key
  have zN : (b : Int) - (a : Int) = (N : Int) := by omega
  have zm : Aside (((N : Int) - 1) / 2 + 1 = ((m0 + 1 : Nat) : Int)) := by show _ = _; omega
  have hN1 : 0 < N := by omega
  have hN2 : a + N ≤ d.size := by omega
  have hm1 : m0 < N := by omega
  clear hN hm0
  have S0 : Aside (SWK enc k w0 blk off d w) := S
  clear S
  go_enter FG, SlBodyF.n21_ntmps ρ
  go_upto_block 0 with fail
  go_cut [11] from 20 to 29 (fun _ wx => Turned enc k w0 blk off (fun d' => d'.size = d.size ∧ d' = heapBuild (ltOf cf) N a (m0 + 1) d) (.returned (.tuple #[])) wx)
  case first =>
    go_wp2_with fail
    go_loopw [11] (fun vi wr => ∃ (m : Nat) (z : Int) (dk : Array α), vi = .int .i64 z ∧ z + 1 = (m : Int) ∧ m ≤ m0 + 1 ∧ dk.size = d.size ∧ Aside (SWK enc k w0 blk off dk wr) ∧ Aside (heapBuild (ltOf cf) N a m dk = heapBuild (ltOf cf) N a (m0 + 1) d)) (fun vi _ => (intOf vi + 1).toNat)
    case atStart => exact ⟨m0 + 1, _, d, rfl, zm.out, Nat.le_refl _, rfl, S0, rfl⟩
    case round =>
      clear S0
      obtain ⟨m, z, dk, rfl, hz, hm, hdk, S1, HE⟩ := hrel
      by_cases h0 : 0 ≤ z
      · obtain ⟨p, rfl⟩ : ∃ p : Nat, z = (p : Int) := ⟨z.toNat, by omega⟩
        obtain rfl : m = p + 1 := by omega
        clear hz
        have hc := SIFT.out wr p N dk S1.out hdk (by omega) hN2
        go_wp2_with (go_at_fn (ρ.f 46); refine hc.mono ?_; rintro e w1 ⟨rfl, d1, hd1, T1⟩)
        have S2 : Aside _ := T1
        have D1 : Aside _ := hd1
        have hs1 : d1.size = d.size := by rw [hd1]; exact (sv_size _ _ _ _ _).trans hdk
        clear T1 hd1 hc S1
        go_wp2
        go_roundw
        case rel => exact ⟨p, (p : Int) - 1, d1, by first | rfl | go_num, by omega, by omega, hs1, S2, by have := HE.out; rw [heapBuild, ← D1.out] at this; exact this⟩
        case measure => first | (simp [intOf]; done) | (simp [intOf]; omega)
      · obtain rfl : m = 0 := by omega
        go_wp2
        go_meet
        case rel => exact ⟨rfl, dk, ⟨hdk, HE.out⟩, S1.out⟩
  case rest =>
    clear S0
    obtain ⟨_, D, ⟨hD, hDE⟩, T1⟩ := hcut
    have S1 : Aside _ := T1
    have DE : Aside _ := hDE
    clear T1 hDE
    go_wp2_with fail
    go_loopw [12] (fun vi wr => ∃ (m : Nat) (z : Int) (dk : Array α), vi = .int .i64 z ∧ z + 1 = (m : Int) ∧ m ≤ N ∧ dk.size = d.size ∧ Aside (SWK enc k w0 blk off dk wr) ∧ Aside (heapPop (ltOf cf) a m dk = heapPop (ltOf cf) a N D)) (fun vi _ => (intOf vi + 1).toNat)
    case atStart => exact ⟨N, (N : Int) - 1, D, by first | rfl | go_num, by omega, Nat.le_refl _, hD, S1, rfl⟩
    case round =>
      clear S1
      obtain ⟨m, z, dk, rfl, hz, hm, hdk, S2, HE⟩ := hrel
      by_cases h0 : 0 ≤ z
      · obtain ⟨p, rfl⟩ : ∃ p : Nat, z = (p : Int) := ⟨z.toNat, by omega⟩
        obtain rfl : m = p + 1 := by omega
        clear hz
        obtain ⟨ci25, cj25, ⟨ni25, nj25, la25, lb25, sa25, sb25⟩, S3⟩ := M.exch S2.out (by omega) (i := a) (j := a + p) (by omega) (by omega)
        obtain ⟨ia26, ib26, ic26, id26⟩ := idx (z := (a : Int)) (i := a) (n := d.size) (by omega) (by omega) hsz
        obtain ⟨ia27, ib27, ic27, id27⟩ := idx (z := (a : Int) + (p : Int)) (i := a + p) (n := d.size) (by omega) (by omega) hsz
        clear S2
        go_wp2_with fail
        go_big_region_o
        clear la25 lb25 sa25 sb25
        generalize (wr.drew.setCells blk (off + (a) * k) cj25).setCells blk (off + (a + p) * k) ci25 = w3 at S3 ⊢
        have hc := SIFT.out w3 0 p (swp dk a (a + p)) S3.out (by rw [size_swp]; exact hdk) (Nat.zero_le _) (by omega)
        rw [Int.natCast_zero] at hc
        go_wp2_with (go_at_fn (ρ.f 46); refine hc.mono ?_; rintro e w4 ⟨rfl, d1, hd1, T1⟩)
        have S4 : Aside _ := T1
        have D1 : Aside _ := hd1
        have hs1 : d1.size = d.size := by rw [hd1]; exact (sv_size _ _ _ _ _).trans (by rw [size_swp]; exact hdk)
        clear T1 hd1 hc S3
        go_wp2
        go_roundw
        case rel => exact ⟨p, (p : Int) - 1, d1, by first | rfl | go_num, by omega, by omega, hs1, S4, by have := HE.out; rw [heapPop, ← D1.out] at this; exact this⟩
        case measure => first | (simp [intOf]; done) | (simp [intOf]; omega)
      · obtain rfl : m = 0 := by omega
        go_wp2
        go_end0
        refine ⟨rfl, dk, ?_, S2.out⟩
        have e : dk = heapPop (ltOf cf) a N D := HE.out
        rw [e, DE.out]
        exact KEY.out
end Go.Proofs.YtkjffoebcblpoaaGreat.gn
end
