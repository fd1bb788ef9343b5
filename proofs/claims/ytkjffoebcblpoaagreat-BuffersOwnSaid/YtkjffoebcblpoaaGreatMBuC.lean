/- The document's answers for buffers: below, place, may. (Written ahead of the code.) -/
import Derived.Test.YtkjffoebcblpoaaGreatMBuB
import Derived.Test.YtkjffoebcblpoaaGreatMSvK
import Derived.Sort.LotA
section
set_option linter.unusedVariables false
set_option linter.unusedSimpArgs false
namespace Go.Proofs.YtkjffoebcblpoaaGreat.gn
open Go.RowKit
open Go.Proofs.YtkjffoebcblpoaaGreat.un (isName)
open Go.Proofs.YtkjffoebcblpoaaGreat.ex (X okx Dj Ok Apart Fine)
open Go.Proofs.YtkjffoebcblpoaaGreat.bu (Bf May RefsOk jobOk lt lt_iff same place NoneIn)
open Go.Proofs.YtkjffoebcblpoaaGreat.po (less)

/-- Two boxes that are made at once. -/
theorem made_bb (w : World) (x y : Bf) (g k : Gb) : ∃ W, (w.alloc (.cells (bcs x g) 26)).alloc (.cells (bcs y k) 26) = W ∧ BufB W w.heap.size x g ∧ BufB W (w.heap.size + 1) y k ∧ Below w.heap.size w W := by
  refine ⟨_, rfl, ?_, ?_, ((Below.refl _ _).alloc (Nat.le_refl _) _).alloc (by simp) _⟩
  · exact BoxA.next (BoxA.new w _ _) ((Below.refl _ _).alloc (Nat.le_refl _) _)
  · have := BoxA.new (w.alloc (.cells (bcs x g) 26)) 26 (bcs y k)
    rw [World.size_alloc] at this
    exact this
theorem less_str (a b : List UInt8) : Go.Op.bytesLess (str a).toList (str b).toList = less a b := by rw [str_toList, str_toList]; rfl
set_option maxRecDepth 100000 in
set_option maxHeartbeats 3200000 in
theorem dbelow_any (x y : Bf) (g k : Gb) (w : World) : Calls Tryz.prog 40 #[bV x g, bV y k] w (TellsM (.bool (lt x y)) w) := by
  obtain ⟨W, hW, hx, hy, hl⟩ := made_bb w x y g k
  have HL := Lib.hid hl
  have HW := Lib.hid hW
  obtain ⟨x0, x1, -, -, -, -, -, xl⟩ := hx.cells
  obtain ⟨y0, y1, -, -, -, -, -, yl⟩ := hy.cells
  have HS := less_str x.name y.name
  have HT := Lib.hid (show lt x y = (decide (x.job < y.job) || (decide (x.job = y.job) && less x.name y.name)) from rfl)
  unfold bcs at HW
  clear hW hx hy hl
  by_cases h1 : x.job < y.job
  · have d1 : decide (x.job < y.job) = true := decide_eq_true h1
    have HR := Lib.hid (show lt x y = true by rw [HT.out, d1]; rfl)
    unfold bV bcs
    go_enter Tryz.func40, Tryz.ntmps40
    go_upto_region 1 with fail
    rw [HW.out]
    go_wp2
    go_ret
    exact ⟨by rw [HR.out]; rfl, HL.out⟩
  · have d1 : decide (x.job < y.job) = false := decide_eq_false h1
    by_cases h2 : x.job = y.job
    · have d2 : (x.job == y.job) = true := by rw [beq_iff_eq]; exact h2
      have HR := Lib.hid (show lt x y = less x.name y.name by rw [HT.out, d1, decide_eq_true h2]; rfl)
      clear h2 h1
      unfold bV bcs
      go_enter Tryz.func40, Tryz.ntmps40
      go_upto_region 1 with fail
      rw [HW.out]
      go_wp2
      go_ret
      exact ⟨by rw [HR.out]; rfl, HL.out⟩
    · have d2 : (x.job == y.job) = false := by rw [beq_eq_false_iff_ne]; exact h2
      have HR := Lib.hid (show lt x y = false by rw [HT.out, d1, decide_eq_false h2]; rfl)
      unfold bV bcs
      go_enter Tryz.func40, Tryz.ntmps40
      go_upto_region 1 with fail
      rw [HW.out]
      go_wp2
      go_ret
      exact ⟨by rw [HR.out]; rfl, HL.out⟩
/-- A place as a number. -/
def pI : Option Nat → Int
  | some i => (i : Int)
  | none => -1
theorem fst_at {L : List (Bf × Gb)} {i : Nat} {q : Bf × Gb} (h : L[i]? = some q) : (L.map Prod.fst)[i]? = some q.1 := by rw [List.getElem?_map, h]; rfl
set_option maxRecDepth 100000 in
set_option maxHeartbeats 3200000 in
theorem dplace_any {w : World} {v : Value} {L : List (Bf × Gb)} (h : RBs w v L) (hl : L.length ≤ 140737488355328) (job : Int) (name : List UInt8) :
    Calls Tryz.prog 38 #[v, .int .i64 job, .string (str name)] w fun e w' => e = .returned (.int .i64 (pI (place (L.map Prod.fst) job name))) ∧ w = w' := by
  obtain ⟨p, c, rfl, f⟩ := h.form
  obtain ⟨n, hn⟩ : ∃ n, L.length = n := ⟨_, rfl⟩
  rw [hn]
  have HF := Lib.hid f
  have HN := Lib.hid hn
  have hn1 : n ≤ 140737488355328 := by omega
  clear h f hl hn
  go_enter Tryz.func38, Tryz.ntmps38
  go_wp2
  go_loop [7] (fun s7 => ∃ i : Nat, s7 = .int .i64 (i : Nat) ∧ i ≤ n ∧ Aside (NoneIn (L.map Prod.fst) job name i)) (fun s7 => n - (intOf s7).toNat)
  case atStart => exact ⟨0, rfl, Nat.zero_le _, NoneIn.zero _ _ _⟩
  case round =>
    obtain ⟨i, rfl, hi, hrow⟩ := hrel
    have HR := Lib.hid (show NoneIn (L.map Prod.fst) job name i from hrow)
    clear hrow
    by_cases hin : i < n
    · obtain ⟨q, hq⟩ : ∃ q, L[i]? = some q := ⟨_, List.getElem?_eq_getElem (by rw [HN.out]; exact hin)⟩
      obtain ⟨kb, off, rfl, hk, hc⟩ := HF.out (ne_of_at hq)
      obtain ⟨c0, c1, -⟩ := BAt.cells hc hq
      have HQ := Lib.hid (fst_at hq)
      obtain ⟨b, gb⟩ := q
      dsimp only at c0 c1
      dsimp only at HQ
      clear hc hq
      by_cases h1 : b.job = job
      · have d1 : (b.job == job) = true := by rw [beq_iff_eq]; exact h1
        by_cases h2 : b.name = name
        · have d2 : ((str b.name).toList == (str name).toList) = true := by rw [str_toList, str_toList, beq_iff_eq]; exact h2
          have d3 : (str b.name).toList = (str name).toList := by rw [h2]
          have HP := Lib.hid (HR.out.here HQ.out ⟨h1, h2⟩)
          clear h1 h2
          go_wp2
          go_ret
          exact ⟨by rw [HP.out]; rfl, rfl⟩
        · have d2 : ((str b.name).toList == (str name).toList) = false := by rw [str_toList, str_toList, beq_eq_false_iff_ne]; exact h2
          have d3 : ¬ (str b.name).toList = (str name).toList := by rw [str_toList, str_toList]; exact h2
          have HP := Lib.hid (HR.out.step HQ.out (fun hh => h2 hh.2))
          clear h1 h2
          go_wp2
          go_round
          case rel => exact ⟨i + 1, by go_num, by omega, HP.out⟩
          case measure => simp [intOf]; omega
      · have d1 : (b.job == job) = false := by rw [beq_eq_false_iff_ne]; exact h1
        have HP := Lib.hid (HR.out.step HQ.out (fun hh => h1 hh.1))
        go_wp2
        go_round
        case rel => exact ⟨i + 1, by go_num, by omega, HP.out⟩
        case measure => simp [intOf]; omega
    · obtain rfl : i = n := by omega
      have HP := Lib.hid (HR.out.out (by rw [List.length_map, HN.out]; exact Nat.le_refl _))
      go_wp2
      go_ret
      exact ⟨by rw [HP.out]; rfl, rfl⟩
end Go.Proofs.YtkjffoebcblpoaaGreat.gn
end
section
namespace Go.Proofs.YtkjffoebcblpoaaGreat.gn
open Go.RowKit Go.Shelf Go.Sort Go.Lib
variable {P : Program} {ρ : Ren} {α : Type} [Inhabited α] {enc : α → List Value} {k : Nat} {cf : α → α → Int} {g : FuncId} {fs cb : Array Value} {w0 : World} {blk off : Nat} {d0 : Array α}

set_option maxHeartbeats 8000000 in
set_option maxRecDepth 1000000 in
theorem sv_insertion (L : SlLaysF0.n20 P ρ) (E : Elt P ρ k) (M : Srt P enc k cf g fs cb w0 blk off d0) {d : Array α} {w : World} {a b cap : Nat} (S : SWK enc k w0 blk off d w) (hs : d0.size = d.size) (hab : a ≤ b) (hb : b ≤ d.size) :
    Calls P (ρ.f 20) #[.slice (some ⟨blk, off, none⟩) d.size cap, .int .i64 a, .int .i64 b, .func (.func g) fs cb] w (Turned enc k w0 blk off fun d' => PermIn a b d d' ∧ SortedIn (ltOf cf) a b d') := by
  have key := insertionSort_holds (lt := ltOf cf) M.hO d a b hab hb
  unfold insertionSort at key
  have KEY : Aside _ := key
  clear key
  have mixed := L.mixed; have t0 := L.t0; have a0 := L.a0; have z0 := L.z0; have v0 := L.v0; have t3 := L.t3; have a3 := L.a3; have z3 := L.z3; have v3 := L.v3; have t4 := L.t4; have a4 := L.a4; have z4 := L.z4; have v4 := L.v4; have t22 := L.t22; have a22 := L.a22; have z22 := L.z22; have v22 := L.v22; have t25 := L.t25; have a25 := L.a25; have z25 := L.z25; have v25 := L.v25
  have aE := E.aE; have zE := E.zE
  have eg := M.eg
  have hsz : d.size < 4611686018427387904 := by rw [← hs]; exact M.hsz
  obtain ⟨_, _, FG⟩ := L.f20
  have S0 : Aside (SWK enc k w0 blk off d w) := S
  clear S
  go_enter FG, SlBodyF.n20_ntmps ρ
  go_wp2
  go_loopw [8] (fun vi wr => ∃ (i : Nat) (dk : Array α), vi = .int .i64 i ∧ a < i ∧ i ≤ b + 1 ∧ dk.size = d.size ∧ Aside (SWK enc k w0 blk off dk wr) ∧ Aside (insOuter (ltOf cf) a b i dk = insOuter (ltOf cf) a b (a + 1) d)) (fun vi _ => b + 1 - (intOf vi).toNat)
  case atStart => exact ⟨a + 1, d, by go_num, by omega, by omega, rfl, S0, rfl⟩
  case round =>
    clear S0
    obtain ⟨i, dk, rfl, hai, hib, hdk, S1, I1⟩ := hrel
    by_cases hlt : (i : Int) < (b : Int)
    · go_wp2
      go_loopw [9] (fun vj wr2 => ∃ (j : Nat) (dj : Array α), vj = .int .i64 j ∧ a ≤ j ∧ j ≤ i ∧ dj.size = d.size ∧ Aside (SWK enc k w0 blk off dj wr2) ∧ Aside (insInner (ltOf cf) a j dj = insInner (ltOf cf) a i dk)) (fun vj _ => (intOf vj).toNat)
      case atStart => exact ⟨i, dk, rfl, by omega, Nat.le_refl _, hdk, S1, rfl⟩
      case round =>
        clear S1
        obtain ⟨j, dj, rfl, haj, hji, hdj, S2, I2⟩ := hrel
        have stop : j ≤ a ∨ ltOf cf dj[j]! dj[j - 1]! = false → insOuter (ltOf cf) a b (i + 1) dj = insOuter (ltOf cf) a b (a + 1) d := fun h => by
          rw [← I1.out, insOuter_go _ a b i dk (by omega), ← I2.out, insInner_stop _ _ _ _ h]
        have STOP : Aside _ := stop
        clear stop
        by_cases hja : a < j
        · obtain ⟨p, rfl⟩ : ∃ p, j = p + 1 := ⟨j - 1, by omega⟩
          have hja1 : (a : Int) < (p : Int) + 1 := by omega
          cases hl : ltOf cf dj[p + 1]! dj[p]! with
          | true =>
            obtain ⟨x1, y1, hv1, hd1, la1, lb1, hc1⟩ := M.less S2.out (by omega) (i := p + 1) (j := p) (by omega) (by omega) hl
            obtain ⟨ia2, ib2, ic2, id2⟩ := idx (z := (p : Int) + 1) (i := p + 1) (n := d.size) (by omega) (by omega) hsz
            obtain ⟨ia3, ib3, ic3, id3⟩ := idx (z := (p : Int)) (i := p) (n := d.size) (by omega) (by omega) hsz
            go_wp2_with fail
            go_quiet_grown (first | (go_at_fn g; exact hc1 _ _))
            have S3 : Aside (SWK enc k w0 blk off dj (grow (wr.drewN nq) osq)) := S2.out.grown nq osq
            clear la1 lb1 hc1 S2
            generalize grow (wr.drewN nq) osq = w3 at S3 ⊢
            clear nq osq
            go_wp2_with fail
            obtain ⟨ci4, cj4, ⟨ni4, nj4, la4, lb4, sa4, sb4⟩, S4⟩ := M.exch S3.out (by omega) (i := p + 1) (j := p) (by omega) (by omega)
            obtain ⟨ia5, ib5, ic5, id5⟩ := idx (z := (p : Int) + 1) (i := p + 1) (n := d.size) (by omega) (by omega) hsz
            obtain ⟨ia6, ib6, ic6, id6⟩ := idx (z := (p : Int)) (i := p) (n := d.size) (by omega) (by omega) hsz
            clear S3
            go_wp2_with fail
            go_big_region_o
            clear la4 lb4 sa4 sb4
            generalize (w3.drew.setCells blk (off + (p + 1) * k) cj4).setCells blk (off + (p) * k) ci4 = w4 at S4 ⊢
            all_goals go_wp2
            go_roundw
            case rel => exact ⟨p, swp dj (p + 1) p, by first | rfl | go_num | (congr 1; omega), by omega, by omega, by rw [size_swp]; exact hdj, S4, by have := insInner_go (ltOf cf) a (p + 1) dj hja (by simpa using hl); exact this.symm.trans I2.out⟩
            case measure => first | (simp [intOf]; done) | (simp [intOf]; omega)
          | false =>
            obtain ⟨x7, y7, hv7, hd7, la7, lb7, hc7⟩ := M.notLess S2.out (by omega) (i := p + 1) (j := p) (by omega) (by omega) hl
            obtain ⟨ia8, ib8, ic8, id8⟩ := idx (z := (p : Int) + 1) (i := p + 1) (n := d.size) (by omega) (by omega) hsz
            obtain ⟨ia9, ib9, ic9, id9⟩ := idx (z := (p : Int)) (i := p) (n := d.size) (by omega) (by omega) hsz
            go_wp2_with fail
            go_quiet_grown (first | (go_at_fn g; exact hc7 _ _))
            have S3 : Aside (SWK enc k w0 blk off dj (grow (wr.drewN nq) osq)) := S2.out.grown nq osq
            clear la7 lb7 hc7 S2
            generalize grow (wr.drewN nq) osq = w3 at S3 ⊢
            clear nq osq
            go_wp2
            go_roundw
            case rel => exact ⟨i + 1, dj, by go_num, by omega, by omega, hdj, S3, STOP.out (Or.inr (by simpa using hl))⟩
            case measure => first | (simp [intOf]; done) | (simp [intOf]; omega)
        · have hjaz : decide ((j : Int) > (a : Int)) = false := decide_eq_false (by omega)
          have hjay : ¬ (a : Int) < (j : Int) := by omega
          have S3 : Aside (SWK enc k w0 blk off dj wr.drew) := S2.out.drew
          clear S2
          go_wp2_with fail
          go_big_region_o
          all_goals go_wp2
          go_roundw
          case rel => exact ⟨i + 1, dj, by go_num, by omega, by omega, hdj, S3, STOP.out (Or.inl (by omega))⟩
          case measure => first | (simp [intOf]; done) | (simp [intOf]; omega)
    · go_wp2
      go_end0
      have e : dk = insOuter (ltOf cf) a b (a + 1) d := (insOuter_stop (ltOf cf) a b i dk (by omega)).symm.trans I1.out
      exact ⟨rfl, dk, by rw [e]; exact KEY.out, S1.out⟩
end Go.Proofs.YtkjffoebcblpoaaGreat.gn
end
