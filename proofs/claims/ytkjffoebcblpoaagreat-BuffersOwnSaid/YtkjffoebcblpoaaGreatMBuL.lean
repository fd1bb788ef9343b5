/- The document's answers for buffers: Great. (Written by gen_buL.py, ahead of the code.) -/
import Derived.Test.YtkjffoebcblpoaaGreatMBuE
import Derived.Test.YtkjffoebcblpoaaGreatMGenOpen
section
set_option linter.unusedVariables false
set_option linter.unusedSimpArgs false
namespace Go.Proofs.YtkjffoebcblpoaaGreat.gn
open Go.RowKit
open Go.Proofs.YtkjffoebcblpoaaGreat.bu (Bf May Valid)

/-- A buffer that a statement looks at. -/
structure BLook (b : Bf) : Prop where
  exts : b.exts.length ≤ 20
  refs : b.refs.length ≤ 20
  name : b.name.length ≤ 100
  user : b.user.length ≤ 100
  pool : b.pool.length ≤ 100
/-- A buffer that came in. -/
structure BA (b : Bf) : Prop where
  job : -9223372036854775808 ≤ b.job ∧ b.job ≤ 9223372036854775807
  exts : ∀ x ∈ b.exts, xI x
  refs : ∀ r ∈ b.refs, -9223372036854775808 ≤ r ∧ r ≤ 9223372036854775807
  le : b.exts.length ≤ 9223372036854775807
  lr : b.refs.length ≤ 9223372036854775807
  ln : b.name.length ≤ 9223372036854775807
  lu : b.user.length ≤ 9223372036854775807
  lp : b.pool.length ≤ 9223372036854775807
structure BAs (L : List (Bf × Gb)) : Prop where
  len : L.length ≤ 9223372036854775807
  all : ∀ q ∈ L, BA q.1
theorem BA.bi {b : Bf} (h : BA b) (hl : BLook b) : BI b := ⟨h.job, h.exts, h.refs, by have := hl.exts; omega, by have := hl.refs; omega, by have := hl.name; omega, by have := hl.user; omega, by have := hl.pool; omega⟩
theorem BAs.bis {L : List (Bf × Gb)} (h : BAs L) (hl : L.length ≤ 25 ∧ ∀ q ∈ L, BLook q.1) : BIs L := ⟨by have := hl.1; omega, fun q hq => (h.all q hq).bi (hl.2 q hq)⟩
/-- What Great tells. -/
noncomputable def grB (l : List Bf) : Bool := @decide (25 < l.length ∨ ∃ b ∈ l.take 30, ¬ BLook b) (Classical.propDecidable _)
theorem grB_yes {l : List Bf} (h : 25 < l.length ∨ ∃ b ∈ l.take 30, ¬ BLook b) : grB l = true := by unfold grB; exact @decide_eq_true _ (Classical.propDecidable _) h
theorem grB_no {l : List Bf} (h : ¬ (25 < l.length ∨ ∃ b ∈ l.take 30, ¬ BLook b)) : grB l = false := by unfold grB; exact @decide_eq_false _ (Classical.propDecidable _) h
theorem grB_look {l : List Bf} (h : grB l = false) : l.length ≤ 25 ∧ ∀ b ∈ l, BLook b := by
  have hn : ¬ (25 < l.length ∨ ∃ b ∈ l.take 30, ¬ BLook b) := fun hh => by rw [grB_yes hh] at h; cases h
  have h1 : l.length ≤ 25 := Nat.le_of_not_lt fun hh => hn (.inl hh)
  refine ⟨h1, fun b hb => Classical.byContradiction fun hh => hn (.inr ⟨b, ?_, hh⟩)⟩
  rwa [List.take_of_length_le (by omega)]
def GrT (L : List (Bf × Gb)) (w : World) (e : Ending) (w' : World) : Prop := e = .returned (.bool (grB (L.map Prod.fst))) ∧ w' = w
theorem grB_at {L : List (Bf × Gb)} {i : Nat} {q : Bf × Gb} (hq : L[i]? = some q) (hi : i < 30) (hn : ¬ BLook q.1) : grB (L.map Prod.fst) = true := by
  refine grB_yes (.inr ⟨q.1, ?_, hn⟩)
  refine List.mem_of_getElem? (i := i) ?_
  rw [List.getElem?_take, if_pos hi]
  exact fst_at hq
theorem grB_end {L : List (Bf × Gb)} (h : ∀ q ∈ L, BLook q.1) : grB (L.map Prod.fst) = decide (25 < L.length) := by
  by_cases h1 : 25 < L.length
  · rw [grB_yes (.inl (by rw [List.length_map]; exact h1)), decide_eq_true h1]
  · rw [decide_eq_false h1]
    refine grB_no ?_
    rintro (h2 | ⟨b, hb, h3⟩)
    · rw [List.length_map] at h2
      exact h1 h2
    · obtain ⟨q, hq, rfl⟩ := List.mem_map.1 (List.mem_of_mem_take hb)
      exact h3 (h q hq)
theorem look_take {L : List (Bf × Gb)} {i : Nat} {q : Bf × Gb} (h : ∀ p ∈ L.take i, BLook p.1) (hq : L[i]? = some q) (h1 : BLook q.1) : ∀ p ∈ L.take (i + 1), BLook p.1 := fun p hp => by
  rw [List.take_add_one, hq] at hp
  rcases List.mem_append.1 hp with hp | hp
  · exact h p hp
  · simp at hp
    rw [hp]
    exact h1
set_option maxRecDepth 100000 in
set_option maxHeartbeats 6400000 in
theorem dGreatB_any {w : World} {v : Value} {L : List (Bf × Gb)} (h : RBs w v L) (hI : BAs L) : Calls Tryz.prog 27 #[v] w (GrT L w) := by
  have HRL := Lib.hid h.rows
  obtain ⟨p, c, rfl, f⟩ := h.form
  obtain ⟨n, hn⟩ : ∃ n, L.length = n := ⟨_, rfl⟩
  rw [hn]
  have HF := Lib.hid f
  have HN := Lib.hid hn
  have HI := Lib.hid hI
  have hn1 : n ≤ 9223372036854775807 := by rw [← hn]; exact hI.len
  clear h hI f hn
  go_enter Tryz.func27, Tryz.ntmps27
  go_upto_region 2 with fail
  go_loopw [3] (fun s3 wr => ∃ i : Nat, s3 = .int .i64 (i : Nat) ∧ i ≤ n ∧ i ≤ 30 ∧ Aside ((∀ q ∈ L.take i, BLook q.1) ∧ wr = w)) (fun s3 _ => n - (intOf s3).toNat)
  case atStart => exact ⟨0, rfl, Nat.zero_le _, Nat.zero_le _, (fun q hq => by simp at hq), rfl⟩
  case round =>
    obtain ⟨i, rfl, hi, hi3, hrow⟩ := hrel
    have HR := Lib.hid hrow.1
    obtain rfl : wr = w := hrow.2
    clear hrow
    by_cases hin : i < n
    · by_cases h30 : i < 30
      · obtain ⟨q, hq⟩ : ∃ q, L[i]? = some q := ⟨_, List.getElem?_eq_getElem (by rw [HN.out]; exact hin)⟩
        obtain ⟨kb, off, rfl, hk, hc⟩ := BC.of (HF.out (ne_of_at hq))
        have HQ := Lib.hid hq
        have hqi := HI.out.all q (List.mem_of_getElem? hq)
        obtain ⟨pe, ce, e1, -⟩ := (HRL.out q (List.mem_of_getElem? hq)).e.form
        obtain ⟨pr, cr, e2, -⟩ := (HRL.out q (List.mem_of_getElem? hq)).r.form
        have c1 : wr.cell? ⟨kb, off + i * 7 + 1, none⟩ = some (.string (str q.1.name)) := hc.cell hq 1 _ rfl
        have c2 : wr.cell? ⟨kb, off + i * 7 + 2, none⟩ = some (.string (str q.1.user)) := hc.cell hq 2 _ rfl
        have c3 : wr.cell? ⟨kb, off + i * 7 + 3, none⟩ = some (.string (str q.1.pool)) := hc.cell hq 3 _ rfl
        have c5 : wr.cell? ⟨kb, off + i * 7 + 5, none⟩ = some (.slice pe q.1.exts.length ce) := by rw [← e1]; exact hc.cell hq 5 _ rfl
        have c6 : wr.cell? ⟨kb, off + i * 7 + 6, none⟩ = some (.slice pr q.1.refs.length cr) := by rw [← e2]; exact hc.cell hq 6 _ rfl
        have z1 := str_size q.1.name
        have z2 := str_size q.1.user
        have z3 := str_size q.1.pool
        obtain ⟨se, hse⟩ : ∃ x, q.1.exts.length = x := ⟨_, rfl⟩
        obtain ⟨sr, hsr⟩ : ∃ x, q.1.refs.length = x := ⟨_, rfl⟩
        have y1 : (str q.1.name).size ≤ 9223372036854775807 := by rw [z1]; exact hqi.ln
        have y2 : (str q.1.user).size ≤ 9223372036854775807 := by rw [z2]; exact hqi.lu
        have y3 : (str q.1.pool).size ≤ 9223372036854775807 := by rw [z3]; exact hqi.lp
        have y4 : se ≤ 9223372036854775807 := by rw [← hse]; exact hqi.le
        have y5 : sr ≤ 9223372036854775807 := by rw [← hsr]; exact hqi.lr
        rw [hse] at c5
        rw [hsr] at c6
        have HZ := Lib.hid (And.intro z1 (And.intro z2 (And.intro z3 (And.intro hse hsr))))
        clear hq hc e1 e2 z1 z2 z3 hse hsr hqi HF
        by_cases g0 : 20 < se
        · have d0 : decide ((20 : Int) < ((se : Nat) : Int)) = true := decide_eq_true (by omega)
          have HG := Lib.hid (show grB (L.map Prod.fst) = true from grB_at HQ.out h30 (fun hb => by have := HZ.out; have := hb.exts; omega))
          go_wp2
          go_ret
          exact ⟨by rw [HG.out]; rfl, rfl⟩
        have d0 : decide ((20 : Int) < ((se : Nat) : Int)) = false := decide_eq_false (by omega)
        by_cases g1 : 20 < sr
        · have d1 : decide ((20 : Int) < ((sr : Nat) : Int)) = true := decide_eq_true (by omega)
          have HG := Lib.hid (show grB (L.map Prod.fst) = true from grB_at HQ.out h30 (fun hb => by have := HZ.out; have := hb.refs; omega))
          go_wp2
          go_ret
          exact ⟨by rw [HG.out]; rfl, rfl⟩
        have d1 : decide ((20 : Int) < ((sr : Nat) : Int)) = false := decide_eq_false (by omega)
        by_cases g2 : 100 < (str q.1.name).size
        · have d2 : decide ((100 : Int) < (((str q.1.name).size : Nat) : Int)) = true := decide_eq_true (by omega)
          have HG := Lib.hid (show grB (L.map Prod.fst) = true from grB_at HQ.out h30 (fun hb => by have := HZ.out; have := hb.name; omega))
          go_wp2
          go_ret
          exact ⟨by rw [HG.out]; rfl, rfl⟩
        have d2 : decide ((100 : Int) < (((str q.1.name).size : Nat) : Int)) = false := decide_eq_false (by omega)
        by_cases g3 : 100 < (str q.1.user).size
        · have d3 : decide ((100 : Int) < (((str q.1.user).size : Nat) : Int)) = true := decide_eq_true (by omega)
          have HG := Lib.hid (show grB (L.map Prod.fst) = true from grB_at HQ.out h30 (fun hb => by have := HZ.out; have := hb.user; omega))
          go_wp2
          go_ret
          exact ⟨by rw [HG.out]; rfl, rfl⟩
        have d3 : decide ((100 : Int) < (((str q.1.user).size : Nat) : Int)) = false := decide_eq_false (by omega)
        by_cases g4 : 100 < (str q.1.pool).size
        · have d4 : decide ((100 : Int) < (((str q.1.pool).size : Nat) : Int)) = true := decide_eq_true (by omega)
          have HG := Lib.hid (show grB (L.map Prod.fst) = true from grB_at HQ.out h30 (fun hb => by have := HZ.out; have := hb.pool; omega))
          go_wp2
          go_ret
          exact ⟨by rw [HG.out]; rfl, rfl⟩
        have d4 : decide ((100 : Int) < (((str q.1.pool).size : Nat) : Int)) = false := decide_eq_false (by omega)
        have HLK := Lib.hid (show BLook q.1 from ⟨by rw [HZ.out.2.2.2.1]; omega, by rw [HZ.out.2.2.2.2]; omega, by rw [← HZ.out.1]; omega, by rw [← HZ.out.2.1]; omega, by rw [← HZ.out.2.2.1]; omega⟩)
        go_wp2
        go_roundw
        case rel => exact ⟨i + 1, by go_num, by omega, by omega, look_take HR.out HQ.out HLK.out, by trivial⟩
        case measure => simp [intOf]; omega
      · obtain rfl : i = 30 := by omega
        have h25 : decide ((25 : Int) < (n : Int)) = true := decide_eq_true (by omega)
        have HG := Lib.hid (show grB (L.map Prod.fst) = true from grB_yes (.inl (by rw [List.length_map, HN.out]; omega)))
        clear h30
        go_wp2
        go_ret
        exact ⟨by rw [HG.out]; rfl, rfl⟩
    · obtain rfl : i = n := by omega
      have HAL := Lib.hid (show ∀ q ∈ L, BLook q.1 by have h1 := HR.out; rw [← HN.out, List.take_length] at h1; exact h1)
      clear hin
      by_cases h25 : 25 < i
      · have d1 : decide ((25 : Int) < (i : Int)) = true := decide_eq_true (by omega)
        have HG := Lib.hid (show grB (L.map Prod.fst) = true by rw [grB_end HAL.out, HN.out]; exact decide_eq_true h25)
        clear hi3
        go_wp2
        go_ret
        exact ⟨by rw [HG.out]; rfl, rfl⟩
      · have d1 : decide ((25 : Int) < (i : Int)) = false := decide_eq_false (by omega)
        have d2 : i < 30 := by omega
        have HG := Lib.hid (show grB (L.map Prod.fst) = false by rw [grB_end HAL.out, HN.out]; exact decide_eq_false h25)
        clear hi3
        go_wp2
        go_ret
        exact ⟨by rw [HG.out]; rfl, rfl⟩
end Go.Proofs.YtkjffoebcblpoaaGreat.gn
end
section
set_option linter.unusedVariables false
namespace Go.Proofs.YtkjffoebcblpoaaGreat.gn
open Go.ChangeShapes Go.WideShapes Go.ChangeAt Go.RowKit Go.Deep
open Go.Proofs.YtkjffoebcblpoaaGreat.bu (Bf)
open Go.Proofs.YtkjffoebcblpoaaGreat.ex (X)

section
variable {H : Type} {enc : TypeId × Value → H} {W : World}
theorem ls2 {α : Type} {l : List α} (h : l.length = 2) : ∃ a b, l = [a, b] := by
  match l, h with
  | [a, b], _ => exact ⟨a, b, rfl⟩
theorem ls5 {α : Type} {l : List α} (h : l.length = 5) : ∃ a b c d e, l = [a, b, c, d, e] := by
  match l, h with
  | [a, b, c, d, e], _ => exact ⟨a, b, c, d, e, rfl⟩
theorem ls7 {α : Type} {l : List α} (h : l.length = 7) : ∃ a b c d e f g, l = [a, b, c, d, e, f, g] := by
  match l, h with
  | [a, b, c, d, e, f, g], _ => exact ⟨a, b, c, d, e, f, g, rfl⟩
theorem ls11 {α : Type} {l : List α} (h : l.length = 11) : ∃ a b c d e f g h i j k, l = [a, b, c, d, e, f, g, h, i, j, k] := by
  match l, h with
  | [a, b, c, d, e, f, g, h, i, j, k], _ => exact ⟨a, b, c, d, e, f, g, h, i, j, k, rfl⟩
theorem oExt2 : Tryz.prog.cellsOf 55 = 2 := by kernel_rfl
theorem oBuf7 : Tryz.prog.cellsOf 26 = 7 := by kernel_rfl
theorem oXs : Tryz.prog.cellsOf 23 = 1 := by kernel_rfl
theorem oIs : Tryz.prog.cellsOf 24 = 1 := by kernel_rfl
theorem oBs : Tryz.prog.cellsOf 22 = 1 := by kernel_rfl
def cX (x : X) : List Value := [.int .i64 x.1, .int .i64 x.2]
def cI (n : Int) : List Value := [.int .i64 n]
theorem flat_x : ∀ l : List X, l.flatMap cX = xcs l
  | [] => rfl
  | x :: l => by
    rw [List.flatMap_cons, flat_x l]
    rfl
theorem flat_i : ∀ l : List Int, l.flatMap cI = ics l
  | [] => rfl
  | x :: l => by
    rw [List.flatMap_cons, flat_i l]
    rfl
theorem flat_b : ∀ l : List (Bf × Gb), l.flatMap (fun p => (bcs p.1 p.2).toList) = bcl l
  | [] => rfl
  | x :: l => by
    rw [List.flatMap_cons, flat_b l]
    rfl
theorem open_x2 {fuel : Nat} {cs : List Value} {x : DataW H × List MemPlace} (h : DataW.trod enc Tryz.prog W 0 (fun _ => true) true fuel 55 cs = some x) (hl : cs.length = 2) : ∃ y : X, cs = cX y ∧ xI y := by
  obtain ⟨c0, c1, rfl⟩ := ls2 hl
  obtain ⟨xs, m, _, rfl, _, hlen, hf⟩ := DataW.trod_struct Tryz.underlying55 h
  obtain ⟨z0, z1, rfl⟩ := ls2 hlen
  have k0 : DataW.trod enc Tryz.prog W 0 (fun _ => true) true m 2 [c0] = some z0 := by simpa [opI] using hf 0 _ rfl
  have k1 : DataW.trod enc Tryz.prog W 0 (fun _ => true) true m 2 [c1] = some z1 := by simpa [opI] using hf 1 _ rfl
  obtain ⟨a, rfl, ha⟩ := op_int64 k0
  obtain ⟨b, rfl, hb⟩ := op_int64 k1
  exact ⟨(a, b), rfl, ha, hb⟩
theorem open_i1 {fuel : Nat} {cs : List Value} {x : DataW H × List MemPlace} (h : DataW.trod enc Tryz.prog W 0 (fun _ => true) true fuel 2 cs = some x) (hl : cs.length = 1) : ∃ n : Int, cs = cI n ∧ -9223372036854775808 ≤ n ∧ n ≤ 9223372036854775807 := by
  match cs, hl with
  | [c], _ =>
    obtain ⟨n, rfl, h1⟩ := op_int64 h
    exact ⟨n, rfl, h1⟩
/-- The rooms of a buffer's two rows. -/
def CB (p : Bf × Gb) : Prop := CpG p.2.e p.1.exts.length ∧ CpG p.2.r p.1.refs.length
theorem CpG.le {v : Value} {n : Nat} (h : CpG v n) : n ≤ 9223372036854775807 := by
  obtain ⟨p, c, _, h1, h2⟩ := h
  unfold maxLen at h2
  omega
set_option maxRecDepth 100000 in
theorem open_b7 {fuel : Nat} {cs : List Value} {x : DataW H × List MemPlace} (h : DataW.trod enc Tryz.prog W 0 (fun _ => true) true fuel 26 cs = some x) (hl : cs.length = 7) :
    ∃ p : Bf × Gb, cs = (bcs p.1 p.2).toList ∧ RB W p.1 p.2 ∧ BA p.1 ∧ CB p := by
  obtain ⟨c0, c1, c2, c3, c4, c5, c6, rfl⟩ := ls7 hl
  obtain ⟨xs, m, _, _, _, hlen, hk⟩ := DataW.trod_struct Tryz.underlying26 h
  obtain ⟨z0, z1, z2, z3, z4, z5, z6, rfl⟩ := ls7 hlen
  have k0 : DataW.trod enc Tryz.prog W 0 (fun _ => true) true m 2 [c0] = some z0 := by simpa [opI] using hk 0 _ rfl
  have k1 : DataW.trod enc Tryz.prog W 0 (fun _ => true) true m 9 [c1] = some z1 := by simpa [opS] using hk 1 _ rfl
  have k2 : DataW.trod enc Tryz.prog W 0 (fun _ => true) true m 9 [c2] = some z2 := by simpa [opS] using hk 2 _ rfl
  have k3 : DataW.trod enc Tryz.prog W 0 (fun _ => true) true m 9 [c3] = some z3 := by simpa [opS] using hk 3 _ rfl
  have k4 : DataW.trod enc Tryz.prog W 0 (fun _ => true) true m 4 [c4] = some z4 := by simpa [opB] using hk 4 _ rfl
  have k5 : DataW.trod enc Tryz.prog W 0 (fun _ => true) true m 23 [c5] = some z5 := by simpa [oXs] using hk 5 _ rfl
  have k6 : DataW.trod enc Tryz.prog W 0 (fun _ => true) true m 24 [c6] = some z6 := by simpa [oIs] using hk 6 _ rfl
  obtain ⟨job, rfl, hjo⟩ := op_int64 k0
  obtain ⟨nm, rfl, hnm⟩ := op_str k1
  obtain ⟨us, rfl, hus⟩ := op_str k2
  obtain ⟨po, rfl, hpo⟩ := op_str k3
  obtain ⟨b4, e4, _⟩ := DataW.trod_bool Tryz.underlying4 k4
  simp at e4
  subst e4
  obtain ⟨es, re, pe, we⟩ := open_rowX cX (k := 2) (fun _ => rfl) (by decide) xI (0, 0) Tryz.underlying23 oExt2 (fun _ _ _ h hl => open_x2 h hl) k5
  obtain ⟨rs, rr, pr, wr⟩ := open_rowX cI (k := 1) (fun _ => rfl) (by decide) (fun n : Int => -9223372036854775808 ≤ n ∧ n ≤ 9223372036854775807) 0 Tryz.underlying24 opI (fun _ _ _ h hl => open_i1 h hl) k6
  rw [flat_x] at re
  rw [flat_i] at rr
  exact ⟨(⟨job, nm, us, po, b4, es, rs⟩, ⟨c5, c6⟩), rfl, ⟨re, rr⟩, ⟨hjo, we, wr, pe.le, pr.le, hnm, hus, hpo⟩, pe, pr⟩
theorem open_bufs {fuel : Nat} {v : Value} {x : DataW H × List MemPlace} (h : DataW.trod enc Tryz.prog W 0 (fun _ => true) true fuel 22 [v] = some x) :
    ∃ L : List (Bf × Gb), RBs W v L ∧ CpG v L.length ∧ BAs L ∧ ∀ p ∈ L, CB p := by
  obtain ⟨L, hr, hp, hw⟩ := open_rowX (fun p : Bf × Gb => (bcs p.1 p.2).toList) (k := 7) (fun _ => rfl) (by decide) (fun p => RB W p.1 p.2 ∧ BA p.1 ∧ CB p) (⟨0, [], [], [], false, [], []⟩, ⟨.slice none 0 0, .slice none 0 0⟩) Tryz.underlying22 oBuf7 (fun _ _ _ h hl => by
    obtain ⟨p, e, h1⟩ := open_b7 h hl
    exact ⟨p, e, h1⟩) h
  rw [flat_b] at hr
  exact ⟨L, ⟨hr, fun p h => (hw p h).1⟩, hp, ⟨hp.le, fun p h => (hw p h).2.1⟩, fun p h => (hw p h).2.2⟩
theorem CpG.cap {v : Value} {n : Nat} (h : CpG v n) : ∃ p n c, v = .slice p n c ∧ n ≤ c := by
  obtain ⟨p, c, e, h1, _⟩ := h
  exact ⟨p, _, c, e, h1⟩
/-- What a law is asked. -/
structure Ask (W : World) (v : Value) (L : List (Bf × Gb)) (b : Bf × Gb) (name user : List UInt8) (job : Int) : Prop where
  rows : RBs W v L
  cap : CpG v L.length
  all : BAs L
  caps : ∀ p ∈ L, CB p
  one : RB W b.1 b.2
  oneA : BA b.1
  oneC : CB b
  name : name.length ≤ 9223372036854775807
  user : user.length ≤ 9223372036854775807
  job : -9223372036854775808 ≤ job ∧ job ≤ 9223372036854775807
theorem oAsk : Tryz.prog.cellsOf 28 = 11 := by kernel_rfl
set_option maxRecDepth 100000 in
theorem open_ask {base : Nat} {v : Value} {d : DataW H} {p : List MemPlace} (hv : Value.okWide Tryz.prog W .any base 28 v) (h : DataW.Trod enc Tryz.prog W 0 (fun _ => true) true 28 v d p) :
    ∃ lv L b name user job, v = .agg #[lv, .int .i64 b.1.job, .string (str b.1.name), .string (str b.1.user), .string (str b.1.pool), .bool b.1.opn, b.2.e, b.2.r, .string (str name), .string (str user), .int .i64 job] ∧ Ask W lv L b name user job := by
  obtain ⟨cs, rfl, hsz⟩ := okWide_struct Tryz.underlying28 hv
  obtain ⟨l⟩ := cs
  obtain ⟨c0, c1, c2, c3, c4, c5, c6, c7, c8, c9, c10, rfl⟩ := ls11 (show l.length = 11 from hsz.trans oAsk)
  obtain ⟨fuel, hf⟩ := h
  have hf' : DataW.trod enc Tryz.prog W 0 (fun _ => true) true fuel 28 [c0, c1, c2, c3, c4, c5, c6, c7, c8, c9, c10] = some (d, p) := by simpa [Value.cells] using hf
  obtain ⟨xs, m, _, _, _, hlen, hk⟩ := DataW.trod_struct Tryz.underlying28 hf'
  obtain ⟨z0, z1, z2, z3, z4, rfl⟩ := ls5 hlen
  have k0 : DataW.trod enc Tryz.prog W 0 (fun _ => true) true m 22 [c0] = some z0 := by simpa [oBs] using hk 0 _ rfl
  have k1 : DataW.trod enc Tryz.prog W 0 (fun _ => true) true m 26 [c1, c2, c3, c4, c5, c6, c7] = some z1 := by simpa [oBuf7] using hk 1 _ rfl
  have k2 : DataW.trod enc Tryz.prog W 0 (fun _ => true) true m 9 [c8] = some z2 := by simpa [opS] using hk 2 _ rfl
  have k3 : DataW.trod enc Tryz.prog W 0 (fun _ => true) true m 9 [c9] = some z3 := by simpa [opS] using hk 3 _ rfl
  have k4 : DataW.trod enc Tryz.prog W 0 (fun _ => true) true m 2 [c10] = some z4 := by simpa [opI] using hk 4 _ rfl
  obtain ⟨L, h1, h2, h3, h4⟩ := open_bufs k0
  obtain ⟨q, e, q1, q2, q3⟩ := open_b7 k1 rfl
  obtain ⟨nm, rfl, hn⟩ := op_str k2
  obtain ⟨us, rfl, hu⟩ := op_str k3
  obtain ⟨jb, rfl, hj⟩ := op_int64 k4
  simp only [bcs, List.cons.injEq, and_true] at e
  obtain ⟨rfl, rfl, rfl, rfl, rfl, rfl, rfl⟩ := e
  exact ⟨c0, L, q, nm, us, jb, rfl, ⟨h1, h2, h3, h4, q1, q2, q3, hn, hu, hj⟩⟩
end
end Go.Proofs.YtkjffoebcblpoaaGreat.gn
end
