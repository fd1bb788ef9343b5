/- Take: the contracts (written by gen_exT.py). -/
import Derived.Test.YtdjpnlkhdilakaaExR
set_option linter.unusedVariables false
namespace Go.Proofs.Ytdjpnlkhdilakaa.gn
open Go.RowKit Go.Shelf Go.Sort Go.Lib
open Go.Proofs.Ytdjpnlkhdilakaa.ex

attribute [local go_sem] Oper.semAt_some

theorem below_undrew {B : Nat} {w w1 : World} (h : RowKit.Below B w.drew w1) : RowKit.Below B w w1 := ⟨h.os, h.tape, h.output, h.size, h.block⟩
theorem chk_bad {l : List X} (h : ¬ Fine l) : chk l = 110 := if_neg h
/-- It answers two rows that are nil, and an error. -/
def Fails (n : Int) (w : World) (e : Ending) (w' : World) : Prop := e = .returned (.tuple #[.slice none 0 0, .slice none 0 0, .int .i64 n]) ∧ RowKit.Below w.heap.size w w'

theorem new_cells (W : World) (y : X) : ∀ j u, (encX y)[j]? = some u → (W.alloc (boxX y)).drew.cell? ((⟨W.heap.size, 0, none⟩ : Addr).add j) = some u := fun j u hu => by
  rw [Addr.add_lit, Nat.zero_add]
  have b := Box2.new W 54 (.int .i64 y.1) (.int .i64 y.2)
  rcases j with _ | _ | j
  · have e : Value.int .i64 y.1 = u := Option.some.inj hu
    rw [← e]; exact b.cell0
  · have e : Value.int .i64 y.2 = u := Option.some.inj hu
    rw [← e]; exact b.cell1
  · exact absurd hu (by simp [encX])
/-- Two rows of its own: what was taken, and the rest. -/
def TakesOk (best : Bool) (l : List X) (n : Int) (w : World) (e : Ending) (w' : World) : Prop := ∃ v6 v7 s k, e = .returned (.tuple #[v6, v7, .int .i64 0]) ∧ OwnX w.heap.size w' v6 (nrm s.took) ∧ OwnX w.heap.size w' v7 s.rest ∧ TI l n s ∧ ¬ 0 < s.n ∧ s = tk best k ⟨nrm l, [], n⟩ ∧ RowKit.Below w.heap.size w w'

theorem Take_arg {w : World} {v : Value} {p : Option Addr} {k c : Nat} {n : Int} (best : Bool) (hn : ¬ (0 ≤ n ∧ n ≤ 1099511627776)) :
    Calls Try.prog 24 #[.slice p k c, .int .i64 n, .bool best] w (Fails 2 w) := by
  have hq := quantity_any n
  rw [show quant n = false from by unfold quant; exact decide_eq_false hn] at hq
  clear hn
  go_enter Try.func24, Try.ntmps24
  go_wp2_with (go_at_call 43; refine (hq _).mono ?_; rintro e w' ⟨rfl, rfl⟩)
  go_ret3
  exact ⟨rfl, (Below.refl _ w).alloc (Nat.le_refl _) _⟩
theorem Take_bad {w : World} {v : Value} {l : List X} {n : Int} (best : Bool) (h : Rd w v l) (hl : l.length ≤ 1000) (hn : 0 ≤ n ∧ n ≤ 1099511627776) (hf : ¬ Fine l) :
    Calls Try.prog 24 #[v, .int .i64 n, .bool best] w (Fails 110 w) := by
  have hq := quantity_any n
  rw [show quant n = true from by unfold quant; exact decide_eq_true hn] at hq
  have hb1 : RowKit.Below w.heap.size w (w.alloc (.cells #[.int .i64 n] 2)) := (Below.refl _ w).alloc (Nat.le_refl _) _
  have c1 := check_any (h.next hb1) hl
  rw [chk_bad hf] at c1
  obtain ⟨p, q, rfl⟩ := h.len
  have HB := Lib.hid hb1
  clear h hf hb1 hn
  go_enter Try.func24, Try.ntmps24
  go_wp2_with (first
    | (go_at_call 43; refine (hq _).mono ?_; rintro e w' ⟨rfl, rfl⟩)
    | (go_at_call 26; refine c1.mono ?_; rintro e w1 ⟨rfl, hb1⟩; clear c1; have HB1 := Lib.hid hb1; clear hb1))
  go_ret3
  exact ⟨rfl, HB.out.trans (HB1.out.mono HB.out.size)⟩

set_option maxHeartbeats 4000000 in
set_option maxRecDepth 100000 in
theorem Take_full {w : World} {v : Value} {l : List X} {n : Int} (best : Bool) (h : Rd w v l) (hn : 0 ≤ n ∧ n ≤ 1099511627776) (hf : Fine l) (ht : tot l < n) :
    Calls Try.prog 24 #[v, .int .i64 n, .bool best] w (Fails 6 w) := by
  have hq := quantity_any n
  rw [show quant n = true from by unfold quant; exact decide_eq_true hn] at hq
  have hb1 : RowKit.Below w.heap.size w (w.alloc (.cells #[.int .i64 n] 2)) := (Below.refl _ w).alloc (Nat.le_refl _) _
  have c1 := check_any (h.next hb1) hf.1
  rw [chk_fine hf] at c1
  have bN := Boxed.new w 2 (.int .i64 n)
  have C2 := Lib.hid fun (W : World) (hb : RowKit.Below w.heap.size w W) => Total_any (h.next hb) hf
  have HR := Lib.hid h
  have HF := Lib.hid hf
  have HT := Lib.hid (And.intro ht hn)
  have mixed : Try.prog.follows .mixedOrders = true := by kernel_rfl
  have hdt : decide (tot l < n) = true := decide_eq_true ht
  obtain ⟨p, q, rfl⟩ := h.len
  have HB := Lib.hid hb1
  have HN := Lib.hid bN
  clear h hf hb1 hn ht bN
  go_enter Try.func24, Try.ntmps24
  go_upto_region 5 with (first
    | (go_at_call 43; refine (hq _).mono ?_; rintro e w' ⟨rfl, rfl⟩)
    | (go_at_call 26; refine c1.mono ?_; rintro e w1 ⟨rfl, hb1⟩; clear c1; have HB1 := Lib.hid hb1; clear hb1))
  have k1 : Boxed w1 w.heap.size 2 (.int .i64 n) := (HB1.out.block w.heap.size (by simp)).trans HN.out
  have c2 := C2.out w1.drew (HB.out.trans (HB1.out.mono HB.out.size)).drew
  have cN1 : w1.drew.cell? ⟨w.heap.size, 0, none⟩ = some (.int .i64 n) := k1.cell
  have cNx : w1.cell? ⟨w.heap.size, 0, none⟩ = some (.int .i64 n) := k1.cell
  have K1 := Lib.hid k1
  have l1 : w.heap.size < w1.heap.size := lt_of_block k1
  clear k1
  go_region_held3 (fun W => W.cell? ⟨w.heap.size, 0, none⟩ = some (.int .i64 n)) (first | assumption | (exact cN1) | (exact cNx)) (first | (go_at_call 11; refine c2.mono ?_; rintro e w2 ⟨rfl, hb2⟩; clear c2; have cN2 : w2.cell? ⟨w.heap.size, 0, none⟩ = some (.int .i64 n) := (hb2.cell (p := ⟨w.heap.size, 0, none⟩) l1).trans cN1; have HB2 := Lib.hid (HB1.out.trans ((show RowKit.Below w1.heap.size w1 w2 from below_undrew hb2).mono HB1.out.size)); clear hb2))
  go_wp2
  go_ret3
  exact ⟨rfl, HB.out.trans (HB2.out.mono HB.out.size)⟩

set_option maxHeartbeats 4000000 in
set_option maxRecDepth 100000 in
theorem Take_ok {w : World} {v : Value} {l : List X} {n : Int} (best : Bool) (h : Rd w v l) (hn : 0 ≤ n ∧ n ≤ 1099511627776) (hf : Fine l) (ht : n ≤ tot l) :
    Calls Try.prog 24 #[v, .int .i64 n, .bool best] w (TakesOk best l n w) := by
  have hq := quantity_any n
  rw [show quant n = true from by unfold quant; exact decide_eq_true hn] at hq
  have hb1 : RowKit.Below w.heap.size w (w.alloc (.cells #[.int .i64 n] 2)) := (Below.refl _ w).alloc (Nat.le_refl _) _
  have c1 := check_any (h.next hb1) hf.1
  rw [chk_fine hf] at c1
  have bN := Boxed.new w 2 (.int .i64 n)
  have C2 := Lib.hid fun (W : World) (hb : RowKit.Below w.heap.size w W) => Total_any (h.next hb) hf
  have HR := Lib.hid h
  have HF := Lib.hid hf
  have HT := Lib.hid (And.intro ht hn)
  have mixed : Try.prog.follows .mixedOrders = true := by kernel_rfl
  have hdt : decide (tot l < n) = false := decide_eq_false (by omega)
  obtain ⟨p, q, rfl⟩ := h.len
  have HB := Lib.hid hb1
  have HN := Lib.hid bN
  clear h hf hb1 hn ht bN
  go_enter Try.func24, Try.ntmps24
  go_upto_region 5 with (first
    | (go_at_call 43; refine (hq _).mono ?_; rintro e w' ⟨rfl, rfl⟩)
    | (go_at_call 26; refine c1.mono ?_; rintro e w1 ⟨rfl, hb1⟩; clear c1; have HB1 := Lib.hid hb1; clear hb1))
  have k1 : Boxed w1 w.heap.size 2 (.int .i64 n) := (HB1.out.block w.heap.size (by simp)).trans HN.out
  have c2 := C2.out w1.drew (HB.out.trans (HB1.out.mono HB.out.size)).drew
  have cN1 : w1.drew.cell? ⟨w.heap.size, 0, none⟩ = some (.int .i64 n) := k1.cell
  have cNx : w1.cell? ⟨w.heap.size, 0, none⟩ = some (.int .i64 n) := k1.cell
  have K1 := Lib.hid k1
  have l1 : w.heap.size < w1.heap.size := lt_of_block k1
  clear k1
  go_region_held3 (fun W => W.cell? ⟨w.heap.size, 0, none⟩ = some (.int .i64 n)) (first | assumption | (exact cN1) | (exact cNx)) (first | (go_at_call 11; refine c2.mono ?_; rintro e w2 ⟨rfl, hb2⟩; clear c2; have cN2 : w2.cell? ⟨w.heap.size, 0, none⟩ = some (.int .i64 n) := (hb2.cell (p := ⟨w.heap.size, 0, none⟩) l1).trans cN1; have HB2 := Lib.hid (HB1.out.trans ((show RowKit.Below w1.heap.size w1 w2 from below_undrew hb2).mono HB1.out.size)); clear hb2))
  have hb2 := HB.out.trans (HB2.out.mono HB.out.size)
  have k2 : Boxed w2 w.heap.size 2 (.int .i64 n) := (HB2.out.block w.heap.size (by simp)).trans HN.out
  have c3 := norm_any (HR.out.next hb2) (by have := HF.out.1; omega) HF.out.2.1 HF.out.2.2
  have HK2 := Lib.hid (And.intro k2 hb2)
  have hs2 := hb2.size
  clear k2 hb2 cN1 cN2 cNx
  go_upto_region 8 with (go_at_call 44; refine c3.mono ?_; rintro e w3 ⟨v3, rfl, h3, hb3⟩; clear c3; have HV3 := Lib.hid (And.intro h3 hb3); clear h3 hb3)
  go_loopw [6, 7] (fun s6 s7 wr => ∃ s k, Aside (TV w w.heap.size s s6 s7 wr) ∧ Aside (TI l n s) ∧ Aside (∀ j, tk best (k + j) ⟨nrm l, [], n⟩ = tk best j s) ∧ w.heap.size < wr.heap.size)
    (fun _ _ wr => (intOf ((wr.cell? ⟨w.heap.size, 0, none⟩).getD (.int .i64 0))).toNat)
  case atStart =>
    obtain ⟨h3, hb3⟩ := HV3.out
    obtain ⟨k2, hb2⟩ := HK2.out
    exact ⟨⟨nrm l, [], n⟩, 0, ⟨OwnX.nil _ _, h3.mono hs2, .inl rfl, (hb3.block _ (lt_of_block k2)).trans k2, hb2.trans (hb3.mono hs2)⟩, TI.start HF.out.2.1 HF.out.2.2 HT.out.2.1 HT.out.1, fun j => by rw [Nat.zero_add], Nat.lt_of_lt_of_le (lt_of_block k2) hb3.size⟩
  case round =>
    obtain ⟨s, k, tv, ti, hk, hz⟩ := hrel
    obtain ⟨rest, took, m⟩ := s
    have bD := tv.out.box
    have cD := bD.cell
    have fD := bD.frozen
    dsimp only at cD
    by_cases hm : 0 < m
    · have hdm : decide (0 < m) = true := decide_eq_true hm
      have hne : rest ≠ [] := ti.out.ne hm
      have hpos := List.length_pos_iff.2 hne
      have hrl : rest.length ≤ 1000 := Nat.le_trans ti.out.rl HF.out.1
      have htl : took.length ≤ 2000 := by have h1 := ti.out.ln; dsimp only at h1; have h2 := HF.out.1; rw [if_pos hm] at h1; omega
      obtain ⟨g7, c7, rfl⟩ : ∃ g7 c7, u7 = .slice (some ⟨g7, 0, none⟩) rest.length c7 := by
        obtain ⟨_, ⟨_, h0⟩ | ⟨g, cap, cur, e, _⟩⟩ := tv.out.r
        · have h0 : rest.length = 0 := h0
          omega
        · exact ⟨g, cap, e⟩
      obtain ⟨p6, c6, rfl⟩ := tv.out.t.rd.len
      dsimp only at tv
      have TVH : Hid (TV w w.heap.size ⟨rest, took, m⟩ (.slice p6 took.length c6) (.slice (some ⟨g7, 0, none⟩) rest.length c7) wr) := tv.out
      have TIH : Hid (TI l n ⟨rest, took, m⟩) := ti.out
      have HK : Hid (∀ j, tk best (k + j) ⟨nrm l, [], n⟩ = tk best j ⟨rest, took, m⟩) := hk.out
      have HM := Lib.hid hm
      clear tv ti hk bD hm HK2 HV3
      cases best with
      | true =>
        have hil := pick_lt (best := true) (n := m) hne
        have hch := choose_any m w.heap.size TVH.out.r.rd (by dsimp only; omega) hne hz cD
        rw [show (chI m rest 0 0 rest[0]! : Nat) = pick true m rest from rfl] at hch
        have hpk : Hid (pick true m rest = pick true m rest) := rfl
        generalize hpi : pick true m rest = i at *
        have HPI := Lib.hid hpi
        clear hpi hpk
        go_upto_region 12 with (go_at_call 45; refine hch.mono ?_; rintro e W ⟨rfl, hbW⟩; clear hch; have TV3 := Lib.hid (TVH.out.next hbW); have HZ := Lib.hid (Nat.lt_of_lt_of_le hz hbW.size); clear hbW cD fD)
        have hcell := fl_at rest i hil
        obtain ⟨⟨x1, x2⟩, hx⟩ : ∃ x, rest[i]! = x := ⟨_, rfl⟩
        rw [hx] at hcell
        dsimp only at hcell
        have hox : okx (x1, x2) := by rw [← hx]; exact ok_at TIH.out.nm.1 hil
        unfold okx at hox
        dsimp only at hox
        have r0 : W.cell? ⟨g7, i * 2, none⟩ = some (.int .i64 x1) := (World.ownsRow.cellAt TV3.out.r (i * 2) (by first | omega | (dsimp only; omega))).trans hcell.1
        have r1 : W.cell? ⟨g7, i * 2 + 1, none⟩ = some (.int .i64 x2) := (World.ownsRow.cellAt TV3.out.r (i * 2 + 1) (by first | omega | (dsimp only; omega))).trans hcell.2
        have cD : W.cell? ⟨w.heap.size, 0, none⟩ = some (.int .i64 m) := TV3.out.box.cell
        have lD : w.heap.size < W.heap.size := HZ.out
        have lg : g7 < W.heap.size := (World.ownsRow.lt TV3.out.r g7 rfl).2
        have iz : (0 : Int) ≤ (i : Int) := by omega
        have il : (i : Int) < (rest.length : Int) := by omega
        have HX := Lib.hid (And.intro hx hox)
        have hmn : 0 < min m x2 ∧ min m x2 ≤ x2 ∧ min m x2 ≤ m := by have := HM.out; omega
        have HMN := Lib.hid hmn
        clear hcell hx hox hmn hdm
        go_big_region_o
        obtain ⟨y2, hy2⟩ : ∃ y2, min m x2 = y2 := ⟨_, rfl⟩
        rw [hy2]
        have HY := Lib.hid hy2
        have hmn := HMN.out
        rw [hy2] at hmn
        have HMN2 := Lib.hid hmn
        have hmt : m ≤ 1099511627776 := Int.le_trans TIH.out.hi (tot_top TIH.out.nm.1 TIH.out.nm.apart)
        have hwm : IntKind.i64.wrap (m - y2) = m - y2 := by rw [IntKind.wrap_i64]; omega
        have s1 : Sml (x1 + y2) := by have := HX.out.2; unfold Sml; omega
        have s2 : Sml (x2 - y2) := by have := HX.out.2; unfold Sml; omega
        have HS := Lib.hid (And.intro s1 s2)
        clear hy2 hmn hmt s1 s2
        obtain ⟨W4, hW4⟩ : ∃ W4, (W.alloc (boxX (x1, y2))).drew = W4 := ⟨_, rfl⟩
        rw [hW4]
        have hb4 : RowKit.Below W.heap.size W W4 := by rw [← hW4]; exact ((Below.refl W.heap.size W).alloc (Nat.le_refl _) _).drew
        have bX : Box2 W4 W.heap.size 54 (.int .i64 x1) (.int .i64 y2) := by rw [← hW4]; exact Box2.new W 54 (.int .i64 x1) (.int .i64 y2)
        have TV4 := Lib.hid (TV3.out.next hb4)
        have hgX : ∀ g, (Value.slice p6 took.length c6).ownBlock = some g → g < W.heap.size := fun g hg => (World.ownsRow.lt TV3.out.t g hg).2
        have cX0 := bX.cell0
        have cX1 := bX.cell1
        have lX := bX.lt
        have cD4 : W4.cell? ⟨w.heap.size, 0, none⟩ = some (.int .i64 m) := TV4.out.box.cell
        have lD4 : w.heap.size < W4.heap.size := Nat.lt_of_lt_of_le lD hb4.size
        have hb5 : RowKit.Below W4.heap.size W4 (W4.alloc (boxX (x1, y2))).drew := ((Below.refl W4.heap.size W4).alloc (Nat.le_refl _) _).drew
        have H5 := Lib.hid (And.intro hb5 (And.intro bX (And.intro hgX (And.intro (TV4.out.next hb5).t (Box2.new W4 54 (.int .i64 x1) (.int .i64 y2))))))
        have HNC := Lib.hid (new_cells W4 (x1, y2))
        have HS5 : Hid (w.heap.size ≤ (W4.alloc (boxX (x1, y2))).drew.heap.size) := Nat.le_trans TV4.out.below.size (show W4.heap.size ≤ (W4.alloc (boxX (x1, y2))).heap.size by simp)
        have HT8 : Hid (took.length ≤ 8000) := by show _ ≤ _; omega
        have HLD := Lib.hid (And.intro lD TV4.out.below.size)
        clear hW4 hb4 bX hgX hb5 r0 r1 cD lg
        go_upto_region 13 with fail
        go_region_law_o (go_loud (refine step_app_own rfl (.tmp 45) (.tmp 47) rfl (base := w.heap.size) (l := took) (v := .slice p6 took.length c6) (by rfl) (by exact H5.out.2.2.2.1) ⟨W4.heap.size, 0, none⟩ (x1, y2) (by rfl) (by exact HNC.out) HT8.out (by exact HS5.out) ?_; intro g c w6 h1 h2 h3; have hap := TV.app (W5 := (W4.alloc (boxX (x1, y2))).drew) TV4.out (Nat.le_refl _) H5.out.1 h1 h2 h3 (m - y2); have bX6 : Box2 w6 W.heap.size 54 (.int .i64 x1) (.int .i64 y2) := Box2.kept (show Box2 (W4.alloc (boxX (x1, y2))).drew W.heap.size 54 (.int .i64 x1) (.int .i64 y2) from H5.out.2.1.alloc _) h2 (fun e => by have := H5.out.2.2.1 _ e.symm; omega); have cD6 := hap.2.cell; have fD6 := hap.2.frozen; have lD6 := hap.2.lt; have cX6 := bX6.cell1; have lX6 := bX6.lt; have HA := Lib.hid (And.intro hap.1 bX6); clear h1 h2 h3 hap bX6))
        all_goals
          obtain ⟨w7, hw7⟩ : ∃ w7, w6.setCell ⟨w.heap.size, 0, none⟩ (.int .i64 (m - y2)) = w7 := ⟨_, rfl⟩
          rw [hw7] at HA ⊢
          obtain ⟨tv7, bX6⟩ := HA.out
          have hneX : W.heap.size ≠ w.heap.size := by have := HLD.out.1; omega
          have cX7 : w7.cell? ⟨W.heap.size, 1, none⟩ = some (.int .i64 y2) := by
            rw [← hw7]
            exact (World.cell?_of_block (a := ⟨W.heap.size, 1, none⟩) (Below.heap_setCell _ _ _ _ hneX)).trans bX6.cell1
          have lX7 : W.heap.size < w7.heap.size := by rw [← hw7]; simpa using bX6.lt
          have csh := shorten_any (m := y2) tv7.r hil (by first | omega | (dsimp only; omega)) HX.out.1 HS.out.1 HS.out.2
          have CSH := Lib.hid csh
          have TV7 := Lib.hid tv7
          clear csh tv7 bX6 hneX hw7 HA cD6 fD6 lD6 cX6 lX6 cX0 cX1 lX cD4 lD4 hwm
          go_wp2_with (go_at_call 48; refine CSH.out.mono ?_; rintro e w8 ⟨v8, rfl, h8, hg8, hb8⟩; have H8 := Lib.hid (TV7.out.short rfl h8 hg8 hb8); clear h8 hg8 hb8)
          go_roundw
          case rel =>
            have hst : stp true ⟨rest, took, m⟩ = ⟨short rest i y2, took ++ [(x1, y2)], m - y2⟩ := by
              unfold stp
              dsimp only
              rw [HPI.out, HX.out.1]
              dsimp only
              rw [HY.out]
            refine ⟨stp true ⟨rest, took, m⟩, k + 1, by rw [hst]; exact H8.out, (TIH.out.next HM.out _).1, fun j => ?_, lt_of_block H8.out.box⟩
            rw [show k + 1 + j = k + (j + 1) by omega, HK.out]
            exact if_pos HM.out
          case measure =>
            rw [H8.out.box.cell, TVH.out.box.cell]
            have := HMN2.out
            simp [intOf]
            omega
      | false =>
        have hil := pick_lt (best := false) (n := m) hne
        have HPI : Hid (pick false m rest = 0) := rfl
        rw [HPI.out] at hil
        have TV3 := TVH
        have HZ := Lib.hid hz
        clear fD
        go_upto_region 12 with fail
        clear cD
        have hcell := fl_at rest 0 hil
        obtain ⟨⟨x1, x2⟩, hx⟩ : ∃ x, rest[0]! = x := ⟨_, rfl⟩
        rw [hx] at hcell
        dsimp only at hcell
        have hox : okx (x1, x2) := by rw [← hx]; exact ok_at TIH.out.nm.1 hil
        unfold okx at hox
        dsimp only at hox
        have r0 : wr.cell? ⟨g7, 0, none⟩ = some (.int .i64 x1) := (World.ownsRow.cellAt TV3.out.r (0 * 2) (by first | omega | (dsimp only; omega))).trans hcell.1
        have r1 : wr.cell? ⟨g7, 1, none⟩ = some (.int .i64 x2) := (World.ownsRow.cellAt TV3.out.r (0 * 2 + 1) (by first | omega | (dsimp only; omega))).trans hcell.2
        have cD : wr.cell? ⟨w.heap.size, 0, none⟩ = some (.int .i64 m) := TV3.out.box.cell
        have lD : w.heap.size < wr.heap.size := HZ.out
        have lg : g7 < wr.heap.size := (World.ownsRow.lt TV3.out.r g7 rfl).2
        have iz : (0 : Int) ≤ (0 : Int) := by omega
        have il : (0 : Int) < (rest.length : Int) := by omega
        have HX := Lib.hid (And.intro hx hox)
        have hmn : 0 < min m x2 ∧ min m x2 ≤ x2 ∧ min m x2 ≤ m := by have := HM.out; omega
        have HMN := Lib.hid hmn
        clear hcell hx hox hmn hdm
        go_big_region_o
        obtain ⟨y2, hy2⟩ : ∃ y2, min m x2 = y2 := ⟨_, rfl⟩
        rw [hy2]
        have HY := Lib.hid hy2
        have hmn := HMN.out
        rw [hy2] at hmn
        have HMN2 := Lib.hid hmn
        have hmt : m ≤ 1099511627776 := Int.le_trans TIH.out.hi (tot_top TIH.out.nm.1 TIH.out.nm.apart)
        have hwm : IntKind.i64.wrap (m - y2) = m - y2 := by rw [IntKind.wrap_i64]; omega
        have s1 : Sml (x1 + y2) := by have := HX.out.2; unfold Sml; omega
        have s2 : Sml (x2 - y2) := by have := HX.out.2; unfold Sml; omega
        have HS := Lib.hid (And.intro s1 s2)
        clear hy2 hmn hmt s1 s2
        obtain ⟨W4, hW4⟩ : ∃ W4, (wr.alloc (boxX (x1, y2))).drew = W4 := ⟨_, rfl⟩
        rw [hW4]
        have hb4 : RowKit.Below wr.heap.size wr W4 := by rw [← hW4]; exact ((Below.refl wr.heap.size wr).alloc (Nat.le_refl _) _).drew
        have bX : Box2 W4 wr.heap.size 54 (.int .i64 x1) (.int .i64 y2) := by rw [← hW4]; exact Box2.new wr 54 (.int .i64 x1) (.int .i64 y2)
        have TV4 := Lib.hid (TV3.out.next hb4)
        have hgX : ∀ g, (Value.slice p6 took.length c6).ownBlock = some g → g < wr.heap.size := fun g hg => (World.ownsRow.lt TV3.out.t g hg).2
        have cX0 := bX.cell0
        have cX1 := bX.cell1
        have lX := bX.lt
        have cD4 : W4.cell? ⟨w.heap.size, 0, none⟩ = some (.int .i64 m) := TV4.out.box.cell
        have lD4 : w.heap.size < W4.heap.size := Nat.lt_of_lt_of_le lD hb4.size
        have hb5 : RowKit.Below W4.heap.size W4 (W4.alloc (boxX (x1, y2))).drew := ((Below.refl W4.heap.size W4).alloc (Nat.le_refl _) _).drew
        have H5 := Lib.hid (And.intro hb5 (And.intro bX (And.intro hgX (And.intro (TV4.out.next hb5).t (Box2.new W4 54 (.int .i64 x1) (.int .i64 y2))))))
        have HNC := Lib.hid (new_cells W4 (x1, y2))
        have HS5 : Hid (w.heap.size ≤ (W4.alloc (boxX (x1, y2))).drew.heap.size) := Nat.le_trans TV4.out.below.size (show W4.heap.size ≤ (W4.alloc (boxX (x1, y2))).heap.size by simp)
        have HT8 : Hid (took.length ≤ 8000) := by show _ ≤ _; omega
        have HLD := Lib.hid (And.intro lD TV4.out.below.size)
        clear hW4 hb4 bX hgX hb5 r0 r1 cD lg
        go_upto_region 13 with fail
        go_region_law_o (go_loud (refine step_app_own rfl (.tmp 45) (.tmp 47) rfl (base := w.heap.size) (l := took) (v := .slice p6 took.length c6) (by rfl) (by exact H5.out.2.2.2.1) ⟨W4.heap.size, 0, none⟩ (x1, y2) (by rfl) (by exact HNC.out) HT8.out (by exact HS5.out) ?_; intro g c w6 h1 h2 h3; have hap := TV.app (W5 := (W4.alloc (boxX (x1, y2))).drew) TV4.out (Nat.le_refl _) H5.out.1 h1 h2 h3 (m - y2); have bX6 : Box2 w6 wr.heap.size 54 (.int .i64 x1) (.int .i64 y2) := Box2.kept (show Box2 (W4.alloc (boxX (x1, y2))).drew wr.heap.size 54 (.int .i64 x1) (.int .i64 y2) from H5.out.2.1.alloc _) h2 (fun e => by have := H5.out.2.2.1 _ e.symm; omega); have cD6 := hap.2.cell; have fD6 := hap.2.frozen; have lD6 := hap.2.lt; have cX6 := bX6.cell1; have lX6 := bX6.lt; have HA := Lib.hid (And.intro hap.1 bX6); clear h1 h2 h3 hap bX6))
        all_goals
          obtain ⟨w7, hw7⟩ : ∃ w7, w6.setCell ⟨w.heap.size, 0, none⟩ (.int .i64 (m - y2)) = w7 := ⟨_, rfl⟩
          rw [hw7] at HA ⊢
          obtain ⟨tv7, bX6⟩ := HA.out
          have hneX : wr.heap.size ≠ w.heap.size := by have := HLD.out.1; omega
          have cX7 : w7.cell? ⟨wr.heap.size, 1, none⟩ = some (.int .i64 y2) := by
            rw [← hw7]
            exact (World.cell?_of_block (a := ⟨wr.heap.size, 1, none⟩) (Below.heap_setCell _ _ _ _ hneX)).trans bX6.cell1
          have lX7 : wr.heap.size < w7.heap.size := by rw [← hw7]; simpa using bX6.lt
          have csh := shorten_any (m := y2) tv7.r hil (by first | omega | (dsimp only; omega)) HX.out.1 HS.out.1 HS.out.2
          have CSH := Lib.hid csh
          have TV7 := Lib.hid tv7
          clear csh tv7 bX6 hneX hw7 HA cD6 fD6 lD6 cX6 lX6 cX0 cX1 lX cD4 lD4 hwm
          go_wp2_with (go_at_call 48; refine CSH.out.mono ?_; rintro e w8 ⟨v8, rfl, h8, hg8, hb8⟩; have H8 := Lib.hid (TV7.out.short rfl h8 hg8 hb8); clear h8 hg8 hb8)
          go_roundw
          case rel =>
            have hst : stp false ⟨rest, took, m⟩ = ⟨short rest 0 y2, took ++ [(x1, y2)], m - y2⟩ := by
              unfold stp
              dsimp only
              rw [HPI.out, HX.out.1]
              dsimp only
              rw [HY.out]
            refine ⟨stp false ⟨rest, took, m⟩, k + 1, by rw [hst]; exact H8.out, (TIH.out.next HM.out _).1, fun j => ?_, lt_of_block H8.out.box⟩
            rw [show k + 1 + j = k + (j + 1) by omega, HK.out]
            exact if_pos HM.out
          case measure =>
            rw [H8.out.box.cell, TVH.out.box.cell]
            have := HMN2.out
            simp [intOf]
            omega
    · have TVH : Hid (TV w w.heap.size ⟨rest, took, m⟩ u6 u7 wr) := tv.out
      have TIH : Hid (TI l n ⟨rest, took, m⟩) := ti.out
      have HK := Lib.hid hk.out
      have hdm : decide (0 < m) = false := decide_eq_false hm
      have HM := Lib.hid hm
      obtain ⟨p6, c6, rfl⟩ := tv.out.t.rd.len
      obtain ⟨p7, c7, rfl⟩ := tv.out.r.rd.len
      have htl : took.length ≤ 4000 := by have h1 := ti.out.ln; dsimp only at h1; have h2 := HF.out.1; rw [if_neg hm] at h1; omega
      have c9 := norm_any TVH.out.t.rd htl TIH.out.tkn ((List.pairwise_append.1 TIH.out.ap).2.1)
      dsimp only at c9
      clear tv ti hk bD hm HK2 HV3 fD
      go_wp2_with (go_at_call 44; refine c9.mono ?_; rintro e w9 ⟨v9, rfl, h9, hb9⟩; clear c9; have H9 := Lib.hid (And.intro h9 hb9); clear h9 hb9)
      go_ret3
      refine ⟨_, _, ⟨rest, took, m⟩, k, rfl, H9.out.1.mono TVH.out.below.size, TVH.out.r.next H9.out.2, TIH.out, (by have := HM.out; show ¬ 0 < m; omega), ?_, TVH.out.below.trans (H9.out.2.mono TVH.out.below.size)⟩
      have := HK.out 0
      rw [Nat.add_zero] at this
      exact this.symm

end Go.Proofs.Ytdjpnlkhdilakaa.gn
