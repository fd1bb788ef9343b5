/- Rows of buffers that are told; the document's Add. (Written by gen_buG.py, ahead of the code.) -/
import Derived.Test.YtkjffoebcblpoaaGreatMBuF
import Derived.Test.YtkjffoebcblpoaaGreatMGenBox
section
set_option linter.unusedVariables false
set_option linter.unusedSimpArgs false
namespace Go.Proofs.YtkjffoebcblpoaaGreat.gn
open Go.RowKit
open Go.Proofs.YtkjffoebcblpoaaGreat.un (isName)
open Go.Proofs.YtkjffoebcblpoaaGreat.ex (X)
open Go.Proofs.YtkjffoebcblpoaaGreat.bu (Bf May Valid meet lt place addS AddS ins)

theorem elt_ofB {t e : TypeId} {z : Value} {size bytes : Nat} (hu : Tryz.prog.underlying t = some (.slice e)) (hi : (Tryz.prog.info? e).map (fun i => (i.zero, i.size, i.bytes)) = some (some z, size, bytes)) (hz : z.cells.size = size) (h0 : 0 < size) : EltI t e z size bytes := by
  refine ⟨hu, ?_, hz, h0⟩
  cases hj : Tryz.prog.info? e with
  | none => rw [hj] at hi; cases hi
  | some i0 =>
    rw [hj] at hi
    simp only [Option.map_some, Option.some.injEq, Prod.mk.injEq] at hi
    exact ⟨i0, rfl, hi.1, hi.2.1, hi.2.2⟩
theorem eltB : EltI 22 26 (.agg #[.int .i64 0, .string ⟨#[]⟩, .string ⟨#[]⟩, .string ⟨#[]⟩, .bool false, .slice none 0 0, .slice none 0 0]) 7 112 := elt_ofB Tryz.underlying22 (by kernel_rfl) rfl (by decide)
theorem eltI64 : EltI 24 2 (.int .i64 0) 1 8 := elt_ofB Tryz.underlying24 (by kernel_rfl) rfl (by decide)
theorem load_box {o : Oper} {ev : Operand → Value} {w : World} (x : Operand) (ho : o.op = .load 26 x) (k : Nat) (hx : ev x = .pointer (some ⟨k, 0, none⟩)) {b : Bf} {g : Gb} (hc : BufB w k b g) :
    (execOp ev o).run Tryz.prog w = .ok (.value (.agg (bcs b g))) w := by
  unfold execOp
  simp only [ho, hx, Instr.loadAt, Instr.sureAddr, Sem.run_bind, Sem.run_pure, Result.andThen_ok, run_loadVar_row w k 26 26 (bcs b g) (0, 0) _ hc Tryz.underlying26 rfl (by kernel_rfl)]
/-- A row of the call's own that is told. -/
structure OutS (base : Nat) (W : World) (v : Value) (M : List (Bf × Gb)) : Prop where
  row : ApC base 26 7 W v M.length (bcl M)
theorem OutS.nil (base : Nat) (W : World) : OutS base W (.slice none 0 0) [] := ⟨.inl ⟨none, rfl, rfl, rfl⟩⟩
theorem OutS.next {base : Nat} {W W' : World} {v : Value} {M : List (Bf × Gb)} (h : OutS base W v M) (hb : Below W.heap.size W W') : OutS base W' v M := ⟨h.row.next hb⟩
theorem OutS.rbs {base : Nat} {W : World} {v : Value} {M : List (Bf × Gb)} (h : OutS base W v M) (hr : ∀ p ∈ M, RB W p.1 p.2) : RBs W v M := ⟨h.row.rdc, hr⟩
theorem bcs_one {W : World} {b : Bf} {g : Gb} (h : RB W b g) : ∀ u ∈ (bcs b g).toList, u.oneCell' = true := by
  intro u hu
  obtain ⟨p, c, e1, -⟩ := h.e.form
  obtain ⟨p', c', e2, -⟩ := h.r.form
  simp [bcs] at hu
  rcases hu with rfl | rfl | rfl | rfl | rfl | rfl | rfl <;> first | rfl | (rw [e1]; rfl) | (rw [e2]; rfl)
theorem box_rdc {W : World} {k : Nat} {t : TypeId} {cs : Array Value} {c : Nat} (h : BoxA W k t cs) : RdC W (.slice (some ⟨k, 0, none⟩) 1 c) 1 cs.toList :=
  .inr ⟨k, 0, c, rfl, h.lt, fun j u hu => by rw [Nat.zero_add]; exact BoxA.cell h j u (by simpa using hu)⟩
/-- One buffer more, behind a row of the call's own. -/
theorem wpl_buf {w : World} {ops : Array Oper} {rest : List Oper} {o : Oper} {a : Act} {Q : Exit → Act → World → Prop} (hgd : o.guard = none) (s x : Operand)
    (ho : o.op = .call { callee := .builtin .append, args := #[s, x], argTypes := #[22, 22] })
    {base : Nat} {v : Value} {M : List (Bf × Gb)} (hs : a.eval s = v) (ha : OutS base w v M) {k c : Nat} {b : Bf} {g : Gb} (hx : a.eval x = .slice (some ⟨k, 0, none⟩) 1 c) (hk : BufB w k b g) (hr : ∀ u ∈ (bcs b g).toList, u.oneCell' = true)
    (hl : M.length ≤ 1000000) (hb : base ≤ w.heap.size)
    (h : ∀ p c w', OutS base w' (.slice p (M.length + 1) c) (M ++ [(b, g)]) → Below base w w' → wpList Tryz.prog ops Q rest (a.put o.dst (.slice p (M.length + 1) c)) w') :
    wpList Tryz.prog ops Q (o :: rest) a w := by
  refine wpl_ap eltB hgd s x ho hs ha.row hx (box_rdc hk) rfl hr (by unfold maxLen; omega) (by omega) hb fun p c w' h1 h2 h3 => h p c w' ⟨?_⟩ h3
  rw [bcl_app, List.length_append]
  exact h1
/-- What a call tells that tells a row, and an error. -/
def RowT (w : World) (l : List Bf) (E : Int) (en : Ending) (w' : World) : Prop := ∃ v M, en = .returned (.tuple #[v, .int .i64 E]) ∧ M.map Prod.fst = l ∧ RBs w' v M ∧ BIs M ∧ Below w.heap.size w w'
theorem rbs_nil (W : World) : RBs W (.slice none 0 0) [] := ⟨.inl ⟨none, 0, rfl, rfl, rfl, fun _ => rfl⟩, fun p hp => by cases hp⟩
theorem bis_nil : BIs [] := ⟨Nat.zero_le _, fun p hp => by cases hp⟩
theorem rowT_no {w W : World} {E : Int} (hb : Below w.heap.size w W) : RowT w [] E (.returned (.tuple #[.slice none 0 0, .int .i64 E])) W := ⟨_, [], rfl, rfl, rbs_nil W, bis_nil, hb⟩
theorem drew_lowB (W : World) : Below W.heap.size W W.drew := (Below.refl _ _).drew
/-- Where Add stands. -/
structure AddW (L : List (Bf × Gb)) (b : Bf) (g : Gb) (base : Nat) (W0 : World) (i : Nat) (done : Bool) (M : List (Bf × Gb)) (v : Value) (W : World) : Prop where
  st : AddS (L.map Prod.fst) b i (M.map Prod.fst) done
  mem : ∀ p ∈ M, p ∈ L ∨ p = (b, g)
  out : OutS base W v M
  no : ∀ c ∈ (L.map Prod.fst).take i, c.pool = b.pool → meet c.exts b.exts = false
  len : M.length ≤ i + 1
  low : Below base W0 W
set_option maxRecDepth 100000 in
set_option maxHeartbeats 16000000 in
theorem dAdd_any {w : World} {v : Value} {L : List (Bf × Gb)} (h : RBs w v L) (hI : BIs L) (b : Bf) (g : Gb) (hb : RB w b g) (hbi : BI b) :
    Calls Tryz.prog 10 #[v, bV b g] w (RowT w (addS (L.map Prod.fst) b).1 (addS (L.map Prod.fst) b).2) := by
  obtain ⟨ge, gr⟩ := g
  obtain ⟨W, hW⟩ : ∃ W, w.alloc (.cells (bcs b ⟨ge, gr⟩) 26) = W := ⟨_, rfl⟩
  have hbx : BufB W w.heap.size b ⟨ge, gr⟩ := by rw [← hW]; exact BoxA.new _ _ _
  have hl : Below w.heap.size w W := by rw [← hW]; exact (Below.refl _ _).alloc (Nat.le_refl _) _
  have hsz : W.heap.size = w.heap.size + 1 := by rw [← hW]; exact World.size_alloc _ _
  have HCH := Lib.hid (fun (Y : World) (hy : Below W.heap.size W Y) => dCheckB_any ((h.next hl).next hy) hI)
  have HMY := Lib.hid (fun (Y : World) (hy : Below W.heap.size W Y) => dmay_any b ⟨ge, gr⟩ Y ((hb.next hl).next hy) hbi)
  have HPL := Lib.hid (fun (Y : World) (hy : Below W.heap.size W Y) => dplace_any ((h.next hl).next hy) hI.len b.job b.name)
  have HRB := Lib.hid (fun (Y : World) (hy : Below W.heap.size W Y) => ((h.next hl).next hy).rows)
  have HBR := Lib.hid (fun (Y : World) (hy : Below W.heap.size W Y) => (show RB Y b ⟨ge, gr⟩ from (hb.next hl).next hy))
  have HBB := Lib.hid (fun (Y : World) (hy : Below W.heap.size W Y) => (show BufB Y w.heap.size b ⟨ge, gr⟩ from hbx.next hy))
  have HBL := Lib.hid (fun (Y : World) (hy : Below W.heap.size W Y) => (show BoxA Y w.heap.size 26 #[.int .i64 b.job, .string (str b.name), .string (str b.user), .string (str b.pool), .bool b.opn, ge, gr] from hbx.next hy))
  obtain ⟨p, c, rfl, f⟩ := (h.next hl).form
  obtain ⟨n, hn⟩ : ∃ n, L.length = n := ⟨_, rfl⟩
  rw [hn] at HCH HPL
  rw [hn]
  have HF := Lib.hid f
  have HN := Lib.hid hn
  have HI := Lib.hid hI
  have HBI := Lib.hid hbi
  have hn1 : n ≤ 140737488355328 := by rw [← hn]; exact hI.len
  have HL := Lib.hid hl
  have HW := Lib.hid hW
  have HSZ := Lib.hid hsz
  unfold bcs at HW
  unfold bV bcs at *
  dsimp only at *
  clear h hI hb hbi hW hbx hl f hn hsz
  have HFIN := Lib.hid (fun (Y : World) (hy : Below W.heap.size W Y) => (show Below w.heap.size w Y from HL.out.trans (hy.mono HL.out.size)))
  by_cases hV : Valid (L.map Prod.fst)
  rotate_left
  · have HR := Lib.hid (show addS (L.map Prod.fst) b = ([], 170) by unfold addS; rw [if_pos (fun hh => hV hh.1)])
    rw [vE_no hV] at HCH
    clear hV
    go_enter Tryz.func10, Tryz.ntmps10
    go_upto_region 1 with fail
    rw [HW.out]
    go_wp2_with (go_at_call 12; ((with_reducible refine (HCH.out _ (Below.refl _ _)).mono ?_); rintro e w5 ⟨rfl, hb⟩); have A5 := Lib.hid hb; clear hb)
    go_ret2
    rw [HR.out]
    exact rowT_no (HFIN.out _ A5.out)
  rw [show vE (L.map Prod.fst) = 0 from if_pos hV] at HCH
  by_cases hM : May b
  rotate_left
  · have HR := Lib.hid (show addS (L.map Prod.fst) b = ([], 170) by unfold addS; rw [if_pos (fun hh => hM hh.2)])
    rw [decide_eq_false hM] at HMY
    clear hV hM
    go_enter Tryz.func10, Tryz.ntmps10
    go_upto_region 1 with fail
    rw [HW.out]
    go_wp2_with (first
      | (refine wpl_load_g (by rfl) _ _ rfl w.heap.size rfl _ _ _ _ (HBL.out _ A5.out) Tryz.underlying26 rfl (by kernel_rfl) ?_)
      | (go_at_call 12; ((with_reducible refine (HCH.out _ (Below.refl _ _)).mono ?_); rintro e w5 ⟨rfl, hb⟩); have A5 := Lib.hid hb; clear hb)
      | (go_at_call 37; ((with_reducible refine (HMY.out _ A5.out).mono ?_); rintro e w6 ⟨rfl, hb⟩); have A6 := Lib.hid (A5.out.trans (hb.mono A5.out.size)); clear hb))
    go_ret2
    rw [HR.out]
    exact rowT_no (HFIN.out _ A6.out)
  rw [decide_eq_true hM] at HMY
  have HV := Lib.hid hV
  have HM := Lib.hid hM
  have HAS := Lib.hid (show addS (L.map Prod.fst) b = if (place (L.map Prod.fst) b.job b.name).isSome = true then ([], 8) else if (L.map Prod.fst).length = 200 then ([], 6)
      else if (L.map Prod.fst).any (fun c => decide (c.pool = b.pool) && meet c.exts b.exts) = true then ([], 110) else (ins b (L.map Prod.fst), 0) by unfold addS; rw [if_neg (fun hh => hh ⟨hV, hM⟩)])
  clear hV hM
  go_enter Tryz.func10, Tryz.ntmps10
  go_upto_region 1 with fail
  rw [HW.out]
  go_upto_region 3 with (first
      | (refine wpl_load_g (by rfl) _ _ rfl w.heap.size rfl _ _ _ _ (HBL.out _ A5.out) Tryz.underlying26 rfl (by kernel_rfl) ?_)
      | (go_at_call 12; ((with_reducible refine (HCH.out _ (Below.refl _ _)).mono ?_); rintro e w5 ⟨rfl, hb⟩); have A5 := Lib.hid hb; clear hb)
      | (go_at_call 37; ((with_reducible refine (HMY.out _ A5.out).mono ?_); rintro e w6 ⟨rfl, hb⟩); have A6 := Lib.hid (A5.out.trans (hb.mono A5.out.size)); clear hb))
  clear HCH HMY
  obtain ⟨c0, c1, c2, c3, c4, c5, c6, clt⟩ := (HBB.out _ A6.out).cells
  cases hpl : place (L.map Prod.fst) b.job b.name with
  | some i =>
    have HR := Lib.hid (show addS (L.map Prod.fst) b = ([], 8) by rw [HAS.out, hpl]; rfl)
    rw [hpl] at HPL
    clear hpl
    have d0 : decide ((0 : Int) ≤ (i : Int)) = true := decide_eq_true (by omega)
    unfold pI at HPL
    dsimp only at HPL
    go_wp2_with (go_at_call 38; ((with_reducible refine (HPL.out _ A6.out).mono ?_); rintro e w7 ⟨rfl, rfl⟩))
    go_ret2
    rw [HR.out]
    exact rowT_no (HFIN.out _ A6.out)
  | none =>
    rw [hpl] at HPL
    unfold pI at HPL
    dsimp only at HPL
    have HAT := Lib.hid (show addS (L.map Prod.fst) b = if n = 200 then ([], 6) else if (L.map Prod.fst).any (fun c => decide (c.pool = b.pool) && meet c.exts b.exts) = true then ([], 110) else (ins b (L.map Prod.fst), 0) by
      rw [HAS.out, hpl, List.length_map, HN.out]; rfl)
    clear hpl
    by_cases h2 : n = 200
    · have HR := Lib.hid (show addS (L.map Prod.fst) b = ([], 6) by rw [HAT.out, if_pos h2])
      have d2 : ((n : Int) == 200) = true := by rw [beq_iff_eq]; omega
      clear h2
      go_wp2_with (go_at_call 38; ((with_reducible refine (HPL.out _ A6.out).mono ?_); rintro e w7 ⟨rfl, rfl⟩))
      go_ret2
      rw [HR.out]
      exact rowT_no (HFIN.out _ A6.out)
    have HAU := Lib.hid (show addS (L.map Prod.fst) b = if (L.map Prod.fst).any (fun c => decide (c.pool = b.pool) && meet c.exts b.exts) = true then ([], 110) else (ins b (L.map Prod.fst), 0) by rw [HAT.out, if_neg h2])
    have d2 : ((n : Int) == 200) = false := by rw [beq_eq_false_iff_ne]; omega
    have hn2 : n ≤ 200 := by have := HV.out.1; rw [List.length_map, HN.out] at this; exact this
    clear h2 HAS HAT
    go_upto_region 10 with (go_at_call 38; ((with_reducible refine (HPL.out _ A6.out).mono ?_); rintro e w7 ⟨rfl, rfl⟩))
    clear c0 c1 c2 c3 c4 c5 c6 clt HPL d2
    obtain ⟨base, hbase⟩ : ∃ base, W.heap.size = base := ⟨_, rfl⟩
    have HBS := Lib.hid hbase
    clear hbase
    go_loopw [6, 7, 8] (fun s6 s7 s8 wr => ∃ (i : Nat) (done : Bool) (M : List (Bf × Gb)) (pv : Option Addr) (m cv : Nat), s6 = .slice pv m cv ∧ s7 = .bool done ∧ s8 = .int .i64 (i : Nat) ∧ i ≤ n ∧ Aside (M.length = m ∧ AddW L b ⟨ge, gr⟩ base W i done M (.slice pv m cv) wr)) (fun _ _ s8 _ => n - (intOf s8).toNat)
    case atStart => exact ⟨0, false, [], none, 0, 0, rfl, rfl, rfl, Nat.zero_le _, rfl, AddS.zero _ _, (fun p hp => by cases hp), OutS.nil _ _, (fun c hc => by rw [List.take_zero] at hc; cases hc), Nat.zero_le _, by rw [← HBS.out]; exact A6.out⟩
    case round =>
      obtain ⟨i, done, M, pv, m, cv, rfl, rfl, rfl, hi, hrow⟩ := hrel
      have HML := Lib.hid (show M.length = m from hrow.1)
      have HR := Lib.hid (show AddW L b ⟨ge, gr⟩ base W i done M (.slice pv m cv) wr from hrow.2)
      have HV0 := Lib.hid (show Below W.heap.size W wr by rw [HBS.out]; exact HR.out.low)
      clear hrow
      have HMB := Lib.hid (show m ≤ 300 by rw [← HML.out]; have := HR.out.len; omega)
      have HBW := Lib.hid (show base ≤ wr.heap.size by rw [← HBS.out]; exact HV0.out.size)
      by_cases hin : i < n
      · obtain ⟨q, hq⟩ : ∃ q, L[i]? = some q := ⟨_, List.getElem?_eq_getElem (by rw [HN.out]; exact hin)⟩
        obtain ⟨kb, off, rfl, hk, hc⟩ := BC.of (HF.out (ne_of_at hq))
        have HQ := Lib.hid hq
        have HQF := Lib.hid (fst_at hq)
        have hqm := List.mem_of_getElem? hq
        have hmq : May q.1 := HV.out.2.1 q.1 (List.mem_of_getElem? (fst_at hq))
        have HC := Lib.hid (fun (Y : World) (hy : Below W.heap.size W Y) => (show BC L kb off Y from hc.next hk hy))
        have HK := Lib.hid hk
        have l1 : kb < wr.heap.size := Nat.lt_of_lt_of_le hk HV0.out.size
        have HME := Lib.hid (fun (Y : World) (hy : Below W.heap.size W Y) => dMeet_any ((HRB.out Y hy q hqm).e) ((HBR.out Y hy).e) hmq.2.2.2.1.2.1 HM.out.2.2.2.1.2.1 (by have := hmq.2.2.2.1.1; omega) (by have := HM.out.2.2.2.1.1; omega))
        dsimp only at HME
        have HBE := Lib.hid (fun Y => dbelow_any b q.1 ⟨ge, gr⟩ q.2 Y)
        unfold bV at HBE
        have HDR := Lib.hid (show Below W.heap.size W wr.drew from Below.drew HV0.out)
        have HS1 := Lib.hid (fun (Y : World) (hy : Below W.heap.size W Y) => (show Y.cell? ⟨kb, off + i * 7 + 3, none⟩ = some (.string (str q.1.pool)) ∧ Y.cell? ⟨w.heap.size, 3, none⟩ = some (.string (str b.pool)) ∧ Y.cell? ⟨kb, off + i * 7 + 5, none⟩ = some q.2.e ∧ Y.cell? ⟨w.heap.size, 5, none⟩ = some ge from
          ⟨(HC.out Y hy).cell HQ.out 3 _ rfl, (HBB.out Y hy).cells.2.2.2.1, (HC.out Y hy).cell HQ.out 5 _ rfl, (HBB.out Y hy).cells.2.2.2.2.2.1⟩))
        have HQI := Lib.hid (HI.out.all q hqm)
        clear hq hk hc hqm hmq HF
        have HNO2 := Lib.hid (fun (hh : q.1.pool = b.pool → meet q.1.exts b.exts = false) => (show ∀ c ∈ (L.map Prod.fst).take (i + 1), c.pool = b.pool → meet c.exts b.exts = false from take_mem HR.out.no HQF.out hh))
        go_upto_region 12 with fail
        go_cut [50] (fun s50 wx => ∃ t : Bool, s50 = .bool t ∧ Aside ((t = true → q.1.pool = b.pool ∧ meet q.1.exts b.exts = true) ∧ (t = false → q.1.pool = b.pool → meet q.1.exts b.exts = false) ∧ Below wr.heap.size wr wx))
        case first =>
          by_cases hpl : q.1.pool = b.pool
          · have HPE := Lib.hid hpl
            have d1 : ((str q.1.pool).toList == (str b.pool).toList) = true := by rw [str_toList, str_toList, beq_iff_eq]; exact hpl
            have d3 : (str q.1.pool).toList = (str b.pool).toList := by rw [hpl]
            clear hpl
            obtain ⟨mt, hmt⟩ : ∃ mt, meet q.1.exts b.exts = mt := ⟨_, rfl⟩
            have HMT := Lib.hid hmt
            rw [hmt] at HME
            clear hmt
            cases mt with
            | true =>
              refine wp_region_held_drew (S := (fun Y => Y.cell? ⟨kb, off + i * 7 + 3, none⟩ = some (.string (str q.1.pool)) ∧ Y.cell? ⟨w.heap.size, 3, none⟩ = some (.string (str b.pool)) ∧ Y.cell? ⟨kb, off + i * 7 + 5, none⟩ = some q.2.e ∧ Y.cell? ⟨w.heap.size, 5, none⟩ = some ge)) (by kernel_rfl) (by exact HS1.out _ HDR.out) (fun hHeld => ?_)
              refine wpAnyH_take (i := 0) (v := ?_) (ata at0) (by kernel_rfl) (by kernel_rfl) (by kernel_rfl) (fun _ _ _ h => h) (Or.inl ⟨by rfl, ?_⟩) (by assumption) ?_
              rotate_left
              · (intro w hSw; (try dsimp only at hSw); go_simp; (first | done | with_reducible rfl))
              try simp only [Act.put, List.setIfInBounds_toArray, List.set_cons_zero, List.set_cons_succ]
              refine wpAnyH_take (i := 1) (v := ?_) (ata (atS at0)) (by kernel_rfl) (by kernel_rfl) (by kernel_rfl) (fun _ _ _ h => h) (Or.inl ⟨by rfl, ?_⟩) (by assumption) ?_
              rotate_left
              · (intro w hSw; (try dsimp only at hSw); go_simp; (first | done | with_reducible rfl))
              try simp only [Act.put, List.setIfInBounds_toArray, List.set_cons_zero, List.set_cons_succ]
              refine wpAnyH_take (i := 2) (v := ?_) (ata (atS (atS at0))) (by kernel_rfl) (by kernel_rfl) (by kernel_rfl) (fun _ _ _ h => h) (Or.inl ⟨by rfl, ?_⟩) (by assumption) ?_
              rotate_left
              · (intro w hSw; (try dsimp only at hSw); go_simp; (first | done | with_reducible rfl))
              try simp only [Act.put, List.setIfInBounds_toArray, List.set_cons_zero, List.set_cons_succ]
              refine wpAnyH_take (i := 3) (v := ?_) (ata (atS (atS (atS at0)))) (by kernel_rfl) (by kernel_rfl) (by kernel_rfl) (fun _ _ _ h => h) (Or.inl ⟨by rfl, ?_⟩) (by assumption) ?_
              rotate_left
              · (intro w hSw; (try dsimp only at hSw); go_simp; (first | done | with_reducible rfl))
              try simp only [Act.put, List.setIfInBounds_toArray, List.set_cons_zero, List.set_cons_succ]
              refine wpAnyH_take (i := 4) (v := ?_) (ata (atS (atS (atS (atS at0))))) (by kernel_rfl) (by kernel_rfl) (by kernel_rfl) (fun _ _ _ h => h) (Or.inl ⟨by rfl, ?_⟩) (by assumption) ?_
              rotate_left
              · (intro w hSw; (try dsimp only at hSw); go_simp; (first | done | with_reducible rfl))
              try simp only [Act.put, List.setIfInBounds_toArray, List.set_cons_zero, List.set_cons_succ]
              refine wpAnyH_take (i := 5) (v := ?_) (ata (atS (atS (atS (atS (atS at0)))))) (by kernel_rfl) (by kernel_rfl) (by kernel_rfl) (fun _ _ _ h => h) (Or.inl ⟨by rfl, ?_⟩) (by assumption) ?_
              rotate_left
              · (intro w hSw; (try dsimp only at hSw); go_simp; (first | done | with_reducible rfl))
              try simp only [Act.put, List.setIfInBounds_toArray, List.set_cons_zero, List.set_cons_succ]
              refine wpAnyH_take (i := 6) (v := ?_) (ata (atS (atS (atS (atS (atS (atS at0))))))) (by kernel_rfl) (by kernel_rfl) (by kernel_rfl) (fun _ _ _ h => h) (Or.inl ⟨by rfl, ?_⟩) (by assumption) ?_
              rotate_left
              · (intro w hSw; (try dsimp only at hSw); go_simp; (first | done | with_reducible rfl))
              try simp only [Act.put, List.setIfInBounds_toArray, List.set_cons_zero, List.set_cons_succ]
              refine wpAnyH_take (i := 7) (v := ?_) (ata (atS (atS (atS (atS (atS (atS (atS at0)))))))) (by kernel_rfl) (by kernel_rfl) (by kernel_rfl) (fun _ _ _ h => h) (Or.inl ⟨by rfl, ?_⟩) (by assumption) ?_
              rotate_left
              · (intro w hSw; (try dsimp only at hSw); go_simp; (first | done | with_reducible rfl))
              try simp only [Act.put, List.setIfInBounds_toArray, List.set_cons_zero, List.set_cons_succ]
              refine wpAnyH_take (i := 8) (v := ?_) (ata (atS (atS (atS (atS (atS (atS (atS (atS at0))))))))) (by kernel_rfl) (by kernel_rfl) (by kernel_rfl) (fun _ _ _ h => h) (Or.inl ⟨by rfl, ?_⟩) (by assumption) ?_
              rotate_left
              · (intro w hSw; (try dsimp only at hSw); go_simp; (first | done | with_reducible rfl))
              try simp only [Act.put, List.setIfInBounds_toArray, List.set_cons_zero, List.set_cons_succ]
              refine wpAnyH_take (i := 9) (v := ?_) (ata (atS (atS (atS (atS (atS (atS (atS (atS (atS at0)))))))))) (by kernel_rfl) (by kernel_rfl) (by kernel_rfl) (fun _ _ _ h => h) (Or.inl ⟨by rfl, ?_⟩) (by assumption) ?_
              rotate_left
              · (intro w hSw; (try dsimp only at hSw); go_simp; (first | done | with_reducible rfl))
              try simp only [Act.put, List.setIfInBounds_toArray, List.set_cons_zero, List.set_cons_succ]
              refine wpAnyH_take (i := 10) (v := ?_) (ata (atS (atS (atS (atS (atS (atS (atS (atS (atS (atS at0))))))))))) (by kernel_rfl) (by kernel_rfl) (by kernel_rfl) (fun _ _ _ h => h) (Or.inl ⟨by rfl, ?_⟩) (by assumption) ?_
              rotate_left
              · (intro w hSw; (try dsimp only at hSw); go_simp; (first | done | with_reducible rfl))
              try simp only [Act.put, List.setIfInBounds_toArray, List.set_cons_zero, List.set_cons_succ]
              refine wpAnyH_take (i := 11) (v := ?_) (ata (atS (atS (atS (atS (atS (atS (atS (atS (atS (atS (atS at0)))))))))))) (by kernel_rfl) (by kernel_rfl) (by kernel_rfl) (fun _ _ _ h => h) (Or.inl ⟨by rfl, ?_⟩) (by assumption) ?_
              rotate_left
              · (intro w hSw; (try dsimp only at hSw); go_simp; (first | done | with_reducible rfl))
              try simp only [Act.put, List.setIfInBounds_toArray, List.set_cons_zero, List.set_cons_succ]
              refine wpAnyH_take (i := 12) (v := ?_) (ata (atS (atS (atS (atS (atS (atS (atS (atS (atS (atS (atS (atS at0))))))))))))) (by kernel_rfl) (by kernel_rfl) (by kernel_rfl) (fun _ _ _ h => h) (Or.inl ⟨by rfl, ?_⟩) (by assumption) ?_
              rotate_left
              · (intro w hSw; (try dsimp only at hSw); go_simp; (first | done | with_reducible rfl))
              try simp only [Act.put, List.setIfInBounds_toArray, List.set_cons_zero, List.set_cons_succ]
              refine wpAnyH_take (i := 13) (v := ?_) (ata (atS (atS (atS (atS (atS (atS (atS (atS (atS (atS (atS (atS (atS at0)))))))))))))) (by kernel_rfl) (by kernel_rfl) (by kernel_rfl) (fun _ _ _ h => h) (Or.inl ⟨by rfl, ?_⟩) (by assumption) ?_
              rotate_left
              · (intro w hSw; (try dsimp only at hSw); go_simp; (first | done | with_reducible rfl))
              try simp only [Act.put, List.setIfInBounds_toArray, List.set_cons_zero, List.set_cons_succ]
              refine wpAnyH_take (i := 14) (v := ?_) (ata (atS (atS (atS (atS (atS (atS (atS (atS (atS (atS (atS (atS (atS (atS at0))))))))))))))) (by kernel_rfl) (by kernel_rfl) (by kernel_rfl) (fun _ _ _ h => h) (Or.inl ⟨by rfl, ?_⟩) (by assumption) ?_
              rotate_left
              · (intro w hSw; (try dsimp only at hSw); go_simp; (first | done | with_reducible rfl))
              try simp only [Act.put, List.setIfInBounds_toArray, List.set_cons_zero, List.set_cons_succ]
              refine wpAnyH_take (i := 15) (v := ?_) (ata (atS (atS (atS (atS (atS (atS (atS (atS (atS (atS (atS (atS (atS (atS (atS at0)))))))))))))))) (by kernel_rfl) (by kernel_rfl) (by kernel_rfl) (fun _ _ _ h => h) (Or.inl ⟨by rfl, ?_⟩) (by assumption) ?_
              rotate_left
              · (intro w hSw; (try dsimp only at hSw); go_simp; (first | done | with_reducible rfl))
              try simp only [Act.put, List.setIfInBounds_toArray, List.set_cons_zero, List.set_cons_succ]
              refine wpAnyH_ready (rs := [16]) (by kernel_rfl) (by simp) ?_
              refine AllReadyH.cons (ata (atS (atS (atS (atS (atS (atS (atS (atS (atS (atS (atS (atS (atS (atS (atS (atS at0))))))))))))))))) (fun K hK => ?_) AllReadyH.nil
              go_simp
              (go_at_call 39; ((with_reducible refine (HME.out _ HDR.out).mono ?_); rintro e w8 ⟨rfl, hb⟩); have A8 := Lib.hid (show Below wr.heap.size wr w8 from (drew_lowB wr).trans (hb.mono (drew_lowB wr).size)); have B8 := Lib.hid (HDR.out.trans (hb.mono HDR.out.size)); clear hb)
              go_wp2_with fail
              refine hK.out _ _ (by exact HS1.out _ B8.out) (fun hHeld => ?_)
              clear hK K
              try simp only [Act.put, List.setIfInBounds_toArray, List.set_cons_zero, List.set_cons_succ]
              refine wpAnyH_take (i := 17) (v := ?_) (ata (atS (atS (atS (atS (atS (atS (atS (atS (atS (atS (atS (atS (atS (atS (atS (atS (atS at0)))))))))))))))))) (by kernel_rfl) (by kernel_rfl) (by kernel_rfl) (fun _ _ _ h => h) (Or.inl ⟨by rfl, ?_⟩) (by assumption) ?_
              rotate_left
              · (intro w hSw; (try dsimp only at hSw); go_simp; (first | done | with_reducible rfl))
              try simp only [Act.put, List.setIfInBounds_toArray, List.set_cons_zero, List.set_cons_succ]
              refine wpAnyH_done (by kernel_rfl) ?_ _
              go_wp2
              go_meet
              case rel => exact ⟨true, rfl, (fun _ => ⟨HPE.out, HMT.out⟩), (fun e => by cases e), A8.out⟩
            | false =>
              refine wp_region_held_drew (S := (fun Y => Y.cell? ⟨kb, off + i * 7 + 3, none⟩ = some (.string (str q.1.pool)) ∧ Y.cell? ⟨w.heap.size, 3, none⟩ = some (.string (str b.pool)) ∧ Y.cell? ⟨kb, off + i * 7 + 5, none⟩ = some q.2.e ∧ Y.cell? ⟨w.heap.size, 5, none⟩ = some ge)) (by kernel_rfl) (by exact HS1.out _ HDR.out) (fun hHeld => ?_)
              refine wpAnyH_take (i := 0) (v := ?_) (ata at0) (by kernel_rfl) (by kernel_rfl) (by kernel_rfl) (fun _ _ _ h => h) (Or.inl ⟨by rfl, ?_⟩) (by assumption) ?_
              rotate_left
              · (intro w hSw; (try dsimp only at hSw); go_simp; (first | done | with_reducible rfl))
              try simp only [Act.put, List.setIfInBounds_toArray, List.set_cons_zero, List.set_cons_succ]
              refine wpAnyH_take (i := 1) (v := ?_) (ata (atS at0)) (by kernel_rfl) (by kernel_rfl) (by kernel_rfl) (fun _ _ _ h => h) (Or.inl ⟨by rfl, ?_⟩) (by assumption) ?_
              rotate_left
              · (intro w hSw; (try dsimp only at hSw); go_simp; (first | done | with_reducible rfl))
              try simp only [Act.put, List.setIfInBounds_toArray, List.set_cons_zero, List.set_cons_succ]
              refine wpAnyH_take (i := 2) (v := ?_) (ata (atS (atS at0))) (by kernel_rfl) (by kernel_rfl) (by kernel_rfl) (fun _ _ _ h => h) (Or.inl ⟨by rfl, ?_⟩) (by assumption) ?_
              rotate_left
              · (intro w hSw; (try dsimp only at hSw); go_simp; (first | done | with_reducible rfl))
              try simp only [Act.put, List.setIfInBounds_toArray, List.set_cons_zero, List.set_cons_succ]
              refine wpAnyH_take (i := 3) (v := ?_) (ata (atS (atS (atS at0)))) (by kernel_rfl) (by kernel_rfl) (by kernel_rfl) (fun _ _ _ h => h) (Or.inl ⟨by rfl, ?_⟩) (by assumption) ?_
              rotate_left
              · (intro w hSw; (try dsimp only at hSw); go_simp; (first | done | with_reducible rfl))
              try simp only [Act.put, List.setIfInBounds_toArray, List.set_cons_zero, List.set_cons_succ]
              refine wpAnyH_take (i := 4) (v := ?_) (ata (atS (atS (atS (atS at0))))) (by kernel_rfl) (by kernel_rfl) (by kernel_rfl) (fun _ _ _ h => h) (Or.inl ⟨by rfl, ?_⟩) (by assumption) ?_
              rotate_left
              · (intro w hSw; (try dsimp only at hSw); go_simp; (first | done | with_reducible rfl))
              try simp only [Act.put, List.setIfInBounds_toArray, List.set_cons_zero, List.set_cons_succ]
              refine wpAnyH_take (i := 5) (v := ?_) (ata (atS (atS (atS (atS (atS at0)))))) (by kernel_rfl) (by kernel_rfl) (by kernel_rfl) (fun _ _ _ h => h) (Or.inl ⟨by rfl, ?_⟩) (by assumption) ?_
              rotate_left
              · (intro w hSw; (try dsimp only at hSw); go_simp; (first | done | with_reducible rfl))
              try simp only [Act.put, List.setIfInBounds_toArray, List.set_cons_zero, List.set_cons_succ]
              refine wpAnyH_take (i := 6) (v := ?_) (ata (atS (atS (atS (atS (atS (atS at0))))))) (by kernel_rfl) (by kernel_rfl) (by kernel_rfl) (fun _ _ _ h => h) (Or.inl ⟨by rfl, ?_⟩) (by assumption) ?_
              rotate_left
              · (intro w hSw; (try dsimp only at hSw); go_simp; (first | done | with_reducible rfl))
              try simp only [Act.put, List.setIfInBounds_toArray, List.set_cons_zero, List.set_cons_succ]
              refine wpAnyH_take (i := 7) (v := ?_) (ata (atS (atS (atS (atS (atS (atS (atS at0)))))))) (by kernel_rfl) (by kernel_rfl) (by kernel_rfl) (fun _ _ _ h => h) (Or.inl ⟨by rfl, ?_⟩) (by assumption) ?_
              rotate_left
              · (intro w hSw; (try dsimp only at hSw); go_simp; (first | done | with_reducible rfl))
              try simp only [Act.put, List.setIfInBounds_toArray, List.set_cons_zero, List.set_cons_succ]
              refine wpAnyH_take (i := 8) (v := ?_) (ata (atS (atS (atS (atS (atS (atS (atS (atS at0))))))))) (by kernel_rfl) (by kernel_rfl) (by kernel_rfl) (fun _ _ _ h => h) (Or.inl ⟨by rfl, ?_⟩) (by assumption) ?_
              rotate_left
              · (intro w hSw; (try dsimp only at hSw); go_simp; (first | done | with_reducible rfl))
              try simp only [Act.put, List.setIfInBounds_toArray, List.set_cons_zero, List.set_cons_succ]
              refine wpAnyH_take (i := 9) (v := ?_) (ata (atS (atS (atS (atS (atS (atS (atS (atS (atS at0)))))))))) (by kernel_rfl) (by kernel_rfl) (by kernel_rfl) (fun _ _ _ h => h) (Or.inl ⟨by rfl, ?_⟩) (by assumption) ?_
              rotate_left
              · (intro w hSw; (try dsimp only at hSw); go_simp; (first | done | with_reducible rfl))
              try simp only [Act.put, List.setIfInBounds_toArray, List.set_cons_zero, List.set_cons_succ]
              refine wpAnyH_take (i := 10) (v := ?_) (ata (atS (atS (atS (atS (atS (atS (atS (atS (atS (atS at0))))))))))) (by kernel_rfl) (by kernel_rfl) (by kernel_rfl) (fun _ _ _ h => h) (Or.inl ⟨by rfl, ?_⟩) (by assumption) ?_
              rotate_left
              · (intro w hSw; (try dsimp only at hSw); go_simp; (first | done | with_reducible rfl))
              try simp only [Act.put, List.setIfInBounds_toArray, List.set_cons_zero, List.set_cons_succ]
              refine wpAnyH_take (i := 11) (v := ?_) (ata (atS (atS (atS (atS (atS (atS (atS (atS (atS (atS (atS at0)))))))))))) (by kernel_rfl) (by kernel_rfl) (by kernel_rfl) (fun _ _ _ h => h) (Or.inl ⟨by rfl, ?_⟩) (by assumption) ?_
              rotate_left
              · (intro w hSw; (try dsimp only at hSw); go_simp; (first | done | with_reducible rfl))
              try simp only [Act.put, List.setIfInBounds_toArray, List.set_cons_zero, List.set_cons_succ]
              refine wpAnyH_take (i := 12) (v := ?_) (ata (atS (atS (atS (atS (atS (atS (atS (atS (atS (atS (atS (atS at0))))))))))))) (by kernel_rfl) (by kernel_rfl) (by kernel_rfl) (fun _ _ _ h => h) (Or.inl ⟨by rfl, ?_⟩) (by assumption) ?_
              rotate_left
              · (intro w hSw; (try dsimp only at hSw); go_simp; (first | done | with_reducible rfl))
              try simp only [Act.put, List.setIfInBounds_toArray, List.set_cons_zero, List.set_cons_succ]
              refine wpAnyH_take (i := 13) (v := ?_) (ata (atS (atS (atS (atS (atS (atS (atS (atS (atS (atS (atS (atS (atS at0)))))))))))))) (by kernel_rfl) (by kernel_rfl) (by kernel_rfl) (fun _ _ _ h => h) (Or.inl ⟨by rfl, ?_⟩) (by assumption) ?_
              rotate_left
              · (intro w hSw; (try dsimp only at hSw); go_simp; (first | done | with_reducible rfl))
              try simp only [Act.put, List.setIfInBounds_toArray, List.set_cons_zero, List.set_cons_succ]
              refine wpAnyH_take (i := 14) (v := ?_) (ata (atS (atS (atS (atS (atS (atS (atS (atS (atS (atS (atS (atS (atS (atS at0))))))))))))))) (by kernel_rfl) (by kernel_rfl) (by kernel_rfl) (fun _ _ _ h => h) (Or.inl ⟨by rfl, ?_⟩) (by assumption) ?_
              rotate_left
              · (intro w hSw; (try dsimp only at hSw); go_simp; (first | done | with_reducible rfl))
              try simp only [Act.put, List.setIfInBounds_toArray, List.set_cons_zero, List.set_cons_succ]
              refine wpAnyH_take (i := 15) (v := ?_) (ata (atS (atS (atS (atS (atS (atS (atS (atS (atS (atS (atS (atS (atS (atS (atS at0)))))))))))))))) (by kernel_rfl) (by kernel_rfl) (by kernel_rfl) (fun _ _ _ h => h) (Or.inl ⟨by rfl, ?_⟩) (by assumption) ?_
              rotate_left
              · (intro w hSw; (try dsimp only at hSw); go_simp; (first | done | with_reducible rfl))
              try simp only [Act.put, List.setIfInBounds_toArray, List.set_cons_zero, List.set_cons_succ]
              refine wpAnyH_ready (rs := [16]) (by kernel_rfl) (by simp) ?_
              refine AllReadyH.cons (ata (atS (atS (atS (atS (atS (atS (atS (atS (atS (atS (atS (atS (atS (atS (atS (atS at0))))))))))))))))) (fun K hK => ?_) AllReadyH.nil
              go_simp
              (go_at_call 39; ((with_reducible refine (HME.out _ HDR.out).mono ?_); rintro e w8 ⟨rfl, hb⟩); have A8 := Lib.hid (show Below wr.heap.size wr w8 from (drew_lowB wr).trans (hb.mono (drew_lowB wr).size)); have B8 := Lib.hid (HDR.out.trans (hb.mono HDR.out.size)); clear hb)
              go_wp2_with fail
              refine hK.out _ _ (by exact HS1.out _ B8.out) (fun hHeld => ?_)
              clear hK K
              try simp only [Act.put, List.setIfInBounds_toArray, List.set_cons_zero, List.set_cons_succ]
              refine wpAnyH_take (i := 17) (v := ?_) (ata (atS (atS (atS (atS (atS (atS (atS (atS (atS (atS (atS (atS (atS (atS (atS (atS (atS at0)))))))))))))))))) (by kernel_rfl) (by kernel_rfl) (by kernel_rfl) (fun _ _ _ h => h) (Or.inl ⟨by rfl, ?_⟩) (by assumption) ?_
              rotate_left
              · (intro w hSw; (try dsimp only at hSw); go_simp; (first | done | with_reducible rfl))
              try simp only [Act.put, List.setIfInBounds_toArray, List.set_cons_zero, List.set_cons_succ]
              refine wpAnyH_done (by kernel_rfl) ?_ _
              go_wp2
              go_meet
              case rel => exact ⟨false, rfl, (fun e => by cases e), (fun _ _ => HMT.out), A8.out⟩
          · have HPE := Lib.hid hpl
            have d1 : ((str q.1.pool).toList == (str b.pool).toList) = false := by rw [str_toList, str_toList, beq_eq_false_iff_ne]; exact hpl
            have d3 : ¬ (str q.1.pool).toList = (str b.pool).toList := by rw [str_toList, str_toList]; exact hpl
            clear hpl
            refine wp_region_held_drew (S := (fun Y => Y.cell? ⟨kb, off + i * 7 + 3, none⟩ = some (.string (str q.1.pool)) ∧ Y.cell? ⟨w.heap.size, 3, none⟩ = some (.string (str b.pool)) ∧ Y.cell? ⟨kb, off + i * 7 + 5, none⟩ = some q.2.e ∧ Y.cell? ⟨w.heap.size, 5, none⟩ = some ge)) (by kernel_rfl) (by exact HS1.out _ HDR.out) (fun hHeld => ?_)
            refine wpAnyH_take (i := 0) (v := ?_) (ata at0) (by kernel_rfl) (by kernel_rfl) (by kernel_rfl) (fun _ _ _ h => h) (Or.inl ⟨by rfl, ?_⟩) (by assumption) ?_
            rotate_left
            · (intro w hSw; (try dsimp only at hSw); go_simp; (first | done | with_reducible rfl))
            try simp only [Act.put, List.setIfInBounds_toArray, List.set_cons_zero, List.set_cons_succ]
            refine wpAnyH_take (i := 1) (v := ?_) (ata (atS at0)) (by kernel_rfl) (by kernel_rfl) (by kernel_rfl) (fun _ _ _ h => h) (Or.inl ⟨by rfl, ?_⟩) (by assumption) ?_
            rotate_left
            · (intro w hSw; (try dsimp only at hSw); go_simp; (first | done | with_reducible rfl))
            try simp only [Act.put, List.setIfInBounds_toArray, List.set_cons_zero, List.set_cons_succ]
            refine wpAnyH_take (i := 2) (v := ?_) (ata (atS (atS at0))) (by kernel_rfl) (by kernel_rfl) (by kernel_rfl) (fun _ _ _ h => h) (Or.inl ⟨by rfl, ?_⟩) (by assumption) ?_
            rotate_left
            · (intro w hSw; (try dsimp only at hSw); go_simp; (first | done | with_reducible rfl))
            try simp only [Act.put, List.setIfInBounds_toArray, List.set_cons_zero, List.set_cons_succ]
            refine wpAnyH_take (i := 3) (v := ?_) (ata (atS (atS (atS at0)))) (by kernel_rfl) (by kernel_rfl) (by kernel_rfl) (fun _ _ _ h => h) (Or.inl ⟨by rfl, ?_⟩) (by assumption) ?_
            rotate_left
            · (intro w hSw; (try dsimp only at hSw); go_simp; (first | done | with_reducible rfl))
            try simp only [Act.put, List.setIfInBounds_toArray, List.set_cons_zero, List.set_cons_succ]
            refine wpAnyH_take (i := 4) (v := ?_) (ata (atS (atS (atS (atS at0))))) (by kernel_rfl) (by kernel_rfl) (by kernel_rfl) (fun _ _ _ h => h) (Or.inl ⟨by rfl, ?_⟩) (by assumption) ?_
            rotate_left
            · (intro w hSw; (try dsimp only at hSw); go_simp; (first | done | with_reducible rfl))
            try simp only [Act.put, List.setIfInBounds_toArray, List.set_cons_zero, List.set_cons_succ]
            refine wpAnyH_take (i := 5) (v := ?_) (ata (atS (atS (atS (atS (atS at0)))))) (by kernel_rfl) (by kernel_rfl) (by kernel_rfl) (fun _ _ _ h => h) (Or.inl ⟨by rfl, ?_⟩) (by assumption) ?_
            rotate_left
            · (intro w hSw; (try dsimp only at hSw); go_simp; (first | done | with_reducible rfl))
            try simp only [Act.put, List.setIfInBounds_toArray, List.set_cons_zero, List.set_cons_succ]
            refine wpAnyH_take (i := 6) (v := ?_) (ata (atS (atS (atS (atS (atS (atS at0))))))) (by kernel_rfl) (by kernel_rfl) (by kernel_rfl) (fun _ _ _ h => h) (Or.inl ⟨by rfl, ?_⟩) (by assumption) ?_
            rotate_left
            · (intro w hSw; (try dsimp only at hSw); go_simp; (first | done | with_reducible rfl))
            try simp only [Act.put, List.setIfInBounds_toArray, List.set_cons_zero, List.set_cons_succ]
            refine wpAnyH_take (i := 7) (v := ?_) (ata (atS (atS (atS (atS (atS (atS (atS at0)))))))) (by kernel_rfl) (by kernel_rfl) (by kernel_rfl) (fun _ _ _ h => h) (Or.inl ⟨by rfl, ?_⟩) (by assumption) ?_
            rotate_left
            · (intro w hSw; (try dsimp only at hSw); go_simp; (first | done | with_reducible rfl))
            try simp only [Act.put, List.setIfInBounds_toArray, List.set_cons_zero, List.set_cons_succ]
            refine wpAnyH_take (i := 8) (v := ?_) (ata (atS (atS (atS (atS (atS (atS (atS (atS at0))))))))) (by kernel_rfl) (by kernel_rfl) (by kernel_rfl) (fun _ _ _ h => h) (Or.inl ⟨by rfl, ?_⟩) (by assumption) ?_
            rotate_left
            · (intro w hSw; (try dsimp only at hSw); go_simp; (first | done | with_reducible rfl))
            try simp only [Act.put, List.setIfInBounds_toArray, List.set_cons_zero, List.set_cons_succ]
            refine wpAnyH_take (i := 9) (v := undef) (ata (atS (atS (atS (atS (atS (atS (atS (atS (atS at0)))))))))) (by kernel_rfl) (by kernel_rfl) (by kernel_rfl) (fun _ _ _ h => h) (Or.inr ⟨by rfl, rfl⟩) (by assumption) ?_
            try simp only [Act.put, List.setIfInBounds_toArray, List.set_cons_zero, List.set_cons_succ]
            refine wpAnyH_take (i := 10) (v := undef) (ata (atS (atS (atS (atS (atS (atS (atS (atS (atS (atS at0))))))))))) (by kernel_rfl) (by kernel_rfl) (by kernel_rfl) (fun _ _ _ h => h) (Or.inr ⟨by rfl, rfl⟩) (by assumption) ?_
            try simp only [Act.put, List.setIfInBounds_toArray, List.set_cons_zero, List.set_cons_succ]
            refine wpAnyH_take (i := 11) (v := undef) (ata (atS (atS (atS (atS (atS (atS (atS (atS (atS (atS (atS at0)))))))))))) (by kernel_rfl) (by kernel_rfl) (by kernel_rfl) (fun _ _ _ h => h) (Or.inr ⟨by rfl, rfl⟩) (by assumption) ?_
            try simp only [Act.put, List.setIfInBounds_toArray, List.set_cons_zero, List.set_cons_succ]
            refine wpAnyH_take (i := 12) (v := undef) (ata (atS (atS (atS (atS (atS (atS (atS (atS (atS (atS (atS (atS at0))))))))))))) (by kernel_rfl) (by kernel_rfl) (by kernel_rfl) (fun _ _ _ h => h) (Or.inr ⟨by rfl, rfl⟩) (by assumption) ?_
            try simp only [Act.put, List.setIfInBounds_toArray, List.set_cons_zero, List.set_cons_succ]
            refine wpAnyH_take (i := 13) (v := undef) (ata (atS (atS (atS (atS (atS (atS (atS (atS (atS (atS (atS (atS (atS at0)))))))))))))) (by kernel_rfl) (by kernel_rfl) (by kernel_rfl) (fun _ _ _ h => h) (Or.inr ⟨by rfl, rfl⟩) (by assumption) ?_
            try simp only [Act.put, List.setIfInBounds_toArray, List.set_cons_zero, List.set_cons_succ]
            refine wpAnyH_take (i := 14) (v := undef) (ata (atS (atS (atS (atS (atS (atS (atS (atS (atS (atS (atS (atS (atS (atS at0))))))))))))))) (by kernel_rfl) (by kernel_rfl) (by kernel_rfl) (fun _ _ _ h => h) (Or.inr ⟨by rfl, rfl⟩) (by assumption) ?_
            try simp only [Act.put, List.setIfInBounds_toArray, List.set_cons_zero, List.set_cons_succ]
            refine wpAnyH_take (i := 15) (v := undef) (ata (atS (atS (atS (atS (atS (atS (atS (atS (atS (atS (atS (atS (atS (atS (atS at0)))))))))))))))) (by kernel_rfl) (by kernel_rfl) (by kernel_rfl) (fun _ _ _ h => h) (Or.inr ⟨by rfl, rfl⟩) (by assumption) ?_
            try simp only [Act.put, List.setIfInBounds_toArray, List.set_cons_zero, List.set_cons_succ]
            refine wpAnyH_take (i := 16) (v := undef) (ata (atS (atS (atS (atS (atS (atS (atS (atS (atS (atS (atS (atS (atS (atS (atS (atS at0))))))))))))))))) (by kernel_rfl) (by kernel_rfl) (by kernel_rfl) (fun _ _ _ h => h) (Or.inr ⟨by rfl, rfl⟩) (by assumption) ?_
            try simp only [Act.put, List.setIfInBounds_toArray, List.set_cons_zero, List.set_cons_succ]
            refine wpAnyH_take (i := 17) (v := ?_) (ata (atS (atS (atS (atS (atS (atS (atS (atS (atS (atS (atS (atS (atS (atS (atS (atS (atS at0)))))))))))))))))) (by kernel_rfl) (by kernel_rfl) (by kernel_rfl) (fun _ _ _ h => h) (Or.inl ⟨by rfl, ?_⟩) (by assumption) ?_
            rotate_left
            · (intro w hSw; (try dsimp only at hSw); go_simp; (first | done | with_reducible rfl))
            try simp only [Act.put, List.setIfInBounds_toArray, List.set_cons_zero, List.set_cons_succ]
            refine wpAnyH_done (by kernel_rfl) ?_ _
            go_wp2
            go_meet
            case rel => exact ⟨false, rfl, (fun e => by cases e), (fun _ e => absurd e HPE.out), drew_lowB wr⟩
        case rest =>
        obtain ⟨t, rfl, hcut⟩ := hcut
        have HCT := Lib.hid (show (t = true → q.1.pool = b.pool ∧ meet q.1.exts b.exts = true) ∧ (t = false → q.1.pool = b.pool → meet q.1.exts b.exts = false) ∧ Below wr.heap.size wr wc from hcut)
        clear hcut
        have HV1 := Lib.hid (HV0.out.trans (HCT.out.2.2.mono HV0.out.size))
        cases t with
        | true =>
          have HE := Lib.hid (show addS (L.map Prod.fst) b = ([], 110) by
            rw [HAU.out, if_pos]
            refine List.any_eq_true.2 ⟨q.1, List.mem_of_getElem? HQF.out, ?_⟩
            rw [decide_eq_true (HCT.out.1 rfl).1, (HCT.out.1 rfl).2]
            rfl)
          go_wp2
          go_ret2
          rw [HE.out]
          exact rowT_no (HFIN.out _ HV1.out)
        | false =>
          have HN2 := Lib.hid (HNO2.out (HCT.out.2.1 rfl))
          have HO1 := Lib.hid (HR.out.out.next HCT.out.2.2)
          have HDR2 := Lib.hid (show Below W.heap.size W wc.drew from Below.drew HV1.out)
          clear HNO2
          obtain ⟨w1, hw1⟩ : ∃ w1, w1 = wc := ⟨_, rfl⟩
          subst hw1
          go_upto_region 14 with fail
          go_cut [60] (fun s60 wx => s60 = .bool (!done && lt b q.1) ∧ Aside (Below w1.heap.size w1 wx))
          case first =>
            cases done with
            | true =>
              refine wp_region_held_drew (S := (fun Y => BC L kb off Y ∧ BufB Y w.heap.size b ⟨ge, gr⟩)) (by kernel_rfl) (by exact ⟨HC.out _ HDR2.out, HBB.out _ HDR2.out⟩) (fun hHeld => ?_)
              refine wpAnyH_take (i := 0) (v := ?_) (ata at0) (by kernel_rfl) (by kernel_rfl) (by kernel_rfl) (fun _ _ _ h => h) (Or.inl ⟨by rfl, ?_⟩) (by assumption) ?_
              rotate_left
              · (intro w hSw; (try dsimp only at hSw); go_simp; (first | done | with_reducible rfl))
              try simp only [Act.put, List.setIfInBounds_toArray, List.set_cons_zero, List.set_cons_succ]
              refine wpAnyH_take (i := 1) (v := ?_) (ata (atS at0)) (by kernel_rfl) (by kernel_rfl) (by kernel_rfl) (fun _ _ _ h => h) (Or.inl ⟨by rfl, ?_⟩) (by assumption) ?_
              rotate_left
              · (intro w hSw; (try dsimp only at hSw); go_simp; (first | done | with_reducible rfl))
              try simp only [Act.put, List.setIfInBounds_toArray, List.set_cons_zero, List.set_cons_succ]
              refine wpAnyH_take (i := 2) (v := ?_) (ata (atS (atS at0))) (by kernel_rfl) (by kernel_rfl) (by kernel_rfl) (fun _ _ _ h => h) (Or.inl ⟨by rfl, ?_⟩) (by assumption) ?_
              rotate_left
              · (intro w hSw; (try dsimp only at hSw); go_simp; (first | done | with_reducible rfl))
              try simp only [Act.put, List.setIfInBounds_toArray, List.set_cons_zero, List.set_cons_succ]
              refine wpAnyH_take (i := 3) (v := undef) (ata (atS (atS (atS at0)))) (by kernel_rfl) (by kernel_rfl) (by kernel_rfl) (fun _ _ _ h => h) (Or.inr ⟨by rfl, rfl⟩) (by assumption) ?_
              try simp only [Act.put, List.setIfInBounds_toArray, List.set_cons_zero, List.set_cons_succ]
              refine wpAnyH_take (i := 4) (v := undef) (ata (atS (atS (atS (atS at0))))) (by kernel_rfl) (by kernel_rfl) (by kernel_rfl) (fun _ _ _ h => h) (Or.inr ⟨by rfl, rfl⟩) (by assumption) ?_
              try simp only [Act.put, List.setIfInBounds_toArray, List.set_cons_zero, List.set_cons_succ]
              refine wpAnyH_take (i := 5) (v := undef) (ata (atS (atS (atS (atS (atS at0)))))) (by kernel_rfl) (by kernel_rfl) (by kernel_rfl) (fun _ _ _ h => h) (Or.inr ⟨by rfl, rfl⟩) (by assumption) ?_
              try simp only [Act.put, List.setIfInBounds_toArray, List.set_cons_zero, List.set_cons_succ]
              refine wpAnyH_take (i := 6) (v := undef) (ata (atS (atS (atS (atS (atS (atS at0))))))) (by kernel_rfl) (by kernel_rfl) (by kernel_rfl) (fun _ _ _ h => h) (Or.inr ⟨by rfl, rfl⟩) (by assumption) ?_
              try simp only [Act.put, List.setIfInBounds_toArray, List.set_cons_zero, List.set_cons_succ]
              refine wpAnyH_take (i := 7) (v := undef) (ata (atS (atS (atS (atS (atS (atS (atS at0)))))))) (by kernel_rfl) (by kernel_rfl) (by kernel_rfl) (fun _ _ _ h => h) (Or.inr ⟨by rfl, rfl⟩) (by assumption) ?_
              try simp only [Act.put, List.setIfInBounds_toArray, List.set_cons_zero, List.set_cons_succ]
              refine wpAnyH_take (i := 8) (v := undef) (ata (atS (atS (atS (atS (atS (atS (atS (atS at0))))))))) (by kernel_rfl) (by kernel_rfl) (by kernel_rfl) (fun _ _ _ h => h) (Or.inr ⟨by rfl, rfl⟩) (by assumption) ?_
              try simp only [Act.put, List.setIfInBounds_toArray, List.set_cons_zero, List.set_cons_succ]
              refine wpAnyH_take (i := 9) (v := ?_) (ata (atS (atS (atS (atS (atS (atS (atS (atS (atS at0)))))))))) (by kernel_rfl) (by kernel_rfl) (by kernel_rfl) (fun _ _ _ h => h) (Or.inl ⟨by rfl, ?_⟩) (by assumption) ?_
              rotate_left
              · (intro w hSw; (try dsimp only at hSw); go_simp; (first | done | with_reducible rfl))
              try simp only [Act.put, List.setIfInBounds_toArray, List.set_cons_zero, List.set_cons_succ]
              refine wpAnyH_done (by kernel_rfl) ?_ _
              go_wp2
              go_meet
              case rel => exact ⟨rfl, drew_lowB w1⟩
            | false =>
              obtain ⟨lb, hlb⟩ : ∃ lb, lt b q.1 = lb := ⟨_, rfl⟩
              rw [hlb] at HBE
              have HLB := Lib.hid hlb
              clear hlb
              refine wp_region_held_drew (S := (fun Y => BC L kb off Y ∧ BufB Y w.heap.size b ⟨ge, gr⟩)) (by kernel_rfl) (by exact ⟨HC.out _ HDR2.out, HBB.out _ HDR2.out⟩) (fun hHeld => ?_)
              refine wpAnyH_take (i := 0) (v := ?_) (ata at0) (by kernel_rfl) (by kernel_rfl) (by kernel_rfl) (fun _ _ _ h => h) (Or.inl ⟨by rfl, ?_⟩) (by assumption) ?_
              rotate_left
              · (intro w hSw; (try dsimp only at hSw); go_simp; (first | done | with_reducible rfl))
              try simp only [Act.put, List.setIfInBounds_toArray, List.set_cons_zero, List.set_cons_succ]
              refine wpAnyH_take (i := 1) (v := ?_) (ata (atS at0)) (by kernel_rfl) (by kernel_rfl) (by kernel_rfl) (fun _ _ _ h => h) (Or.inl ⟨by rfl, ?_⟩) (by assumption) ?_
              rotate_left
              · (intro w hSw; (try dsimp only at hSw); go_simp; (first | done | with_reducible rfl))
              try simp only [Act.put, List.setIfInBounds_toArray, List.set_cons_zero, List.set_cons_succ]
              refine wpAnyH_take (i := 2) (v := ?_) (ata (atS (atS at0))) (by kernel_rfl) (by kernel_rfl) (by kernel_rfl) (fun _ _ _ h => h) (Or.inl ⟨by rfl, ?_⟩) (by assumption) ?_
              rotate_left
              · (intro w hSw; (try dsimp only at hSw); go_simp; (first | done | with_reducible rfl))
              try simp only [Act.put, List.setIfInBounds_toArray, List.set_cons_zero, List.set_cons_succ]
              refine wpAnyH_take (i := 3) (v := .agg (bcs b ⟨ge, gr⟩)) (ata (atS (atS (atS at0)))) (by kernel_rfl) (by kernel_rfl) (by kernel_rfl) (fun _ _ _ h => h) (Or.inl ⟨by rfl, ?_⟩) (by assumption) ?_
              · intro X hX; exact load_box _ rfl _ rfl (hX.2)
              try simp only [Act.put, List.setIfInBounds_toArray, List.set_cons_zero, List.set_cons_succ]
              refine wpAnyH_take (i := 4) (v := ?_) (ata (atS (atS (atS (atS at0))))) (by kernel_rfl) (by kernel_rfl) (by kernel_rfl) (fun _ _ _ h => h) (Or.inl ⟨by rfl, ?_⟩) (by assumption) ?_
              rotate_left
              · (intro w hSw; (try dsimp only at hSw); go_simp; (first | done | with_reducible rfl))
              try simp only [Act.put, List.setIfInBounds_toArray, List.set_cons_zero, List.set_cons_succ]
              refine wpAnyH_take (i := 5) (v := ?_) (ata (atS (atS (atS (atS (atS at0)))))) (by kernel_rfl) (by kernel_rfl) (by kernel_rfl) (fun _ _ _ h => h) (Or.inl ⟨by rfl, ?_⟩) (by assumption) ?_
              rotate_left
              · (intro w hSw; (try dsimp only at hSw); go_simp; (first | done | with_reducible rfl))
              try simp only [Act.put, List.setIfInBounds_toArray, List.set_cons_zero, List.set_cons_succ]
              refine wpAnyH_take (i := 6) (v := ?_) (ata (atS (atS (atS (atS (atS (atS at0))))))) (by kernel_rfl) (by kernel_rfl) (by kernel_rfl) (fun _ _ _ h => h) (Or.inl ⟨by rfl, ?_⟩) (by assumption) ?_
              rotate_left
              · (intro w hSw; (try dsimp only at hSw); go_simp; (first | done | with_reducible rfl))
              try simp only [Act.put, List.setIfInBounds_toArray, List.set_cons_zero, List.set_cons_succ]
              refine wpAnyH_take (i := 7) (v := .agg (bcs q.1 q.2)) (ata (atS (atS (atS (atS (atS (atS (atS at0)))))))) (by kernel_rfl) (by kernel_rfl) (by kernel_rfl) (fun _ _ _ h => h) (Or.inl ⟨by rfl, ?_⟩) (by assumption) ?_
              · intro X hX; exact load_buf _ rfl _ _ rfl q (hX.1 i q HQ.out)
              try simp only [Act.put, List.setIfInBounds_toArray, List.set_cons_zero, List.set_cons_succ]
              refine wpAnyH_ready (rs := [8]) (by kernel_rfl) (by simp) ?_
              refine AllReadyH.cons (ata (atS (atS (atS (atS (atS (atS (atS (atS at0))))))))) (fun K hK => ?_) AllReadyH.nil
              go_simp
              (go_at_call 40; ((with_reducible refine (HBE.out _).mono ?_); rintro e w9 ⟨rfl, hb⟩); have A9 := Lib.hid (show Below w1.heap.size w1 w9 from (drew_lowB w1).trans (hb.mono (drew_lowB w1).size)); have B9 := Lib.hid (HDR2.out.trans (hb.mono HDR2.out.size)); clear hb)
              go_wp2_with fail
              refine hK.out _ _ (by exact ⟨HC.out _ B9.out, HBB.out _ B9.out⟩) (fun hHeld => ?_)
              clear hK K
              try simp only [Act.put, List.setIfInBounds_toArray, List.set_cons_zero, List.set_cons_succ]
              refine wpAnyH_take (i := 9) (v := ?_) (ata (atS (atS (atS (atS (atS (atS (atS (atS (atS at0)))))))))) (by kernel_rfl) (by kernel_rfl) (by kernel_rfl) (fun _ _ _ h => h) (Or.inl ⟨by rfl, ?_⟩) (by assumption) ?_
              rotate_left
              · (intro w hSw; (try dsimp only at hSw); go_simp; (first | done | with_reducible rfl))
              try simp only [Act.put, List.setIfInBounds_toArray, List.set_cons_zero, List.set_cons_succ]
              refine wpAnyH_done (by kernel_rfl) ?_ _
              go_wp2
              go_meet
              case rel => exact ⟨by rw [HLB.out]; rfl, A9.out⟩
          case rest =>
          obtain ⟨rfl, hcut⟩ := hcut
          have HCT2 := Lib.hid (show Below w1.heap.size w1 wc from hcut)
          clear hcut HCT
          have HV2 := Lib.hid (HV1.out.trans (HCT2.out.mono HV1.out.size))
          have HO2 := Lib.hid (HO1.out.next HCT2.out)
          have HB2 := Lib.hid (show base ≤ wc.heap.size by rw [← HBS.out]; exact HV2.out.size)
          obtain ⟨tt, htt⟩ : ∃ tt, (!done && lt b q.1) = tt := ⟨_, rfl⟩
          rw [htt]
          have HTT := Lib.hid htt
          clear htt
          cases tt with
          | true =>
            have hdn : done = false ∧ lt b q.1 = true := by
              have := HTT.out
              rw [Bool.and_eq_true, Bool.not_eq_true'] at this
              exact this
            have HDN := Lib.hid hdn
            clear hdn
            have HXw5 := Lib.hid (show BufB (wc.alloc (.cells #[.int .i64 b.job, .string (str b.name), .string (str b.user), .string (str b.pool), .bool b.opn, ge, gr] 26)) wc.heap.size b ⟨ge, gr⟩ from BoxA.new _ _ _)
            have HXWw5 := Lib.hid ((Below.refl _ wc).alloc (Nat.le_refl wc.heap.size) (.cells #[.int .i64 b.job, .string (str b.name), .string (str b.user), .string (str b.pool), .bool b.opn, ge, gr] 26))
            go_upto_region 17 with (first
              | (refine wpl_load_g (by rfl) _ _ rfl w.heap.size rfl _ _ _ _ (HBL.out _ HV2.out) Tryz.underlying26 rfl (by kernel_rfl) ?_)
              | (at_builtin; refine wpl_buf rfl _ _ rfl (v := .slice _ _ _) rfl (HO2.out.next HXWw5.out) rfl HXw5.out (bcs_one (HBR.out _ HV2.out)) (by rw [HML.out]; have := HMB.out; omega) (Nat.le_trans HB2.out HXWw5.out.size) ?_; intro pp cc w5 h1 h3; have HOw5 := Lib.hid h1; have HVw5 := Lib.hid (show Below W.heap.size W w5 from (HV2.out.trans (HXWw5.out.mono HV2.out.size)).trans (by rw [HBS.out]; exact h3)); clear h1 h3))
            have HB5 := Lib.hid (show base ≤ w5.heap.size by rw [← HBS.out]; exact HVw5.out.size)
            have HXw6 := Lib.hid (show BufB (w5.alloc (.cells #[.int .i64 q.1.job, .string (str q.1.name), .string (str q.1.user), .string (str q.1.pool), .bool q.1.opn, q.2.e, q.2.r] 26)) w5.heap.size q.1 q.2 from BoxA.new _ _ _)
            have HXWw6 := Lib.hid ((Below.refl _ w5).alloc (Nat.le_refl w5.heap.size) (.cells #[.int .i64 q.1.job, .string (str q.1.name), .string (str q.1.user), .string (str q.1.pool), .bool q.1.opn, q.2.e, q.2.r] 26))
            go_upto_region 11 with (first
              | (refine wpList_load_mid rfl _ _ rfl kb (off + i * 7) rfl [.int .i64 q.1.job, .string (str q.1.name), .string (str q.1.user), .string (str q.1.pool), .bool q.1.opn, q.2.e, q.2.r] _ (HC.out _ HVw5.out i q HQ.out) Tryz.underlying26 rfl (by kernel_rfl) ?_)
              | (at_builtin; refine wpl_buf rfl _ _ rfl (v := .slice _ _ _) rfl (HOw5.out.next HXWw6.out) rfl HXw6.out (bcs_one (HRB.out _ HVw5.out q (List.mem_of_getElem? HQ.out))) (by rw [List.length_append, HML.out]; have := HMB.out; simp; omega) (Nat.le_trans HB5.out HXWw6.out.size) ?_; intro pp cc w6 h1 h3; have HOw6 := Lib.hid h1; have HVw6 := Lib.hid (show Below W.heap.size W w6 from (HVw5.out.trans (HXWw6.out.mono HVw5.out.size)).trans (by rw [HBS.out]; exact h3)); clear h1 h3))
            rw [show (M ++ [(b, (⟨ge, gr⟩ : Gb))]).length = M.length + 1 by simp] at HOw6
            have HO6 := Lib.hid HOw6.out
            have HV6 := Lib.hid HVw6.out
            go_wp2
            go_roundw
            case rel => exact ⟨i + 1, true, M ++ [(b, ⟨ge, gr⟩)] ++ [q], _, _, _, rfl, rfl, by go_num, by omega, (by simp [HML.out]), (by
                have hst := HR.out.st
                rw [HDN.out.1] at hst
                rw [List.map_append, List.map_append]
                exact hst.new HQF.out HDN.out.2), (fun p hp => by
                rcases List.mem_append.1 hp with hp | hp
                · rcases List.mem_append.1 hp with hp | hp
                  · exact HR.out.mem p hp
                  · exact .inr (List.mem_singleton.1 hp)
                · exact .inl (by rw [List.mem_singleton.1 hp]; exact List.mem_of_getElem? HQ.out)), HO6.out, HN2.out, (by have h9 := congrArg List.length (HR.out.st.2 HDN.out.1).1; rw [List.length_map, List.length_take] at h9; simp; omega), by rw [← HBS.out]; exact HV6.out⟩
            case measure => simp [intOf]; omega
          | false =>
            have HXw6 := Lib.hid (show BufB (wc.alloc (.cells #[.int .i64 q.1.job, .string (str q.1.name), .string (str q.1.user), .string (str q.1.pool), .bool q.1.opn, q.2.e, q.2.r] 26)) wc.heap.size q.1 q.2 from BoxA.new _ _ _)
            have HXWw6 := Lib.hid ((Below.refl _ wc).alloc (Nat.le_refl wc.heap.size) (.cells #[.int .i64 q.1.job, .string (str q.1.name), .string (str q.1.user), .string (str q.1.pool), .bool q.1.opn, q.2.e, q.2.r] 26))
            go_upto_region 11 with (first
              | (refine wpList_load_mid rfl _ _ rfl kb (off + i * 7) rfl [.int .i64 q.1.job, .string (str q.1.name), .string (str q.1.user), .string (str q.1.pool), .bool q.1.opn, q.2.e, q.2.r] _ (HC.out _ HV2.out i q HQ.out) Tryz.underlying26 rfl (by kernel_rfl) ?_)
              | (at_builtin; refine wpl_buf rfl _ _ rfl (v := .slice _ _ _) rfl (HO2.out.next HXWw6.out) rfl HXw6.out (bcs_one (HRB.out _ HV2.out q (List.mem_of_getElem? HQ.out))) (by rw [HML.out]; have := HMB.out; omega) (Nat.le_trans HB2.out HXWw6.out.size) ?_; intro pp cc w6 h1 h3; have HOw6 := Lib.hid h1; have HVw6 := Lib.hid (show Below W.heap.size W w6 from (HV2.out.trans (HXWw6.out.mono HV2.out.size)).trans (by rw [HBS.out]; exact h3)); clear h1 h3))
            have HO6 := Lib.hid HOw6.out
            have HV6 := Lib.hid HVw6.out
            go_wp2
            go_roundw
            case rel => exact ⟨i + 1, done, M ++ [q], _, _, _, rfl, rfl, by go_num, by omega, (by simp [HML.out]), (by
                rw [List.map_append]
                refine HR.out.st.old HQF.out ?_
                have := HTT.out
                rw [Bool.and_eq_false_iff, Bool.not_eq_false'] at this
                exact this), (fun p hp => by
                rcases List.mem_append.1 hp with hp | hp
                · exact HR.out.mem p hp
                · exact .inl (by rw [List.mem_singleton.1 hp]; exact List.mem_of_getElem? HQ.out)), HO6.out, HN2.out, (by have := HR.out.len; simp; omega), by rw [← HBS.out]; exact HV6.out⟩
            case measure => simp [intOf]; omega
      · obtain rfl : i = n := by omega
        have hno := HR.out.no
        have hst := HR.out.st
        have hln : (L.map Prod.fst).length = i := by rw [List.length_map, HN.out]
        rw [← hln, List.take_length] at hno
        rw [← hln] at hst
        have HE := Lib.hid (show addS (L.map Prod.fst) b = (ins b (L.map Prod.fst), 0) by
          rw [HAU.out, if_neg]
          intro hany
          obtain ⟨c, hc, h1⟩ := List.any_eq_true.1 hany
          rw [Bool.and_eq_true, decide_eq_true_eq] at h1
          have := hno c hc h1.1
          rw [h1.2] at this
          cases this)
        have HST := Lib.hid hst.fin
        have HBM := Lib.hid (show ∀ p ∈ M, BI p.1 from fun p hp => by
          rcases HR.out.mem p hp with hp | rfl
          · exact HI.out.all p hp
          · exact HBI.out)
        have HRM := Lib.hid (fun (Y : World) (hy : Below W.heap.size W Y) => (show ∀ p ∈ M, RB Y p.1 p.2 from fun p hp => by
          rcases HR.out.mem p hp with hp | rfl
          · exact HRB.out Y hy p hp
          · exact HBR.out Y hy))
        clear hno hst hln
        cases done with
        | true =>
          go_wp2
          go_ret2
          exact ⟨_, M, by rw [HE.out]; rfl, by rw [HE.out]; exact HST.out.1 (by trivial), HR.out.out.rbs (HRM.out _ HV0.out), ⟨by rw [HML.out]; have := HMB.out; omega, HBM.out⟩, HFIN.out _ HV0.out⟩
        | false =>
          obtain ⟨w1, hw1⟩ : ∃ w1, w1 = wr := ⟨_, rfl⟩
          subst hw1
          have HOr := Lib.hid HR.out.out
          have HXw6 := Lib.hid (show BufB (w1.alloc (.cells #[.int .i64 b.job, .string (str b.name), .string (str b.user), .string (str b.pool), .bool b.opn, ge, gr] 26)) w1.heap.size b ⟨ge, gr⟩ from BoxA.new _ _ _)
          have HXWw6 := Lib.hid ((Below.refl _ w1).alloc (Nat.le_refl w1.heap.size) (.cells #[.int .i64 b.job, .string (str b.name), .string (str b.user), .string (str b.pool), .bool b.opn, ge, gr] 26))
          go_wp2_with (first
            | (refine wpl_load_g (by rfl) _ _ rfl w.heap.size rfl _ _ _ _ (HBL.out _ HV0.out) Tryz.underlying26 rfl (by kernel_rfl) ?_)
            | (at_builtin; refine wpl_buf rfl _ _ rfl (v := .slice _ _ _) rfl (HOr.out.next HXWw6.out) rfl HXw6.out (bcs_one (HBR.out _ HV0.out)) (by rw [HML.out]; have := HMB.out; omega) (Nat.le_trans HBW.out HXWw6.out.size) ?_; intro pp cc w6 h1 h3; have HOw6 := Lib.hid h1; have HVw6 := Lib.hid (show Below W.heap.size W w6 from (HV0.out.trans (HXWw6.out.mono HV0.out.size)).trans (by rw [HBS.out]; exact h3)); clear h1 h3))
          have HO6 := Lib.hid HOw6.out
          have HV6 := Lib.hid HVw6.out
          go_ret2
          exact ⟨_, M ++ [(b, ⟨ge, gr⟩)], by rw [HE.out]; rfl, by rw [HE.out, List.map_append]; exact HST.out.2 (by trivial), HO6.out.rbs (fun p hp => by
              rcases List.mem_append.1 hp with hp | hp
              · exact HRM.out _ HV6.out p hp
              · rw [List.mem_singleton.1 hp]; exact HBR.out _ HV6.out), ⟨by rw [List.length_append, HML.out]; have := HMB.out; simp; omega, fun p hp => by
              rcases List.mem_append.1 hp with hp | hp
              · exact HBM.out p hp
              · rw [List.mem_singleton.1 hp]; exact HBI.out⟩, HFIN.out _ HV6.out⟩
end Go.Proofs.YtkjffoebcblpoaaGreat.gn
end
