/- What the program's calls answer (a premise until the code is here); the law's great. (Written by gen_buP.py, ahead of the code.) -/
import Derived.Test.YtkjffoebcblpoaaGreatMBuO
import Derived.Test.YtkjffoebcblpoaaGreatMBuL
import Derived.Great.Ranges
section
set_option linter.unusedVariables false
set_option linter.unusedSimpArgs false
namespace Go.Proofs.YtkjffoebcblpoaaGreat.gn
open Go.RowKit
open Go.Proofs.YtkjffoebcblpoaaGreat.bu (Bf May Valid addS refS unrefS dropS freeS findS ofS)

/-- A registry that may be asked. -/
structure IB (w : World) (v : Value) (L : List (Bf × Gb)) : Prop where
  rows : RBs w v L
  cap : CpG v L.length
  bis : BIs L
  caps : ∀ p ∈ L, CB p
theorem IB.next {w w' : World} {v : Value} {L : List (Bf × Gb)} (h : IB w v L) (hb : Below w.heap.size w w') : IB w' v L := ⟨h.rows.next hb, h.cap, h.bis, h.caps⟩
theorem IB.capOk {w : World} {v : Value} {L : List (Bf × Gb)} (h : IB w v L) : CapOk v := h.cap.cap
theorem Ask.ib {W : World} {v : Value} {L : List (Bf × Gb)} {b : Bf × Gb} {name user : List UInt8} {job : Int} (h : Ask W v L b name user job) (hl : L.length ≤ 25 ∧ ∀ q ∈ L, BLook q.1) : IB W v L := ⟨h.rows, h.cap, h.all.bis hl, h.caps⟩
/-- What a call tells that tells a registry and an error. -/
def RowQ (w : World) (l : List Bf) (E : Int) (en : Ending) (w' : World) : Prop := ∃ v M, en = .returned (.tuple #[v, .int .i64 E]) ∧ M.map Prod.fst = l ∧ IB w' v M ∧ Below w.heap.size w w'
/-- Rows of the call's own. -/
structure Own (base : Nat) (w : World) (v : Value) (M : List (Bf × Gb)) : Prop where
  row : OutS base w v M
  e : ∀ p ∈ M, ApC base 55 2 w p.2.e p.1.exts.length (xcs p.1.exts)
  r : ∀ p ∈ M, OutI base w p.2.r p.1.refs
def RowP (w : World) (l : List Bf) (E : Int) (en : Ending) (w' : World) : Prop := ∃ v M, en = .returned (.tuple #[v, .int .i64 E]) ∧ M.map Prod.fst = l ∧ Own w.heap.size w' v M ∧ BIs M ∧ Below w.heap.size w w'
theorem ApC.cpg {base : Nat} {e : TypeId} {size : Nat} {w : World} {v : Value} {n : Nat} {cs : List Value} (h : ApC base e size w v n cs) : CpG v n := by
  rcases h with ⟨p, rfl, rfl, _⟩ | ⟨_, ⟨rfl, rfl⟩ | ⟨g, cap, cur, rfl, _, _, h1, h2, _⟩⟩
  · exact ⟨_, _, rfl, Nat.le_refl _, Nat.zero_le _⟩
  · exact ⟨_, _, rfl, Nat.le_refl _, Nat.zero_le _⟩
  · exact ⟨_, _, rfl, h1, h2⟩
theorem Own.ib {base : Nat} {w : World} {v : Value} {M : List (Bf × Gb)} (h : Own base w v M) (hb : BIs M) : IB w v M :=
  ⟨⟨h.row.row.rdc, fun p hp => ⟨(h.e p hp).rdc, (h.r p hp).ri⟩⟩, h.row.row.cpg, hb, fun p hp => ⟨(h.e p hp).cpg, ApC.cpg (h.r p hp)⟩⟩
theorem RowP.q {w : World} {l : List Bf} {E : Int} {en : Ending} {w' : World} (h : RowP w l E en w') : RowQ w l E en w' := by
  obtain ⟨v, M, h1, h2, h3, h4, h5⟩ := h
  exact ⟨v, M, h1, h2, h3.ib h4, h5⟩
/-- A buffer that is told: rows of the call's own, or of a buffer that was asked. -/
structure ToldB (L : List (Bf × Gb)) (base : Nat) (w : World) (b : Bf) (g : Gb) : Prop where
  e : (∃ q ∈ L, g.e = q.2.e ∧ b.exts = q.1.exts) ∨ ApC base 55 2 w g.e b.exts.length (xcs b.exts)
  r : (∃ q ∈ L, g.r = q.2.r ∧ b.refs = q.1.refs) ∨ OutI base w g.r b.refs
theorem ToldB.rb {L : List (Bf × Gb)} {base : Nat} {w : World} {b : Bf} {g : Gb} (h : ToldB L base w b g) (hL : ∀ q ∈ L, RB w q.1 q.2) : RB w b g := by
  refine ⟨?_, ?_⟩
  · rcases h.e with ⟨q, hq, e1, e2⟩ | h1
    · rw [e1, e2]
      exact (hL q hq).e
    · exact h1.rdc
  · rcases h.r with ⟨q, hq, e1, e2⟩ | h1
    · rw [e1, e2]
      exact (hL q hq).r
    · exact h1.ri
theorem ApC.setRow {base : Nat} {e : TypeId} {size : Nat} {w : World} {v : Value} {n : Nat} {xs : List Value} (h : ApC base e size w v n xs) {k : Nat} (hk : k < base) (cs : Array Value) : ApC base e size (w.setRow k cs) v n xs := by
  rcases h with h | ⟨h1, h2 | ⟨g, cap, cur, e', hb, hg, r⟩⟩
  · exact .inl h
  · exact .inr ⟨h1, .inl h2⟩
  · exact .inr ⟨h1, .inr ⟨g, cap, cur, e', hb, (setRow_other _ _ _ _ (by omega)).trans hg, r⟩⟩
theorem ToldB.next {L : List (Bf × Gb)} {base : Nat} {w w' : World} {b : Bf} {g : Gb} (h : ToldB L base w b g) (hb : Below w.heap.size w w') : ToldB L base w' b g := ⟨h.e.imp id (fun x => x.next hb), h.r.imp id (fun x => OutI.next x hb)⟩
theorem ToldB.set {L : List (Bf × Gb)} {base : Nat} {w : World} {b : Bf} {g : Gb} (h : ToldB L base w b g) {k : Nat} (hk : k < base) (cs : Array Value) : ToldB L base (w.setRow k cs) b g := ⟨h.e.imp id (fun x => x.setRow hk cs), h.r.imp id (fun x => ApC.setRow x hk cs)⟩
theorem Own.next {base : Nat} {w w' : World} {v : Value} {M : List (Bf × Gb)} (h : Own base w v M) (hb : Below w.heap.size w w') : Own base w' v M := ⟨h.row.next hb, fun p hp => (h.e p hp).next hb, fun p hp => OutI.next (h.r p hp) hb⟩
theorem Own.set {base : Nat} {w : World} {v : Value} {M : List (Bf × Gb)} (h : Own base w v M) {k : Nat} (hk : k < base) (cs : Array Value) : Own base (w.setRow k cs) v M := ⟨h.row.set hk cs, fun p hp => (h.e p hp).setRow hk cs, fun p hp => ApC.setRow (h.r p hp) hk cs⟩
/-- What Drop and Free tell. -/
def DropQ (w : World) (L : List (Bf × Gb)) (l : List Bf) (b : Bf) (E : Int) (en : Ending) (w' : World) : Prop := ∃ v M g, en = .returned (.tuple #[v, bV b g, .int .i64 E]) ∧ M.map Prod.fst = l ∧ IB w' v M ∧ ToldB L w.heap.size w' b g ∧ BI b ∧ CB (b, g) ∧ Below w.heap.size w w'
def DropP (w : World) (L : List (Bf × Gb)) (l : List Bf) (b : Bf) (E : Int) (en : Ending) (w' : World) : Prop := ∃ v M g, en = .returned (.tuple #[v, bV b g, .int .i64 E]) ∧ M.map Prod.fst = l ∧ Own w.heap.size w' v M ∧ BIs M ∧ ToldB L w.heap.size w' b g ∧ BI b ∧ CB (b, g) ∧ Below w.heap.size w w'
theorem DropP.q {w : World} {L : List (Bf × Gb)} {l : List Bf} {b : Bf} {E : Int} {en : Ending} {w' : World} (h : DropP w L l b E en w') : DropQ w L l b E en w' := by
  obtain ⟨v, M, g, h1, h2, h3, h4, h5, h6, h7, h8⟩ := h
  exact ⟨v, M, g, h1, h2, h3.ib h4, h5, h6, h7, h8⟩
def BufQ (w : World) (L : List (Bf × Gb)) (b : Bf) (t : Bool) (en : Ending) (w' : World) : Prop := ∃ g, en = .returned (.tuple #[bV b g, .bool t]) ∧ ToldB L w.heap.size w' b g ∧ BI b ∧ CB (b, g) ∧ Below w.heap.size w w'
/-- What the program's calls answer. -/
structure ProgB : Prop where
  check : ∀ {w v L}, IB w v L → Calls Tryz.prog 11 #[v] w (TellsM (.int .i64 (vE (L.map Prod.fst))) w)
  add : ∀ {w v L}, IB w v L → ∀ (b : Bf) (g : Gb), RB w b g → BI b → CB (b, g) → Calls Tryz.prog 9 #[v, bV b g] w (RowP w (addS (L.map Prod.fst) b).1 (addS (L.map Prod.fst) b).2)
  ref : ∀ {w v L}, IB w v L → ∀ (name user : List UInt8) (job : Int), (-9223372036854775808 ≤ job ∧ job ≤ 9223372036854775807) → name.length ≤ 100 → user.length ≤ 100 → Calls Tryz.prog 14 #[v, .string (str name), .string (str user), .int .i64 job] w (RowP w (refS (L.map Prod.fst) name user job).1 (refS (L.map Prod.fst) name user job).2)
  unref : ∀ {w v L}, IB w v L → ∀ (job : Int), (-9223372036854775808 ≤ job ∧ job ≤ 9223372036854775807) → Calls Tryz.prog 16 #[v, .int .i64 job] w (RowQ w (unrefS (L.map Prod.fst) job).1 (unrefS (L.map Prod.fst) job).2)
  drop : ∀ {w v L}, IB w v L → ∀ (name user : List UInt8), name.length ≤ 140737488355328 → user.length ≤ 140737488355328 → Calls Tryz.prog 18 #[v, .string (str name), .string (str user)] w (DropQ w L (dropS (L.map Prod.fst) name user).1 (dropS (L.map Prod.fst) name user).2.1 (dropS (L.map Prod.fst) name user).2.2)
  free : ∀ {w v L}, IB w v L → ∀ (job : Int), (-9223372036854775808 ≤ job ∧ job ≤ 9223372036854775807) → Calls Tryz.prog 21 #[v, .int .i64 job] w (DropP w L (freeS (L.map Prod.fst) job).1 (freeS (L.map Prod.fst) job).2.1 (freeS (L.map Prod.fst) job).2.2)
  find : ∀ {w v L}, IB w v L → ∀ (name : List UInt8), name.length ≤ 140737488355328 → Calls Tryz.prog 23 #[v, .string (str name)] w (BufQ w L (findS (L.map Prod.fst) name).1 (findS (L.map Prod.fst) name).2)
  of : ∀ {w v L}, IB w v L → ∀ (job : Int), (-9223372036854775808 ≤ job ∧ job ≤ 9223372036854775807) → Calls Tryz.prog 25 #[v, .int .i64 job] w (BufQ w L (ofS (L.map Prod.fst) job).1 (ofS (L.map Prod.fst) job).2)
theorem wpl_load_mid_g {ops : Array Oper} {rest : List Oper} {op : Oper} {a : Act} {w : World} {Q : Exit → Act → World → Prop} (hgw : Region.wanted op (yielded ops a.tmps) = true) (ty : TypeId) (x : Operand) (ho : op.op = .load ty x)
    (b o : Nat) (hx : a.eval x = .pointer (some ⟨b, o, none⟩)) (cs : List Value) (d : TypeDesc) (hc : w.rangeAt b o cs)
    (hu : Tryz.prog.underlying ty = some d) (hd : d.isRow = true) (hi : (Tryz.prog.info? ty).map (·.size) = some cs.length)
    (h : wpList Tryz.prog ops Q rest (a.put op.dst (.agg cs.toArray)) w) : wpList Tryz.prog ops Q (op :: rest) a w := by
  refine wpList_step fun K hK => ?_
  rw [if_pos hgw]
  exact wp_load_mid ty x ho b o hx cs d hc hu hd hi (hK _ _ h)
/-- Is it more than a law looks at? -/
noncomputable def lgB (l : List Bf) (b : Bf) (name user : List UInt8) : Bool := grB l || (grB [b] || (decide ((100 : Int) < (name.length : Int)) || decide ((100 : Int) < (user.length : Int))))
theorem lgB_look {l : List Bf} {b : Bf} {name user : List UInt8} (h : lgB l b name user = false) : (l.length ≤ 25 ∧ ∀ q ∈ l, BLook q) ∧ BLook b ∧ name.length ≤ 100 ∧ user.length ≤ 100 := by
  unfold lgB at h
  simp only [Bool.or_eq_false_iff, decide_eq_false_iff_not] at h
  exact ⟨grB_look h.1, (grB_look h.2.1).2 b (by simp), by omega, by omega⟩
set_option maxRecDepth 100000 in
set_option maxHeartbeats 6400000 in
theorem lgreat_any {w : World} {lv : Value} {L : List (Bf × Gb)} {b : Bf} {ge gr : Value} {name user : List UInt8} {job : Int} (h : Ask w lv L (b, ⟨ge, gr⟩) name user job) :
    Calls Tryz.prog 7 #[.agg #[lv, .int .i64 b.job, .string (str b.name), .string (str b.user), .string (str b.pool), .bool b.opn, ge, gr, .string (str name), .string (str user), .int .i64 job]] w (TellsM (.bool (lgB (L.map Prod.fst) b name user)) w) := by
  obtain ⟨W, hW⟩ : ∃ W, w.alloc (.cells #[lv, .int .i64 b.job, .string (str b.name), .string (str b.user), .string (str b.pool), .bool b.opn, ge, gr, .string (str name), .string (str user), .int .i64 job] 28) = W := ⟨_, rfl⟩
  have hbx : BoxA W w.heap.size 28 #[lv, .int .i64 b.job, .string (str b.name), .string (str b.user), .string (str b.pool), .bool b.opn, ge, gr, .string (str name), .string (str user), .int .i64 job] := by rw [← hW]; exact BoxA.new _ _ _
  have hl : Below w.heap.size w W := by rw [← hW]; exact (Below.refl _ _).alloc (Nat.le_refl _) _
  have HG1 := Lib.hid (dGreatB_any (h.rows.next hl) h.all)
  obtain ⟨W2, hW2⟩ : ∃ W2, W.alloc (.cells (bcs b ⟨ge, gr⟩) 26) = W2 := ⟨_, rfl⟩
  have hbx2 : BufB W2 W.heap.size b ⟨ge, gr⟩ := by rw [← hW2]; exact BoxA.new _ _ _
  have hl2 : Below W.heap.size W W2 := by rw [← hW2]; exact (Below.refl _ _).alloc (Nat.le_refl _) _
  have hr2 : RBs W2 (.slice (some ⟨W.heap.size, 0, none⟩) 1 1) [(b, (⟨ge, gr⟩ : Gb))] := ⟨by have := box_rdc (c := 1) hbx2; rw [show bcl [(b, (⟨ge, gr⟩ : Gb))] = (bcs b ⟨ge, gr⟩).toList by simp [bcl]]; exact this, fun p hp => by
    rw [List.mem_singleton.1 hp]
    exact (h.one.next hl).next hl2⟩
  have HG2 := Lib.hid (dGreatB_any hr2 ⟨by simp, fun p hp => by rw [List.mem_singleton.1 hp]; exact h.oneA⟩)
  have hrow : W.rangeAt w.heap.size 1 [.int .i64 b.job, .string (str b.name), .string (str b.user), .string (str b.pool), .bool b.opn, ge, gr] := fun j u hu => BoxA.cell hbx (1 + j) u (by
    rcases j with _ | _ | _ | _ | _ | _ | _ | j
    all_goals first | exact hu | (simp at hu))
  have HRW := Lib.hid hrow
  have HW := Lib.hid hW
  have HW2 := Lib.hid hW2
  have HL := Lib.hid hl
  have HL2 := Lib.hid (hl.trans (hl2.mono hl.size))
  have c0 : W.cell? ⟨w.heap.size, 0, none⟩ = some lv := BoxA.cell hbx 0 _ rfl
  have c8 : W.cell? ⟨w.heap.size, 8, none⟩ = some (.string (str name)) := BoxA.cell hbx 8 _ rfl
  have c9 : W.cell? ⟨w.heap.size, 9, none⟩ = some (.string (str user)) := BoxA.cell hbx 9 _ rfl
  have clt : w.heap.size < W.heap.size := BoxA.lt hbx
  have e8 : W2.cell? ⟨w.heap.size, 8, none⟩ = some (.string (str name)) := (low_cell hl2 clt).trans c8
  have e9 : W2.cell? ⟨w.heap.size, 9, none⟩ = some (.string (str user)) := (low_cell hl2 clt).trans c9
  have clt2 : w.heap.size < W2.heap.size := Nat.lt_of_lt_of_le clt hl2.size
  have z1 := str_size name
  have z2 := str_size user
  have y1 : (str name).size ≤ 9223372036854775807 := by rw [z1]; exact h.name
  have y2 : (str user).size ≤ 9223372036854775807 := by rw [z2]; exact h.user
  unfold bcs at HW2
  clear h hW hbx hl hW2 hbx2 hl2 hr2 hrow
  go_enter Tryz.func7, Tryz.ntmps7
  apply wp_seq_k
  intro K hK
  apply wp_region_lit
  refine Great.wpList_boxTo rfl _ _ rfl _ rfl w.heap.size rfl #[lv, .int .i64 b.job, .string (str b.name), .string (str b.user), .string (str b.pool), .bool b.opn, ge, gr, .string (str name), .string (str user), .int .i64 job] rfl ?_
  rw [HW.out]
  obtain ⟨t1, ht1⟩ : ∃ t, grB (L.map Prod.fst) = t := ⟨_, rfl⟩
  have HT1 := Lib.hid ht1
  unfold GrT at HG1 HG2
  rw [ht1] at HG1
  clear ht1
  cases t1 with
  | true =>
    clear HG2
    go_wp2_with (go_at_call 27; ((with_reducible refine HG1.out.mono ?_); rintro e w5 ⟨rfl, rfl⟩))
    go_ret
    exact ⟨by unfold lgB; rw [HT1.out]; rfl, HL.out⟩
  | false =>
  obtain ⟨t2, ht2⟩ : ∃ t, grB [b] = t := ⟨_, rfl⟩
  have HT2 := Lib.hid ht2
  rw [show (List.map Prod.fst [(b, (⟨ge, gr⟩ : Gb))]) = [b] from rfl, ht2] at HG2
  clear ht2
  have HQ := Lib.hid (show lgB (L.map Prod.fst) b name user = (t2 || (decide ((100 : Int) < (name.length : Int)) || decide ((100 : Int) < (user.length : Int)))) by unfold lgB; rw [HT1.out, HT2.out]; rfl)
  cases t2 with
  | true =>
    go_wp2_with (first
      | (go_at_call 27; (first
        | ((with_reducible refine HG1.out.mono ?_); rintro e w5 ⟨rfl, rfl⟩)
        | (rw [HW2.out]; (with_reducible refine HG2.out.mono ?_); rintro e w6 ⟨rfl, rfl⟩)))
      | (refine wpl_load_mid_g (by rfl) _ _ rfl w.heap.size 1 rfl [.int .i64 b.job, .string (str b.name), .string (str b.user), .string (str b.pool), .bool b.opn, ge, gr] _ HRW.out Tryz.underlying26 rfl (by kernel_rfl) ?_))
    go_ret
    exact ⟨by rw [HQ.out]; rfl, HL2.out⟩
  | false =>
    by_cases g1 : (100 : Int) < (name.length : Int)
    · have HD := Lib.hid (decide_eq_true g1)
      skip
      go_wp2_with (first
        | (go_at_call 27; (first
          | ((with_reducible refine HG1.out.mono ?_); rintro e w5 ⟨rfl, rfl⟩)
          | (rw [HW2.out]; (with_reducible refine HG2.out.mono ?_); rintro e w6 ⟨rfl, rfl⟩)))
        | (refine wpl_load_mid_g (by rfl) _ _ rfl w.heap.size 1 rfl [.int .i64 b.job, .string (str b.name), .string (str b.user), .string (str b.pool), .bool b.opn, ge, gr] _ HRW.out Tryz.underlying26 rfl (by kernel_rfl) ?_))
      go_ret
      exact ⟨by rw [HQ.out]; rw [HD.out]; rfl, HL2.out⟩
    · have HD := Lib.hid (decide_eq_false g1)
      skip
      go_wp2_with (first
        | (go_at_call 27; (first
          | ((with_reducible refine HG1.out.mono ?_); rintro e w5 ⟨rfl, rfl⟩)
          | (rw [HW2.out]; (with_reducible refine HG2.out.mono ?_); rintro e w6 ⟨rfl, rfl⟩)))
        | (refine wpl_load_mid_g (by rfl) _ _ rfl w.heap.size 1 rfl [.int .i64 b.job, .string (str b.name), .string (str b.user), .string (str b.pool), .bool b.opn, ge, gr] _ HRW.out Tryz.underlying26 rfl (by kernel_rfl) ?_))
      go_ret
      exact ⟨by rw [HQ.out]; rw [HD.out]; rfl, HL2.out⟩
end Go.Proofs.YtkjffoebcblpoaaGreat.gn
end
