/- The document's Do. -/
import Derived.Test.YtdfiofjnijnodaaFjE
import Derived.Deep.RegionLaw
set_option linter.unusedVariables false
namespace Go.Proofs.Ytdfiofjnijnodaa.gn
open Go.RowKit
open Go.Proofs.Ytdfiofjnijnodaa.fi

theorem FR.drewN {w : World} {B : Nat} {v : Value} {L : List DF} (h : FR w B v L) (n : Nat) : FR (w.drewN n) B v L := h
theorem DocI.next {w : World} {Y : Nat → Prop} {q K : Nat} {vn vs vo : Value} {r : Int} {N S : List DF} {O : List DO} (h : DocI w Y q K vn vs vo r N S O) : DocI w Y q (K + 1) vn vs vo r N S O := by
  obtain ⟨M, h1, h2⟩ := h.bs
  exact ⟨h.blk, h.y, h.n, h.s, h.o, h.yn, h.ys, h.yo, h.r0, h.r1, Nat.le_succ_of_le h.ln, Nat.le_succ_of_le h.ls, h.bn.mono (by omega), ⟨M, h1, by omega⟩, h.bo⟩
theorem Doc.next {w : World} {Y : Nat → Prop} {q K : Nat} (h : Doc w Y q K) : Doc w Y q (K + 1) := by
  obtain ⟨vn, vs, vo, r, N, S, O, h⟩ := h
  exact ⟨vn, vs, vo, r, N, S, O, h.next⟩
theorem DocI.more {w : World} {Y Y' : Nat → Prop} {q K : Nat} {vn vs vo : Value} {r : Int} {N S : List DF} {O : List DO} (h : DocI w Y q K vn vs vo r N S O) (hY : ∀ i, Y i → Y' i) : DocI w Y' q K vn vs vo r N S O :=
  ⟨h.blk, hY _ h.y, h.n, h.s, h.o, fun g hg => hY _ (h.yn g hg), fun g hg => hY _ (h.ys g hg), fun g hg => hY _ (h.yo g hg), h.r0, h.r1, h.ln, h.ls, h.bn, h.bs, h.bo⟩
theorem Doc.more {w : World} {Y Y' : Nat → Prop} {q K : Nat} (h : Doc w Y q K) (hY : ∀ i, Y i → Y' i) : Doc w Y' q K := by
  obtain ⟨vn, vs, vo, r, N, S, O, h⟩ := h
  exact ⟨vn, vs, vo, r, N, S, O, h.more hY⟩
theorem Ran.same {w w' : World} {Y : Nat → Prop} {q K : Nat} (h : Doc w Y q K) (hb : Below w.heap.size w w') : Ran Y q (K + 1) w w' :=
  ⟨((h.below hb).next).more fun i hi => ext_old hi, Only.of_below hb⟩
theorem infoOpD : (Try.prog.info? 61).map (fun i => (i.zero, i.size, i.bytes)) = some (some (.agg #[.int .i64 0, .string ⟨#[]⟩, .string ⟨#[]⟩, .int .i64 0]), 4, 48) := by kernel_rfl
def SrcO (w : World) (x : Value) (M : List DO) : Prop := (x = .slice none 0 0 ∧ M = []) ∨ ∃ ad c, x = .slice (some ad) M.length c ∧ ∀ j u, (flatO M)[j]? = some u → w.cell? (ad.add j) = some u
theorem OR.src {w : World} {B : Nat} {v : Value} {L : List DO} (h : OR w B v L) : SrcO w v L := by
  rcases h.form with h1 | ⟨g, c, rfl, _⟩
  · exact .inl h1
  · exact .inr ⟨_, _, rfl, fun j u hu => World.ownsRow.cells h (g := g) rfl j u hu⟩
theorem SrcO.below {w w' : World} {v : Value} {L : List DO} (h : SrcO w v L) (hb : Below w.heap.size w w') : SrcO w' v L := by
  rcases h with h | ⟨ad, c, h1, h2⟩
  · exact .inl h
  · refine .inr ⟨ad, c, h1, fun j u hu => ?_⟩
    have hc := h2 j u hu
    rw [hb.cell (dcell_lt hc)]
    exact hc
theorem srcO_one (W : World) (o : DO) : SrcO (W.alloc (.cells #[.int .i64 o.1, .string o.2.1, .string o.2.2.1, .int .i64 o.2.2.2] 61)) (.slice (some ⟨W.heap.size, 0, none⟩) 1 1) [o] := by
  refine .inr ⟨_, _, rfl, fun j x hx => ?_⟩
  have hadd : ∀ j, (⟨W.heap.size, 0, none⟩ : Addr).add j = ⟨W.heap.size, j, none⟩ := fun j => by unfold Addr.add; split <;> simp_all
  rw [hadd, cell_of_row _ _ j _ _ _ (heap_alloc_new W _), ← Array.getElem?_toList]
  exact hx
theorem SrcO.grown {w w' : World} {ad : Addr} {n c : Nat} {M : List DO} {row : Option Nat} (h : SrcO w (.slice (some ad) n c) M) (hg : w.grownBy w' row) (hne : row ≠ some ad.block) : SrcO w' (.slice (some ad) n c) M := by
  rcases h with ⟨h, _⟩ | ⟨ad', c', h1, h2⟩
  · cases h
  · cases h1
    refine .inr ⟨ad, c, rfl, fun j u hu => ?_⟩
    have hc := h2 j u hu
    have hb : (ad.add j).block = ad.block := by unfold Addr.add; split <;> rfl
    have hlt := dcell_lt hc
    have hh := hg.block (ad.add j).block hlt (by rw [hb]; exact fun e => hne e.symm)
    unfold World.cell? at hc ⊢
    rw [hh]
    exact hc
theorem OR.new0 (w : World) : OR (w.alloc (.cells #[] 61)) w.heap.size (.slice (some ⟨w.heap.size, 0, none⟩) 0 0) [] :=
  ⟨rfl, .inr ⟨w.heap.size, 0, #[], rfl, Nat.le_refl _, heap_alloc_new w _, Nat.le_refl _, Nat.zero_le _, rfl, rfl⟩⟩
theorem step_appendO {ops : Array Oper} {o : Oper} {a : Act} {w : World} {K : Act → World → Prop} {Q : Exit → Act → World → Prop} {E : Prop} (hgd : o.guard = none) (s x : Operand)
    (ho : o.op = .call { callee := .builtin .append, args := #[s, x], argTypes := #[57, 57] })
    (B : Nat) (v : Value) (O : List DO) (hs : a.eval s = v) (hown : OR w B v O) (y : Value) (M : List DO) (hx : a.eval x = y) (hsrc : SrcO w y M) (hlim : O.length + M.length ≤ 1000000) (hB : B ≤ w.heap.size)
    (hK : ∀ A n c w', OR w' B (.slice A n c) (O ++ M) → Below B w w' → w.grownBy w' v.ownBlock → K (a.put o.dst (.slice A n c)) w') :
    if Region.wanted o (yielded ops a.tmps) = true then Oper.wp Try.prog o a w K Q else E := by
  have hw : Region.wanted o (yielded ops a.tmps) = true := by simp [Region.wanted, hgd]
  rw [if_pos hw]
  obtain ⟨i0, hi0, hz0, hz1, hz2⟩ := info_parts infoOpD
  have hrun : ∃ A n c w', (Builtin.append_ #[57, 57] o.type #[v, y]).run Try.prog w = .ok (.slice A n c) w' ∧ OR w' B (.slice A n c) (O ++ M) ∧ Below B w w' ∧ w.grownBy w' v.ownBlock := by
    rcases hsrc with ⟨rfl, rfl⟩ | ⟨ad, c, rfl, hc⟩
    · have hr := run_append_owned_none (P := Try.prog) w B 57 o.type 61 i0 4 Try.underlying57 hi0 v O.length (flatO O) hown
      obtain ⟨A, c, rfl⟩ := OR.shape hown
      exact ⟨A, _, c, w, hr, by rwa [List.append_nil], Below.refl _ _, ⟨rfl, rfl, rfl, Nat.le_refl _, fun _ _ _ => rfl⟩⟩
    · obtain ⟨v', w', h1, h2, h3, _⟩ := run_append_own (P := Try.prog) w B 57 o.type 61 i0 _ 4 48 Try.underlying57 hi0 hz0 hz1 hz2 rfl (by decide) v O.length (flatO O) hown ad M.length c (flatO M) (flatO_len M) hc (flatO_one M) (by unfold maxLen; omega) (by omega) hB
      have h4 : OR w' B v' (O ++ M) := by
        unfold OR
        rw [flatO_app, List.length_append]
        exact h2
      obtain ⟨A, c', rfl⟩ := OR.shape h4
      exact ⟨A, _, c', w', h1, h4, (Below.refl B w).grown h3 hB fun k hk => (World.ownsRow.lt hown k hk).1, h3⟩
  obtain ⟨A, n, c, w', hr, h2, h3, h5⟩ := hrun
  unfold Oper.wp execOp
  simp only [ho, resolve, invoke, builtin, Sem.run_bind, Sem.run_pure, Result.andThen_ok, List.map_toArray, List.map_cons, List.map_nil, hs, hx, hr]
  exact hK A n c w' h2 h3 h5
theorem und {B n : Nat} {x w' : World} (h : Below B (x.drewN n) w') : Below B x w' := ⟨h.os, h.tape, h.output, h.size, h.block⟩
theorem und1 {B : Nat} {x w' : World} (h : Below B x.drew w') : Below B x w' := ⟨h.os, h.tape, h.output, h.size, h.block⟩
theorem DocI.did {w w' : World} {Y : Nat → Prop} {q K : Nat} {vn vs vo : Value} {r : Int} {N S : List DF} {O : List DO} (h : DocI w Y q K vn vs vo r N S O) (ho : Only (fun i => i = q) w w')
    {v2 v3 : Value} {L2 : List DF} {o : DO} {B : Nat} (hB : w.heap.size ≤ B) (hb : DocB w' q v2 vs v3 r) (h2 : FR w' B v2 L2) (h3 : OR w' B v3 (O ++ [o])) (hl : L2.length ≤ N.length + 1) (hbd : ∀ M, Bd M N → Bd (M + o.2.2.1.size) L2) (hs : (0 ≤ o.1 ∧ o.1 ≤ 4) ∧ o.2.2.1.size ≤ 300) : Ran Y q (K + 1) w w' := by
  obtain ⟨M, m1, m2⟩ := h.bs
  have hlN := h.ln
  have hlS := h.ls
  refine ⟨⟨v2, vs, v3, r, L2, S, O ++ [o], hb, ext_old h.y, h2.mono (Nat.zero_le _), h.s.kept fun g hg hl _ hh => ho.block g hl fun e => ?_, h3.mono (Nat.zero_le _), fun g hg => ext_new (Nat.le_trans hB (World.ownsRow.lt h2 g hg).1) (World.ownsRow.lt h2 g hg).2, fun g hg => ext_old (h.ys g hg),
    fun g hg => ext_new (Nat.le_trans hB (World.ownsRow.lt h3 g hg).1) (World.ownsRow.lt h3 g hg).2, h.r0, h.r1, by omega, by rw [List.length_append]; simp only [List.length_cons, List.length_nil]; omega, (hbd _ h.bn).mono (by omega), ⟨M, m1, by rw [List.length_append]; simp only [List.length_cons, List.length_nil]; omega⟩, fun p hp => ?_⟩, ho⟩
  · have h1 := h.blk
    unfold DocB at h1
    rw [e, h1] at hh
    simp at hh
  · rcases List.mem_append.1 hp with h4 | h4
    · exact h.bo p h4
    · rw [List.mem_singleton] at h4
      subst h4
      exact hs
theorem DocI.fin {w W3 w5 : World} {Y : Nat → Prop} {q K : Nat} {vn vs vo : Value} {r : Int} {N S : List DF} {O : List DO} (h : DocI w Y q K vn vs vo r N S O) (ho : Only (fun i => i = q) w W3) {v2 v3 : Value} {L2 : List DF} {o : DO} (hd : DocB W3 q v2 vs vo r) (h2 : FR W3 (w.heap.size + 1) v2 L2) (hb : Below W3.heap.size W3 w5) (h3 : OR w5 (w.heap.size + 1) v3 (O ++ [o]))
    (hs3 : w.heap.size + 1 ≤ W3.heap.size) (hq : q < W3.heap.size) (hl : L2.length ≤ N.length + 1) (hbd : ∀ M, Bd M N → Bd (M + o.2.2.1.size) L2) (hs : (0 ≤ o.1 ∧ o.1 ≤ 4) ∧ o.2.2.1.size ≤ 300) : Ran Y q (K + 1) w (w5.setCell ⟨q, 2, none⟩ v3) := by
  have hq2 : q < w.heap.size := lt_of_block h.blk
  have ho5 : Only (fun i => i = q) w (w5.setCell ⟨q, 2, none⟩ v3) := Only.trans (S' := fun i => i = q) (Only.trans (S' := fun i => i = q) ho (Only.of_below hb) fun i _ h => h) ⟨rfl, rfl, rfl, by rw [World.size_setCell]; exact Nat.le_refl _, fun i hi hq => Below.heap_setCell _ _ _ _ hq⟩ fun i _ h => h
  refine h.did ho5 (B := w.heap.size + 1) (Nat.le_succ _) ((hd.below hb).set2 _) ((h2.below hb).far (show q < _ by omega) _) (row_kept h3 fun g cs hg hh => (Below.heap_setCell _ _ _ _ ?_).trans hh) hl hbd hs
  have := (World.ownsRow.lt h3 g hg).1
  show g ≠ q
  omega
/-- What Do answers. -/
def DoR (Y : Nat → Prop) (q K : Nat) (w : World) (e : Ending) (w' : World) : Prop := (∃ r, e = .returned (.int .i64 r)) ∧ Ran Y q (K + 1) w w'

theorem at_says (w : World) (B : Nat) (v : Value) (L : List DF) (x : ByteArray) (i : Int) (h : FR w B v L) (hi : atI x L = i) : Calls Try.prog 43 #[v, .string x] w fun e w' => e = .returned (.int .i64 i) ∧ w' = w := by
  subst hi
  exact (dat_any5 w B v L x h).mono fun _ _ h => ⟨h.1, h.2.symm⟩
theorem DocB.drewN {w : World} {q : Nat} {vn vs vo : Value} {r : Int} (h : DocB w q vn vs vo r) (n : Nat) : DocB (w.drewN n) q vn vs vo r := h
theorem left_says (w : World) (q : Nat) (vn vs vo : Value) (r : Int) (N : List DF) (h : DocB w q vn vs vo r) (hN : FR w 0 vn N) (hl : N.length ≤ 100000) (hbd : Bd 1000000 N) (hr : 0 ≤ r ∧ r ≤ 16777216) : Calls Try.prog 44 #[.pointer (some ⟨q, 0, none⟩)] w fun e w' => e = .returned (.int .i64 (leftZ r N)) ∧ w' = w :=
  dleft_any _ q vn vs vo r N h hN hl hbd hr.1 hr.2

set_option maxHeartbeats 4000000 in
set_option maxRecDepth 100000 in
theorem do_A (w : World) (Y : Nat → Prop) (q K : Nat) (vn vs vo : Value) (r : Int) (N S : List DF) (O : List DO) (nm s : ByteArray) (n : Int) (h : DocI w Y q K vn vs vo r N S O) (hK : K ≤ 300) (hs : s.size ≤ 300) (t : Int) (hfit : fitB nm = false) :
    Calls Try.prog 21 #[.pointer (some ⟨q, 0, none⟩), .agg #[.int .i64 t, .string nm, .string s, .int .i64 n]] w (DoR Y q K w) := by
  have hz : (w.alloc (.cells #[.int .i64 t, .string nm, .string s, .int .i64 n] 61)).heap.size = w.heap.size + 1 := by simp
  have hb0 : Below w.heap.size w (w.alloc (.cells #[.int .i64 t, .string nm, .string s, .int .i64 n] 61)) := (Below.refl _ w).alloc (Nat.le_refl _) _
  have ho0 : OpB (w.alloc (.cells #[.int .i64 t, .string nm, .string s, .int .i64 n] 61)) w.heap.size t nm s n := heap_alloc_new w _
  obtain ⟨b0, b1, b2, b3⟩ := ho0.cells
  obtain ⟨c0, c1, c2, c3⟩ := (h.blk.below hb0).cells
  have hn0 := h.n.below hb0
  have hlN := h.ln
  have hbN : Bd 1000000 N := h.bn.mono (by omega)
  have hqn : q ≠ w.heap.size := Nat.ne_of_lt (lt_of_block h.blk)
  have HH := Lib.hid h
  have HB0 := Lib.hid hb0
  have HO0 := Lib.hid ho0
  have HN0 := Lib.hid hn0
  have HBN := Lib.hid hbN
  clear h hb0 ho0 hz hn0 hbN
  go_enter Try.func21, Try.ntmps21
  go_wp2_with (first | (go_at_call 42; ((with_reducible refine (fits_any5 _ nm).mono ?_); rintro e w' ⟨rfl, rfl⟩; rw [hfit])))
  go_ret
  exact ⟨⟨_, rfl⟩, Ran.same ⟨_, _, _, _, _, _, _, HH.out⟩ HB0.out⟩

set_option maxHeartbeats 4000000 in
set_option maxRecDepth 100000 in
theorem do_B3 (w : World) (Y : Nat → Prop) (q K : Nat) (vn vs vo : Value) (r : Int) (N S : List DF) (O : List DO) (nm s : ByteArray) (n : Int) (h : DocI w Y q K vn vs vo r N S O) (hK : K ≤ 300) (hs : s.size ≤ 300) (hfit : fitB nm = true) (hfit2 : fitB s = false) :
    Calls Try.prog 21 #[.pointer (some ⟨q, 0, none⟩), .agg #[.int .i64 3, .string nm, .string s, .int .i64 n]] w (DoR Y q K w) := by
  have hz : (w.alloc (.cells #[.int .i64 3, .string nm, .string s, .int .i64 n] 61)).heap.size = w.heap.size + 1 := by simp
  have hb0 : Below w.heap.size w (w.alloc (.cells #[.int .i64 3, .string nm, .string s, .int .i64 n] 61)) := (Below.refl _ w).alloc (Nat.le_refl _) _
  have ho0 : OpB (w.alloc (.cells #[.int .i64 3, .string nm, .string s, .int .i64 n] 61)) w.heap.size 3 nm s n := heap_alloc_new w _
  obtain ⟨b0, b1, b2, b3⟩ := ho0.cells
  obtain ⟨c0, c1, c2, c3⟩ := (h.blk.below hb0).cells
  have hn0 := h.n.below hb0
  have hlN := h.ln
  have hbN : Bd 1000000 N := h.bn.mono (by omega)
  have hqn : q ≠ w.heap.size := Nat.ne_of_lt (lt_of_block h.blk)
  have HH := Lib.hid h
  have HB0 := Lib.hid hb0
  have HO0 := Lib.hid ho0
  have HN0 := Lib.hid hn0
  have HBN := Lib.hid hbN
  clear h hb0 ho0 hz hn0 hbN
  go_enter Try.func21, Try.ntmps21
  go_wp2_with (first | (go_at_call 42; ((with_reducible refine (fits_any5 _ nm).mono ?_); rintro e w' ⟨rfl, rfl⟩; rw [hfit])) | (go_at_call 42; ((with_reducible refine (fits_any5 _ s).mono ?_); rintro e w' ⟨rfl, rfl⟩; rw [hfit2])))
  go_ret
  exact ⟨⟨_, rfl⟩, Ran.same ⟨_, _, _, _, _, _, _, HH.out⟩ HB0.out⟩

set_option maxHeartbeats 4000000 in
set_option maxRecDepth 100000 in
theorem do_B2 (w : World) (Y : Nat → Prop) (q K : Nat) (vn vs vo : Value) (r : Int) (N S : List DF) (O : List DO) (nm s : ByteArray) (n : Int) (h : DocI w Y q K vn vs vo r N S O) (hK : K ≤ 300) (hs : s.size ≤ 300) (hfit : fitB nm = true) (hneg : n < 0) :
    Calls Try.prog 21 #[.pointer (some ⟨q, 0, none⟩), .agg #[.int .i64 2, .string nm, .string s, .int .i64 n]] w (DoR Y q K w) := by
  have hz : (w.alloc (.cells #[.int .i64 2, .string nm, .string s, .int .i64 n] 61)).heap.size = w.heap.size + 1 := by simp
  have hb0 : Below w.heap.size w (w.alloc (.cells #[.int .i64 2, .string nm, .string s, .int .i64 n] 61)) := (Below.refl _ w).alloc (Nat.le_refl _) _
  have ho0 : OpB (w.alloc (.cells #[.int .i64 2, .string nm, .string s, .int .i64 n] 61)) w.heap.size 2 nm s n := heap_alloc_new w _
  obtain ⟨b0, b1, b2, b3⟩ := ho0.cells
  obtain ⟨c0, c1, c2, c3⟩ := (h.blk.below hb0).cells
  have hn0 := h.n.below hb0
  have hlN := h.ln
  have hbN : Bd 1000000 N := h.bn.mono (by omega)
  have hqn : q ≠ w.heap.size := Nat.ne_of_lt (lt_of_block h.blk)
  have HH := Lib.hid h
  have HB0 := Lib.hid hb0
  have HO0 := Lib.hid ho0
  have HN0 := Lib.hid hn0
  have HBN := Lib.hid hbN
  clear h hb0 ho0 hz hn0 hbN
  go_enter Try.func21, Try.ntmps21
  go_wp2_with (first | (go_at_call 42; ((with_reducible refine (fits_any5 _ nm).mono ?_); rintro e w' ⟨rfl, rfl⟩; rw [hfit])))
  go_ret
  exact ⟨⟨_, rfl⟩, Ran.same ⟨_, _, _, _, _, _, _, HH.out⟩ HB0.out⟩

set_option maxHeartbeats 4000000 in
set_option maxRecDepth 100000 in
theorem do_0k (w : World) (Y : Nat → Prop) (q K : Nat) (vn vs vo : Value) (r : Int) (N S : List DF) (O : List DO) (nm s : ByteArray) (n : Int) (h : DocI w Y q K vn vs vo r N S O) (hK : K ≤ 300) (hs : s.size ≤ 300) (hfit : fitB nm = true) (k : Nat) (hat : atI nm N = (k : Int)) (hk : k < N.length) :
    Calls Try.prog 21 #[.pointer (some ⟨q, 0, none⟩), .agg #[.int .i64 0, .string nm, .string s, .int .i64 n]] w (DoR Y q K w) := by
  have hz : (w.alloc (.cells #[.int .i64 0, .string nm, .string s, .int .i64 n] 61)).heap.size = w.heap.size + 1 := by simp
  have hb0 : Below w.heap.size w (w.alloc (.cells #[.int .i64 0, .string nm, .string s, .int .i64 n] 61)) := (Below.refl _ w).alloc (Nat.le_refl _) _
  have ho0 : OpB (w.alloc (.cells #[.int .i64 0, .string nm, .string s, .int .i64 n] 61)) w.heap.size 0 nm s n := heap_alloc_new w _
  obtain ⟨b0, b1, b2, b3⟩ := ho0.cells
  obtain ⟨c0, c1, c2, c3⟩ := (h.blk.below hb0).cells
  have hn0 := h.n.below hb0
  have hlN := h.ln
  have hbN : Bd 1000000 N := h.bn.mono (by omega)
  obtain ⟨g, c, rfl, _, hgc, hgm⟩ := hn0.form2 hk
  unfold maxLen at hgm
  have hI0 : (0 : Int) ≤ (k : Int) := by omega
  have hI1 : (k : Int) < (N.length : Int) := by omega
  have hqn : q ≠ w.heap.size := Nat.ne_of_lt (lt_of_block h.blk)
  have HH := Lib.hid h
  have HB0 := Lib.hid hb0
  have HO0 := Lib.hid ho0
  have HN0 := Lib.hid hn0
  have HBN := Lib.hid hbN
  have HAT := Lib.hid hat
  clear hat
  clear h hb0 ho0 hz hn0 hbN
  go_enter Try.func21, Try.ntmps21
  go_wp2_with (first | (go_at_call 42; ((with_reducible refine (fits_any5 _ nm).mono ?_); rintro e w' ⟨rfl, rfl⟩; rw [hfit])))
  go_quiet ((go_at_call 43; exact Calls.quiet_of_same (at_says _ 0 _ N nm _ (HN0.out.drewN _) HAT.out)))
  go_wp2_with fail
  go_ret
  exact ⟨⟨_, rfl⟩, Ran.same ⟨_, _, _, _, _, _, _, HH.out⟩ ⟨HB0.out.os, HB0.out.tape, HB0.out.output, HB0.out.size, HB0.out.block⟩⟩

set_option maxHeartbeats 4000000 in
set_option maxRecDepth 100000 in
theorem do_0f (w : World) (Y : Nat → Prop) (q K : Nat) (vn vs vo : Value) (r : Int) (N S : List DF) (O : List DO) (nm s : ByteArray) (n : Int) (h : DocI w Y q K vn vs vo r N S O) (hK : K ≤ 300) (hs : s.size ≤ 300) (hfit : fitB nm = true) (hat : atI nm N = -1) (hful : 16 ≤ (N.length : Int)) :
    Calls Try.prog 21 #[.pointer (some ⟨q, 0, none⟩), .agg #[.int .i64 0, .string nm, .string s, .int .i64 n]] w (DoR Y q K w) := by
  have hz : (w.alloc (.cells #[.int .i64 0, .string nm, .string s, .int .i64 n] 61)).heap.size = w.heap.size + 1 := by simp
  have hb0 : Below w.heap.size w (w.alloc (.cells #[.int .i64 0, .string nm, .string s, .int .i64 n] 61)) := (Below.refl _ w).alloc (Nat.le_refl _) _
  have ho0 : OpB (w.alloc (.cells #[.int .i64 0, .string nm, .string s, .int .i64 n] 61)) w.heap.size 0 nm s n := heap_alloc_new w _
  obtain ⟨b0, b1, b2, b3⟩ := ho0.cells
  obtain ⟨c0, c1, c2, c3⟩ := (h.blk.below hb0).cells
  have hn0 := h.n.below hb0
  have hlN := h.ln
  have hbN : Bd 1000000 N := h.bn.mono (by omega)
  obtain ⟨A0, c0', rfl⟩ := own_form hn0
  have hqn : q ≠ w.heap.size := Nat.ne_of_lt (lt_of_block h.blk)
  have HH := Lib.hid h
  have HB0 := Lib.hid hb0
  have HO0 := Lib.hid ho0
  have HN0 := Lib.hid hn0
  have HBN := Lib.hid hbN
  have HAT := Lib.hid hat
  clear hat
  clear h hb0 ho0 hz hn0 hbN
  go_enter Try.func21, Try.ntmps21
  go_wp2_with (first | (go_at_call 42; ((with_reducible refine (fits_any5 _ nm).mono ?_); rintro e w' ⟨rfl, rfl⟩; rw [hfit])))
  go_quiet ((go_at_call 43; exact Calls.quiet_of_same (at_says _ 0 _ N nm _ (HN0.out.drewN _) HAT.out)))
  go_wp2_with fail
  go_ret
  exact ⟨⟨_, rfl⟩, Ran.same ⟨_, _, _, _, _, _, _, HH.out⟩ ⟨HB0.out.os, HB0.out.tape, HB0.out.output, HB0.out.size, HB0.out.block⟩⟩

set_option maxHeartbeats 4000000 in
set_option maxRecDepth 100000 in
theorem do_1n (w : World) (Y : Nat → Prop) (q K : Nat) (vn vs vo : Value) (r : Int) (N S : List DF) (O : List DO) (nm s : ByteArray) (n : Int) (h : DocI w Y q K vn vs vo r N S O) (hK : K ≤ 300) (hs : s.size ≤ 300) (hfit : fitB nm = true) (hat : atI nm N = -1) :
    Calls Try.prog 21 #[.pointer (some ⟨q, 0, none⟩), .agg #[.int .i64 1, .string nm, .string s, .int .i64 n]] w (DoR Y q K w) := by
  have hz : (w.alloc (.cells #[.int .i64 1, .string nm, .string s, .int .i64 n] 61)).heap.size = w.heap.size + 1 := by simp
  have hb0 : Below w.heap.size w (w.alloc (.cells #[.int .i64 1, .string nm, .string s, .int .i64 n] 61)) := (Below.refl _ w).alloc (Nat.le_refl _) _
  have ho0 : OpB (w.alloc (.cells #[.int .i64 1, .string nm, .string s, .int .i64 n] 61)) w.heap.size 1 nm s n := heap_alloc_new w _
  obtain ⟨b0, b1, b2, b3⟩ := ho0.cells
  obtain ⟨c0, c1, c2, c3⟩ := (h.blk.below hb0).cells
  have hn0 := h.n.below hb0
  have hlN := h.ln
  have hbN : Bd 1000000 N := h.bn.mono (by omega)
  obtain ⟨A0, c0', rfl⟩ := own_form hn0
  have hqn : q ≠ w.heap.size := Nat.ne_of_lt (lt_of_block h.blk)
  have HH := Lib.hid h
  have HB0 := Lib.hid hb0
  have HO0 := Lib.hid ho0
  have HN0 := Lib.hid hn0
  have HBN := Lib.hid hbN
  have HAT := Lib.hid hat
  clear hat
  clear h hb0 ho0 hz hn0 hbN
  go_enter Try.func21, Try.ntmps21
  go_wp2_with (first | (go_at_call 42; ((with_reducible refine (fits_any5 _ nm).mono ?_); rintro e w' ⟨rfl, rfl⟩; rw [hfit])))
  go_quiet ((go_at_call 43; exact Calls.quiet_of_same (at_says _ 0 _ N nm _ (HN0.out.drewN _) HAT.out)))
  go_wp2_with fail
  go_ret
  exact ⟨⟨_, rfl⟩, Ran.same ⟨_, _, _, _, _, _, _, HH.out⟩ ⟨HB0.out.os, HB0.out.tape, HB0.out.output, HB0.out.size, HB0.out.block⟩⟩

set_option maxHeartbeats 4000000 in
set_option maxRecDepth 100000 in
theorem do_2n (w : World) (Y : Nat → Prop) (q K : Nat) (vn vs vo : Value) (r : Int) (N S : List DF) (O : List DO) (nm s : ByteArray) (n : Int) (h : DocI w Y q K vn vs vo r N S O) (hK : K ≤ 300) (hs : s.size ≤ 300) (hfit : fitB nm = true) (hneg : ¬ n < 0) (hat : atI nm N = -1) :
    Calls Try.prog 21 #[.pointer (some ⟨q, 0, none⟩), .agg #[.int .i64 2, .string nm, .string s, .int .i64 n]] w (DoR Y q K w) := by
  have hz : (w.alloc (.cells #[.int .i64 2, .string nm, .string s, .int .i64 n] 61)).heap.size = w.heap.size + 1 := by simp
  have hb0 : Below w.heap.size w (w.alloc (.cells #[.int .i64 2, .string nm, .string s, .int .i64 n] 61)) := (Below.refl _ w).alloc (Nat.le_refl _) _
  have ho0 : OpB (w.alloc (.cells #[.int .i64 2, .string nm, .string s, .int .i64 n] 61)) w.heap.size 2 nm s n := heap_alloc_new w _
  obtain ⟨b0, b1, b2, b3⟩ := ho0.cells
  obtain ⟨c0, c1, c2, c3⟩ := (h.blk.below hb0).cells
  have hn0 := h.n.below hb0
  have hlN := h.ln
  have hbN : Bd 1000000 N := h.bn.mono (by omega)
  obtain ⟨A0, c0', rfl⟩ := own_form hn0
  have hqn : q ≠ w.heap.size := Nat.ne_of_lt (lt_of_block h.blk)
  have HH := Lib.hid h
  have HB0 := Lib.hid hb0
  have HO0 := Lib.hid ho0
  have HN0 := Lib.hid hn0
  have HBN := Lib.hid hbN
  have HAT := Lib.hid hat
  clear hat
  clear h hb0 ho0 hz hn0 hbN
  go_enter Try.func21, Try.ntmps21
  go_wp2_with (first | (go_at_call 42; ((with_reducible refine (fits_any5 _ nm).mono ?_); rintro e w' ⟨rfl, rfl⟩; rw [hfit])))
  go_quiet ((go_at_call 43; exact Calls.quiet_of_same (at_says _ 0 _ N nm _ (HN0.out.drewN _) HAT.out)))
  go_wp2_with fail
  go_ret
  exact ⟨⟨_, rfl⟩, Ran.same ⟨_, _, _, _, _, _, _, HH.out⟩ ⟨HB0.out.os, HB0.out.tape, HB0.out.output, HB0.out.size, HB0.out.block⟩⟩

set_option maxHeartbeats 4000000 in
set_option maxRecDepth 100000 in
theorem do_3n (w : World) (Y : Nat → Prop) (q K : Nat) (vn vs vo : Value) (r : Int) (N S : List DF) (O : List DO) (nm s : ByteArray) (n : Int) (h : DocI w Y q K vn vs vo r N S O) (hK : K ≤ 300) (hs : s.size ≤ 300) (hfit : fitB nm = true) (hfit2 : fitB s = true) (hat : atI nm N = -1) :
    Calls Try.prog 21 #[.pointer (some ⟨q, 0, none⟩), .agg #[.int .i64 3, .string nm, .string s, .int .i64 n]] w (DoR Y q K w) := by
  have hz : (w.alloc (.cells #[.int .i64 3, .string nm, .string s, .int .i64 n] 61)).heap.size = w.heap.size + 1 := by simp
  have hb0 : Below w.heap.size w (w.alloc (.cells #[.int .i64 3, .string nm, .string s, .int .i64 n] 61)) := (Below.refl _ w).alloc (Nat.le_refl _) _
  have ho0 : OpB (w.alloc (.cells #[.int .i64 3, .string nm, .string s, .int .i64 n] 61)) w.heap.size 3 nm s n := heap_alloc_new w _
  obtain ⟨b0, b1, b2, b3⟩ := ho0.cells
  obtain ⟨c0, c1, c2, c3⟩ := (h.blk.below hb0).cells
  have hn0 := h.n.below hb0
  have hlN := h.ln
  have hbN : Bd 1000000 N := h.bn.mono (by omega)
  obtain ⟨A0, c0', rfl⟩ := own_form hn0
  have hqn : q ≠ w.heap.size := Nat.ne_of_lt (lt_of_block h.blk)
  have HH := Lib.hid h
  have HB0 := Lib.hid hb0
  have HO0 := Lib.hid ho0
  have HN0 := Lib.hid hn0
  have HBN := Lib.hid hbN
  have HAT := Lib.hid hat
  clear hat
  clear h hb0 ho0 hz hn0 hbN
  go_enter Try.func21, Try.ntmps21
  go_wp2_with (first | (go_at_call 42; ((with_reducible refine (fits_any5 _ nm).mono ?_); rintro e w' ⟨rfl, rfl⟩; rw [hfit])) | (go_at_call 42; ((with_reducible refine (fits_any5 _ s).mono ?_); rintro e w' ⟨rfl, rfl⟩; rw [hfit2])))
  go_quiet ((go_at_call 43; exact Calls.quiet_of_same (at_says _ 0 _ N nm _ (HN0.out.drewN _) HAT.out)))
  go_wp2_with fail
  go_ret
  exact ⟨⟨_, rfl⟩, Ran.same ⟨_, _, _, _, _, _, _, HH.out⟩ ⟨HB0.out.os, HB0.out.tape, HB0.out.output, HB0.out.size, HB0.out.block⟩⟩

set_option maxHeartbeats 4000000 in
set_option maxRecDepth 100000 in
theorem do_4n (w : World) (Y : Nat → Prop) (q K : Nat) (vn vs vo : Value) (r : Int) (N S : List DF) (O : List DO) (nm s : ByteArray) (n : Int) (h : DocI w Y q K vn vs vo r N S O) (hK : K ≤ 300) (hs : s.size ≤ 300) (hfit : fitB nm = true) (hat : atI nm N = -1) :
    Calls Try.prog 21 #[.pointer (some ⟨q, 0, none⟩), .agg #[.int .i64 4, .string nm, .string s, .int .i64 n]] w (DoR Y q K w) := by
  have hz : (w.alloc (.cells #[.int .i64 4, .string nm, .string s, .int .i64 n] 61)).heap.size = w.heap.size + 1 := by simp
  have hb0 : Below w.heap.size w (w.alloc (.cells #[.int .i64 4, .string nm, .string s, .int .i64 n] 61)) := (Below.refl _ w).alloc (Nat.le_refl _) _
  have ho0 : OpB (w.alloc (.cells #[.int .i64 4, .string nm, .string s, .int .i64 n] 61)) w.heap.size 4 nm s n := heap_alloc_new w _
  obtain ⟨b0, b1, b2, b3⟩ := ho0.cells
  obtain ⟨c0, c1, c2, c3⟩ := (h.blk.below hb0).cells
  have hn0 := h.n.below hb0
  have hlN := h.ln
  have hbN : Bd 1000000 N := h.bn.mono (by omega)
  obtain ⟨A0, c0', rfl⟩ := own_form hn0
  have hqn : q ≠ w.heap.size := Nat.ne_of_lt (lt_of_block h.blk)
  have HH := Lib.hid h
  have HB0 := Lib.hid hb0
  have HO0 := Lib.hid ho0
  have HN0 := Lib.hid hn0
  have HBN := Lib.hid hbN
  have HAT := Lib.hid hat
  clear hat
  clear h hb0 ho0 hz hn0 hbN
  go_enter Try.func21, Try.ntmps21
  go_wp2_with (first | (go_at_call 42; ((with_reducible refine (fits_any5 _ nm).mono ?_); rintro e w' ⟨rfl, rfl⟩; rw [hfit])))
  go_quiet ((go_at_call 43; exact Calls.quiet_of_same (at_says _ 0 _ N nm _ (HN0.out.drewN _) HAT.out)))
  go_wp2_with fail
  go_ret
  exact ⟨⟨_, rfl⟩, Ran.same ⟨_, _, _, _, _, _, _, HH.out⟩ ⟨HB0.out.os, HB0.out.tape, HB0.out.output, HB0.out.size, HB0.out.block⟩⟩

set_option maxHeartbeats 4000000 in
set_option maxRecDepth 100000 in
theorem do_2x (w : World) (Y : Nat → Prop) (q K : Nat) (vn vs vo : Value) (r : Int) (N S : List DF) (O : List DO) (nm s : ByteArray) (n : Int) (h : DocI w Y q K vn vs vo r N S O) (hK : K ≤ 300) (hs : s.size ≤ 300) (hfit : fitB nm = true) (hneg : ¬ n < 0) (k : Nat) (hat : atI nm N = (k : Int)) (hk : k < N.length) (f : DF) (hf : N[k]? = some f) (hx : (f.2.1.size : Int) < n) :
    Calls Try.prog 21 #[.pointer (some ⟨q, 0, none⟩), .agg #[.int .i64 2, .string nm, .string s, .int .i64 n]] w (DoR Y q K w) := by
  have hz : (w.alloc (.cells #[.int .i64 2, .string nm, .string s, .int .i64 n] 61)).heap.size = w.heap.size + 1 := by simp
  have hb0 : Below w.heap.size w (w.alloc (.cells #[.int .i64 2, .string nm, .string s, .int .i64 n] 61)) := (Below.refl _ w).alloc (Nat.le_refl _) _
  have ho0 : OpB (w.alloc (.cells #[.int .i64 2, .string nm, .string s, .int .i64 n] 61)) w.heap.size 2 nm s n := heap_alloc_new w _
  obtain ⟨b0, b1, b2, b3⟩ := ho0.cells
  obtain ⟨c0, c1, c2, c3⟩ := (h.blk.below hb0).cells
  have hn0 := h.n.below hb0
  have hlN := h.ln
  have hbN : Bd 1000000 N := h.bn.mono (by omega)
  obtain ⟨g, c, rfl, _, hgc, hgm⟩ := hn0.form2 hk
  unfold maxLen at hgm
  have hI0 : (0 : Int) ≤ (k : Int) := by omega
  have hI1 : (k : Int) < (N.length : Int) := by omega
  have hqn : q ≠ w.heap.size := Nat.ne_of_lt (lt_of_block h.blk)
  have HH := Lib.hid h
  have HB0 := Lib.hid hb0
  have HO0 := Lib.hid ho0
  have HN0 := Lib.hid hn0
  have HBN := Lib.hid hbN
  have HAT := Lib.hid hat
  clear hat
  obtain ⟨m1, m2, m3⟩ := hn0.cells hf
  obtain ⟨x, y, u⟩ := f
  simp only at hx m1 m2 m3
  clear hf
  clear h hb0 ho0 hz hn0 hbN
  go_enter Try.func21, Try.ntmps21
  go_wp2_with (first | (go_at_call 42; ((with_reducible refine (fits_any5 _ nm).mono ?_); rintro e w' ⟨rfl, rfl⟩; rw [hfit])))
  go_quiet ((go_at_call 43; exact Calls.quiet_of_same (at_says _ 0 _ N nm _ (HN0.out.drewN _) HAT.out)))
  go_wp2_with fail
  go_quiet (fail)
  go_wp2_with fail
  go_ret
  exact ⟨⟨_, rfl⟩, Ran.same ⟨_, _, _, _, _, _, _, HH.out⟩ ⟨HB0.out.os, HB0.out.tape, HB0.out.output, HB0.out.size, HB0.out.block⟩⟩

set_option maxHeartbeats 4000000 in
set_option maxRecDepth 100000 in
theorem do_1x (w : World) (Y : Nat → Prop) (q K : Nat) (vn vs vo : Value) (r : Int) (N S : List DF) (O : List DO) (nm s : ByteArray) (n : Int) (h : DocI w Y q K vn vs vo r N S O) (hK : K ≤ 300) (hs : s.size ≤ 300) (hfit : fitB nm = true) (k : Nat) (hat : atI nm N = (k : Int)) (hk : k < N.length) (hx : leftZ r N < (s.size : Int)) :
    Calls Try.prog 21 #[.pointer (some ⟨q, 0, none⟩), .agg #[.int .i64 1, .string nm, .string s, .int .i64 n]] w (DoR Y q K w) := by
  have hz : (w.alloc (.cells #[.int .i64 1, .string nm, .string s, .int .i64 n] 61)).heap.size = w.heap.size + 1 := by simp
  have hb0 : Below w.heap.size w (w.alloc (.cells #[.int .i64 1, .string nm, .string s, .int .i64 n] 61)) := (Below.refl _ w).alloc (Nat.le_refl _) _
  have ho0 : OpB (w.alloc (.cells #[.int .i64 1, .string nm, .string s, .int .i64 n] 61)) w.heap.size 1 nm s n := heap_alloc_new w _
  obtain ⟨b0, b1, b2, b3⟩ := ho0.cells
  obtain ⟨c0, c1, c2, c3⟩ := (h.blk.below hb0).cells
  have hn0 := h.n.below hb0
  have hlN := h.ln
  have hbN : Bd 1000000 N := h.bn.mono (by omega)
  obtain ⟨g, c, rfl, _, hgc, hgm⟩ := hn0.form2 hk
  unfold maxLen at hgm
  have hI0 : (0 : Int) ≤ (k : Int) := by omega
  have hI1 : (k : Int) < (N.length : Int) := by omega
  have hqn : q ≠ w.heap.size := Nat.ne_of_lt (lt_of_block h.blk)
  have HH := Lib.hid h
  have HB0 := Lib.hid hb0
  have HO0 := Lib.hid ho0
  have HN0 := Lib.hid hn0
  have HBN := Lib.hid hbN
  have HAT := Lib.hid hat
  clear hat
  have HDB := Lib.hid (h.blk.below hb0)
  have HR := Lib.hid (And.intro h.r0 h.r1)
  clear h hb0 ho0 hz hn0 hbN
  go_enter Try.func21, Try.ntmps21
  go_wp2_with (first | (go_at_call 42; ((with_reducible refine (fits_any5 _ nm).mono ?_); rintro e w' ⟨rfl, rfl⟩; rw [hfit])))
  go_quiet ((go_at_call 43; exact Calls.quiet_of_same (at_says _ 0 _ N nm _ (HN0.out.drewN _) HAT.out)))
  go_wp2_with fail
  generalize hW : World.drewN (w.alloc (.cells #[.int .i64 1, .string nm, .string s, .int .i64 n] 61)) nq = W1
  have W1s0 : W1.cell? ⟨w.heap.size, 0, none⟩ = some (.int .i64 1) := by rw [← hW]; exact b0
  have W1s1 : W1.cell? ⟨w.heap.size, 1, none⟩ = some (.string nm) := by rw [← hW]; exact b1
  have W1s2 : W1.cell? ⟨w.heap.size, 2, none⟩ = some (.string s) := by rw [← hW]; exact b2
  have W1s3 : W1.cell? ⟨w.heap.size, 3, none⟩ = some (.int .i64 n) := by rw [← hW]; exact b3
  have W1c0 : W1.cell? ⟨q, 0, none⟩ = some (.slice (some ⟨g, 0, none⟩) N.length c) := by rw [← hW]; exact c0
  have W1c1 : W1.cell? ⟨q, 1, none⟩ = some vs := by rw [← hW]; exact c1
  have W1c2 : W1.cell? ⟨q, 2, none⟩ = some vo := by rw [← hW]; exact c2
  have W1c3 : W1.cell? ⟨q, 3, none⟩ = some (.int .i64 r) := by rw [← hW]; exact c3
  have HDB1 : Hid (DocB W1 q (.slice (some ⟨g, 0, none⟩) N.length c) vs vo r) := by show DocB _ _ _ _ _ _; rw [← hW]; exact HDB.out
  have HN1 : Hid (FR W1 0 (.slice (some ⟨g, 0, none⟩) N.length c) N) := by show FR _ _ _ _; rw [← hW]; exact HN0.out
  have HW1 := Lib.hid hW
  clear hW
  go_quiet (fail)
  go_wp2_with fail
  generalize hW : W1.drewN nq = W2
  have W2s0 : W2.cell? ⟨w.heap.size, 0, none⟩ = some (.int .i64 1) := by rw [← hW]; exact W1s0
  have W2s1 : W2.cell? ⟨w.heap.size, 1, none⟩ = some (.string nm) := by rw [← hW]; exact W1s1
  have W2s2 : W2.cell? ⟨w.heap.size, 2, none⟩ = some (.string s) := by rw [← hW]; exact W1s2
  have W2s3 : W2.cell? ⟨w.heap.size, 3, none⟩ = some (.int .i64 n) := by rw [← hW]; exact W1s3
  have W2c0 : W2.cell? ⟨q, 0, none⟩ = some (.slice (some ⟨g, 0, none⟩) N.length c) := by rw [← hW]; exact W1c0
  have W2c1 : W2.cell? ⟨q, 1, none⟩ = some vs := by rw [← hW]; exact W1c1
  have W2c2 : W2.cell? ⟨q, 2, none⟩ = some vo := by rw [← hW]; exact W1c2
  have W2c3 : W2.cell? ⟨q, 3, none⟩ = some (.int .i64 r) := by rw [← hW]; exact W1c3
  have HDB2 : Hid (DocB W2 q (.slice (some ⟨g, 0, none⟩) N.length c) vs vo r) := by show DocB _ _ _ _ _ _; rw [← hW]; exact HDB1.out
  have HN2 : Hid (FR W2 0 (.slice (some ⟨g, 0, none⟩) N.length c) N) := by show FR _ _ _ _; rw [← hW]; exact HN1.out
  have HW2 := Lib.hid hW
  clear hW
  go_quiet ((go_at_call 44; exact Calls.quiet_of_same (left_says _ q _ _ _ _ N (HDB2.out.drewN _) (HN2.out.drewN _) (by omega) HBN.out HR.out)))
  go_wp2_with fail
  clear W1s0 W1s1 W1s2 W1s3 W1c0 W1c1 W1c2 W1c3 W2s0 W2s1 W2s2 W2s3 W2c0 W2c1 W2c2 W2c3 HDB1 HDB2 HN1 HN2
  have hW2 := HW2.out
  have hW1 := HW1.out
  clear HW1 HW2
  subst hW2
  subst hW1
  go_ret
  exact ⟨⟨_, rfl⟩, Ran.same ⟨_, _, _, _, _, _, _, HH.out⟩ ⟨HB0.out.os, HB0.out.tape, HB0.out.output, HB0.out.size, HB0.out.block⟩⟩
end Go.Proofs.Ytdfiofjnijnodaa.gn
