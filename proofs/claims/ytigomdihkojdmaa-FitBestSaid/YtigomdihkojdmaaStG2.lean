/- change, with the closure of Give. -/
import Derived.Test.YtigomdihkojdmaaStK
namespace Go.Proofs.Ytigomdihkojdmaa.gn
open Go.RowKit Go.Shelf
open Go.Proofs.Ytigomdihkojdmaa.sp
attribute [local go_sem ↓] Go.wp_at_zero Go.wp_at_succ
attribute [local go_sem] Oper.semAt_some

set_option maxRecDepth 100000 in
set_option maxHeartbeats 4000000 in
theorem change_give (v : Value) (L : List (Int × Int)) (lo hi d : Int) (nb : Nat) (w : World) (hP : Prof w v (L.map Prod.fst) (L.map Prod.snd)) (hL : Ok L) (hlo : Q lo) (hhi : Q hi) (hd : Q d) (hnb : w.cell? ⟨nb, 0, none⟩ = some (.int .i64 d)) :
    Calls Try.prog 27 #[v, .agg #[.int .i64 lo, .int .i64 hi], .func (.func 28) #[] #[.pointer (some ⟨nb, 0, none⟩)]] w (Turns L lo hi d w) := by
  have HC := Lib.hid fun (W : World) (hW : Below w.heap.size w W) => cut_any (t := lo) (hP.below hW (Nat.le_refl _)) hL.rise hL.zero (fun p hp => (hL.quant p hp).1.1) (by have := hL.le; omega) hlo.1
  have HL := Lib.hid hL
  obtain ⟨a1, c1, a2, c2, rfl⟩ := hP.form
  clear hP
  generalize (L.map Prod.fst).length = n1 at *
  generalize (L.map Prod.snd).length = n2 at *
  refine (callsIn_wide (n := 6)).1 ?_
  refine callsIn_of_wp_marks Try.func27 rfl trivial ?_ rfl
  simp only [Try.ntmps27, List.size_toArray, List.length_cons, List.length_nil, Nat.reduceAdd, Nat.reduceSub, Array.replicate_succ, Array.replicate_zero, List.push_toArray, List.append_toArray, List.nil_append, List.cons_append]
  gi_wp2
  obtain ⟨W0, hW0⟩ : ∃ W0, ((((w.alloc (.cells #[.slice a1 n1 c1, .slice a2 n2 c2] 24)).alloc (.cells #[.int .i64 lo, .int .i64 hi] 73)).alloc (.cells #[.func (.func 28) #[] #[.pointer (some ⟨nb, 0, none⟩)]] 74)).alloc (.cells #[.slice none 0 0, .slice none 0 0] 24)).alloc (.cells #[.int .i64 0] 35) = W0 := ⟨_, rfl⟩
  have bS := ((((Box2.new w 24 (.slice a1 n1 c1) (.slice a2 n2 c2)).alloc (.cells #[.int .i64 lo, .int .i64 hi] 73)).alloc (.cells #[.func (.func 28) #[] #[.pointer (some ⟨nb, 0, none⟩)]] 74)).alloc (.cells #[.slice none 0 0, .slice none 0 0] 24)).alloc (.cells #[.int .i64 0] 35)
  have bI := (((Box2.new (w.alloc (.cells #[.slice a1 n1 c1, .slice a2 n2 c2] 24)) 73 (.int .i64 lo) (.int .i64 hi)).alloc (.cells #[.func (.func 28) #[] #[.pointer (some ⟨nb, 0, none⟩)]] 74)).alloc (.cells #[.slice none 0 0, .slice none 0 0] 24)).alloc (.cells #[.int .i64 0] 35)
  have bF := ((Boxed.new ((w.alloc (.cells #[.slice a1 n1 c1, .slice a2 n2 c2] 24)).alloc (.cells #[.int .i64 lo, .int .i64 hi] 73)) 74 (.func (.func 28) #[] #[.pointer (some ⟨nb, 0, none⟩)])).alloc (.cells #[.slice none 0 0, .slice none 0 0] 24)).alloc (.cells #[.int .i64 0] 35)
  have bR := (Box2.new (((w.alloc (.cells #[.slice a1 n1 c1, .slice a2 n2 c2] 24)).alloc (.cells #[.int .i64 lo, .int .i64 hi] 73)).alloc (.cells #[.func (.func 28) #[] #[.pointer (some ⟨nb, 0, none⟩)]] 74)) 24 (.slice none 0 0) (.slice none 0 0)).alloc (.cells #[.int .i64 0] 35)
  have bE := Boxed.new ((((w.alloc (.cells #[.slice a1 n1 c1, .slice a2 n2 c2] 24)).alloc (.cells #[.int .i64 lo, .int .i64 hi] 73)).alloc (.cells #[.func (.func 28) #[] #[.pointer (some ⟨nb, 0, none⟩)]] 74)).alloc (.cells #[.slice none 0 0, .slice none 0 0] 24)) 35 (.int .i64 0)
  simp only [World.size_alloc] at bI bF bR bE
  have hB0 : Below w.heap.size w W0 := by rw [← hW0]; exact ((((((Below.refl _ w).alloc (Nat.le_refl _) _).alloc (by simp) _).alloc (by simp; omega) _).alloc (by simp; omega) _).alloc (by simp; omega) _)
  have hsz0 : w.heap.size + 5 = W0.heap.size := by rw [← hW0]; simp
  rw [hW0] at bS bI bF bR bE ⊢
  clear hW0
  have CS0 : CS w.heap.size lo hi (.func (.func 28) #[] #[.pointer (some ⟨nb, 0, none⟩)]) W0 (.slice a1 n1 c1) (.slice a2 n2 c2) := ⟨bS, bI, bF, bR, bE⟩
  have e0 := bS.cell0
  have e1 := bS.cell1
  have e2 := bI.cell0
  have e3 := bI.cell1
  clear bS bI bF bR bE
  have HQ := Lib.hid (And.intro hlo (And.intro hhi hd))
  clear hlo hhi hd hL
  refine wpIn_wide.2 ?_
  refine wp_mono (Q := AtNormal fun a' w' => ∃ (C : List (Int × Int)) (b3 : Option Addr) (d3 : Nat) (b4 : Option Addr) (d4 : Nat) (x11 x12 x13 x14 x15 x16 x17 : Value), a' = { tmps := #[.agg #[.slice a1 n1 c1, .slice a2 n2 c2], .agg #[.int .i64 lo, .int .i64 hi], .func (.func 28) #[] #[.pointer (some ⟨nb, 0, none⟩)], .pointer (some ⟨w.heap.size, 0, none⟩), .pointer (some ⟨w.heap.size + 1, 0, none⟩), .pointer (some ⟨w.heap.size + 1 + 1, 0, none⟩), .pointer (some ⟨w.heap.size + 1 + 1 + 1, 0, none⟩), .pointer (some ⟨w.heap.size + 1 + 1 + 1 + 1, 0, none⟩), undef, undef, undef, x11, x12, x13, x14, x15, x16, x17, undef, undef, undef, undef, undef, undef, undef, undef, undef, undef, undef, undef, undef, undef, undef, undef, undef, undef, undef, undef, undef, undef, undef, undef, undef, undef, undef, undef, undef, undef, undef, undef, undef, undef, undef], defers := [] } ∧ Cut2 L lo hi C ∧
    Prof w' (.agg #[.slice b3 C.length d3, .slice b4 C.length d4]) (C.map Prod.fst) (C.map Prod.snd) ∧ CS w.heap.size lo hi (.func (.func 28) #[] #[.pointer (some ⟨nb, 0, none⟩)]) w' (.slice b3 C.length d3) (.slice b4 C.length d4) ∧ Below w.heap.size w w' ∧ w.heap.size + 5 ≤ w'.heap.size) ?first ?rest
  case first =>
    rename_i K9 h9
    clear h9 K9
    have HC9 := Lib.hid (HC.out _ hB0.drew)
    clear HC
    go_region_with (first
      | (go_at_call 41; ((with_reducible refine HC9.out.mono ?_); rintro e w1 ⟨u, L1, rfl, hP1, hC1, hb1⟩; obtain ⟨b1, d1, b2, d2, rfl⟩ := hP1.formL; have CS1 := CS.next hb1 (CS.drew CS0); have g2 := CS1.i.cell0; have g3 := CS1.i.cell1; have HC8 := Lib.hid (cut_next HL.out HQ.out.1 HQ.out.2.1 hC1 hP1); have HF1 := Lib.hid (And.intro hC1 (And.intro hb1 CS1)); clear CS0 e0 e1 e2 e3 hC1 hb1 hP1 CS1))
      | (go_at_call 41; ((with_reducible refine HC8.out.mono ?_); rintro e w2 ⟨u, C, rfl, hP2, hC2, hb2⟩; obtain ⟨b3, d3, b4, d4, rfl⟩ := hP2.formL; have CS2 := CS.next hb2 HF1.out.2.2; have r0 := CS2.s.cell0; have r1 := CS2.s.cell1; have f0 := CS2.s.free 0; have f1 := CS2.s.free 1; have HF2 := Lib.hid (And.intro hP2 (And.intro hC2 (And.intro hb2 CS2))); clear hP2 hC2 hb2 CS2)))
    all_goals
      obtain ⟨hC1, hb1, CS1⟩ := HF1.out
      obtain ⟨hP2, hC2, hb2, CS2⟩ := HF2.out
      have hs1 : w.heap.size + 5 ≤ w1.heap.size := Nat.le_trans (Nat.le_of_eq hsz0) hb1.size
      have hs2 := hb2.size
      refine ⟨C, b3, d3, b4, d4, _, _, _, _, _, _, _, rfl, cut2_of HL.out HQ.out.1 HQ.out.2.1 hC1 hC2, hP2.set2 CS2.s, CS2.set _ _, ?_, ?_⟩
      · exact (((hB0.drew.trans (hb1.mono (show w.heap.size ≤ W0.drew.heap.size from hB0.size))).trans (hb2.mono (by omega))).setCell (p := ⟨w.heap.size, 0, none⟩) (Nat.le_refl _) _).setCell (p := ⟨w.heap.size, 1, none⟩) (Nat.le_refl _) _
      · have e1 := (grownBy_setCell2 w2 w.heap.size 0 (.slice b3 C.length d3)).size
        have e2 := (grownBy_setCell2 (w2.setCell ⟨w.heap.size, 0, none⟩ (.slice b3 C.length d3)) w.heap.size 1 (.slice b4 C.length d4)).size
        omega
  case rest =>
    refine atNormal_then ?_
    rintro a' W1 ⟨C, b3, d3, b4, d4, x11, x12, x13, x14, x15, x16, x17, rfl, hC2, hP2, CS2, hB2, hsz2⟩
    clear CS0 e0 e1 e2 e3 hB0 hsz0 HC
    have e0 := CS2.s.cell0
    have e1 := CS2.s.cell1
    gi_wp2
    refine wpIn_wide.2 ?_
    refine wp_mono (Q := AtNormal fun a' w' => ∃ (bl ga gn : Nat) (x18 x19 x20 x22 x23 x24 x26 : Value), a' = { tmps := #[.agg #[.slice a1 n1 c1, .slice a2 n2 c2], .agg #[.int .i64 lo, .int .i64 hi], .func (.func 28) #[] #[.pointer (some ⟨nb, 0, none⟩)], .pointer (some ⟨w.heap.size, 0, none⟩), .pointer (some ⟨w.heap.size + 1, 0, none⟩), .pointer (some ⟨w.heap.size + 1 + 1, 0, none⟩), .pointer (some ⟨w.heap.size + 1 + 1 + 1, 0, none⟩), .pointer (some ⟨w.heap.size + 1 + 1 + 1 + 1, 0, none⟩), .pointer (some ⟨bl, 0, none⟩), undef, undef, x11, x12, x13, x14, x15, x16, x17, x18, x19, x20, (.slice (some ⟨ga, 0, none⟩) 0 C.length), x22, x23, x24, (.slice (some ⟨gn, 0, none⟩) 0 C.length), x26, undef, undef, undef, undef, undef, undef, undef, undef, undef, undef, undef, undef, undef, undef, undef, undef, undef, undef, undef, undef, undef, undef, undef, undef, undef, undef], defers := [] } ∧ Made W1 C.length bl ga gn w') ?first2 ?rest2
    case first2 =>
      rename_i K9 h9
      have hLle := HL.out.le
      clear h9 K9 HL
      obtain ⟨i0, hi0, hz0, hz1, hz2⟩ := info_parts Try.info2
      have hm : C.length ≤ 4000 := by have := hC2.len; omega
      obtain ⟨M, hM⟩ : ∃ M, M = madeCells (Value.int .i64 0).cells (((C.length : Nat) : Int).toNat * i0.size) := ⟨_, rfl⟩
      have hmk : ∀ W : World, (Instr.makeSlice 22 (.int .i64 0) (.int .i64 (C.length : Int))).run Try.prog W = .ok (.slice (some ⟨W.heap.size, 0, none⟩) 0 C.length) (W.alloc (.cells M 2)) := fun W => by
        have h := run_make (P := Try.prog) W 22 2 i0 (.int .i64 0) Try.underlying22 hi0 hz0 .i64 .i64 0 (C.length : Int) (by omega) (by omega) (by rw [hz2]; omega) (by omega)
        rw [← hM] at h
        simpa using h
      have hMs : Hid (M.size = C.length) := by show _ = _; rw [hM, size_madeCells, hz1]; simp
      clear hM hi0 hz0 hz1 hz2
      have hsW1 : w.heap.size < W1.heap.size := by omega
      have HX := Lib.hid (And.intro hC2 (And.intro hP2 (And.intro CS2 (And.intro hB2 (And.intro hsz2 hm)))))
      clear hC2 hP2 CS2 hB2 hsz2 hm
      have HELD : Hid (∀ W, Below W1.heap.size W1 W → W.cell? ⟨w.heap.size, 0, none⟩ = some (.slice b3 C.length d3) ∧ W.cell? ⟨w.heap.size, 1, none⟩ = some (.slice b4 C.length d4)) := fun W hW =>
        ⟨(hW.cell (p := ⟨w.heap.size, 0, none⟩) hsW1).trans e0, (hW.cell (p := ⟨w.heap.size, 1, none⟩) hsW1).trans e1⟩
      go_region_held3 (fun W => W.cell? ⟨w.heap.size, 0, none⟩ = some (.slice b3 C.length d3) ∧ W.cell? ⟨w.heap.size, 1, none⟩ = some (.slice b4 C.length d4))
        (exact HELD.out _ (by repeat (first | exact Below.refl _ _ | refine Below.alloc ?_ (by first | (simp; done) | (simp; omega)) _ | refine Below.drew ?_ | refine Below.setCell ?_ (by first | (simp; done) | (simp; omega)) _))) (fail)
      all_goals
        obtain ⟨_, _, _, _, _, hm⟩ := HX.out
        refine ⟨_, _, _, _, _, _, _, _, _, _, rfl, ?_⟩
        exact made_of hMs.out hm (by first | exact at3_0 _ _ _ _ | exact at3_1 _ _ _ _ | exact at3_2 _ _ _ _) (by first | exact at3_0 _ _ _ _ | exact at3_1 _ _ _ _ | exact at3_2 _ _ _ _) (by first | exact at3_0 _ _ _ _ | exact at3_1 _ _ _ _ | exact at3_2 _ _ _ _) (by omega) (by omega) (by omega) (by omega) (by omega) (by omega) ((((Below.refl _ W1).alloc (Nat.le_refl _) _).alloc (by simp) _).alloc (by simp; omega) _).drew
    case rest2 =>
      refine atNormal_then ?_
      rintro a' W2 ⟨bl, ga, gn, x18, x19, x20, x22, x23, x24, x26, rfl, hMd⟩
      have CS3 := CS.next hMd.below CS2
      have e0 := CS3.s.cell0
      have e1 := CS3.s.cell1
      gi_wp2_with (refine ⟨trivial, ?_⟩; gi_at_call 42; refine (each_in Fence.wide _ trivial rfl _ _ _).mono ?_; rintro e w' ⟨rfl, rfl⟩)
      have bE := Box2.new W2 24 (.slice b3 C.length d3) (.slice b4 C.length d4)
      have CS4 := CS.next ((Below.refl _ W2).alloc (Nat.le_refl _) (.cells #[.slice b3 C.length d3, .slice b4 C.length d4] 24)) CS3
      have hMd2 := hMd.next ((Below.refl _ W2).alloc (Nat.le_refl _) (.cells #[.slice b3 C.length d3, .slice b4 C.length d4] 24))
      have hszW : (W2.alloc (.cells #[.slice b3 C.length d3, .slice b4 C.length d4] 24)).heap.size = W2.heap.size + 1 := by simp
      obtain ⟨W3, hW3⟩ : ∃ W3, W2.alloc (.cells #[.slice b3 C.length d3, .slice b4 C.length d4] 24) = W3 := ⟨_, rfl⟩
      rw [hW3] at bE CS4 hMd2 hszW ⊢
      clear hW3 e0 e1 CS3 CS2
      have hbW := hMd2.below
      have hB3 := hB2.trans (hbW.mono hB2.size)
      have hblt := hMd.box.lt
      have hmd0 := hMd.bl0
      clear hMd hB2
      obtain ⟨u1, u2, hPe, i1, i2⟩ := hP2
      obtain ⟨rfl, rfl⟩ : (.slice b3 C.length d3) = u1 ∧ (.slice b4 C.length d4) = u2 := by simpa using hPe
      have hC0 := hC2.pos
      have hCl : C.length ≤ 2002 := by have := hC2.len; have := HL.out.le; omega
      have j1 := i1.toB (show 0 < (C.map Prod.fst).length by rw [List.length_map]; exact hC0) (Nat.le_refl _)
      have j2 := i2.toB (show 0 < (C.map Prod.snd).length by rw [List.length_map]; exact hC0) (Nat.le_refl _)
      have HC9 := Lib.hid hC2
      have hB6 : Below w.heap.size w W3 := hB3
      have hnb3 : W3.cell? ⟨nb, 0, none⟩ = some (.int .i64 d) := (hB3.cell (p := ⟨nb, 0, none⟩) (cell_lt hnb)).trans hnb
      have hnbl : nb < w.heap.size := cell_lt hnb
      have LI0 : LIx W1.heap.size w.heap.size bl W2.heap.size lo hi (.func (.func 28) #[] #[.pointer (some ⟨nb, 0, none⟩)]) (.slice b3 C.length d3) (.slice b4 C.length d4) (gxOf lo hi d) [] W3 := ⟨_, _, _, _, _, _, hMd2.box, hMd2.o1, hMd2.o2, (fun k e1 e2 => hMd2.ap (by simp [Value.ownBlock] at e1 e2; omega)), CS4, bE, fun x hx => by simp at hx⟩
      have hmdl := hMd2.below
      have hbe : bl ≠ W2.heap.size := by omega
      clear hPe i1 i2 hC2 hMd2 CS4 hB3 hnb hbW
      refine wpIn_rangeFunc_ownH rfl (by omega) (gf := 49) (lb := #[.pointer (some ⟨W2.heap.size, 0, none⟩)]) rfl trivial (enters_of Try.func49 (by kernel_rfl) rfl)
        (each_stops Fence.wide _ trivial rfl (by omega) W2.heap.size W1.heap.size _ _ (C.map Prod.fst) (C.map Prod.snd) (by rw [List.length_map, List.length_map]) (by rw [List.length_map]; unfold maxLen; omega) W3 hmdl.size (j1.below hmdl) (j2.below hmdl) bE.cell0 bE.cell1) kpe_t (kpe_b hmdl.size bE.lt) (Below.refl _ _) (fun _ => rfl)
        (fun pre W => LIx W1.heap.size w.heap.size bl W2.heap.size lo hi (.func (.func 28) #[] #[.pointer (some ⟨nb, 0, none⟩)]) (.slice b3 C.length d3) (.slice b4 C.length d4) (gxOf lo hi d) pre W ∧ Below w.heap.size w W)
        (fun c pre W => ((Box2 W (w.heap.size + 1 + 1 + 1) 24 (.slice none 0 0) (.slice none 0 0) ∧ Boxed W (w.heap.size + 1 + 1 + 1 + 1) 35 (.int .i64 6)) ∧ c = .ret ∧ ∃ x ∈ pre, ¬ Q ((gxOf lo hi d) x)) ∧ Below w.heap.size w W)
        (OwnFrom.and (Own.from (li_own _ _ _ _ _ _ _ _ _ _) _) (ownFrom_below (Nat.le_refl _) (by omega)))
        (fun c => OwnFrom.and (OwnFrom.and (OwnFrom.and (Own.from (box2_own _ _ _ _) _) (Own.from (boxed_own _ _ _) _)) (ownFrom_pure _ _)) (ownFrom_below (Nat.le_refl _) (by omega)))
        ⟨LI0, hB6⟩
        (fun x a' W => ∃ Bx, W1.heap.size ≤ Bx ∧ Box2 W Bx 73 (.int .i64 x.1.1) (.int .i64 x.1.2) ∧ a' = { tmps := #[.agg #[.slice a1 n1 c1, .slice a2 n2 c2], .agg #[.int .i64 lo, .int .i64 hi], .func (.func 28) #[] #[.pointer (some ⟨nb, 0, none⟩)], .pointer (some ⟨w.heap.size, 0, none⟩), .pointer (some ⟨w.heap.size + 1, 0, none⟩), .pointer (some ⟨w.heap.size + 1 + 1, 0, none⟩), .pointer (some ⟨w.heap.size + 1 + 1 + 1, 0, none⟩), .pointer (some ⟨w.heap.size + 1 + 1 + 1 + 1, 0, none⟩), .pointer (some ⟨bl, 0, none⟩), .pointer (some ⟨Bx, 0, none⟩), .int .i64 x.2, x11, x12, x13, x14, x15, x16, x17, x18, x19, x20, .slice (some ⟨ga, 0, none⟩) 0 C.length, x22, x23, x24, .slice (some ⟨gn, 0, none⟩) 0 C.length, x26, .agg #[.slice b3 C.length d3, .slice b4 C.length d4], .func (.func 49) #[] #[.pointer (some ⟨W2.heap.size, 0, none⟩)], .agg #[.int .i64 x.1.1, .int .i64 x.1.2], .int .i64 x.2, undef, undef, undef, undef, undef, undef, undef, undef, undef, undef, undef, undef, undef, undef, undef, undef, undef, undef, undef, undef, undef, undef], defers := [] })
        (fun x a' _ X Y row hs hg hr => by obtain ⟨Bx, h1, h2, h3⟩ := hs; exact ⟨Bx, h1, box2_own Bx 73 (fun (_ : Unit) => Value.int .i64 x.1.1) (fun (_ : Unit) => Value.int .i64 x.1.2) () X Y row h2 hg (fun r e => (hr r e).2), h3⟩)
        ?assign ?body ?done ?stop
      case assign =>
        rintro l pre x W K ⟨⟨a1', m1', c1', a2', m2', c2', h1⟩, hB1⟩ hK
        dsimp only [encs]
        have hlt := h1.box.lt
        have bX := Box2.new W 73 (.int .i64 x.1.1) (.int .i64 x.1.2)
        have hba := (Below.refl W.heap.size W).alloc (Nat.le_refl _) (.cells #[.int .i64 x.1.1, .int .i64 x.1.2] 73)
        gi_wp2
        exact hK _ _ ((KeepsOthers.alloc _ _).from _) (KpE.of_below hba (by omega)) ⟨⟨_, _, _, _, _, _, h1.next hba⟩, hB1.trans (hba.mono hB1.size)⟩ ⟨W.heap.size, by omega, bX, rfl⟩
      case body =>
        rintro l pre x a' W hl _ ⟨⟨a1', m1', c1', a2', m2', c2', hLI⟩, hB1⟩ ⟨Bx, hBx, bX, rfl⟩ hlt
        rw [List.length_map] at hlt
        have hblW := hLI.box.lt
        have hBxW := bX.lt
        have cI0 := hLI.cs.i.cell0
        have cI1 := hLI.cs.i.cell1
        have cX0 := bX.cell0
        have cX1 := bX.cell1
        have hwW := hB1.size
        have HLI := Lib.hid hLI
        have HB1 := Lib.hid hB1
        have HBX := Lib.hid bX
        have hml := mj_len (gxOf lo hi d) pre
        have HML : Hid ((mj (gxOf lo hi d) pre).length ≤ 4000) := by show _ ≤ _; omega
        have HNB := Lib.hid (And.intro hnb3 hB6)
        clear hLI hB1 bX hml hnb3 LI0 j1 j2 bE hB6
        obtain ⟨gv, hgv⟩ : ∃ gv, gxOf lo hi d x = gv := ⟨_, rfl⟩
        have HBS : Hid (w.heap.size ≤ W1.heap.size) := by show _ ≤ _; omega
        have hn5 : Hid (w.heap.size + 5 ≤ W1.heap.size) := hsz2
        by_cases hw : meets x.1.1 x.1.2 lo hi = true
        · have hw' := hw
          have hgx : wrap64 (x.2 + d) = gv := by rw [← hgv]; exact (if_pos hw).symm
          clear hw
          by_cases hq : Q gv
          · have hqa : Hid (qall [gv] = true) := qall_of (by simpa using hq)
            have hgq : Hid (Q (gxOf lo hi d x)) := by show Q _; rw [hgv]; exact hq
            have hq := Lib.hid hq
            gi_wp2_with (first | (refine ⟨trivial, ?_⟩; gi_at_call 43; ((with_reducible refine (CallsIn.inRound l (callsIn_wide.2 (meets_any _ _ _ _ _))).mono ?_); rintro e Wm ⟨rfl, hb1⟩; rw [hw']; have hLm := (HLI.out).next hb1; have bXm := box2_next hb1 HBX.out; have hBm := HB1.out.trans (hb1.mono hwW); have cF := hLm.cs.f.cell; have cX0m := bXm.cell0; have cX1m := bXm.cell1; have hnbm : Wm.cell? ⟨nb, 0, none⟩ = some (.int .i64 d) := nb_cell HNB.out.1 HNB.out.2 hBm hnbl HBS.out; have r0 := hLm.cs.r.cell0; have r1 := hLm.cs.r.cell1; have f0 := hLm.cs.r.free 0; have f1 := hLm.cs.r.free 1; have cE := hLm.cs.e.cell; have fE := hLm.cs.e.frozen; have cb0 := hLm.box.cell0; have cb1 := hLm.box.cell1; have fb0 := hLm.box.free 0; have fb1 := hLm.box.free 1; have l1 := bXm.lt; have l2 := hLm.box.lt; have l3 := hLm.cs.e.lt; have l4 := hLm.cs.r.lt; have l5 := hLm.cs.f.lt; have hbs1 := hb1.size; have HLm := Lib.hid hLm; have HBm := Lib.hid hBm; have Hb1 := Lib.hid hb1; clear hLm bXm hBm hb1)) | (refine ⟨trivial, ?_⟩; gi_at_call 28; ((with_reducible refine (CallsIn.inRound l (callsIn_wide.2 (give1_any _ _ _ _ hnbm))).mono ?_); rintro e w' ⟨rfl, rfl⟩; rw [hgx])) | (refine ⟨trivial, ?_⟩; gi_at_call 40; ((with_reducible refine (CallsIn.inRound l (callsIn_wide.2 (quants_new _ _))).mono ?_); rintro e w' ⟨rfl, rfl⟩; rw [hqa.out])) | (refine ⟨trivial, ?_⟩; gi_at_call 44; ((with_reducible refine (CallsIn.inRound l (callsIn_wide.2 (join_at HLm.out hq.out HML.out (by omega)))).mono ?_); rintro e wj ⟨a5, m5, c5, a6, m6, c6, rfl, o1, o2, ap, hBj, hKj, hsj⟩; have RE := round_end (HLm.out.next ((Below.refl _ Wm).alloc (Nat.le_refl _) (.cells #[.int .i64 gv] 2))) hgv hgq.out hn5.out hmd0 hbe o1 o2 ap hBj hKj hsj; have jb0 := RE.1.cell0; have jb1 := RE.1.cell1; have jf0 := RE.1.free 0; have jf1 := RE.1.free 1; have HRE := Lib.hid RE.2; clear RE o1 o2 ap hBj hKj hsj)))
            have hba := Hb1.out.trans (((Below.refl _ Wm).alloc (Nat.le_refl _) (.cells #[.int .i64 gv] 2)).mono hbs1)
            exact ⟨(KeepsFrom.of_below hba).trans (HRE.out.1.from _), (KpE.of_below hba (by omega)).trans HRE.out.2.1, HRE.out.2.2, (HB1.out.trans (hba.mono hwW)).trans (HRE.out.2.1.below.mono HBS.out)⟩
          · have hqa : Hid (qall [gv] = false) := qall_not (by simpa using hq)
            have hgq : Hid (¬ Q (gxOf lo hi d x)) := by show ¬ Q _; rw [hgv]; exact hq
            clear hq
            gi_wp2_with (first | (refine ⟨trivial, ?_⟩; gi_at_call 43; ((with_reducible refine (CallsIn.inRound l (callsIn_wide.2 (meets_any _ _ _ _ _))).mono ?_); rintro e Wm ⟨rfl, hb1⟩; rw [hw']; have hLm := (HLI.out).next hb1; have bXm := box2_next hb1 HBX.out; have hBm := HB1.out.trans (hb1.mono hwW); have cF := hLm.cs.f.cell; have cX0m := bXm.cell0; have cX1m := bXm.cell1; have hnbm : Wm.cell? ⟨nb, 0, none⟩ = some (.int .i64 d) := nb_cell HNB.out.1 HNB.out.2 hBm hnbl HBS.out; have r0 := hLm.cs.r.cell0; have r1 := hLm.cs.r.cell1; have f0 := hLm.cs.r.free 0; have f1 := hLm.cs.r.free 1; have cE := hLm.cs.e.cell; have fE := hLm.cs.e.frozen; have cb0 := hLm.box.cell0; have cb1 := hLm.box.cell1; have fb0 := hLm.box.free 0; have fb1 := hLm.box.free 1; have l1 := bXm.lt; have l2 := hLm.box.lt; have l3 := hLm.cs.e.lt; have l4 := hLm.cs.r.lt; have l5 := hLm.cs.f.lt; have hbs1 := hb1.size; have HLm := Lib.hid hLm; have HBm := Lib.hid hBm; have Hb1 := Lib.hid hb1; clear hLm bXm hBm hb1)) | (refine ⟨trivial, ?_⟩; gi_at_call 28; ((with_reducible refine (CallsIn.inRound l (callsIn_wide.2 (give1_any _ _ _ _ hnbm))).mono ?_); rintro e w' ⟨rfl, rfl⟩; rw [hgx])) | (refine ⟨trivial, ?_⟩; gi_at_call 40; ((with_reducible refine (CallsIn.inRound l (callsIn_wide.2 (quants_new _ _))).mono ?_); rintro e w' ⟨rfl, rfl⟩; rw [hqa.out])))
            have hrb := round_bad HLm.out (.slice none 0 0) (.slice none 0 0) (.int .i64 6)
            exact ⟨((KeepsFrom.of_below Hb1.out).trans ((((KeepsOthers.setCell _ _ _).trans (KeepsOthers.setCell _ _ _)).trans (KeepsOthers.setCell _ _ _)).from _)).trans ((KeepsOthers.alloc _ _).from _), ⟨⟨hrb.1.alloc _, hrb.2.alloc _⟩, rfl, x, by simp, hgq.out⟩,
              (((HBm.out.setCell (p := ⟨w.heap.size + 1 + 1 + 1, 0, none⟩) (by simp; omega) _).setCell (p := ⟨w.heap.size + 1 + 1 + 1, 1, none⟩) (by simp; omega) _).setCell (p := ⟨w.heap.size + 1 + 1 + 1 + 1, 0, none⟩) (by simp; omega) _).alloc (by simp; omega) _⟩
        · have hw' : meets x.1.1 x.1.2 lo hi = false := by simpa using hw
          obtain rfl : x.2 = gv := by rw [← hgv]; exact (if_neg hw).symm
          clear hw
          by_cases hq : Q x.2
          · have hqa : Hid (qall [x.2] = true) := qall_of (by simpa using hq)
            have hgq : Hid (Q (gxOf lo hi d x)) := by show Q _; rw [hgv]; exact hq
            have hq := Lib.hid hq
            gi_wp2_with (first | (refine ⟨trivial, ?_⟩; gi_at_call 43; ((with_reducible refine (CallsIn.inRound l (callsIn_wide.2 (meets_any _ _ _ _ _))).mono ?_); rintro e Wm ⟨rfl, hb1⟩; rw [hw']; have hLm := (HLI.out).next hb1; have bXm := box2_next hb1 HBX.out; have hBm := HB1.out.trans (hb1.mono hwW); have cF := hLm.cs.f.cell; have cX0m := bXm.cell0; have cX1m := bXm.cell1; have hnbm : Wm.cell? ⟨nb, 0, none⟩ = some (.int .i64 d) := nb_cell HNB.out.1 HNB.out.2 hBm hnbl HBS.out; have r0 := hLm.cs.r.cell0; have r1 := hLm.cs.r.cell1; have f0 := hLm.cs.r.free 0; have f1 := hLm.cs.r.free 1; have cE := hLm.cs.e.cell; have fE := hLm.cs.e.frozen; have cb0 := hLm.box.cell0; have cb1 := hLm.box.cell1; have fb0 := hLm.box.free 0; have fb1 := hLm.box.free 1; have l1 := bXm.lt; have l2 := hLm.box.lt; have l3 := hLm.cs.e.lt; have l4 := hLm.cs.r.lt; have l5 := hLm.cs.f.lt; have hbs1 := hb1.size; have HLm := Lib.hid hLm; have HBm := Lib.hid hBm; have Hb1 := Lib.hid hb1; clear hLm bXm hBm hb1)) | (refine ⟨trivial, ?_⟩; gi_at_call 40; ((with_reducible refine (CallsIn.inRound l (callsIn_wide.2 (quants_new _ _))).mono ?_); rintro e w' ⟨rfl, rfl⟩; rw [hqa.out])) | (refine ⟨trivial, ?_⟩; gi_at_call 44; ((with_reducible refine (CallsIn.inRound l (callsIn_wide.2 (join_at HLm.out hq.out HML.out (by omega)))).mono ?_); rintro e wj ⟨a5, m5, c5, a6, m6, c6, rfl, o1, o2, ap, hBj, hKj, hsj⟩; have RE := round_end (HLm.out.next ((Below.refl _ Wm).alloc (Nat.le_refl _) (.cells #[.int .i64 x.2] 2))) hgv hgq.out hn5.out hmd0 hbe o1 o2 ap hBj hKj hsj; have jb0 := RE.1.cell0; have jb1 := RE.1.cell1; have jf0 := RE.1.free 0; have jf1 := RE.1.free 1; have HRE := Lib.hid RE.2; clear RE o1 o2 ap hBj hKj hsj)))
            have hba := Hb1.out.trans (((Below.refl _ Wm).alloc (Nat.le_refl _) (.cells #[.int .i64 x.2] 2)).mono hbs1)
            exact ⟨(KeepsFrom.of_below hba).trans (HRE.out.1.from _), (KpE.of_below hba (by omega)).trans HRE.out.2.1, HRE.out.2.2, (HB1.out.trans (hba.mono hwW)).trans (HRE.out.2.1.below.mono HBS.out)⟩
          · have hqa : Hid (qall [x.2] = false) := qall_not (by simpa using hq)
            have hgq : Hid (¬ Q (gxOf lo hi d x)) := by show ¬ Q _; rw [hgv]; exact hq
            clear hq
            gi_wp2_with (first | (refine ⟨trivial, ?_⟩; gi_at_call 43; ((with_reducible refine (CallsIn.inRound l (callsIn_wide.2 (meets_any _ _ _ _ _))).mono ?_); rintro e Wm ⟨rfl, hb1⟩; rw [hw']; have hLm := (HLI.out).next hb1; have bXm := box2_next hb1 HBX.out; have hBm := HB1.out.trans (hb1.mono hwW); have cF := hLm.cs.f.cell; have cX0m := bXm.cell0; have cX1m := bXm.cell1; have hnbm : Wm.cell? ⟨nb, 0, none⟩ = some (.int .i64 d) := nb_cell HNB.out.1 HNB.out.2 hBm hnbl HBS.out; have r0 := hLm.cs.r.cell0; have r1 := hLm.cs.r.cell1; have f0 := hLm.cs.r.free 0; have f1 := hLm.cs.r.free 1; have cE := hLm.cs.e.cell; have fE := hLm.cs.e.frozen; have cb0 := hLm.box.cell0; have cb1 := hLm.box.cell1; have fb0 := hLm.box.free 0; have fb1 := hLm.box.free 1; have l1 := bXm.lt; have l2 := hLm.box.lt; have l3 := hLm.cs.e.lt; have l4 := hLm.cs.r.lt; have l5 := hLm.cs.f.lt; have hbs1 := hb1.size; have HLm := Lib.hid hLm; have HBm := Lib.hid hBm; have Hb1 := Lib.hid hb1; clear hLm bXm hBm hb1)) | (refine ⟨trivial, ?_⟩; gi_at_call 40; ((with_reducible refine (CallsIn.inRound l (callsIn_wide.2 (quants_new _ _))).mono ?_); rintro e w' ⟨rfl, rfl⟩; rw [hqa.out])))
            have hrb := round_bad HLm.out (.slice none 0 0) (.slice none 0 0) (.int .i64 6)
            exact ⟨((KeepsFrom.of_below Hb1.out).trans ((((KeepsOthers.setCell _ _ _).trans (KeepsOthers.setCell _ _ _)).trans (KeepsOthers.setCell _ _ _)).from _)).trans ((KeepsOthers.alloc _ _).from _), ⟨⟨hrb.1.alloc _, hrb.2.alloc _⟩, rfl, x, by simp, hgq.out⟩,
              (((HBm.out.setCell (p := ⟨w.heap.size + 1 + 1 + 1, 0, none⟩) (by simp; omega) _).setCell (p := ⟨w.heap.size + 1 + 1 + 1, 1, none⟩) (by simp; omega) _).setCell (p := ⟨w.heap.size + 1 + 1 + 1 + 1, 0, none⟩) (by simp; omega) _).alloc (by simp; omega) _⟩
      case done =>
        rintro D ys W hD rfl ⟨⟨a1', m1', c1', a2', m2', c2', hLI⟩, hB1⟩ hK
        rw [List.length_map] at hLI
        have hQd := HQ.out.2.2
        have hT := turn_ok HL.out HC9.out (show -1099511627776 ≤ d by have := hQd.1; omega) (show d ≤ 1099511627776 by have := hQd.2; omega) hLI.good
        have hm1 := hLI.o1.len
        rw [List.length_map] at hm1
        have hwW := hB1.size
        have r0 := hLI.cs.r.cell0
        have r1 := hLI.cs.r.cell1
        have f0 := hLI.cs.r.free 0
        have f1 := hLI.cs.r.free 1
        have cE := hLI.cs.e.cell
        have fE := hLI.cs.e.frozen
        have cb0 := hLI.box.cell0
        have cb1 := hLI.box.cell1
        generalize hM : mj (gxOf lo hi d) (upto (C.map Prod.fst) (C.map Prod.snd) C.length) = M at *
        have ho1 := hLI.o1
        have ho2 := hLI.o2
        rw [hM] at ho1 ho2
        have HT := Lib.hid hT
        have HO := Lib.hid (And.intro ho1 ho2)
        have HB1 := Lib.hid hB1
        have HLI := Lib.hid hLI
        have hmm : Hid (m1' = M.length) := hm1
        clear hT ho1 ho2 hB1 hM hLI hm1
        by_cases h2 : 2000 < m1'
        · have hd : decide ((2000 : Int) < (m1' : Int)) = true := decide_eq_true (by omega)
          gi_wp2
          have hrb := round_bad HLI.out (.slice none 0 0) (.slice none 0 0) (.int .i64 6)
          have hK' := (((KeepsOthers.setCell W ⟨w.heap.size + 1 + 1 + 1, 0, none⟩ (.slice none 0 0)).trans (KeepsOthers.setCell _ ⟨w.heap.size + 1 + 1 + 1, 1, none⟩ (.slice none 0 0))).trans (KeepsOthers.setCell _ ⟨w.heap.size + 1 + 1 + 1 + 1, 0, none⟩ (.int .i64 6))).same D _ hK rfl
          refine ⟨by simp, .inl ⟨_, _, rfl, run_takeDeferred hK', ?_⟩⟩
          have q0 := cell_kept hrb.1.cell0 (grownBy_putObj' _ D (.deferred none)) (fun r e => by cases e; exact ⟨_, hK', rfl⟩)
          have q1 := cell_kept hrb.1.cell1 (grownBy_putObj' _ D (.deferred none)) (fun r e => by cases e; exact ⟨_, hK', rfl⟩)
          have q2 := cell_kept hrb.2.cell (grownBy_putObj' _ D (.deferred none)) (fun r e => by cases e; exact ⟨_, hK', rfl⟩)
          refine ⟨.tuple #[.agg #[.slice none 0 0, .slice none 0 0], .int .i64 6], ?_, 6, [], none, 0, 0, none, 0, 0, rfl, .inr ⟨rfl, rfl, .inr ⟨M, HT.out, by have := hmm.out; omega⟩⟩, own_nil _ _, own_nil _ _, ?_⟩
          · simp [results, Try.results27, go_sem, q0, q1, q2]
          · exact (((HB1.out.setCell (p := ⟨w.heap.size + 1 + 1 + 1, 0, none⟩) (by simp; omega) _).setCell (p := ⟨w.heap.size + 1 + 1 + 1, 1, none⟩) (by simp; omega) _).setCell (p := ⟨w.heap.size + 1 + 1 + 1 + 1, 0, none⟩) (by simp; omega) _).trans (belowK_b (w := w) (Nat.le_refl _) _ D _ _ (by omega) hK' rfl rfl)
        · have hd : decide ((2000 : Int) < (m1' : Int)) = false := decide_eq_false (by omega)
          gi_wp2
          have hrb := round_bad HLI.out (.slice a1' m1' c1') (.slice a2' m2' c2') (.int .i64 0)
          have hK' := (((KeepsOthers.setCell W ⟨w.heap.size + 1 + 1 + 1, 0, none⟩ (.slice a1' m1' c1')).trans (KeepsOthers.setCell _ ⟨w.heap.size + 1 + 1 + 1, 1, none⟩ (.slice a2' m2' c2'))).trans (KeepsOthers.setCell _ ⟨w.heap.size + 1 + 1 + 1 + 1, 0, none⟩ (.int .i64 0))).same D _ hK rfl
          refine ⟨by simp, .inl ⟨_, _, rfl, run_takeDeferred hK', ?_⟩⟩
          have q0 := cell_kept hrb.1.cell0 (grownBy_putObj' _ D (.deferred none)) (fun r e => by cases e; exact ⟨_, hK', rfl⟩)
          have q1 := cell_kept hrb.1.cell1 (grownBy_putObj' _ D (.deferred none)) (fun r e => by cases e; exact ⟨_, hK', rfl⟩)
          have q2 := cell_kept hrb.2.cell (grownBy_putObj' _ D (.deferred none)) (fun r e => by cases e; exact ⟨_, hK', rfl⟩)
          refine ⟨.tuple #[.agg #[.slice a1' m1' c1', .slice a2' m2' c2'], .int .i64 0], ?_, 0, M, a1', m1', c1', a2', m2', c2', rfl, .inl ⟨rfl, HT.out, by have := hmm.out; omega⟩, ?_, ?_, ?_⟩
          · simp [results, Try.results27, go_sem, q0, q1, q2]
          · exact own_put (own_set (own_set (own_set HO.out.1 (by omega) 0 _) (by omega) 1 _) (by omega) 0 _) (by omega) hK' rfl
          · exact own_put (own_set (own_set (own_set HO.out.2 (by omega) 0 _) (by omega) 1 _) (by omega) 0 _) (by omega) hK' rfl
          · exact (((HB1.out.setCell (p := ⟨w.heap.size + 1 + 1 + 1, 0, none⟩) (by simp; omega) _).setCell (p := ⟨w.heap.size + 1 + 1 + 1, 1, none⟩) (by simp; omega) _).setCell (p := ⟨w.heap.size + 1 + 1 + 1 + 1, 0, none⟩) (by simp; omega) _).trans (belowK_b (w := w) (Nat.le_refl _) _ D _ _ (by omega) hK' rfl rfl)
      case stop =>
        rintro D c pre W hD ⟨k, hk, rfl⟩ ⟨⟨⟨bR, bE6⟩, rfl, x, hx, hnq⟩, hB1⟩ hK
        rw [List.length_map] at hk
        have hQd := HQ.out.2.2
        have hbad := turn_bad HL.out HC9.out (show -1099511627776 ≤ d by have := hQd.1; omega) (show d ≤ 1099511627776 by have := hQd.2; omega) hk hx hnq
        have HBad := Lib.hid hbad
        clear hbad hnq hx
        gi_wp2
        refine ⟨by simp, .inl ⟨_, _, rfl, run_takeDeferred hK, ?_⟩⟩
        have q0 := cell_kept bR.cell0 (grownBy_putObj' _ D (.deferred none)) (fun r e => by cases e; exact ⟨_, hK, rfl⟩)
        have q1 := cell_kept bR.cell1 (grownBy_putObj' _ D (.deferred none)) (fun r e => by cases e; exact ⟨_, hK, rfl⟩)
        have q2 := cell_kept bE6.cell (grownBy_putObj' _ D (.deferred none)) (fun r e => by cases e; exact ⟨_, hK, rfl⟩)
        refine ⟨.tuple #[.agg #[.slice none 0 0, .slice none 0 0], .int .i64 6], ?_, 6, [], none, 0, 0, none, 0, 0, rfl, .inr ⟨rfl, rfl, .inl HBad.out⟩, own_nil _ _, own_nil _ _, ?_⟩
        · simp [results, Try.results27, go_sem, q0, q1, q2]
        · exact hB1.trans (belowK_b (w := w) (Nat.le_refl _) _ D _ _ (by omega) hK rfl rfl)
end Go.Proofs.Ytigomdihkojdmaa.gn
