/- The walk of DirectOrder. (Written by gen_diOr.py.) -/
import Derived.Test.YtfocnipdmckojaaDoorDiXo
import Derived.Test.YtfocnipdmckojaaDoorDiSz
set_option linter.unusedVariables false
namespace Go.Proofs.YtfocnipdmckojaaDoor.gn
open Go.RowKit
open Go.Proofs.YtfocnipdmckojaaDoor.un
open Go.Proofs.YtfocnipdmckojaaDoor.di

theorem lerr_cases (l : Tx) : lerr l = 0 ∧ l.length ≤ 500 ∧ line? l = some (ldir l) ∨ (lerr l = 3 ∨ lerr l = 140) ∧ ldir l = Dir.zero := by
  by_cases h : 500 < l.length
  · exact .inr ⟨.inl (lerr_long h).1, (lerr_long h).2⟩
  cases hn : line? l with
  | none => exact .inr ⟨.inr (lerr_none (by omega) hn).1, (lerr_none (by omega) hn).2⟩
  | some d => exact .inl ⟨(lerr_some (by omega) hn).1, by omega, by rw [(lerr_some (by omega) hn).2]⟩
set_option maxRecDepth 100000 in
set_option maxHeartbeats 4000000 in
theorem order_no (l : Tx) (hm : l.length ≤ 9223372036854775807) (a1 : Int) (er : Int) (hz : ldir l = Dir.zero) (he : lerr l = er) (hne : er = 3 ∨ er = 140) (w : World) (hL : LaidD w) : Calls Tryd.prog 5 #[.string (str l), .int .u8 a1] w (Told (.bool true) w) := by
  have CP := Lib.hid (show ∀ W, LaidD W → Calls Tryd.prog 8 #[.string (str l)] W (Told (.tuple #[.agg #[.int .u8 0, .string { data := #[] }, .string { data := #[] }, .int .i64 0, .bool false], .int .i64 er]) W) from fun W hW => (Parse_any l hm W hW).mono fun e w' ⟨h1, hb⟩ => ⟨by rw [h1, hz, he]; rfl, hb⟩)
  have HC := Lib.hid fun (W : World) (hb : Below w.heap.size w W) => hL.next hb
  have H0 := Lib.hid (Below.refl w.heap.size w)
  have hq := dir_eq Dir.zero Dir.zero
  rw [decide_eq_true rfl, show dV Dir.zero = .agg #[.int .u8 0, .string { data := #[] }, .string { data := #[] }, .int .i64 0, .bool false] from rfl] at hq
  clear hz he hL
  rcases hne with rfl | rfl
  all_goals
    go_enter Tryd.func5, Tryd.ntmps5
    go_wp2_with (first
      | (go_at_call 8; refine (CP.out _ (HC.out _ H0.out)).mono ?_; rintro e w1 ⟨rfl, hb⟩; have H1 := Lib.hid (hb.alloc hb.size (.cells #[.int .u8 0, .string { data := #[] }, .string { data := #[] }, .int .i64 0, .bool false] 24)); clear hb)
      | (go_at_call 7; refine (head_any _ (HC.out _ H1.out)).mono ?_; rintro e w2 ⟨rfl, hb⟩; have H2 := Lib.hid (H1.out.trans (hb.mono H1.out.size)); clear hb))
    go_ret
    exact ⟨rfl, H2.out⟩
structure OR (w : World) (d : Dir) (b5 g : Nat) (ws : List Tx) (W : World) : Prop where
  p5 : BoxA W b5 24 (dcs d)
  ps : Prts W g 0 ws
  b : Below w.heap.size w W
theorem OR.next {w W W' : World} {d : Dir} {b5 g : Nat} {ws : List Tx} (h : OR w d b5 g ws W) (hb : Below W.heap.size W W') : OR w d b5 g ws W' := ⟨h.p5.next hb, h.ps.next hb, h.b.trans (hb.mono h.b.size)⟩
theorem OR.drew {w W : World} {d : Dir} {b5 g : Nat} {ws : List Tx} (h : OR w d b5 g ws W) : OR w d b5 g ws W.drew := ⟨h.p5, h.ps, h.b.drew⟩
theorem OR.drewN {w W : World} {d : Dir} {b5 g : Nat} {ws : List Tx} (h : OR w d b5 g ws W) (n : Nat) : OR w d b5 g ws (W.drewN n) := ⟨h.p5, ⟨h.ps.1, h.ps.2⟩, h.b.trans ⟨rfl, rfl, rfl, Nat.le_refl _, fun _ _ => rfl⟩⟩
theorem add_one (t : Tx) : str t ++ ({ data := #[32] } : ByteArray) = str (t ++ [32]) := by
  show str t ++ str [32] = _
  rw [str_app]
/-- What the four calls answer. -/
structure Ord (l : Tx) (d : Dir) (k q : Nat) (W : List Tx) (x : Tx) (acc : Bool) (hc ic : Int) : Prop where
  hw : words l = bbW :: kw k :: W
  hx : W[q]? = some x
  rev : ∀ w, LaidD w → Calls Tryd.prog 8 #[.string (str (joinW (bbW :: kw k :: W.reverse)))] w (Told (.tuple #[dV d, .int .i64 0]) w)
  less : ∀ w, LaidD w → Calls Tryd.prog 8 #[.string (str (joinW (bbW :: kw k :: W.eraseIdx q)))] w (Told (.tuple #[dV (if acc = true then { d with opn := false } else Dir.zero), .int .i64 (if acc = true then 0 else 140)]) w)
  twice : ∀ w, LaidD w → Calls Tryd.prog 8 #[.string (str (l ++ 32 :: x))] w (Told (.tuple #[.agg #[.int .u8 0, .string { data := #[] }, .string { data := #[] }, .int .i64 0, .bool false], .int .i64 hc]) w)
  blank : ∀ w, LaidD w → Calls Tryd.prog 8 #[.string (str (l ++ [32]))] w (Told (.tuple #[.agg #[.int .u8 0, .string { data := #[] }, .string { data := #[] }, .int .i64 0, .bool false], .int .i64 ic]) w)
  two : (hc = 140 ∨ hc = 3) ∧ (ic = 140 ∨ ic = 3)
  yes : acc = true → 7 < x.length ∧ x.take 7 = accE ∧ decide (x = accP) = d.opn
  no : acc = false → x.take 7 ≠ accE
theorem none_said {l : Tx} (hn : l.length ≤ 500 → line? l = none) (hm : l.length ≤ 9223372036854775807) : ∃ c, (c = 140 ∨ c = 3) ∧ ∀ w, LaidD w → Calls Tryd.prog 8 #[.string (str l)] w (Told (.tuple #[.agg #[.int .u8 0, .string { data := #[] }, .string { data := #[] }, .int .i64 0, .bool false], .int .i64 c]) w) := by
  refine ⟨lerr l, ?_, fun W hW => (Parse_any l hm W hW).mono fun e w' ⟨h1, hb⟩ => ⟨?_, hb⟩⟩
  · by_cases h : 500 < l.length
    · exact .inr (lerr_long h).1
    · exact .inl (lerr_none (by omega) (hn (by omega))).1
  · have hz : ldir l = Dir.zero := by
      by_cases h : 500 < l.length
      · exact (lerr_long h).2
      · exact (lerr_none (by omega) (hn (by omega))).2
    rw [h1, hz]
    rfl
theorem ord_of {l : Tx} {d : Dir} (hl : l.length ≤ 500) (hd : line? l = some d) : ∃ k W, 1 ≤ W.length ∧ W.length ≤ 499 ∧ (∀ x ∈ W, x.length ≤ 500) ∧ (1 ≤ k ∧ k ≤ 6) ∧ ∀ q, q < W.length → ∃ x acc hc ic, Ord l d k q W x acc hc ic := by
  obtain ⟨k, fs, hk, hle, hw, h1, h2, hg, rfl⟩ := line_some hd
  have hpos : 0 < fs.length := List.length_pos_iff.2 (good_ne hk hg)
  have hlen := words_len l
  rw [hw] at hlen
  simp only [List.length_cons, List.length_map] at hlen
  refine ⟨k, fs.map wtx, by rw [List.length_map]; omega, by rw [List.length_map]; omega, fun x hx => ?_, hk, fun q hq => ?_⟩
  · have := words_mem_len l x (by rw [hw]; exact List.mem_cons_of_mem _ (List.mem_cons_of_mem _ hx))
    omega
  · rw [List.length_map] at hq
    obtain ⟨f, hf⟩ : ∃ f, fs[q]? = some f := ⟨_, List.getElem?_eq_getElem hq⟩
    have hmem := List.mem_of_getElem? hf
    obtain ⟨A, B, hAB, hA⟩ : ∃ A B, fs = A ++ f :: B ∧ A.length = q := ⟨fs.take q, fs.drop (q + 1), by
      obtain ⟨_, rfl⟩ := List.getElem?_eq_some_iff.1 hf
      rw [← List.drop_eq_getElem_cons hq, List.take_append_drop], by rw [List.length_take]; omega⟩
    have hx500 : (wtx f).length ≤ 500 := by
      have := words_mem_len l (wtx f) (by rw [hw]; exact List.mem_cons_of_mem _ (List.mem_cons_of_mem _ (List.mem_map.2 ⟨f, hmem, rfl⟩)))
      omega
    obtain ⟨hc, hc2, hcP⟩ := none_said (l := l ++ 32 :: wtx f) (fun _ => line_twice hw hk h1 h2 hmem) (by rw [List.length_append, List.length_cons]; omega)
    obtain ⟨ic, ic2, icP⟩ := none_said (l := l ++ [32]) (fun _ => line_blank hw hk) (by rw [List.length_append, List.length_cons, List.length_nil]; omega)
    have hrl := rev_size k fs
    rw [← hle] at hrl
    have hrv := lerr_some (by omega) (line_rev (l := l) (d := dirOf k fs) hk h1 h2 hg)
    have hls := less_size k A B f
    rw [← hAB, ← hle] at hls
    have hlx := line_less (k := k) hk (by rw [← hAB]; exact h1) (by rw [← hAB]; exact h2) (by rw [← hAB]; exact hg)
    have hre : joinW (bbW :: kw k :: (fs.map wtx).reverse) = lineOf k fs.reverse := by unfold lineOf; rw [List.map_reverse]
    have hle2 : joinW (bbW :: kw k :: (fs.map wtx).eraseIdx q) = lineOf k (A ++ B) := by
      unfold lineOf
      rw [hAB, List.map_append, List.map_cons, List.map_append, show q = (A.map wtx).length by rw [List.length_map, hA], erase_mid]
    obtain ⟨ha1, ha2⟩ := acc_word h2 hg hmem
    refine ⟨wtx f, decide (f.1 = accK), hc, ic, hw, by rw [List.getElem?_map, hf]; rfl, fun W hW => ?_, fun W hW => ?_, hcP, icP, ⟨hc2, ic2⟩, fun e => ha1 (of_decide_eq_true e), fun e => ha2 (of_decide_eq_false e)⟩
    · rw [hre]
      refine (Parse_any _ (by omega) W hW).mono fun e w' ⟨h1, hb⟩ => ⟨?_, hb⟩
      rw [h1, hrv.1, hrv.2]
    · rw [hle2]
      refine (Parse_any _ (by omega) W hW).mono fun e w' ⟨h1, hb⟩ => ⟨?_, hb⟩
      rw [h1]
      by_cases hfa : f.1 = accK
      · rw [if_pos hfa] at hlx
        have := lerr_some (by omega) hlx
        rw [this.1, this.2, if_pos (decide_eq_true hfa), if_pos (decide_eq_true hfa), ← hAB]
      · rw [if_neg hfa] at hlx
        have := lerr_none (by omega) hlx
        rw [this.1, this.2, if_neg (by simp [hfa]), if_neg (by simp [hfa])]


set_option maxRecDepth 100000 in
set_option maxHeartbeats 100000000 in
theorem order_walk (l : Tx) (hl : l.length ≤ 500) (d : Dir) (hd : ldir l = d) (he : lerr l = 0) (a1 : Int) (h0 : 0 ≤ a1) (h1 : a1 ≤ 255) (k q : Nat) (W : List Tx) (n : Nat) (hn : W.length = n) (hn1 : 1 ≤ n) (hn2 : n ≤ 499) (hW : ∀ x ∈ W, x.length ≤ 500) (hk : 1 ≤ k ∧ k ≤ 6) (x : Tx) (acc : Bool) (hc ic : Int) (H : Ord l d k q W x acc hc ic) (hq : q < n) (hrem : a1.tmod (n : Int) = (q : Int)) (w : World) (hL : LaidD w) :
    Calls Tryd.prog 5 #[.string (str l), .int .u8 a1] w (Told (.bool true) w) := by
  have CP := Lib.hid (show ∀ W, LaidD W → Calls Tryd.prog 8 #[.string (str l)] W (Told (.tuple #[dV d, .int .i64 0]) W) from fun W hW => (Parse_any l (Nat.le_trans hl (by decide)) W hW).mono fun e w' ⟨h1, hb⟩ => ⟨by rw [h1, hd, he], hb⟩)
  have HC := Lib.hid fun (W : World) (hb : Below w.heap.size w W) => hL.next hb
  have H0 := Lib.hid (Below.refl w.heap.size w)
  have HW := Lib.hid (fun W => Words_any l (Nat.le_trans hl (by decide)) W)
  obtain ⟨hw, hx, hrev, hless, htw, hbl, htwo, hyes, hno⟩ := H
  rw [hw] at HW
  obtain ⟨bb, hbb⟩ : ∃ b, bbW = b := ⟨_, rfl⟩
  obtain ⟨kk, hkk⟩ : ∃ b, kw k = b := ⟨_, rfl⟩
  have zb : (str bb).size ≤ 3 := by rw [← hbb, str_size]; decide
  have zk : (str kk).size ≤ 50 := by rw [← hkk, str_size]; exact kw_len hk
  have HBK := Lib.hid (show bb.length ≤ 3 ∧ kk.length ≤ 50 from ⟨by rw [← str_size]; exact zb, by rw [← str_size]; exact zk⟩)
  have hn3 : (bbW :: kw k :: W).length = n + 2 := by rw [← hn]; rfl
  rw [hbb, hkk] at hrev hless HW hn3
  have HN3 := Lib.hid hn3
  have HN := Lib.hid hn
  have HX := Lib.hid hx
  have HRV := Lib.hid hrev
  have HLS := Lib.hid hless
  have HTW := Lib.hid htw
  have HBL := Lib.hid hbl
  have HWL := Lib.hid hW
  have HYES := Lib.hid hyes
  have HNO := Lib.hid hno
  have zl : (str l).size ≤ 500 := by rw [str_size]; exact hl
  have hx500 : x.length ≤ 500 := hW x (List.mem_of_getElem? hx)
  have zx : (str x).size ≤ 500 := by rw [str_size]; exact hx500
  have hV : dV d = .agg #[.int .u8 (d.kind : Nat), .string (str d.name), .string (str d.pool), .int .i64 d.size, .bool d.opn] := rfl
  have HQ := Lib.hid (dir_eq d d)
  have HNQ := Lib.hid (dir_ne { d with opn := false } { d with opn := false })
  have hV2 : dV { d with opn := false } = .agg #[.int .u8 (d.kind : Nat), .string (str d.name), .string (str d.pool), .int .i64 d.size, .bool false] := rfl
  rw [hV] at CP HRV HQ
  rw [hV2] at HNQ
  clear hd he hL hw hx hrev hless htw hbl hyes hno hW hk hV hV2 hbb hkk hn hn3
  go_enter Tryd.func5, Tryd.ntmps5
  go_wp2_with fail
  refine (CP.out _ (HC.out _ H0.out)).mono ?_
  rintro e w1 ⟨rfl, hb⟩
  have H1 := Lib.hid hb
  clear hb
  go_wp2_with fail
  refine (HW.out _).mono ?_
  rintro e w3 ⟨v, rfl, ⟨g, cap, rfl, hprts, hcap, hB⟩, hb⟩
  rw [HN3.out] at hcap ⊢
  have hbA : Below w1.heap.size w1 (w1.alloc (.cells #[.int .u8 (d.kind : Nat), .string (str d.name), .string (str d.pool), .int .i64 d.size, .bool d.opn] 24)) := (Below.refl _ _).alloc (Nat.le_refl _) _
  have hsz1 : w.heap.size ≤ w1.heap.size := H1.out.size
  have HR0 := Lib.hid (show OR w d w1.heap.size g (bb :: kk :: W) w3 from ⟨(BoxA.new _ _ _ : BoxA _ w1.heap.size 24 (dcs d)).next hb, hprts, (H1.out.trans (hbA.mono H1.out.size)).trans (hb.mono (Nat.le_trans H1.out.size hbA.size))⟩)
  have hgn : ¬ g = w1.heap.size := by have := (BoxA.new w1 24 #[.int .u8 (d.kind : Nat), .string (str d.name), .string (str d.pool), .int .i64 d.size, .bool d.opn]).lt; omega
  have hgm : ¬ w1.heap.size = g := fun e => hgn e.symm
  clear hprts hbA hb hB H1
  have c0 : w3.cell? ⟨g, 0, none⟩ = some (.string (str bb)) := HR0.out.ps.2 0 bb rfl
  have c1 : w3.cell? ⟨g, 1, none⟩ = some (.string (str kk)) := HR0.out.ps.2 1 kk rfl
  have hg : g < w3.heap.size := HR0.out.ps.1
  go_wp2_with fail
  go_loopw [8, 9] (fun s8 s9 wr => ∃ (j : Nat) (t : Tx), s9 = .int .i64 ((j + 1 : Nat) : Int) ∧ s8 = .string (str t) ∧ j ≤ n ∧ t.length ≤ 600 + 501 * (n - j) ∧ Aside (OR w d w1.heap.size g (bb :: kk :: W) wr) ∧ Aside (t = joinW (bb :: kk :: (W.drop j).reverse))) (fun _ s9 _ => (intOf s9).toNat)
  case atStart => exact ⟨n, bb ++ 32 :: kk, by go_num, by rw [add_blank], Nat.le_refl _, by have := HBK.out; rw [List.length_append, List.length_cons]; omega, HR0.out, by rw [List.drop_of_length_le (by rw [HN.out]; exact Nat.le_refl _)]; rfl⟩
  case round =>
    clear HR0 c0 c1 hg
    obtain ⟨j, t, rfl, rfl, hj, htl, hor, hte⟩ := hrel
    have HR := Lib.hid (show OR w d w1.heap.size g (bb :: kk :: W) wr from hor)
    have HTE := Lib.hid (show t = joinW (bb :: kk :: (W.drop j).reverse) from hte)
    have zt : (str t).size ≤ 300000 := by rw [str_size]; omega
    clear hor hte
    cases j with
    | succ j =>
      have hjl : j < W.length := by rw [HN.out]; omega
      obtain ⟨y, hy⟩ : ∃ y, W[j]? = some y := ⟨_, List.getElem?_eq_getElem hjl⟩
      have c2 : wr.cell? ⟨g, 0 + (j + 2), none⟩ = some (.string (str y)) := HR.out.ps.2 (j + 2) y hy
      rw [Nat.zero_add] at c2
      have hg : g < wr.heap.size := HR.out.ps.1
      have hy500 : y.length ≤ 500 := HWL.out y (List.mem_of_getElem? hy)
      have zy : (str y).size ≤ 500 := by rw [str_size]; exact hy500
      have HST := Lib.hid (show joinW (bb :: kk :: (W.drop j).reverse) = t ++ 32 :: y by
        obtain ⟨_, rfl⟩ := List.getElem?_eq_some_iff.1 hy
        rw [List.drop_eq_getElem_cons hjl, List.reverse_cons, HTE.out]
        exact joinW_snoc (bb :: kk :: (W.drop (j + 1)).reverse) _ (by simp))
      have HY5 := Lib.hid hy500
      clear hy hjl hy500
      go_wp2
      go_roundw
      case rel => exact ⟨j, t ++ 32 :: y, by go_num, by rw [add_blank], by omega, by have := HY5.out; rw [List.length_append, List.length_cons]; omega, HR.out, by rw [HST.out]; exact rfl⟩
      case measure => simp [intOf]; omega
    | zero =>
      have HF := Lib.hid (show t = joinW (bb :: kk :: W.reverse) from HTE.out)
      have c0 : wr.cell? ⟨g, 0, none⟩ = some (.string (str bb)) := HR.out.ps.2 0 bb rfl
      have c1 : wr.cell? ⟨g, 1, none⟩ = some (.string (str kk)) := HR.out.ps.2 1 kk rfl
      have hg : g < wr.heap.size := HR.out.ps.1
      clear HTE htl
      have CPT := Lib.hid HRV.out
      rw [← HF.out] at CPT
      go_wp2_with (go_quiet (fail))
      go_loopw [11, 12] (fun s11 s12 wr => ∃ (i : Nat) (t : Tx), s12 = .int .i64 ((i + 2 : Nat) : Int) ∧ s11 = .string (str t) ∧ i ≤ n ∧ t.length ≤ 600 + 501 * i ∧ Aside (OR w d w1.heap.size g (bb :: kk :: W) wr) ∧ Aside (t = joinW (bb :: kk :: (W.take i).eraseIdx q))) (fun _ s12 _ => n + 2 - (intOf s12).toNat)
      case atStart => exact ⟨0, bb ++ 32 :: kk, by go_num, by rw [add_blank], Nat.zero_le _, by have := HBK.out; rw [List.length_append, List.length_cons]; omega, HR.out.drewN _, by rw [List.take_zero]; rfl⟩
      case round =>
        clear HR c0 c1 hg
        obtain ⟨i, t2, rfl, rfl, hi, htl2, hor2, hte2⟩ := hrel
        have HR := Lib.hid (show OR w d w1.heap.size g (bb :: kk :: W) wr from hor2)
        have HTE := Lib.hid (show t2 = joinW (bb :: kk :: (W.take i).eraseIdx q) from hte2)
        have zt2 : (str t2).size ≤ 300000 := by rw [str_size]; omega
        clear hor2 hte2
        by_cases hin : i < n
        · have hil : i < W.length := by rw [HN.out]; exact hin
          obtain ⟨y, hy⟩ : ∃ y, W[i]? = some y := ⟨_, List.getElem?_eq_getElem hil⟩
          have c2 : wr.cell? ⟨g, 0 + (i + 2), none⟩ = some (.string (str y)) := HR.out.ps.2 (i + 2) y hy
          rw [Nat.zero_add] at c2
          have hg : g < wr.heap.size := HR.out.ps.1
          have hy500 : y.length ≤ 500 := HWL.out y (List.mem_of_getElem? hy)
          have zy : (str y).size ≤ 500 := by rw [str_size]; exact hy500
          have HST := Lib.hid (erase_step (q := q) hy)
          have HY5 := Lib.hid hy500
          clear hy hil hy500
          by_cases hiq : i = q
          · have q1 : (((i + 2 : Nat) : Int) == 2 + (q : Int)) = true := by rw [beq_iff_eq]; omega
            have HST2 := Lib.hid (HST.out.trans (if_pos hiq))
            clear hiq HST
            go_wp2
            go_roundw
            case rel => exact ⟨i + 1, t2, by go_num, rfl, by omega, by omega, HR.out, by rw [HST2.out]; exact HTE.out⟩
            case measure => simp [intOf]; omega
          · have q1 : (((i + 2 : Nat) : Int) == 2 + (q : Int)) = false := by rw [beq_eq_false_iff_ne]; omega
            have HST2 := Lib.hid (HST.out.trans (if_neg hiq))
            clear hiq HST
            go_wp2
            go_roundw
            case rel => exact ⟨i + 1, t2 ++ 32 :: y, by go_num, by rw [add_blank], by omega, by have := HY5.out; rw [List.length_append, List.length_cons]; omega, HR.out, by rw [HST2.out, HTE.out]; exact (joinW_snoc (bb :: kk :: (W.take i).eraseIdx q) y (by simp)).symm⟩
            case measure => simp [intOf]; omega
        · obtain rfl : i = n := by omega
          have HF2 := Lib.hid (show t2 = joinW (bb :: kk :: W.eraseIdx q) by
            have := HTE.out
            rwa [List.take_of_length_le (by rw [HN.out]; exact Nat.le_refl _)] at this)
          have CPL := Lib.hid HLS.out
          rw [← HF2.out] at CPL
          clear HTE htl2
          have cx : wr.cell? ⟨g, 0 + (q + 2), none⟩ = some (.string (str x)) := HR.out.ps.2 (q + 2) x HX.out
          rw [Nat.zero_add] at cx
          have hg : g < wr.heap.size := HR.out.ps.1
          have HCX := Lib.hid (HX.out)
          have hsl7 : 7 < x.length → ∀ W : World, (Instr.slice 9 (.string (str x)) none (some (.int .i64 7)) none).run Tryd.prog W = .ok (.string (str (x.take 7))) W := fun h W => sl_upto x 7 7 rfl (by omega) W
          have HTWO := Lib.hid htwo
          have HXZ := Lib.hid (str_size x)
          clear htwo zt
          cases acc with
          | true =>
            obtain ⟨y7, yt, yp⟩ := HYES.out rfl
            have s7 := hsl7 y7
            have z7 : 7 < (str x).size := by rw [HXZ.out]; exact y7
            obtain ⟨x7, hx7⟩ : ∃ y, x.take 7 = y := ⟨_, rfl⟩
            rw [hx7] at s7 yt
            obtain ⟨q1, q2⟩ := lit_yes yt
            have q3 := (eq_lit x accP).trans yp
            unfold accE at q1 q2
            unfold accP at q3
            clear hx7 yt yp y7
            have CL := Lib.hid (show ∀ W, LaidD W → Calls Tryd.prog 8 #[.string (str t2)] W (Told (.tuple #[.agg #[.int .u8 (d.kind : Nat), .string (str d.name), .string (str d.pool), .int .i64 d.size, .bool false], .int .i64 0]) W) from CPL.out)
            have hqq := HQ.out
            have hqn := HNQ.out
            rcases HTWO.out with ⟨rfl | rfl, rfl | rfl⟩
            · go_wp2_with fail
              refine (CPT.out _ (HC.out _ HR.out.b)).mono ?_
              rintro e v1 ⟨rfl, hb⟩
              have R1 := Lib.hid (HR.out.next hb)
              have B1 := Lib.hid (BoxA.new v1 24 #[.int .u8 (d.kind : Nat), .string (str d.name), .string (str d.pool), .int .i64 d.size, .bool d.opn])
              have A1 := Lib.hid ((Below.refl v1.heap.size v1).alloc (Nat.le_refl _) (.cells #[.int .u8 (d.kind : Nat), .string (str d.name), .string (str d.pool), .int .i64 d.size, .bool d.opn] 24))
              clear hb
              go_wp2_with fail
              refine (CL.out _ (HC.out _ (R1.out.next A1.out).b)).mono ?_
              rintro e v2 ⟨rfl, hb⟩
              have R2 := Lib.hid ((R1.out.next A1.out).next hb)
              have B12 := Lib.hid (B1.out.next hb)
              have B2 := Lib.hid (BoxA.new v2 24 #[.int .u8 (d.kind : Nat), .string (str d.name), .string (str d.pool), .int .i64 d.size, .bool false])
              have A2 := Lib.hid ((Below.refl v2.heap.size v2).alloc (Nat.le_refl _) (.cells #[.int .u8 (d.kind : Nat), .string (str d.name), .string (str d.pool), .int .i64 d.size, .bool false] 24))
              have cx2 : v2.cell? ⟨g, 2 + q, none⟩ = some (.string (str x)) := (show 0 + (q + 2) = 2 + q by omega) ▸ R2.out.ps.2 (q + 2) x HX.out
              have hg2 : g < v2.heap.size := R2.out.ps.1
              clear hb
              go_wp2_with fail
              rw [add_blank]
              refine (HTW.out _ (HC.out _ (R2.out.next A2.out).b)).mono ?_
              rintro e v3 ⟨rfl, hb⟩
              have R3 := Lib.hid ((R2.out.next A2.out).next hb)
              have B13 := Lib.hid ((B12.out.next A2.out).next hb)
              have B23 := Lib.hid (B2.out.next hb)
              have A3 := Lib.hid ((Below.refl v3.heap.size v3).alloc (Nat.le_refl _) (.cells #[.int .u8 0, .string { data := #[] }, .string { data := #[] }, .int .i64 0, .bool false] 24))
              clear hb cx2 hg2
              go_wp2_with fail
              rw [add_one]
              refine (HBL.out _ (HC.out _ (R3.out.next A3.out).b)).mono ?_
              rintro e v4 ⟨rfl, hb⟩
              have R4 := Lib.hid ((R3.out.next A3.out).next hb)
              have B14 := Lib.hid ((B13.out.next A3.out).next hb)
              have B24 := Lib.hid ((B23.out.next A3.out).next hb)
              have A4 := Lib.hid ((Below.refl v4.heap.size v4).alloc (Nat.le_refl _) (.cells #[.int .u8 0, .string { data := #[] }, .string { data := #[] }, .int .i64 0, .bool false] 24))
              have cx4 : v4.cell? ⟨g, 2 + q, none⟩ = some (.string (str x)) := (show 0 + (q + 2) = 2 + q by omega) ▸ R4.out.ps.2 (q + 2) x HX.out
              have hg4 : g < v4.heap.size := R4.out.ps.1
              have k0 : v4.cell? ⟨w1.heap.size, 0, none⟩ = some (.int .u8 (d.kind : Nat)) := R4.out.p5.cell 0 _ rfl
              have k1 : v4.cell? ⟨w1.heap.size, 1, none⟩ = some (.string (str d.name)) := R4.out.p5.cell 1 _ rfl
              have k2 : v4.cell? ⟨w1.heap.size, 2, none⟩ = some (.string (str d.pool)) := R4.out.p5.cell 2 _ rfl
              have k3 : v4.cell? ⟨w1.heap.size, 3, none⟩ = some (.int .i64 d.size) := R4.out.p5.cell 3 _ rfl
              have k4 : v4.cell? ⟨w1.heap.size, 4, none⟩ = some (.bool d.opn) := R4.out.p5.cell 4 _ rfl
              have m0 : v4.cell? ⟨v1.heap.size, 0, none⟩ = some (.int .u8 (d.kind : Nat)) := B14.out.cell 0 _ rfl
              have m1 : v4.cell? ⟨v1.heap.size, 1, none⟩ = some (.string (str d.name)) := B14.out.cell 1 _ rfl
              have m2 : v4.cell? ⟨v1.heap.size, 2, none⟩ = some (.string (str d.pool)) := B14.out.cell 2 _ rfl
              have m3 : v4.cell? ⟨v1.heap.size, 3, none⟩ = some (.int .i64 d.size) := B14.out.cell 3 _ rfl
              have m4 : v4.cell? ⟨v1.heap.size, 4, none⟩ = some (.bool d.opn) := B14.out.cell 4 _ rfl
              have u0 : v4.cell? ⟨v2.heap.size, 0, none⟩ = some (.int .u8 (d.kind : Nat)) := B24.out.cell 0 _ rfl
              have u1 : v4.cell? ⟨v2.heap.size, 1, none⟩ = some (.string (str d.name)) := B24.out.cell 1 _ rfl
              have u2 : v4.cell? ⟨v2.heap.size, 2, none⟩ = some (.string (str d.pool)) := B24.out.cell 2 _ rfl
              have u3 : v4.cell? ⟨v2.heap.size, 3, none⟩ = some (.int .i64 d.size) := B24.out.cell 3 _ rfl
              have u4 : v4.cell? ⟨v2.heap.size, 4, none⟩ = some (.bool false) := B24.out.cell 4 _ rfl
              have l5 := R4.out.p5.lt
              have l13 := B14.out.lt
              have l15 := B24.out.lt
              have hn25 : ¬ v2.heap.size = w1.heap.size := by have := R2.out.p5.lt; omega
              have hn52 : ¬ w1.heap.size = v2.heap.size := by have := R2.out.p5.lt; omega
              have hn15 : ¬ v1.heap.size = w1.heap.size := by have := R1.out.p5.lt; omega
              have hn51 : ¬ w1.heap.size = v1.heap.size := by have := R1.out.p5.lt; omega
              clear hb
              have fz := BoxA.free R4.out.p5 4
              have BT := ((But.refl w1.heap.size v4).setCell 4 (.bool false)).setCell 4 (.bool d.opn)
              have HA := Lib.hid ((R4.out.b.grown BT R4.out.b.size (fun j hj => by cases hj; exact hsz1)).alloc (Nat.le_trans R4.out.b.size BT.size) (.cells #[.int .u8 0, .string { data := #[] }, .string { data := #[] }, .int .i64 0, .bool false] 24))
              clear BT
              go_wp2_with (go_at_call 7; refine (head_any _ (HC.out _ HA.out)).mono ?_; rintro e w5 ⟨rfl, hb⟩; have H5 := Lib.hid (HA.out.trans (hb.mono HA.out.size)); clear hb)
              go_ret
              exact ⟨rfl, H5.out⟩
            · go_wp2_with fail
              refine (CPT.out _ (HC.out _ HR.out.b)).mono ?_
              rintro e v1 ⟨rfl, hb⟩
              have R1 := Lib.hid (HR.out.next hb)
              have B1 := Lib.hid (BoxA.new v1 24 #[.int .u8 (d.kind : Nat), .string (str d.name), .string (str d.pool), .int .i64 d.size, .bool d.opn])
              have A1 := Lib.hid ((Below.refl v1.heap.size v1).alloc (Nat.le_refl _) (.cells #[.int .u8 (d.kind : Nat), .string (str d.name), .string (str d.pool), .int .i64 d.size, .bool d.opn] 24))
              clear hb
              go_wp2_with fail
              refine (CL.out _ (HC.out _ (R1.out.next A1.out).b)).mono ?_
              rintro e v2 ⟨rfl, hb⟩
              have R2 := Lib.hid ((R1.out.next A1.out).next hb)
              have B12 := Lib.hid (B1.out.next hb)
              have B2 := Lib.hid (BoxA.new v2 24 #[.int .u8 (d.kind : Nat), .string (str d.name), .string (str d.pool), .int .i64 d.size, .bool false])
              have A2 := Lib.hid ((Below.refl v2.heap.size v2).alloc (Nat.le_refl _) (.cells #[.int .u8 (d.kind : Nat), .string (str d.name), .string (str d.pool), .int .i64 d.size, .bool false] 24))
              have cx2 : v2.cell? ⟨g, 2 + q, none⟩ = some (.string (str x)) := (show 0 + (q + 2) = 2 + q by omega) ▸ R2.out.ps.2 (q + 2) x HX.out
              have hg2 : g < v2.heap.size := R2.out.ps.1
              clear hb
              go_wp2_with fail
              rw [add_blank]
              refine (HTW.out _ (HC.out _ (R2.out.next A2.out).b)).mono ?_
              rintro e v3 ⟨rfl, hb⟩
              have R3 := Lib.hid ((R2.out.next A2.out).next hb)
              have B13 := Lib.hid ((B12.out.next A2.out).next hb)
              have B23 := Lib.hid (B2.out.next hb)
              have A3 := Lib.hid ((Below.refl v3.heap.size v3).alloc (Nat.le_refl _) (.cells #[.int .u8 0, .string { data := #[] }, .string { data := #[] }, .int .i64 0, .bool false] 24))
              clear hb cx2 hg2
              go_wp2_with fail
              rw [add_one]
              refine (HBL.out _ (HC.out _ (R3.out.next A3.out).b)).mono ?_
              rintro e v4 ⟨rfl, hb⟩
              have R4 := Lib.hid ((R3.out.next A3.out).next hb)
              have B14 := Lib.hid ((B13.out.next A3.out).next hb)
              have B24 := Lib.hid ((B23.out.next A3.out).next hb)
              have A4 := Lib.hid ((Below.refl v4.heap.size v4).alloc (Nat.le_refl _) (.cells #[.int .u8 0, .string { data := #[] }, .string { data := #[] }, .int .i64 0, .bool false] 24))
              have cx4 : v4.cell? ⟨g, 2 + q, none⟩ = some (.string (str x)) := (show 0 + (q + 2) = 2 + q by omega) ▸ R4.out.ps.2 (q + 2) x HX.out
              have hg4 : g < v4.heap.size := R4.out.ps.1
              have k0 : v4.cell? ⟨w1.heap.size, 0, none⟩ = some (.int .u8 (d.kind : Nat)) := R4.out.p5.cell 0 _ rfl
              have k1 : v4.cell? ⟨w1.heap.size, 1, none⟩ = some (.string (str d.name)) := R4.out.p5.cell 1 _ rfl
              have k2 : v4.cell? ⟨w1.heap.size, 2, none⟩ = some (.string (str d.pool)) := R4.out.p5.cell 2 _ rfl
              have k3 : v4.cell? ⟨w1.heap.size, 3, none⟩ = some (.int .i64 d.size) := R4.out.p5.cell 3 _ rfl
              have k4 : v4.cell? ⟨w1.heap.size, 4, none⟩ = some (.bool d.opn) := R4.out.p5.cell 4 _ rfl
              have m0 : v4.cell? ⟨v1.heap.size, 0, none⟩ = some (.int .u8 (d.kind : Nat)) := B14.out.cell 0 _ rfl
              have m1 : v4.cell? ⟨v1.heap.size, 1, none⟩ = some (.string (str d.name)) := B14.out.cell 1 _ rfl
              have m2 : v4.cell? ⟨v1.heap.size, 2, none⟩ = some (.string (str d.pool)) := B14.out.cell 2 _ rfl
              have m3 : v4.cell? ⟨v1.heap.size, 3, none⟩ = some (.int .i64 d.size) := B14.out.cell 3 _ rfl
              have m4 : v4.cell? ⟨v1.heap.size, 4, none⟩ = some (.bool d.opn) := B14.out.cell 4 _ rfl
              have u0 : v4.cell? ⟨v2.heap.size, 0, none⟩ = some (.int .u8 (d.kind : Nat)) := B24.out.cell 0 _ rfl
              have u1 : v4.cell? ⟨v2.heap.size, 1, none⟩ = some (.string (str d.name)) := B24.out.cell 1 _ rfl
              have u2 : v4.cell? ⟨v2.heap.size, 2, none⟩ = some (.string (str d.pool)) := B24.out.cell 2 _ rfl
              have u3 : v4.cell? ⟨v2.heap.size, 3, none⟩ = some (.int .i64 d.size) := B24.out.cell 3 _ rfl
              have u4 : v4.cell? ⟨v2.heap.size, 4, none⟩ = some (.bool false) := B24.out.cell 4 _ rfl
              have l5 := R4.out.p5.lt
              have l13 := B14.out.lt
              have l15 := B24.out.lt
              have hn25 : ¬ v2.heap.size = w1.heap.size := by have := R2.out.p5.lt; omega
              have hn52 : ¬ w1.heap.size = v2.heap.size := by have := R2.out.p5.lt; omega
              have hn15 : ¬ v1.heap.size = w1.heap.size := by have := R1.out.p5.lt; omega
              have hn51 : ¬ w1.heap.size = v1.heap.size := by have := R1.out.p5.lt; omega
              clear hb
              have fz := BoxA.free R4.out.p5 4
              have BT := ((But.refl w1.heap.size v4).setCell 4 (.bool false)).setCell 4 (.bool d.opn)
              have HA := Lib.hid ((R4.out.b.grown BT R4.out.b.size (fun j hj => by cases hj; exact hsz1)).alloc (Nat.le_trans R4.out.b.size BT.size) (.cells #[.int .u8 0, .string { data := #[] }, .string { data := #[] }, .int .i64 0, .bool false] 24))
              clear BT
              go_wp2_with (go_at_call 7; refine (head_any _ (HC.out _ HA.out)).mono ?_; rintro e w5 ⟨rfl, hb⟩; have H5 := Lib.hid (HA.out.trans (hb.mono HA.out.size)); clear hb)
              go_ret
              exact ⟨rfl, H5.out⟩
            · go_wp2_with fail
              refine (CPT.out _ (HC.out _ HR.out.b)).mono ?_
              rintro e v1 ⟨rfl, hb⟩
              have R1 := Lib.hid (HR.out.next hb)
              have B1 := Lib.hid (BoxA.new v1 24 #[.int .u8 (d.kind : Nat), .string (str d.name), .string (str d.pool), .int .i64 d.size, .bool d.opn])
              have A1 := Lib.hid ((Below.refl v1.heap.size v1).alloc (Nat.le_refl _) (.cells #[.int .u8 (d.kind : Nat), .string (str d.name), .string (str d.pool), .int .i64 d.size, .bool d.opn] 24))
              clear hb
              go_wp2_with fail
              refine (CL.out _ (HC.out _ (R1.out.next A1.out).b)).mono ?_
              rintro e v2 ⟨rfl, hb⟩
              have R2 := Lib.hid ((R1.out.next A1.out).next hb)
              have B12 := Lib.hid (B1.out.next hb)
              have B2 := Lib.hid (BoxA.new v2 24 #[.int .u8 (d.kind : Nat), .string (str d.name), .string (str d.pool), .int .i64 d.size, .bool false])
              have A2 := Lib.hid ((Below.refl v2.heap.size v2).alloc (Nat.le_refl _) (.cells #[.int .u8 (d.kind : Nat), .string (str d.name), .string (str d.pool), .int .i64 d.size, .bool false] 24))
              have cx2 : v2.cell? ⟨g, 2 + q, none⟩ = some (.string (str x)) := (show 0 + (q + 2) = 2 + q by omega) ▸ R2.out.ps.2 (q + 2) x HX.out
              have hg2 : g < v2.heap.size := R2.out.ps.1
              clear hb
              go_wp2_with fail
              rw [add_blank]
              refine (HTW.out _ (HC.out _ (R2.out.next A2.out).b)).mono ?_
              rintro e v3 ⟨rfl, hb⟩
              have R3 := Lib.hid ((R2.out.next A2.out).next hb)
              have B13 := Lib.hid ((B12.out.next A2.out).next hb)
              have B23 := Lib.hid (B2.out.next hb)
              have A3 := Lib.hid ((Below.refl v3.heap.size v3).alloc (Nat.le_refl _) (.cells #[.int .u8 0, .string { data := #[] }, .string { data := #[] }, .int .i64 0, .bool false] 24))
              clear hb cx2 hg2
              go_wp2_with fail
              rw [add_one]
              refine (HBL.out _ (HC.out _ (R3.out.next A3.out).b)).mono ?_
              rintro e v4 ⟨rfl, hb⟩
              have R4 := Lib.hid ((R3.out.next A3.out).next hb)
              have B14 := Lib.hid ((B13.out.next A3.out).next hb)
              have B24 := Lib.hid ((B23.out.next A3.out).next hb)
              have A4 := Lib.hid ((Below.refl v4.heap.size v4).alloc (Nat.le_refl _) (.cells #[.int .u8 0, .string { data := #[] }, .string { data := #[] }, .int .i64 0, .bool false] 24))
              have cx4 : v4.cell? ⟨g, 2 + q, none⟩ = some (.string (str x)) := (show 0 + (q + 2) = 2 + q by omega) ▸ R4.out.ps.2 (q + 2) x HX.out
              have hg4 : g < v4.heap.size := R4.out.ps.1
              have k0 : v4.cell? ⟨w1.heap.size, 0, none⟩ = some (.int .u8 (d.kind : Nat)) := R4.out.p5.cell 0 _ rfl
              have k1 : v4.cell? ⟨w1.heap.size, 1, none⟩ = some (.string (str d.name)) := R4.out.p5.cell 1 _ rfl
              have k2 : v4.cell? ⟨w1.heap.size, 2, none⟩ = some (.string (str d.pool)) := R4.out.p5.cell 2 _ rfl
              have k3 : v4.cell? ⟨w1.heap.size, 3, none⟩ = some (.int .i64 d.size) := R4.out.p5.cell 3 _ rfl
              have k4 : v4.cell? ⟨w1.heap.size, 4, none⟩ = some (.bool d.opn) := R4.out.p5.cell 4 _ rfl
              have m0 : v4.cell? ⟨v1.heap.size, 0, none⟩ = some (.int .u8 (d.kind : Nat)) := B14.out.cell 0 _ rfl
              have m1 : v4.cell? ⟨v1.heap.size, 1, none⟩ = some (.string (str d.name)) := B14.out.cell 1 _ rfl
              have m2 : v4.cell? ⟨v1.heap.size, 2, none⟩ = some (.string (str d.pool)) := B14.out.cell 2 _ rfl
              have m3 : v4.cell? ⟨v1.heap.size, 3, none⟩ = some (.int .i64 d.size) := B14.out.cell 3 _ rfl
              have m4 : v4.cell? ⟨v1.heap.size, 4, none⟩ = some (.bool d.opn) := B14.out.cell 4 _ rfl
              have u0 : v4.cell? ⟨v2.heap.size, 0, none⟩ = some (.int .u8 (d.kind : Nat)) := B24.out.cell 0 _ rfl
              have u1 : v4.cell? ⟨v2.heap.size, 1, none⟩ = some (.string (str d.name)) := B24.out.cell 1 _ rfl
              have u2 : v4.cell? ⟨v2.heap.size, 2, none⟩ = some (.string (str d.pool)) := B24.out.cell 2 _ rfl
              have u3 : v4.cell? ⟨v2.heap.size, 3, none⟩ = some (.int .i64 d.size) := B24.out.cell 3 _ rfl
              have u4 : v4.cell? ⟨v2.heap.size, 4, none⟩ = some (.bool false) := B24.out.cell 4 _ rfl
              have l5 := R4.out.p5.lt
              have l13 := B14.out.lt
              have l15 := B24.out.lt
              have hn25 : ¬ v2.heap.size = w1.heap.size := by have := R2.out.p5.lt; omega
              have hn52 : ¬ w1.heap.size = v2.heap.size := by have := R2.out.p5.lt; omega
              have hn15 : ¬ v1.heap.size = w1.heap.size := by have := R1.out.p5.lt; omega
              have hn51 : ¬ w1.heap.size = v1.heap.size := by have := R1.out.p5.lt; omega
              clear hb
              have fz := BoxA.free R4.out.p5 4
              have BT := ((But.refl w1.heap.size v4).setCell 4 (.bool false)).setCell 4 (.bool d.opn)
              have HA := Lib.hid ((R4.out.b.grown BT R4.out.b.size (fun j hj => by cases hj; exact hsz1)).alloc (Nat.le_trans R4.out.b.size BT.size) (.cells #[.int .u8 0, .string { data := #[] }, .string { data := #[] }, .int .i64 0, .bool false] 24))
              clear BT
              go_wp2_with (go_at_call 7; refine (head_any _ (HC.out _ HA.out)).mono ?_; rintro e w5 ⟨rfl, hb⟩; have H5 := Lib.hid (HA.out.trans (hb.mono HA.out.size)); clear hb)
              go_ret
              exact ⟨rfl, H5.out⟩
            · go_wp2_with fail
              refine (CPT.out _ (HC.out _ HR.out.b)).mono ?_
              rintro e v1 ⟨rfl, hb⟩
              have R1 := Lib.hid (HR.out.next hb)
              have B1 := Lib.hid (BoxA.new v1 24 #[.int .u8 (d.kind : Nat), .string (str d.name), .string (str d.pool), .int .i64 d.size, .bool d.opn])
              have A1 := Lib.hid ((Below.refl v1.heap.size v1).alloc (Nat.le_refl _) (.cells #[.int .u8 (d.kind : Nat), .string (str d.name), .string (str d.pool), .int .i64 d.size, .bool d.opn] 24))
              clear hb
              go_wp2_with fail
              refine (CL.out _ (HC.out _ (R1.out.next A1.out).b)).mono ?_
              rintro e v2 ⟨rfl, hb⟩
              have R2 := Lib.hid ((R1.out.next A1.out).next hb)
              have B12 := Lib.hid (B1.out.next hb)
              have B2 := Lib.hid (BoxA.new v2 24 #[.int .u8 (d.kind : Nat), .string (str d.name), .string (str d.pool), .int .i64 d.size, .bool false])
              have A2 := Lib.hid ((Below.refl v2.heap.size v2).alloc (Nat.le_refl _) (.cells #[.int .u8 (d.kind : Nat), .string (str d.name), .string (str d.pool), .int .i64 d.size, .bool false] 24))
              have cx2 : v2.cell? ⟨g, 2 + q, none⟩ = some (.string (str x)) := (show 0 + (q + 2) = 2 + q by omega) ▸ R2.out.ps.2 (q + 2) x HX.out
              have hg2 : g < v2.heap.size := R2.out.ps.1
              clear hb
              go_wp2_with fail
              rw [add_blank]
              refine (HTW.out _ (HC.out _ (R2.out.next A2.out).b)).mono ?_
              rintro e v3 ⟨rfl, hb⟩
              have R3 := Lib.hid ((R2.out.next A2.out).next hb)
              have B13 := Lib.hid ((B12.out.next A2.out).next hb)
              have B23 := Lib.hid (B2.out.next hb)
              have A3 := Lib.hid ((Below.refl v3.heap.size v3).alloc (Nat.le_refl _) (.cells #[.int .u8 0, .string { data := #[] }, .string { data := #[] }, .int .i64 0, .bool false] 24))
              clear hb cx2 hg2
              go_wp2_with fail
              rw [add_one]
              refine (HBL.out _ (HC.out _ (R3.out.next A3.out).b)).mono ?_
              rintro e v4 ⟨rfl, hb⟩
              have R4 := Lib.hid ((R3.out.next A3.out).next hb)
              have B14 := Lib.hid ((B13.out.next A3.out).next hb)
              have B24 := Lib.hid ((B23.out.next A3.out).next hb)
              have A4 := Lib.hid ((Below.refl v4.heap.size v4).alloc (Nat.le_refl _) (.cells #[.int .u8 0, .string { data := #[] }, .string { data := #[] }, .int .i64 0, .bool false] 24))
              have cx4 : v4.cell? ⟨g, 2 + q, none⟩ = some (.string (str x)) := (show 0 + (q + 2) = 2 + q by omega) ▸ R4.out.ps.2 (q + 2) x HX.out
              have hg4 : g < v4.heap.size := R4.out.ps.1
              have k0 : v4.cell? ⟨w1.heap.size, 0, none⟩ = some (.int .u8 (d.kind : Nat)) := R4.out.p5.cell 0 _ rfl
              have k1 : v4.cell? ⟨w1.heap.size, 1, none⟩ = some (.string (str d.name)) := R4.out.p5.cell 1 _ rfl
              have k2 : v4.cell? ⟨w1.heap.size, 2, none⟩ = some (.string (str d.pool)) := R4.out.p5.cell 2 _ rfl
              have k3 : v4.cell? ⟨w1.heap.size, 3, none⟩ = some (.int .i64 d.size) := R4.out.p5.cell 3 _ rfl
              have k4 : v4.cell? ⟨w1.heap.size, 4, none⟩ = some (.bool d.opn) := R4.out.p5.cell 4 _ rfl
              have m0 : v4.cell? ⟨v1.heap.size, 0, none⟩ = some (.int .u8 (d.kind : Nat)) := B14.out.cell 0 _ rfl
              have m1 : v4.cell? ⟨v1.heap.size, 1, none⟩ = some (.string (str d.name)) := B14.out.cell 1 _ rfl
              have m2 : v4.cell? ⟨v1.heap.size, 2, none⟩ = some (.string (str d.pool)) := B14.out.cell 2 _ rfl
              have m3 : v4.cell? ⟨v1.heap.size, 3, none⟩ = some (.int .i64 d.size) := B14.out.cell 3 _ rfl
              have m4 : v4.cell? ⟨v1.heap.size, 4, none⟩ = some (.bool d.opn) := B14.out.cell 4 _ rfl
              have u0 : v4.cell? ⟨v2.heap.size, 0, none⟩ = some (.int .u8 (d.kind : Nat)) := B24.out.cell 0 _ rfl
              have u1 : v4.cell? ⟨v2.heap.size, 1, none⟩ = some (.string (str d.name)) := B24.out.cell 1 _ rfl
              have u2 : v4.cell? ⟨v2.heap.size, 2, none⟩ = some (.string (str d.pool)) := B24.out.cell 2 _ rfl
              have u3 : v4.cell? ⟨v2.heap.size, 3, none⟩ = some (.int .i64 d.size) := B24.out.cell 3 _ rfl
              have u4 : v4.cell? ⟨v2.heap.size, 4, none⟩ = some (.bool false) := B24.out.cell 4 _ rfl
              have l5 := R4.out.p5.lt
              have l13 := B14.out.lt
              have l15 := B24.out.lt
              have hn25 : ¬ v2.heap.size = w1.heap.size := by have := R2.out.p5.lt; omega
              have hn52 : ¬ w1.heap.size = v2.heap.size := by have := R2.out.p5.lt; omega
              have hn15 : ¬ v1.heap.size = w1.heap.size := by have := R1.out.p5.lt; omega
              have hn51 : ¬ w1.heap.size = v1.heap.size := by have := R1.out.p5.lt; omega
              clear hb
              have fz := BoxA.free R4.out.p5 4
              have BT := ((But.refl w1.heap.size v4).setCell 4 (.bool false)).setCell 4 (.bool d.opn)
              have HA := Lib.hid ((R4.out.b.grown BT R4.out.b.size (fun j hj => by cases hj; exact hsz1)).alloc (Nat.le_trans R4.out.b.size BT.size) (.cells #[.int .u8 0, .string { data := #[] }, .string { data := #[] }, .int .i64 0, .bool false] 24))
              clear BT
              go_wp2_with (go_at_call 7; refine (head_any _ (HC.out _ HA.out)).mono ?_; rintro e w5 ⟨rfl, hb⟩; have H5 := Lib.hid (HA.out.trans (hb.mono HA.out.size)); clear hb)
              go_ret
              exact ⟨rfl, H5.out⟩
          | false =>
            have CL := Lib.hid (show ∀ W, LaidD W → Calls Tryd.prog 8 #[.string (str t2)] W (Told (.tuple #[.agg #[.int .u8 0, .string { data := #[] }, .string { data := #[] }, .int .i64 0, .bool false], .int .i64 140]) W) from CPL.out)
            have hqq := HQ.out
            have yt := HNO.out rfl
            by_cases y7 : 7 < x.length
            · have s7 := hsl7 y7
              have z7 : 7 < (str x).size := by rw [HXZ.out]; exact y7
              obtain ⟨x7, hx7⟩ : ∃ y, x.take 7 = y := ⟨_, rfl⟩
              rw [hx7] at s7 yt
              obtain ⟨q1, q2⟩ := lit_no yt
              unfold accE at q1 q2
              clear hx7 yt y7
              rcases HTWO.out with ⟨rfl | rfl, rfl | rfl⟩
              · go_wp2_with fail
                refine (CPT.out _ (HC.out _ HR.out.b)).mono ?_
                rintro e v1 ⟨rfl, hb⟩
                have R1 := Lib.hid (HR.out.next hb)
                have B1 := Lib.hid (BoxA.new v1 24 #[.int .u8 (d.kind : Nat), .string (str d.name), .string (str d.pool), .int .i64 d.size, .bool d.opn])
                have A1 := Lib.hid ((Below.refl v1.heap.size v1).alloc (Nat.le_refl _) (.cells #[.int .u8 (d.kind : Nat), .string (str d.name), .string (str d.pool), .int .i64 d.size, .bool d.opn] 24))
                clear hb
                go_wp2_with fail
                refine (CL.out _ (HC.out _ (R1.out.next A1.out).b)).mono ?_
                rintro e v2 ⟨rfl, hb⟩
                have R2 := Lib.hid ((R1.out.next A1.out).next hb)
                have B12 := Lib.hid (B1.out.next hb)
                have B2 := Lib.hid (BoxA.new v2 24 #[.int .u8 0, .string { data := #[] }, .string { data := #[] }, .int .i64 0, .bool false])
                have A2 := Lib.hid ((Below.refl v2.heap.size v2).alloc (Nat.le_refl _) (.cells #[.int .u8 0, .string { data := #[] }, .string { data := #[] }, .int .i64 0, .bool false] 24))
                have cx2 : v2.cell? ⟨g, 2 + q, none⟩ = some (.string (str x)) := (show 0 + (q + 2) = 2 + q by omega) ▸ R2.out.ps.2 (q + 2) x HX.out
                have hg2 : g < v2.heap.size := R2.out.ps.1
                clear hb
                go_wp2_with fail
                rw [add_blank]
                refine (HTW.out _ (HC.out _ (R2.out.next A2.out).b)).mono ?_
                rintro e v3 ⟨rfl, hb⟩
                have R3 := Lib.hid ((R2.out.next A2.out).next hb)
                have B13 := Lib.hid ((B12.out.next A2.out).next hb)
                have B23 := Lib.hid (B2.out.next hb)
                have A3 := Lib.hid ((Below.refl v3.heap.size v3).alloc (Nat.le_refl _) (.cells #[.int .u8 0, .string { data := #[] }, .string { data := #[] }, .int .i64 0, .bool false] 24))
                clear hb cx2 hg2
                go_wp2_with fail
                rw [add_one]
                refine (HBL.out _ (HC.out _ (R3.out.next A3.out).b)).mono ?_
                rintro e v4 ⟨rfl, hb⟩
                have R4 := Lib.hid ((R3.out.next A3.out).next hb)
                have B14 := Lib.hid ((B13.out.next A3.out).next hb)
                have B24 := Lib.hid ((B23.out.next A3.out).next hb)
                have A4 := Lib.hid ((Below.refl v4.heap.size v4).alloc (Nat.le_refl _) (.cells #[.int .u8 0, .string { data := #[] }, .string { data := #[] }, .int .i64 0, .bool false] 24))
                have cx4 : v4.cell? ⟨g, 2 + q, none⟩ = some (.string (str x)) := (show 0 + (q + 2) = 2 + q by omega) ▸ R4.out.ps.2 (q + 2) x HX.out
                have hg4 : g < v4.heap.size := R4.out.ps.1
                have k0 : v4.cell? ⟨w1.heap.size, 0, none⟩ = some (.int .u8 (d.kind : Nat)) := R4.out.p5.cell 0 _ rfl
                have k1 : v4.cell? ⟨w1.heap.size, 1, none⟩ = some (.string (str d.name)) := R4.out.p5.cell 1 _ rfl
                have k2 : v4.cell? ⟨w1.heap.size, 2, none⟩ = some (.string (str d.pool)) := R4.out.p5.cell 2 _ rfl
                have k3 : v4.cell? ⟨w1.heap.size, 3, none⟩ = some (.int .i64 d.size) := R4.out.p5.cell 3 _ rfl
                have k4 : v4.cell? ⟨w1.heap.size, 4, none⟩ = some (.bool d.opn) := R4.out.p5.cell 4 _ rfl
                have m0 : v4.cell? ⟨v1.heap.size, 0, none⟩ = some (.int .u8 (d.kind : Nat)) := B14.out.cell 0 _ rfl
                have m1 : v4.cell? ⟨v1.heap.size, 1, none⟩ = some (.string (str d.name)) := B14.out.cell 1 _ rfl
                have m2 : v4.cell? ⟨v1.heap.size, 2, none⟩ = some (.string (str d.pool)) := B14.out.cell 2 _ rfl
                have m3 : v4.cell? ⟨v1.heap.size, 3, none⟩ = some (.int .i64 d.size) := B14.out.cell 3 _ rfl
                have m4 : v4.cell? ⟨v1.heap.size, 4, none⟩ = some (.bool d.opn) := B14.out.cell 4 _ rfl
                have l5 := R4.out.p5.lt
                have l13 := B14.out.lt
                have l15 := B24.out.lt
                have hn25 : ¬ v2.heap.size = w1.heap.size := by have := R2.out.p5.lt; omega
                have hn52 : ¬ w1.heap.size = v2.heap.size := by have := R2.out.p5.lt; omega
                have hn15 : ¬ v1.heap.size = w1.heap.size := by have := R1.out.p5.lt; omega
                have hn51 : ¬ w1.heap.size = v1.heap.size := by have := R1.out.p5.lt; omega
                clear hb
                have fz := BoxA.free R4.out.p5 4
                have HA := Lib.hid (R4.out.next A4.out).b
                go_wp2_with (go_at_call 7; refine (head_any _ (HC.out _ HA.out)).mono ?_; rintro e w5 ⟨rfl, hb⟩; have H5 := Lib.hid (HA.out.trans (hb.mono HA.out.size)); clear hb)
                go_ret
                exact ⟨rfl, H5.out⟩
              · go_wp2_with fail
                refine (CPT.out _ (HC.out _ HR.out.b)).mono ?_
                rintro e v1 ⟨rfl, hb⟩
                have R1 := Lib.hid (HR.out.next hb)
                have B1 := Lib.hid (BoxA.new v1 24 #[.int .u8 (d.kind : Nat), .string (str d.name), .string (str d.pool), .int .i64 d.size, .bool d.opn])
                have A1 := Lib.hid ((Below.refl v1.heap.size v1).alloc (Nat.le_refl _) (.cells #[.int .u8 (d.kind : Nat), .string (str d.name), .string (str d.pool), .int .i64 d.size, .bool d.opn] 24))
                clear hb
                go_wp2_with fail
                refine (CL.out _ (HC.out _ (R1.out.next A1.out).b)).mono ?_
                rintro e v2 ⟨rfl, hb⟩
                have R2 := Lib.hid ((R1.out.next A1.out).next hb)
                have B12 := Lib.hid (B1.out.next hb)
                have B2 := Lib.hid (BoxA.new v2 24 #[.int .u8 0, .string { data := #[] }, .string { data := #[] }, .int .i64 0, .bool false])
                have A2 := Lib.hid ((Below.refl v2.heap.size v2).alloc (Nat.le_refl _) (.cells #[.int .u8 0, .string { data := #[] }, .string { data := #[] }, .int .i64 0, .bool false] 24))
                have cx2 : v2.cell? ⟨g, 2 + q, none⟩ = some (.string (str x)) := (show 0 + (q + 2) = 2 + q by omega) ▸ R2.out.ps.2 (q + 2) x HX.out
                have hg2 : g < v2.heap.size := R2.out.ps.1
                clear hb
                go_wp2_with fail
                rw [add_blank]
                refine (HTW.out _ (HC.out _ (R2.out.next A2.out).b)).mono ?_
                rintro e v3 ⟨rfl, hb⟩
                have R3 := Lib.hid ((R2.out.next A2.out).next hb)
                have B13 := Lib.hid ((B12.out.next A2.out).next hb)
                have B23 := Lib.hid (B2.out.next hb)
                have A3 := Lib.hid ((Below.refl v3.heap.size v3).alloc (Nat.le_refl _) (.cells #[.int .u8 0, .string { data := #[] }, .string { data := #[] }, .int .i64 0, .bool false] 24))
                clear hb cx2 hg2
                go_wp2_with fail
                rw [add_one]
                refine (HBL.out _ (HC.out _ (R3.out.next A3.out).b)).mono ?_
                rintro e v4 ⟨rfl, hb⟩
                have R4 := Lib.hid ((R3.out.next A3.out).next hb)
                have B14 := Lib.hid ((B13.out.next A3.out).next hb)
                have B24 := Lib.hid ((B23.out.next A3.out).next hb)
                have A4 := Lib.hid ((Below.refl v4.heap.size v4).alloc (Nat.le_refl _) (.cells #[.int .u8 0, .string { data := #[] }, .string { data := #[] }, .int .i64 0, .bool false] 24))
                have cx4 : v4.cell? ⟨g, 2 + q, none⟩ = some (.string (str x)) := (show 0 + (q + 2) = 2 + q by omega) ▸ R4.out.ps.2 (q + 2) x HX.out
                have hg4 : g < v4.heap.size := R4.out.ps.1
                have k0 : v4.cell? ⟨w1.heap.size, 0, none⟩ = some (.int .u8 (d.kind : Nat)) := R4.out.p5.cell 0 _ rfl
                have k1 : v4.cell? ⟨w1.heap.size, 1, none⟩ = some (.string (str d.name)) := R4.out.p5.cell 1 _ rfl
                have k2 : v4.cell? ⟨w1.heap.size, 2, none⟩ = some (.string (str d.pool)) := R4.out.p5.cell 2 _ rfl
                have k3 : v4.cell? ⟨w1.heap.size, 3, none⟩ = some (.int .i64 d.size) := R4.out.p5.cell 3 _ rfl
                have k4 : v4.cell? ⟨w1.heap.size, 4, none⟩ = some (.bool d.opn) := R4.out.p5.cell 4 _ rfl
                have m0 : v4.cell? ⟨v1.heap.size, 0, none⟩ = some (.int .u8 (d.kind : Nat)) := B14.out.cell 0 _ rfl
                have m1 : v4.cell? ⟨v1.heap.size, 1, none⟩ = some (.string (str d.name)) := B14.out.cell 1 _ rfl
                have m2 : v4.cell? ⟨v1.heap.size, 2, none⟩ = some (.string (str d.pool)) := B14.out.cell 2 _ rfl
                have m3 : v4.cell? ⟨v1.heap.size, 3, none⟩ = some (.int .i64 d.size) := B14.out.cell 3 _ rfl
                have m4 : v4.cell? ⟨v1.heap.size, 4, none⟩ = some (.bool d.opn) := B14.out.cell 4 _ rfl
                have l5 := R4.out.p5.lt
                have l13 := B14.out.lt
                have l15 := B24.out.lt
                have hn25 : ¬ v2.heap.size = w1.heap.size := by have := R2.out.p5.lt; omega
                have hn52 : ¬ w1.heap.size = v2.heap.size := by have := R2.out.p5.lt; omega
                have hn15 : ¬ v1.heap.size = w1.heap.size := by have := R1.out.p5.lt; omega
                have hn51 : ¬ w1.heap.size = v1.heap.size := by have := R1.out.p5.lt; omega
                clear hb
                have fz := BoxA.free R4.out.p5 4
                have HA := Lib.hid (R4.out.next A4.out).b
                go_wp2_with (go_at_call 7; refine (head_any _ (HC.out _ HA.out)).mono ?_; rintro e w5 ⟨rfl, hb⟩; have H5 := Lib.hid (HA.out.trans (hb.mono HA.out.size)); clear hb)
                go_ret
                exact ⟨rfl, H5.out⟩
              · go_wp2_with fail
                refine (CPT.out _ (HC.out _ HR.out.b)).mono ?_
                rintro e v1 ⟨rfl, hb⟩
                have R1 := Lib.hid (HR.out.next hb)
                have B1 := Lib.hid (BoxA.new v1 24 #[.int .u8 (d.kind : Nat), .string (str d.name), .string (str d.pool), .int .i64 d.size, .bool d.opn])
                have A1 := Lib.hid ((Below.refl v1.heap.size v1).alloc (Nat.le_refl _) (.cells #[.int .u8 (d.kind : Nat), .string (str d.name), .string (str d.pool), .int .i64 d.size, .bool d.opn] 24))
                clear hb
                go_wp2_with fail
                refine (CL.out _ (HC.out _ (R1.out.next A1.out).b)).mono ?_
                rintro e v2 ⟨rfl, hb⟩
                have R2 := Lib.hid ((R1.out.next A1.out).next hb)
                have B12 := Lib.hid (B1.out.next hb)
                have B2 := Lib.hid (BoxA.new v2 24 #[.int .u8 0, .string { data := #[] }, .string { data := #[] }, .int .i64 0, .bool false])
                have A2 := Lib.hid ((Below.refl v2.heap.size v2).alloc (Nat.le_refl _) (.cells #[.int .u8 0, .string { data := #[] }, .string { data := #[] }, .int .i64 0, .bool false] 24))
                have cx2 : v2.cell? ⟨g, 2 + q, none⟩ = some (.string (str x)) := (show 0 + (q + 2) = 2 + q by omega) ▸ R2.out.ps.2 (q + 2) x HX.out
                have hg2 : g < v2.heap.size := R2.out.ps.1
                clear hb
                go_wp2_with fail
                rw [add_blank]
                refine (HTW.out _ (HC.out _ (R2.out.next A2.out).b)).mono ?_
                rintro e v3 ⟨rfl, hb⟩
                have R3 := Lib.hid ((R2.out.next A2.out).next hb)
                have B13 := Lib.hid ((B12.out.next A2.out).next hb)
                have B23 := Lib.hid (B2.out.next hb)
                have A3 := Lib.hid ((Below.refl v3.heap.size v3).alloc (Nat.le_refl _) (.cells #[.int .u8 0, .string { data := #[] }, .string { data := #[] }, .int .i64 0, .bool false] 24))
                clear hb cx2 hg2
                go_wp2_with fail
                rw [add_one]
                refine (HBL.out _ (HC.out _ (R3.out.next A3.out).b)).mono ?_
                rintro e v4 ⟨rfl, hb⟩
                have R4 := Lib.hid ((R3.out.next A3.out).next hb)
                have B14 := Lib.hid ((B13.out.next A3.out).next hb)
                have B24 := Lib.hid ((B23.out.next A3.out).next hb)
                have A4 := Lib.hid ((Below.refl v4.heap.size v4).alloc (Nat.le_refl _) (.cells #[.int .u8 0, .string { data := #[] }, .string { data := #[] }, .int .i64 0, .bool false] 24))
                have cx4 : v4.cell? ⟨g, 2 + q, none⟩ = some (.string (str x)) := (show 0 + (q + 2) = 2 + q by omega) ▸ R4.out.ps.2 (q + 2) x HX.out
                have hg4 : g < v4.heap.size := R4.out.ps.1
                have k0 : v4.cell? ⟨w1.heap.size, 0, none⟩ = some (.int .u8 (d.kind : Nat)) := R4.out.p5.cell 0 _ rfl
                have k1 : v4.cell? ⟨w1.heap.size, 1, none⟩ = some (.string (str d.name)) := R4.out.p5.cell 1 _ rfl
                have k2 : v4.cell? ⟨w1.heap.size, 2, none⟩ = some (.string (str d.pool)) := R4.out.p5.cell 2 _ rfl
                have k3 : v4.cell? ⟨w1.heap.size, 3, none⟩ = some (.int .i64 d.size) := R4.out.p5.cell 3 _ rfl
                have k4 : v4.cell? ⟨w1.heap.size, 4, none⟩ = some (.bool d.opn) := R4.out.p5.cell 4 _ rfl
                have m0 : v4.cell? ⟨v1.heap.size, 0, none⟩ = some (.int .u8 (d.kind : Nat)) := B14.out.cell 0 _ rfl
                have m1 : v4.cell? ⟨v1.heap.size, 1, none⟩ = some (.string (str d.name)) := B14.out.cell 1 _ rfl
                have m2 : v4.cell? ⟨v1.heap.size, 2, none⟩ = some (.string (str d.pool)) := B14.out.cell 2 _ rfl
                have m3 : v4.cell? ⟨v1.heap.size, 3, none⟩ = some (.int .i64 d.size) := B14.out.cell 3 _ rfl
                have m4 : v4.cell? ⟨v1.heap.size, 4, none⟩ = some (.bool d.opn) := B14.out.cell 4 _ rfl
                have l5 := R4.out.p5.lt
                have l13 := B14.out.lt
                have l15 := B24.out.lt
                have hn25 : ¬ v2.heap.size = w1.heap.size := by have := R2.out.p5.lt; omega
                have hn52 : ¬ w1.heap.size = v2.heap.size := by have := R2.out.p5.lt; omega
                have hn15 : ¬ v1.heap.size = w1.heap.size := by have := R1.out.p5.lt; omega
                have hn51 : ¬ w1.heap.size = v1.heap.size := by have := R1.out.p5.lt; omega
                clear hb
                have fz := BoxA.free R4.out.p5 4
                have HA := Lib.hid (R4.out.next A4.out).b
                go_wp2_with (go_at_call 7; refine (head_any _ (HC.out _ HA.out)).mono ?_; rintro e w5 ⟨rfl, hb⟩; have H5 := Lib.hid (HA.out.trans (hb.mono HA.out.size)); clear hb)
                go_ret
                exact ⟨rfl, H5.out⟩
              · go_wp2_with fail
                refine (CPT.out _ (HC.out _ HR.out.b)).mono ?_
                rintro e v1 ⟨rfl, hb⟩
                have R1 := Lib.hid (HR.out.next hb)
                have B1 := Lib.hid (BoxA.new v1 24 #[.int .u8 (d.kind : Nat), .string (str d.name), .string (str d.pool), .int .i64 d.size, .bool d.opn])
                have A1 := Lib.hid ((Below.refl v1.heap.size v1).alloc (Nat.le_refl _) (.cells #[.int .u8 (d.kind : Nat), .string (str d.name), .string (str d.pool), .int .i64 d.size, .bool d.opn] 24))
                clear hb
                go_wp2_with fail
                refine (CL.out _ (HC.out _ (R1.out.next A1.out).b)).mono ?_
                rintro e v2 ⟨rfl, hb⟩
                have R2 := Lib.hid ((R1.out.next A1.out).next hb)
                have B12 := Lib.hid (B1.out.next hb)
                have B2 := Lib.hid (BoxA.new v2 24 #[.int .u8 0, .string { data := #[] }, .string { data := #[] }, .int .i64 0, .bool false])
                have A2 := Lib.hid ((Below.refl v2.heap.size v2).alloc (Nat.le_refl _) (.cells #[.int .u8 0, .string { data := #[] }, .string { data := #[] }, .int .i64 0, .bool false] 24))
                have cx2 : v2.cell? ⟨g, 2 + q, none⟩ = some (.string (str x)) := (show 0 + (q + 2) = 2 + q by omega) ▸ R2.out.ps.2 (q + 2) x HX.out
                have hg2 : g < v2.heap.size := R2.out.ps.1
                clear hb
                go_wp2_with fail
                rw [add_blank]
                refine (HTW.out _ (HC.out _ (R2.out.next A2.out).b)).mono ?_
                rintro e v3 ⟨rfl, hb⟩
                have R3 := Lib.hid ((R2.out.next A2.out).next hb)
                have B13 := Lib.hid ((B12.out.next A2.out).next hb)
                have B23 := Lib.hid (B2.out.next hb)
                have A3 := Lib.hid ((Below.refl v3.heap.size v3).alloc (Nat.le_refl _) (.cells #[.int .u8 0, .string { data := #[] }, .string { data := #[] }, .int .i64 0, .bool false] 24))
                clear hb cx2 hg2
                go_wp2_with fail
                rw [add_one]
                refine (HBL.out _ (HC.out _ (R3.out.next A3.out).b)).mono ?_
                rintro e v4 ⟨rfl, hb⟩
                have R4 := Lib.hid ((R3.out.next A3.out).next hb)
                have B14 := Lib.hid ((B13.out.next A3.out).next hb)
                have B24 := Lib.hid ((B23.out.next A3.out).next hb)
                have A4 := Lib.hid ((Below.refl v4.heap.size v4).alloc (Nat.le_refl _) (.cells #[.int .u8 0, .string { data := #[] }, .string { data := #[] }, .int .i64 0, .bool false] 24))
                have cx4 : v4.cell? ⟨g, 2 + q, none⟩ = some (.string (str x)) := (show 0 + (q + 2) = 2 + q by omega) ▸ R4.out.ps.2 (q + 2) x HX.out
                have hg4 : g < v4.heap.size := R4.out.ps.1
                have k0 : v4.cell? ⟨w1.heap.size, 0, none⟩ = some (.int .u8 (d.kind : Nat)) := R4.out.p5.cell 0 _ rfl
                have k1 : v4.cell? ⟨w1.heap.size, 1, none⟩ = some (.string (str d.name)) := R4.out.p5.cell 1 _ rfl
                have k2 : v4.cell? ⟨w1.heap.size, 2, none⟩ = some (.string (str d.pool)) := R4.out.p5.cell 2 _ rfl
                have k3 : v4.cell? ⟨w1.heap.size, 3, none⟩ = some (.int .i64 d.size) := R4.out.p5.cell 3 _ rfl
                have k4 : v4.cell? ⟨w1.heap.size, 4, none⟩ = some (.bool d.opn) := R4.out.p5.cell 4 _ rfl
                have m0 : v4.cell? ⟨v1.heap.size, 0, none⟩ = some (.int .u8 (d.kind : Nat)) := B14.out.cell 0 _ rfl
                have m1 : v4.cell? ⟨v1.heap.size, 1, none⟩ = some (.string (str d.name)) := B14.out.cell 1 _ rfl
                have m2 : v4.cell? ⟨v1.heap.size, 2, none⟩ = some (.string (str d.pool)) := B14.out.cell 2 _ rfl
                have m3 : v4.cell? ⟨v1.heap.size, 3, none⟩ = some (.int .i64 d.size) := B14.out.cell 3 _ rfl
                have m4 : v4.cell? ⟨v1.heap.size, 4, none⟩ = some (.bool d.opn) := B14.out.cell 4 _ rfl
                have l5 := R4.out.p5.lt
                have l13 := B14.out.lt
                have l15 := B24.out.lt
                have hn25 : ¬ v2.heap.size = w1.heap.size := by have := R2.out.p5.lt; omega
                have hn52 : ¬ w1.heap.size = v2.heap.size := by have := R2.out.p5.lt; omega
                have hn15 : ¬ v1.heap.size = w1.heap.size := by have := R1.out.p5.lt; omega
                have hn51 : ¬ w1.heap.size = v1.heap.size := by have := R1.out.p5.lt; omega
                clear hb
                have fz := BoxA.free R4.out.p5 4
                have HA := Lib.hid (R4.out.next A4.out).b
                go_wp2_with (go_at_call 7; refine (head_any _ (HC.out _ HA.out)).mono ?_; rintro e w5 ⟨rfl, hb⟩; have H5 := Lib.hid (HA.out.trans (hb.mono HA.out.size)); clear hb)
                go_ret
                exact ⟨rfl, H5.out⟩
            · have z7 : (str x).size ≤ 7 := by rw [HXZ.out]; omega
              clear y7 yt
              rcases HTWO.out with ⟨rfl | rfl, rfl | rfl⟩
              · go_wp2_with fail
                refine (CPT.out _ (HC.out _ HR.out.b)).mono ?_
                rintro e v1 ⟨rfl, hb⟩
                have R1 := Lib.hid (HR.out.next hb)
                have B1 := Lib.hid (BoxA.new v1 24 #[.int .u8 (d.kind : Nat), .string (str d.name), .string (str d.pool), .int .i64 d.size, .bool d.opn])
                have A1 := Lib.hid ((Below.refl v1.heap.size v1).alloc (Nat.le_refl _) (.cells #[.int .u8 (d.kind : Nat), .string (str d.name), .string (str d.pool), .int .i64 d.size, .bool d.opn] 24))
                clear hb
                go_wp2_with fail
                refine (CL.out _ (HC.out _ (R1.out.next A1.out).b)).mono ?_
                rintro e v2 ⟨rfl, hb⟩
                have R2 := Lib.hid ((R1.out.next A1.out).next hb)
                have B12 := Lib.hid (B1.out.next hb)
                have B2 := Lib.hid (BoxA.new v2 24 #[.int .u8 0, .string { data := #[] }, .string { data := #[] }, .int .i64 0, .bool false])
                have A2 := Lib.hid ((Below.refl v2.heap.size v2).alloc (Nat.le_refl _) (.cells #[.int .u8 0, .string { data := #[] }, .string { data := #[] }, .int .i64 0, .bool false] 24))
                have cx2 : v2.cell? ⟨g, 2 + q, none⟩ = some (.string (str x)) := (show 0 + (q + 2) = 2 + q by omega) ▸ R2.out.ps.2 (q + 2) x HX.out
                have hg2 : g < v2.heap.size := R2.out.ps.1
                clear hb
                go_wp2_with fail
                rw [add_blank]
                refine (HTW.out _ (HC.out _ (R2.out.next A2.out).b)).mono ?_
                rintro e v3 ⟨rfl, hb⟩
                have R3 := Lib.hid ((R2.out.next A2.out).next hb)
                have B13 := Lib.hid ((B12.out.next A2.out).next hb)
                have B23 := Lib.hid (B2.out.next hb)
                have A3 := Lib.hid ((Below.refl v3.heap.size v3).alloc (Nat.le_refl _) (.cells #[.int .u8 0, .string { data := #[] }, .string { data := #[] }, .int .i64 0, .bool false] 24))
                clear hb cx2 hg2
                go_wp2_with fail
                rw [add_one]
                refine (HBL.out _ (HC.out _ (R3.out.next A3.out).b)).mono ?_
                rintro e v4 ⟨rfl, hb⟩
                have R4 := Lib.hid ((R3.out.next A3.out).next hb)
                have B14 := Lib.hid ((B13.out.next A3.out).next hb)
                have B24 := Lib.hid ((B23.out.next A3.out).next hb)
                have A4 := Lib.hid ((Below.refl v4.heap.size v4).alloc (Nat.le_refl _) (.cells #[.int .u8 0, .string { data := #[] }, .string { data := #[] }, .int .i64 0, .bool false] 24))
                have cx4 : v4.cell? ⟨g, 2 + q, none⟩ = some (.string (str x)) := (show 0 + (q + 2) = 2 + q by omega) ▸ R4.out.ps.2 (q + 2) x HX.out
                have hg4 : g < v4.heap.size := R4.out.ps.1
                have k0 : v4.cell? ⟨w1.heap.size, 0, none⟩ = some (.int .u8 (d.kind : Nat)) := R4.out.p5.cell 0 _ rfl
                have k1 : v4.cell? ⟨w1.heap.size, 1, none⟩ = some (.string (str d.name)) := R4.out.p5.cell 1 _ rfl
                have k2 : v4.cell? ⟨w1.heap.size, 2, none⟩ = some (.string (str d.pool)) := R4.out.p5.cell 2 _ rfl
                have k3 : v4.cell? ⟨w1.heap.size, 3, none⟩ = some (.int .i64 d.size) := R4.out.p5.cell 3 _ rfl
                have k4 : v4.cell? ⟨w1.heap.size, 4, none⟩ = some (.bool d.opn) := R4.out.p5.cell 4 _ rfl
                have m0 : v4.cell? ⟨v1.heap.size, 0, none⟩ = some (.int .u8 (d.kind : Nat)) := B14.out.cell 0 _ rfl
                have m1 : v4.cell? ⟨v1.heap.size, 1, none⟩ = some (.string (str d.name)) := B14.out.cell 1 _ rfl
                have m2 : v4.cell? ⟨v1.heap.size, 2, none⟩ = some (.string (str d.pool)) := B14.out.cell 2 _ rfl
                have m3 : v4.cell? ⟨v1.heap.size, 3, none⟩ = some (.int .i64 d.size) := B14.out.cell 3 _ rfl
                have m4 : v4.cell? ⟨v1.heap.size, 4, none⟩ = some (.bool d.opn) := B14.out.cell 4 _ rfl
                have l5 := R4.out.p5.lt
                have l13 := B14.out.lt
                have l15 := B24.out.lt
                have hn25 : ¬ v2.heap.size = w1.heap.size := by have := R2.out.p5.lt; omega
                have hn52 : ¬ w1.heap.size = v2.heap.size := by have := R2.out.p5.lt; omega
                have hn15 : ¬ v1.heap.size = w1.heap.size := by have := R1.out.p5.lt; omega
                have hn51 : ¬ w1.heap.size = v1.heap.size := by have := R1.out.p5.lt; omega
                clear hb
                have fz := BoxA.free R4.out.p5 4
                have HA := Lib.hid (R4.out.next A4.out).b
                go_wp2_with (go_at_call 7; refine (head_any _ (HC.out _ HA.out)).mono ?_; rintro e w5 ⟨rfl, hb⟩; have H5 := Lib.hid (HA.out.trans (hb.mono HA.out.size)); clear hb)
                go_ret
                exact ⟨rfl, H5.out⟩
              · go_wp2_with fail
                refine (CPT.out _ (HC.out _ HR.out.b)).mono ?_
                rintro e v1 ⟨rfl, hb⟩
                have R1 := Lib.hid (HR.out.next hb)
                have B1 := Lib.hid (BoxA.new v1 24 #[.int .u8 (d.kind : Nat), .string (str d.name), .string (str d.pool), .int .i64 d.size, .bool d.opn])
                have A1 := Lib.hid ((Below.refl v1.heap.size v1).alloc (Nat.le_refl _) (.cells #[.int .u8 (d.kind : Nat), .string (str d.name), .string (str d.pool), .int .i64 d.size, .bool d.opn] 24))
                clear hb
                go_wp2_with fail
                refine (CL.out _ (HC.out _ (R1.out.next A1.out).b)).mono ?_
                rintro e v2 ⟨rfl, hb⟩
                have R2 := Lib.hid ((R1.out.next A1.out).next hb)
                have B12 := Lib.hid (B1.out.next hb)
                have B2 := Lib.hid (BoxA.new v2 24 #[.int .u8 0, .string { data := #[] }, .string { data := #[] }, .int .i64 0, .bool false])
                have A2 := Lib.hid ((Below.refl v2.heap.size v2).alloc (Nat.le_refl _) (.cells #[.int .u8 0, .string { data := #[] }, .string { data := #[] }, .int .i64 0, .bool false] 24))
                have cx2 : v2.cell? ⟨g, 2 + q, none⟩ = some (.string (str x)) := (show 0 + (q + 2) = 2 + q by omega) ▸ R2.out.ps.2 (q + 2) x HX.out
                have hg2 : g < v2.heap.size := R2.out.ps.1
                clear hb
                go_wp2_with fail
                rw [add_blank]
                refine (HTW.out _ (HC.out _ (R2.out.next A2.out).b)).mono ?_
                rintro e v3 ⟨rfl, hb⟩
                have R3 := Lib.hid ((R2.out.next A2.out).next hb)
                have B13 := Lib.hid ((B12.out.next A2.out).next hb)
                have B23 := Lib.hid (B2.out.next hb)
                have A3 := Lib.hid ((Below.refl v3.heap.size v3).alloc (Nat.le_refl _) (.cells #[.int .u8 0, .string { data := #[] }, .string { data := #[] }, .int .i64 0, .bool false] 24))
                clear hb cx2 hg2
                go_wp2_with fail
                rw [add_one]
                refine (HBL.out _ (HC.out _ (R3.out.next A3.out).b)).mono ?_
                rintro e v4 ⟨rfl, hb⟩
                have R4 := Lib.hid ((R3.out.next A3.out).next hb)
                have B14 := Lib.hid ((B13.out.next A3.out).next hb)
                have B24 := Lib.hid ((B23.out.next A3.out).next hb)
                have A4 := Lib.hid ((Below.refl v4.heap.size v4).alloc (Nat.le_refl _) (.cells #[.int .u8 0, .string { data := #[] }, .string { data := #[] }, .int .i64 0, .bool false] 24))
                have cx4 : v4.cell? ⟨g, 2 + q, none⟩ = some (.string (str x)) := (show 0 + (q + 2) = 2 + q by omega) ▸ R4.out.ps.2 (q + 2) x HX.out
                have hg4 : g < v4.heap.size := R4.out.ps.1
                have k0 : v4.cell? ⟨w1.heap.size, 0, none⟩ = some (.int .u8 (d.kind : Nat)) := R4.out.p5.cell 0 _ rfl
                have k1 : v4.cell? ⟨w1.heap.size, 1, none⟩ = some (.string (str d.name)) := R4.out.p5.cell 1 _ rfl
                have k2 : v4.cell? ⟨w1.heap.size, 2, none⟩ = some (.string (str d.pool)) := R4.out.p5.cell 2 _ rfl
                have k3 : v4.cell? ⟨w1.heap.size, 3, none⟩ = some (.int .i64 d.size) := R4.out.p5.cell 3 _ rfl
                have k4 : v4.cell? ⟨w1.heap.size, 4, none⟩ = some (.bool d.opn) := R4.out.p5.cell 4 _ rfl
                have m0 : v4.cell? ⟨v1.heap.size, 0, none⟩ = some (.int .u8 (d.kind : Nat)) := B14.out.cell 0 _ rfl
                have m1 : v4.cell? ⟨v1.heap.size, 1, none⟩ = some (.string (str d.name)) := B14.out.cell 1 _ rfl
                have m2 : v4.cell? ⟨v1.heap.size, 2, none⟩ = some (.string (str d.pool)) := B14.out.cell 2 _ rfl
                have m3 : v4.cell? ⟨v1.heap.size, 3, none⟩ = some (.int .i64 d.size) := B14.out.cell 3 _ rfl
                have m4 : v4.cell? ⟨v1.heap.size, 4, none⟩ = some (.bool d.opn) := B14.out.cell 4 _ rfl
                have l5 := R4.out.p5.lt
                have l13 := B14.out.lt
                have l15 := B24.out.lt
                have hn25 : ¬ v2.heap.size = w1.heap.size := by have := R2.out.p5.lt; omega
                have hn52 : ¬ w1.heap.size = v2.heap.size := by have := R2.out.p5.lt; omega
                have hn15 : ¬ v1.heap.size = w1.heap.size := by have := R1.out.p5.lt; omega
                have hn51 : ¬ w1.heap.size = v1.heap.size := by have := R1.out.p5.lt; omega
                clear hb
                have fz := BoxA.free R4.out.p5 4
                have HA := Lib.hid (R4.out.next A4.out).b
                go_wp2_with (go_at_call 7; refine (head_any _ (HC.out _ HA.out)).mono ?_; rintro e w5 ⟨rfl, hb⟩; have H5 := Lib.hid (HA.out.trans (hb.mono HA.out.size)); clear hb)
                go_ret
                exact ⟨rfl, H5.out⟩
              · go_wp2_with fail
                refine (CPT.out _ (HC.out _ HR.out.b)).mono ?_
                rintro e v1 ⟨rfl, hb⟩
                have R1 := Lib.hid (HR.out.next hb)
                have B1 := Lib.hid (BoxA.new v1 24 #[.int .u8 (d.kind : Nat), .string (str d.name), .string (str d.pool), .int .i64 d.size, .bool d.opn])
                have A1 := Lib.hid ((Below.refl v1.heap.size v1).alloc (Nat.le_refl _) (.cells #[.int .u8 (d.kind : Nat), .string (str d.name), .string (str d.pool), .int .i64 d.size, .bool d.opn] 24))
                clear hb
                go_wp2_with fail
                refine (CL.out _ (HC.out _ (R1.out.next A1.out).b)).mono ?_
                rintro e v2 ⟨rfl, hb⟩
                have R2 := Lib.hid ((R1.out.next A1.out).next hb)
                have B12 := Lib.hid (B1.out.next hb)
                have B2 := Lib.hid (BoxA.new v2 24 #[.int .u8 0, .string { data := #[] }, .string { data := #[] }, .int .i64 0, .bool false])
                have A2 := Lib.hid ((Below.refl v2.heap.size v2).alloc (Nat.le_refl _) (.cells #[.int .u8 0, .string { data := #[] }, .string { data := #[] }, .int .i64 0, .bool false] 24))
                have cx2 : v2.cell? ⟨g, 2 + q, none⟩ = some (.string (str x)) := (show 0 + (q + 2) = 2 + q by omega) ▸ R2.out.ps.2 (q + 2) x HX.out
                have hg2 : g < v2.heap.size := R2.out.ps.1
                clear hb
                go_wp2_with fail
                rw [add_blank]
                refine (HTW.out _ (HC.out _ (R2.out.next A2.out).b)).mono ?_
                rintro e v3 ⟨rfl, hb⟩
                have R3 := Lib.hid ((R2.out.next A2.out).next hb)
                have B13 := Lib.hid ((B12.out.next A2.out).next hb)
                have B23 := Lib.hid (B2.out.next hb)
                have A3 := Lib.hid ((Below.refl v3.heap.size v3).alloc (Nat.le_refl _) (.cells #[.int .u8 0, .string { data := #[] }, .string { data := #[] }, .int .i64 0, .bool false] 24))
                clear hb cx2 hg2
                go_wp2_with fail
                rw [add_one]
                refine (HBL.out _ (HC.out _ (R3.out.next A3.out).b)).mono ?_
                rintro e v4 ⟨rfl, hb⟩
                have R4 := Lib.hid ((R3.out.next A3.out).next hb)
                have B14 := Lib.hid ((B13.out.next A3.out).next hb)
                have B24 := Lib.hid ((B23.out.next A3.out).next hb)
                have A4 := Lib.hid ((Below.refl v4.heap.size v4).alloc (Nat.le_refl _) (.cells #[.int .u8 0, .string { data := #[] }, .string { data := #[] }, .int .i64 0, .bool false] 24))
                have cx4 : v4.cell? ⟨g, 2 + q, none⟩ = some (.string (str x)) := (show 0 + (q + 2) = 2 + q by omega) ▸ R4.out.ps.2 (q + 2) x HX.out
                have hg4 : g < v4.heap.size := R4.out.ps.1
                have k0 : v4.cell? ⟨w1.heap.size, 0, none⟩ = some (.int .u8 (d.kind : Nat)) := R4.out.p5.cell 0 _ rfl
                have k1 : v4.cell? ⟨w1.heap.size, 1, none⟩ = some (.string (str d.name)) := R4.out.p5.cell 1 _ rfl
                have k2 : v4.cell? ⟨w1.heap.size, 2, none⟩ = some (.string (str d.pool)) := R4.out.p5.cell 2 _ rfl
                have k3 : v4.cell? ⟨w1.heap.size, 3, none⟩ = some (.int .i64 d.size) := R4.out.p5.cell 3 _ rfl
                have k4 : v4.cell? ⟨w1.heap.size, 4, none⟩ = some (.bool d.opn) := R4.out.p5.cell 4 _ rfl
                have m0 : v4.cell? ⟨v1.heap.size, 0, none⟩ = some (.int .u8 (d.kind : Nat)) := B14.out.cell 0 _ rfl
                have m1 : v4.cell? ⟨v1.heap.size, 1, none⟩ = some (.string (str d.name)) := B14.out.cell 1 _ rfl
                have m2 : v4.cell? ⟨v1.heap.size, 2, none⟩ = some (.string (str d.pool)) := B14.out.cell 2 _ rfl
                have m3 : v4.cell? ⟨v1.heap.size, 3, none⟩ = some (.int .i64 d.size) := B14.out.cell 3 _ rfl
                have m4 : v4.cell? ⟨v1.heap.size, 4, none⟩ = some (.bool d.opn) := B14.out.cell 4 _ rfl
                have l5 := R4.out.p5.lt
                have l13 := B14.out.lt
                have l15 := B24.out.lt
                have hn25 : ¬ v2.heap.size = w1.heap.size := by have := R2.out.p5.lt; omega
                have hn52 : ¬ w1.heap.size = v2.heap.size := by have := R2.out.p5.lt; omega
                have hn15 : ¬ v1.heap.size = w1.heap.size := by have := R1.out.p5.lt; omega
                have hn51 : ¬ w1.heap.size = v1.heap.size := by have := R1.out.p5.lt; omega
                clear hb
                have fz := BoxA.free R4.out.p5 4
                have HA := Lib.hid (R4.out.next A4.out).b
                go_wp2_with (go_at_call 7; refine (head_any _ (HC.out _ HA.out)).mono ?_; rintro e w5 ⟨rfl, hb⟩; have H5 := Lib.hid (HA.out.trans (hb.mono HA.out.size)); clear hb)
                go_ret
                exact ⟨rfl, H5.out⟩
              · go_wp2_with fail
                refine (CPT.out _ (HC.out _ HR.out.b)).mono ?_
                rintro e v1 ⟨rfl, hb⟩
                have R1 := Lib.hid (HR.out.next hb)
                have B1 := Lib.hid (BoxA.new v1 24 #[.int .u8 (d.kind : Nat), .string (str d.name), .string (str d.pool), .int .i64 d.size, .bool d.opn])
                have A1 := Lib.hid ((Below.refl v1.heap.size v1).alloc (Nat.le_refl _) (.cells #[.int .u8 (d.kind : Nat), .string (str d.name), .string (str d.pool), .int .i64 d.size, .bool d.opn] 24))
                clear hb
                go_wp2_with fail
                refine (CL.out _ (HC.out _ (R1.out.next A1.out).b)).mono ?_
                rintro e v2 ⟨rfl, hb⟩
                have R2 := Lib.hid ((R1.out.next A1.out).next hb)
                have B12 := Lib.hid (B1.out.next hb)
                have B2 := Lib.hid (BoxA.new v2 24 #[.int .u8 0, .string { data := #[] }, .string { data := #[] }, .int .i64 0, .bool false])
                have A2 := Lib.hid ((Below.refl v2.heap.size v2).alloc (Nat.le_refl _) (.cells #[.int .u8 0, .string { data := #[] }, .string { data := #[] }, .int .i64 0, .bool false] 24))
                have cx2 : v2.cell? ⟨g, 2 + q, none⟩ = some (.string (str x)) := (show 0 + (q + 2) = 2 + q by omega) ▸ R2.out.ps.2 (q + 2) x HX.out
                have hg2 : g < v2.heap.size := R2.out.ps.1
                clear hb
                go_wp2_with fail
                rw [add_blank]
                refine (HTW.out _ (HC.out _ (R2.out.next A2.out).b)).mono ?_
                rintro e v3 ⟨rfl, hb⟩
                have R3 := Lib.hid ((R2.out.next A2.out).next hb)
                have B13 := Lib.hid ((B12.out.next A2.out).next hb)
                have B23 := Lib.hid (B2.out.next hb)
                have A3 := Lib.hid ((Below.refl v3.heap.size v3).alloc (Nat.le_refl _) (.cells #[.int .u8 0, .string { data := #[] }, .string { data := #[] }, .int .i64 0, .bool false] 24))
                clear hb cx2 hg2
                go_wp2_with fail
                rw [add_one]
                refine (HBL.out _ (HC.out _ (R3.out.next A3.out).b)).mono ?_
                rintro e v4 ⟨rfl, hb⟩
                have R4 := Lib.hid ((R3.out.next A3.out).next hb)
                have B14 := Lib.hid ((B13.out.next A3.out).next hb)
                have B24 := Lib.hid ((B23.out.next A3.out).next hb)
                have A4 := Lib.hid ((Below.refl v4.heap.size v4).alloc (Nat.le_refl _) (.cells #[.int .u8 0, .string { data := #[] }, .string { data := #[] }, .int .i64 0, .bool false] 24))
                have cx4 : v4.cell? ⟨g, 2 + q, none⟩ = some (.string (str x)) := (show 0 + (q + 2) = 2 + q by omega) ▸ R4.out.ps.2 (q + 2) x HX.out
                have hg4 : g < v4.heap.size := R4.out.ps.1
                have k0 : v4.cell? ⟨w1.heap.size, 0, none⟩ = some (.int .u8 (d.kind : Nat)) := R4.out.p5.cell 0 _ rfl
                have k1 : v4.cell? ⟨w1.heap.size, 1, none⟩ = some (.string (str d.name)) := R4.out.p5.cell 1 _ rfl
                have k2 : v4.cell? ⟨w1.heap.size, 2, none⟩ = some (.string (str d.pool)) := R4.out.p5.cell 2 _ rfl
                have k3 : v4.cell? ⟨w1.heap.size, 3, none⟩ = some (.int .i64 d.size) := R4.out.p5.cell 3 _ rfl
                have k4 : v4.cell? ⟨w1.heap.size, 4, none⟩ = some (.bool d.opn) := R4.out.p5.cell 4 _ rfl
                have m0 : v4.cell? ⟨v1.heap.size, 0, none⟩ = some (.int .u8 (d.kind : Nat)) := B14.out.cell 0 _ rfl
                have m1 : v4.cell? ⟨v1.heap.size, 1, none⟩ = some (.string (str d.name)) := B14.out.cell 1 _ rfl
                have m2 : v4.cell? ⟨v1.heap.size, 2, none⟩ = some (.string (str d.pool)) := B14.out.cell 2 _ rfl
                have m3 : v4.cell? ⟨v1.heap.size, 3, none⟩ = some (.int .i64 d.size) := B14.out.cell 3 _ rfl
                have m4 : v4.cell? ⟨v1.heap.size, 4, none⟩ = some (.bool d.opn) := B14.out.cell 4 _ rfl
                have l5 := R4.out.p5.lt
                have l13 := B14.out.lt
                have l15 := B24.out.lt
                have hn25 : ¬ v2.heap.size = w1.heap.size := by have := R2.out.p5.lt; omega
                have hn52 : ¬ w1.heap.size = v2.heap.size := by have := R2.out.p5.lt; omega
                have hn15 : ¬ v1.heap.size = w1.heap.size := by have := R1.out.p5.lt; omega
                have hn51 : ¬ w1.heap.size = v1.heap.size := by have := R1.out.p5.lt; omega
                clear hb
                have fz := BoxA.free R4.out.p5 4
                have HA := Lib.hid (R4.out.next A4.out).b
                go_wp2_with (go_at_call 7; refine (head_any _ (HC.out _ HA.out)).mono ?_; rintro e w5 ⟨rfl, hb⟩; have H5 := Lib.hid (HA.out.trans (hb.mono HA.out.size)); clear hb)
                go_ret
                exact ⟨rfl, H5.out⟩


theorem order_any_d (l : Tx) (hm : l.length ≤ 9223372036854775807) (a1 : Int) (h0 : 0 ≤ a1) (h1 : a1 ≤ 255) (w : World) (hL : LaidD w) : Calls Tryd.prog 5 #[.string (str l), .int .u8 a1] w (Told (.bool true) w) := by
  rcases lerr_cases l with ⟨he, hl, hd⟩ | ⟨he, hz⟩
  · obtain ⟨k, W, hp, hle, hW, hk, hq⟩ := ord_of hl hd
    have hmod : a1.toNat % W.length < W.length := Nat.mod_lt _ (by omega)
    obtain ⟨x, acc, hc, ic, H⟩ := hq _ hmod
    refine order_walk l hl (ldir l) rfl he a1 h0 h1 k _ W W.length rfl hp hle hW hk x acc hc ic H hmod ?_ w hL
    obtain ⟨m, rfl⟩ : ∃ m : Nat, a1 = (m : Int) := ⟨a1.toNat, by omega⟩
    rw [Int.toNat_natCast]
    rfl
  · exact order_no l hm a1 _ hz rfl he w hL

end Go.Proofs.YtfocnipdmckojaaDoor.gn
