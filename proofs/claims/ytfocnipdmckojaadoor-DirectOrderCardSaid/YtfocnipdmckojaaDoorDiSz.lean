/- The walk of DirectSizes. (Written by gen_diSz.py.) -/
import Derived.Test.YtfocnipdmckojaaDoorDiX
import Derived.Test.YtfocnipdmckojaaDoorDiW
import Derived.Test.YtfocnipdmckojaaDoorDiR
set_option linter.unusedVariables false
namespace Go.Proofs.YtfocnipdmckojaaDoor.gn
open Go.RowKit
open Go.Proofs.YtfocnipdmckojaaDoor.un
open Go.Proofs.YtfocnipdmckojaaDoor.di

set_option maxRecDepth 100000 in
set_option maxHeartbeats 4000000 in
theorem sizes_no (d : Dir) (h : DW d) (hc : ¬ chk d = true) (w : World) (hL : LaidD w) : Calls Tryd.prog 6 #[dV d] w (Told (.bool true) w) := by
  have CT := Lib.hid (show ∀ W, LaidD W → Calls Tryd.prog 11 #[dV d] W (Told (.tuple #[.string { data := #[] }, .int .i64 140]) W) from fun W hW => (Text_any d h W hW).mono fun e w' ⟨he, hb⟩ => ⟨by rw [he, show tT d = [] by unfold tT; rw [if_neg hc], cE_no hc]; rfl, hb⟩)
  have HC := Lib.hid fun (W : World) (hb : Below w.heap.size w W) => hL.next hb
  have H0 := Lib.hid (show Below w.heap.size w (w.alloc (.cells #[.int .u8 (d.kind : Nat), .string (str d.name), .string (str d.pool), .int .i64 d.size, .bool d.opn] 24)) from (Below.refl _ _).alloc (Nat.le_refl _) _)
  have hV : dV d = .agg #[.int .u8 (d.kind : Nat), .string (str d.name), .string (str d.pool), .int .i64 d.size, .bool d.opn] := rfl
  rw [hV] at CT ⊢
  clear hV h hc hL
  go_enter Tryd.func6, Tryd.ntmps6
  go_wp2_with (first
    | (go_at_call 11; refine (CT.out _ (HC.out _ H0.out)).mono ?_; rintro e w1 ⟨rfl, hb⟩; have H1 := Lib.hid (H0.out.trans (hb.mono H0.out.size)); clear hb)
    | (go_at_call 7; refine (head_any _ (HC.out _ H1.out)).mono ?_; rintro e w2 ⟨rfl, hb⟩; have H2 := Lib.hid (H1.out.trans (hb.mono H1.out.size)); clear hb))
  go_ret
  exact ⟨rfl, H2.out⟩

theorem byte_no {b c : UInt8} (h : b ≠ c) : ((b.toNat : Int) == (c.toNat : Int)) = false := by
  rw [beq_eq_false_iff_ne]
  intro e
  exact h (UInt8.toNat_inj.1 (by omega))

set_option maxRecDepth 100000 in
set_option maxHeartbeats 8000000 in
theorem sizes_head (d : Dir) (h : DW d) (hc : chk d = true) (hz : d.size = 0 ∨ 1073741824 < d.size) (w : World) (hL : LaidD w) : Calls Tryd.prog 6 #[dV d] w (Told (.bool true) w) := by
  have CT := Lib.hid (show ∀ W, LaidD W → Calls Tryd.prog 11 #[dV d] W (Told (.tuple #[.string (str (dtx d)), .int .i64 0]) W) from fun W hW => (Text_any d h W hW).mono fun e w' ⟨he, hb⟩ => ⟨by rw [he, show tT d = dtx d by unfold tT; rw [if_pos hc], cE_yes hc], hb⟩)
  have HC := Lib.hid fun (W : World) (hb : Below w.heap.size w W) => hL.next hb
  obtain ⟨w0, hw0⟩ : ∃ w0, w.alloc (.cells (dcs d) 24) = w0 := ⟨_, rfl⟩
  have hb0 : Below w.heap.size w w0 := by rw [← hw0]; exact (Below.refl _ _).alloc (Nat.le_refl _) _
  have HP0 := Lib.hid (show BoxA w0 w.heap.size 24 (dcs d) by rw [← hw0]; exact BoxA.new _ _ _)
  have H0 := Lib.hid hb0
  have HW0 := Lib.hid (show w.alloc (.cells #[.int .u8 (d.kind : Nat), .string (str d.name), .string (str d.pool), .int .i64 d.size, .bool d.opn] 24) = w0 from hw0)
  have HNE := Lib.hid (neat_at (dtx d) 0 (text_neat hc 0))
  have hl306 := (text_back hc).2.2
  have hV : dV d = .agg #[.int .u8 (d.kind : Nat), .string (str d.name), .string (str d.pool), .int .i64 d.size, .bool d.opn] := rfl

  rw [hV] at CT ⊢
  unfold dcs at HP0
  obtain ⟨s, hs⟩ : ∃ s, dtx d = s := ⟨_, rfl⟩
  rw [hs] at CT HNE hl306
  have HZ := Lib.hid (str_size s)
  have hz306 : (str s).size ≤ 306 := by rw [str_size]; exact hl306
  have hzz : (decide (d.size = 0) || decide (1073741824 < d.size)) = true := by simpa using hz
  clear hV h hc hL hw0 hb0 hs hl306
  go_enter Tryd.func6, Tryd.ntmps6
  go_wp2_with fail
  rw [HW0.out]
  refine (CT.out _ (HC.out _ H0.out)).mono ?_
  rintro e w1 ⟨rfl, hb⟩
  have H1 := Lib.hid (H0.out.trans (hb.mono H0.out.size))
  have HP1 := Lib.hid (HP0.out.next hb)
  have hlt1 : w.heap.size < w1.heap.size := HP1.out.lt
  have a0 : w1.cell? ⟨w.heap.size, 0, none⟩ = some (.int .u8 (d.kind : Nat)) := HP1.out.cell 0 _ rfl
  have a1 : w1.cell? ⟨w.heap.size, 1, none⟩ = some (.string (str d.name)) := HP1.out.cell 1 _ rfl
  have a2 : w1.cell? ⟨w.heap.size, 2, none⟩ = some (.string (str d.pool)) := HP1.out.cell 2 _ rfl
  have a3 : w1.cell? ⟨w.heap.size, 3, none⟩ = some (.int .i64 d.size) := HP1.out.cell 3 _ rfl
  have a4 : w1.cell? ⟨w.heap.size, 4, none⟩ = some (.bool d.opn) := HP1.out.cell 4 _ rfl
  clear hb HP0
  go_wp2_with fail
  go_loop [5] (fun s5 => ∃ i : Nat, s5 = .int .i64 i ∧ i ≤ (str s).size) (fun s5 => (str s).size - (intOf s5).toNat)
  case atStart => exact ⟨0, rfl, Nat.zero_le _⟩
  case round =>
    obtain ⟨i, rfl, hi⟩ := hrel
    by_cases h1 : i < (str s).size
    · have hil : i < s.length := by rw [← HZ.out]; exact h1
      have hge := str_at s i h1
      have q1 : ((((str s)[i]'h1).toNat : Int) == 10) = false := by
        rw [hge]
        exact byte_no (HNE.out i hil).1
      cases i with
      | zero =>
        clear hge
        go_wp2
        go_round
        case rel => exact ⟨1, rfl, by omega⟩
        case measure => simp [intOf]; omega
      | succ j =>
        have h1j : j < (str s).size := by omega
        by_cases hb : s[j + 1] = 32
        · have q2 : ((((str s)[j + 1]'h1).toNat : Int) == 32) = true := by rw [hge, hb]; rfl
          have q3 : ((((str s)[j]'h1j).toNat : Int) == 32) = false := by
            rw [str_at s j h1j]
            exact byte_no ((HNE.out (j + 1) hil).2 j rfl hb (by omega))
          clear hge hb
          go_wp2
          go_round
          case rel => exact ⟨j + 2, by go_num, by omega⟩
          case measure => simp [intOf]; omega
        · have q2 : ((((str s)[j + 1]'h1).toNat : Int) == 32) = false := by rw [hge]; exact byte_no hb
          clear hge hb
          go_wp2
          go_round
          case rel => exact ⟨j + 2, by go_num, by omega⟩
          case measure => simp [intOf]; omega

    · obtain rfl : i = (str s).size := by omega
      rcases hz with hz | hz
      · go_wp2_with (go_at_call 7; refine (head_any _ (HC.out _ H1.out)).mono ?_; rintro e w2 ⟨rfl, hb⟩; have H2 := Lib.hid (H1.out.trans (hb.mono H1.out.size)); clear hb)
        go_ret
        exact ⟨rfl, H2.out⟩
      · go_wp2_with (go_at_call 7; refine (head_any _ (HC.out _ H1.out)).mono ?_; rintro e w2 ⟨rfl, hb⟩; have H2 := Lib.hid (H1.out.trans (hb.mono H1.out.size)); clear hb)
        go_ret
        exact ⟨rfl, H2.out⟩

theorem mk_nil : ({ data := #[] } : ByteArray) = str [] := rfl
theorem cap_word (x : Tx) : ({ data := #[99, 97, 112, 97, 99, 105, 116, 121, 61] } : ByteArray) ++ str x ++ { data := #[75, 105, 66] } = str (capE ++ (x ++ nm 3)) := by
  show str capE ++ str x ++ str (nm 3) = _
  rw [str_app, str_app, List.append_assoc]
theorem siz_word (x : Tx) : ({ data := #[115, 105, 122, 101, 61] } : ByteArray) ++ str x ++ { data := #[75, 105, 66] } = str (sizE ++ (x ++ nm 3)) := by
  show str sizE ++ str x ++ str (nm 3) = _
  rw [str_app, str_app, List.append_assoc]
theorem add_blank (t x : Tx) : str t ++ ({ data := #[32] } : ByteArray) ++ str x = str (t ++ 32 :: x) := by
  show str t ++ str [32] ++ str x = _
  rw [str_app, str_app, List.append_assoc]
  rfl
theorem join_step (ws : List Tx) (i : Nat) (x : Tx) (f : Tx → Tx) (h : ws[i]? = some x) : joinW ((ws.take (i + 1)).map f) = if i = 0 then f x else joinW ((ws.take i).map f) ++ 32 :: f x := by
  have e : ws.take (i + 1) = ws.take i ++ [x] := by rw [List.take_add_one, h]; rfl
  rw [e, List.map_append]
  split
  · rename_i h0
    subst h0
    simp [joinW]
  · rw [show [x].map f = [f x] from rfl, joinW_snoc _ _ (by
      intro e
      have := congrArg List.length e
      obtain ⟨hl, _⟩ := List.getElem?_eq_some_iff.1 h
      simp only [List.length_map, List.length_take, List.length_nil] at this
      omega)]
structure SZ (w : World) (d : Dir) (b6 g : Nat) (ws : List Tx) (W : World) : Prop where
  p1 : BoxA W w.heap.size 24 (dcs d)
  p6 : BoxA W b6 24 (dcs { d with size := d.size * 1024 })
  ps : Prts W g 0 ws
  b : Below w.heap.size w W
theorem SZ.next {w W W' : World} {d : Dir} {b6 g : Nat} {ws : List Tx} (h : SZ w d b6 g ws W) (hb : Below W.heap.size W W') : SZ w d b6 g ws W' := ⟨h.p1.next hb, h.p6.next hb, h.ps.next hb, h.b.trans (hb.mono h.b.size)⟩

set_option maxRecDepth 100000 in
set_option maxHeartbeats 16000000 in
theorem sizes_big (d : Dir) (h : DW d) (hc : chk d = true) (hz0 : 0 < d.size) (hz1 : d.size ≤ 1073741824) (w : World) (hL : LaidD w) : Calls Tryd.prog 6 #[dV d] w (Told (.bool true) w) := by
  have CT := Lib.hid (show ∀ W, LaidD W → Calls Tryd.prog 11 #[dV d] W (Told (.tuple #[.string (str (dtx d)), .int .i64 0]) W) from fun W hW => (Text_any d h W hW).mono fun e w' ⟨he, hb⟩ => ⟨by rw [he, show tT d = dtx d by unfold tT; rw [if_pos hc], cE_yes hc], hb⟩)
  have HC := Lib.hid fun (W : World) (hb : Below w.heap.size w W) => hL.next hb
  obtain ⟨w0, hw0⟩ : ∃ w0, w.alloc (.cells (dcs d) 24) = w0 := ⟨_, rfl⟩
  have hb0 : Below w.heap.size w w0 := by rw [← hw0]; exact (Below.refl _ _).alloc (Nat.le_refl _) _
  have HP0 := Lib.hid (show BoxA w0 w.heap.size 24 (dcs d) by rw [← hw0]; exact BoxA.new _ _ _)
  have H0 := Lib.hid hb0
  have HW0 := Lib.hid (show w.alloc (.cells #[.int .u8 (d.kind : Nat), .string (str d.name), .string (str d.pool), .int .i64 d.size, .bool d.opn] 24) = w0 from hw0)
  have HNE := Lib.hid (neat_at (dtx d) 0 (text_neat hc 0))
  have hl306 := (text_back hc).2.2
  have hV : dV d = .agg #[.int .u8 (d.kind : Nat), .string (str d.name), .string (str d.pool), .int .i64 d.size, .bool d.opn] := rfl

  have HQ := Lib.hid (dir_eq { d with size := d.size * 1024 } { d with size := d.size * 1024 })
  have HW := Lib.hid (fun W => Words_any (dtx d) (Nat.le_trans hl306 (by decide)) W)
  have HU := Lib.hid (show ∀ W, LaidD W → Calls Tryd.prog 15 #[.int .i64 d.size] W (Told (.string (str (txt d.size))) W) from fun W hW => text_any d.size h.z0 h.z1 W hW.u)
  obtain ⟨_, hk2, hk3, hk4⟩ := kib_line hc hz0 hz1
  have hwf := words_few hc
  have HTL : (joinW ((words (dtx d)).map (sub (kibT d)))).length ≤ 500 := by
    rw [hk2]
    by_cases hx : 500 < (lineOf d.kind (fsOf d (kibT d))).length
    · have := (lerr_long hx).1
      omega
    · omega
  have CP := Lib.hid (show ∀ W, LaidD W → Calls Tryd.prog 8 #[.string (str (joinW ((words (dtx d)).map (sub (kibT d)))))] W (Told (.tuple #[dV { d with size := d.size * 1024 }, .int .i64 0]) W) from fun W hW => (Parse_any _ (Nat.le_trans HTL (by decide)) W hW).mono fun e w' ⟨he, hb⟩ => ⟨by rw [he, hk2, hk3, hk4], hb⟩)
  have hV2 : dV { d with size := d.size * 1024 } = .agg #[.int .u8 (d.kind : Nat), .string (str d.name), .string (str d.pool), .int .i64 (d.size * 1024), .bool d.opn] := rfl
  rw [hV2] at CP HQ
  rw [hV] at CT ⊢
  have HTK := Lib.hid (txt_kib hz0 hz1)
  have hdz0 : ¬ d.size = 0 := by omega
  have hdz2 : (d.size == 0) = false := by simpa using hdz0
  have hdz1 : decide (1073741824 < d.size) = false := decide_eq_false (by omega)
  have htz : (str (txt d.size)).size ≤ 13 := by rw [str_size]; exact txt_len _
  have HK16 := Lib.hid (show (kibT d).length ≤ 16 by rw [← HTK.out, List.length_append]; have := txt_len d.size; have : (nm 3).length ≤ 3 := by decide
                                                     omega)
  unfold dcs at HP0
  obtain ⟨s, hs⟩ : ∃ s, dtx d = s := ⟨_, rfl⟩
  rw [hs] at CT HNE hl306 HW CP hwf
  obtain ⟨ws, hws⟩ : ∃ ws, words s = ws := ⟨_, rfl⟩
  rw [hws] at HW CP hwf
  obtain ⟨n, hn⟩ : ∃ n, ws.length = n := ⟨_, rfl⟩
  have hn6 : n ≤ 6 := by rw [← hn]; exact hwf.1
  have HN := Lib.hid hn
  have HWF := Lib.hid hwf.2
  have HZ := Lib.hid (str_size s)
  have hz306 : (str s).size ≤ 306 := by rw [str_size]; exact hl306
  clear hV hV2 h hc hL hw0 hb0 hs hl306 hws hwf hn hk2 hk3 hk4 HTL
  go_enter Tryd.func6, Tryd.ntmps6
  go_wp2_with fail
  rw [HW0.out]
  refine (CT.out _ (HC.out _ H0.out)).mono ?_
  rintro e w1 ⟨rfl, hb⟩
  have H1 := Lib.hid (H0.out.trans (hb.mono H0.out.size))
  have HP1 := Lib.hid (HP0.out.next hb)
  have hlt1 : w.heap.size < w1.heap.size := HP1.out.lt
  have a0 : w1.cell? ⟨w.heap.size, 0, none⟩ = some (.int .u8 (d.kind : Nat)) := HP1.out.cell 0 _ rfl
  have a1 : w1.cell? ⟨w.heap.size, 1, none⟩ = some (.string (str d.name)) := HP1.out.cell 1 _ rfl
  have a2 : w1.cell? ⟨w.heap.size, 2, none⟩ = some (.string (str d.pool)) := HP1.out.cell 2 _ rfl
  have a3 : w1.cell? ⟨w.heap.size, 3, none⟩ = some (.int .i64 d.size) := HP1.out.cell 3 _ rfl
  have a4 : w1.cell? ⟨w.heap.size, 4, none⟩ = some (.bool d.opn) := HP1.out.cell 4 _ rfl
  clear hb HP0
  go_wp2_with fail
  go_loop [5] (fun s5 => ∃ i : Nat, s5 = .int .i64 i ∧ i ≤ (str s).size) (fun s5 => (str s).size - (intOf s5).toNat)
  case atStart => exact ⟨0, rfl, Nat.zero_le _⟩
  case round =>
    obtain ⟨i, rfl, hi⟩ := hrel
    by_cases h1 : i < (str s).size
    · have hil : i < s.length := by rw [← HZ.out]; exact h1
      have hge := str_at s i h1
      have q1 : ((((str s)[i]'h1).toNat : Int) == 10) = false := by
        rw [hge]
        exact byte_no (HNE.out i hil).1
      cases i with
      | zero =>
        clear hge
        go_wp2
        go_round
        case rel => exact ⟨1, rfl, by omega⟩
        case measure => simp [intOf]; omega
      | succ j =>
        have h1j : j < (str s).size := by omega
        by_cases hb : s[j + 1] = 32
        · have q2 : ((((str s)[j + 1]'h1).toNat : Int) == 32) = true := by rw [hge, hb]; rfl
          have q3 : ((((str s)[j]'h1j).toNat : Int) == 32) = false := by
            rw [str_at s j h1j]
            exact byte_no ((HNE.out (j + 1) hil).2 j rfl hb (by omega))
          clear hge hb
          go_wp2
          go_round
          case rel => exact ⟨j + 2, by go_num, by omega⟩
          case measure => simp [intOf]; omega
        · have q2 : ((((str s)[j + 1]'h1).toNat : Int) == 32) = false := by rw [hge]; exact byte_no hb
          clear hge hb
          go_wp2
          go_round
          case rel => exact ⟨j + 2, by go_num, by omega⟩
          case measure => simp [intOf]; omega

    · obtain rfl : i = (str s).size := by omega
      go_wp2_with fail
      refine (HW.out _).mono ?_
      rintro e w3 ⟨v, rfl, ⟨g, cap, rfl, hprts, hcap, hB⟩, hb⟩
      rw [HN.out] at hcap ⊢
      have hbA : Below w1.heap.size w1 (w1.alloc (.cells #[.int .u8 (d.kind : Nat), .string (str d.name), .string (str d.pool), .int .i64 (d.size * 1024), .bool d.opn] 24)) := (Below.refl _ _).alloc (Nat.le_refl _) _
      have HSZ := Lib.hid (show SZ w d w1.heap.size g ws w3 from ⟨(HP1.out.next hbA).next hb, (BoxA.new _ _ _ : BoxA _ w1.heap.size 24 (dcs { d with size := d.size * 1024 })).next hb, hprts, (H1.out.trans (hbA.mono H1.out.size)).trans (hb.mono (Nat.le_trans H1.out.size hbA.size))⟩)
      clear hprts hbA hb hB HP1 a0 a1 a2 a3 a4 H1
      go_wp2
      go_loopw [8, 9] (fun s8 s9 wr => ∃ (i : Nat) (t : Tx), s9 = .int .i64 i ∧ s8 = .string (str t) ∧ i ≤ n ∧ t.length ≤ 60 * i ∧ Aside (SZ w d w1.heap.size g ws wr) ∧ Aside (t = joinW ((ws.take i).map (sub (kibT d))))) (fun _ s9 _ => n - (intOf s9).toNat)
      case atStart => exact ⟨0, [], rfl, rfl, Nat.zero_le _, Nat.zero_le _, HSZ.out, rfl⟩
      case round =>
        clear HSZ
        obtain ⟨i, t, rfl, rfl, hi, htl, hsz, hte⟩ := hrel
        have HR := Lib.hid (show SZ w d w1.heap.size g ws wr from hsz)
        have HTE := Lib.hid (show t = joinW ((ws.take i).map (sub (kibT d))) from hte)
        clear hsz hte
        have hlt1 : w.heap.size < wr.heap.size := HR.out.p1.lt
        have hlt6 : w1.heap.size < wr.heap.size := HR.out.p6.lt
        have z1 : (str t).size ≤ 360 := by rw [str_size]; omega
        by_cases hin : i < n
        · have hil : i < ws.length := by rw [HN.out]; exact hin
          obtain ⟨x, hx⟩ : ∃ x, ws[i]? = some x := ⟨_, List.getElem?_eq_getElem hil⟩
          have c0 : wr.cell? ⟨g, 0 + i, none⟩ = some (.string (str x)) := HR.out.ps.2 i x hx
          have hgl : g < wr.heap.size := HR.out.ps.1
          rw [Nat.zero_add] at c0
          have a3 : wr.cell? ⟨w.heap.size, 3, none⟩ = some (.int .i64 d.size) := HR.out.p1.cell 3 _ rfl
          have HST := Lib.hid (join_step ws i x (sub (kibT d)) hx)
          have hx50 : x.length ≤ 50 := HWF.out x (List.mem_of_getElem? hx)
          have HSL := Lib.hid (sub_len (kib := kibT d) (w := x) (by have := HK16.out; omega) hx50)
          have HUS := Lib.hid (show sub (kibT d) x = if 9 < x.length ∧ x.take 9 = capE then capE ++ kibT d else if 5 < x.length ∧ x.take 5 = sizE then sizE ++ kibT d else x from rfl)
          have z2 : (str x).size ≤ 50 := by rw [str_size]; exact hx50
          have HXS := Lib.hid (str_size x)
          clear hx hil hx50
          by_cases h9 : 9 < x.length
          · have y9 : 9 < (str x).size := by rw [HXS.out]; exact h9
            have hsl9 := sl_upto x 9 9 rfl (by omega)
            have hsl5 := sl_upto x 5 5 rfl (by omega)
            obtain ⟨x9, hx9⟩ : ∃ x9, x.take 9 = x9 := ⟨_, rfl⟩
            obtain ⟨x5, hx5⟩ : ∃ x5, x.take 5 = x5 := ⟨_, rfl⟩
            have HU1 := Lib.hid (show sub (kibT d) x = if x9 = capE then capE ++ kibT d else if x5 = sizE then sizE ++ kibT d else x by
              rw [HUS.out, hx9, hx5]
              simp only [h9, show 5 < x.length by omega, true_and])
            rw [hx9] at hsl9
            rw [hx5] at hsl5
            clear hx9 hx5 h9
            by_cases e9 : x9 = capE
            · have HUX := Lib.hid (show sub (kibT d) x = capE ++ kibT d by rw [HU1.out, if_pos e9])
              obtain ⟨q1, q2⟩ := lit_yes e9
              unfold capE at q1 q2
              clear e9 HU1 hsl5
              cases i with
              | zero =>
                obtain rfl : t = [] := List.eq_nil_of_length_eq_zero (by omega)
                go_wp2_with (go_at_call 15; refine (HU.out _ (HC.out _ HR.out.b)).mono ?_; rintro e w4 ⟨rfl, hb⟩; have HR4 := Lib.hid (HR.out.next hb); clear hb)
                go_roundw
                case rel => exact ⟨1, sub (kibT d) x, by go_num, by rw [HUX.out]; first | (rw [mk_nil]; simp only [cap_word, HTK.out, str_app]; rfl) | (simp only [cap_word, HTK.out, str_app]; rfl), by omega, by have := HSL.out; omega, HR4.out, by have := HST.out; (first | (rw [if_pos trivial] at this) | (rw [if_pos rfl] at this)); exact this.symm⟩
                case measure => simp [intOf]; omega
              | succ i =>
                go_wp2_with (go_at_call 15; refine (HU.out _ (HC.out _ HR.out.b)).mono ?_; rintro e w4 ⟨rfl, hb⟩; have HR4 := Lib.hid (HR.out.next hb); clear hb)
                go_roundw
                case rel => exact ⟨i + 1 + 1, t ++ 32 :: sub (kibT d) x, by go_num, by rw [HUX.out]; rw [cap_word, HTK.out]; rw [add_blank], by omega, by have := HSL.out; rw [List.length_append, List.length_cons]; omega, HR4.out, by rw [HST.out, if_neg (by omega), ← HTE.out]; exact rfl⟩
                case measure => simp [intOf]; omega
            · obtain ⟨q1, q2⟩ := lit_no e9
              by_cases e5 : x5 = sizE
              · have HUX := Lib.hid (show sub (kibT d) x = sizE ++ kibT d by rw [HU1.out, if_neg e9, if_pos e5])
                obtain ⟨q3, q4⟩ := lit_yes e5
                unfold capE at q1 q2
                unfold sizE at q3 q4
                clear e9 e5 HU1
                cases i with
                | zero =>
                  obtain rfl : t = [] := List.eq_nil_of_length_eq_zero (by omega)
                  go_wp2_with (go_at_call 15; refine (HU.out _ (HC.out _ HR.out.b)).mono ?_; rintro e w4 ⟨rfl, hb⟩; have HR4 := Lib.hid (HR.out.next hb); clear hb)
                  go_roundw
                  case rel => exact ⟨1, sub (kibT d) x, by go_num, by rw [HUX.out]; first | (rw [mk_nil]; simp only [siz_word, HTK.out, str_app]; rfl) | (simp only [siz_word, HTK.out, str_app]; rfl), by omega, by have := HSL.out; omega, HR4.out, by have := HST.out; (first | (rw [if_pos trivial] at this) | (rw [if_pos rfl] at this)); exact this.symm⟩
                  case measure => simp [intOf]; omega
                | succ i =>
                  go_wp2_with (go_at_call 15; refine (HU.out _ (HC.out _ HR.out.b)).mono ?_; rintro e w4 ⟨rfl, hb⟩; have HR4 := Lib.hid (HR.out.next hb); clear hb)
                  go_roundw
                  case rel => exact ⟨i + 1 + 1, t ++ 32 :: sub (kibT d) x, by go_num, by rw [HUX.out]; rw [siz_word, HTK.out]; rw [add_blank], by omega, by have := HSL.out; rw [List.length_append, List.length_cons]; omega, HR4.out, by rw [HST.out, if_neg (by omega), ← HTE.out]; exact rfl⟩
                  case measure => simp [intOf]; omega
              · have HUX := Lib.hid (show sub (kibT d) x = x by rw [HU1.out, if_neg e9, if_neg e5])
                obtain ⟨q3, q4⟩ := lit_no e5
                unfold capE at q1 q2
                unfold sizE at q3 q4
                clear e9 e5 HU1
                cases i with
                | zero =>
                  obtain rfl : t = [] := List.eq_nil_of_length_eq_zero (by omega)
                  go_wp2
                  go_roundw
                  case rel => exact ⟨1, sub (kibT d) x, by go_num, by rw [HUX.out]; first | (rw [mk_nil]; simp only [str_app]; rfl) | (simp only [str_app]; rfl), by omega, by have := HSL.out; omega, HR.out, by have := HST.out; (first | (rw [if_pos trivial] at this) | (rw [if_pos rfl] at this)); exact this.symm⟩
                  case measure => simp [intOf]; omega
                | succ i =>
                  go_wp2
                  go_roundw
                  case rel => exact ⟨i + 1 + 1, t ++ 32 :: sub (kibT d) x, by go_num, by rw [HUX.out]; rw [add_blank], by omega, by have := HSL.out; rw [List.length_append, List.length_cons]; omega, HR.out, by rw [HST.out, if_neg (by omega), ← HTE.out]; exact rfl⟩
                  case measure => simp [intOf]; omega
          · have y9 : (str x).size ≤ 9 := by rw [HXS.out]; omega
            have y9d : decide (9 < ((str x).size : Int)) = false := decide_eq_false (by omega)
            by_cases h5 : 5 < x.length
            · have y5 : 5 < (str x).size := by rw [HXS.out]; exact h5
              have hsl5 := sl_upto x 5 5 rfl (by omega)
              obtain ⟨x5, hx5⟩ : ∃ x5, x.take 5 = x5 := ⟨_, rfl⟩
              have HU1 := Lib.hid (show sub (kibT d) x = if x5 = sizE then sizE ++ kibT d else x by
                rw [HUS.out, hx5, if_neg fun h => h9 h.1]
                simp only [h5, true_and])
              rw [hx5] at hsl5
              clear hx5 h9 h5
              by_cases e5 : x5 = sizE
              · have HUX := Lib.hid (show sub (kibT d) x = sizE ++ kibT d by rw [HU1.out, if_pos e5])
                obtain ⟨q3, q4⟩ := lit_yes e5
                unfold sizE at q3 q4
                clear e5 HU1
                cases i with
                | zero =>
                  obtain rfl : t = [] := List.eq_nil_of_length_eq_zero (by omega)
                  go_wp2_with (go_at_call 15; refine (HU.out _ (HC.out _ HR.out.b)).mono ?_; rintro e w4 ⟨rfl, hb⟩; have HR4 := Lib.hid (HR.out.next hb); clear hb)
                  go_roundw
                  case rel => exact ⟨1, sub (kibT d) x, by go_num, by rw [HUX.out]; first | (rw [mk_nil]; simp only [siz_word, HTK.out, str_app]; rfl) | (simp only [siz_word, HTK.out, str_app]; rfl), by omega, by have := HSL.out; omega, HR4.out, by have := HST.out; (first | (rw [if_pos trivial] at this) | (rw [if_pos rfl] at this)); exact this.symm⟩
                  case measure => simp [intOf]; omega
                | succ i =>
                  go_wp2_with (go_at_call 15; refine (HU.out _ (HC.out _ HR.out.b)).mono ?_; rintro e w4 ⟨rfl, hb⟩; have HR4 := Lib.hid (HR.out.next hb); clear hb)
                  go_roundw
                  case rel => exact ⟨i + 1 + 1, t ++ 32 :: sub (kibT d) x, by go_num, by rw [HUX.out]; rw [siz_word, HTK.out]; rw [add_blank], by omega, by have := HSL.out; rw [List.length_append, List.length_cons]; omega, HR4.out, by rw [HST.out, if_neg (by omega), ← HTE.out]; exact rfl⟩
                  case measure => simp [intOf]; omega
              · have HUX := Lib.hid (show sub (kibT d) x = x by rw [HU1.out, if_neg e5])
                obtain ⟨q3, q4⟩ := lit_no e5
                unfold sizE at q3 q4
                clear e5 HU1
                cases i with
                | zero =>
                  obtain rfl : t = [] := List.eq_nil_of_length_eq_zero (by omega)
                  go_wp2
                  go_roundw
                  case rel => exact ⟨1, sub (kibT d) x, by go_num, by rw [HUX.out]; first | (rw [mk_nil]; simp only [str_app]; rfl) | (simp only [str_app]; rfl), by omega, by have := HSL.out; omega, HR.out, by have := HST.out; (first | (rw [if_pos trivial] at this) | (rw [if_pos rfl] at this)); exact this.symm⟩
                  case measure => simp [intOf]; omega
                | succ i =>
                  go_wp2
                  go_roundw
                  case rel => exact ⟨i + 1 + 1, t ++ 32 :: sub (kibT d) x, by go_num, by rw [HUX.out]; rw [add_blank], by omega, by have := HSL.out; rw [List.length_append, List.length_cons]; omega, HR.out, by rw [HST.out, if_neg (by omega), ← HTE.out]; exact rfl⟩
                  case measure => simp [intOf]; omega
            · have y5 : (str x).size ≤ 5 := by rw [HXS.out]; omega
              have HUX := Lib.hid (show sub (kibT d) x = x by rw [HUS.out, if_neg fun h => h9 h.1, if_neg fun h => h5 h.1])
              clear h9 h5
              cases i with
              | zero =>
                obtain rfl : t = [] := List.eq_nil_of_length_eq_zero (by omega)
                go_wp2
                go_roundw
                case rel => exact ⟨1, sub (kibT d) x, by go_num, by rw [HUX.out]; first | (rw [mk_nil]; simp only [str_app]; rfl) | (simp only [str_app]; rfl), by omega, by have := HSL.out; omega, HR.out, by have := HST.out; (first | (rw [if_pos trivial] at this) | (rw [if_pos rfl] at this)); exact this.symm⟩
                case measure => simp [intOf]; omega
              | succ i =>
                go_wp2
                go_roundw
                case rel => exact ⟨i + 1 + 1, t ++ 32 :: sub (kibT d) x, by go_num, by rw [HUX.out]; rw [add_blank], by omega, by have := HSL.out; rw [List.length_append, List.length_cons]; omega, HR.out, by rw [HST.out, if_neg (by omega), ← HTE.out]; exact rfl⟩
                case measure => simp [intOf]; omega
        · obtain rfl : i = n := by omega
          have HF := Lib.hid (show t = joinW (ws.map (sub (kibT d))) by
            have := HTE.out
            rwa [List.take_of_length_le (by rw [HN.out]; exact Nat.le_refl _)] at this)
          have CP2 := Lib.hid CP.out
          rw [← HF.out] at CP2
          clear htl
          go_wp2_with (first | (go_at_call 8; refine (CP2.out _ (HC.out _ HR.out.b)).mono ?_; rintro e w4 ⟨rfl, hb⟩; have HR4 := Lib.hid (HR.out.next hb); have b0 : w4.cell? ⟨w1.heap.size, 0, none⟩ = some (.int .u8 (d.kind : Nat)) := HR4.out.p6.cell 0 _ rfl; have b1 : w4.cell? ⟨w1.heap.size, 1, none⟩ = some (.string (str d.name)) := HR4.out.p6.cell 1 _ rfl; have b2 : w4.cell? ⟨w1.heap.size, 2, none⟩ = some (.string (str d.pool)) := HR4.out.p6.cell 2 _ rfl; have b3 : w4.cell? ⟨w1.heap.size, 3, none⟩ = some (.int .i64 (d.size * 1024)) := HR4.out.p6.cell 3 _ rfl; have b4 : w4.cell? ⟨w1.heap.size, 4, none⟩ = some (.bool d.opn) := HR4.out.p6.cell 4 _ rfl; have hlt64 : w1.heap.size < w4.heap.size := HR4.out.p6.lt; have HA := Lib.hid (show Below w.heap.size w (w4.alloc (.cells #[.int .u8 (d.kind : Nat), .string (str d.name), .string (str d.pool), .int .i64 (d.size * 1024), .bool d.opn] 24)) from HR4.out.b.alloc HR4.out.b.size _); have hq := HQ.out; clear hb) | (go_at_call 7; refine (head_any _ (HC.out _ HA.out)).mono ?_; rintro e w5 ⟨rfl, hb⟩; have H5 := Lib.hid (HA.out.trans (hb.mono HA.out.size)); clear hb))
          go_ret
          exact ⟨rfl, H5.out⟩

theorem sizes_any_d (d : Dir) (h : DW d) (w : World) (hL : LaidD w) : Calls Tryd.prog 6 #[dV d] w (Told (.bool true) w) := by
  by_cases hc : chk d = true
  · have hz := ((chk_iff d).1 hc).2.2.1
    by_cases h0 : d.size = 0 ∨ 1073741824 < d.size
    · exact sizes_head d h hc h0 w hL
    · exact sizes_big d h hc (by omega) (by omega) w hL
  · exact sizes_no d h hc w hL

end Go.Proofs.YtfocnipdmckojaaDoor.gn
