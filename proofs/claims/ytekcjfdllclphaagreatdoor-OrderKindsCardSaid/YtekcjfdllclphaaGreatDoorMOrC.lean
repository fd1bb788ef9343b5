/- The contracts of rows, find, kind. -/
import Derived.Test.YtekcjfdllclphaaGreatDoorMOrB
import Derived.Test.YtekcjfdllclphaaGreatDoorMDiJ
import Derived.Test.YtekcjfdllclphaaGreatDoorMSlPa
section
set_option linter.unusedVariables false
set_option linter.unusedSimpArgs false
namespace Go.Proofs.YtekcjfdllclphaaGreatDoor.gn
open Go.RowKit
open Go.Proofs.YtekcjfdllclphaaGreatDoor.un
open Go.Proofs.YtekcjfdllclphaaGreatDoor.di
open Go.Proofs.YtekcjfdllclphaaGreatDoor.od (Ord wordO eighteen kindN kindN_word kindN_none)

/-- A kind's letters. -/
def lettersO : Nat → Tx
  | 1 => [116]
  | 3 => [106]
  | 4 => [106]
  | 5 => [106]
  | 6 => [106, 113]
  | 7 => [106, 114]
  | 8 => [106]
  | 9 => [109]
  | 10 => [109]
  | 11 => [109]
  | 12 => [109]
  | 13 => [112]
  | 14 => [112]
  | 15 => [117, 110, 99, 112, 97]
  | 16 => [117, 110]
  | 17 => [106]
  | 18 => [112]
  | _ => []
def rowsV : Array Value := #[.string { data := #[] }, .string { data := #[] }, .string { data := #[116, 105, 99, 107] }, .string { data := #[116] }, .string { data := #[115, 117, 98, 109, 105, 116] }, .string { data := #[] }, .string { data := #[99, 97, 110, 99, 101, 108] }, .string { data := #[106] }, .string { data := #[104, 111, 108, 100] }, .string { data := #[106] }, .string { data := #[114, 101, 108, 101, 97, 115, 101] }, .string { data := #[106] }, .string { data := #[113, 111, 115] }, .string { data := #[106, 113] }, .string { data := #[101, 110, 100] }, .string { data := #[106, 114] }, .string { data := #[102, 97, 117, 108, 116] }, .string { data := #[106] }, .string { data := #[102, 97, 105, 108] }, .string { data := #[109] }, .string { data := #[117, 112] }, .string { data := #[109] }, .string { data := #[100, 114, 97, 105, 110] }, .string { data := #[109] }, .string { data := #[114, 101, 115, 117, 109, 101] }, .string { data := #[109] }, .string { data := #[99, 108, 111, 115, 101] }, .string { data := #[112] }, .string { data := #[111, 112, 101, 110] }, .string { data := #[112] }, .string { data := #[109, 97, 107, 101] }, .string { data := #[117, 110, 99, 112, 97] }, .string { data := #[100, 114, 111, 112] }, .string { data := #[117, 110] }, .string { data := #[115, 116, 97, 116, 117, 115] }, .string { data := #[106] }, .string { data := #[112, 111, 111, 108] }, .string { data := #[112] }]
def rowV2 (k : Nat) : Value := .agg #[.string (str (wordO k)), .string (str (lettersO k))]
theorem nineteen {k : Nat} (h : k < 19) : k = 0 ∨ k = 1 ∨ k = 2 ∨ k = 3 ∨ k = 4 ∨ k = 5 ∨ k = 6 ∨ k = 7 ∨ k = 8 ∨ k = 9 ∨ k = 10 ∨ k = 11 ∨ k = 12 ∨ k = 13 ∨ k = 14 ∨ k = 15 ∨ k = 16 ∨ k = 17 ∨ k = 18 := by omega
theorem rowsV_at {k : Nat} (h : k < 19) : rowsV[k * 2]? = some (.string (str (wordO k))) ∧ rowsV[k * 2 + 1]? = some (.string (str (lettersO k))) := by
  rcases nineteen h with rfl | rfl | rfl | rfl | rfl | rfl | rfl | rfl | rfl | rfl | rfl | rfl | rfl | rfl | rfl | rfl | rfl | rfl | rfl <;> exact ⟨rfl, rfl⟩
theorem no_word {k : Nat} (h : ¬ (1 ≤ k ∧ k ≤ 18)) : wordO k = [] ∧ lettersO k = [] := by
  have : k = 0 ∨ 19 ≤ k := by omega
  rcases this with rfl | h
  · exact ⟨rfl, rfl⟩
  · obtain ⟨j, rfl⟩ : ∃ j, k = j + 19 := ⟨k - 19, by omega⟩
    exact ⟨rfl, rfl⟩
theorem results_two2 {P : Program} {fn : Func} {p u : Tmp} {ty : TypeId} (h : fn.results = #[.cell p ty, .tmp u]) (tmps : Array Value) (w : World) (g : Nat) (t : TypeId) (cs : Array Value) (fr : Nat × Nat) (d : TypeDesc) (v : Value)
    (hp : (tmps.getD p undef, tmps.getD u undef) = (.pointer (some ⟨g, 0, none⟩), v)) (hg : w.heap[g]? = some (.cells cs t fr))
    (hu : P.underlying ty = some d) (hd : (match d with | .struct _ | .array _ _ => true | _ => false) = true) (hi : (P.info? ty).map (·.size) = some cs.size) :
    (results fn tmps).run P w = .ok (.tuple #[.agg cs, v]) w := by
  have := results_two h tmps w g t cs fr d (Prod.mk.inj hp).1 hg hu hd hi
  rwa [(Prod.mk.inj hp).2] at this
def rowsZ : Array Value := #[.string { data := #[] }, .string { data := #[] }, .string { data := #[] }, .string { data := #[] }, .string { data := #[] }, .string { data := #[] }, .string { data := #[] }, .string { data := #[] }, .string { data := #[] }, .string { data := #[] }, .string { data := #[] }, .string { data := #[] }, .string { data := #[] }, .string { data := #[] }, .string { data := #[] }, .string { data := #[] }, .string { data := #[] }, .string { data := #[] }, .string { data := #[] }, .string { data := #[] }, .string { data := #[] }, .string { data := #[] }, .string { data := #[] }, .string { data := #[] }, .string { data := #[] }, .string { data := #[] }, .string { data := #[] }, .string { data := #[] }, .string { data := #[] }, .string { data := #[] }, .string { data := #[] }, .string { data := #[] }, .string { data := #[] }, .string { data := #[] }, .string { data := #[] }, .string { data := #[] }, .string { data := #[] }, .string { data := #[] }]
set_option maxRecDepth 100000 in
set_option maxHeartbeats 3200000 in
theorem orows_any (w : World) : Calls Tryz.prog 49 #[] w (Told (.agg rowsV) w) := by
  obtain ⟨z, hz⟩ : ∃ z : Array Value, z = #[.string { data := #[] }, .string { data := #[] }, .string { data := #[] }, .string { data := #[] }, .string { data := #[] }, .string { data := #[] }, .string { data := #[] }, .string { data := #[] }, .string { data := #[] }, .string { data := #[] }, .string { data := #[] }, .string { data := #[] }, .string { data := #[] }, .string { data := #[] }, .string { data := #[] }, .string { data := #[] }, .string { data := #[] }, .string { data := #[] }, .string { data := #[] }, .string { data := #[] }, .string { data := #[] }, .string { data := #[] }, .string { data := #[] }, .string { data := #[] }, .string { data := #[] }, .string { data := #[] }, .string { data := #[] }, .string { data := #[] }, .string { data := #[] }, .string { data := #[] }, .string { data := #[] }, .string { data := #[] }, .string { data := #[] }, .string { data := #[] }, .string { data := #[] }, .string { data := #[] }, .string { data := #[] }, .string { data := #[] }] := ⟨_, rfl⟩
  obtain ⟨W, hW⟩ : ∃ W, w.alloc (.cells z 91) = W := ⟨_, rfl⟩
  have hb : BoxA W w.heap.size 91 z := by rw [← hW]; exact BoxA.new _ _ _
  have hl : Below w.heap.size w W := by rw [← hW]; exact (Below.refl _ _).alloc (Nat.le_refl _) _
  have hs : z.size = rowsV.size := by rw [hz]; rfl
  rw [hz] at hW
  have HB := Lib.hid hb
  have HL := Lib.hid hl
  have HW := Lib.hid hW
  have HS := Lib.hid hs
  clear hz hb hl hW hs
  go_enter Tryz.func49, Tryz.ntmps49
  go_upto_region 1 with fail
  rw [HW.out]
  go_wp2_with (refine wpList_store_row rfl _ _ _ rfl w.heap.size rowsV rfl rfl _ _ HB.out (by kernel_rfl) HS.out (by kernel_rfl) ?_)
  exact bodyPost_ret (v := .agg rowsV) (results_cell_row rfl _ _ _ _ _ _ _ rfl (setRow_heap _ _ _ _ _ _ HB.out) Tryz.underlying91 rfl (by kernel_rfl)) rfl ⟨rfl, below_setRow HL.out (Nat.le_refl _) _⟩
theorem orow_at (w : World) {k : Nat} (hk : k < 19) : (Instr.index 91 (.agg rowsV) (.int .i64 (k : Int))).run Tryz.prog w = .ok (rowV2 k) w := by
  rcases nineteen hk with rfl | rfl | rfl | rfl | rfl | rfl | rfl | rfl | rfl | rfl | rfl | rfl | rfl | rfl | rfl | rfl | rfl | rfl | rfl <;> kernel_rfl

set_option maxRecDepth 100000 in
set_option maxHeartbeats 3200000 in
theorem okind_any (x : Tx) (w : World) : Calls Tryz.prog 38 #[.string (str x)] w (Told (.int .u8 (kindN x : Nat)) w) := by
  go_enter Tryz.func38, Tryz.ntmps38
  go_wp2_with (go_at_call 49; ((with_reducible refine (orows_any _).mono ?_); rintro e w1 ⟨rfl, hb⟩); have HB := Lib.hid hb; clear hb)
  go_loopw [6] (fun s6 wr => ∃ k : Nat, s6 = .int .i64 k ∧ k ≤ 19 ∧ Aside (∀ i, i < k → wordO i ≠ x) ∧ Aside (Below w.heap.size w wr)) (fun s6 _ => 19 - (intOf s6).toNat)
  case atStart => exact ⟨0, rfl, by omega, fun i hi => absurd hi (by omega), HB.out⟩
  case round =>
    obtain ⟨k, rfl, hk, hno, hbw⟩ := hrel
    have HX := Lib.hid (show ∀ i, i < k → wordO i ≠ x from hno)
    have HW := Lib.hid (show Below w.heap.size w wr from hbw)
    clear hno hbw HB
    by_cases h19 : k < 19
    · have hix := orow_at wr h19
      unfold rowV2 at hix
      have hy : Below w.heap.size w (wr.alloc (.cells #[.string (str (wordO k)), .string (str (lettersO k))] 60)) := HW.out.alloc HW.out.size _
      have HY := Lib.hid hy
      clear hy
      by_cases he : wordO k = x
      · obtain ⟨q1, q2⟩ := (⟨by rw [eq_str]; exact decide_eq_true he, by rw [he]⟩ : ((str (wordO k)).toList == (str x).toList) = true ∧ (str (wordO k)).toList = (str x).toList)
        have HK := Lib.hid (show kindN x = k by rw [← he]; exact kindN_word (by omega))
        generalize wordO k = wk at *
        generalize lettersO k = lk at *
        clear he
        go_wp2
        go_ret
        exact ⟨by rw [HK.out]; rfl, HY.out⟩
      · obtain ⟨q1, q2⟩ := (⟨by rw [eq_str]; exact decide_eq_false he, fun h => he (by rw [str_toList, str_toList] at h; exact h)⟩ : ((str (wordO k)).toList == (str x).toList) = false ∧ ¬ (str (wordO k)).toList = (str x).toList)
        have HNX := Lib.hid (show ∀ i, i < k + 1 → wordO i ≠ x from fun i hi => by
          rcases Nat.lt_or_ge i k with h | h
          · exact HX.out i h
          · rw [show i = k by omega]; exact he)
        generalize wordO k = wk at *
        generalize lettersO k = lk at *
        clear he
        go_wp2
        go_roundw
        case rel => exact ⟨k + 1, by go_num, by omega, HNX.out, HY.out⟩
        case measure => simp [intOf]; omega
    · obtain rfl : k = 19 := by omega
      have HK := Lib.hid (kindN_none HX.out)
      go_wp2
      go_ret
      exact ⟨by rw [HK.out]; rfl, HW.out⟩

/-- What find tells. -/
def FindO (k : Nat) (w : World) : Ending → World → Prop := Told (.tuple #[rowV2 k, .bool (decide (1 ≤ k ∧ k ≤ 18))]) w
set_option maxRecDepth 100000 in
set_option maxHeartbeats 3200000 in
theorem ofind_any (k : Nat) (hk : k ≤ 255) (w : World) : Calls Tryz.prog 28 #[.int .u8 (k : Nat)] w (FindO k w) := by
  obtain ⟨w0, hw0⟩ : ∃ w0, w.alloc (.cells #[.string { data := #[] }, .string { data := #[] }] 60) = w0 := ⟨_, rfl⟩
  have hb0 : BoxA w0 w.heap.size 60 #[.string { data := #[] }, .string { data := #[] }] := by rw [← hw0]; exact BoxA.new _ _ _
  have hl0 : Below w.heap.size w w0 := by rw [← hw0]; exact (Below.refl _ _).alloc (Nat.le_refl _) _
  have HW0 := Lib.hid hw0
  have HB0 := Lib.hid hb0
  have HL0 := Lib.hid hl0
  clear hw0 hb0 hl0
  go_enter Tryz.func28, Tryz.ntmps28
  go_upto_region 1 with fail
  rw [HW0.out]
  go_upto_region 2 with (first
    | (go_at_call 49; ((with_reducible refine (orows_any _).mono ?_); rintro e w1 ⟨rfl, hb⟩); have HB := Lib.hid hb; clear hb)
    | (refine wpList_store_row rfl _ _ _ rfl w1.heap.size rowsV rfl rfl _ _ (BoxA.new w1 _ _) (by kernel_rfl) rfl (by kernel_rfl) ?_))
  obtain ⟨w2, hw2⟩ : ∃ w2, (w1.alloc (.cells rowsZ 91)).setRow w1.heap.size rowsV = w2 := ⟨_, rfl⟩
  have hb2 : BoxA w2 w1.heap.size 91 rowsV := by rw [← hw2]; exact setRow_heap _ _ _ _ _ _ (BoxA.new w1 _ _)
  have hl2 : Below w1.heap.size w1 w2 := by rw [← hw2]; exact below_setRow ((Below.refl _ w1).alloc (Nat.le_refl _) _) (Nat.le_refl _) _
  have HZ := Lib.hid (show w.heap.size ≠ w1.heap.size by have := HB.out.size; have := HB0.out.lt; omega)
  have HR := Lib.hid ((HB0.out.next HB.out).next hl2)
  have HL := Lib.hid (HL0.out.trans ((HB.out.trans (hl2.mono HB.out.size)).mono HL0.out.size))
  change Code.wp _ _ _ _ ((w1.alloc (.cells rowsZ 91)).setRow w1.heap.size rowsV)
  rw [hw2]
  clear hw2 hl2
  generalize w1.heap.size = b1 at *
  by_cases hk0 : k = 0
  · subst hk0
    go_wp2_with (refine wpList_store_row rfl _ _ _ rfl w.heap.size #[.string { data := #[] }, .string { data := #[] }] rfl rfl _ _ HR.out (by kernel_rfl) rfl (by kernel_rfl) ?_)
    exact bodyPost_ret (v := .tuple #[rowV2 0, .bool false]) (results_two2 rfl _ _ w.heap.size _ #[.string { data := #[] }, .string { data := #[] }] _ _ _ rfl (setRow_heap _ _ _ _ _ _ HR.out) Tryz.underlying60 rfl (by kernel_rfl)) rfl ⟨rfl, below_setRow HL.out (Nat.le_refl _) _⟩
  · have q0 : ((k : Int) == 0) = false := by rw [beq_eq_false_iff_ne]; omega
    by_cases hk1 : k < 19
    · have q1 : decide (19 ≤ (k : Int)) = false := decide_eq_false (by omega)
      obtain ⟨r0, r1⟩ := rowsV_at hk1
      have c0 := hb2.cell _ _ r0
      have c1 := hb2.cell _ _ r1
      have HD := Lib.hid (show decide (1 ≤ k ∧ k ≤ 18) = true from decide_eq_true (by omega))
      have hblt := hb2.lt
      have HV := Lib.hid (show rowV2 k = .agg #[.string (str (wordO k)), .string (str (lettersO k))] from rfl)
      generalize wordO k = wk at *
      generalize lettersO k = lk at *
      clear r0 r1 hb2
      go_wp2_with (refine wpList_store_row rfl _ _ _ rfl w.heap.size #[.string (str wk), .string (str lk)] rfl rfl _ _ HR.out (by kernel_rfl) rfl (by kernel_rfl) ?_)
      exact bodyPost_ret (v := .tuple #[.agg #[.string (str wk), .string (str lk)], .bool true]) (results_two2 rfl _ _ w.heap.size _ #[.string (str wk), .string (str lk)] _ _ _ rfl (setRow_heap _ _ _ _ _ _ HR.out) Tryz.underlying60 rfl (by kernel_rfl)) rfl ⟨by rw [HD.out, HV.out], below_setRow HL.out (Nat.le_refl _) _⟩
    · have q1 : decide (19 ≤ (k : Int)) = true := decide_eq_true (by omega)
      have HD := Lib.hid (show decide (1 ≤ k ∧ k ≤ 18) = false from decide_eq_false (by omega))
      have HE := Lib.hid (show rowV2 k = rowV2 0 by unfold rowV2; rw [(no_word (k := k) (by omega)).1, (no_word (k := k) (by omega)).2]; rfl)
      go_wp2_with (refine wpList_store_row rfl _ _ _ rfl w.heap.size #[.string { data := #[] }, .string { data := #[] }] rfl rfl _ _ HR.out (by kernel_rfl) rfl (by kernel_rfl) ?_)
      exact bodyPost_ret (v := .tuple #[rowV2 0, .bool false]) (results_two2 rfl _ _ w.heap.size _ #[.string { data := #[] }, .string { data := #[] }] _ _ _ rfl (setRow_heap _ _ _ _ _ _ HR.out) Tryz.underlying60 rfl (by kernel_rfl)) rfl ⟨by rw [HD.out, HE.out], below_setRow HL.out (Nat.le_refl _) _⟩
end Go.Proofs.YtekcjfdllclphaaGreatDoor.gn
end
section
set_option linter.unusedVariables false
set_option linter.unusedSimpArgs false
namespace Go.Proofs.YtekcjfdllclphaaGreatDoor.gn
open Go.RowKit
open Go.Proofs.YtekcjfdllclphaaGreatDoor.un
open Go.Proofs.YtekcjfdllclphaaGreatDoor.di
open Go.Proofs.YtekcjfdllclphaaGreatDoor.sp (Slip within? okW)
open Go.Proofs.YtekcjfdllclphaaGreatDoor.od (Ord okO stO numV sizV resK badW nK)

theorem made2 (w : World) (a b : Array Value) (t u : TypeId) : ∃ W, (w.alloc (.cells a t)).alloc (.cells b u) = W ∧ BoxA W w.heap.size t a ∧ BoxA W (w.heap.size + 1) u b ∧ Below w.heap.size w W := by
  refine ⟨_, rfl, BoxA.next (BoxA.new w t a) ((Below.refl _ _).alloc (Nat.le_refl _) _), ?_, ((Below.refl _ w).alloc (Nat.le_refl _) _).alloc (by simp) _⟩
  have := BoxA.new (w.alloc (.cells a t)) u b
  rwa [World.size_alloc] at this
theorem made4 (w : World) (a b c d : Array Value) (t u v x : TypeId) : ∃ W, (((w.alloc (.cells a t)).alloc (.cells b u)).alloc (.cells c v)).alloc (.cells d x) = W ∧ BoxA W w.heap.size t a ∧ BoxA W (w.heap.size + 1) u b ∧ BoxA W (w.heap.size + 1 + 1) v c ∧ BoxA W (w.heap.size + 1 + 1 + 1) x d ∧ Below w.heap.size w W := by
  obtain ⟨W1, h1, b1, b2, l1⟩ := made2 w a b t u
  have hs : W1.heap.size = w.heap.size + 1 + 1 := by rw [← h1]; simp
  obtain ⟨W2, h2, b3, b4, l2⟩ := made2 W1 c d v x
  rw [hs] at b3 b4
  refine ⟨W2, by rw [← h2, ← h1], b1.next l2, b2.next l2, b3, b4, l1.trans (l2.mono (by omega))⟩

def FldT (K : ByteArray) (t : Tx) (fn : FuncId) (cp : Array Value) : Value := .agg #[.string K, .string (str t), .func (.func fn) #[] cp]
set_option maxRecDepth 100000 in
set_option maxHeartbeats 3200000 in
theorem number_fld (K : ByteArray) (bo j : Nat) (n a b : Int) (h0 : -9223372036854775808 ≤ n) (h1 : n ≤ 9223372036854775807) (w : World) (hc : w.cell? ⟨bo, j, none⟩ = some (.int .i64 n)) (hlt : bo < w.heap.size) (hL : LaidU w) :
    Calls Tryz.prog 80 #[.string K, .pointer (some ⟨bo, j, none⟩), .int .i64 a, .int .i64 b] w fun e w' => ∃ c, e = .returned (FldT K (txt n) 113 #[.pointer (some ⟨c, 0, none⟩), .pointer (some ⟨c + 1, 0, none⟩), .pointer (some ⟨c + 1 + 1, 0, none⟩)]) ∧ NumC w' c (c + 1) (c + 1 + 1) bo j a b ∧ w.heap.size ≤ c ∧ Below w.heap.size w w' := by
  obtain ⟨W, hW, b1, b2, b3, b4, l⟩ := made4 w #[.pointer (some ⟨bo, j, none⟩)] #[.int .i64 a] #[.int .i64 b] #[.string { data := #[] }, .string { data := #[] }, .nilFunc] 122 2 2 67
  have HW := Lib.hid hW
  have HB := Lib.hid (And.intro b1 (And.intro b2 (And.intro b3 b4)))
  have HL := Lib.hid l
  have HX := Lib.hid (text_any n h0 h1 W (hL.next l))
  have k1 := b1.cell 0 _
  have k2 : W.cell? ⟨bo, j, none⟩ = some (.int .i64 n) := (Below.cell l hlt).trans hc
  have hlt2 : bo < W.heap.size := Nat.lt_of_lt_of_le hlt l.size
  clear hW b1 b2 b3 b4 l hc hlt hL h0 h1
  go_enter Tryz.func80, Tryz.ntmps80
  go_upto_region 1 with fail
  rw [HW.out]
  go_wp2_with (first
    | (go_at_call 93; ((with_reducible refine HX.out.mono ?_); rintro e w2 ⟨rfl, hb⟩); have HB2 := Lib.hid hb; clear hb)
    | (refine wpList_store_row rfl _ _ _ rfl (w.heap.size + 1 + 1 + 1) #[.string K, .string (str (txt n)), .func (.func 113) #[] #[.pointer (some ⟨w.heap.size, 0, none⟩), .pointer (some ⟨w.heap.size + 1, 0, none⟩), .pointer (some ⟨w.heap.size + 1 + 1, 0, none⟩)]] rfl rfl _ _ (HB.out.2.2.2.next HB2.out) (by kernel_rfl) rfl (by kernel_rfl) ?_))
  refine bodyPost_ret (v := FldT K (txt n) 113 #[.pointer (some ⟨w.heap.size, 0, none⟩), .pointer (some ⟨w.heap.size + 1, 0, none⟩), .pointer (some ⟨w.heap.size + 1 + 1, 0, none⟩)]) (results_cell_row rfl _ _ _ _ _ _ _ rfl (setRow_heap _ _ _ _ _ _ (HB.out.2.2.2.next HB2.out)) Tryz.underlying67 rfl (by kernel_rfl)) rfl ⟨w.heap.size, rfl, ⟨(setRow_other _ _ _ _ (by omega)).trans (HB.out.1.next HB2.out), (setRow_other _ _ _ _ (by omega)).trans (HB.out.2.1.next HB2.out), (setRow_other _ _ _ _ (by omega)).trans (HB.out.2.2.1.next HB2.out)⟩, Nat.le_refl _, below_setRow (HL.out.trans (HB2.out.mono HL.out.size)) (by omega) _⟩
set_option maxRecDepth 100000 in
set_option maxHeartbeats 3200000 in
theorem size_fld (K : ByteArray) (bo j : Nat) (n : Int) (h0 : -9223372036854775808 ≤ n) (h1 : n ≤ 9223372036854775807) (w : World) (hc : w.cell? ⟨bo, j, none⟩ = some (.int .i64 n)) (hlt : bo < w.heap.size) (hL : LaidU w) :
    Calls Tryz.prog 92 #[.string K, .pointer (some ⟨bo, j, none⟩)] w fun e w' => ∃ c, e = .returned (FldT K (stxt n) 119 #[.pointer (some ⟨c, 0, none⟩)]) ∧ PtC w' c bo j 122 ∧ w.heap.size ≤ c ∧ Below w.heap.size w w' := by
  obtain ⟨W, hW, b1, b4, l⟩ := made2 w #[.pointer (some ⟨bo, j, none⟩)] #[.string { data := #[] }, .string { data := #[] }, .nilFunc] 122 67
  have HW := Lib.hid hW
  have HB := Lib.hid (And.intro b1 b4)
  have HL := Lib.hid l
  have HX := Lib.hid (stext_any n h0 h1 W (hL.next l))
  have k1 := b1.cell 0 _
  have k2 : W.cell? ⟨bo, j, none⟩ = some (.int .i64 n) := (Below.cell l hlt).trans hc
  have hlt2 : bo < W.heap.size := Nat.lt_of_lt_of_le hlt l.size
  clear hW b1 b4 l hc hlt hL h0 h1
  go_enter Tryz.func92, Tryz.ntmps92
  go_upto_region 1 with fail
  rw [HW.out]
  go_wp2_with (first
    | (go_at_call 118; ((with_reducible refine HX.out.mono ?_); rintro e w2 ⟨rfl, hb⟩); have HB2 := Lib.hid hb; clear hb)
    | (refine wpList_store_row rfl _ _ _ rfl (w.heap.size + 1) #[.string K, .string (str (stxt n)), .func (.func 119) #[] #[.pointer (some ⟨w.heap.size, 0, none⟩)]] rfl rfl _ _ (HB.out.2.next HB2.out) (by kernel_rfl) rfl (by kernel_rfl) ?_))
  refine bodyPost_ret (v := FldT K (stxt n) 119 #[.pointer (some ⟨w.heap.size, 0, none⟩)]) (results_cell_row rfl _ _ _ _ _ _ _ rfl (setRow_heap _ _ _ _ _ _ (HB.out.2.next HB2.out)) Tryz.underlying67 rfl (by kernel_rfl)) rfl ⟨w.heap.size, rfl, (setRow_other _ _ _ _ (by omega)).trans (BoxA.next HB.out.1 HB2.out), Nat.le_refl _, below_setRow (HL.out.trans (HB2.out.mono HL.out.size)) (by omega) _⟩
set_option maxRecDepth 100000 in
set_option maxHeartbeats 3200000 in
theorem name_fld (K : ByteArray) (bo j : Nat) (n : Tx) (w : World) (hc : w.cell? ⟨bo, j, none⟩ = some (.string (str n))) (hlt : bo < w.heap.size) :
    Calls Tryz.prog 88 #[.string K, .pointer (some ⟨bo, j, none⟩)] w fun e w' => ∃ c, e = .returned (FldT K n 116 #[.pointer (some ⟨c, 0, none⟩)]) ∧ PtC w' c bo j 126 ∧ w.heap.size ≤ c ∧ Below w.heap.size w w' := by
  obtain ⟨W, hW, b1, b4, l⟩ := made2 w #[.pointer (some ⟨bo, j, none⟩)] #[.string { data := #[] }, .string { data := #[] }, .nilFunc] 126 67
  have HW := Lib.hid hW
  have HB := Lib.hid (And.intro b1 b4)
  have HL := Lib.hid l
  have k1 := b1.cell 0 _
  have k2 : W.cell? ⟨bo, j, none⟩ = some (.string (str n)) := (Below.cell l hlt).trans hc
  have hlt2 : bo < W.heap.size := Nat.lt_of_lt_of_le hlt l.size
  clear hW b1 b4 l hc hlt
  go_enter Tryz.func88, Tryz.ntmps88
  go_upto_region 1 with fail
  rw [HW.out]
  go_wp2_with (refine wpList_store_row rfl _ _ _ rfl (w.heap.size + 1) #[.string K, .string (str n), .func (.func 116) #[] #[.pointer (some ⟨w.heap.size, 0, none⟩)]] rfl rfl _ _ HB.out.2 (by kernel_rfl) rfl (by kernel_rfl) ?_)
  refine bodyPost_ret (v := FldT K n 116 #[.pointer (some ⟨w.heap.size, 0, none⟩)]) (results_cell_row rfl _ _ _ _ _ _ _ rfl (setRow_heap _ _ _ _ _ _ HB.out.2) Tryz.underlying67 rfl (by kernel_rfl)) rfl ⟨w.heap.size, rfl, (setRow_other _ _ _ _ (by omega)).trans HB.out.1, Nat.le_refl _, below_setRow HL.out (by omega) _⟩
set_option maxRecDepth 100000 in
set_option maxHeartbeats 3200000 in
theorem either_fld (K Y N : ByteArray) (yes no : Tx) (hy : str yes = Y) (hn : str no = N) (bo j : Nat) (q : Bool) (w : World) (hc : w.cell? ⟨bo, j, none⟩ = some (.bool q)) (hlt : bo < w.heap.size) :
    Calls Tryz.prog 85 #[.string K, .pointer (some ⟨bo, j, none⟩), .string Y, .string N] w fun e w' => ∃ c, e = .returned (FldT K (if q then yes else no) 115 #[.pointer (some ⟨c + 1, 0, none⟩), .pointer (some ⟨c, 0, none⟩), .pointer (some ⟨c + 1 + 1, 0, none⟩)]) ∧ EithC w' (c + 1) c (c + 1 + 1) bo j yes no ∧ w.heap.size ≤ c ∧ Below w.heap.size w w' := by
  subst hy hn
  obtain ⟨W, hW, b1, b2, b3, b4, l⟩ := made4 w #[.pointer (some ⟨bo, j, none⟩)] #[.string (str yes)] #[.string (str no)] #[.string { data := #[] }, .string { data := #[] }, .nilFunc] 124 9 9 67
  have HW := Lib.hid hW
  have HB := Lib.hid (And.intro b1 (And.intro b2 (And.intro b3 b4)))
  have HL := Lib.hid l
  have k1 := b1.cell 0 _
  have k3 := b2.cell 0 _
  have k4 := b3.cell 0 _
  have hl3 := b3.lt
  have hl2 := b2.lt
  have k2 : W.cell? ⟨bo, j, none⟩ = some (.bool q) := (Below.cell l hlt).trans hc
  have hlt2 : bo < W.heap.size := Nat.lt_of_lt_of_le hlt l.size
  clear hW b1 b2 b3 b4 l hc hlt
  cases q with
  | true =>
    go_enter Tryz.func85, Tryz.ntmps85
    go_upto_region 1 with fail
    rw [HW.out]
    go_wp2_with (refine wpList_store_row rfl _ _ _ rfl (w.heap.size + 1 + 1 + 1) #[.string K, .string (str yes), .func (.func 115) #[] #[.pointer (some ⟨w.heap.size + 1, 0, none⟩), .pointer (some ⟨w.heap.size, 0, none⟩), .pointer (some ⟨w.heap.size + 1 + 1, 0, none⟩)]] rfl rfl _ _ HB.out.2.2.2 (by kernel_rfl) rfl (by kernel_rfl) ?_)
    refine bodyPost_ret (v := FldT K yes 115 #[.pointer (some ⟨w.heap.size + 1, 0, none⟩), .pointer (some ⟨w.heap.size, 0, none⟩), .pointer (some ⟨w.heap.size + 1 + 1, 0, none⟩)]) (results_cell_row rfl _ _ _ _ _ _ _ rfl (setRow_heap _ _ _ _ _ _ HB.out.2.2.2) Tryz.underlying67 rfl (by kernel_rfl)) rfl ⟨w.heap.size, rfl, ⟨(setRow_other _ _ _ _ (by omega)).trans HB.out.2.1, (setRow_other _ _ _ _ (by omega)).trans HB.out.1, (setRow_other _ _ _ _ (by omega)).trans HB.out.2.2.1⟩, Nat.le_refl _, below_setRow HL.out (by omega) _⟩
  | false =>
    go_enter Tryz.func85, Tryz.ntmps85
    go_upto_region 1 with fail
    rw [HW.out]
    go_wp2_with (refine wpList_store_row rfl _ _ _ rfl (w.heap.size + 1 + 1 + 1) #[.string K, .string (str no), .func (.func 115) #[] #[.pointer (some ⟨w.heap.size + 1, 0, none⟩), .pointer (some ⟨w.heap.size, 0, none⟩), .pointer (some ⟨w.heap.size + 1 + 1, 0, none⟩)]] rfl rfl _ _ HB.out.2.2.2 (by kernel_rfl) rfl (by kernel_rfl) ?_)
    refine bodyPost_ret (v := FldT K no 115 #[.pointer (some ⟨w.heap.size + 1, 0, none⟩), .pointer (some ⟨w.heap.size, 0, none⟩), .pointer (some ⟨w.heap.size + 1 + 1, 0, none⟩)]) (results_cell_row rfl _ _ _ _ _ _ _ rfl (setRow_heap _ _ _ _ _ _ HB.out.2.2.2) Tryz.underlying67 rfl (by kernel_rfl)) rfl ⟨w.heap.size, rfl, ⟨(setRow_other _ _ _ _ (by omega)).trans HB.out.2.1, (setRow_other _ _ _ _ (by omega)).trans HB.out.1, (setRow_other _ _ _ _ (by omega)).trans HB.out.2.2.1⟩, Nat.le_refl _, below_setRow HL.out (by omega) _⟩
end Go.Proofs.YtekcjfdllclphaaGreatDoor.gn
end
