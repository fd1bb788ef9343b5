/- PackRow: for every row of items the law returns true: the walk. -/
import Derived.Test.YtjfachkonnfldaaPackI
import Derived.Deep.DeepCutAuto
namespace Go.Proofs.Ytjfachkonnfldaa
open Go.RowKit
set_option linter.unusedVariables false

/-- The row of items lies there. -/
def Items (w : World) (b off len : Nat) (A N : Nat → Nat) (S : Nat → ByteArray) : Prop :=
  ∀ i, i < len → w.cell? ⟨b, off + i * 3, none⟩ = some (.int .u8 (A i : Int)) ∧ w.cell? ⟨b, off + i * 3 + 1, none⟩ = some (.int .u64 (N i : Int)) ∧ w.cell? ⟨b, off + i * 3 + 2, none⟩ = some (.string (S i)) ∧
    A i < 256 ∧ N i < 18446744073709551616 ∧ (S i).size ≤ maxLen

/-- The document's bytes of the first k items. -/
def encs (A N : Nat → Nat) (S : Nat → ByteArray) (k : Nat) : List UInt8 := (List.range k).flatMap fun i => itemEnc (A i) (N i) (S i)

theorem encs_succ (A N : Nat → Nat) (S : Nat → ByteArray) (k : Nat) : encs A N S (k + 1) = encs A N S k ++ itemEnc (A k) (N k) (S k) := by
  simp [encs, List.range_succ, List.flatMap_append]

theorem itemEnc_le (a n : Nat) (s : ByteArray) (hn : n < 18446744073709551616) (hs : s.size ≤ 300) : (itemEnc a n s).length ≤ 310 := by
  unfold itemEnc
  split
  · have := Lib.uvarint_length64 hn; omega
  · split
    · have h := wrap64_bd n
      have := zig_len _ h.1 h.2; omega
    · split
      · have := txt_le s hs; omega
      · simp [flg]

theorem encs_le (A N : Nat → Nat) (S : Nat → ByteArray) : ∀ k, (∀ i, i < k → N i < 18446744073709551616 ∧ (S i).size ≤ 300) → (encs A N S k).length ≤ k * 310
  | 0, _ => by simp [encs]
  | k + 1, h => by
    have h1 := encs_le A N S k (fun i hi => h i (by omega))
    have h2 := itemEnc_le (A k) (N k) (S k) (h k (by omega)).1 (h k (by omega)).2
    rw [encs_succ, List.length_append]
    omega

theorem add_any (bs : List UInt8) (b0 : Nat) (bv : Value) (what n : Nat) (s : ByteArray) (hw : what < 256) (hn : n < 18446744073709551616) (hsz : s.size ≤ 300) (hlim : bs.length ≤ 1000000) (w : World) (hs : Bs w b0 bv bs) :
    Calls Try.prog 7 #[bv, .agg #[.int .u8 (what : Int), .int .u64 (n : Int), .string s]] w (AddPost bs (itemEnc what n s) w) := by
  have h : what % 4 = 0 ∨ what % 4 = 1 ∨ what % 4 = 2 ∨ what % 4 = 3 := by omega
  rcases h with h | h | h | h
  · exact add0 bs b0 bv what n s hw h hn hsz hlim w hs
  · exact add1 bs b0 bv what n s hw h hn hsz hlim w hs
  · exact add2 bs b0 bv what n s hw h hn hsz hlim w hs
  · exact add3 bs b0 bv what n s hw h hn hsz hlim w hs

theorem bs_str {w : World} {B : Nat} {v : Value} {l : List UInt8} (h : Bs w B v l) : (convert 24 9 v).run Try.prog w = .ok (.string (str l)) w := bs_string h

def RowRel (w : World) (A N : Nat → Nat) (S : Nat → ByteArray) (k : Nat) (bv : Value) (wr : World) : Prop :=
  (∀ i, i < k → (S i).size ≤ 300) ∧ Bs wr 0 bv (encs A N S k) ∧ Below w.heap.size w wr

theorem str_later {W w1 : World} {B : Nat} {v : Value} {l : List UInt8} (hb : Below W.heap.size W w1) (hs : Bs W B v l) : (convert 24 9 v).run Try.prog w1 = .ok (.string (str l)) w1 :=
  bs_string (Below.bs hb hs (fun k hk => (World.ownsRow.lt hs k hk).2))

theorem row_step {w wr w2 : World} {A N : Nat → Nat} {S : Nat → ByteArray} {k : Nat} {v2 : Value} (hs : ∀ i, i < k → (S i).size ≤ 300) (h3 : (S k).size ≤ 300) (hB : Bs w2 wr.heap.size v2 (encs A N S k ++ itemEnc (A k) (N k) (S k)))
    (hw : Below w.heap.size w wr) (h2 : Below wr.heap.size wr w2) : RowRel w A N S (k + 1) v2 w2 := by
  refine ⟨fun i h => ?_, by rw [encs_succ]; exact Bs_base hB (Nat.zero_le _), hw.trans (h2.mono hw.size)⟩
  rcases Nat.lt_or_ge i k with h1 | h1
  · exact hs i h1
  · obtain rfl : i = k := by omega
    exact h3

/-- The document's bytes of j items, from item k on. -/
def tailEnc (A N : Nat → Nat) (S : Nat → ByteArray) : Nat → Nat → List UInt8
  | 0, _ => []
  | j + 1, k => itemEnc (A k) (N k) (S k) ++ tailEnc A N S j (k + 1)
theorem encs_tail (A N : Nat → Nat) (S : Nat → ByteArray) : ∀ j k, encs A N S (k + j) = encs A N S k ++ tailEnc A N S j k
  | 0, k => by simp [tailEnc]
  | j + 1, k => by
    have h := encs_tail A N S j (k + 1)
    rw [show k + (j + 1) = k + 1 + j from by omega, h, encs_succ, tailEnc, List.append_assoc]
theorem tail_all (A N : Nat → Nat) (S : Nat → ByteArray) (k : Nat) : encs A N S k = tailEnc A N S (k - 0) 0 := by
  have h := encs_tail A N S k 0
  rw [Nat.zero_add] at h
  rw [h]
  simp [encs]

def ReadRel (w : World) (A N : Nat → Nat) (S : Nat → ByteArray) (R j k : Nat) (wr : World) : Prop :=
  RS wr R (some (tailEnc A N S j k)) ∧ Below w.heap.size w wr

theorem num_item (n : Nat) (r : List UInt8) (hn : n < 18446744073709551616) : numOf (some (Lib.uvarint n ++ r)) = (n, some r) := numOf_yes (rd_uvarint n r hn)
theorem text_item (s : ByteArray) (r : List UInt8) (hs : s.size ≤ 300) : textOf (s.size : Int) (some (txt s ++ r)) = (s.data.toList, some r) := by
  have el : s.data.toList.length = s.size := by rw [Array.length_toList]; rfl
  have h : rd (txt s ++ r) = some (s.size, s.data.toList ++ r) := by
    unfold txt
    rw [List.append_assoc, rd_uvarint _ _ (by omega)]
  simp only [textOf, h]
  rw [if_neg (by rw [List.length_append, el]; omega), List.take_left' el, List.drop_left' el]
theorem flag_item (f : Bool) (r : List UInt8) : flagOf (some (flg f ++ r)) = (f, some r) := by
  cases f <;> rfl
theorem str_of (s : ByteArray) : str s.data.toList = s := by
  apply ByteArray.ext
  simp [str]

set_option maxHeartbeats 6400000 in
set_option maxRecDepth 100000 in
theorem row_any (b off len cap : Nat) (A N : Nat → Nat) (S : Nat → ByteArray) (w : World) (hlen : len ≤ 40) (hb : b < w.heap.size) (hi : Items w b off len A N S) :
    Calls Try.prog 3 #[.slice (some ⟨b, off, none⟩) len cap] w fun e w' => e = .returned (.bool true) ∧ Below w.heap.size w w' := by
  have HI := Lib.hid hi
  clear hi
  go_enter Try.func3, Try.ntmps3
  go_wp2_with fail
  go_loopw [3, 4, 5] (fun vb vs vi wr => ∃ k : Nat, k ≤ len ∧ vi = .int .i64 k ∧ vs = .string (str (encs A N S k)) ∧ Hid (RowRel w A N S k vb wr)) (fun _ _ vi _ => len - (intOf vi).toNat)
  case atStart => exact ⟨0, Nat.zero_le _, rfl, rfl, fun i h => by omega, Bs_nil _ _, Below.refl _ _⟩
  case round =>
    obtain ⟨k, hk, rfl, rfl, HR⟩ := hrel
    by_cases hlt : k < len
    · obtain ⟨hr1, hr2, hr3⟩ := HR.out
      obtain ⟨i0, i1, i2, i3, i4, i5⟩ := HI.out k hlt
      have c0 : wr.cell? ⟨b, off + k * 3, none⟩ = some (.int .u8 (A k : Int)) := (hr3.cell (p := ⟨b, _, none⟩) hb).trans i0
      have c1 : wr.cell? ⟨b, off + k * 3 + 1, none⟩ = some (.int .u64 (N k : Int)) := (hr3.cell (p := ⟨b, _, none⟩) hb).trans i1
      have c2 : wr.cell? ⟨b, off + k * 3 + 2, none⟩ = some (.string (S k)) := (hr3.cell (p := ⟨b, _, none⟩) hb).trans i2
      have hv := bs_str hr2
      have HB := Lib.hid hr2
      have HW := Lib.hid hr3
      have HS := Lib.hid hr1
      clear i0 i1 i2 hr1 hr2 hr3
      unfold maxLen at i5
      by_cases hlong : 300 < (S k).size
      · go_wp2_with (go_at_call 6; refine (head_any _).mono ?_; rintro e w9 ⟨rfl, hb9⟩)
        go_ret
        exact ⟨rfl, HW.out.trans (hb9.mono HW.out.size)⟩
      · have hs3 : (S k).size ≤ 300 := by omega
        have hel : (encs A N S k).length ≤ k * 310 := encs_le A N S k (fun i h => ⟨(HI.out i (by omega)).2.2.2.2.1, HS.out i h⟩)
        have hil := itemEnc_le (A k) (N k) (S k) i4 hs3
        have z1 : (str (encs A N S k)).size ≤ 20000 := by rw [str_size]; omega
        have z2 : (str (itemEnc (A k) (N k) (S k))).size ≤ 310 := by rw [str_size]; exact hil
        clear hlong hil
        go_wp2_with fail
        refine (add_any _ 0 _ _ _ _ i3 i4 hs3 (by omega) _ HB.out).mono ?_
        rintro e w2 ⟨v2, rfl, hB2, hb2⟩
        have hv2 := bs_str hB2
        have hv1 := str_later hb2 HB.out
        have hcat := str_app (encs A N S k) (itemEnc (A k) (N k) (S k))
        have HB2 := Lib.hid hB2
        have HW2 := Lib.hid hb2
        clear hB2 hb2 hv
        go_wp2
        go_roundw
        case rel => exact ⟨k + 1, by omega, by go_num, by rw [encs_succ], row_step HS.out hs3 HB2.out HW.out HW2.out⟩
        case measure => simp [intOf]; omega
    · obtain rfl : k = len := by omega
      clear hlt hk
      obtain ⟨hr1, hr2, hr3⟩ := HR.out
      have hv := bs_str hr2
      have HS := Lib.hid hr1
      have HW := Lib.hid hr3
      have hRlow : w.heap.size ≤ wr.heap.size := hr3.size
      clear hr1 hr2 hr3 HR
      go_wp2_with fail
      refine (open_any _ _).mono ?_
      rintro e w3 ⟨rfl, hr3, hb3, _⟩
      have HR3 : Hid (ReadRel w A N S wr.heap.size (k - 0) 0 w3) := ⟨by rw [← tail_all]; exact hr3, HW.out.trans (hb3.mono HW.out.size)⟩
      clear hr3 hb3
      obtain ⟨R, hR⟩ : ∃ R, R = wr.heap.size := ⟨_, rfl⟩
      rw [← hR] at HR3 hRlow ⊢
      clear hR hv HW
      go_wp2_with fail
      go_loopw [10] (fun vi wx => ∃ j : Nat, j ≤ k ∧ vi = .int .i64 j ∧ Hid (ReadRel w A N S R (k - j) j wx)) (fun vi _ => k - (intOf vi).toNat)
      case atStart => exact ⟨0, Nat.zero_le _, rfl, HR3⟩
      case round =>
        obtain ⟨j, hj, rfl, HJ⟩ := hrel
        by_cases hlt : j < k
        · obtain ⟨hq1, hq2⟩ := HJ.out
          obtain ⟨i0, i1, i2, i3, i4, i5⟩ := HI.out j hlt
          obtain ⟨wq, hwq⟩ : ∃ wq, RS wq R (some (tailEnc A N S (k - j) j)) ∧ Below w.heap.size w wq := ⟨_, hq1, hq2⟩
          have c0 := (hq2.cell (p := ⟨b, off + j * 3, none⟩) hb).trans i0
          have c1 := (hq2.cell (p := ⟨b, off + j * 3 + 1, none⟩) hb).trans i1
          have c2 := (hq2.cell (p := ⟨b, off + j * 3 + 2, none⟩) hb).trans i2
          have hs3 : (S j).size ≤ 300 := HS.out j hlt
          have htl : tailEnc A N S (k - j) j = itemEnc (A j) (N j) (S j) ++ tailEnc A N S (k - (j + 1)) (j + 1) := by
            rw [show k - j = (k - (j + 1)) + 1 from by omega]; rfl
          have hll : (tailEnc A N S (k - j) j).length ≤ 40 * 310 := by
            have h := encs_tail A N S (k - j) j
            rw [show j + (k - j) = k from by omega] at h
            have h2 := encs_le A N S k (fun i hi => ⟨(HI.out i hi).2.2.2.2.1, HS.out i hi⟩)
            rw [h, List.length_append] at h2
            omega
          rw [htl] at hq1 hll
          have hRlt := RS_lt hq1
          have H1 := Lib.hid hq1
          have H2 := Lib.hid hq2
          clear hwq hq1 hq2 i0 i1 i2 i5 htl HJ
          have hq4 : A j % 4 = 0 ∨ A j % 4 = 1 ∨ A j % 4 = 2 ∨ A j % 4 = 3 := by omega
          rcases hq4 with hq | hq | hq | hq
          · have he : itemEnc (A j) (N j) (S j) = Lib.uvarint (N j) := by unfold itemEnc; rw [if_pos hq]
            have t0 : ((A j : Int) % 4 == 0) = true := beq_iff_eq.2 (by omega)
            have t1 : ((A j : Int) % 4 == 1) = false := beq_eq_false_iff_ne.2 (by omega)
            have t2 : ((A j : Int) % 4 == 2) = false := beq_eq_false_iff_ne.2 (by omega)
            have t3 : ((A j : Int) % 4 == 3) = false := beq_eq_false_iff_ne.2 (by omega)
            have HN := Lib.hid i4
            rw [he] at H1 hll
            have HM := Lib.hid (num_item (N j) (tailEnc A N S (k - (j + 1)) (j + 1)) HN.out)
            have HLT : Hid (∀ x : List UInt8, some (Lib.uvarint (N j) ++ tailEnc A N S (k - (j + 1)) (j + 1)) = some x → x.length ≤ 140737488355328) := fun x h => by cases h; omega
            clear hq he hll
            go_wp2_with fail
            obtain ⟨W, hW⟩ : ∃ W, W = wr.alloc (.cells #[.int .u8 (A j : Int), .int .u64 (N j : Int), .string (S j)] 27) := ⟨_, rfl⟩
            have hx1 : W.cell? ⟨wr.heap.size, 1, none⟩ = some (.int .u64 (N j : Int)) := by rw [hW, World.cell?_alloc_at _ _ _ _ rfl]; rfl
            have HSW : Hid (RS W R (some (Lib.uvarint (N j) ++ tailEnc A N S (k - (j + 1)) (j + 1)))) := by rw [hW]; exact (World.grownBy_alloc _ _ none).block R hRlt (by simp) |>.trans H1.out
            have HBW : Hid (Below w.heap.size w W) := by rw [hW]; exact H2.out.alloc H2.out.size _
            have hzW : w.heap.size ≤ W.heap.size := HBW.out.size
            have hne : wr.heap.size ≠ R := by omega
            rw [← hW]
            clear hW
            go_region_held3 (fun w' => w'.cell? ⟨wr.heap.size, 1, none⟩ = some (.int .u64 (N j : Int))) (go_keep) (first
              | (go_at_call 9; refine (rNum_any _ _ (some (Lib.uvarint (N j) ++ tailEnc A N S (k - (j + 1)) (j + 1))) ?_).mono ?_; (focus (exact HSW.out)); rintro e w5 ⟨rfl, hr5, hu5⟩; rw [HM.out] at hr5; rw [HM.out]; have hS5 : w5.cell? ⟨wr.heap.size, 1, none⟩ = some (.int .u64 (N j : Int)) := hu5.cell hx1 hne))
            have HR5 := Lib.hid hr5
            have HB5 := Lib.hid (below_of_but HBW.out.drew hu5 hzW hRlow)
            clear hr5 hu5
            go_wp2_with (go_at_call 13; refine (fine_yes _ _ _ HR5.out).mono ?_; rintro e w8 ⟨rfl, rfl⟩)
            go_roundw
            case rel => exact ⟨j + 1, by omega, by go_num, HR5.out, HB5.out⟩
            case measure => simp [intOf]; omega
          · have he : itemEnc (A j) (N j) (S j) = Lib.uvarint (Lib.zigzag (IntKind.i64.wrap (N j))) := by unfold itemEnc; rw [if_neg (by omega), if_pos hq]
            have t0 : ((A j : Int) % 4 == 0) = false := beq_eq_false_iff_ne.2 (by omega)
            have t1 : ((A j : Int) % 4 == 1) = true := beq_iff_eq.2 (by omega)
            have t2 : ((A j : Int) % 4 == 2) = false := beq_eq_false_iff_ne.2 (by omega)
            have t3 : ((A j : Int) % 4 == 3) = false := beq_eq_false_iff_ne.2 (by omega)
            have HN := Lib.hid (zigzag_lt _ (wrap64_bd (N j)).1 (wrap64_bd (N j)).2)
            rw [he] at H1 hll
            have HM := Lib.hid (num_item (Lib.zigzag (IntKind.i64.wrap (N j))) (tailEnc A N S (k - (j + 1)) (j + 1)) HN.out)
            have HLT : Hid (∀ x : List UInt8, some (Lib.uvarint (Lib.zigzag (IntKind.i64.wrap (N j))) ++ tailEnc A N S (k - (j + 1)) (j + 1)) = some x → x.length ≤ 140737488355328) := fun x h => by cases h; omega
            clear hq he hll
            go_wp2_with fail
            obtain ⟨W, hW⟩ : ∃ W, W = wr.alloc (.cells #[.int .u8 (A j : Int), .int .u64 (N j : Int), .string (S j)] 27) := ⟨_, rfl⟩
            have hx1 : W.cell? ⟨wr.heap.size, 1, none⟩ = some (.int .u64 (N j : Int)) := by rw [hW, World.cell?_alloc_at _ _ _ _ rfl]; rfl
            have HSW : Hid (RS W R (some (Lib.uvarint (Lib.zigzag (IntKind.i64.wrap (N j))) ++ tailEnc A N S (k - (j + 1)) (j + 1)))) := by rw [hW]; exact (World.grownBy_alloc _ _ none).block R hRlt (by simp) |>.trans H1.out
            have HBW : Hid (Below w.heap.size w W) := by rw [hW]; exact H2.out.alloc H2.out.size _
            have hzW : w.heap.size ≤ W.heap.size := HBW.out.size
            have hne : wr.heap.size ≠ R := by omega
            rw [← hW]
            clear hW
            go_region_held3 (fun w' => w'.cell? ⟨wr.heap.size, 1, none⟩ = some (.int .u64 (N j : Int))) (go_keep) (first
              | (go_at_call 10; refine (rInt_any _ _ (some (Lib.uvarint (Lib.zigzag (IntKind.i64.wrap (N j))) ++ tailEnc A N S (k - (j + 1)) (j + 1))) ?_).mono ?_; (focus (exact HSW.out)); rintro e w5 ⟨rfl, hr5, hu5⟩; rw [HM.out] at hr5; rw [HM.out, unzig_zigzag]; have hS5 : w5.cell? ⟨wr.heap.size, 1, none⟩ = some (.int .u64 (N j : Int)) := hu5.cell hx1 hne))
            have HR5 := Lib.hid hr5
            have HB5 := Lib.hid (below_of_but HBW.out.drew hu5 hzW hRlow)
            clear hr5 hu5
            go_wp2_with (go_at_call 13; refine (fine_yes _ _ _ HR5.out).mono ?_; rintro e w8 ⟨rfl, rfl⟩)
            go_roundw
            case rel => exact ⟨j + 1, by omega, by go_num, HR5.out, HB5.out⟩
            case measure => simp [intOf]; omega
          · have he : itemEnc (A j) (N j) (S j) = txt (S j) := by unfold itemEnc; rw [if_neg (by omega), if_neg (by omega), if_pos hq]
            have t0 : ((A j : Int) % 4 == 0) = false := beq_eq_false_iff_ne.2 (by omega)
            have t1 : ((A j : Int) % 4 == 1) = false := beq_eq_false_iff_ne.2 (by omega)
            have t2 : ((A j : Int) % 4 == 2) = true := beq_iff_eq.2 (by omega)
            have t3 : ((A j : Int) % 4 == 3) = false := beq_eq_false_iff_ne.2 (by omega)
            have HN := Lib.hid (show -9223372036854775808 ≤ ((S j).size : Int) ∧ ((S j).size : Int) ≤ 9223372036854775807 by omega)
            rw [he] at H1 hll
            have HM := Lib.hid (text_item (S j) (tailEnc A N S (k - (j + 1)) (j + 1)) hs3)
            have HLT : Hid (∀ x : List UInt8, some (txt (S j) ++ tailEnc A N S (k - (j + 1)) (j + 1)) = some x → x.length ≤ 140737488355328) := fun x h => by cases h; omega
            clear hq he hll
            go_wp2_with fail
            obtain ⟨W, hW⟩ : ∃ W, W = wr.alloc (.cells #[.int .u8 (A j : Int), .int .u64 (N j : Int), .string (S j)] 27) := ⟨_, rfl⟩
            have hx1 : W.cell? ⟨wr.heap.size, 2, none⟩ = some (.string (S j)) := by rw [hW, World.cell?_alloc_at _ _ _ _ rfl]; rfl
            have HSW : Hid (RS W R (some (txt (S j) ++ tailEnc A N S (k - (j + 1)) (j + 1)))) := by rw [hW]; exact (World.grownBy_alloc _ _ none).block R hRlt (by simp) |>.trans H1.out
            have HBW : Hid (Below w.heap.size w W) := by rw [hW]; exact H2.out.alloc H2.out.size _
            have hzW : w.heap.size ≤ W.heap.size := HBW.out.size
            have hne : wr.heap.size ≠ R := by omega
            rw [← hW]
            clear hW
            go_region_held3 (fun w' => w'.cell? ⟨wr.heap.size, 2, none⟩ = some (.string (S j))) (go_keep) (first
              | (go_at_call 11; refine (rText_any _ _ ((S j).size : Int) _ HN.out HLT.out ?_).mono ?_; (focus (exact HSW.out)); rintro e w5 ⟨rfl, hr5, hu5⟩; rw [HM.out] at hr5; rw [HM.out, str_of]; have hS5 : w5.cell? ⟨wr.heap.size, 2, none⟩ = some (.string (S j)) := hu5.cell hx1 hne))
            have HR5 := Lib.hid hr5
            have HB5 := Lib.hid (below_of_but HBW.out.drew hu5 hzW hRlow)
            clear hr5 hu5
            go_wp2_with (go_at_call 13; refine (fine_yes _ _ _ HR5.out).mono ?_; rintro e w8 ⟨rfl, rfl⟩)
            go_roundw
            case rel => exact ⟨j + 1, by omega, by go_num, HR5.out, HB5.out⟩
            case measure => simp [intOf]; omega
          · have he : itemEnc (A j) (N j) (S j) = flg ((N j : Int).tmod 2 == 1) := by unfold itemEnc; rw [if_neg (by omega), if_neg (by omega), if_neg (by omega)]
            have t0 : ((A j : Int) % 4 == 0) = false := beq_eq_false_iff_ne.2 (by omega)
            have t1 : ((A j : Int) % 4 == 1) = false := beq_eq_false_iff_ne.2 (by omega)
            have t2 : ((A j : Int) % 4 == 2) = false := beq_eq_false_iff_ne.2 (by omega)
            have t3 : ((A j : Int) % 4 == 3) = true := beq_iff_eq.2 (by omega)
            have HN := Lib.hid True.intro
            rw [he] at H1 hll
            have HM := Lib.hid (flag_item ((N j : Int).tmod 2 == 1) (tailEnc A N S (k - (j + 1)) (j + 1)))
            have HLT : Hid (∀ x : List UInt8, some (flg ((N j : Int).tmod 2 == 1) ++ tailEnc A N S (k - (j + 1)) (j + 1)) = some x → x.length ≤ 140737488355328) := fun x h => by cases h; omega
            clear hq he hll
            go_wp2_with fail
            obtain ⟨W, hW⟩ : ∃ W, W = wr.alloc (.cells #[.int .u8 (A j : Int), .int .u64 (N j : Int), .string (S j)] 27) := ⟨_, rfl⟩
            have hx1 : W.cell? ⟨wr.heap.size, 1, none⟩ = some (.int .u64 (N j : Int)) := by rw [hW, World.cell?_alloc_at _ _ _ _ rfl]; rfl
            have HSW : Hid (RS W R (some (flg ((N j : Int).tmod 2 == 1) ++ tailEnc A N S (k - (j + 1)) (j + 1)))) := by rw [hW]; exact (World.grownBy_alloc _ _ none).block R hRlt (by simp) |>.trans H1.out
            have HBW : Hid (Below w.heap.size w W) := by rw [hW]; exact H2.out.alloc H2.out.size _
            have hzW : w.heap.size ≤ W.heap.size := HBW.out.size
            have hne : wr.heap.size ≠ R := by omega
            rw [← hW]
            clear hW
            go_region_held3 (fun w' => w'.cell? ⟨wr.heap.size, 1, none⟩ = some (.int .u64 (N j : Int))) (go_keep) (first
              | (go_at_call 12; refine (rFlag_any _ _ (some (flg ((N j : Int).tmod 2 == 1) ++ tailEnc A N S (k - (j + 1)) (j + 1))) ?_).mono ?_; (focus (exact HSW.out)); rintro e w5 ⟨rfl, hr5, hu5⟩; rw [HM.out] at hr5; rw [HM.out]; have hS5 : w5.cell? ⟨wr.heap.size, 1, none⟩ = some (.int .u64 (N j : Int)) := hu5.cell hx1 hne))
            have HR5 := Lib.hid hr5
            have HB5 := Lib.hid (below_of_but HBW.out.drew hu5 hzW hRlow)
            clear hr5 hu5
            go_wp2_with (go_at_call 13; refine (fine_yes _ _ _ HR5.out).mono ?_; rintro e w8 ⟨rfl, rfl⟩)
            go_roundw
            case rel => exact ⟨j + 1, by omega, by go_num, HR5.out, HB5.out⟩
            case measure => simp [intOf]; omega
        · obtain rfl : j = k := by omega
          have hq1 := HJ.out.1
          rw [Nat.sub_self] at hq1
          have HR9 : Hid (RS wr R (some [])) := hq1
          have HB9 := Lib.hid HJ.out.2
          clear hq1 HJ hlt
          go_wp2_with (first | (go_at_call 14; refine (rOver_any _ _ _ HR9.out).mono ?_; rintro e w8 ⟨rfl, rfl⟩) | (go_at_call 6; refine (head_any _).mono ?_; rintro e w9 ⟨rfl, hb9⟩))
          go_ret
          exact ⟨rfl, HB9.out.trans (hb9.mono HB9.out.size)⟩

set_option maxHeartbeats 800000 in
theorem row_long (v : Option Addr) (len cap : Nat) (hl : 40 < len) (w : World) :
    Calls Try.prog 3 #[.slice v len cap] w fun e w' => e = .returned (.bool true) ∧ Below w.heap.size w w' := by
  go_enter Try.func3, Try.ntmps3
  go_wp2_with (go_at_call 6; refine (head_any _).mono ?_; rintro e w9 ⟨rfl, hb9⟩)
  go_ret
  exact ⟨rfl, hb9⟩
end Go.Proofs.Ytjfachkonnfldaa
