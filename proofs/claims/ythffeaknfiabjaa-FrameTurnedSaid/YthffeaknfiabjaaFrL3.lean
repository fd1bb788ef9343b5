/- FrameTurned: the law's walk. -/
import Derived.Test.YthffeaknfiabjaaFrL2
import Derived.Handy
namespace Go.Proofs.Ythffeaknfiabjaa.gn
open Go.RowKit
open Go.Proofs.Ythffeaknfiabjaa.sl

theorem mb_at {w : World} {B g n cap : Nat} {l : List UInt8} (h : Mb w B (.slice (some ⟨g, 0, none⟩) n cap) l) : n = l.length ∧ B ≤ g ∧ n ≤ cap ∧
    (∀ j (hj : j < l.length), w.cell? ⟨g, j, none⟩ = some (.int .u8 (l[j].toNat : Int)) ∧ w.frozen? ⟨g, j, none⟩ = false) ∧
    (∀ j (_ : j < l.length) (b : UInt8), Mb (w.setCell ⟨g, j, none⟩ (.int .u8 (b.toNat : Int))) B (.slice (some ⟨g, 0, none⟩) n cap) (l.set j b)) := by
  obtain ⟨g', cap', hv, h1, h2, _, h3, h4⟩ := h.addr
  injection hv with e1 e2 e3
  injection e1 with e1
  injection e1 with e1
  subst e1; subst e2; subst e3
  exact ⟨rfl, h1, h2, h3, h4⟩
theorem bit_int (e k : Nat) : ((e : Int) / 2 ^ k).tmod 2 = ((e / 2 ^ k % 2 : Nat) : Int) := by
  have h : ((2 : Int) ^ k) = ((2 ^ k : Nat) : Int) := by push_cast; rfl
  rw [h, ← Int.natCast_ediv, Int.tmod_eq_emod_of_nonneg (Int.natCast_nonneg _)]
  omega
theorem turn_all : ∀ (c : Fin 256) (j : Fin 8), bits .xor .u8 ((c.val : Nat) : Int) (2 ^ j.val % 256) = (((UInt8.ofNat c.val) ^^^ ((1 : UInt8) <<< j.val.toUInt8)).toNat : Int) := by decide +kernel
theorem turn_byte (c : UInt8) (j : Nat) (hj : j < 8) : bits .xor .u8 (c.toNat : Int) (2 ^ j % 256) = ((c ^^^ ((1 : UInt8) <<< j.toUInt8)).toNat : Int) := by
  have h := turn_all ⟨c.toNat, UInt8.toNat_lt c⟩ ⟨j, hj⟩
  simpa using h

/-- The struct that came in. -/
def turnedV (A : Option Addr) (n cp : Nat) (wh a : Int) (e : Nat) : Value := .agg #[.slice A n cp, .int .u8 wh, .int .u16 a, .int .u64 (e : Int)]

set_option maxHeartbeats 1600000 in
theorem turned_great (A : Option Addr) (n cp : Nat) (wh a : Int) (e : Nat) (L : List (List UInt8)) (w : World) (h : Strs w (.slice A n cp) L) (hs : ¬ Small L) :
    Calls Try.prog 5 #[turnedV A n cp wh a e] w fun e w' => e = .returned (.bool true) ∧ Below w.heap.size w w' := by
  unfold turnedV
  have HG := Lib.hid fun (W : World) (hb : Below w.heap.size w W) => great_yes _ L W (h.below hb) hs
  go_enter Try.func5, Try.ntmps5
  go_wp2
  go_quiet (fail)
  have hb0 := below_drewN ((Below.refl w.heap.size w).alloc (Nat.le_refl _) (.cells #[.slice A n cp, .int .u8 wh, .int .u16 a, .int .u64 (e : Int)] 39)) nq
  have HB0 := Lib.hid hb0
  clear hb0
  go_wp2_with (first
    | (go_at_call 6; ((with_reducible refine (HG.out _ HB0.out).mono ?_); rintro e w1 ⟨rfl, rfl⟩))
    | (go_at_call 7; ((with_reducible refine (head_any _).mono ?_); rintro e w1 ⟨rfl, hb⟩)))
  go_ret
  exact ⟨rfl, HB0.out.trans (hb.mono HB0.out.size)⟩

set_option maxHeartbeats 1600000 in
theorem turned_short (A : Option Addr) (n cp : Nat) (wh a : Int) (e : Nat) (L : List (List UInt8)) (w : World) (h : Strs w (.slice A n cp) L) (hs : Small L) (h0 : n = 0 ∨ (n ≠ 0 ∧ n ≤ 20 ∧ e = 0)) :
    Calls Try.prog 5 #[turnedV A n cp wh a e] w fun e w' => e = .returned (.bool true) ∧ Below w.heap.size w w' := by
  unfold turnedV
  have HG := Lib.hid fun (W : World) (hb : Below w.heap.size w W) => great_no _ L W (h.below hb) hs
  clear h hs
  rcases h0 with h0 | ⟨h0, h20, h1⟩
  · subst h0
    go_enter Try.func5, Try.ntmps5
    go_wp2
    go_quiet (fail)
    have hb0 := below_drewN ((Below.refl w.heap.size w).alloc (Nat.le_refl _) (.cells #[.slice A 0 cp, .int .u8 wh, .int .u16 a, .int .u64 (e : Int)] 39)) nq
    have HB0 := Lib.hid hb0
    clear hb0
    go_wp2_with (first
      | (go_at_call 6; ((with_reducible refine (HG.out _ HB0.out).mono ?_); rintro e w1 ⟨rfl, rfl⟩))
      | (go_at_call 7; ((with_reducible refine (head_any _).mono ?_); rintro e w1 ⟨rfl, hb⟩)))
    go_ret
    exact ⟨rfl, HB0.out.trans (hb.mono HB0.out.size)⟩
  · subst h1
    have t0 : ((n : Int) == 0) = false := beq_eq_false_iff_ne.2 (by omega)
    go_enter Try.func5, Try.ntmps5
    go_wp2
    go_quiet (fail)
    have hb0 := below_drewN ((Below.refl w.heap.size w).alloc (Nat.le_refl _) (.cells #[.slice A n cp, .int .u8 wh, .int .u16 a, .int .u64 0] 39)) nq
    have HB0 := Lib.hid hb0
    clear hb0
    go_wp2_with (first
      | (go_at_call 6; ((with_reducible refine (HG.out _ HB0.out).mono ?_); rintro e w1 ⟨rfl, rfl⟩))
      | (go_at_call 7; ((with_reducible refine (head_any _).mono ?_); rintro e w1 ⟨rfl, hb⟩)))
    go_ret
    exact ⟨rfl, HB0.out.trans (hb.mono HB0.out.size)⟩

def TurnI (S : List UInt8) (fr e : Nat) (B : Nat) (w : World) (V : Value) (v14 : Value) (wr : World) : Prop :=
  ∃ i : Nat, i ≤ 64 ∧ v14 = .int .i64 (i : Int) ∧ Mb wr B V (turned S fr e i) ∧ Below B w wr
theorem turned_yes (S : List UInt8) (fr e i : Nat) (hb : e / 2 ^ i % 2 = 1) (hj : (fr + i) / 8 < (turned S fr e i).length) : turned S fr e (i + 1) = (turned S fr e i).set ((fr + i) / 8) ((turned S fr e i)[(fr + i) / 8] ^^^ ((1 : UInt8) <<< ((fr + i) % 8).toUInt8)) := by
  rw [turned, if_pos hb, flip1, List.getElem?_eq_getElem hj]; rfl
theorem turned_no (S : List UInt8) (fr e i : Nat) (hb : e / 2 ^ i % 2 = 0) : turned S fr e (i + 1) = turned S fr e i := by
  rw [turned, if_neg (by omega)]

set_option maxRecDepth 100000 in
set_option maxHeartbeats 8000000 in
theorem turned_main (A : Option Addr) (n cp : Nat) (wh a : Int) (e : Nat) (L : List (List UInt8)) (w : World) (h : Strs w (.slice A n cp) L) (hs : Small L) (hn : n ≠ 0) (he : e < 18446744073709551616) (h0 : e ≠ 0) (hw0 : 0 ≤ wh) (hw1 : wh < 256) (ha0 : 0 ≤ a) (ha1 : a < 65536) :
    Calls Try.prog 5 #[turnedV A n cp wh a e] w fun e w' => e = .returned (.bool true) ∧ Below w.heap.size w w' := by
  unfold turnedV
  obtain ⟨hnl, hcp, hcm⟩ := h.len
  subst hnl
  have h20 := hs.1
  unfold maxLen at hcm
  have hcost := hs.cost
  obtain ⟨k, hk, hkl⟩ : ∃ k : Nat, wh % (L.length : Int) = (k : Int) ∧ k < L.length := by
    have h1 := Int.emod_nonneg wh (show (L.length : Int) ≠ 0 by omega)
    have h2 := Int.emod_lt_of_pos wh (show 0 < (L.length : Int) by omega)
    exact ⟨(wh % (L.length : Int)).toNat, by omega, by omega⟩
  obtain ⟨b, o, hA, hbl, hcl⟩ := h.cells k hkl
  subst hA
  have hs5 := hs.2 _ (List.getElem_mem hkl)
  have hss : (str L[k]).size = (L[k]).length := str_size _
  have hcn := cost_next L k hkl
  have hst := fun f e => scan_turned L hs.max k hkl f e
  generalize L[k] = s at *
  obtain ⟨f, hf, hf2⟩ : ∃ f : Nat, a % (8 * ((s.length : Int) + 20) - 63) = (f : Int) ∧ f + 64 ≤ 8 * (20 + s.length) := by
    have h1 := Int.emod_nonneg a (show (8 * ((s.length : Int) + 20) - 63) ≠ 0 by omega)
    have h2 := Int.emod_lt_of_pos a (show 0 < (8 * ((s.length : Int) + 20) - 63) by omega)
    exact ⟨(a % (8 * ((s.length : Int) + 20) - 63)).toNat, by omega, by omega⟩
  have hF : (str (frames L)).size = cost L := by rw [str_size, frames_len]
  have hFl : (frames L).length = cost L := frames_len _
  have hG : (str (frames (L.take k))).size = cost (L.take k) := by rw [str_size, frames_len]
  have hGl : (frames (L.take k)).length = cost (L.take k) := frames_len _
  rw [hGl] at hst
  have HST := Lib.hid (hst f e hf2 he h0)
  have HG := Lib.hid fun (W : World) (hb : Below w.heap.size w W) => great_no _ L W (h.below hb) hs
  have HP := Lib.hid fun (W : World) (hb : Below w.heap.size w W) => put_any _ L W (h.below hb) hs.max (by omega)
  have HP2 := Lib.hid fun (W : World) (hb : Below w.heap.size w W) => put_any _ (L.take k) W ((h.take k (Nat.le_of_lt hkl)).below hb) (fun s hs' => hs.max s (List.mem_of_mem_take hs')) (by have := cost_part L k; omega)
  have HTk := Lib.hid fun (W : World) (hb : Below w.heap.size w W) => (h.take k (Nat.le_of_lt hkl)).below hb
  have HMx : Hid (∀ s ∈ L.take k, s.length ≤ maxLen) := Lib.hid fun s hs' => by have := hs.2 s (List.mem_of_mem_take hs'); unfold maxLen; omega
  have t0 : ((L.length : Int) == 0) = false := beq_eq_false_iff_ne.2 (by omega)
  have t1 : ((e : Int) == 0) = false := beq_eq_false_iff_ne.2 (by omega)
  have t2 : (L.length == 0) = false := beq_eq_false_iff_ne.2 (by omega)
  have t3 : (e == 0) = false := beq_eq_false_iff_ne.2 (by omega)
  clear h hs hst h0 hn
  generalize hca : cost (L.take k) = ca at *
  have HCA := Lib.hid hca
  clear hca
  go_enter Try.func5, Try.ntmps5
  go_wp2
  go_quiet (fail)
  have hb0 := below_drewN ((Below.refl w.heap.size w).alloc (Nat.le_refl _) (.cells #[.slice (some ⟨b, o, none⟩) L.length cp, .int .u8 wh, .int .u16 a, .int .u64 (e : Int)] 39)) nq
  have HB0 := Lib.hid hb0
  clear hb0
  go_wp2_with (go_at_call 6; ((with_reducible refine (HG.out _ HB0.out).mono ?_); rintro e' w1 ⟨rfl, rfl⟩))
  refine (HP.out _ HB0.out).mono ?_
  rintro e' w1 ⟨rfl, hb1⟩
  have HB1 := Lib.hid (HB0.out.trans (hb1.mono HB0.out.size))
  clear hb1
  go_wp2_with fail
  refine (HP2.out _ HB1.out).mono ?_
  rintro e' w2 ⟨rfl, hb2⟩
  have hB2 := HB1.out.trans (hb2.mono HB1.out.size)
  have hcr : w2.cell? ⟨b, o + k, none⟩ = some (.string (str s)) := (hB2.cell (p := ⟨b, o + k, none⟩) hbl).trans hcl
  clear hb2 hcl
  generalize hFF : frames L = F at *
  generalize hGG : frames (L.take k) = G at *
  have hg : grownCap w2 (str F).size 0 5 ≤ maxLen := grownCap_le_maxLen w2 _ 0 _ (by unfold maxLen; omega)
  have hcv := Lib.run_convert_string_bytes (P := Try.prog) w2 9 40 5 (str F) (u := .string) Try.underlying9 Try.underlying40 Try.underlying5
  have hm := Mb.made w2 (str F) hg
  have hl0 : (str F).data.toList = F := by simp [str]
  rw [hl0] at hm
  have hb := below_bytes w.heap.size w2 (str F) hB2.size
  have HB := Lib.hid (hB2.trans hb)
  have HM := Lib.hid (hm.mono hB2.size)
  have hcr2 : (Lib.bytesWorld w2 5 (str F)).cell? ⟨b, o + k, none⟩ = some (.string (str s)) := (hb.cell (p := ⟨b, o + k, none⟩) hbl).trans hcr
  clear hm hl0 hb hcr hB2
  rw [hF] at hcv hg HM
  generalize Lib.bytesWorld w2 5 (str F) = W at *
  generalize grownCap w2 (cost L) 0 5 = cap at hcv hg HM
  generalize w2.heap.size = g at *
  obtain ⟨fr, hfr⟩ : ∃ fr : Nat, fr = 8 * ca + f := ⟨_, rfl⟩
  have hfe : 8 * (ca : Int) + (f : Int) = (fr : Int) := by omega
  have hfr3 : fr + 64 ≤ 8 * cost L := by omega
  rw [← hfr] at HST
  clear hfr
  go_wp2_with (go_at_call 10; refine (cost_any s.length (by omega) _).mono ?_; rintro e' w4 ⟨rfl, rfl⟩)
  clear hcv hg hcr2 hk hf hfe
  go_loopw [14] (fun v14 wr => TurnI F fr e w.heap.size w (.slice (some ⟨g, 0, none⟩) (cost L) cap) v14 wr) (fun v14 _ => 64 - (intOf v14).toNat)
  case atStart => exact ⟨0, by omega, rfl, HM.out, HB.out⟩
  case round =>
    obtain ⟨i, hi, rfl, hm, hb⟩ := hrel
    obtain ⟨hn, hBg, hcap, hat, hset⟩ := mb_at hm
    have hMl := turned_len F fr e i
    by_cases hlt : i < 64
    · have hd : decide ((i : Int) < 64) = true := decide_eq_true (by omega)
      have hbit : e / 2 ^ i % 2 = 0 ∨ e / 2 ^ i % 2 = 1 := by omega
      rcases hbit with hbit | hbit
      · have tb : (((e : Int) / 2 ^ i).tmod 2 == 1) = false := by rw [bit_int, hbit]; rfl
        have HT := Lib.hid (turned_no F fr e i hbit)
        have HMm := Lib.hid hm
        have HBb := Lib.hid hb
        clear hat hset hn hm hb hbit
        go_wp2
        go_roundw
        case rel => exact ⟨i + 1, by omega, by go_num, by rw [HT.out]; exact HMm.out, HBb.out⟩
        case measure => simp [intOf]; omega
      · have tb : (((e : Int) / 2 ^ i).tmod 2 == 1) = true := by rw [bit_int, hbit]; rfl
        have hj : (fr + i) / 8 < (turned F fr e i).length := by omega
        have HT := Lib.hid (turned_yes F fr e i hbit hj)
        obtain ⟨hc, hfz⟩ := hat _ hj
        have HX := Lib.hid (turn_byte (turned F fr e i)[(fr + i) / 8] ((fr + i) % 8) (Nat.mod_lt _ (by decide)))
        have HM1 := Lib.hid (hset _ hj ((turned F fr e i)[(fr + i) / 8] ^^^ ((1 : UInt8) <<< ((fr + i) % 8).toUInt8)))
        have HB1 := Lib.hid hb
        have hge : decide ((cost L : Int) ≤ ((fr : Int) + (i : Int)) / 8) = false := decide_eq_false (by omega)
        generalize (turned F fr e i)[(fr + i) / 8] = c at *
        clear hat hn hset hm hb hbit hMl hj
        go_wp2
        go_roundw
        case rel =>
          rw [HX.out]
          exact ⟨i + 1, by omega, by go_num, by rw [HT.out]; exact HM1.out, HB1.out.setCell hBg _⟩
        case measure => simp [intOf]; omega
    · have hi64 : i = 64 := by omega
      subst hi64
      have hcv := hm.string
      have HB1 := Lib.hid hb
      have hsc := fun W => scan_any (turned F fr e 64) (by rw [hMl, hFl]; omega) W
      rw [HST.out, HCA.out] at hsc
      have HSc := Lib.hid hsc
      clear hat hset hm hb hsc hMl hn
      go_wp2_with fail
      refine (HSc.out _).mono ?_
      rintro e2 w5 ⟨va, rfl, hva, hb5⟩
      have HB5 := Lib.hid (HB1.out.trans (hb5.mono HB1.out.size))
      have HS := Lib.hid (same_yes va _ _ w5 (Ss.strs hva HMx.out) (HTk.out _ HB5.out))
      clear hva hb5 hcv
      go_wp2_with fail
      refine HS.out.mono ?_
      rintro e2 w6 ⟨rfl, hb6⟩
      have HB6 := Lib.hid (HB5.out.trans (hb6.mono HB5.out.size))
      clear hb6
      go_wp2_with fail
      refine (head_any _).mono ?_
      rintro e3 w7 ⟨rfl, hb7⟩
      have HB7 := Lib.hid (HB6.out.trans (hb7.mono HB6.out.size))
      clear hb7
      go_wp2
      go_ret
      exact ⟨rfl, HB7.out⟩
end Go.Proofs.Ythffeaknfiabjaa.gn
