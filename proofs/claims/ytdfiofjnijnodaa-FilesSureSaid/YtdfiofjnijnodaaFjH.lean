/- The document's Crash. -/
import Derived.Test.YtdfiofjnijnodaaFjG
import Derived.Test.YtdfiofjnijnodaaFiX
set_option linter.unusedVariables false
namespace Go.Proofs.Ytdfiofjnijnodaa.gn
open Go.RowKit
open Go.Proofs.Ytdfiofjnijnodaa.fi

/-- How the loop over the open operations stands: a row of its own, with these bounds behind i rounds. -/
def CrR (W1 : World) (S : List DF) (M : Nat) (B i : Nat) (x : Value) (wr : World) : Prop := ∃ L, FR wr B x L ∧ L.length ≤ S.length + i ∧ Bd (M + 300 * i) L ∧ Below W1.heap.size W1 wr

theorem CrR.step {W1 wr w2 : World} {S L L2 : List DF} {M B j : Nat} {A : Option Addr} {n c : Nat} {v2 : Value} {s : ByteArray} {x : Obj} (hL : FR wr B (.slice A n c) L) (hl : L.length ≤ S.length + j) (hb : Bd (M + 300 * j) L) (hw : Below W1.heap.size W1 wr) (hs : s.size ≤ 300) (hB : B ≤ W1.heap.size)
    (h2 : FR w2 (wr.alloc x).heap.size v2 L2) (hl2 : L2.length ≤ L.length + 1) (hb2 : ∀ M, Bd M L → Bd (M + s.size) L2) (hw2 : Below (wr.alloc x).heap.size (wr.alloc x) w2) : CrR W1 S M B (j + 1) v2 w2 := by
  have h1 := hw.size
  exact ⟨L2, h2.mono (by rw [World.size_alloc]; omega), by omega, (hb2 _ hb).mono (by omega), (hw.alloc hw.size _).trans (hw2.mono (by rw [World.size_alloc]; omega))⟩
theorem DocI.crashed {w W0 wr wx : World} {Y : Nat → Prop} {q K : Nat} {vn vs vo : Value} {r : Int} {N S : List DF} {O : List DO} (h : DocI w Y q K vn vs vo r N S O) (hb0 : Below w.heap.size w W0) (hw : Below (w.heap.size + 1) W0 wr) {v : Value} {L : List DF} {M : Nat} (hL : FR wx (w.heap.size + 1) v L) (hl : L.length ≤ S.length + O.length) (hbd : Bd (M + 300 * O.length) L)
    (hM : M + 300 * O.length ≤ 300 * K) (hx : Below (w.heap.size + 1) wr wx) : Doc (wx.setCell ⟨q, 0, none⟩ v) (ext Y w (wx.setCell ⟨q, 0, none⟩ v)) q K ∧ ∀ w', Ran (ext Y w (wx.setCell ⟨q, 0, none⟩ v)) q K (wx.setCell ⟨q, 0, none⟩ v) w' → Ran Y q K w w' := by
  have hb : Below w.heap.size w wx := (hb0.trans (hw.mono (Nat.le_succ _))).trans (hx.mono (Nat.le_succ _))
  have hq : q < w.heap.size := lt_of_block h.blk
  have hq1 : ∀ g cs t, t ≠ 59 → wx.heap[g]? = some (.cells cs t (0, 0)) → g ≠ q := fun g cs t ht hh e => by
    have h1 := h.blk.below hb
    unfold DocB at h1
    rw [e, h1] at hh
    simp at hh
    exact ht hh.2.symm
  have hz : (wx.setCell ⟨q, 0, none⟩ v).heap.size = wx.heap.size := World.size_setCell ..
  have ho : Only (fun i => i = q) w (wx.setCell ⟨q, 0, none⟩ v) := Only.trans (S' := fun i => i = q) (Only.of_below hb) ⟨rfl, rfl, rfl, by rw [hz]; exact Nat.le_refl _, fun i hi hq => Below.heap_setCell _ _ _ _ hq⟩ fun i _ h => h
  have hln := h.ln
  have hls := h.ls
  refine ⟨⟨v, vs, vo, r, L, S, O, (h.blk.below hb).set0 v, ext_old h.y, (hL.far (show q < _ by omega) v).mono (Nat.zero_le _), (h.s.below hb).kept fun g _ _ cs hh => Below.heap_setCell _ _ _ _ (hq1 g cs _ (by decide) hh), (h.o.below hb).kept fun g _ _ cs hh => Below.heap_setCell _ _ _ _ (hq1 g cs _ (by decide) hh),
    fun g hg => ext_new (Nat.le_trans (Nat.le_succ _) (World.ownsRow.lt hL g hg).1) (by rw [hz]; exact (World.ownsRow.lt hL g hg).2), fun g hg => ext_old (h.ys g hg), fun g hg => ext_old (h.yo g hg), h.r0, h.r1, by omega, h.ls, hbd.mono hM, h.bs, h.bo⟩, fun w' hr => ⟨hr.1.more fun i hi => ext_ext ho.size hr.2.size hi, ho.trans hr.2 fun i _ h => h⟩⟩
theorem CrR.stay {W1 wr : World} {S L : List DF} {M B j : Nat} {v : Value} (hL : FR wr B v L) (hl : L.length ≤ S.length + j) (hb : Bd (M + 300 * j) L) (hw : Below W1.heap.size W1 wr) (x : Obj) : CrR W1 S M B (j + 1) v (wr.alloc x) :=
  ⟨L, hL.alloc x, by omega, hb.mono (by omega), hw.alloc hw.size _⟩
theorem bit2_is (l k : Nat) : ((l : Int) / 2 ^ (k % 64)).tmod 2 = ((l >>> (k % 64) % 2 : Nat) : Int) := by
  have h1 : ((l : Int) / 2 ^ (k % 64)) = ((l >>> (k % 64) : Nat) : Int) := by
    rw [Nat.shiftRight_eq_div_pow]
    norm_cast
  rw [h1]
  rfl

set_option maxHeartbeats 16000000 in
set_option maxRecDepth 100000 in
theorem dcrash_any (w : World) (Y : Nat → Prop) (q K : Nat) (h : Doc w Y q K) (hK : K ≤ 300) (f : Fault) (hfl : f.lose < 18446744073709551616) :
    Calls Try.prog 25 #[.pointer (some ⟨q, 0, none⟩), .agg #[.int .i64 f.keep, .int .u64 (f.lose : Int), .int .i64 f.cut]] w fun e w' => e = .returned (.tuple #[]) ∧ Ran Y q K w w' := by
  obtain ⟨vn, vs, vo, r, N, S, O, h⟩ := h
  obtain ⟨M, m1, m2⟩ := h.bs
  have hz : (w.alloc (.cells #[.int .i64 f.keep, .int .u64 (f.lose : Int), .int .i64 f.cut] 25)).heap.size = w.heap.size + 1 := by simp
  have hb0 : Below w.heap.size w (w.alloc (.cells #[.int .i64 f.keep, .int .u64 (f.lose : Int), .int .i64 f.cut] 25)) := (Below.refl _ w).alloc (Nat.le_refl _) _
  have ho0 : BoxF (w.alloc (.cells #[.int .i64 f.keep, .int .u64 (f.lose : Int), .int .i64 f.cut] 25)) w.heap.size f := heap_alloc_new w _
  have hb1 : Below (w.heap.size + 1) (w.alloc (.cells #[.int .i64 f.keep, .int .u64 (f.lose : Int), .int .i64 f.cut] 25)) ((w.alloc (.cells #[.int .i64 f.keep, .int .u64 (f.lose : Int), .int .i64 f.cut] 25)).alloc (.cells #[] 88)) := (Below.refl _ _).alloc (by rw [hz]; omega) _
  have hr0 := FR.new0 (w.alloc (.cells #[.int .i64 f.keep, .int .u64 (f.lose : Int), .int .i64 f.cut] 25))
  rw [hz] at hr0
  have hbb := hb0.trans (hb1.mono (Nat.le_succ _))
  have hsl : Src ((w.alloc (.cells #[.int .i64 f.keep, .int .u64 (f.lose : Int), .int .i64 f.cut] 25)).alloc (.cells #[] 88)) vs S := h.s.src.below hbb
  obtain ⟨c0, c1, c2, c3⟩ := (h.blk.below hbb).cells
  have hlS := h.ls
  have HH := Lib.hid h
  have HB0 := Lib.hid hb0
  have HO0 := Lib.hid ho0
  have HB1 := Lib.hid hb1
  have HR0 := Lib.hid hr0
  have HSL := Lib.hid hsl
  have HM := Lib.hid (And.intro m1 m2)
  obtain ⟨A0, n0, c0', rfl⟩ := h.s.shape
  obtain ⟨A5, c5, rfl⟩ := h.o.shape
  clear h hb0 ho0 hb1 hr0 hsl hz hbb m1 m2
  go_enter Try.func25, Try.ntmps25
  go_wp2_with (at_builtin; refine wpl_appF rfl _ _ rfl (w.heap.size + 1) _ [] rfl HR0.out _ S rfl HSL.out (by simp; omega) (by simp) ?_; intro v1 w1 h1 g1; rw [List.nil_append] at h1; have hb1 := grown_below HB1.out HR0.out g1 (by simp); have o1 := (show BoxF _ w.heap.size f from (hb1.block _ (by simp)).trans HO0.out); obtain ⟨A1, n1, c1', rfl⟩ := h1.shape; have H1 := Lib.hid h1; have HBB := Lib.hid hb1; have HO1 := Lib.hid o1; clear h1 g1 hb1 o1)
  have hstart : CrR w1 S M (w.heap.size + 1) 0 (.slice A1 n1 c1') w1 := ⟨S, H1.out, by omega, HM.out.1, Below.refl _ _⟩
  have HST := Lib.hid hstart
  have hd1 := HH.out.blk.below (HB0.out.trans (HBB.out.mono (by simp)))
  have HD1 := Lib.hid hd1
  have hO1 : OR w1 0 (.slice A5 O.length c5) O := HH.out.o.below (HB0.out.trans (HBB.out.mono (by simp)))
  have HO5 := Lib.hid hO1
  have hs1 : w.heap.size + 1 ≤ w1.heap.size := by have := HBB.out.size; rw [World.size_alloc] at this; exact this
  clear hstart hd1 hO1 c0 c1 c2 c3
  go_loopw [4, 5] (fun x i wr => ∃ j : Nat, j ≤ O.length ∧ i = .int .i64 j ∧ CrR w1 S M (w.heap.size + 1) j x wr) (fun _ i _ => O.length - (intOf i).toNat)
  case atStart => exact ⟨0, Nat.zero_le _, rfl, HST.out⟩
  case round =>
    obtain ⟨j, hj, rfl, L, hL, hlL, hbL, hwr⟩ := hrel
    obtain ⟨c0, c1, c2, c3⟩ := (HD1.out.below hwr).cells
    obtain ⟨d0, d1, d2⟩ := (show BoxF wr w.heap.size f from (hwr.block _ (lt_of_block HO1.out)).trans HO1.out).cells
    obtain ⟨AL, nL, cL, rfl⟩ := hL.shape
    have hwz : w.heap.size < wr.heap.size := by have := hwr.size; omega
    have HL := Lib.hid hL
    have HBL := Lib.hid hbL
    have HWR := Lib.hid hwr
    by_cases hlt : j < O.length
    · obtain ⟨o, ho⟩ : ∃ o, O[j]? = some o := ⟨O[j], List.getElem?_eq_getElem hlt⟩
      obtain ⟨hq, hsz⟩ := HH.out.bo o (List.mem_of_getElem? ho)
      have hO := HO5.out.below hwr
      obtain ⟨g5, c5', e, _, hgc, hgm⟩ := hO.form.resolve_left (by rintro ⟨_, e⟩; rw [e] at hlt; simp at hlt)
      cases e
      obtain ⟨m0, m1, m2, m3⟩ := hO.cells ho
      unfold maxLen at hgm
      obtain ⟨ot, onm, os, on⟩ := o
      simp only at hq hsz m0 m1 m2 m3
      have hI0 : (0 : Int) ≤ (j : Int) := by omega
      have hI1 : (j : Int) < (O.length : Int) := by omega
      clear hL hbL hwr ho hO
      have hM1 := HM.out.2
      have hmul : 300 * (j + 1) ≤ 300 * O.length := Nat.mul_le_mul_left _ hlt
      by_cases ht : ot = 1
      · subst ht
        by_cases hone : f.lose >>> (j % 64) % 2 = 1
        · have hq2 : (((f.lose : Int) / 2 ^ (j % 64)).tmod 2 == 1) = true := by rw [bit2_is, hone]; rfl
          by_cases hk : (j : Int) < f.keep
          · have hkd : decide ((j : Int) < f.keep) = true := decide_eq_true hk
            go_wp2_with (go_at_call 50; ((with_reducible refine (dshort_any _ _ L onm os 1 on _ ((HL.out.mono (Nat.zero_le _)).alloc _) (by omega) (HBL.out.mono (by omega)) (by omega) hq).mono ?_); rintro e w2 ⟨v2, L2, rfl, h2, hl2, hbd2, hb2⟩; obtain ⟨A2, n2, c2', rfl⟩ := h2.shape; have HFIN := Lib.hid (CrR.step HL.out hlL HBL.out HWR.out hsz hs1 h2 hl2 hbd2 hb2); clear h2 hb2 hbd2))
            go_round
            case rel => exact ⟨j + 1, by omega, by go_num, HFIN.out⟩
            case measure => simp [intOf]; omega
          · have hkd : decide ((j : Int) < f.keep) = false := decide_eq_false hk
            by_cases he : (j : Int) = f.keep
            · have hed : ((j : Int) == f.keep) = true := by simpa using he
              clear he
              go_wp2_with (go_at_call 50; ((with_reducible refine (dshort_any _ _ L onm os 1 on _ ((HL.out.mono (Nat.zero_le _)).alloc _) (by omega) (HBL.out.mono (by omega)) (by omega) hq).mono ?_); rintro e w2 ⟨v2, L2, rfl, h2, hl2, hbd2, hb2⟩; obtain ⟨A2, n2, c2', rfl⟩ := h2.shape; have HFIN := Lib.hid (CrR.step HL.out hlL HBL.out HWR.out hsz hs1 h2 hl2 hbd2 hb2); clear h2 hb2 hbd2))
              go_round
              case rel => exact ⟨j + 1, by omega, by go_num, HFIN.out⟩
              case measure => simp [intOf]; omega
            · have hed : ((j : Int) == f.keep) = false := by simpa using he
              clear he
              go_wp2
              go_round
              case rel => exact ⟨j + 1, by omega, by go_num, CrR.stay HL.out hlL HBL.out HWR.out _⟩
              case measure => simp [intOf]; omega
        · have hq2 : (((f.lose : Int) / 2 ^ (j % 64)).tmod 2 == 1) = false := by
            rw [bit2_is]
            have : f.lose >>> (j % 64) % 2 = 0 := by omega
            rw [this]; rfl
          by_cases hk : (j : Int) < f.keep
          · have hkd : decide ((j : Int) < f.keep) = true := decide_eq_true hk
            go_wp2_with (go_at_call 45; ((with_reducible refine (does_any _ _ L onm os 1 on _ ((HL.out.mono (Nat.zero_le _)).alloc _) (by omega) (HBL.out.mono (by omega)) (by omega) hq).mono ?_); rintro e w2 ⟨v2, L2, rfl, h2, hl2, hbd2, hb2⟩; obtain ⟨A2, n2, c2', rfl⟩ := h2.shape; have HFIN := Lib.hid (CrR.step HL.out hlL HBL.out HWR.out hsz hs1 h2 hl2 hbd2 hb2); clear h2 hb2 hbd2))
            go_round
            case rel => exact ⟨j + 1, by omega, by go_num, HFIN.out⟩
            case measure => simp [intOf]; omega
          · have hkd : decide ((j : Int) < f.keep) = false := decide_eq_false hk
            by_cases he : (j : Int) = f.keep
            · have hed : ((j : Int) == f.keep) = true := by simpa using he
              clear he
              go_wp2_with (go_at_call 50; ((with_reducible refine (dshort_any _ _ L onm os 1 on _ ((HL.out.mono (Nat.zero_le _)).alloc _) (by omega) (HBL.out.mono (by omega)) (by omega) hq).mono ?_); rintro e w2 ⟨v2, L2, rfl, h2, hl2, hbd2, hb2⟩; obtain ⟨A2, n2, c2', rfl⟩ := h2.shape; have HFIN := Lib.hid (CrR.step HL.out hlL HBL.out HWR.out hsz hs1 h2 hl2 hbd2 hb2); clear h2 hb2 hbd2))
              go_round
              case rel => exact ⟨j + 1, by omega, by go_num, HFIN.out⟩
              case measure => simp [intOf]; omega
            · have hed : ((j : Int) == f.keep) = false := by simpa using he
              clear he
              go_wp2
              go_round
              case rel => exact ⟨j + 1, by omega, by go_num, CrR.stay HL.out hlL HBL.out HWR.out _⟩
              case measure => simp [intOf]; omega
      · have ht2 : (ot == 1) = false := by simpa using ht
        by_cases hk : (j : Int) < f.keep
        · have hkd : decide ((j : Int) < f.keep) = true := decide_eq_true hk
          go_wp2_with (go_at_call 45; ((with_reducible refine (does_any _ _ L onm os ot on _ ((HL.out.mono (Nat.zero_le _)).alloc _) (by omega) (HBL.out.mono (by omega)) (by omega) hq).mono ?_); rintro e w2 ⟨v2, L2, rfl, h2, hl2, hbd2, hb2⟩; obtain ⟨A2, n2, c2', rfl⟩ := h2.shape; have HFIN := Lib.hid (CrR.step HL.out hlL HBL.out HWR.out hsz hs1 h2 hl2 hbd2 hb2); clear h2 hb2 hbd2))
          go_round
          case rel => exact ⟨j + 1, by omega, by go_num, HFIN.out⟩
          case measure => simp [intOf]; omega
        · have hkd : decide ((j : Int) < f.keep) = false := decide_eq_false hk
          by_cases he : (j : Int) = f.keep
          · have hed : ((j : Int) == f.keep) = true := by simpa using he
            clear he
            go_wp2
            go_round
            case rel => exact ⟨j + 1, by omega, by go_num, CrR.stay HL.out hlL HBL.out HWR.out _⟩
            case measure => simp [intOf]; omega
          · have hed : ((j : Int) == f.keep) = false := by simpa using he
            clear he
            go_wp2
            go_round
            case rel => exact ⟨j + 1, by omega, by go_num, CrR.stay HL.out hlL HBL.out HWR.out _⟩
            case measure => simp [intOf]; omega
    · have hjO : j = O.length := by omega
      subst hjO
      rcases hL.form with ⟨e, rfl⟩ | ⟨g, cc, e, hg1, hgc, hgm⟩
      · cases e
        have HFIN := Lib.hid (DocI.crashed HH.out HB0.out (HBB.out.trans (HWR.out.mono hs1)) hL (by simp) HBL.out HM.out.2 (Below.refl _ _))
        have HSY := Lib.hid (dsync_any _ _ q K HFIN.out.1)
        have df := (HD1.out.below hwr).free 0
        clear hL hbL hwr
        go_wp2
        go_loop [8] (fun i => i = .int .i64 0) (fun i => 0)
        case atStart => rfl
        case round =>
          subst hrel
          go_wp2_with (go_at_call 24; ((with_reducible refine HSY.out.mono ?_); rintro e w' ⟨rfl, hran⟩))
          go_end0
          exact ⟨rfl, HFIN.out.2 _ hran⟩
      · cases e
        obtain ⟨W2, rfl⟩ : ∃ W2, W2 = wr := ⟨_, rfl⟩
        unfold maxLen at hgm
        have HG := Lib.hid hg1
        clear hL hbL hwr
        go_wp2
        go_loopw [8] (fun i wx => ∃ m : Nat, m ≤ L.length ∧ i = .int .i64 m ∧ ∃ L', FR wx (w.heap.size + 1) (.slice (some ⟨g, 0, none⟩) L.length cL) L' ∧ L'.length = L.length ∧ Bd (M + 300 * O.length) L' ∧ Below (w.heap.size + 1) W2 wx) (fun i _ => L.length - (intOf i).toNat)
        case atStart => exact ⟨0, Nat.zero_le _, rfl, L, HL.out, rfl, HBL.out, Below.refl _ _⟩
        case round =>
          obtain ⟨m, hm, rfl, L', hL', hlen, hbd', hwx⟩ := hrel
          have HL' := Lib.hid hL'
          have HBD' := Lib.hid hbd'
          have HWX := Lib.hid hwx
          by_cases hml : m < L.length
          · obtain ⟨y, hy⟩ : ∃ y, L'[m]? = some y := ⟨L'[m]'(by omega), List.getElem?_eq_getElem (by omega)⟩
            obtain ⟨k1, k2, k3⟩ := hL'.cells hy
            have hL2 : FR wr (w.heap.size + 1) (.slice (some ⟨g, 0, none⟩) L'.length cL) L' := by rw [hlen]; exact hL'
            have kf := hL2.free (m * 3 + 2)
            have hnew := hL2.put2 hy false
            rw [hlen] at hnew
            have HNEW := Lib.hid hnew
            have HY := Lib.hid hy
            have hI0 : (0 : Int) ≤ (m : Int) := by omega
            have hI1 : (m : Int) < (L.length : Int) := by omega
            clear hL' hbd' hwx hL2 hnew hy
            go_wp2
            go_round
            case rel => exact ⟨m + 1, by omega, by go_num, _, HNEW.out, by rw [List.length_set]; exact hlen, HBD'.out.set m (HBD'.out y (List.mem_of_getElem? HY.out)), HWX.out.setCell HG.out _⟩
            case measure => simp [intOf]; omega
          · have HFIN := Lib.hid (DocI.crashed HH.out HB0.out (HBB.out.trans (HWR.out.mono hs1)) hL' (by omega) hbd' HM.out.2 hwx)
            have HSY := Lib.hid (dsync_any _ _ q K HFIN.out.1)
            have hdx : DocB wr q _ _ _ r := (hwx.block q (Nat.lt_succ_of_lt (lt_of_block HH.out.blk))).trans (HD1.out.below HWR.out)
            obtain ⟨x0, x1, x2, x3⟩ := hdx.cells
            have df := hdx.free 0
            clear hL' hbd' hwx hdx
            go_wp2_with (go_at_call 24; ((with_reducible refine HSY.out.mono ?_); rintro e w' ⟨rfl, hran⟩))
            go_end0
            exact ⟨rfl, HFIN.out.2 _ hran⟩
end Go.Proofs.Ytdfiofjnijnodaa.gn
