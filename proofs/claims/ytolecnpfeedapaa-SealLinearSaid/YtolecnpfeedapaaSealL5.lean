/- SealLinear: the law's walk. -/
import Derived.Test.YtolecnpfeedapaaSealL1
import Derived.Test.YtolecnpfeedapaaGenStep
import Derived.Laws.MakeOwn
namespace Go.Proofs.Ytolecnpfeedapaa.gn
open Go.RowKit
open Go.Proofs.Ytolecnpfeedapaa.sl

theorem xor_u8 (c d : UInt8) : bits .xor .u8 (c.toNat : Int) (d.toNat : Int) = ((c ^^^ d).toNat : Int) := by
  have hc := UInt8.toNat_lt c
  have hd := UInt8.toNat_lt d
  have hx : c.toNat ^^^ d.toNat < 2 ^ 8 := Nat.xor_lt_two_pow (by omega) (by omega)
  have h1 : (BitVec.ofInt 8 (c.toNat : Int)).toNat = c.toNat := by
    rw [BitVec.ofInt_natCast, BitVec.toNat_ofNat]; exact Nat.mod_eq_of_lt (by omega)
  have h2 : (BitVec.ofInt 8 (d.toNat : Int)).toNat = d.toNat := by
    rw [BitVec.ofInt_natCast, BitVec.toNat_ofNat]; exact Nat.mod_eq_of_lt (by omega)
  show IntKind.u8.wrap ((BitVec.ofInt 8 (c.toNat : Int) ^^^ BitVec.ofInt 8 (d.toNat : Int)).toNat : Int) = _
  rw [BitVec.toNat_xor, h1, h2, UInt8.toNat_xor]
  simp only [IntKind.wrap, IntKind.bits, IntKind.signed]
  simp
  omega

/-- The bytes of both, together. -/
def both (l m : List UInt8) : List UInt8 := List.zipWith (· ^^^ ·) l m
theorem both_take (l m : List UInt8) (k : Nat) (hl : k < l.length) (hm : k < m.length) : both (l.take (k + 1)) (m.take (k + 1)) = both (l.take k) (m.take k) ++ [l[k] ^^^ m[k]] := by
  unfold both
  rw [List.take_succ_eq_append_getElem hl, List.take_succ_eq_append_getElem hm, List.zipWith_append (by simp; omega)]
  rfl
theorem both_len (l m : List UInt8) : (both l m).length = min l.length m.length := by simp [both]
theorem crc_both (l m : List UInt8) (h : l.length = m.length) : crc (both l m) = crc l ^^^ crc m ^^^ crc (List.replicate l.length 0) := by
  have e : both l m = List.zipWith (· ^^^ ·) (both l m) (List.replicate l.length 0) := by
    have hb : (both l m).length = l.length := by rw [both_len]; omega
    apply List.ext_getElem
    · simp [hb]
    · intro i h1 h2
      simp
  have h1 : run (BitVec.allOnes 64) (both l m) = run (BitVec.allOnes 64) l ^^^ run (BitVec.allOnes 64) m ^^^ run (BitVec.allOnes 64) (List.replicate l.length 0) := by
    have hz := run_zip (both l m) (List.replicate l.length 0) (BitVec.allOnes 64 ^^^ BitVec.allOnes 64) (BitVec.allOnes 64) (by rw [both_len]; simp; omega)
    have hz2 : run (BitVec.allOnes 64 ^^^ BitVec.allOnes 64) (both l m) = run (BitVec.allOnes 64) l ^^^ run (BitVec.allOnes 64) m := run_zip l m _ _ h
    rw [← e, hz2, BitVec.xor_self, BitVec.zero_xor] at hz
    exact hz
  unfold crc
  rw [h1]
  apply BitVec.eq_of_getLsbD_eq
  intro i hi
  simp only [BitVec.getLsbD_not, BitVec.getLsbD_xor, hi, decide_true, Bool.true_and]
  cases (run (BitVec.allOnes 64) l).getLsbD i <;> cases (run (BitVec.allOnes 64) m).getLsbD i <;> cases (run (BitVec.allOnes 64) (List.replicate l.length 0)).getLsbD i <;> rfl
theorem crc_front (l : List UInt8) : crc (0 :: l) ≠ crc l := by
  intro h
  unfold crc at h
  have h2 : run (BitVec.allOnes 64) (0 :: l) = run (BitVec.allOnes 64) l := by
    have h3 := congrArg (fun x => ~~~ x) h
    simpa using h3
  rw [run_cons] at h2
  exact front_zero (run_inj h2)

def XorRel (l m : List UInt8) (n : Nat) (w : World) (v6 v7 : Value) (wr : World) : Prop :=
  ∃ k : Nat, k ≤ n ∧ v7 = .int .i64 (k : Int) ∧ Bs wr w.heap.size v6 (both (l.take k) (m.take k)) ∧ Below w.heap.size w wr

set_option maxHeartbeats 3200000 in
set_option maxRecDepth 100000 in
theorem linear_any (l m : List UInt8) (hl : l.length ≤ 500) (hm : m.length ≤ 500) (w : World) :
    Calls Try.prog 5 #[.string (str l), .string (str m)] w fun e w' => e = .returned (.bool true) ∧ Below w.heap.size w w' := by
  obtain ⟨i0, hi, hz0, hz1, hz2⟩ := info_parts Try.info5
  have b1 : (str l).size ≤ 500 := by rw [str_size]; exact hl
  have b2 : (str m).size ≤ 500 := by rw [str_size]; exact hm
  go_enter Try.func5, Try.ntmps5
  go_wp2
  obtain ⟨n, hn⟩ : ∃ n, n = min l.length m.length := ⟨_, rfl⟩
  have hmin : min ((str l).size : Int) ((str m).size : Int) = (n : Int) := by rw [hn, str_size, str_size]; omega
  rw [hmin]
  have hn1 : n ≤ (str l).size := by rw [hn, str_size]; omega
  have hn2 : n ≤ (str m).size := by rw [hn, str_size]; omega
  have HN := Lib.hid hn
  clear hmin hn hl hm
  go_loopw [6, 7] (fun v6 v7 wr => XorRel l m n w v6 v7 wr) (fun _ v7 _ => n - (intOf v7).toNat)
  case atStart => exact ⟨0, by omega, rfl, by simpa [both] using Bs_nil _ _, Below.refl _ _⟩
  case round =>
    obtain ⟨k, hk, rfl, hown, hb⟩ := hrel
    by_cases hlt : k < n
    · have hk1 : k < (str l).size := by omega
      have hk2 : k < (str m).size := by omega
      have hd : decide ((k : Int) < (n : Int)) = true := decide_eq_true (by omega)
      have hx := xor_u8 ((str l)[k]'hk1) ((str m)[k]'hk2)
      have HOwn := Lib.hid hown
      have HB := Lib.hid hb
      have hbs := hb.size
      clear hown hb
      go_wp2
      go_region_law (refine step_append_bs rfl _ _ rfl w.heap.size _ (both (l.take k) (m.take k)) rfl (HOwn.out.alloc _) ⟨wr.heap.size, 0, none⟩ 1 rfl ((str l)[k]'hk1 ^^^ (str m)[k]'hk2) (by rw [← hx]; go_cell) (by rw [both_len]; simp; omega) (by simp; omega) ?_; intro v' w1 hown' hb')
      all_goals
        have hb2 : Below w.heap.size w w1 := ((HB.out.alloc HB.out.size _).drew).trans hb'
        have HB2 := Lib.hid hb2
        have HO2 : Hid (Bs w1 w.heap.size v' (both (l.take (k + 1)) (m.take (k + 1)))) := by
          show Bs _ _ _ _
          rw [both_take l m k (by rw [← str_size]; exact hk1) (by rw [← str_size]; exact hk2)]
          exact hown'
        clear hown' hb' hb2 hx
        go_wp2
        go_roundw
        case rel => exact ⟨k + 1, by omega, by go_num, HO2.out, HB2.out⟩
        case measure => simp [intOf]; omega
    · have hkn : k = n := by omega
      subst hkn
      have hlim : k ≤ 500 := by omega
      have s1 := slice_upto (str l) k hn1
      have s2 := slice_upto (str m) k hn2
      have x1 : (str l).extract 0 k = str (l.take k) := str_take _ _
      have x2 : (str m).extract 0 k = str (m.take k) := str_take _ _
      rw [x1] at s1
      rw [x2] at s2
      clear x1 x2
      obtain ⟨M, hM⟩ : ∃ M, M = madeCells (Value.int .u8 0).cells (((k : Nat) : Int).toNat * i0.size) := ⟨_, rfl⟩
      have hmk : ∀ W : World, (Instr.makeSlice 32 (.int .i64 (k : Int)) (.int .i64 (k : Int))).run Try.prog W = .ok (.slice (some ⟨W.heap.size, 0, none⟩) k k) (W.alloc (.cells M 5)) := fun W => by
        have h := run_make (P := Try.prog) W 32 5 i0 (.int .u8 0) Try.underlying32 hi hz0 .i64 .i64 (k : Int) (k : Int) (by omega) (by omega) (by rw [hz2]; omega) (by omega)
        rw [← hM] at h
        simpa using h
      have hMz : ∀ j, j < k → M[j]? = some (.int .u8 0) := by
        intro j hj
        rw [hM, hz1]
        show (madeCells #[Value.int .u8 0] _)[j]? = _
        simp [madeCells, hj, Nat.mod_one]
      have hcz : ∀ W : World, (convert 32 9 (.slice (some ⟨W.heap.size, 0, none⟩) k k)).run Try.prog (W.alloc (.cells M 5)) = .ok (.string (str (List.replicate k 0))) (W.alloc (.cells M 5)) := fun W => by
        have h := run_convert_bytes_back (P := Try.prog) (W.alloc (.cells M 5)) 32 9 5 ⟨W.heap.size, 0, none⟩ k (List.replicate k 0) Try.underlying32 Try.underlying5 Try.underlying9 (by
          intro j hj
          have hj2 : j < k := by simpa using hj
          have hadd : (⟨W.heap.size, 0, none⟩ : Addr).add j = ⟨W.heap.size, j, none⟩ := by unfold Addr.add; split <;> simp_all
          rw [hadd, cell_of_row _ _ _ _ _ _ (heap_alloc_new W _), hMz j hj2]
          simp)
        rw [List.length_replicate] at h
        exact h
      clear hM hMz
      have HOwn := Lib.hid hown
      have HB := Lib.hid hb
      clear hown hb
      have HBc : Hid (Below wr.heap.size wr (wr.alloc (.cells M 5))) := (Below.refl _ _).alloc (Nat.le_refl _) _
      have HL1 : Hid ((l.take k).length ≤ 2000) := by show _ ≤ _; rw [List.length_take]; omega
      have HM1 : Hid ((m.take k).length ≤ 2000) := by show _ ≤ _; rw [List.length_take]; omega
      have HZ1 : Hid ((List.replicate k (0 : UInt8)).length ≤ 2000) := by show _ ≤ _; rw [List.length_replicate]; omega
      have hx1 := reg_xor (crc (l.take k)) (crc (m.take k))
      have hx2 := reg_xor (crc (l.take k) ^^^ crc (m.take k)) (crc (List.replicate k 0))
      have hcb : crc (l.take k) ^^^ crc (m.take k) ^^^ crc (List.replicate k 0) = crc (both (l.take k) (m.take k)) := by
        rw [crc_both _ _ (by rw [List.length_take, List.length_take, ← str_size, ← str_size]; omega), List.length_take, ← str_size l, Nat.min_eq_left hn1]
      rw [hcb] at hx2
      clear hcb
      have HBL : Hid ((both (l.take k) (m.take k)).length ≤ 281474976710656) := by show _ ≤ _; rw [both_len, List.length_take]; omega
      have HLL : Hid (l.length ≤ 2000) := by show _ ≤ _; rw [← str_size]; omega
      have HC1 : Hid ((⟨#[0]⟩ : ByteArray) ++ str l = str (0 :: l)) := str_app [0] l
      have HC2 : Hid (((reg (crc (0 :: l))) != reg (crc l)) = true) := by
        show _ = _
        rw [bne_iff_ne]
        intro h
        refine crc_front l (BitVec.eq_of_toNat_eq ?_)
        unfold reg at h
        omega
      go_wp2
      go_region_held3 (fun _ => True) (exact trivial) (first
        | (go_at_call 10; ((with_reducible refine (sum_any (l.take k) (le_big HL1.out) _).mono ?_); rintro e wn ⟨rfl, hbn⟩); have HBc := below_next HBc hbn; clear hbn)
        | (go_at_call 10; ((with_reducible refine (sum_any (m.take k) (le_big HM1.out) _).mono ?_); rintro e wn ⟨rfl, hbn⟩); have HBc := below_next HBc hbn; clear hbn)
        | (go_at_call 10; ((with_reducible refine (sum_any (List.replicate k 0) (le_big HZ1.out) _).mono ?_); rintro e wn ⟨rfl, hbn⟩); have HBc := below_next HBc hbn; clear hbn))
      have hbs := Below.bs HBc.out HOwn.out (fun j hj => (World.ownsRow.lt HOwn.out j hj).2)
      have hcx := bs_string hbs
      have HBd := Lib.hid (HB.out.trans (HBc.out.mono HB.out.size))
      clear hbs hx1 hx2 HBc s1 s2 hmk hcz
      go_wp2_with fail
      refine (sum_any (both (l.take k) (m.take k)) HBL.out _).mono ?_
      rintro e wa ⟨rfl, hba⟩
      have HBe := Lib.hid (HBd.out.trans (hba.mono HBd.out.size))
      clear hba HBd hcx
      go_wp2_with fail
      rw [HC1.out]
      refine (sum_any (0 :: l) (by rw [List.length_cons]; have := HLL.out; omega) _).mono ?_
      rintro e wb ⟨rfl, hbb⟩
      have HBf := Lib.hid (HBe.out.trans (hbb.mono HBe.out.size))
      clear hbb HBe
      go_wp2_with fail
      refine (sum_any l (le_big HLL.out) _).mono ?_
      rintro e wc ⟨rfl, hbc⟩
      have HBg := Lib.hid (HBf.out.trans (hbc.mono HBf.out.size))
      clear hbc HBf
      have hne := HC2.out
      go_wp2_with fail
      refine (head_any _).mono ?_
      rintro e wd ⟨rfl, hbd⟩
      have HBh := Lib.hid (HBg.out.trans (hbd.mono HBg.out.size))
      clear hbd HBg
      go_wp2
      go_ret
      exact ⟨rfl, HBh.out⟩
end Go.Proofs.Ytolecnpfeedapaa.gn
