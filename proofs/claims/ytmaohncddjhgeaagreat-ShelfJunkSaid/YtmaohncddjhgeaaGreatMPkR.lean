/- In the namespace gn: the reader's object in memory, and the contracts of Open, of stop, of Fine, of bytes and of the function that it tells. -/
import Derived.Test.YtmaohncddjhgeaaGreatMGen
import Derived.Test.YtmaohncddjhgeaaGreatMPackM
import Derived.RegionTactic
import Derived.ChangeAlike
import Derived.OneCell
import Derived.LaidEqlPtr
import Derived.Laws.EntriesVeiled
section
namespace Go.Proofs.YtmaohncddjhgeaaGreat.gn
open Go.RowKit

theorem str_empty_true (l : List UInt8) (h : l = []) : (str l).toList.isEmpty = true := by rw [str_toList, h]; rfl

/-- What lies in the block of a reader: fine, with these bytes left; or not fine. -/
def rObj (R : Nat) : Option (List UInt8) → Obj
  | some l => .cells #[.pointer (some ⟨R, 0, none⟩), .string (str l), .func (.func 128) #[.pointer (some ⟨R, 0, none⟩)] #[]] 152 (0, 0)
  | none => .cells #[.pointer none, .string ⟨#[]⟩, .nilFunc] 152 (0, 0)
def RS (w : World) (R : Nat) (st : Option (List UInt8)) : Prop := w.heap[R]? = some (rObj R st)

theorem RS_lt {w : World} {R : Nat} {st} (h : RS w R st) : R < w.heap.size := lt_of_block h
theorem RS_some {w : World} {R : Nat} {l : List UInt8} (h : RS w R (some l)) : w.cell? ⟨R, 0, none⟩ = some (.pointer (some ⟨R, 0, none⟩)) ∧ w.cell? ⟨R, 1, none⟩ = some (.string (str l)) ∧
    w.cell? ⟨R, 2, none⟩ = some (.func (.func 128) #[.pointer (some ⟨R, 0, none⟩)] #[]) ∧ w.frozen? ⟨R, 0, none⟩ = false ∧ w.frozen? ⟨R, 1, none⟩ = false ∧ w.frozen? ⟨R, 2, none⟩ = false := by
  refine ⟨?_, ?_, ?_, ?_, ?_, ?_⟩
  · rw [cell_of_row w R 0 _ _ _ h]; rfl
  · rw [cell_of_row w R 1 _ _ _ h]; rfl
  · rw [cell_of_row w R 2 _ _ _ h]; rfl
  · exact frozen_of_row w R 0 _ _ h
  · exact frozen_of_row w R 1 _ _ h
  · exact frozen_of_row w R 2 _ _ h
theorem RS_none {w : World} {R : Nat} (h : RS w R none) : w.cell? ⟨R, 0, none⟩ = some (.pointer none) ∧ w.cell? ⟨R, 1, none⟩ = some (.string ⟨#[]⟩) := by
  refine ⟨?_, ?_⟩
  · rw [cell_of_row w R 0 _ _ _ h]; rfl
  · rw [cell_of_row w R 1 _ _ _ h]; rfl

/-- Another reader stays as it was. -/
theorem But.other {R R' : Nat} {a b : World} {st : Option (List UInt8)} (h : But R a b) (hs : RS a R' st) (hne : R' ≠ R) : RS b R' st :=
  (h.block R' (RS_lt hs) (fun e => hne (by simpa using e))).trans hs
theorem Below.rs {B R : Nat} {a b : World} {st : Option (List UInt8)} (h : Below B a b) (hs : RS a R st) (hR : R < B) : RS b R st := (h.block R hR).trans hs
set_option maxRecDepth 100000 in
set_option maxHeartbeats 400000 in
theorem popen_any (w : World) (l : List UInt8) : Calls Tryz.prog 103 #[.string (str l)] w fun e w' =>
    e = .returned (.pointer (some ⟨w.heap.size, 0, none⟩)) ∧ RS w' w.heap.size (some l) ∧ Below w.heap.size w w' ∧ w'.heap.size = w.heap.size + 1 := by
  go_enter Tryz.func103, Tryz.ntmps103
  go_wp2
  go_ret
  refine ⟨rfl, ?_, ?_, by simp⟩
  · exact heap_alloc_new w _
  · exact (Below.refl _ _).alloc (Nat.le_refl _) _

set_option maxRecDepth 100000 in
set_option maxHeartbeats 400000 in
theorem stop_any (w : World) (R : Nat) (l : List UInt8) (h : RS w R (some l)) : Calls Tryz.prog 128 #[.pointer (some ⟨R, 0, none⟩)] w fun e w' =>
    e = .returned (.tuple #[]) ∧ RS w' R none ∧ But R w w' ∧ w'.heap.size = w.heap.size := by
  obtain ⟨h0, h1, h2, f0, f1, f2⟩ := RS_some h
  go_enter Tryz.func128, Tryz.ntmps128
  go_wp2
  go_end0
  refine ⟨rfl, ?_, (((But.refl R w).setCell 0 _).setCell 1 _).setCell 2 _, by simp [World.setCell]⟩
  exact heap_setCell (heap_setCell (heap_setCell h _) _) _

theorem info152 : ∃ j, Tryz.prog.info? 152 = some j := Option.isSome_iff_exists.1 (by kernel_rfl)
theorem eql_same (a : Addr) (w : World) : (binOp .eql 140 (.pointer (some a)) (.pointer (some a))).run Tryz.prog w = .ok (.bool true) w := by
  obtain ⟨j, hj⟩ := info152
  exact run_eql_ptr_same w a Tryz.underlying140 hj
theorem eql_nil (a : Addr) (w : World) : (binOp .eql 140 (.pointer none) (.pointer (some a))).run Tryz.prog w = .ok (.bool false) w := by
  have h : ∀ d : Nat, (Op.equalIn (d + 1) 140 (.pointer none) (.pointer (some a))).run Tryz.prog w = .ok false w := fun d => by
    simp [Op.equalIn, run_underlying Tryz.underlying140]
  simp only [binOp]
  simp [Op.equal, Op.maxDepth, h 9999]

set_option maxRecDepth 100000 in
set_option maxHeartbeats 400000 in
theorem fine_yes (w : World) (R : Nat) (l : List UInt8) (h : RS w R (some l)) : Calls Tryz.prog 105 #[.pointer (some ⟨R, 0, none⟩)] w fun e w' =>
    e = .returned (.bool true) ∧ w = w' := by
  obtain ⟨h0, _⟩ := RS_some h
  have hq := eql_same ⟨R, 0, none⟩
  go_enter Tryz.func105, Tryz.ntmps105
  go_wp2
  all_goals go_ret
  all_goals exact ⟨rfl, rfl⟩

set_option maxRecDepth 100000 in
set_option maxHeartbeats 400000 in
theorem fine_no (w : World) (R : Nat) (h : RS w R none) : Calls Tryz.prog 105 #[.pointer (some ⟨R, 0, none⟩)] w fun e w' =>
    e = .returned (.bool false) ∧ w = w' := by
  obtain ⟨h0, _⟩ := RS_none h
  have hq := eql_nil ⟨R, 0, none⟩
  go_enter Tryz.func105, Tryz.ntmps105
  go_wp2
  all_goals go_ret
  all_goals exact ⟨rfl, rfl⟩

set_option maxRecDepth 100000 in
set_option maxHeartbeats 400000 in
theorem bytes_any (w : World) (R : Nat) : Calls Tryz.prog 130 #[.pointer (some ⟨R, 0, none⟩)] w fun e w' =>
    e = .returned (.func (.func 141) #[] #[.pointer (some ⟨w.heap.size, 0, none⟩)]) ∧ w.alloc (.cells #[.pointer (some ⟨R, 0, none⟩)] 140) = w' := by
  go_enter Tryz.func130, Tryz.ntmps130
  go_wp2
  go_ret
  exact ⟨rfl, rfl⟩

set_option maxRecDepth 100000 in
set_option maxHeartbeats 400000 in
theorem next_none (w : World) (R b : Nat) (h : RS w R (some [])) (hb : w.cell? ⟨b, 0, none⟩ = some (.pointer (some ⟨R, 0, none⟩))) :
    Calls Tryz.prog 141 #[.pointer (some ⟨b, 0, none⟩)] w fun e w' => e = .returned (.tuple #[.int .u8 0, .bool false]) ∧ w = w' := by
  obtain ⟨_, h1, _⟩ := RS_some h
  have he := str_empty_true [] rfl
  generalize str [] = s at *
  go_enter Tryz.func141, Tryz.ntmps141
  go_wp2
  go_ret2
  exact ⟨rfl, rfl⟩

set_option maxRecDepth 100000 in
set_option maxHeartbeats 400000 in
theorem next_some (w : World) (R b : Nat) (c : UInt8) (l : List UInt8) (h : RS w R (some (c :: l))) (hb : w.cell? ⟨b, 0, none⟩ = some (.pointer (some ⟨R, 0, none⟩))) :
    Calls Tryz.prog 141 #[.pointer (some ⟨b, 0, none⟩)] w fun e w' => e = .returned (.tuple #[.int .u8 c.toNat, .bool true]) ∧ RS w' R (some l) ∧ But R w w' := by
  obtain ⟨_, h1, _, _, f1, _⟩ := RS_some h
  have he : (str (c :: l)).toList.isEmpty = false := by rw [str_toList]; rfl
  have hs : 1 ≤ (str (c :: l)).size := by rw [str_size]; simp
  have hg : ∀ h : 0 < (str (c :: l)).size, (str (c :: l))[0] = c := fun _ => rfl
  have hx : (str (c :: l)).extract 1 (str (c :: l)).size = str l := by
    apply ByteArray.ext
    simp [str, ByteArray.size]
  have HX := Lib.hid hx
  have HG := Lib.hid hg
  have HH := Lib.hid h
  clear hx hg h
  revert he hs HX HG h1
  generalize str (c :: l) = s
  intro h1 he hs HX HG
  go_enter Tryz.func141, Tryz.ntmps141
  go_wp2
  go_region
  all_goals go_wp2
  all_goals go_ret2
  all_goals rw [HG.out (by omega), HX.out]
  all_goals refine ⟨rfl, ?_, ((But.refl R w).setCell 1 _).drew⟩
  all_goals exact heap_setCell HH.out _

end Go.Proofs.YtmaohncddjhgeaaGreat.gn
end
section
namespace Go.Proofs.YtmaohncddjhgeaaGreat.gn
open Go.RowKit

/-- What readNum tells of bytes, and what becomes of the reader. -/
def RNPost (R : Nat) (l0 : List UInt8) (w : World) (e : Ending) (w' : World) : Prop :=
  But R w w' ∧ ((∃ n r, rd l0 = some (n, r) ∧ e = .returned (.tuple #[.int .u64 n, .bool true]) ∧ RS w' R (some r)) ∨
    (rd l0 = none ∧ e = .returned (.tuple #[.int .u64 0, .bool false]) ∧ ∃ r, RS w' R (some r)))

def RNRel (R : Nat) (l0 : List UInt8) (w : World) (k acc : Nat) (wr : World) : Prop :=
  acc < 128 ^ k ∧ But R w wr ∧ ∃ l, RS wr R (some l) ∧ rn k acc l = rd l0

theorem rn_close {R : Nat} {l0 r : List UInt8} {w wr w1 : World} {X : Int} {n : Nat} (hX : X = (n : Int)) (hu : But R w wr) (hb : But R wr w1) (hy : some (n, r) = rd l0) (hr : RS w1 R (some r)) :
    RNPost R l0 w (.returned (.tuple #[.int .u64 X, .bool true])) w1 := ⟨hu.trans hb, .inl ⟨n, r, hy.symm, by rw [hX], hr⟩⟩
theorem rn_round {R : Nat} {l0 r : List UInt8} {w wr w1 : World} {k acc c : Nat} (ha : acc < 128 ^ k) (hu : But R w wr) (hb : But R wr w1) (hy : rn (k + 1) (acc + c % 128 * 128 ^ k) r = rd l0) (hr : RS w1 R (some r)) :
    RNRel R l0 w (k + 1) (acc + c % 128 * 128 ^ k) w1 := ⟨acc_step acc k c ha, hu.trans hb, r, hr, hy⟩
theorem num_step0 (acc c : Nat) (hc : c < 256) (ha : acc < 128 ^ 0) : bits .or .u64 (acc : Int) (IntKind.u64.wrap (IntKind.u64.wrap (bits .and .u8 (c : Int) 127))) = ((acc + c % 128 * 128 ^ 0 : Nat) : Int) := by
  have h := num_step acc 0 c (by omega) hc (by omega) ha
  simpa using h
theorem num_step9 (acc c : Nat) (hc : c < 256) (h9 : c < 2) (ha : acc < 128 ^ 9) : bits .or .u64 (acc : Int) (IntKind.u64.wrap (IntKind.u64.wrap (bits .and .u8 (c : Int) 127) * 9223372036854775808)) = ((acc + c % 128 * 128 ^ 9 : Nat) : Int) := by
  have h := num_step acc 9 c (by omega) hc (fun _ => h9) ha
  have e : (2 : Int) ^ (7 * 9) = 9223372036854775808 := by decide
  rw [e] at h
  exact h

set_option maxRecDepth 100000 in
set_option maxHeartbeats 1600000 in
theorem readNum_any (w : World) (R b : Nat) (l0 : List UInt8) (hs : RS w R (some l0)) (hb : w.cell? ⟨b, 0, none⟩ = some (.pointer (some ⟨R, 0, none⟩))) (hbR : b ≠ R) :
    Calls Tryz.prog 129 #[.func (.func 141) #[] #[.pointer (some ⟨b, 0, none⟩)]] w (RNPost R l0 w) := by
  have HS := Lib.hid hs
  have HB := Lib.hid hb
  clear hs hb
  go_enter Tryz.func129, Tryz.ntmps129
  go_wp2_with fail
  go_loopw [4, 8] (fun vn vi wr => ∃ k acc : Nat, k ≤ 9 ∧ vi = .int .i64 k ∧ vn = .int .u64 acc ∧ RNRel R l0 w k acc wr) (fun _ vi _ => 10 - (intOf vi).toNat)
  case atStart => exact ⟨0, 0, by omega, rfl, rfl, by omega, But.refl _ _, l0, HS.out, rfl⟩
  case round =>
    obtain ⟨k, acc, hk, rfl, rfl, hacc, hbut, l, hrs, hrn⟩ := hrel
    have HX : Hid (wr.cell? ⟨b, 0, none⟩ = some (.pointer (some ⟨R, 0, none⟩))) := hbut.cell HB.out hbR
    have HR := Lib.hid hrs
    have HA := Lib.hid hacc
    have HN := Lib.hid hrn
    have HU := Lib.hid hbut
    clear hrs hacc hrn hbut
    cases l with
    | nil =>
      go_wp2_with (go_at_call 141; refine (next_none _ _ _ HR.out HX.out).mono ?_; rintro e w1 ⟨rfl, rfl⟩)
      all_goals go_ret2
      all_goals exact ⟨HU.out, .inr ⟨by rw [← HN.out]; rfl, rfl, [], HR.out⟩⟩
    | cons c r =>
      have hc : c.toNat < 256 := UInt8.toNat_lt c
      by_cases hbad : (1 ≤ k ∧ c.toNat < 1) ∨ (9 ≤ k ∧ 2 ≤ c.toNat)
      · have hno := HN.out
        rw [rn_no _ _ _ _ hbad] at hno
        have HNo := Lib.hid hno
        clear hno
        rcases hbad with ⟨h1, h2⟩ | ⟨h1, h2⟩
        all_goals
          go_wp2_with (go_at_call 141; refine (next_some _ _ _ _ _ HR.out HX.out).mono ?_; rintro e w1 ⟨rfl, hr1, hb1⟩)
          all_goals go_ret2
          all_goals exact ⟨HU.out.trans hb1, .inr ⟨HNo.out.symm, rfl, r, hr1⟩⟩
      · by_cases hlast : c.toNat < 128
        · have hyes := HN.out
          rw [rn_last _ _ _ _ hbad hlast] at hyes
          have HY := Lib.hid hyes
          clear hyes
          have h3 : k < 1 ∨ (1 ≤ k ∧ k ≤ 8 ∧ 1 ≤ c.toNat) ∨ (9 ≤ k ∧ 1 ≤ c.toNat ∧ c.toNat < 2) := by omega
          clear hbad
          rcases h3 with h3 | ⟨h3, h4, h5⟩ | ⟨h3, h4, h5⟩
          · obtain rfl : k = 0 := by omega
            have HE := Lib.hid (num_step0 acc c.toNat hc HA.out)
            go_wp2_with (go_at_call 141; refine (next_some _ _ _ _ _ HR.out HX.out).mono ?_; rintro e w1 ⟨rfl, hr1, hb1⟩)
            all_goals go_ret2
            all_goals exact rn_close HE.out HU.out hb1 HY.out hr1
          · have HE := Lib.hid (num_step acc k c.toNat hk hc (by omega) HA.out)
            go_wp2_with (go_at_call 141; refine (next_some _ _ _ _ _ HR.out HX.out).mono ?_; rintro e w1 ⟨rfl, hr1, hb1⟩)
            all_goals go_ret2
            all_goals exact rn_close HE.out HU.out hb1 HY.out hr1
          · obtain rfl : k = 9 := by omega
            have HE := Lib.hid (num_step9 acc c.toNat hc h5 HA.out)
            have t1 : ((c.toNat : Int) == 0) = false := beq_eq_false_iff_ne.2 (by omega)
            have t2 : decide (1 < (c.toNat : Int)) = false := decide_eq_false (by omega)
            go_wp2_with (go_at_call 141; refine (next_some _ _ _ _ _ HR.out HX.out).mono ?_; rintro e w1 ⟨rfl, hr1, hb1⟩)
            all_goals go_ret2
            all_goals exact rn_close HE.out HU.out hb1 HY.out hr1
        · have hon := HN.out
          rw [rn_on _ _ _ _ hbad (by omega)] at hon
          have HY := Lib.hid hon
          have h8 : k ≤ 8 := by omega
          have h128 : 128 ≤ c.toNat := by omega
          clear hon hbad hlast
          rcases Nat.lt_or_ge k 1 with h1 | h1
          · obtain rfl : k = 0 := by omega
            have HE := Lib.hid (num_step0 acc c.toNat hc HA.out)
            go_wp2_with (go_at_call 141; refine (next_some _ _ _ _ _ HR.out HX.out).mono ?_; rintro e w1 ⟨rfl, hr1, hb1⟩)
            go_roundw
            case rel => exact ⟨0 + 1, acc + c.toNat % 128 * 128 ^ 0, by omega, by go_num, by rw [HE.out], rn_round HA.out HU.out hb1 HY.out hr1⟩
            case measure => simp [intOf]
          · have HE := Lib.hid (num_step acc k c.toNat hk hc (by omega) HA.out)
            go_wp2_with (go_at_call 141; refine (next_some _ _ _ _ _ HR.out HX.out).mono ?_; rintro e w1 ⟨rfl, hr1, hb1⟩)
            go_roundw
            case rel => exact ⟨k + 1, acc + c.toNat % 128 * 128 ^ k, by omega, by go_num, by rw [HE.out], rn_round HA.out HU.out hb1 HY.out hr1⟩
            case measure => simp [intOf]; omega

end Go.Proofs.YtmaohncddjhgeaaGreat.gn
end
