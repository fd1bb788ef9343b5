/- The contract of the reader's Text. -/
import Derived.Test.YtjfachkonnfldaaPackT
import Derived.Test.YtjfachkonnfldaaPackU
namespace Go.Proofs.Ytjfachkonnfldaa
open Go.RowKit

/-- What Text tells, and what becomes of the reader. -/
def textOf (most : Int) : Option (List UInt8) → List UInt8 × Option (List UInt8)
  | none => ([], none)
  | some l => match rd l with
    | none => ([], none)
    | some (n, r) => if r.length < n ∨ most < (n : Int) then ([], none) else (r.take n, some (r.drop n))

def TextPost (R : Nat) (most : Int) (st : Option (List UInt8)) (w : World) (e : Ending) (w' : World) : Prop :=
  e = .returned (.string (str (textOf most st).1)) ∧ RS w' R (textOf most st).2 ∧ But R w w'
theorem text_close {R : Nat} {most : Int} {st s2 : Option (List UInt8)} {w w' : World} {t : List UInt8} {s : ByteArray} (h : textOf most st = (t, s2)) (hs : s = str t) (hr : RS w' R s2) (hu : But R w w') : TextPost R most st w (.returned (.string s)) w' :=
  ⟨by rw [h, hs], by rw [h]; exact hr, hu⟩

theorem below_but {R : Nat} {a b c : World} (h : But R a b) (hb : Below b.heap.size b c) : But R a c :=
  h.trans ⟨hb.os, hb.tape, hb.output, hb.size, fun k hk _ => hb.block k hk⟩

theorem str_take (r : List UInt8) (n : Nat) : (str r).extract 0 n = str (r.take n) := by
  apply ByteArray.ext
  simp [str]
theorem str_drop (r : List UInt8) (n : Nat) : (str r).extract n (str r).size = str (r.drop n) := by
  apply ByteArray.ext
  simp [str, ByteArray.size]
  exact List.take_of_length_le (by simp)

set_option maxHeartbeats 1600000 in
theorem rText_any (w : World) (R : Nat) (most : Int) (st : Option (List UInt8)) (hm : -9223372036854775808 ≤ most ∧ most ≤ 9223372036854775807) (hlen : ∀ l, st = some l → l.length ≤ 140737488355328) (hs : RS w R st) :
    Calls Try.prog 11 #[.pointer (some ⟨R, 0, none⟩), .int .i64 most] w (TextPost R most st w) := by
  have HS := Lib.hid hs
  have HL := Lib.hid hlen
  clear hs hlen
  obtain ⟨hm1, hm2⟩ := hm
  cases st with
  | none =>
    go_enter Try.func11, Try.ntmps11
    go_wp2_with fail
    refine (rNum_any _ R none HS.out).mono ?_
    rintro e w1 ⟨rfl, hr, hu⟩
    go_wp2_with (go_at_call 13; refine (fine_no _ _ hr).mono ?_; rintro e w2 ⟨rfl, rfl⟩)
    go_ret
    exact text_close rfl rfl hr hu
  | some l =>
    cases hrd : rd l with
    | none =>
      have HT : Hid (textOf most (some l) = ([], none)) := by show textOf _ _ = _; simp [textOf, hrd]
      have HN := Lib.hid (numOf_no hrd)
      clear hrd
      go_enter Try.func11, Try.ntmps11
      go_wp2_with fail
      refine (rNum_any _ R (some l) HS.out).mono ?_
      rintro e w1 ⟨rfl, hr, hu⟩
      rw [HN.out] at hr ⊢
      go_wp2_with (go_at_call 13; refine (fine_no _ _ hr).mono ?_; rintro e w2 ⟨rfl, rfl⟩)
      go_ret
      exact text_close HT.out rfl hr hu
    | some p =>
      obtain ⟨n, r⟩ := p
      have hn := rd_lt hrd
      have hrl : r.length ≤ l.length := rd_len hrd
      have hl2 := HL.out l rfl
      have hsz : (str r).size = r.length := str_size r
      have HZ := Lib.hid hsz
      have hsz1 : (str r).size ≤ 140737488355328 := by omega
      have HN := Lib.hid (numOf_yes hrd)
      by_cases hbad : r.length < n ∨ most < (n : Int)
      · have HT : Hid (textOf most (some l) = ([], none)) := by show textOf _ _ = _; simp only [textOf, hrd]; rw [if_pos hbad]
        have hbad2 : (str r).size < n ∨ (n ≤ (str r).size ∧ most < (n : Int)) := by omega
        clear hrd hbad hsz hrl
        rcases hbad2 with hb | ⟨hb1, hb2⟩
        all_goals
          go_enter Try.func11, Try.ntmps11
          go_wp2_with fail
          refine (rNum_any _ R (some l) HS.out).mono ?_
          rintro e w1 ⟨rfl, hr, hu⟩
          rw [HN.out] at hr ⊢
          obtain ⟨_, c1, c2, _⟩ := RS_some hr
          go_wp2_with (first | (go_at_call 13; refine (fine_yes _ _ _ hr).mono ?_; rintro e w2 ⟨rfl, rfl⟩) | (go_at_call 24; refine (stop_any _ _ _ hr).mono ?_; rintro e w3 ⟨rfl, hr3, hu3, _⟩))
          all_goals go_ret
          all_goals exact text_close HT.out rfl hr3 (hu.trans hu3)
      · have HT : Hid (textOf most (some l) = (r.take n, some (r.drop n))) := by show textOf _ _ = _; simp only [textOf, hrd]; rw [if_neg hbad]
        have hg1 : n ≤ (str r).size := by omega
        have hg2 : (n : Int) ≤ most := by omega
        have HX1 := Lib.hid (str_take r n)
        have HK : Hid ((str (r.take n)).size ≤ 281474976710656) := by
          show (str (r.take n)).size ≤ 281474976710656
          rw [str_size, List.length_take]; omega
        have HX2 := Lib.hid (str_drop r n)
        clear hrd hbad hsz hrl
        go_enter Try.func11, Try.ntmps11
        go_wp2_with fail
        refine (rNum_any _ R (some l) HS.out).mono ?_
        rintro e w1 ⟨rfl, hr, hu⟩
        rw [HN.out] at hr ⊢
        obtain ⟨_, c1, c2, _, f1, _⟩ := RS_some hr
        go_wp2_with (go_at_call 13; refine (fine_yes _ _ _ hr).mono ?_; rintro e w2 ⟨rfl, rfl⟩)
        rw [HX1.out]
        refine (clone_any _ _ HK.out).mono ?_
        rintro e w3 ⟨rfl, hb3⟩
        have hr3 := Below.rs hb3 hr (RS_lt hr)
        obtain ⟨_, d1, d2, _, g1, _⟩ := RS_some hr3
        go_wp2
        go_ret
        refine text_close HT.out rfl ?_ ((below_but hu hb3).setCell 1 _)
        rw [HX2.out]
        exact heap_setCell hr3 _
end Go.Proofs.Ytjfachkonnfldaa
