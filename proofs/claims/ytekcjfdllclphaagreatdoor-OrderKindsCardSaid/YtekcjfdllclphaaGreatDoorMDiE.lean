/- Contracts of storeName and of the closures that store a field. -/
import Derived.Test.YtekcjfdllclphaaGreatDoorMDiX
import Derived.Test.YtekcjfdllclphaaGreatDoorMGenTail
section
set_option linter.unusedVariables false
namespace Go.Proofs.YtekcjfdllclphaaGreatDoor.gn
open Go.RowKit
open Go.Proofs.YtekcjfdllclphaaGreatDoor.un
open Go.Proofs.YtekcjfdllclphaaGreatDoor.di

/-- A directive in a box. -/
def DirB (w : World) (b : Nat) (d : Dir) : Prop := BoxA w b 80 (dcs d)
/-- A box with a pointer to a directive's. -/
def PtrB (w : World) (c b : Nat) : Prop := BoxA w c 157 #[.pointer (some ⟨b, 0, none⟩)]
theorem DirB.cells {w : World} {b : Nat} {d : Dir} (h : DirB w b d) : w.cell? ⟨b, 0, none⟩ = some (.int .u8 (d.kind : Nat)) ∧ w.cell? ⟨b, 1, none⟩ = some (.string (str d.name)) ∧ w.cell? ⟨b, 2, none⟩ = some (.string (str d.pool)) ∧ w.cell? ⟨b, 3, none⟩ = some (.int .i64 d.size) ∧ w.cell? ⟨b, 4, none⟩ = some (.bool d.opn) :=
  ⟨BoxA.cell h 0 _ rfl, BoxA.cell h 1 _ rfl, BoxA.cell h 2 _ rfl, BoxA.cell h 3 _ rfl, BoxA.cell h 4 _ rfl⟩
theorem DirB.next {w w' : World} {b : Nat} {d : Dir} (h : DirB w b d) (hb : Below w.heap.size w w') : DirB w' b d := BoxA.next h hb
theorem DirB.lt {w : World} {b : Nat} {d : Dir} (h : DirB w b d) : b < w.heap.size := BoxA.lt h
theorem DirB.name {w : World} {b : Nat} {d : Dir} (h : DirB w b d) (v : Tx) : DirB (w.setCell ⟨b, 1, none⟩ (.string (str v))) b { d with name := v } := BoxA.set h 1 _
theorem DirB.pool {w : World} {b : Nat} {d : Dir} (h : DirB w b d) (v : Tx) : DirB (w.setCell ⟨b, 2, none⟩ (.string (str v))) b { d with pool := v } := BoxA.set h 2 _
theorem DirB.size {w : World} {b : Nat} {d : Dir} (h : DirB w b d) (n : Int) : DirB (w.setCell ⟨b, 3, none⟩ (.int .i64 n)) b { d with size := n } := BoxA.set h 3 _
theorem DirB.opn {w : World} {b : Nat} {d : Dir} (h : DirB w b d) (o : Bool) : DirB (w.setCell ⟨b, 4, none⟩ (.bool o)) b { d with opn := o } := BoxA.set h 4 _
theorem But.of_below {R : Nat} {w w' : World} (h : Below w.heap.size w w') : But R w w' := ⟨h.os, h.tape, h.output, h.size, fun i hi _ => h.block i hi⟩

/-- A store into a box with a string: the new string. -/
def NameT (bd j : Nat) (v : Tx) (w : World) (e : Ending) (w' : World) : Prop :=
  e = .returned (.bool (isName v)) ∧ ∃ w1, Below w.heap.size w w1 ∧ w' = if isName v = true then w1.setCell ⟨bd, j, none⟩ (.string (str v)) else w1
set_option maxRecDepth 100000 in
set_option maxHeartbeats 1600000 in
theorem storeName_any (bd j : Nat) (old : Tx) (v : Tx) (hv : v.length ≤ 9223372036854775807) (w : World) (hc : w.cell? ⟨bd, j, none⟩ = some (.string (str old))) (hf : w.frozen? ⟨bd, j, none⟩ = false) (hlt : bd < w.heap.size) :
    Calls Tryz.prog 146 #[.pointer (some ⟨bd, j, none⟩), .string (str v)] w (NameT bd j v w) := by
  cases hn : isName v with
  | false =>
    have HN := Lib.hid hn
    have HV := Lib.hid hv
    clear hc hf hlt hn hv
    go_enter Tryz.func146, Tryz.ntmps146
    go_wp2_with (go_at_call 98; refine (name_all v HV.out _).mono ?_; rintro e w1 ⟨rfl, hb⟩; rw [HN.out]; have HB := Lib.hid hb; clear hb)
    go_ret
    exact ⟨by rw [HN.out]; rfl, w1, HB.out, by rw [HN.out]; rfl⟩
  | true =>
    have HN := Lib.hid hn
    have HV := Lib.hid hv
    have HL := Lib.hid (show (str v).size ≤ 281474976710656 by rw [str_size]; have := name_len hn; omega)
    have HC := Lib.hid fun (W : World) (hb : Below w.heap.size w W) => (Below.cell hb hlt).trans hc
    have HF := Lib.hid fun (W : World) (hb : Below w.heap.size w W) => (show W.frozen? ⟨bd, j, none⟩ = false by rw [← hf]; unfold World.frozen?; rw [hb.block bd hlt])
    clear hc hf hn hv
    go_enter Tryz.func146, Tryz.ntmps146
    go_wp2_with (first
      | (go_at_call 98; refine (name_all v HV.out _).mono ?_; rintro e w1 ⟨rfl, hb⟩; rw [HN.out]; have HB := Lib.hid hb; clear hb)
      | (go_at_call 117; refine (clone_any (str v) _ HL.out).mono ?_; rintro e w2 ⟨rfl, hb2⟩; have HB2 := Lib.hid (HB.out.trans (hb2.mono HB.out.size)); have hc2 := HC.out _ HB2.out; have hf2 := HF.out _ HB2.out; clear hb2))
    go_ret
    exact ⟨by rw [HN.out]; rfl, w2, HB2.out, by rw [HN.out]; rfl⟩
end Go.Proofs.YtekcjfdllclphaaGreatDoor.gn
end
section
set_option linter.unusedVariables false
namespace Go.Proofs.YtekcjfdllclphaaGreatDoor.gn
open Go.RowKit
open Go.Proofs.YtekcjfdllclphaaGreatDoor.un
open Go.Proofs.YtekcjfdllclphaaGreatDoor.di

/-- Is a field left out? -/
def omi (f : Tx × Bool) (v : Tx) : Bool := f.2 && decide (v = [])
theorem omi_iff (f : Tx × Bool) (v : Tx) : omi f v = true ↔ f.2 = true ∧ v = [] := by
  unfold omi
  simp
set_option maxRecDepth 100000 in
theorem omitted_any (key : Tx) (o : Bool) (v : Tx) (w : World) : Calls Tryz.prog 97 #[.agg #[.string (str key), .bool o], .string (str v)] w (Told (.bool (omi (key, o) v)) w) := by
  have HB := Lib.hid (show Below w.heap.size w (w.alloc (.cells #[.string (str key), .bool o] 133)) from (Below.refl _ _).alloc (Nat.le_refl _) _)
  cases o with
  | false =>
    go_enter Tryz.func97, Tryz.ntmps97
    go_wp2
    go_ret
    exact ⟨rfl, HB.out⟩
  | true =>
    have H := Lib.hid (show omi (key, true) v = decide (v = []) from rfl)
    by_cases h : v = []
    · obtain ⟨q, q2⟩ := lit_yes h
      rw [decide_eq_true h] at H
      clear h
      go_enter Tryz.func97, Tryz.ntmps97
      go_wp2
      go_ret
      exact ⟨by rw [H.out]; rfl, HB.out⟩
    · obtain ⟨q, q2⟩ := lit_no h
      rw [decide_eq_false h] at H
      clear h
      go_enter Tryz.func97, Tryz.ntmps97
      go_wp2
      go_ret
      exact ⟨by rw [H.out]; rfl, HB.out⟩

theorem val_name (d : Dir) : val d nameK = d.name := by unfold val; rw [if_pos rfl]
theorem val_pool (d : Dir) : val d poolK = d.pool := by unfold val; rw [if_neg (by decide), if_pos rfl]
theorem val_acc (d : Dir) : val d accK = if d.opn = true then pubV else [] := by unfold val; rw [if_neg (by decide), if_neg (by decide), if_pos rfl]
theorem val_size (d : Dir) {key : Tx} (h : key = capK ∨ key = sizeK) : val d key = stxt d.size := by
  rcases h with rfl | rfl
  · unfold val; rw [if_neg (by decide), if_neg (by decide), if_neg (by decide)]
  · unfold val; rw [if_neg (by decide), if_neg (by decide), if_neg (by decide)]

set_option maxRecDepth 100000 in
set_option maxHeartbeats 1600000 in
theorem value_any (d : Dir) (h0 : -9223372036854775808 ≤ d.size) (h1 : d.size ≤ 9223372036854775807) (key : Tx) (w : World) (hL : LaidU w) :
    Calls Tryz.prog 96 #[dV d, .string (str key)] w (Told (.string (str (val d key))) w) := by
  have hb : Below w.heap.size w (w.alloc (.cells (dcs d) 80)) := (Below.refl _ _).alloc (Nat.le_refl _) _
  have HB := Lib.hid hb
  have HL := Lib.hid (hL.next hb)
  have hV : dV d = .agg #[.int .u8 (d.kind : Nat), .string (str d.name), .string (str d.pool), .int .i64 d.size, .bool d.opn] := rfl
  rw [hV]
  unfold dcs at HB HL
  obtain ⟨k, n, p, z, o⟩ := d
  dsimp only at h0 h1 HB HL ⊢
  by_cases e1 : key = nameK
  · have HV := Lib.hid (show val ⟨k, n, p, z, o⟩ key = n by rw [e1]; exact val_name _)
    obtain ⟨q1, q2⟩ := lit_yes e1
    unfold nameK at q1 q2
    clear hL hb hV h0 h1 e1
    go_enter Tryz.func96, Tryz.ntmps96
    go_wp2
    go_ret
    exact ⟨by rw [HV.out]; rfl, HB.out⟩
  · obtain ⟨q1, q2⟩ := lit_no e1
    unfold nameK at q1 q2
    by_cases e2 : key = poolK
    · have HV := Lib.hid (show val ⟨k, n, p, z, o⟩ key = p by rw [e2]; exact val_pool _)
      obtain ⟨q3, q4⟩ := lit_yes e2
      unfold poolK at q3 q4
      clear hL hb hV h0 h1 e1 e2
      go_enter Tryz.func96, Tryz.ntmps96
      go_wp2
      go_ret
      exact ⟨by rw [HV.out]; rfl, HB.out⟩
    · obtain ⟨q3, q4⟩ := lit_no e2
      unfold poolK at q3 q4
      by_cases e3 : key = accK
      · have HV := Lib.hid (show val ⟨k, n, p, z, o⟩ key = if o = true then pubV else [] by rw [e3]; exact val_acc _)
        obtain ⟨q5, q6⟩ := lit_yes e3
        unfold accK at q5 q6
        clear hL hb hV h0 h1 e1 e2 e3
        cases o with
        | true =>
          go_enter Tryz.func96, Tryz.ntmps96
          go_wp2
          go_ret
          exact ⟨by rw [HV.out]; rfl, HB.out⟩
        | false =>
          go_enter Tryz.func96, Tryz.ntmps96
          go_wp2
          go_ret
          exact ⟨by rw [HV.out]; rfl, HB.out⟩
      · obtain ⟨q5, q6⟩ := lit_no e3
        unfold accK at q5 q6
        have HV := Lib.hid (show val ⟨k, n, p, z, o⟩ key = stxt z by unfold val; rw [if_neg e1, if_neg e2, if_neg e3])
        clear hL hb hV e1 e2 e3
        go_enter Tryz.func96, Tryz.ntmps96
        go_wp2_with (go_at_call 118; refine (stext_any z h0 h1 _ HL.out).mono ?_; rintro e w2 ⟨rfl, hb2⟩; have HB2 := Lib.hid (HB.out.trans (hb2.mono HB.out.size)); clear hb2)
        go_ret
        exact ⟨by rw [HV.out]; rfl, HB2.out⟩
end Go.Proofs.YtekcjfdllclphaaGreatDoor.gn
end
