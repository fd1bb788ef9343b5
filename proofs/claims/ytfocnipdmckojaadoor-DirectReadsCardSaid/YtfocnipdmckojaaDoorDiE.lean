/- Contracts of storeName and of the closures that store a field. -/
import Derived.Test.YtfocnipdmckojaaDoorDiA
import Derived.Test.YtfocnipdmckojaaDoorGenClone
set_option linter.unusedVariables false
namespace Go.Proofs.YtfocnipdmckojaaDoor.gn
open Go.RowKit
open Go.Proofs.YtfocnipdmckojaaDoor.un
open Go.Proofs.YtfocnipdmckojaaDoor.di

/-- A directive in a box. -/
def DirB (w : World) (b : Nat) (d : Dir) : Prop := BoxA w b 24 (dcs d)
/-- A box with a pointer to a directive's. -/
def PtrB (w : World) (c b : Nat) : Prop := BoxA w c 49 #[.pointer (some ⟨b, 0, none⟩)]
theorem DirB.cells {w : World} {b : Nat} {d : Dir} (h : DirB w b d) : w.cell? ⟨b, 0, none⟩ = some (.int .u8 (d.kind : Nat)) ∧ w.cell? ⟨b, 1, none⟩ = some (.string (str d.name)) ∧ w.cell? ⟨b, 2, none⟩ = some (.string (str d.pool)) ∧ w.cell? ⟨b, 3, none⟩ = some (.int .i64 d.size) ∧ w.cell? ⟨b, 4, none⟩ = some (.bool d.opn) :=
  ⟨BoxA.cell h 0 _ rfl, BoxA.cell h 1 _ rfl, BoxA.cell h 2 _ rfl, BoxA.cell h 3 _ rfl, BoxA.cell h 4 _ rfl⟩
theorem DirB.next {w w' : World} {b : Nat} {d : Dir} (h : DirB w b d) (hb : Below w.heap.size w w') : DirB w' b d := BoxA.next h hb
theorem DirB.lt {w : World} {b : Nat} {d : Dir} (h : DirB w b d) : b < w.heap.size := BoxA.lt h
theorem DirB.name {w : World} {b : Nat} {d : Dir} (h : DirB w b d) (v : Tx) : DirB (w.setCell ⟨b, 1, none⟩ (.string (str v))) b { d with name := v } := BoxA.set h 1 _
theorem DirB.pool {w : World} {b : Nat} {d : Dir} (h : DirB w b d) (v : Tx) : DirB (w.setCell ⟨b, 2, none⟩ (.string (str v))) b { d with pool := v } := BoxA.set h 2 _
theorem DirB.size {w : World} {b : Nat} {d : Dir} (h : DirB w b d) (n : Int) : DirB (w.setCell ⟨b, 3, none⟩ (.int .i64 n)) b { d with size := n } := BoxA.set h 3 _
theorem DirB.opn {w : World} {b : Nat} {d : Dir} (h : DirB w b d) (o : Bool) : DirB (w.setCell ⟨b, 4, none⟩ (.bool o)) b { d with opn := o } := BoxA.set h 4 _
theorem But.of_below {R : Nat} {w w' : World} (h : Below w.heap.size w w') : But R w w' := ⟨h.os, h.tape, h.output, h.size, fun i hi _ => h.block i hi⟩

/-- A store into a box with a string: the new string. -/
def NameT (bd j : Nat) (v : Tx) (w : World) (e : Ending) (w' : World) : Prop :=
  e = .returned (.bool (isName v)) ∧ ∃ w1, Below w.heap.size w w1 ∧ w' = if isName v = true then w1.setCell ⟨bd, j, none⟩ (.string (str v)) else w1
set_option maxRecDepth 100000 in
set_option maxHeartbeats 1600000 in
theorem storeName_any (bd j : Nat) (old : Tx) (v : Tx) (hv : v.length ≤ 9223372036854775807) (w : World) (hc : w.cell? ⟨bd, j, none⟩ = some (.string (str old))) (hf : w.frozen? ⟨bd, j, none⟩ = false) (hlt : bd < w.heap.size) :
    Calls Tryd.prog 44 #[.pointer (some ⟨bd, j, none⟩), .string (str v)] w (NameT bd j v w) := by
  cases hn : isName v with
  | false =>
    have HN := Lib.hid hn
    have HV := Lib.hid hv
    clear hc hf hlt hn hv
    go_enter Tryd.func44, Tryd.ntmps44
    go_wp2_with (go_at_call 56; refine (name_all v HV.out _).mono ?_; rintro e w1 ⟨rfl, hb⟩; rw [HN.out]; have HB := Lib.hid hb; clear hb)
    go_ret
    exact ⟨by rw [HN.out]; rfl, w1, HB.out, by rw [HN.out]; rfl⟩
  | true =>
    have HN := Lib.hid hn
    have HV := Lib.hid hv
    have HL := Lib.hid (show (str v).size ≤ 281474976710656 by rw [str_size]; have := name_len hn; omega)
    have HC := Lib.hid fun (W : World) (hb : Below w.heap.size w W) => (Below.cell hb hlt).trans hc
    have HF := Lib.hid fun (W : World) (hb : Below w.heap.size w W) => (show W.frozen? ⟨bd, j, none⟩ = false by rw [← hf]; unfold World.frozen?; rw [hb.block bd hlt])
    clear hc hf hn hv
    go_enter Tryd.func44, Tryd.ntmps44
    go_wp2_with (first
      | (go_at_call 56; refine (name_all v HV.out _).mono ?_; rintro e w1 ⟨rfl, hb⟩; rw [HN.out]; have HB := Lib.hid hb; clear hb)
      | (go_at_call 57; refine (clone_any (str v) _ HL.out).mono ?_; rintro e w2 ⟨rfl, hb2⟩; have HB2 := Lib.hid (HB.out.trans (hb2.mono HB.out.size)); have hc2 := HC.out _ HB2.out; have hf2 := HF.out _ HB2.out; clear hb2))
    go_ret
    exact ⟨by rw [HN.out]; rfl, w2, HB2.out, by rw [HN.out]; rfl⟩
end Go.Proofs.YtfocnipdmckojaaDoor.gn
