/- The contract of strings.Clone: the same bytes; nothing that was there is turned. -/
import Derived.Test.YtpmghgfgbkncoaaGreatDoorMGen
import Derived.Lib.Strings
import Derived.Lib.Walk
import Derived.Lib.BufferWrite
import Derived.Lib.UnsafeStr
import Derived.Laws.MakeOwn
import Derived.Test.YtpmghgfgbkncoaaGreatDoorMDiX
import Derived.Test.YtpmghgfgbkncoaaGreatDoorDiLay
import Derived.Deep.LoopGhost
import Derived.BigQuiet
section
namespace Go.Proofs.YtpmghgfgbkncoaaGreatDoor.gn
open Go.RowKit

theorem cells5 : Tryz.prog.cellsOf 5 = 1 := by kernel_rfl

set_option maxHeartbeats 4000000 in
set_option maxRecDepth 100000 in
theorem liteClone_any (s : ByteArray) (w : World) (hlim : s.size ≤ 281474976710656) :
    Calls Tryz.prog 121 #[.string s] w fun e w' => e = .returned (.string s) ∧ Below w.heap.size w w' := by
  by_cases h0 : s.size = 0
  · have hs : s = ⟨#[]⟩ := by
      apply ByteArray.ext
      exact Array.eq_empty_of_size_eq_zero h0
    subst hs
    go_enter Tryz.func121, Tryz.ntmps121
    go_wp2
    go_ret
    exact ⟨rfl, Below.refl _ _⟩
  · obtain ⟨i0, hi, hz0, hz1, hz2⟩ := info_parts Tryz.info5
    have hinfo : (Tryz.prog.info? 5).map (·.size) = some 1 := by rw [hi]; simp [hz1]
    obtain ⟨M, hM⟩ : ∃ M, M = madeCells (Value.int .u8 0).cells (((s.size : Nat) : Int).toNat * i0.size) := ⟨_, rfl⟩
    have hMs : M.size = s.size := by rw [hM, size_madeCells, hz1]; simp
    have hmk : ∀ W : World, (Instr.makeSlice 78 (.int .i64 (s.size : Int)) (.int .i64 (s.size : Int))).run Tryz.prog W = .ok (.slice (some ⟨W.heap.size, 0, none⟩) s.size s.size) (W.alloc (.cells M 5)) := fun W => by
      have h := run_make (P := Tryz.prog) W 78 5 i0 (.int .u8 0) Tryz.underlying78 hi hz0 .i64 .i64 (s.size : Int) (s.size : Int) (by omega) (by omega) (by rw [hz2]; omega) (by omega)
      rw [← hM] at h
      simpa using h
    clear hM
    have hcp := Lib.run_copy_row_string (P := Tryz.prog) (w.alloc (.cells M 5)) 78 9 3 5 w.heap.size 0 s.size s.size s M 5 Tryz.underlying78 hinfo (heap_alloc_new w _) (Nat.le_refl _) (by omega)
    obtain ⟨Y, hY⟩ : ∃ Y, Y = (M.toList.take 0 ++ Lib.byteCells s.data.toList ++ M.toList.drop (0 + s.size)).toArray := ⟨_, rfl⟩
    rw [← hY] at hcp
    have hYl : Y.toList = Lib.byteCells s.data.toList := by
      rw [hY, List.toList_toArray, List.take_zero, List.nil_append, List.drop_of_length_le (by rw [Array.length_toList]; omega), List.append_nil]
    have hYs : Y.size = s.size := by rw [← Array.length_toList, hYl, Lib.byteCells_length, ← Lib.size_eq]
    have hgY : ((w.alloc (.cells M 5)).setRow w.heap.size Y).heap[w.heap.size]? = some (.cells Y 5 (0, 0)) := setRow_heap _ _ M _ 5 (0, 0) (heap_alloc_new w _)
    have hne : s.data.toList ≠ [] := fun e => h0 (by rw [Lib.size_eq, e]; rfl)
    have hUS := Lib.run_unsafeString_row (P := Tryz.prog) ((w.alloc (.cells M 5)).setRow w.heap.size Y) 172 3 9 5 Tryz.underlying172 cells5 w.heap.size Y.size (by unfold World.shape?; rw [hgY]) s.data.toList hne (by rw [← Lib.size_eq]; omega) (by rw [← Lib.size_eq]; omega)
      (fun j x hx => Lib.cells_of_row hgY Y.size j _ (by rw [List.take_of_length_le (by rw [Array.length_toList]; exact Nat.le_refl _), hYl]; simp [Lib.byteCells, hx]))
    rw [← Lib.size_eq] at hUS
    clear hY
    go_enter Tryz.func121, Tryz.ntmps121
    go_wp2
    go_ret
    have hb1 : Below w.heap.size w (w.alloc (.cells M 5)) := (Below.refl _ w).alloc (Nat.le_refl _) _
    have hb2 : Below w.heap.size (w.alloc (.cells M 5)) ((w.alloc (.cells M 5)).setRow w.heap.size Y) := ⟨rfl, rfl, rfl, by simp, fun k hk => setRow_other _ _ _ _ (by omega)⟩
    exact ⟨rfl, Lib.below_freeze (hb1.trans hb2) (p := ⟨w.heap.size, 0, none⟩) (Nat.le_refl _) _⟩

set_option maxHeartbeats 400000 in
theorem clone_any (s : ByteArray) (w : World) (hlim : s.size ≤ 281474976710656) :
    Calls Tryz.prog 106 #[.string s] w fun e w' => e = .returned (.string s) ∧ Below w.heap.size w w' := by
  go_enter Tryz.func106, Tryz.ntmps106
  go_wp2_with (go_at_call 121; refine (liteClone_any s _ hlim).mono ?_; rintro e w1 ⟨rfl, hb⟩)
  go_ret
  exact ⟨rfl, hb⟩
end Go.Proofs.YtpmghgfgbkncoaaGreatDoor.gn
end
section
set_option linter.unusedVariables false
namespace Go.Proofs.YtpmghgfgbkncoaaGreatDoor.gn
open Go.RowKit
open Go.Proofs.YtpmghgfgbkncoaaGreatDoor.un
open Go.Proofs.YtpmghgfgbkncoaaGreatDoor.di

/-- A directive in a box. -/
def DirB (w : World) (b : Nat) (d : Dir) : Prop := BoxA w b 51 (dcs d)
/-- A box with a pointer to a directive's. -/
def PtrB (w : World) (c b : Nat) : Prop := BoxA w c 116 #[.pointer (some ⟨b, 0, none⟩)]
theorem DirB.cells {w : World} {b : Nat} {d : Dir} (h : DirB w b d) : w.cell? ⟨b, 0, none⟩ = some (.int .u8 (d.kind : Nat)) ∧ w.cell? ⟨b, 1, none⟩ = some (.string (str d.name)) ∧ w.cell? ⟨b, 2, none⟩ = some (.string (str d.pool)) ∧ w.cell? ⟨b, 3, none⟩ = some (.int .i64 d.size) ∧ w.cell? ⟨b, 4, none⟩ = some (.bool d.opn) :=
  ⟨BoxA.cell h 0 _ rfl, BoxA.cell h 1 _ rfl, BoxA.cell h 2 _ rfl, BoxA.cell h 3 _ rfl, BoxA.cell h 4 _ rfl⟩
theorem DirB.next {w w' : World} {b : Nat} {d : Dir} (h : DirB w b d) (hb : Below w.heap.size w w') : DirB w' b d := BoxA.next h hb
theorem DirB.lt {w : World} {b : Nat} {d : Dir} (h : DirB w b d) : b < w.heap.size := BoxA.lt h
theorem DirB.name {w : World} {b : Nat} {d : Dir} (h : DirB w b d) (v : Tx) : DirB (w.setCell ⟨b, 1, none⟩ (.string (str v))) b { d with name := v } := BoxA.set h 1 _
theorem DirB.pool {w : World} {b : Nat} {d : Dir} (h : DirB w b d) (v : Tx) : DirB (w.setCell ⟨b, 2, none⟩ (.string (str v))) b { d with pool := v } := BoxA.set h 2 _
theorem DirB.size {w : World} {b : Nat} {d : Dir} (h : DirB w b d) (n : Int) : DirB (w.setCell ⟨b, 3, none⟩ (.int .i64 n)) b { d with size := n } := BoxA.set h 3 _
theorem DirB.opn {w : World} {b : Nat} {d : Dir} (h : DirB w b d) (o : Bool) : DirB (w.setCell ⟨b, 4, none⟩ (.bool o)) b { d with opn := o } := BoxA.set h 4 _
theorem But.of_below {R : Nat} {w w' : World} (h : Below w.heap.size w w') : But R w w' := ⟨h.os, h.tape, h.output, h.size, fun i hi _ => h.block i hi⟩

/-- A store into a box with a string: the new string. -/
def NameT (bd j : Nat) (v : Tx) (w : World) (e : Ending) (w' : World) : Prop :=
  e = .returned (.bool (isName v)) ∧ ∃ w1, Below w.heap.size w w1 ∧ w' = if isName v = true then w1.setCell ⟨bd, j, none⟩ (.string (str v)) else w1
set_option maxRecDepth 100000 in
set_option maxHeartbeats 1600000 in
theorem storeName_any (bd j : Nat) (old : Tx) (v : Tx) (hv : v.length ≤ 9223372036854775807) (w : World) (hc : w.cell? ⟨bd, j, none⟩ = some (.string (str old))) (hf : w.frozen? ⟨bd, j, none⟩ = false) (hlt : bd < w.heap.size) :
    Calls Tryz.prog 95 #[.pointer (some ⟨bd, j, none⟩), .string (str v)] w (NameT bd j v w) := by
  cases hn : isName v with
  | false =>
    have HN := Lib.hid hn
    have HV := Lib.hid hv
    clear hc hf hlt hn hv
    go_enter Tryz.func95, Tryz.ntmps95
    go_wp2_with (go_at_call 59; refine (name_all v HV.out _).mono ?_; rintro e w1 ⟨rfl, hb⟩; rw [HN.out]; have HB := Lib.hid hb; clear hb)
    go_ret
    exact ⟨by rw [HN.out]; rfl, w1, HB.out, by rw [HN.out]; rfl⟩
  | true =>
    have HN := Lib.hid hn
    have HV := Lib.hid hv
    have HL := Lib.hid (show (str v).size ≤ 281474976710656 by rw [str_size]; have := name_len hn; omega)
    have HC := Lib.hid fun (W : World) (hb : Below w.heap.size w W) => (Below.cell hb hlt).trans hc
    have HF := Lib.hid fun (W : World) (hb : Below w.heap.size w W) => (show W.frozen? ⟨bd, j, none⟩ = false by rw [← hf]; unfold World.frozen?; rw [hb.block bd hlt])
    clear hc hf hn hv
    go_enter Tryz.func95, Tryz.ntmps95
    go_wp2_with (first
      | (go_at_call 59; refine (name_all v HV.out _).mono ?_; rintro e w1 ⟨rfl, hb⟩; rw [HN.out]; have HB := Lib.hid hb; clear hb)
      | (go_at_call 106; refine (clone_any (str v) _ HL.out).mono ?_; rintro e w2 ⟨rfl, hb2⟩; have HB2 := Lib.hid (HB.out.trans (hb2.mono HB.out.size)); have hc2 := HC.out _ HB2.out; have hf2 := HF.out _ HB2.out; clear hb2))
    go_ret
    exact ⟨by rw [HN.out]; rfl, w2, HB2.out, by rw [HN.out]; rfl⟩
end Go.Proofs.YtpmghgfgbkncoaaGreatDoor.gn
end
section
set_option linter.unusedVariables false
namespace Go.Proofs.YtpmghgfgbkncoaaGreatDoor.gn
open Go.RowKit
open Go.Proofs.YtpmghgfgbkncoaaGreatDoor.un
open Go.Proofs.YtpmghgfgbkncoaaGreatDoor.di

theorem sto_name (v : Tx) (d : Dir) : sto nameK v d = if isName v = true then { d with name := v } else d := by unfold sto; rw [if_pos rfl]
theorem sto_pool (v : Tx) (d : Dir) : sto poolK v d = if isName v = true then { d with pool := v } else d := by unfold sto; rw [if_neg (by decide), if_pos rfl]
theorem sto_acc (v : Tx) (d : Dir) : sto accK v d = { d with opn := v == pubV } := by unfold sto; rw [if_neg (by decide), if_neg (by decide), if_pos rfl]
theorem sto_cap (v : Tx) (d : Dir) : sto capK v d = { d with size := (((size? v).getD 0 : Nat) : Int) } := by unfold sto; rw [if_neg (by decide), if_neg (by decide), if_neg (by decide)]
theorem sto_size (v : Tx) (d : Dir) : sto sizeK v d = { d with size := (((size? v).getD 0 : Nat) : Int) } := by unfold sto; rw [if_neg (by decide), if_neg (by decide), if_neg (by decide)]
theorem okv_cap (v : Tx) : okv capK v = decide (0 < (size? v).getD 0) := by unfold okv; rw [if_pos (.inl rfl)]
theorem okv_siz (v : Tx) : okv sizeK v = decide (0 < (size? v).getD 0) := by unfold okv; rw [if_pos (.inr rfl)]

/-- A closure that stores a field. -/
def StoT (bd : Nat) (key v : Tx) (d : Dir) (w : World) (e : Ending) (w' : World) : Prop :=
  e = .returned (.bool (okv key v)) ∧ But bd w w' ∧ DirB w' bd (sto key v d)

set_option maxRecDepth 100000 in
set_option maxHeartbeats 1600000 in
theorem sto_name_any (c bd : Nat) (d : Dir) (v : Tx) (hv : v.length ≤ 9223372036854775807) (w : World) (hp : PtrB w c bd) (hd : DirB w bd d) :
    Calls Tryz.prog 94 #[.string (str v), .pointer (some ⟨c, 0, none⟩)] w (StoT bd nameK v d w) := by
  have hc : w.cell? ⟨c, 0, none⟩ = some (.pointer (some ⟨bd, 0, none⟩)) := BoxA.cell hp 0 _ rfl
  have HD := Lib.hid hd
  have HV := Lib.hid hv
  clear hp hd hv
  go_enter Tryz.func94, Tryz.ntmps94
  go_wp2_with (go_at_call 95; refine (storeName_any bd 1 d.name v HV.out _ HD.out.cells.2.1 (BoxA.free HD.out 1) HD.out.lt).mono ?_; rintro e w1 ⟨rfl, w2, hb, hw⟩; have HB := Lib.hid hb; have HW := Lib.hid hw; clear hb hw)
  go_ret
  refine ⟨by rw [okv_name]; rfl, ?_, ?_⟩
  · rw [HW.out]
    split
    · exact (But.of_below HB.out).setCell _ _
    · exact But.of_below HB.out
  · rw [HW.out, sto_name]
    split
    · exact (HD.out.next HB.out).name v
    · exact HD.out.next HB.out
set_option maxRecDepth 100000 in
set_option maxHeartbeats 1600000 in
theorem sto_pool_any (c bd : Nat) (d : Dir) (v : Tx) (hv : v.length ≤ 9223372036854775807) (w : World) (hp : PtrB w c bd) (hd : DirB w bd d) :
    Calls Tryz.prog 96 #[.string (str v), .pointer (some ⟨c, 0, none⟩)] w (StoT bd poolK v d w) := by
  have hc : w.cell? ⟨c, 0, none⟩ = some (.pointer (some ⟨bd, 0, none⟩)) := BoxA.cell hp 0 _ rfl
  have HD := Lib.hid hd
  have HV := Lib.hid hv
  clear hp hd hv
  go_enter Tryz.func96, Tryz.ntmps96
  go_wp2_with (go_at_call 95; refine (storeName_any bd 2 d.pool v HV.out _ HD.out.cells.2.2.1 (BoxA.free HD.out 2) HD.out.lt).mono ?_; rintro e w1 ⟨rfl, w2, hb, hw⟩; have HB := Lib.hid hb; have HW := Lib.hid hw; clear hb hw)
  go_ret
  refine ⟨by rw [okv_pool]; rfl, ?_, ?_⟩
  · rw [HW.out]
    split
    · exact (But.of_below HB.out).setCell _ _
    · exact But.of_below HB.out
  · rw [HW.out, sto_pool]
    split
    · exact (HD.out.next HB.out).pool v
    · exact HD.out.next HB.out

set_option maxRecDepth 100000 in
set_option maxHeartbeats 1600000 in
theorem sto_size_any (c bd : Nat) (d : Dir) (v : Tx) (hv : v.length ≤ 140737488355328) (w : World) (hp : PtrB w c bd) (hd : DirB w bd d) (hL : LaidU w) :
    Calls Tryz.prog 92 #[.string (str v), .pointer (some ⟨c, 0, none⟩)] w (StoT bd capK v d w) := by
  have HP := Lib.hid hp
  have HD := Lib.hid hd
  have HV := Lib.hid hv
  have HL := Lib.hid hL
  obtain ⟨o, ho⟩ : ∃ o, size? v = o := ⟨_, rfl⟩
  have HO := Lib.hid ho
  clear hp hd hv hL ho
  cases o with
  | none =>
    go_enter Tryz.func92, Tryz.ntmps92
    go_wp2_with (go_at_call 93; refine (size_any v HV.out _ HL.out).mono ?_; rintro e w1 ⟨rfl, hb⟩; rw [HO.out, qv_none, qe_none]; have HB := Lib.hid hb; have hc : w1.cell? ⟨c, 0, none⟩ = some (.pointer (some ⟨bd, 0, none⟩)) := BoxA.cell (HP.out.next hb) 0 _ rfl; have hs := (HD.out.next hb).cells.2.2.2.1; have hf := BoxA.free (HD.out.next hb) 3; clear hb)
    go_ret
    refine ⟨by rw [okv_cap, HO.out]; rfl, (But.of_below HB.out).setCell _ _, ?_⟩
    rw [sto_cap, HO.out]
    exact (HD.out.next HB.out).size _
  | some n =>
    by_cases hn : n = 0
    · subst hn
      go_enter Tryz.func92, Tryz.ntmps92
      go_wp2_with (go_at_call 93; refine (size_any v HV.out _ HL.out).mono ?_; rintro e w1 ⟨rfl, hb⟩; rw [HO.out, qv_some, qe_some]; have HB := Lib.hid hb; have hc : w1.cell? ⟨c, 0, none⟩ = some (.pointer (some ⟨bd, 0, none⟩)) := BoxA.cell (HP.out.next hb) 0 _ rfl; have hs := (HD.out.next hb).cells.2.2.2.1; have hf := BoxA.free (HD.out.next hb) 3; clear hb)
      go_ret
      refine ⟨by rw [okv_cap, HO.out]; rfl, (But.of_below HB.out).setCell _ _, ?_⟩
      rw [sto_cap, HO.out]
      exact (HD.out.next HB.out).size _
    · have hn0 : decide (0 < (n : Int)) = true := decide_eq_true (by omega)
      have hn1 : 0 < n := by omega
      go_enter Tryz.func92, Tryz.ntmps92
      go_wp2_with (go_at_call 93; refine (size_any v HV.out _ HL.out).mono ?_; rintro e w1 ⟨rfl, hb⟩; rw [HO.out, qv_some, qe_some]; have HB := Lib.hid hb; have hc : w1.cell? ⟨c, 0, none⟩ = some (.pointer (some ⟨bd, 0, none⟩)) := BoxA.cell (HP.out.next hb) 0 _ rfl; have hs := (HD.out.next hb).cells.2.2.2.1; have hf := BoxA.free (HD.out.next hb) 3; clear hb)
      go_ret
      refine ⟨by rw [okv_cap, HO.out]; simp [hn1], (But.of_below HB.out).setCell _ _, ?_⟩
      rw [sto_cap, HO.out]
      exact (HD.out.next HB.out).size _

set_option maxRecDepth 100000 in
set_option maxHeartbeats 1600000 in
theorem sto_acc_any (c bd : Nat) (d : Dir) (v : Tx) (w : World) (hp : PtrB w c bd) (hd : DirB w bd d) :
    Calls Tryz.prog 97 #[.string (str v), .pointer (some ⟨c, 0, none⟩)] w (StoT bd accK v d w) := by
  have hc : w.cell? ⟨c, 0, none⟩ = some (.pointer (some ⟨bd, 0, none⟩)) := BoxA.cell hp 0 _ rfl
  have hs := hd.cells.2.2.2.2
  have hf := BoxA.free hd 4
  have HD := Lib.hid hd
  clear hp hd
  by_cases h1 : v = pubV
  · obtain ⟨q1, q2⟩ := lit_yes h1
    have HE := Lib.hid h1
    unfold pubV at q1 q2
    clear h1
    go_enter Tryz.func97, Tryz.ntmps97
    go_wp2
    go_ret
    refine ⟨by rw [okv_acc, HE.out]; rfl, (But.refl _ _).setCell _ _, ?_⟩
    rw [sto_acc, HE.out]
    exact HD.out.opn true
  · obtain ⟨q1, q2⟩ := lit_no h1
    have HE := Lib.hid (show (v == pubV) = false by rw [beq_eq_false_iff_ne]; exact h1)
    unfold pubV at q1 q2
    clear h1
    by_cases h2 : v = priV
    · obtain ⟨q3, q4⟩ := lit_yes h2
      have HF := Lib.hid (show (v == priV) = true by rw [h2]; decide)
      unfold priV at q3 q4
      clear h2
      go_enter Tryz.func97, Tryz.ntmps97
      go_wp2
      go_ret
      refine ⟨by rw [okv_acc, HE.out, HF.out]; rfl, (But.refl _ _).setCell _ _, ?_⟩
      rw [sto_acc, HE.out]
      exact HD.out.opn false
    · obtain ⟨q3, q4⟩ := lit_no h2
      have HF := Lib.hid (show (v == priV) = false by rw [beq_eq_false_iff_ne]; exact h2)
      unfold priV at q3 q4
      clear h2
      go_enter Tryz.func97, Tryz.ntmps97
      go_wp2
      go_ret
      refine ⟨by rw [okv_acc, HE.out, HF.out]; rfl, (But.refl _ _).setCell _ _, ?_⟩
      rw [sto_acc, HE.out]
      exact HD.out.opn false
end Go.Proofs.YtpmghgfgbkncoaaGreatDoor.gn
end
section
set_option linter.unusedVariables false
namespace Go.Proofs.YtpmghgfgbkncoaaGreatDoor.gn
open Go.RowKit
open Go.Proofs.YtpmghgfgbkncoaaGreatDoor.un
open Go.Proofs.YtpmghgfgbkncoaaGreatDoor.di

/-- A line that must be a directive's. -/
def isL (l : Tx) : Bool := decide (l = bbW) || ([35, 66, 66, 32] : Tx).isPrefixOf l
theorem prefix_any (l : Tx) (p : Tx) (w : World) : Calls Tryz.prog 67 #[.string (str l), .string (str p)] w fun e w' => e = .returned (.bool (p.isPrefixOf l)) ∧ w = w' := by
  refine (Any.strings_HasPrefix layHasPrefix (str l) (str p) w).mono ?_
  rintro e w' ⟨he, hw⟩
  have e1 : (str l).data.toList = l := by simp [str]
  have e2 : (str p).data.toList = p := by simp [str]
  rw [e1, e2] at he
  exact ⟨he, hw.symm⟩
set_option maxRecDepth 100000 in
theorem Is_any (l : Tx) (w : World) : Calls Tryz.prog 39 #[.string (str l)] w fun e w' => e = .returned (.bool (isL l)) ∧ w = w' := by
  by_cases h : l = bbW
  · have H := Lib.hid (show isL l = true by unfold isL; rw [decide_eq_true h]; rfl)
    obtain ⟨q, q2⟩ := lit_yes h
    unfold bbW at q q2
    clear h
    go_enter Tryz.func39, Tryz.ntmps39
    go_wp2
    go_ret
    exact ⟨by rw [H.out]; rfl, rfl⟩
  · have H := Lib.hid (show isL l = ([35, 66, 66, 32] : Tx).isPrefixOf l by unfold isL; rw [decide_eq_false h]; rfl)
    obtain ⟨q, q2⟩ := lit_no h
    unfold bbW at q q2
    clear h
    go_enter Tryz.func39, Tryz.ntmps39
    go_wp2_with (go_at_call 67; refine (prefix_any l [35, 66, 66, 32] _).mono ?_; rintro e w2 ⟨rfl, rfl⟩)
    go_ret
    exact ⟨by rw [H.out]; rfl, rfl⟩

/-- The words of the kinds, asked one after the other. -/
theorem kind_if (j : Tx) : kind? j = if j = kw 6 then some 6 else if j = kw 5 then some 5 else if j = kw 4 then some 4 else if j = kw 3 then some 3 else if j = kw 2 then some 2 else if j = kw 1 then some 1 else none := by
  by_cases h6 : j = kw 6
  · rw [if_pos h6, h6]; decide
  by_cases h5 : j = kw 5
  · rw [if_neg h6, if_pos h5, h5]; decide
  by_cases h4 : j = kw 4
  · rw [if_neg h6, if_neg h5, if_pos h4, h4]; decide
  by_cases h3 : j = kw 3
  · rw [if_neg h6, if_neg h5, if_neg h4, if_pos h3, h3]; decide
  by_cases h2 : j = kw 2
  · rw [if_neg h6, if_neg h5, if_neg h4, if_neg h3, if_pos h2, h2]; decide
  by_cases h1 : j = kw 1
  · rw [if_neg h6, if_neg h5, if_neg h4, if_neg h3, if_neg h2, if_pos h1, h1]; decide
  rw [if_neg h6, if_neg h5, if_neg h4, if_neg h3, if_neg h2, if_neg h1]
  cases hk : kind? j with
  | none => rfl
  | some k =>
    obtain ⟨e, hk⟩ := kind_some hk
    rcases six hk with rfl | rfl | rfl | rfl | rfl | rfl
    · exact absurd e h1
    · exact absurd e h2
    · exact absurd e h3
    · exact absurd e h4
    · exact absurd e h5
    · exact absurd e h6

/-- The map of the words. -/
structure RowsM (w : World) (B b : Nat) (L : List (Tx × Value)) (a : Nat → Nat) : Prop where
  m : MapV w b L
  get : ∀ j, fi.get j L = (kind? j).map fun k => rowV k (a k)
  flds : ∀ k, 1 ≤ k ∧ k ≤ 6 → Flds w (a k) (fldL k) ∧ B ≤ a k
  b : B ≤ b
theorem RowsM.next {w w' : World} {B b : Nat} {L : List (Tx × Value)} {a : Nat → Nat} (h : RowsM w B b L a) (hb : Below w.heap.size w w') : RowsM w' B b L a :=
  ⟨h.m.next hb, h.get, fun k hk => ⟨(h.flds k hk).1.next hb, (h.flds k hk).2⟩, h.b⟩

abbrev fc1 : Array Value := #[.string { data := #[99, 97, 112, 97, 99, 105, 116, 121] }, .bool false, .string { data := #[112, 111, 111, 108] }, .bool false]
abbrev fc2 : Array Value := #[.string { data := #[115, 105, 122, 101] }, .bool false]
abbrev fc3 : Array Value := #[.string { data := #[115, 105, 122, 101] }, .bool false]
abbrev fc4 : Array Value := #[.string { data := #[110, 97, 109, 101] }, .bool false, .string { data := #[99, 97, 112, 97, 99, 105, 116, 121] }, .bool false, .string { data := #[112, 111, 111, 108] }, .bool false, .string { data := #[97, 99, 99, 101, 115, 115] }, .bool true]
abbrev fc5 : Array Value := #[.string { data := #[110, 97, 109, 101] }, .bool false]
abbrev fc6 : Array Value := #[.string { data := #[110, 97, 109, 101] }, .bool false]
theorem flds_new1 (w : World) : Flds (w.alloc (.cells fc1 91)) w.heap.size (fldL 1) := by
  refine ⟨by simp, fun i f hf => ?_⟩
  match i, hf with
  | 0, hf => obtain rfl := (Option.some.inj hf).symm; exact ⟨World.cell?_alloc_mark .., World.cell?_alloc_mark ..⟩
  | 1, hf => obtain rfl := (Option.some.inj hf).symm; exact ⟨World.cell?_alloc_mark .., World.cell?_alloc_mark ..⟩
  | i + 2, hf => simp [fldL] at hf
theorem flds_new2 (w : World) : Flds (w.alloc (.cells fc2 91)) w.heap.size (fldL 2) := by
  refine ⟨by simp, fun i f hf => ?_⟩
  match i, hf with
  | 0, hf => obtain rfl := (Option.some.inj hf).symm; exact ⟨World.cell?_alloc_mark .., World.cell?_alloc_mark ..⟩
  | i + 1, hf => simp [fldL] at hf
theorem flds_new3 (w : World) : Flds (w.alloc (.cells fc3 91)) w.heap.size (fldL 3) := by
  refine ⟨by simp, fun i f hf => ?_⟩
  match i, hf with
  | 0, hf => obtain rfl := (Option.some.inj hf).symm; exact ⟨World.cell?_alloc_mark .., World.cell?_alloc_mark ..⟩
  | i + 1, hf => simp [fldL] at hf
theorem flds_new4 (w : World) : Flds (w.alloc (.cells fc4 91)) w.heap.size (fldL 4) := by
  refine ⟨by simp, fun i f hf => ?_⟩
  match i, hf with
  | 0, hf => obtain rfl := (Option.some.inj hf).symm; exact ⟨World.cell?_alloc_mark .., World.cell?_alloc_mark ..⟩
  | 1, hf => obtain rfl := (Option.some.inj hf).symm; exact ⟨World.cell?_alloc_mark .., World.cell?_alloc_mark ..⟩
  | 2, hf => obtain rfl := (Option.some.inj hf).symm; exact ⟨World.cell?_alloc_mark .., World.cell?_alloc_mark ..⟩
  | 3, hf => obtain rfl := (Option.some.inj hf).symm; exact ⟨World.cell?_alloc_mark .., World.cell?_alloc_mark ..⟩
  | i + 4, hf => simp [fldL] at hf
theorem flds_new5 (w : World) : Flds (w.alloc (.cells fc5 91)) w.heap.size (fldL 5) := by
  refine ⟨by simp, fun i f hf => ?_⟩
  match i, hf with
  | 0, hf => obtain rfl := (Option.some.inj hf).symm; exact ⟨World.cell?_alloc_mark .., World.cell?_alloc_mark ..⟩
  | i + 1, hf => simp [fldL] at hf
theorem flds_new6 (w : World) : Flds (w.alloc (.cells fc6 91)) w.heap.size (fldL 6) := by
  refine ⟨by simp, fun i f hf => ?_⟩
  match i, hf with
  | 0, hf => obtain rfl := (Option.some.inj hf).symm; exact ⟨World.cell?_alloc_mark .., World.cell?_alloc_mark ..⟩
  | i + 1, hf => simp [fldL] at hf

set_option maxRecDepth 100000 in
set_option maxHeartbeats 3200000 in
theorem rows_any (w : World) : Calls Tryz.prog 77 #[] w fun e w' => ∃ b L a, e = .returned (.map (some b)) ∧ RowsM w' w.heap.size b L a ∧ Below w.heap.size w w' := by
  have ht := Tryz.underlying117
  have m0 := MapV.new w
  have B0 : Below w.heap.size w (w.alloc (.map #[] 0)) := (Below.refl _ w).alloc (Nat.le_refl _) _
  have s0 : w.heap.size < (w.alloc (.map #[] 0)).heap.size := by simp
  have l0 : ([] : List (Tx × Value)).length ≤ 0 := Nat.le_refl _
  have e0 : (w.alloc (.map #[] 0)).heap.size = w.heap.size + 1 := by simp
  have y1 : Below (w.alloc (.map #[] 0)).heap.size (w.alloc (.map #[] 0)) ((w.alloc (.map #[] 0)).alloc (.cells fc1 91)) := (Below.refl _ _).alloc (Nat.le_refl _) _
  have x1 := MapV.next m0 y1
  obtain ⟨v1, L1, r1, m1, l1, q1, g1⟩ := x1.put2 l0 (k := kw 1) ht (by decide) (by decide) (rowV 1 (w.heap.size + 1))
  have f1 : Flds ((w.alloc (.map #[] 0)).alloc (.cells fc1 91)) (w.alloc (.map #[] 0)).heap.size (fldL 1) := flds_new1 _
  have B1 : Below w.heap.size w v1 := ((B0.trans (y1.mono (Nat.le_of_lt s0)))).grown g1 (Nat.le_of_lt (Nat.lt_of_lt_of_le s0 y1.size)) (fun j hj => by cases hj; exact Nat.le_refl _)
  have s1 : w.heap.size < v1.heap.size := Nat.lt_of_lt_of_le s0 (Nat.le_trans y1.size g1.size)
  have F1 := f1.but g1 (by omega)
  have u1 : (Instr.mapUpdate 117 (.map (some w.heap.size)) (.string { data := #[106, 111, 98, 100, 119] }) (.agg #[.int .u8 1, .slice (some ⟨(w.heap.size + 1), 0, none⟩) 2 2])).run Tryz.prog ((w.alloc (.map #[] 0)).alloc (.cells #[.string { data := #[99, 97, 112, 97, 99, 105, 116, 121] }, .bool false, .string { data := #[112, 111, 111, 108] }, .bool false] 91)) = .ok () v1 := r1
  have y2 : Below v1.heap.size v1 (v1.alloc (.cells fc2 91)) := (Below.refl _ _).alloc (Nat.le_refl _) _
  have x2 := MapV.next m1 y2
  obtain ⟨v2, L2, r2, m2, l2, q2, g2⟩ := x2.put2 l1 (k := kw 2) ht (by decide) (by decide) (rowV 2 v1.heap.size)
  have f2 : Flds (v1.alloc (.cells fc2 91)) v1.heap.size (fldL 2) := flds_new2 _
  have B2 : Below w.heap.size w v2 := ((B1.trans (y2.mono (Nat.le_of_lt s1)))).grown g2 (Nat.le_of_lt (Nat.lt_of_lt_of_le s1 y2.size)) (fun j hj => by cases hj; exact Nat.le_refl _)
  have s2 : w.heap.size < v2.heap.size := Nat.lt_of_lt_of_le s1 (Nat.le_trans y2.size g2.size)
  have F2 := f2.but g2 (by omega)
  have u2 : (Instr.mapUpdate 117 (.map (some w.heap.size)) (.string { data := #[115, 116, 97, 103, 101, 95, 105, 110] }) (.agg #[.int .u8 2, .slice (some ⟨v1.heap.size, 0, none⟩) 1 1])).run Tryz.prog (v1.alloc (.cells #[.string { data := #[115, 105, 122, 101] }, .bool false] 91)) = .ok () v2 := r2
  have y3 : Below v2.heap.size v2 (v2.alloc (.cells fc3 91)) := (Below.refl _ _).alloc (Nat.le_refl _) _
  have x3 := MapV.next m2 y3
  obtain ⟨v3, L3, r3, m3, l3, q3, g3⟩ := x3.put2 l2 (k := kw 3) ht (by decide) (by decide) (rowV 3 v2.heap.size)
  have f3 : Flds (v2.alloc (.cells fc3 91)) v2.heap.size (fldL 3) := flds_new3 _
  have B3 : Below w.heap.size w v3 := ((B2.trans (y3.mono (Nat.le_of_lt s2)))).grown g3 (Nat.le_of_lt (Nat.lt_of_lt_of_le s2 y3.size)) (fun j hj => by cases hj; exact Nat.le_refl _)
  have s3 : w.heap.size < v3.heap.size := Nat.lt_of_lt_of_le s2 (Nat.le_trans y3.size g3.size)
  have F3 := f3.but g3 (by omega)
  have u3 : (Instr.mapUpdate 117 (.map (some w.heap.size)) (.string { data := #[115, 116, 97, 103, 101, 95, 111, 117, 116] }) (.agg #[.int .u8 3, .slice (some ⟨v2.heap.size, 0, none⟩) 1 1])).run Tryz.prog (v2.alloc (.cells #[.string { data := #[115, 105, 122, 101] }, .bool false] 91)) = .ok () v3 := r3
  have y4 : Below v3.heap.size v3 (v3.alloc (.cells fc4 91)) := (Below.refl _ _).alloc (Nat.le_refl _) _
  have x4 := MapV.next m3 y4
  obtain ⟨v4, L4, r4, m4, l4, q4, g4⟩ := x4.put2 l3 (k := kw 4) ht (by decide) (by decide) (rowV 4 v3.heap.size)
  have f4 : Flds (v3.alloc (.cells fc4 91)) v3.heap.size (fldL 4) := flds_new4 _
  have B4 : Below w.heap.size w v4 := ((B3.trans (y4.mono (Nat.le_of_lt s3)))).grown g4 (Nat.le_of_lt (Nat.lt_of_lt_of_le s3 y4.size)) (fun j hj => by cases hj; exact Nat.le_refl _)
  have s4 : w.heap.size < v4.heap.size := Nat.lt_of_lt_of_le s3 (Nat.le_trans y4.size g4.size)
  have F4 := f4.but g4 (by omega)
  have u4 : (Instr.mapUpdate 117 (.map (some w.heap.size)) (.string { data := #[99, 114, 101, 97, 116, 101, 95, 112, 101, 114, 115, 105, 115, 116, 101, 110, 116] }) (.agg #[.int .u8 4, .slice (some ⟨v3.heap.size, 0, none⟩) 4 4])).run Tryz.prog (v3.alloc (.cells #[.string { data := #[110, 97, 109, 101] }, .bool false, .string { data := #[99, 97, 112, 97, 99, 105, 116, 121] }, .bool false, .string { data := #[112, 111, 111, 108] }, .bool false, .string { data := #[97, 99, 99, 101, 115, 115] }, .bool true] 91)) = .ok () v4 := r4
  have y5 : Below v4.heap.size v4 (v4.alloc (.cells fc5 91)) := (Below.refl _ _).alloc (Nat.le_refl _) _
  have x5 := MapV.next m4 y5
  obtain ⟨v5, L5, r5, m5, l5, q5, g5⟩ := x5.put2 l4 (k := kw 5) ht (by decide) (by decide) (rowV 5 v4.heap.size)
  have f5 : Flds (v4.alloc (.cells fc5 91)) v4.heap.size (fldL 5) := flds_new5 _
  have B5 : Below w.heap.size w v5 := ((B4.trans (y5.mono (Nat.le_of_lt s4)))).grown g5 (Nat.le_of_lt (Nat.lt_of_lt_of_le s4 y5.size)) (fun j hj => by cases hj; exact Nat.le_refl _)
  have s5 : w.heap.size < v5.heap.size := Nat.lt_of_lt_of_le s4 (Nat.le_trans y5.size g5.size)
  have F5 := f5.but g5 (by omega)
  have u5 : (Instr.mapUpdate 117 (.map (some w.heap.size)) (.string { data := #[100, 101, 115, 116, 114, 111, 121, 95, 112, 101, 114, 115, 105, 115, 116, 101, 110, 116] }) (.agg #[.int .u8 5, .slice (some ⟨v4.heap.size, 0, none⟩) 1 1])).run Tryz.prog (v4.alloc (.cells #[.string { data := #[110, 97, 109, 101] }, .bool false] 91)) = .ok () v5 := r5
  have y6 : Below v5.heap.size v5 (v5.alloc (.cells fc6 91)) := (Below.refl _ _).alloc (Nat.le_refl _) _
  have x6 := MapV.next m5 y6
  obtain ⟨v6, L6, r6, m6, l6, q6, g6⟩ := x6.put2 l5 (k := kw 6) ht (by decide) (by decide) (rowV 6 v5.heap.size)
  have f6 : Flds (v5.alloc (.cells fc6 91)) v5.heap.size (fldL 6) := flds_new6 _
  have B6 : Below w.heap.size w v6 := ((B5.trans (y6.mono (Nat.le_of_lt s5)))).grown g6 (Nat.le_of_lt (Nat.lt_of_lt_of_le s5 y6.size)) (fun j hj => by cases hj; exact Nat.le_refl _)
  have s6 : w.heap.size < v6.heap.size := Nat.lt_of_lt_of_le s5 (Nat.le_trans y6.size g6.size)
  have F6 := f6.but g6 (by omega)
  have u6 : (Instr.mapUpdate 117 (.map (some w.heap.size)) (.string { data := #[117, 115, 101, 95, 112, 101, 114, 115, 105, 115, 116, 101, 110, 116] }) (.agg #[.int .u8 6, .slice (some ⟨v5.heap.size, 0, none⟩) 1 1])).run Tryz.prog (v5.alloc (.cells #[.string { data := #[110, 97, 109, 101] }, .bool false] 91)) = .ok () v6 := r6
  rw [e0] at F1
  have HB := Lib.hid B6
  have F1 := (F1.next y2).but g2 (by first | omega | (have := s1; omega))
  have F1 := (F1.next y3).but g3 (by first | omega | (have := s1; omega))
  have F1 := (F1.next y4).but g4 (by first | omega | (have := s1; omega))
  have F1 := (F1.next y5).but g5 (by first | omega | (have := s1; omega))
  have F1 := (F1.next y6).but g6 (by first | omega | (have := s1; omega))
  have F2 := (F2.next y3).but g3 (by first | omega | (have := s2; omega))
  have F2 := (F2.next y4).but g4 (by first | omega | (have := s2; omega))
  have F2 := (F2.next y5).but g5 (by first | omega | (have := s2; omega))
  have F2 := (F2.next y6).but g6 (by first | omega | (have := s2; omega))
  have F3 := (F3.next y4).but g4 (by first | omega | (have := s3; omega))
  have F3 := (F3.next y5).but g5 (by first | omega | (have := s3; omega))
  have F3 := (F3.next y6).but g6 (by first | omega | (have := s3; omega))
  have F4 := (F4.next y5).but g5 (by first | omega | (have := s4; omega))
  have F4 := (F4.next y6).but g6 (by first | omega | (have := s4; omega))
  have F5 := (F5.next y6).but g6 (by first | omega | (have := s5; omega))
  have HR := Lib.hid (show RowsM v6 w.heap.size w.heap.size L6 (fun k => if k = 1 then w.heap.size + 1 else if k = 2 then v1.heap.size else if k = 3 then v2.heap.size else if k = 4 then v3.heap.size else if k = 5 then v4.heap.size else v5.heap.size) from by
    refine ⟨m6, fun j => ?_, fun k hk => ?_, Nat.le_refl _⟩
    · rw [q6, q5, q4, q3, q2, q1, kind_if]
      by_cases c6 : j = kw 6
      · rw [if_pos c6, if_pos c6]; rfl
      by_cases c5 : j = kw 5
      · rw [if_neg c6, if_pos c5, if_neg c6, if_pos c5]; rfl
      by_cases c4 : j = kw 4
      · rw [if_neg c6, if_neg c5, if_pos c4, if_neg c6, if_neg c5, if_pos c4]; rfl
      by_cases c3 : j = kw 3
      · rw [if_neg c6, if_neg c5, if_neg c4, if_pos c3, if_neg c6, if_neg c5, if_neg c4, if_pos c3]; rfl
      by_cases c2 : j = kw 2
      · rw [if_neg c6, if_neg c5, if_neg c4, if_neg c3, if_pos c2, if_neg c6, if_neg c5, if_neg c4, if_neg c3, if_pos c2]; rfl
      by_cases c1 : j = kw 1
      · rw [if_neg c6, if_neg c5, if_neg c4, if_neg c3, if_neg c2, if_pos c1, if_neg c6, if_neg c5, if_neg c4, if_neg c3, if_neg c2, if_pos c1]; rfl
      rw [if_neg c6, if_neg c5, if_neg c4, if_neg c3, if_neg c2, if_neg c1, if_neg c6, if_neg c5, if_neg c4, if_neg c3, if_neg c2, if_neg c1]; rfl
    · rcases six hk with rfl | rfl | rfl | rfl | rfl | rfl
      · exact ⟨F1, by show w.heap.size ≤ w.heap.size + 1; omega⟩
      · exact ⟨F2, Nat.le_of_lt s1⟩
      · exact ⟨F3, Nat.le_of_lt s2⟩
      · exact ⟨F4, Nat.le_of_lt s3⟩
      · exact ⟨F5, Nat.le_of_lt s4⟩
      · exact ⟨F6, Nat.le_of_lt s5⟩)
  have hmm := @run_makeMap Tryz.prog
  clear m0 B0 s0 l0 e0 y1 x1 r1 m1 l1 q1 g1 f1 B1 s1 F1 y2 x2 r2 m2 l2 q2 g2 f2 B2 s2 F2 y3 x3 r3 m3 l3 q3 g3 f3 B3 s3 F3 y4 x4 r4 m4 l4 q4 g4 f4 B4 s4 F4 y5 x5 r5 m5 l5 q5 g5 f5 B5 s5 F5 y6 x6 r6 m6 l6 q6 g6 f6 B6 s6 F6
  go_enter Tryz.func77, Tryz.ntmps77
  go_wp2
  go_ret
  exact ⟨_, _, _, rfl, HR.out, HB.out⟩
end Go.Proofs.YtpmghgfgbkncoaaGreatDoor.gn
end
section
set_option linter.unusedVariables false
namespace Go.Proofs.YtpmghgfgbkncoaaGreatDoor.gn
open Go.RowKit
open Go.Proofs.YtpmghgfgbkncoaaGreatDoor.un
open Go.Proofs.YtpmghgfgbkncoaaGreatDoor.di

theorem has_isSome (L : List (Tx × Value)) (j : Tx) : Maps.has (datV L) (.string j) = (fi.get j L).isSome := datV_has j L
theorem same_str (j k : Tx) : (Lit.string j).sameKey (.string k) = decide (j = k) := by
  show (j == k) = _
  rw [Bool.eq_iff_iff, beq_iff_eq, decide_eq_true_eq]

theorem kw_inj {k q : Nat} (hk : 1 ≤ k ∧ k ≤ 6) (hq : 1 ≤ q ∧ q ≤ 6) (h : kw k = kw q) : k = q := by
  have h1 := kind_kw hk
  rw [h, kind_kw hq] at h1
  exact (Option.some.inj h1).symm
/-- What find tells of a kind that there is. -/
def FindT (k : Nat) (w : World) (e : Ending) (w' : World) : Prop :=
  ∃ a, e = .returned (.tuple #[.string (str (kw k)), .slice (some ⟨a, 0, none⟩) (fldL k).length (fldL k).length, .bool true]) ∧ Flds w' a (fldL k) ∧ w.heap.size ≤ a ∧ Below w.heap.size w w'

set_option maxRecDepth 100000 in
set_option maxHeartbeats 3200000 in
theorem kfind_yes (k : Nat) (hk : 1 ≤ k ∧ k ≤ 6) (w : World) : Calls Tryz.prog 54 #[.int .u8 (k : Nat)] w (FindT k w) := by
  have HK := Lib.hid hk
  have hk6 : k ≤ 6 := hk.2
  clear hk
  go_enter Tryz.func54, Tryz.ntmps54
  go_wp2_with (first
    | (go_at_call 77; refine (rows_any _).mono ?_; rintro e w1 ⟨b, L, a, rfl, hr, hb⟩; have HR := Lib.hid hr; have HB := Lib.hid hb; clear hr hb)
    | (at_range; refine wpList_range_map _ rfl _ 117 _ rfl Tryz.underlying117 b L rfl HR.out.m ?_; intro w2 hrg hb2 hs2; have HRG := Lib.hid hrg; have HB2 := Lib.hid hb2; clear hrg hb2))
  have HB3 := Lib.hid (HB.out.trans (HB2.out.mono HB.out.size))
  have HL := Lib.hid (show Maps.has (datV L) (.string (kw k)) = true by rw [has_isSome, HR.out.get, kind_kw HK.out]; rfl)
  go_frame
  go_loopw [9] (fun _ wr => ∃ left cnt, Aside (RngV wr b w1.heap.size L left cnt) ∧ Aside (left (.string (kw k)) = true) ∧ Aside (Below w.heap.size w wr) ∧ Aside (Below w1.heap.size w1 wr)) (fun _ wr => wr.rangeLeft b w1.heap.size)
  case atStart => exact ⟨_, _, HRG.out, HL.out, HB3.out, HB2.out⟩
  case round =>
    obtain ⟨left, cnt, hrg, hlf, hbw, hbw1⟩ := hrel
    go_wp2_with (at_next; refine wpList_next_map _ rfl _ rfl b w1.heap.size L left cnt rfl hrg ?_ ?_)
    · intro hc0 hl0
      have : left (.string (kw k)) = true := hlf
      rw [hl0] at this
      cases this
    · intro j v w4 cnt4 hg hlj hrg4 hlt hbt hs4 hen
      have hgj := HR.out.get j
      rw [hg] at hgj
      obtain ⟨q, hq, hv⟩ := Option.map_eq_some_iff.1 hgj.symm
      subst hv
      obtain ⟨hj, hq6⟩ := kind_some hq
      subst hj
      have HF := Lib.hid (HR.out.flds q hq6)
      have HQ := Lib.hid hq6
      have HG4 := Lib.hid hrg4
      have HLT := Lib.hid hlt
      have HBT := Lib.hid hbt
      have hq66 : q ≤ 6 := hq6.2
      have HB4 := Lib.hid (show Below w.heap.size w w4 from (show Below w.heap.size w wr from hbw).grown hbt (show Below w.heap.size w wr from hbw).size (fun i hi => by cases hi; exact HB.out.size))
      have HB41 := Lib.hid (show Below w1.heap.size w1 w4 from (show Below w1.heap.size w1 wr from hbw1).grown hbt (show Below w1.heap.size w1 wr from hbw1).size (fun i hi => by cases hi; exact Nat.le_refl _))
      have HRG0 := Lib.hid (show RngV wr b w1.heap.size L left cnt from hrg)
      have HLF := Lib.hid (show left (.string (kw k)) = true from hlf)
      unfold rowV at hen
      clear hg hgj hq hrg4 hlt hbt hbw hbw1 hrg hlf hlj hq6
      by_cases hqk : q = k
      · subst hqk
        go_wp2_with (go_quiet (fail))
        go_ret3
        refine ⟨a q, rfl, ?_, HF.out.2, ?_⟩
        · exact HF.out.1.next ((HB41.out.alloc HB41.out.size _).trans (Joins.below_draws _ _ _))
        · exact (HB4.out.alloc HB4.out.size _).trans (Joins.below_draws _ _ _)
      · have hne : (((q : Nat) : Int) == ((k : Nat) : Int)) = false := by rw [beq_eq_false_iff_ne]; omega
        have HNE := Lib.hid hqk
        generalize (fldL q).length = n at *
        clear hqk
        go_wp2
        go_roundw
        case rel =>
          have hy : Below w4.heap.size w4 (w4.alloc (.cells #[.int .u8 (q : Nat), .slice (some ⟨a q, 0, none⟩) n n] 120)) := (Below.refl _ _).alloc (Nat.le_refl _) _
          refine ⟨_, cnt4, HG4.out.next hy, ?_, HB4.out.trans (hy.mono HB4.out.size), HB41.out.trans (hy.mono HB41.out.size)⟩
          show (left (.string (kw k)) && !(Lit.string (kw k)).sameKey (.string (kw q))) = true
          rw [HLF.out, same_str, decide_eq_false (fun e => HNE.out (kw_inj HK.out HQ.out e).symm)]
          rfl
        case measure =>
          have hy : Below w4.heap.size w4 (w4.alloc (.cells #[.int .u8 (q : Nat), .slice (some ⟨a q, 0, none⟩) n n] 120)) := (Below.refl _ _).alloc (Nat.le_refl _) _
          rw [(HG4.out.next hy).left_eq, HRG0.out.left_eq]
          exact HLT.out
set_option maxRecDepth 100000 in
set_option maxHeartbeats 3200000 in
theorem kfind_no (k : Nat) (hk : ¬ (1 ≤ k ∧ k ≤ 6)) (w : World) : Calls Tryz.prog 54 #[.int .u8 (k : Nat)] w (Told (.tuple #[.string (str []), .slice none 0 0, .bool false]) w) := by
  have HK := Lib.hid hk
  clear hk
  go_enter Tryz.func54, Tryz.ntmps54
  go_wp2_with (first
    | (go_at_call 77; refine (rows_any _).mono ?_; rintro e w1 ⟨b, L, a, rfl, hr, hb⟩; have HR := Lib.hid hr; have HB := Lib.hid hb; clear hr hb)
    | (at_range; refine wpList_range_map _ rfl _ 117 _ rfl Tryz.underlying117 b L rfl HR.out.m ?_; intro w2 hrg hb2 hs2; have HRG := Lib.hid hrg; have HB2 := Lib.hid hb2; clear hrg hb2))
  have HB3 := Lib.hid (HB.out.trans (HB2.out.mono HB.out.size))
  go_frame
  go_loopw [9] (fun _ wr => ∃ left cnt, Aside (RngV wr b w1.heap.size L left cnt) ∧ Aside (Below w.heap.size w wr) ∧ Aside (Below w1.heap.size w1 wr)) (fun _ wr => wr.rangeLeft b w1.heap.size)
  case atStart => exact ⟨_, _, HRG.out, HB3.out, HB2.out⟩
  case round =>
    obtain ⟨left, cnt, hrg, hbw, hbw1⟩ := hrel
    go_wp2_with (at_next; refine wpList_next_map _ rfl _ rfl b w1.heap.size L left cnt rfl hrg ?_ ?_)
    · intro hc0 hl0
      have HBW := Lib.hid (show Below w.heap.size w wr from hbw)
      clear hbw hbw1 hrg
      go_wp2
      go_ret3
      exact ⟨rfl, HBW.out⟩
    · intro j v w4 cnt4 hg hlj hrg4 hlt hbt hs4 hen
      have hgj := HR.out.get j
      rw [hg] at hgj
      obtain ⟨q, hq, hv⟩ := Option.map_eq_some_iff.1 hgj.symm
      subst hv
      obtain ⟨hj, hq6⟩ := kind_some hq
      subst hj
      have HF := Lib.hid (HR.out.flds q hq6)
      have HQ := Lib.hid hq6
      have HG4 := Lib.hid hrg4
      have HLT := Lib.hid hlt
      have HBT := Lib.hid hbt
      have hq66 : q ≤ 6 := hq6.2
      have HB4 := Lib.hid (show Below w.heap.size w w4 from (show Below w.heap.size w wr from hbw).grown hbt (show Below w.heap.size w wr from hbw).size (fun i hi => by cases hi; exact HB.out.size))
      have HB41 := Lib.hid (show Below w1.heap.size w1 w4 from (show Below w1.heap.size w1 wr from hbw1).grown hbt (show Below w1.heap.size w1 wr from hbw1).size (fun i hi => by cases hi; exact Nat.le_refl _))
      have HRG0 := Lib.hid (show RngV wr b w1.heap.size L left cnt from hrg)
      unfold rowV at hen
      clear hg hgj hq hrg4 hlt hbt hbw hbw1 hrg hlj hq6
      · have hne : (((q : Nat) : Int) == ((k : Nat) : Int)) = false := by
          have := HQ.out; have := HK.out
          rw [beq_eq_false_iff_ne]; omega
        generalize (fldL q).length = n at *
        go_wp2
        go_roundw
        case rel =>
          have hy : Below w4.heap.size w4 (w4.alloc (.cells #[.int .u8 (q : Nat), .slice (some ⟨a q, 0, none⟩) n n] 120)) := (Below.refl _ _).alloc (Nat.le_refl _) _
          refine ⟨_, cnt4, HG4.out.next hy, HB4.out.trans (hy.mono HB4.out.size), HB41.out.trans (hy.mono HB41.out.size)⟩
        case measure =>
          have hy : Below w4.heap.size w4 (w4.alloc (.cells #[.int .u8 (q : Nat), .slice (some ⟨a q, 0, none⟩) n n] 120)) := (Below.refl _ _).alloc (Nat.le_refl _) _
          rw [(HG4.out.next hy).left_eq, HRG0.out.left_eq]
          exact HLT.out
end Go.Proofs.YtpmghgfgbkncoaaGreatDoor.gn
end
section
set_option linter.unusedVariables false
namespace Go.Proofs.YtpmghgfgbkncoaaGreatDoor.gn
open Go.RowKit
open Go.Proofs.YtpmghgfgbkncoaaGreatDoor.un
open Go.Proofs.YtpmghgfgbkncoaaGreatDoor.di

/-- Is a field left out? -/
def omi (f : Tx × Bool) (v : Tx) : Bool := f.2 && decide (v = [])
theorem omi_iff (f : Tx × Bool) (v : Tx) : omi f v = true ↔ f.2 = true ∧ v = [] := by
  unfold omi
  simp
set_option maxRecDepth 100000 in
theorem omitted_any (key : Tx) (o : Bool) (v : Tx) (w : World) : Calls Tryz.prog 56 #[.agg #[.string (str key), .bool o], .string (str v)] w (Told (.bool (omi (key, o) v)) w) := by
  have HB := Lib.hid (show Below w.heap.size w (w.alloc (.cells #[.string (str key), .bool o] 91)) from (Below.refl _ _).alloc (Nat.le_refl _) _)
  cases o with
  | false =>
    go_enter Tryz.func56, Tryz.ntmps56
    go_wp2
    go_ret
    exact ⟨rfl, HB.out⟩
  | true =>
    have H := Lib.hid (show omi (key, true) v = decide (v = []) from rfl)
    by_cases h : v = []
    · obtain ⟨q, q2⟩ := lit_yes h
      rw [decide_eq_true h] at H
      clear h
      go_enter Tryz.func56, Tryz.ntmps56
      go_wp2
      go_ret
      exact ⟨by rw [H.out]; rfl, HB.out⟩
    · obtain ⟨q, q2⟩ := lit_no h
      rw [decide_eq_false h] at H
      clear h
      go_enter Tryz.func56, Tryz.ntmps56
      go_wp2
      go_ret
      exact ⟨by rw [H.out]; rfl, HB.out⟩

theorem val_name (d : Dir) : val d nameK = d.name := by unfold val; rw [if_pos rfl]
theorem val_pool (d : Dir) : val d poolK = d.pool := by unfold val; rw [if_neg (by decide), if_pos rfl]
theorem val_acc (d : Dir) : val d accK = if d.opn = true then pubV else [] := by unfold val; rw [if_neg (by decide), if_neg (by decide), if_pos rfl]
theorem val_size (d : Dir) {key : Tx} (h : key = capK ∨ key = sizeK) : val d key = stxt d.size := by
  rcases h with rfl | rfl
  · unfold val; rw [if_neg (by decide), if_neg (by decide), if_neg (by decide)]
  · unfold val; rw [if_neg (by decide), if_neg (by decide), if_neg (by decide)]

set_option maxRecDepth 100000 in
set_option maxHeartbeats 1600000 in
theorem value_any (d : Dir) (h0 : -9223372036854775808 ≤ d.size) (h1 : d.size ≤ 9223372036854775807) (key : Tx) (w : World) (hL : LaidU w) :
    Calls Tryz.prog 55 #[dV d, .string (str key)] w (Told (.string (str (val d key))) w) := by
  have hb : Below w.heap.size w (w.alloc (.cells (dcs d) 51)) := (Below.refl _ _).alloc (Nat.le_refl _) _
  have HB := Lib.hid hb
  have HL := Lib.hid (hL.next hb)
  have hV : dV d = .agg #[.int .u8 (d.kind : Nat), .string (str d.name), .string (str d.pool), .int .i64 d.size, .bool d.opn] := rfl
  rw [hV]
  unfold dcs at HB HL
  obtain ⟨k, n, p, z, o⟩ := d
  dsimp only at h0 h1 HB HL ⊢
  by_cases e1 : key = nameK
  · have HV := Lib.hid (show val ⟨k, n, p, z, o⟩ key = n by rw [e1]; exact val_name _)
    obtain ⟨q1, q2⟩ := lit_yes e1
    unfold nameK at q1 q2
    clear hL hb hV h0 h1 e1
    go_enter Tryz.func55, Tryz.ntmps55
    go_wp2
    go_ret
    exact ⟨by rw [HV.out]; rfl, HB.out⟩
  · obtain ⟨q1, q2⟩ := lit_no e1
    unfold nameK at q1 q2
    by_cases e2 : key = poolK
    · have HV := Lib.hid (show val ⟨k, n, p, z, o⟩ key = p by rw [e2]; exact val_pool _)
      obtain ⟨q3, q4⟩ := lit_yes e2
      unfold poolK at q3 q4
      clear hL hb hV h0 h1 e1 e2
      go_enter Tryz.func55, Tryz.ntmps55
      go_wp2
      go_ret
      exact ⟨by rw [HV.out]; rfl, HB.out⟩
    · obtain ⟨q3, q4⟩ := lit_no e2
      unfold poolK at q3 q4
      by_cases e3 : key = accK
      · have HV := Lib.hid (show val ⟨k, n, p, z, o⟩ key = if o = true then pubV else [] by rw [e3]; exact val_acc _)
        obtain ⟨q5, q6⟩ := lit_yes e3
        unfold accK at q5 q6
        clear hL hb hV h0 h1 e1 e2 e3
        cases o with
        | true =>
          go_enter Tryz.func55, Tryz.ntmps55
          go_wp2
          go_ret
          exact ⟨by rw [HV.out]; rfl, HB.out⟩
        | false =>
          go_enter Tryz.func55, Tryz.ntmps55
          go_wp2
          go_ret
          exact ⟨by rw [HV.out]; rfl, HB.out⟩
      · obtain ⟨q5, q6⟩ := lit_no e3
        unfold accK at q5 q6
        have HV := Lib.hid (show val ⟨k, n, p, z, o⟩ key = stxt z by unfold val; rw [if_neg e1, if_neg e2, if_neg e3])
        clear hL hb hV e1 e2 e3
        go_enter Tryz.func55, Tryz.ntmps55
        go_wp2_with (go_at_call 78; refine (stext_any z h0 h1 _ HL.out).mono ?_; rintro e w2 ⟨rfl, hb2⟩; have HB2 := Lib.hid (HB.out.trans (hb2.mono HB.out.size)); clear hb2)
        go_ret
        exact ⟨by rw [HV.out]; rfl, HB2.out⟩
end Go.Proofs.YtpmghgfgbkncoaaGreatDoor.gn
end
