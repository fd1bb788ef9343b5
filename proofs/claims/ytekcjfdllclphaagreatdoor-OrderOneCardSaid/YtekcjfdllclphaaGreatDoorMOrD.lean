/- The closures of either, name, size that store a field. -/
import Derived.Test.YtekcjfdllclphaaGreatDoorMOrB
import Derived.Test.YtekcjfdllclphaaGreatDoorMSlP
import Derived.Test.YtekcjfdllclphaaGreatDoorMOrC
section
set_option linter.unusedVariables false
set_option linter.unusedSimpArgs false
namespace Go.Proofs.YtekcjfdllclphaaGreatDoor.gn
open Go.RowKit
open Go.Proofs.YtekcjfdllclphaaGreatDoor.un
open Go.Proofs.YtekcjfdllclphaaGreatDoor.di
open Go.Proofs.YtekcjfdllclphaaGreatDoor.sp (Slip within? okW)
open Go.Proofs.YtekcjfdllclphaaGreatDoor.od (Ord okO stO numV sizV resK badW nK)

/-- The cells that the closure of two words has. -/
structure EithC (w : World) (c1 c2 c3 bo j : Nat) (yes no : Tx) : Prop where
  yes : BoxA w c1 9 #[.string (str yes)]
  pt : BoxA w c2 124 #[.pointer (some ⟨bo, j, none⟩)]
  no : BoxA w c3 9 #[.string (str no)]
theorem EithC.next {w w' : World} {c1 c2 c3 bo j : Nat} {yes no : Tx} (h : EithC w c1 c2 c3 bo j yes no) (hb : Below w.heap.size w w') : EithC w' c1 c2 c3 bo j yes no := ⟨h.yes.next hb, h.pt.next hb, h.no.next hb⟩
set_option maxRecDepth 100000 in
set_option maxHeartbeats 3200000 in
theorem either1_any (c1 c2 c3 bo j : Nat) (old : Bool) (yes no v : Tx) (w : World) (h : EithC w c1 c2 c3 bo j yes no) (hc : w.cell? ⟨bo, j, none⟩ = some (.bool old)) (hf : w.frozen? ⟨bo, j, none⟩ = false) (n1 : c1 ≠ bo) (n2 : c3 ≠ bo) :
    Calls Tryz.prog 115 #[.string (str v), .pointer (some ⟨c1, 0, none⟩), .pointer (some ⟨c2, 0, none⟩), .pointer (some ⟨c3, 0, none⟩)] w (PutT bo j (.bool (v == yes)) (v == yes || v == no) w) := by
  have k1 : w.cell? ⟨c1, 0, none⟩ = some (.string (str yes)) := h.yes.cell 0 _
  have k2 : w.cell? ⟨c2, 0, none⟩ = some (.pointer (some ⟨bo, j, none⟩)) := h.pt.cell 0 _
  have K1 := Lib.hid fun (u : Value) => (show (w.setCell ⟨bo, j, none⟩ u).cell? ⟨c1, 0, none⟩ = some (.string (str yes)) from BoxA.cell (h.yes.but ((But.refl bo w).setCell j u) n1) 0 _)
  have K3 := Lib.hid fun (u : Value) => (show (w.setCell ⟨bo, j, none⟩ u).cell? ⟨c3, 0, none⟩ = some (.string (str no)) from BoxA.cell (h.no.but ((But.refl bo w).setCell j u) n2) 0 _)
  have m1 : ¬ bo = c1 := fun e => n1 e.symm
  have m2 : ¬ bo = c3 := fun e => n2 e.symm
  clear h n1 n2
  by_cases h1 : v = yes
  · subst h1
    rw [show (v == v) = true by rw [beq_iff_eq]]
    go_enter Tryz.func115, Tryz.ntmps115
    go_upto_region 2 with fail
    have k4 := K1.out (.bool true)
    have k5 := K3.out (.bool true)
    go_wp2
    go_ret
    exact ⟨rfl, w, Below.refl _ _, rfl⟩
  · obtain ⟨q1, q2⟩ := (⟨by rw [eq_str]; exact decide_eq_false h1, fun h => h1 (by rw [str_toList, str_toList] at h; exact h)⟩ : ((str v).toList == (str yes).toList) = false ∧ ¬ (str v).toList = (str yes).toList)
    rw [show (v == yes) = false by rw [beq_eq_false_iff_ne]; exact h1]
    by_cases h2 : v = no
    · subst h2
      rw [show (v == v) = true by rw [beq_iff_eq]]
      clear h1
      go_enter Tryz.func115, Tryz.ntmps115
      go_upto_region 2 with fail
      have k4 := K1.out (.bool false)
      have k5 := K3.out (.bool false)
      go_wp2
      go_ret
      exact ⟨rfl, w, Below.refl _ _, rfl⟩
    · obtain ⟨q3, q4⟩ := (⟨by rw [eq_str]; exact decide_eq_false h2, fun h => h2 (by rw [str_toList, str_toList] at h; exact h)⟩ : ((str v).toList == (str no).toList) = false ∧ ¬ (str v).toList = (str no).toList)
      rw [show (v == no) = false by rw [beq_eq_false_iff_ne]; exact h2]
      clear h1 h2
      go_enter Tryz.func115, Tryz.ntmps115
      go_upto_region 2 with fail
      have k4 := K1.out (.bool false)
      have k5 := K3.out (.bool false)
      go_wp2
      go_ret
      exact ⟨rfl, w, Below.refl _ _, rfl⟩

theorem below_undrew2 {w w' : World} (h : Below w.heap.size w.drew w') : Below w.heap.size w w' := ⟨h.os, h.tape, h.output, h.size, h.block⟩
/-- The cell of the closure of a name, of a size. -/
def PtC (w : World) (c bo j : Nat) (t : TypeId) : Prop := BoxA w c t #[.pointer (some ⟨bo, j, none⟩)]
theorem PtC.next {w w' : World} {c bo j : Nat} {t : TypeId} (h : PtC w c bo j t) (hb : Below w.heap.size w w') : PtC w' c bo j t := BoxA.next h hb
set_option maxRecDepth 100000 in
set_option maxHeartbeats 3200000 in
theorem name1_any (c bo j : Nat) (old v : Tx) (hv : v.length ≤ 9223372036854775807) (w : World) (h : PtC w c bo j 126) (hc : w.cell? ⟨bo, j, none⟩ = some (.string (str old))) (hf : w.frozen? ⟨bo, j, none⟩ = false) (hlt : bo < w.heap.size) (n1 : c ≠ bo) :
    Calls Tryz.prog 116 #[.string (str v), .pointer (some ⟨c, 0, none⟩)] w (NameT bo j v w) := by
  have HP := Lib.hid fun (W : World) (hb : Below w.heap.size w W) => (show W.cell? ⟨c, 0, none⟩ = some (.pointer (some ⟨bo, j, none⟩)) from BoxA.cell (h.next hb) 0 _)
  cases hn : isName v with
  | false =>
    have HN := Lib.hid hn
    have HV := Lib.hid hv
    clear h hc hf hlt hn hv
    go_enter Tryz.func116, Tryz.ntmps116
    go_wp2_with (go_at_call 98; refine (name_all v HV.out _).mono ?_; rintro e w1 ⟨rfl, hb⟩; rw [HN.out]; have HB := Lib.hid hb; clear hb)
    go_ret
    exact ⟨by rw [HN.out]; rfl, w1, HB.out, by rw [HN.out]; rfl⟩
  | true =>
    have HN := Lib.hid hn
    have HV := Lib.hid hv
    have HL := Lib.hid (show (str v).size ≤ 281474976710656 by rw [str_size]; have := name_len hn; omega)
    have HC := Lib.hid fun (W : World) (hb : Below w.heap.size w W) => (Below.cell hb hlt).trans hc
    have HF := Lib.hid fun (W : World) (hb : Below w.heap.size w W) => (show W.frozen? ⟨bo, j, none⟩ = false by rw [← hf]; unfold World.frozen?; rw [hb.block bo hlt])
    have HS := Lib.hid fun (W : World) (hb : Below w.heap.size w W) => (show (W.setCell ⟨bo, j, none⟩ (.string (str v))).cell? ⟨c, 0, none⟩ = some (.pointer (some ⟨bo, j, none⟩)) from BoxA.cell (BoxA.but (h.next hb) ((But.refl bo W).setCell j _) n1) 0 _)
    clear h hc hf hn hv
    go_enter Tryz.func116, Tryz.ntmps116
    go_upto_region 3 with (go_at_call 98; refine (name_all v HV.out _).mono ?_; rintro e w1 ⟨rfl, hb⟩; rw [HN.out]; have HB := Lib.hid hb; clear hb)
    have k1 := HP.out _ HB.out
    go_region_held3 (fun W => W.cell? ⟨c, 0, none⟩ = some (.pointer (some ⟨bo, j, none⟩))) (first | exact HP.out _ HB2.out | exact k1 | exact HS.out _ HB2.out) (first | (go_at_call 117; ((with_reducible refine (clone_any (str v) _ HL.out).mono ?_); rintro e w2 ⟨rfl, hb2⟩); have HB2 := Lib.hid (HB.out.trans (Below.mono (below_undrew2 hb2) HB.out.size)); have hc2 := HC.out _ HB2.out; have hf2 := HF.out _ HB2.out; clear hb2))
    go_wp2
    go_ret
    exact ⟨by rw [HN.out]; rfl, w2, HB2.out, by rw [HN.out]; rfl⟩

def okSz (v : Tx) : Bool := decide (0 < (size? v).getD 0)
set_option maxRecDepth 100000 in
set_option maxHeartbeats 3200000 in
theorem size1_any (c bo j : Nat) (old : Int) (v : Tx) (hv : v.length ≤ 140737488355328) (w : World) (h : PtC w c bo j 122) (hc : w.cell? ⟨bo, j, none⟩ = some (.int .i64 old)) (hf : w.frozen? ⟨bo, j, none⟩ = false) (hlt : bo < w.heap.size) (hL : LaidU w) :
    Calls Tryz.prog 119 #[.string (str v), .pointer (some ⟨c, 0, none⟩)] w (PutT bo j (.int .i64 (sizV v)) (okSz v) w) := by
  have HP := Lib.hid fun (W : World) (hb : Below w.heap.size w W) => (show W.cell? ⟨c, 0, none⟩ = some (.pointer (some ⟨bo, j, none⟩)) from BoxA.cell (h.next hb) 0 _)
  have HC := Lib.hid fun (W : World) (hb : Below w.heap.size w W) => (Below.cell hb hlt).trans hc
  have HF := Lib.hid fun (W : World) (hb : Below w.heap.size w W) => (show W.frozen? ⟨bo, j, none⟩ = false by rw [← hf]; unfold World.frozen?; rw [hb.block bo hlt])
  have HU := Lib.hid (size_any v hv w hL)
  obtain ⟨x, hx⟩ : ∃ x, size? v = x := ⟨_, rfl⟩
  have HV := Lib.hid (show sizV v = qv x by unfold sizV qv; rw [hx])
  have HO := Lib.hid (show okSz v = decide (0 < x.getD 0) by unfold okSz; rw [hx])
  rw [HV.out]
  rw [hx] at HU
  clear h hc hf hlt hL hv hx
  cases x with
  | none =>
    go_enter Tryz.func119, Tryz.ntmps119
    go_wp2_with (go_at_call 120; ((with_reducible refine HU.out.mono ?_); rintro e w1 ⟨rfl, hb⟩); rw [qv_none, qe_none]; have HB := Lib.hid hb; have k1 := HP.out _ hb; have hc := HC.out _ hb; have hf := HF.out _ hb; clear hb)
    go_ret
    exact ⟨by rw [HO.out]; rfl, w1, HB.out, rfl⟩
  | some n =>
    go_enter Tryz.func119, Tryz.ntmps119
    go_wp2_with (go_at_call 120; ((with_reducible refine HU.out.mono ?_); rintro e w1 ⟨rfl, hb⟩); rw [qv_some, qe_some]; have HB := Lib.hid hb; have k1 := HP.out _ hb; have hc := HC.out _ hb; have hf := HF.out _ hb; clear hb)
    go_ret
    exact ⟨by rw [HO.out]; rfl, w1, HB.out, rfl⟩
end Go.Proofs.YtekcjfdllclphaaGreatDoor.gn
end
section
set_option linter.unusedVariables false
set_option linter.unusedSimpArgs false
namespace Go.Proofs.YtekcjfdllclphaaGreatDoor.gn
open Go.RowKit
open Go.Proofs.YtekcjfdllclphaaGreatDoor.un
open Go.Proofs.YtekcjfdllclphaaGreatDoor.di
open Go.Proofs.YtekcjfdllclphaaGreatDoor.sp (Slip within? okW)
open Go.Proofs.YtekcjfdllclphaaGreatDoor.od (Ord okO stO numV sizV resK badW nK)

theorem made2 (w : World) (a b : Array Value) (t u : TypeId) : ∃ W, (w.alloc (.cells a t)).alloc (.cells b u) = W ∧ BoxA W w.heap.size t a ∧ BoxA W (w.heap.size + 1) u b ∧ Below w.heap.size w W := by
  refine ⟨_, rfl, BoxA.next (BoxA.new w t a) ((Below.refl _ _).alloc (Nat.le_refl _) _), ?_, ((Below.refl _ w).alloc (Nat.le_refl _) _).alloc (by simp) _⟩
  have := BoxA.new (w.alloc (.cells a t)) u b
  rwa [World.size_alloc] at this
theorem made4 (w : World) (a b c d : Array Value) (t u v x : TypeId) : ∃ W, (((w.alloc (.cells a t)).alloc (.cells b u)).alloc (.cells c v)).alloc (.cells d x) = W ∧ BoxA W w.heap.size t a ∧ BoxA W (w.heap.size + 1) u b ∧ BoxA W (w.heap.size + 1 + 1) v c ∧ BoxA W (w.heap.size + 1 + 1 + 1) x d ∧ Below w.heap.size w W := by
  obtain ⟨W1, h1, b1, b2, l1⟩ := made2 w a b t u
  have hs : W1.heap.size = w.heap.size + 1 + 1 := by rw [← h1]; simp
  obtain ⟨W2, h2, b3, b4, l2⟩ := made2 W1 c d v x
  rw [hs] at b3 b4
  refine ⟨W2, by rw [← h2, ← h1], b1.next l2, b2.next l2, b3, b4, l1.trans (l2.mono (by omega))⟩

def FldT (K : ByteArray) (t : Tx) (fn : FuncId) (cp : Array Value) : Value := .agg #[.string K, .string (str t), .func (.func fn) #[] cp]
set_option maxRecDepth 100000 in
set_option maxHeartbeats 3200000 in
theorem number_fld (K : ByteArray) (bo j : Nat) (n a b : Int) (h0 : -9223372036854775808 ≤ n) (h1 : n ≤ 9223372036854775807) (w : World) (hc : w.cell? ⟨bo, j, none⟩ = some (.int .i64 n)) (hlt : bo < w.heap.size) (hL : LaidU w) :
    Calls Tryz.prog 80 #[.string K, .pointer (some ⟨bo, j, none⟩), .int .i64 a, .int .i64 b] w fun e w' => ∃ c, e = .returned (FldT K (txt n) 113 #[.pointer (some ⟨c, 0, none⟩), .pointer (some ⟨c + 1, 0, none⟩), .pointer (some ⟨c + 1 + 1, 0, none⟩)]) ∧ NumC w' c (c + 1) (c + 1 + 1) bo j a b ∧ w.heap.size ≤ c ∧ Below w.heap.size w w' := by
  obtain ⟨W, hW, b1, b2, b3, b4, l⟩ := made4 w #[.pointer (some ⟨bo, j, none⟩)] #[.int .i64 a] #[.int .i64 b] #[.string { data := #[] }, .string { data := #[] }, .nilFunc] 122 2 2 67
  have HW := Lib.hid hW
  have HB := Lib.hid (And.intro b1 (And.intro b2 (And.intro b3 b4)))
  have HL := Lib.hid l
  have HX := Lib.hid (text_any n h0 h1 W (hL.next l))
  have k1 := b1.cell 0 _
  have k2 : W.cell? ⟨bo, j, none⟩ = some (.int .i64 n) := (Below.cell l hlt).trans hc
  have hlt2 : bo < W.heap.size := Nat.lt_of_lt_of_le hlt l.size
  clear hW b1 b2 b3 b4 l hc hlt hL h0 h1
  go_enter Tryz.func80, Tryz.ntmps80
  go_upto_region 1 with fail
  rw [HW.out]
  go_wp2_with (first
    | (go_at_call 93; ((with_reducible refine HX.out.mono ?_); rintro e w2 ⟨rfl, hb⟩); have HB2 := Lib.hid hb; clear hb)
    | (refine wpList_store_row rfl _ _ _ rfl (w.heap.size + 1 + 1 + 1) #[.string K, .string (str (txt n)), .func (.func 113) #[] #[.pointer (some ⟨w.heap.size, 0, none⟩), .pointer (some ⟨w.heap.size + 1, 0, none⟩), .pointer (some ⟨w.heap.size + 1 + 1, 0, none⟩)]] rfl rfl _ _ (HB.out.2.2.2.next HB2.out) (by kernel_rfl) rfl (by kernel_rfl) ?_))
  refine bodyPost_ret (v := FldT K (txt n) 113 #[.pointer (some ⟨w.heap.size, 0, none⟩), .pointer (some ⟨w.heap.size + 1, 0, none⟩), .pointer (some ⟨w.heap.size + 1 + 1, 0, none⟩)]) (results_cell_row rfl _ _ _ _ _ _ _ rfl (setRow_heap _ _ _ _ _ _ (HB.out.2.2.2.next HB2.out)) Tryz.underlying67 rfl (by kernel_rfl)) rfl ⟨w.heap.size, rfl, ⟨(setRow_other _ _ _ _ (by omega)).trans (HB.out.1.next HB2.out), (setRow_other _ _ _ _ (by omega)).trans (HB.out.2.1.next HB2.out), (setRow_other _ _ _ _ (by omega)).trans (HB.out.2.2.1.next HB2.out)⟩, Nat.le_refl _, below_setRow (HL.out.trans (HB2.out.mono HL.out.size)) (by omega) _⟩
set_option maxRecDepth 100000 in
set_option maxHeartbeats 3200000 in
theorem size_fld (K : ByteArray) (bo j : Nat) (n : Int) (h0 : -9223372036854775808 ≤ n) (h1 : n ≤ 9223372036854775807) (w : World) (hc : w.cell? ⟨bo, j, none⟩ = some (.int .i64 n)) (hlt : bo < w.heap.size) (hL : LaidU w) :
    Calls Tryz.prog 92 #[.string K, .pointer (some ⟨bo, j, none⟩)] w fun e w' => ∃ c, e = .returned (FldT K (stxt n) 119 #[.pointer (some ⟨c, 0, none⟩)]) ∧ PtC w' c bo j 122 ∧ w.heap.size ≤ c ∧ Below w.heap.size w w' := by
  obtain ⟨W, hW, b1, b4, l⟩ := made2 w #[.pointer (some ⟨bo, j, none⟩)] #[.string { data := #[] }, .string { data := #[] }, .nilFunc] 122 67
  have HW := Lib.hid hW
  have HB := Lib.hid (And.intro b1 b4)
  have HL := Lib.hid l
  have HX := Lib.hid (stext_any n h0 h1 W (hL.next l))
  have k1 := b1.cell 0 _
  have k2 : W.cell? ⟨bo, j, none⟩ = some (.int .i64 n) := (Below.cell l hlt).trans hc
  have hlt2 : bo < W.heap.size := Nat.lt_of_lt_of_le hlt l.size
  clear hW b1 b4 l hc hlt hL h0 h1
  go_enter Tryz.func92, Tryz.ntmps92
  go_upto_region 1 with fail
  rw [HW.out]
  go_wp2_with (first
    | (go_at_call 118; ((with_reducible refine HX.out.mono ?_); rintro e w2 ⟨rfl, hb⟩); have HB2 := Lib.hid hb; clear hb)
    | (refine wpList_store_row rfl _ _ _ rfl (w.heap.size + 1) #[.string K, .string (str (stxt n)), .func (.func 119) #[] #[.pointer (some ⟨w.heap.size, 0, none⟩)]] rfl rfl _ _ (HB.out.2.next HB2.out) (by kernel_rfl) rfl (by kernel_rfl) ?_))
  refine bodyPost_ret (v := FldT K (stxt n) 119 #[.pointer (some ⟨w.heap.size, 0, none⟩)]) (results_cell_row rfl _ _ _ _ _ _ _ rfl (setRow_heap _ _ _ _ _ _ (HB.out.2.next HB2.out)) Tryz.underlying67 rfl (by kernel_rfl)) rfl ⟨w.heap.size, rfl, (setRow_other _ _ _ _ (by omega)).trans (BoxA.next HB.out.1 HB2.out), Nat.le_refl _, below_setRow (HL.out.trans (HB2.out.mono HL.out.size)) (by omega) _⟩
set_option maxRecDepth 100000 in
set_option maxHeartbeats 3200000 in
theorem name_fld (K : ByteArray) (bo j : Nat) (n : Tx) (w : World) (hc : w.cell? ⟨bo, j, none⟩ = some (.string (str n))) (hlt : bo < w.heap.size) :
    Calls Tryz.prog 88 #[.string K, .pointer (some ⟨bo, j, none⟩)] w fun e w' => ∃ c, e = .returned (FldT K n 116 #[.pointer (some ⟨c, 0, none⟩)]) ∧ PtC w' c bo j 126 ∧ w.heap.size ≤ c ∧ Below w.heap.size w w' := by
  obtain ⟨W, hW, b1, b4, l⟩ := made2 w #[.pointer (some ⟨bo, j, none⟩)] #[.string { data := #[] }, .string { data := #[] }, .nilFunc] 126 67
  have HW := Lib.hid hW
  have HB := Lib.hid (And.intro b1 b4)
  have HL := Lib.hid l
  have k1 := b1.cell 0 _
  have k2 : W.cell? ⟨bo, j, none⟩ = some (.string (str n)) := (Below.cell l hlt).trans hc
  have hlt2 : bo < W.heap.size := Nat.lt_of_lt_of_le hlt l.size
  clear hW b1 b4 l hc hlt
  go_enter Tryz.func88, Tryz.ntmps88
  go_upto_region 1 with fail
  rw [HW.out]
  go_wp2_with (refine wpList_store_row rfl _ _ _ rfl (w.heap.size + 1) #[.string K, .string (str n), .func (.func 116) #[] #[.pointer (some ⟨w.heap.size, 0, none⟩)]] rfl rfl _ _ HB.out.2 (by kernel_rfl) rfl (by kernel_rfl) ?_)
  refine bodyPost_ret (v := FldT K n 116 #[.pointer (some ⟨w.heap.size, 0, none⟩)]) (results_cell_row rfl _ _ _ _ _ _ _ rfl (setRow_heap _ _ _ _ _ _ HB.out.2) Tryz.underlying67 rfl (by kernel_rfl)) rfl ⟨w.heap.size, rfl, (setRow_other _ _ _ _ (by omega)).trans HB.out.1, Nat.le_refl _, below_setRow HL.out (by omega) _⟩
set_option maxRecDepth 100000 in
set_option maxHeartbeats 3200000 in
theorem either_fld (K Y N : ByteArray) (yes no : Tx) (hy : str yes = Y) (hn : str no = N) (bo j : Nat) (q : Bool) (w : World) (hc : w.cell? ⟨bo, j, none⟩ = some (.bool q)) (hlt : bo < w.heap.size) :
    Calls Tryz.prog 85 #[.string K, .pointer (some ⟨bo, j, none⟩), .string Y, .string N] w fun e w' => ∃ c, e = .returned (FldT K (if q then yes else no) 115 #[.pointer (some ⟨c + 1, 0, none⟩), .pointer (some ⟨c, 0, none⟩), .pointer (some ⟨c + 1 + 1, 0, none⟩)]) ∧ EithC w' (c + 1) c (c + 1 + 1) bo j yes no ∧ w.heap.size ≤ c ∧ Below w.heap.size w w' := by
  subst hy hn
  obtain ⟨W, hW, b1, b2, b3, b4, l⟩ := made4 w #[.pointer (some ⟨bo, j, none⟩)] #[.string (str yes)] #[.string (str no)] #[.string { data := #[] }, .string { data := #[] }, .nilFunc] 124 9 9 67
  have HW := Lib.hid hW
  have HB := Lib.hid (And.intro b1 (And.intro b2 (And.intro b3 b4)))
  have HL := Lib.hid l
  have k1 := b1.cell 0 _
  have k3 := b2.cell 0 _
  have k4 := b3.cell 0 _
  have hl3 := b3.lt
  have hl2 := b2.lt
  have k2 : W.cell? ⟨bo, j, none⟩ = some (.bool q) := (Below.cell l hlt).trans hc
  have hlt2 : bo < W.heap.size := Nat.lt_of_lt_of_le hlt l.size
  clear hW b1 b2 b3 b4 l hc hlt
  cases q with
  | true =>
    go_enter Tryz.func85, Tryz.ntmps85
    go_upto_region 1 with fail
    rw [HW.out]
    go_wp2_with (refine wpList_store_row rfl _ _ _ rfl (w.heap.size + 1 + 1 + 1) #[.string K, .string (str yes), .func (.func 115) #[] #[.pointer (some ⟨w.heap.size + 1, 0, none⟩), .pointer (some ⟨w.heap.size, 0, none⟩), .pointer (some ⟨w.heap.size + 1 + 1, 0, none⟩)]] rfl rfl _ _ HB.out.2.2.2 (by kernel_rfl) rfl (by kernel_rfl) ?_)
    refine bodyPost_ret (v := FldT K yes 115 #[.pointer (some ⟨w.heap.size + 1, 0, none⟩), .pointer (some ⟨w.heap.size, 0, none⟩), .pointer (some ⟨w.heap.size + 1 + 1, 0, none⟩)]) (results_cell_row rfl _ _ _ _ _ _ _ rfl (setRow_heap _ _ _ _ _ _ HB.out.2.2.2) Tryz.underlying67 rfl (by kernel_rfl)) rfl ⟨w.heap.size, rfl, ⟨(setRow_other _ _ _ _ (by omega)).trans HB.out.2.1, (setRow_other _ _ _ _ (by omega)).trans HB.out.1, (setRow_other _ _ _ _ (by omega)).trans HB.out.2.2.1⟩, Nat.le_refl _, below_setRow HL.out (by omega) _⟩
  | false =>
    go_enter Tryz.func85, Tryz.ntmps85
    go_upto_region 1 with fail
    rw [HW.out]
    go_wp2_with (refine wpList_store_row rfl _ _ _ rfl (w.heap.size + 1 + 1 + 1) #[.string K, .string (str no), .func (.func 115) #[] #[.pointer (some ⟨w.heap.size + 1, 0, none⟩), .pointer (some ⟨w.heap.size, 0, none⟩), .pointer (some ⟨w.heap.size + 1 + 1, 0, none⟩)]] rfl rfl _ _ HB.out.2.2.2 (by kernel_rfl) rfl (by kernel_rfl) ?_)
    refine bodyPost_ret (v := FldT K no 115 #[.pointer (some ⟨w.heap.size + 1, 0, none⟩), .pointer (some ⟨w.heap.size, 0, none⟩), .pointer (some ⟨w.heap.size + 1 + 1, 0, none⟩)]) (results_cell_row rfl _ _ _ _ _ _ _ rfl (setRow_heap _ _ _ _ _ _ HB.out.2.2.2) Tryz.underlying67 rfl (by kernel_rfl)) rfl ⟨w.heap.size, rfl, ⟨(setRow_other _ _ _ _ (by omega)).trans HB.out.2.1, (setRow_other _ _ _ _ (by omega)).trans HB.out.1, (setRow_other _ _ _ _ (by omega)).trans HB.out.2.2.1⟩, Nat.le_refl _, below_setRow HL.out (by omega) _⟩
end Go.Proofs.YtekcjfdllclphaaGreatDoor.gn
end
