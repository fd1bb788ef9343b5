/- Orders in memory: values, boxes; the closures that store a field, and number, either, name, size. -/
import Derived.Test.YtekcjfdllclphaaGreatDoorMOrS
import Derived.Test.YtekcjfdllclphaaGreatDoorMSlQ
import Derived.Test.YtekcjfdllclphaaGreatDoorMSlA
import Derived.Test.YtekcjfdllclphaaGreatDoorMDiE
import Derived.Test.YtekcjfdllclphaaGreatDoorMSlP
section
set_option linter.unusedVariables false
set_option linter.unusedSimpArgs false
namespace Go.Proofs.YtekcjfdllclphaaGreatDoor.gn
open Go.RowKit
open Go.Proofs.YtekcjfdllclphaaGreatDoor.un
open Go.Proofs.YtekcjfdllclphaaGreatDoor.di
open Go.Proofs.YtekcjfdllclphaaGreatDoor.sp (Slip within? okW)
open Go.Proofs.YtekcjfdllclphaaGreatDoor.od (Ord okO stO numV sizV resK badW nK)

def ocs (o : Ord) (g : Gh) : Array Value := #[.int .u8 (o.kind : Nat), .int .i64 o.job, .int .i64 o.n, .string (str o.name), .string (str o.pool), .string (str o.user), .int .i64 o.size, .bool o.yes, .string (str o.slip.user), .int .i64 o.slip.nodes, .int .i64 o.slip.wall, .int .i64 o.slip.qos, g.a, .int .i64 o.slip.cap, .int .i64 o.slip.inn, .int .i64 o.slip.out, .string (str o.slip.pool), g.m, g.d, g.u]
def oV (o : Ord) (g : Gh) : Value := .agg (ocs o g)
/-- An order in a box. -/
def OrdB (W : World) (b : Nat) (o : Ord) (g : Gh) : Prop := BoxA W b 29 (ocs o g)
theorem OrdB.next {w w' : World} {b : Nat} {o : Ord} {g : Gh} (h : OrdB w b o g) (hb : Below w.heap.size w w') : OrdB w' b o g := BoxA.next h hb
theorem OrdB.lt {w : World} {b : Nat} {o : Ord} {g : Gh} (h : OrdB w b o g) : b < w.heap.size := BoxA.lt h

/-! ### number -/
def okN (v : Tx) (a b : Nat) : Bool := (within? v a b).isSome
def okM (x : Option Nat) (a b : Nat) : Bool := match x with
  | some n => decide (a ≤ n ∧ n ≤ b)
  | none => false
theorem okN_M (v : Tx) (a b : Nat) : okN v a b = okM (num? v) a b := by
  unfold okN within? okM
  cases num? v with
  | none => rfl
  | some n =>
    dsimp only
    by_cases hq : a ≤ n ∧ n ≤ b
    · rw [if_pos hq, decide_eq_true hq]; rfl
    · rw [if_neg hq, decide_eq_false hq]; rfl
/-- The cells that a number's closure has. -/
structure NumC (w : World) (c1 c2 c3 bo j : Nat) (a b : Int) : Prop where
  pt : BoxA w c1 122 #[.pointer (some ⟨bo, j, none⟩)]
  lo : BoxA w c2 2 #[.int .i64 a]
  hi : BoxA w c3 2 #[.int .i64 b]
theorem NumC.next {w w' : World} {c1 c2 c3 bo j : Nat} {a b : Int} (h : NumC w c1 c2 c3 bo j a b) (hb : Below w.heap.size w w') : NumC w' c1 c2 c3 bo j a b := ⟨h.pt.next hb, h.lo.next hb, h.hi.next hb⟩
/-- A store into a cell of the order's box, behind what makes memory. -/
def PutT (bo j : Nat) (u : Value) (b : Bool) (w : World) (e : Ending) (w' : World) : Prop := e = .returned (.bool b) ∧ ∃ w1, Below w.heap.size w w1 ∧ w' = w1.setCell ⟨bo, j, none⟩ u
set_option maxRecDepth 100000 in
set_option maxHeartbeats 3200000 in
theorem number1_any (c1 c2 c3 bo j a b : Nat) (old : Int) (v : Tx) (hv : v.length ≤ 140737488355328) (ha : a ≤ 1099511627776) (hb : b ≤ 1099511627776) (w : World) (h : NumC w c1 c2 c3 bo j a b) (hc : w.cell? ⟨bo, j, none⟩ = some (.int .i64 old)) (hf : w.frozen? ⟨bo, j, none⟩ = false) (hlt : bo < w.heap.size) (n1 : c2 ≠ bo) (n2 : c3 ≠ bo) (hL : LaidU w) :
    Calls Tryz.prog 113 #[.string (str v), .pointer (some ⟨c1, 0, none⟩), .pointer (some ⟨c2, 0, none⟩), .pointer (some ⟨c3, 0, none⟩)] w (PutT bo j (.int .i64 (numV v)) (okN v a b) w) := by
  have HN := Lib.hid h
  have HC := Lib.hid fun (W : World) (hb : Below w.heap.size w W) => (Below.cell hb hlt).trans hc
  have HF := Lib.hid fun (W : World) (hb : Below w.heap.size w W) => (show W.frozen? ⟨bo, j, none⟩ = false by rw [← hf]; unfold World.frozen?; rw [hb.block bo hlt])
  have HU := Lib.hid (number_unit v hv w hL)
  have HNE := Lib.hid (And.intro n1 n2)
  have m1 : ¬ bo = c2 := fun e => n1 e.symm
  have m2 : ¬ bo = c3 := fun e => n2 e.symm
  obtain ⟨x, hx⟩ : ∃ x, num? v = x := ⟨_, rfl⟩
  have HV := Lib.hid (show numV v = qv x by unfold numV qv; rw [hx])
  have HO := Lib.hid (show okN v a b = okM x a b by rw [okN_M, hx])
  rw [HV.out]
  rw [hx] at HU
  have hxt : ∀ n, x = some n → n ≤ 1099511627776 := fun n e => (un.num_iff.1 (hx.trans e)).1
  have K1 := Lib.hid fun (W : World) (hb : Below w.heap.size w W) => (show W.cell? ⟨c1, 0, none⟩ = some (.pointer (some ⟨bo, j, none⟩)) from (h.next hb).pt.cell 0 _)
  have K2 := Lib.hid fun (W : World) (u : Value) (hb : Below w.heap.size w W) => (show (W.setCell ⟨bo, j, none⟩ u).cell? ⟨c2, 0, none⟩ = some (.int .i64 a) from BoxA.cell (((h.next hb).lo).but ((But.refl bo W).setCell j u) n1) 0 _)
  have K3 := Lib.hid fun (W : World) (u : Value) (hb : Below w.heap.size w W) => (show (W.setCell ⟨bo, j, none⟩ u).cell? ⟨c3, 0, none⟩ = some (.int .i64 b) from BoxA.cell (((h.next hb).hi).but ((But.refl bo W).setCell j u) n2) 0 _)
  clear h hc hf hlt hL n1 n2 hv hx
  cases x with
  | none =>
    go_enter Tryz.func113, Tryz.ntmps113
    go_wp2_with (go_at_call 114; ((with_reducible refine HU.out.mono ?_); rintro e w1 ⟨rfl, hb⟩); rw [qv_none, qe_none]; have HB := Lib.hid hb; have k1 := K1.out _ hb; have hc := HC.out _ hb; have hf := HF.out _ hb; clear hb)
    go_ret
    exact ⟨by rw [HO.out]; rfl, w1, HB.out, rfl⟩
  | some n =>
    have hn := hxt n rfl
    have HQ := Lib.hid (show qv (some n) = (n : Int) from rfl)
    by_cases h1 : a ≤ n
    · have q1 : decide ((a : Int) ≤ (n : Int)) = true := decide_eq_true (by omega)
      have HO2 := Lib.hid (show okN v a b = decide ((n : Int) ≤ (b : Int)) by rw [HO.out]; show decide (a ≤ n ∧ n ≤ b) = _; rw [Bool.eq_iff_iff, decide_eq_true_eq, decide_eq_true_eq]; omega)
      clear hxt
      go_enter Tryz.func113, Tryz.ntmps113
      go_upto_region 2 with (go_at_call 114; ((with_reducible refine HU.out.mono ?_); rintro e w1 ⟨rfl, hb⟩); rw [qv_some, qe_some]; have HB := Lib.hid hb; have k1 := K1.out _ hb; have hc := HC.out _ hb; have hf := HF.out _ hb; clear hb)
      go_upto_region 3 with fail
      have k2 := K2.out _ (.int .i64 (n : Int)) HB.out
      have k3 := K3.out _ (.int .i64 (n : Int)) HB.out
      go_wp2
      go_ret
      exact ⟨by rw [HO2.out]; first | rfl | simp, w1, HB.out, rfl⟩
    · have q1 : decide ((a : Int) ≤ (n : Int)) = false := decide_eq_false (by omega)
      have HO2 := Lib.hid (show okN v a b = false by rw [HO.out]; show decide (a ≤ n ∧ n ≤ b) = _; rw [decide_eq_false]; omega)
      clear hxt
      go_enter Tryz.func113, Tryz.ntmps113
      go_upto_region 3 with (go_at_call 114; ((with_reducible refine HU.out.mono ?_); rintro e w1 ⟨rfl, hb⟩); rw [qv_some, qe_some]; have HB := Lib.hid hb; have k1 := K1.out _ hb; have hc := HC.out _ hb; have hf := HF.out _ hb; clear hb)
      have k2 := K2.out _ (.int .i64 (n : Int)) HB.out
      have k3 := K3.out _ (.int .i64 (n : Int)) HB.out
      go_wp2
      go_ret
      exact ⟨by rw [HO2.out]; first | rfl | simp, w1, HB.out, rfl⟩
end Go.Proofs.YtekcjfdllclphaaGreatDoor.gn
end
section
set_option linter.unusedVariables false
set_option linter.unusedSimpArgs false
namespace Go.Proofs.YtekcjfdllclphaaGreatDoor.gn
open Go.RowKit
open Go.Proofs.YtekcjfdllclphaaGreatDoor.un
open Go.Proofs.YtekcjfdllclphaaGreatDoor.di
open Go.Proofs.YtekcjfdllclphaaGreatDoor.sp (Slip within? okW)
open Go.Proofs.YtekcjfdllclphaaGreatDoor.od (Ord okO stO numV sizV resK badW nK)

/-- The cells that the closure of two words has. -/
structure EithC (w : World) (c1 c2 c3 bo j : Nat) (yes no : Tx) : Prop where
  yes : BoxA w c1 9 #[.string (str yes)]
  pt : BoxA w c2 124 #[.pointer (some ⟨bo, j, none⟩)]
  no : BoxA w c3 9 #[.string (str no)]
theorem EithC.next {w w' : World} {c1 c2 c3 bo j : Nat} {yes no : Tx} (h : EithC w c1 c2 c3 bo j yes no) (hb : Below w.heap.size w w') : EithC w' c1 c2 c3 bo j yes no := ⟨h.yes.next hb, h.pt.next hb, h.no.next hb⟩
set_option maxRecDepth 100000 in
set_option maxHeartbeats 3200000 in
theorem either1_any (c1 c2 c3 bo j : Nat) (old : Bool) (yes no v : Tx) (w : World) (h : EithC w c1 c2 c3 bo j yes no) (hc : w.cell? ⟨bo, j, none⟩ = some (.bool old)) (hf : w.frozen? ⟨bo, j, none⟩ = false) (n1 : c1 ≠ bo) (n2 : c3 ≠ bo) :
    Calls Tryz.prog 115 #[.string (str v), .pointer (some ⟨c1, 0, none⟩), .pointer (some ⟨c2, 0, none⟩), .pointer (some ⟨c3, 0, none⟩)] w (PutT bo j (.bool (v == yes)) (v == yes || v == no) w) := by
  have k1 : w.cell? ⟨c1, 0, none⟩ = some (.string (str yes)) := h.yes.cell 0 _
  have k2 : w.cell? ⟨c2, 0, none⟩ = some (.pointer (some ⟨bo, j, none⟩)) := h.pt.cell 0 _
  have K1 := Lib.hid fun (u : Value) => (show (w.setCell ⟨bo, j, none⟩ u).cell? ⟨c1, 0, none⟩ = some (.string (str yes)) from BoxA.cell (h.yes.but ((But.refl bo w).setCell j u) n1) 0 _)
  have K3 := Lib.hid fun (u : Value) => (show (w.setCell ⟨bo, j, none⟩ u).cell? ⟨c3, 0, none⟩ = some (.string (str no)) from BoxA.cell (h.no.but ((But.refl bo w).setCell j u) n2) 0 _)
  have m1 : ¬ bo = c1 := fun e => n1 e.symm
  have m2 : ¬ bo = c3 := fun e => n2 e.symm
  clear h n1 n2
  by_cases h1 : v = yes
  · subst h1
    rw [show (v == v) = true by rw [beq_iff_eq]]
    go_enter Tryz.func115, Tryz.ntmps115
    go_upto_region 2 with fail
    have k4 := K1.out (.bool true)
    have k5 := K3.out (.bool true)
    go_wp2
    go_ret
    exact ⟨rfl, w, Below.refl _ _, rfl⟩
  · obtain ⟨q1, q2⟩ := (⟨by rw [eq_str]; exact decide_eq_false h1, fun h => h1 (by rw [str_toList, str_toList] at h; exact h)⟩ : ((str v).toList == (str yes).toList) = false ∧ ¬ (str v).toList = (str yes).toList)
    rw [show (v == yes) = false by rw [beq_eq_false_iff_ne]; exact h1]
    by_cases h2 : v = no
    · subst h2
      rw [show (v == v) = true by rw [beq_iff_eq]]
      clear h1
      go_enter Tryz.func115, Tryz.ntmps115
      go_upto_region 2 with fail
      have k4 := K1.out (.bool false)
      have k5 := K3.out (.bool false)
      go_wp2
      go_ret
      exact ⟨rfl, w, Below.refl _ _, rfl⟩
    · obtain ⟨q3, q4⟩ := (⟨by rw [eq_str]; exact decide_eq_false h2, fun h => h2 (by rw [str_toList, str_toList] at h; exact h)⟩ : ((str v).toList == (str no).toList) = false ∧ ¬ (str v).toList = (str no).toList)
      rw [show (v == no) = false by rw [beq_eq_false_iff_ne]; exact h2]
      clear h1 h2
      go_enter Tryz.func115, Tryz.ntmps115
      go_upto_region 2 with fail
      have k4 := K1.out (.bool false)
      have k5 := K3.out (.bool false)
      go_wp2
      go_ret
      exact ⟨rfl, w, Below.refl _ _, rfl⟩

theorem below_undrew2 {w w' : World} (h : Below w.heap.size w.drew w') : Below w.heap.size w w' := ⟨h.os, h.tape, h.output, h.size, h.block⟩
/-- The cell of the closure of a name, of a size. -/
def PtC (w : World) (c bo j : Nat) (t : TypeId) : Prop := BoxA w c t #[.pointer (some ⟨bo, j, none⟩)]
theorem PtC.next {w w' : World} {c bo j : Nat} {t : TypeId} (h : PtC w c bo j t) (hb : Below w.heap.size w w') : PtC w' c bo j t := BoxA.next h hb
set_option maxRecDepth 100000 in
set_option maxHeartbeats 3200000 in
theorem name1_any (c bo j : Nat) (old v : Tx) (hv : v.length ≤ 9223372036854775807) (w : World) (h : PtC w c bo j 126) (hc : w.cell? ⟨bo, j, none⟩ = some (.string (str old))) (hf : w.frozen? ⟨bo, j, none⟩ = false) (hlt : bo < w.heap.size) (n1 : c ≠ bo) :
    Calls Tryz.prog 116 #[.string (str v), .pointer (some ⟨c, 0, none⟩)] w (NameT bo j v w) := by
  have HP := Lib.hid fun (W : World) (hb : Below w.heap.size w W) => (show W.cell? ⟨c, 0, none⟩ = some (.pointer (some ⟨bo, j, none⟩)) from BoxA.cell (h.next hb) 0 _)
  cases hn : isName v with
  | false =>
    have HN := Lib.hid hn
    have HV := Lib.hid hv
    clear h hc hf hlt hn hv
    go_enter Tryz.func116, Tryz.ntmps116
    go_wp2_with (go_at_call 98; refine (name_all v HV.out _).mono ?_; rintro e w1 ⟨rfl, hb⟩; rw [HN.out]; have HB := Lib.hid hb; clear hb)
    go_ret
    exact ⟨by rw [HN.out]; rfl, w1, HB.out, by rw [HN.out]; rfl⟩
  | true =>
    have HN := Lib.hid hn
    have HV := Lib.hid hv
    have HL := Lib.hid (show (str v).size ≤ 281474976710656 by rw [str_size]; have := name_len hn; omega)
    have HC := Lib.hid fun (W : World) (hb : Below w.heap.size w W) => (Below.cell hb hlt).trans hc
    have HF := Lib.hid fun (W : World) (hb : Below w.heap.size w W) => (show W.frozen? ⟨bo, j, none⟩ = false by rw [← hf]; unfold World.frozen?; rw [hb.block bo hlt])
    have HS := Lib.hid fun (W : World) (hb : Below w.heap.size w W) => (show (W.setCell ⟨bo, j, none⟩ (.string (str v))).cell? ⟨c, 0, none⟩ = some (.pointer (some ⟨bo, j, none⟩)) from BoxA.cell (BoxA.but (h.next hb) ((But.refl bo W).setCell j _) n1) 0 _)
    clear h hc hf hn hv
    go_enter Tryz.func116, Tryz.ntmps116
    go_upto_region 3 with (go_at_call 98; refine (name_all v HV.out _).mono ?_; rintro e w1 ⟨rfl, hb⟩; rw [HN.out]; have HB := Lib.hid hb; clear hb)
    have k1 := HP.out _ HB.out
    go_region_held3 (fun W => W.cell? ⟨c, 0, none⟩ = some (.pointer (some ⟨bo, j, none⟩))) (first | exact HP.out _ HB2.out | exact k1 | exact HS.out _ HB2.out) (first | (go_at_call 117; ((with_reducible refine (clone_any (str v) _ HL.out).mono ?_); rintro e w2 ⟨rfl, hb2⟩); have HB2 := Lib.hid (HB.out.trans (Below.mono (below_undrew2 hb2) HB.out.size)); have hc2 := HC.out _ HB2.out; have hf2 := HF.out _ HB2.out; clear hb2))
    go_wp2
    go_ret
    exact ⟨by rw [HN.out]; rfl, w2, HB2.out, by rw [HN.out]; rfl⟩

def okSz (v : Tx) : Bool := decide (0 < (size? v).getD 0)
set_option maxRecDepth 100000 in
set_option maxHeartbeats 3200000 in
theorem size1_any (c bo j : Nat) (old : Int) (v : Tx) (hv : v.length ≤ 140737488355328) (w : World) (h : PtC w c bo j 122) (hc : w.cell? ⟨bo, j, none⟩ = some (.int .i64 old)) (hf : w.frozen? ⟨bo, j, none⟩ = false) (hlt : bo < w.heap.size) (hL : LaidU w) :
    Calls Tryz.prog 119 #[.string (str v), .pointer (some ⟨c, 0, none⟩)] w (PutT bo j (.int .i64 (sizV v)) (okSz v) w) := by
  have HP := Lib.hid fun (W : World) (hb : Below w.heap.size w W) => (show W.cell? ⟨c, 0, none⟩ = some (.pointer (some ⟨bo, j, none⟩)) from BoxA.cell (h.next hb) 0 _)
  have HC := Lib.hid fun (W : World) (hb : Below w.heap.size w W) => (Below.cell hb hlt).trans hc
  have HF := Lib.hid fun (W : World) (hb : Below w.heap.size w W) => (show W.frozen? ⟨bo, j, none⟩ = false by rw [← hf]; unfold World.frozen?; rw [hb.block bo hlt])
  have HU := Lib.hid (size_any v hv w hL)
  obtain ⟨x, hx⟩ : ∃ x, size? v = x := ⟨_, rfl⟩
  have HV := Lib.hid (show sizV v = qv x by unfold sizV qv; rw [hx])
  have HO := Lib.hid (show okSz v = decide (0 < x.getD 0) by unfold okSz; rw [hx])
  rw [HV.out]
  rw [hx] at HU
  clear h hc hf hlt hL hv hx
  cases x with
  | none =>
    go_enter Tryz.func119, Tryz.ntmps119
    go_wp2_with (go_at_call 120; ((with_reducible refine HU.out.mono ?_); rintro e w1 ⟨rfl, hb⟩); rw [qv_none, qe_none]; have HB := Lib.hid hb; have k1 := HP.out _ hb; have hc := HC.out _ hb; have hf := HF.out _ hb; clear hb)
    go_ret
    exact ⟨by rw [HO.out]; rfl, w1, HB.out, rfl⟩
  | some n =>
    go_enter Tryz.func119, Tryz.ntmps119
    go_wp2_with (go_at_call 120; ((with_reducible refine HU.out.mono ?_); rintro e w1 ⟨rfl, hb⟩); rw [qv_some, qe_some]; have HB := Lib.hid hb; have k1 := HP.out _ hb; have hc := HC.out _ hb; have hf := HF.out _ hb; clear hb)
    go_ret
    exact ⟨by rw [HO.out]; rfl, w1, HB.out, rfl⟩
end Go.Proofs.YtekcjfdllclphaaGreatDoor.gn
end
