/- Directives in memory: values, boxes, rows of fields; names of any length. -/
import Derived.Test.YtpmghgfgbkncoaaGreatDoorMDiP
import Derived.Test.YtpmghgfgbkncoaaGreatDoorMGenMap
import Derived.Test.YtpmghgfgbkncoaaGreatDoorMGen
import Derived.Test.YtpmghgfgbkncoaaGreatDoorMUnE
import Derived.Test.YtpmghgfgbkncoaaGreatDoorMUnD
import Derived.Laws.StructEq
section
set_option linter.unusedVariables false
namespace Go.Proofs.YtpmghgfgbkncoaaGreatDoor.gn
open Go.RowKit
open Go.Proofs.YtpmghgfgbkncoaaGreatDoor.un
open Go.Proofs.YtpmghgfgbkncoaaGreatDoor.di

/-! ### boxes -/
/-- A box of these cells. -/
def BoxA (W : World) (B : Nat) (t : TypeId) (cs : Array Value) : Prop := W.heap[B]? = some (.cells cs t (0, 0))
theorem BoxA.lt {W : World} {B : Nat} {t : TypeId} {cs : Array Value} (h : BoxA W B t cs) : B < W.heap.size := (Array.getElem?_eq_some_iff.1 h).1
theorem BoxA.cell {W : World} {B : Nat} {t : TypeId} {cs : Array Value} (h : BoxA W B t cs) (j : Nat) (v : Value) (hj : cs[j]? = some v := by rfl) : W.cell? ⟨B, j, none⟩ = some v := by
  simp [World.cell?, show W.heap[B]? = _ from h, hj]
theorem BoxA.free {W : World} {B : Nat} {t : TypeId} {cs : Array Value} (h : BoxA W B t cs) (j : Nat) : W.frozen? ⟨B, j, none⟩ = false := by simp [World.frozen?, show W.heap[B]? = _ from h]
theorem BoxA.new (W : World) (t : TypeId) (cs : Array Value) : BoxA (W.alloc (.cells cs t)) W.heap.size t cs := heap_alloc_new W _
theorem BoxA.next {W W' : World} {B : Nat} {t : TypeId} {cs : Array Value} (h : BoxA W B t cs) (hb : Below W.heap.size W W') : BoxA W' B t cs := (hb.block B h.lt).trans h
theorem BoxA.but {R : Nat} {W W' : World} {B : Nat} {t : TypeId} {cs : Array Value} (h : BoxA W B t cs) (hb : But R W W') (hne : B ≠ R) : BoxA W' B t cs := (hb.block B h.lt (fun e => hne (Option.some.inj e))).trans h
theorem BoxA.set {W : World} {B : Nat} {t : TypeId} {cs : Array Value} (h : BoxA W B t cs) (j : Nat) (u : Value) : BoxA (W.setCell ⟨B, j, none⟩ u) B t (cs.setIfInBounds j u) := heap_setCell h u
theorem BoxA.drew {W : World} {B : Nat} {t : TypeId} {cs : Array Value} (h : BoxA W B t cs) : BoxA W.drew B t cs := h

/-! ### directives as values -/
def dcs (d : Dir) : Array Value := #[.int .u8 (d.kind : Nat), .string (str d.name), .string (str d.pool), .int .i64 d.size, .bool d.opn]
def dV (d : Dir) : Value := .agg (dcs d)
theorem eq_str (a b : Tx) : ((str a).toList == (str b).toList) = decide (a = b) := by
  rw [str_toList, str_toList, Bool.eq_iff_iff, beq_iff_eq, decide_eq_true_eq]
theorem eq_lit (a c : Tx) : ((str a).toList == c) = decide (a = c) := by
  rw [str_toList, Bool.eq_iff_iff, beq_iff_eq, decide_eq_true_eq]
theorem lit_yes {a c : Tx} (h : a = c) : ((str a).toList == c) = true ∧ (str a).toList = c := ⟨by rw [eq_lit]; exact decide_eq_true h, by rw [str_toList]; exact h⟩
theorem lit_no {a c : Tx} (h : ¬ a = c) : ((str a).toList == c) = false ∧ ¬ (str a).toList = c := ⟨by rw [eq_lit]; exact decide_eq_false h, by rw [str_toList]; exact h⟩
theorem dir_dec (d e : Dir) : decide (d = e) = (((d.kind : Nat) : Int) == ((e.kind : Nat) : Int) && (d.name == e.name && (d.pool == e.pool && (d.size == e.size && d.opn == e.opn)))) := by
  rw [Bool.eq_iff_iff]
  simp only [decide_eq_true_eq, Bool.and_eq_true, beq_iff_eq]
  obtain ⟨k, n, p, z, o⟩ := d
  obtain ⟨k', n', p', z', o'⟩ := e
  simp only [Dir.mk.injEq]
  constructor
  · rintro ⟨rfl, rfl, rfl, rfl, rfl⟩; simp
  · rintro ⟨h, rfl, rfl, rfl, rfl⟩
    exact ⟨by omega, rfl, rfl, rfl, rfl⟩
set_option maxRecDepth 100000 in
theorem dir_eqIn (d e : Dir) (W : World) : (Op.equalIn 10000 51 (dV d) (dV e)).run Tryz.prog W = .ok (decide (d = e)) W := by
  rw [dV, dV, dir_dec, run_equalIn_agg W 9999 51 (dcs d) (dcs e) (by kernel_rfl) (by kernel_rfl)]
  unfold Program.fieldsOf
  rw [Tryz.underlying51]
  simp [Op.eqFields, dcs, go_sem, Tryz.underlying5, Tryz.underlying9, Tryz.underlying2, Tryz.underlying4]
  simp only [str_toList]
  by_cases h1 : ((d.kind : Nat) : Int) = ((e.kind : Nat) : Int) <;> by_cases h2 : d.name = e.name <;> by_cases h3 : d.pool = e.pool <;> by_cases h4 : d.size = e.size <;> by_cases h5 : d.opn = e.opn <;> simp [h1, h2, h3, h4, h5]
theorem dir_eq (d e : Dir) (W : World) : (binOp .eql 51 (dV d) (dV e)).run Tryz.prog W = .ok (.bool (decide (d = e))) W := by
  rw [show dV d = .agg (dcs d) from rfl, show dV e = .agg (dcs e) from rfl, run_eql_struct, show (Op.equalIn 10000 51 (.agg (dcs d)) (.agg (dcs e))).run Tryz.prog W = _ from dir_eqIn d e W]
  rfl
theorem dir_ne (d e : Dir) (W : World) : (binOp .neq 51 (dV d) (dV e)).run Tryz.prog W = .ok (.bool (!decide (d = e))) W := by
  rw [show dV d = .agg (dcs d) from rfl, show dV e = .agg (dcs e) from rfl, run_neq_struct, show (Op.equalIn 10000 51 (.agg (dcs d)) (.agg (dcs e))).run Tryz.prog W = _ from dir_eqIn d e W]
  rfl

/-! ### names of any length -/
set_option maxRecDepth 100000 in
theorem name_long (l : List UInt8) (hl : 32 < l.length) (hm : l.length ≤ 9223372036854775807) (w : World) : Calls Tryz.prog 59 #[.string (str l)] w fun e w' => e = .returned (.bool (isName l)) ∧ Below w.heap.size w w' := by
  have hn : isName l = false := by
    unfold isName
    rw [show decide (l.length ≤ 32) = false from decide_eq_false (by omega)]
    simp
  rw [hn]
  have hz := str_size l
  have hz0 : 32 < (str l).size := by omega
  have hz1 : (str l).size ≤ 9223372036854775807 := by omega
  have hz2 : (((str l).size : Int) == 0) = false := by rw [beq_eq_false_iff_ne]; omega
  have hz3 : decide (32 < ((str l).size : Int)) = true := decide_eq_true (by omega)
  clear hn hl hm hz
  go_enter Tryz.func59, Tryz.ntmps59
  go_wp2
  go_ret
  exact ⟨rfl, Below.refl _ _⟩
theorem name_all (l : List UInt8) (hm : l.length ≤ 9223372036854775807) (w : World) : Calls Tryz.prog 59 #[.string (str l)] w fun e w' => e = .returned (.bool (isName l)) ∧ Below w.heap.size w w' := by
  by_cases h : 32 < l.length
  · exact name_long l h hm w
  · exact name_any l (by omega) w

/-! ### rows of fields -/
/-- The fields L stand in block a. -/
def Flds (w : World) (a : Nat) (L : List (Tx × Bool)) : Prop := a < w.heap.size ∧ ∀ (i : Nat) (f : Tx × Bool), L[i]? = some f → w.cell? ⟨a, i * 2, none⟩ = some (.string (str f.1)) ∧ w.cell? ⟨a, i * 2 + 1, none⟩ = some (.bool f.2)
theorem Flds.next {w w' : World} {a : Nat} {L : List (Tx × Bool)} (h : Flds w a L) (hb : Below w.heap.size w w') : Flds w' a L :=
  ⟨Nat.lt_of_lt_of_le h.1 hb.size, fun i f hf => ⟨(Below.cell hb h.1).trans (h.2 i f hf).1, (Below.cell hb h.1).trans (h.2 i f hf).2⟩⟩
theorem Flds.but {R : Nat} {w w' : World} {a : Nat} {L : List (Tx × Bool)} (h : Flds w a L) (hb : But R w w') (hne : a ≠ R) : Flds w' a L :=
  ⟨Nat.lt_of_lt_of_le h.1 hb.size, fun i f hf => ⟨hb.cell (h.2 i f hf).1 hne, hb.cell (h.2 i f hf).2 hne⟩⟩
def rowV (k a : Nat) : Value := .agg #[.int .u8 (k : Nat), .slice (some ⟨a, 0, none⟩) (fldL k).length (fldL k).length]

end Go.Proofs.YtpmghgfgbkncoaaGreatDoor.gn
end
section
set_option linter.unusedVariables false
namespace Go.Proofs.YtpmghgfgbkncoaaGreatDoor.gn
open Go.RowKit
open Go.Proofs.YtpmghgfgbkncoaaGreatDoor.un
open Go.Proofs.YtpmghgfgbkncoaaGreatDoor.di

/-- Is a field left out? -/
def omi (f : Tx × Bool) (v : Tx) : Bool := f.2 && decide (v = [])
theorem omi_iff (f : Tx × Bool) (v : Tx) : omi f v = true ↔ f.2 = true ∧ v = [] := by
  unfold omi
  simp
set_option maxRecDepth 100000 in
theorem omitted_any (key : Tx) (o : Bool) (v : Tx) (w : World) : Calls Tryz.prog 56 #[.agg #[.string (str key), .bool o], .string (str v)] w (Told (.bool (omi (key, o) v)) w) := by
  have HB := Lib.hid (show Below w.heap.size w (w.alloc (.cells #[.string (str key), .bool o] 91)) from (Below.refl _ _).alloc (Nat.le_refl _) _)
  cases o with
  | false =>
    go_enter Tryz.func56, Tryz.ntmps56
    go_wp2
    go_ret
    exact ⟨rfl, HB.out⟩
  | true =>
    have H := Lib.hid (show omi (key, true) v = decide (v = []) from rfl)
    by_cases h : v = []
    · obtain ⟨q, q2⟩ := lit_yes h
      rw [decide_eq_true h] at H
      clear h
      go_enter Tryz.func56, Tryz.ntmps56
      go_wp2
      go_ret
      exact ⟨by rw [H.out]; rfl, HB.out⟩
    · obtain ⟨q, q2⟩ := lit_no h
      rw [decide_eq_false h] at H
      clear h
      go_enter Tryz.func56, Tryz.ntmps56
      go_wp2
      go_ret
      exact ⟨by rw [H.out]; rfl, HB.out⟩

theorem val_name (d : Dir) : val d nameK = d.name := by unfold val; rw [if_pos rfl]
theorem val_pool (d : Dir) : val d poolK = d.pool := by unfold val; rw [if_neg (by decide), if_pos rfl]
theorem val_acc (d : Dir) : val d accK = if d.opn = true then pubV else [] := by unfold val; rw [if_neg (by decide), if_neg (by decide), if_pos rfl]
theorem val_size (d : Dir) {key : Tx} (h : key = capK ∨ key = sizeK) : val d key = stxt d.size := by
  rcases h with rfl | rfl
  · unfold val; rw [if_neg (by decide), if_neg (by decide), if_neg (by decide)]
  · unfold val; rw [if_neg (by decide), if_neg (by decide), if_neg (by decide)]

set_option maxRecDepth 100000 in
set_option maxHeartbeats 1600000 in
theorem value_any (d : Dir) (h0 : -9223372036854775808 ≤ d.size) (h1 : d.size ≤ 9223372036854775807) (key : Tx) (w : World) (hL : LaidU w) :
    Calls Tryz.prog 55 #[dV d, .string (str key)] w (Told (.string (str (val d key))) w) := by
  have hb : Below w.heap.size w (w.alloc (.cells (dcs d) 51)) := (Below.refl _ _).alloc (Nat.le_refl _) _
  have HB := Lib.hid hb
  have HL := Lib.hid (hL.next hb)
  have hV : dV d = .agg #[.int .u8 (d.kind : Nat), .string (str d.name), .string (str d.pool), .int .i64 d.size, .bool d.opn] := rfl
  rw [hV]
  unfold dcs at HB HL
  obtain ⟨k, n, p, z, o⟩ := d
  dsimp only at h0 h1 HB HL ⊢
  by_cases e1 : key = nameK
  · have HV := Lib.hid (show val ⟨k, n, p, z, o⟩ key = n by rw [e1]; exact val_name _)
    obtain ⟨q1, q2⟩ := lit_yes e1
    unfold nameK at q1 q2
    clear hL hb hV h0 h1 e1
    go_enter Tryz.func55, Tryz.ntmps55
    go_wp2
    go_ret
    exact ⟨by rw [HV.out]; rfl, HB.out⟩
  · obtain ⟨q1, q2⟩ := lit_no e1
    unfold nameK at q1 q2
    by_cases e2 : key = poolK
    · have HV := Lib.hid (show val ⟨k, n, p, z, o⟩ key = p by rw [e2]; exact val_pool _)
      obtain ⟨q3, q4⟩ := lit_yes e2
      unfold poolK at q3 q4
      clear hL hb hV h0 h1 e1 e2
      go_enter Tryz.func55, Tryz.ntmps55
      go_wp2
      go_ret
      exact ⟨by rw [HV.out]; rfl, HB.out⟩
    · obtain ⟨q3, q4⟩ := lit_no e2
      unfold poolK at q3 q4
      by_cases e3 : key = accK
      · have HV := Lib.hid (show val ⟨k, n, p, z, o⟩ key = if o = true then pubV else [] by rw [e3]; exact val_acc _)
        obtain ⟨q5, q6⟩ := lit_yes e3
        unfold accK at q5 q6
        clear hL hb hV h0 h1 e1 e2 e3
        cases o with
        | true =>
          go_enter Tryz.func55, Tryz.ntmps55
          go_wp2
          go_ret
          exact ⟨by rw [HV.out]; rfl, HB.out⟩
        | false =>
          go_enter Tryz.func55, Tryz.ntmps55
          go_wp2
          go_ret
          exact ⟨by rw [HV.out]; rfl, HB.out⟩
      · obtain ⟨q5, q6⟩ := lit_no e3
        unfold accK at q5 q6
        have HV := Lib.hid (show val ⟨k, n, p, z, o⟩ key = stxt z by unfold val; rw [if_neg e1, if_neg e2, if_neg e3])
        clear hL hb hV e1 e2 e3
        go_enter Tryz.func55, Tryz.ntmps55
        go_wp2_with (go_at_call 78; refine (stext_any z h0 h1 _ HL.out).mono ?_; rintro e w2 ⟨rfl, hb2⟩; have HB2 := Lib.hid (HB.out.trans (hb2.mono HB.out.size)); clear hb2)
        go_ret
        exact ⟨by rw [HV.out]; rfl, HB2.out⟩
end Go.Proofs.YtpmghgfgbkncoaaGreatDoor.gn
end
