/- For any seat: a long region's tail that neither reads nor calls; a guard whose value is not known, in the walk. -/
import Derived.Test.YtekcjfdllclphaaGreatDoorMGen
import Derived.Lib.Strings
import Derived.Lib.Walk
import Derived.Lib.BufferWrite
import Derived.Lib.UnsafeStr
import Derived.Laws.MakeOwn
section
set_option linter.unusedVariables false
set_option linter.unusedSimpArgs false
namespace Go.Proofs.YtekcjfdllclphaaGreatDoor.gn

def pureVal (a : Act) : Op → Option Value
  | .move x => some (a.eval x)
  | .assign x => some (a.eval x)
  | .pick c x y => match a.eval c with
    | .bool true => some (a.eval x)
    | .bool false => some (a.eval y)
    | _ => none
  | _ => none
def tailOps (ops : Array Oper) : List Oper → Act → Option Act
  | [], a => some a
  | o :: r, a => match Region.wanted o (yielded ops a.tmps) with
    | true => match pureVal a o.op with
      | some v => tailOps ops r (a.put o.dst v)
      | none => none
    | false => tailOps ops r (a.put o.dst undef)
section
variable {P : Program} {ops : Array Oper} {Q : Exit → Act → World → Prop} {a : Act} {w : World}
theorem pure_wp {o : Oper} {v : Value} {K : Act → World → Prop} (h : pureVal a o.op = some v) (hK : K (a.put o.dst v) w) : o.wp P a w K Q := by
  have hr : (execOp a.eval o).run P w = .ok (.value v) w := by
    obtain ⟨dst, op, ty, pos, after, guard⟩ := o
    cases op <;> simp only [pureVal] at h <;> first | (cases h; done) | skip
    case move => cases h; simp [execOp, go_sem]
    case assign => cases h; simp [execOp, go_sem]
    case pick =>
      generalize a.eval = ev at h ⊢
      split at h
      · next he => cases h; simp [execOp, go_sem, he]
      · next he => cases h; simp [execOp, go_sem, he]
      · cases h
  unfold Oper.wp
  rw [hr]
  exact hK
theorem tail_wp : ∀ (l : List Oper) (a a' : Act), tailOps ops l a = some a' → Q .normal a' w → wpList P ops Q l a w
  | [], a, a', h, hq => by cases h; exact hq
  | o :: r, a, a', h, hq => by
    unfold tailOps at h
    cases hw : Region.wanted o (yielded ops a.tmps) with
    | true =>
      rw [hw] at h
      dsimp only at h
      cases hv : pureVal a o.op with
      | none => rw [hv] at h; cases h
      | some v =>
        rw [hv] at h
        refine wpList_step fun K hK => ?_
        rw [if_pos hw]
        exact pure_wp hv (hK _ _ (tail_wp r _ a' h hq))
    | false =>
      rw [hw] at h
      exact wpList_skip hw (tail_wp r _ a' h hq)
/-- The tail, where one slot is looked at behind it. -/
theorem tail_at {l : List Oper} (i : Nat) (v : Value) (h : (tailOps ops l a).map (fun a' => (a'.tmps.getD i undef, a'.defers)) = some (v, [])) (hQ : ∀ tmps : Array Value, tmps.getD i undef = v → Q .normal ⟨tmps, []⟩ w) : wpList P ops Q l a w := by
  cases ht : tailOps ops l a with
  | none => rw [ht] at h; cases h
  | some a' =>
    rw [ht] at h
    obtain ⟨t, d⟩ := a'
    simp only [Option.map_some, Option.some.injEq, Prod.mk.injEq] at h
    obtain ⟨h1, rfl⟩ := h
    exact tail_wp l a _ ht (hQ t h1)
/-- A guard whose value is not known: both ways. -/
theorem guard_split {o : Oper} {r : List Oper} {g : Nat} {pol b : Bool} (_ : o.guard = some (g, pol)) (_ : yielded ops a.tmps g = some b)
    (h1 : b = true → wpList P ops Q (o :: r) a w) (h0 : b = false → wpList P ops Q (o :: r) a w) : wpList P ops Q (o :: r) a w := by
  cases b
  · exact h0 rfl
  · exact h1 rfl
end
end Go.Proofs.YtekcjfdllclphaaGreatDoor.gn
end
section
namespace Go.Proofs.YtekcjfdllclphaaGreatDoor.gn
open Go.RowKit

theorem cells5 : Tryz.prog.cellsOf 5 = 1 := by kernel_rfl

set_option maxHeartbeats 4000000 in
set_option maxRecDepth 100000 in
theorem liteClone_any (s : ByteArray) (w : World) (hlim : s.size ≤ 281474976710656) :
    Calls Tryz.prog 139 #[.string s] w fun e w' => e = .returned (.string s) ∧ Below w.heap.size w w' := by
  by_cases h0 : s.size = 0
  · have hs : s = ⟨#[]⟩ := by
      apply ByteArray.ext
      exact Array.eq_empty_of_size_eq_zero h0
    subst hs
    go_enter Tryz.func139, Tryz.ntmps139
    go_wp2
    go_ret
    exact ⟨rfl, Below.refl _ _⟩
  · obtain ⟨i0, hi, hz0, hz1, hz2⟩ := info_parts Tryz.info5
    have hinfo : (Tryz.prog.info? 5).map (·.size) = some 1 := by rw [hi]; simp [hz1]
    obtain ⟨M, hM⟩ : ∃ M, M = madeCells (Value.int .u8 0).cells (((s.size : Nat) : Int).toNat * i0.size) := ⟨_, rfl⟩
    have hMs : M.size = s.size := by rw [hM, size_madeCells, hz1]; simp
    have hmk : ∀ W : World, (Instr.makeSlice 100 (.int .i64 (s.size : Int)) (.int .i64 (s.size : Int))).run Tryz.prog W = .ok (.slice (some ⟨W.heap.size, 0, none⟩) s.size s.size) (W.alloc (.cells M 5)) := fun W => by
      have h := run_make (P := Tryz.prog) W 100 5 i0 (.int .u8 0) Tryz.underlying100 hi hz0 .i64 .i64 (s.size : Int) (s.size : Int) (by omega) (by omega) (by rw [hz2]; omega) (by omega)
      rw [← hM] at h
      simpa using h
    clear hM
    have hcp := Lib.run_copy_row_string (P := Tryz.prog) (w.alloc (.cells M 5)) 100 9 3 5 w.heap.size 0 s.size s.size s M 5 Tryz.underlying100 hinfo (heap_alloc_new w _) (Nat.le_refl _) (by omega)
    obtain ⟨Y, hY⟩ : ∃ Y, Y = (M.toList.take 0 ++ Lib.byteCells s.data.toList ++ M.toList.drop (0 + s.size)).toArray := ⟨_, rfl⟩
    rw [← hY] at hcp
    have hYl : Y.toList = Lib.byteCells s.data.toList := by
      rw [hY, List.toList_toArray, List.take_zero, List.nil_append, List.drop_of_length_le (by rw [Array.length_toList]; omega), List.append_nil]
    have hYs : Y.size = s.size := by rw [← Array.length_toList, hYl, Lib.byteCells_length, ← Lib.size_eq]
    have hgY : ((w.alloc (.cells M 5)).setRow w.heap.size Y).heap[w.heap.size]? = some (.cells Y 5 (0, 0)) := setRow_heap _ _ M _ 5 (0, 0) (heap_alloc_new w _)
    have hne : s.data.toList ≠ [] := fun e => h0 (by rw [Lib.size_eq, e]; rfl)
    have hUS := Lib.run_unsafeString_row (P := Tryz.prog) ((w.alloc (.cells M 5)).setRow w.heap.size Y) 189 3 9 5 Tryz.underlying189 cells5 w.heap.size Y.size (by unfold World.shape?; rw [hgY]) s.data.toList hne (by rw [← Lib.size_eq]; omega) (by rw [← Lib.size_eq]; omega)
      (fun j x hx => Lib.cells_of_row hgY Y.size j _ (by rw [List.take_of_length_le (by rw [Array.length_toList]; exact Nat.le_refl _), hYl]; simp [Lib.byteCells, hx]))
    rw [← Lib.size_eq] at hUS
    clear hY
    go_enter Tryz.func139, Tryz.ntmps139
    go_wp2
    go_ret
    have hb1 : Below w.heap.size w (w.alloc (.cells M 5)) := (Below.refl _ w).alloc (Nat.le_refl _) _
    have hb2 : Below w.heap.size (w.alloc (.cells M 5)) ((w.alloc (.cells M 5)).setRow w.heap.size Y) := ⟨rfl, rfl, rfl, by simp, fun k hk => setRow_other _ _ _ _ (by omega)⟩
    exact ⟨rfl, Lib.below_freeze (hb1.trans hb2) (p := ⟨w.heap.size, 0, none⟩) (Nat.le_refl _) _⟩

set_option maxHeartbeats 400000 in
theorem clone_any (s : ByteArray) (w : World) (hlim : s.size ≤ 281474976710656) :
    Calls Tryz.prog 117 #[.string s] w fun e w' => e = .returned (.string s) ∧ Below w.heap.size w w' := by
  go_enter Tryz.func117, Tryz.ntmps117
  go_wp2_with (go_at_call 139; refine (liteClone_any s _ hlim).mono ?_; rintro e w1 ⟨rfl, hb⟩)
  go_ret
  exact ⟨rfl, hb⟩
end Go.Proofs.YtekcjfdllclphaaGreatDoor.gn
end
