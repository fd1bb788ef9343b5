/- For any seat: a long region's tail that neither reads nor calls; a guard whose value is not known, in the walk. -/
import Derived.Test.YtkjffoebcblpoaaGreatMGen
import Derived.Ground.SlgfProg
import Derived.Shelf.SlicesE.DeleteFunc
import Derived.Shelf.SlicesE.IndexFunc
import Derived.Shelf.SlicesQ.IndexFunc
import Derived.Test.YtkjffoebcblpoaaGreatProg
section
set_option linter.unusedVariables false
set_option linter.unusedSimpArgs false
namespace Go.Proofs.YtkjffoebcblpoaaGreat.gn

def pureVal (a : Act) : Op → Option Value
  | .move x => some (a.eval x)
  | .assign x => some (a.eval x)
  | .pick c x y => match a.eval c with
    | .bool true => some (a.eval x)
    | .bool false => some (a.eval y)
    | _ => none
  | _ => none
def tailOps (ops : Array Oper) : List Oper → Act → Option Act
  | [], a => some a
  | o :: r, a => match Region.wanted o (yielded ops a.tmps) with
    | true => match pureVal a o.op with
      | some v => tailOps ops r (a.put o.dst v)
      | none => none
    | false => tailOps ops r (a.put o.dst undef)
section
variable {P : Program} {ops : Array Oper} {Q : Exit → Act → World → Prop} {a : Act} {w : World}
theorem pure_wp {o : Oper} {v : Value} {K : Act → World → Prop} (h : pureVal a o.op = some v) (hK : K (a.put o.dst v) w) : o.wp P a w K Q := by
  have hr : (execOp a.eval o).run P w = .ok (.value v) w := by
    obtain ⟨dst, op, ty, pos, after, guard⟩ := o
    cases op <;> simp only [pureVal] at h <;> first | (cases h; done) | skip
    case move => cases h; simp [execOp, go_sem]
    case assign => cases h; simp [execOp, go_sem]
    case pick =>
      generalize a.eval = ev at h ⊢
      split at h
      · next he => cases h; simp [execOp, go_sem, he]
      · next he => cases h; simp [execOp, go_sem, he]
      · cases h
  unfold Oper.wp
  rw [hr]
  exact hK
theorem tail_wp : ∀ (l : List Oper) (a a' : Act), tailOps ops l a = some a' → Q .normal a' w → wpList P ops Q l a w
  | [], a, a', h, hq => by cases h; exact hq
  | o :: r, a, a', h, hq => by
    unfold tailOps at h
    cases hw : Region.wanted o (yielded ops a.tmps) with
    | true =>
      rw [hw] at h
      dsimp only at h
      cases hv : pureVal a o.op with
      | none => rw [hv] at h; cases h
      | some v =>
        rw [hv] at h
        refine wpList_step fun K hK => ?_
        rw [if_pos hw]
        exact pure_wp hv (hK _ _ (tail_wp r _ a' h hq))
    | false =>
      rw [hw] at h
      exact wpList_skip hw (tail_wp r _ a' h hq)
/-- The tail, where one slot is looked at behind it. -/
theorem tail_at {l : List Oper} (i : Nat) (v : Value) (h : (tailOps ops l a).map (fun a' => (a'.tmps.getD i undef, a'.defers)) = some (v, [])) (hQ : ∀ tmps : Array Value, tmps.getD i undef = v → Q .normal ⟨tmps, []⟩ w) : wpList P ops Q l a w := by
  cases ht : tailOps ops l a with
  | none => rw [ht] at h; cases h
  | some a' =>
    rw [ht] at h
    obtain ⟨t, d⟩ := a'
    simp only [Option.map_some, Option.some.injEq, Prod.mk.injEq] at h
    obtain ⟨h1, rfl⟩ := h
    exact tail_wp l a _ ht (hQ t h1)
/-- A guard whose value is not known: both ways. -/
theorem guard_split {o : Oper} {r : List Oper} {g : Nat} {pol b : Bool} (_ : o.guard = some (g, pol)) (_ : yielded ops a.tmps g = some b)
    (h1 : b = true → wpList P ops Q (o :: r) a w) (h0 : b = false → wpList P ops Q (o :: r) a w) : wpList P ops Q (o :: r) a w := by
  cases b
  · exact h0 rfl
  · exact h1 rfl
end
end Go.Proofs.YtkjffoebcblpoaaGreat.gn
end
section
set_option linter.unusedVariables false
namespace Go.Proofs.YtkjffoebcblpoaaGreat.gn
open Go.Shelf
def layIndexB_ren : Go.Shelf.Ren := ⟨fun | 6 => 45 | n => n, fun | 22 => 22 | 23 => 26 | 25 => 58 | 3 => 3 | 0 => 0 | 4 => 4 | n => n, fun | n => n⟩
theorem layIndexB : Go.Proofs.SlLaysH0.n6 Tryz.prog layIndexB_ren := {
  mixed := by kernel_rfl
  f6 := ⟨Tryz.f45.name, by decide, Tryz.func45.trans (congrArg some (by kernel_rfl))⟩
  t0 := Tryz.underlying0
  a0 := Tryz.isAgg0
  z0 := Tryz.sizeOf0
  v0 := Tryz.zeroValue0
  t3 := Tryz.underlying3
  a3 := Tryz.isAgg3
  z3 := Tryz.sizeOf3
  v3 := Tryz.zeroValue3
  t4 := Tryz.underlying4
  a4 := Tryz.isAgg4
  z4 := Tryz.sizeOf4
  v4 := Tryz.zeroValue4
  t22 := Tryz.underlying22
  a22 := Tryz.isAgg22
  z22 := Tryz.sizeOf22
  v22 := Tryz.zeroValue22
  t25 := Tryz.underlying58
  a25 := Tryz.isAgg58
  z25 := Tryz.sizeOf58
  v25 := Tryz.zeroValue58 }
def layAnyB_ren : Go.Shelf.Ren := ⟨fun | 8 => 30 | 6 => 45 | n => n, fun | 22 => 22 | 23 => 26 | 25 => 58 | 4 => 4 | 3 => 3 | 0 => 0 | n => n, fun | n => n⟩
theorem layAnyB : Go.Proofs.SlLaysH0.n8 Tryz.prog layAnyB_ren := {
  mixed := by kernel_rfl
  f6 := ⟨Tryz.f45.name, by decide, Tryz.func45.trans (congrArg some (by kernel_rfl))⟩
  f8 := ⟨Tryz.f30.name, by decide, Tryz.func30.trans (congrArg some (by kernel_rfl))⟩
  t0 := Tryz.underlying0
  a0 := Tryz.isAgg0
  z0 := Tryz.sizeOf0
  v0 := Tryz.zeroValue0
  t3 := Tryz.underlying3
  a3 := Tryz.isAgg3
  z3 := Tryz.sizeOf3
  v3 := Tryz.zeroValue3
  t4 := Tryz.underlying4
  a4 := Tryz.isAgg4
  z4 := Tryz.sizeOf4
  v4 := Tryz.zeroValue4
  t22 := Tryz.underlying22
  a22 := Tryz.isAgg22
  z22 := Tryz.sizeOf22
  v22 := Tryz.zeroValue22
  t25 := Tryz.underlying58
  a25 := Tryz.isAgg58
  z25 := Tryz.sizeOf58
  v25 := Tryz.zeroValue58 }
def layAnyI_ren : Go.Shelf.Ren := ⟨fun | 8 => 86 | 6 => 79 | n => n, fun | 22 => 24 | 23 => 2 | 25 => 70 | 4 => 4 | 3 => 3 | 0 => 0 | n => n, fun | n => n⟩
theorem layAnyI : Go.Proofs.SlLaysH.n8 Tryz.prog layAnyI_ren := {
  mixed := by kernel_rfl
  f6 := ⟨Tryz.f79.name, by decide, Tryz.func79.trans (congrArg some (by kernel_rfl))⟩
  f8 := ⟨Tryz.f86.name, by decide, Tryz.func86.trans (congrArg some (by kernel_rfl))⟩
  t0 := Tryz.underlying0
  a0 := Tryz.isAgg0
  z0 := Tryz.sizeOf0
  v0 := Tryz.zeroValue0
  t3 := Tryz.underlying3
  a3 := Tryz.isAgg3
  z3 := Tryz.sizeOf3
  v3 := Tryz.zeroValue3
  t4 := Tryz.underlying4
  a4 := Tryz.isAgg4
  z4 := Tryz.sizeOf4
  v4 := Tryz.zeroValue4
  t22 := Tryz.underlying24
  a22 := Tryz.isAgg24
  z22 := Tryz.sizeOf24
  v22 := Tryz.zeroValue24
  a23 := Tryz.isAgg2
  z23 := Tryz.sizeOf2
  t25 := Tryz.underlying70
  a25 := Tryz.isAgg70
  z25 := Tryz.sizeOf70
  v25 := Tryz.zeroValue70 }
def layDelI_ren : Go.Shelf.Ren := ⟨fun | 10 => 50 | 6 => 79 | n => n, fun | 22 => 24 | 23 => 2 | 25 => 70 | 3 => 3 | 4 => 4 | 0 => 0 | n => n, fun | n => n⟩
theorem layDelI : Go.Proofs.SlLaysH.n10 Tryz.prog layDelI_ren := {
  mixed := by kernel_rfl
  f6 := ⟨Tryz.f79.name, by decide, Tryz.func79.trans (congrArg some (by kernel_rfl))⟩
  f10 := ⟨Tryz.f50.name, by decide, Tryz.func50.trans (congrArg some (by kernel_rfl))⟩
  t0 := Tryz.underlying0
  a0 := Tryz.isAgg0
  z0 := Tryz.sizeOf0
  v0 := Tryz.zeroValue0
  t3 := Tryz.underlying3
  a3 := Tryz.isAgg3
  z3 := Tryz.sizeOf3
  v3 := Tryz.zeroValue3
  t4 := Tryz.underlying4
  a4 := Tryz.isAgg4
  z4 := Tryz.sizeOf4
  v4 := Tryz.zeroValue4
  t22 := Tryz.underlying24
  a22 := Tryz.isAgg24
  z22 := Tryz.sizeOf24
  v22 := Tryz.zeroValue24
  a23 := Tryz.isAgg2
  z23 := Tryz.sizeOf2
  t25 := Tryz.underlying70
  a25 := Tryz.isAgg70
  z25 := Tryz.sizeOf70
  v25 := Tryz.zeroValue70 }

end Go.Proofs.YtkjffoebcblpoaaGreat.gn
end
