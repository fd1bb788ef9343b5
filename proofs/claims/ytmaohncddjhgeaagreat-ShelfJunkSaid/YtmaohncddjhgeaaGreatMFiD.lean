/- The contracts of the closures that make, remove and rename files of a table. -/
import Derived.Test.YtmaohncddjhgeaaGreatMFiA
import Derived.Deep.RegionHeld3
import Derived.Deep.RegionWith
section
set_option linter.unusedVariables false
namespace Go.Proofs.YtmaohncddjhgeaaGreat.gn
open Go.RowKit
open Go.Proofs.YtmaohncddjhgeaaGreat.fi

/-- A captured string. -/
def BoxS (w : World) (b : Nat) (l : List UInt8) : Prop := w.heap[b]? = some (.cells #[.string (str l)] 9 (0, 0))
def BoxI (w : World) (b : Nat) (n : Int) : Prop := w.heap[b]? = some (.cells #[.int .i64 n] 3 (0, 0))

theorem wpList_delete_run {P : Program} {w : World} {ops : Array Oper} {rest : List Oper} {o : Oper} {a : Act} {Q : Exit → Act → World → Prop}
    (hg : o.guard = none) (m x : Operand) (t k : TypeId) (hop : o.op = Op.call { callee := Callee.builtin Builtin.delete, args := #[m, x], argTypes := #[t, k] })
    (mv xv : Value) (hm : a.eval m = mv) (hx : a.eval x = xv) (R : World → Prop) (hall : ∀ ty, ∃ w2, (Builtin.delete_ #[t, k] ty #[mv, xv]).run P w = .ok (.tuple #[]) w2 ∧ R w2)
    (hK : ∀ w2, R w2 → wpList P ops Q rest (a.put o.dst (.tuple #[])) w2) : wpList P ops Q (o :: rest) a w := by
  refine wpList_plain hg fun K' hK' => ?_
  obtain ⟨w2, hrun, hR⟩ := hall o.type
  unfold Oper.wp
  simp [execOp, hop, resolve, invoke, builtin, hm, hx, hrun, Result.andThen]
  exact hK' _ _ (hK w2 hR)

set_option maxHeartbeats 1000000 in
theorem make1_any (w : World) (X : Nat → Prop) (TT : Nat → Option Tb) (b : Nat) (T : Tb) (hS : SysT w X TT) (hT : TT b = some T) (bn : Nat) (n : Nm) (hb : BoxS w bn n) (hk : n.length ≤ maxLen) (hl : T.length < maxLen) :
    Calls Tryz.prog 39 #[.map (some b), .pointer (some ⟨bn, 0, none⟩)] w (Goes X TT b (doOp (.make n) T) w) := by
  obtain ⟨G, hG⟩ := hS
  have hw : Below w.heap.size w (w.alloc (.cells #[.slice none 0 0, .bool false] 82)) := (Below.refl _ w).alloc (Nat.le_refl _) _
  have hnew : BlkF (w.alloc (.cells #[.slice none 0 0, .bool false] 82)) w.heap.size none 0 0 false := heap_alloc_new w _
  obtain ⟨w2, hrun, hg2, hS2⟩ := hG.add hT hw (Nat.le_refl _) (f := ([], false)) hnew ⟨rfl, Nat.le_refl _, Nat.zero_le _, .inl ⟨rfl, rfl⟩⟩ (fun g hg => by cases hg) hk hl
  have hc := cell_of_one hb
  have hX : X b ∧ TS w b := ⟨(hG b T hT).1, .inl (hG.tab hT).is⟩
  have HG : OnlyT X w w2 := (OnlyT.of_below hw).trans_old (Only.of_grown hg2 fun i hi => by
    cases hi
    refine ⟨hX.1, ?_⟩
    obtain ⟨es, cl, he⟩ := (hG.tab hT).is
    exact .inl ⟨es, cl, (hw.block b (lt_of_block he)).trans he⟩)
  clear hw hnew hG hb hX hg2
  go_enter Tryz.func39, Tryz.ntmps39
  go_wp2
  go_end0
  exact ⟨rfl, hS2, HG⟩

set_option maxHeartbeats 1000000 in
theorem remove1_any (w : World) (X : Nat → Prop) (TT : Nat → Option Tb) (b : Nat) (T : Tb) (hS : SysT w X TT) (hT : TT b = some T) (bn : Nat) (n : Nm) (hb : BoxS w bn n) (hk : n.length ≤ maxLen) :
    Calls Tryz.prog 140 #[.map (some b), .pointer (some ⟨bn, 0, none⟩)] w (Goes X TT b (doOp (.rem n) T) w) := by
  have hx := hS.lt hT
  have hs : TS w b := by obtain ⟨G, hG⟩ := hS; exact .inl (hG.tab hT).is
  have hdrop := fun ty => hS.drop hT hk ty
  have hc := cell_of_one hb
  clear hb hS
  go_enter Tryz.func140, Tryz.ntmps140
  go_wp2_with (at_delete; refine wpList_delete_run rfl _ _ _ _ rfl _ _ rfl rfl _ hdrop ?_; rintro w2 ⟨hg2, hS2⟩)
  go_end0
  exact ⟨rfl, hS2, Only.of_grown hg2 fun i hi => by cases hi; exact ⟨hx.2, hs⟩⟩

set_option maxHeartbeats 1000000 in
theorem rename1_any (w : World) (X : Nat → Prop) (TT : Nat → Option Tb) (b : Nat) (T : Tb) (hS : SysT w X TT) (hT : TT b = some T) (bn bm : Nat) (n m : Nm) (hb : BoxS w bn n) (hb2 : BoxS w bm m) (hk : n.length ≤ maxLen) (hk2 : m.length ≤ maxLen) (hl : T.length < maxLen) :
    Calls Tryz.prog 127 #[.map (some b), .pointer (some ⟨bn, 0, none⟩), .pointer (some ⟨bm, 0, none⟩)] w (Goes X TT b (doOp (.ren n m) T) w) := by
  have hx := hS.lt hT
  have hs : TS w b := by obtain ⟨G, hG⟩ := hS; exact .inl (hG.tab hT).is
  have hc := cell_of_one hb
  cases hg : fi.get n T with
  | none =>
    have hlook := hS.look_none hT hk hg
    have hr : renT n m T = T := by simp only [renT, hg]
    have HS : SysT w (ext X w w) (upd TT b (renT n m T)) := by
      rw [hr, upd_self hT]
      exact hS.more fun i hi => ext_old hi
    clear hg hr hT hb hb2 hx hs hS
    go_enter Tryz.func127, Tryz.ntmps127
    go_wp2
    go_end0
    exact ⟨rfl, HS, Only.refl _ _⟩
  | some f =>
    obtain ⟨G, hG⟩ := hS
    obtain ⟨p, A, nn, c, hp, _⟩ := hG.file hT hg
    have hlook := (hG.tab hT).look hk
    rw [hp] at hlook
    simp only [ptrOf] at hlook
    have hall : ∀ ty, ∃ w1, (Builtin.delete_ #[66, 9] ty #[.map (some b), .string (str n)]).run Tryz.prog w = .ok (.tuple #[]) w1 ∧
        (w1.cell? ⟨bm, 0, none⟩ = some (.string (str m)) ∧ ∃ w2, (Instr.mapUpdate 66 (.map (some b)) (.string (str m)) (.pointer (some ⟨p, 0, none⟩))).run Tryz.prog w1 = .ok () w2 ∧ SysT w2 (ext X w w2) (upd TT b (renT n m T)) ∧ OnlyT X w w2) := fun ty => by
      obtain ⟨w1, w2, h1, h2, h3, h4, h5⟩ := hG.move hT hk hk2 hl ty hp
      have ho : OnlyT X w w1 := Only.of_grown h2 fun i hi => by cases hi; exact ⟨hx.2, hs⟩
      have hb3 : BoxS w1 bm m := ho.block hb2 (by decide) (by decide)
      refine ⟨w1, h1, cell_of_one hb3, w2, h3, h5, ?_⟩
      refine Only.trans (S := fun i => X i ∧ TS w i) (S' := fun i => i = b) ho (Only.of_grown h4 fun i hi => ?_) fun i _ hi => ?_
      · cases hi; rfl
      · subst hi; exact ⟨hx.2, hs⟩
    clear hg hT hb hb2 hx hs hG hp
    go_enter Tryz.func127, Tryz.ntmps127
    go_wp2_with (at_delete; refine wpList_delete_run rfl _ _ _ _ rfl _ _ rfl rfl _ hall ?_; rintro w1 ⟨hc2, w2, hrun2, hS2, hO2⟩)
    go_end0
    exact ⟨rfl, hS2, hO2⟩
end Go.Proofs.YtmaohncddjhgeaaGreat.gn
end
