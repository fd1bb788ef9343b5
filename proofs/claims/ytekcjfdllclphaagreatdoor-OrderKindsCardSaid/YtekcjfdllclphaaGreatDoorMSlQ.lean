/- Slips, plain: with one thing out of its bounds a slip may be no more; how a text begins. (Written ahead of the code.) -/
import Derived.Test.YtekcjfdllclphaaGreatDoorMSlP
import Derived.Test.YtekcjfdllclphaaGreatDoorMFiM
import Derived.Maps.Views
section
set_option linter.unusedVariables false
namespace Go.Proofs.YtekcjfdllclphaaGreatDoor.sp
open Go.Proofs.YtekcjfdllclphaaGreatDoor.un
open Go.Proofs.YtekcjfdllclphaaGreatDoor.di

theorem chk_not {x : Slip} (h : ¬ Ok x) : chkS x = false := by
  cases hc : chkS x with
  | false => rfl
  | true => exact absurd ((chkS_iff x).1 hc) h
theorem not_nodes (x : Slip) : chkS { x with nodes := 65 } = false := chk_not fun h => by have := h.nodes.2; simp at this
theorem not_wall (x : Slip) : chkS { x with wall := 0 } = false := chk_not fun h => by have := h.wall.1; simp at this
theorem not_qos (x : Slip) : chkS { x with qos := -1 } = false := chk_not fun h => by have := h.qos.1; simp at this
theorem not_in (x : Slip) : chkS { x with inn := x.cap + 1 } = false := chk_not fun h => by have := h.inn.2; simp at this; omega
theorem not_user (x : Slip) : chkS { x with user := x.user ++ [32] } = false := chk_not fun h => (plain_name h.user).1 (show (32 : UInt8) ∈ x.user ++ [32] by simp)
theorem not_pool (x : Slip) : chkS { x with cap := 0, pool := [112] } = false := chk_not fun h => by have := h.pool0 rfl; simp at this
theorem not_after (x : Slip) : chkS { x with after := x.after ++ [(1, false), (1, true)] } = false := chk_not fun h => by
  have := h.after.2.1
  simp only [List.map_append, List.nodup_append] at this
  exact absurd this.2.1 (by decide)
theorem not_use (x : Slip) : chkS { x with use := x.use ++ [[113], [113]] } = false := chk_not fun h => by
  have := h.use.2.1
  rw [List.nodup_append] at this
  exact absurd this.2.1 (by decide)
/-- How a slip's text begins. -/
def begT (x : Slip) : Tx := [106, 111, 98, 32, 117, 115, 101, 114, 61] ++ (x.user ++ [32, 110, 111, 100, 101, 115, 61])
theorem line1_beg (x : Slip) : ∃ r, line1 x = begT x ++ r ∧ r ≠ [] := by
  have hz : (fsS x).map wtx = wtx (userK, x.user) :: wtx (nodesK, txt x.nodes) :: wtx (wallK, txt x.wall) :: ((if 0 < x.qos then [(qosK, txt x.qos)] else []) ++ (if x.after = [] then [] else [(afterK, joinC 44 (x.after.map depT))])).map wtx := by
    unfold fsS
    rw [List.append_assoc, List.map_append]
    rfl
  unfold line1
  rw [hz, joinC_cons 32 _ (by simp), joinC_cons 32 _ (by simp), joinC_cons 32 _ (by simp)]
  refine ⟨txt x.nodes ++ 32 :: joinC 32 (wtx (wallK, txt x.wall) :: ((if 0 < x.qos then [(qosK, txt x.qos)] else []) ++ (if x.after = [] then [] else [(afterK, joinC 44 (x.after.map depT))])).map wtx), ?_, by simp⟩
  simp [begT, jobW, wtx, userK, nodesK]
theorem txtS_beg (x : Slip) : ∃ r, txtS x = begT x ++ r ∧ r ≠ [] := by
  obtain ⟨r, h1, h2⟩ := line1_beg x
  unfold txtS
  cases hd : (dirsS x).map dtx with
  | nil => exact ⟨r, h1, h2⟩
  | cons a L =>
    rw [joinC_cons 10 _ (by simp), h1, List.append_assoc]
    exact ⟨_, rfl, by simp⟩
end Go.Proofs.YtekcjfdllclphaaGreatDoor.sp
end
section
set_option linter.unusedVariables false
namespace Go.Proofs.YtekcjfdllclphaaGreatDoor.gn
open Go.RowKit

theorem keyRune : Go.Maps.Keyed Tryz.prog 21 := Go.Maps.int_keyed Tryz.underlying21
theorem keyR {x : Int} (h : (Lit.int .i32 x).wf = true) : keyOf Tryz.prog 21 (.int .i32 x) = some (.int .i32 x) := Go.Maps.keyOf_int_mk Tryz.underlying21 h
/-- Block b is the map of these runes and values. -/
def MapR (w : World) (b n : Nat) (f : Int → Option Value) : Prop := ∃ D, w.ownsMap Tryz.prog 21 hR b n D ∧ ∀ x z, D.atKey (.int .i32 x) (.held z) = .held ((f x).getD z)
theorem MapR.lt {w : World} {b n : Nat} {f : Int → Option Value} (h : MapR w b n f) : b < w.heap.size := by
  obtain ⟨D, h, _⟩ := h
  exact World.ownsMap.lt h
theorem MapR.kept {w w' : World} {b n : Nat} {f : Int → Option Value} (h : MapR w b n f) (hb : w'.heap[b]? = w.heap[b]?) : MapR w' b n f := by
  obtain ⟨D, ⟨es, clock, h1, h2⟩, h3⟩ := h
  exact ⟨D, ⟨es, clock, hb.trans h1, h2⟩, h3⟩
theorem MapR.next {w w' : World} {b n : Nat} {f : Int → Option Value} (h : MapR w b n f) (hb : Below w.heap.size w w') : MapR w' b n f := h.kept (hb.block b h.lt)
theorem MapR.new (w : World) : MapR (w.alloc (.map #[] 0)) w.heap.size 0 (fun _ => none) := ⟨_, World.ownsMap_made w _ _ _, fun x z => rfl⟩
theorem MapR.put {w : World} {b n : Nat} {f : Int → Option Value} (h : MapR w b n f) {t e : TypeId} (ht : Tryz.prog.underlying t = some (.map 21 e)) (hn : n < 1000) {x : Int} (hx : (Lit.int .i32 x).wf = true) (v : Value) :
    ∃ w', (Instr.mapUpdate t (.map (some b)) (.int .i32 x) v).run Tryz.prog w = .ok () w' ∧ MapR w' b (n + 1) (fun y => if y = x then some v else f y) ∧ But b w w' := by
  obtain ⟨D, h1, h2⟩ := h
  obtain ⟨w', hrun, h3, h4⟩ := h1.update keyRune ht (show n < maxLen by unfold maxLen; omega) (keyR hx) (show hR v = some (.held v, []) from rfl)
  refine ⟨w', hrun, ⟨_, h3, fun y z => ?_⟩, h4⟩
  dsimp only
  by_cases hy : y = x
  · subst hy
    rw [if_pos rfl, Go.Maps.atKey_put_same h1.isMap (by trivial)]
    rfl
  · rw [if_neg hy, Go.Maps.atKey_put_other (fun e => hy (by cases e; rfl)), h2]
/-- 'm[k]'. -/
theorem MapR.look {w : World} {b n : Nat} {f : Int → Option Value} (h : MapR w b n f) {t e : TypeId} (ht : Tryz.prog.underlying t = some (.map 21 e)) {z : Value} (hz : (zeroValue e).run Tryz.prog w = .ok z w) {x : Int} (hx : (Lit.int .i32 x).wf = true) :
    (Instr.lookup t (.map (some b)) (.int .i32 x) false).run Tryz.prog w = .ok ((f x).getD z) w := by
  obtain ⟨D, h1, h2⟩ := h
  obtain ⟨v, ps, hrun, hv⟩ := h1.lookup keyRune ht hz (show hR z = some (.held z, []) from rfl) (keyR hx)
  rw [h2] at hv
  rw [hrun, hR_inv hv]
end Go.Proofs.YtekcjfdllclphaaGreatDoor.gn
end
