/- The document's Parse in memory: how it stands. (Written by gen_slPs.py.) -/
import Derived.Test.YtpmghgfgbkncoaaGreatDoorMSlFs
import Derived.Test.YtpmghgfgbkncoaaGreatDoorMSlBd
section
set_option linter.unusedVariables false
set_option linter.unusedSimpArgs false
namespace Go.Proofs.YtpmghgfgbkncoaaGreatDoor.gn
open Go.RowKit
open Go.Proofs.YtpmghgfgbkncoaaGreatDoor.un
open Go.Proofs.YtpmghgfgbkncoaaGreatDoor.di
open Go.Proofs.YtpmghgfgbkncoaaGreatDoor.sp (Slip Bd)

def sbc (S : List Nat) : Array Value := #[.bool false, .bool (decide (1 ∈ S)), .bool (decide (2 ∈ S)), .bool (decide (3 ∈ S))]
/-- The slip's box at X, what was seen behind it. -/
structure PX (X : Nat) (w1 : World) (x : Slip) (va vm vd vu : Value) (S : List Nat) (W : World) : Prop where
  bx : BoxA W X 27 (scs x ⟨va, vm, vd, vu⟩)
  sb : BoxA W (X + 1) 49 (sbc S)
  m : W.ownsRow (X + 2) 51 5 vm x.make.length (flM x.make)
  d : W.ownsRow (X + 2) 9 1 vd x.drop.length (flS x.drop)
  u : W.ownsRow (X + 2) 9 1 vu x.use.length (flS x.use)
  du : ∀ b, vd.ownBlock = some b → vu.ownBlock ≠ some b
  low : Below X w1 W
  hz : X + 2 ≤ W.heap.size
section
variable {X : Nat} {w1 : World} {x y : Slip} {va vm vd vu : Value} {S : List Nat} {W W' : World}
theorem PX.next (h : PX X w1 x va vm vd vu S W) (hb : Below W.heap.size W W') : PX X w1 x va vm vd vu S W' := by
  have k : ∀ {e : TypeId} {size : Nat} {v : Value} {n : Nat} {cs : List Value}, W.ownsRow (X + 2) e size v n cs → W'.ownsRow (X + 2) e size v n cs := fun {e size v n cs} ho => World.ownsRow.kept ho (grown_new hb) (by cases hv : v.ownBlock <;> simp)
  exact ⟨h.bx.next hb, h.sb.next hb, k h.m, k h.d, k h.u, h.du, h.low.trans (hb.mono (by have := h.hz; omega)), Nat.le_trans h.hz hb.size⟩
theorem PX.put (h : PX X w1 x va vm vd vu S W) (j : Nat) (u : Value) (hc : (scs x ⟨va, vm, vd, vu⟩).setIfInBounds j u = scs y ⟨va, vm, vd, vu⟩) (hm : y.make = x.make) (hd : y.drop = x.drop) (hu : y.use = x.use) : PX X w1 y va vm vd vu S (W.setCell ⟨X, j, none⟩ u) := by
  have hbut : But X W (W.setCell ⟨X, j, none⟩ u) := (But.refl _ _).setCell j u
  have hz := h.hz
  have k : ∀ {e : TypeId} {size : Nat} {v : Value} {n : Nat} {cs : List Value}, W.ownsRow (X + 2) e size v n cs → (W.setCell ⟨X, j, none⟩ u).ownsRow (X + 2) e size v n cs := fun {e size v n cs} ho => own_same ho fun b hb => Below.heap_setCell _ _ _ _ (by have := (World.ownsRow.lt ho b hb).1; simp only; omega)
  refine ⟨?_, h.sb.but hbut (by omega), ?_, ?_, ?_, h.du, h.low.trans (hbut.low (Nat.le_refl _) (by omega)), by rw [World.size_setCell]; exact hz⟩
  · rw [← hc]; exact h.bx.set j u
  · rw [hm]; exact k h.m
  · rw [hd]; exact k h.d
  · rw [hu]; exact k h.u
theorem PX.seen (h : PX X w1 x va vm vd vu S W) (k : Nat) (hk : k = 1 ∨ k = 2 ∨ k = 3) : PX X w1 x va vm vd vu (k :: S) (W.setCell ⟨X + 1, k, none⟩ (.bool true)) := by
  have hbut : But (X + 1) W (W.setCell ⟨X + 1, k, none⟩ (.bool true)) := (But.refl _ _).setCell k _
  have hz := h.hz
  have q : ∀ {e : TypeId} {size : Nat} {v : Value} {n : Nat} {cs : List Value}, W.ownsRow (X + 2) e size v n cs → (W.setCell ⟨X + 1, k, none⟩ (.bool true)).ownsRow (X + 2) e size v n cs := fun {e size v n cs} ho => own_same ho fun b hb => Below.heap_setCell _ _ _ _ (by have := (World.ownsRow.lt ho b hb).1; simp only; omega)
  refine ⟨h.bx.but hbut (by omega), ?_, q h.m, q h.d, q h.u, h.du, h.low.trans (hbut.low (by omega) (by omega)), by rw [World.size_setCell]; exact hz⟩
  have e := h.sb.set k (.bool true)
  have e2 : (sbc S).setIfInBounds k (.bool true) = sbc (k :: S) := by
    unfold sbc
    rcases hk with rfl | rfl | rfl <;> simp
  rw [← e2]
  exact e
theorem PX.other (h : PX X w1 x va vm vd vu S W) (k : Nat) (hk : 3 < k) : PX X w1 x va vm vd vu (k :: S) W := by
  have e : sbc (k :: S) = sbc S := by
    unfold sbc
    have h1 : decide (1 ∈ k :: S) = decide (1 ∈ S) := decide_eq_decide.2 ⟨fun h => (List.mem_cons.1 h).resolve_left (by omega), List.mem_cons_of_mem _⟩
    have h2 : decide (2 ∈ k :: S) = decide (2 ∈ S) := decide_eq_decide.2 ⟨fun h => (List.mem_cons.1 h).resolve_left (by omega), List.mem_cons_of_mem _⟩
    have h3 : decide (3 ∈ k :: S) = decide (3 ∈ S) := decide_eq_decide.2 ⟨fun h => (List.mem_cons.1 h).resolve_left (by omega), List.mem_cons_of_mem _⟩
    rw [h1, h2, h3]
  exact ⟨h.bx, by rw [e]; exact h.sb, h.m, h.d, h.u, h.du, h.low, h.hz⟩
theorem PX.push_m (h : PX X w1 x va vm vd vu S W) {W1 W2 : World} (hb : Below W.heap.size W W1) (hg : W1.grownBy W2 vm.ownBlock) {v' : Value} (d : Dir) (hr : W2.ownsRow (X + 2) 51 5 v' (x.make.length + 1) (flM x.make ++ cM d)) (hv : v'.ownBlock = vm.ownBlock ∨ v'.ownBlock = some W1.heap.size) :
    PX X w1 { x with make := x.make ++ [d] } va v' vd vu S (W2.setCell ⟨X, 9, none⟩ v') := by
  have h1 := h.next hb
  have hbut : But X W2 (W2.setCell ⟨X, 9, none⟩ v') := (But.refl _ _).setCell 9 v'
  have hz := h1.hz
  have hlt : ∀ b, vm.ownBlock = some b → X + 2 ≤ b := fun b hb => (World.ownsRow.lt h1.m b hb).1
  have keep : ∀ k, k < W1.heap.size → vm.ownBlock ≠ some k → W2.heap[k]? = W1.heap[k]? := fun k hk hne => hg.block k hk (fun e => hne e.symm)
  have hz2 : X + 2 ≤ W2.heap.size := Nat.le_trans hz hg.size
  have hlow2 : Below X w1 W2 := h1.low.grown hg (by omega) (fun k hk => by have := hlt k hk; omega)
  have hset : ∀ b, b ≠ X → (W2.setCell ⟨X, 9, none⟩ v').heap[b]? = W2.heap[b]? := fun b hb => Below.heap_setCell _ _ _ _ hb
  have hrow : ∀ {e : TypeId} {size : Nat} {v : Value} {n : Nat} {cs : List Value}, W1.ownsRow (X + 2) e size v n cs → (∀ b, v.ownBlock = some b → vm.ownBlock ≠ some b) → (W2.setCell ⟨X, 9, none⟩ v').ownsRow (X + 2) e size v n cs := fun ho hn =>
    own_same ho fun b hb => (hset b (by have := (World.ownsRow.lt ho b hb).1; omega)).trans (keep b (World.ownsRow.lt ho b hb).2 (hn b hb))
  have hnew : (W2.setCell ⟨X, 9, none⟩ v').ownsRow (X + 2) 51 5 v' (x.make ++ [d]).length (flM (x.make ++ [d])) := by
    rw [List.length_append, flM_app, show flM [d] = cM d by simp [flM]]
    exact own_same hr fun b hb => hset b (by have := (World.ownsRow.lt hr b hb).1; omega)
  refine ⟨?_, ?_, hnew, hrow h1.d (fun b hb e => own_apart h1.d h1.m (by decide) hb e), hrow h1.u (fun b hb e => own_apart h1.u h1.m (by decide) hb e), h.du, hlow2.trans (hbut.low (Nat.le_refl _) (by omega)), by rw [World.size_setCell]; exact hz2⟩
  · have : BoxA W2 X 27 (scs x ⟨va, vm, vd, vu⟩) := (keep X (by omega) (fun e => by have := hlt X e; omega)).trans h1.bx
    exact this.set 9 v'
  · exact BoxA.but (show BoxA W2 (X + 1) _ (sbc S) from (keep (X + 1) (by omega) (fun e => by have := hlt (X + 1) e; omega)).trans h1.sb) hbut (by omega)
theorem PX.push_d (h : PX X w1 x va vm vd vu S W) {W1 W2 : World} (hb : Below W.heap.size W W1) (hg : W1.grownBy W2 vd.ownBlock) {v' : Value} (d : Tx) (hr : W2.ownsRow (X + 2) 9 1 v' (x.drop.length + 1) (flS x.drop ++ cS d)) (hv : v'.ownBlock = vd.ownBlock ∨ v'.ownBlock = some W1.heap.size) :
    PX X w1 { x with drop := x.drop ++ [d] } va vm v' vu S (W2.setCell ⟨X, 10, none⟩ v') := by
  have h1 := h.next hb
  have hbut : But X W2 (W2.setCell ⟨X, 10, none⟩ v') := (But.refl _ _).setCell 10 v'
  have hz := h1.hz
  have hlt : ∀ b, vd.ownBlock = some b → X + 2 ≤ b := fun b hb => (World.ownsRow.lt h1.d b hb).1
  have keep : ∀ k, k < W1.heap.size → vd.ownBlock ≠ some k → W2.heap[k]? = W1.heap[k]? := fun k hk hne => hg.block k hk (fun e => hne e.symm)
  have hz2 : X + 2 ≤ W2.heap.size := Nat.le_trans hz hg.size
  have hlow2 : Below X w1 W2 := h1.low.grown hg (by omega) (fun k hk => by have := hlt k hk; omega)
  have hset : ∀ b, b ≠ X → (W2.setCell ⟨X, 10, none⟩ v').heap[b]? = W2.heap[b]? := fun b hb => Below.heap_setCell _ _ _ _ hb
  have hrow : ∀ {e : TypeId} {size : Nat} {v : Value} {n : Nat} {cs : List Value}, W1.ownsRow (X + 2) e size v n cs → (∀ b, v.ownBlock = some b → vd.ownBlock ≠ some b) → (W2.setCell ⟨X, 10, none⟩ v').ownsRow (X + 2) e size v n cs := fun ho hn =>
    own_same ho fun b hb => (hset b (by have := (World.ownsRow.lt ho b hb).1; omega)).trans (keep b (World.ownsRow.lt ho b hb).2 (hn b hb))
  have hnew : (W2.setCell ⟨X, 10, none⟩ v').ownsRow (X + 2) 9 1 v' (x.drop ++ [d]).length (flS (x.drop ++ [d])) := by
    rw [List.length_append, flS_app, show flS [d] = cS d by simp [flS]]
    exact own_same hr fun b hb => hset b (by have := (World.ownsRow.lt hr b hb).1; omega)
  refine ⟨?_, ?_, hrow h1.m (fun b hb e => own_apart h1.m h1.d (by decide) hb e), hnew, hrow h1.u (fun b hb e => h1.du b e hb), fun b hb => by
    rcases hv with e | e
    · rw [e] at hb; exact h.du b hb
    · rw [e] at hb
      cases hb
      intro e2
      have := (World.ownsRow.lt h1.u _ e2).2
      omega, hlow2.trans (hbut.low (Nat.le_refl _) (by omega)), by rw [World.size_setCell]; exact hz2⟩
  · have : BoxA W2 X 27 (scs x ⟨va, vm, vd, vu⟩) := (keep X (by omega) (fun e => by have := hlt X e; omega)).trans h1.bx
    exact this.set 10 v'
  · exact BoxA.but (show BoxA W2 (X + 1) _ (sbc S) from (keep (X + 1) (by omega) (fun e => by have := hlt (X + 1) e; omega)).trans h1.sb) hbut (by omega)
theorem PX.push_u (h : PX X w1 x va vm vd vu S W) {W1 W2 : World} (hb : Below W.heap.size W W1) (hg : W1.grownBy W2 vu.ownBlock) {v' : Value} (d : Tx) (hr : W2.ownsRow (X + 2) 9 1 v' (x.use.length + 1) (flS x.use ++ cS d)) (hv : v'.ownBlock = vu.ownBlock ∨ v'.ownBlock = some W1.heap.size) :
    PX X w1 { x with use := x.use ++ [d] } va vm vd v' S (W2.setCell ⟨X, 11, none⟩ v') := by
  have h1 := h.next hb
  have hbut : But X W2 (W2.setCell ⟨X, 11, none⟩ v') := (But.refl _ _).setCell 11 v'
  have hz := h1.hz
  have hlt : ∀ b, vu.ownBlock = some b → X + 2 ≤ b := fun b hb => (World.ownsRow.lt h1.u b hb).1
  have keep : ∀ k, k < W1.heap.size → vu.ownBlock ≠ some k → W2.heap[k]? = W1.heap[k]? := fun k hk hne => hg.block k hk (fun e => hne e.symm)
  have hz2 : X + 2 ≤ W2.heap.size := Nat.le_trans hz hg.size
  have hlow2 : Below X w1 W2 := h1.low.grown hg (by omega) (fun k hk => by have := hlt k hk; omega)
  have hset : ∀ b, b ≠ X → (W2.setCell ⟨X, 11, none⟩ v').heap[b]? = W2.heap[b]? := fun b hb => Below.heap_setCell _ _ _ _ hb
  have hrow : ∀ {e : TypeId} {size : Nat} {v : Value} {n : Nat} {cs : List Value}, W1.ownsRow (X + 2) e size v n cs → (∀ b, v.ownBlock = some b → vu.ownBlock ≠ some b) → (W2.setCell ⟨X, 11, none⟩ v').ownsRow (X + 2) e size v n cs := fun ho hn =>
    own_same ho fun b hb => (hset b (by have := (World.ownsRow.lt ho b hb).1; omega)).trans (keep b (World.ownsRow.lt ho b hb).2 (hn b hb))
  have hnew : (W2.setCell ⟨X, 11, none⟩ v').ownsRow (X + 2) 9 1 v' (x.use ++ [d]).length (flS (x.use ++ [d])) := by
    rw [List.length_append, flS_app, show flS [d] = cS d by simp [flS]]
    exact own_same hr fun b hb => hset b (by have := (World.ownsRow.lt hr b hb).1; omega)
  refine ⟨?_, ?_, hrow h1.m (fun b hb e => own_apart h1.m h1.u (by decide) hb e), hrow h1.d (fun b hb e => h1.du b hb e), hnew, fun b hb => by
    rcases hv with e | e
    · rw [e]; exact h.du b hb
    · rw [e]
      intro e2
      cases e2
      have := (World.ownsRow.lt h1.d _ hb).2
      omega, hlow2.trans (hbut.low (Nat.le_refl _) (by omega)), by rw [World.size_setCell]; exact hz2⟩
  · have : BoxA W2 X 27 (scs x ⟨va, vm, vd, vu⟩) := (keep X (by omega) (fun e => by have := hlt X e; omega)).trans h1.bx
    exact this.set 11 v'
  · exact BoxA.but (show BoxA W2 (X + 1) _ (sbc S) from (keep (X + 1) (by omega) (fun e => by have := hlt (X + 1) e; omega)).trans h1.sb) hbut (by omega)
theorem PX.sr (h : PX X w1 x va vm vd vu S W) (hX : w1.heap.size = X) (ha : RdC w1 va x.after.length (flA x.after)) (hca : Cp va x.after.length) : SR W x ⟨va, vm, vd, vu⟩ :=
  ⟨ha.next (by rw [hX]; exact h.low), ApC.rdc (.inr h.m), ApC.rdc (.inr h.d), ApC.rdc (.inr h.u), hca, cp_own h.m, cp_own h.d, cp_own h.u⟩
end
theorem Bd.sw {n : Nat} {x : Slip} (h : Bd n x) : SW x :=
  ⟨by have := h.user; omega, by have := h.pool; omega, by have := h.nodes; omega, by have := h.wall; omega, by have := h.qos; omega, by have := h.cap; omega, by have := h.inn; omega, by have := h.out; omega, fun d hd => by have := h.after.2 d hd; omega, fun d hd => DW_chk (h.make.2 d hd), fun s hs => by have := h.drop.2 s hs; omega, fun s hs => by have := h.use.2 s hs; omega⟩
theorem Bd.mid {n : Nat} {x : Slip} (h : Bd n x) (hn : n ≤ 100000) : Mid x :=
  ⟨by have := h.user; omega, by have := h.pool; omega, by have := h.after.1; omega, ⟨by have := h.make.1; omega, fun d hd => by have := sp.chk_bd (h.make.2 d hd); omega⟩, ⟨by have := h.drop.1; omega, fun s hs => by have := h.drop.2 s hs; omega⟩, ⟨by have := h.use.1; omega, fun s hs => by have := h.use.2 s hs; omega⟩⟩
end Go.Proofs.YtpmghgfgbkncoaaGreatDoor.gn
end
