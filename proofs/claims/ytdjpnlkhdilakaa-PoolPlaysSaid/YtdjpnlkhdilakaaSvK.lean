/- For any seat: what slices.SortFunc's family asks of a function value, be it a closure or a method value (fs: what it is bound to ahead of its arguments, cb: behind them); what a test and an exchange want, each in one word. -/
import Derived.Shelf.SlSortCmp.KitK
import Derived.Deep.LoopGhost
import Derived.Lib.Hide
import Derived.IntWalk
namespace Go.Proofs.Ytdjpnlkhdilakaa.gn
open Go.RowKit Go.Shelf Go.Sort Go.Lib

/-- The element's type: a struct of k cells. -/
structure Elt (P : Program) (ρ : Ren) (k : Nat) : Prop where
  aE : ∀ w, (isAgg (ρ.t 24)).run P w = .ok true w
  zE : ∀ w, (Go.sizeOf (ρ.t 24)).run P w = .ok k w

section
variable {P : Program} {α : Type} [Inhabited α] {enc : α → List Value} {k : Nat} {cf : α → α → Int} {g : FuncId} {fs cb : Array Value} {w0 : World} {blk off : Nat} {d0 : Array α}

/-- The row, and what g answers in a world of the sort. -/
structure Srt (P : Program) {α : Type} [Inhabited α] (enc : α → List Value) (k : Nat) (cf : α → α → Int) (g : FuncId) (fs cb : Array Value) (w0 : World) (blk off : Nat) (d0 : Array α) : Prop where
  R : RowK enc k w0 blk off d0
  hO : SWO (ltOf cf)
  hsz : d0.size < 4611686018427387904
  eg : ∀ args w, (callFunc g args).run P w = .ok (.enter g args) w
  says : ∀ (d : Array α) (W : World), SWK enc k w0 blk off d W → d.size = d0.size → ∀ x y : α, Calls P g (fs ++ (#[.agg (enc x).toArray, .agg (enc y).toArray] ++ cb)) W fun e w' => e = .returned (.int .i64 (cf x y)) ∧ ∃ q os, w' = grow (W.drewN q) os

/-- A call's end: nothing is returned, the row has turned into one that Q tells. -/
def Turned (enc : α → List Value) (k : Nat) (w0 : World) (blk off : Nat) (Q : Array α → Prop) (e : Ending) (w' : World) : Prop := e = .returned (.tuple #[]) ∧ ∃ d', Q d' ∧ SWK enc k w0 blk off d' w'

/-- A place that Q tells, and the row. -/
def Place (enc : α → List Value) (k : Nat) (w0 : World) (blk off : Nat) (Q : Nat → Prop) (dk : Array α) (s : Value) (W : World) : Prop := ∃ p : Nat, s = .int .i64 p ∧ Q p ∧ SWK enc k w0 blk off dk W

theorem idx {z : Int} {i n : Nat} (e : z = i) (h : i < n) (hn : n < 4611686018427387904) : z.toNat = i ∧ 0 ≤ z ∧ z < (n : Int) ∧ IntKind.i64.wrap z = z :=
  ⟨by omega, by omega, by omega, by rw [IntKind.wrap_i64]; omega⟩

/-- A test of two elements. -/
def Tst (P : Program) (enc : α → List Value) (k : Nat) (cf : α → α → Int) (g : FuncId) (fs cb : Array Value) (blk off : Nat) (W : World) (i j : Nat) (x y : α) : Prop :=
  (∀ n os, Sem.run P (loadCellsFrom ⟨blk, off + i * k, none⟩ 0 k #[]) (grow (W.drewN n) os) = .ok (enc x).toArray (grow (W.drewN n) os)) ∧
  (∀ n os, Sem.run P (loadCellsFrom ⟨blk, off + j * k, none⟩ 0 k #[]) (grow (W.drewN n) os) = .ok (enc y).toArray (grow (W.drewN n) os)) ∧
  (∀ n os, Calls P g (fs ++ (#[.agg (enc x).toArray, .agg (enc y).toArray] ++ cb)) (grow (W.drewN n) os) fun e w'' => e = .returned (.int .i64 (cf x y)) ∧ ∃ p : GrownBy, w'' = grow (W.drewN p.n) p.os)
theorem Srt.tst (M : Srt P enc k cf g fs cb w0 blk off d0) {d : Array α} {W : World} (S : SWK enc k w0 blk off d W) (hs : d.size = d0.size) {i j : Nat} (hi : i < d.size) (hj : j < d.size) :
    Tst P enc k cf g fs cb blk off W i j d[i]! d[j]! :=
  ⟨S.ld M.R hs P i hi, S.ld M.R hs P j hj, fun n os => Calls.grown_of (M.says d _ (S.grown n os) hs _ _)⟩
theorem Srt.less (M : Srt P enc k cf g fs cb w0 blk off d0) {d : Array α} {W : World} (S : SWK enc k w0 blk off d W) (hs : d.size = d0.size) {i j : Nat} (hi : i < d.size) (hj : j < d.size) (hl : ltOf cf d[i]! d[j]! = true) :
    ∃ x y : α, cf x y < 0 ∧ decide (cf x y < 0) = true ∧ Tst P enc k cf g fs cb blk off W i j x y :=
  ⟨_, _, of_decide_eq_true hl, hl, M.tst S hs hi hj⟩
theorem Srt.notLess (M : Srt P enc k cf g fs cb w0 blk off d0) {d : Array α} {W : World} (S : SWK enc k w0 blk off d W) (hs : d.size = d0.size) {i j : Nat} (hi : i < d.size) (hj : j < d.size) (hl : ltOf cf d[i]! d[j]! = false) :
    ∃ x y : α, ¬ cf x y < 0 ∧ decide (cf x y < 0) = false ∧ Tst P enc k cf g fs cb blk off W i j x y :=
  ⟨_, _, of_decide_eq_false hl, hl, M.tst S hs hi hj⟩

/-- An exchange of two elements: ci, cj are their cells. -/
def Exch (P : Program) (k blk off : Nat) (W : World) (i j : Nat) (ci cj : List Value) : Prop :=
  ci.length = k ∧ cj.length = k ∧ Sem.run P (loadCellsFrom ⟨blk, off + i * k, none⟩ 0 k #[]) W.drew = .ok ci.toArray W.drew ∧ Sem.run P (loadCellsFrom ⟨blk, off + j * k, none⟩ 0 k #[]) W.drew = .ok cj.toArray W.drew ∧
  Sem.run P (storeCells ⟨blk, off + i * k, none⟩ cj 0) W.drew = .ok () (W.drew.setCells blk (off + i * k) cj) ∧
  Sem.run P (storeCells ⟨blk, off + j * k, none⟩ ci 0) (W.drew.setCells blk (off + i * k) cj) = .ok () ((W.drew.setCells blk (off + i * k) cj).setCells blk (off + j * k) ci)
theorem Srt.exch (M : Srt P enc k cf g fs cb w0 blk off d0) {d : Array α} {W : World} (S : SWK enc k w0 blk off d W) (hs : d.size = d0.size) {i j : Nat} (hi : i < d.size) (hj : j < d.size) :
    ∃ ci cj : List Value, Exch P k blk off W i j ci cj ∧ Aside (SWK enc k w0 blk off (swp d i j) ((W.drew.setCells blk (off + i * k) cj).setCells blk (off + j * k) ci)) :=
  ⟨enc d[i]!, enc d[j]!, ⟨M.R.hk _, M.R.hk _, S.ld1 M.R hs P i hi, S.ld1 M.R hs P j hj, S.st1 M.R hs P i hi _, S.st2 M.R hs P i j hi hj _ _⟩, S.swapped M.R i j hi hj⟩
end
end Go.Proofs.Ytdjpnlkhdilakaa.gn
