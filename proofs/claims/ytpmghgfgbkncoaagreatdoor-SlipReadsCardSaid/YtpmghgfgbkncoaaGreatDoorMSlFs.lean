/- The document's first line in memory: how it stands. -/
import Derived.Test.YtpmghgfgbkncoaaGreatDoorMSlCu
import Derived.Test.YtpmghgfgbkncoaaGreatDoorMSlW
import Derived.Test.YtpmghgfgbkncoaaGreatDoorMSlDt
import Derived.Test.YtpmghgfgbkncoaaGreatDoorMDiU
section
set_option linter.unusedVariables false
set_option linter.unusedSimpArgs false
namespace Go.Proofs.YtpmghgfgbkncoaaGreatDoor.gn
open Go.RowKit
open Go.Proofs.YtpmghgfgbkncoaaGreatDoor.un
open Go.Proofs.YtpmghgfgbkncoaaGreatDoor.di
open Go.Proofs.YtpmghgfgbkncoaaGreatDoor.sp (Slip)

theorem prt_at {w : World} {g : Nat} {L : List Tx} (h : Prts w g 0 L) {i : Nat} {y : Tx} (hi : L[i]? = some y) : w.cell? ⟨g, i, none⟩ = some (.string (str y)) := by
  have := h.2 i y hi
  rwa [Nat.zero_add] at this
def zz : Array Value := #[.string { data := #[] }, .int .i64 0, .int .i64 0, .int .i64 0, .slice none 0 0, .int .i64 0, .int .i64 0, .int .i64 0, .string { data := #[] }, .slice none 0 0, .slice none 0 0, .slice none 0 0]
def gA (v : Value) : Gh := ⟨v, .slice none 0 0, .slice none 0 0, .slice none 0 0⟩
/-- The result's box at P, the slip's behind it. -/
structure FX (P : Nat) (w0 : World) (gp : Nat) (PL : List Tx) (x : Slip) (v : Value) (W : World) : Prop where
  pr : BoxA W P 27 zz
  bx : BoxA W (P + 1) 27 (scs x (gA v))
  row : W.ownsRow (P + 2) 44 2 v x.after.length (flA x.after)
  low : Below P w0 W
  hz : P + 2 ≤ W.heap.size
  em : x.make = [] ∧ x.drop = [] ∧ x.use = []
  ps : Prts W gp 0 PL
  hg : gp ≠ P + 1
  ho : v.ownBlock ≠ some gp
theorem prts_same {W W' : World} {g : Nat} {L : List Tx} (h : Prts W g 0 L) (hs : W.heap.size ≤ W'.heap.size) (hk : W'.heap[g]? = W.heap[g]?) : Prts W' g 0 L :=
  ⟨Nat.lt_of_lt_of_le h.1 hs, fun i x hx => (World.cell?_of_block (a := ⟨g, 0 + i, none⟩) hk).trans (h.2 i x hx)⟩
section
variable {P : Nat} {w0 : World} {gp : Nat} {PL : List Tx} {x y : Slip} {v : Value} {W W' : World}
theorem FX.next (h : FX P w0 gp PL x v W) (hb : Below W.heap.size W W') : FX P w0 gp PL x v W' :=
  ⟨h.pr.next hb, h.bx.next hb, World.ownsRow.kept h.row (grown_new hb) (by cases hv : v.ownBlock <;> simp), h.low.trans (hb.mono (by have := h.hz; omega)), Nat.le_trans h.hz hb.size, h.em, h.ps.next hb, h.hg, h.ho⟩
theorem FX.put (h : FX P w0 gp PL x v W) (j : Nat) (u : Value) (hc : (scs x (gA v)).setIfInBounds j u = scs y (gA v)) (ha : y.after = x.after) (hm : y.make = x.make) (hd : y.drop = x.drop) (hu : y.use = x.use) : FX P w0 gp PL y v (W.setCell ⟨P + 1, j, none⟩ u) := by
  have hbut : But (P + 1) W (W.setCell ⟨P + 1, j, none⟩ u) := (But.refl _ _).setCell j u
  have hz := h.hz
  refine ⟨h.pr.but hbut (by omega), ?_, ?_, h.low.trans (hbut.low (by omega) (by omega)), by rw [World.size_setCell]; exact hz, ?_, h.ps.but hbut h.hg, h.hg, h.ho⟩
  · rw [← hc]; exact h.bx.set j u
  · rw [ha]; exact own_same h.row fun b hb => Below.heap_setCell _ _ _ _ (by have := (World.ownsRow.lt h.row b hb).1; simp only; omega)
  · rw [hm, hd, hu]; exact h.em
/-- A dependency more, stored. -/
theorem FX.push (h : FX P w0 gp PL x v W) {W1 W2 : World} (hb : Below W.heap.size W W1) (hg : W1.grownBy W2 v.ownBlock) {v' : Value} (d : Dep) (hr : W2.ownsRow (P + 2) 44 2 v' (x.after.length + 1) (flA x.after ++ cA d)) (hv : v'.ownBlock = v.ownBlock ∨ v'.ownBlock = some W1.heap.size) :
    FX P w0 gp PL { x with after := x.after ++ [d] } v' (W2.setCell ⟨P + 1, 4, none⟩ v') := by
  have h1 := h.next hb
  have hbut : But (P + 1) W2 (W2.setCell ⟨P + 1, 4, none⟩ v') := (But.refl _ _).setCell 4 v'
  have hz := h1.hz
  have hlt : ∀ b, v.ownBlock = some b → P + 2 ≤ b := fun b hb => (World.ownsRow.lt h1.row b hb).1
  have keep : ∀ k, k < W1.heap.size → v.ownBlock ≠ some k → W2.heap[k]? = W1.heap[k]? := fun k hk hne => hg.block k hk (fun e => hne e.symm)
  have hz2 : P + 2 ≤ W2.heap.size := Nat.le_trans hz hg.size
  have hlow2 : Below P w0 W2 := h1.low.grown hg (by omega) (fun k hk => by have := hlt k hk; omega)
  refine ⟨?_, ?_, ?_, hlow2.trans (hbut.low (by omega) (by omega)), by rw [World.size_setCell]; exact hz2, h.em, ?_, h.hg, ?_⟩
  · exact BoxA.but (show BoxA W2 P _ zz from (keep P (by omega) (fun e => by have := hlt P e; omega)).trans h1.pr) hbut (by omega)
  · have : BoxA W2 (P + 1) 27 (scs x (gA v)) := (keep (P + 1) (by omega) (fun e => by have := hlt (P + 1) e; omega)).trans h1.bx
    exact this.set 4 v'
  · rw [show ({ x with after := x.after ++ [d] } : Slip).after = x.after ++ [d] from rfl, List.length_append, flA_app, show flA [d] = cA d by simp [flA]]
    exact own_same hr fun b hb => Below.heap_setCell _ _ _ _ (by have := (World.ownsRow.lt hr b hb).1; simp only; omega)
  · exact (prts_same h1.ps hg.size (keep gp h1.ps.1 h.ho)).but hbut h.hg
  · rcases hv with e | e
    · rw [e]; exact h.ho
    · rw [e]
      intro e2
      have := h1.ps.1
      simp at e2
      omega
theorem FX.sr (h : FX P w0 gp PL x v W) : SR W x (gA v) := by
  have e : ∀ {α : Type} (f : α → List Value), RdC W (.slice none 0 0) ([] : List α).length (([] : List α).flatMap f) := fun f => .inl ⟨none, 0, rfl, rfl, rfl, fun _ => rfl⟩
  have c0 : Cp (.slice none 0 0) 0 := ⟨none, 0, rfl, Nat.le_refl _, Nat.zero_le _⟩
  refine ⟨ApC.rdc (.inr h.row), ?_, ?_, ?_, cp_own h.row, ?_, ?_, ?_⟩
  · rw [h.em.1]; exact e cM
  · rw [h.em.2.1]; exact e cS
  · rw [h.em.2.2]; exact e cS
  · rw [h.em.1]; exact c0
  · rw [h.em.2.1]; exact c0
  · rw [h.em.2.2]; exact c0
theorem FX.one (h : FX P w0 gp PL x v W) : (scs x (gA v)).all (·.oneCell') = true := scs_one h.sr
end
/-- An append of one to a row of the call's own, in a region as it stands. -/
theorem wpl_own2 {t e : TypeId} {z : Value} {size bytes : Nat} (E : EltI t e z size bytes) {w : World} {ops : Array Oper} {rest : List Oper} {o : Oper} {a : Act} {Q : Exit → Act → World → Prop} (hgd : o.guard = none) (s x : Operand)
    (ho : o.op = .call { callee := .builtin .append, args := #[s, x], argTypes := #[t, t] })
    {base n : Nat} {v : Value} {cs : List Value} (hs : a.eval s = v) (hown : w.ownsRow base e size v n cs) (ad : Addr) (ds : List Value) (hx : a.eval x = .slice (some ad) 1 1) (hc : ∀ j u, ds[j]? = some u → w.cell? (ad.add j) = some u) (hd : ds.length = size)
    (h1 : ∀ u ∈ ds, u.oneCell' = true) (hlen : n ≤ 1000000) (hby : bytes ≤ 100) (hb : base ≤ w.heap.size)
    (hK : ∀ g c w', w'.ownsRow base e size (.slice (some ⟨g, 0, none⟩) (n + 1) c) (n + 1) (cs ++ ds) → w.grownBy w' v.ownBlock → (some g = v.ownBlock ∨ g = w.heap.size) → wpList Tryz.prog ops Q rest (a.put o.dst (.slice (some ⟨g, 0, none⟩) (n + 1) c)) w') :
    wpList Tryz.prog ops Q (o :: rest) a w := by
  refine wpList_plain hgd fun K hK2 => ?_
  obtain ⟨v', w', hrun, r1, r2, r4⟩ := run_own E o.type hown hc (by rw [hd, Nat.one_mul]) h1 (show n + 1 ≤ maxLen by unfold maxLen; omega) (by have : (n + 1) * bytes ≤ 1000001 * 100 := Nat.mul_le_mul (by omega) hby; omega) hb (show 0 < 1 by decide) (c := 1)
  have hform : ∃ g c, v' = .slice (some ⟨g, 0, none⟩) (n + 1) c := by
    rcases r1.2 with ⟨_, h0⟩ | ⟨g, cap, cur, e, _⟩
    · omega
    · exact ⟨_, _, e⟩
  obtain ⟨g, c, rfl⟩ := hform
  unfold Oper.wp
  simp [execOp, ho, resolve, invoke, builtin, hs, hx, hrun, Result.andThen]
  refine hK2 _ _ (hK g c w' r1 r2 ?_)
  rcases r4 with e | e
  · exact .inl e
  · exact .inr (Option.some.inj e)
theorem two_zero (w : World) (t : TypeId) (cs : Array Value) : ∃ W, ((w.alloc (.cells zz t)).alloc (.cells zz t)).setRow (w.heap.size + 1) cs = W ∧ BoxA W w.heap.size t zz ∧ BoxA W (w.heap.size + 1) t cs ∧ Below w.heap.size w W ∧ w.heap.size + 2 ≤ W.heap.size := by
  have hb : BoxA ((w.alloc (.cells zz t)).alloc (.cells zz t)) (w.heap.size + 1) t zz := by
    have := BoxA.new (w.alloc (.cells zz t)) t zz
    rwa [World.size_alloc] at this
  refine ⟨_, rfl, (setRow_other _ _ _ _ (by omega)).trans (BoxA.next (BoxA.new w t zz) ((Below.refl _ _).alloc (Nat.le_refl _) _)), setRow_heap _ _ _ _ _ _ hb, below_setRow (((Below.refl _ w).alloc (Nat.le_refl _) _).alloc (by simp) _) (by omega) _, ?_⟩
  have h3 : (((w.alloc (.cells zz t)).alloc (.cells zz t)).setRow (w.heap.size + 1) cs).heap[w.heap.size + 1]? = some (.cells cs t (0, 0)) := setRow_heap _ _ _ _ _ _ hb
  have := (Array.getElem?_eq_some_iff.1 h3).1
  omega
theorem one_byte (w : World) (c : UInt8) : (convert 78 9 (.slice (some ⟨w.heap.size, 0, none⟩) 1 1)).run Tryz.prog (w.alloc (.cells #[.int .u8 (c.toNat : Int)] 5)) = .ok (.string (str [c])) (w.alloc (.cells #[.int .u8 (c.toNat : Int)] 5)) := by
  refine run_convert_bytes_back _ _ _ _ ⟨w.heap.size, 0, none⟩ 1 [c] Tryz.underlying78 Tryz.underlying5 Tryz.underlying9 fun j hj => ?_
  have hj0 : j = 0 := by simp at hj; omega
  subst hj0
  have hadd : (⟨w.heap.size, 0, none⟩ : Addr).add 0 = ⟨w.heap.size, 0, none⟩ := by unfold Addr.add; split <;> simp_all
  rw [hadd, World.cell?_alloc_mark]
  simp
theorem own_base {B B' : Nat} {e : TypeId} {size : Nat} {w : World} {v : Value} {n : Nat} {cs : List Value} (h : w.ownsRow B e size v n cs) (hb : B' ≤ B) : w.ownsRow B' e size v n cs := by
  refine ⟨h.1, ?_⟩
  rcases h.2 with h2 | ⟨g, cap, cur, e, hg, r⟩
  · exact .inl h2
  · exact .inr ⟨g, cap, cur, e, Nat.le_trans hb hg, r⟩
/-- What first tells. -/
def FiT (l : Tx) (w : World) (e : Ending) (w' : World) : Prop := ∃ (x : Slip) (v : Value) (b : Bool), e = .returned (.tuple #[sV x (gA v), .bool b]) ∧ SR w' x (gA v) ∧ w'.ownsRow w.heap.size 44 2 v x.after.length (flA x.after) ∧ (x.make = [] ∧ x.drop = [] ∧ x.use = []) ∧ (sp.first? l = if b = true then some x else none) ∧ Below w.heap.size w w'
theorem first_ret {l : Tx} {w W W' : World} {tmps : Array Value} {gp : Nat} {PL : List Tx} {x : Slip} {v : Value} {b : Bool} (h : FX w.heap.size w gp PL x v W) (hW : W.setRow w.heap.size (scs x (gA v)) = W') (hf : sp.first? l = if b = true then some x else none)
    (h2 : tmps.getD 2 undef = .pointer (some ⟨w.heap.size, 0, none⟩)) (h3 : tmps.getD 3 undef = .bool b) : bodyPost Tryz.prog Tryz.f19 (FiT l w) Exit.ret ⟨tmps, []⟩ W' := by
  subst hW
  have hz := h.hz
  have hb : BoxA (W.setRow w.heap.size (scs x (gA v))) w.heap.size 27 (scs x (gA v)) := setRow_heap _ _ _ _ _ _ h.pr
  have hs : SR (W.setRow w.heap.size (scs x (gA v))) x (gA v) := by
    have hsr := h.sr
    have hrow : (W.setRow w.heap.size (scs x (gA v))).ownsRow (w.heap.size + 2) 44 2 v x.after.length (flA x.after) := own_same h.row fun b hb => setRow_other _ _ _ _ (by have := (World.ownsRow.lt h.row b hb).1; omega)
    have e : ∀ {α : Type} (f : α → List Value), RdC (W.setRow w.heap.size (scs x (gA v))) (.slice none 0 0) ([] : List α).length (([] : List α).flatMap f) := fun f => .inl ⟨none, 0, rfl, rfl, rfl, fun _ => rfl⟩
    refine ⟨ApC.rdc (.inr hrow), ?_, ?_, ?_, hsr.ca, hsr.cm, hsr.cd, hsr.cu⟩
    · rw [h.em.1]; exact e cM
    · rw [h.em.2.1]; exact e cS
    · rw [h.em.2.2]; exact e cS
  refine bodyPost_ret (v := .tuple #[sV x (gA v), .bool b]) ?_ rfl ⟨x, v, b, rfl, hs, own_base (own_same h.row fun b hb => setRow_other _ _ _ _ (by have := (World.ownsRow.lt h.row b hb).1; omega)) (by omega), h.em, hf, below_setRow h.low (Nat.le_refl _) _⟩
  rw [results_two rfl tmps _ _ _ _ _ _ h2 hb Tryz.underlying27 rfl (by kernel_rfl), h3]
  rfl
end Go.Proofs.YtpmghgfgbkncoaaGreatDoor.gn
end
