/- For any seat: rows in memory, of elements of any size: what is read, what may be appended to. -/
import Derived.Test.YtkjffoebcblpoaaGreatMGen
import Derived.Deep.AppendSrc
import Derived.Maps.AppendAt
import Derived.Laws.CopyOwn
import Derived.Laws.AppendOwn
import GoSem.Op.String
section
set_option linter.unusedVariables false
set_option linter.unusedSimpArgs false
set_option maxRecDepth 100000
namespace Go.Proofs.YtkjffoebcblpoaaGreat.gn
open Go.RowKit

theorem grown_new {w w' : World} (h : Below w.heap.size w w') : w.grownBy w' none := ⟨h.os, h.tape, h.output, h.size, fun k hk _ => h.block k hk⟩
def CellsC (w : World) (b off : Nat) (cs : List Value) : Prop := ∀ j u, cs[j]? = some u → w.cell? ⟨b, off + j, none⟩ = some u
/-- v is a slice of n elements, of these cells: any slice that is empty, or it names its block. -/
def RdC (w : World) (v : Value) (n : Nat) (cs : List Value) : Prop :=
  (∃ p c, v = .slice p 0 c ∧ n = 0 ∧ cs = [] ∧ (p = none → c = 0)) ∨ ∃ b off c, v = .slice (some ⟨b, off, none⟩) n c ∧ b < w.heap.size ∧ CellsC w b off cs
theorem CellsC.below {w w' : World} {b off : Nat} {cs : List Value} (h : CellsC w b off cs) {B : Nat} (hb : Below B w w') (hB : b < B) : CellsC w' b off cs := fun j u hu => (hb.cell (p := ⟨b, off + j, none⟩) hB).trans (h j u hu)
theorem RdC.next {w w' : World} {v : Value} {n : Nat} {cs : List Value} (h : RdC w v n cs) (hb : Below w.heap.size w w') : RdC w' v n cs := by
  rcases h with h | ⟨b, off, c, e, hlt, hc⟩
  · exact .inl h
  · exact .inr ⟨b, off, c, e, Nat.lt_of_lt_of_le hlt hb.size, hc.below hb hlt⟩
theorem RdC.form {w : World} {v : Value} {n : Nat} {cs : List Value} (h : RdC w v n cs) : ∃ p c, v = .slice p n c := by
  rcases h with ⟨p, c, rfl, rfl, _⟩ | ⟨b, off, c, rfl, _⟩
  · exact ⟨_, _, rfl⟩
  · exact ⟨_, _, rfl⟩
/-- What an element of a slice is made of. -/
structure EltI (t e : TypeId) (z : Value) (size bytes : Nat) : Prop where
  und : Tryz.prog.underlying t = some (.slice e)
  inf : ∃ i, Tryz.prog.info? e = some i ∧ i.zero = some z ∧ i.size = size ∧ i.bytes = bytes
  zs : z.cells.size = size
  sz : 0 < size
/-- What may be appended to: an empty slice with no room, or a row of the call's own. -/
def ApC (base : Nat) (e : TypeId) (size : Nat) (w : World) (v : Value) (n : Nat) (cs : List Value) : Prop :=
  (∃ p, v = .slice p 0 0 ∧ n = 0 ∧ cs = []) ∨ w.ownsRow base e size v n cs
theorem ApC.form {base : Nat} {e : TypeId} {size : Nat} {w : World} {v : Value} {n : Nat} {cs : List Value} (h : ApC base e size w v n cs) : ∃ p c, v = .slice p n c ∧ n ≤ c := by
  rcases h with ⟨p, rfl, rfl, _⟩ | ⟨_, ⟨rfl, rfl⟩ | ⟨g, cap, cur, rfl, _, _, h, _⟩⟩
  · exact ⟨_, _, rfl, Nat.le_refl _⟩
  · exact ⟨_, _, rfl, Nat.le_refl _⟩
  · exact ⟨_, _, rfl, h⟩
theorem ApC.rdc {base : Nat} {e : TypeId} {size : Nat} {w : World} {v : Value} {n : Nat} {cs : List Value} (h : ApC base e size w v n cs) : RdC w v n cs := by
  rcases h with ⟨p, rfl, rfl, rfl⟩ | h
  · exact .inl ⟨p, 0, rfl, rfl, rfl, fun _ => rfl⟩
  · have hc := fun g => World.ownsRow.cells h (g := g)
    obtain ⟨h1, ⟨rfl, rfl⟩ | ⟨g, cap, cur, rfl, hb, hg, _⟩⟩ := h
    · exact .inl ⟨none, 0, rfl, rfl, List.eq_nil_of_length_eq_zero (by simpa using h1), fun _ => rfl⟩
    · refine .inr ⟨g, 0, cap, rfl, (Array.getElem?_eq_some_iff.1 hg).1, fun j u hu => ?_⟩
      have := hc g rfl j u hu
      rwa [Addr.add_lit] at this
theorem ApC.mono {base B : Nat} {e : TypeId} {size : Nat} {w : World} {v : Value} {n : Nat} {cs : List Value} (h : ApC base e size w v n cs) (hB : B ≤ base) : ApC B e size w v n cs := by
  rcases h with h | ⟨h1, h2 | ⟨g, cap, cur, e, hb, r⟩⟩
  · exact .inl h
  · exact .inr ⟨h1, .inl h2⟩
  · exact .inr ⟨h1, .inr ⟨g, cap, cur, e, Nat.le_trans hB hb, r⟩⟩
theorem ApC.next {base : Nat} {e : TypeId} {size : Nat} {w w' : World} {v : Value} {n : Nat} {cs : List Value} (h : ApC base e size w v n cs) (hb : Below w.heap.size w w') : ApC base e size w' v n cs := by
  rcases h with h | h
  · exact .inl h
  · exact .inr (World.ownsRow.kept h (grown_new hb) (by cases hv : v.ownBlock <;> simp))
theorem src_none {t e : TypeId} {size : Nat} (ht : Tryz.prog.underlying t = some (.slice e)) (p : Option Addr) (c : Nat) (w : World) : Src Tryz.prog size t (.slice p 0 c) 0 [] w := by
  cases p with
  | none => exact Src.ofNil w ht c
  | some a => exact Src.ofSlice w ht a 0 c [] (by simp) (fun j u hu => by cases hu) (fun u hu => by cases hu)
theorem run_ap_none {t e : TypeId} {z : Value} {size bytes : Nat} (E : EltI t e z size bytes) (ty : TypeId) (w : World) (p p' : Option Addr) (n c c' : Nat) (hle : n ≤ c) :
    (Builtin.append_ #[t, t] ty #[.slice p n c, .slice p' 0 c']).run Tryz.prog w = .ok (.slice p n c) w := by
  obtain ⟨i, hi, _, h2, _⟩ := E.inf
  have hs := src_none (size := i.size) E.und p' c' w
  cases p <;> simp [Builtin.append_, run_underlying E.und, sizeOf, typeInfo, hi, hs.len, hle, hs.cells, storeCells]
theorem run_ap {t e : TypeId} {z : Value} {size bytes : Nat} (E : EltI t e z size bytes) (ty : TypeId) {base : Nat} {w : World} {v u : Value} {n m : Nat} {cs ds : List Value} (ha : ApC base e size w v n cs) (hr : RdC w u m ds) (hd : ds.length = m * size)
    (h1 : ∀ u ∈ ds, u.oneCell' = true) (h63 : n + m ≤ maxLen) (hby : (n + m) * bytes ≤ 140737488355328) (hb : base ≤ w.heap.size) :
    ∃ v' w', (Builtin.append_ #[t, t] ty #[v, u]).run Tryz.prog w = .ok v' w' ∧ ApC base e size w' v' (n + m) (cs ++ ds) ∧ Below base w w' := by
  rcases hr with ⟨p', c', rfl, rfl, rfl, hz⟩ | ⟨b, off, c, rfl, hbl, hc⟩
  · obtain ⟨p, c, rfl, hle⟩ := ha.form
    exact ⟨_, w, run_ap_none E ty w p p' n c c' hle, by rw [List.append_nil]; exact ha, Below.refl _ _⟩
  · obtain ⟨i, hi, hi1, hi2, hi3⟩ := E.inf
    have hcells : ∀ j u, ds[j]? = some u → w.cell? ((⟨b, off, none⟩ : Addr).add j) = some u := fun j u hu => by rw [Addr.add_lit]; exact hc j u hu
    rcases ha with ⟨p, rfl, rfl, rfl⟩ | ha
    · rcases Nat.eq_zero_or_pos m with rfl | hm
      · obtain rfl : ds = [] := List.eq_nil_of_length_eq_zero (by simpa using hd)
        exact ⟨_, w, run_ap_none E ty w p _ 0 0 c (Nat.le_refl _), .inl ⟨p, rfl, rfl, rfl⟩, Below.refl _ _⟩
      · have hs : Src Tryz.prog i.size t (.slice (some ⟨b, off, none⟩) m c) m ds w := Src.ofSlice w E.und _ m c ds (by rw [hi2]; exact hd) hcells h1
        have hold := (src_none (size := i.size) E.und p 0 w).cellsD
        have hr := run_append_grow_src (P := Tryz.prog) w t t ty e i z E.und hi hi1 p 0 0 [] hold _ m ds hs (by omega) (by simp only [maxLen] at h63; omega) (growslice_fits (by omega) (by rw [hi3]; exact hby))
        have hge := grownCap_ge w (0 + m) 0 e
        have hcm : grownCap w (0 + m) 0 e ≤ maxLen := grownCap_le_maxLen w (0 + m) 0 e h63
        refine ⟨_, _, hr, .inr ⟨by rw [List.nil_append, hd, Nat.zero_add], .inr ⟨w.heap.size, _, _, rfl, hb, heap_alloc_new w.drew _, hge, hcm, ?_, ?_⟩⟩, ((Below.refl _ w).drew).alloc hb _⟩
        · simp only [Array.size_append, List.size_toArray, size_zeroCells, E.zs, List.nil_append, hd, ← Nat.add_mul]
          congr 1
          omega
        · simp only [Array.toList_append, List.nil_append]
          rw [show (0 + m) * size = ds.length by rw [hd, Nat.zero_add]]
          exact List.take_left
    · obtain ⟨v', w', hrun, h2, h3, _⟩ := run_append_own (P := Tryz.prog) w base t ty e i z size bytes E.und hi hi1 hi2 hi3 E.zs E.sz v n cs ha ⟨b, off, none⟩ m c ds hd hcells h1 h63 hby hb
      exact ⟨v', w', hrun, .inr h2, (Below.refl _ w).grown h3 hb fun k hk => (World.ownsRow.lt ha k hk).1⟩
theorem wpl_ap {t e : TypeId} {z : Value} {size bytes : Nat} (E : EltI t e z size bytes) {w : World} {ops : Array Oper} {rest : List Oper} {o : Oper} {a : Act} {Q : Exit → Act → World → Prop} (hgd : o.guard = none) (s x : Operand)
    (ho : o.op = .call { callee := .builtin .append, args := #[s, x], argTypes := #[t, t] })
    {base : Nat} {v u : Value} {n m : Nat} {cs ds : List Value} (hs : a.eval s = v) (ha : ApC base e size w v n cs) (hx : a.eval x = u) (hr : RdC w u m ds) (hd : ds.length = m * size)
    (h1 : ∀ u ∈ ds, u.oneCell' = true) (h63 : n + m ≤ maxLen) (hby : (n + m) * bytes ≤ 140737488355328) (hb : base ≤ w.heap.size)
    (h : ∀ p c w', ApC base e size w' (.slice p (n + m) c) (n + m) (cs ++ ds) → n + m ≤ c → Below base w w' → wpList Tryz.prog ops Q rest (a.put o.dst (.slice p (n + m) c)) w') :
    wpList Tryz.prog ops Q (o :: rest) a w := by
  refine wpList_plain hgd fun K hK => ?_
  obtain ⟨v', w', hrun, h2, h3⟩ := run_ap E o.type ha hr hd h1 h63 hby hb
  obtain ⟨p, c, rfl, hle⟩ := h2.form
  unfold Oper.wp
  simp [execOp, ho, resolve, invoke, builtin, hs, hx, hrun, Result.andThen]
  exact hK _ _ (h p c w' h2 hle h3)

/-- As RdC, in none of the blocks M. -/
def RdF (M : Nat → Prop) (w : World) (v : Value) (n : Nat) (cs : List Value) : Prop :=
  (∃ p c, v = .slice p 0 c ∧ n = 0 ∧ cs = [] ∧ (p = none → c = 0)) ∨ ∃ b off c, v = .slice (some ⟨b, off, none⟩) n c ∧ b < w.heap.size ∧ ¬ M b ∧ CellsC w b off cs
theorem RdF.rdc {M : Nat → Prop} {w : World} {v : Value} {n : Nat} {cs : List Value} (h : RdF M w v n cs) : RdC w v n cs := by
  rcases h with h | ⟨b, off, c, e, h1, _, h2⟩
  · exact .inl h
  · exact .inr ⟨b, off, c, e, h1, h2⟩
theorem RdC.rdf {M : Nat → Prop} {w : World} {v : Value} {n : Nat} {cs : List Value} (h : RdC w v n cs) (hm : ∀ b, M b → w.heap.size ≤ b) : RdF M w v n cs := by
  rcases h with h | ⟨b, off, c, e, h1, h2⟩
  · exact .inl h
  · exact .inr ⟨b, off, c, e, h1, fun k => by have := hm b k; omega, h2⟩
theorem RdF.kept {M : Nat → Prop} {w w' : World} {v : Value} {n : Nat} {cs : List Value} (h : RdF M w v n cs) (hs : w.heap.size ≤ w'.heap.size) (hk : ∀ b, b < w.heap.size → ¬ M b → w'.heap[b]? = w.heap[b]?) : RdF M w' v n cs := by
  rcases h with h | ⟨b, off, c, e, h1, h0, h2⟩
  · exact .inl h
  · exact .inr ⟨b, off, c, e, Nat.lt_of_lt_of_le h1 hs, h0, fun j u hu => (World.cell?_of_block (a := ⟨b, off + j, none⟩) (hk b h1 h0)).trans (h2 j u hu)⟩
theorem RdF.moved {M M' : Nat → Prop} {w : World} {v : Value} {n : Nat} {cs : List Value} (h : RdF M w v n cs) (hm : ∀ b, M' b → b < w.heap.size → M b) : RdF M' w v n cs := by
  rcases h with h | ⟨b, off, c, e, h1, h0, h2⟩
  · exact .inl h
  · exact .inr ⟨b, off, c, e, h1, fun k => h0 (hm b k h1), h2⟩

theorem RdF.next {M : Nat → Prop} {w w' : World} {v : Value} {n : Nat} {cs : List Value} (h : RdF M w v n cs) (hb : Below w.heap.size w w') : RdF M w' v n cs := h.kept hb.size fun b hl _ => hb.block b hl
theorem run_own {t e : TypeId} {z : Value} {size bytes : Nat} (E : EltI t e z size bytes) (ty : TypeId) {base : Nat} {w : World} {v : Value} {n m c : Nat} {a : Addr} {cs ds : List Value} (ha : w.ownsRow base e size v n cs) (hr : ∀ j u, ds[j]? = some u → w.cell? (a.add j) = some u) (hd : ds.length = m * size)
    (h1 : ∀ u ∈ ds, u.oneCell' = true) (h63 : n + m ≤ maxLen) (hby : (n + m) * bytes ≤ 140737488355328) (hb : base ≤ w.heap.size) (hm : 0 < m) :
    ∃ v' w', (Builtin.append_ #[t, t] ty #[v, .slice (some a) m c]).run Tryz.prog w = .ok v' w' ∧ w'.ownsRow base e size v' (n + m) (cs ++ ds) ∧ w.grownBy w' v.ownBlock ∧ (v'.ownBlock = v.ownBlock ∨ v'.ownBlock = some w.heap.size) := by
  obtain ⟨i, hi, hi1, hi2, hi3⟩ := E.inf
  obtain ⟨v', w', hrun, h2, h3, h4⟩ := run_append_own (P := Tryz.prog) w base t ty e i z size bytes E.und hi hi1 hi2 hi3 E.zs E.sz v n cs ha a m c ds hd hr h1 h63 hby hb
  refine ⟨v', w', hrun, h2, h3, ?_⟩
  have hsmall : n + m ≤ 9223372036854775807 := by simp only [maxLen] at h63; omega
  subst hi2
  subst hi3
  rcases ha with ⟨hlen, ⟨rfl, rfl⟩ | ⟨g, cap, cur, rfl, hbg, hg, hnc, hcm, hcs, htake⟩⟩
  · have hr2 := run_append_nil (P := Tryz.prog) w t ty e i z E.und hi hi1 a m c ds hd hr (by omega) (by omega) (by simp only [Nat.zero_add] at hby; omega)
    have := hrun.symm.trans hr2
    simp only [Result.ok.injEq] at this
    rw [this.1]
    exact .inr rfl
  · by_cases hroom : n + m ≤ cap
    · have hfit : n * i.size + ds.length ≤ cur.size := by rw [hd, hcs, ← Nat.add_mul]; exact Nat.mul_le_mul_right _ hroom
      have hr2 := run_append_room (P := Tryz.prog) w t ty e i E.und hi g n cap cur hg a m c ds hd hr h1 hroom hfit
      have := hrun.symm.trans hr2
      simp only [Result.ok.injEq] at this
      rw [this.1]
      exact .inl rfl
    · have holds : ∀ j u, cs[j]? = some u → w.cell? ((⟨g, 0, none⟩ : Addr).add j) = some u := World.ownsRow.cells (w := w) (base := base) (e := e) (size := i.size) (n := n) (v := .slice (some ⟨g, 0, none⟩) n cap) ⟨hlen, .inr ⟨g, cap, cur, rfl, hbg, hg, hnc, hcm, hcs, htake⟩⟩ (g := g) rfl
      have hr2 := run_append_grow (P := Tryz.prog) w t ty e i z E.und hi hi1 ⟨g, 0, none⟩ n cap cs hlen holds a m c ds hd hr (by omega) (by omega) (growslice_fits (by omega) hby)
      have := hrun.symm.trans hr2
      simp only [Result.ok.injEq] at this
      rw [this.1]
      exact .inr rfl
/-- Anything that is read, behind a row of the call's own. -/
theorem run_ow {t e : TypeId} {z : Value} {size bytes : Nat} (E : EltI t e z size bytes) (ty : TypeId) {base : Nat} {w : World} {v u : Value} {n m : Nat} {cs ds : List Value} (ha : w.ownsRow base e size v n cs) (hr : RdC w u m ds) (hd : ds.length = m * size)
    (h1 : ∀ u ∈ ds, u.oneCell' = true) (h63 : n + m ≤ maxLen) (hby : (n + m) * bytes ≤ 140737488355328) (hb : base ≤ w.heap.size) :
    ∃ v' w', (Builtin.append_ #[t, t] ty #[v, u]).run Tryz.prog w = .ok v' w' ∧ w'.ownsRow base e size v' (n + m) (cs ++ ds) ∧ Below base w w' := by
  rcases hr with ⟨p', c', rfl, rfl, rfl, hz⟩ | ⟨b, off, c, rfl, hbl, hc⟩
  · have hap : ApC base e size w v n cs := .inr ha
    obtain ⟨p, c, rfl, hle⟩ := hap.form
    exact ⟨_, w, run_ap_none E ty w p p' n c c' hle, by rw [List.append_nil]; exact ha, Below.refl _ _⟩
  · obtain ⟨i, hi, hi1, hi2, hi3⟩ := E.inf
    have hcells : ∀ j u, ds[j]? = some u → w.cell? ((⟨b, off, none⟩ : Addr).add j) = some u := fun j u hu => by rw [Addr.add_lit]; exact hc j u hu
    obtain ⟨v', w', hrun, h2, h3, _⟩ := run_append_own (P := Tryz.prog) w base t ty e i z size bytes E.und hi hi1 hi2 hi3 E.zs E.sz v n cs ha ⟨b, off, none⟩ m c ds hd hcells h1 h63 hby hb
    exact ⟨v', w', hrun, h2, (Below.refl _ w).grown h3 hb fun k hk => (World.ownsRow.lt ha k hk).1⟩
end Go.Proofs.YtkjffoebcblpoaaGreat.gn
end
section
set_option linter.unusedVariables false
set_option linter.unusedSimpArgs false
namespace Go.Proofs.YtkjffoebcblpoaaGreat.po
open Go.Proofs.YtkjffoebcblpoaaGreat.ex

abbrev Nm := List UInt8
abbrev U := Nm × Int
def less (a b : Nm) : Bool := Go.Op.bytesLess a b
theorem less_def (a b : Nm) : Go.Op.bytesLess a b = less a b := rfl
theorem less_cons (x y : UInt8) (r s : Nm) : less (x :: r) (y :: s) = (decide (x < y) || (x == y && less r s)) := rfl
theorem less_none (a : Nm) : less a [] = false := by cases a <;> rfl
theorem less_nil (b : Nm) : less [] b = true ↔ b ≠ [] := by cases b <;> simp [less, Go.Op.bytesLess]
theorem less_self : ∀ a : Nm, less a a = false
  | [] => rfl
  | x :: r => by rw [less_cons, less_self r]; simp
theorem less_trans : ∀ {a b c : Nm}, less a b = true → less b c = true → less a c = true
  | _, [], _, h, _ => by rw [less_none] at h; cases h
  | _, _ :: _, [], _, h => by rw [less_none] at h; cases h
  | [], _ :: _, _ :: _, _, _ => rfl
  | x :: r, y :: s, z :: t, h1, h2 => by
    rw [less_cons, Bool.or_eq_true, Bool.and_eq_true, decide_eq_true_eq, beq_iff_eq] at *
    rcases h1 with h1 | ⟨rfl, h1⟩
    · rcases h2 with h2 | ⟨rfl, h2⟩
      · exact .inl (UInt8.lt_trans h1 h2)
      · exact .inl h1
    · rcases h2 with h2 | ⟨rfl, h2⟩
      · exact .inl h2
      · exact .inr ⟨rfl, less_trans h1 h2⟩
theorem less_tri : ∀ {a b : Nm}, less a b = false → a = b ∨ less b a = true
  | [], [], _ => .inl rfl
  | [], _ :: _, h => by cases h
  | _ :: _, [], _ => .inr rfl
  | x :: r, y :: s, h => by
    rw [less_cons, Bool.or_eq_false_iff, Bool.and_eq_false_iff, decide_eq_false_iff_not, beq_eq_false_iff_ne] at h
    by_cases e : x = y
    · subst e
      rcases less_tri (h.2.resolve_left fun hn => hn rfl) with h3 | h3
      · exact .inl (by rw [h3])
      · exact .inr (by rw [less_cons, h3]; simp)
    · have : y < x := UInt8.lt_of_le_of_ne (UInt8.not_lt.1 h.1) (Ne.symm e)
      exact .inr (by rw [less_cons]; simp [this])
theorem less_asymm {a b : Nm} (h : less a b = true) : less b a = false := by
  cases h2 : less b a with
  | false => rfl
  | true => have := less_trans h h2; rw [less_self] at this; cases this
theorem less_ne {a b : Nm} (h : less a b = true) : a ≠ b := by rintro rfl; rw [less_self] at h; cases h

def Rise (l : List U) : Prop := l.Pairwise fun p q => less p.1 q.1 = true
def lk : List U → Nm → Int
  | [], _ => 0
  | p :: r, u => if p.1 = u then p.2 else lk r u
def sm : List U → Int
  | [] => 0
  | p :: r => p.2 + sm r
def pos : List U → Nm → Nat
  | [], _ => 0
  | p :: r, u => if less p.1 u then pos r u + 1 else 0
def thr : List U → Nm → Bool
  | [], _ => false
  | p :: r, u => if less p.1 u then thr r u else p.1 == u
def withU : List U → Nm → Int → List U
  | [], u, n => if 0 < n then [(u, n)] else []
  | p :: r, u, n => if less p.1 u then p :: withU r u n else (if 0 < n then [(u, n)] else []) ++ (if p.1 = u then r else p :: r)

theorem pos_le : ∀ (l : List U) (u : Nm), pos l u ≤ l.length
  | [], _ => Nat.le_refl _
  | p :: r, u => by
    unfold pos
    split
    · have := pos_le r u; simp only [List.length_cons]; omega
    · exact Nat.zero_le _
theorem pos_lt : ∀ (l : List U) (u : Nm) (t : Nat), t < pos l u → less l[t]!.1 u = true
  | [], _, t, h => absurd h (Nat.not_lt_zero _)
  | p :: r, u, t, h => by
    unfold pos at h
    split at h
    · rename_i h1
      cases t with
      | zero => exact h1
      | succ t => exact pos_lt r u t (by omega)
    · exact absurd h (Nat.not_lt_zero _)
theorem pos_ge : ∀ {l : List U} {u : Nm}, Rise l → ∀ t, pos l u ≤ t → t < l.length → less l[t]!.1 u = false
  | [], _, _, t, _, h => absurd h (Nat.not_lt_zero _)
  | p :: r, u, hr, t, h, h2 => by
    obtain ⟨h3, h4⟩ := List.pairwise_cons.1 hr
    unfold pos at h
    split at h
    · cases t with
      | zero => omega
      | succ t => exact pos_ge h4 t (by omega) (by simpa using h2)
    · rename_i h5
      have h5 : less p.1 u = false := by simpa using h5
      cases t with
      | zero => exact h5
      | succ t =>
        have ht : t < r.length := by simpa using h2
        have e : (p :: r)[t + 1]! = r[t]! := by simp
        rw [e, getElem!_pos r t ht]
        cases h6 : less r[t].1 u with
        | false => rfl
        | true => rw [less_trans (h3 _ (List.getElem_mem ht)) h6] at h5; cases h5
theorem thr_eq : ∀ (l : List U) (u : Nm), thr l u = (decide (pos l u < l.length) && (l[pos l u]!.1 == u))
  | [], _ => rfl
  | p :: r, u => by
    unfold thr pos
    split
    · rw [thr_eq r u]; simp
    · simp
theorem lk_none : ∀ {l : List U} {u : Nm}, (∀ p ∈ l, p.1 ≠ u) → lk l u = 0
  | [], _, _ => rfl
  | p :: r, u, h => by
    unfold lk
    rw [if_neg (h p List.mem_cons_self)]
    exact lk_none fun q hq => h q (List.mem_cons_of_mem _ hq)
theorem far {p : U} {r : List U} {u : Nm} (h : ∀ q ∈ r, less p.1 q.1 = true) (hu : less p.1 u = false) : ∀ q ∈ r, q.1 ≠ u := fun q hq e => by
  have := h q hq
  rw [e, hu] at this
  cases this
theorem lk_eq : ∀ {l : List U} {u : Nm}, Rise l → lk l u = if thr l u then l[pos l u]!.2 else 0
  | [], _, _ => rfl
  | p :: r, u, hr => by
    obtain ⟨h3, h4⟩ := List.pairwise_cons.1 hr
    unfold lk thr pos
    by_cases e : p.1 = u
    · rw [if_pos e]
      subst e
      simp [less_self p.1]
    · rw [if_neg e]
      cases h : less p.1 u with
      | true => rw [lk_eq h4]; simp
      | false =>
        rw [lk_none (far h3 h)]
        simp [e]
theorem form_with : ∀ (l : List U) (u : Nm) (n : Int), withU l u n = (l.take (pos l u) ++ if 0 < n then [(u, n)] else []) ++ l.drop (if thr l u then pos l u + 1 else pos l u)
  | [], u, n => by unfold withU pos thr; simp
  | p :: r, u, n => by
    unfold withU pos thr
    cases h : less p.1 u with
    | true =>
      simp only [if_true]
      rw [form_with r u n]
      cases thr r u <;> simp
    | false =>
      simp only [Bool.false_eq_true, if_false, List.take_zero, List.nil_append]
      by_cases e : p.1 = u <;> simp [e]
theorem mem_with : ∀ {l : List U} {u : Nm} {n : Int} {p : U}, p ∈ withU l u n → (p = (u, n) ∧ 0 < n) ∨ p ∈ l
  | [], u, n, p, h => by
    unfold withU at h
    split at h
    · rename_i h2; exact .inl ⟨List.mem_singleton.1 h, h2⟩
    · cases h
  | q :: r, u, n, p, h => by
    unfold withU at h
    split at h
    · rcases List.mem_cons.1 h with rfl | h
      · exact .inr List.mem_cons_self
      · exact (mem_with h).imp id fun h => List.mem_cons_of_mem _ h
    · rcases List.mem_append.1 h with h | h
      · split at h
        · rename_i h2; exact .inl ⟨List.mem_singleton.1 h, h2⟩
        · cases h
      · split at h
        · exact .inr (List.mem_cons_of_mem _ h)
        · exact .inr h
theorem rise_with : ∀ {l : List U} (u : Nm) (n : Int), Rise l → Rise (withU l u n)
  | [], u, n, _ => by unfold withU; split <;> simp [Rise]
  | p :: r, u, n, hr => by
    obtain ⟨h3, h4⟩ := List.pairwise_cons.1 hr
    unfold withU
    split
    · rename_i h5
      refine List.pairwise_cons.2 ⟨fun q hq => ?_, rise_with u n h4⟩
      rcases mem_with hq with ⟨rfl, _⟩ | hq
      · exact h5
      · exact h3 q hq
    · rename_i h5
      have h5 : less p.1 u = false := by simpa using h5
      have hX : Rise (if p.1 = u then r else p :: r) := by split; exact h4; exact hr
      split
      · refine List.pairwise_cons.2 ⟨fun q hq => ?_, hX⟩
        by_cases e : p.1 = u
        · simp only [e, if_true, List.nil_append] at hq
          rw [← e]; exact h3 q hq
        · simp only [e, if_false, List.nil_append] at hq
          have h6 := (less_tri h5).resolve_left e
          rcases List.mem_cons.1 hq with rfl | hq
          · exact h6
          · exact less_trans h6 (h3 q hq)
      · exact hX
theorem lk_with : ∀ {l : List U} (u : Nm) (n : Int) (v : Nm), Rise l → lk (withU l u n) v = if v = u then (if 0 < n then n else 0) else lk l v
  | [], u, n, v, _ => by
    unfold withU
    by_cases e : v = u
    · subst e; split <;> simp [lk]
    · have e2 : ¬ u = v := fun h => e h.symm
      split <;> simp [lk, e, e2]
  | p :: r, u, n, v, hr => by
    obtain ⟨h3, h4⟩ := List.pairwise_cons.1 hr
    unfold withU
    split
    · rename_i h5
      have hpu := less_ne h5
      show (if p.1 = v then p.2 else lk (withU r u n) v) = _
      rw [lk_with u n v h4]
      show _ = if v = u then _ else if p.1 = v then p.2 else lk r v
      by_cases e : p.1 = v
      · rw [if_pos e, if_pos e, if_neg (fun h => hpu (e.trans h))]
      · rw [if_neg e, if_neg e]
    · rename_i h5
      have h5 : less p.1 u = false := by simpa using h5
      have hru := far h3 h5
      by_cases e : v = u
      · subst e
        rw [if_pos rfl]
        split
        · simp [lk]
        · rw [List.nil_append]
          refine lk_none fun q hq => ?_
          by_cases e2 : p.1 = v
          · rw [if_pos e2] at hq; exact hru q hq
          · rw [if_neg e2] at hq
            rcases List.mem_cons.1 hq with rfl | hq
            · exact e2
            · exact hru q hq
      · have e2 : ¬ u = v := fun h => e h.symm
        rw [if_neg e]
        have hX : lk (if p.1 = u then r else p :: r) v = lk (p :: r) v := by
          split
          · rename_i h6
            show _ = if p.1 = v then p.2 else lk r v
            rw [if_neg (by rw [h6]; exact e2)]
          · rfl
        split
        · simp only [List.singleton_append]
          show (if u = v then n else _) = _
          rw [if_neg e2, hX]
        · rw [List.nil_append, hX]
theorem sm_append (a b : List U) : sm (a ++ b) = sm a + sm b := by
  induction a with
  | nil => show sm b = 0 + sm b; omega
  | cons p r ih => show p.2 + sm (r ++ b) = p.2 + sm r + sm b; omega
theorem sm_with : ∀ {l : List U} (u : Nm) (n : Int), Rise l → sm (withU l u n) = sm l - lk l u + (if 0 < n then n else 0)
  | [], u, n, _ => by unfold withU; split <;> simp [sm, lk]
  | p :: r, u, n, hr => by
    obtain ⟨h3, h4⟩ := List.pairwise_cons.1 hr
    unfold withU
    split
    · rename_i h5
      show p.2 + sm (withU r u n) = p.2 + sm r - (if p.1 = u then p.2 else lk r u) + _
      rw [sm_with u n h4, if_neg (less_ne h5)]
      omega
    · rename_i h5
      have h5 : less p.1 u = false := by simpa using h5
      have h6 := lk_none (far h3 h5)
      rw [sm_append]
      show _ = p.2 + sm r - (if p.1 = u then p.2 else lk r u) + _
      rw [h6]
      have e1 : sm (if 0 < n then [(u, n)] else []) = if 0 < n then n else 0 := by split <;> simp [sm]
      have e2 : sm (if p.1 = u then r else p :: r) = p.2 + sm r - (if p.1 = u then p.2 else 0) := by
        split
        · omega
        · show p.2 + sm r = _; omega
      rw [e1, e2]
      omega
theorem lk_mem : ∀ {l : List U} {u : Nm}, lk l u ≠ 0 → (u, lk l u) ∈ l
  | [], _, h => absurd rfl h
  | p :: r, u, h => by
    unfold lk at h ⊢
    by_cases e : p.1 = u
    · rw [if_pos e, ← e]; exact List.mem_cons_self
    · rw [if_neg e] at h ⊢
      exact List.mem_cons_of_mem _ (lk_mem h)
theorem mem_lk : ∀ {l : List U} {p : U}, Rise l → p ∈ l → lk l p.1 = p.2
  | q :: r, p, hr, h => by
    obtain ⟨h3, h4⟩ := List.pairwise_cons.1 hr
    unfold lk
    rcases List.mem_cons.1 h with rfl | h
    · rw [if_pos rfl]
    · rw [if_neg (less_ne (h3 p h)), mem_lk h4 h]
def Pos (l : List U) : Prop := ∀ p ∈ l, 0 < p.2
theorem lk_pos {l : List U} (h : Pos l) (u : Nm) : 0 ≤ lk l u := by
  by_cases e : lk l u = 0
  · omega
  · have := h _ (lk_mem e); dsimp only at this; omega
theorem sm_pos : ∀ {l : List U}, Pos l → (l.length : Int) ≤ sm l
  | [], _ => by simp [sm]
  | p :: r, h => by
    have h1 := sm_pos (l := r) fun q hq => h q (List.mem_cons_of_mem _ hq)
    have h2 := h p List.mem_cons_self
    show ((r.length + 1 : Nat) : Int) ≤ p.2 + sm r
    omega
theorem lk_sm : ∀ {l : List U}, Pos l → ∀ u, lk l u ≤ sm l
  | [], _, _ => Int.le_refl _
  | p :: r, h, u => by
    have h0 : Pos r := fun q hq => h q (List.mem_cons_of_mem _ hq)
    have h1 := sm_pos h0
    have h2 := h p List.mem_cons_self
    have h3 := lk_sm h0 u
    unfold lk
    show _ ≤ p.2 + sm r
    split <;> omega
theorem rise_ext : ∀ {a b : List U}, Rise a → Rise b → Pos a → Pos b → (∀ u, lk a u = lk b u) → a = b
  | [], [], _, _, _, _, _ => rfl
  | [], q :: s, _, _, _, hb, h => by
    have h1 := h q.1
    have h2 := hb q List.mem_cons_self
    have h3 : lk (q :: s) q.1 = q.2 := if_pos rfl
    rw [h3] at h1
    have h4 : lk [] q.1 = 0 := rfl
    omega
  | p :: r, [], _, _, ha, _, h => by
    have h1 := h p.1
    have h2 := ha p List.mem_cons_self
    have h3 : lk (p :: r) p.1 = p.2 := if_pos rfl
    rw [h3] at h1
    have h4 : lk [] p.1 = 0 := rfl
    omega
  | p :: r, q :: s, hra, hrb, ha, hb, h => by
    obtain ⟨a1, a2⟩ := List.pairwise_cons.1 hra
    obtain ⟨b1, b2⟩ := List.pairwise_cons.1 hrb
    have hp := ha p List.mem_cons_self
    have hq := hb q List.mem_cons_self
    have hpq : p.1 = q.1 := by
      cases h1 : less p.1 q.1 with
      | true =>
        have h2 : lk (q :: s) p.1 = 0 := lk_none fun z hz => by
          rcases List.mem_cons.1 hz with rfl | hz
          · exact fun e => less_ne h1 e.symm
          · exact fun e => less_ne (less_trans h1 (b1 z hz)) e.symm
        have h3 : lk (p :: r) p.1 = p.2 := if_pos rfl
        have := h p.1
        omega
      | false =>
        rcases less_tri h1 with e | h2
        · exact e
        · have h3 : lk (p :: r) q.1 = 0 := lk_none fun z hz => by
            rcases List.mem_cons.1 hz with rfl | hz
            · exact fun e => less_ne h2 e.symm
            · exact fun e => less_ne (less_trans h2 (a1 z hz)) e.symm
          have h4 : lk (q :: s) q.1 = q.2 := if_pos rfl
          have := h q.1
          omega
    have e : p = q := by
      have h3 : lk (p :: r) p.1 = p.2 := if_pos rfl
      have h4 : lk (q :: s) q.1 = q.2 := if_pos rfl
      have := h p.1
      rw [h3, hpq, h4] at this
      exact Prod.ext hpq this
    subst e
    rw [rise_ext a2 b2 (fun z hz => ha z (List.mem_cons_of_mem _ hz)) (fun z hz => hb z (List.mem_cons_of_mem _ hz)) fun u => by
      by_cases e : p.1 = u
      · rw [lk_none fun z hz e2 => less_ne (a1 z hz) (e.trans e2.symm), lk_none fun z hz e2 => less_ne (b1 z hz) (e.trans e2.symm)]
      · have := h u
        unfold lk at this
        rwa [if_neg e, if_neg e] at this]
theorem pos_with {l : List U} (h : Pos l) (u : Nm) (n : Int) : Pos (withU l u n) := fun p hp => by
  rcases mem_with hp with ⟨rfl, h2⟩ | h2
  · exact h2
  · exact h p h2
/-- A number turned, and turned back. -/
theorem with_back {l : List U} (hr : Rise l) (hp : Pos l) (u : Nm) (n : Int) : withU (withU l u n) u (lk l u) = l :=
  rise_ext (rise_with u _ (rise_with u n hr)) hr (pos_with (pos_with hp u n) u _) hp fun v => by
    rw [lk_with u _ v (rise_with u n hr), lk_with u n v hr]
    have := lk_pos hp u
    by_cases e : v = u
    · subst e; rw [if_pos rfl]; split <;> omega
    · rw [if_neg e, if_neg e]
end Go.Proofs.YtkjffoebcblpoaaGreat.po
end
