/- For any seat: rows in memory, of elements of any size: what is read, what may be appended to. -/
import Derived.Test.YtiaidlpceibnpaaGen
import Derived.Deep.AppendSrc
import Derived.Maps.AppendAt
import Derived.Laws.CopyOwn
import Derived.Laws.AppendOwn
set_option linter.unusedVariables false
set_option linter.unusedSimpArgs false
set_option maxRecDepth 100000
namespace Go.Proofs.Ytiaidlpceibnpaa.gn
open Go.RowKit

theorem grown_new {w w' : World} (h : Below w.heap.size w w') : w.grownBy w' none := ⟨h.os, h.tape, h.output, h.size, fun k hk _ => h.block k hk⟩
def CellsC (w : World) (b off : Nat) (cs : List Value) : Prop := ∀ j u, cs[j]? = some u → w.cell? ⟨b, off + j, none⟩ = some u
/-- v is a slice of n elements, of these cells: any slice that is empty, or it names its block. -/
def RdC (w : World) (v : Value) (n : Nat) (cs : List Value) : Prop :=
  (∃ p c, v = .slice p 0 c ∧ n = 0 ∧ cs = [] ∧ (p = none → c = 0)) ∨ ∃ b off c, v = .slice (some ⟨b, off, none⟩) n c ∧ b < w.heap.size ∧ CellsC w b off cs
theorem CellsC.below {w w' : World} {b off : Nat} {cs : List Value} (h : CellsC w b off cs) {B : Nat} (hb : Below B w w') (hB : b < B) : CellsC w' b off cs := fun j u hu => (hb.cell (p := ⟨b, off + j, none⟩) hB).trans (h j u hu)
theorem RdC.next {w w' : World} {v : Value} {n : Nat} {cs : List Value} (h : RdC w v n cs) (hb : Below w.heap.size w w') : RdC w' v n cs := by
  rcases h with h | ⟨b, off, c, e, hlt, hc⟩
  · exact .inl h
  · exact .inr ⟨b, off, c, e, Nat.lt_of_lt_of_le hlt hb.size, hc.below hb hlt⟩
theorem RdC.form {w : World} {v : Value} {n : Nat} {cs : List Value} (h : RdC w v n cs) : ∃ p c, v = .slice p n c := by
  rcases h with ⟨p, c, rfl, rfl, _⟩ | ⟨b, off, c, rfl, _⟩
  · exact ⟨_, _, rfl⟩
  · exact ⟨_, _, rfl⟩
/-- What an element of a slice is made of. -/
structure EltI (t e : TypeId) (z : Value) (size bytes : Nat) : Prop where
  und : Try.prog.underlying t = some (.slice e)
  inf : ∃ i, Try.prog.info? e = some i ∧ i.zero = some z ∧ i.size = size ∧ i.bytes = bytes
  zs : z.cells.size = size
  sz : 0 < size
/-- What may be appended to: an empty slice with no room, or a row of the call's own. -/
def ApC (base : Nat) (e : TypeId) (size : Nat) (w : World) (v : Value) (n : Nat) (cs : List Value) : Prop :=
  (∃ p, v = .slice p 0 0 ∧ n = 0 ∧ cs = []) ∨ w.ownsRow base e size v n cs
theorem ApC.form {base : Nat} {e : TypeId} {size : Nat} {w : World} {v : Value} {n : Nat} {cs : List Value} (h : ApC base e size w v n cs) : ∃ p c, v = .slice p n c ∧ n ≤ c := by
  rcases h with ⟨p, rfl, rfl, _⟩ | ⟨_, ⟨rfl, rfl⟩ | ⟨g, cap, cur, rfl, _, _, h, _⟩⟩
  · exact ⟨_, _, rfl, Nat.le_refl _⟩
  · exact ⟨_, _, rfl, Nat.le_refl _⟩
  · exact ⟨_, _, rfl, h⟩
theorem ApC.rdc {base : Nat} {e : TypeId} {size : Nat} {w : World} {v : Value} {n : Nat} {cs : List Value} (h : ApC base e size w v n cs) : RdC w v n cs := by
  rcases h with ⟨p, rfl, rfl, rfl⟩ | h
  · exact .inl ⟨p, 0, rfl, rfl, rfl, fun _ => rfl⟩
  · have hc := fun g => World.ownsRow.cells h (g := g)
    obtain ⟨h1, ⟨rfl, rfl⟩ | ⟨g, cap, cur, rfl, hb, hg, _⟩⟩ := h
    · exact .inl ⟨none, 0, rfl, rfl, List.eq_nil_of_length_eq_zero (by simpa using h1), fun _ => rfl⟩
    · refine .inr ⟨g, 0, cap, rfl, (Array.getElem?_eq_some_iff.1 hg).1, fun j u hu => ?_⟩
      have := hc g rfl j u hu
      rwa [Addr.add_lit] at this
theorem ApC.mono {base B : Nat} {e : TypeId} {size : Nat} {w : World} {v : Value} {n : Nat} {cs : List Value} (h : ApC base e size w v n cs) (hB : B ≤ base) : ApC B e size w v n cs := by
  rcases h with h | ⟨h1, h2 | ⟨g, cap, cur, e, hb, r⟩⟩
  · exact .inl h
  · exact .inr ⟨h1, .inl h2⟩
  · exact .inr ⟨h1, .inr ⟨g, cap, cur, e, Nat.le_trans hB hb, r⟩⟩
theorem ApC.next {base : Nat} {e : TypeId} {size : Nat} {w w' : World} {v : Value} {n : Nat} {cs : List Value} (h : ApC base e size w v n cs) (hb : Below w.heap.size w w') : ApC base e size w' v n cs := by
  rcases h with h | h
  · exact .inl h
  · exact .inr (World.ownsRow.kept h (grown_new hb) (by cases hv : v.ownBlock <;> simp))
theorem src_none {t e : TypeId} {size : Nat} (ht : Try.prog.underlying t = some (.slice e)) (p : Option Addr) (c : Nat) (w : World) : Src Try.prog size t (.slice p 0 c) 0 [] w := by
  cases p with
  | none => exact Src.ofNil w ht c
  | some a => exact Src.ofSlice w ht a 0 c [] (by simp) (fun j u hu => by cases hu) (fun u hu => by cases hu)
theorem run_ap_none {t e : TypeId} {z : Value} {size bytes : Nat} (E : EltI t e z size bytes) (ty : TypeId) (w : World) (p p' : Option Addr) (n c c' : Nat) (hle : n ≤ c) :
    (Builtin.append_ #[t, t] ty #[.slice p n c, .slice p' 0 c']).run Try.prog w = .ok (.slice p n c) w := by
  obtain ⟨i, hi, _, h2, _⟩ := E.inf
  have hs := src_none (size := i.size) E.und p' c' w
  cases p <;> simp [Builtin.append_, run_underlying E.und, sizeOf, typeInfo, hi, hs.len, hle, hs.cells, storeCells]
theorem run_ap {t e : TypeId} {z : Value} {size bytes : Nat} (E : EltI t e z size bytes) (ty : TypeId) {base : Nat} {w : World} {v u : Value} {n m : Nat} {cs ds : List Value} (ha : ApC base e size w v n cs) (hr : RdC w u m ds) (hd : ds.length = m * size)
    (h1 : ∀ u ∈ ds, u.oneCell' = true) (h63 : n + m ≤ maxLen) (hby : (n + m) * bytes ≤ 140737488355328) (hb : base ≤ w.heap.size) :
    ∃ v' w', (Builtin.append_ #[t, t] ty #[v, u]).run Try.prog w = .ok v' w' ∧ ApC base e size w' v' (n + m) (cs ++ ds) ∧ Below base w w' := by
  rcases hr with ⟨p', c', rfl, rfl, rfl, hz⟩ | ⟨b, off, c, rfl, hbl, hc⟩
  · obtain ⟨p, c, rfl, hle⟩ := ha.form
    exact ⟨_, w, run_ap_none E ty w p p' n c c' hle, by rw [List.append_nil]; exact ha, Below.refl _ _⟩
  · obtain ⟨i, hi, hi1, hi2, hi3⟩ := E.inf
    have hcells : ∀ j u, ds[j]? = some u → w.cell? ((⟨b, off, none⟩ : Addr).add j) = some u := fun j u hu => by rw [Addr.add_lit]; exact hc j u hu
    rcases ha with ⟨p, rfl, rfl, rfl⟩ | ha
    · rcases Nat.eq_zero_or_pos m with rfl | hm
      · obtain rfl : ds = [] := List.eq_nil_of_length_eq_zero (by simpa using hd)
        exact ⟨_, w, run_ap_none E ty w p _ 0 0 c (Nat.le_refl _), .inl ⟨p, rfl, rfl, rfl⟩, Below.refl _ _⟩
      · have hs : Src Try.prog i.size t (.slice (some ⟨b, off, none⟩) m c) m ds w := Src.ofSlice w E.und _ m c ds (by rw [hi2]; exact hd) hcells h1
        have hold := (src_none (size := i.size) E.und p 0 w).cellsD
        have hr := run_append_grow_src (P := Try.prog) w t t ty e i z E.und hi hi1 p 0 0 [] hold _ m ds hs (by omega) (by simp only [maxLen] at h63; omega) (growslice_fits (by omega) (by rw [hi3]; exact hby))
        have hge := grownCap_ge w (0 + m) 0 e
        have hcm : grownCap w (0 + m) 0 e ≤ maxLen := grownCap_le_maxLen w (0 + m) 0 e h63
        refine ⟨_, _, hr, .inr ⟨by rw [List.nil_append, hd, Nat.zero_add], .inr ⟨w.heap.size, _, _, rfl, hb, heap_alloc_new w.drew _, hge, hcm, ?_, ?_⟩⟩, ((Below.refl _ w).drew).alloc hb _⟩
        · simp only [Array.size_append, List.size_toArray, size_zeroCells, E.zs, List.nil_append, hd, ← Nat.add_mul]
          congr 1
          omega
        · simp only [Array.toList_append, List.nil_append]
          rw [show (0 + m) * size = ds.length by rw [hd, Nat.zero_add]]
          exact List.take_left
    · obtain ⟨v', w', hrun, h2, h3, _⟩ := run_append_own (P := Try.prog) w base t ty e i z size bytes E.und hi hi1 hi2 hi3 E.zs E.sz v n cs ha ⟨b, off, none⟩ m c ds hd hcells h1 h63 hby hb
      exact ⟨v', w', hrun, .inr h2, (Below.refl _ w).grown h3 hb fun k hk => (World.ownsRow.lt ha k hk).1⟩
theorem wpl_ap {t e : TypeId} {z : Value} {size bytes : Nat} (E : EltI t e z size bytes) {w : World} {ops : Array Oper} {rest : List Oper} {o : Oper} {a : Act} {Q : Exit → Act → World → Prop} (hgd : o.guard = none) (s x : Operand)
    (ho : o.op = .call { callee := .builtin .append, args := #[s, x], argTypes := #[t, t] })
    {base : Nat} {v u : Value} {n m : Nat} {cs ds : List Value} (hs : a.eval s = v) (ha : ApC base e size w v n cs) (hx : a.eval x = u) (hr : RdC w u m ds) (hd : ds.length = m * size)
    (h1 : ∀ u ∈ ds, u.oneCell' = true) (h63 : n + m ≤ maxLen) (hby : (n + m) * bytes ≤ 140737488355328) (hb : base ≤ w.heap.size)
    (h : ∀ p c w', ApC base e size w' (.slice p (n + m) c) (n + m) (cs ++ ds) → n + m ≤ c → Below base w w' → wpList Try.prog ops Q rest (a.put o.dst (.slice p (n + m) c)) w') :
    wpList Try.prog ops Q (o :: rest) a w := by
  refine wpList_plain hgd fun K hK => ?_
  obtain ⟨v', w', hrun, h2, h3⟩ := run_ap E o.type ha hr hd h1 h63 hby hb
  obtain ⟨p, c, rfl, hle⟩ := h2.form
  unfold Oper.wp
  simp [execOp, ho, resolve, invoke, builtin, hs, hx, hrun, Result.andThen]
  exact hK _ _ (h p c w' h2 hle h3)

/-- As RdC, in none of the blocks M. -/
def RdF (M : Nat → Prop) (w : World) (v : Value) (n : Nat) (cs : List Value) : Prop :=
  (∃ p c, v = .slice p 0 c ∧ n = 0 ∧ cs = [] ∧ (p = none → c = 0)) ∨ ∃ b off c, v = .slice (some ⟨b, off, none⟩) n c ∧ b < w.heap.size ∧ ¬ M b ∧ CellsC w b off cs
theorem RdF.rdc {M : Nat → Prop} {w : World} {v : Value} {n : Nat} {cs : List Value} (h : RdF M w v n cs) : RdC w v n cs := by
  rcases h with h | ⟨b, off, c, e, h1, _, h2⟩
  · exact .inl h
  · exact .inr ⟨b, off, c, e, h1, h2⟩
theorem RdC.rdf {M : Nat → Prop} {w : World} {v : Value} {n : Nat} {cs : List Value} (h : RdC w v n cs) (hm : ∀ b, M b → w.heap.size ≤ b) : RdF M w v n cs := by
  rcases h with h | ⟨b, off, c, e, h1, h2⟩
  · exact .inl h
  · exact .inr ⟨b, off, c, e, h1, fun k => by have := hm b k; omega, h2⟩
theorem RdF.kept {M : Nat → Prop} {w w' : World} {v : Value} {n : Nat} {cs : List Value} (h : RdF M w v n cs) (hs : w.heap.size ≤ w'.heap.size) (hk : ∀ b, b < w.heap.size → ¬ M b → w'.heap[b]? = w.heap[b]?) : RdF M w' v n cs := by
  rcases h with h | ⟨b, off, c, e, h1, h0, h2⟩
  · exact .inl h
  · exact .inr ⟨b, off, c, e, Nat.lt_of_lt_of_le h1 hs, h0, fun j u hu => (World.cell?_of_block (a := ⟨b, off + j, none⟩) (hk b h1 h0)).trans (h2 j u hu)⟩
theorem RdF.moved {M M' : Nat → Prop} {w : World} {v : Value} {n : Nat} {cs : List Value} (h : RdF M w v n cs) (hm : ∀ b, M' b → b < w.heap.size → M b) : RdF M' w v n cs := by
  rcases h with h | ⟨b, off, c, e, h1, h0, h2⟩
  · exact .inl h
  · exact .inr ⟨b, off, c, e, h1, fun k => h0 (hm b k h1), h2⟩

theorem RdF.next {M : Nat → Prop} {w w' : World} {v : Value} {n : Nat} {cs : List Value} (h : RdF M w v n cs) (hb : Below w.heap.size w w') : RdF M w' v n cs := h.kept hb.size fun b hl _ => hb.block b hl
theorem run_own {t e : TypeId} {z : Value} {size bytes : Nat} (E : EltI t e z size bytes) (ty : TypeId) {base : Nat} {w : World} {v : Value} {n m c : Nat} {a : Addr} {cs ds : List Value} (ha : w.ownsRow base e size v n cs) (hr : ∀ j u, ds[j]? = some u → w.cell? (a.add j) = some u) (hd : ds.length = m * size)
    (h1 : ∀ u ∈ ds, u.oneCell' = true) (h63 : n + m ≤ maxLen) (hby : (n + m) * bytes ≤ 140737488355328) (hb : base ≤ w.heap.size) (hm : 0 < m) :
    ∃ v' w', (Builtin.append_ #[t, t] ty #[v, .slice (some a) m c]).run Try.prog w = .ok v' w' ∧ w'.ownsRow base e size v' (n + m) (cs ++ ds) ∧ w.grownBy w' v.ownBlock ∧ (v'.ownBlock = v.ownBlock ∨ v'.ownBlock = some w.heap.size) := by
  obtain ⟨i, hi, hi1, hi2, hi3⟩ := E.inf
  obtain ⟨v', w', hrun, h2, h3, h4⟩ := run_append_own (P := Try.prog) w base t ty e i z size bytes E.und hi hi1 hi2 hi3 E.zs E.sz v n cs ha a m c ds hd hr h1 h63 hby hb
  refine ⟨v', w', hrun, h2, h3, ?_⟩
  have hsmall : n + m ≤ 9223372036854775807 := by simp only [maxLen] at h63; omega
  subst hi2
  subst hi3
  rcases ha with ⟨hlen, ⟨rfl, rfl⟩ | ⟨g, cap, cur, rfl, hbg, hg, hnc, hcm, hcs, htake⟩⟩
  · have hr2 := run_append_nil (P := Try.prog) w t ty e i z E.und hi hi1 a m c ds hd hr (by omega) (by omega) (by simp only [Nat.zero_add] at hby; omega)
    have := hrun.symm.trans hr2
    simp only [Result.ok.injEq] at this
    rw [this.1]
    exact .inr rfl
  · by_cases hroom : n + m ≤ cap
    · have hfit : n * i.size + ds.length ≤ cur.size := by rw [hd, hcs, ← Nat.add_mul]; exact Nat.mul_le_mul_right _ hroom
      have hr2 := run_append_room (P := Try.prog) w t ty e i E.und hi g n cap cur hg a m c ds hd hr h1 hroom hfit
      have := hrun.symm.trans hr2
      simp only [Result.ok.injEq] at this
      rw [this.1]
      exact .inl rfl
    · have holds : ∀ j u, cs[j]? = some u → w.cell? ((⟨g, 0, none⟩ : Addr).add j) = some u := World.ownsRow.cells (w := w) (base := base) (e := e) (size := i.size) (n := n) (v := .slice (some ⟨g, 0, none⟩) n cap) ⟨hlen, .inr ⟨g, cap, cur, rfl, hbg, hg, hnc, hcm, hcs, htake⟩⟩ (g := g) rfl
      have hr2 := run_append_grow (P := Try.prog) w t ty e i z E.und hi hi1 ⟨g, 0, none⟩ n cap cs hlen holds a m c ds hd hr (by omega) (by omega) (growslice_fits (by omega) hby)
      have := hrun.symm.trans hr2
      simp only [Result.ok.injEq] at this
      rw [this.1]
      exact .inr rfl
/-- Anything that is read, behind a row of the call's own. -/
theorem run_ow {t e : TypeId} {z : Value} {size bytes : Nat} (E : EltI t e z size bytes) (ty : TypeId) {base : Nat} {w : World} {v u : Value} {n m : Nat} {cs ds : List Value} (ha : w.ownsRow base e size v n cs) (hr : RdC w u m ds) (hd : ds.length = m * size)
    (h1 : ∀ u ∈ ds, u.oneCell' = true) (h63 : n + m ≤ maxLen) (hby : (n + m) * bytes ≤ 140737488355328) (hb : base ≤ w.heap.size) :
    ∃ v' w', (Builtin.append_ #[t, t] ty #[v, u]).run Try.prog w = .ok v' w' ∧ w'.ownsRow base e size v' (n + m) (cs ++ ds) ∧ Below base w w' := by
  rcases hr with ⟨p', c', rfl, rfl, rfl, hz⟩ | ⟨b, off, c, rfl, hbl, hc⟩
  · have hap : ApC base e size w v n cs := .inr ha
    obtain ⟨p, c, rfl, hle⟩ := hap.form
    exact ⟨_, w, run_ap_none E ty w p p' n c c' hle, by rw [List.append_nil]; exact ha, Below.refl _ _⟩
  · obtain ⟨i, hi, hi1, hi2, hi3⟩ := E.inf
    have hcells : ∀ j u, ds[j]? = some u → w.cell? ((⟨b, off, none⟩ : Addr).add j) = some u := fun j u hu => by rw [Addr.add_lit]; exact hc j u hu
    obtain ⟨v', w', hrun, h2, h3, _⟩ := run_append_own (P := Try.prog) w base t ty e i z size bytes E.und hi hi1 hi2 hi3 E.zs E.sz v n cs ha ⟨b, off, none⟩ m c ds hd hcells h1 h63 hby hb
    exact ⟨v', w', hrun, h2, (Below.refl _ w).grown h3 hb fun k hk => (World.ownsRow.lt ha k hk).1⟩
end Go.Proofs.Ytiaidlpceibnpaa.gn
