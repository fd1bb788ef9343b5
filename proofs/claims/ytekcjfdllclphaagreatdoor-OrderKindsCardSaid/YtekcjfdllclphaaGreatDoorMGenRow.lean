/- For any seat: rows in memory, of elements of any size: what is read, what may be appended to. -/
import Derived.Test.YtekcjfdllclphaaGreatDoorMGen
import Derived.Deep.AppendSrc
import Derived.Maps.AppendAt
import Derived.Laws.CopyOwn
import Derived.Laws.AppendOwn
import Derived.Test.YtekcjfdllclphaaGreatDoorMDiK
section
set_option linter.unusedVariables false
set_option linter.unusedSimpArgs false
set_option maxRecDepth 100000
namespace Go.Proofs.YtekcjfdllclphaaGreatDoor.gn
open Go.RowKit

theorem grown_new {w w' : World} (h : Below w.heap.size w w') : w.grownBy w' none := ⟨h.os, h.tape, h.output, h.size, fun k hk _ => h.block k hk⟩
def CellsC (w : World) (b off : Nat) (cs : List Value) : Prop := ∀ j u, cs[j]? = some u → w.cell? ⟨b, off + j, none⟩ = some u
/-- v is a slice of n elements, of these cells: any slice that is empty, or it names its block. -/
def RdC (w : World) (v : Value) (n : Nat) (cs : List Value) : Prop :=
  (∃ p c, v = .slice p 0 c ∧ n = 0 ∧ cs = [] ∧ (p = none → c = 0)) ∨ ∃ b off c, v = .slice (some ⟨b, off, none⟩) n c ∧ b < w.heap.size ∧ CellsC w b off cs
theorem CellsC.below {w w' : World} {b off : Nat} {cs : List Value} (h : CellsC w b off cs) {B : Nat} (hb : Below B w w') (hB : b < B) : CellsC w' b off cs := fun j u hu => (hb.cell (p := ⟨b, off + j, none⟩) hB).trans (h j u hu)
theorem RdC.next {w w' : World} {v : Value} {n : Nat} {cs : List Value} (h : RdC w v n cs) (hb : Below w.heap.size w w') : RdC w' v n cs := by
  rcases h with h | ⟨b, off, c, e, hlt, hc⟩
  · exact .inl h
  · exact .inr ⟨b, off, c, e, Nat.lt_of_lt_of_le hlt hb.size, hc.below hb hlt⟩
theorem RdC.form {w : World} {v : Value} {n : Nat} {cs : List Value} (h : RdC w v n cs) : ∃ p c, v = .slice p n c := by
  rcases h with ⟨p, c, rfl, rfl, _⟩ | ⟨b, off, c, rfl, _⟩
  · exact ⟨_, _, rfl⟩
  · exact ⟨_, _, rfl⟩
/-- What an element of a slice is made of. -/
structure EltI (t e : TypeId) (z : Value) (size bytes : Nat) : Prop where
  und : Tryz.prog.underlying t = some (.slice e)
  inf : ∃ i, Tryz.prog.info? e = some i ∧ i.zero = some z ∧ i.size = size ∧ i.bytes = bytes
  zs : z.cells.size = size
  sz : 0 < size
/-- What may be appended to: an empty slice with no room, or a row of the call's own. -/
def ApC (base : Nat) (e : TypeId) (size : Nat) (w : World) (v : Value) (n : Nat) (cs : List Value) : Prop :=
  (∃ p, v = .slice p 0 0 ∧ n = 0 ∧ cs = []) ∨ w.ownsRow base e size v n cs
theorem ApC.form {base : Nat} {e : TypeId} {size : Nat} {w : World} {v : Value} {n : Nat} {cs : List Value} (h : ApC base e size w v n cs) : ∃ p c, v = .slice p n c ∧ n ≤ c := by
  rcases h with ⟨p, rfl, rfl, _⟩ | ⟨_, ⟨rfl, rfl⟩ | ⟨g, cap, cur, rfl, _, _, h, _⟩⟩
  · exact ⟨_, _, rfl, Nat.le_refl _⟩
  · exact ⟨_, _, rfl, Nat.le_refl _⟩
  · exact ⟨_, _, rfl, h⟩
theorem ApC.rdc {base : Nat} {e : TypeId} {size : Nat} {w : World} {v : Value} {n : Nat} {cs : List Value} (h : ApC base e size w v n cs) : RdC w v n cs := by
  rcases h with ⟨p, rfl, rfl, rfl⟩ | h
  · exact .inl ⟨p, 0, rfl, rfl, rfl, fun _ => rfl⟩
  · have hc := fun g => World.ownsRow.cells h (g := g)
    obtain ⟨h1, ⟨rfl, rfl⟩ | ⟨g, cap, cur, rfl, hb, hg, _⟩⟩ := h
    · exact .inl ⟨none, 0, rfl, rfl, List.eq_nil_of_length_eq_zero (by simpa using h1), fun _ => rfl⟩
    · refine .inr ⟨g, 0, cap, rfl, (Array.getElem?_eq_some_iff.1 hg).1, fun j u hu => ?_⟩
      have := hc g rfl j u hu
      rwa [Addr.add_lit] at this
theorem ApC.mono {base B : Nat} {e : TypeId} {size : Nat} {w : World} {v : Value} {n : Nat} {cs : List Value} (h : ApC base e size w v n cs) (hB : B ≤ base) : ApC B e size w v n cs := by
  rcases h with h | ⟨h1, h2 | ⟨g, cap, cur, e, hb, r⟩⟩
  · exact .inl h
  · exact .inr ⟨h1, .inl h2⟩
  · exact .inr ⟨h1, .inr ⟨g, cap, cur, e, Nat.le_trans hB hb, r⟩⟩
theorem ApC.next {base : Nat} {e : TypeId} {size : Nat} {w w' : World} {v : Value} {n : Nat} {cs : List Value} (h : ApC base e size w v n cs) (hb : Below w.heap.size w w') : ApC base e size w' v n cs := by
  rcases h with h | h
  · exact .inl h
  · exact .inr (World.ownsRow.kept h (grown_new hb) (by cases hv : v.ownBlock <;> simp))
theorem src_none {t e : TypeId} {size : Nat} (ht : Tryz.prog.underlying t = some (.slice e)) (p : Option Addr) (c : Nat) (w : World) : Src Tryz.prog size t (.slice p 0 c) 0 [] w := by
  cases p with
  | none => exact Src.ofNil w ht c
  | some a => exact Src.ofSlice w ht a 0 c [] (by simp) (fun j u hu => by cases hu) (fun u hu => by cases hu)
theorem run_ap_none {t e : TypeId} {z : Value} {size bytes : Nat} (E : EltI t e z size bytes) (ty : TypeId) (w : World) (p p' : Option Addr) (n c c' : Nat) (hle : n ≤ c) :
    (Builtin.append_ #[t, t] ty #[.slice p n c, .slice p' 0 c']).run Tryz.prog w = .ok (.slice p n c) w := by
  obtain ⟨i, hi, _, h2, _⟩ := E.inf
  have hs := src_none (size := i.size) E.und p' c' w
  cases p <;> simp [Builtin.append_, run_underlying E.und, sizeOf, typeInfo, hi, hs.len, hle, hs.cells, storeCells]
theorem run_ap {t e : TypeId} {z : Value} {size bytes : Nat} (E : EltI t e z size bytes) (ty : TypeId) {base : Nat} {w : World} {v u : Value} {n m : Nat} {cs ds : List Value} (ha : ApC base e size w v n cs) (hr : RdC w u m ds) (hd : ds.length = m * size)
    (h1 : ∀ u ∈ ds, u.oneCell' = true) (h63 : n + m ≤ maxLen) (hby : (n + m) * bytes ≤ 140737488355328) (hb : base ≤ w.heap.size) :
    ∃ v' w', (Builtin.append_ #[t, t] ty #[v, u]).run Tryz.prog w = .ok v' w' ∧ ApC base e size w' v' (n + m) (cs ++ ds) ∧ Below base w w' := by
  rcases hr with ⟨p', c', rfl, rfl, rfl, hz⟩ | ⟨b, off, c, rfl, hbl, hc⟩
  · obtain ⟨p, c, rfl, hle⟩ := ha.form
    exact ⟨_, w, run_ap_none E ty w p p' n c c' hle, by rw [List.append_nil]; exact ha, Below.refl _ _⟩
  · obtain ⟨i, hi, hi1, hi2, hi3⟩ := E.inf
    have hcells : ∀ j u, ds[j]? = some u → w.cell? ((⟨b, off, none⟩ : Addr).add j) = some u := fun j u hu => by rw [Addr.add_lit]; exact hc j u hu
    rcases ha with ⟨p, rfl, rfl, rfl⟩ | ha
    · rcases Nat.eq_zero_or_pos m with rfl | hm
      · obtain rfl : ds = [] := List.eq_nil_of_length_eq_zero (by simpa using hd)
        exact ⟨_, w, run_ap_none E ty w p _ 0 0 c (Nat.le_refl _), .inl ⟨p, rfl, rfl, rfl⟩, Below.refl _ _⟩
      · have hs : Src Tryz.prog i.size t (.slice (some ⟨b, off, none⟩) m c) m ds w := Src.ofSlice w E.und _ m c ds (by rw [hi2]; exact hd) hcells h1
        have hold := (src_none (size := i.size) E.und p 0 w).cellsD
        have hr := run_append_grow_src (P := Tryz.prog) w t t ty e i z E.und hi hi1 p 0 0 [] hold _ m ds hs (by omega) (by simp only [maxLen] at h63; omega) (growslice_fits (by omega) (by rw [hi3]; exact hby))
        have hge := grownCap_ge w (0 + m) 0 e
        have hcm : grownCap w (0 + m) 0 e ≤ maxLen := grownCap_le_maxLen w (0 + m) 0 e h63
        refine ⟨_, _, hr, .inr ⟨by rw [List.nil_append, hd, Nat.zero_add], .inr ⟨w.heap.size, _, _, rfl, hb, heap_alloc_new w.drew _, hge, hcm, ?_, ?_⟩⟩, ((Below.refl _ w).drew).alloc hb _⟩
        · simp only [Array.size_append, List.size_toArray, size_zeroCells, E.zs, List.nil_append, hd, ← Nat.add_mul]
          congr 1
          omega
        · simp only [Array.toList_append, List.nil_append]
          rw [show (0 + m) * size = ds.length by rw [hd, Nat.zero_add]]
          exact List.take_left
    · obtain ⟨v', w', hrun, h2, h3, _⟩ := run_append_own (P := Tryz.prog) w base t ty e i z size bytes E.und hi hi1 hi2 hi3 E.zs E.sz v n cs ha ⟨b, off, none⟩ m c ds hd hcells h1 h63 hby hb
      exact ⟨v', w', hrun, .inr h2, (Below.refl _ w).grown h3 hb fun k hk => (World.ownsRow.lt ha k hk).1⟩
theorem wpl_ap {t e : TypeId} {z : Value} {size bytes : Nat} (E : EltI t e z size bytes) {w : World} {ops : Array Oper} {rest : List Oper} {o : Oper} {a : Act} {Q : Exit → Act → World → Prop} (hgd : o.guard = none) (s x : Operand)
    (ho : o.op = .call { callee := .builtin .append, args := #[s, x], argTypes := #[t, t] })
    {base : Nat} {v u : Value} {n m : Nat} {cs ds : List Value} (hs : a.eval s = v) (ha : ApC base e size w v n cs) (hx : a.eval x = u) (hr : RdC w u m ds) (hd : ds.length = m * size)
    (h1 : ∀ u ∈ ds, u.oneCell' = true) (h63 : n + m ≤ maxLen) (hby : (n + m) * bytes ≤ 140737488355328) (hb : base ≤ w.heap.size)
    (h : ∀ p c w', ApC base e size w' (.slice p (n + m) c) (n + m) (cs ++ ds) → n + m ≤ c → Below base w w' → wpList Tryz.prog ops Q rest (a.put o.dst (.slice p (n + m) c)) w') :
    wpList Tryz.prog ops Q (o :: rest) a w := by
  refine wpList_plain hgd fun K hK => ?_
  obtain ⟨v', w', hrun, h2, h3⟩ := run_ap E o.type ha hr hd h1 h63 hby hb
  obtain ⟨p, c, rfl, hle⟩ := h2.form
  unfold Oper.wp
  simp [execOp, ho, resolve, invoke, builtin, hs, hx, hrun, Result.andThen]
  exact hK _ _ (h p c w' h2 hle h3)

/-- As RdC, in none of the blocks M. -/
def RdF (M : Nat → Prop) (w : World) (v : Value) (n : Nat) (cs : List Value) : Prop :=
  (∃ p c, v = .slice p 0 c ∧ n = 0 ∧ cs = [] ∧ (p = none → c = 0)) ∨ ∃ b off c, v = .slice (some ⟨b, off, none⟩) n c ∧ b < w.heap.size ∧ ¬ M b ∧ CellsC w b off cs
theorem RdF.rdc {M : Nat → Prop} {w : World} {v : Value} {n : Nat} {cs : List Value} (h : RdF M w v n cs) : RdC w v n cs := by
  rcases h with h | ⟨b, off, c, e, h1, _, h2⟩
  · exact .inl h
  · exact .inr ⟨b, off, c, e, h1, h2⟩
theorem RdC.rdf {M : Nat → Prop} {w : World} {v : Value} {n : Nat} {cs : List Value} (h : RdC w v n cs) (hm : ∀ b, M b → w.heap.size ≤ b) : RdF M w v n cs := by
  rcases h with h | ⟨b, off, c, e, h1, h2⟩
  · exact .inl h
  · exact .inr ⟨b, off, c, e, h1, fun k => by have := hm b k; omega, h2⟩
theorem RdF.kept {M : Nat → Prop} {w w' : World} {v : Value} {n : Nat} {cs : List Value} (h : RdF M w v n cs) (hs : w.heap.size ≤ w'.heap.size) (hk : ∀ b, b < w.heap.size → ¬ M b → w'.heap[b]? = w.heap[b]?) : RdF M w' v n cs := by
  rcases h with h | ⟨b, off, c, e, h1, h0, h2⟩
  · exact .inl h
  · exact .inr ⟨b, off, c, e, Nat.lt_of_lt_of_le h1 hs, h0, fun j u hu => (World.cell?_of_block (a := ⟨b, off + j, none⟩) (hk b h1 h0)).trans (h2 j u hu)⟩
theorem RdF.moved {M M' : Nat → Prop} {w : World} {v : Value} {n : Nat} {cs : List Value} (h : RdF M w v n cs) (hm : ∀ b, M' b → b < w.heap.size → M b) : RdF M' w v n cs := by
  rcases h with h | ⟨b, off, c, e, h1, h0, h2⟩
  · exact .inl h
  · exact .inr ⟨b, off, c, e, h1, fun k => h0 (hm b k h1), h2⟩

theorem RdF.next {M : Nat → Prop} {w w' : World} {v : Value} {n : Nat} {cs : List Value} (h : RdF M w v n cs) (hb : Below w.heap.size w w') : RdF M w' v n cs := h.kept hb.size fun b hl _ => hb.block b hl
theorem run_own {t e : TypeId} {z : Value} {size bytes : Nat} (E : EltI t e z size bytes) (ty : TypeId) {base : Nat} {w : World} {v : Value} {n m c : Nat} {a : Addr} {cs ds : List Value} (ha : w.ownsRow base e size v n cs) (hr : ∀ j u, ds[j]? = some u → w.cell? (a.add j) = some u) (hd : ds.length = m * size)
    (h1 : ∀ u ∈ ds, u.oneCell' = true) (h63 : n + m ≤ maxLen) (hby : (n + m) * bytes ≤ 140737488355328) (hb : base ≤ w.heap.size) (hm : 0 < m) :
    ∃ v' w', (Builtin.append_ #[t, t] ty #[v, .slice (some a) m c]).run Tryz.prog w = .ok v' w' ∧ w'.ownsRow base e size v' (n + m) (cs ++ ds) ∧ w.grownBy w' v.ownBlock ∧ (v'.ownBlock = v.ownBlock ∨ v'.ownBlock = some w.heap.size) := by
  obtain ⟨i, hi, hi1, hi2, hi3⟩ := E.inf
  obtain ⟨v', w', hrun, h2, h3, h4⟩ := run_append_own (P := Tryz.prog) w base t ty e i z size bytes E.und hi hi1 hi2 hi3 E.zs E.sz v n cs ha a m c ds hd hr h1 h63 hby hb
  refine ⟨v', w', hrun, h2, h3, ?_⟩
  have hsmall : n + m ≤ 9223372036854775807 := by simp only [maxLen] at h63; omega
  subst hi2
  subst hi3
  rcases ha with ⟨hlen, ⟨rfl, rfl⟩ | ⟨g, cap, cur, rfl, hbg, hg, hnc, hcm, hcs, htake⟩⟩
  · have hr2 := run_append_nil (P := Tryz.prog) w t ty e i z E.und hi hi1 a m c ds hd hr (by omega) (by omega) (by simp only [Nat.zero_add] at hby; omega)
    have := hrun.symm.trans hr2
    simp only [Result.ok.injEq] at this
    rw [this.1]
    exact .inr rfl
  · by_cases hroom : n + m ≤ cap
    · have hfit : n * i.size + ds.length ≤ cur.size := by rw [hd, hcs, ← Nat.add_mul]; exact Nat.mul_le_mul_right _ hroom
      have hr2 := run_append_room (P := Tryz.prog) w t ty e i E.und hi g n cap cur hg a m c ds hd hr h1 hroom hfit
      have := hrun.symm.trans hr2
      simp only [Result.ok.injEq] at this
      rw [this.1]
      exact .inl rfl
    · have holds : ∀ j u, cs[j]? = some u → w.cell? ((⟨g, 0, none⟩ : Addr).add j) = some u := World.ownsRow.cells (w := w) (base := base) (e := e) (size := i.size) (n := n) (v := .slice (some ⟨g, 0, none⟩) n cap) ⟨hlen, .inr ⟨g, cap, cur, rfl, hbg, hg, hnc, hcm, hcs, htake⟩⟩ (g := g) rfl
      have hr2 := run_append_grow (P := Tryz.prog) w t ty e i z E.und hi hi1 ⟨g, 0, none⟩ n cap cs hlen holds a m c ds hd hr (by omega) (by omega) (growslice_fits (by omega) hby)
      have := hrun.symm.trans hr2
      simp only [Result.ok.injEq] at this
      rw [this.1]
      exact .inr rfl
/-- Anything that is read, behind a row of the call's own. -/
theorem run_ow {t e : TypeId} {z : Value} {size bytes : Nat} (E : EltI t e z size bytes) (ty : TypeId) {base : Nat} {w : World} {v u : Value} {n m : Nat} {cs ds : List Value} (ha : w.ownsRow base e size v n cs) (hr : RdC w u m ds) (hd : ds.length = m * size)
    (h1 : ∀ u ∈ ds, u.oneCell' = true) (h63 : n + m ≤ maxLen) (hby : (n + m) * bytes ≤ 140737488355328) (hb : base ≤ w.heap.size) :
    ∃ v' w', (Builtin.append_ #[t, t] ty #[v, u]).run Tryz.prog w = .ok v' w' ∧ w'.ownsRow base e size v' (n + m) (cs ++ ds) ∧ Below base w w' := by
  rcases hr with ⟨p', c', rfl, rfl, rfl, hz⟩ | ⟨b, off, c, rfl, hbl, hc⟩
  · have hap : ApC base e size w v n cs := .inr ha
    obtain ⟨p, c, rfl, hle⟩ := hap.form
    exact ⟨_, w, run_ap_none E ty w p p' n c c' hle, by rw [List.append_nil]; exact ha, Below.refl _ _⟩
  · obtain ⟨i, hi, hi1, hi2, hi3⟩ := E.inf
    have hcells : ∀ j u, ds[j]? = some u → w.cell? ((⟨b, off, none⟩ : Addr).add j) = some u := fun j u hu => by rw [Addr.add_lit]; exact hc j u hu
    obtain ⟨v', w', hrun, h2, h3, _⟩ := run_append_own (P := Tryz.prog) w base t ty e i z size bytes E.und hi hi1 hi2 hi3 E.zs E.sz v n cs ha ⟨b, off, none⟩ m c ds hd hcells h1 h63 hby hb
    exact ⟨v', w', hrun, h2, (Below.refl _ w).grown h3 hb fun k hk => (World.ownsRow.lt ha k hk).1⟩
end Go.Proofs.YtekcjfdllclphaaGreatDoor.gn
end
section
set_option linter.unusedVariables false
namespace Go.Proofs.YtekcjfdllclphaaGreatDoor.gn
open Go.RowKit
open Go.Proofs.YtekcjfdllclphaaGreatDoor.un
open Go.Proofs.YtekcjfdllclphaaGreatDoor.di

def tT (d : Dir) : Tx := if chk d = true then dtx d else []
def TextT (d : Dir) (w : World) : Ending → World → Prop := Told (.tuple #[.string (str (tT d)), .int .i64 (cE d)]) w
theorem trun_cons (d : Dir) (f : Tx × Bool) (r : List (Tx × Bool)) (s : Tx) : trun d (f :: r) s = if f.2 = true ∧ val d f.1 = [] then trun d r s else trun d r (s ++ 32 :: (f.1 ++ 61 :: val d f.1)) := rfl
theorem val_short {d : Dir} (h : chk d = true) {key : Tx} (hk : has d.kind key = true) : (val d key).length ≤ 40 := by
  obtain ⟨c0, c1, cz, c2, c3, c4, c5, c6⟩ := (chk_iff d).1 h
  have hs := stxt_len d.size
  rcases key_five hk with rfl | rfl | rfl | rfl | rfl
  · rw [val_name]
    rcases c3 with e | e
    · have := name_len (c2.1 e); omega
    · rw [e]; simp
  · rw [val_pool]
    rcases c5 with e | e
    · have := name_len (c4.1 e); omega
    · rw [e]; simp
  · rw [val_size d (.inl rfl)]; omega
  · rw [val_size d (.inr rfl)]; omega
  · rw [val_acc]
    split <;> decide
theorem word_eq (s key v : Tx) : str s ++ (({ data := #[32] } : ByteArray) ++ str key ++ { data := #[61] } ++ str v) = str (s ++ 32 :: (key ++ 61 :: v)) := by
  rw [show ({ data := #[32] } : ByteArray) = str [32] from rfl, show ({ data := #[61] } : ByteArray) = str [61] from rfl, str_app, str_app, str_app, str_app]
  simp
theorem key_short {k : Nat} {key : Tx} (h : has k key = true) : key.length ≤ 8 := by
  rcases key_five h with rfl | rfl | rfl | rfl | rfl <;> decide

set_option maxRecDepth 100000 in
set_option maxHeartbeats 1600000 in
theorem text_no (d : Dir) (h : DW d) (hc : ¬ chk d = true) (w : World) (hL : LaidD w) : Calls Tryz.prog 53 #[dV d] w (TextT d w) := by
  have HE := Lib.hid (show cE d = 140 ∧ tT d = [] by unfold cE tT; rw [if_neg hc, if_neg hc]; exact ⟨rfl, rfl⟩)
  obtain ⟨w0, hw0⟩ : ∃ w0, w.alloc (.cells #[.int .u8 (d.kind : Nat), .string (str d.name), .string (str d.pool), .int .i64 d.size, .bool d.opn] 80) = w0 := ⟨_, rfl⟩
  have hb0 : Below w.heap.size w w0 := by rw [← hw0]; exact (Below.refl _ _).alloc (Nat.le_refl _) _
  have HB0 := Lib.hid hb0
  have H0 := Lib.hid hw0
  have hV : dV d = .agg #[.int .u8 (d.kind : Nat), .string (str d.name), .string (str d.pool), .int .i64 d.size, .bool d.opn] := rfl
  have HCH := Lib.hid (Check_any d h w0 (hL.next hb0))
  rw [hV] at HCH ⊢
  clear hV h hc hL hb0 hw0
  go_enter Tryz.func53, Tryz.ntmps53
  go_wp2_with (go_at_call 94; rw [H0.out]; refine HCH.out.mono ?_; rintro e w1 ⟨rfl, hb⟩; rw [HE.out.1]; have HB1 := Lib.hid (HB0.out.trans (hb.mono HB0.out.size)); clear hb)
  go_ret2
  exact ⟨by rw [HE.out.1, HE.out.2]; rfl, HB1.out⟩

/-- How Text stands in its loop. -/
structure TK (w : World) (d : Dir) (fa : Nat) (W : World) : Prop where
  p : BoxA W w.heap.size 80 (dcs d)
  f : Flds W fa (fldL d.kind)
  b : Below w.heap.size w W
theorem TK.next {w W W' : World} {d : Dir} {fa : Nat} (h : TK w d fa W) (hb : Below W.heap.size W W') : TK w d fa W' := ⟨h.p.next hb, h.f.next hb, h.b.trans (hb.mono h.b.size)⟩

set_option maxRecDepth 100000 in
set_option maxHeartbeats 6400000 in
theorem text_yes (d : Dir) (h : DW d) (hc : chk d = true) (w : World) (hL : LaidD w) : Calls Tryz.prog 53 #[dV d] w (TextT d w) := by
  have HE := Lib.hid (show cE d = 0 ∧ tT d = dtx d by unfold cE tT; rw [if_pos hc, if_pos hc]; exact ⟨rfl, rfl⟩)
  have hk := ((chk_iff d).1 hc).1
  have HA := Lib.hid (show trun d ((fldL d.kind).drop 0) (bbW ++ 32 :: kw d.kind) = dtx d from trun_dtx hc)
  have HK := Lib.hid hk
  have HCK := Lib.hid hc
  have HLB := Lib.hid hL.base
  have HV := Lib.hid (fun (key : Tx) (W : World) (hb : Below w.heap.size w W) => value_any d h.z0 h.z1 key W (hL.next hb).u)
  have HKW := Lib.hid (kw_len hk)
  obtain ⟨n, hn⟩ : ∃ n, (fldL d.kind).length = n := ⟨_, rfl⟩
  have HN := Lib.hid hn
  have hn4 : n ≤ 4 := by rw [← hn]; exact di.fld_len d.kind
  obtain ⟨w0, hw0⟩ : ∃ w0, w.alloc (.cells #[.int .u8 (d.kind : Nat), .string (str d.name), .string (str d.pool), .int .i64 d.size, .bool d.opn] 80) = w0 := ⟨_, rfl⟩
  have hb0 : Below w.heap.size w w0 := by rw [← hw0]; exact (Below.refl _ _).alloc (Nat.le_refl _) _
  have hp0 : BoxA w0 w.heap.size 80 (dcs d) := by rw [← hw0]; exact BoxA.new _ _ _
  have HB0 := Lib.hid hb0
  have HP0 := Lib.hid hp0
  have H0 := Lib.hid hw0
  have hV : dV d = .agg #[.int .u8 (d.kind : Nat), .string (str d.name), .string (str d.pool), .int .i64 d.size, .bool d.opn] := rfl
  have HCH := Lib.hid (Check_any d h w0 (hL.next hb0))
  have hk5 : (str (kw d.kind)).size ≤ 50 := by rw [str_size]; exact kw_len hk
  rw [hV] at HCH HV ⊢
  clear hV hk h hc hn hL hw0 hb0 hp0
  go_enter Tryz.func53, Tryz.ntmps53
  go_wp2_with (first
    | (go_at_call 94; rw [H0.out]; refine HCH.out.mono ?_; rintro e w1 ⟨rfl, hb⟩; rw [HE.out.1]; have HP1 := Lib.hid (HP0.out.next hb); have hx1 : w1.cell? ⟨w.heap.size, 0, none⟩ = some (.int .u8 (d.kind : Nat)) := BoxA.cell HP1.out 0 _ rfl; have hz1 := HP1.out.lt; have HB1 := Lib.hid (HB0.out.trans (hb.mono HB0.out.size)); clear hb)
    | (go_at_call 95; refine (kfind_yes d.kind HK.out _).mono ?_; rintro e w2 ⟨fa, rfl, hf, hfa, hb⟩; rw [HN.out]; have HTK := Lib.hid (show TK w d fa w2 from ⟨HP1.out.next hb, hf, HB1.out.trans (hb.mono HB1.out.size)⟩); clear hf hfa hb))
  clear HP1 HB1 hx1
  go_loopw [7, 25] (fun s7 s25 wr => ∃ (i : Nat) (s : Tx), s25 = .int .i64 i ∧ s7 = .string (str s) ∧ i ≤ n ∧ s.length ≤ 60 + 60 * i ∧ Aside (TK w d fa wr) ∧ Aside (trun d ((fldL d.kind).drop i) s = dtx d)) (fun _ s25 _ => n - (intOf s25).toNat)
  case atStart => exact ⟨0, bbW ++ 32 :: kw d.kind, rfl, by rw [← str_app]; rfl, Nat.zero_le _, by have := HKW.out; simp [bbW]; omega, HTK.out, HA.out⟩
  case round =>
    clear HTK HA
    obtain ⟨i, s, rfl, rfl, hi, hsl, hck, har⟩ := hrel
    have HR := Lib.hid (show TK w d fa wr from hck)
    have HAR := Lib.hid (show trun d ((fldL d.kind).drop i) s = dtx d from har)
    clear hck har
    by_cases hin : i < n
    · have hil : i < (fldL d.kind).length := by rw [HN.out]; exact hin
      obtain ⟨f, hfe⟩ : ∃ f, (fldL d.kind)[i]? = some f := ⟨_, List.getElem?_eq_getElem hil⟩
      obtain ⟨c0, c1⟩ := HR.out.f.2 i f hfe
      have hhas := (fld_opt (List.mem_of_getElem? hfe)).2
      have HDR := Lib.hid (show (fldL d.kind).drop i = f :: (fldL d.kind).drop (i + 1) by
        obtain ⟨_, rfl⟩ := List.getElem?_eq_some_iff.1 hfe
        exact List.drop_eq_getElem_cons hil)
      have hza : fa < wr.heap.size := HR.out.f.1
      have hks := key_short hhas
      have hvs := val_short HCK.out hhas
      clear hfe hhas hil
      obtain ⟨key, opt⟩ := f
      dsimp only at c0 c1 hks hvs
      obtain ⟨v, hv⟩ : ∃ v, val d key = v := ⟨_, rfl⟩
      have HVK := Lib.hid (HV.out key)
      rw [hv] at HVK hvs
      have HCR := Lib.hid (show trun d ((fldL d.kind).drop i) s = if opt = true ∧ v = [] then trun d ((fldL d.kind).drop (i + 1)) s else trun d ((fldL d.kind).drop (i + 1)) (s ++ 32 :: (key ++ 61 :: v)) by
        rw [HDR.out, trun_cons]
        dsimp only
        rw [hv])
      obtain ⟨om, hom⟩ : ∃ om, omi (key, opt) v = om := ⟨_, rfl⟩
      have HOM := Lib.hid hom
      clear hv hom HDR
      have z1 : (str key).size ≤ 8 := by rw [str_size]; exact hks
      have z2 : (str v).size ≤ 40 := by rw [str_size]; exact hvs
      have z3 : (str s).size ≤ 300 := by rw [str_size]; omega
      have hy9 : Below wr.heap.size wr (wr.alloc (.cells #[.string (str key), .bool opt] 133)) := (Below.refl _ _).alloc (Nat.le_refl _) _
      have h9 := BoxA.new wr 133 #[.string (str key), .bool opt]
      have HR9 := Lib.hid (HR.out.next hy9)
      have H9 := Lib.hid h9
      have d0 : wr.cell? ⟨w.heap.size, 0, none⟩ = some (.int .u8 (d.kind : Nat)) := BoxA.cell HR.out.p 0 _ rfl
      have d1 : wr.cell? ⟨w.heap.size, 1, none⟩ = some (.string (str d.name)) := BoxA.cell HR.out.p 1 _ rfl
      have d2 : wr.cell? ⟨w.heap.size, 2, none⟩ = some (.string (str d.pool)) := BoxA.cell HR.out.p 2 _ rfl
      have d3 : wr.cell? ⟨w.heap.size, 3, none⟩ = some (.int .i64 d.size) := BoxA.cell HR.out.p 3 _ rfl
      have d4 : wr.cell? ⟨w.heap.size, 4, none⟩ = some (.bool d.opn) := BoxA.cell HR.out.p 4 _ rfl
      have hzw : w.heap.size < wr.heap.size := HR.out.p.lt
      clear hy9 h9
      cases om with
      | true =>
        go_wp2_with (first
        | (go_at_call 96; refine (HVK.out _ HR9.out.b).mono ?_; rintro e w3 ⟨rfl, hb3⟩; have HR3 := Lib.hid (HR9.out.next hb3); have h93 := H9.out.next hb3; have k0 : w3.cell? ⟨wr.heap.size, 0, none⟩ = some (.string (str key)) := BoxA.cell h93 0 _ rfl; have k1 : w3.cell? ⟨wr.heap.size, 1, none⟩ = some (.bool opt) := BoxA.cell h93 1 _ rfl; have hzb := h93.lt; have H93 := Lib.hid h93; clear hb3 h93)
        | (go_at_call 97; refine (omitted_any key opt v _).mono ?_; rintro e w4 ⟨rfl, hb4⟩; rw [HOM.out]; have HR4 := Lib.hid (HR3.out.next hb4); have h94 := H93.out.next hb4; have m0 : w4.cell? ⟨wr.heap.size, 0, none⟩ = some (.string (str key)) := BoxA.cell h94 0 _ rfl; have m1 : w4.cell? ⟨wr.heap.size, 1, none⟩ = some (.bool opt) := BoxA.cell h94 1 _ rfl; have hzc := h94.lt; clear hb4 h94))
        go_roundw
        case rel =>
          refine ⟨i + 1, s, by go_num, rfl, by omega, by omega, HR4.out, ?_⟩
          rw [← HAR.out, HCR.out, if_pos ((omi_iff (key, opt) v).1 HOM.out)]
          rfl
        case measure => simp [intOf]; omega
      | false =>
        have HNO := Lib.hid (show ¬ (opt = true ∧ v = []) from fun e => by have := (omi_iff (key, opt) v).2 e; rw [HOM.out] at this; cases this)
        go_wp2_with (first
        | (go_at_call 96; refine (HVK.out _ HR9.out.b).mono ?_; rintro e w3 ⟨rfl, hb3⟩; have HR3 := Lib.hid (HR9.out.next hb3); have h93 := H9.out.next hb3; have k0 : w3.cell? ⟨wr.heap.size, 0, none⟩ = some (.string (str key)) := BoxA.cell h93 0 _ rfl; have k1 : w3.cell? ⟨wr.heap.size, 1, none⟩ = some (.bool opt) := BoxA.cell h93 1 _ rfl; have hzb := h93.lt; have H93 := Lib.hid h93; clear hb3 h93)
        | (go_at_call 97; refine (omitted_any key opt v _).mono ?_; rintro e w4 ⟨rfl, hb4⟩; rw [HOM.out]; have HR4 := Lib.hid (HR3.out.next hb4); have h94 := H93.out.next hb4; have m0 : w4.cell? ⟨wr.heap.size, 0, none⟩ = some (.string (str key)) := BoxA.cell h94 0 _ rfl; have m1 : w4.cell? ⟨wr.heap.size, 1, none⟩ = some (.bool opt) := BoxA.cell h94 1 _ rfl; have hzc := h94.lt; clear hb4 h94))
        go_roundw
        case rel =>
          refine ⟨i + 1, s ++ 32 :: (key ++ 61 :: v), by go_num, by rw [← word_eq], by omega, by simp; omega, HR4.out, ?_⟩
          rw [← HAR.out, HCR.out, if_neg HNO.out]
          rfl
        case measure => simp [intOf]; omega
    · obtain rfl : i = n := by omega
      have HF := Lib.hid (show s = dtx d by
        have := HAR.out
        rw [List.drop_of_length_le (by rw [HN.out]; exact Nat.le_refl _)] at this
        exact this)
      go_wp2
      go_ret2
      exact ⟨by rw [HE.out.1, HE.out.2, ← HF.out]; rfl, HR.out.b⟩

theorem Text_any (d : Dir) (h : DW d) (w : World) (hL : LaidD w) : Calls Tryz.prog 53 #[dV d] w (TextT d w) := by
  by_cases hc : chk d = true
  · exact text_yes d h hc w hL
  · exact text_no d h hc w hL
end Go.Proofs.YtekcjfdllclphaaGreatDoor.gn
end
