/- Rows in memory, of elements of any size: what is appended to what; uses. -/
import Derived.Test.YtdjpnlkhdilakaaExH
import Derived.Test.YtdjpnlkhdilakaaPoN
import Derived.Deep.AppendSrc
import Derived.Maps.AppendAt
import Derived.Laws.CopyOwn
set_option linter.unusedVariables false
set_option linter.unusedSimpArgs false
set_option maxRecDepth 100000
namespace Go.Proofs.Ytdjpnlkhdilakaa.gn
open Go.RowKit Go.Shelf Go.Sort Go.Lib
open Go.Proofs.Ytdjpnlkhdilakaa.ex
open Go.Proofs.Ytdjpnlkhdilakaa.po (Nm U less)

attribute [local go_sem] Oper.semAt_some

def CellsC (w : World) (b off : Nat) (cs : List Value) : Prop := ∀ j u, cs[j]? = some u → w.cell? ⟨b, off + j, none⟩ = some u
/-- v is a slice of n elements, of these cells: any slice that is empty, or it names its block. -/
def RdC (w : World) (v : Value) (n : Nat) (cs : List Value) : Prop :=
  (∃ p c, v = .slice p 0 c ∧ n = 0 ∧ cs = [] ∧ (p = none → c = 0)) ∨ ∃ b off c, v = .slice (some ⟨b, off, none⟩) n c ∧ b < w.heap.size ∧ CellsC w b off cs
theorem CellsC.below {w w' : World} {b off : Nat} {cs : List Value} (h : CellsC w b off cs) {B : Nat} (hb : RowKit.Below B w w') (hB : b < B) : CellsC w' b off cs := fun j u hu => (hb.cell (p := ⟨b, off + j, none⟩) hB).trans (h j u hu)
theorem RdC.next {w w' : World} {v : Value} {n : Nat} {cs : List Value} (h : RdC w v n cs) (hb : RowKit.Below w.heap.size w w') : RdC w' v n cs := by
  rcases h with h | ⟨b, off, c, e, hlt, hc⟩
  · exact .inl h
  · exact .inr ⟨b, off, c, e, Nat.lt_of_lt_of_le hlt hb.size, hc.below hb hlt⟩
theorem RdC.form {w : World} {v : Value} {n : Nat} {cs : List Value} (h : RdC w v n cs) : ∃ p c, v = .slice p n c := by
  rcases h with ⟨p, c, rfl, rfl, _⟩ | ⟨b, off, c, rfl, _⟩
  · exact ⟨_, _, rfl⟩
  · exact ⟨_, _, rfl⟩
/-- What an element of a slice is made of. -/
structure EltI (t e : TypeId) (z : Value) (size bytes : Nat) : Prop where
  und : Try.prog.underlying t = some (.slice e)
  inf : ∃ i, Try.prog.info? e = some i ∧ i.zero = some z ∧ i.size = size ∧ i.bytes = bytes
  zs : z.cells.size = size
  sz : 0 < size
/-- What may be appended to: an empty slice with no room, or a row of the call's own. -/
def ApC (base : Nat) (e : TypeId) (size : Nat) (w : World) (v : Value) (n : Nat) (cs : List Value) : Prop :=
  (∃ p, v = .slice p 0 0 ∧ n = 0 ∧ cs = []) ∨ w.ownsRow base e size v n cs
theorem ApC.form {base : Nat} {e : TypeId} {size : Nat} {w : World} {v : Value} {n : Nat} {cs : List Value} (h : ApC base e size w v n cs) : ∃ p c, v = .slice p n c ∧ n ≤ c := by
  rcases h with ⟨p, rfl, rfl, _⟩ | ⟨_, ⟨rfl, rfl⟩ | ⟨g, cap, cur, rfl, _, _, h, _⟩⟩
  · exact ⟨_, _, rfl, Nat.le_refl _⟩
  · exact ⟨_, _, rfl, Nat.le_refl _⟩
  · exact ⟨_, _, rfl, h⟩
theorem ApC.rdc {base : Nat} {e : TypeId} {size : Nat} {w : World} {v : Value} {n : Nat} {cs : List Value} (h : ApC base e size w v n cs) : RdC w v n cs := by
  rcases h with ⟨p, rfl, rfl, rfl⟩ | h
  · exact .inl ⟨p, 0, rfl, rfl, rfl, fun _ => rfl⟩
  · have hc := fun g => World.ownsRow.cells h (g := g)
    obtain ⟨h1, ⟨rfl, rfl⟩ | ⟨g, cap, cur, rfl, hb, hg, _⟩⟩ := h
    · exact .inl ⟨none, 0, rfl, rfl, List.eq_nil_of_length_eq_zero (by simpa using h1), fun _ => rfl⟩
    · refine .inr ⟨g, 0, cap, rfl, (Array.getElem?_eq_some_iff.1 hg).1, fun j u hu => ?_⟩
      have := hc g rfl j u hu
      rwa [Addr.add_lit] at this
theorem ApC.mono {base B : Nat} {e : TypeId} {size : Nat} {w : World} {v : Value} {n : Nat} {cs : List Value} (h : ApC base e size w v n cs) (hB : B ≤ base) : ApC B e size w v n cs := by
  rcases h with h | ⟨h1, h2 | ⟨g, cap, cur, e, hb, r⟩⟩
  · exact .inl h
  · exact .inr ⟨h1, .inl h2⟩
  · exact .inr ⟨h1, .inr ⟨g, cap, cur, e, Nat.le_trans hB hb, r⟩⟩
theorem ApC.next {base : Nat} {e : TypeId} {size : Nat} {w w' : World} {v : Value} {n : Nat} {cs : List Value} (h : ApC base e size w v n cs) (hb : RowKit.Below w.heap.size w w') : ApC base e size w' v n cs := by
  rcases h with h | h
  · exact .inl h
  · exact .inr (World.ownsRow.kept h (grown_new hb) (by cases hv : v.ownBlock <;> simp))
theorem src_none {t e : TypeId} {size : Nat} (ht : Try.prog.underlying t = some (.slice e)) (p : Option Addr) (c : Nat) (w : World) : Src Try.prog size t (.slice p 0 c) 0 [] w := by
  cases p with
  | none => exact Src.ofNil w ht c
  | some a => exact Src.ofSlice w ht a 0 c [] (by simp) (fun j u hu => by cases hu) (fun u hu => by cases hu)
theorem run_ap_none {t e : TypeId} {z : Value} {size bytes : Nat} (E : EltI t e z size bytes) (ty : TypeId) (w : World) (p p' : Option Addr) (n c c' : Nat) (hle : n ≤ c) :
    (Builtin.append_ #[t, t] ty #[.slice p n c, .slice p' 0 c']).run Try.prog w = .ok (.slice p n c) w := by
  obtain ⟨i, hi, _, h2, _⟩ := E.inf
  have hs := src_none (size := i.size) E.und p' c' w
  cases p <;> simp [Builtin.append_, run_underlying E.und, sizeOf, typeInfo, hi, hs.len, hle, hs.cells, storeCells]
theorem run_ap {t e : TypeId} {z : Value} {size bytes : Nat} (E : EltI t e z size bytes) (ty : TypeId) {base : Nat} {w : World} {v u : Value} {n m : Nat} {cs ds : List Value} (ha : ApC base e size w v n cs) (hr : RdC w u m ds) (hd : ds.length = m * size)
    (h1 : ∀ u ∈ ds, u.oneCell' = true) (h63 : n + m ≤ maxLen) (hby : (n + m) * bytes ≤ 140737488355328) (hb : base ≤ w.heap.size) :
    ∃ v' w', (Builtin.append_ #[t, t] ty #[v, u]).run Try.prog w = .ok v' w' ∧ ApC base e size w' v' (n + m) (cs ++ ds) ∧ RowKit.Below base w w' := by
  rcases hr with ⟨p', c', rfl, rfl, rfl, hz⟩ | ⟨b, off, c, rfl, hbl, hc⟩
  · obtain ⟨p, c, rfl, hle⟩ := ha.form
    exact ⟨_, w, run_ap_none E ty w p p' n c c' hle, by rw [List.append_nil]; exact ha, Below.refl _ _⟩
  · obtain ⟨i, hi, hi1, hi2, hi3⟩ := E.inf
    have hcells : ∀ j u, ds[j]? = some u → w.cell? ((⟨b, off, none⟩ : Addr).add j) = some u := fun j u hu => by rw [Addr.add_lit]; exact hc j u hu
    rcases ha with ⟨p, rfl, rfl, rfl⟩ | ha
    · rcases Nat.eq_zero_or_pos m with rfl | hm
      · obtain rfl : ds = [] := List.eq_nil_of_length_eq_zero (by simpa using hd)
        exact ⟨_, w, run_ap_none E ty w p _ 0 0 c (Nat.le_refl _), .inl ⟨p, rfl, rfl, rfl⟩, Below.refl _ _⟩
      · have hs : Src Try.prog i.size t (.slice (some ⟨b, off, none⟩) m c) m ds w := Src.ofSlice w E.und _ m c ds (by rw [hi2]; exact hd) hcells h1
        have hold := (src_none (size := i.size) E.und p 0 w).cellsD
        have hr := run_append_grow_src (P := Try.prog) w t t ty e i z E.und hi hi1 p 0 0 [] hold _ m ds hs (by omega) (by simp only [maxLen] at h63; omega) (growslice_fits (by omega) (by rw [hi3]; exact hby))
        have hge := grownCap_ge w (0 + m) 0 e
        have hcm : grownCap w (0 + m) 0 e ≤ maxLen := grownCap_le_maxLen w (0 + m) 0 e h63
        refine ⟨_, _, hr, .inr ⟨by rw [List.nil_append, hd, Nat.zero_add], .inr ⟨w.heap.size, _, _, rfl, hb, heap_alloc_new w.drew _, hge, hcm, ?_, ?_⟩⟩, ((Below.refl _ w).drew).alloc hb _⟩
        · simp only [Array.size_append, List.size_toArray, size_zeroCells, E.zs, List.nil_append, hd, ← Nat.add_mul]
          congr 1
          omega
        · simp only [Array.toList_append, List.nil_append]
          rw [show (0 + m) * size = ds.length by rw [hd, Nat.zero_add]]
          exact List.take_left
    · obtain ⟨v', w', hrun, h2, h3, _⟩ := run_append_own (P := Try.prog) w base t ty e i z size bytes E.und hi hi1 hi2 hi3 E.zs E.sz v n cs ha ⟨b, off, none⟩ m c ds hd hcells h1 h63 hby hb
      exact ⟨v', w', hrun, .inr h2, (Below.refl _ w).grown h3 hb fun k hk => (World.ownsRow.lt ha k hk).1⟩
theorem wpl_ap {t e : TypeId} {z : Value} {size bytes : Nat} (E : EltI t e z size bytes) {w : World} {ops : Array Oper} {rest : List Oper} {o : Oper} {a : Act} {Q : Exit → Act → World → Prop} (hgd : o.guard = none) (s x : Operand)
    (ho : o.op = .call { callee := .builtin .append, args := #[s, x], argTypes := #[t, t] })
    {base : Nat} {v u : Value} {n m : Nat} {cs ds : List Value} (hs : a.eval s = v) (ha : ApC base e size w v n cs) (hx : a.eval x = u) (hr : RdC w u m ds) (hd : ds.length = m * size)
    (h1 : ∀ u ∈ ds, u.oneCell' = true) (h63 : n + m ≤ maxLen) (hby : (n + m) * bytes ≤ 140737488355328) (hb : base ≤ w.heap.size)
    (h : ∀ p c w', ApC base e size w' (.slice p (n + m) c) (n + m) (cs ++ ds) → n + m ≤ c → RowKit.Below base w w' → wpList Try.prog ops Q rest (a.put o.dst (.slice p (n + m) c)) w') :
    wpList Try.prog ops Q (o :: rest) a w := by
  refine wpList_plain hgd fun K hK => ?_
  obtain ⟨v', w', hrun, h2, h3⟩ := run_ap E o.type ha hr hd h1 h63 hby hb
  obtain ⟨p, c, rfl, hle⟩ := h2.form
  unfold Oper.wp
  simp [execOp, ho, resolve, invoke, builtin, hs, hx, hrun, Result.andThen]
  exact hK _ _ (h p c w' h2 hle h3)

/-- As RdC, off the blocks from lo to hi. -/
def RdO (lo hi : Nat) (w : World) (v : Value) (n : Nat) (cs : List Value) : Prop :=
  (∃ p c, v = .slice p 0 c ∧ n = 0 ∧ cs = [] ∧ (p = none → c = 0)) ∨ ∃ b off c, v = .slice (some ⟨b, off, none⟩) n c ∧ b < w.heap.size ∧ (b < lo ∨ hi ≤ b) ∧ CellsC w b off cs
theorem RdO.rdc {lo hi : Nat} {w : World} {v : Value} {n : Nat} {cs : List Value} (h : RdO lo hi w v n cs) : RdC w v n cs := by
  rcases h with h | ⟨b, off, c, e, h1, _, h2⟩
  · exact .inl h
  · exact .inr ⟨b, off, c, e, h1, h2⟩
theorem RdC.off {w : World} {v : Value} {n : Nat} {cs : List Value} (h : RdC w v n cs) (hi : Nat) : RdO w.heap.size hi w v n cs := by
  rcases h with h | ⟨b, off, c, e, h1, h2⟩
  · exact .inl h
  · exact .inr ⟨b, off, c, e, h1, .inl h1, h2⟩
theorem ApC.off {base : Nat} {e : TypeId} {size : Nat} {w : World} {v : Value} {n : Nat} {cs : List Value} (h : ApC base e size w v n cs) (lo hi : Nat) (hh : hi ≤ base) : RdO lo hi w v n cs := by
  rcases h with ⟨p, rfl, rfl, rfl⟩ | h
  · exact .inl ⟨p, 0, rfl, rfl, rfl, fun _ => rfl⟩
  · have hc := fun g => World.ownsRow.cells h (g := g)
    obtain ⟨h1, ⟨rfl, rfl⟩ | ⟨g, cap, cur, rfl, hb, hg, _⟩⟩ := h
    · exact .inl ⟨none, 0, rfl, rfl, List.eq_nil_of_length_eq_zero (by simpa using h1), fun _ => rfl⟩
    · refine .inr ⟨g, 0, cap, rfl, (Array.getElem?_eq_some_iff.1 hg).1, .inr (Nat.le_trans hh hb), fun j u hu => ?_⟩
      have := hc g rfl j u hu
      rwa [Addr.add_lit] at this
theorem RdO.next {lo hi : Nat} {w w' : World} {v : Value} {n : Nat} {cs : List Value} (h : RdO lo hi w v n cs) (hb : RowKit.Below w.heap.size w w') : RdO lo hi w' v n cs := by
  rcases h with h | ⟨b, off, c, e, hlt, h1, hc⟩
  · exact .inl h
  · exact .inr ⟨b, off, c, e, Nat.lt_of_lt_of_le hlt hb.size, h1, hc.below hb hlt⟩
/-- Worlds that are the same off the blocks from lo to hi. -/
structure Same (lo hi : Nat) (w w' : World) : Prop where
  size : w.heap.size ≤ w'.heap.size
  same : ∀ k, k < lo ∨ hi ≤ k → k < w.heap.size → w'.heap[k]? = w.heap[k]?
theorem Same.refl (lo hi : Nat) (w : World) : Same lo hi w w := ⟨Nat.le_refl _, fun _ _ _ => rfl⟩
theorem Same.trans {lo hi : Nat} {a b c : World} (h : Same lo hi a b) (k : Same lo hi b c) : Same lo hi a c := ⟨Nat.le_trans h.size k.size, fun i h1 h2 => (k.same i h1 (Nat.lt_of_lt_of_le h2 h.size)).trans (h.same i h1 h2)⟩
theorem Same.set {lo hi : Nat} (w : World) (b j : Nat) (v : Value) (h1 : lo ≤ b) (h2 : b < hi) : Same lo hi w (w.setCell ⟨b, j, none⟩ v) := ⟨by simp, fun k hk _ => Below.heap_setCell _ _ _ _ (by simp only; omega)⟩
theorem Same.row {lo hi : Nat} (w : World) (b : Nat) (cs : Array Value) (h1 : lo ≤ b) (h2 : b < hi) : Same lo hi w (w.setRow b cs) := ⟨by simp [World.setRow], fun k hk _ => setRow_other w b k cs (by omega)⟩
theorem Same.drew {lo hi : Nat} (w : World) : Same lo hi w w.drew := ⟨Nat.le_refl _, fun _ _ _ => rfl⟩
theorem RdO.same {lo hi : Nat} {w w' : World} {v : Value} {n : Nat} {cs : List Value} (h : RdO lo hi w v n cs) (hs : Same lo hi w w') : RdO lo hi w' v n cs := by
  rcases h with h | ⟨b, off, c, e, hlt, h1, hc⟩
  · exact .inl h
  · exact .inr ⟨b, off, c, e, Nat.lt_of_lt_of_le hlt hs.size, h1, fun j u hu => (World.cell?_of_block (a := ⟨b, off + j, none⟩) (hs.same b h1 hlt)).trans (hc j u hu)⟩

/-! Extents, uses -/
theorem Rd.rdc {w : World} {v : Value} {l : List X} (h : Rd w v l) : RdC w v l.length (fl l) := by
  rcases h with ⟨p, c, rfl, rfl, h⟩ | ⟨b, off, c, rfl, hb, hc⟩
  · exact .inl ⟨p, c, rfl, rfl, rfl, h⟩
  · refine .inr ⟨b, off, c, rfl, hb, fun j u hu => ?_⟩
    have := Rd.flat (c := c) hc j u hu
    rwa [Addr.add_lit] at this
theorem RdC.rd {w : World} {v : Value} {l : List X} (h : RdC w v l.length (fl l)) : Rd w v l := by
  rcases h with ⟨p, c, rfl, h0, _, h⟩ | ⟨b, off, c, rfl, hb, hc⟩
  · exact .inl ⟨p, c, rfl, List.eq_nil_of_length_eq_zero h0, h⟩
  · refine .inr ⟨b, off, c, rfl, hb, fun j hj => ?_⟩
    have h1 := fl_at l j hj
    exact ⟨hc _ _ h1.1, by rw [Nat.add_assoc]; exact hc _ _ h1.2⟩
def str (l : List UInt8) : ByteArray := ⟨l.toArray⟩
theorem str_size (l : List UInt8) : (str l).size = l.length := by simp [str, ByteArray.size]
theorem str_toList (l : List UInt8) : (str l).toList = l := by rw [ByteArray.toList_eq]; rfl
theorem str_of (s : ByteArray) : str s.data.toList = s := by
  apply ByteArray.ext
  simp [str]
theorem str_inj {p q : List UInt8} (h : str p = str q) : p = q := by
  have h2 := congrArg ByteArray.data h
  simpa [str] using h2
def flU : List U → List Value
  | [] => []
  | x :: l => .string (str x.1) :: .int .i64 x.2 :: flU l
theorem flU_length : ∀ l : List U, (flU l).length = l.length * 2
  | [] => rfl
  | x :: l => by simp only [flU, List.length_cons, flU_length l]; omega
theorem flU_append : ∀ l k : List U, flU (l ++ k) = flU l ++ flU k
  | [], _ => rfl
  | x :: l, k => by simp only [List.cons_append, flU, flU_append l k]
theorem flU_at : ∀ (l : List U) (j : Nat), j < l.length → (flU l)[j * 2]? = some (.string (str l[j]!.1)) ∧ (flU l)[j * 2 + 1]? = some (.int .i64 l[j]!.2)
  | x :: l, 0, _ => ⟨rfl, rfl⟩
  | x :: l, j + 1, h => by
    have := flU_at l j (by simpa using h)
    rw [show (j + 1) * 2 = j * 2 + 1 + 1 by omega]
    simp only [flU, List.getElem?_cons_succ]
    exact this
theorem flU_drop : ∀ (l : List U) (i : Nat), flU (l.drop i) = (flU l).drop (i * 2)
  | [], i => by simp [flU]
  | x :: l, 0 => rfl
  | x :: l, i + 1 => by rw [show (i + 1) * 2 = i * 2 + 1 + 1 by omega]; simp only [List.drop_succ_cons, flU]; exact flU_drop l i
theorem flU_take : ∀ (l : List U) (i : Nat), flU (l.take i) = (flU l).take (i * 2)
  | [], i => by simp [flU]
  | x :: l, 0 => rfl
  | x :: l, i + 1 => by rw [show (i + 1) * 2 = i * 2 + 1 + 1 by omega]; simp only [List.take_succ_cons, flU, flU_take l i]
theorem flU_one (l : List U) : ∀ v ∈ flU l, v.oneCell' = true := by
  induction l with
  | nil => intro v hv; cases hv
  | cons x l ih =>
    intro v hv
    rcases List.mem_cons.1 hv with rfl | hv
    · rfl
    · rcases List.mem_cons.1 hv with rfl | hv
      · rfl
      · exact ih v hv
/-- v is a slice of these uses. -/
def RdU (w : World) (v : Value) (l : List U) : Prop := RdC w v l.length (flU l) ∧ ∃ p c, v = .slice p l.length c ∧ l.length ≤ c
theorem RdU.next {w w' : World} {v : Value} {l : List U} (h : RdU w v l) (hb : RowKit.Below w.heap.size w w') : RdU w' v l := ⟨h.1.next hb, h.2⟩
theorem RdU.at_ {w : World} {p : Option Addr} {c j : Nat} {l : List U} (h : RdU w (.slice p l.length c) l) (hj : j < l.length) :
    ∃ b off, p = some ⟨b, off, none⟩ ∧ b < w.heap.size ∧ w.cell? ⟨b, off + j * 2, none⟩ = some (.string (str l[j]!.1)) ∧ w.cell? ⟨b, off + j * 2 + 1, none⟩ = some (.int .i64 l[j]!.2) := by
  have h1 := flU_at l j hj
  rcases h.1 with ⟨p', c', he, h0, _⟩ | ⟨b, off, c2, he, hb, hc⟩
  · omega
  · simp only [Value.slice.injEq] at he
    exact ⟨b, off, he.1, hb, hc _ _ h1.1, by rw [Nat.add_assoc]; exact hc _ _ h1.2⟩
theorem ApC.rdU {base : Nat} {w : World} {v : Value} {l : List U} (h : ApC base 62 2 w v l.length (flU l)) : RdU w v l := ⟨h.rdc, h.form⟩
theorem eltU : EltI 23 62 (.agg #[.string ⟨#[]⟩, .int .i64 0]) 2 24 := by
  refine ⟨Try.underlying23, ?_, rfl, by decide⟩
  have hi : (Try.prog.info? 62).map (fun i => (i.zero, i.size, i.bytes)) = some (some (.agg #[.string ⟨#[]⟩, .int .i64 0]), 2, 24) := by kernel_rfl
  cases hj : Try.prog.info? 62 with
  | none => rw [hj] at hi; cases hi
  | some i0 =>
    rw [hj] at hi
    simp only [Option.map_some, Option.some.injEq, Prod.mk.injEq] at hi
    exact ⟨i0, rfl, hi.1, hi.2.1, hi.2.2⟩
theorem eltX : EltI 22 54 (.agg #[.int .i64 0, .int .i64 0]) 2 16 := ⟨Try.underlying22, extI, rfl, by decide⟩
theorem slice_cut {w : World} {p : Option Addr} {n c : Nat} {cs : List Value} (h : RdC w (.slice p n c) n cs) (hn : n ≤ c) (i : Nat) (hi : i ≤ n) (size : Nat) : RdC w (.slice (if c = i then p else p.map (·.add (i * size))) (n - i) (c - i)) (n - i) (cs.drop (i * size)) ∨ n - i = 0 := by
  rcases Nat.eq_zero_or_pos (n - i) with h0 | h0
  · exact .inr h0
  · refine .inl ?_
    rcases h with ⟨p', c', he, hz, _⟩ | ⟨b, off, c2, he, hb, hc⟩
    · omega
    · simp only [Value.slice.injEq] at he
      obtain ⟨rfl, _, rfl⟩ := he
      rw [if_neg (by omega)]
      refine .inr ⟨b, off + i * size, c - i, by simp [Addr.add_lit], hb, fun j u hu => ?_⟩
      rw [List.getElem?_drop] at hu
      rw [Nat.add_assoc]
      exact hc _ _ hu
theorem RdU.from {w : World} {p : Option Addr} {c : Nat} {l : List U} (h : RdU w (.slice p l.length c) l) (i : Nat) (hi : i ≤ l.length) :
    RdU w (.slice (if c = i then p else p.map (·.add (i * 2))) (l.length - i) (c - i)) (l.drop i) := by
  obtain ⟨p', c', he, hle⟩ := h.2
  simp only [Value.slice.injEq, true_and] at he
  obtain ⟨rfl, rfl⟩ := he
  have hl : (l.drop i).length = l.length - i := List.length_drop
  refine ⟨?_, _, _, by rw [hl], by rw [hl]; omega⟩
  rw [hl, flU_drop]
  rcases slice_cut h.1 hle i hi 2 with h1 | h0
  · exact h1
  · rw [h0]
    refine .inl ⟨_, _, rfl, rfl, List.drop_eq_nil_of_le (by rw [flU_length]; omega), fun e => ?_⟩
    rcases h.1 with ⟨p', c', he, _, _, hz⟩ | ⟨b, off, c2, he, _⟩
    · simp only [Value.slice.injEq] at he
      obtain ⟨rfl, h5, rfl⟩ := he
      have : p = none := by
        split at e
        · exact e
        · simpa using e
      rw [hz this]; omega
    · simp only [Value.slice.injEq] at he
      rw [he.1] at e
      split at e <;> cases e
theorem RdU.upto {w : World} {p : Option Addr} {c : Nat} {l : List U} (h : RdU w (.slice p l.length c) l) (i : Nat) (hi : i ≤ l.length) : RdU w (.slice p i c) (l.take i) := by
  obtain ⟨p', c', he, hle⟩ := h.2
  simp only [Value.slice.injEq, true_and] at he
  obtain ⟨rfl, rfl⟩ := he
  have hl : (l.take i).length = i := by rw [List.length_take]; omega
  refine ⟨?_, _, _, by rw [hl], by rw [hl]; omega⟩
  rw [hl, flU_take]
  rcases h.1 with ⟨p', c', he, h0, h1, h2⟩ | ⟨b, off, c2, he, hb, hc⟩
  · obtain rfl : i = 0 := by omega
    simp only [Value.slice.injEq] at he
    obtain ⟨rfl, _, rfl⟩ := he
    exact .inl ⟨_, _, rfl, rfl, by simp, h2⟩
  · simp only [Value.slice.injEq] at he
    obtain ⟨rfl, _, rfl⟩ := he
    exact .inr ⟨b, off, c, rfl, hb, fun j u hu => hc j u (by rw [List.getElem?_take] at hu; split at hu; exact hu; cases hu)⟩

theorem copiedX_any {w : World} {v : Value} {l : List X} (h : Rd w v l) (hl : l.length ≤ 4000) : Calls Try.prog 35 #[v] w fun e w' => ∃ q c, e = .returned (.slice q l.length c) ∧ ApC w.heap.size 54 2 w' (.slice q l.length c) l.length (fl l) ∧ RowKit.Below w.heap.size w w' := by
  obtain ⟨p, c, rfl⟩ := h.len
  have hr := h.rdc
  clear h
  go_enter Try.func35, Try.ntmps35
  go_wp2_with (at_builtin; refine wpl_ap eltX rfl _ _ rfl (base := w.heap.size) rfl (.inl ⟨p, rfl, rfl, rfl⟩) rfl hr (fl_length l) (fl_one l) (by unfold maxLen; omega) (by omega) (Nat.le_refl _) ?_; intro p' c' w1 h1 h2 h3; have H1 := Lib.hid (And.intro h1 h3); clear h1 h2 h3)
  go_ret
  refine ⟨p', c', rfl, ?_, H1.out.2⟩
  have := H1.out.1
  rw [Nat.zero_add, List.nil_append] at this
  exact this
theorem copiedU_any {w : World} {v : Value} {l : List U} (h : RdU w v l) (hl : l.length ≤ 4000) : Calls Try.prog 36 #[v] w fun e w' => ∃ p c, e = .returned (.slice p l.length c) ∧ ApC w.heap.size 62 2 w' (.slice p l.length c) l.length (flU l) ∧ RowKit.Below w.heap.size w w' := by
  obtain ⟨hr, p, c, rfl, hle⟩ := h
  go_enter Try.func36, Try.ntmps36
  go_wp2_with (at_builtin; refine wpl_ap eltU rfl _ _ rfl (base := w.heap.size) rfl (.inl ⟨p, rfl, rfl, rfl⟩) rfl hr (flU_length l) (flU_one l) (by unfold maxLen; omega) (by omega) (Nat.le_refl _) ?_; intro p' c' w1 h1 h2 h3; have H1 := Lib.hid (And.intro h1 h3); clear h1 h2 h3)
  go_ret
  refine ⟨p', c', rfl, ?_, H1.out.2⟩
  have := H1.out.1
  rw [Nat.zero_add, List.nil_append] at this
  exact this
end Go.Proofs.Ytdjpnlkhdilakaa.gn
