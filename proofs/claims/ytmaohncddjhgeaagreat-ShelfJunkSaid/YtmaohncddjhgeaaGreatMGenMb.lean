/- For any seat: '[]byte(s)', which has a mark behind its row, and what is appended to it, and stored into it. -/
import Derived.Test.YtmaohncddjhgeaaGreatMGen
import Derived.ArgAppend
import Derived.Lib.ConvBytes
section
namespace Go.Proofs.YtmaohncddjhgeaaGreat.gn
open Go.RowKit

/-- v is a slice of the bytes l, in a block from B on whose cells may be written. -/
def Mb (w : World) (B : Nat) (v : Value) (l : List UInt8) : Prop :=
  ∃ (g cap : Nat) (cur : Array Value) (lo hi : Nat), v = .slice (some ⟨g, 0, none⟩) l.length cap ∧ B ≤ g ∧ w.heap[g]? = some (.cells cur 5 (lo, hi)) ∧ (hi ≤ lo ∨ cap ≤ lo) ∧ cap ≤ cur.size ∧ l.length ≤ cap ∧ cap ≤ maxLen ∧
    (∀ (j : Nat) (u : Value), (Lib.byteCells l)[j]? = some u → cur[j]? = some u)

theorem free_at {w : World} {g j lo hi cap : Nat} {cur : Array Value} {t : TypeId} (hg : w.heap[g]? = some (.cells cur t (lo, hi))) (hm : hi ≤ lo ∨ cap ≤ lo) (hj : j < cap) : w.frozen? ⟨g, j, none⟩ = false := by
  simp only [World.frozen?, hg]
  rcases hm with h | h
  · by_cases h1 : lo ≤ j
    · simp; omega
    · simp; omega
  · simp; omega

theorem Mb.string {w : World} {B : Nat} {v : Value} {l : List UInt8} (h : Mb w B v l) : (convert 80 9 v).run Tryz.prog w = .ok (.string (str l)) w := by
  obtain ⟨g, cap, cur, lo, hi, rfl, hB, hg, hm, hc, hl, hx, hcl⟩ := h
  refine run_convert_bytes_back w _ _ _ ⟨g, 0, none⟩ cap l Tryz.underlying80 Tryz.underlying5 Tryz.underlying9 fun j hj => ?_
  have hadd : (⟨g, 0, none⟩ : Addr).add j = ⟨g, j, none⟩ := by unfold Addr.add; split <;> simp_all
  rw [hadd, cell_of_row _ _ _ _ _ _ hg]
  refine hcl j _ ?_
  simp [Lib.byteCells, List.getElem?_eq_getElem hj]

theorem Mb.kept {w w' : World} {B : Nat} {v : Value} {l : List UInt8} (h : Mb w B v l) (hb : ∀ k, k < w.heap.size → w'.heap[k]? = w.heap[k]?) : Mb w' B v l := by
  obtain ⟨g, cap, cur, lo, hi, rfl, hB, hg, rest⟩ := h
  exact ⟨g, cap, cur, lo, hi, rfl, hB, (hb g (lt_of_block hg)).trans hg, rest⟩
theorem Mb.alloc {w : World} {B : Nat} {v : Value} {l : List UInt8} (h : Mb w B v l) (o : Obj) : Mb (w.alloc o) B v l := h.kept (fun k hk => Below.heap_alloc w o k hk)
theorem Mb.drew {w : World} {B : Nat} {v : Value} {l : List UInt8} (h : Mb w B v l) : Mb w.drew B v l := h.kept (fun _ _ => rfl)
theorem Mb.below {w w' : World} {B : Nat} {v : Value} {l : List UInt8} (h : Mb w B v l) (hb : Below w.heap.size w w') : Mb w' B v l := h.kept (fun k hk => hb.block k hk)
theorem Mb.mono {w : World} {B B' : Nat} {v : Value} {l : List UInt8} (h : Mb w B v l) (hB : B' ≤ B) : Mb w B' v l := by
  obtain ⟨g, cap, cur, lo, hi, hv, h1, rest⟩ := h
  exact ⟨g, cap, cur, lo, hi, hv, Nat.le_trans hB h1, rest⟩
theorem Mb.of_own {w : World} {B : Nat} {v : Value} {l : List UInt8} (h : Bs w B v l) (hne : l ≠ []) : Mb w B v l := by
  rcases h.2 with ⟨_, h0⟩ | ⟨g, cap, cur, hv, hB, hg, hn, hx, hs, ht⟩
  · exact absurd (List.eq_nil_of_length_eq_zero h0) hne
  · refine ⟨g, cap, cur, 0, 0, hv, hB, hg, .inl (Nat.le_refl _), by omega, hn, hx, fun j u hj => ?_⟩
    rw [← ht, List.getElem?_take] at hj
    split at hj
    · simpa using hj
    · cases hj

theorem Mb.made (w : World) (s : ByteArray) (h : grownCap w s.size 0 5 ≤ maxLen) : Mb (Lib.bytesWorld w 5 s) w.heap.size (.slice (some ⟨w.heap.size, 0, none⟩) s.size (grownCap w s.size 0 5)) s.data.toList := by
  have hge := grownCap_ge w s.size 0 5
  have hsz : (Lib.bytesCells w 5 s).size = grownCap w s.size 0 5 := by
    have h3 : s.data.size = s.size := rfl
    simp [Lib.bytesCells, h3]
    omega
  have hl : s.data.toList.length = s.size := by simp
  refine ⟨w.heap.size, _, _, _, _, by rw [hl], Nat.le_refl _, Lib.bytesWorld_at_new w 5 s, .inr (by rw [hsz]; exact Nat.le_refl _), by rw [hsz]; exact Nat.le_refl _, by rw [hl]; exact hge, h, fun j u hj => ?_⟩
  have hjl : j < s.data.size := by
    have h2 := (List.getElem?_eq_some_iff.1 hj).1
    simpa [Lib.byteCells] using h2
  unfold Lib.bytesCells
  rw [Array.getElem?_append_left (by simpa using hjl), Array.getElem?_map]
  simp only [Lib.byteCells, List.getElem?_map] at hj
  simpa using hj

theorem below_bytes (B : Nat) (w : World) (s : ByteArray) (h : B ≤ w.heap.size) : Below B w (Lib.bytesWorld w 5 s) :=
  ⟨rfl, rfl, rfl, by rw [Lib.bytesWorld_size]; omega, fun k hk => Lib.bytesWorld_at_old w _ s k (by omega)⟩

theorem below_setCell {B : Nat} (w : World) {a : Addr} (h : B ≤ a.block) (u : Value) : Below B w (w.setCell a u) := (Below.refl B w).setCell h u

/-- One byte more, appended. -/
theorem wpList_append_mb {ops : Array Oper} {rest : List Oper} {o : Oper} {a : Act} {w : World} {Q : Exit → Act → World → Prop} (hgd : o.guard = none) (s x : Operand)
    (ho : o.op = .call { callee := .builtin .append, args := #[s, x], argTypes := #[80, 80] })
    (B : Nat) (v : Value) (l : List UInt8) (hs : a.eval s = v) (hown : Mb w B v l)
    (ad : Addr) (c : Nat) (hx : a.eval x = .slice (some ad) 1 c) (b : UInt8) (hc : w.cell? ad = some (.int .u8 (b.toNat : Int)))
    (hlim : l.length + 1 ≤ 140737488355328) (hB : B ≤ w.heap.size)
    (hK : ∀ v' w', Mb w' B v' (l ++ [b]) → Below B w w' → wpList Tryz.prog ops Q rest (a.put o.dst v') w') : wpList Tryz.prog ops Q (o :: rest) a w := by
  obtain ⟨g, cap, cur, lo, hi, rfl, hBg, hg, hm, hcs, hl, hx2, hcl⟩ := hown
  obtain ⟨i0, hi0, hz0, hz1, hz2⟩ := info_parts Tryz.info5
  refine wpList_append_arg w hgd s x 80 ho 5 i0 (.int .u8 0) 1 1 Tryz.underlying80 hi0 hz0 hz1 hz2 rfl (by decide) g 0 l.length cap (Lib.byteCells l) hs (by simp [Lib.byteCells]) ?_ ad 1 c [.int .u8 (b.toNat : Int)] hx rfl ?_ ?_ ?_ ?_ ?_ ?_ ?_
  · intro j u hj
    rw [Nat.zero_add, cell_of_row _ _ _ _ _ _ hg]
    exact hcl j u hj
  · intro j u hj
    match j, hj with
    | 0, hj =>
      have hadd : ad.add 0 = ad := by simp [Addr.add]
      simp at hj; subst hj; rw [hadd]; exact hc
    | j + 1, hj => simp at hj
  · intro u hu; simp at hu; subst hu; rfl
  · intro hroom j hj
    have hj0 : j = 0 := by simpa using hj
    subst hj0
    refine ⟨?_, ?_⟩
    · rw [cell_of_row _ _ _ _ _ _ hg, Array.getElem?_eq_getElem (by omega)]; rfl
    · exact free_at hg hm (by omega)
  · unfold maxLen; omega
  · omega
  · intro hroom
    have e : w.setCells g (0 + l.length * 1) [.int .u8 (b.toNat : Int)] = w.setCell ⟨g, l.length, none⟩ (.int .u8 (b.toNat : Int)) := by
      rw [Nat.zero_add, Nat.mul_one]; rfl
    rw [e]
    refine hK _ _ ⟨g, cap, _, lo, hi, by simp, hBg, heap_setCell hg _, hm, by simpa using hcs, by simp; omega, hx2, ?_⟩ (below_setCell w hBg _)
    intro j u hj
    simp only [Lib.byteCells, List.map_append, List.map_cons, List.map_nil] at hj
    rw [Array.getElem?_setIfInBounds]
    have hbl : (List.map (fun b : UInt8 => Value.int .u8 (b.toNat : Int)) l).length = l.length := by simp
    by_cases hjl : j < l.length
    · rw [if_neg (by omega)]
      rw [List.getElem?_append_left (by rw [hbl]; exact hjl)] at hj
      exact hcl j u hj
    · rw [List.getElem?_append_right (by rw [hbl]; omega), hbl] at hj
      have h0 : j - l.length = 0 := by
        by_cases h1 : j - l.length = 0
        · exact h1
        · exfalso
          rw [List.getElem?_eq_none (by simp; omega)] at hj
          cases hj
      rw [h0] at hj
      have hjj : l.length = j := by omega
      rw [if_pos hjj, if_pos (by omega)]
      simpa using hj
  · intro hgrow v' w' ho' hgb
    have hb : Bs w' w.heap.size v' (l ++ [b]) := by
      unfold Bs
      rw [List.length_append]
      simpa [Lib.byteCells] using ho'
    exact hK v' w' ((Mb.of_own hb (by simp)).mono hB) ((Below.refl B w).grown hgb hB (fun k hk => by cases hk))

/-- Where its bytes lie. -/
theorem Mb.addr {w : World} {B : Nat} {v : Value} {l : List UInt8} (h : Mb w B v l) : ∃ g cap, v = .slice (some ⟨g, 0, none⟩) l.length cap ∧ B ≤ g ∧ l.length ≤ cap ∧ cap ≤ maxLen ∧
    (∀ j (hj : j < l.length), w.cell? ⟨g, j, none⟩ = some (.int .u8 (l[j].toNat : Int)) ∧ w.frozen? ⟨g, j, none⟩ = false) ∧
    (∀ j (_ : j < l.length) (b : UInt8), Mb (w.setCell ⟨g, j, none⟩ (.int .u8 (b.toNat : Int))) B v (l.set j b)) := by
  obtain ⟨g, cap, cur, lo, hi, rfl, hBg, hg, hm, hcs, hl, hx2, hcl⟩ := h
  refine ⟨g, cap, rfl, hBg, hl, hx2, fun j hj => ⟨?_, free_at hg hm (by omega)⟩, fun j hj b => ⟨g, cap, _, lo, hi, by simp, hBg, heap_setCell hg _, hm, by simpa using hcs, by simpa using hl, hx2, ?_⟩⟩
  · rw [cell_of_row _ _ _ _ _ _ hg]
    exact hcl j _ (by simp [Lib.byteCells, List.getElem?_eq_getElem hj])
  · intro i u hu
    simp only [Lib.byteCells, List.getElem?_map, List.getElem?_set] at hu
    rw [Array.getElem?_setIfInBounds]
    by_cases hij : j = i
    · subst hij
      rw [if_pos rfl, if_pos hj] at hu
      rw [if_pos rfl, if_pos (by omega)]
      simpa using hu
    · rw [if_neg hij] at hu
      rw [if_neg hij]
      exact hcl i u (by simpa [Lib.byteCells] using hu)
end Go.Proofs.YtmaohncddjhgeaaGreat.gn
end
