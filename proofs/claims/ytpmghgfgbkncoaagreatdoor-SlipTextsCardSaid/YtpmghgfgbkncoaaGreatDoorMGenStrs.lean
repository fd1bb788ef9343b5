/- For any seat: slices of strings, that came in, or of the call's own. -/
import Derived.Test.YtpmghgfgbkncoaaGreatDoorMGen
import Derived.SliceStrings
import Derived.Lib.SmallJoins
import Derived.ChangeSlices
section
namespace Go.Proofs.YtpmghgfgbkncoaaGreatDoor.gn
open Go.RowKit

theorem cell_lt {w : World} {a : Addr} {v : Value} (h : w.cell? a = some v) : a.block < w.heap.size := by
  unfold World.cell? at h
  cases hb : w.heap[a.block]? with
  | none => rw [hb] at h; simp at h
  | some o => exact lt_of_block hb

/-- v is a slice of these strings. -/
def Strs (w : World) (v : Value) (L : List (List UInt8)) : Prop :=
  ∃ A c, v = .slice A L.length c ∧ L.length ≤ c ∧ c ≤ maxLen ∧ (L.length = 0 ∨ ∃ b o, A = some ⟨b, o, none⟩ ∧ ∀ j (h : j < L.length), w.cell? ⟨b, o + j, none⟩ = some (.string (str L[j]))) ∧ ∀ s ∈ L, s.length ≤ maxLen
theorem cells9 : Tryz.prog.cellsOf 9 = 1 := by kernel_rfl
theorem open_strs1 {H : Type} {enc : TypeId × Value → H} {W : World} {fuel : Nat} {v : Value} {x : DataW H × List MemPlace}
    (h : DataW.trod enc Tryz.prog W 0 (fun _ => true) true fuel 25 [v] = some x) : ∃ L, Strs W v L := by
  rcases Go.ChangeShapes.open_strings Tryz.underlying25 Tryz.underlying9 cells9 h with ⟨hcs, _⟩ | ⟨a, len, cap, ss, hcs, _, hle, hm, hz, _, hcell, hw⟩
  · simp at hcs
    subst hcs
    exact ⟨[], none, 0, rfl, Nat.le_refl _, Nat.zero_le _, .inl rfl, fun s hs => by cases hs⟩
  · simp at hcs hz
    subst hcs
    have hl : ((ss.take len).map fun s => s.data.toList).length = len := by rw [List.length_map, List.length_take]; omega
    refine ⟨(ss.take len).map fun s => s.data.toList, some a, cap, by rw [hl], by rw [hl]; exact hle, hm, ?_, fun s hs => ?_⟩
    · by_cases h0 : len = 0
      · exact .inl (hl.trans h0)
      · obtain ⟨b, off, spot⟩ := a
        have hspot : spot = none := by simpa [Addr.add] using World.cell?_spot (hcell 0 (by omega))
        subst hspot
        refine .inr ⟨b, off, rfl, fun j hj => ?_⟩
        rw [hl] at hj
        have hadd : (⟨b, off, none⟩ : Addr).add j = ⟨b, off + j, none⟩ := by unfold Addr.add; split <;> simp_all
        have := hcell j (by omega)
        rw [hadd] at this
        rw [this]
        simp [List.getD, List.getElem?_eq_getElem (show j < ss.length by omega), str_of]
    · obtain ⟨t, ht, rfl⟩ := List.mem_map.1 hs
      simpa using hw t (List.take_subset _ _ ht)
theorem Strs.below {w w' : World} {v : Value} {L : List (List UInt8)} (h : Strs w v L) (hb : Below w.heap.size w w') : Strs w' v L := by
  obtain ⟨A, c, h1, h2, h3, h4, h5⟩ := h
  refine ⟨A, c, h1, h2, h3, ?_, h5⟩
  rcases h4 with h4 | ⟨b, o, hA, hc⟩
  · exact .inl h4
  · exact .inr ⟨b, o, hA, fun j hj => (hb.cell (p := ⟨b, o + j, none⟩) (cell_lt (hc j hj))).trans (hc j hj)⟩
theorem Strs.take {w : World} {A : Option Addr} {n c : Nat} {L : List (List UInt8)} (h : Strs w (.slice A n c) L) (k : Nat) (hk : k ≤ L.length) : Strs w (.slice A k c) (L.take k) := by
  obtain ⟨A', c', h1, h2, h3, h4, h5⟩ := h
  injection h1 with e1 e2 e3
  subst e1; subst e3
  have hl : (L.take k).length = k := by rw [List.length_take]; omega
  refine ⟨A, c, by rw [hl], by omega, h3, ?_, fun s hs => h5 s (List.mem_of_mem_take hs)⟩
  rcases h4 with h4 | ⟨b, o, hA, hc⟩
  · exact .inl (by omega)
  · exact .inr ⟨b, o, hA, fun j hj => by rw [hc j (by omega), List.getElem_take]⟩
theorem Strs.len {w : World} {A : Option Addr} {n c : Nat} {L : List (List UInt8)} (h : Strs w (.slice A n c) L) : n = L.length ∧ L.length ≤ c ∧ c ≤ maxLen := by
  obtain ⟨A', c', h1, h2, h3, h4, h5⟩ := h
  injection h1 with e1 e2 e3
  subst e3
  exact ⟨e2, h2, h3⟩

/-- v is a slice of the call's own, of these strings. -/
def Ss (w : World) (B : Nat) (v : Value) (L : List (List UInt8)) : Prop := w.ownsRow B 9 1 v L.length (L.map fun s => .string (str s))
theorem Ss_nil (w : World) (B : Nat) : Ss w B (.slice none 0 0) [] := World.ownsRow_nil w B _ 1
theorem Ss.strs {w : World} {B : Nat} {v : Value} {L : List (List UInt8)} (h : Ss w B v L) (hs : ∀ s ∈ L, s.length ≤ maxLen) : Strs w v L := by
  have hcells := fun g => World.ownsRow.cells h (g := g)
  rcases h.2 with ⟨rfl, hn⟩ | ⟨g, cap, cur, rfl, _, _, h1, h2, _⟩
  · exact ⟨none, 0, by rw [hn], by omega, Nat.zero_le _, .inl hn, hs⟩
  · refine ⟨some ⟨g, 0, none⟩, cap, rfl, h1, h2, .inr ⟨g, 0, rfl, fun j hj => ?_⟩, hs⟩
    have hadd : (⟨g, 0, none⟩ : Addr).add j = ⟨g, 0 + j, none⟩ := by unfold Addr.add; split <;> simp_all
    have := hcells g rfl j (.string (str L[j])) (by simp [List.getElem?_eq_getElem hj])
    rwa [hadd] at this
theorem Ss.kept {w w' : World} {B : Nat} {v : Value} {L : List (List UInt8)} (h : Ss w B v L) (hb : Below w.heap.size w w') : Ss w' B v L := by
  refine ⟨h.1, ?_⟩
  rcases h.2 with hn | ⟨g, cap, cur, rfl, hB, hg, rest⟩
  · exact .inl hn
  · exact .inr ⟨g, cap, cur, rfl, hB, (hb.block g (lt_of_block hg)).trans hg, rest⟩
theorem Tryz.info9 : (Tryz.prog.info? 9).map (fun i => (i.zero, i.size, i.bytes)) = some (some (.string ⟨#[]⟩), 1, 16) := by kernel_rfl
/-- A row that a call has just laid. -/
theorem strs_new (w : World) (s : List UInt8) (h : s.length ≤ maxLen) : Strs (w.alloc (.cells #[.string (str s)] 9)) (.slice (some ⟨w.heap.size, 0, none⟩) 1 1) [s] := by
  refine ⟨_, 1, rfl, Nat.le_refl _, by decide, .inr ⟨w.heap.size, 0, rfl, fun j hj => ?_⟩, fun t ht => by simp at ht; rw [ht]; exact h⟩
  have : j = 0 := by simp at hj; exact hj
  subst this
  go_simp
theorem ss_step {B : Nat} {w wr w1 : World} {v v' : Value} {L : List (List UInt8)} {x : List UInt8} (hown : Ss wr B v L) (hb : Below B w wr) (hB : B ≤ wr.heap.size)
    (h1 : w1.ownsRow B 9 1 v' (L.length + 1) ((L.map fun s => .string (str s)) ++ [.string (str x)])) (hg : (wr.alloc (.cells #[.string (str x)] 9)).grownBy w1 v.ownBlock) :
    Ss w1 B v' (L ++ [x]) ∧ Below B w w1 := by
  refine ⟨?_, (hb.alloc hB _).grown hg (by simp; omega) fun k hk => ?_⟩
  · unfold Ss
    rw [List.length_append, List.map_append]
    exact h1
  · rcases hown.2 with ⟨rfl, _⟩ | ⟨g, cap, cur, rfl, hBg, _⟩
    · cases hk
    · cases hk; exact hBg
theorem one_at (w : World) (x : Value) (t : TypeId) : (w.alloc (.cells #[x] t)).cell? ((⟨w.heap.size, 0, none⟩ : Addr).add 0) = some x := by
  have hadd : (⟨w.heap.size, 0, none⟩ : Addr).add 0 = ⟨w.heap.size, 0, none⟩ := by unfold Addr.add; split <;> simp_all
  rw [hadd]
  go_simp
end Go.Proofs.YtpmghgfgbkncoaaGreatDoor.gn
end
