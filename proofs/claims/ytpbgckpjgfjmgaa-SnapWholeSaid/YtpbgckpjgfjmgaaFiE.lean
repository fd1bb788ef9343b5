/- Bytes appended to a file's, as a step of a region; the contracts of the closures that write a file. -/
import Derived.Test.YtpbgckpjgfjmgaaFiD
import Derived.BigRegion
import Derived.Deep.RegionLaw
import Derived.Deep.RegionHeld3
set_option linter.unusedVariables false
namespace Go.Proofs.Ytpbgckpjgfjmgaa.gn
open Go.RowKit
open Go.Proofs.Ytpbgckpjgfjmgaa.fi

theorem fat0 {α : Type} {o : α} {l : List α} : (o :: l)[0]? = some o := rfl
theorem fatS {α : Type} {o x : α} {l : List α} {n : Nat} (h : l[n]? = some o) : (x :: l)[n + 1]? = some o := h
theorem fata {α : Type} {o : α} {l : List α} {n : Nat} (h : l[n]? = some o) : l.toArray[n]? = some o := by simpa using h

theorem strCells_str (s : List UInt8) : Lib.strCells (str s) = Lib.byteCells s := by simp [Lib.strCells, Lib.byteCells, str]
theorem byteCells_app (a b : List UInt8) : Lib.byteCells (a ++ b) = Lib.byteCells a ++ Lib.byteCells b := by simp [Lib.byteCells]

/-- Where the appended bytes have gone: to the row that there was, or to a new one. -/
def App (w : World) (A : Option Addr) (n c : Nat) (A' : Option Addr) (n' c' : Nat) (w1 : World) : Prop :=
  (A' = A ∧ c' = c ∧ n ≤ n' ∧ (n < c ∨ n' = n) ∧ w.grownBy w1 (A.map (·.block)) ∧ w1.heap.size = w.heap.size ∧
    ∀ g cur, A = some ⟨g, 0, none⟩ → w.heap[g]? = some (.cells cur 5 (0, 0)) → ∃ cur', w1.heap[g]? = some (.cells cur' 5 (0, 0)) ∧ cur'.size = cur.size ∧ ∀ m, (m ≤ n ∨ n' = n) → cur'.toList.take m = cur.toList.take m) ∨
  ∃ g', A' = some ⟨g', 0, none⟩ ∧ w.heap.size ≤ g' ∧ Below w.heap.size w w1

theorem run_append_byt (w : World) (A : Option Addr) (n c : Nat) (l s : List UInt8) (h : Byt w A n c l) (hlim : n + s.length ≤ 1099511627776) (ty : TypeId) :
    ∃ A' c' w1, (Builtin.append_ #[74, 9] ty #[.slice A n c, .string (str s)]).run Try.prog w = .ok (.slice A' (n + s.length) c') w1 ∧ Byt w1 A' (n + s.length) c' (l ++ s) ∧ App w A n c A' (n + s.length) c' w1 := by
  obtain ⟨i0, hi, hz, hs, hby⟩ := info_parts Try.info5
  have hsz : (str s).size = s.length := str_size s
  obtain ⟨h1, h2, h3, h4⟩ := h
  have hml : n + s.length ≤ maxLen := by unfold maxLen; omega
  have hlen : (l ++ s).length = n + s.length := by rw [List.length_append, h1]
  rcases h4 with ⟨rfl, rfl⟩ | ⟨g, cur, rfl, hg, hc, htk⟩
  · obtain rfl : n = 0 := by omega
    obtain rfl : l = [] := List.eq_nil_of_length_eq_zero h1
    by_cases hm : s.length = 0
    · obtain rfl : s = [] := List.eq_nil_of_length_eq_zero hm
      refine ⟨none, 0, w, ?_, ⟨rfl, Nat.le_refl _, Nat.zero_le _, .inl ⟨rfl, rfl⟩⟩, .inl ⟨rfl, rfl, Nat.le_refl _, .inr rfl, ⟨rfl, rfl, rfl, Nat.le_refl _, fun _ _ _ => rfl⟩, rfl, fun g cur hg => by cases hg⟩⟩
      have hf : (Builtin.firstCells 1 0 (.string (str []))).run Try.prog w = .ok #[] w := by
        have hf := Lib.run_firstCells_string (P := Try.prog) w 1 (str [])
        rw [hsz] at hf
        exact hf
      simp [Builtin.append_, run_underlying Try.underlying74, run_underlying Try.underlying9, sizeOf, typeInfo, hi, hs, Builtin.lenOf, hsz, hf]
    · have hr := run_append_nil_string (P := Try.prog) w 74 9 ty 5 i0 (.int .u8 0) Try.underlying74 Try.underlying9 hi hz (str s) (by omega) (by omega) (by rw [hby]; omega)
      have hge := grownCap_ge w s.length 0 5
      have hcm : grownCap w s.length 0 5 ≤ maxLen := grownCap_le_maxLen w s.length 0 _ (by unfold maxLen; omega)
      rw [hsz] at hr
      refine ⟨_, _, _, by rw [Nat.zero_add]; exact hr, ⟨hlen, by omega, hcm, .inr ⟨w.heap.size, _, rfl, heap_alloc_new w.drew _, ?_, ?_⟩⟩, .inr ⟨_, rfl, Nat.le_refl _, ⟨rfl, rfl, rfl, by simp, fun k hk => Below.heap_alloc w.drew _ k hk⟩⟩⟩
      · have hz1 : (Value.int IntKind.u8 0).cells.size = 1 := rfl
        have hd : (str s).data.size = s.length := by simp [str]
        simp only [Array.size_append, Array.size_map, size_zeroCells, hz1, hd]
        omega
      · simp only [Array.toList_append, Nat.zero_add, List.nil_append]
        have : ((str s).data.map fun b => Value.int .u8 (b.toNat : Int)).toList = Lib.byteCells s := by simp [str, Lib.byteCells]
        rw [this]
        have hbl : (Lib.byteCells s).length = s.length := by simp [Lib.byteCells]
        rw [← hbl]
        exact List.take_left
  · have htl : (cur.toList.take n).length = n := by rw [List.length_take, Array.length_toList]; omega
    by_cases hroom : n + s.length ≤ c
    · have hr := Lib.run_append_room_string (P := Try.prog) w 74 9 ty 5 i0 Try.underlying74 Try.underlying9 hi hs g n c cur hg (str s) (by omega) (by omega)
      rw [hsz, strCells_str, htk] at hr
      have hbl : (Lib.byteCells s).length = s.length := by simp [Lib.byteCells]
      have hll : (Lib.byteCells l).length = n := by simp [Lib.byteCells, h1]
      have hh := setRow_heap w g cur (Lib.byteCells l ++ Lib.byteCells s ++ cur.toList.drop (n + s.length)).toArray 5 (0, 0) hg
      have hsz' : (Lib.byteCells l ++ Lib.byteCells s ++ cur.toList.drop (n + s.length)).toArray.size = cur.size := by
        simp only [List.size_toArray, List.length_append, List.length_drop, Array.length_toList, hll, hbl]
        omega
      refine ⟨_, _, _, hr, ⟨hlen, hroom, h3, .inr ⟨g, _, rfl, hh, by omega, ?_⟩⟩, .inl ⟨rfl, rfl, by omega, by omega, ⟨rfl, rfl, rfl, by simp, fun k _ hk => setRow_other w g k _ (fun e => hk (by simp [e]))⟩, by simp, ?_⟩⟩
      · rw [List.toList_toArray, byteCells_app, show n + s.length = (Lib.byteCells l ++ Lib.byteCells s).length by rw [List.length_append, hll, hbl]]
        exact List.take_left
      · intro g2 cur2 e2 hg2
        cases e2
        rw [hg] at hg2
        cases hg2
        refine ⟨_, hh, hsz', fun m hm => ?_⟩
        rw [List.toList_toArray]
        rcases hm with hm | hm
        · rw [List.append_assoc, List.take_append_of_le_length (by omega), ← htk, List.take_take, Nat.min_eq_left hm]
        · have hs0 : s.length = 0 := by omega
          obtain rfl : s = [] := List.eq_nil_of_length_eq_zero hs0
          simp only [Lib.byteCells, List.map_nil, List.append_nil, List.length_nil, Nat.add_zero] at htk ⊢
          rw [← htk, List.take_append_drop]
    · have holds : ∀ j u, (Lib.byteCells l)[j]? = some u → w.cell? ((⟨g, 0, none⟩ : Addr).add j) = some u := by
        intro j u hj
        have hadd : (⟨g, 0, none⟩ : Addr).add j = ⟨g, j, none⟩ := by unfold Addr.add; split <;> simp_all
        rw [hadd, cell_of_row w g j cur _ (0, 0) hg, ← Array.getElem?_toList]
        rw [← htk, List.getElem?_take] at hj
        split at hj
        · exact hj
        · cases hj
      have hr := Lib.run_append_grow_string (P := Try.prog) w 74 9 ty 5 i0 (.int .u8 0) Try.underlying74 Try.underlying9 hi hz ⟨g, 0, none⟩ n c (Lib.byteCells l) (by rw [hs]; simp [Lib.byteCells, h1]) holds (str s) (by omega) (by omega) (by rw [hby]; exact growslice_fits (by omega) (by omega))
      rw [hsz, strCells_str] at hr
      have hge := grownCap_ge w (n + s.length) c 5
      have hcm : grownCap w (n + s.length) c 5 ≤ maxLen := grownCap_le_maxLen w (n + s.length) c _ hml
      have hbl : (Lib.byteCells s).length = s.length := by simp [Lib.byteCells]
      have hll : (Lib.byteCells l).length = n := by simp [Lib.byteCells, h1]
      refine ⟨_, _, _, hr, ⟨hlen, hge, hcm, .inr ⟨w.heap.size, _, rfl, heap_alloc_new w.drew _, ?_, ?_⟩⟩, .inr ⟨_, rfl, Nat.le_refl _, ⟨rfl, rfl, rfl, by simp, fun k hk => Below.heap_alloc w.drew _ k hk⟩⟩⟩
      · have hz1 : (Value.int IntKind.u8 0).cells.size = 1 := rfl
        simp only [Array.size_append, List.size_toArray, size_zeroCells, hz1, hbl, hll]
        omega
      · simp only [Array.toList_append, List.append_assoc]
        rw [← List.append_assoc, byteCells_app, show n + s.length = (Lib.byteCells l ++ Lib.byteCells s).length by rw [List.length_append, hll, hbl]]
        exact List.take_left

theorem step_append_byt {ops : Array Oper} {o : Oper} {a : Act} {w : World} {K : Act → World → Prop} {Q : Exit → Act → World → Prop} {E : Prop} (hgd : o.guard = none) (s x : Operand)
    (ho : o.op = .call { callee := .builtin .append, args := #[s, x], argTypes := #[74, 9] })
    (A : Option Addr) (n c : Nat) (l t : List UInt8) (hs : a.eval s = .slice A n c) (h : Byt w A n c l) (xb : ByteArray) (hx : a.eval x = .string xb) (hxe : xb = str t) (hlim : n + t.length ≤ 1099511627776)
    (hK : ∀ A' c' w1, Byt w1 A' (n + t.length) c' (l ++ t) → App w A n c A' (n + t.length) c' w1 → K (a.put o.dst (.slice A' (n + t.length) c')) w1) :
    if Region.wanted o (yielded ops a.tmps) = true then Oper.wp Try.prog o a w K Q else E := by
  have hw : Region.wanted o (yielded ops a.tmps) = true := by simp [Region.wanted, hgd]
  rw [if_pos hw]
  subst hxe
  obtain ⟨A', c', w1, hr, h2, h3⟩ := run_append_byt w A n c l t h hlim o.type
  unfold Oper.wp execOp
  simp only [ho, resolve, invoke, builtin, Sem.run_bind, Sem.run_pure, Result.andThen_ok, List.map_toArray, List.map_cons, List.map_nil, hs, hx, hr]
  exact hK A' c' w1 h2 h3
end Go.Proofs.Ytpbgckpjgfjmgaa.gn
