/- For any seat: an append of strings to a slice of the call's own. -/
import Derived.Test.YtpmghgfgbkncoaaGreatDoorMGenStrs
import Derived.Maps.AppendAt
import Derived.BigFrame
import Derived.Laws.AppendOwnNone
section
set_option linter.unusedVariables false
namespace Go.Proofs.YtpmghgfgbkncoaaGreatDoor.gn
open Go.RowKit

set_option maxRecDepth 100000
set_option maxHeartbeats 1000000
/-- v is a slice of these strings; nil has no places. -/
def Strw (w : World) (v : Value) (L : List (List UInt8)) : Prop := Strs w v L ∧ ∀ n c, v = .slice none n c → n = 0 ∧ c = 0
theorem Ss.form {w : World} {B : Nat} {v : Value} {L : List (List UInt8)} (h : Ss w B v L) : ∃ A c, v = .slice A L.length c ∧ (A = none → L.length = 0 ∧ c = 0) ∧ L.length ≤ c ∧ c ≤ maxLen := by
  rcases h.2 with ⟨rfl, hn⟩ | ⟨g, cap, cur, rfl, _, _, h1, h2, _⟩
  · exact ⟨none, 0, by rw [hn], fun _ => ⟨hn, rfl⟩, by omega, by decide⟩
  · exact ⟨_, cap, rfl, fun e => (by cases e), h1, h2⟩
/-- '[]string{}'. -/
theorem ss_made (w : World) (B : Nat) (hB : B ≤ w.heap.size) : Ss (w.alloc (.cells #[] 9)) B (.slice (some ⟨w.heap.size, 0, none⟩) 0 0) [] :=
  ⟨rfl, .inr ⟨w.heap.size, 0, #[], rfl, hB, heap_alloc_new w _, Nat.le_refl _, Nat.zero_le _, rfl, rfl⟩⟩

/-- Where a row lies that was appended to v. -/
def AtRow (w w' : World) (v : Value) (A : Option Addr) : Prop := ∀ g, A.map (·.block) = some g → v.ownBlock = some g ∨ (w.heap.size ≤ g ∧ g < w'.heap.size)

theorem wpList_append_strs' {ops : Array Oper} {rest : List Oper} {o : Oper} {a : Act} {w : World} {Q : Exit → Act → World → Prop} (hw : Region.wanted o (yielded ops a.tmps) = true) (s x : Operand)
    (ho : o.op = .call { callee := .builtin .append, args := #[s, x], argTypes := #[25, 25] }) (B : Nat) (v u : Value) (S R : List (List UInt8)) (hs : a.eval s = v) (hown : Ss w B v S) (hx : a.eval x = u) (hst : Strw w u R)
    (hlim : S.length + R.length ≤ 1099511627776) (hB : B ≤ w.heap.size)
    (h : ∀ A c n w', n = S.length + R.length → Ss w' B (.slice A n c) (S ++ R) → w.grownBy w' v.ownBlock → AtRow w w' v A → wpList Tryz.prog ops Q rest (a.put o.dst (.slice A n c)) w') : wpList Tryz.prog ops Q (o :: rest) a w := by
  obtain ⟨i0, hi, hz0, hz1, hz2⟩ := info_parts Tryz.info9
  obtain ⟨⟨A, c, rfl, hlc, hcm, hcell, _⟩, hnone⟩ := hst
  cases A with
  | none =>
    obtain ⟨h1, rfl⟩ := hnone _ _ rfl
    have hR : R = [] := List.eq_nil_of_length_eq_zero h1
    subst hR
    obtain ⟨A2, c2, hv, _⟩ := hown.form
    have e : S ++ [] = S := List.append_nil S
    have hrun := run_append_owned_none (P := Tryz.prog) (w := w) B 25 o.type 9 i0 1 Tryz.underlying25 hi v S.length _ hown
    have hk := h A2 c2 S.length w (by simp) (by rw [e, ← hv]; exact hown) ⟨rfl, rfl, rfl, Nat.le_refl _, fun _ _ _ => rfl⟩ fun g hg => .inl (by
      rw [hv]
      cases A2 with
      | none => cases hg
      | some a => exact hg)
    rw [← hv] at hk
    have hx0 : a.eval x = .slice none 0 0 := hx
    refine BigFrame.wpList_want hw fun K hK => ?_
    unfold Oper.wp execOp
    simp only [ho, resolve, invoke, builtin, Sem.run_bind, Sem.run_pure, Result.andThen_ok, List.map_toArray, List.map_cons, List.map_nil, hs, hx0, hrun]
    exact hK _ _ hk
  | some ad =>
    have hn : ∀ j u, (R.map fun s => Value.string (str s))[j]? = some u → w.cell? (ad.add j) = some u := fun j u hj => by
      rcases hcell with h0 | ⟨b, off, hA, hc⟩
      · have : R = [] := List.eq_nil_of_length_eq_zero h0
        subst this
        simp at hj
      · cases hA
        have hadd : (⟨b, off, none⟩ : Addr).add j = ⟨b, off + j, none⟩ := by unfold Addr.add; split <;> simp_all
        rw [hadd]
        rw [List.getElem?_map, Option.map_eq_some_iff] at hj
        obtain ⟨z, hz, rfl⟩ := hj
        obtain ⟨hlt, rfl⟩ := List.getElem?_eq_some_iff.1 hz
        exact hc j hlt
    obtain ⟨v', w', hr, h1, h2, _, h5⟩ := run_append_own_at (P := Tryz.prog) w B 25 o.type 9 i0 (.string ⟨#[]⟩) 1 16 Tryz.underlying25 hi hz0 hz1 hz2 rfl (by decide) v S.length _ hown ad R.length c (R.map fun s => .string (str s)) (by simp) hn
      (fun u hu => by obtain ⟨z, _, rfl⟩ := List.mem_map.1 hu; rfl) (by unfold maxLen; omega) (by omega) hB
    have hss : Ss w' B v' (S ++ R) := by
      unfold Ss
      rw [List.length_append, List.map_append]
      exact h1
    have hlt := h1.lt
    obtain ⟨A2, c2, rfl, _⟩ := hss.form
    refine BigFrame.wpList_want hw fun K hK => ?_
    unfold Oper.wp execOp
    simp only [ho, resolve, invoke, builtin, Sem.run_bind, Sem.run_pure, Result.andThen_ok, List.map_toArray, List.map_cons, List.map_nil, hs, hx, hr]
    refine hK _ _ (h A2 c2 _ w' (by simp) hss h2 fun g hg => ?_)
    have hg' : (Value.slice A2 (S ++ R).length c2).ownBlock = some g := by
      cases A2 with
      | none => cases hg
      | some a => exact hg
    rcases h5 with h5 | h5
    · exact .inl (by rw [← h5]; exact hg')
    · rw [hg'] at h5
      cases h5
      exact .inr ⟨Nat.le_refl _, (hlt _ hg').2⟩

theorem wpList_append_strs {ops : Array Oper} {rest : List Oper} {o : Oper} {a : Act} {w : World} {Q : Exit → Act → World → Prop} (hgd : o.guard = none) (s x : Operand)
    (ho : o.op = .call { callee := .builtin .append, args := #[s, x], argTypes := #[25, 25] }) (B : Nat) (v u : Value) (S R : List (List UInt8)) (hs : a.eval s = v) (hown : Ss w B v S) (hx : a.eval x = u) (hst : Strw w u R)
    (hlim : S.length + R.length ≤ 1099511627776) (hB : B ≤ w.heap.size)
    (h : ∀ A c n w', n = S.length + R.length → Ss w' B (.slice A n c) (S ++ R) → w.grownBy w' v.ownBlock → AtRow w w' v A → wpList Tryz.prog ops Q rest (a.put o.dst (.slice A n c)) w') : wpList Tryz.prog ops Q (o :: rest) a w :=
  wpList_append_strs' (by simp [Region.wanted, hgd]) s x ho B v u S R hs hown hx hst hlim hB h
end Go.Proofs.YtpmghgfgbkncoaaGreatDoor.gn
end
