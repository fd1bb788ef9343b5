/- The document's rows of files: appends; a row without one. -/
import Derived.Test.YtdfiofjnijnodaaFjA
set_option linter.unusedVariables false
namespace Go.Proofs.Ytdfiofjnijnodaa.gn
open Go.RowKit
open Go.Proofs.Ytdfiofjnijnodaa.fi

theorem infoFile : (Try.prog.info? 88).map (fun i => (i.zero, i.size, i.bytes)) = some (some (.agg #[.string ⟨#[]⟩, .string ⟨#[]⟩, .bool false]), 3, 40) := by kernel_rfl
theorem dcell_lt {w : World} {p : Addr} {v : Value} (h : w.cell? p = some v) : p.block < w.heap.size := by
  unfold World.cell? at h
  split at h
  · exact (Array.getElem?_eq_some_iff.1 (by assumption)).1
  · cases h
/-- Files in memory, wherever they stand. -/
def Src (w : World) (x : Value) (M : List DF) : Prop := (x = .slice none 0 0 ∧ M = []) ∨ ∃ ad c, x = .slice (some ad) M.length c ∧ ∀ j u, (flatF M)[j]? = some u → w.cell? (ad.add j) = some u
theorem FR.src {w : World} {B : Nat} {v : Value} {L : List DF} (h : FR w B v L) : Src w v L := by
  rcases h.form with h1 | ⟨g, c, rfl, _⟩
  · exact .inl h1
  · exact .inr ⟨_, _, rfl, fun j u hu => World.ownsRow.cells h (g := g) rfl j u hu⟩
theorem Src.below {w w' : World} {v : Value} {L : List DF} (h : Src w v L) (hb : Below w.heap.size w w') : Src w' v L := by
  rcases h with h | ⟨ad, c, h1, h2⟩
  · exact .inl h
  · refine .inr ⟨ad, c, h1, fun j u hu => ?_⟩
    have hc := h2 j u hu
    rw [hb.cell (dcell_lt hc)]
    exact hc
theorem wpl_appF {ops : Array Oper} {rest : List Oper} {o : Oper} {a : Act} {w : World} {Q : Exit → Act → World → Prop} (hgd : o.guard = none) (s x : Operand)
    (ho : o.op = .call { callee := .builtin .append, args := #[s, x], argTypes := #[56, 56] })
    (B : Nat) (v : Value) (L : List DF) (hs : a.eval s = v) (hown : FR w B v L) (y : Value) (M : List DF) (hx : a.eval x = y) (hsrc : Src w y M) (hlim : L.length + M.length ≤ 1000000) (hB : B ≤ w.heap.size)
    (hK : ∀ v' w', FR w' B v' (L ++ M) → w.grownBy w' v.ownBlock → wpList Try.prog ops Q rest (a.put o.dst v') w') : wpList Try.prog ops Q (o :: rest) a w := by
  obtain ⟨i0, hi0, hz0, hz1, hz2⟩ := info_parts infoFile
  rcases hsrc with ⟨rfl, rfl⟩ | ⟨ad, c, rfl, hc⟩
  · have hrun := run_append_owned_none (P := Try.prog) w B 56 o.type 88 i0 3 Try.underlying56 hi0 v L.length (flatF L) hown
    have h2 := hK v w (by rwa [List.append_nil]) ⟨rfl, rfl, rfl, Nat.le_refl _, fun _ _ _ => rfl⟩
    refine wpList_plain hgd fun K hK' => ?_
    unfold Oper.wp
    simp [execOp, ho, resolve, invoke, builtin, hs, hx, hrun, Result.andThen]
    exact hK' _ _ h2
  · refine wpList_append_own _ hgd s x 56 ho B 88 i0 _ 3 40 Try.underlying56 hi0 hz0 hz1 hz2 rfl (by decide) v L.length (flatF L) hs hown ad M.length c (flatF M) hx (flatF_len M) hc (flatF_one M) (by unfold maxLen; omega) (by omega) hB ?_
    intro v' w' h1 h2 _
    refine hK v' w' ?_ h2
    unfold FR
    rw [flatF_app, List.length_append]
    exact h1
theorem FR.shape {w : World} {B : Nat} {v : Value} {L : List DF} (h : FR w B v L) : ∃ A n c, v = .slice A n c := by
  obtain ⟨A, c, e⟩ := own_form h
  exact ⟨A, _, c, e⟩
theorem FR.new0 (w : World) : FR (w.alloc (.cells #[] 88)) w.heap.size (.slice (some ⟨w.heap.size, 0, none⟩) 0 0) [] :=
  ⟨rfl, .inr ⟨w.heap.size, 0, #[], rfl, Nat.le_refl _, heap_alloc_new w _, Nat.le_refl _, Nat.zero_le _, rfl, rfl⟩⟩
theorem grown_below {w w0 w1 : World} {B : Nat} {v : Value} {L : List DF} (h : Below B w w0) (hr : FR w0 B v L) (hg : w0.grownBy w1 v.ownBlock) (hB : B ≤ w.heap.size) : Below B w w1 :=
  h.grown hg (Nat.le_trans hB h.size) fun k hk => (World.ownsRow.lt hr k hk).1

set_option maxHeartbeats 4000000 in
set_option maxRecDepth 100000 in
theorem without_any (w : World) (v : Value) (L : List DF) (k : Nat) (h : FR w 0 v L) (hk : k < L.length) (hl : L.length ≤ 100000) :
    Calls Try.prog 56 #[v, .int .i64 (k : Int)] w fun e w' => ∃ v', e = .returned v' ∧ FR w' w.heap.size v' (L.take k ++ L.drop (k + 1)) ∧ Below w.heap.size w w' := by
  rcases h.form with ⟨rfl, rfl⟩ | ⟨g, c, rfl, _, hc, hcm⟩
  · simp at hk
  · have hb : Below w.heap.size w (w.alloc (.cells #[] 88)) := (Below.refl _ w).alloc (Nat.le_refl _) _
    have hr0 := FR.new0 w
    unfold maxLen at hcm
    have hI1 : (0 : Int) ≤ (k : Int) := by omega
    have hI2 : (k : Int) ≤ (c : Int) := by omega
    have hI3 : (k : Int) + 1 ≤ (L.length : Int) := by omega
    have hsrc1 : Src (w.alloc (.cells #[] 88)) (.slice (some ⟨g, 0, none⟩) k c) (L.take k) := by
      have hh := (h.below hb)
      refine .inr ⟨_, _, by rw [List.length_take, Nat.min_eq_left (by omega)], fun j u hu => ?_⟩
      refine World.ownsRow.cells hh (g := g) rfl j u ?_
      rw [flatF_take, List.getElem?_take] at hu
      split at hu
      · exact hu
      · cases hu
    have HF := Lib.hid h
    have HB := Lib.hid hb
    have HR := Lib.hid hr0
    have HS1 := Lib.hid hsrc1
    have HT : Hid ((L.take k).length = k) := by show _ = _; rw [List.length_take]; omega
    have HD : Hid ((L.drop (k + 1)).length = L.length - (k + 1)) := by show _ = _; rw [List.length_drop]
    by_cases hck : c = k + 1
    · subst hck
      have HS2 : Hid (∀ (w1 : World) A c', Src w1 (.slice (some A) 0 c') (L.drop (k + 1))) := fun w1 A c' => by
        have : L.drop (k + 1) = [] := List.drop_eq_nil_of_le (by omega)
        rw [this]
        exact .inr ⟨A, c', rfl, fun j u hu => by simp [flatF] at hu⟩
      clear h hb hr0 hsrc1
      go_enter Try.func56, Try.ntmps56
      go_wp2_with (first
        | (at_builtin; refine wpl_appF rfl _ _ rfl w.heap.size _ [] rfl HR.out _ (L.take k) rfl HS1.out (by rw [List.length_nil, HT.out]; omega) (by simp) ?_; intro v1 w1 h1 g1; rw [List.nil_append] at h1; have hb1 := grown_below HB.out HR.out g1 (Nat.le_refl _); obtain ⟨A1, n1, c1, rfl⟩ := h1.shape; have H1 := Lib.hid h1; have HB1 := Lib.hid hb1; clear h1 g1 hb1)
        | (at_builtin; refine wpl_appF rfl _ _ rfl w.heap.size _ (L.take k) rfl H1.out _ (L.drop (k + 1)) rfl (HS2.out _ _ _) (by rw [HT.out, HD.out]; omega) HB1.out.size ?_; intro v2 w2 h2 g2; have hb2 := grown_below HB1.out H1.out g2 (Nat.le_refl _); have H2 := Lib.hid h2; have HB2 := Lib.hid hb2; clear h2 g2 hb2))
      go_ret
      exact ⟨_, rfl, H2.out, HB2.out⟩
    · have HS2 : Hid (∀ w1, Below w.heap.size w w1 → Src w1 (.slice (some ⟨g, (k + 1) * 3, none⟩) (L.length - (k + 1)) (c - (k + 1))) (L.drop (k + 1))) := fun w1 hw1 => by
        have hh := h.below hw1
        refine .inr ⟨_, _, by rw [List.length_drop], fun j u hu => ?_⟩
        rw [flatF_drop, List.getElem?_drop] at hu
        have := World.ownsRow.cells hh (g := g) rfl _ u hu
        have hadd : ∀ a j, (⟨g, a, none⟩ : Addr).add j = ⟨g, a + j, none⟩ := fun a j => by unfold Addr.add; split <;> simp_all
        rw [hadd] at this ⊢
        rwa [Nat.zero_add] at this
      clear h hb hr0 hsrc1
      go_enter Try.func56, Try.ntmps56
      go_wp2_with (first
        | (at_builtin; refine wpl_appF rfl _ _ rfl w.heap.size _ [] rfl HR.out _ (L.take k) rfl HS1.out (by rw [List.length_nil, HT.out]; omega) (by simp) ?_; intro v1 w1 h1 g1; rw [List.nil_append] at h1; have hb1 := grown_below HB.out HR.out g1 (Nat.le_refl _); obtain ⟨A1, n1, c1, rfl⟩ := h1.shape; have H1 := Lib.hid h1; have HB1 := Lib.hid hb1; clear h1 g1 hb1)
        | (at_builtin; refine wpl_appF rfl _ _ rfl w.heap.size _ (L.take k) rfl H1.out _ (L.drop (k + 1)) rfl (HS2.out _ HB1.out) (by rw [HT.out, HD.out]; omega) HB1.out.size ?_; intro v2 w2 h2 g2; have hb2 := grown_below HB1.out H1.out g2 (Nat.le_refl _); have H2 := Lib.hid h2; have HB2 := Lib.hid hb2; clear h2 g2 hb2))
      go_ret
      exact ⟨_, rfl, H2.out, HB2.out⟩
end Go.Proofs.Ytdfiofjnijnodaa.gn
