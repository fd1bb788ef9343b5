/- The contract of 'perform': an operation is done to the files as they are, and is open from then on. -/
import Derived.Test.YtpbgckpjgfjmgaaFiL
import Derived.Deep.AppendLies
set_option linter.unusedVariables false
set_option maxRecDepth 100000
namespace Go.Proofs.Ytpbgckpjgfjmgaa.gn
open Go.RowKit
open Go.Proofs.Ytpbgckpjgfjmgaa.fi

theorem own_blk {w : World} {B : Nat} {e : TypeId} {size n : Nat} {v : Value} {xs : List Value} (h : w.ownsRow B e size v n xs) {g : Nat} (hg : v.ownBlock = some g) : ∃ cur, w.heap[g]? = some (.cells cur e (0, 0)) := by
  rcases h.2 with ⟨rfl, _⟩ | ⟨g', cap, cur, rfl, _, hh, _⟩
  · simp [Value.ownBlock] at hg
  · have : g' = g := by simpa [Value.ownBlock] using hg
    subst this
    exact ⟨cur, hh⟩

/-- What 'perform' leaves, put together. -/
theorem SysD.performed {w w1 w2 w3 : World} {X : Nat → Prop} {TT : Nat → Option Tb} {role : Nat → Nat × Bool} {ga : Nat → Nat} {D : Nat → Option FS} (h : SysD w X TT role ga D) {d : Nat} {s : FS} {nb sb : Nat} {v : Value} (hd : DirOk w X TT role ga d s nb sb v)
    {o : FOp} (hfit : fit o s.now) {c : Value × Value} (hc : CloOk w X c o) (h1 : SysT w1 (ext X w w1) (upd TT nb (doOp o s.now))) (ho1 : OnlyT X w w1) {g n cap : Nat} (hn : n = s.op.length) {cs : List (Value × Value)} (hcs : Clos w X cs s.op) (hrow0 : w.ownsRow 0 64 2 v s.op.length (flatC cs)) (hga : ∀ g, v.ownBlock = some g → X g ∧ ga g = d)
    (hrow : w2.ownsRow 0 64 2 (.slice (some ⟨g, 0, none⟩) (n + 1) cap) (n + 1) (flatC cs ++ [c.1, c.2])) (ho2 : Only (fun i => some i = v.ownBlock) w1 w2) (hat : v.ownBlock = some g ∨ w1.heap.size ≤ g)
    (hb3 : BlkD w3 d s.room nb sb (.slice (some ⟨g, 0, none⟩) (n + 1) cap)) (ho3 : Only (fun i => i = d) w2 w3) :
    Sys w3 (ext X w w3) (upd D d (s.done o)) ∧ Only X w w3 := by
  subst hn
  obtain ⟨cur2, hcur2⟩ := own_blk hrow (g := g) rfl
  have hne2 : g ≠ d := by
    rintro rfl
    have hblk1 : BlkD w1 g s.room nb sb v := ho1.block hd.blk (by decide) (by decide)
    have hb2 : BlkD w2 g s.room nb sb v := by
      refine (ho2.block g (lt_of_block hblk1) fun e => ?_).trans hblk1
      obtain ⟨cur, hcu⟩ := own_blk hrow0 e.symm
      have := hd.blk
      unfold BlkD at this
      rw [hcu] at this
      simp at this
    unfold BlkD at hb2
    rw [hcur2] at hb2
    simp at hb2
  have hs1 := ho1.size
  have hs2 := ho2.size
  have hs3 := ho3.size
  have hsn : sb ≠ nb := fun e => by have h1 := hd.rn; rw [← e, hd.rs] at h1; cases h1
  have hfar : ∀ i cs t, X i → w.heap[i]? = some (.cells cs t (0, 0)) → (t = 55 ∧ i ≠ d ∨ t = 9 ∨ t = 3 ∨ (t = 64 ∧ ga i ≠ d)) → w3.heap[i]? = some (.cells cs t (0, 0)) := fun i cs' t hX hi ht => by
    have hid : i ≠ d := by
      rintro rfl
      have hb := hd.blk
      unfold BlkD at hb
      rw [hi] at hb
      simp at hb
      rcases ht with ⟨_, ht⟩ | ht | ht | ⟨ht, _⟩
      · exact ht rfl
      all_goals (rw [ht] at hb; exact absurd hb.2 (by decide))
    have hio : some i ≠ v.ownBlock := fun e => by
      obtain ⟨cur, hcu⟩ := own_blk hrow0 e.symm
      rw [hi] at hcu
      simp at hcu
      rcases ht with ⟨ht, _⟩ | ht | ht | ⟨_, ht⟩
      · rw [ht] at hcu; exact absurd hcu.2 (by decide)
      · rw [ht] at hcu; exact absurd hcu.2 (by decide)
      · rw [ht] at hcu; exact absurd hcu.2 (by decide)
      · exact ht (hga i e.symm).2
    have ht5 : t ≠ 76 ∧ t ≠ 5 := by
      rcases ht with ⟨ht, _⟩ | ht | ht | ⟨ht, _⟩ <;> rw [ht] <;> decide
    have l1 := ho1.block hi ht5.1 ht5.2
    have hlt := lt_of_block hi
    exact (ho3.block i (by omega) hid).trans ((ho2.block i (by omega) hio).trans l1)
  have hX : ∀ i, X i → ext X w w3 i := fun i hi => ext_old hi
  have hT3 : SysT w3 (ext X w w3) (upd TT nb (doOp o s.now)) := by
    refine (h1.keptT fun i hi _ ht => ?_).more fun i hi => ?_
    · have hid : i ≠ d := by
        rintro rfl
        have hblk1 : BlkD w1 i s.room nb sb v := ho1.block hd.blk (by decide) (by decide)
        unfold BlkD at hblk1
        rcases ht with ⟨_, _, he⟩ | ⟨_, he⟩ | ⟨_, he⟩ <;> rw [hblk1] at he <;> simp at he
      have hio : some i ≠ v.ownBlock := fun e => by
        obtain ⟨cur, hcu⟩ := own_blk hrow0 e.symm
        have hcu1 := ho1.block hcu (by decide) (by decide)
        rcases ht with ⟨_, _, he⟩ | ⟨_, he⟩ | ⟨_, he⟩ <;> rw [hcu1] at he <;> simp at he
      exact (ho3.block i (by omega) hid).trans (ho2.block i hi hio)
    · rcases hi with hi | ⟨i1, i2⟩
      · exact .inl hi
      · exact .inr ⟨i1, by omega⟩
  have hg1 : ∀ i, i < w.heap.size → put1 ga g d i = ga i := fun i hi => by
    by_cases e : i = g
    · subst e
      rw [put1_same]
      rcases hat with hat | hat
      · exact (hga i hat).2.symm
      · omega
    · exact put1_other _ _ e
  have hcur3 : w3.heap[g]? = some (.cells cur2 64 (0, 0)) := (ho3.block g (lt_of_block hcur2) hne2).trans hcur2
  refine ⟨⟨upd TT nb (doOp o s.now), role, put1 ga g d, h.turn d (s.done o) hT3 (fun b hb hr => upd_other _ _ fun e => hr (by rw [e, hd.rn])) hX hfar (fun _ _ => rfl) hg1 (nb := nb) (sb := sb) (v := .slice (some ⟨g, 0, none⟩) (s.op.length + 1) cap)
    ⟨hX _ hd.x, hd.ok.done hfit, hb3, by rw [upd_same, FS.done_now], by rw [upd_other _ _ hsn]; exact hd.safe, hd.rn, hd.rs, cs ++ [c], ?_, ?_, ?_⟩⟩, ?_⟩
  · have hl : (s.done o).op.length = s.op.length + 1 := by simp [FS.done]
    rw [hl]
    have hf : flatC (cs ++ [c]) = flatC cs ++ [c.1, c.2] := by simp [flatC]
    rw [hf]
    exact row_kept hrow fun g' cs' hg' hh => by
      cases hg'
      exact (ho3.block g (lt_of_block hh) hne2).trans hh
  · refine Clos.kept (X := X) (w := w) (hcs.snoc hc) fun c' o' hco => hco.kept (fun b cs' hXb hh => hfar b cs' _ hXb hh (.inr (.inl rfl))) (fun b cs' hXb hh => hfar b cs' _ hXb hh (.inr (.inr (.inl rfl)))) hX
  · intro g' hg'
    cases hg'
    refine ⟨?_, put1_same _ _ _⟩
    rcases hat with hat | hat
    · exact hX _ (hga g hat).1
    · exact .inr ⟨(by show w.heap.size ≤ g; omega), lt_of_block hcur3⟩
  · have ho2' : Only (fun i => some i = v.ownBlock ∨ i = d) w1 w2 := Only.mono ho2 fun i _ hi => .inl hi
    have h23 : Only (fun i => some i = v.ownBlock ∨ i = d) w1 w3 := Only.trans ho2' ho3 fun i _ hi => .inr hi
    have ho1' : Only X w w1 := Only.mono ho1 fun i _ hi => hi.1
    refine Only.trans ho1' h23 fun i hi hh => ?_
    rcases hh with hh | rfl
    · exact (hga i hh.symm).1
    · exact hd.x
end Go.Proofs.Ytpbgckpjgfjmgaa.gn
