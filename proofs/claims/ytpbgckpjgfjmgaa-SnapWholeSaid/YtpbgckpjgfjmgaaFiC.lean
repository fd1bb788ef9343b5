/- Tables of files in memory: an entry more, an entry less, another name, a table more. -/
import Derived.Test.YtpbgckpjgfjmgaaFiB
set_option linter.unusedVariables false
namespace Go.Proofs.Ytpbgckpjgfjmgaa.gn
open Go.RowKit
open Go.Proofs.Ytpbgckpjgfjmgaa.fi

theorem SysT.lt {w : World} {X : Nat → Prop} {TT : Nat → Option Tb} {b : Nat} {T : Tb} (h : SysT w X TT) (hT : TT b = some T) : b < w.heap.size ∧ X b := by
  obtain ⟨G, hG⟩ := h
  obtain ⟨es, cl, he⟩ := (hG.tab hT).is
  exact ⟨lt_of_block he, (hG b T hT).1⟩
theorem SysG.blk_lt {w : World} {X : Nat → Prop} {G : Lay} {TT : Nat → Option Tb} {b : Nat} {T : Tb} (h : SysG w X G TT) (hT : TT b = some T) : ∀ e ∈ G.tab b, e.2 < w.heap.size := by
  intro e he
  obtain ⟨_, _, A, n, c, hb, _⟩ := (h b T hT).2.2.2.2 e he
  exact lt_of_block hb
theorem SysG.len {w : World} {X : Nat → Prop} {G : Lay} {TT : Nat → Option Tb} {b : Nat} {T : Tb} (h : SysG w X G TT) (hT : TT b = some T) : (G.tab b).length = T.length := by
  rw [(h b T hT).2.2.2.1, List.length_map]

/-- The other tables behind a step that turned table b, and new blocks, alone. -/
theorem SysG.others {w w' : World} {X : Nat → Prop} {G G' : Lay} {TT : Nat → Option Tb} (h : SysG w X G TT) {b : Nat} (hb : ∃ es cl, w.heap[b]? = some (.map es cl)) (hk : ∀ i, i < w.heap.size → i ≠ b → w'.heap[i]? = w.heap[i]?)
    (h1 : ∀ i, i < w.heap.size → i ≠ b → G'.tab i = G.tab i) (h2 : ∀ q, q < w.heap.size → G'.cont q = G.cont q) (h3 : ∀ q, q < w.heap.size → G'.own q = G.own q) (h4 : G'.len = G.len) (h5 : G'.tail = G.tail)
    {b2 : Nat} {T2 : Tb} (hT2 : TT b2 = some T2) (hne : b2 ≠ b) : TabOk w' (ext X w w') G' b2 T2 := by
  obtain ⟨t1, t2, t3, t4, t5⟩ := h b2 T2 hT2
  obtain ⟨es, cl, hes⟩ := t2.is
  have hlt := lt_of_block hes
  refine ⟨ext_old t1, ?_, ?_, ?_, ?_⟩ <;> rw [h1 b2 hlt hne]
  · exact t2.kept (hk b2 hlt hne)
  · exact t3
  · rw [t4]
    exact List.map_congr_left fun e he => by rw [h2 _ (h.blk_lt hT2 e he)]
  · intro e he
    obtain ⟨hx, ho, A, n, c, hbk, hy, hg⟩ := t5 e he
    have hq := lt_of_block hbk
    obtain ⟨es', cl', hb'⟩ := hb
    have hpb : e.2 ≠ b := by
      rintro rfl
      unfold BlkF at hbk
      rw [hb'] at hbk
      cases hbk
    have hyk : Byt w' A n c (G.cont e.2).1 := hy.kept fun g hA hlt2 => hk g hlt2 fun e2 => by
      subst e2
      obtain ⟨cur, hc, _⟩ := hy.lt hA
      rw [hb'] at hc
      cases hc
    refine ⟨ext_old hx, by rw [h3 _ hq]; exact ho, A, n, c, by rw [h2 _ hq]; exact (hk _ hq hpb).trans hbk, by rw [h2 _ hq]; exact hyk, fun g hA => ?_⟩
    rw [h4, h5]
    exact ⟨ext_old (hg g hA).1, (hg g hA).2⟩
/-- .. and the files of table b itself that stand there as they stood. -/
theorem SysG.stays {w w' : World} {X : Nat → Prop} {G G' : Lay} {TT : Nat → Option Tb} (h : SysG w X G TT) {b : Nat} {T : Tb} (hT : TT b = some T) (hk : ∀ i, i < w.heap.size → i ≠ b → w'.heap[i]? = w.heap[i]?)
    (h2 : ∀ q, q < w.heap.size → G'.cont q = G.cont q) (h3 : ∀ q, q < w.heap.size → G'.own q = G.own q) (h4 : G'.len = G.len) (h5 : G'.tail = G.tail) {e : Nm × Nat} (he : e ∈ G.tab b) : FileOk w' (ext X w w') G' b e.2 := by
  obtain ⟨t1, t2, t3, t4, t5⟩ := h b T hT
  obtain ⟨hx, ho, A, n, c, hbk, hy, hg⟩ := t5 e he
  have hq := lt_of_block hbk
  obtain ⟨es', cl', hb'⟩ := t2.is
  have hpb : e.2 ≠ b := tabs_ne t2 hbk
  have hyk : Byt w' A n c (G.cont e.2).1 := hy.kept fun g hA hlt2 => hk g hlt2 fun e2 => by
    subst e2
    obtain ⟨cur, hc, _⟩ := hy.lt hA
    rw [hb'] at hc
    cases hc
  refine ⟨ext_old hx, by rw [h3 _ hq]; exact ho, A, n, c, by rw [h2 _ hq]; exact (hk _ hq hpb).trans hbk, by rw [h2 _ hq]; exact hyk, fun g hA => ?_⟩
  rw [h4, h5]
  exact ⟨ext_old (hg g hA).1, (hg g hA).2⟩

theorem pair_del {L : List (Nm × Nat)} (h : L.Pairwise fun p q => p.2 ≠ q.2) (k : Nm) : (fi.del k L).Pairwise fun p q => p.2 ≠ q.2 := h.filter _
theorem pair_put {L : List (Nm × Nat)} (h : L.Pairwise fun p q => p.2 ≠ q.2) (k : Nm) {p : Nat} (hp : ∀ e ∈ fi.del k L, e.2 ≠ p) : (fi.put k p L).Pairwise fun p q => p.2 ≠ q.2 := by
  unfold fi.put
  rw [(fi.ins_perm _ _).pairwise_iff (fun {a b} (h : a.2 ≠ b.2) => h.symm)]
  exact List.pairwise_cons.2 ⟨fun q hq => (hp q hq).symm, pair_del h k⟩
theorem mem_put {V : Type} {k : Nm} {v : V} {l : List (Nm × V)} {z : Nm × V} (h : z ∈ fi.put k v l) : z = (k, v) ∨ (z ∈ l ∧ z.1 ≠ k) := by
  rcases mem_ins.1 h with h | h
  · exact .inl h
  · exact .inr (mem_del.1 h)

/-- A file of its own, in a new block p, at the name k. -/
theorem SysG.add {w w1 : World} {X : Nat → Prop} {G : Lay} {TT : Nat → Option Tb} {b : Nat} {T : Tb} (h : SysG w X G TT) (hT : TT b = some T) (hw : Below w.heap.size w w1) {p : Nat} (hp : w.heap.size ≤ p) {A : Option Addr} {n : Nat} {f : Fl}
    (hb : BlkF w1 p A n n f.2) (hy : Byt w1 A n n f.1) (hA : ∀ g, A = some ⟨g, 0, none⟩ → X g ∧ n ≤ G.len g) {k : Nm} (hk : k.length ≤ maxLen) (hl : T.length < maxLen) :
    ∃ w2, (Instr.mapUpdate 52 (.map (some b)) (.string (str k)) (.pointer (some ⟨p, 0, none⟩))).run Try.prog w1 = .ok () w2 ∧ w1.grownBy w2 (some b) ∧ SysT w2 (ext X w w2) (upd TT b (fi.put k f T)) := by
  have ht := h.tab hT
  obtain ⟨es, cl, hes⟩ := ht.is
  have hbl := lt_of_block hes
  obtain ⟨w2, hrun, ht2, hg2⟩ := (ht.kept (hw.block b hbl)).put hk (by rw [h.len hT]; exact hl) p
  have hpl := lt_of_block hb
  have hk2 : ∀ i, i < w.heap.size → i ≠ b → w2.heap[i]? = w.heap[i]? := fun i hi hne => (hg2.block i (Nat.lt_of_lt_of_le hi hw.size) (fun e => hne (Option.some.inj e))).trans (hw.block i hi)
  have hpb : p ≠ b := by omega
  have e2 : ∀ q, q < w.heap.size → put1 G.cont p f q = G.cont q := fun q hq => put1_other _ _ (by omega)
  have e3 : ∀ q, q < w.heap.size → put1 G.own p b q = G.own q := fun q hq => put1_other _ _ (by omega)
  refine ⟨w2, hrun, hg2, { G with tab := put1 G.tab b (fi.put k p (G.tab b)), cont := put1 G.cont p f, own := put1 G.own p b }, fun b2 T2 hT2 => ?_⟩
  by_cases e : b2 = b
  · subst e
    rw [upd_same] at hT2
    cases hT2
    obtain ⟨t1, t2, t3, t4, t5⟩ := h b2 T hT
    refine ⟨ext_old t1, ?_, ?_, ?_, fun z hz => ?_⟩
    · show Tab w2 b2 (put1 G.tab b2 _ b2)
      rw [put1_same]
      exact ht2
    · show (put1 G.tab b2 _ b2).Pairwise _
      rw [put1_same]
      exact pair_put t3 k fun z hz => by have := h.blk_lt hT z (mem_del.1 hz).1; omega
    · show _ = (put1 G.tab b2 _ b2).map _
      rw [put1_same]
      show _ = (fi.put k p (G.tab b2)).map fun e => (e.1, put1 G.cont p f e.2)
      have e5 : T = (G.tab b2).map fun e => (e.1, put1 G.cont p f e.2) := by
        rw [t4]
        exact List.map_congr_left fun z hz => by rw [e2 _ (h.blk_lt hT z hz)]
      rw [put_map (put1 G.cont p f), put1_same, ← e5]
    · have hz' : z ∈ fi.put k p (G.tab b2) := by
        have : z ∈ put1 G.tab b2 (fi.put k p (G.tab b2)) b2 := hz
        rwa [put1_same] at this
      rcases mem_put hz' with rfl | ⟨hz1, _⟩
      · refine ⟨.inr ⟨hp, Nat.lt_of_lt_of_le hpl hg2.size⟩, by simp [put1], A, n, n, ?_, ?_, fun g hg => ⟨ext_old (hA g hg).1, (hA g hg).2, .inl rfl⟩⟩
        · show BlkF w2 p A n n (put1 G.cont p f p).2
          rw [put1_same]
          exact (hg2.block p hpl (fun e => hpb (Option.some.inj e))).trans hb
        · show Byt w2 A n n (put1 G.cont p f p).1
          rw [put1_same]
          refine hy.kept fun g hg hlt => hg2.block g hlt fun e => ?_
          cases e
          obtain ⟨cur, hc, _⟩ := hy.lt hg
          rw [hw.block b2 hbl, hes] at hc
          cases hc
      · exact h.stays (G' := { G with tab := put1 G.tab b2 (fi.put k p (G.tab b2)), cont := put1 G.cont p f, own := put1 G.own p b2 }) hT hk2 e2 e3 rfl rfl hz1
  · rw [upd_other _ _ e] at hT2
    exact h.others (G' := { G with tab := put1 G.tab b (fi.put k p (G.tab b)), cont := put1 G.cont p f, own := put1 G.own p b }) ⟨es, cl, hes⟩ hk2 (fun i _ hi => put1_other _ _ hi) e2 e3 rfl rfl hT2 e

/-- A name less. -/
theorem SysT.drop {w : World} {X : Nat → Prop} {TT : Nat → Option Tb} {b : Nat} {T : Tb} (h : SysT w X TT) (hT : TT b = some T) {k : Nm} (hk : k.length ≤ maxLen) (ty : TypeId) :
    ∃ w2, (Builtin.delete_ #[52, 9] ty #[.map (some b), .string (str k)]).run Try.prog w = .ok (.tuple #[]) w2 ∧ w.grownBy w2 (some b) ∧ SysT w2 (ext X w w2) (upd TT b (fi.del k T)) := by
  obtain ⟨G, h⟩ := h
  have ht := h.tab hT
  obtain ⟨es, cl, hes⟩ := ht.is
  have hbl := lt_of_block hes
  obtain ⟨w2, hrun, ht2, hg2⟩ := ht.del hk ty
  have hk2 : ∀ i, i < w.heap.size → i ≠ b → w2.heap[i]? = w.heap[i]? := fun i hi hne => hg2.block i hi (fun e => hne (Option.some.inj e))
  refine ⟨w2, hrun, hg2, { G with tab := put1 G.tab b (fi.del k (G.tab b)) }, fun b2 T2 hT2 => ?_⟩
  by_cases e : b2 = b
  · subst e
    rw [upd_same] at hT2
    cases hT2
    obtain ⟨t1, t2, t3, t4, t5⟩ := h b2 T hT
    refine ⟨ext_old t1, ?_, ?_, ?_, fun z hz => ?_⟩
    · show Tab w2 b2 (put1 G.tab b2 _ b2)
      rw [put1_same]
      exact ht2
    · show (put1 G.tab b2 _ b2).Pairwise _
      rw [put1_same]
      exact pair_del t3 k
    · show _ = (put1 G.tab b2 _ b2).map _
      rw [put1_same, t4]
      exact (del_map G.cont k (G.tab b2)).symm
    · have hz' : z ∈ fi.del k (G.tab b2) := by
        have : z ∈ put1 G.tab b2 (fi.del k (G.tab b2)) b2 := hz
        rwa [put1_same] at this
      exact h.stays hT hk2 (fun _ _ => rfl) (fun _ _ => rfl) rfl rfl (mem_del.1 hz').1
  · rw [upd_other _ _ e] at hT2
    exact h.others (G' := { G with tab := put1 G.tab b (fi.del k (G.tab b)) }) ⟨es, cl, hes⟩ hk2 (fun i _ hi => put1_other _ _ hi) (fun _ _ => rfl) (fun _ _ => rfl) rfl rfl hT2 e

/-- Another name: the file that stands at k1 is taken away, and laid at k2. -/
theorem SysG.move {w : World} {X : Nat → Prop} {G : Lay} {TT : Nat → Option Tb} {b : Nat} {T : Tb} (h : SysG w X G TT) (hT : TT b = some T) {k1 k2 : Nm} (hk1 : k1.length ≤ maxLen) (hk2 : k2.length ≤ maxLen) (hl : T.length < maxLen) (ty : TypeId)
    {p : Nat} (hp : fi.get k1 (G.tab b) = some p) :
    ∃ w1 w2, (Builtin.delete_ #[52, 9] ty #[.map (some b), .string (str k1)]).run Try.prog w = .ok (.tuple #[]) w1 ∧ w.grownBy w1 (some b) ∧
      (Instr.mapUpdate 52 (.map (some b)) (.string (str k2)) (.pointer (some ⟨p, 0, none⟩))).run Try.prog w1 = .ok () w2 ∧ w1.grownBy w2 (some b) ∧ SysT w2 (ext X w w2) (upd TT b (renT k1 k2 T)) := by
  have ht := h.tab hT
  obtain ⟨es, cl, hes⟩ := ht.is
  have hbl := lt_of_block hes
  obtain ⟨w1, hrun1, ht1, hg1⟩ := ht.del hk1 ty
  obtain ⟨w2, hrun2, ht2, hg2⟩ := ht1.put hk2 (Nat.lt_of_le_of_lt (del_length k1) (by rw [h.len hT]; exact hl)) p
  have hkk : ∀ i, i < w.heap.size → i ≠ b → w2.heap[i]? = w.heap[i]? := fun i hi hne =>
    (hg2.block i (Nat.lt_of_lt_of_le hi hg1.size) (fun e => hne (Option.some.inj e))).trans (hg1.block i hi (fun e => hne (Option.some.inj e)))
  have hr : renT k1 k2 T = fi.put k2 (G.cont p) (fi.del k1 T) := by
    have : fi.get k1 T = some (G.cont p) := by rw [h.get hT, hp]; rfl
    simp only [renT, this]
  rw [hr]
  refine ⟨w1, w2, hrun1, hg1, hrun2, hg2, { G with tab := put1 G.tab b (fi.put k2 p (fi.del k1 (G.tab b))) }, fun b2 T2 hT2 => ?_⟩
  by_cases e : b2 = b
  · subst e
    rw [upd_same] at hT2
    cases hT2
    obtain ⟨t1, t2, t3, t4, t5⟩ := h b2 T hT
    refine ⟨ext_old t1, ?_, ?_, ?_, fun z hz => ?_⟩
    · show Tab w2 b2 (put1 G.tab b2 _ b2)
      rw [put1_same]
      exact ht2
    · show (put1 G.tab b2 _ b2).Pairwise _
      rw [put1_same]
      refine pair_put (pair_del t3 k1) k2 fun z hz e2 => ?_
      have hz1 := mem_del.1 (mem_del.1 hz).1
      exact hz1.2 (congrArg Prod.fst (apart_eq t3 hz1.1 (get_some hp) e2))
    · show _ = (put1 G.tab b2 _ b2).map _
      rw [put1_same, t4]
      show _ = (fi.put k2 p (fi.del k1 (G.tab b2))).map fun e => (e.1, G.cont e.2)
      rw [put_map G.cont, del_map G.cont]
    · have hz' : z ∈ fi.put k2 p (fi.del k1 (G.tab b2)) := by
        have : z ∈ put1 G.tab b2 (fi.put k2 p (fi.del k1 (G.tab b2))) b2 := hz
        rwa [put1_same] at this
      rcases mem_put hz' with rfl | ⟨hz1, _⟩
      · exact h.stays (e := (k1, p)) hT hkk (fun _ _ => rfl) (fun _ _ => rfl) rfl rfl (get_some hp)
      · exact h.stays hT hkk (fun _ _ => rfl) (fun _ _ => rfl) rfl rfl (mem_del.1 hz1).1
  · rw [upd_other _ _ e] at hT2
    exact h.others (G' := { G with tab := put1 G.tab b (fi.put k2 p (fi.del k1 (G.tab b))) }) ⟨es, cl, hes⟩ hkk (fun i _ hi => put1_other _ _ hi) (fun _ _ => rfl) (fun _ _ => rfl) rfl rfl hT2 e

/-- A table more. -/
theorem SysT.made {w : World} {X : Nat → Prop} {TT : Nat → Option Tb} (h : SysT w X TT) : SysT (w.alloc (.map #[] 0)) (ext X w (w.alloc (.map #[] 0))) (upd TT w.heap.size []) := by
  obtain ⟨G, h⟩ := h
  have hb : Below w.heap.size w (w.alloc (.map #[] 0)) := (Below.refl _ w).alloc (Nat.le_refl _) _
  refine ⟨{ G with tab := put1 G.tab w.heap.size [] }, fun b2 T2 hT2 => ?_⟩
  by_cases e : b2 = w.heap.size
  · subst e
    rw [upd_same] at hT2
    cases hT2
    refine ⟨.inr ⟨Nat.le_refl _, by simp⟩, ?_, ?_, ?_, fun z hz => ?_⟩
    · show Tab _ w.heap.size (put1 G.tab _ _ _)
      rw [put1_same]
      exact Tab.new w
    · show (put1 G.tab _ _ _).Pairwise _
      rw [put1_same]
      exact .nil
    · show _ = (put1 G.tab _ _ _).map _
      rw [put1_same]
      rfl
    · have : z ∈ put1 G.tab w.heap.size [] w.heap.size := hz
      rw [put1_same] at this
      cases this
  · rw [upd_other _ _ e] at hT2
    obtain ⟨t1, t2, t3, t4, t5⟩ := (h.below hb) b2 T2 hT2
    refine ⟨ext_old t1, ?_, ?_, ?_, fun z hz => ?_⟩
    · show Tab _ b2 (put1 G.tab _ _ _)
      rw [put1_other _ _ e]
      exact t2
    · show (put1 G.tab _ _ _).Pairwise _
      rw [put1_other _ _ e]
      exact t3
    · show _ = (put1 G.tab _ _ _).map _
      rw [put1_other _ _ e]
      exact t4
    · have : z ∈ put1 G.tab w.heap.size [] b2 := hz
      rw [put1_other _ _ e] at this
      obtain ⟨hx, rest⟩ := t5 z this
      obtain ⟨ho, A, n, c, hbk, hy, hg⟩ := rest
      exact ⟨ext_old hx, ho, A, n, c, hbk, hy, fun g hA => ⟨ext_old (hg g hA).1, (hg g hA).2⟩⟩

/-! ### what a step on tables may turn -/
/-- Block i is one that tables are made of. -/
def TS (w : World) (i : Nat) : Prop := (∃ es c, w.heap[i]? = some (.map es c)) ∨ (∃ cs, w.heap[i]? = some (.cells cs 76 (0, 0))) ∨ ∃ cs, w.heap[i]? = some (.cells cs 5 (0, 0))
theorem SysG.keptT {w w' : World} {X : Nat → Prop} {G : Lay} {TT : Nat → Option Tb} (h : SysG w X G TT) (hk : ∀ i, i < w.heap.size → X i → TS w i → w'.heap[i]? = w.heap[i]?) : SysG w' X G TT := by
  intro b T hT
  obtain ⟨h1, h2, h3, h4, h5⟩ := h b T hT
  obtain ⟨es, cl, hes⟩ := h2.is
  refine ⟨h1, h2.kept (hk b (lt_of_block hes) h1 (.inl ⟨es, cl, hes⟩)), h3, h4, fun e he => ?_⟩
  obtain ⟨hx, ho, A, n, c, hb, hy, hg⟩ := h5 e he
  exact ⟨hx, ho, A, n, c, (hk e.2 (lt_of_block hb) hx (.inr (.inl ⟨_, hb⟩))).trans hb, hy.kept fun g hA hlt => by
    obtain ⟨cur, hc, _⟩ := hy.lt hA
    exact hk g hlt (hg g hA).1 (.inr (.inr ⟨cur, hc⟩)), hg⟩
theorem SysT.keptT {w w' : World} {X : Nat → Prop} {TT : Nat → Option Tb} (h : SysT w X TT) (hk : ∀ i, i < w.heap.size → X i → TS w i → w'.heap[i]? = w.heap[i]?) : SysT w' X TT := by
  obtain ⟨G, hG⟩ := h
  exact ⟨G, hG.keptT hk⟩
/-- w' is w but for blocks of X that tables are made of. -/
def OnlyT (X : Nat → Prop) (w w' : World) : Prop := Only (fun i => X i ∧ TS w i) w w'
theorem OnlyT.of_below {X : Nat → Prop} {w w' : World} (h : Below w.heap.size w w') : OnlyT X w w' := Only.of_below h
theorem OnlyT.trans {X : Nat → Prop} {a b c : World} (h : OnlyT X a b) (k : OnlyT (ext X a b) b c) : OnlyT X a c := by
  refine Only.trans h k fun i hi ⟨hx, ht⟩ => ?_
  have hx' : X i := by
    rcases hx with hx | ⟨hx, _⟩
    · exact hx
    · omega
  by_cases hn : X i ∧ TS a i
  · exact hn
  · refine ⟨hx', ?_⟩
    have hs := h.block i hi hn
    unfold TS at ht ⊢
    rw [hs] at ht
    exact ht
theorem OnlyT.more {X Y : Nat → Prop} {a b : World} (h : OnlyT X a b) (hk : ∀ i, i < a.heap.size → X i → Y i) : OnlyT Y a b := Only.mono h fun i hi ⟨hx, ht⟩ => ⟨hk i hi hx, ht⟩
theorem OnlyT.trans_old {X : Nat → Prop} {a b c : World} (h : OnlyT X a b) (k : OnlyT X b c) : OnlyT X a c := h.trans (k.more fun i _ hx => ext_old hx)
theorem OnlyT.block {X : Nat → Prop} {a b : World} (h : OnlyT X a b) {i : Nat} {cs : Array Value} {t : TypeId} (hi : a.heap[i]? = some (.cells cs t (0, 0))) (h1 : t ≠ 76) (h2 : t ≠ 5) : b.heap[i]? = some (.cells cs t (0, 0)) := by
  rw [Only.block h i (lt_of_block hi) ?_]
  · exact hi
  · rintro ⟨_, ⟨es, c, he⟩ | ⟨cs', he⟩ | ⟨cs', he⟩⟩
    · rw [hi] at he; cases he
    · rw [hi] at he; simp at he; exact h1 he.2
    · rw [hi] at he; simp at he; exact h2 he.2
/-- Behind a call on table b: it is T now; nothing else has turned. -/
def Goes (X : Nat → Prop) (TT : Nat → Option Tb) (b : Nat) (T : Tb) (w : World) (e : Ending) (w' : World) : Prop :=
  e = .returned (.tuple #[]) ∧ SysT w' (ext X w w') (upd TT b T) ∧ OnlyT X w w'
end Go.Proofs.Ytpbgckpjgfjmgaa.gn
