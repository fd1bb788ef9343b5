/- The contract of 'perform': an operation is done to the files as they are, and is open from then on. -/
import Derived.Test.YtmaohncddjhgeaaGreatMFiJ
import Derived.Deep.AppendLies
section
set_option linter.unusedVariables false
set_option maxRecDepth 100000
namespace Go.Proofs.YtmaohncddjhgeaaGreat.gn
open Go.RowKit
open Go.Proofs.YtmaohncddjhgeaaGreat.fi

theorem own_blk {w : World} {B : Nat} {e : TypeId} {size n : Nat} {v : Value} {xs : List Value} (h : w.ownsRow B e size v n xs) {g : Nat} (hg : v.ownBlock = some g) : ∃ cur, w.heap[g]? = some (.cells cur e (0, 0)) := by
  rcases h.2 with ⟨rfl, _⟩ | ⟨g', cap, cur, rfl, _, hh, _⟩
  · simp [Value.ownBlock] at hg
  · have : g' = g := by simpa [Value.ownBlock] using hg
    subst this
    exact ⟨cur, hh⟩

/-- What 'perform' leaves, put together. -/
theorem SysD.performed {w w1 w2 w3 : World} {X : Nat → Prop} {TT : Nat → Option Tb} {role : Nat → Nat × Bool} {ga : Nat → Nat} {D : Nat → Option FS} (h : SysD w X TT role ga D) {d : Nat} {s : FS} {nb sb : Nat} {v : Value} (hd : DirOk w X TT role ga d s nb sb v)
    {o : FOp} (hfit : fit o s.now) {c : Value × Value} (hc : CloOk w X c o) (h1 : SysT w1 (ext X w w1) (upd TT nb (doOp o s.now))) (ho1 : OnlyT X w w1) {g n cap : Nat} (hn : n = s.op.length) {cs : List (Value × Value)} (hcs : Clos w X cs s.op) (hrow0 : w.ownsRow 0 88 2 v s.op.length (flatC cs)) (hga : ∀ g, v.ownBlock = some g → X g ∧ ga g = d)
    (hrow : w2.ownsRow 0 88 2 (.slice (some ⟨g, 0, none⟩) (n + 1) cap) (n + 1) (flatC cs ++ [c.1, c.2])) (ho2 : Only (fun i => some i = v.ownBlock) w1 w2) (hat : v.ownBlock = some g ∨ w1.heap.size ≤ g)
    (hb3 : BlkD w3 d s.room nb sb (.slice (some ⟨g, 0, none⟩) (n + 1) cap)) (ho3 : Only (fun i => i = d) w2 w3) :
    Sys w3 (ext X w w3) (upd D d (s.done o)) ∧ Only X w w3 := by
  subst hn
  obtain ⟨cur2, hcur2⟩ := own_blk hrow (g := g) rfl
  have hne2 : g ≠ d := by
    rintro rfl
    have hblk1 : BlkD w1 g s.room nb sb v := ho1.block hd.blk (by decide) (by decide)
    have hb2 : BlkD w2 g s.room nb sb v := by
      refine (ho2.block g (lt_of_block hblk1) fun e => ?_).trans hblk1
      obtain ⟨cur, hcu⟩ := own_blk hrow0 e.symm
      have := hd.blk
      unfold BlkD at this
      rw [hcu] at this
      simp at this
    unfold BlkD at hb2
    rw [hcur2] at hb2
    simp at hb2
  have hs1 := ho1.size
  have hs2 := ho2.size
  have hs3 := ho3.size
  have hsn : sb ≠ nb := fun e => by have h1 := hd.rn; rw [← e, hd.rs] at h1; cases h1
  have hfar : ∀ i cs t, X i → w.heap[i]? = some (.cells cs t (0, 0)) → (t = 69 ∧ i ≠ d ∨ t = 9 ∨ t = 3 ∨ (t = 88 ∧ ga i ≠ d)) → w3.heap[i]? = some (.cells cs t (0, 0)) := fun i cs' t hX hi ht => by
    have hid : i ≠ d := by
      rintro rfl
      have hb := hd.blk
      unfold BlkD at hb
      rw [hi] at hb
      simp at hb
      rcases ht with ⟨_, ht⟩ | ht | ht | ⟨ht, _⟩
      · exact ht rfl
      all_goals (rw [ht] at hb; exact absurd hb.2 (by decide))
    have hio : some i ≠ v.ownBlock := fun e => by
      obtain ⟨cur, hcu⟩ := own_blk hrow0 e.symm
      rw [hi] at hcu
      simp at hcu
      rcases ht with ⟨ht, _⟩ | ht | ht | ⟨_, ht⟩
      · rw [ht] at hcu; exact absurd hcu.2 (by decide)
      · rw [ht] at hcu; exact absurd hcu.2 (by decide)
      · rw [ht] at hcu; exact absurd hcu.2 (by decide)
      · exact ht (hga i e.symm).2
    have ht5 : t ≠ 82 ∧ t ≠ 5 := by
      rcases ht with ⟨ht, _⟩ | ht | ht | ⟨ht, _⟩ <;> rw [ht] <;> decide
    have l1 := ho1.block hi ht5.1 ht5.2
    have hlt := lt_of_block hi
    exact (ho3.block i (by omega) hid).trans ((ho2.block i (by omega) hio).trans l1)
  have hX : ∀ i, X i → ext X w w3 i := fun i hi => ext_old hi
  have hT3 : SysT w3 (ext X w w3) (upd TT nb (doOp o s.now)) := by
    refine (h1.keptT fun i hi _ ht => ?_).more fun i hi => ?_
    · have hid : i ≠ d := by
        rintro rfl
        have hblk1 : BlkD w1 i s.room nb sb v := ho1.block hd.blk (by decide) (by decide)
        unfold BlkD at hblk1
        rcases ht with ⟨_, _, he⟩ | ⟨_, he⟩ | ⟨_, he⟩ <;> rw [hblk1] at he <;> simp at he
      have hio : some i ≠ v.ownBlock := fun e => by
        obtain ⟨cur, hcu⟩ := own_blk hrow0 e.symm
        have hcu1 := ho1.block hcu (by decide) (by decide)
        rcases ht with ⟨_, _, he⟩ | ⟨_, he⟩ | ⟨_, he⟩ <;> rw [hcu1] at he <;> simp at he
      exact (ho3.block i (by omega) hid).trans (ho2.block i hi hio)
    · rcases hi with hi | ⟨i1, i2⟩
      · exact .inl hi
      · exact .inr ⟨i1, by omega⟩
  have hg1 : ∀ i, i < w.heap.size → put1 ga g d i = ga i := fun i hi => by
    by_cases e : i = g
    · subst e
      rw [put1_same]
      rcases hat with hat | hat
      · exact (hga i hat).2.symm
      · omega
    · exact put1_other _ _ e
  have hcur3 : w3.heap[g]? = some (.cells cur2 88 (0, 0)) := (ho3.block g (lt_of_block hcur2) hne2).trans hcur2
  refine ⟨⟨upd TT nb (doOp o s.now), role, put1 ga g d, h.turn d (s.done o) hT3 (fun b hb hr => upd_other _ _ fun e => hr (by rw [e, hd.rn])) hX hfar (fun _ _ => rfl) hg1 (nb := nb) (sb := sb) (v := .slice (some ⟨g, 0, none⟩) (s.op.length + 1) cap)
    ⟨hX _ hd.x, hd.ok.done hfit, hb3, by rw [upd_same, FS.done_now], by rw [upd_other _ _ hsn]; exact hd.safe, hd.rn, hd.rs, cs ++ [c], ?_, ?_, ?_⟩⟩, ?_⟩
  · have hl : (s.done o).op.length = s.op.length + 1 := by simp [FS.done]
    rw [hl]
    have hf : flatC (cs ++ [c]) = flatC cs ++ [c.1, c.2] := by simp [flatC]
    rw [hf]
    exact row_kept hrow fun g' cs' hg' hh => by
      cases hg'
      exact (ho3.block g (lt_of_block hh) hne2).trans hh
  · refine Clos.kept (X := X) (w := w) (hcs.snoc hc) fun c' o' hco => hco.kept (fun b cs' hXb hh => hfar b cs' _ hXb hh (.inr (.inl rfl))) (fun b cs' hXb hh => hfar b cs' _ hXb hh (.inr (.inr (.inl rfl)))) hX
  · intro g' hg'
    cases hg'
    refine ⟨?_, put1_same _ _ _⟩
    rcases hat with hat | hat
    · exact hX _ (hga g hat).1
    · exact .inr ⟨(by show w.heap.size ≤ g; omega), lt_of_block hcur3⟩
  · have ho2' : Only (fun i => some i = v.ownBlock ∨ i = d) w1 w2 := Only.mono ho2 fun i _ hi => .inl hi
    have h23 : Only (fun i => some i = v.ownBlock ∨ i = d) w1 w3 := Only.trans ho2' ho3 fun i _ hi => .inr hi
    have ho1' : Only X w w1 := Only.mono ho1 fun i _ hi => hi.1
    refine Only.trans ho1' h23 fun i hi hh => ?_
    rcases hh with hh | rfl
    · exact (hga i hh.symm).1
    · exact hd.x
end Go.Proofs.YtmaohncddjhgeaaGreat.gn
end
section
set_option linter.unusedVariables false
set_option maxRecDepth 100000
namespace Go.Proofs.YtmaohncddjhgeaaGreat.gn
open Go.RowKit
open Go.Proofs.YtmaohncddjhgeaaGreat.fi

theorem infoOp : (Tryz.prog.info? 88).map (fun i => (i.zero, i.size, i.bytes)) = some (some (.agg #[.nilFunc, .nilFunc]), 2, 16) := by kernel_rfl
def Box2 (w : World) (b : Nat) (u v : Value) : Prop := w.heap[b]? = some (.cells #[u, v] 88 (0, 0))
theorem Box2.cells {w : World} {b : Nat} {u v : Value} (h : Box2 w b u v) : w.cell? ⟨b, 0, none⟩ = some u ∧ w.cell? ⟨b, 1, none⟩ = some v :=
  ⟨by rw [cell_of_row w b 0 _ _ _ h]; rfl, by rw [cell_of_row w b 1 _ _ _ h]; rfl⟩
theorem row_drew {w : World} {B : Nat} {e : TypeId} {size n : Nat} {v : Value} {xs : List Value} (h : w.ownsRow B e size v n xs) : w.drew.ownsRow B e size v n xs := h
theorem grown_undrew {w w' : World} {row : Option Nat} (h : w.drew.grownBy w' row) : w.grownBy w' row := ⟨h.os, h.tape, h.output, h.size, h.block⟩
theorem BlkD.set4 {w : World} {d room nb sb : Nat} {v : Value} (h : BlkD w d room nb sb v) (v' : Value) : BlkD (w.setCell ⟨d, 4, none⟩ v') d room nb sb v' := heap_setCell h _
theorem BlkD.free {w : World} {d room nb sb : Nat} {v : Value} (h : BlkD w d room nb sb v) (j : Nat) : w.frozen? ⟨d, j, none⟩ = false := frozen_of_row w d j _ _ h
theorem BlkD.far {w w' : World} {d room nb sb n : Nat} {v v' : Value} {xs : List Value} (h : BlkD w d room nb sb v) (hr : w.ownsRow 0 88 2 v' n xs) (hg : w.grownBy w' v'.ownBlock) : BlkD w' d room nb sb v := by
  refine (hg.block d (lt_of_block h) fun e => ?_).trans h
  obtain ⟨cur, hcu⟩ := own_blk hr e.symm
  unfold BlkD at h
  rw [hcu] at h
  simp at h

set_option maxHeartbeats 8000000 in
set_option maxRecDepth 100000 in
theorem perform1_any (fid : FuncId) (v1 vs : Value) (hgo : ∀ (x : Value) (w : World), (callFunc fid #[x, v1]).run Tryz.prog w = .ok (.enter fid #[x, v1]) w) (hone : vs.oneCell' = true)
    (w : World) (X : Nat → Prop) (D : Nat → Option FS) (d : Nat) (s : FS) (hS : Sys w X D) (hd : D d = some s) (o : FOp) (hfit : fit o s.now) (hc : CloOk w X (.func (.func fid) #[] #[v1], vs) o) (hwt : s.wt ≤ 1099511627776)
    (hdo : ∀ TT b W, SysT W X TT → TT b = some s.now → Below w.heap.size w W → Calls Tryz.prog fid #[.map (some b), v1] W (Goes X TT b (doOp o s.now) W)) :
    Calls Tryz.prog 38 #[.pointer (some ⟨d, 0, none⟩), .agg #[.func (.func fid) #[] #[v1], vs]] w (Does X (upd D d (s.done o)) (.int .i64 0) w) := by
  obtain ⟨TT, role, ga, hD⟩ := hS
  obtain ⟨nb, sb, v, hk⟩ := hD.2 d s hd
  obtain ⟨cs, hrow, hcs, hga⟩ := hk.ops
  obtain ⟨i0, hi0, hz0, hz1, hz2⟩ := info_parts infoOp
  have hbel : Below w.heap.size w (w.alloc (.cells #[.func (.func fid) #[] #[v1], vs] 88)) := (Below.refl _ w).alloc (Nat.le_refl _) _
  have hbx : Box2 (w.alloc (.cells #[.func (.func fid) #[] #[v1], vs] 88)) w.heap.size (.func (.func fid) #[] #[v1]) vs := heap_alloc_new w _
  have hblk : BlkD (w.alloc (.cells #[.func (.func fid) #[] #[v1], vs] 88)) d s.room nb sb v := (hbel.block d (lt_of_block hk.blk)).trans hk.blk
  have hdo1 := hdo TT nb (w.alloc (.cells #[.func (.func fid) #[] #[v1], vs] 88)).drew (hD.1.below hbel.drew) hk.now hbel.drew
  obtain ⟨b0, b1⟩ := hbx.cells
  obtain ⟨c0, c1, c2, c3, c4⟩ := hblk.cells
  have hlen : s.op.length ≤ 1099511627776 := by
    have h1 := wts_len s.op
    have h2 : wts s.op ≤ s.wt := by unfold FS.wt; omega
    omega
  have hdl := lt_of_block hk.blk
  have hv : ∃ A c, v = .slice A s.op.length c := by
    rcases hrow.2 with ⟨rfl, hn⟩ | ⟨g, cap, cur, rfl, _⟩
    · exact ⟨none, 0, by rw [hn]⟩
    · exact ⟨_, _, rfl⟩
  obtain ⟨A, c, rfl⟩ := hv
  have HDO := Lib.hid hdo1
  have HD := Lib.hid hD
  have HK := Lib.hid hk
  have HROW := Lib.hid hrow
  have HBEL := Lib.hid hbel
  have HBX := Lib.hid hbx
  have HBLK := Lib.hid hblk
  have HF := Lib.hid hfit
  have HC := Lib.hid hc
  have HCS := Lib.hid hcs
  have HGA := Lib.hid hga
  clear hdo hdo1 hD hk hrow hbel hbx hblk hfit hc hd hcs hga
  go_enter Tryz.func38, Tryz.ntmps38
  go_wp2
  go_region_held3 (fun W => W.cell? ⟨w.heap.size, 0, none⟩ = some (.func (.func fid) #[] #[v1]) ∧ W.cell? ⟨d, 2, none⟩ = some (.map (some nb))) (go_keep)
    (first | ((with_reducible refine HDO.out.mono ?_); rintro e w1 ⟨rfl, h1, h2⟩; have hbx1 : Box2 w1 w.heap.size (.func (.func fid) #[] #[v1]) vs := h2.block HBX.out (by decide) (by decide); have hblk1 : BlkD w1 d s.room nb sb (.slice A s.op.length c) := h2.block HBLK.out (by decide) (by decide); obtain ⟨e0, e1⟩ := hbx1.cells; obtain ⟨g0, g1, g2, g3, g4⟩ := hblk1.cells; have H1 := Lib.hid h1; have H2 := Lib.hid h2; have HB1 := Lib.hid hblk1; clear h1 h2 hbx1 hblk1))
  have hrow1 : w1.ownsRow 0 88 2 (.slice A s.op.length c) s.op.length (flatC cs) := row_kept HROW.out fun g cs' _ hh => H2.out.block ((HBEL.out.block g (lt_of_block hh)).trans hh) (by decide) (by decide)
  have HR1 := Lib.hid hrow1
  have hones : ∀ u ∈ [(.func (.func fid) #[] #[v1] : Value), vs], u.oneCell' = true := by
    intro u hu
    simp at hu
    rcases hu with rfl | rfl
    · rfl
    · exact hone
  have HON := Lib.hid hones
  have hzs : (Value.agg #[Value.nilFunc, Value.nilFunc]).cells.size = 2 := rfl
  have hsz1 : ((w1.alloc (.cells #[.func (.func fid) #[] #[v1], vs] 88)).drew).heap.size = w1.heap.size + 1 := by show (w1.alloc _).heap.size = _; simp
  have HZ1 := Lib.hid hsz1
  clear hrow1 hones hsz1
  have hba : BlkD (w1.alloc (.cells #[.func (.func fid) #[] #[v1], vs] 88)) d s.room nb sb (.slice A s.op.length c) := ((World.grownBy_alloc w1 _ none).block d (lt_of_block HB1.out) (by simp)).trans HB1.out
  obtain ⟨r0, r1, r2, r3, r4⟩ := hba.cells
  clear hba
  go_wp2
  go_region_law
    (first | (refine step_append_lies _ rfl _ _ 67 rfl 0 88 i0 (.agg #[.nilFunc, .nilFunc]) 2 16 Tryz.underlying67 hi0 hz0 hz1 hz2 hzs (by decide) (.slice A s.op.length c) s.op.length (flatC cs) (by rfl) (by first | exact (row_drew (HR1.out)).alloc _ | exact row_drew (HR1.out.alloc _)) ⟨w1.heap.size, 0, none⟩ 1 1 [.func (.func fid) #[] #[v1], vs] (by rfl) rfl (by first | exact World.news_of_block (heap_alloc_new w1.drew _) | exact World.news_of_block (heap_alloc_new w1 _)) HON.out (by decide) (by unfold maxLen; omega) (by omega) (Nat.zero_le _) (w1.heap.size + 1) (by first | exact HZ1.out | (show (World.alloc _ _).heap.size = _; simp)) ?_; intro g cap w2 ho2 hgr2 hat2 hlt2; replace hgr2 := grown_undrew (w := w1.alloc _) hgr2; have hb2 : BlkD w2 d s.room nb sb (.slice A s.op.length c) := BlkD.far (v' := .slice A s.op.length c) (((World.grownBy_alloc w1 _ none).block d (lt_of_block HB1.out) (by simp)).trans HB1.out) (HR1.out.alloc _) hgr2; obtain ⟨q0, q1, q2, q3, q4⟩ := hb2.cells; have q5 := hb2.free 4; have HB2 := Lib.hid hb2; have HO2 := Lib.hid ho2; have HG2 := Lib.hid hgr2; have HA2 := Lib.hid hat2; clear hb2 ho2 hgr2 hat2))
  all_goals
    go_wp2
    go_ret
    refine ⟨rfl, ?_⟩
    have hp1 : SysT w1 (ext X w w1) (upd TT nb (doOp o s.now)) := H1.out.more fun i hi => by
      rcases hi with hi | ⟨i1, i2⟩
      · exact .inl hi
      · exact .inr ⟨Nat.le_trans HBEL.out.drew.size i1, i2⟩
    have hp2 : OnlyT X w w1 := (OnlyT.of_below HBEL.out.drew).trans_old H2.out
    have hp3 : Only (fun i => some i = (Value.slice A s.op.length c).ownBlock) w1 w2 := Only.trans (Only.of_below ((Below.refl _ w1).alloc (Nat.le_refl _) _)) (Only.of_grown HG2.out (S := fun i => some i = (Value.slice A s.op.length c).ownBlock) fun i hi => hi.symm) fun i _ hi => hi
    exact HD.out.performed HK.out HF.out HC.out hp1 hp2 rfl HCS.out HROW.out HGA.out HO2.out hp3 (by rcases HA2.out with h | h; exact .inl h; exact .inr (by omega)) (HB2.out.set4 _) ⟨rfl, rfl, rfl, by simp [World.setCell], fun i _ hi => Below.heap_setCell _ _ _ _ hi⟩

set_option maxHeartbeats 8000000 in
set_option maxRecDepth 100000 in
theorem perform2_any (fid : FuncId) (v1 v2 vs : Value) (hgo : ∀ (x : Value) (w : World), (callFunc fid #[x, v1, v2]).run Tryz.prog w = .ok (.enter fid #[x, v1, v2]) w) (hone : vs.oneCell' = true)
    (w : World) (X : Nat → Prop) (D : Nat → Option FS) (d : Nat) (s : FS) (hS : Sys w X D) (hd : D d = some s) (o : FOp) (hfit : fit o s.now) (hc : CloOk w X (.func (.func fid) #[] #[v1, v2], vs) o) (hwt : s.wt ≤ 1099511627776)
    (hdo : ∀ TT b W, SysT W X TT → TT b = some s.now → Below w.heap.size w W → Calls Tryz.prog fid #[.map (some b), v1, v2] W (Goes X TT b (doOp o s.now) W)) :
    Calls Tryz.prog 38 #[.pointer (some ⟨d, 0, none⟩), .agg #[.func (.func fid) #[] #[v1, v2], vs]] w (Does X (upd D d (s.done o)) (.int .i64 0) w) := by
  obtain ⟨TT, role, ga, hD⟩ := hS
  obtain ⟨nb, sb, v, hk⟩ := hD.2 d s hd
  obtain ⟨cs, hrow, hcs, hga⟩ := hk.ops
  obtain ⟨i0, hi0, hz0, hz1, hz2⟩ := info_parts infoOp
  have hbel : Below w.heap.size w (w.alloc (.cells #[.func (.func fid) #[] #[v1, v2], vs] 88)) := (Below.refl _ w).alloc (Nat.le_refl _) _
  have hbx : Box2 (w.alloc (.cells #[.func (.func fid) #[] #[v1, v2], vs] 88)) w.heap.size (.func (.func fid) #[] #[v1, v2]) vs := heap_alloc_new w _
  have hblk : BlkD (w.alloc (.cells #[.func (.func fid) #[] #[v1, v2], vs] 88)) d s.room nb sb v := (hbel.block d (lt_of_block hk.blk)).trans hk.blk
  have hdo1 := hdo TT nb (w.alloc (.cells #[.func (.func fid) #[] #[v1, v2], vs] 88)).drew (hD.1.below hbel.drew) hk.now hbel.drew
  obtain ⟨b0, b1⟩ := hbx.cells
  obtain ⟨c0, c1, c2, c3, c4⟩ := hblk.cells
  have hlen : s.op.length ≤ 1099511627776 := by
    have h1 := wts_len s.op
    have h2 : wts s.op ≤ s.wt := by unfold FS.wt; omega
    omega
  have hdl := lt_of_block hk.blk
  have hv : ∃ A c, v = .slice A s.op.length c := by
    rcases hrow.2 with ⟨rfl, hn⟩ | ⟨g, cap, cur, rfl, _⟩
    · exact ⟨none, 0, by rw [hn]⟩
    · exact ⟨_, _, rfl⟩
  obtain ⟨A, c, rfl⟩ := hv
  have HDO := Lib.hid hdo1
  have HD := Lib.hid hD
  have HK := Lib.hid hk
  have HROW := Lib.hid hrow
  have HBEL := Lib.hid hbel
  have HBX := Lib.hid hbx
  have HBLK := Lib.hid hblk
  have HF := Lib.hid hfit
  have HC := Lib.hid hc
  have HCS := Lib.hid hcs
  have HGA := Lib.hid hga
  clear hdo hdo1 hD hk hrow hbel hbx hblk hfit hc hd hcs hga
  go_enter Tryz.func38, Tryz.ntmps38
  go_wp2
  go_region_held3 (fun W => W.cell? ⟨w.heap.size, 0, none⟩ = some (.func (.func fid) #[] #[v1, v2]) ∧ W.cell? ⟨d, 2, none⟩ = some (.map (some nb))) (go_keep)
    (first | ((with_reducible refine HDO.out.mono ?_); rintro e w1 ⟨rfl, h1, h2⟩; have hbx1 : Box2 w1 w.heap.size (.func (.func fid) #[] #[v1, v2]) vs := h2.block HBX.out (by decide) (by decide); have hblk1 : BlkD w1 d s.room nb sb (.slice A s.op.length c) := h2.block HBLK.out (by decide) (by decide); obtain ⟨e0, e1⟩ := hbx1.cells; obtain ⟨g0, g1, g2, g3, g4⟩ := hblk1.cells; have H1 := Lib.hid h1; have H2 := Lib.hid h2; have HB1 := Lib.hid hblk1; clear h1 h2 hbx1 hblk1))
  have hrow1 : w1.ownsRow 0 88 2 (.slice A s.op.length c) s.op.length (flatC cs) := row_kept HROW.out fun g cs' _ hh => H2.out.block ((HBEL.out.block g (lt_of_block hh)).trans hh) (by decide) (by decide)
  have HR1 := Lib.hid hrow1
  have hones : ∀ u ∈ [(.func (.func fid) #[] #[v1, v2] : Value), vs], u.oneCell' = true := by
    intro u hu
    simp at hu
    rcases hu with rfl | rfl
    · rfl
    · exact hone
  have HON := Lib.hid hones
  have hzs : (Value.agg #[Value.nilFunc, Value.nilFunc]).cells.size = 2 := rfl
  have hsz1 : ((w1.alloc (.cells #[.func (.func fid) #[] #[v1, v2], vs] 88)).drew).heap.size = w1.heap.size + 1 := by show (w1.alloc _).heap.size = _; simp
  have HZ1 := Lib.hid hsz1
  clear hrow1 hones hsz1
  have hba : BlkD (w1.alloc (.cells #[.func (.func fid) #[] #[v1, v2], vs] 88)) d s.room nb sb (.slice A s.op.length c) := ((World.grownBy_alloc w1 _ none).block d (lt_of_block HB1.out) (by simp)).trans HB1.out
  obtain ⟨r0, r1, r2, r3, r4⟩ := hba.cells
  clear hba
  go_wp2
  go_region_law
    (first | (refine step_append_lies _ rfl _ _ 67 rfl 0 88 i0 (.agg #[.nilFunc, .nilFunc]) 2 16 Tryz.underlying67 hi0 hz0 hz1 hz2 hzs (by decide) (.slice A s.op.length c) s.op.length (flatC cs) (by rfl) (by first | exact (row_drew (HR1.out)).alloc _ | exact row_drew (HR1.out.alloc _)) ⟨w1.heap.size, 0, none⟩ 1 1 [.func (.func fid) #[] #[v1, v2], vs] (by rfl) rfl (by first | exact World.news_of_block (heap_alloc_new w1.drew _) | exact World.news_of_block (heap_alloc_new w1 _)) HON.out (by decide) (by unfold maxLen; omega) (by omega) (Nat.zero_le _) (w1.heap.size + 1) (by first | exact HZ1.out | (show (World.alloc _ _).heap.size = _; simp)) ?_; intro g cap w2 ho2 hgr2 hat2 hlt2; replace hgr2 := grown_undrew (w := w1.alloc _) hgr2; have hb2 : BlkD w2 d s.room nb sb (.slice A s.op.length c) := BlkD.far (v' := .slice A s.op.length c) (((World.grownBy_alloc w1 _ none).block d (lt_of_block HB1.out) (by simp)).trans HB1.out) (HR1.out.alloc _) hgr2; obtain ⟨q0, q1, q2, q3, q4⟩ := hb2.cells; have q5 := hb2.free 4; have HB2 := Lib.hid hb2; have HO2 := Lib.hid ho2; have HG2 := Lib.hid hgr2; have HA2 := Lib.hid hat2; clear hb2 ho2 hgr2 hat2))
  all_goals
    go_wp2
    go_ret
    refine ⟨rfl, ?_⟩
    have hp1 : SysT w1 (ext X w w1) (upd TT nb (doOp o s.now)) := H1.out.more fun i hi => by
      rcases hi with hi | ⟨i1, i2⟩
      · exact .inl hi
      · exact .inr ⟨Nat.le_trans HBEL.out.drew.size i1, i2⟩
    have hp2 : OnlyT X w w1 := (OnlyT.of_below HBEL.out.drew).trans_old H2.out
    have hp3 : Only (fun i => some i = (Value.slice A s.op.length c).ownBlock) w1 w2 := Only.trans (Only.of_below ((Below.refl _ w1).alloc (Nat.le_refl _) _)) (Only.of_grown HG2.out (S := fun i => some i = (Value.slice A s.op.length c).ownBlock) fun i hi => hi.symm) fun i _ hi => hi
    exact HD.out.performed HK.out HF.out HC.out hp1 hp2 rfl HCS.out HROW.out HGA.out HO2.out hp3 (by rcases HA2.out with h | h; exact .inl h; exact .inr (by omega)) (HB2.out.set4 _) ⟨rfl, rfl, rfl, by simp [World.setCell], fun i _ hi => Below.heap_setCell _ _ _ _ hi⟩
end Go.Proofs.YtmaohncddjhgeaaGreat.gn
end
