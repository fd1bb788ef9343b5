/- The walk of 'perform', for closures with one and with two captured variables. -/
import Derived.Test.YtpbgckpjgfjmgaaFiN
import Derived.Deep.RegionLaw
set_option linter.unusedVariables false
set_option maxRecDepth 100000
namespace Go.Proofs.Ytpbgckpjgfjmgaa.gn
open Go.RowKit
open Go.Proofs.Ytpbgckpjgfjmgaa.fi

theorem infoOp : (Try.prog.info? 64).map (fun i => (i.zero, i.size, i.bytes)) = some (some (.agg #[.nilFunc, .nilFunc]), 2, 16) := by kernel_rfl
def Box2 (w : World) (b : Nat) (u v : Value) : Prop := w.heap[b]? = some (.cells #[u, v] 64 (0, 0))
theorem Box2.cells {w : World} {b : Nat} {u v : Value} (h : Box2 w b u v) : w.cell? ⟨b, 0, none⟩ = some u ∧ w.cell? ⟨b, 1, none⟩ = some v :=
  ⟨by rw [cell_of_row w b 0 _ _ _ h]; rfl, by rw [cell_of_row w b 1 _ _ _ h]; rfl⟩
theorem row_drew {w : World} {B : Nat} {e : TypeId} {size n : Nat} {v : Value} {xs : List Value} (h : w.ownsRow B e size v n xs) : w.drew.ownsRow B e size v n xs := h
theorem grown_undrew {w w' : World} {row : Option Nat} (h : w.drew.grownBy w' row) : w.grownBy w' row := ⟨h.os, h.tape, h.output, h.size, h.block⟩
theorem BlkD.set4 {w : World} {d room nb sb : Nat} {v : Value} (h : BlkD w d room nb sb v) (v' : Value) : BlkD (w.setCell ⟨d, 4, none⟩ v') d room nb sb v' := heap_setCell h _
theorem BlkD.free {w : World} {d room nb sb : Nat} {v : Value} (h : BlkD w d room nb sb v) (j : Nat) : w.frozen? ⟨d, j, none⟩ = false := frozen_of_row w d j _ _ h
theorem BlkD.far {w w' : World} {d room nb sb n : Nat} {v v' : Value} {xs : List Value} (h : BlkD w d room nb sb v) (hr : w.ownsRow 0 64 2 v' n xs) (hg : w.grownBy w' v'.ownBlock) : BlkD w' d room nb sb v := by
  refine (hg.block d (lt_of_block h) fun e => ?_).trans h
  obtain ⟨cur, hcu⟩ := own_blk hr e.symm
  unfold BlkD at h
  rw [hcu] at h
  simp at h

set_option maxHeartbeats 8000000 in
set_option maxRecDepth 100000 in
theorem perform1_any (fid : FuncId) (v1 vs : Value) (hgo : ∀ (x : Value) (w : World), (callFunc fid #[x, v1]).run Try.prog w = .ok (.enter fid #[x, v1]) w) (hone : vs.oneCell' = true)
    (w : World) (X : Nat → Prop) (D : Nat → Option FS) (d : Nat) (s : FS) (hS : Sys w X D) (hd : D d = some s) (o : FOp) (hfit : fit o s.now) (hc : CloOk w X (.func (.func fid) #[] #[v1], vs) o) (hwt : s.wt ≤ 1099511627776)
    (hdo : ∀ TT b W, SysT W X TT → TT b = some s.now → Below w.heap.size w W → Calls Try.prog fid #[.map (some b), v1] W (Goes X TT b (doOp o s.now) W)) :
    Calls Try.prog 30 #[.pointer (some ⟨d, 0, none⟩), .agg #[.func (.func fid) #[] #[v1], vs]] w (Does X (upd D d (s.done o)) (.int .i64 0) w) := by
  obtain ⟨TT, role, ga, hD⟩ := hS
  obtain ⟨nb, sb, v, hk⟩ := hD.2 d s hd
  obtain ⟨cs, hrow, hcs, hga⟩ := hk.ops
  obtain ⟨i0, hi0, hz0, hz1, hz2⟩ := info_parts infoOp
  have hbel : Below w.heap.size w (w.alloc (.cells #[.func (.func fid) #[] #[v1], vs] 64)) := (Below.refl _ w).alloc (Nat.le_refl _) _
  have hbx : Box2 (w.alloc (.cells #[.func (.func fid) #[] #[v1], vs] 64)) w.heap.size (.func (.func fid) #[] #[v1]) vs := heap_alloc_new w _
  have hblk : BlkD (w.alloc (.cells #[.func (.func fid) #[] #[v1], vs] 64)) d s.room nb sb v := (hbel.block d (lt_of_block hk.blk)).trans hk.blk
  have hdo1 := hdo TT nb (w.alloc (.cells #[.func (.func fid) #[] #[v1], vs] 64)).drew (hD.1.below hbel.drew) hk.now hbel.drew
  obtain ⟨b0, b1⟩ := hbx.cells
  obtain ⟨c0, c1, c2, c3, c4⟩ := hblk.cells
  have hlen : s.op.length ≤ 1099511627776 := by
    have h1 := wts_len s.op
    have h2 : wts s.op ≤ s.wt := by unfold FS.wt; omega
    omega
  have hdl := lt_of_block hk.blk
  have hv : ∃ A c, v = .slice A s.op.length c := by
    rcases hrow.2 with ⟨rfl, hn⟩ | ⟨g, cap, cur, rfl, _⟩
    · exact ⟨none, 0, by rw [hn]⟩
    · exact ⟨_, _, rfl⟩
  obtain ⟨A, c, rfl⟩ := hv
  have HDO := Lib.hid hdo1
  have HD := Lib.hid hD
  have HK := Lib.hid hk
  have HROW := Lib.hid hrow
  have HBEL := Lib.hid hbel
  have HBX := Lib.hid hbx
  have HBLK := Lib.hid hblk
  have HF := Lib.hid hfit
  have HC := Lib.hid hc
  have HCS := Lib.hid hcs
  have HGA := Lib.hid hga
  clear hdo hdo1 hD hk hrow hbel hbx hblk hfit hc hd hcs hga
  go_enter Try.func30, Try.ntmps30
  go_wp2
  go_region_held3 (fun W => W.cell? ⟨w.heap.size, 0, none⟩ = some (.func (.func fid) #[] #[v1]) ∧ W.cell? ⟨d, 2, none⟩ = some (.map (some nb))) (go_keep)
    (first | ((with_reducible refine HDO.out.mono ?_); rintro e w1 ⟨rfl, h1, h2⟩; have hbx1 : Box2 w1 w.heap.size (.func (.func fid) #[] #[v1]) vs := h2.block HBX.out (by decide) (by decide); have hblk1 : BlkD w1 d s.room nb sb (.slice A s.op.length c) := h2.block HBLK.out (by decide) (by decide); obtain ⟨e0, e1⟩ := hbx1.cells; obtain ⟨g0, g1, g2, g3, g4⟩ := hblk1.cells; have H1 := Lib.hid h1; have H2 := Lib.hid h2; have HB1 := Lib.hid hblk1; clear h1 h2 hbx1 hblk1))
  have hrow1 : w1.ownsRow 0 64 2 (.slice A s.op.length c) s.op.length (flatC cs) := row_kept HROW.out fun g cs' _ hh => H2.out.block ((HBEL.out.block g (lt_of_block hh)).trans hh) (by decide) (by decide)
  have HR1 := Lib.hid hrow1
  have hones : ∀ u ∈ [(.func (.func fid) #[] #[v1] : Value), vs], u.oneCell' = true := by
    intro u hu
    simp at hu
    rcases hu with rfl | rfl
    · rfl
    · exact hone
  have HON := Lib.hid hones
  have hzs : (Value.agg #[Value.nilFunc, Value.nilFunc]).cells.size = 2 := rfl
  have hsz1 : ((w1.alloc (.cells #[.func (.func fid) #[] #[v1], vs] 64)).drew).heap.size = w1.heap.size + 1 := by show (w1.alloc _).heap.size = _; simp
  have HZ1 := Lib.hid hsz1
  clear hrow1 hones hsz1
  have hba : BlkD (w1.alloc (.cells #[.func (.func fid) #[] #[v1], vs] 64)) d s.room nb sb (.slice A s.op.length c) := ((World.grownBy_alloc w1 _ none).block d (lt_of_block HB1.out) (by simp)).trans HB1.out
  obtain ⟨r0, r1, r2, r3, r4⟩ := hba.cells
  clear hba
  go_wp2
  go_region_law
    (first | (refine step_append_lies _ rfl _ _ 53 rfl 0 64 i0 (.agg #[.nilFunc, .nilFunc]) 2 16 Try.underlying53 hi0 hz0 hz1 hz2 hzs (by decide) (.slice A s.op.length c) s.op.length (flatC cs) (by rfl) (by first | exact (row_drew (HR1.out)).alloc _ | exact row_drew (HR1.out.alloc _)) ⟨w1.heap.size, 0, none⟩ 1 1 [.func (.func fid) #[] #[v1], vs] (by rfl) rfl (by first | exact World.news_of_block (heap_alloc_new w1.drew _) | exact World.news_of_block (heap_alloc_new w1 _)) HON.out (by decide) (by unfold maxLen; omega) (by omega) (Nat.zero_le _) (w1.heap.size + 1) (by first | exact HZ1.out | (show (World.alloc _ _).heap.size = _; simp)) ?_; intro g cap w2 ho2 hgr2 hat2 hlt2; replace hgr2 := grown_undrew (w := w1.alloc _) hgr2; have hb2 : BlkD w2 d s.room nb sb (.slice A s.op.length c) := BlkD.far (v' := .slice A s.op.length c) (((World.grownBy_alloc w1 _ none).block d (lt_of_block HB1.out) (by simp)).trans HB1.out) (HR1.out.alloc _) hgr2; obtain ⟨q0, q1, q2, q3, q4⟩ := hb2.cells; have q5 := hb2.free 4; have HB2 := Lib.hid hb2; have HO2 := Lib.hid ho2; have HG2 := Lib.hid hgr2; have HA2 := Lib.hid hat2; clear hb2 ho2 hgr2 hat2))
  all_goals
    go_wp2
    go_ret
    refine ⟨rfl, ?_⟩
    have hp1 : SysT w1 (ext X w w1) (upd TT nb (doOp o s.now)) := H1.out.more fun i hi => by
      rcases hi with hi | ⟨i1, i2⟩
      · exact .inl hi
      · exact .inr ⟨Nat.le_trans HBEL.out.drew.size i1, i2⟩
    have hp2 : OnlyT X w w1 := (OnlyT.of_below HBEL.out.drew).trans_old H2.out
    have hp3 : Only (fun i => some i = (Value.slice A s.op.length c).ownBlock) w1 w2 := Only.trans (Only.of_below ((Below.refl _ w1).alloc (Nat.le_refl _) _)) (Only.of_grown HG2.out (S := fun i => some i = (Value.slice A s.op.length c).ownBlock) fun i hi => hi.symm) fun i _ hi => hi
    exact HD.out.performed HK.out HF.out HC.out hp1 hp2 rfl HCS.out HROW.out HGA.out HO2.out hp3 (by rcases HA2.out with h | h; exact .inl h; exact .inr (by omega)) (HB2.out.set4 _) ⟨rfl, rfl, rfl, by simp [World.setCell], fun i _ hi => Below.heap_setCell _ _ _ _ hi⟩

set_option maxHeartbeats 8000000 in
set_option maxRecDepth 100000 in
theorem perform2_any (fid : FuncId) (v1 v2 vs : Value) (hgo : ∀ (x : Value) (w : World), (callFunc fid #[x, v1, v2]).run Try.prog w = .ok (.enter fid #[x, v1, v2]) w) (hone : vs.oneCell' = true)
    (w : World) (X : Nat → Prop) (D : Nat → Option FS) (d : Nat) (s : FS) (hS : Sys w X D) (hd : D d = some s) (o : FOp) (hfit : fit o s.now) (hc : CloOk w X (.func (.func fid) #[] #[v1, v2], vs) o) (hwt : s.wt ≤ 1099511627776)
    (hdo : ∀ TT b W, SysT W X TT → TT b = some s.now → Below w.heap.size w W → Calls Try.prog fid #[.map (some b), v1, v2] W (Goes X TT b (doOp o s.now) W)) :
    Calls Try.prog 30 #[.pointer (some ⟨d, 0, none⟩), .agg #[.func (.func fid) #[] #[v1, v2], vs]] w (Does X (upd D d (s.done o)) (.int .i64 0) w) := by
  obtain ⟨TT, role, ga, hD⟩ := hS
  obtain ⟨nb, sb, v, hk⟩ := hD.2 d s hd
  obtain ⟨cs, hrow, hcs, hga⟩ := hk.ops
  obtain ⟨i0, hi0, hz0, hz1, hz2⟩ := info_parts infoOp
  have hbel : Below w.heap.size w (w.alloc (.cells #[.func (.func fid) #[] #[v1, v2], vs] 64)) := (Below.refl _ w).alloc (Nat.le_refl _) _
  have hbx : Box2 (w.alloc (.cells #[.func (.func fid) #[] #[v1, v2], vs] 64)) w.heap.size (.func (.func fid) #[] #[v1, v2]) vs := heap_alloc_new w _
  have hblk : BlkD (w.alloc (.cells #[.func (.func fid) #[] #[v1, v2], vs] 64)) d s.room nb sb v := (hbel.block d (lt_of_block hk.blk)).trans hk.blk
  have hdo1 := hdo TT nb (w.alloc (.cells #[.func (.func fid) #[] #[v1, v2], vs] 64)).drew (hD.1.below hbel.drew) hk.now hbel.drew
  obtain ⟨b0, b1⟩ := hbx.cells
  obtain ⟨c0, c1, c2, c3, c4⟩ := hblk.cells
  have hlen : s.op.length ≤ 1099511627776 := by
    have h1 := wts_len s.op
    have h2 : wts s.op ≤ s.wt := by unfold FS.wt; omega
    omega
  have hdl := lt_of_block hk.blk
  have hv : ∃ A c, v = .slice A s.op.length c := by
    rcases hrow.2 with ⟨rfl, hn⟩ | ⟨g, cap, cur, rfl, _⟩
    · exact ⟨none, 0, by rw [hn]⟩
    · exact ⟨_, _, rfl⟩
  obtain ⟨A, c, rfl⟩ := hv
  have HDO := Lib.hid hdo1
  have HD := Lib.hid hD
  have HK := Lib.hid hk
  have HROW := Lib.hid hrow
  have HBEL := Lib.hid hbel
  have HBX := Lib.hid hbx
  have HBLK := Lib.hid hblk
  have HF := Lib.hid hfit
  have HC := Lib.hid hc
  have HCS := Lib.hid hcs
  have HGA := Lib.hid hga
  clear hdo hdo1 hD hk hrow hbel hbx hblk hfit hc hd hcs hga
  go_enter Try.func30, Try.ntmps30
  go_wp2
  go_region_held3 (fun W => W.cell? ⟨w.heap.size, 0, none⟩ = some (.func (.func fid) #[] #[v1, v2]) ∧ W.cell? ⟨d, 2, none⟩ = some (.map (some nb))) (go_keep)
    (first | ((with_reducible refine HDO.out.mono ?_); rintro e w1 ⟨rfl, h1, h2⟩; have hbx1 : Box2 w1 w.heap.size (.func (.func fid) #[] #[v1, v2]) vs := h2.block HBX.out (by decide) (by decide); have hblk1 : BlkD w1 d s.room nb sb (.slice A s.op.length c) := h2.block HBLK.out (by decide) (by decide); obtain ⟨e0, e1⟩ := hbx1.cells; obtain ⟨g0, g1, g2, g3, g4⟩ := hblk1.cells; have H1 := Lib.hid h1; have H2 := Lib.hid h2; have HB1 := Lib.hid hblk1; clear h1 h2 hbx1 hblk1))
  have hrow1 : w1.ownsRow 0 64 2 (.slice A s.op.length c) s.op.length (flatC cs) := row_kept HROW.out fun g cs' _ hh => H2.out.block ((HBEL.out.block g (lt_of_block hh)).trans hh) (by decide) (by decide)
  have HR1 := Lib.hid hrow1
  have hones : ∀ u ∈ [(.func (.func fid) #[] #[v1, v2] : Value), vs], u.oneCell' = true := by
    intro u hu
    simp at hu
    rcases hu with rfl | rfl
    · rfl
    · exact hone
  have HON := Lib.hid hones
  have hzs : (Value.agg #[Value.nilFunc, Value.nilFunc]).cells.size = 2 := rfl
  have hsz1 : ((w1.alloc (.cells #[.func (.func fid) #[] #[v1, v2], vs] 64)).drew).heap.size = w1.heap.size + 1 := by show (w1.alloc _).heap.size = _; simp
  have HZ1 := Lib.hid hsz1
  clear hrow1 hones hsz1
  have hba : BlkD (w1.alloc (.cells #[.func (.func fid) #[] #[v1, v2], vs] 64)) d s.room nb sb (.slice A s.op.length c) := ((World.grownBy_alloc w1 _ none).block d (lt_of_block HB1.out) (by simp)).trans HB1.out
  obtain ⟨r0, r1, r2, r3, r4⟩ := hba.cells
  clear hba
  go_wp2
  go_region_law
    (first | (refine step_append_lies _ rfl _ _ 53 rfl 0 64 i0 (.agg #[.nilFunc, .nilFunc]) 2 16 Try.underlying53 hi0 hz0 hz1 hz2 hzs (by decide) (.slice A s.op.length c) s.op.length (flatC cs) (by rfl) (by first | exact (row_drew (HR1.out)).alloc _ | exact row_drew (HR1.out.alloc _)) ⟨w1.heap.size, 0, none⟩ 1 1 [.func (.func fid) #[] #[v1, v2], vs] (by rfl) rfl (by first | exact World.news_of_block (heap_alloc_new w1.drew _) | exact World.news_of_block (heap_alloc_new w1 _)) HON.out (by decide) (by unfold maxLen; omega) (by omega) (Nat.zero_le _) (w1.heap.size + 1) (by first | exact HZ1.out | (show (World.alloc _ _).heap.size = _; simp)) ?_; intro g cap w2 ho2 hgr2 hat2 hlt2; replace hgr2 := grown_undrew (w := w1.alloc _) hgr2; have hb2 : BlkD w2 d s.room nb sb (.slice A s.op.length c) := BlkD.far (v' := .slice A s.op.length c) (((World.grownBy_alloc w1 _ none).block d (lt_of_block HB1.out) (by simp)).trans HB1.out) (HR1.out.alloc _) hgr2; obtain ⟨q0, q1, q2, q3, q4⟩ := hb2.cells; have q5 := hb2.free 4; have HB2 := Lib.hid hb2; have HO2 := Lib.hid ho2; have HG2 := Lib.hid hgr2; have HA2 := Lib.hid hat2; clear hb2 ho2 hgr2 hat2))
  all_goals
    go_wp2
    go_ret
    refine ⟨rfl, ?_⟩
    have hp1 : SysT w1 (ext X w w1) (upd TT nb (doOp o s.now)) := H1.out.more fun i hi => by
      rcases hi with hi | ⟨i1, i2⟩
      · exact .inl hi
      · exact .inr ⟨Nat.le_trans HBEL.out.drew.size i1, i2⟩
    have hp2 : OnlyT X w w1 := (OnlyT.of_below HBEL.out.drew).trans_old H2.out
    have hp3 : Only (fun i => some i = (Value.slice A s.op.length c).ownBlock) w1 w2 := Only.trans (Only.of_below ((Below.refl _ w1).alloc (Nat.le_refl _) _)) (Only.of_grown HG2.out (S := fun i => some i = (Value.slice A s.op.length c).ownBlock) fun i hi => hi.symm) fun i _ hi => hi
    exact HD.out.performed HK.out HF.out HC.out hp1 hp2 rfl HCS.out HROW.out HGA.out HO2.out hp3 (by rcases HA2.out with h | h; exact .inl h; exact .inr (by omega)) (HB2.out.set4 _) ⟨rfl, rfl, rfl, by simp [World.setCell], fun i _ hi => Below.heap_setCell _ _ _ _ hi⟩
end Go.Proofs.Ytpbgckpjgfjmgaa.gn
