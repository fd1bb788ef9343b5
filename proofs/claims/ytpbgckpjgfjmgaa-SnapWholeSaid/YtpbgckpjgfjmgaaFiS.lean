/- The contract of Sync. -/
import Derived.Test.YtpbgckpjgfjmgaaFiQ
set_option linter.unusedVariables false
set_option maxRecDepth 100000
namespace Go.Proofs.Ytpbgckpjgfjmgaa.fi
def FS.sync (s : FS) : FS := { s with safe := s.now, op := [] }
theorem FS.Ok.sync {s : FS} (h : s.Ok) : s.sync.Ok := ⟨h.room, h.keyed_now, h.sound_now, trivial⟩
theorem FS.sync_now (s : FS) : s.sync.now = s.now := rfl
theorem FS.sync_wt {s : FS} (h : s.Ok) : s.sync.wt ≤ s.wt := by
  have := h.wt_now
  unfold FS.wt FS.sync
  simp only [wts]
  unfold FS.wt at this
  omega
end Go.Proofs.Ytpbgckpjgfjmgaa.fi

namespace Go.Proofs.Ytpbgckpjgfjmgaa.gn
open Go.RowKit
open Go.Proofs.Ytpbgckpjgfjmgaa.fi

theorem BlkD.set3 {w : World} {d room nb sb : Nat} {v : Value} (h : BlkD w d room nb sb v) (sb' : Nat) : BlkD (w.setCell ⟨d, 3, none⟩ (.map (some sb'))) d room nb sb' v := heap_setCell h _
theorem BlkD.set2 {w : World} {d room nb sb : Nat} {v : Value} (h : BlkD w d room nb sb v) (nb' : Nat) : BlkD (w.setCell ⟨d, 2, none⟩ (.map (some nb'))) d room nb' sb v := heap_setCell h _
theorem BlkD.below {w w' : World} {d room nb sb : Nat} {v : Value} (h : BlkD w d room nb sb v) (hb : Below w.heap.size w w') : BlkD w' d room nb sb v := (hb.block d (lt_of_block h)).trans h

/-- What Sync leaves: a copy of the table of the files as they are. -/
def Synced (X : Nat → Prop) (TT : Nat → Option Tb) (T : Tb) (d room nb : Nat) (w : World) (e : Ending) (w' : World) : Prop :=
  e = .returned (.int .i64 0) ∧ ∃ b' w1, SysT w1 (ext X w w1) (upd TT b' (strip T)) ∧ Below w.heap.size w w1 ∧ w.heap.size ≤ b' ∧ BlkD w' d room nb b' (.slice none 0 0) ∧ Only (fun i => i = d) w1 w'

set_option maxHeartbeats 4000000 in
theorem sync_raw (w : World) (X : Nat → Prop) (TT : Nat → Option Tb) (T : Tb) (d room nb sb : Nat) (v : Value) (hS : SysT w X TT) (hk : BlkD w d room nb sb v) (hT : TT nb = some T) (hwt : wt T ≤ 1099511627776) :
    Calls Try.prog 15 #[.pointer (some ⟨d, 0, none⟩)] w (Synced X TT T d room nb w) := by
  obtain ⟨c0, c1, c2, c3, c4⟩ := hk.cells
  have HK := Lib.hid hk
  have HS := Lib.hid hS
  have HT := Lib.hid hT
  clear hS hk hT
  go_enter Try.func15, Try.ntmps15
  go_wp2_with (first
    | (go_at_call 24; ((with_reducible refine (is_any _ _ c0).mono ?_); rintro e w' ⟨rfl, rfl⟩))
    | (go_at_call 25; ((with_reducible refine (copy_any _ X TT nb T HS.out HT.out hwt).mono ?_); rintro e w1 ⟨b', rfl, hb', hs1, hb1⟩; have hk1 := HK.out.below hb1; obtain ⟨d0, d1, d2, d3, d4⟩ := hk1.cells; have f3 := hk1.free 3; have f4 := hk1.free 4; have HK1 := Lib.hid hk1; have HS1 := Lib.hid hs1; have HB1 := Lib.hid hb1; clear hk1 hs1 hb1)))
  go_ret
  exact ⟨rfl, b', w1, HS1.out, HB1.out, hb', (HK1.out.set3 b').set4 _, rfl, rfl, rfl, by simp [World.setCell], fun i _ hi => (Below.heap_setCell _ _ _ _ hi).trans (Below.heap_setCell _ _ _ _ hi)⟩

theorem Dir_ne_TS {w : World} {d room nb sb : Nat} {v : Value} (h : BlkD w d room nb sb v) : ¬ TS w d := by
  unfold BlkD at h
  rintro (⟨_, _, he⟩ | ⟨_, he⟩ | ⟨_, he⟩) <;> rw [h] at he <;> simp at he

/-- A step that leaves a directory new tables, and no open operation. -/
theorem SysD.fresh {w w' : World} {X Y : Nat → Prop} {TT TT' : Nat → Option Tb} {role role' : Nat → Nat × Bool} {ga : Nat → Nat} {D : Nat → Option FS} (h : SysD w X TT role ga D) {d : Nat} {s s' : FS} {nb sb : Nat} {v : Value} (hd : DirOk w X TT role ga d s nb sb v)
    (hX : ∀ i, X i → Y i) (hT : SysT w' Y TT') (hTT : ∀ b, b < w.heap.size → (role b).1 ≠ d → TT' b = TT b) (hr : ∀ i, i < w.heap.size → role' i = role i)
    (ho : Only (fun i => i = d ∨ (X i ∧ TS w i)) w w') {nb' sb' : Nat} (hok : s'.Ok) (hop : s'.op = []) (hb : BlkD w' d s'.room nb' sb' (.slice none 0 0)) (h1 : TT' nb' = some s'.now) (h2 : TT' sb' = some s'.safe) (h3 : role' nb' = (d, true)) (h4 : role' sb' = (d, false)) :
    Sys w' Y (upd D d s') := by
  refine ⟨TT', role', ga, h.turn d s' hT hTT hX (fun i cs t hXi hi ht => ?_) hr (fun _ _ => rfl) ⟨hX _ hd.x, hok, hb, h1, h2, h3, h4, ?_⟩⟩
  · refine (ho.block i (lt_of_block hi) fun e => ?_).trans hi
    rcases e with rfl | ⟨_, e⟩
    · have hb0 := hd.blk
      unfold BlkD at hb0
      rw [hi] at hb0
      simp at hb0
      rcases ht with ⟨_, ht⟩ | ht | ht | ⟨ht, _⟩
      · exact ht rfl
      all_goals (rw [ht] at hb0; exact absurd hb0.2 (by decide))
    · rcases e with ⟨_, _, he⟩ | ⟨_, he⟩ | ⟨_, he⟩ <;> rw [hi] at he <;> simp at he <;> rcases ht with ⟨ht, _⟩ | ht | ht | ⟨ht, _⟩ <;> rw [ht] at he <;> exact absurd he.2 (by decide)
  · rw [hop]
    exact ⟨[], ⟨rfl, .inl ⟨rfl, rfl⟩⟩, .nil, fun g hg => by simp [Value.ownBlock] at hg⟩

theorem sync_any (w : World) (X : Nat → Prop) (D : Nat → Option FS) (d : Nat) (s : FS) (hS : Sys w X D) (hd : D d = some s) (hwt : s.wt ≤ 1099511627776) :
    Calls Try.prog 15 #[.pointer (some ⟨d, 0, none⟩)] w (Does X (upd D d s.sync) (.int .i64 0) w) := by
  obtain ⟨TT, role, ga, h⟩ := hS
  obtain ⟨nb, sb, v, hk⟩ := h.2 d s hd
  have hok := hk.ok
  refine (sync_raw w X TT s.now d s.room nb sb v h.1 hk.blk hk.now (by have := hok.wt_now; omega)).mono fun e w' ⟨he, b', w1, h1, h2, h3, h4, h5⟩ => ?_
  have hs1 := h2.size
  have hs2 := h5.size
  have hdl := lt_of_block hk.blk
  have hnl := (h.1.lt hk.now).1
  have ho : Only (fun i => i = d ∨ (X i ∧ TS w i)) w w' := Only.trans (Only.of_below h2) (h5.mono (S' := fun i => i = d ∨ (X i ∧ TS w i)) fun i _ hi => .inl hi) fun i _ hi => hi
  refine ⟨he, h.fresh (role' := put1 role b' (d, false)) (TT' := upd TT b' (strip s.now)) (nb' := nb) (sb' := b') hk (fun i hi => ext_old hi) ?_ (fun b hb _ => upd_other _ _ (by omega)) (fun i hi => put1_other _ _ (by omega)) ho hok.sync rfl h4 ?_ ?_ ?_ ?_, ?_⟩
  · refine (h1.keptT fun i hi _ ht => h5.block i hi fun e => ?_).more fun i hi => ?_
    · subst e
      exact Dir_ne_TS (hk.blk.below h2) ht
    · rcases hi with hi | ⟨i1, i2⟩
      · exact .inl hi
      · exact .inr ⟨i1, by omega⟩
  · rw [upd_other _ _ (by omega), FS.sync_now]; exact hk.now
  · rw [upd_same, strip_sound hok.sound_now]; rfl
  · rw [put1_other _ _ (by omega)]; exact hk.rn
  · exact put1_same _ _ _
  · exact ho.mono fun i _ hi => by
      rcases hi with rfl | hi
      · exact hk.x
      · exact hi.1
end Go.Proofs.Ytpbgckpjgfjmgaa.gn
