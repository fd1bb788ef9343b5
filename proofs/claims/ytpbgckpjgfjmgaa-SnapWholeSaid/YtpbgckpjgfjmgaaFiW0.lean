/- What a round of Crash's loop needs, and leaves. -/
import Derived.Test.YtpbgckpjgfjmgaaFiV
set_option linter.unusedVariables false
set_option maxRecDepth 100000
namespace Go.Proofs.Ytpbgckpjgfjmgaa.fi
theorem take_snoc {α : Type} (l : List α) (k : Nat) (h : k < l.length) : l.take (k + 1) = l.take k ++ [l[k]] := by rw [List.take_succ_eq_append_getElem h]
theorem fits_at : ∀ {l : List FOp} {T : Tb}, fits l T → ∀ (k : Nat) (h : k < l.length), fit l[k] (replay (l.take k) T)
  | [], _, _, k, h => by simp at h
  | o :: r, T, hf, 0, _ => hf.1
  | o :: r, T, hf, k + 1, h => fits_at (T := doOp o T) hf.2 k (by simpa using h)
theorem crashes_over {f : Fault} {k : Nat} {l : List FOp} {T : Tb} (h : f.keep < (k : Int)) : crashes f k l T = T := by
  cases l with
  | nil => rfl
  | cons o r => simp only [crashes]; rw [if_pos h]
/-- No append: at the index Keep the failure ends it. -/
def FOp.isApp : FOp → Bool
  | .app _ _ => true
  | _ => false
theorem crashes_at {f : Fault} {k : Nat} {o : FOp} {l : List FOp} {T : Tb} (ho : o.isApp = false) (h : f.keep = (k : Int)) : crashes f k (o :: l) T = T := by
  cases o <;> simp [FOp.isApp] at ho <;> simp [crashes, h]
theorem crashes_do {f : Fault} {k : Nat} {o : FOp} {l : List FOp} {T : Tb} (ho : o.isApp = false) (h1 : ¬ f.keep < (k : Int)) (h2 : ¬ f.keep = (k : Int)) : crashes f k (o :: l) T = crashes f (k + 1) l (doOp o T) := by
  cases o <;> simp [FOp.isApp] at ho <;> (simp only [crashes]; rw [if_neg h1, if_neg h2])
theorem crashes_app {f : Fault} {k : Nat} {n : Nm} {t : List UInt8} {l : List FOp} {T : Tb} (h1 : ¬ f.keep < (k : Int)) (h2 : ¬ (f.keep = (k : Int) ∨ f.lose >>> (k % 64) % 2 = 1)) : crashes f k (.app n t :: l) T = crashes f (k + 1) l (doOp (.app n t) T) := by
  simp only [crashes]
  rw [if_neg h1, if_neg h2]
theorem crashes_short {f : Fault} {k : Nat} {n : Nm} {t : List UInt8} {l : List FOp} {T : Tb} (h1 : ¬ f.keep < (k : Int)) (h2 : f.keep = (k : Int) ∨ f.lose >>> (k % 64) % 2 = 1) : crashes f k (.app n t :: l) T = crashes f (k + 1) l (short n t f.cut T) := by
  simp only [crashes]
  rw [if_neg h1, if_pos h2]
theorem strip_strip (T : Tb) : strip (strip T) = strip T := strip_sound (sound_strip T)
/-- What a failure makes of a directory. -/
def FS.crash (s : FS) (f : Fault) : FS := { s with safe := strip (crashes f 0 s.op s.safe), op := [] }
end Go.Proofs.Ytpbgckpjgfjmgaa.fi

namespace Go.Proofs.Ytpbgckpjgfjmgaa.gn
open Go.RowKit
open Go.Proofs.Ytpbgckpjgfjmgaa.fi

def BoxF (w : World) (b : Nat) (f : Fault) : Prop := w.heap[b]? = some (.cells #[.int .i64 f.keep, .int .u64 (f.lose : Int), .int .i64 f.cut] 24 (0, 0))
theorem BoxF.cells {w : World} {b : Nat} {f : Fault} (h : BoxF w b f) : w.cell? ⟨b, 0, none⟩ = some (.int .i64 f.keep) ∧ w.cell? ⟨b, 1, none⟩ = some (.int .u64 (f.lose : Int)) ∧ w.cell? ⟨b, 2, none⟩ = some (.int .i64 f.cut) :=
  ⟨by rw [cell_of_row w b 0 _ _ _ h]; rfl, by rw [cell_of_row w b 1 _ _ _ h]; rfl, by rw [cell_of_row w b 2 _ _ _ h]; rfl⟩
/-- Behind i of the open operations. -/
structure Cr (w : World) (X : Nat → Prop) (TT : Nat → Option Tb) (sb : Nat) (s : FS) (f : Fault) (i : Nat) (T : Tb) (wr : World) : Prop where
  sys : SysT wr (ext X w wr) (upd TT sb T)
  only : OnlyT X w wr
  box : BoxF wr w.heap.size f
  half : Half T (replay (s.op.take i) s.safe)
  keyed : Keyed1 T
  hwt : wt T + wts (s.op.drop i) ≤ wt s.safe + wts s.op
  hcr : crashes f 0 s.op s.safe = crashes f i (s.op.drop i) T
def CrRel (w : World) (X : Nat → Prop) (TT : Nat → Option Tb) (sb : Nat) (s : FS) (f : Fault) (i : Nat) (wr : World) : Prop := ∃ T, Cr w X TT sb s f i T wr
/-- .. behind those that the failure kept. -/
def CrEnd (w : World) (X : Nat → Prop) (TT : Nat → Option Tb) (sb : Nat) (s : FS) (f : Fault) (wr : World) : Prop :=
  ∃ T, SysT wr (ext X w wr) (upd TT sb T) ∧ OnlyT X w wr ∧ wt T ≤ wt s.safe + wts s.op ∧ Keyed1 T ∧ crashes f 0 s.op s.safe = T
theorem Cr.stop {w wr W : World} {X : Nat → Prop} {TT : Nat → Option Tb} {sb : Nat} {s : FS} {f : Fault} {i : Nat} {T : Tb} (h : Cr w X TT sb s f i T wr) (hb : Below wr.heap.size wr W) (hc : crashes f i (s.op.drop i) T = T) : CrEnd w X TT sb s f W := by
  refine ⟨T, (h.sys.below hb).more fun i hi => ?_, (h.only).trans (OnlyT.of_below hb), by have := h.hwt; omega, h.keyed, h.hcr.trans hc⟩
  have := hb.size
  rcases hi with hi | ⟨i1, i2⟩
  · exact .inl hi
  · exact .inr ⟨i1, by omega⟩
theorem Cr.next {w wr W w2 : World} {X : Nat → Prop} {TT : Nat → Option Tb} {sb : Nat} {s : FS} {f : Fault} {i : Nat} {T T' : Tb} (h : Cr w X TT sb s f i T wr) (hb : Below wr.heap.size wr W) (hs : SysT w2 (ext (ext X w wr) W w2) (upd (upd TT sb T) sb T')) (ho : OnlyT (ext X w wr) W w2)
    (hh : Half T' (replay (s.op.take (i + 1)) s.safe)) (hk : Keyed1 T') (hw : wt T' + wts (s.op.drop (i + 1)) ≤ wt T + wts (s.op.drop i)) (hc : crashes f i (s.op.drop i) T = crashes f (i + 1) (s.op.drop (i + 1)) T') : CrRel w X TT sb s f (i + 1) w2 := by
  have hsz := hb.size
  have hsz2 := ho.size
  have hsz3 := h.only.size
  have hot : OnlyT X w w2 := h.only.trans ((OnlyT.of_below hb).trans_old ho)
  refine ⟨T', ?_, hot, (Only.block ho _ (by have := lt_of_block h.box; omega) ?_).trans ((hb.block _ (lt_of_block h.box)).trans h.box), hh, hk, by have := h.hwt; omega, h.hcr.trans hc⟩
  · rw [upd_upd] at hs
    exact hs.more fun j hj => by
      rcases hj with (hj | ⟨i1, i2⟩) | ⟨i1, i2⟩
      · exact .inl hj
      · exact .inr ⟨i1, by omega⟩
      · exact .inr ⟨by omega, i2⟩
  · rintro ⟨_, hts⟩
    have hbx := (hb.block _ (lt_of_block h.box)).trans h.box
    rcases hts with ⟨_, _, he⟩ | ⟨_, he⟩ | ⟨_, he⟩ <;> rw [hbx] at he <;> simp at he
theorem Cr.did {w wr W w2 : World} {X : Nat → Prop} {TT : Nat → Option Tb} {sb : Nat} {s : FS} {f : Fault} {i : Nat} {T : Tb} (h : Cr w X TT sb s f i T wr) (hi : i < s.op.length) {o : FOp} (ho' : o = s.op[i]) (hb : Below wr.heap.size wr W) (hs : SysT w2 (ext (ext X w wr) W w2) (upd (upd TT sb T) sb (doOp o T))) (ho : OnlyT (ext X w wr) W w2)
    (hc : crashes f i (o :: s.op.drop (i + 1)) T = crashes f (i + 1) (s.op.drop (i + 1)) (doOp o T)) : CrRel w X TT sb s f (i + 1) w2 := by
  have hd : s.op.drop i = o :: s.op.drop (i + 1) := by rw [ho']; exact List.drop_eq_getElem_cons hi
  refine h.next hb hs ho ?_ (keyed_do h.keyed o) ?_ (by rw [hd]; exact hc)
  · rw [take_snoc _ _ hi, replay_snoc, ← ho']
    exact half_do h.half o
  · rw [hd]
    have := wt_do h.keyed o
    simp only [wts]
    omega
theorem Cr.shorted {w wr W w2 : World} {X : Nat → Prop} {TT : Nat → Option Tb} {sb : Nat} {s : FS} {f : Fault} {i : Nat} {T : Tb} (h : Cr w X TT sb s f i T wr) (hi : i < s.op.length) {n : Nm} {t : List UInt8} (ho' : .app n t = s.op[i]) (hb : Below wr.heap.size wr W) (hs : SysT w2 (ext (ext X w wr) W w2) (upd (upd TT sb T) sb (short n t f.cut T))) (ho : OnlyT (ext X w wr) W w2)
    (hc : crashes f i (.app n t :: s.op.drop (i + 1)) T = crashes f (i + 1) (s.op.drop (i + 1)) (short n t f.cut T)) : CrRel w X TT sb s f (i + 1) w2 := by
  have hd : s.op.drop i = .app n t :: s.op.drop (i + 1) := by rw [ho']; exact List.drop_eq_getElem_cons hi
  refine h.next hb hs ho ?_ (keyed_short h.keyed n t f.cut) ?_ (by rw [hd]; exact hc)
  · rw [take_snoc _ _ hi, replay_snoc, ← ho']
    exact half_short h.half n t f.cut
  · rw [hd]
    have := wt_short h.keyed n t f.cut
    simp only [wts, FOp.wt]
    omega
/-- What Crash leaves, put together. -/
theorem SysD.crashed {w wc w1 w3 w' : World} {X : Nat → Prop} {TT : Nat → Option Tb} {role : Nat → Nat × Bool} {ga : Nat → Nat} {D : Nat → Option FS} (h : SysD w X TT role ga D) {d : Nat} {s : FS} {nb sb : Nat} {v : Value} (hd : DirOk w X TT role ga d s nb sb v) {f : Fault} {T : Tb}
    (hT : SysT wc (ext X w wc) (upd TT sb T)) (ho : OnlyT X w wc) (hk : Keyed1 T) (hc : crashes f 0 s.op s.safe = T) {b1 b2 : Nat} (hb1 : wc.heap.size ≤ b1) (h1 : Below wc.heap.size wc w1) (hb1l : b1 < w1.heap.size) {X2 : Nat → Prop} {w2 : World} (hw2 : Only (fun i => i = d) w1 w2) (hX2 : ∀ i, X2 i → ext X w w2 i) (hb2 : w2.heap.size ≤ b2)
    (h3 : SysT w3 (ext X2 w2 w3) (upd (upd (upd TT sb T) b1 (strip T)) b2 (strip (strip T)))) (h23 : Below w2.heap.size w2 w3) (hblk : BlkD w' d s.room b1 b2 (.slice none 0 0)) (ho3 : Only (fun i => i = d) w3 w') (hd3 : ¬ TS w3 d) :
    Sys w' (ext X w w') (upd D d (s.crash f)) ∧ Only X w w' := by
  have z0 := ho.size
  have z1 := h1.size
  have z2 := hw2.size
  have z3 := h23.size
  have z4 := ho3.size
  have hb2l := (h3.lt (upd_same _ _ _)).1
  have hdl := lt_of_block hd.blk
  have hall : Only (fun i => i = d ∨ (X i ∧ TS w i)) w w' := by
    have a1 : Only (fun i => i = d ∨ (X i ∧ TS w i)) w wc := Only.mono ho fun i _ hi => .inr hi
    have a2 : Only (fun i => i = d) wc w' := Only.trans (Only.trans (Only.trans (Only.of_below h1) hw2 fun i _ hi => hi) (Only.of_below h23 (S := fun i => i = d)) fun i _ hi => hi) ho3 fun i _ hi => hi
    exact Only.trans a1 a2 fun i _ hi => .inl hi
  have hne : b1 ≠ b2 := by omega
  refine ⟨h.fresh (role' := put1 (put1 role b1 (d, true)) b2 (d, false)) (TT' := upd (upd (upd TT sb T) b1 (strip T)) b2 (strip (strip T))) (nb' := b1) (sb' := b2) hd (fun i hi => ext_old hi) ?_ (fun b hb hr => ?_) (fun i hi => ?_) hall ⟨hd.ok.room, ?_, sound_strip _, trivial⟩ rfl hblk ?_ ?_ ?_ (put1_same _ _ _), hall.mono fun i _ hi => ?_⟩
  · refine (h3.keptT fun i hi _ ht => ho3.block i hi fun e => ?_).more fun i hi => ?_
    · subst e
      exact hd3 ht
    · rcases hi with hi | ⟨i1, i2⟩
      · rcases hX2 i hi with hi | ⟨i1, i2⟩
        · exact .inl hi
        · exact .inr ⟨i1, by omega⟩
      · exact .inr ⟨by omega, by omega⟩
  · rw [upd_other _ _ (by omega), upd_other _ _ (by omega), upd_other]
    rintro rfl
    exact hr (by rw [hd.rs])
  · rw [put1_other _ _ (by omega), put1_other _ _ (by omega)]
  · exact keyed_strip (by rw [hc]; exact hk)
  · rw [upd_other _ _ hne, upd_same]
    show _ = some (strip (crashes f 0 s.op s.safe))
    rw [hc]
  · rw [upd_same, strip_strip]
    show _ = some (strip (crashes f 0 s.op s.safe))
    rw [hc]
  · rw [put1_other _ _ hne, put1_same]
  · rcases hi with rfl | hi
    · exact hd.x
    · exact hi.1
theorem box_on {w wr W : World} {X : Nat → Prop} (h : OnlyT X w wr) (hb : Below wr.heap.size wr W) {b : Nat} {l : List UInt8} (hx : BoxS w b l) : BoxS W b l :=
  BoxS.below (show BoxS wr b l from h.block hx (by decide) (by decide)) hb
theorem boxI_on {w wr W : World} {X : Nat → Prop} (h : OnlyT X w wr) (hb : Below wr.heap.size wr W) {b : Nat} {l : Int} (hx : BoxI w b l) : BoxI W b l :=
  BoxI.below (show BoxI wr b l from h.block hx (by decide) (by decide)) hb
end Go.Proofs.Ytpbgckpjgfjmgaa.gn
