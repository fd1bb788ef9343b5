/- The contracts of slices.Clone at operations, and of Copy. -/
import Derived.Test.YtmaohncddjhgeaaGreatMFiP
import Derived.WalkSpells
section
set_option linter.unusedVariables false
set_option maxRecDepth 100000
namespace Go.Proofs.YtmaohncddjhgeaaGreat.gn
open Go.RowKit
open Go.Proofs.YtmaohncddjhgeaaGreat.fi

theorem row_mono {w : World} {B B' : Nat} {e : TypeId} {size n : Nat} {v : Value} {xs : List Value} (h : w.ownsRow B e size v n xs) (hB : B' ≤ B) : w.ownsRow B' e size v n xs := by
  refine ⟨h.1, ?_⟩
  rcases h.2 with hn | ⟨g, cap, cur, rfl, hb, rest⟩
  · exact .inl hn
  · exact .inr ⟨g, cap, cur, rfl, Nat.le_trans hB hb, rest⟩

set_option maxHeartbeats 4000000 in
set_option maxRecDepth 100000 in
theorem cloneOps_any (w : World) (v : Value) (n : Nat) (xs : List Value) (h : w.ownsRow 0 88 2 v n xs) (h1 : ∀ u ∈ xs, u.oneCell' = true) (hn : n ≤ 1099511627776) :
    Calls Tryz.prog 58 #[v] w fun e w' => ∃ v', e = .returned v' ∧ w'.ownsRow w.heap.size 88 2 v' n xs ∧ Below w.heap.size w w' := by
  have hcells := fun g => h.cells (g := g)
  have hl := h.1
  rcases h.2 with ⟨rfl, rfl⟩ | ⟨g, cap, cur, rfl, _, hg, hnc, hcm, hcs, htk⟩
  · have hxs : xs = [] := List.eq_nil_of_length_eq_zero (by simpa using hl)
    subst hxs
    have heq := fun W : World => Lib.run_eql_slice_nil (P := Tryz.prog) W 67 88 none 0 0 0 0 Tryz.underlying67
    clear hcells hl h
    go_enter Tryz.func58, Tryz.ntmps58
    go_wp2
    go_ret
    exact ⟨_, rfl, ⟨rfl, .inl ⟨rfl, rfl⟩⟩, Below.refl _ _⟩
  · obtain ⟨i0, hi0, hz0, hz1, hz2⟩ := info_parts infoOp
    have hzs : (Value.agg #[Value.nilFunc, Value.nilFunc]).cells.size = 2 := rfl
    have hc := hcells g rfl
    have hb : Below w.heap.size w (w.alloc (.cells #[] 88)) := (Below.refl _ w).alloc (Nat.le_refl _) _
    have hrow0 : (w.alloc (.cells #[] 88)).ownsRow w.heap.size 88 2 (.slice (some ⟨w.heap.size, 0, none⟩) 0 0) 0 [] :=
      ⟨rfl, .inr ⟨w.heap.size, 0, #[], rfl, Nat.le_refl _, heap_alloc_new w _, Nat.le_refl _, Nat.zero_le _, rfl, rfl⟩⟩
    have hnews : ∀ j u, xs[j]? = some u → (w.alloc (.cells #[] 88)).cell? ((⟨g, 0, none⟩ : Addr).add j) = some u := fun j u hj => by
      have h2 := hc j u hj
      have hadd : ((⟨g, 0, none⟩ : Addr).add j).block = g := by unfold Addr.add; split <;> rfl
      rw [hb.cell (by rw [hadd]; exact lt_of_block hg)]
      exact h2
    have HB := Lib.hid hb
    have HR := Lib.hid hrow0
    have HN := Lib.hid hnews
    have HL := Lib.hid hl
    have H1 := Lib.hid h1
    have HC : Hid (n ≤ cap) := hnc
    have heq := fun W : World => Lib.run_eql_slice_nil (P := Tryz.prog) W 67 88 (some ⟨g, 0, none⟩) n cap 0 0 Tryz.underlying67
    clear hcells hl h hc hb hrow0 hnews h1 hcm hcs htk hg hnc
    go_enter Tryz.func58, Tryz.ntmps58
    go_wp2_with (at_builtin; refine wpList_append_own _ rfl _ _ 67 rfl w.heap.size 88 i0 (.agg #[.nilFunc, .nilFunc]) 2 16 Tryz.underlying67 hi0 hz0 hz1 hz2 hzs (by decide) (.slice (some ⟨w.heap.size, 0, none⟩) 0 0) 0 [] rfl HR.out ⟨g, 0, none⟩ n cap xs rfl HL.out HN.out H1.out (by unfold maxLen; omega) (by omega) (by simp) ?_; intro v' w1 hown hgr _)
    go_ret
    refine ⟨_, rfl, by simpa using hown, HB.out.grown hgr (by simp) fun k hk => ?_⟩
    have : k = w.heap.size := by simpa [Value.ownBlock] using hk.symm
    omega

theorem flat_one {w : World} {X : Nat → Prop} {cs : List (Value × Value)} {os : List FOp} (h : Clos w X cs os) : ∀ u ∈ flatC cs, u.oneCell' = true := by
  induction h with
  | nil => intro u hu; cases hu
  | @cons c o cs os h1 _ ih =>
    intro u hu
    simp only [flatC, List.flatMap_cons, List.cons_append, List.nil_append, List.mem_cons] at hu
    have hc : c.1.oneCell' = true ∧ c.2.oneCell' = true := by
      cases o with
      | make n => obtain ⟨_, b, rfl, _⟩ := h1; exact ⟨rfl, rfl⟩
      | app n s => obtain ⟨_, b, b2, rfl, _⟩ := h1; exact ⟨rfl, rfl⟩
      | cut n k => obtain ⟨_, b, b2, rfl, _⟩ := h1; exact ⟨rfl, rfl⟩
      | ren n m => obtain ⟨_, _, b, b2, rfl, _⟩ := h1; exact ⟨rfl, rfl⟩
      | rem n => obtain ⟨_, b, rfl, _⟩ := h1; exact ⟨rfl, rfl⟩
    rcases hu with rfl | rfl | hu
    · exact hc.1
    · exact hc.2
    · exact ih u hu
theorem own_one {w : World} {B : Nat} {e : TypeId} {size n : Nat} {v : Value} {xs : List Value} (h : w.ownsRow B e size v n xs) : v.oneCell' = true := by
  rcases h.2 with ⟨rfl, _⟩ | ⟨g, cap, cur, rfl, _⟩ <;> rfl
theorem own_form {w : World} {B : Nat} {e : TypeId} {size n : Nat} {v : Value} {xs : List Value} (h : w.ownsRow B e size v n xs) : ∃ A c, v = .slice A n c := by
  rcases h.2 with ⟨rfl, rfl⟩ | ⟨g, cap, cur, rfl, _⟩
  · exact ⟨none, 0, rfl⟩
  · exact ⟨_, _, rfl⟩
theorem row_below {w w' : World} {B : Nat} {e : TypeId} {size n : Nat} {v : Value} {xs : List Value} (h : w.ownsRow B e size v n xs) (hb : Below w.heap.size w w') : w'.ownsRow B e size v n xs :=
  row_kept h fun g cs _ hh => (hb.block g (lt_of_block hh)).trans hh

set_option maxHeartbeats 16000000 in
set_option maxRecDepth 100000 in
theorem copyDir_any (w : World) (X : Nat → Prop) (D : Nat → Option FS) (d : Nat) (s : FS) (hS : Sys w X D) (hd : D d = some s) (hwt : s.wt ≤ 1099511627776) :
    Calls Tryz.prog 29 #[.pointer (some ⟨d, 0, none⟩)] w (Makes X D s w) := by
  obtain ⟨TT, role, ga, h⟩ := hS
  obtain ⟨nb, sb, v, hk⟩ := h.2 d s hd
  obtain ⟨cs, hrow, hcs, hga⟩ := hk.ops
  obtain ⟨c0, c1, c2, c3, c4⟩ := hk.blk.cells
  have hwn : wt s.now ≤ 1099511627776 := by have := hk.ok.wt_now; omega
  have hws : wt s.safe ≤ 1099511627776 := by unfold FS.wt at hwt; omega
  have hlen : s.op.length ≤ 1099511627776 := by
    have h1 := wts_len s.op
    unfold FS.wt at hwt
    omega
  have hl1 := (h.1.lt hk.now).1
  have hl2 := (h.1.lt hk.safe).1
  have HD := Lib.hid h
  have HK := Lib.hid hk
  have HBK := Lib.hid hk.blk
  have HT0 : Hid (SysT w.drew X TT) := h.1.below (Below.refl _ _).drew
  have HROW := Lib.hid hrow
  have HCS := Lib.hid hcs
  clear h hk hrow hcs hd hga
  go_enter Tryz.func29, Tryz.ntmps29
  go_wp2_with (go_at_call 46; ((with_reducible refine (is_any _ _ c0).mono ?_); rintro e w' ⟨rfl, rfl⟩))
  go_region_held3 (fun W => W.cell? ⟨d, 1, none⟩ = some (.int .i64 (s.room : Int)) ∧ W.cell? ⟨d, 2, none⟩ = some (.map (some nb)) ∧ W.cell? ⟨d, 3, none⟩ = some (.map (some sb)) ∧ W.cell? ⟨d, 4, none⟩ = some v) (go_keep)
    (first
      | (go_at_call 47; ((with_reducible refine (copy_any w.drew X TT nb s.now HT0.out HK.out.now hwn).mono ?_); rintro e w1 ⟨b1, rfl, hb1, hs1, hbel1⟩; have hk1 := HBK.out.below (Below.trans (Below.refl _ w).drew hbel1); obtain ⟨d0, d1, d2, d3, d4⟩ := hk1.cells; have HK1 := Lib.hid hk1; have hsb1 : upd TT b1 (strip s.now) sb = some s.safe := (upd_other TT (strip s.now) (Nat.ne_of_lt (Nat.lt_of_lt_of_le hl2 hb1))).trans HK.out.safe; have hr2 := row_below (row_below HROW.out (Below.refl _ w).drew) hbel1; have HSB1 := Lib.hid hsb1; have HR1 := Lib.hid hr2; have HS1 := Lib.hid hs1; have HB1 := Lib.hid hbel1; clear hk1 hs1 hbel1 hsb1 hr2))
      | (go_at_call 47; ((with_reducible refine (copy_any w1 (ext X w.drew w1) (upd TT b1 (strip s.now)) sb s.safe HS1.out HSB1.out hws).mono ?_); rintro e w2 ⟨b2, rfl, hb2, hs2, hbel2⟩; have hk2 := HK1.out.below hbel2; obtain ⟨e0, e1, e2, e3, e4⟩ := hk2.cells; have HK2 := Lib.hid hk2; have hr3 := row_below HR1.out hbel2; have HR2 := Lib.hid hr3; have HS2 := Lib.hid hs2; have HB2 := Lib.hid hbel2; clear hk2 hs2 hbel2 hr3))
      | (go_at_call 58; ((with_reducible refine (cloneOps_any w2 v s.op.length (flatC cs) HR2.out (flat_one HCS.out) hlen).mono ?_); rintro e w3 ⟨v', rfl, hrow3, hbel3⟩; obtain ⟨A', c', rfl⟩ := own_form hrow3; have hk3 := HK2.out.below hbel3; obtain ⟨g0, g1, g2, g3, g4⟩ := hk3.cells; have HK3 := Lib.hid hk3; have HR3 := Lib.hid hrow3; have HB3 := Lib.hid hbel3; clear hk3 hrow3 hbel3))
      | (go_at_call 27; ((with_reducible refine (object_any w3 (.pointer none) (.slice A' s.op.length c') s.room b1 b2 rfl rfl).mono ?_); rintro e w4 ⟨rfl, hn4, hbel4⟩; have hk4 := HK3.out.below hbel4; obtain ⟨i0, i1, i2, i3, i4⟩ := hk4.cells; have HK4 := Lib.hid hk4; have HN4 := Lib.hid hn4; have HB4 := Lib.hid hbel4; clear hk4 hn4 hbel4)))
  go_wp2
  go_ret
  have t1 : Below w.heap.size w w1 := Below.trans (Below.refl _ w).drew HB1.out
  have z1 := t1.size
  have t2 : Below w.heap.size w w2 := t1.trans (HB2.out.mono z1)
  have z2 := t2.size
  have y2 := HB2.out.size
  have t3 : Below w.heap.size w w3 := t2.trans (HB3.out.mono z2)
  have y3 := HB3.out.size
  have t4 : Below w.heap.size w w4 := t3.trans (HB4.out.mono t3.size)
  have y4 := HB4.out.size
  have l1 := (HS1.out.lt (upd_same _ _ _)).1
  have lb1 : w.heap.size ≤ b1 := hb1
  refine ⟨_, rfl, t3.size, HD.out.made t4 (TT' := upd (upd TT b1 (strip s.now)) b2 (strip s.safe)) (nb := b1) (sb := b2) (v := .slice A' s.op.length c') (cs := cs) ?_ (fun b hb => ?_) t3.size lb1 (by omega) (by omega) HK.out.ok HN4.out ?_ ?_ ?_ ?_ ?_, t4⟩
  · refine ((HS2.out.below HB3.out).below HB4.out).more fun i hi => ?_
    rcases hi with (hi | ⟨i1, i2⟩) | ⟨i1, i2⟩
    · exact .inl hi
    · exact .inr ⟨i1, by omega⟩
    · exact .inr ⟨by omega, by omega⟩
  · rw [upd_other _ _ (by omega), upd_other _ _ (by omega)]
  · rw [upd_other _ _ (by omega), upd_same, strip_sound HK.out.ok.sound_now]
  · rw [upd_same, strip_sound HK.out.ok.sound]
  · exact row_mono (row_below HR3.out HB4.out) (Nat.zero_le _)
  · exact HCS.out.kept fun c o hco => hco.kept (fun b cs _ hh => (t4.block b (lt_of_block hh)).trans hh) (fun b cs _ hh => (t4.block b (lt_of_block hh)).trans hh) fun i hi => ext_old hi
  · intro g hg
    exact Nat.le_trans t2.size (HR3.out.lt g hg).1
end Go.Proofs.YtmaohncddjhgeaaGreat.gn
end
section
set_option linter.unusedVariables false
set_option maxRecDepth 100000
namespace Go.Proofs.YtmaohncddjhgeaaGreat.fi
theorem take_snoc {α : Type} (l : List α) (k : Nat) (h : k < l.length) : l.take (k + 1) = l.take k ++ [l[k]] := by rw [List.take_succ_eq_append_getElem h]
theorem fits_at : ∀ {l : List FOp} {T : Tb}, fits l T → ∀ (k : Nat) (h : k < l.length), fit l[k] (replay (l.take k) T)
  | [], _, _, k, h => by simp at h
  | o :: r, T, hf, 0, _ => hf.1
  | o :: r, T, hf, k + 1, h => fits_at (T := doOp o T) hf.2 k (by simpa using h)
theorem crashes_over {f : Fault} {k : Nat} {l : List FOp} {T : Tb} (h : f.keep < (k : Int)) : crashes f k l T = T := by
  cases l with
  | nil => rfl
  | cons o r => simp only [crashes]; rw [if_pos h]
/-- No append: at the index Keep the failure ends it. -/
def FOp.isApp : FOp → Bool
  | .app _ _ => true
  | _ => false
theorem crashes_at {f : Fault} {k : Nat} {o : FOp} {l : List FOp} {T : Tb} (ho : o.isApp = false) (h : f.keep = (k : Int)) : crashes f k (o :: l) T = T := by
  cases o <;> simp [FOp.isApp] at ho <;> simp [crashes, h]
theorem crashes_do {f : Fault} {k : Nat} {o : FOp} {l : List FOp} {T : Tb} (ho : o.isApp = false) (h1 : ¬ f.keep < (k : Int)) (h2 : ¬ f.keep = (k : Int)) : crashes f k (o :: l) T = crashes f (k + 1) l (doOp o T) := by
  cases o <;> simp [FOp.isApp] at ho <;> (simp only [crashes]; rw [if_neg h1, if_neg h2])
theorem crashes_app {f : Fault} {k : Nat} {n : Nm} {t : List UInt8} {l : List FOp} {T : Tb} (h1 : ¬ f.keep < (k : Int)) (h2 : ¬ (f.keep = (k : Int) ∨ f.lose >>> (k % 64) % 2 = 1)) : crashes f k (.app n t :: l) T = crashes f (k + 1) l (doOp (.app n t) T) := by
  simp only [crashes]
  rw [if_neg h1, if_neg h2]
theorem crashes_short {f : Fault} {k : Nat} {n : Nm} {t : List UInt8} {l : List FOp} {T : Tb} (h1 : ¬ f.keep < (k : Int)) (h2 : f.keep = (k : Int) ∨ f.lose >>> (k % 64) % 2 = 1) : crashes f k (.app n t :: l) T = crashes f (k + 1) l (short n t f.cut T) := by
  simp only [crashes]
  rw [if_neg h1, if_pos h2]
theorem strip_strip (T : Tb) : strip (strip T) = strip T := strip_sound (sound_strip T)
/-- What a failure makes of a directory. -/
def FS.crash (s : FS) (f : Fault) : FS := { s with safe := strip (crashes f 0 s.op s.safe), op := [] }
end Go.Proofs.YtmaohncddjhgeaaGreat.fi

namespace Go.Proofs.YtmaohncddjhgeaaGreat.gn
open Go.RowKit
open Go.Proofs.YtmaohncddjhgeaaGreat.fi

def BoxF (w : World) (b : Nat) (f : Fault) : Prop := w.heap[b]? = some (.cells #[.int .i64 f.keep, .int .u64 (f.lose : Int), .int .i64 f.cut] 36 (0, 0))
theorem BoxF.cells {w : World} {b : Nat} {f : Fault} (h : BoxF w b f) : w.cell? ⟨b, 0, none⟩ = some (.int .i64 f.keep) ∧ w.cell? ⟨b, 1, none⟩ = some (.int .u64 (f.lose : Int)) ∧ w.cell? ⟨b, 2, none⟩ = some (.int .i64 f.cut) :=
  ⟨by rw [cell_of_row w b 0 _ _ _ h]; rfl, by rw [cell_of_row w b 1 _ _ _ h]; rfl, by rw [cell_of_row w b 2 _ _ _ h]; rfl⟩
/-- Behind i of the open operations. -/
structure Cr (w : World) (X : Nat → Prop) (TT : Nat → Option Tb) (sb : Nat) (s : FS) (f : Fault) (i : Nat) (T : Tb) (wr : World) : Prop where
  sys : SysT wr (ext X w wr) (upd TT sb T)
  only : OnlyT X w wr
  box : BoxF wr w.heap.size f
  half : Half T (replay (s.op.take i) s.safe)
  keyed : Keyed1 T
  hwt : wt T + wts (s.op.drop i) ≤ wt s.safe + wts s.op
  hcr : crashes f 0 s.op s.safe = crashes f i (s.op.drop i) T
def CrRel (w : World) (X : Nat → Prop) (TT : Nat → Option Tb) (sb : Nat) (s : FS) (f : Fault) (i : Nat) (wr : World) : Prop := ∃ T, Cr w X TT sb s f i T wr
/-- .. behind those that the failure kept. -/
def CrEnd (w : World) (X : Nat → Prop) (TT : Nat → Option Tb) (sb : Nat) (s : FS) (f : Fault) (wr : World) : Prop :=
  ∃ T, SysT wr (ext X w wr) (upd TT sb T) ∧ OnlyT X w wr ∧ wt T ≤ wt s.safe + wts s.op ∧ Keyed1 T ∧ crashes f 0 s.op s.safe = T
theorem Cr.stop {w wr W : World} {X : Nat → Prop} {TT : Nat → Option Tb} {sb : Nat} {s : FS} {f : Fault} {i : Nat} {T : Tb} (h : Cr w X TT sb s f i T wr) (hb : Below wr.heap.size wr W) (hc : crashes f i (s.op.drop i) T = T) : CrEnd w X TT sb s f W := by
  refine ⟨T, (h.sys.below hb).more fun i hi => ?_, (h.only).trans (OnlyT.of_below hb), by have := h.hwt; omega, h.keyed, h.hcr.trans hc⟩
  have := hb.size
  rcases hi with hi | ⟨i1, i2⟩
  · exact .inl hi
  · exact .inr ⟨i1, by omega⟩
theorem Cr.next {w wr W w2 : World} {X : Nat → Prop} {TT : Nat → Option Tb} {sb : Nat} {s : FS} {f : Fault} {i : Nat} {T T' : Tb} (h : Cr w X TT sb s f i T wr) (hb : Below wr.heap.size wr W) (hs : SysT w2 (ext (ext X w wr) W w2) (upd (upd TT sb T) sb T')) (ho : OnlyT (ext X w wr) W w2)
    (hh : Half T' (replay (s.op.take (i + 1)) s.safe)) (hk : Keyed1 T') (hw : wt T' + wts (s.op.drop (i + 1)) ≤ wt T + wts (s.op.drop i)) (hc : crashes f i (s.op.drop i) T = crashes f (i + 1) (s.op.drop (i + 1)) T') : CrRel w X TT sb s f (i + 1) w2 := by
  have hsz := hb.size
  have hsz2 := ho.size
  have hsz3 := h.only.size
  have hot : OnlyT X w w2 := h.only.trans ((OnlyT.of_below hb).trans_old ho)
  refine ⟨T', ?_, hot, (Only.block ho _ (by have := lt_of_block h.box; omega) ?_).trans ((hb.block _ (lt_of_block h.box)).trans h.box), hh, hk, by have := h.hwt; omega, h.hcr.trans hc⟩
  · rw [upd_upd] at hs
    exact hs.more fun j hj => by
      rcases hj with (hj | ⟨i1, i2⟩) | ⟨i1, i2⟩
      · exact .inl hj
      · exact .inr ⟨i1, by omega⟩
      · exact .inr ⟨by omega, i2⟩
  · rintro ⟨_, hts⟩
    have hbx := (hb.block _ (lt_of_block h.box)).trans h.box
    rcases hts with ⟨_, _, he⟩ | ⟨_, he⟩ | ⟨_, he⟩ <;> rw [hbx] at he <;> simp at he
theorem Cr.did {w wr W w2 : World} {X : Nat → Prop} {TT : Nat → Option Tb} {sb : Nat} {s : FS} {f : Fault} {i : Nat} {T : Tb} (h : Cr w X TT sb s f i T wr) (hi : i < s.op.length) {o : FOp} (ho' : o = s.op[i]) (hb : Below wr.heap.size wr W) (hs : SysT w2 (ext (ext X w wr) W w2) (upd (upd TT sb T) sb (doOp o T))) (ho : OnlyT (ext X w wr) W w2)
    (hc : crashes f i (o :: s.op.drop (i + 1)) T = crashes f (i + 1) (s.op.drop (i + 1)) (doOp o T)) : CrRel w X TT sb s f (i + 1) w2 := by
  have hd : s.op.drop i = o :: s.op.drop (i + 1) := by rw [ho']; exact List.drop_eq_getElem_cons hi
  refine h.next hb hs ho ?_ (keyed_do h.keyed o) ?_ (by rw [hd]; exact hc)
  · rw [take_snoc _ _ hi, replay_snoc, ← ho']
    exact half_do h.half o
  · rw [hd]
    have := wt_do h.keyed o
    simp only [wts]
    omega
theorem Cr.shorted {w wr W w2 : World} {X : Nat → Prop} {TT : Nat → Option Tb} {sb : Nat} {s : FS} {f : Fault} {i : Nat} {T : Tb} (h : Cr w X TT sb s f i T wr) (hi : i < s.op.length) {n : Nm} {t : List UInt8} (ho' : .app n t = s.op[i]) (hb : Below wr.heap.size wr W) (hs : SysT w2 (ext (ext X w wr) W w2) (upd (upd TT sb T) sb (short n t f.cut T))) (ho : OnlyT (ext X w wr) W w2)
    (hc : crashes f i (.app n t :: s.op.drop (i + 1)) T = crashes f (i + 1) (s.op.drop (i + 1)) (short n t f.cut T)) : CrRel w X TT sb s f (i + 1) w2 := by
  have hd : s.op.drop i = .app n t :: s.op.drop (i + 1) := by rw [ho']; exact List.drop_eq_getElem_cons hi
  refine h.next hb hs ho ?_ (keyed_short h.keyed n t f.cut) ?_ (by rw [hd]; exact hc)
  · rw [take_snoc _ _ hi, replay_snoc, ← ho']
    exact half_short h.half n t f.cut
  · rw [hd]
    have := wt_short h.keyed n t f.cut
    simp only [wts, FOp.wt]
    omega
/-- What Crash leaves, put together. -/
theorem SysD.crashed {w wc w1 w3 w' : World} {X : Nat → Prop} {TT : Nat → Option Tb} {role : Nat → Nat × Bool} {ga : Nat → Nat} {D : Nat → Option FS} (h : SysD w X TT role ga D) {d : Nat} {s : FS} {nb sb : Nat} {v : Value} (hd : DirOk w X TT role ga d s nb sb v) {f : Fault} {T : Tb}
    (hT : SysT wc (ext X w wc) (upd TT sb T)) (ho : OnlyT X w wc) (hk : Keyed1 T) (hc : crashes f 0 s.op s.safe = T) {b1 b2 : Nat} (hb1 : wc.heap.size ≤ b1) (h1 : Below wc.heap.size wc w1) (hb1l : b1 < w1.heap.size) {X2 : Nat → Prop} {w2 : World} (hw2 : Only (fun i => i = d) w1 w2) (hX2 : ∀ i, X2 i → ext X w w2 i) (hb2 : w2.heap.size ≤ b2)
    (h3 : SysT w3 (ext X2 w2 w3) (upd (upd (upd TT sb T) b1 (strip T)) b2 (strip (strip T)))) (h23 : Below w2.heap.size w2 w3) (hblk : BlkD w' d s.room b1 b2 (.slice none 0 0)) (ho3 : Only (fun i => i = d) w3 w') (hd3 : ¬ TS w3 d) :
    Sys w' (ext X w w') (upd D d (s.crash f)) ∧ Only X w w' := by
  have z0 := ho.size
  have z1 := h1.size
  have z2 := hw2.size
  have z3 := h23.size
  have z4 := ho3.size
  have hb2l := (h3.lt (upd_same _ _ _)).1
  have hdl := lt_of_block hd.blk
  have hall : Only (fun i => i = d ∨ (X i ∧ TS w i)) w w' := by
    have a1 : Only (fun i => i = d ∨ (X i ∧ TS w i)) w wc := Only.mono ho fun i _ hi => .inr hi
    have a2 : Only (fun i => i = d) wc w' := Only.trans (Only.trans (Only.trans (Only.of_below h1) hw2 fun i _ hi => hi) (Only.of_below h23 (S := fun i => i = d)) fun i _ hi => hi) ho3 fun i _ hi => hi
    exact Only.trans a1 a2 fun i _ hi => .inl hi
  have hne : b1 ≠ b2 := by omega
  refine ⟨h.fresh (role' := put1 (put1 role b1 (d, true)) b2 (d, false)) (TT' := upd (upd (upd TT sb T) b1 (strip T)) b2 (strip (strip T))) (nb' := b1) (sb' := b2) hd (fun i hi => ext_old hi) ?_ (fun b hb hr => ?_) (fun i hi => ?_) hall ⟨hd.ok.room, ?_, sound_strip _, trivial⟩ rfl hblk ?_ ?_ ?_ (put1_same _ _ _), hall.mono fun i _ hi => ?_⟩
  · refine (h3.keptT fun i hi _ ht => ho3.block i hi fun e => ?_).more fun i hi => ?_
    · subst e
      exact hd3 ht
    · rcases hi with hi | ⟨i1, i2⟩
      · rcases hX2 i hi with hi | ⟨i1, i2⟩
        · exact .inl hi
        · exact .inr ⟨i1, by omega⟩
      · exact .inr ⟨by omega, by omega⟩
  · rw [upd_other _ _ (by omega), upd_other _ _ (by omega), upd_other]
    rintro rfl
    exact hr (by rw [hd.rs])
  · rw [put1_other _ _ (by omega), put1_other _ _ (by omega)]
  · exact keyed_strip (by rw [hc]; exact hk)
  · rw [upd_other _ _ hne, upd_same]
    show _ = some (strip (crashes f 0 s.op s.safe))
    rw [hc]
  · rw [upd_same, strip_strip]
    show _ = some (strip (crashes f 0 s.op s.safe))
    rw [hc]
  · rw [put1_other _ _ hne, put1_same]
  · rcases hi with rfl | hi
    · exact hd.x
    · exact hi.1
theorem box_on {w wr W : World} {X : Nat → Prop} (h : OnlyT X w wr) (hb : Below wr.heap.size wr W) {b : Nat} {l : List UInt8} (hx : BoxS w b l) : BoxS W b l :=
  BoxS.below (show BoxS wr b l from h.block hx (by decide) (by decide)) hb
theorem boxI_on {w wr W : World} {X : Nat → Prop} (h : OnlyT X w wr) (hb : Below wr.heap.size wr W) {b : Nat} {l : Int} (hx : BoxI w b l) : BoxI W b l :=
  BoxI.below (show BoxI wr b l from h.block hx (by decide) (by decide)) hb
end Go.Proofs.YtmaohncddjhgeaaGreat.gn
end
