/- The contracts of slices.Clone at operations, and of Copy. -/
import Derived.Test.YtpbgckpjgfjmgaaFiU
import Derived.WalkSpells
set_option linter.unusedVariables false
set_option maxRecDepth 100000
namespace Go.Proofs.Ytpbgckpjgfjmgaa.gn
open Go.RowKit
open Go.Proofs.Ytpbgckpjgfjmgaa.fi

theorem row_mono {w : World} {B B' : Nat} {e : TypeId} {size n : Nat} {v : Value} {xs : List Value} (h : w.ownsRow B e size v n xs) (hB : B' ≤ B) : w.ownsRow B' e size v n xs := by
  refine ⟨h.1, ?_⟩
  rcases h.2 with hn | ⟨g, cap, cur, rfl, hb, rest⟩
  · exact .inl hn
  · exact .inr ⟨g, cap, cur, rfl, Nat.le_trans hB hb, rest⟩

set_option maxHeartbeats 4000000 in
set_option maxRecDepth 100000 in
theorem cloneOps_any (w : World) (v : Value) (n : Nat) (xs : List Value) (h : w.ownsRow 0 64 2 v n xs) (h1 : ∀ u ∈ xs, u.oneCell' = true) (hn : n ≤ 1099511627776) :
    Calls Try.prog 39 #[v] w fun e w' => ∃ v', e = .returned v' ∧ w'.ownsRow w.heap.size 64 2 v' n xs ∧ Below w.heap.size w w' := by
  have hcells := fun g => h.cells (g := g)
  have hl := h.1
  rcases h.2 with ⟨rfl, rfl⟩ | ⟨g, cap, cur, rfl, _, hg, hnc, hcm, hcs, htk⟩
  · have hxs : xs = [] := List.eq_nil_of_length_eq_zero (by simpa using hl)
    subst hxs
    have heq := fun W : World => Lib.run_eql_slice_nil (P := Try.prog) W 53 64 none 0 0 0 0 Try.underlying53
    clear hcells hl h
    go_enter Try.func39, Try.ntmps39
    go_wp2
    go_ret
    exact ⟨_, rfl, ⟨rfl, .inl ⟨rfl, rfl⟩⟩, Below.refl _ _⟩
  · obtain ⟨i0, hi0, hz0, hz1, hz2⟩ := info_parts infoOp
    have hzs : (Value.agg #[Value.nilFunc, Value.nilFunc]).cells.size = 2 := rfl
    have hc := hcells g rfl
    have hb : Below w.heap.size w (w.alloc (.cells #[] 64)) := (Below.refl _ w).alloc (Nat.le_refl _) _
    have hrow0 : (w.alloc (.cells #[] 64)).ownsRow w.heap.size 64 2 (.slice (some ⟨w.heap.size, 0, none⟩) 0 0) 0 [] :=
      ⟨rfl, .inr ⟨w.heap.size, 0, #[], rfl, Nat.le_refl _, heap_alloc_new w _, Nat.le_refl _, Nat.zero_le _, rfl, rfl⟩⟩
    have hnews : ∀ j u, xs[j]? = some u → (w.alloc (.cells #[] 64)).cell? ((⟨g, 0, none⟩ : Addr).add j) = some u := fun j u hj => by
      have h2 := hc j u hj
      have hadd : ((⟨g, 0, none⟩ : Addr).add j).block = g := by unfold Addr.add; split <;> rfl
      rw [hb.cell (by rw [hadd]; exact lt_of_block hg)]
      exact h2
    have HB := Lib.hid hb
    have HR := Lib.hid hrow0
    have HN := Lib.hid hnews
    have HL := Lib.hid hl
    have H1 := Lib.hid h1
    have HC : Hid (n ≤ cap) := hnc
    have heq := fun W : World => Lib.run_eql_slice_nil (P := Try.prog) W 53 64 (some ⟨g, 0, none⟩) n cap 0 0 Try.underlying53
    clear hcells hl h hc hb hrow0 hnews h1 hcm hcs htk hg hnc
    go_enter Try.func39, Try.ntmps39
    go_wp2_with (at_builtin; refine wpList_append_own _ rfl _ _ 53 rfl w.heap.size 64 i0 (.agg #[.nilFunc, .nilFunc]) 2 16 Try.underlying53 hi0 hz0 hz1 hz2 hzs (by decide) (.slice (some ⟨w.heap.size, 0, none⟩) 0 0) 0 [] rfl HR.out ⟨g, 0, none⟩ n cap xs rfl HL.out HN.out H1.out (by unfold maxLen; omega) (by omega) (by simp) ?_; intro v' w1 hown hgr _)
    go_ret
    refine ⟨_, rfl, by simpa using hown, HB.out.grown hgr (by simp) fun k hk => ?_⟩
    have : k = w.heap.size := by simpa [Value.ownBlock] using hk.symm
    omega

theorem flat_one {w : World} {X : Nat → Prop} {cs : List (Value × Value)} {os : List FOp} (h : Clos w X cs os) : ∀ u ∈ flatC cs, u.oneCell' = true := by
  induction h with
  | nil => intro u hu; cases hu
  | @cons c o cs os h1 _ ih =>
    intro u hu
    simp only [flatC, List.flatMap_cons, List.cons_append, List.nil_append, List.mem_cons] at hu
    have hc : c.1.oneCell' = true ∧ c.2.oneCell' = true := by
      cases o with
      | make n => obtain ⟨_, b, rfl, _⟩ := h1; exact ⟨rfl, rfl⟩
      | app n s => obtain ⟨_, b, b2, rfl, _⟩ := h1; exact ⟨rfl, rfl⟩
      | cut n k => exact False.elim h1
      | ren n m => obtain ⟨_, _, b, b2, rfl, _⟩ := h1; exact ⟨rfl, rfl⟩
      | rem n => obtain ⟨_, b, rfl, _⟩ := h1; exact ⟨rfl, rfl⟩
    rcases hu with rfl | rfl | hu
    · exact hc.1
    · exact hc.2
    · exact ih u hu
theorem own_one {w : World} {B : Nat} {e : TypeId} {size n : Nat} {v : Value} {xs : List Value} (h : w.ownsRow B e size v n xs) : v.oneCell' = true := by
  rcases h.2 with ⟨rfl, _⟩ | ⟨g, cap, cur, rfl, _⟩ <;> rfl
theorem own_form {w : World} {B : Nat} {e : TypeId} {size n : Nat} {v : Value} {xs : List Value} (h : w.ownsRow B e size v n xs) : ∃ A c, v = .slice A n c := by
  rcases h.2 with ⟨rfl, rfl⟩ | ⟨g, cap, cur, rfl, _⟩
  · exact ⟨none, 0, rfl⟩
  · exact ⟨_, _, rfl⟩
theorem row_below {w w' : World} {B : Nat} {e : TypeId} {size n : Nat} {v : Value} {xs : List Value} (h : w.ownsRow B e size v n xs) (hb : Below w.heap.size w w') : w'.ownsRow B e size v n xs :=
  row_kept h fun g cs _ hh => (hb.block g (lt_of_block hh)).trans hh

set_option maxHeartbeats 16000000 in
set_option maxRecDepth 100000 in
theorem copyDir_any (w : World) (X : Nat → Prop) (D : Nat → Option FS) (d : Nat) (s : FS) (hS : Sys w X D) (hd : D d = some s) (hwt : s.wt ≤ 1099511627776) :
    Calls Try.prog 19 #[.pointer (some ⟨d, 0, none⟩)] w (Makes X D s w) := by
  obtain ⟨TT, role, ga, h⟩ := hS
  obtain ⟨nb, sb, v, hk⟩ := h.2 d s hd
  obtain ⟨cs, hrow, hcs, hga⟩ := hk.ops
  obtain ⟨c0, c1, c2, c3, c4⟩ := hk.blk.cells
  have hwn : wt s.now ≤ 1099511627776 := by have := hk.ok.wt_now; omega
  have hws : wt s.safe ≤ 1099511627776 := by unfold FS.wt at hwt; omega
  have hlen : s.op.length ≤ 1099511627776 := by
    have h1 := wts_len s.op
    unfold FS.wt at hwt
    omega
  have hl1 := (h.1.lt hk.now).1
  have hl2 := (h.1.lt hk.safe).1
  have HD := Lib.hid h
  have HK := Lib.hid hk
  have HBK := Lib.hid hk.blk
  have HT0 : Hid (SysT w.drew X TT) := h.1.below (Below.refl _ _).drew
  have HROW := Lib.hid hrow
  have HCS := Lib.hid hcs
  clear h hk hrow hcs hd hga
  go_enter Try.func19, Try.ntmps19
  go_wp2_with (go_at_call 24; ((with_reducible refine (is_any _ _ c0).mono ?_); rintro e w' ⟨rfl, rfl⟩))
  go_region_held3 (fun W => W.cell? ⟨d, 1, none⟩ = some (.int .i64 (s.room : Int)) ∧ W.cell? ⟨d, 2, none⟩ = some (.map (some nb)) ∧ W.cell? ⟨d, 3, none⟩ = some (.map (some sb)) ∧ W.cell? ⟨d, 4, none⟩ = some v) (go_keep)
    (first
      | (go_at_call 25; ((with_reducible refine (copy_any w.drew X TT nb s.now HT0.out HK.out.now hwn).mono ?_); rintro e w1 ⟨b1, rfl, hb1, hs1, hbel1⟩; have hk1 := HBK.out.below (Below.trans (Below.refl _ w).drew hbel1); obtain ⟨d0, d1, d2, d3, d4⟩ := hk1.cells; have HK1 := Lib.hid hk1; have hsb1 : upd TT b1 (strip s.now) sb = some s.safe := (upd_other TT (strip s.now) (Nat.ne_of_lt (Nat.lt_of_lt_of_le hl2 hb1))).trans HK.out.safe; have hr2 := row_below (row_below HROW.out (Below.refl _ w).drew) hbel1; have HSB1 := Lib.hid hsb1; have HR1 := Lib.hid hr2; have HS1 := Lib.hid hs1; have HB1 := Lib.hid hbel1; clear hk1 hs1 hbel1 hsb1 hr2))
      | (go_at_call 25; ((with_reducible refine (copy_any w1 (ext X w.drew w1) (upd TT b1 (strip s.now)) sb s.safe HS1.out HSB1.out hws).mono ?_); rintro e w2 ⟨b2, rfl, hb2, hs2, hbel2⟩; have hk2 := HK1.out.below hbel2; obtain ⟨e0, e1, e2, e3, e4⟩ := hk2.cells; have HK2 := Lib.hid hk2; have hr3 := row_below HR1.out hbel2; have HR2 := Lib.hid hr3; have HS2 := Lib.hid hs2; have HB2 := Lib.hid hbel2; clear hk2 hs2 hbel2 hr3))
      | (go_at_call 39; ((with_reducible refine (cloneOps_any w2 v s.op.length (flatC cs) HR2.out (flat_one HCS.out) hlen).mono ?_); rintro e w3 ⟨v', rfl, hrow3, hbel3⟩; obtain ⟨A', c', rfl⟩ := own_form hrow3; have hk3 := HK2.out.below hbel3; obtain ⟨g0, g1, g2, g3, g4⟩ := hk3.cells; have HK3 := Lib.hid hk3; have HR3 := Lib.hid hrow3; have HB3 := Lib.hid hbel3; clear hk3 hrow3 hbel3))
      | (go_at_call 20; ((with_reducible refine (object_any w3 (.pointer none) (.slice A' s.op.length c') s.room b1 b2 rfl rfl).mono ?_); rintro e w4 ⟨rfl, hn4, hbel4⟩; have hk4 := HK3.out.below hbel4; obtain ⟨i0, i1, i2, i3, i4⟩ := hk4.cells; have HK4 := Lib.hid hk4; have HN4 := Lib.hid hn4; have HB4 := Lib.hid hbel4; clear hk4 hn4 hbel4)))
  go_wp2
  go_ret
  have t1 : Below w.heap.size w w1 := Below.trans (Below.refl _ w).drew HB1.out
  have z1 := t1.size
  have t2 : Below w.heap.size w w2 := t1.trans (HB2.out.mono z1)
  have z2 := t2.size
  have y2 := HB2.out.size
  have t3 : Below w.heap.size w w3 := t2.trans (HB3.out.mono z2)
  have y3 := HB3.out.size
  have t4 : Below w.heap.size w w4 := t3.trans (HB4.out.mono t3.size)
  have y4 := HB4.out.size
  have l1 := (HS1.out.lt (upd_same _ _ _)).1
  have lb1 : w.heap.size ≤ b1 := hb1
  refine ⟨_, rfl, t3.size, HD.out.made t4 (TT' := upd (upd TT b1 (strip s.now)) b2 (strip s.safe)) (nb := b1) (sb := b2) (v := .slice A' s.op.length c') (cs := cs) ?_ (fun b hb => ?_) t3.size lb1 (by omega) (by omega) HK.out.ok HN4.out ?_ ?_ ?_ ?_ ?_, t4⟩
  · refine ((HS2.out.below HB3.out).below HB4.out).more fun i hi => ?_
    rcases hi with (hi | ⟨i1, i2⟩) | ⟨i1, i2⟩
    · exact .inl hi
    · exact .inr ⟨i1, by omega⟩
    · exact .inr ⟨by omega, by omega⟩
  · rw [upd_other _ _ (by omega), upd_other _ _ (by omega)]
  · rw [upd_other _ _ (by omega), upd_same, strip_sound HK.out.ok.sound_now]
  · rw [upd_same, strip_sound HK.out.ok.sound]
  · exact row_mono (row_below HR3.out HB4.out) (Nat.zero_le _)
  · exact HCS.out.kept fun c o hco => hco.kept (fun b cs _ hh => (t4.block b (lt_of_block hh)).trans hh) (fun b cs _ hh => (t4.block b (lt_of_block hh)).trans hh) fun i hi => ext_old hi
  · intro g hg
    exact Nat.le_trans t2.size (HR3.out.lt g hg).1
end Go.Proofs.Ytpbgckpjgfjmgaa.gn
