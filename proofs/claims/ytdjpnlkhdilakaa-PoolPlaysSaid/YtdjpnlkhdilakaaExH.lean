/- Concat and Norm: the contracts. -/
import Derived.Test.YtdjpnlkhdilakaaExF
import Derived.Test.YtdjpnlkhdilakaaSlLay2
import Derived.Laws.AppendOwnNone
set_option linter.unusedVariables false
namespace Go.Proofs.Ytdjpnlkhdilakaa.gn
open Go.RowKit Go.Shelf Go.Sort Go.Lib
open Go.Proofs.Ytdjpnlkhdilakaa.ex

attribute [local go_sem] Oper.semAt_some

theorem Rd.flat {w : World} {b off c : Nat} {l : List X} (hc : CellsX w b off l) : ∀ j u, (fl l)[j]? = some u → w.cell? ((⟨b, off, none⟩ : Addr).add j) = some u := fun j u hu => by
  rw [Addr.add_lit]
  have hj2 : j < l.length * 2 := by rw [← fl_length]; exact (List.getElem?_eq_some_iff.1 hu).1
  have h1 := fl_at l (j / 2) (by omega)
  have h2 := hc (j / 2) (by omega)
  rcases Nat.mod_two_eq_zero_or_one j with hm | hm
  · have e : j / 2 * 2 = j := by omega
    rw [e] at h1 h2
    rw [h1.1] at hu; cases hu
    exact h2.1
  · have e : j / 2 * 2 + 1 = j := by omega
    rw [Nat.add_assoc, e] at h2
    rw [e] at h1
    rw [h1.2] at hu; cases hu
    exact h2.2
/-- An append of a list to a row of the call's own. -/
theorem wpl_app {w : World} {ops : Array Oper} {rest : List Oper} {o : Oper} {a : Act} {Q : Exit → Act → World → Prop} (hgd : o.guard = none) (s x : Operand)
    (ho : o.op = .call { callee := .builtin .append, args := #[s, x], argTypes := #[22, 22] })
    {base : Nat} {v u : Value} {l1 l2 : List X} (hs : a.eval s = v) (hown : OwnX base w v l1) (hx : a.eval x = u) (hr : Rd w u l2) (hlen : l1.length + l2.length ≤ 8000) (hb : base ≤ w.heap.size)
    (h : ∀ v' w', OwnX base w' v' (l1 ++ l2) → w.grownBy w' v.ownBlock → (∀ g, v'.ownBlock = some g → some g = v.ownBlock ∨ g = w.heap.size) → wpList Try.prog ops Q rest (a.put o.dst v') w') :
    wpList Try.prog ops Q (o :: rest) a w := by
  obtain ⟨i0, hi0, hi1, hi2, hi3⟩ := extI
  rcases hr with ⟨p', c', rfl, rfl, hz⟩ | ⟨b, off, c, rfl, hbl, hc⟩
  · cases p' with
    | none =>
      obtain rfl := hz rfl
      exact wpList_append_own_none hgd s x 22 ho base 54 i0 2 Try.underlying22 hi0 v l1.length (fl l1) hs hown hx (h v w (by rw [List.append_nil]; exact hown) ⟨rfl, rfl, rfl, Nat.le_refl _, fun _ _ _ => rfl⟩ (fun g hg => .inl hg.symm))
    | some ad =>
      refine wpList_append_own_at _ hgd s x 22 ho base 54 i0 (.agg #[.int .i64 0, .int .i64 0]) 2 16 Try.underlying22 hi0 hi1 hi2 hi3 rfl (by decide) v l1.length (fl l1) hs hown ad 0 c' [] hx rfl (fun j u hu => by cases hu) (fun u hu => by cases hu) (by simp at hlen; unfold maxLen; omega) (by simp at hlen; omega) hb
        fun v' w' h1 h2 _ h4 => h v' w' (by rw [List.append_nil] at h1 ⊢; exact h1) h2 (fun g hg => by
          rcases h4 with e | e
          · exact .inl (by rw [← e, hg])
          · rw [e] at hg; cases hg; exact .inr rfl)
  · refine wpList_append_own_at _ hgd s x 22 ho base 54 i0 (.agg #[.int .i64 0, .int .i64 0]) 2 16 Try.underlying22 hi0 hi1 hi2 hi3 rfl (by decide) v l1.length (fl l1) hs hown ⟨b, off, none⟩ l2.length c (fl l2) hx (fl_length l2) (Rd.flat (c := c) hc) (fl_one l2) (by unfold maxLen; omega) (by omega) hb
      fun v' w' h1 h2 _ h4 => h v' w' (by unfold OwnX; rw [List.length_append, fl_append]; exact h1) h2 (fun g hg => by
        rcases h4 with e | e
        · exact .inl (by rw [← e, hg])
        · rw [e] at hg; cases hg; exact .inr rfl)

theorem grow_any (n : Nat) (w : World) (hn : n ≤ 8000) : Calls Try.prog 54 #[.slice none 0 0, .int .i64 n] w fun e w' => ∃ v, e = .returned v ∧ OwnX w.heap.size w' v [] ∧ RowKit.Below w.heap.size w w' := by
  rcases Nat.eq_zero_or_pos n with rfl | hp
  · have := Any8.slices_Grow_room layGrow none 0 0 0 w (by omega) (by omega) (by omega) (by omega)
    refine Calls.mono (f := 54) this ?_
    rintro e w' ⟨rfl, rfl⟩
    exact ⟨_, rfl, OwnX.nil _ _, Below.refl _ _⟩
  · obtain ⟨i0, hi0, hi1, hi2, hi3⟩ := extI
    have := Any8.slices_Grow_grow layGrow i0 _ hi0 hi1 (by omega) none 0 0 n [] w (by omega) (by omega) (by rw [hi3]; omega) (by omega) (by simp) (fun _ => rfl) (fun a h => by cases h)
    refine Calls.mono (f := 54) this ?_
    rintro e w' ⟨rfl, rfl⟩
    refine ⟨_, rfl, ?_, ((Below.refl _ w).drew).alloc (Nat.le_refl _) _⟩
    have hcap := grownCap_ge w (0 + n) 0 (layGrow_ren.t 25)
    refine World.ownsRow_made (base := w.heap.size) (size := 2) w.drew _ _ (Nat.le_refl _) ?_ ?_
    · exact grownCap_le_maxLen w (0 + n) 0 54 (by unfold maxLen; omega)
    · have hz : (Value.agg #[.int .i64 0, .int .i64 0]).cells.size = 2 := rfl
      simp only [Array.size_append, size_zeroCells, hz, List.size_toArray, List.length_nil]
      omega

set_option maxHeartbeats 2000000 in
set_option maxRecDepth 100000 in
theorem concat_any {w : World} {B cp : Nat} {va vb : Value} {a b : List X} (hB : B < w.heap.size) (c0 : w.cell? ⟨B, 0, none⟩ = some va) (c1 : w.cell? ⟨B, 1, none⟩ = some vb) (ha : Rd w va a) (hb : Rd w vb b) (hl : a.length + b.length ≤ 8000) :
    Calls Try.prog 33 #[.slice (some ⟨B, 0, none⟩) 2 cp] w fun e w' => ∃ v', e = .returned v' ∧ OwnX w.heap.size w' v' (a ++ b) ∧ RowKit.Below w.heap.size w w' := by
  obtain ⟨pa, ca, rfl⟩ := ha.len
  obtain ⟨pb, cb, rfl⟩ := hb.len
  have HR := Lib.hid (And.intro ha (And.intro hb (And.intro c0 c1)))
  clear ha hb
  go_enter Try.func33, Try.ntmps33
  go_upto_region 3 with fail
  go_loopw [3, 11] (fun s3 s11 wr => wr = w ∧ ((s11 = .int .i64 0 ∧ s3 = .int .i64 0) ∨ (s11 = .int .i64 1 ∧ s3 = .int .i64 (a.length : Int)) ∨ (s11 = .int .i64 2 ∧ s3 = .int .i64 ((a.length + b.length : Nat) : Int))))
    (fun _ s11 _ => 2 - (intOf s11).toNat)
  case atStart => exact ⟨rfl, .inl ⟨rfl, rfl⟩⟩
  case round =>
    obtain ⟨hwr, hrel⟩ := hrel
    have hwr := hwr.symm
    subst hwr
    rcases hrel with ⟨rfl, rfl⟩ | ⟨rfl, rfl⟩ | ⟨rfl, rfl⟩
    · have hw : IntKind.i64.wrap (a.length : Int) = a.length := by rw [IntKind.wrap_i64]; omega
      have hn : decide ((a.length : Int) < 0) = false := by simp
      go_wp2
      go_roundw
      case rel => exact ⟨by trivial, .inr (.inl ⟨rfl, by first | rfl | go_num⟩)⟩
      case measure => simp [intOf]
    · have hw : IntKind.i64.wrap ((a.length : Int) + (b.length : Int)) = (a.length : Int) + b.length := by rw [IntKind.wrap_i64]; omega
      have hn : decide ((a.length : Int) + (b.length : Int) < 0) = false := by simp; omega
      go_wp2
      go_roundw
      case rel => exact ⟨by trivial, .inr (.inr ⟨rfl, by first | rfl | go_num⟩)⟩
      case measure => simp [intOf]
    · have hg := grow_any (a.length + b.length) w hl
      go_upto_region 11 with (go_at_call 54; refine hg.mono ?_; rintro e w1 ⟨v, rfl, ho, hbl⟩; have HG := Lib.hid (And.intro ho hbl); clear ho hbl hg)
      go_loopw [6, 27] (fun s6 s27 w2 => Aside (RowKit.Below w.heap.size w w2) ∧ ((s27 = .int .i64 0 ∧ OwnX w.heap.size w2 s6 []) ∨ (s27 = .int .i64 1 ∧ OwnX w.heap.size w2 s6 a) ∨ (s27 = .int .i64 2 ∧ OwnX w.heap.size w2 s6 (a ++ b))))
        (fun _ s27 _ => 2 - (intOf s27).toNat)
      case atStart => exact ⟨HG.out.2, .inl ⟨rfl, HG.out.1⟩⟩
      case round =>
        obtain ⟨hb2, (⟨rfl, ho⟩ | ⟨rfl, ho⟩ | ⟨rfl, ho⟩)⟩ := hrel
        · have hrd : Rd wr (.slice pa a.length ca) a := HR.out.1.next hb2.out
          have hc := (hb2.out.cell (p := ⟨B, 0, none⟩) hB).trans HR.out.2.2.1
          have HO := Lib.hid (And.intro ho hrd)
          have hsz := hb2.out.size
          clear ho hrd
          go_wp2_with (at_builtin; refine wpl_app rfl _ _ rfl (base := w.heap.size) (l1 := []) (l2 := a) rfl HO.out.1 rfl HO.out.2 (by first | omega | (simp; omega)) hsz ?_; intro v' w3 h1 h2 h3; have H1 := Lib.hid (And.intro h1 (And.intro h2 h3)); have H2 := Lib.hid (World.ownsRow.lt HO.out.1); clear h1 h2 h3)
          go_roundw
          case rel => exact ⟨hb2.out.grown H1.out.2.1 hsz (fun r hr => (H2.out r hr).1), .inr (.inl ⟨rfl, H1.out.1⟩)⟩
          case measure => simp [intOf]
        · have hrd : Rd wr (.slice pb b.length cb) b := HR.out.2.1.next hb2.out
          have hc := (hb2.out.cell (p := ⟨B, 1, none⟩) hB).trans HR.out.2.2.2
          have HO := Lib.hid (And.intro ho hrd)
          have hsz := hb2.out.size
          clear ho hrd
          go_wp2_with (at_builtin; refine wpl_app rfl _ _ rfl (base := w.heap.size) (l1 := a) (l2 := b) rfl HO.out.1 rfl HO.out.2 (by first | omega | (simp; omega)) hsz ?_; intro v' w3 h1 h2 h3; have H1 := Lib.hid (And.intro h1 (And.intro h2 h3)); have H2 := Lib.hid (World.ownsRow.lt HO.out.1); clear h1 h2 h3)
          go_roundw
          case rel => exact ⟨hb2.out.grown H1.out.2.1 hsz (fun r hr => (H2.out r hr).1), .inr (.inr ⟨rfl, H1.out.1⟩)⟩
          case measure => simp [intOf]
        · have HO := Lib.hid (And.intro ho hb2.out)
          clear ho hb2
          go_wp2
          go_ret
          exact ⟨_, rfl, HO.out.1, HO.out.2⟩
end Go.Proofs.Ytdjpnlkhdilakaa.gn
