/- quantity, name, use, inside, slices.Equal: the contracts. -/
import Derived.Test.YtdjpnlkhdilakaaPoC
import Derived.Test.YtdjpnlkhdilakaaExL
set_option linter.unusedVariables false
set_option linter.unusedSimpArgs false
set_option maxRecDepth 100000
namespace Go.Proofs.Ytdjpnlkhdilakaa.gn
open Go.RowKit Go.Shelf Go.Sort Go.Lib
open Go.Proofs.Ytdjpnlkhdilakaa.ex
open Go.Proofs.Ytdjpnlkhdilakaa.po (Nm U less Pl)

attribute [local go_sem] Oper.semAt_some

theorem pquantity_any (n : Int) (w : World) : Calls Try.prog 20 #[.int .i64 n] w fun e w' => e = .returned (.bool (quant n)) ∧ w' = w := by
  have hq : (n == min (max n 0) 1099511627776) = quant n := by
    unfold quant
    rw [Bool.eq_iff_iff, beq_iff_eq, decide_eq_true_iff]
    omega
  have h := of_any n w
  generalize min (max n 0) 1099511627776 = m at *
  go_enter Try.func20, Try.ntmps20
  go_wp2_with (go_at_call 37; refine h.mono ?_; rintro e w' ⟨rfl, rfl⟩)
  go_ret
  exact ⟨by first | rfl | rw [hq], rfl⟩
theorem quant_qt (n : Int) : quant n = decide (po.Qt n) := rfl
theorem name_any (u : Nm) (w : World) : Calls Try.prog 21 #[.string (str u)] w fun e w' => e = .returned (.bool (decide (po.Nam u))) ∧ w' = w := by
  have hs := str_size u
  have HU : Hid (decide (po.Nam u) = (decide (0 < u.length) && decide (u.length ≤ 32))) := by show _ = _; unfold po.Nam; exact Bool.decide_and _ _
  generalize decide (po.Nam u) = r at *
  rw [← hs] at HU
  clear hs
  generalize str u = s at *
  by_cases h0 : 0 < s.size
  · have d0 : decide ((0 : Int) < (s.size : Int)) = true := decide_eq_true (by omega)
    have e0 : decide (0 < s.size) = true := decide_eq_true h0
    by_cases h1 : s.size ≤ 32
    · have d1 : decide ((s.size : Int) ≤ 32) = true := decide_eq_true (by omega)
      have HF : Hid (r = true) := by show _ = _; rw [HU.out, decide_eq_true h0, decide_eq_true h1]; rfl
      clear h0 h1 HU
      go_enter Try.func21, Try.ntmps21
      go_wp2
      go_ret
      exact ⟨by rw [HF.out]; rfl, rfl⟩
    · have d1 : decide ((s.size : Int) ≤ 32) = false := decide_eq_false (by omega)
      have HF : Hid (r = false) := by show _ = _; rw [HU.out, decide_eq_false h1, Bool.and_false]
      clear h0 h1 HU
      go_enter Try.func21, Try.ntmps21
      go_wp2
      go_ret
      exact ⟨by rw [HF.out]; rfl, rfl⟩
  · have d0 : decide ((0 : Int) < (s.size : Int)) = false := decide_eq_false (by omega)
    have HF : Hid (r = false) := by show _ = _; rw [HU.out, decide_eq_false h0, Bool.false_and]
    have e0 : decide (0 < s.size) = false := decide_eq_false h0
    clear h0 HU
    go_enter Try.func21, Try.ntmps21
    go_wp2
    go_ret
    exact ⟨by rw [HF.out]; rfl, rfl⟩
theorem below_box (w : World) (o : Obj) : RowKit.Below w.heap.size w (w.alloc o) := (Below.refl _ w).alloc (Nat.le_refl _) _
set_option maxHeartbeats 1000000 in
theorem use_any (p : Pl) (vf vu : Value) (n : Int) (hg : 0 < p.grain) (w : World) : Calls Try.prog 30 #[aggP p vf vu, .int .i64 n] w (TellsB (decide (po.UseOk p n)) w) := by
  have pb := PB.new w p vf vu
  have HB := Lib.hid (below_box w (boxP p vf vu))
  have k1 := pb.k1
  have k2 := pb.k2
  have HU : Hid (decide (po.UseOk p n) = (decide (0 < n) && (decide (n % p.grain = 0) && (decide (p.quota = 0) || decide (n ≤ p.quota))))) := by
    show _ = _
    rw [Bool.eq_iff_iff, decide_eq_true_iff, Bool.and_eq_true, Bool.and_eq_true, Bool.or_eq_true, decide_eq_true_iff, decide_eq_true_iff, decide_eq_true_iff, decide_eq_true_iff]
    exact ⟨fun h => ⟨h.1, Int.emod_eq_zero_of_dvd h.2.1, h.2.2⟩, fun h => ⟨h.1, Int.dvd_of_emod_eq_zero h.2.1, h.2.2⟩⟩
  generalize decide (po.UseOk p n) = r at *
  obtain ⟨size, grain, quota, drain, best, fr, us⟩ := p
  try dsimp only at *
  have g0 : (grain == 0) = false := beq_eq_false_iff_ne.2 (by omega)
  clear pb
  by_cases h0 : 0 < n
  · have d0 : decide (0 < n) = true := decide_eq_true h0
    by_cases h1 : n % grain = 0
    · have d1 : (n % grain == 0) = true := by rw [h1]; rfl
      by_cases h2 : quota = 0
      · have d2 : (quota == 0) = true := by rw [h2]; rfl
        have HF : Hid (r = true) := by show _ = _; rw [HU.out, decide_eq_true h0, decide_eq_true h1, decide_eq_true h2]; rfl
        clear HU h1 h2
        go_enter Try.func30, Try.ntmps30
        go_wp2
        go_ret
        exact ⟨by rw [HF.out]; first | rfl | (simp [d2]; done), HB.out⟩
      · have d2 : (quota == 0) = false := beq_eq_false_iff_ne.2 h2
        by_cases h3 : n ≤ quota
        · have d3 : decide (n ≤ quota) = true := decide_eq_true h3
          have HF : Hid (r = true) := by show _ = _; rw [HU.out, decide_eq_true h0, decide_eq_true h1, decide_eq_true h3]; simp
          clear HU h1 h2 h3
          go_enter Try.func30, Try.ntmps30
          go_wp2
          go_ret
          exact ⟨by rw [HF.out]; first | rfl | (simp [d2]; done), HB.out⟩
        · have d3 : decide (n ≤ quota) = false := decide_eq_false h3
          have HF : Hid (r = false) := by show _ = _; rw [HU.out, decide_eq_true h0, decide_eq_true h1, decide_eq_false h3, decide_eq_false h2]; rfl
          clear HU h1 h2 h3
          go_enter Try.func30, Try.ntmps30
          go_wp2
          go_ret
          exact ⟨by rw [HF.out]; first | rfl | (simp [d2]; done), HB.out⟩
    · have d1 : (n % grain == 0) = false := beq_eq_false_iff_ne.2 h1
      have HF : Hid (r = false) := by show _ = _; rw [HU.out, decide_eq_false h1]; simp
      clear HU h1
      go_enter Try.func30, Try.ntmps30
      go_wp2
      go_ret
      exact ⟨by rw [HF.out]; first | rfl | (simp; done), HB.out⟩
  · have d0 : decide (0 < n) = false := decide_eq_false h0
    have HF : Hid (r = false) := by show _ = _; rw [HU.out, d0]; rfl
    clear HU h0
    go_enter Try.func30, Try.ntmps30
    go_wp2
    go_ret
    exact ⟨by rw [HF.out]; first | rfl | (simp; done), HB.out⟩

/-! inside -/
def badX (p : Pl) (x : X) : Bool := (x.1.tmod p.grain != 0) || ((x.2.tmod p.grain != 0) || decide (p.size < IntKind.i64.wrap (x.1 + x.2)))
theorem any_bad {p : Pl} {l : List X} (ho : ex.Ok l) (hg : 0 < p.grain) : (!l.any (badX p)) = true ↔ po.Ins p l := by
  rw [Bool.not_eq_true', List.any_eq_false]
  have key : ∀ x ∈ l, (¬ badX p x = true ↔ p.grain ∣ x.1 ∧ p.grain ∣ x.2 ∧ x.1 + x.2 ≤ p.size) := fun x hx => by
    have h := ho x hx
    unfold okx at h
    unfold badX
    rw [Bool.not_eq_true, Bool.or_eq_false_iff, Bool.or_eq_false_iff, bne_eq_false_iff_eq, bne_eq_false_iff_eq, decide_eq_false_iff_not, Int.tmod_eq_emod_of_nonneg h.1, Int.tmod_eq_emod_of_nonneg (by omega), IntKind.wrap_i64]
    constructor
    · rintro ⟨h1, h2, h3⟩
      exact ⟨Int.dvd_of_emod_eq_zero h1, Int.dvd_of_emod_eq_zero h2, by omega⟩
    · rintro ⟨h1, h2, h3⟩
      exact ⟨Int.emod_eq_zero_of_dvd h1, Int.emod_eq_zero_of_dvd h2, by omega⟩
  constructor
  · intro h
    exact ⟨fun x hx => ⟨((key x hx).1 (h x hx)).1, ((key x hx).1 (h x hx)).2.1⟩, fun x hx => ((key x hx).1 (h x hx)).2.2⟩
  · intro h x hx
    exact (key x hx).2 ⟨(h.1 x hx).1, (h.1 x hx).2, h.2 x hx⟩
set_option maxHeartbeats 1000000 in
theorem inside1_any (p : Pl) (vf vu : Value) (B : Nat) (hg : 0 < p.grain) (x : X) (w : World) (pb : PB w B p vf vu) : Calls Try.prog 51 #[aggX x, .pointer (some ⟨B, 0, none⟩)] w (TellsB (badX p x) w) := by
  have pb1 := pb.next (below_box w (boxX x))
  have HB := Lib.hid (below_box w (boxX x))
  have k0 := pb1.k0
  have k1 := pb1.k1
  have HU : Hid (badX p x = ((x.1.tmod p.grain != 0) || ((x.2.tmod p.grain != 0) || decide (p.size < IntKind.i64.wrap (x.1 + x.2))))) := rfl
  generalize badX p x = r at *
  obtain ⟨size, grain, quota, drain, best, fr, us⟩ := p
  obtain ⟨a, b⟩ := x
  try dsimp only at *
  have g0 : (grain == 0) = false := beq_eq_false_iff_ne.2 (by omega)
  generalize hz : IntKind.i64.wrap (a + b) = z at *
  have HZ := Lib.hid hz
  clear pb pb1
  cases e1 : (a.tmod grain != 0) with
  | true =>
    have HF : Hid (r = true) := by show _ = _; rw [HU.out, e1]; rfl
    clear HU hz
    go_enter Try.func51, Try.ntmps51
    go_wp2
    go_ret
    exact ⟨by rw [HF.out]; first | rfl | (simp [e1]; done), HB.out⟩
  | false =>
    cases e2 : (b.tmod grain != 0) with
    | true =>
      have HF : Hid (r = true) := by show _ = _; rw [HU.out, e1, e2]; rfl
      clear HU hz
      go_enter Try.func51, Try.ntmps51
      go_wp2
      go_ret
      exact ⟨by rw [HF.out]; first | rfl | (simp [e1, e2]; done), HB.out⟩
    | false =>
      have HF : Hid (r = decide (size < z)) := by show _ = _; rw [HU.out, e1, e2]; rfl
      clear HU
      go_enter Try.func51, Try.ntmps51
      go_wp2
      go_ret
      exact ⟨by rw [HF.out, ← HZ.out]; first | rfl | (simp [e1, e2]; done), HB.out⟩
end Go.Proofs.Ytdjpnlkhdilakaa.gn
