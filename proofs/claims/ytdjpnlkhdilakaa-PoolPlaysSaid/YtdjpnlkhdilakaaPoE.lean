/- inside, slices.Equal: the contracts. -/
import Derived.Test.YtdjpnlkhdilakaaPoD
import Derived.Test.YtdjpnlkhdilakaaExS
set_option linter.unusedVariables false
set_option linter.unusedSimpArgs false
set_option maxRecDepth 100000
namespace Go.Proofs.Ytdjpnlkhdilakaa.gn
open Go.RowKit Go.Shelf Go.Sort Go.Lib
open Go.Proofs.Ytdjpnlkhdilakaa.ex
open Go.Proofs.Ytdjpnlkhdilakaa.po (Nm U less Pl)

attribute [local go_sem] Oper.semAt_some

theorem index_none (p' : Option Addr) (c' : Nat) (fv : Value) (w : World) : Calls Try.prog 61 #[.slice p' 0 c', fv] w fun e w' => e = .returned (.int .i64 (-1)) ∧ w' = w := by
  go_enter Try.func61, Try.ntmps61
  go_wp2
  go_loopw [8] (fun s8 wr => s8 = .int .i64 0 ∧ wr = w) (fun _ _ => 0)
  case atStart => exact ⟨rfl, rfl⟩
  case round =>
    obtain ⟨rfl, hwr⟩ := hrel
    subst hwr
    go_wp2
    go_ret
    exact ⟨rfl, rfl⟩
theorem contains_none (p' : Option Addr) (c' : Nat) (fv : Value) (w : World) : Calls Try.prog 50 #[.slice p' 0 c', fv] w fun e w' => e = .returned (.bool false) ∧ w' = w := by
  go_enter Try.func50, Try.ntmps50
  go_wp2_with (go_at_call 61; refine (index_none _ _ _ _).mono ?_; rintro e w' ⟨rfl, rfl⟩)
  go_ret
  exact ⟨rfl, rfl⟩
theorem contains_any (p : Pl) (vf vu : Value) (hg : 0 < p.grain) {w : World} {v : Value} {l : List X} (B : Nat) (h : Rd w v l) (hl : l.length ≤ 4000) (pb : PB w B p vf vu) :
    Calls Try.prog 50 #[v, .func (.func 51) #[] #[.pointer (some ⟨B, 0, none⟩)]] w (TellsB (l.any (badX p)) w) := by
  rcases h with ⟨p', c', rfl, rfl, _⟩ | ⟨b, off, c, rfl, hlt, hc⟩
  · have := contains_none p' c' (.func (.func 51) #[] #[.pointer (some ⟨B, 0, none⟩)]) w
    refine Calls.mono (f := 50) this ?_
    rintro e w' ⟨rfl, rfl⟩
    exact ⟨rfl, Below.refl _ _⟩
  · have := AnyQ.slices_ContainsFunc layContainsFunc 2 Try.isAgg54 Try.sizeOf54 encX (fun _ => rfl) (badX p) 51 #[.pointer (some ⟨B, 0, none⟩)] (enters_of Try.func51 (by kernel_rfl) rfl) b off l.length c l w
      (fun W x hb => (inside1_any p vf vu B hg x W (pb.next hb)).mono fun e w' h => ⟨h.1, hb.trans (h.2.mono hb.size)⟩) (Nat.le_refl _) (by omega) hlt (fun j hj i v hi => by
        have h1 := hc j hj
        generalize l[j]! = y at hi h1
        rcases i with _ | _ | i
        · have e : Value.int .i64 y.1 = v := Option.some.inj hi
          rw [← e]; exact h1.1
        · have e : Value.int .i64 y.2 = v := Option.some.inj hi
          rw [← e]; exact h1.2
        · exact absurd hi (by simp [encX]))
    refine Calls.mono (f := 50) this ?_
    rintro e w' ⟨rfl, hb⟩
    exact ⟨by rw [List.take_length], hb⟩
def insB (p : Pl) (l : List X) : Bool := !l.any (badX p)
theorem insB_iff {p : Pl} {l : List X} (ho : ex.Ok l) (hg : 0 < p.grain) : insB p l = true ↔ po.Ins p l := any_bad ho hg
theorem inside_any (p : Pl) (vf vu : Value) (hg : 0 < p.grain) {w : World} {v : Value} {l : List X} (h : Rd w v l) (hl : l.length ≤ 4000) : Calls Try.prog 29 #[aggP p vf vu, v] w (TellsB (insB p l) w) := by
  have hb := below_box w (boxP p vf vu)
  have c1 := contains_any p vf vu hg w.heap.size (h.next hb) hl (PB.new w p vf vu)
  obtain ⟨q, c, rfl⟩ := h.len
  unfold insB
  generalize l.any (badX p) = r at *
  have HB := Lib.hid hb
  clear h hb
  obtain ⟨size, grain, quota, drain, best, fr, us⟩ := p
  try dsimp only at *
  go_enter Try.func29, Try.ntmps29
  go_wp2_with (go_at_call 50; refine c1.mono ?_; rintro e w1 ⟨rfl, hb1⟩; have HB1 := Lib.hid (HB.out.trans (hb1.mono HB.out.size)); clear hb1)
  go_ret
  exact ⟨rfl, HB1.out⟩

/-! slices.Equal -/
theorem equal_far (a1 a2 : Option Addr) (n1 n2 c1 c2 : Nat) (h : n1 ≠ n2) (w : World) : Calls Try.prog 27 #[.slice a1 n1 c1, .slice a2 n2 c2] w (TellsB false w) := by
  have hb : ((n1 : Int) != (n2 : Int)) = true := by simpa using (show ¬ (n1 : Int) = n2 by omega)
  go_enter Try.func27, Try.ntmps27
  go_wp2
  go_ret
  exact ⟨rfl, Below.refl _ _⟩
set_option maxHeartbeats 2000000 in
theorem equal_any {w : World} {v u : Value} {l m : List X} (h1 : Rd w v l) (h2 : Rd w u m) (hl : l.length ≤ 4000) (hm : m.length ≤ 4000) : Calls Try.prog 27 #[v, u] w (TellsB (decide (l = m)) w) := by
  obtain ⟨p1, c1, rfl⟩ := h1.len
  obtain ⟨p2, c2, rfl⟩ := h2.len
  by_cases hlm : l.length = m.length
  · rw [← hlm] at h2 ⊢
    have H1 := Lib.hid h1
    have H2 : Hid (Rd w (.slice p2 l.length c2) m) := h2
    have HLM := Lib.hid hlm
    have mixed : Try.prog.follows .mixedOrders = true := by kernel_rfl
    have hne : ((l.length : Int) != (l.length : Int)) = false := by simp
    clear h1 h2 hlm hm
    go_enter Try.func27, Try.ntmps27
    go_upto_region 4 with fail
    go_loopw [13] (fun s5 wr => ∃ k : Nat, s5 = .int .i64 k ∧ k ≤ l.length ∧ (∃ q, wr = w.drewN q) ∧ Aside (∀ j, j < k → l[j]! = m[j]!)) (fun s5 _ => l.length - (intOf s5).toNat)
    case atStart => exact ⟨0, rfl, Nat.zero_le _, ⟨0, rfl⟩, (show Aside (∀ j, j < 0 → l[j]! = m[j]!) from fun j hj => by omega)⟩
    case round =>
      obtain ⟨k, rfl, hk, ⟨q, hwr⟩, hA⟩ := hrel
      subst hwr
      by_cases hlt : k < l.length
      · obtain ⟨b1, o1, rfl, hb1, hc1⟩ := H1.out.at_ (by omega)
        have H2' := H2.out
        rw [HLM.out] at H2'
        obtain ⟨b2, o2, rfl, hb2, hc2⟩ := H2'.at_ (by have := HLM.out; omega)
        have e1 := hc1 k hlt
        have e2 := hc2 k (by have := HLM.out; omega)
        obtain ⟨x, hx⟩ : ∃ x, l[k]! = x := ⟨_, rfl⟩
        obtain ⟨y, hy⟩ : ∃ y, m[k]! = y := ⟨_, rfl⟩
        rw [hx] at e1
        rw [hy] at e2
        have HX := Lib.hid (And.intro hx hy)
        clear hc1 hc2 H2' hx hy
        by_cases hxy : x = y
        · subst hxy
          obtain ⟨x1, x2⟩ := x
          have a1 := e1.1
          have a2 := e1.2
          have d1 := e2.1
          have d2 := e2.2
          dsimp only at a1 a2 d1 d2
          clear e1 e2
          go_wp2
          go_quiet (fail)
          go_wp2
          go_roundw
          case rel =>
            refine ⟨k + 1, by go_num, by omega, ⟨_, rfl⟩, (show Aside (∀ j, j < k + 1 → l[j]! = m[j]!) from fun j hj => ?_)⟩
            by_cases e : j = k
            · subst e; rw [HX.out.1, HX.out.2]
            · exact hA.out j (by omega)
          case measure => simp [intOf]; omega
        · have hno : decide (l = m) = false := decide_eq_false fun e => hxy (by rw [← HX.out.1, ← HX.out.2, e])
          have HNO := Lib.hid hno
          obtain ⟨x1, x2⟩ := x
          obtain ⟨y1, y2⟩ := y
          have a1 := e1.1
          have a2 := e1.2
          have d1 := e2.1
          have d2 := e2.2
          dsimp only at a1 a2 d1 d2
          clear e1 e2 hno
          by_cases f1 : x1 = y1
          · subst f1
            have f2 : (x2 == y2) = false := beq_eq_false_iff_ne.2 fun e => hxy (by rw [e])
            clear hxy
            go_wp2
            go_quiet (fail)
            go_wp2
            go_ret
            exact ⟨by rw [HNO.out]; rfl, ⟨rfl, rfl, rfl, Nat.le_refl _, fun _ _ => rfl⟩⟩
          · have f2 : (x1 == y1) = false := beq_eq_false_iff_ne.2 f1
            clear hxy f1
            go_wp2
            go_quiet (fail)
            go_wp2
            go_ret
            exact ⟨by rw [HNO.out]; rfl, ⟨rfl, rfl, rfl, Nat.le_refl _, fun _ _ => rfl⟩⟩
      · obtain rfl : k = l.length := by omega
        have hyes : decide (l = m) = true := decide_eq_true (List.ext_getElem HLM.out fun j h1 h2 => by
          have := hA.out j h1
          rwa [getElem!_pos l j h1, getElem!_pos m j h2] at this)
        have HY := Lib.hid hyes
        clear hyes
        go_wp2
        go_ret
        exact ⟨by rw [HY.out]; rfl, ⟨rfl, rfl, rfl, Nat.le_refl _, fun _ _ => rfl⟩⟩
  · rw [decide_eq_false (fun e => hlm (by rw [e]))]
    exact equal_far p1 p2 l.length m.length c1 c2 hlm w
end Go.Proofs.Ytdjpnlkhdilakaa.gn
