/- Same of two that are the same. -/
import Derived.Test.YtdjpnlkhdilakaaExR
set_option linter.unusedVariables false
namespace Go.Proofs.Ytdjpnlkhdilakaa.gn
open Go.RowKit Go.Shelf Go.Sort Go.Lib
open Go.Proofs.Ytdjpnlkhdilakaa.ex

attribute [local go_sem] Oper.semAt_some

theorem Rd.at_ {w : World} {p : Option Addr} {c : Nat} {l : List X} (h : Rd w (.slice p l.length c) l) (hp : 0 < l.length) : ∃ b off, p = some ⟨b, off, none⟩ ∧ b < w.heap.size ∧ CellsX w b off l := by
  rcases h with ⟨p', c', he, h0, _⟩ | ⟨b, off, c2, he, hb, hc⟩
  · rw [h0] at hp; simp at hp
  · simp only [Value.slice.injEq] at he
    exact ⟨b, off, he.1, hb, hc⟩
set_option maxHeartbeats 2000000 in
set_option maxRecDepth 100000 in
theorem Same_yes {w : World} {v u : Value} {l : List X} (h1 : Rd w v l) (h2 : Rd w u l) (hl : l.length ≤ 4000) : Calls Try.prog 18 #[v, u] w (TellsB true w) := by
  obtain ⟨p1, c1, rfl⟩ := h1.len
  obtain ⟨p2, c2, rfl⟩ := h2.len
  have H := Lib.hid (And.intro h1 h2)
  have mixed : Try.prog.follows .mixedOrders = true := by kernel_rfl
  have hne : ((l.length : Int) != (l.length : Int)) = false := by simp
  clear h1 h2
  go_enter Try.func18, Try.ntmps18
  go_upto_region 4 with fail
  go_loopw [5] (fun s5 wr => ∃ k : Nat, s5 = .int .i64 k ∧ k ≤ l.length ∧ ∃ q, wr = w.drewN q) (fun s5 _ => l.length - (intOf s5).toNat)
  case atStart => exact ⟨0, rfl, Nat.zero_le _, 0, rfl⟩
  case round =>
    obtain ⟨k, rfl, hk, q, hwr⟩ := hrel
    subst hwr
    by_cases hlt : k < l.length
    · obtain ⟨b1, o1, rfl, hb1, hc1⟩ := H.out.1.at_ (by omega)
      obtain ⟨b2, o2, rfl, hb2, hc2⟩ := H.out.2.at_ (by omega)
      have e1 := hc1 k hlt
      have e2 := hc2 k hlt
      clear hc1 hc2
      generalize l[k]! = x at *
      obtain ⟨x1, x2⟩ := x
      have a1 := e1.1
      have a2 := e1.2
      have d1 := e2.1
      have d2 := e2.2
      dsimp only at a1 a2 d1 d2
      clear e1 e2
      go_wp2
      go_quiet (fail)
      go_wp2
      go_roundw
      case rel => exact ⟨k + 1, by go_num, by omega, _, rfl⟩
      case measure => simp [intOf]; omega
    · obtain rfl : k = l.length := by omega
      go_wp2
      go_ret
      exact ⟨rfl, ⟨rfl, rfl, rfl, Nat.le_refl _, fun _ _ => rfl⟩⟩
end Go.Proofs.Ytdjpnlkhdilakaa.gn
