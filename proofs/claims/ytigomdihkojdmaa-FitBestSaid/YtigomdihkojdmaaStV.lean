/- Comparing: slices.Equal, the document's Equal; Great, Quantity; New. -/
import Derived.Test.YtigomdihkojdmaaStC
import Derived.BigQuiet
import Derived.Deep.QuietTactic
namespace Go.Proofs.Ytigomdihkojdmaa.gn
open Go.RowKit Go.Shelf
open Go.Proofs.Ytigomdihkojdmaa.sp

theorem Below.drewN {B n : Nat} {a w : World} (h : Below B a w) : Below B a (w.drewN n) := ⟨h.os, h.tape, h.output, h.size, h.block⟩

/-- Are two rows the same? -/
def same (l m : List Int) : Bool := decide (l = m)
theorem same_len {l m : List Int} (h : l.length ≠ m.length) : same l m = false := decide_eq_false fun e => h (by rw [e])
theorem same_at {l m : List Int} {k : Nat} (h1 : k < l.length) (h2 : k < m.length) (h : l[k] ≠ m[k]) : same l m = false := decide_eq_false fun e => h (by subst e; rfl)
theorem same_all {l m : List Int} (h : l.length = m.length) (ha : ∀ j (h1 : j < l.length) (h2 : j < m.length), l[j] = m[j]) : same l m = true := decide_eq_true (List.ext_getElem h ha)

theorem equal_far (a1 a2 : Option Addr) (n1 n2 c1 c2 : Nat) (h : n1 ≠ n2) (w : World) : Calls Try.prog 25 #[.slice a1 n1 c1, .slice a2 n2 c2] w (TellsB false w) := by
  have hb : ((n1 : Int) != (n2 : Int)) = true := by simpa using (show ¬ (n1 : Int) = n2 by omega)
  go_enter Try.func25, Try.ntmps25
  go_wp2
  go_ret
  exact ⟨rfl, Below.refl _ _⟩
theorem equal_empty (a1 a2 : Option Addr) (c1 c2 : Nat) (w : World) : Calls Try.prog 25 #[.slice a1 0 c1, .slice a2 0 c2] w (TellsB true w) := by
  go_enter Try.func25, Try.ntmps25
  go_wp2
  go_loopw [13] (fun i wr => i = .int .i64 0 ∧ Below w.heap.size w wr) (fun _ _ => 0)
  case atStart => exact ⟨rfl, Below.refl _ _⟩
  case round =>
    obtain ⟨rfl, hb⟩ := hrel
    have HB := Lib.hid hb
    clear hb
    go_wp2
    go_ret
    exact ⟨rfl, HB.out⟩
set_option maxHeartbeats 800000 in
theorem equal_some (b1 o1 c1 b2 o2 c2 n1 n2 : Nat) (l m : List Int) (w : World) (hn1 : l.length = n1) (hn2 : m.length = n2) (hl : n1 = n2) (hm : n1 ≤ maxLen) (h1 : ∀ j (h : j < l.length), w.cell? ⟨b1, o1 + j, none⟩ = some (.int .i64 l[j])) (h2 : ∀ j (h : j < m.length), w.cell? ⟨b2, o2 + j, none⟩ = some (.int .i64 m[j])) :
    Calls Try.prog 25 #[.slice (some ⟨b1, o1, none⟩) n1 c1, .slice (some ⟨b2, o2, none⟩) n2 c2] w (TellsB (same l m) w) := by
  unfold maxLen at hm
  have H1 := Lib.hid h1
  have H2 := Lib.hid h2
  have hb0 : ((n1 : Int) != (n2 : Int)) = false := by simp [hl]
  have HL := Lib.hid hl
  clear h1 h2 hl
  have HN1 := Lib.hid hn1
  have HN2 := Lib.hid hn2
  have hnn : (n1 : Int) = (n2 : Int) := by rw [HL.out]
  have HNN := Lib.hid hnn
  clear hn1 hn2 hnn
  go_enter Try.func25, Try.ntmps25
  go_wp2
  go_loopw [13] (fun i wr => ∃ k : Nat, k ≤ n1 ∧ i = .int .i64 (k : Int) ∧ (∀ j (h1 : j < l.length) (h2 : j < m.length), j < k → l[j] = m[j]) ∧ Below w.heap.size w wr) (fun i _ => n1 - (intOf i).toNat)
  case atStart => exact ⟨0, by omega, rfl, fun j _ _ h => by omega, Below.refl _ _⟩
  case round =>
    obtain ⟨k, hk, rfl, hq, hb⟩ := hrel
    have HQ := Lib.hid hq
    clear hq
    by_cases hlt : k < n1
    · have k1 : k < l.length := by rw [HN1.out]; exact hlt
      have k2 : k < m.length := by rw [HN2.out, ← HL.out]; exact hlt
      have hlt2 : (k : Int) < (n2 : Int) := by have := HNN.out; omega
      have hlt1 : (k : Int) < (n1 : Int) := by omega
      have hk0 : (0 : Int) ≤ (k : Int) := by omega
      have g1 := (hb.cell (p := ⟨b1, o1 + k, none⟩) (cell_lt (H1.out k k1))).trans (H1.out k k1)
      have g2 := (hb.cell (p := ⟨b2, o2 + k, none⟩) (cell_lt (H2.out k k2))).trans (H2.out k k2)
      have hsa : l[k] ≠ m[k] → same l m = false := same_at k1 k2
      have hst : l[k] = m[k] → ∀ j (h1 : j < l.length) (h2 : j < m.length), j < k + 1 → l[j] = m[j] := fun e j h1 h2 h3 => by
        rcases Nat.lt_or_eq_of_le (Nat.le_of_lt_succ h3) with h4 | h4
        · exact HQ.out j h1 h2 h4
        · subst h4; exact e
      generalize l[k] = x at *
      generalize m[k] = y at *
      have HB := Lib.hid hb
      have HSA := Lib.hid hsa
      have HST := Lib.hid hst
      clear hb hsa hst k1 k2
      by_cases he : x = y
      · have hd : (x != y) = false := by simp [he]
        have HE := Lib.hid he
        clear he
        go_wp2
        go_quiet (fail)
        go_wp2
        go_roundw
        case rel => exact ⟨k + 1, by omega, by go_num, HST.out HE.out, Below.drewN HB.out⟩
        case measure => simp [intOf]; omega
      · have hd : (x != y) = true := by simpa using he
        have HE := Lib.hid (HSA.out he)
        clear he
        go_wp2
        go_quiet (fail)
        go_wp2
        go_ret
        exact ⟨ret_bool HE.out.symm, Below.drewN HB.out⟩
    · have he : Hid (same l m = true) := same_all (by rw [HN1.out, HN2.out]; exact HL.out) fun j h1 h2 => HQ.out j h1 h2 (by have := HN1.out; omega)
      have HB := Lib.hid hb
      clear hb
      go_wp2
      go_ret
      exact ⟨ret_bool he.out.symm, HB.out⟩
theorem equal_any {w : World} {v u : Value} {l m : List Int} (h1 : Ints w v l) (h2 : Ints w u m) : Calls Try.prog 25 #[v, u] w (TellsB (same l m) w) := by
  obtain ⟨hm1, a1, c1, rfl, _, h1⟩ := h1
  obtain ⟨hm2, a2, c2, rfl, _, h2⟩ := h2
  by_cases hl : l.length = m.length
  · rcases h1 with h1 | ⟨b1, o1, rfl, h1⟩
    · have e1 : l = [] := List.eq_nil_of_length_eq_zero h1
      have e2 : m = [] := List.eq_nil_of_length_eq_zero (by omega)
      subst e1 e2
      exact equal_empty a1 a2 c1 c2 w
    · rcases h2 with h2 | ⟨b2, o2, rfl, h2⟩
      · have e1 : l = [] := List.eq_nil_of_length_eq_zero (by omega)
        have e2 : m = [] := List.eq_nil_of_length_eq_zero h2
        subst e1 e2
        exact equal_empty _ a2 c1 c2 w
      · exact equal_some b1 o1 c1 b2 o2 c2 _ _ l m w rfl rfl hl hm1 h1 h2
  · rw [same_len hl]
    exact equal_far a1 a2 _ _ c1 c2 hl w
end Go.Proofs.Ytigomdihkojdmaa.gn
