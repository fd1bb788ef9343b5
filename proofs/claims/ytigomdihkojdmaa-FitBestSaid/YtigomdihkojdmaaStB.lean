/- quantities, meets. -/
import Derived.Test.YtigomdihkojdmaaStE
import Derived.LoopTactic
namespace Go.Proofs.Ytigomdihkojdmaa.gn
open Go.RowKit Go.Shelf
open Go.Proofs.Ytigomdihkojdmaa.sp

/-- Are all of them quantities? -/
def qall (l : List Int) : Bool := l.all fun n => decide (0 ≤ n ∧ n ≤ 1099511627776)
theorem qall_iff {l : List Int} : qall l = true ↔ ∀ n ∈ l, Q n := by unfold qall Q; simp
theorem qall_of {l : List Int} (h : ∀ n ∈ l, Q n) : qall l = true := qall_iff.2 h
theorem qall_not {l : List Int} (h : ¬ ∀ n ∈ l, Q n) : qall l = false := by
  cases e : qall l with
  | false => rfl
  | true => exact absurd (qall_iff.1 e) h
/-- What a test answers. -/
def SaysB (b : Bool) (w : World) (e : Ending) (w' : World) : Prop := e = .returned (.bool b) ∧ w = w'
/-- What a test that makes memory answers. -/
def TellsB (b : Bool) (w : World) (e : Ending) (w' : World) : Prop := e = .returned (.bool b) ∧ Below w.heap.size w w'

theorem ret_bool {a b : Bool} (h : a = b) : Ending.returned (.bool a) = .returned (.bool b) := by rw [h]
theorem quants_empty (a : Option Addr) (cap : Nat) (w : World) : Calls Try.prog 40 #[.slice a 0 cap] w (SaysB true w) := by
  go_enter Try.func40, Try.ntmps40
  go_wp2
  go_loop [7] (fun i => i = .int .i64 0) (fun _ => 0)
  case atStart => rfl
  case round =>
    subst hrel
    go_wp2
    go_ret
    exact ⟨rfl, rfl⟩
theorem quants_some (b o cap : Nat) (l : List Int) (w : World) (hm : l.length ≤ maxLen) (hc : ∀ j (h : j < l.length), w.cell? ⟨b, o + j, none⟩ = some (.int .i64 l[j])) :
    Calls Try.prog 40 #[.slice (some ⟨b, o, none⟩) l.length cap] w (SaysB (qall l) w) := by
  unfold maxLen at hm
  have HC := Lib.hid hc
  clear hc
  go_enter Try.func40, Try.ntmps40
  go_wp2
  go_loop [7] (fun i => ∃ k : Nat, k ≤ l.length ∧ i = .int .i64 (k : Int) ∧ ∀ n ∈ l.take k, Q n) (fun i => l.length - (intOf i).toNat)
  case atStart => exact ⟨0, by omega, rfl, fun n hn => by simp at hn⟩
  case round =>
    obtain ⟨k, hk, rfl, hq⟩ := hrel
    have HQ := Lib.hid hq
    clear hq
    by_cases hlt : k < l.length
    · have hcell := HC.out k hlt
      have ht : Hid (l.take (k + 1) = l.take k ++ [l[k]]) := List.take_succ_eq_append_getElem hlt
      have hmem : Hid (l[k] ∈ l) := List.getElem_mem hlt
      generalize hx : l[k] = x at *
      clear hx
      by_cases hq : Q x
      · have hd : (x != of x) = false := by simp [(of_id hq)]
        have hQ := Lib.hid hq
        clear hq
        go_wp2_with (go_at_call 38; ((with_reducible refine (of_any _ _).mono ?_); rintro e w' ⟨rfl, rfl⟩))
        go_round
        case rel => exact ⟨k + 1, by omega, by go_num, fun n hn => by
          rw [ht.out] at hn
          rcases List.mem_append.1 hn with h | h
          · exact HQ.out n h
          · simp at h; rw [h]; exact hQ.out⟩
        case measure => simp [intOf]; omega
      · have hd : (x != of x) = true := by simpa using fun h => hq (of_q.1 h)
        have hQ : Hid (qall l = false) := qall_not fun h => hq (h x hmem.out)
        clear hq
        go_wp2_with (go_at_call 38; ((with_reducible refine (of_any _ _).mono ?_); rintro e w' ⟨rfl, rfl⟩))
        go_ret
        exact ⟨ret_bool hQ.out.symm, rfl⟩
    · have he : Hid (qall l = true) := qall_of (by have := HQ.out; rwa [List.take_of_length_le (by omega)] at this)
      go_wp2
      go_ret
      exact ⟨ret_bool he.out.symm, rfl⟩
theorem quants_any {w : World} {v : Value} {l : List Int} (h : Ints w v l) : Calls Try.prog 40 #[v] w (SaysB (qall l) w) := by
  obtain ⟨hm, a, cap, rfl, _, h0 | ⟨b, o, rfl, hc⟩⟩ := h
  · have hl : l = [] := List.eq_nil_of_length_eq_zero h0
    subst hl
    exact quants_empty a cap w
  · exact quants_some b o cap l w hm hc
/-- Of a new row of one. -/
theorem quants_new (x : Int) (w : World) :
    Calls Try.prog 40 #[.slice (some ⟨w.heap.size, 0, none⟩) 1 1] (w.alloc (.cells #[.int .i64 x] 2)) (SaysB (qall [x]) (w.alloc (.cells #[.int .i64 x] 2))) := by
  refine quants_some w.heap.size 0 1 [x] _ (by show 1 ≤ maxLen; decide) fun j hj => ?_
  match j, hj with
  | 0, _ => go_simp
  | j + 1, hj => simp at hj

def meets (a b c d : Int) : Bool := decide (max a c < min b d)
theorem meets_any (a b c d : Int) (w : World) : Calls Try.prog 43 #[.agg #[.int .i64 a, .int .i64 b], .agg #[.int .i64 c, .int .i64 d]] w (TellsB (meets a b c d) w) := by
  have H : Hid (meets a b c d = decide (max a c < min b d)) := (rfl : _ = _)
  go_enter Try.func43, Try.ntmps43
  go_wp2
  go_ret
  exact ⟨ret_bool H.out.symm, ((Below.refl _ _).alloc (Nat.le_refl _) _).alloc (by simp) _⟩
end Go.Proofs.Ytigomdihkojdmaa.gn
