/- Acts that came in, as a row; 'great'. -/
import Derived.Test.YtdfiofjnijnodaaFjN
import Derived.Test.YtdfiofjnijnodaaFiZ
import Derived.Deep.QuietTactic
import Derived.BigQuiet
set_option linter.unusedVariables false
namespace Go.Proofs.Ytdfiofjnijnodaa.gn
open Go.RowKit
open Go.Proofs.Ytdfiofjnijnodaa.fi

/-- An act lies in block b from k on. -/
def ActC (w : World) (b k : Nat) (x : Ac) : Prop :=
  w.cell? ⟨b, k, none⟩ = some (.int .u8 (x.t : Int)) ∧ w.cell? ⟨b, k + 1, none⟩ = some (.string (str x.n)) ∧ w.cell? ⟨b, k + 2, none⟩ = some (.string (str x.s)) ∧ w.cell? ⟨b, k + 3, none⟩ = some (.int .i64 x.k) ∧ w.cell? ⟨b, k + 4, none⟩ = some (.int .i64 x.f.keep) ∧ w.cell? ⟨b, k + 5, none⟩ = some (.int .u64 (x.f.lose : Int)) ∧ w.cell? ⟨b, k + 6, none⟩ = some (.int .i64 x.f.cut)
theorem ActC.lt {w : World} {b k : Nat} {x : Ac} (h : ActC w b k x) : b < w.heap.size := World.block_lt_of_cell? w _ h.1
theorem ActC.kept {w w' : World} {b k : Nat} {x : Ac} (h : ActC w b k x) (hb : w'.heap[b]? = w.heap[b]?) : ActC w' b k x := by
  have e : ∀ j, w'.cell? ⟨b, j, none⟩ = w.cell? ⟨b, j, none⟩ := fun j => by unfold World.cell?; simp only [hb]
  unfold ActC at *
  simp only [e]
  exact h
structure AcW (x : Ac) : Prop where
  t : x.t < 256
  n : x.n.length ≤ maxLen
  s : x.s.length ≤ maxLen
  f : x.f.lose < 18446744073709551616
/-- A slice of acts. -/
def Acs (w : World) (v : Value) (L : List Ac) : Prop :=
  ∃ A c, v = .slice A L.length c ∧ L.length ≤ c ∧ c ≤ maxLen ∧ (L.length = 0 ∨ ∃ b o, A = some ⟨b, o, none⟩ ∧ ∀ j (h : j < L.length), ActC w b (o + j * 7) L[j]) ∧ ∀ x ∈ L, AcW x
theorem Acs.kept {w w' : World} {v : Value} {L : List Ac} (h : Acs w v L) (hb : Below w.heap.size w w') : Acs w' v L := by
  obtain ⟨A, c, rfl, h1, h2, h3, h4⟩ := h
  refine ⟨A, c, rfl, h1, h2, ?_, h4⟩
  rcases h3 with h3 | ⟨b, o, rfl, h3⟩
  · exact .inl h3
  · exact .inr ⟨b, o, rfl, fun j hj => (h3 j hj).kept (hb.block _ (h3 j hj).lt)⟩
/-- Is an act's name, or text, too great? -/
def bigA (x : Ac) : Bool := decide (100 < x.n.length) || decide (300 < x.s.length)
def grt (L : List Ac) : Bool := decide (60 < L.length) || L.any bigA

set_option maxHeartbeats 4000000 in
theorem great_any (w : World) (v : Value) (L : List Ac) (h : Acs w v L) :
    Calls Try.prog 5 #[v] w (Says0 (.bool (grt L)) w) := by
  obtain ⟨A, c, rfl, hc1, hc2, hc3, hc4⟩ := h
  unfold maxLen at hc2
  by_cases h60 : 60 < L.length
  · have e : grt L = true := by unfold grt; rw [decide_eq_true h60]; rfl
    have d : decide (60 < (L.length : Int)) = true := decide_eq_true (by omega)
    rw [e]
    clear hc3 hc4 e
    go_enter Try.func5, Try.ntmps5
    go_wp2
    go_ret
    exact ⟨rfl, Below.refl _ _⟩
  · have d : decide (60 < (L.length : Int)) = false := decide_eq_false (by omega)
    have H3 := Lib.hid hc3
    have H4 := Lib.hid hc4
    clear hc3 hc4
    go_enter Try.func5, Try.ntmps5
    go_wp2
    go_loopw [3] (fun i wr => ∃ k : Nat, k ≤ L.length ∧ i = .int .i64 k ∧ (L.take k).any bigA = false ∧ Below w.heap.size w wr) (fun i _ => L.length - (intOf i).toNat)
    case atStart => exact ⟨0, Nat.zero_le _, rfl, rfl, Below.refl _ _⟩
    case round =>
      obtain ⟨k, hk, rfl, hv, hb⟩ := hrel
      have HV := Lib.hid hv
      have HB := Lib.hid hb
      clear hv
      by_cases hlt : k < L.length
      · obtain ⟨b, o, hA, hce⟩ : ∃ b o, A = some ⟨b, o, none⟩ ∧ ∀ j (h : j < L.length), ActC w b (o + j * 7) L[j] := by
          rcases H3.out with h | h
          · omega
          · exact h
        subst hA
        obtain ⟨x, hx⟩ : ∃ x, x = L[k] := ⟨_, rfl⟩
        have hxw := H4.out _ (List.getElem_mem hlt)
        have hc1 := hce k hlt
        rw [← hx] at hc1 hxw
        obtain ⟨f0, f1, f2, f3, f4, f5, f6⟩ := hc1.kept (hb.block _ hc1.lt)
        have hI0 : (0 : Int) ≤ (k : Int) := by omega
        have hI1 : (k : Int) < (L.length : Int) := by omega
        have HX := Lib.hid hx
        have hz1 := Lib.hid (str_size x.n)
        have hz2 := Lib.hid (str_size x.s)
        have hm1 := hxw.n
        have hm2 := hxw.s
        unfold maxLen at hm1 hm2
        clear hx hce hc1 hb hxw f0 f3 f4 f5 f6
        by_cases hn : 100 < x.n.length
        · have hn' : decide (100 < ((str x.n).size : Int)) = true := decide_eq_true (by have := hz1.out; omega)
          have e : Hid (grt L = true) := by
            show _ = _
            unfold grt
            rw [List.any_eq_true.2 ⟨L[k], List.getElem_mem hlt, by rw [← HX.out]; unfold bigA; rw [decide_eq_true hn]; rfl⟩]
            simp
          clear f2
          go_wp2
          go_ret
          exact ⟨by rw [e.out]; rfl, HB.out⟩
        · have hn' : decide (100 < ((str x.n).size : Int)) = false := decide_eq_false (by have := hz1.out; omega)
          by_cases hs : 300 < x.s.length
          · have hs' : decide (300 < ((str x.s).size : Int)) = true := decide_eq_true (by have := hz2.out; omega)
            have e : Hid (grt L = true) := by
              show _ = _
              unfold grt
              rw [List.any_eq_true.2 ⟨L[k], List.getElem_mem hlt, by rw [← HX.out]; unfold bigA; rw [decide_eq_true hs]; simp⟩]
              simp
            go_wp2
            go_ret
            exact ⟨by rw [e.out]; rfl, HB.out⟩
          · have hs' : decide (300 < ((str x.s).size : Int)) = false := decide_eq_false (by have := hz2.out; omega)
            go_wp2
            go_roundw
            case rel =>
              refine ⟨k + 1, by omega, by go_num, ?_, HB.out⟩
              rw [List.take_succ_eq_append_getElem hlt, List.any_append, HV.out, ← HX.out]
              unfold bigA
              simp [hn, hs]
            case measure => simp [intOf]; omega
      · have e : Hid (grt L = false) := by
          show _ = _
          have hv := HV.out
          rw [List.take_of_length_le (by omega)] at hv
          unfold grt
          rw [hv, decide_eq_false h60]
          rfl
        go_wp2
        go_ret
        exact ⟨by rw [e.out]; rfl, HB.out⟩
end Go.Proofs.Ytdfiofjnijnodaa.gn
