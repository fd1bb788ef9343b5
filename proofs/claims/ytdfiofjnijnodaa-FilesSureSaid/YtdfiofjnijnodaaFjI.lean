/- The directories and the document's one together, apart, and apart from the blocks Z that are held. -/
import Derived.Test.YtdfiofjnijnodaaFjH
import Derived.Test.YtdfiofjnijnodaaFiR
set_option linter.unusedVariables false
namespace Go.Proofs.Ytdfiofjnijnodaa.gn
open Go.RowKit
open Go.Proofs.Ytdfiofjnijnodaa.fi

/-- Directories D, and the document's at q behind at most K acts; the blocks Z are none of theirs. -/
def Duo (Z : Nat → Prop) (w : World) (D : Nat → Option FS) (q K : Nat) : Prop :=
  ∃ X Y, Sys w X D ∧ Doc w Y q K ∧ (∀ i, X i → i < w.heap.size ∧ ¬ Z i) ∧ (∀ i, Y i → i < w.heap.size ∧ ¬ Z i) ∧ (∀ i, X i → ¬ Y i) ∧ (∀ i, Z i → i < w.heap.size)
/-- What is held stays. -/
def Held (Z : Nat → Prop) (w w' : World) : Prop := Only (fun i => ¬ Z i) w w'
theorem Held.trans {Z : Nat → Prop} {a b c : World} (h : Held Z a b) (k : Held Z b c) : Held Z a c := Only.trans h k fun i _ h => h
theorem Held.of_below {Z : Nat → Prop} {a b : World} (h : Below a.heap.size a b) : Held Z a b := Only.of_below h
theorem Held.less {Z Z' : Nat → Prop} {a b : World} (h : Held Z' a b) (hZ : ∀ i, Z i → Z' i) : Held Z a b := Only.mono h fun i _ hi hz => hi (hZ i hz)
theorem Held.block {Z : Nat → Prop} {a b : World} (h : Held Z a b) {i : Nat} (hz : Z i) {o : Obj} (ho : a.heap[i]? = some o) : b.heap[i]? = some o := (Only.block h i (Array.getElem?_eq_some_iff.1 ho).1 fun hn => hn hz).trans ho
theorem Held.below {B : Nat} {a b : World} (h : Held (fun i => i < B) a b) (hB : B ≤ a.heap.size) : Below B a b := ⟨Only.os h, Only.tape h, Only.output h, Only.size h, fun k hk => Only.block h k (Nat.lt_of_lt_of_le hk hB) fun hn => hn hk⟩
theorem Duo.below {Z : Nat → Prop} {w w' : World} {D : Nat → Option FS} {q K : Nat} (h : Duo Z w D q K) (hb : Below w.heap.size w w') : Duo Z w' D q K := by
  obtain ⟨X, Y, h1, h2, h3, h4, h5, h6⟩ := h
  exact ⟨X, Y, h1.below hb, h2.below hb, fun i hi => ⟨Nat.lt_of_lt_of_le (h3 i hi).1 hb.size, (h3 i hi).2⟩, fun i hi => ⟨Nat.lt_of_lt_of_le (h4 i hi).1 hb.size, (h4 i hi).2⟩, h5, fun i hi => Nat.lt_of_lt_of_le (h6 i hi) hb.size⟩
/-- New blocks are held, too. -/
theorem Duo.lock {Z Z' : Nat → Prop} {w w' : World} {D : Nat → Option FS} {q K : Nat} (h : Duo Z w D q K) (hb : Below w.heap.size w w') (hZ : ∀ i, Z' i → Z i ∨ (w.heap.size ≤ i ∧ i < w'.heap.size)) : Duo Z' w' D q K := by
  obtain ⟨X, Y, h1, h2, h3, h4, h5, h6⟩ := h
  refine ⟨X, Y, h1.below hb, h2.below hb, fun i hi => ⟨Nat.lt_of_lt_of_le (h3 i hi).1 hb.size, fun hz => ?_⟩, fun i hi => ⟨Nat.lt_of_lt_of_le (h4 i hi).1 hb.size, fun hz => ?_⟩, h5, fun i hi => ?_⟩
  · rcases hZ i hz with h | ⟨h, _⟩
    · exact (h3 i hi).2 h
    · have := (h3 i hi).1
      omega
  · rcases hZ i hz with h | ⟨h, _⟩
    · exact (h4 i hi).2 h
    · have := (h4 i hi).1
      omega
  · rcases hZ i hi with h | ⟨_, h⟩
    · exact Nat.lt_of_lt_of_le (h6 i h) hb.size
    · exact h
theorem Duo.unlock {Z Z' : Nat → Prop} {w : World} {D : Nat → Option FS} {q K : Nat} (h : Duo Z w D q K) (hZ : ∀ i, Z' i → Z i) : Duo Z' w D q K := h.lock (Below.refl _ _) fun i hi => .inl (hZ i hi)
theorem Duo.next {Z : Nat → Prop} {w : World} {D : Nat → Option FS} {q K : Nat} (h : Duo Z w D q K) : Duo Z w D q (K + 1) := by
  obtain ⟨X, Y, h1, h2, h3⟩ := h
  exact ⟨X, Y, h1, h2.next, h3⟩
theorem Duo.ok {Z : Nat → Prop} {w : World} {D : Nat → Option FS} {q K d : Nat} {s : FS} (h : Duo Z w D q K) (hd : D d = some s) : s.Ok := by
  obtain ⟨X, Y, h1, _⟩ := h
  exact h1.ok hd
theorem Duo.lt {Z : Nat → Prop} {w : World} {D : Nat → Option FS} {q K d : Nat} {s : FS} (h : Duo Z w D q K) (hd : D d = some s) : d < w.heap.size := by
  obtain ⟨X, Y, h1, _⟩ := h
  exact h1.lt hd
theorem ext_in {X Z : Nat → Prop} {w w' : World} (h : ∀ i, X i → i < w.heap.size ∧ ¬ Z i) (hZ : ∀ i, Z i → i < w.heap.size) (hs : w.heap.size ≤ w'.heap.size) : ∀ i, ext X w w' i → i < w'.heap.size ∧ ¬ Z i := fun i hi => by
  rcases hi with hi | ⟨h1, h2⟩
  · exact ⟨Nat.lt_of_lt_of_le (h i hi).1 hs, (h i hi).2⟩
  · exact ⟨h2, fun hz => by have := hZ i hz; omega⟩
/-- A call on a directory. -/
theorem Duo.does {Z : Nat → Prop} {w : World} {D D' : Nat → Option FS} {q K : Nat} {v : Value} {fid : FuncId} {args : Array Value} (h : Duo Z w D q K) (hc : ∀ X, Sys w X D → Calls Try.prog fid args w (Does X D' v w)) :
    Calls Try.prog fid args w fun e w' => e = .returned v ∧ Duo Z w' D' q K ∧ Held Z w w' := by
  obtain ⟨X, Y, h1, h2, h3, h4, h5, h6⟩ := h
  refine (hc X h1).mono fun e w' ⟨he, hS, hO⟩ => ⟨he, ⟨ext X w w', Y, hS, h2.kept fun i hi hY => hO.block i hi fun hX => h5 i hX hY, ext_in h3 h6 hO.size, fun i hi => ⟨Nat.lt_of_lt_of_le (h4 i hi).1 hO.size, (h4 i hi).2⟩, fun i hi hY => ?_, fun i hi => Nat.lt_of_lt_of_le (h6 i hi) hO.size⟩, Only.mono hO fun i _ hi => (h3 i hi).2⟩
  rcases hi with hi | ⟨hi, _⟩
  · exact h5 i hi hY
  · have := (h4 i hY).1
    omega
/-- A directory more. -/
theorem Duo.makes {Z : Nat → Prop} {w : World} {D : Nat → Option FS} {q K : Nat} {s : FS} {fid : FuncId} {args : Array Value} (h : Duo Z w D q K) (hc : ∀ X, Sys w X D → Calls Try.prog fid args w (Makes X D s w)) :
    Calls Try.prog fid args w fun e w' => ∃ d, e = .returned (.pointer (some ⟨d, 0, none⟩)) ∧ w.heap.size ≤ d ∧ Duo Z w' (upd D d s) q K ∧ Below w.heap.size w w' := by
  obtain ⟨X, Y, h1, h2, h3, h4, h5, h6⟩ := h
  refine (hc X h1).mono fun e w' ⟨d, he, hd, hS, hO⟩ => ⟨d, he, hd, ⟨ext X w w', Y, hS, h2.below hO, ext_in h3 h6 hO.size, fun i hi => ⟨Nat.lt_of_lt_of_le (h4 i hi).1 hO.size, (h4 i hi).2⟩, fun i hi hY => ?_, fun i hi => Nat.lt_of_lt_of_le (h6 i hi) hO.size⟩, hO⟩
  rcases hi with hi | ⟨hi, _⟩
  · exact h5 i hi hY
  · have := (h4 i hY).1
    omega
/-- A call on the document's. -/
theorem Duo.ran {Z : Nat → Prop} {w w' : World} {D : Nat → Option FS} {q K K' : Nat} (h : Duo Z w D q K) (hr : ∀ Y, Doc w Y q K → Ran Y q K' w w') : Duo Z w' D q K' ∧ Held Z w w' := by
  obtain ⟨X, Y, h1, h2, h3, h4, h5, h6⟩ := h
  obtain ⟨hd, hO⟩ := hr Y h2
  have hqY : Y q := by
    obtain ⟨vn, vs, vo, r, N, S, O, hh⟩ := h2
    exact hh.y
  refine ⟨⟨X, ext Y w w', h1.kept fun i hi hX => hO.block i hi fun e => h5 i hX (e ▸ hqY), hd, fun i hi => ⟨Nat.lt_of_lt_of_le (h3 i hi).1 hO.size, (h3 i hi).2⟩, ext_in h4 h6 hO.size, fun i hX hY => ?_, fun i hi => Nat.lt_of_lt_of_le (h6 i hi) hO.size⟩, Only.mono hO fun i _ hi => hi ▸ (h4 q hqY).2⟩
  rcases hY with hY | ⟨hY, _⟩
  · exact h5 i hX hY
  · have := (h3 i hX).1
    omega
/-- A call on the document's, by its contract. -/
theorem Duo.calls {Z : Nat → Prop} {w : World} {D : Nat → Option FS} {q K K' : Nat} {P : Ending → Prop} {fid : FuncId} {args : Array Value} (h : Duo Z w D q K) (hc : ∀ Y, Doc w Y q K → Calls Try.prog fid args w fun e w' => P e ∧ Ran Y q K' w w') :
    Calls Try.prog fid args w fun e w' => P e ∧ Duo Z w' D q K' ∧ Held Z w w' := by
  obtain ⟨X, Y, h1, h2, h3, h4, h5, h6⟩ := h
  refine (hc Y h2).mono fun e w' ⟨he, hr⟩ => ⟨he, ?_⟩
  have hqY : Y q := by
    obtain ⟨vn, vs, vo, r, N, S, O, hh⟩ := h2
    exact hh.y
  obtain ⟨hd, hO⟩ := hr
  refine ⟨⟨X, ext Y w w', h1.kept fun i hi hX => hO.block i hi fun e => h5 i hX (e ▸ hqY), hd, fun i hi => ⟨Nat.lt_of_lt_of_le (h3 i hi).1 hO.size, (h3 i hi).2⟩, ext_in h4 h6 hO.size, fun i hX hY => ?_, fun i hi => Nat.lt_of_lt_of_le (h6 i hi) hO.size⟩, Only.mono hO fun i _ hi => hi ▸ (h4 q hqY).2⟩
  rcases hY with hY | ⟨hY, _⟩
  · exact h5 i hX hY
  · have := (h3 i hX).1
    omega
end Go.Proofs.Ytdfiofjnijnodaa.gn
