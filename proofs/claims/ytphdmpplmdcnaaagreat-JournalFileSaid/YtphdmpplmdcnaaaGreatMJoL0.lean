/- For both walks of the laws: costs, rows that are held, the text 'more'. -/
import Derived.Test.YtphdmpplmdcnaaaGreatMJoK
import Derived.Test.YtphdmpplmdcnaaaGreatMGenAp
section
set_option linter.unusedVariables false
namespace Go.Proofs.YtphdmpplmdcnaaaGreat.gn
open Go.RowKit
open Go.Proofs.YtphdmpplmdcnaaaGreat.fi

theorem row_cost : ∀ {L : List (List UInt8)}, (∀ s ∈ L, s.length ≤ 300) → cost L ≤ 320 * L.length
  | [], _ => by simp [cost]
  | s :: L, h => by
    have h1 := h s (by simp)
    have h2 := row_cost (L := L) fun t ht => h t (by simp [ht])
    rw [cost, List.length_cons]
    omega
theorem rows_cost : ∀ {LL : List (List (List UInt8))}, (∀ L ∈ LL, RowOk L) → cost LL.flatten ≤ 3200 * LL.length
  | [], _ => by simp [cost]
  | L :: LL, h => by
    have h1 := h L (by simp)
    have h2 := row_cost h1.2
    have h3 := h1.1
    have h4 := rows_cost (LL := LL) fun t ht => h t (by simp [ht])
    rw [List.flatten_cons, cost_app, List.length_cons]
    omega
theorem rows_small {LL : List (List (List UInt8))} (h : ∀ L ∈ LL, RowOk L) : ∀ s ∈ LL.flatten, s.length ≤ 300 := fun s hs => by
  obtain ⟨L, hL, hs⟩ := List.mem_flatten.1 hs
  exact (h L hL).2 s hs
theorem Only.belowZ {Z : Nat → Prop} {a b : World} {B : Nat} (h : Only (Off Z) a b) (hz : ∀ i, i < B → Z i) (hB : B ≤ a.heap.size) : Below B a b := h.below (fun i hi => Nat.le_of_not_lt fun hl => hi (hz i hl)) hB
/-- A row of the call's own stays. -/
theorem Ss.held {Z : Nat → Prop} {w w' : World} {B : Nat} {v : Value} {L : List (List UInt8)} (h : Ss w B v L) (ho : Only (Off Z) w w') (hz : ∀ g, v.ownBlock = some g → Z g) : Ss w' B v L := by
  refine ⟨h.1, ?_⟩
  rcases h.2 with hn | ⟨g, cap, cur, rfl, hB, hg, rest⟩
  · exact .inl hn
  · exact .inr ⟨g, cap, cur, rfl, hB, ho.off hg (hz g rfl), rest⟩
/-- Behind a step on blocks that are held: those, and the new ones. -/
theorem Hold.rows {Z : Nat → Prop} {w w' : World} {D : Nat → Option FS} {J : Nat → Option Jn} (h : Hold Z w D J) {v : Value} (hg : w.grownBy w' v.ownBlock) (hz : ∀ g, v.ownBlock = some g → Z g) : Hold (news Z w w') w' D J := by
  have ho : Only (fun i => v.ownBlock = some i) w w' := Only.of_grown hg fun i hi => hi
  obtain ⟨X, h1, h2, h3, h4⟩ := h.is
  refine ⟨⟨X, h1.kept fun i hi hx => ho.block i hi fun hs => h3 i (hz i hs) hx, fun i hi => Nat.lt_of_lt_of_le (h2 i hi) ho.size, fun i hi hx => ?_, h4⟩, fun i hi => ?_, fun j n hj => ⟨(ho.block j (lt_of_block (h.j j n hj).1) fun hs => (h.j j n hj).2 (hz j hs)).trans (h.j j n hj).1, fun hh => ?_⟩⟩
  · rcases hi with hi | ⟨h5, _⟩
    · exact h3 i hi hx
    · have := h2 i hx; omega
  · rcases hi with hi | ⟨_, h5⟩
    · exact Nat.lt_of_lt_of_le (h.z i hi) ho.size
    · exact h5
  · rcases hh with hh | ⟨h5, _⟩
    · exact (h.j j n hj).2 hh
    · have := lt_of_block (h.j j n hj).1; omega
theorem flat_take {LL : List (List (List UInt8))} {i : Nat} (hi : i < LL.length) : (LL.take (i + 1)).flatten = (LL.take i).flatten ++ LL[i] := by
  rw [List.take_succ_eq_append_getElem hi, List.flatten_append]
  simp
theorem mem_take_rows {LL : List (List (List UInt8))} (h : ∀ L ∈ LL, RowOk L) (i : Nat) : ∀ L ∈ LL.take i, RowOk L := fun L hL => h L (List.mem_of_mem_take hL)
theorem take_cost {LL : List (List (List UInt8))} (h : GridOk LL) (i : Nat) : cost (LL.take i).flatten ≤ 64000 := by
  have h1 := rows_cost (mem_take_rows h.2 i)
  have h2 := h.1
  rw [List.length_take] at h1
  omega
theorem take_small {LL : List (List (List UInt8))} (h : GridOk LL) (i : Nat) : ∀ s ∈ (LL.take i).flatten, s.length ≤ 262144 := fun s hs => by
  have := rows_small (mem_take_rows h.2 i) s hs
  omega
theorem uv_len {first : Nat} (hf : first < 18446744073709551616) (S : List (List UInt8)) : (frames (Lib.uvarint first :: S)).length ≤ 30 + cost S := by
  have := Lib.uvarint_length64 hf
  rw [frames_len, cost]
  omega
theorem stt_crashR (room : Nat) (B : List UInt8) (Rs : List (List (List UInt8))) (h : Rs.length ≤ 1) (f : Fault) : ∃ k, k ≤ (frames Rs.flatten).length ∧ (stt room B Rs).crash f = stt room (B ++ (frames Rs.flatten).take k) [] := by
  match Rs, h with
  | [], _ => exact ⟨0, Nat.zero_le _, by rw [stt_crash0]; simp [frames]⟩
  | [R], _ =>
    obtain ⟨k, h1, h2, _⟩ := stt_crash1 room B R f
    exact ⟨k, by simpa using h1, by simpa using h2⟩

def more : List UInt8 := [109, 111, 114, 101]
theorem more_strs (w : World) : Strs (w.alloc (.cells #[.string ⟨#[109, 111, 114, 101]⟩] 9)) (.slice (some ⟨w.heap.size, 0, none⟩) 1 1) [more] := strs_new w more (by decide)
theorem more_strw (w : World) : Strw (w.alloc (.cells #[.string ⟨#[109, 111, 114, 101]⟩] 9)) (.slice (some ⟨w.heap.size, 0, none⟩) 1 1) [more] := ⟨more_strs w, fun n c h => by cases h⟩
theorem Strs.held {Z : Nat → Prop} {w w' : World} {v : Value} {L : List (List UInt8)} (h : Strs w v L) (ho : Only (Off Z) w w') (hz : ∀ A n c, v = .slice (some A) n c → L ≠ [] → Z A.block) : Strs w' v L := by
  obtain ⟨A, c, rfl, h2, h3, h4, h5⟩ := h
  refine ⟨A, c, rfl, h2, h3, ?_, h5⟩
  rcases h4 with h4 | ⟨b, o, rfl, hc⟩
  · exact .inl h4
  · exact .inr ⟨b, o, rfl, fun j hj => ho.cell (p := ⟨b, o + j, none⟩) (hc j hj) fun hn => hn (hz ⟨b, o, none⟩ _ _ rfl (fun e => by subst e; cases hj))⟩
theorem Strs.lt_ {w : World} {A : Addr} {n c : Nat} {L : List (List UInt8)} (h : Strs w (.slice (some A) n c) L) (hL : L ≠ []) : A.block < w.heap.size := by
  obtain ⟨A', c', e, h2, h3, h4, h5⟩ := h
  injection e with e1 e2 e3
  subst e1
  rcases h4 with h4 | ⟨b, o, hA, hc⟩
  · exact absurd (List.eq_nil_of_length_eq_zero h4) hL
  · cases hA
    have hp : 0 < L.length := List.length_pos_iff.2 hL
    exact cell_lt (a := ⟨b, o + 0, none⟩) (hc 0 hp)
theorem scanG {first : Nat} (hf : first < 18446744073709551616) {G : List (List UInt8)} (hG : ∀ s ∈ G, s.length ≤ 262144) : scan (frames (Lib.uvarint first :: G) ++ frames ([] : List (List (List UInt8))).flatten) = Lib.uvarint first :: G := by
  have h0 : frames (Lib.uvarint first :: G) ++ frames ([] : List (List (List UInt8))).flatten = frames (Lib.uvarint first :: G) := List.append_nil _
  have := (opens_same (room := 0) hf h0 hG).2
  rwa [stt_bytes] at this
theorem frames_more (first : Nat) (G : List (List UInt8)) : (frames (Lib.uvarint first :: G) ++ frames (([] : List (List (List UInt8))) ++ [[more]]).flatten) ++ frames ([] : List (List (List UInt8))).flatten = frames (Lib.uvarint first :: (G ++ [more])) := by
  have h0 : frames ([] : List (List (List UInt8))).flatten = [] := rfl
  have h1 : (([] : List (List (List UInt8))) ++ [[more]]).flatten = [more] := rfl
  rw [h0, h1, List.append_nil, ← frames_app, List.cons_append]
theorem more_len : (frames (([] : List (List (List UInt8))) ++ [[more]]).flatten).length = 24 := by
  have h1 : (([] : List (List (List UInt8))) ++ [[more]]).flatten = [more] := rfl
  rw [h1, frames_len]
  rfl
end Go.Proofs.YtphdmpplmdcnaaaGreat.gn
end
