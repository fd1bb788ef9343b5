/- The document's Do, whatever is asked. -/
import Derived.Test.YtdfiofjnijnodaaFjF0
import Derived.Test.YtdfiofjnijnodaaFjF1
import Derived.Test.YtdfiofjnijnodaaFjF2
import Derived.Test.YtdfiofjnijnodaaFjF3
import Derived.Test.YtdfiofjnijnodaaFjF4
set_option linter.unusedVariables false
namespace Go.Proofs.Ytdfiofjnijnodaa.gn
open Go.RowKit
open Go.Proofs.Ytdfiofjnijnodaa.fi

theorem ddo_any (w : World) (Y : Nat → Prop) (q K : Nat) (h : Doc w Y q K) (hK : K ≤ 300) (t : Int) (ht : 0 ≤ t ∧ t ≤ 4) (nm s : ByteArray) (hs : s.size ≤ 300) (n : Int) :
    Calls Try.prog 21 #[.pointer (some ⟨q, 0, none⟩), .agg #[.int .i64 t, .string nm, .string s, .int .i64 n]] w (DoR Y q K w) := by
  obtain ⟨vn, vs, vo, r, N, S, O, h⟩ := h
  cases hfit : fitB nm with
  | false => exact do_A w Y q K vn vs vo r N S O nm s n h hK hs t hfit
  | true =>
    have hc : t = 0 ∨ t = 1 ∨ t = 2 ∨ t = 3 ∨ t = 4 := by omega
    rcases hc with rfl | rfl | rfl | rfl | rfl
    · rcases atI_cases nm N with ha | ⟨k, ha, hk⟩
      · by_cases hf : 16 ≤ (N.length : Int)
        · exact do_0f w Y q K vn vs vo r N S O nm s n h hK hs hfit ha hf
        · exact do_0 w Y q K vn vs vo r N S O nm s n h hK hs hfit ha hf
      · exact do_0k w Y q K vn vs vo r N S O nm s n h hK hs hfit k ha hk
    · rcases atI_cases nm N with ha | ⟨k, ha, hk⟩
      · exact do_1n w Y q K vn vs vo r N S O nm s n h hK hs hfit ha
      · by_cases hx : leftZ r N < (s.size : Int)
        · exact do_1x w Y q K vn vs vo r N S O nm s n h hK hs hfit k ha hk hx
        · exact do_1 w Y q K vn vs vo r N S O nm s n h hK hs hfit k ha hk hx
    · by_cases hn : n < 0
      · exact do_B2 w Y q K vn vs vo r N S O nm s n h hK hs hfit hn
      · rcases atI_cases nm N with ha | ⟨k, ha, hk⟩
        · exact do_2n w Y q K vn vs vo r N S O nm s n h hK hs hfit hn ha
        · obtain ⟨f, hf⟩ : ∃ f, N[k]? = some f := ⟨N[k], List.getElem?_eq_getElem hk⟩
          by_cases hx : (f.2.1.size : Int) < n
          · exact do_2x w Y q K vn vs vo r N S O nm s n h hK hs hfit hn k ha hk f hf hx
          · exact do_2 w Y q K vn vs vo r N S O nm s n h hK hs hfit hn k ha hk f hf hx
    · cases hfit2 : fitB s with
      | false => exact do_B3 w Y q K vn vs vo r N S O nm s n h hK hs hfit hfit2
      | true =>
        rcases atI_cases nm N with ha | ⟨k, ha, hk⟩
        · exact do_3n w Y q K vn vs vo r N S O nm s n h hK hs hfit hfit2 ha
        · exact do_3 w Y q K vn vs vo r N S O nm s n h hK hs hfit hfit2 k ha hk
    · rcases atI_cases nm N with ha | ⟨k, ha, hk⟩
      · exact do_4n w Y q K vn vs vo r N S O nm s n h hK hs hfit ha
      · exact do_4 w Y q K vn vs vo r N S O nm s n h hK hs hfit k ha hk
end Go.Proofs.Ytdfiofjnijnodaa.gn
