/- JournalFails: the walk of the law. -/
import Derived.Test.YtphdmpplmdcnaaaMJoK
import Derived.Test.YtphdmpplmdcnaaaMGenAp
import Derived.Test.YtphdmpplmdcnaaaMJoPe
section
set_option linter.unusedVariables false
namespace Go.Proofs.Ytphdmpplmdcnaaa.gn
open Go.RowKit
open Go.Proofs.Ytphdmpplmdcnaaa.fi

theorem row_cost : ∀ {L : List (List UInt8)}, (∀ s ∈ L, s.length ≤ 300) → cost L ≤ 320 * L.length
  | [], _ => by simp [cost]
  | s :: L, h => by
    have h1 := h s (by simp)
    have h2 := row_cost (L := L) fun t ht => h t (by simp [ht])
    rw [cost, List.length_cons]
    omega
theorem rows_cost : ∀ {LL : List (List (List UInt8))}, (∀ L ∈ LL, RowOk L) → cost LL.flatten ≤ 3200 * LL.length
  | [], _ => by simp [cost]
  | L :: LL, h => by
    have h1 := h L (by simp)
    have h2 := row_cost h1.2
    have h3 := h1.1
    have h4 := rows_cost (LL := LL) fun t ht => h t (by simp [ht])
    rw [List.flatten_cons, cost_app, List.length_cons]
    omega
theorem rows_small {LL : List (List (List UInt8))} (h : ∀ L ∈ LL, RowOk L) : ∀ s ∈ LL.flatten, s.length ≤ 300 := fun s hs => by
  obtain ⟨L, hL, hs⟩ := List.mem_flatten.1 hs
  exact (h L hL).2 s hs
theorem Only.belowZ {Z : Nat → Prop} {a b : World} {B : Nat} (h : Only (Off Z) a b) (hz : ∀ i, i < B → Z i) (hB : B ≤ a.heap.size) : Below B a b := h.below (fun i hi => Nat.le_of_not_lt fun hl => hi (hz i hl)) hB
/-- A row of the call's own stays. -/
theorem Ss.held {Z : Nat → Prop} {w w' : World} {B : Nat} {v : Value} {L : List (List UInt8)} (h : Ss w B v L) (ho : Only (Off Z) w w') (hz : ∀ g, v.ownBlock = some g → Z g) : Ss w' B v L := by
  refine ⟨h.1, ?_⟩
  rcases h.2 with hn | ⟨g, cap, cur, rfl, hB, hg, rest⟩
  · exact .inl hn
  · exact .inr ⟨g, cap, cur, rfl, hB, ho.off hg (hz g rfl), rest⟩
/-- Behind a step on blocks that are held: those, and the new ones. -/
theorem Hold.rows {Z : Nat → Prop} {w w' : World} {D : Nat → Option FS} {J : Nat → Option Jn} (h : Hold Z w D J) {v : Value} (hg : w.grownBy w' v.ownBlock) (hz : ∀ g, v.ownBlock = some g → Z g) : Hold (news Z w w') w' D J := by
  have ho : Only (fun i => v.ownBlock = some i) w w' := Only.of_grown hg fun i hi => hi
  obtain ⟨X, h1, h2, h3, h4⟩ := h.is
  refine ⟨⟨X, h1.kept fun i hi hx => ho.block i hi fun hs => h3 i (hz i hs) hx, fun i hi => Nat.lt_of_lt_of_le (h2 i hi) ho.size, fun i hi hx => ?_, h4⟩, fun i hi => ?_, fun j n hj => ⟨(ho.block j (lt_of_block (h.j j n hj).1) fun hs => (h.j j n hj).2 (hz j hs)).trans (h.j j n hj).1, fun hh => ?_⟩⟩
  · rcases hi with hi | ⟨h5, _⟩
    · exact h3 i hi hx
    · have := h2 i hx; omega
  · rcases hi with hi | ⟨_, h5⟩
    · exact Nat.lt_of_lt_of_le (h.z i hi) ho.size
    · exact h5
  · rcases hh with hh | ⟨h5, _⟩
    · exact (h.j j n hj).2 hh
    · have := lt_of_block (h.j j n hj).1; omega
theorem flat_take {LL : List (List (List UInt8))} {i : Nat} (hi : i < LL.length) : (LL.take (i + 1)).flatten = (LL.take i).flatten ++ LL[i] := by
  rw [List.take_succ_eq_append_getElem hi, List.flatten_append]
  simp
theorem mem_take_rows {LL : List (List (List UInt8))} (h : ∀ L ∈ LL, RowOk L) (i : Nat) : ∀ L ∈ LL.take i, RowOk L := fun L hL => h L (List.mem_of_mem_take hL)
theorem take_cost {LL : List (List (List UInt8))} (h : GridOk LL) (i : Nat) : cost (LL.take i).flatten ≤ 64000 := by
  have h1 := rows_cost (mem_take_rows h.2 i)
  have h2 := h.1
  rw [List.length_take] at h1
  omega
theorem take_small {LL : List (List (List UInt8))} (h : GridOk LL) (i : Nat) : ∀ s ∈ (LL.take i).flatten, s.length ≤ 262144 := fun s hs => by
  have := rows_small (mem_take_rows h.2 i) s hs
  omega
theorem uv_len {first : Nat} (hf : first < 18446744073709551616) (S : List (List UInt8)) : (frames (Lib.uvarint first :: S)).length ≤ 30 + cost S := by
  have := Lib.uvarint_length64 hf
  rw [frames_len, cost]
  omega
theorem stt_crashR (room : Nat) (B : List UInt8) (Rs : List (List (List UInt8))) (h : Rs.length ≤ 1) (f : Fault) : ∃ k, k ≤ (frames Rs.flatten).length ∧ (stt room B Rs).crash f = stt room (B ++ (frames Rs.flatten).take k) [] := by
  match Rs, h with
  | [], _ => exact ⟨0, Nat.zero_le _, by rw [stt_crash0]; simp [frames]⟩
  | [R], _ =>
    obtain ⟨k, h1, h2, _⟩ := stt_crash1 room B R f
    exact ⟨k, by simpa using h1, by simpa using h2⟩

/-- JournalFails between two rounds: S is forced, Rs is not; what is held. -/
def FaI (u : World) (first : Nat) (LL : List (List (List UInt8))) (d j i : Nat) (va vs : Value) (wr : World) : Prop :=
  ∃ Al S Rs Zr D J next, (Al : List (List UInt8)) = S ++ (Rs : List (List (List UInt8))).flatten ∧ vs = .int .i64 ((S : List (List UInt8)).length : Int) ∧ (LL.take i).flatten = Al ∧ Rs.length ≤ 1 ∧ (i % 2 = 1 → Rs = []) ∧ Ss wr u.heap.size va Al ∧ (∀ g, va.ownBlock = some g → Zr g) ∧
    (∀ k, k < u.heap.size → Zr k) ∧ Hold Zr wr D J ∧ D d = some (stt 200000 (frames (Lib.uvarint first :: S)) Rs) ∧ J j = some ⟨d, log, first, next⟩ ∧ next < 18446744073709551616 ∧ Below u.heap.size u wr

def more : List UInt8 := [109, 111, 114, 101]
theorem more_strs (w : World) : Strs (w.alloc (.cells #[.string ⟨#[109, 111, 114, 101]⟩] 9)) (.slice (some ⟨w.heap.size, 0, none⟩) 1 1) [more] := strs_new w more (by decide)
theorem more_strw (w : World) : Strw (w.alloc (.cells #[.string ⟨#[109, 111, 114, 101]⟩] 9)) (.slice (some ⟨w.heap.size, 0, none⟩) 1 1) [more] := ⟨more_strs w, fun n c h => by cases h⟩
theorem Strs.held {Z : Nat → Prop} {w w' : World} {v : Value} {L : List (List UInt8)} (h : Strs w v L) (ho : Only (Off Z) w w') (hz : ∀ A n c, v = .slice (some A) n c → L ≠ [] → Z A.block) : Strs w' v L := by
  obtain ⟨A, c, rfl, h2, h3, h4, h5⟩ := h
  refine ⟨A, c, rfl, h2, h3, ?_, h5⟩
  rcases h4 with h4 | ⟨b, o, rfl, hc⟩
  · exact .inl h4
  · exact .inr ⟨b, o, rfl, fun j hj => ho.cell (p := ⟨b, o + j, none⟩) (hc j hj) fun hn => hn (hz ⟨b, o, none⟩ _ _ rfl (fun e => by subst e; cases hj))⟩
theorem Strs.lt_ {w : World} {A : Addr} {n c : Nat} {L : List (List UInt8)} (h : Strs w (.slice (some A) n c) L) (hL : L ≠ []) : A.block < w.heap.size := by
  obtain ⟨A', c', e, h2, h3, h4, h5⟩ := h
  injection e with e1 e2 e3
  subst e1
  rcases h4 with h4 | ⟨b, o, hA, hc⟩
  · exact absurd (List.eq_nil_of_length_eq_zero h4) hL
  · cases hA
    have hp : 0 < L.length := List.length_pos_iff.2 hL
    exact cell_lt (a := ⟨b, o + 0, none⟩) (hc 0 hp)
theorem scanG {first : Nat} (hf : first < 18446744073709551616) {G : List (List UInt8)} (hG : ∀ s ∈ G, s.length ≤ 262144) : scan (frames (Lib.uvarint first :: G) ++ frames ([] : List (List (List UInt8))).flatten) = Lib.uvarint first :: G := by
  have h0 : frames (Lib.uvarint first :: G) ++ frames ([] : List (List (List UInt8))).flatten = frames (Lib.uvarint first :: G) := List.append_nil _
  have := (opens_same (room := 0) hf h0 hG).2
  rwa [stt_bytes] at this
theorem frames_more (first : Nat) (G : List (List UInt8)) : (frames (Lib.uvarint first :: G) ++ frames (([] : List (List (List UInt8))) ++ [[more]]).flatten) ++ frames ([] : List (List (List UInt8))).flatten = frames (Lib.uvarint first :: (G ++ [more])) := by
  have h0 : frames ([] : List (List (List UInt8))).flatten = [] := rfl
  have h1 : (([] : List (List (List UInt8))) ++ [[more]]).flatten = [more] := rfl
  rw [h0, h1, List.append_nil, ← frames_app, List.cons_append]
theorem more_len : (frames (([] : List (List (List UInt8))) ++ [[more]]).flatten).length = 24 := by
  have h1 : (([] : List (List (List UInt8))) ++ [[more]]).flatten = [more] := rfl
  rw [h1, frames_len]
  rfl

set_option maxRecDepth 100000
set_option maxHeartbeats 4000000
theorem fails_short (w : World) (first : Nat) (v : Value) (LL : List (List (List UInt8))) (hg : Grid w v LL) (hno : ¬ GridOk LL) (f : Fault) :
    Calls Try.prog 3 #[.int .u64 (first : Int), v, .agg #[.int .i64 f.keep, .int .u64 (f.lose : Int), .int .i64 f.cut]] w fun e w' => e = .returned (.bool true) ∧ Below w.heap.size w w' := by
  have hb : Below w.heap.size w (w.alloc (.cells #[.int .i64 f.keep, .int .u64 (f.lose : Int), .int .i64 f.cut] 25)) := (Below.refl _ w).alloc (Nat.le_refl _) _
  have HG := Lib.hid (great_any v LL _ (hg.below hb))
  obtain ⟨A, c, rfl, _⟩ := hg
  have HB := Lib.hid hb
  have HN := Lib.hid hno
  clear hb hno
  go_enter Try.func3, Try.ntmps3
  go_wp2_with fail
  refine HG.out.mono ?_
  rintro e w1 ⟨⟨rfl, hk⟩ | ⟨rfl, _⟩, rfl⟩
  · exact absurd hk HN.out
  · go_wp2_with fail
    refine (head_any _).mono ?_
    rintro e w2 ⟨rfl, hb2⟩
    have HB2 := Lib.hid (HB.out.trans (hb2.mono HB.out.size))
    clear hb2
    go_wp2
    go_ret
    exact ⟨rfl, HB2.out⟩

theorem fails_long (w : World) (first : Nat) (hf : first < 18446744073709551616) (v : Value) (LL : List (List (List UInt8))) (hg : Grid w v LL) (hok : GridOk LL) (f : Fault) (hfl : f.lose < 18446744073709551616) :
    Calls Try.prog 3 #[.int .u64 (first : Int), v, .agg #[.int .i64 f.keep, .int .u64 (f.lose : Int), .int .i64 f.cut]] w fun e w' => e = .returned (.bool true) ∧ Below w.heap.size w w' := by
  obtain ⟨u, hu⟩ : ∃ u, w.alloc (.cells #[.int .i64 f.keep, .int .u64 (f.lose : Int), .int .i64 f.cut] 25) = u := ⟨_, rfl⟩
  have hb0 : Below w.heap.size w u := by rw [← hu]; exact (Below.refl _ w).alloc (Nat.le_refl _) _
  have hz0 : u.heap.size = w.heap.size + 1 := by rw [← hu]; simp
  have hfb : u.heap[w.heap.size]? = some (.cells #[.int .i64 f.keep, .int .u64 (f.lose : Int), .int .i64 f.cut] 25 (0, 0)) := by rw [← hu]; exact heap_alloc_new w _
  have hgu := hg.below hb0
  have HG := Lib.hid (great_any v LL u hgu)
  obtain ⟨A, c, rfl, hlc, hcm, _⟩ := id hgu
  have HGU := Lib.hid hgu
  have HFB := Lib.hid hfb
  have HB0 := Lib.hid hb0
  have HZ0 := Lib.hid hz0
  have HOK := Lib.hid hok
  have h20 := hok.1
  have hjl := jhd_len hf
  obtain ⟨Z, hZ⟩ : ∃ Z : Nat → Prop, Z = fun i => i < u.heap.size := ⟨_, rfl⟩
  have H0 := Lib.hid (Hold.none_ u Z fun i hi => by subst hZ; exact hi)
  have hZ' : ∀ i, i < u.heap.size → Z i := fun i hi => by subst hZ; exact hi
  have HZ := Lib.hid hZ'
  clear hgu hg hfb hb0 hok hZ' hZ hz0
  unfold maxLen at hcm
  go_enter Try.func3, Try.ntmps3
  go_wp2_with fail
  refine HG.out.mono ?_
  rintro e wx ⟨⟨rfl, _⟩ | ⟨rfl, hk⟩, rfl⟩
  case inr => exact absurd HOK.out hk
  go_wp2_with fail
  refine (lnew H0.out 200000 (by decide) rfl).mono ?_
  rintro e w1 ⟨d, D1, rfl, g, h, a, x, b⟩
  have H1 := Lib.hid h
  have A1 := Lib.hid a
  have B1 := Lib.hid b
  clear g h a x b
  go_wp2_with fail
  refine (lstart_yes H1.out A1.out hf (by omega) rfl).mono ?_
  rintro e w2 ⟨j, D2, J2, rfl, g, h, a, x, q, y, b⟩
  have H2 := Lib.hid h
  have A2 := Lib.hid a
  have Q2 := Lib.hid q
  have B2 := Lib.hid (B1.out.trans (b.belowZ HZ.out B1.out.size))
  clear g h a x q y b
  go_wp2
  go_loopw [12, 10, 11] (fun v12 v10 v11 wr => ∃ i : Nat, i ≤ LL.length ∧ v12 = .int .i64 (i : Int) ∧ FaI u first LL d j i v10 v11 wr) (fun v12 _ _ _ => LL.length - (intOf v12).toNat)
  case atStart =>
    exact ⟨0, Nat.zero_le _, rfl, [], [], [], Z, D2, J2, first, rfl, rfl, rfl, by decide, fun _ => rfl, Ss_nil _ _, fun _ hg => (by cases hg), HZ.out, H2.out, A2.out, Q2.out, hf, B2.out⟩
  case round =>
    obtain ⟨i, hi, rfl, Al, S, Rs, Zr, D, J, next, hAl, rfl, hflat, hrs, hodd, hss, hown, hzr, hh, hd, hj, hnx, hbw⟩ := hrel
    obtain ⟨vA, vc, rfl, _, hvc, hvm⟩ := hss.form
    have FL := Lib.hid hflat
    have HAl := Lib.hid hAl
    have HH := Lib.hid hh
    have HD := Lib.hid hd
    have HJ := Lib.hid hj
    have HS := Lib.hid hss
    have HW := Lib.hid hown
    have HZr := Lib.hid hzr
    have HB := Lib.hid hbw
    have HOd := Lib.hid hodd
    have htc := take_cost HOK.out i
    rw [hflat, hAl, cost_app] at htc
    have hul := uv_len hf S
    have hwt : Hid ((stt 200000 (frames (Lib.uvarint first :: S)) Rs).wt ≤ 274877906944) := Lib.hid (by
      rw [stt_wt, frames_len Rs.flatten]
      omega)
    clear hflat hh hd hj hss hown hzr hbw hodd hAl
    by_cases hlt : i < LL.length
    · have hrow := HOK.out.2 _ (List.getElem_mem hlt)
      have FT := Lib.hid (flat_take hlt)
      have htc2 := take_cost HOK.out (i + 1)
      rw [FT.out, FL.out, HAl.out, cost_app, cost_app] at htc2
      obtain ⟨b, o, uv, hA, hbu, hall⟩ : ∃ b o uv, A = some ⟨b, o, none⟩ ∧ b < u.heap.size ∧ ∀ w', Below u.heap.size u w' → w'.cell? ⟨b, o + i, none⟩ = some uv ∧ Strw w' uv LL[i] := by
        obtain ⟨A', c', e, _, _, hc⟩ := HGU.out
        injection e with e1 e2 e3
        subst e1
        rcases hc with hc | ⟨b, o, hA, hc⟩
        · omega
        · obtain ⟨uv, h1, h2⟩ := hc i hlt
          exact ⟨b, o, uv, hA, cell_lt (a := ⟨b, o + i, none⟩) h1, fun w' hb => ⟨(hb.cell (p := ⟨b, o + i, none⟩) (cell_lt (a := ⟨b, o + i, none⟩) h1)).trans h1, h2.1.below hb, h2.2⟩⟩
      subst hA
      have hlrow := row_cost hrow.2
      have h10 := hrow.1
      have HRW : Hid (∀ s ∈ LL[i], s.length ≤ 262144) := Lib.hid fun s hs => by have := hrow.2 s hs; omega
      clear hrow
      generalize LL[i] = R at *
      have HALL := Lib.hid hall
      obtain ⟨hcl, hst⟩ := HALL.out wr HB.out
      obtain ⟨rA, rc, rfl, _⟩ := id hst.1
      have HST := Lib.hid hst
      clear hst hall
      have hfit : (frames (Lib.uvarint first :: S) ++ frames (Rs ++ [R]).flatten).length ≤ 200000 := by
        rw [List.length_append, frames_len (Rs ++ [R]).flatten, List.flatten_append, cost_app]
        simp only [List.flatten_cons, List.flatten_nil, List.append_nil]
        omega
      have HF := Lib.hid hfit
      clear hfit
      go_wp2_with fail
      refine (lappend_yes HH.out HD.out HJ.out hwt.out hnx HST.out.1 HRW.out (by omega) HF.out).mono ?_
      rintro e w3 ⟨D3, J3, rfl, h, a, x, q, y, bo⟩
      have H3 := Lib.hid h
      have A3 := Lib.hid a
      have Q3 := Lib.hid q
      have S3 := Lib.hid (HS.out.held bo HW.out)
      have B3 := Lib.hid (HB.out.trans (bo.belowZ HZr.out HB.out.size))
      obtain ⟨hcl3, hst4⟩ := HALL.out w3 B3.out
      have HS4 := Lib.hid hst4
      clear h a x q y bo hcl hst4
      go_wp2_with (at_builtin; go_loud (refine wpList_append_strs rfl _ _ rfl u.heap.size _ _ Al R rfl S3.out rfl HS4.out ?c1 ?c2 ?_))
      case c1 => have h5 := cost_len S; have h6 := cost_len Rs.flatten; have h7 := cost_len R; rw [HAl.out, List.length_append]; omega
      case c2 => exact B3.out.size
      rintro A5 c5 n5 w5 hn5 hs5 hg5 hat
      have S5 := Lib.hid hs5
      have HN5 := Lib.hid hn5
      clear hn5
      have H5 := Lib.hid (H3.out.rows hg5 HW.out)
      have B5 := Lib.hid (B3.out.grown hg5 B3.out.size fun k hk => by
        rcases S3.out.2 with ⟨e, _⟩ | ⟨g, cap, cur, e, hBg, _⟩
        · rw [e] at hk; cases hk
        · rw [e] at hk; cases hk; exact hBg)
      have Z5 : Hid (∀ g, (Value.slice A5 n5 c5).ownBlock = some g → news Zr w3 w5 g) := Lib.hid fun g hgg => by
        rcases hat g (by cases A5 with | none => cases hgg | some a => exact hgg) with h | h
        · exact .inl (HW.out g h)
        · exact .inr h
      have ZL : Hid (∀ k, k < u.heap.size → news Zr w3 w5 k) := Lib.hid fun k hk => .inl (HZr.out k hk)
      have HAl2 : Hid (Al ++ R = S ++ (Rs ++ [R]).flatten) := Lib.hid (by rw [HAl.out, List.flatten_append, List.append_assoc]; simp)
      have FL2 : Hid ((LL.take (i + 1)).flatten = Al ++ R) := Lib.hid (by rw [FT.out, FL.out])
      have hnn : (next + R.length) % 18446744073709551616 < 18446744073709551616 := Nat.mod_lt _ (by decide)
      clear hs5 hg5 hat
      rcases Nat.mod_two_eq_zero_or_one i with hm | hm
      · have hmi : (i : Int) % 2 = 0 := by omega
        have HL5 : Hid (n5 = (S ++ (Rs ++ [R]).flatten).length) := Lib.hid (by rw [← HAl2.out, List.length_append]; exact HN5.out)
        have hwt2 : Hid ((stt 200000 (frames (Lib.uvarint first :: S)) (Rs ++ [R])).wt ≤ 274877906944) := Lib.hid (by
          have := HF.out
          rw [List.length_append] at this
          rw [stt_wt, List.length_append]
          simp only [List.length_cons, List.length_nil]
          omega)
        go_wp2_with fail
        refine (lforce H5.out A3.out Q3.out hwt2.out).mono ?_
        rintro e w6 ⟨D6, rfl, h, a, x, bo⟩
        have H6 := Lib.hid h
        have A6 := Lib.hid a
        have S6 := Lib.hid (S5.out.held bo Z5.out)
        have B6 := Lib.hid (B5.out.trans (bo.belowZ ZL.out B5.out.size))
        clear h a x bo
        go_wp2
        go_roundw
        case rel =>
          refine ⟨i + 1, by omega, by go_num, Al ++ R, S ++ (Rs ++ [R]).flatten, [], news Zr w3 w5, D6, J3, _, by rw [HAl2.out]; simp, by rw [HL5.out], FL2.out, by decide, fun _ => rfl, S6.out, Z5.out, ZL.out, H6.out, ?_, Q3.out, hnn, B6.out⟩
          rw [← List.cons_append, frames_app]
          exact A6.out
        case measure => simp [intOf]; omega
      · have hmi : (i : Int) % 2 = 1 := by omega
        have hRs : Rs = [] := HOd.out hm
        subst hRs
        go_wp2
        go_roundw
        case rel =>
          exact ⟨i + 1, by omega, by go_num, Al ++ R, S, [] ++ [R], news Zr w3 w5, D3, J3, _, HAl2.out, rfl, FL2.out, by simp, fun h => by omega, S5.out, Z5.out, ZL.out, H5.out, A3.out, Q3.out, hnn, B5.out⟩
        case measure => simp [intOf]; omega
    · have hil : i = LL.length := by omega
      subst hil
      have htk : LL.take LL.length = LL := List.take_length
      have FLL := Lib.hid FL.out
      have hsm : Hid (∀ s ∈ Al, s.length ≤ 262144) := Lib.hid (by rw [← FL.out]; exact take_small HOK.out _)
      have hfk : wr.heap[w.heap.size]? = _ := (HB.out.block w.heap.size (by rw [HZ0.out]; omega)).trans HFB.out
      have f0 : wr.cell? ⟨w.heap.size, 0, none⟩ = some (.int .i64 f.keep) := by rw [cell_of_row _ _ 0 _ _ _ hfk]; rfl
      have f1 : wr.cell? ⟨w.heap.size, 1, none⟩ = some (.int .u64 (f.lose : Int)) := by rw [cell_of_row _ _ 1 _ _ _ hfk]; rfl
      have f2 : wr.cell? ⟨w.heap.size, 2, none⟩ = some (.int .i64 f.cut) := by rw [cell_of_row _ _ 2 _ _ _ hfk]; rfl
      obtain ⟨k, hk, hcr⟩ := stt_crashR 200000 (frames (Lib.uvarint first :: S)) Rs hrs f
      have hS2 : ∀ s ∈ S, s.length ≤ 262144 := fun s hs => hsm.out s (by rw [HAl.out]; exact List.mem_append_left _ hs)
      have hR2 : ∀ s ∈ Rs.flatten, s.length ≤ 262144 := fun s hs => hsm.out s (by rw [HAl.out]; exact List.mem_append_right _ hs)
      obtain ⟨m, hm, hsc, _⟩ := scan_part hf S Rs.flatten hS2 hR2 k hk
      obtain ⟨G, hG⟩ : ∃ G, S ++ Rs.flatten.take m = G := ⟨_, rfl⟩
      rw [hG] at hsc
      have hGl : G.length = S.length + m := by rw [← hG, List.length_append, List.length_take]; omega
      have hAll : Al.length = S.length + Rs.flatten.length := by rw [HAl.out, List.length_append]
      have hGt : Al.take G.length = G := by
        rw [HAl.out, hGl, List.take_length_add_append, hG]
      have hGs : ∀ s ∈ G, s.length ≤ 262144 := fun s hs => hsm.out s (by rw [← hGt] at hs; exact List.mem_of_mem_take hs)
      have hGc : cost G ≤ 64000 := by
        have h1 := cost_app (Al.take G.length) (Al.drop G.length)
        rw [List.take_append_drop, hGt] at h1
        have h2 := take_cost HOK.out LL.length
        rw [FL.out] at h2
        omega
      have hkl := frames_len Rs.flatten
      have HCR := Lib.hid hcr
      have HSC := Lib.hid hsc
      have HGT := Lib.hid hGt
      have HGS := Lib.hid hGs
      have hwt6 : Hid ((stt 200000 (frames (Lib.uvarint first :: S) ++ (frames Rs.flatten).take k) []).wt ≤ 274877906944) := Lib.hid (by
        have h0 : (frames ([] : List (List (List UInt8))).flatten).length = 0 := rfl
        have h9 := take_cost HOK.out LL.length
        rw [FL.out, HAl.out, cost_app] at h9
        rw [stt_wt, List.length_append, List.length_take, h0]
        simp only [List.length_nil]
        omega)
      have hle1 : S.length ≤ G.length := by omega
      have hle2 : G.length ≤ Al.length := by omega
      have hcl := cost_len G
      clear hfk hcr hsc hG hGt hGs hS2 hR2 hGl hAll hkl htk
      have hulG := uv_len hf G
      have h24 := more_len
      have hwt7 : Hid ((stt 200000 (frames (Lib.uvarint first :: G)) []).wt ≤ 274877906944) := Lib.hid (by
        have h0 : (frames ([] : List (List (List UInt8))).flatten).length = 0 := rfl
        rw [stt_wt, h0]
        simp only [List.length_nil]
        omega)
      have hfit7 : Hid ((frames (Lib.uvarint first :: G) ++ frames ([] ++ [[more]]).flatten).length ≤ 200000) := Lib.hid (by rw [List.length_append, h24]; omega)
      have hwt12 : Hid ((stt 200000 (frames (Lib.uvarint first :: G)) ([] ++ [[more]])).wt ≤ 274877906944) := Lib.hid (by
        rw [stt_wt, h24]
        simp only [List.nil_append, List.length_cons, List.length_nil]
        omega)
      have hwt13 : Hid ((stt 200000 (frames (Lib.uvarint first :: G) ++ frames ([] ++ [[more]]).flatten) []).wt ≤ 274877906944) := Lib.hid (by
        have h0 : (frames ([] : List (List (List UInt8))).flatten).length = 0 := rfl
        rw [stt_wt, List.length_append, h24, h0]
        simp only [List.length_nil]
        omega)
      have hsm13 : Hid (∀ s ∈ G ++ [more], s.length ≤ 262144) := Lib.hid fun s hs => by
        rcases List.mem_append.1 hs with hs | hs
        · exact HGS.out s hs
        · simp at hs; subst hs; decide
      have hsc13 : Hid (scan ((frames (Lib.uvarint first :: G) ++ frames ([] ++ [[more]]).flatten) ++ frames ([] : List (List (List UInt8))).flatten) = Lib.uvarint first :: (G ++ [more])) := Lib.hid (by
        have := (opens_same (room := 0) hf (frames_more first G) hsm13.out).2
        rwa [stt_bytes] at this)
      have hnn : (first + G.length) % 18446744073709551616 < 18446744073709551616 := Nat.mod_lt _ (by decide)
      have hf13 := frames_more first G
      obtain ⟨G2, hG2⟩ : ∃ G2, G ++ [more] = G2 := ⟨_, rfl⟩
      rw [hG2] at hf13 hsm13 hsc13
      have HF13 := Lib.hid hf13
      have HG2 := Lib.hid hG2
      clear hf13 hG2
      clear hulG h24 hul htc hrs
      go_wp2_with fail
      refine (lcrash HH.out HD.out hwt.out f hfl rfl rfl rfl HCR.out).mono ?_
      rintro e w6 ⟨D6, rfl, h, a, x, bo⟩
      have H6 := Lib.hid h
      have A6 := Lib.hid a
      have S6 := Lib.hid (HS.out.held bo HW.out)
      have B6 := Lib.hid (HB.out.trans (bo.belowZ HZr.out HB.out.size))
      clear h a x bo f0 f1 f2
      go_wp2_with fail
      refine (lopen_cut H6.out A6.out hwt6.out hf HSC.out).mono ?_
      rintro e w7 ⟨k7, D7, J7, rfl, g, h, a, x, q, y, bo⟩
      have H7 := Lib.hid h
      have A7 := Lib.hid a
      have Q7 := Lib.hid q
      have S7 := Lib.hid (S6.out.held bo HW.out)
      have B7 := Lib.hid (B6.out.trans (bo.belowZ HZr.out B6.out.size))
      clear g h a x q y bo
      go_wp2_with fail
      refine (lpending H7.out A7.out).mono ?_
      rintro e w8 ⟨rfl, b8⟩
      have H8 := Lib.hid (H7.out.below b8)
      have S8 := Lib.hid (S7.out.kept b8)
      have B8 := Lib.hid (B7.out.trans (b8.mono B7.out.size))
      clear b8
      go_wp2_with fail
      refine (lentries H8.out A7.out Q7.out hwt7.out (scanG hf HGS.out)).mono ?_
      rintro e w9 ⟨v9, rfl, s9, fr9, b9⟩
      obtain ⟨A9, c9, rfl, hl9, hm9, _⟩ := id s9
      have H9 := Lib.hid (H8.out.grow b9)
      have B9 := Lib.hid (B8.out.trans (b9.mono B8.out.size))
      have hGne : ∀ A n c, Value.slice A9 G.length c9 = .slice (some A) n c → G ≠ [] → news Zr w8 w9 A.block := fun A n c e hne => by
        cases e
        exact .inr ⟨fr9.1 _ _ _ rfl, s9.lt_ hne⟩
      have HGne := Lib.hid hGne
      have AL9 := Lib.hid ((S8.out.kept b9).strs fun s hs => by have := hsm.out s hs; unfold maxLen; omega)
      have AT9 : Hid (Strs w9 (.slice vA G.length vc) G) := Lib.hid (by
        have := AL9.out.take G.length hle2
        rwa [HGT.out] at this)
      have ZN : Hid (∀ k, k < u.heap.size → news Zr w8 w9 k) := Lib.hid fun k hk => .inl (HZr.out k hk)
      have FN : Hid (∀ n c, Value.slice A9 G.length c9 = .slice none n c → n = 0 ∧ c = 0) := Lib.hid fr9.2
      have G9 := Lib.hid s9
      clear b9 s9 hGne fr9
      go_wp2_with fail
      refine (same_yes _ _ G _ G9.out AT9.out).mono ?_
      rintro e w10 ⟨rfl, b10⟩
      have H10 := Lib.hid (H9.out.below b10)
      have G10 := Lib.hid (G9.out.below b10)
      have B10 := Lib.hid (B9.out.trans (b10.mono B9.out.size))
      clear b10
      go_wp2_with fail
      refine (first_any' H10.out Q7.out).mono ?_
      rintro e wy ⟨rfl, rfl⟩
      have bal : Below w10.heap.size w10 (w10.alloc (.cells #[.string ⟨#[109, 111, 114, 101]⟩] 9)) := (Below.refl _ _).alloc (Nat.le_refl _) _
      have H11 := Lib.hid (H10.out.below bal)
      have G11 := Lib.hid (G10.out.below bal)
      have B11 := Lib.hid (B10.out.trans (bal.mono B10.out.size))
      have M11 := Lib.hid (more_strs w10)
      clear bal
      go_wp2_with fail
      refine (lappend_yes H11.out A7.out Q7.out hwt7.out hnn M11.out (by decide) (by decide) hfit7.out).mono ?_
      rintro e w12 ⟨D12, J12, rfl, h, a, x, q, y, bo⟩
      have H12 := Lib.hid h
      have A12 := Lib.hid a
      have Q12 := Lib.hid q
      have G12 := Lib.hid (G11.out.held bo HGne.out)
      have B12 := Lib.hid (B11.out.trans (bo.belowZ ZN.out B11.out.size))
      clear h a x q y bo
      go_wp2_with fail
      refine (lforce H12.out A12.out Q12.out hwt12.out).mono ?_
      rintro e w13 ⟨D13, rfl, h, a, x, bo⟩
      have H13 := Lib.hid h
      have A13 := Lib.hid a
      have G13 := Lib.hid (G12.out.held bo HGne.out)
      have B13 := Lib.hid (B12.out.trans (bo.belowZ ZN.out B12.out.size))
      clear h a x bo
      go_wp2_with fail
      refine (lopen_same H13.out A13.out hwt13.out hf HF13.out hsm13.out).mono ?_
      rintro e w14 ⟨k14, D14, J14, rfl, g, h, a, x, q, y, bo⟩
      have H14 := Lib.hid h
      have A14 := Lib.hid a
      have Q14 := Lib.hid q
      have G14 := Lib.hid (G13.out.held bo HGne.out)
      have B14 := Lib.hid (B13.out.trans (bo.belowZ ZN.out B13.out.size))
      clear g h a x q y bo
      go_wp2_with fail
      refine (lentries H14.out A14.out Q14.out hwt13.out hsc13.out).mono ?_
      rintro e w15 ⟨v15, rfl, s15, _, b15⟩
      obtain ⟨A15, c15, rfl, _⟩ := id s15
      have bal : Below w15.heap.size w15 (w15.alloc (.cells #[] 9)) := (Below.refl _ _).alloc (Nat.le_refl _) _
      have G15 : Hid (Strw (w15.alloc (.cells #[] 9)) (.slice A9 G.length c9) G) := Lib.hid ⟨(G14.out.below b15).below bal, FN.out⟩
      have B15 := Lib.hid (B14.out.trans (b15.mono B14.out.size))
      have S15 := Lib.hid s15
      have M15 := Lib.hid (ss_made w15 w15.heap.size (Nat.le_refl _))
      have hzz : (w15.alloc (.cells #[] 9)).heap.size = w15.heap.size + 1 := by simp
      have HZZ := Lib.hid hzz
      have BAL := Lib.hid bal
      clear s15 b15 bal hzz
      go_wp2_with (at_builtin; refine wpList_append_strs' (by first | rfl | simp [Region.wanted, yielded]) _ _ rfl w15.heap.size _ _ [] G rfl M15.out rfl G15.out ?c1 ?c2 ?_)
      case c1 => simp only [List.length_nil]; omega
      case c2 => rw [HZZ.out]; omega
      rintro A16 c16 n16 w16 hn16 s16 g16 _
      have B16 := Lib.hid (BAL.out.grown g16 (by rw [HZZ.out]; omega) fun k hk => by cases hk; exact Nat.le_refl _)
      have S16 : Hid (Ss w16 w15.heap.size (.slice A16 n16 c16) G) := Lib.hid s16
      have HN16 := Lib.hid hn16
      have bal : Below w15.heap.size w15 (w16.alloc (.cells #[.string ⟨#[109, 111, 114, 101]⟩] 9)) := B16.out.alloc B16.out.size _
      have BAL2 := Lib.hid bal
      have M16 := Lib.hid (more_strw w16)
      have S16a : Hid (Ss (w16.alloc (.cells #[.string ⟨#[109, 111, 114, 101]⟩] 9)) w15.heap.size (.slice A16 n16 c16) G) := Lib.hid (World.ownsRow.alloc S16.out _)
      clear s16 g16 bal hn16
      go_wp2_with (at_builtin; refine wpList_append_strs' (by first | rfl | simp [Region.wanted, yielded]) _ _ rfl w15.heap.size _ _ G [more] rfl S16a.out rfl M16.out ?c3 ?c4 ?_)
      case c3 => simp only [List.length_cons, List.length_nil]; omega
      case c4 => exact BAL2.out.size
      rintro A17 c17 n17 w17 hn17 s17 g17 _
      have B17 := Lib.hid (BAL2.out.grown g17 BAL2.out.size fun k hk => by
        rcases S16.out.2 with ⟨e, _⟩ | ⟨g, cap, cur, e, hBg, _⟩
        · rw [e] at hk; cases hk
        · rw [e] at hk; cases hk; exact hBg)
      have s17' : Ss w17 w15.heap.size (.slice A17 n17 c17) G2 := by rw [← HG2.out]; exact s17
      have T17 := Lib.hid (s17'.strs fun s hs => by have := hsm13.out s hs; unfold maxLen; omega)
      have HN17 := Lib.hid hn17
      have V17 := Lib.hid (S15.out.below B17.out)
      clear s17 s17' g17 hn17
      go_wp2_with fail
      refine (same_yes _ _ G2 _ V17.out T17.out).mono ?_
      rintro e w18 ⟨rfl, b18⟩
      have B18 := Lib.hid (B15.out.trans ((B17.out.trans (b18.mono B17.out.size)).mono B15.out.size))
      clear b18
      go_wp2_with fail
      refine (head_any _).mono ?_
      rintro e w19 ⟨rfl, b19⟩
      have B19 := Lib.hid (HB0.out.trans ((B18.out.trans (b19.mono B18.out.size)).mono (by rw [HZ0.out]; omega)))
      clear b19
      go_wp2
      go_ret
      exact ⟨rfl, B19.out⟩

end Go.Proofs.Ytphdmpplmdcnaaa.gn
end
