/- JournalFile: the walk of the law. -/
import Derived.Test.YtphdmpplmdcnaaaGreatMJoL0
import Derived.Test.YtphdmpplmdcnaaaGreatMJoBy
import Derived.Test.YtphdmpplmdcnaaaGreatMGenAp
import Derived.Deep.RegionHeld3
section
set_option linter.unusedVariables false
namespace Go.Proofs.YtphdmpplmdcnaaaGreat.gn
open Go.RowKit
open Go.Proofs.YtphdmpplmdcnaaaGreat.fi

theorem Strw.below {w w' : World} {v : Value} {L : List (List UInt8)} (h : Strw w v L) (hb : Below w.heap.size w w') : Strw w' v L := ⟨h.1.below hb, h.2⟩
theorem Ss.strw {w : World} {B : Nat} {v : Value} {L : List (List UInt8)} (h : Ss w B v L) (hs : ∀ s ∈ L, s.length ≤ maxLen) : Strw w v L := by
  refine ⟨h.strs hs, fun n c e => ?_⟩
  subst e
  rcases h.2 with ⟨e, _⟩ | ⟨g, cap, cur, e, _⟩
  · cases e; exact ⟨rfl, rfl⟩
  · cases e
theorem ss_made_drew (w : World) (B : Nat) (hB : B ≤ w.heap.size) : Ss (w.drew.alloc (.cells #[] 9)) B (.slice (some ⟨w.heap.size, 0, none⟩) 0 0) [] := ss_made w.drew B hB
theorem ss_made_drew2 (w : World) (B : Nat) (hB : B ≤ w.heap.size) : Ss (w.alloc (.cells #[] 9)).drew B (.slice (some ⟨w.heap.size, 0, none⟩) 0 0) [] := ss_made w B hB
/-- JournalFile between two rounds: Al are the entries, by rows Rs. -/
def FeI (u : World) (first room : Nat) (d j i : Nat) (va : Value) (wr : World) : Prop :=
  ∃ Al Rs Zr D J, (Al : List (List UInt8)) = (Rs : List (List (List UInt8))).flatten ∧ Rs.length ≤ i ∧ (∀ s ∈ Al, s.length ≤ 300) ∧ (jhd first ++ frames Rs.flatten).length ≤ room ∧ Ss wr u.heap.size va Al ∧ (∀ g, va.ownBlock = some g → Zr g) ∧
    (∀ k, k < u.heap.size → Zr k) ∧ Hold Zr wr D J ∧ D d = some (stt room (jhd first) Rs) ∧ J j = some ⟨d, log, first, (first + Al.length) % 18446744073709551616⟩ ∧ Below u.heap.size u wr
theorem room_len {first room : Nat} {Rs : List (List (List UInt8))} (h : (jhd first ++ frames Rs.flatten).length ≤ room) : cost Rs.flatten ≤ room ∧ (frames (Lib.uvarint first :: Rs.flatten)).length ≤ room := by
  refine ⟨?_, by rw [← jhd_frames]; exact h⟩
  rw [List.length_append, frames_len] at h
  omega

set_option maxRecDepth 100000
set_option maxHeartbeats 4000000
theorem file_short (w : World) (room first : Nat) (hroom : room < 65536) (v : Value) (LL : List (List (List UInt8))) (hg : Grid w v LL) (hno : ¬ (GridOk LL ∧ room ≤ 20000)) :
    Calls Tryz.prog 3 #[.int .u16 (room : Int), .int .u64 (first : Int), v] w fun e w' => e = .returned (.bool true) ∧ Below w.heap.size w w' := by
  have HG := Lib.hid (great_any v LL w hg)
  obtain ⟨A, c, rfl, _⟩ := hg
  have HN := Lib.hid hno
  clear hno
  go_enter Tryz.func3, Tryz.ntmps3
  go_wp2_with fail
  refine HG.out.mono ?_
  rintro e w1 ⟨⟨rfl, hk⟩ | ⟨rfl, _⟩, rfl⟩
  · have h2 : 20000 < room := Nat.lt_of_not_le fun h => HN.out ⟨hk, h⟩
    have h3 : decide ((20000 : Int) < (room : Int)) = true := decide_eq_true (by omega)
    go_wp2_with fail
    refine (head_any _).mono ?_
    rintro e w2 ⟨rfl, hb2⟩
    have HB2 := Lib.hid hb2
    clear hb2
    go_wp2
    go_ret
    exact ⟨rfl, HB2.out⟩
  · go_wp2_with fail
    refine (head_any _).mono ?_
    rintro e w2 ⟨rfl, hb2⟩
    have HB2 := Lib.hid hb2
    clear hb2
    go_wp2
    go_ret
    exact ⟨rfl, HB2.out⟩

theorem file_small (w : World) (room first : Nat) (hroom : room ≤ 20000) (hf : first < 18446744073709551616) (v : Value) (LL : List (List (List UInt8))) (hg : Grid w v LL) (hok : GridOk LL) (hsm : room < (jhd first).length) :
    Calls Tryz.prog 3 #[.int .u16 (room : Int), .int .u64 (first : Int), v] w fun e w' => e = .returned (.bool true) ∧ Below w.heap.size w w' := by
  have HG := Lib.hid (great_any v LL w hg)
  obtain ⟨A, c, rfl, hlc, hcm, _⟩ := id hg
  have HGU := Lib.hid hg
  have HOK := Lib.hid hok
  have h20 := hok.1
  have hjl := jhd_len hf
  have hr1 : decide ((20000 : Int) < (room : Int)) = false := decide_eq_false (by omega)
  obtain ⟨Z, hZ⟩ : ∃ Z : Nat → Prop, Z = fun i => i < w.heap.size := ⟨_, rfl⟩
  have H0 := Lib.hid (Hold.none_ w Z fun i hi => by subst hZ; exact hi)
  have hZ' : ∀ i, i < w.heap.size → Z i := fun i hi => by subst hZ; exact hi
  have HZ := Lib.hid hZ'
  have HLD := Lib.hid (fun w => bytes_any' first hf (.slice none 0 0) [] w ⟨none, 0, rfl, Nat.le_refl _, Nat.zero_le _, .inl rfl, fun s hs => by cases hs⟩ (fun s hs => by cases hs) (by decide))
  have hlead : (str (frames [Lib.uvarint first])).size = (jhd first).length := str_size _
  clear hg hok hZ' hZ
  unfold maxLen at hcm
  go_enter Tryz.func3, Tryz.ntmps3
  go_wp2_with fail
  refine HG.out.mono ?_
  rintro e wx ⟨⟨rfl, _⟩ | ⟨rfl, hk⟩, rfl⟩
  case inr => exact absurd HOK.out hk
  go_wp2_with fail
  refine (lnew H0.out room (by omega) (by simp)).mono ?_
  rintro e w1 ⟨d, D1, rfl, g, h, a, x, b⟩
  have H1 := Lib.hid h
  have A1 := Lib.hid a
  have B1 := Lib.hid b
  clear g h a x b
  go_wp2_with fail
  refine (lstart_no H1.out A1.out hf hsm rfl).mono ?_
  rintro e w2 ⟨D2, rfl, h, a, x, b⟩
  have B2 := Lib.hid (B1.out.trans (b.belowZ HZ.out B1.out.size))
  clear h a x b
  go_wp2_with fail
  refine (HLD.out _).mono ?_
  rintro e w3 ⟨rfl, b3⟩
  have B3 := Lib.hid (B2.out.trans (b3.mono B2.out.size))
  clear b3
  generalize str (frames [Lib.uvarint first]) = sb at *
  go_wp2_with fail
  refine (head_any _).mono ?_
  rintro e w4 ⟨rfl, b4⟩
  have B4 := Lib.hid (B3.out.trans (b4.mono B3.out.size))
  clear b4
  go_wp2
  go_ret
  exact ⟨rfl, B4.out⟩

theorem file_long (w : World) (room first : Nat) (hroom : room ≤ 20000) (hf : first < 18446744073709551616) (v : Value) (LL : List (List (List UInt8))) (hg : Grid w v LL) (hok : GridOk LL) (hsm : (jhd first).length ≤ room) :
    Calls Tryz.prog 3 #[.int .u16 (room : Int), .int .u64 (first : Int), v] w fun e w' => e = .returned (.bool true) ∧ Below w.heap.size w w' := by
  have HG := Lib.hid (great_any v LL w hg)
  obtain ⟨A, c, rfl, hlc, hcm, _⟩ := id hg
  have HGU := Lib.hid hg
  have HOK := Lib.hid hok
  have h20 := hok.1
  have hjl := jhd_len hf
  have hr1 : decide ((20000 : Int) < (room : Int)) = false := decide_eq_false (by omega)
  obtain ⟨Z, hZ⟩ : ∃ Z : Nat → Prop, Z = fun i => i < w.heap.size := ⟨_, rfl⟩
  have H0 := Lib.hid (Hold.none_ w Z fun i hi => by subst hZ; exact hi)
  have hZ' : ∀ i, i < w.heap.size → Z i := fun i hi => by subst hZ; exact hi
  have HZ := Lib.hid hZ'
  have HLD := Lib.hid (fun w => bytes_any' first hf (.slice none 0 0) [] w ⟨none, 0, rfl, Nat.le_refl _, Nat.zero_le _, .inl rfl, fun s hs => by cases hs⟩ (fun s hs => by cases hs) (by decide))
  have hlead : (str (frames [Lib.uvarint first])).size = (jhd first).length := str_size _
  clear hg hok hZ' hZ
  unfold maxLen at hcm
  go_enter Tryz.func3, Tryz.ntmps3
  go_wp2_with fail
  refine HG.out.mono ?_
  rintro e wx ⟨⟨rfl, _⟩ | ⟨rfl, hk⟩, rfl⟩
  case inr => exact absurd HOK.out hk
  go_wp2_with fail
  refine (lnew H0.out room (by omega) (by simp)).mono ?_
  rintro e w1 ⟨d, D1, rfl, g, h, a, x, b⟩
  have H1 := Lib.hid h
  have A1 := Lib.hid a
  have B1 := Lib.hid b
  clear g h a x b
  have hr2 : decide ((room : Int) < ((jhd first).length : Int)) = false := decide_eq_false (by omega)
  have hr3 : decide (room < (jhd first).length) = false := decide_eq_false (by omega)
  go_wp2_with fail
  refine (lstart_yes H1.out A1.out hf hsm rfl).mono ?_
  rintro e w2 ⟨j, D2, J2, rfl, g, h, a, x, q, y, b⟩
  have H2 := Lib.hid h
  have A2 := Lib.hid a
  have Q2 := Lib.hid q
  have B2 := Lib.hid (B1.out.trans (b.belowZ HZ.out B1.out.size))
  clear g h a x q y b
  go_wp2_with fail
  refine (HLD.out _).mono ?_
  rintro e w3 ⟨rfl, b3⟩
  have H3 := Lib.hid (H2.out.below b3)
  have B3 := Lib.hid (B2.out.trans (b3.mono B2.out.size))
  clear b3
  generalize str (frames [Lib.uvarint first]) = sb0 at *
  go_wp2
  go_loopw [12, 11] (fun v12 v11 wr => ∃ i : Nat, i ≤ LL.length ∧ v12 = .int .i64 (i : Int) ∧ FeI w first room d j i v11 wr) (fun v12 _ _ => LL.length - (intOf v12).toNat)
  case atStart =>
    exact ⟨0, Nat.zero_le _, rfl, [], [], Z, D2, J2, rfl, Nat.le_refl _, fun _ hs => (by cases hs), (by simpa [frames] using hsm), Ss_nil _ _, fun _ hg => (by cases hg), HZ.out, H3.out, A2.out, (by rw [Q2.out]; simp only [List.length_nil, Nat.add_zero]; rw [Nat.mod_eq_of_lt hf]), B3.out⟩
  case round =>
    obtain ⟨i, hi, rfl, Al, Rs, Zr, D, J, hAl, hrl, hsmall, hfits, hss, hown, hzr, hh, hd, hj, hbw⟩ := hrel
    obtain ⟨vA, vc, rfl, _, hvc, hvm⟩ := hss.form
    have HAl := Lib.hid hAl
    have HH := Lib.hid hh
    have HD := Lib.hid hd
    have HJ := Lib.hid hj
    have HS := Lib.hid hss
    have HW := Lib.hid hown
    have HZr := Lib.hid hzr
    have HB := Lib.hid hbw
    have HSM := Lib.hid hsmall
    have HFits := Lib.hid hfits
    obtain ⟨hcA, _⟩ := room_len hfits
    have hclA := cost_len Rs.flatten
    have hwt : Hid ((stt room (jhd first) Rs).wt ≤ 274877906944) := Lib.hid (by
      rw [stt_wt, frames_len Rs.flatten]
      omega)
    have hAlen : Al.length ≤ 1000 := by rw [hAl]; omega
    clear hAl hh hd hj hss hown hzr hbw hsmall hfits
    by_cases hlt : i < LL.length
    · have hrow := HOK.out.2 _ (List.getElem_mem hlt)
      obtain ⟨b, o, uv, hA, hbu, hall⟩ : ∃ b o uv, A = some ⟨b, o, none⟩ ∧ b < w.heap.size ∧ ∀ w', Below w.heap.size w w' → w'.cell? ⟨b, o + i, none⟩ = some uv ∧ Strw w' uv LL[i] := by
        obtain ⟨A', c', e, _, _, hc⟩ := HGU.out
        injection e with e1 e2 e3
        subst e1
        rcases hc with hc | ⟨b, o, hA, hc⟩
        · omega
        · obtain ⟨uv, h1, h2⟩ := hc i hlt
          exact ⟨b, o, uv, hA, cell_lt (a := ⟨b, o + i, none⟩) h1, fun w' hb => ⟨(hb.cell (p := ⟨b, o + i, none⟩) (cell_lt (a := ⟨b, o + i, none⟩) h1)).trans h1, h2.1.below hb, h2.2⟩⟩
      subst hA
      have hlrow := row_cost hrow.2
      have h10 := hrow.1
      have HRS := Lib.hid hrow.2
      have HRW : Hid (∀ s ∈ LL[i], s.length ≤ 262144) := Lib.hid fun s hs => by have := hrow.2 s hs; omega
      clear hrow
      generalize LL[i] = R at *
      have HALL := Lib.hid hall
      obtain ⟨hcl, hst⟩ := HALL.out wr HB.out
      obtain ⟨rA, rc, rfl, _⟩ := id hst.1
      have SAw := Lib.hid (HS.out.strw fun s hs => by have := HSM.out s hs; unfold maxLen; omega)
      clear hst hall
      go_wp2
      go_region_held3 (fun W => W.cell? ⟨b, o + i, none⟩ = some (.slice rA R.length rc)) (go_keep)
        (first
          | (refine step_append_strs (by first | rfl | simp [Region.wanted]) _ _ rfl wr.heap.size _ _ [] Al (by rfl) (by first | exact ss_made_drew _ _ (Nat.le_refl _) | exact ss_made_drew2 _ _ (Nat.le_refl _)) (by rfl) (by first | exact SAw.out.below (((Below.refl _ _).drew).alloc (Nat.le_refl _) _) | exact SAw.out.below (((Below.refl _ _).alloc (Nat.le_refl _) _).drew)) (by simp; omega) (by simp) ?_
             intro A1 c1 n1 W1 hn1 hs1 hg1 _
             have hb1 : Below wr.heap.size wr W1 := by
               first
                 | exact (((Below.refl _ wr).drew).alloc (Nat.le_refl _) _).grown hg1 (by simp) (fun k hk => by cases hk; exact Nat.le_refl _)
                 | exact (((Below.refl _ wr).alloc (Nat.le_refl _) _).drew).grown hg1 (by simp) (fun k hk => by cases hk; exact Nat.le_refl _)
             obtain ⟨k1, r1⟩ := HALL.out W1 (HB.out.trans (hb1.mono HB.out.size))
             have K1 := Lib.hid hb1
             have T1 := Lib.hid hs1
             have R1 := Lib.hid r1
             clear hn1 hs1 hg1 hb1 r1)
          | (refine step_append_strs (by first | rfl | simp [Region.wanted]) _ _ rfl wr.heap.size _ _ Al R (by rfl) (by exact T1.out) (by rfl) (by exact R1.out) (by omega) (by exact K1.out.size) ?_
             intro A2 c2 n2 W2 hn2 hs2 hg2 _
             have hb2 : Below wr.heap.size wr W2 := K1.out.grown hg2 K1.out.size (fun k hk => by
               rcases T1.out.2 with ⟨e, _⟩ | ⟨g, cap, cur, e, hBg, _⟩
               · rw [e] at hk; cases hk
               · rw [e] at hk; cases hk; exact hBg)
             obtain ⟨k2, r2⟩ := HALL.out W2 (HB.out.trans (hb2.mono HB.out.size))
             have K2 := Lib.hid hb2
             have T2 := Lib.hid hs2
             have R2 := Lib.hid r2
             have N2 := Lib.hid hn2
             clear hn2 hs2 hg2 hb2 r2))
      obtain ⟨AR, hAR⟩ : ∃ AR, Al ++ R = AR := ⟨_, rfl⟩
      have hARl : AR.length = Al.length + R.length := by rw [← hAR, List.length_append]
      obtain rfl : n2 = AR.length := by rw [hARl]; exact N2.out
      have HAR := Lib.hid hAR
      have HARF : Hid (AR = (Rs ++ [R]).flatten) := Lib.hid (by rw [← hAR, HAl.out, List.flatten_append]; simp)
      have HSAR : Hid (∀ s ∈ AR, s.length ≤ 300) := Lib.hid fun s hs => by
        rw [← hAR] at hs
        rcases List.mem_append.1 hs with hs | hs
        · exact HSM.out s hs
        · exact HRS.out s hs
      have SM : Hid (Ss W2 wr.heap.size (.slice A2 AR.length c2) AR) := Lib.hid (by have := T2.out; rwa [hAR] at this)
      have hzm := SM.out.lt
      have ZM : Hid (∀ g, (Value.slice A2 AR.length c2).ownBlock = some g → news Zr wr W2 g) := Lib.hid fun g hg => .inr (hzm g hg)
      have Z4L : Hid (∀ k, k < w.heap.size → news Zr wr W2 k) := Lib.hid fun k hk => .inl (HZr.out k hk)
      have ZO : Hid (∀ g, (Value.slice vA Al.length vc).ownBlock = some g → news Zr wr W2 g) := Lib.hid fun g hg => .inl (HW.out g hg)
      have H2 := Lib.hid (HH.out.grow K2.out)
      have SO := Lib.hid (HS.out.kept K2.out)
      have B2r := Lib.hid (HB.out.trans (K2.out.mono HB.out.size))
      have hnn : (first + Al.length) % 18446744073709551616 < 18446744073709551616 := Nat.mod_lt _ (by decide)
      have hcAR : cost AR ≤ 1000000 := by rw [← hAR, cost_app, HAl.out]; omega
      have hszb : (str (frames (Lib.uvarint first :: AR))).size = (jhd first ++ frames (Rs ++ [R]).flatten).length := by rw [str_size, jhd_frames, HARF.out]
      have HL1 : Hid (∀ s ∈ AR, s.length ≤ maxLen) := Lib.hid fun s hs => by have := HSAR.out s hs; unfold maxLen; omega
      have HL2 : Hid (∀ s ∈ AR, s.length ≤ 1000) := Lib.hid fun s hs => by have := HSAR.out s hs; omega
      have HARL := Lib.hid hARl
      clear hAR hzm hARl
      by_cases hfit : (jhd first ++ frames (Rs ++ [R]).flatten).length ≤ room
      · have HFX := Lib.hid hfit
        have HS3 := HSAR
        have HAX := HARF
        have hle : (str (frames (Lib.uvarint first :: AR))).size ≤ room := by omega
        clear hszb hfit

        have HJF : Hid (jhd first ++ frames (Rs ++ [R]).flatten = frames (Lib.uvarint first :: AR)) := Lib.hid (by rw [HAX.out]; exact jhd_frames _ _)
        have HLX : Hid (∀ s ∈ AR, s.length ≤ maxLen) := Lib.hid fun s hs => by have := HS3.out s hs; unfold maxLen; omega
        have HLS : Hid (∀ s ∈ AR, s.length ≤ 1000) := Lib.hid fun s hs => by have := HS3.out s hs; omega
        have HSX : Hid (scan (jhd first ++ frames (Rs ++ [R]).flatten) = Lib.uvarint first :: AR) := Lib.hid (by
          have := (opens_same (room := 0) hf HJF.out (fun s hs => by have := HS3.out s hs; omega)).2
          rwa [stt_bytes] at this)
        have hcx : cost AR ≤ 1000000 := by rw [HAX.out]; have := (room_len HFX.out).1; omega
        have HWX : Hid ((stt room (jhd first) (Rs ++ [R])).wt ≤ 274877906944) := Lib.hid (by
          have := (room_len HFX.out).1
          rw [stt_wt, frames_len (Rs ++ [R]).flatten, List.length_append]
          try simp only [List.length_cons, List.length_nil]
          omega)
        go_wp2_with fail
        refine (lappend_yes H2.out HD.out HJ.out hwt.out hnn R2.out.1 HRW.out (by omega) HFX.out).mono ?_
        rintro e w5 ⟨D5, J5, rfl, h, a, x, q, y, bo⟩
        have H5 := Lib.hid h
        have A5 := Lib.hid a
        have Q5 : Hid (J5 j = some ⟨d, log, first, (first + AR.length) % 18446744073709551616⟩) := Lib.hid (by
          rw [q]
          have : ((first + Al.length) % 18446744073709551616 + R.length) % 18446744073709551616 = (first + AR.length) % 18446744073709551616 := by rw [HARL.out]; omega
          rw [this])
        have SA5 := Lib.hid (SM.out.held bo ZM.out)
        have ZA := ZM
        have B5 := Lib.hid (B2r.out.trans (bo.belowZ Z4L.out B2r.out.size))
        clear h a x q y bo
        go_wp2_with fail
        refine (bytes_any' first hf _ _ _ (SA5.out.strs HL1.out) HL2.out hcAR).mono ?_
        rintro e w6 ⟨rfl, b6⟩
        have H6 := Lib.hid (H5.out.below b6)
        have SA6x := Lib.hid (SA5.out.kept b6)
        have SA6 : Hid (Ss w6 w.heap.size (.slice A2 AR.length c2) AR) := Lib.hid (SA6x.out.mono HB.out.size)
        have B6 := Lib.hid (B5.out.trans (b6.mono B5.out.size))
        clear b6

        have hlr := lread H6.out A5.out
        rw [HJF.out] at hlr
        have HLR := Lib.hid hlr
        clear hlr
        go_wp2_with fail
        refine HLR.out.mono ?_
        rintro e w7 ⟨rfl, b7⟩
        have H7 := Lib.hid (H6.out.below b7)
        have SA7 := Lib.hid (SA6.out.kept b7)
        have B7 := Lib.hid (B6.out.trans (b7.mono B6.out.size))
        clear b7
        go_wp2_with fail
        refine (bytes_any' first hf _ _ _ (SA7.out.strs HLX.out) HLS.out hcx).mono ?_
        rintro e w8 ⟨rfl, b8⟩
        have H8 := Lib.hid (H7.out.below b8)
        have SA8 := Lib.hid (SA7.out.kept b8)
        have B8 := Lib.hid (B7.out.trans (b8.mono B7.out.size))
        clear b8
        have hq : (((str (frames (Lib.uvarint first :: AR))).toList == (str (frames (Lib.uvarint first :: AR))).toList) : Bool) = true := by simp
        generalize str (frames (Lib.uvarint first :: AR)) = sb at *
        go_wp2_with fail
        refine (lentries H8.out A5.out Q5.out HWX.out HSX.out).mono ?_
        rintro e w9 ⟨v9, rfl, s9, _, b9⟩
        obtain ⟨A9, c9, rfl, _⟩ := id s9
        have H9 := Lib.hid (H8.out.below b9)
        have SA9 := Lib.hid (SA8.out.kept b9)
        have S9 := Lib.hid s9
        have B9 := Lib.hid (B8.out.trans (b9.mono B8.out.size))
        clear b9 s9
        go_wp2_with fail
        refine (same_yes _ _ AR _ S9.out (SA9.out.strs HLX.out)).mono ?_
        rintro e w10 ⟨rfl, b10⟩
        have H10 := Lib.hid (H9.out.below b10)
        have SA10 := Lib.hid (SA9.out.kept b10)
        have B10 := Lib.hid (B9.out.trans (b10.mono B9.out.size))
        clear b10
        go_wp2_with fail
        refine (first_any' H10.out Q5.out).mono ?_
        rintro e wy ⟨rfl, rfl⟩
        go_wp2_with fail
        refine (next_any' H10.out Q5.out).mono ?_
        rintro e wy ⟨rfl, rfl⟩
        have hnq : (((first : Int) + (AR.length : Int)) % 18446744073709551616 != IntKind.u64.wrap ((first : Int) + IntKind.u64.wrap (AR.length : Int))) = false := by
          simp only [IntKind.wrap_u64]
          rw [bne_eq_false_iff_eq]
          omega
        have hnq2 : (((first : Int) + (AR.length : Int)) % 18446744073709551616 != IntKind.u64.wrap ((first : Int) + (AR.length : Int))) = false := by
          simp only [IntKind.wrap_u64]
          rw [bne_eq_false_iff_eq]
        go_wp2
        go_roundw
        case rel => exact ⟨i + 1, by omega, by go_num, AR, (Rs ++ [R]), news Zr wr W2, D5, J5, HAX.out, by simp; omega, HS3.out, HFX.out, SA10.out, ZA.out, Z4L.out, H10.out, A5.out, Q5.out, B10.out⟩
        case measure => simp [intOf]; omega
      · have HFX := HFits
        have HS3 := HSM
        have HAX := HAl
        have hle : room < (str (frames (Lib.uvarint first :: AR))).size := by omega
        have HNF := Lib.hid hfit
        clear hszb hfit

        have HJF : Hid (jhd first ++ frames Rs.flatten = frames (Lib.uvarint first :: Al)) := Lib.hid (by rw [HAX.out]; exact jhd_frames _ _)
        have HLX : Hid (∀ s ∈ Al, s.length ≤ maxLen) := Lib.hid fun s hs => by have := HS3.out s hs; unfold maxLen; omega
        have HLS : Hid (∀ s ∈ Al, s.length ≤ 1000) := Lib.hid fun s hs => by have := HS3.out s hs; omega
        have HSX : Hid (scan (jhd first ++ frames Rs.flatten) = Lib.uvarint first :: Al) := Lib.hid (by
          have := (opens_same (room := 0) hf HJF.out (fun s hs => by have := HS3.out s hs; omega)).2
          rwa [stt_bytes] at this)
        have hcx : cost Al ≤ 1000000 := by rw [HAX.out]; have := (room_len HFX.out).1; omega
        have HWX : Hid ((stt room (jhd first) Rs).wt ≤ 274877906944) := Lib.hid (by
          have := (room_len HFX.out).1
          rw [stt_wt, frames_len Rs.flatten]
          try simp only [List.length_cons, List.length_nil]
          omega)
        go_wp2_with fail
        refine (lappend_no H2.out HD.out HJ.out hwt.out hnn R2.out.1 HRW.out (by omega) (Nat.lt_of_not_le HNF.out)).mono ?_
        rintro e w5 ⟨D5, rfl, h, a, x, bo⟩
        have H5 := Lib.hid h
        have A5 := Lib.hid a
        have Q5 := HJ
        have SM5 := Lib.hid (SM.out.held bo ZM.out)
        have SA5 := Lib.hid (SO.out.held bo ZO.out)
        have ZA := ZO
        have B5 := Lib.hid (B2r.out.trans (bo.belowZ Z4L.out B2r.out.size))
        clear h a x bo
        go_wp2_with fail
        refine (bytes_any' first hf _ _ _ (SM5.out.strs HL1.out) HL2.out hcAR).mono ?_
        rintro e w6 ⟨rfl, b6⟩
        have H6 := Lib.hid (H5.out.below b6)
        have SA6 := Lib.hid (SA5.out.kept b6)
        have B6 := Lib.hid (B5.out.trans (b6.mono B5.out.size))
        clear b6

        have hlr := lread H6.out A5.out
        rw [HJF.out] at hlr
        have HLR := Lib.hid hlr
        clear hlr
        go_wp2_with fail
        refine HLR.out.mono ?_
        rintro e w7 ⟨rfl, b7⟩
        have H7 := Lib.hid (H6.out.below b7)
        have SA7 := Lib.hid (SA6.out.kept b7)
        have B7 := Lib.hid (B6.out.trans (b7.mono B6.out.size))
        clear b7
        go_wp2_with fail
        refine (bytes_any' first hf _ _ _ (SA7.out.strs HLX.out) HLS.out hcx).mono ?_
        rintro e w8 ⟨rfl, b8⟩
        have H8 := Lib.hid (H7.out.below b8)
        have SA8 := Lib.hid (SA7.out.kept b8)
        have B8 := Lib.hid (B7.out.trans (b8.mono B7.out.size))
        clear b8
        have hq : (((str (frames (Lib.uvarint first :: Al))).toList == (str (frames (Lib.uvarint first :: Al))).toList) : Bool) = true := by simp
        generalize str (frames (Lib.uvarint first :: Al)) = sb at *
        go_wp2_with fail
        refine (lentries H8.out A5.out Q5.out HWX.out HSX.out).mono ?_
        rintro e w9 ⟨v9, rfl, s9, _, b9⟩
        obtain ⟨A9, c9, rfl, _⟩ := id s9
        have H9 := Lib.hid (H8.out.below b9)
        have SA9 := Lib.hid (SA8.out.kept b9)
        have S9 := Lib.hid s9
        have B9 := Lib.hid (B8.out.trans (b9.mono B8.out.size))
        clear b9 s9
        go_wp2_with fail
        refine (same_yes _ _ Al _ S9.out (SA9.out.strs HLX.out)).mono ?_
        rintro e w10 ⟨rfl, b10⟩
        have H10 := Lib.hid (H9.out.below b10)
        have SA10 := Lib.hid (SA9.out.kept b10)
        have B10 := Lib.hid (B9.out.trans (b10.mono B9.out.size))
        clear b10
        go_wp2_with fail
        refine (first_any' H10.out Q5.out).mono ?_
        rintro e wy ⟨rfl, rfl⟩
        go_wp2_with fail
        refine (next_any' H10.out Q5.out).mono ?_
        rintro e wy ⟨rfl, rfl⟩
        have hnq : (((first : Int) + (Al.length : Int)) % 18446744073709551616 != IntKind.u64.wrap ((first : Int) + IntKind.u64.wrap (Al.length : Int))) = false := by
          simp only [IntKind.wrap_u64]
          rw [bne_eq_false_iff_eq]
          omega
        have hnq2 : (((first : Int) + (Al.length : Int)) % 18446744073709551616 != IntKind.u64.wrap ((first : Int) + (Al.length : Int))) = false := by
          simp only [IntKind.wrap_u64]
          rw [bne_eq_false_iff_eq]
        go_wp2
        go_roundw
        case rel => exact ⟨i + 1, by omega, by go_num, Al, Rs, news Zr wr W2, D5, J, HAX.out, by omega, HS3.out, HFX.out, SA10.out, ZA.out, Z4L.out, H10.out, A5.out, Q5.out, B10.out⟩
        case measure => simp [intOf]; omega
    · have hil : i = LL.length := by omega
      subst hil
      go_wp2_with fail
      refine (head_any _).mono ?_
      rintro e w4 ⟨rfl, b4⟩
      have B4 := Lib.hid (HB.out.trans (b4.mono HB.out.size))
      clear b4
      go_wp2
      go_ret
      exact ⟨rfl, B4.out⟩
end Go.Proofs.YtphdmpplmdcnaaaGreat.gn
end
