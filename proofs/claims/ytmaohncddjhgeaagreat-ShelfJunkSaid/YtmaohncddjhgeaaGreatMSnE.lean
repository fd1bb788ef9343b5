/- The contract of Get. -/
import Derived.Test.YtmaohncddjhgeaaGreatMSnA
import Derived.Test.YtmaohncddjhgeaaGreatMFrS
section
set_option linter.unusedVariables false
set_option linter.unusedSectionVars false
namespace Go.Proofs.YtmaohncddjhgeaaGreat.fi
open Go.Proofs.YtmaohncddjhgeaaGreat.gn (frame frame_len fst? scan scan_fst scan_le cost cost_mem scan_some scan_none cost_len fst_frame fst_some fst_of)
/-- The string of which some bytes are the frame. -/
def own (b : List UInt8) : Option (List UInt8) := (fst? b).bind fun t => if 20 + t.length = b.length then some t else none
theorem cost_at : ∀ (L : List (List UInt8)) (i : Nat) (h : i < L.length), 20 * i + (20 + (L[i]).length) ≤ cost L
  | a :: l, 0, _ => by simp only [List.getElem_cons_zero, cost]; omega
  | a :: l, i + 1, h => by
    have := cost_at l i (by simpa using h)
    simp only [List.getElem_cons_succ, cost]
    omega
theorem own_hit {b t : List UInt8} {i : Nat} (h : (scan b)[i]? = some t) (hl : 20 + t.length = b.length) : own b = some t := by
  obtain ⟨hi, h2⟩ := List.getElem?_eq_some_iff.1 h
  have h1 := cost_at (scan b) i hi
  have h3 := scan_le b
  rw [h2] at h1
  have : i = 0 := by omega
  subst this
  rw [scan_fst] at h
  unfold own
  rw [h]
  exact if_pos hl
theorem own_miss {b : List UInt8} (h : ∀ (i : Nat) (t : List UInt8), (scan b)[i]? = some t → 20 + t.length ≠ b.length) : own b = none := by
  unfold own
  cases hf : fst? b with
  | none => rfl
  | some t => exact if_neg (h 0 t (by rw [scan_fst]; exact hf))
theorem own_frame {t : List UInt8} (h : t.length ≤ 262144) : own (frame t) = some t := by
  unfold own
  have := fst_frame t [] h
  rw [List.append_nil] at this
  rw [this]
  exact if_pos (by rw [frame_len])
theorem own_some {b t : List UInt8} (h : own b = some t) : t.length ≤ 262144 ∧ b = frame t := by
  unfold own at h
  cases hf : fst? b with
  | none => rw [hf] at h; cases h
  | some u =>
    rw [hf] at h
    simp only [Option.bind_some] at h
    split at h
    · rename_i hl
      cases h
      obtain ⟨h1, h2, h3, _⟩ := fst_some hf
      exact ⟨h1, by rw [← h3, hl, List.take_length]⟩
    · cases h
/-- What a Get answers. -/
def FS.got (s : FS) (n : Nm) : List UInt8 × Int :=
  if s.look n ≠ 0 then ([], s.look n) else match own (s.bytes n) with
    | some t => (t, 0)
    | none => ([], 80)
end Go.Proofs.YtmaohncddjhgeaaGreat.fi

namespace Go.Proofs.YtmaohncddjhgeaaGreat.gn
open Go.RowKit
open Go.Proofs.YtmaohncddjhgeaaGreat.fi

set_option maxRecDepth 100000
set_option maxHeartbeats 2000000

theorem get_any {Z : Nat → Prop} {w : World} {D : Nat → Option FS} {J : Nat → Option Jn} (h : Hold Z w D J) {d : Nat} {s : FS} (hd : D d = some s) (n : Nm) (hn : n.length ≤ 100000) (hk : sck n = 0) (hbl : (s.bytes n).length ≤ 549755813888) :
    Calls Tryz.prog 80 #[.pointer (some ⟨d, 0, none⟩), .string (str n)] w (Asks (.tuple #[.string (str (s.got n).1), .int .i64 (s.got n).2]) w) := by
  have HCK := Lib.hid (scheck_any h hd n (by omega))
  rw [hk] at HCK
  have HR : Hid (∀ w', Below w.heap.size w w' → Calls Tryz.prog 14 #[.pointer (some ⟨d, 0, none⟩), .string (str n)] w' (Asks (.tuple #[.string (str (s.bytes n)), .int .i64 (s.look n)]) w')) :=
    Lib.hid fun w' hb => read_h (h.below hb) hd n
  have HG : Hid (s.got n = if s.look n ≠ 0 then ([], s.look n) else match own (s.bytes n) with | some t => (t, 0) | none => ([], 80)) := Lib.hid rfl
  generalize s.got n = g at *
  clear h hd hk
  generalize s.bytes n = b at *
  generalize s.look n = q at *
  generalize str n = x at *
  by_cases hq : q ≠ 0
  · have hg := HG.out
    rw [if_pos hq] at hg
    rw [hg]
    have t1 : (q != 0) = true := bne_of hq
    have e0 : str ([] : List UInt8) = (⟨#[]⟩ : ByteArray) := rfl
    show Calls _ _ _ _ (Asks (.tuple #[.string (str []), .int .i64 q]) w)
    rw [e0]
    clear HG hg hq hbl
    generalize str b = y at *
    go_enter Tryz.func80, Tryz.ntmps80
    go_wp2_with fail
    refine HCK.out.mono ?_
    rintro e w1 ⟨rfl, hb1⟩
    have HB1 := Lib.hid hb1
    clear hb1
    go_wp2_with fail
    refine (HR.out w1 HB1.out).mono ?_
    rintro e w2 ⟨rfl, hb2⟩
    have HB2 := Lib.hid (HB1.out.trans (hb2.mono HB1.out.size))
    clear hb2
    go_wp2
    go_ret2
    exact ⟨rfl, HB2.out⟩
  · have q0 : q = 0 := by omega
    subst q0
    clear hq
    have hg := HG.out
    rw [if_neg (by simp)] at hg
    have hsc := scan_le b
    have hcl := cost_len (scan b)
    have HS := Lib.hid (fun w => scan_any b (by omega) w)
    have hbs : (str b).size = b.length := str_size b
    have hls : ∀ t ∈ scan b, t.length ≤ 549755813888 := fun t ht => by have := cost_mem _ _ ht; omega
    have HLS := Lib.hid hls
    have HHIT : Hid (∀ i (hi : i < (scan b).length), 20 + ((scan b)[i]).length = b.length → g = ((scan b)[i], 0)) := Lib.hid fun i hi hl => by
      rw [own_hit (List.getElem?_eq_getElem hi) hl] at hg
      exact hg
    have HMISS : Hid ((∀ i (hi : i < (scan b).length), 20 + ((scan b)[i]).length ≠ b.length) → g = ([], 80)) := Lib.hid fun hh => by
      rw [own_miss (fun i t ht => by
        obtain ⟨hi, h2⟩ := List.getElem?_eq_some_iff.1 ht
        have := hh i hi
        rw [h2] at this
        exact this)] at hg
      exact hg
    clear hls hg hsc HG
    generalize scan b = L at *
    go_enter Tryz.func80, Tryz.ntmps80
    go_wp2_with fail
    refine HCK.out.mono ?_
    rintro e w1 ⟨rfl, hb1⟩
    have HB1 := Lib.hid hb1
    clear hb1
    go_wp2_with fail
    refine (HR.out w1 HB1.out).mono ?_
    rintro e w2 ⟨rfl, hb2⟩
    have HB2 := Lib.hid (HB1.out.trans (hb2.mono HB1.out.size))
    clear hb2
    go_wp2_with fail
    refine (HS.out w2).mono ?_
    rintro e w3 ⟨v, rfl, hS, hb3⟩
    have HB3 := Lib.hid (HB2.out.trans (hb3.mono HB2.out.size))
    have hst := hS.strs (fun t ht => by have := HLS.out t ht; unfold maxLen; omega)
    clear hS hb3
    obtain ⟨A, cp, rfl, hcp, hcm, hcell, _⟩ := hst
    have hcells : ∀ k (hk : k < L.length), ∃ b o, A = some ⟨b, o, none⟩ ∧ w3.cell? ⟨b, o + k, none⟩ = some (.string (str L[k])) := fun k hk => by
      rcases hcell with h0 | ⟨b, o, hA, hcl⟩
      · omega
      · exact ⟨b, o, hA, hcl k hk⟩
    have HC := Lib.hid hcells
    unfold maxLen at hcm
    clear hcell hcells
    go_wp2
    go_loop [35] (fun v35 => ∃ k : Nat, k ≤ L.length ∧ v35 = .int .i64 (k : Int) ∧ ∀ i (hi : i < L.length), i < k → 20 + (L[i]).length ≠ b.length) (fun v35 => L.length - (intOf v35).toNat)
    case atStart => exact ⟨0, Nat.zero_le _, rfl, fun i _ hi => absurd hi (Nat.not_lt_zero _)⟩
    case round =>
      obtain ⟨k, hk, rfl, hn⟩ := hrel
      have HN := Lib.hid hn
      clear hn
      by_cases hlt : k < L.length
      · obtain ⟨bb, o, hA, hcl⟩ := HC.out k hlt
        subst hA
        have hs := HLS.out _ (List.getElem_mem hlt)
        have hss : (str L[k]).size = (L[k]).length := str_size _
        have HH := Lib.hid (HHIT.out k hlt)
        obtain ⟨s, hsk⟩ : ∃ s, s = L[k] := ⟨_, rfl⟩
        rw [← hsk] at hcl hs hss HH
        have HSK := Lib.hid hsk
        clear hsk
        by_cases he : 20 + s.length = b.length
        · have t1 : ((s.length : Int) + 20 == (b.length : Int)) = true := by simp; omega
          have hgg := HH.out he
          clear he
          go_wp2_with (go_at_call 85; refine (cost_any s.length (by omega) _).mono ?_; rintro e w4 ⟨rfl, rfl⟩)
          go_ret2
          rw [hgg]
          exact ⟨rfl, HB3.out⟩
        · have t1 : ((s.length : Int) + 20 == (b.length : Int)) = false := by simp; omega
          have HE := Lib.hid he
          clear he
          go_wp2_with (go_at_call 85; refine (cost_any s.length (by omega) _).mono ?_; rintro e w4 ⟨rfl, rfl⟩)
          go_round
          case rel =>
            refine ⟨k + 1, by omega, by go_num, fun i hi hik => ?_⟩
            by_cases hie : i = k
            · subst hie
              rw [← HSK.out]; exact HE.out
            · exact HN.out i hi (by omega)
          case measure => simp [intOf]; omega
      · have hkl : k = L.length := by omega
        subst hkl
        have hgg := HMISS.out fun i hi => HN.out i hi hi
        go_wp2
        go_ret2
        exact ⟨rfl, HB3.out⟩
end Go.Proofs.YtmaohncddjhgeaaGreat.gn
end
