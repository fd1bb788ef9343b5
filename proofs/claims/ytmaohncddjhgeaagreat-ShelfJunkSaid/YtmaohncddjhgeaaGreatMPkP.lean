/- In the namespace gn: the contract of the document's ReadNum: it tells the number that a fine reader reads, and how many bytes it has. -/
import Derived.Test.YtmaohncddjhgeaaGreatMPackM
import Derived.Test.YtmaohncddjhgeaaGreatMPkR
section
namespace Go.Proofs.YtmaohncddjhgeaaGreat.gn
open Go.RowKit

/-- What ReadNum tells of bytes. -/
def RefPost (l : List UInt8) (w : World) (e : Ending) (w' : World) : Prop :=
  w = w' ∧ ((∃ n k : Nat, rd l = some (n, l.drop k) ∧ 1 ≤ k ∧ k ≤ l.length ∧ e = .returned (.tuple #[.int .u64 (n : Int), .int .i64 (k : Int)])) ∨
    (rd l = none ∧ e = .returned (.tuple #[.int .u64 0, .int .i64 0])))


/-- So many bytes go on. -/
def Going (s : ByteArray) (k : Nat) : Prop := ∀ (j : Nat) (h : j < s.size), j < k → 128 ≤ (s[j]'h).toNat


theorem going_list {s : ByteArray} {l : List UInt8} {k : Nat} (hs : s = str l) (h : Going s k) : ∀ c ∈ l.take k, 128 ≤ c.toNat := by
  subst hs
  intro c hc
  obtain ⟨j, hj, rfl⟩ := List.getElem_of_mem hc
  rw [List.length_take] at hj
  rw [List.getElem_take]
  exact h j (by rw [str_size]; omega) (by omega)

theorem split_at {l : List UInt8} {k : Nat} (h : k < l.length) : l = l.take k ++ l[k] :: l.drop (k + 1) := by
  rw [← List.drop_eq_getElem_cons h, List.take_append_drop]

/-- How the byte at place k ends the reading. -/
theorem ref_none {s : ByteArray} {l : List UInt8} {k : Nat} (hs : s = str l) (hg : Going s k) (hk : k ≤ s.size)
    (hbad : k = s.size ∨ 9 < k ∨ ∃ h : k < s.size, (1 ≤ k ∧ (s[k]'h).toNat < 1) ∨ (9 ≤ k ∧ 2 ≤ (s[k]'h).toNat)) : rd l = none := by
  have hl := going_list hs hg
  subst hs
  rw [str_size] at hk
  have htl : (l.take k).length = k := by rw [List.length_take]; omega
  rcases hbad with h | h | ⟨h, hb⟩
  · rw [str_size] at h
    rw [List.take_of_length_le (by omega)] at hl
    exact rd_ends l hl
  · have := rd_long (l.take k) (l.drop k) hl (by omega)
    rwa [List.take_append_drop] at this
  · rw [str_size] at h
    by_cases h9 : 9 < k
    · have := rd_long (l.take k) (l.drop k) hl (by omega)
      rwa [List.take_append_drop] at this
    · have := rd_bad (l.take k) (l.drop (k + 1)) (l[k]) hl (by omega) (by rw [htl]; exact hb)
      rwa [← split_at h] at this

theorem ref_some {s : ByteArray} {l : List UInt8} {k : Nat} (hs : s = str l) (hg : Going s k) (h : k < s.size) (hc : (s[k]'h).toNat < 128) (h9 : k ≤ 9)
    (hb : ¬ ((1 ≤ k ∧ (s[k]'h).toNat < 1) ∨ (9 ≤ k ∧ 2 ≤ (s[k]'h).toNat))) : rd l = some (val (l.take (k + 1)), l.drop (k + 1)) ∧ k + 1 ≤ l.length := by
  have hl := going_list hs hg
  subst hs
  have h' : k < l.length := by rwa [str_size] at h
  have htl : (l.take k).length = k := by rw [List.length_take]; omega
  have := rd_good (l.take k) (l.drop (k + 1)) (l[k]) hl (by omega) hc (by rw [htl]; exact hb)
  rw [← split_at h'] at this
  refine ⟨?_, h'⟩
  rw [this, List.take_succ_eq_append_getElem h']

theorem ref_step {s : ByteArray} {l : List UInt8} {k j : Nat} (hs : s = str l) (h : j < s.size) (hj : j ≤ k) :
    val ((l.take (k + 1)).drop j) = val ((l.take (k + 1)).drop (j + 1)) * 128 + (s[j]'h).toNat % 128 := by
  subst hs
  have h' : j < l.length := by rwa [str_size] at h
  rw [drop_val _ j (by rw [List.length_take]; omega), List.getElem_take]
  rfl

set_option maxHeartbeats 1600000 in
set_option maxRecDepth 100000 in
theorem ref_any (l : List UInt8) (hl : l.length ≤ 1000000) (w : World) :
    Calls Tryz.prog 22 #[.string (str l)] w (RefPost l w) := by
  have hsz : (str l).size = l.length := str_size l
  have hs2 : (str l).size ≤ 1000000 := by omega
  have HG0 : Hid (Going (str l) 0) := fun _ _ h => by omega
  obtain ⟨s, hs⟩ : ∃ s, s = str l := ⟨_, rfl⟩
  rw [← hs] at hsz hs2 HG0 ⊢
  have HS := Lib.hid hs
  have HZ := Lib.hid hsz
  clear hs hsz hl
  go_enter Tryz.func22, Tryz.ntmps22
  go_wp2
  go_loop [4] (fun vk => ∃ k : Nat, k ≤ s.size ∧ vk = .int .i64 k ∧ Hid (Going s k)) (fun vk => s.size - (intOf vk).toNat)
  case atStart => exact ⟨0, Nat.zero_le _, rfl, HG0⟩
  case round =>
    obtain ⟨k, hk, rfl, HG⟩ := hrel
    by_cases hlt : k < s.size
    · by_cases hgo : 128 ≤ s[k].toNat
      · have HG1 : Hid (Going s (k + 1)) := fun j h hj => by
          rcases Nat.lt_or_ge j k with h1 | h1
          · exact HG.out j h h1
          · obtain rfl : j = k := by omega
            exact hgo
        go_wp2
        go_round
        case rel => exact ⟨k + 1, by omega, by go_num, HG1⟩
        case measure => simp [intOf]; omega
      · have hgo2 : s[k].toNat < 128 := by omega
        clear hgo
        by_cases h9 : 9 < k
        · have HN := Lib.hid (ref_none HS.out HG.out hk (.inr (.inl h9)))
          clear HG0
          go_wp2
          all_goals go_ret2
          all_goals exact ⟨rfl, .inr ⟨HN.out, rfl⟩⟩
        · by_cases hbad : (1 ≤ k ∧ s[k].toNat < 1) ∨ (9 ≤ k ∧ 2 ≤ s[k].toNat)
          · have HN := Lib.hid (ref_none HS.out HG.out hk (.inr (.inr ⟨hlt, hbad⟩)))
            have h9' : k ≤ 9 := by omega
            clear h9
            rcases hbad with ⟨h1, h2⟩ | ⟨h1, h2⟩
            · go_wp2
              all_goals go_ret2
              all_goals exact ⟨rfl, .inr ⟨HN.out, rfl⟩⟩
            · obtain rfl : k = 9 := by omega
              have tz : decide (s.size ≤ 9) = false := decide_eq_false (by omega)
              have t0 : ((s[9].toNat : Int) == 0) = false := beq_eq_false_iff_ne.2 (by omega)
              have t1 : decide ((1 : Int) < (s[9].toNat : Int)) = true := decide_eq_true (by omega)
              go_wp2
              all_goals go_ret2
              all_goals exact ⟨rfl, .inr ⟨HN.out, rfl⟩⟩
          · obtain ⟨hrd, hkl⟩ := ref_some HS.out HG.out hlt hgo2 (by omega) hbad
            have hvq : val (l.take (k + 1)) < 18446744073709551616 := rd_lt hrd
            have HR := Lib.hid hrd
            have HV := Lib.hid hvq
            have h9' : k ≤ 9 := by omega
            clear hrd hvq h9
            have tz : decide (s.size ≤ k) = false := decide_eq_false (by omega)
            have h3 : k < 1 ∨ (1 ≤ k ∧ k ≤ 8 ∧ 1 ≤ s[k].toNat) ∨ (9 ≤ k ∧ 1 ≤ s[k].toNat ∧ s[k].toNat < 2) := by omega
            clear hbad
            rcases h3 with h3 | ⟨h3, h4, h5⟩ | ⟨h3, h4, h5⟩
            · have t9 : ((k : Int) == 9) = false := beq_eq_false_iff_ne.2 (by omega)
              go_wp2
              go_loop [5, 6] (fun vn vi => ∃ i : Int, -1 ≤ i ∧ i ≤ k ∧ vi = .int .i64 i ∧ vn = .int .u64 (val ((l.take (k + 1)).drop (i + 1).toNat) : Nat)) (fun _ vi => (intOf vi + 1).toNat)
              case atStart => exact ⟨(k : Nat), by omega, by omega, rfl, by rw [show (((k : Nat) : Int) + 1).toNat = k + 1 from by omega, List.drop_of_length_le (by rw [List.length_take]; omega)]; rfl⟩
              case round =>
                obtain ⟨i, hi1, hi2, rfl, rfl⟩ := hrel
                have hvl := drop_val_le (l.take (k + 1)) (i + 1).toNat
                by_cases hi0 : 0 ≤ i
                · obtain ⟨j, rfl⟩ := Int.eq_ofNat_of_zero_le hi0
                  have hjs : j < s.size := by omega
                  have e1 : ((j : Int) + 1).toNat = j + 1 := by omega
                  rw [e1] at hvl ⊢
                  have HE := Lib.hid (ref_step HS.out hjs (show j ≤ k by omega))
                  have hv2 := drop_val_le (l.take (k + 1)) j
                  have hvq := HV.out
                  rw [HE.out] at hv2
                  obtain ⟨v, hv⟩ : ∃ v, v = val ((l.take (k + 1)).drop (j + 1)) := ⟨_, rfl⟩
                  rw [← hv] at hvl hv2 ⊢
                  have hb1 : v * 128 + s[j].toNat % 128 < 18446744073709551616 := by omega
                  have HVV := Lib.hid hv
                  have hbj : s[j].toNat < 256 := UInt8.toNat_lt _
                  clear hv hvl hv2 hvq e1
                  go_wp2
                  go_round
                  case rel =>
                    refine ⟨(j : Int) - 1, by omega, by omega, rfl, ?_⟩
                    rw [show ((j : Int) - 1 + 1).toNat = j from by omega, HE.out, ← HVV.out]
                    go_num
                  case measure => first | (simp [intOf]; done) | (simp [intOf]; omega)
                · obtain rfl : i = -1 := by omega
                  clear hvl
                  go_wp2
                  go_ret2
                  exact ⟨rfl, .inl ⟨_, k + 1, HR.out, by omega, hkl, rfl⟩⟩
            · have t0 : ((s[k].toNat : Int) == 0) = false := beq_eq_false_iff_ne.2 (by omega)
              have t9 : ((k : Int) == 9) = false := beq_eq_false_iff_ne.2 (by omega)
              go_wp2
              go_loop [5, 6] (fun vn vi => ∃ i : Int, -1 ≤ i ∧ i ≤ k ∧ vi = .int .i64 i ∧ vn = .int .u64 (val ((l.take (k + 1)).drop (i + 1).toNat) : Nat)) (fun _ vi => (intOf vi + 1).toNat)
              case atStart => exact ⟨(k : Nat), by omega, by omega, rfl, by rw [show (((k : Nat) : Int) + 1).toNat = k + 1 from by omega, List.drop_of_length_le (by rw [List.length_take]; omega)]; rfl⟩
              case round =>
                obtain ⟨i, hi1, hi2, rfl, rfl⟩ := hrel
                have hvl := drop_val_le (l.take (k + 1)) (i + 1).toNat
                by_cases hi0 : 0 ≤ i
                · obtain ⟨j, rfl⟩ := Int.eq_ofNat_of_zero_le hi0
                  have hjs : j < s.size := by omega
                  have e1 : ((j : Int) + 1).toNat = j + 1 := by omega
                  rw [e1] at hvl ⊢
                  have HE := Lib.hid (ref_step HS.out hjs (show j ≤ k by omega))
                  have hv2 := drop_val_le (l.take (k + 1)) j
                  have hvq := HV.out
                  rw [HE.out] at hv2
                  obtain ⟨v, hv⟩ : ∃ v, v = val ((l.take (k + 1)).drop (j + 1)) := ⟨_, rfl⟩
                  rw [← hv] at hvl hv2 ⊢
                  have hb1 : v * 128 + s[j].toNat % 128 < 18446744073709551616 := by omega
                  have HVV := Lib.hid hv
                  have hbj : s[j].toNat < 256 := UInt8.toNat_lt _
                  clear hv hvl hv2 hvq e1
                  go_wp2
                  go_round
                  case rel =>
                    refine ⟨(j : Int) - 1, by omega, by omega, rfl, ?_⟩
                    rw [show ((j : Int) - 1 + 1).toNat = j from by omega, HE.out, ← HVV.out]
                    go_num
                  case measure => first | (simp [intOf]; done) | (simp [intOf]; omega)
                · obtain rfl : i = -1 := by omega
                  clear hvl
                  go_wp2
                  go_ret2
                  exact ⟨rfl, .inl ⟨_, k + 1, HR.out, by omega, hkl, rfl⟩⟩
            · obtain rfl : k = 9 := by omega
              have t0 : ((s[9].toNat : Int) == 0) = false := beq_eq_false_iff_ne.2 (by omega)
              have t1 : decide ((1 : Int) < (s[9].toNat : Int)) = false := decide_eq_false (by omega)
              go_wp2
              go_loop [5, 6] (fun vn vi => ∃ i : Int, -1 ≤ i ∧ i ≤ 9 ∧ vi = .int .i64 i ∧ vn = .int .u64 (val ((l.take (9 + 1)).drop (i + 1).toNat) : Nat)) (fun _ vi => (intOf vi + 1).toNat)
              case atStart => exact ⟨(9 : Nat), by omega, by omega, rfl, by rw [show (((9 : Nat) : Int) + 1).toNat = 9 + 1 from by omega, List.drop_of_length_le (by rw [List.length_take]; omega)]; rfl⟩
              case round =>
                obtain ⟨i, hi1, hi2, rfl, rfl⟩ := hrel
                have hvl := drop_val_le (l.take (9 + 1)) (i + 1).toNat
                by_cases hi0 : 0 ≤ i
                · obtain ⟨j, rfl⟩ := Int.eq_ofNat_of_zero_le hi0
                  have hjs : j < s.size := by omega
                  have e1 : ((j : Int) + 1).toNat = j + 1 := by omega
                  rw [e1] at hvl ⊢
                  have HE := Lib.hid (ref_step HS.out hjs (show j ≤ 9 by omega))
                  have hv2 := drop_val_le (l.take (9 + 1)) j
                  have hvq := HV.out
                  rw [HE.out] at hv2
                  obtain ⟨v, hv⟩ : ∃ v, v = val ((l.take (9 + 1)).drop (j + 1)) := ⟨_, rfl⟩
                  rw [← hv] at hvl hv2 ⊢
                  have hb1 : v * 128 + s[j].toNat % 128 < 18446744073709551616 := by omega
                  have HVV := Lib.hid hv
                  have hbj : s[j].toNat < 256 := UInt8.toNat_lt _
                  clear hv hvl hv2 hvq e1
                  go_wp2
                  go_round
                  case rel =>
                    refine ⟨(j : Int) - 1, by omega, by omega, rfl, ?_⟩
                    rw [show ((j : Int) - 1 + 1).toNat = j from by omega, HE.out, ← HVV.out]
                    go_num
                  case measure => first | (simp [intOf]; done) | (simp [intOf]; omega)
                · obtain rfl : i = -1 := by omega
                  clear hvl
                  go_wp2
                  go_ret2
                  exact ⟨rfl, .inl ⟨_, 9 + 1, HR.out, by omega, hkl, rfl⟩⟩
    · have HN := Lib.hid (ref_none HS.out HG.out hk (.inl (by omega)))
      have hge : s.size ≤ k := by omega
      clear hlt
      go_wp2
      all_goals go_ret2
      all_goals exact ⟨rfl, .inr ⟨HN.out, rfl⟩⟩
end Go.Proofs.YtmaohncddjhgeaaGreat.gn
end
