/- Least: its contract. -/
import Derived.Test.YtigomdihkojdmaaStK
namespace Go.Proofs.Ytigomdihkojdmaa.gn
open Go.RowKit Go.Shelf
open Go.Proofs.Ytigomdihkojdmaa.sp

/-- What the steps that meet a window say is the least number in it. -/
theorem few_least {L : List (Int × Int)} (hL : Ok L) {lo hi : Int} (h0 : 0 ≤ lo) (h1 : hi ≤ 1099511627777) : Least L lo hi (few lo hi (upto (L.map Prod.fst) (L.map Prod.snd) L.length)) := by
  have hf := few_is lo hi (upto (L.map Prod.fst) (L.map Prod.snd) L.length)
  have hr := List.pairwise_iff_getElem.1 hL.rise
  have hst := step_at L
  -- a time is in the window of the last step that has begun
  have hin : ∀ t, 0 ≤ t → t ≤ 1099511627776 → ∃ k, ∃ h : k < L.length, (L[k]).1 ≤ t ∧ t < nxt (L.map Prod.fst) k ∧ val L t = (L[k]).2 := fun t ht ht1 => by
    obtain ⟨p, hp, hpt, e, hmax⟩ := hL.begun ht
    obtain ⟨k, hk, rfl⟩ := List.getElem_of_mem hp
    refine ⟨k, hk, hpt, ?_, e⟩
    unfold nxt
    split
    · next h =>
      rw [List.length_map] at h
      rw [List.getElem?_eq_getElem (by simpa using h)]
      simp only [List.getElem_map, Option.getD_some]
      by_cases hlt : t < (L[k + 1]).1
      · exact hlt
      · have h3 := hmax _ (List.getElem_mem h) (by omega)
        have h4 := hr k (k + 1) hk h (by omega)
        omega
    · omega
  -- and at a step's time there is its number
  have hval : ∀ k (h : k < L.length) t, (L[k]).1 ≤ t → t < nxt (L.map Prod.fst) k → val L t = (L[k]).2 := fun k hk t h2 h3 => by
    refine val_at hL.rise (List.getElem_mem hk) h2 fun q hq hqt => ?_
    obtain ⟨i, hi', rfl⟩ := List.getElem_of_mem hq
    by_cases hik : i ≤ k
    · rcases Nat.lt_or_eq_of_le hik with h4 | h4
      · have := hr i k hi' hk h4; omega
      · subst h4; exact Int.le_refl _
    · exfalso
      unfold nxt at h3
      have hk1 : k + 1 < L.length := by omega
      rw [if_pos (by simpa using hk1), List.getElem?_eq_getElem (by simpa using hk1)] at h3
      simp only [List.getElem_map, Option.getD_some] at h3
      rcases Nat.lt_or_eq_of_le (show k + 1 ≤ i by omega) with h4 | h4
      · have := hr (k + 1) i hk1 hi' h4; omega
      · subst h4; omega
  refine ⟨fun t h2 h3 => ?_, ?_, hf.2.2⟩
  · obtain ⟨k, hk, h4, h5, e⟩ := hin t (by omega) (by omega)
    rw [e]
    have hm := hf.1 _ (mem_upto.2 ⟨k, hk, rfl⟩)
    rw [hst k hk] at hm
    refine hm ?_
    unfold meets
    rw [decide_eq_true_iff]
    simp only
    omega
  · rcases hf.2.1 with h | ⟨x, hx, hm, e⟩
    · exact .inl h
    · refine .inr ?_
      obtain ⟨k, hk, rfl⟩ := mem_upto.1 hx
      rw [hst k hk] at hm e
      unfold meets at hm
      rw [decide_eq_true_iff] at hm
      simp only at hm e
      refine ⟨max (L[k]).1 lo, by omega, by omega, ?_⟩
      rw [e]
      exact (hval k hk _ (by omega) (by omega)).symm

theorem least_any {w : World} {v : Value} {L : List (Int × Int)} {lo hi : Int} (h : Prof w v (L.map Prod.fst) (L.map Prod.snd)) (hL : Ok L) :
    Calls Try.prog 47 #[v, .agg #[.int .i64 lo, .int .i64 hi]] w (Tells (few lo hi (upto (L.map Prod.fst) (L.map Prod.snd) L.length)) w) := by
  obtain ⟨v1, v2, rfl, h1, h2⟩ := h
  have hpos : 0 < L.length := by obtain ⟨n, hn⟩ := hL.zero; exact List.length_pos_of_mem hn
  have := least_main v1 v2 (L.map Prod.fst) (L.map Prod.snd) lo hi w h1 h2 (by rw [List.length_map, List.length_map]) (by rw [List.length_map]; exact hpos) (by rw [List.length_map]; have := hL.le; omega)
  rwa [List.length_map] at this

theorem row1 (w : World) (x : Int) : Ints (w.alloc (.cells #[.int .i64 x] 2)) (.slice (some ⟨w.heap.size, 0, none⟩) 1 1) [x] :=
  ⟨by show 1 ≤ maxLen; decide, _, 1, rfl, ⟨Nat.le_refl _, by decide⟩, .inr ⟨_, 0, rfl, fun j hj => by
    match j, hj with
    | 0, _ => go_simp
    | j + 1, hj => simp at hj⟩⟩
theorem row2 (w : World) (x y : Int) : Ints (w.alloc (.cells #[.int .i64 x, .int .i64 y] 2)) (.slice (some ⟨w.heap.size, 0, none⟩) 2 2) [x, y] :=
  ⟨by show 2 ≤ maxLen; decide, _, 2, rfl, ⟨Nat.le_refl _, by decide⟩, .inr ⟨_, 0, rfl, fun j hj => by
    match j, hj with
    | 0, _ => go_simp
    | 1, _ => go_simp
    | j + 2, hj => (simp at hj; omega)⟩⟩
theorem row3 (w : World) (x y z : Int) : Ints (w.alloc (.cells #[.int .i64 x, .int .i64 y, .int .i64 z] 2)) (.slice (some ⟨w.heap.size, 0, none⟩) 3 3) [x, y, z] :=
  ⟨by show 3 ≤ maxLen; decide, _, 3, rfl, ⟨Nat.le_refl _, by decide⟩, .inr ⟨_, 0, rfl, fun j hj => by
    match j, hj with
    | 0, _ => go_simp
    | 1, _ => go_simp
    | 2, _ => go_simp
    | j + 3, hj => (simp at hj; omega)⟩⟩

/-- The least number in a window, by the steps. -/
def lst (L : List (Int × Int)) (lo hi : Int) : Int := few lo hi (upto (L.map Prod.fst) (L.map Prod.snd) L.length)
theorem lst_is {L : List (Int × Int)} (hL : Ok L) {lo hi : Int} (h0 : Q lo) (h1 : Q hi) : Least L lo hi (lst L lo hi) := few_least hL h0.1 (by have := h1.2; omega)
theorem leastf_no {w : World} {v : Value} {at_ m : List Int} {lo hi : Int} (h : Prof w v at_ m) (hno : ¬ (OkP at_ m ∧ Q lo ∧ Q hi)) : Calls Try.prog 37 #[v, .int .i64 lo, .int .i64 hi] w (Tells 0 w) := by
  obtain ⟨v1, v2, rfl, h1, h2⟩ := h
  have hv : vld at_ m [lo, hi] = false := vld_no fun ⟨a, b⟩ => hno ⟨a, b lo (by simp), b hi (by simp)⟩
  have HV := Lib.hid hv
  have HB0 : Hid (∀ x y, Below w.heap.size w ((w.alloc x).alloc y)) := fun x y => ((Below.refl _ _).alloc (Nat.le_refl _) _).alloc (by simp) _
  have HC := Lib.hid (valid_any (w := (w.alloc (.cells #[v1, v2] 24)).alloc (.cells #[.int .i64 lo, .int .i64 hi] 2)) (v := .agg #[v1, v2]) (l := [lo, hi]) (Prof.below ⟨v1, v2, rfl, h1, h2⟩ (HB0.out _ _) (Nat.le_refl _)) (row2 _ _ _))
  rw [World.size_alloc] at HC
  clear h1 h2 hno hv
  go_enter Try.func37, Try.ntmps37
  go_wp2_with fail
  refine HC.out.mono ?_
  rintro e w1 ⟨rfl, hb⟩
  rw [HV.out]
  have HB := Lib.hid ((HB0.out _ _).trans (hb.mono (HB0.out _ _).size))
  clear hb
  go_wp2
  go_ret
  exact ⟨rfl, HB.out⟩
theorem leastf_yes {w : World} {v : Value} {L : List (Int × Int)} {lo hi : Int} (h : Prof w v (L.map Prod.fst) (L.map Prod.snd)) (hL : Ok L) (h0 : Q lo) (h1 : Q hi) : Calls Try.prog 37 #[v, .int .i64 lo, .int .i64 hi] w (Tells (lst L lo hi) w) := by
  have HLs := Lib.hid fun (W : World) (hW : Below w.heap.size w W) => least_any (lo := lo) (hi := hi) (h.below hW (Nat.le_refl _)) hL
  have HP := Lib.hid fun (W : World) (hW : Below w.heap.size w W) => h.below hW (Nat.le_refl _)
  obtain ⟨v1, v2, rfl, i1, i2⟩ := h
  have hv : vld (L.map Prod.fst) (L.map Prod.snd) [lo, hi] = true := vld_yes ⟨L, hL, rfl, rfl⟩ (by simpa using ⟨h0, h1⟩)
  have HV := Lib.hid hv
  have HB0 : Hid (∀ x y, Below w.heap.size w ((w.alloc x).alloc y)) := fun x y => ((Below.refl _ _).alloc (Nat.le_refl _) _).alloc (by simp) _
  have HC := Lib.hid (valid_any (w := (w.alloc (.cells #[v1, v2] 24)).alloc (.cells #[.int .i64 lo, .int .i64 hi] 2)) (v := .agg #[v1, v2]) (l := [lo, hi]) (HP.out _ (HB0.out _ _)) (row2 _ _ _))
  rw [World.size_alloc] at HC
  have bS := (Box2.new w 24 v1 v2).alloc (.cells #[.int .i64 lo, .int .i64 hi] 2)
  clear i1 i2 hv h0 h1 hL
  go_enter Try.func37, Try.ntmps37
  go_wp2_with fail
  refine HC.out.mono ?_
  rintro e w1 ⟨rfl, hb⟩
  rw [HV.out]
  have bS1 := box2_next hb bS
  have e0 := bS1.cell0
  have e1 := bS1.cell1
  have HB := Lib.hid ((HB0.out _ _).trans (hb.mono (HB0.out _ _).size))
  clear hb bS bS1
  go_wp2_with fail
  refine (HLs.out _ HB.out).mono ?_
  rintro e w2 ⟨rfl, hb2⟩
  have HB2 := Lib.hid (HB.out.trans (hb2.mono HB.out.size))
  clear hb2
  go_wp2
  go_ret
  exact ⟨rfl, HB2.out⟩
end Go.Proofs.Ytigomdihkojdmaa.gn
