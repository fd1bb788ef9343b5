/- The document's names. -/
import Derived.Test.YtpmghgfgbkncoaaGreatDoorMDiL
import Derived.Test.YtpmghgfgbkncoaaGreatDoorMUnI
section
set_option linter.unusedVariables false
set_option linter.unusedSimpArgs false
namespace Go.Proofs.YtpmghgfgbkncoaaGreatDoor.gn
open Go.RowKit
open Go.Proofs.YtpmghgfgbkncoaaGreatDoor.un
open Go.Proofs.YtpmghgfgbkncoaaGreatDoor.di
open Go.Proofs.YtpmghgfgbkncoaaGreatDoor.sp (Slip nameL)

theorem nodup_snoc {α : Type} {l : List α} {k : Nat} {y : α} (hy : l[k]? = some y) (hl : (l.take k).Nodup) (hn : y ∉ l.take k) : (l.take (k + 1)).Nodup := by
  rw [take_snoc hy, List.nodup_append]
  exact ⟨hl, by simp, fun a ha b hb => by simp at hb; subst hb; exact fun e => hn (e ▸ ha)⟩
theorem not_nodup {α : Type} {l : List α} {i k : Nat} {x y : α} (hki : k < i) (hx : l[i]? = some x) (hy : l[k]? = some y) (he : x = y) : ¬ l.Nodup := fun h => by
  subst he
  have := (List.getElem?_inj (by rcases List.getElem?_eq_some_iff.1 hy with ⟨hl, _⟩; exact hl) h).1 (hy.trans hx.symm)
  omega
set_option maxRecDepth 100000 in
set_option maxHeartbeats 4000000 in
theorem names_any (l : List Tx) (v : Value) (w : World) (h : RdC w v l.length (flS l)) (hm : l.length ≤ maxLen) (hs : ∀ s ∈ l, s.length ≤ 140737488355328) : Calls Tryz.prog 51 #[v] w (Told (.bool (decide (nameL l))) w) := by
  obtain ⟨p, c, rfl⟩ := h.form
  have HC := Lib.hid (fun hk : 0 < l.length => h.at_ (size := 1) rfl hk)
  obtain ⟨n, hn⟩ : ∃ n, l.length = n := ⟨_, rfl⟩
  rw [hn] at hm HC ⊢
  have HN := Lib.hid hn
  have HSZ := Lib.hid hs
  have hm2 : n ≤ 9223372036854775807 := by unfold maxLen at hm; omega
  clear h hn hm hs
  go_enter Tryz.func51, Tryz.ntmps51
  go_wp2
  go_loopw [3, 4] (fun s3 s4 wr => ∃ (i : Nat) (v4 : Value), s3 = .int .i64 (i : Int) ∧ s4 = v4 ∧ i ≤ n ∧ Aside ((l.take i).Nodup ∧ (∀ s ∈ l.take i, isName s = true) ∧ Below w.heap.size w wr)) (fun s3 _ _ => n - (intOf s3).toNat)
  case atStart => exact ⟨0, _, rfl, rfl, Nat.zero_le _, by show (l.take 0).Nodup; simp, by simp, Below.refl _ _⟩
  case round =>
    obtain ⟨i, v4, rfl, rfl, hi, hnd, hnm, hb⟩ := hrel
    have HX := Lib.hid (And.intro (show (l.take i).Nodup from hnd) (show ∀ s ∈ l.take i, isName s = true from hnm))
    have HB := Lib.hid (show Below w.heap.size w wr from hb)
    clear hnd hnm hb
    by_cases hin : i < n
    · obtain ⟨b, off, rfl, hbl, hc⟩ := HC.out (by omega)
      obtain ⟨x, hx⟩ : ∃ x, l[i]? = some x := ⟨_, List.getElem?_eq_getElem (by rw [HN.out]; exact hin)⟩
      have HCC := Lib.hid (fun (W : World) (hb : Below w.heap.size w W) (j : Nat) (y : Tx) (hy : l[j]? = some y) => (show W.cell? ⟨b, off + j, none⟩ = some (.string (str y)) by
        have := (Below.cell hb (p := ⟨b, off + (j * 1 + 0), none⟩) hbl).trans (hc.elt (f := cS) (k := 1) (fun _ => rfl) (j := 0) hy (by decide) rfl)
        first | exact this | (rw [← Nat.add_assoc] at this; exact this) | (rw [Nat.mul_one, Nat.add_zero] at this; exact this)))
      have HBL := Lib.hid hbl
      have HIX := Lib.hid hx
      clear hc hbl hx
      go_upto_region 5 with fail
      go_wp2
      go_loopw [4] (fun s4 wx => ∃ k : Nat, s4 = .int .i64 (k : Int) ∧ k ≤ i ∧ Aside (x ∉ l.take k ∧ Below w.heap.size w wx)) (fun s4 _ => i - (intOf s4).toNat)
      case atStart => exact ⟨0, rfl, Nat.zero_le _, by show x ∉ l.take 0; simp, HB.out⟩
      case round =>
        obtain ⟨k, rfl, hk, hnx, hb2⟩ := hrel
        have HXX := Lib.hid (show x ∉ l.take k from hnx)
        have HB2 := Lib.hid (show Below w.heap.size w wr from hb2)
        clear hnx hb2
        have c0 := HCC.out _ HB2.out i x HIX.out
        have hbw : b < wr.heap.size := Nat.lt_of_lt_of_le HBL.out HB2.out.size
        by_cases hki : k < i
        · obtain ⟨y, hy⟩ : ∃ y, l[k]? = some y := ⟨_, List.getElem?_eq_getElem (by rw [HN.out]; omega)⟩
          have c1 := HCC.out _ HB2.out k y hy
          have hkn : k < n := by omega
          have HY := Lib.hid hy
          clear hy
          by_cases he : x = y
          · have HM := Lib.hid (show ¬ nameL l from fun h => not_nodup hki HIX.out HY.out he h.2.1)
            obtain ⟨q1, q2⟩ := (⟨by rw [eq_str]; exact decide_eq_true he, by rw [he]⟩ : ((str x).toList == (str y).toList) = true ∧ (str x).toList = (str y).toList)
            clear he
            go_wp2_with (go_quiet (fail))
            go_ret
            exact ⟨by rw [decide_eq_false HM.out]; rfl, HB2.out.trans (Joins.below_draws _ _ _)⟩
          · have HNX := Lib.hid (show x ∉ l.take (k + 1) by rw [mem_take_succ HY.out]; exact fun h => h.elim HXX.out he)
            obtain ⟨q1, q2⟩ := (⟨by rw [eq_str]; exact decide_eq_false he, fun h => he (by rw [str_toList, str_toList] at h; exact h)⟩ : ((str x).toList == (str y).toList) = false ∧ ¬ (str x).toList = (str y).toList)
            clear he
            go_wp2_with (go_quiet (fail))
            go_roundw
            case rel => exact ⟨k + 1, by go_num, by omega, HNX.out, HB2.out.trans (Joins.below_draws _ _ _)⟩
            case measure => simp [intOf]; omega
        · obtain rfl : k = i := by omega
          have HND := Lib.hid (nodup_snoc HIX.out HX.out.1 HXX.out)
          have HDN := Lib.hid (fun W => dname_any x (HSZ.out x (List.mem_of_getElem? HIX.out)) W)
          cases hnam : isName x with
          | false =>
            rw [hnam] at HDN
            have HM := Lib.hid (show ¬ nameL l from fun h => by have := h.2.2 x (List.mem_of_getElem? HIX.out); rw [hnam] at this; cases this)
            clear hnam
            go_wp2_with (go_at_call 49; ((with_reducible refine (HDN.out _).mono ?_); rintro e w3 ⟨rfl, rfl⟩))
            go_ret
            exact ⟨by rw [decide_eq_false HM.out]; rfl, HB2.out⟩
          | true =>
            rw [hnam] at HDN
            have HM := Lib.hid (show ∀ s ∈ l.take (k + 1), isName s = true from fun s hs => by
              rcases (mem_take_succ HIX.out).1 hs with hs | rfl
              · exact HX.out.2 s hs
              · exact hnam)
            clear hnam
            go_wp2_with (go_at_call 49; ((with_reducible refine (HDN.out _).mono ?_); rintro e w3 ⟨rfl, rfl⟩))
            go_roundw
            case rel => exact ⟨k + 1, _, by go_num, rfl, by omega, HND.out, HM.out, HB2.out⟩
            case measure => simp [intOf]; omega
    · obtain rfl : i = n := by omega
      have HF := Lib.hid (show decide ((i : Int) ≤ 4) = decide (nameL l) from decide_eq_decide.2 ⟨fun h4 => by
        have := HX.out
        rw [List.take_of_length_le (by rw [HN.out]; exact Nat.le_refl _)] at this
        exact ⟨by rw [HN.out]; omega, this.1, this.2⟩, fun h => by have := h.1; rw [HN.out] at this; omega⟩)
      go_wp2
      go_ret
      exact ⟨by rw [← HF.out]; rfl, HB.out⟩
end Go.Proofs.YtpmghgfgbkncoaaGreatDoor.gn
end
