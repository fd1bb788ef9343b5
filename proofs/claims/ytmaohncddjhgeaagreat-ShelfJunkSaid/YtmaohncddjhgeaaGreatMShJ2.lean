/- ShelfJunk: the contract of the document's Read (layer 7); the directory as the law fills it. -/
import Derived.Test.YtmaohncddjhgeaaGreatMShF
import Derived.Test.YtmaohncddjhgeaaGreatMFrEs
import Derived.Test.YtmaohncddjhgeaaGreatMSnOf
import Derived.Test.YtmaohncddjhgeaaGreatMPkP
section
set_option linter.unusedVariables false
set_option linter.unusedSectionVars false
namespace Go.Proofs.YtmaohncddjhgeaaGreat.gn
open Go.RowKit
open Go.Proofs.YtmaohncddjhgeaaGreat.fi

set_option maxRecDepth 100000
set_option maxHeartbeats 4000000
theorem fnum_none {x r : List UInt8} {L : List (List UInt8)} (h : rd x = none ∨ ∃ n c, rd x = some (n, c :: r)) : fnum (x :: L) = none := by
  show (match rd x with | some (k, []) => some k | _ => none) = none
  rcases h with h | ⟨n, c, h⟩ <;> rw [h]
theorem fnum_some {x : List UInt8} {n : Nat} {L : List (List UInt8)} (h : rd x = some (n, [])) : fnum (x :: L) = some n := by
  show (match rd x with | some (k, []) => some k | _ => none) = some n
  rw [h]
/-- What the document reads of a journal's file. -/
def DReadX (X : List (List UInt8)) (w : World) (e : Ending) (w' : World) : Prop :=
  Below w.heap.size w w' ∧ ((∃ first g o c, fnum (X) = some first ∧ w.heap.size ≤ g ∧ g < w'.heap.size ∧ e = .returned (.tuple #[.int .u64 (first : Int), .slice (some ⟨g, o, none⟩) ((X).length - 1) c, .bool true]) ∧ Strs w' (.slice (some ⟨g, o, none⟩) ((X).length - 1) c) ((X).drop 1)) ∨
    (fnum (X) = none ∧ e = .returned (.tuple #[.int .u64 0, .slice none 0 0, .bool false])))
def DRead (b : List UInt8) (w : World) (e : Ending) (w' : World) : Prop := DReadX (scan b) w e w'
theorem dread_any (b : List UInt8) (hl : b.length ≤ 1000) (w : World) : Calls Tryz.prog 23 #[.string (str b)] w (DRead b w) := by
  have HS := Lib.hid (dscan_any b (by omega) w)
  have hsm := scan_small b hl
  have hct := scan_count b hl
  have HSM := Lib.hid hsm
  unfold Dscan at HS
  unfold DRead
  clear hsm
  generalize cost (scan b) = co at *
  generalize scan b = X at *
  go_enter Tryz.func23, Tryz.ntmps23
  go_wp2_with fail
  refine HS.out.mono ?_
  rintro e w1 ⟨v, rfl, hs1, hb1⟩
  have HB1 := Lib.hid hb1
  have HT := Lib.hid (hs1.strs fun s hs => by have := HSM.out s hs; unfold maxLen; omega)
  cases X with
  | nil =>
    obtain ⟨A, c, rfl, _⟩ := hs1.form
    clear hb1 hs1
    go_wp2
    go_ret3
    exact ⟨HB1.out, .inr ⟨rfl, rfl⟩⟩
  | cons x L =>
    obtain ⟨g, cap, rfl, hle, hm, hgw, hgl⟩ : ∃ g cap, v = .slice (some ⟨g, 0, none⟩) (L.length + 1) cap ∧ L.length + 1 ≤ cap ∧ cap ≤ maxLen ∧ w.heap.size ≤ g ∧ g < w1.heap.size := by
      rcases hs1.2 with ⟨_, hn⟩ | ⟨g, cap, cur, rfl, hgB, hgh, h1, h2, _⟩
      · cases hn
      · exact ⟨g, cap, rfl, h1, h2, hgB, lt_of_block hgh⟩
    have hc0 : w1.cell? ⟨g, 0, none⟩ = some (.string (str x)) := by
      obtain ⟨_, _, e1, _, _, hc, _⟩ := HT.out
      injection e1 with e1 e2 e3
      subst e1
      rcases hc with hc | ⟨g', o', e4, hc⟩
      · cases hc
      · cases e4
        have := hc 0 (by simp)
        simpa using this
    have hxl : x.length ≤ 1000 := HSM.out x (by simp)
    have HR := Lib.hid (ref_any x (by omega) w1)
    have hss : (str x).size = x.length := str_size x
    have HD : Hid (Strs w1 (.slice (some ⟨g, 0 + 1, none⟩) (L.length + 1 - 1) (cap - 1)) L) := Lib.hid (by
      have := HT.out.from 1 (by simp)
      simpa using this)
    simp only [List.length_cons] at *
    unfold maxLen at hm
    have hlen : ¬ (((L.length + 1 : Nat) : Int) = 0) := by omega
    have hlen2 : ((((L.length : Nat) : Int) + 1) == 0) = false := by rw [beq_eq_false_iff_ne]; omega
    have HGW := Lib.hid hgw
    have HGL := Lib.hid hgl
    clear hb1 hs1 hgw hgl
    unfold RefPost at HR
    go_wp2_with fail
    refine HR.out.mono ?_
    rintro e w2 ⟨rfl, ⟨n, k, hrd, hk1, hk2, rfl⟩ | ⟨hrd, rfl⟩⟩
    · have hk0 : ((k : Int) == 0) = false := by rw [beq_eq_false_iff_ne]; omega
      by_cases hkx : k = x.length
      · have hkn : ((k : Int) != (x.length : Int)) = false := by rw [bne_eq_false_iff_eq]; omega
        have hf : fnum (x :: L) = some n := fnum_some (by rw [hrd, hkx, List.drop_of_length_le (Nat.le_refl _)])
        have HF := Lib.hid hf
        clear hf hrd hkx
        go_wp2
        go_region
        all_goals go_wp2
        all_goals go_ret3
        · have hL0 : L = [] := List.eq_nil_of_length_eq_zero (by omega)
          subst hL0
          exact ⟨HB1.out.drew, .inl ⟨n, g, _, _, HF.out, HGW.out, HGL.out, rfl, strs_empty (L := []) rfl (Nat.zero_le _)⟩⟩
        · exact ⟨HB1.out.drew, .inl ⟨n, g, _, _, HF.out, HGW.out, HGL.out, rfl, HD.out⟩⟩
      · have hkn : ((k : Int) != (x.length : Int)) = true := by rw [bne_iff_ne]; omega
        have hf : fnum (x :: L) = none := by
          have hlt : k < x.length := by omega
          exact fnum_none (r := x.drop (k + 1)) (.inr ⟨n, x[k], by rw [hrd, List.drop_eq_getElem_cons hlt]⟩)
        have HF := Lib.hid hf
        clear hf hrd
        go_wp2
        go_ret3
        exact ⟨HB1.out, .inr ⟨HF.out, rfl⟩⟩
    · have hf : fnum (x :: L) = none := fnum_none (r := []) (.inl hrd)
      have HF := Lib.hid hf
      clear hf hrd
      go_wp2
      go_ret3
      exact ⟨HB1.out, .inr ⟨HF.out, rfl⟩⟩

/-- The directory as the law fills it. -/
def Dst (Z : Nat → Prop) (w : World) (d R : Nat) (b x l y : Option (List UInt8)) (k : Nat) : Prop := ∃ D J s, Hold Z w D J ∧ D d = some s ∧ s.room = R ∧ s.now = tb b x l y ∧ s.wt ≤ k
section
variable {Z : Nat → Prop} {w : World} {d R k : Nat}
theorem dst_makeb {x l y : Option (List UInt8)} (h : Dst Z w d R none x l y k) (hk : k ≤ 1000000) :
    Calls Tryz.prog 18 #[.pointer (some ⟨d, 0, none⟩), .string ⟨#[98, 97, 115, 101]⟩] w fun e w' => e = .returned (.int .i64 0) ∧ Dst Z w' d R (some []) x l y (k + 1) ∧ Only (Off Z) w w' := by
  obtain ⟨D, J, s, h1, h2, h3, h4, h5⟩ := h
  have hs := make_h h1 h2 (by omega) bN (by decide)
  rw [make_t h4 (look_b h4)] at hs
  refine Calls.mono (show Calls Tryz.prog 18 #[.pointer (some ⟨d, 0, none⟩), .string ⟨#[98, 97, 115, 101]⟩] w _ from hs) fun e w' hh => ⟨hh.1, ⟨_, _, _, hh.2.1, upd_same _ _ _, h3, by rw [done_now h4, tb_make_b], ?_⟩, hh.2.2⟩
  rw [FS.done_wt]; simp only [FOp.wt]; omega
theorem dst_appb {x l y : Option (List UInt8)} {u : List UInt8} (h : Dst Z w d R (some u) x l y k) (hk : k ≤ 1000000) (t : List UInt8) (hr : u.length + l1 x + l1 l + l1 y + t.length ≤ R) (ht : t.length ≤ 1000000) {q : ByteArray} (hq : q = str t) :
    Calls Tryz.prog 19 #[.pointer (some ⟨d, 0, none⟩), .string ⟨#[98, 97, 115, 101]⟩, .string q] w fun e w' => e = .returned (.int .i64 0) ∧ Dst Z w' d R (some (u ++ t)) x l y (k + (1 + t.length)) ∧ Only (Off Z) w w' := by
  subst hq
  obtain ⟨D, J, s, h1, h2, h3, h4, h5⟩ := h
  have hs := append_h h1 h2 (by omega) bN (by decide) t (by omega)
  rw [app_t h4 (look_b h4) (by rw [h3]; exact hr)] at hs
  refine Calls.mono (show Calls Tryz.prog 19 #[.pointer (some ⟨d, 0, none⟩), .string ⟨#[98, 97, 115, 101]⟩, .string (str t)] w _ from hs) fun e w' hh => ⟨hh.1, ⟨_, _, _, hh.2.1, upd_same _ _ _, h3, by rw [done_now h4, tb_app_b], ?_⟩, hh.2.2⟩
  rw [FS.done_wt]; simp only [FOp.wt]; omega
theorem dst_makel {b x y : Option (List UInt8)} (h : Dst Z w d R b x none y k) (hk : k ≤ 1000000) :
    Calls Tryz.prog 18 #[.pointer (some ⟨d, 0, none⟩), .string ⟨#[108, 111, 103]⟩] w fun e w' => e = .returned (.int .i64 0) ∧ Dst Z w' d R b x (some []) y (k + 1) ∧ Only (Off Z) w w' := by
  obtain ⟨D, J, s, h1, h2, h3, h4, h5⟩ := h
  have hs := make_h h1 h2 (by omega) log (by decide)
  rw [make_t h4 (look_l h4)] at hs
  refine Calls.mono (show Calls Tryz.prog 18 #[.pointer (some ⟨d, 0, none⟩), .string ⟨#[108, 111, 103]⟩] w _ from hs) fun e w' hh => ⟨hh.1, ⟨_, _, _, hh.2.1, upd_same _ _ _, h3, by rw [done_now h4, tb_make_l], ?_⟩, hh.2.2⟩
  rw [FS.done_wt]; simp only [FOp.wt]; omega
theorem dst_appl {b x y : Option (List UInt8)} {u : List UInt8} (h : Dst Z w d R b x (some u) y k) (hk : k ≤ 1000000) (t : List UInt8) (hr : l1 b + l1 x + u.length + l1 y + t.length ≤ R) (ht : t.length ≤ 1000000) {q : ByteArray} (hq : q = str t) :
    Calls Tryz.prog 19 #[.pointer (some ⟨d, 0, none⟩), .string ⟨#[108, 111, 103]⟩, .string q] w fun e w' => e = .returned (.int .i64 0) ∧ Dst Z w' d R b x (some (u ++ t)) y (k + (1 + t.length)) ∧ Only (Off Z) w w' := by
  subst hq
  obtain ⟨D, J, s, h1, h2, h3, h4, h5⟩ := h
  have hs := append_h h1 h2 (by omega) log (by decide) t (by omega)
  rw [app_t h4 (look_l h4) (by rw [h3]; exact hr)] at hs
  refine Calls.mono (show Calls Tryz.prog 19 #[.pointer (some ⟨d, 0, none⟩), .string ⟨#[108, 111, 103]⟩, .string (str t)] w _ from hs) fun e w' hh => ⟨hh.1, ⟨_, _, _, hh.2.1, upd_same _ _ _, h3, by rw [done_now h4, tb_app_l], ?_⟩, hh.2.2⟩
  rw [FS.done_wt]; simp only [FOp.wt]; omega
theorem dst_sync {b l : Option (List UInt8)} (h : Dst Z w d R b none l none k) (hk : k ≤ 1000000) :
    Calls Tryz.prog 20 #[.pointer (some ⟨d, 0, none⟩)] w fun e w' => e = .returned (.int .i64 0) ∧ (∃ D J, Hold Z w' D J ∧ D d = some (s4 R b none l none [])) ∧ Only (Off Z) w w' := by
  obtain ⟨D, J, s, h1, h2, h3, h4, h5⟩ := h
  have hs := sync_h h1 h2 (by omega)
  rw [sync_t h4, h3] at hs
  exact hs.mono fun e w' hh => ⟨hh.1, ⟨_, _, hh.2.1, upd_same _ _ _⟩, hh.2.2⟩
end
end Go.Proofs.YtmaohncddjhgeaaGreat.gn
end
section
set_option linter.unusedVariables false
set_option linter.unusedSectionVars false
namespace Go.Proofs.YtmaohncddjhgeaaGreat.gn
open Go.RowKit
open Go.Proofs.YtmaohncddjhgeaaGreat.fi

set_option maxRecDepth 100000
set_option maxHeartbeats 2000000
/-- A shelf s of the directory d, which holds a fine base and the frames of a log. -/
def Shj (Z : Nat → Prop) (w : World) (d s : Nat) (bO : Option (List UInt8)) (n : Nat) (t : List UInt8) (first : Nat) (L : List (List UInt8)) : Prop :=
  ∃ D J j, Hold Z w D J ∧ Z s ∧ BlkS w s ⟨j, d, n, t⟩ ∧ J j = some ⟨d, log, first, first + L.length⟩ ∧ D d = some (shs 20000 bO (jhd first ++ frames L) [])
theorem Shj.grow {Z : Nat → Prop} {w w' : World} {d s : Nat} {bO : Option (List UInt8)} {n : Nat} {t : List UInt8} {first : Nat} {L : List (List UInt8)} (h : Shj Z w d s bO n t first L) (hb : Below w.heap.size w w') : Shj (news Z w w') w' d s bO n t first L := by
  obtain ⟨D, J, j, h1, h2, h3, h4, h5⟩ := h
  exact ⟨D, J, j, h1.grow hb, .inl h2, h3.below hb, h4, h5⟩
theorem Shj.below {Z : Nat → Prop} {w w' : World} {d s : Nat} {bO : Option (List UInt8)} {n : Nat} {t : List UInt8} {first : Nat} {L : List (List UInt8)} (h : Shj Z w d s bO n t first L) (hb : Below w.heap.size w w') : Shj Z w' d s bO n t first L := by
  obtain ⟨D, J, j, h1, h2, h3, h4, h5⟩ := h
  exact ⟨D, J, j, h1.below hb, h2, h3.below hb, h4, h5⟩
theorem s4_small {bO lO : Option (List UInt8)} (h1 : l1 bO ≤ 2000) (h2 : l1 lO ≤ 2000) : (s4 20000 bO none lO none []).wt ≤ 274877906944 := by
  have := s4_wt 20000 bO none lO none []
  have e0 : l1 none = 0 := rfl
  have e1 : wts [] = 0 := rfl
  omega
/-- An Open of files that are a shelf's. -/
theorem lop1 {Z : Nat → Prop} {w : World} {d : Nat} {bO lO : Option (List UInt8)} (h : ∃ D J, Hold Z w D J ∧ D d = some (s4 20000 bO none lO none [])) (h1 : l1 bO ≤ 2000) (h2 : l1 lO ≤ 2000) {n : Nat} {t : List UInt8} {first : Nat} {L : List (List UInt8)} (hf : Fine bO lO n t first L) :
    Calls Tryz.prog 8 #[.pointer (some ⟨d, 0, none⟩)] w fun e w' => ∃ s, e = .returned (.tuple #[.pointer (some ⟨s, 0, none⟩), .int .i64 0]) ∧ Shj (fun i => Z i ∨ i = s) w' d s bO n t first L ∧ Only (Off Z) w w' := by
  obtain ⟨D, J, hh, hd⟩ := h
  obtain ⟨e1, e2⟩ := hf.first_ (R := 20000) (by omega)
  have hs := shopen_any hh hd (s4_small h1 h2)
  rw [e1, e2] at hs
  refine hs.mono fun e w' hw => ?_
  rcases hw with ⟨_, s, j, he, _, _, hk, hh', ho⟩ | ⟨h0, _⟩
  · exact ⟨s, he, ⟨_, _, j, hh', .inr rfl, hk, upd_same _ _ _, upd_same _ _ _⟩, ho⟩
  · exact absurd rfl h0
/-- .. that are none's. -/
theorem lop90 {Z : Nat → Prop} {w : World} {d : Nat} {bO lO : Option (List UInt8)} (h : ∃ D J, Hold Z w D J ∧ D d = some (s4 20000 bO none lO none [])) (h1 : l1 bO ≤ 2000) (h2 : l1 lO ≤ 2000) (hf : (s4 20000 bO none lO none []).shop.1 = 90) :
    Calls Tryz.prog 8 #[.pointer (some ⟨d, 0, none⟩)] w fun e w' => e = .returned (.tuple #[.pointer none, .int .i64 90]) ∧ Only (Off Z) w w' := by
  obtain ⟨D, J, hh, hd⟩ := h
  refine (shopen_any hh hd (s4_small h1 h2)).mono fun e w' hw => ?_
  unfold ShOpen at hw
  rw [hf] at hw
  rcases hw with ⟨h0, _⟩ | ⟨_, he, _, ho⟩
  · exact absurd h0 (by decide)
  · exact ⟨he, ho⟩
theorem fine_len {bO lO : Option (List UInt8)} {n : Nat} {t : List UInt8} {first : Nat} {L : List (List UInt8)} (hf : Fine bO lO n t first L) (h2 : l1 lO ≤ 2000) : (frames L).length ≤ 2000 := by
  rcases hf.lo with ⟨_, _, rfl⟩ | ⟨g, rfl, hs⟩
  · show (0 : Nat) ≤ _; omega
  · have h3 := scan_le g
    have h4 : cost (scan g) = 20 + (Lib.uvarint first).length + cost L := by rw [hs]; rfl
    have h5 : l1 (some g) = g.length := rfl
    rw [frames_len]
    omega
/-- Another Open, with the first shelf still there. -/
theorem lop2 {Z : Nat → Prop} {w : World} {d s : Nat} {bO lO : Option (List UInt8)} {n : Nat} {t : List UInt8} {first : Nat} {L : List (List UInt8)} (h : Shj Z w d s bO n t first L) (h1 : l1 bO ≤ 2000) (h2 : l1 lO ≤ 2000) (hf : Fine bO lO n t first L) :
    Calls Tryz.prog 8 #[.pointer (some ⟨d, 0, none⟩)] w fun e w' => ∃ r, e = .returned (.tuple #[.pointer (some ⟨r, 0, none⟩), .int .i64 0]) ∧ Shj (fun i => Z i ∨ i = r) w' d s bO n t first L ∧ Shj (fun i => Z i ∨ i = r) w' d r bO n t first L ∧ Only (Off Z) w w' := by
  obtain ⟨D, J, j, hh, hz, hk, hj, hd⟩ := h
  obtain ⟨e1, e2⟩ := hf.again (R := 20000)
  have hfl := fine_len hf h2
  have hlt : first < 18446744073709551616 := by have := hf.le; have := hf.nlt; omega
  have hjl := jhd_len hlt
  have hwt := shs_wt 20000 bO (jhd first ++ frames L) []
  have hg : (jhd first ++ frames L).length = (jhd first).length + (frames L).length := List.length_append
  have e0 : (frames ([] : List (List (List UInt8))).flatten).length = 0 := rfl
  have en : ([] : List (List (List UInt8))).length = 0 := rfl
  have hs := shopen_any hh hd (by omega)
  rw [e1, e2] at hs
  refine hs.mono fun e w' hw => ?_
  rcases hw with ⟨_, r, j2, he, _, hj2, hk2, hh', ho⟩ | ⟨h0, _⟩
  · have hne : j ≠ j2 := by have := hh.ltJ hj; omega
    exact ⟨r, he, ⟨_, _, j, hh', .inl hz, hk.off ho hz, by rw [upd_other _ _ hne]; exact hj, upd_same _ _ _⟩, ⟨_, _, j2, hh', .inr rfl, hk2, upd_same _ _ _, upd_same _ _ _⟩, ho⟩
  · exact absurd rfl h0
theorem lis {Z : Nat → Prop} {w : World} {d s : Nat} {bO lO : Option (List UInt8)} {n : Nat} {t : List UInt8} {first : Nat} {L : List (List UInt8)} (h : Shj Z w d s bO n t first L) (h2 : l1 lO ≤ 2000) (hf : Fine bO lO n t first L) (k : Nat) (hk : n = first + k)
    (v : Value) (hv : Strs w v (L.drop k)) {a : Int} (ha : a = (n : Int)) {y : ByteArray} (hy : y = str t) :
    Calls Tryz.prog 24 #[.pointer (some ⟨s, 0, none⟩), .int .u64 a, .string y, v] w fun e w' => e = .returned (.bool true) ∧ Below w.heap.size w w' := by
  obtain ⟨D, J, j, hh, hz, hkk, hj, hd⟩ := h
  have hfl := fine_len hf h2
  have h3 := hf.le
  have h4 := hf.ge
  have h5 := hf.lt
  have hlt : first < 18446744073709551616 := by omega
  have hjl := jhd_len hlt
  have hbl : (shs 20000 bO (jhd first ++ frames L) []).bytes log = jhd first ++ frames L := by
    rw [(shs_look 20000 bO (jhd first ++ frames L) []).2.1]
    show (jhd first ++ frames L) ++ frames [] = _
    rw [show frames [] = [] from rfl, List.append_nil]
  have hsc : scan (jhd first ++ frames L) = Lib.uvarint first :: L := by
    have := scan_log hlt (Rs := [L]) (by simpa using hf.small)
    simpa using this
  have htl : t.length ≤ 1000000 := by have := hf.bl; rw [List.length_append] at this; omega
  refine is_yes hh hkk hj hd (by rw [hbl, List.length_append]; omega) htl L (by rw [hbl, hsc]; rfl) k hk (by omega) hf.nlt (L.drop k) rfl ?_ v hv ha hy
  show first + L.length = (n + (L.drop k).length) % 18446744073709551616
  rw [List.length_drop, Nat.mod_eq_of_lt (by omega)]
  omega
end Go.Proofs.YtmaohncddjhgeaaGreat.gn
end
section
set_option linter.unusedVariables false
set_option linter.unusedSectionVars false
namespace Go.Proofs.YtmaohncddjhgeaaGreat.gn
open Go.RowKit
open Go.Proofs.YtmaohncddjhgeaaGreat.fi

set_option maxRecDepth 100000
set_option maxHeartbeats 8000000
theorem off_trA {Z Z1 : Nat → Prop} {a b c : World} (h : Only (Off Z) a b) (k : Only (Off Z1) b c) (hz : ∀ i, Z i → Z1 i := by intro i hi; exact .inl (.inl hi)) : Only (Off Z) a c := h.trans k fun i _ hi hn => hi (hz i hn)
theorem junk_xx (w : World) (b l : List UInt8) (hb : b.length ≤ 1000) (hl : l.length ≤ 1000) :
    Calls Tryz.prog 4 #[.agg #[.string (str b), .string (str l), .bool false, .bool false]] w fun e w' => e = .returned (.bool true) ∧ Below w.heap.size w w' := by
  have hsb : (str b).size = b.length := str_size b
  have hsl : (str l).size = l.length := str_size l
  obtain ⟨Z, hZ⟩ : ∃ Z : Nat → Prop, Z = fun i => i < w.heap.size := ⟨_, rfl⟩
  have H0 : Hid (∀ W : World, Below w.heap.size w W → Hold Z W (fun _ => none) fun _ => none) := Lib.hid fun W hb => Hold.none_ W Z fun i hi => by subst hZ; exact Nat.lt_of_lt_of_le hi hb.size
  have hZ' : ∀ i, i < w.heap.size → Z i := fun i hi => by subst hZ; exact hi
  have HZ := Lib.hid hZ'
  have HRB : Hid (l1 none ≤ 2000) := Lib.hid (by show 0 ≤ 2000; omega)
  have HRL : Hid (l1 none ≤ 2000) := Lib.hid (by show 0 ≤ 2000; omega)
  have HBL : Hid (b.length ≤ 1000) := Lib.hid hb
  have HLL : Hid (l.length ≤ 1000) := Lib.hid hl
  have HF : Hid (Fine none none 0 [] 0 []) := Lib.hid ⟨.inl ⟨rfl, rfl, rfl⟩, by omega, by have := Lib.uvarint_length64 (x := 0) (by omega); rw [List.length_append]; show _ + 0 ≤ _; omega, .inl ⟨rfl, rfl, rfl⟩, fun _ hs => (by cases hs), Nat.le_refl _, Nat.le_refl _, (by show 0 + 0 < _; omega)⟩
  clear hZ hZ'
  generalize hyb : str b = yb at *
  generalize hyl : str l = yl at *
  have HYB := Lib.hid hyb
  have HYL := Lib.hid hyl
  clear hyb hyl
  go_enter Tryz.func4, Tryz.ntmps4
  go_wp2
  go_quiet (fail)
  have hb0 : Below w.heap.size w ((w.alloc (.cells #[.string yb, .string yl, .bool false, .bool false] 50)).drewN nq) := below_drewN ((Below.refl w.heap.size w).alloc (Nat.le_refl _) _) nq
  have HN0 := Lib.hid (H0.out _ hb0)
  have HB0 := Lib.hid hb0
  clear hb0
  go_wp2_with fail
  refine (lnew HN0.out 20000 (by decide) rfl).mono ?_
  rintro e w1 ⟨d, D1, rfl, g, h, a, x, b1⟩
  have S1 : Hid (Dst Z w1 d 20000 none none none none 0) := Lib.hid ⟨_, _, _, h, a, rfl, rfl, Nat.le_refl _⟩
  have O1 : Hid (Only (Off Z) w w1) := Lib.hid (Off.tr (Only.of_below HB0.out) (Only.of_below b1))
  clear g h a x b1
  go_wp2_with fail
  refine (dst_sync S1.out (by have := HBL.out; have := HLL.out; omega)).mono ?_
  rintro e w2 ⟨rfl, hh, ho⟩
  have S2 := Lib.hid hh
  have O2 := Lib.hid (Off.tr O1.out ho)
  clear hh ho
  go_wp2_with fail
  refine (lop1 (show ∃ D J, Hold Z w2 D J ∧ D d = some (s4 20000 none none none none []) from S2.out) HRB.out HRL.out HF.out).mono ?_
  rintro e w3 ⟨s, rfl, hh, ho⟩
  have S3 := Lib.hid hh
  have O3 := Lib.hid (Off.tr O2.out ho)
  clear hh ho
  have B3 : Hid (Below w3.heap.size w3 w3) := Lib.hid (Below.refl _ _)
  have SG := Lib.hid (S3.out.grow B3.out)
  go_wp2_with fail
  refine (lop2 SG.out HRB.out HRL.out HF.out).mono ?_
  rintro e wa ⟨r, rfl, h1, h2, ho⟩
  have Sa := Lib.hid h1
  have Ra := Lib.hid h2
  have Oa := Lib.hid ho
  have Ta : Hid (Strs wa (.slice none 0 0) (List.drop 0 [])) := Lib.hid (strs_nil _)
  clear h1 h2 ho
  go_wp2_with fail
  refine (lis Sa.out HRL.out HF.out 0 rfl _ Ta.out rfl rfl).mono ?_
  rintro e wb ⟨rfl, hb⟩
  have Rb := Lib.hid (Ra.out.below hb)
  have Tb := Lib.hid (Ta.out.below hb)
  have Bb := Lib.hid hb
  clear hb
  go_wp2_with fail
  refine (lis Rb.out HRL.out HF.out 0 rfl _ Tb.out rfl rfl).mono ?_
  rintro e wc ⟨rfl, hb⟩
  have Bc := Lib.hid (Bb.out.trans (hb.mono Bb.out.size))
  clear hb
  go_wp2_with fail
  refine (head_any _).mono ?_
  rintro e wd ⟨rfl, hb⟩
  have Bd := Lib.hid (Bc.out.trans (hb.mono Bc.out.size))
  clear hb
  go_wp2
  go_ret
  have hz1 : Only (Off Z) w3 wa := Only.mono (off_trA (Only.of_below B3.out) Oa.out) fun i hi hh => hh
  exact ⟨rfl, (Off.tr (Off.tr O3.out hz1) (Only.of_below Bd.out)).belowZ HZ.out (Nat.le_refl _)⟩

theorem junk_xn (w : World) (b l : List UInt8) (hb : b.length ≤ 1000) (hl : l.length ≤ 1000) (hlo : fnum (scan l) = none) :
    Calls Tryz.prog 4 #[.agg #[.string (str b), .string (str l), .bool false, .bool true]] w fun e w' => e = .returned (.bool true) ∧ Below w.heap.size w w' := by
  have hsb : (str b).size = b.length := str_size b
  have hsl : (str l).size = l.length := str_size l
  obtain ⟨Z, hZ⟩ : ∃ Z : Nat → Prop, Z = fun i => i < w.heap.size := ⟨_, rfl⟩
  have H0 : Hid (∀ W : World, Below w.heap.size w W → Hold Z W (fun _ => none) fun _ => none) := Lib.hid fun W hb => Hold.none_ W Z fun i hi => by subst hZ; exact Nat.lt_of_lt_of_le hi hb.size
  have hZ' : ∀ i, i < w.heap.size → Z i := fun i hi => by subst hZ; exact hi
  have HZ := Lib.hid hZ'
  have HRB : Hid (l1 none ≤ 2000) := Lib.hid (by show 0 ≤ 2000; omega)
  have HRL : Hid (l1 (some l) ≤ 2000) := Lib.hid (by show l.length ≤ 2000; omega)
  have HBL : Hid (b.length ≤ 1000) := Lib.hid hb
  have HLL : Hid (l.length ≤ 1000) := Lib.hid hl
  have hbase : (s4 20000 none none (some l) none []).base = (0, 0, []) := base_none (s4_now 20000 none none (some l) none)
  have HS90 : Hid ((s4 20000 none none (some l) none []).shop.1 = 90) := Lib.hid (shop_log hbase (.inl hlo))
  have HDR : Hid (∀ W, Calls Tryz.prog 23 #[.string (str l)] W fun e w' => e = .returned (.tuple #[.int .u64 0, .slice none 0 0, .bool false]) ∧ Below W.heap.size W w') := Lib.hid fun W => (dread_any l hl W).mono fun e w' hh => by
    rcases hh with ⟨h1, ⟨f, g, oo, c, h2, _⟩ | ⟨_, he⟩⟩
    · rw [hlo] at h2; cases h2
    · exact ⟨he, h1⟩
  clear hZ hZ'
  clear hlo
  clear hbase
  generalize hyb : str b = yb at *
  generalize hyl : str l = yl at *
  have HYB := Lib.hid hyb
  have HYL := Lib.hid hyl
  clear hyb hyl
  go_enter Tryz.func4, Tryz.ntmps4
  go_wp2
  go_quiet (fail)
  have hb0 : Below w.heap.size w ((w.alloc (.cells #[.string yb, .string yl, .bool false, .bool true] 50)).drewN nq) := below_drewN ((Below.refl w.heap.size w).alloc (Nat.le_refl _) _) nq
  have HN0 := Lib.hid (H0.out _ hb0)
  have HB0 := Lib.hid hb0
  clear hb0
  go_wp2_with fail
  refine (lnew HN0.out 20000 (by decide) rfl).mono ?_
  rintro e w1 ⟨d, D1, rfl, g, h, a, x, b1⟩
  have S1 : Hid (Dst Z w1 d 20000 none none none none 0) := Lib.hid ⟨_, _, _, h, a, rfl, rfl, Nat.le_refl _⟩
  have O1 : Hid (Only (Off Z) w w1) := Lib.hid (Off.tr (Only.of_below HB0.out) (Only.of_below b1))
  clear g h a x b1
  go_wp2_with fail
  refine (dst_makel S1.out (by have := HBL.out; omega)).mono ?_
  rintro e w2 ⟨rfl, hh, ho⟩
  have S2 := Lib.hid hh
  have O2 := Lib.hid (Off.tr O1.out ho)
  clear hh ho
  go_wp2_with fail
  refine (dst_appl S2.out (by have := HBL.out; omega) l (by show 0 + 0 + 0 + 0 + l.length ≤ 20000; have := HBL.out; have := HLL.out; omega) (by have := HLL.out; omega) HYL.out.symm).mono ?_
  rintro e w3 ⟨rfl, hh, ho⟩
  have S3 := Lib.hid hh
  have O3 := Lib.hid (Off.tr O2.out ho)
  clear hh ho
  go_wp2_with fail
  refine (dst_sync S3.out (by have := HBL.out; have := HLL.out; omega)).mono ?_
  rintro e w4 ⟨rfl, hh, ho⟩
  have S4 := Lib.hid hh
  have O4 := Lib.hid (Off.tr O3.out ho)
  clear hh ho
  go_wp2_with fail
  refine (lop90 (show ∃ D J, Hold Z w4 D J ∧ D d = some (s4 20000 none none (some l) none []) from S4.out) HRB.out HRL.out HS90.out).mono ?_
  rintro e w5 ⟨rfl, ho⟩
  have O5 := Lib.hid (Off.tr O4.out ho)
  clear ho
  have B5 : Hid (Below w5.heap.size w5 w5) := Lib.hid (Below.refl _ _)
  go_wp2_with fail
  refine (HDR.out _).mono ?_
  rintro e w6 ⟨rfl, hb⟩
  have B6 := Lib.hid (B5.out.trans (hb.mono B5.out.size))
  clear hb
  go_wp2_with fail
  refine (head_any _).mono ?_
  rintro e w99 ⟨rfl, hb⟩
  have B99 := Lib.hid (B6.out.trans (hb.mono B6.out.size))
  clear hb
  go_wp2
  go_ret
  exact ⟨rfl, (Off.tr O5.out (Only.of_below B99.out)).belowZ HZ.out (Nat.le_refl _)⟩

theorem junk_xf (w : World) (b l : List UInt8) (hb : b.length ≤ 1000) (hl : l.length ≤ 1000) (first : Nat) (E : List (List UInt8)) (hlo : fnum (scan l) = some first) (hE : (scan l).drop 1 = E) (hoff : 0 < first) :
    Calls Tryz.prog 4 #[.agg #[.string (str b), .string (str l), .bool false, .bool true]] w fun e w' => e = .returned (.bool true) ∧ Below w.heap.size w w' := by
  have hsb : (str b).size = b.length := str_size b
  have hsl : (str l).size = l.length := str_size l
  obtain ⟨Z, hZ⟩ : ∃ Z : Nat → Prop, Z = fun i => i < w.heap.size := ⟨_, rfl⟩
  have H0 : Hid (∀ W : World, Below w.heap.size w W → Hold Z W (fun _ => none) fun _ => none) := Lib.hid fun W hb => Hold.none_ W Z fun i hi => by subst hZ; exact Nat.lt_of_lt_of_le hi hb.size
  have hZ' : ∀ i, i < w.heap.size → Z i := fun i hi => by subst hZ; exact hi
  have HZ := Lib.hid hZ'
  have HRB : Hid (l1 none ≤ 2000) := Lib.hid (by show 0 ≤ 2000; omega)
  have HRL : Hid (l1 (some l) ≤ 2000) := Lib.hid (by show l.length ≤ 2000; omega)
  have HBL : Hid (b.length ≤ 1000) := Lib.hid hb
  have HLL : Hid (l.length ≤ 1000) := Lib.hid hl
  obtain ⟨hform, hfl⟩ := fnum_form hlo
  rw [hE] at hform
  have hEl : E.length ≤ 50 := by rw [← hE, List.length_drop]; have := scan_count l hl; omega
  have hEn : (scan l).length - 1 = E.length := by rw [← hE, List.length_drop]
  have hEs : ∀ s ∈ E, s.length ≤ 262144 := fun s hs => by have := scan_small l hl s (by rw [hform]; simp [hs]); omega
  have hbase : (s4 20000 none none (some l) none []).base = (0, 0, []) := base_none (s4_now 20000 none none (some l) none)
  have HS90 : Hid ((s4 20000 none none (some l) none []).shop.1 = 90) := Lib.hid (shop_log hbase (.inr ⟨first, hlo, .inl hoff⟩))
  have HDR : Hid (∀ W, Calls Tryz.prog 23 #[.string (str l)] W fun e w' => ∃ g oo c, e = .returned (.tuple #[.int .u64 (first : Int), .slice (some ⟨g, oo, none⟩) E.length c, .bool true]) ∧ W.heap.size ≤ g ∧ g < w'.heap.size ∧ Strs w' (.slice (some ⟨g, oo, none⟩) E.length c) E ∧ Below W.heap.size W w') := Lib.hid fun W => (dread_any l hl W).mono fun e w' hh => by
    rcases hh with ⟨h1, ⟨f, g, oo, c, h2, h3, h4, he, h5⟩ | ⟨h2, _⟩⟩
    · rw [hlo] at h2; cases h2
      rw [hEn] at he h5
      rw [hE] at h5
      exact ⟨g, oo, c, he, h3, h4, h5, h1⟩
    · rw [hlo] at h2; cases h2
  obtain ⟨m, hm⟩ : ∃ m, (first + E.length) % 18446744073709551616 = m := ⟨_, rfl⟩
  have hwr : IntKind.u64.wrap ((first : Int) + (E.length : Int)) = (m : Int) := by simp only [IntKind.wrap_u64]; omega
  have d1 : decide ((first : Int) ≤ (0 : Int)) = false := decide_eq_false (by omega)
  have c1 : decide (first ≤ 0) = false := decide_eq_false (by omega)
  clear hm
  clear hZ hZ'
  clear hlo
  clear hE
  clear hform
  clear hEn
  clear hEs
  clear hbase
  generalize hyb : str b = yb at *
  generalize hyl : str l = yl at *
  have HYB := Lib.hid hyb
  have HYL := Lib.hid hyl
  clear hyb hyl
  go_enter Tryz.func4, Tryz.ntmps4
  go_wp2
  go_quiet (fail)
  have hb0 : Below w.heap.size w ((w.alloc (.cells #[.string yb, .string yl, .bool false, .bool true] 50)).drewN nq) := below_drewN ((Below.refl w.heap.size w).alloc (Nat.le_refl _) _) nq
  have HN0 := Lib.hid (H0.out _ hb0)
  have HB0 := Lib.hid hb0
  clear hb0
  go_wp2_with fail
  refine (lnew HN0.out 20000 (by decide) rfl).mono ?_
  rintro e w1 ⟨d, D1, rfl, g, h, a, x, b1⟩
  have S1 : Hid (Dst Z w1 d 20000 none none none none 0) := Lib.hid ⟨_, _, _, h, a, rfl, rfl, Nat.le_refl _⟩
  have O1 : Hid (Only (Off Z) w w1) := Lib.hid (Off.tr (Only.of_below HB0.out) (Only.of_below b1))
  clear g h a x b1
  go_wp2_with fail
  refine (dst_makel S1.out (by have := HBL.out; omega)).mono ?_
  rintro e w2 ⟨rfl, hh, ho⟩
  have S2 := Lib.hid hh
  have O2 := Lib.hid (Off.tr O1.out ho)
  clear hh ho
  go_wp2_with fail
  refine (dst_appl S2.out (by have := HBL.out; omega) l (by show 0 + 0 + 0 + 0 + l.length ≤ 20000; have := HBL.out; have := HLL.out; omega) (by have := HLL.out; omega) HYL.out.symm).mono ?_
  rintro e w3 ⟨rfl, hh, ho⟩
  have S3 := Lib.hid hh
  have O3 := Lib.hid (Off.tr O2.out ho)
  clear hh ho
  go_wp2_with fail
  refine (dst_sync S3.out (by have := HBL.out; have := HLL.out; omega)).mono ?_
  rintro e w4 ⟨rfl, hh, ho⟩
  have S4 := Lib.hid hh
  have O4 := Lib.hid (Off.tr O3.out ho)
  clear hh ho
  go_wp2_with fail
  refine (lop90 (show ∃ D J, Hold Z w4 D J ∧ D d = some (s4 20000 none none (some l) none []) from S4.out) HRB.out HRL.out HS90.out).mono ?_
  rintro e w5 ⟨rfl, ho⟩
  have O5 := Lib.hid (Off.tr O4.out ho)
  clear ho
  have B5 : Hid (Below w5.heap.size w5 w5) := Lib.hid (Below.refl _ _)
  go_wp2_with fail
  refine (HDR.out _).mono ?_
  rintro e w6 ⟨g, oo, c, rfl, _, _, hst, hb⟩
  have B6 := Lib.hid (B5.out.trans (hb.mono B5.out.size))
  clear hb
  clear hst
  go_wp2_with fail
  refine (head_any _).mono ?_
  rintro e w99 ⟨rfl, hb⟩
  have B99 := Lib.hid (B6.out.trans (hb.mono B6.out.size))
  clear hb
  go_wp2
  go_ret
  exact ⟨rfl, (Off.tr O5.out (Only.of_below B99.out)).belowZ HZ.out (Nat.le_refl _)⟩

theorem junk_xo (w : World) (b l : List UInt8) (hb : b.length ≤ 1000) (hl : l.length ≤ 1000) (E : List (List UInt8)) (hlo : fnum (scan l) = some 0) (hE : (scan l).drop 1 = E) :
    Calls Tryz.prog 4 #[.agg #[.string (str b), .string (str l), .bool false, .bool true]] w fun e w' => e = .returned (.bool true) ∧ Below w.heap.size w w' := by
  have hsb : (str b).size = b.length := str_size b
  have hsl : (str l).size = l.length := str_size l
  obtain ⟨Z, hZ⟩ : ∃ Z : Nat → Prop, Z = fun i => i < w.heap.size := ⟨_, rfl⟩
  have H0 : Hid (∀ W : World, Below w.heap.size w W → Hold Z W (fun _ => none) fun _ => none) := Lib.hid fun W hb => Hold.none_ W Z fun i hi => by subst hZ; exact Nat.lt_of_lt_of_le hi hb.size
  have hZ' : ∀ i, i < w.heap.size → Z i := fun i hi => by subst hZ; exact hi
  have HZ := Lib.hid hZ'
  have HRB : Hid (l1 none ≤ 2000) := Lib.hid (by show 0 ≤ 2000; omega)
  have HRL : Hid (l1 (some l) ≤ 2000) := Lib.hid (by show l.length ≤ 2000; omega)
  have HBL : Hid (b.length ≤ 1000) := Lib.hid hb
  have HLL : Hid (l.length ≤ 1000) := Lib.hid hl
  obtain ⟨hform, hfl⟩ := fnum_form hlo
  rw [hE] at hform
  have hEl : E.length ≤ 50 := by rw [← hE, List.length_drop]; have := scan_count l hl; omega
  have hEn : (scan l).length - 1 = E.length := by rw [← hE, List.length_drop]
  have hEs : ∀ s ∈ E, s.length ≤ 262144 := fun s hs => by have := scan_small l hl s (by rw [hform]; simp [hs]); omega
  have HF : Hid (Fine none (some l) 0 [] 0 E) := Lib.hid ⟨.inl ⟨rfl, rfl, rfl⟩, by omega, by have := Lib.uvarint_length64 (x := 0) (by omega); rw [List.length_append]; show _ + 0 ≤ _; omega, .inr ⟨l, rfl, hform⟩, hEs, Nat.le_refl _, Nat.zero_le _, by omega⟩
  have HDR : Hid (∀ W, Calls Tryz.prog 23 #[.string (str l)] W fun e w' => ∃ g oo c, e = .returned (.tuple #[.int .u64 0, .slice (some ⟨g, oo, none⟩) E.length c, .bool true]) ∧ W.heap.size ≤ g ∧ g < w'.heap.size ∧ Strs w' (.slice (some ⟨g, oo, none⟩) E.length c) E ∧ Below W.heap.size W w') := Lib.hid fun W => (dread_any l hl W).mono fun e w' hh => by
    rcases hh with ⟨h1, ⟨f, g, oo, c, h2, h3, h4, he, h5⟩ | ⟨h2, _⟩⟩
    · rw [hlo] at h2; cases h2
      rw [hEn] at he h5
      rw [hE] at h5
      exact ⟨g, oo, c, he, h3, h4, h5, h1⟩
    · rw [hlo] at h2; cases h2
  clear hZ hZ'
  clear hlo
  clear hE
  clear hform
  clear hEn
  clear hEs
  generalize hyb : str b = yb at *
  generalize hyl : str l = yl at *
  have HYB := Lib.hid hyb
  have HYL := Lib.hid hyl
  clear hyb hyl
  go_enter Tryz.func4, Tryz.ntmps4
  go_wp2
  go_quiet (fail)
  have hb0 : Below w.heap.size w ((w.alloc (.cells #[.string yb, .string yl, .bool false, .bool true] 50)).drewN nq) := below_drewN ((Below.refl w.heap.size w).alloc (Nat.le_refl _) _) nq
  have HN0 := Lib.hid (H0.out _ hb0)
  have HB0 := Lib.hid hb0
  clear hb0
  go_wp2_with fail
  refine (lnew HN0.out 20000 (by decide) rfl).mono ?_
  rintro e w1 ⟨d, D1, rfl, g, h, a, x, b1⟩
  have S1 : Hid (Dst Z w1 d 20000 none none none none 0) := Lib.hid ⟨_, _, _, h, a, rfl, rfl, Nat.le_refl _⟩
  have O1 : Hid (Only (Off Z) w w1) := Lib.hid (Off.tr (Only.of_below HB0.out) (Only.of_below b1))
  clear g h a x b1
  go_wp2_with fail
  refine (dst_makel S1.out (by have := HBL.out; omega)).mono ?_
  rintro e w2 ⟨rfl, hh, ho⟩
  have S2 := Lib.hid hh
  have O2 := Lib.hid (Off.tr O1.out ho)
  clear hh ho
  go_wp2_with fail
  refine (dst_appl S2.out (by have := HBL.out; omega) l (by show 0 + 0 + 0 + 0 + l.length ≤ 20000; have := HBL.out; have := HLL.out; omega) (by have := HLL.out; omega) HYL.out.symm).mono ?_
  rintro e w3 ⟨rfl, hh, ho⟩
  have S3 := Lib.hid hh
  have O3 := Lib.hid (Off.tr O2.out ho)
  clear hh ho
  go_wp2_with fail
  refine (dst_sync S3.out (by have := HBL.out; have := HLL.out; omega)).mono ?_
  rintro e w4 ⟨rfl, hh, ho⟩
  have S4 := Lib.hid hh
  have O4 := Lib.hid (Off.tr O3.out ho)
  clear hh ho
  go_wp2_with fail
  refine (lop1 (show ∃ D J, Hold Z w4 D J ∧ D d = some (s4 20000 none none (some l) none []) from S4.out) HRB.out HRL.out HF.out).mono ?_
  rintro e w5 ⟨s, rfl, hh, ho⟩
  have S5 := Lib.hid hh
  have O5 := Lib.hid (Off.tr O4.out ho)
  clear hh ho
  have B5 : Hid (Below w5.heap.size w5 w5) := Lib.hid (Below.refl _ _)
  go_wp2_with fail
  refine (HDR.out _).mono ?_
  rintro e w6 ⟨g, oo, c, rfl, hg1, hg2, hst, hb⟩
  have B6 := Lib.hid (B5.out.trans (hb.mono B5.out.size))
  clear hb
  have HG1 : Hid (w5.heap.size ≤ g) := Lib.hid (Nat.le_trans B5.out.size hg1)
  have HG2 := Lib.hid hg2
  have HST := Lib.hid hst
  obtain ⟨_, _, e9, hlc, hcm, _⟩ := id hst
  injection e9 with e1 e2 e3
  subst e3
  clear e1 e2 hg1 hg2 hst
  unfold maxLen at hcm
  have hcc : 0 < c ∨ c = 0 := by omega
  have SG := Lib.hid (S5.out.grow B6.out)
  go_wp2_with fail
  refine (lop2 SG.out HRB.out HRL.out HF.out).mono ?_
  rintro e wa ⟨r, rfl, h1, h2, ho⟩
  have Sa := Lib.hid h1
  have Ra := Lib.hid h2
  have Oa := Lib.hid ho
  have Ta : Hid (Strs wa (.slice (some ⟨g, oo, none⟩) E.length c) (E.drop 0)) := Lib.hid (by simpa using Strs.off HST.out Oa.out fun A n c e => by cases e; exact .inr ⟨HG1.out, HG2.out⟩)
  clear h1 h2 ho
  go_wp2_with fail
  refine (lis Sa.out HRL.out HF.out 0 rfl _ Ta.out rfl rfl).mono ?_
  rintro e wb ⟨rfl, hb⟩
  have Rb := Lib.hid (Ra.out.below hb)
  have Tb := Lib.hid (Ta.out.below hb)
  have Bb := Lib.hid hb
  clear hb
  go_wp2_with fail
  refine (lis Rb.out HRL.out HF.out 0 rfl _ Tb.out rfl rfl).mono ?_
  rintro e wc ⟨rfl, hb⟩
  have Bc := Lib.hid (Bb.out.trans (hb.mono Bb.out.size))
  clear hb
  go_wp2_with fail
  refine (head_any _).mono ?_
  rintro e wd ⟨rfl, hb⟩
  have Bd := Lib.hid (Bc.out.trans (hb.mono Bc.out.size))
  clear hb
  go_wp2
  go_ret
  have hz1 : Only (Off Z) w5 wa := Only.mono (off_trA (Only.of_below B6.out) Oa.out) fun i hi hh => hh
  exact ⟨rfl, (Off.tr (Off.tr O5.out hz1) (Only.of_below Bd.out)).belowZ HZ.out (Nat.le_refl _)⟩
end Go.Proofs.YtmaohncddjhgeaaGreat.gn
end
section
set_option linter.unusedVariables false
set_option linter.unusedSectionVars false
namespace Go.Proofs.YtmaohncddjhgeaaGreat.gn
open Go.RowKit
open Go.Proofs.YtmaohncddjhgeaaGreat.fi

set_option maxRecDepth 100000
set_option maxHeartbeats 8000000
theorem off_trB {Z Z1 : Nat → Prop} {a b c : World} (h : Only (Off Z) a b) (k : Only (Off Z1) b c) (hz : ∀ i, Z i → Z1 i := by intro i hi; exact .inl (.inl hi)) : Only (Off Z) a c := h.trans k fun i _ hi hn => hi (hz i hn)
theorem junk_nx (w : World) (b l : List UInt8) (hb : b.length ≤ 1000) (hl : l.length ≤ 1000) (hbo : own b = none) :
    Calls Tryz.prog 4 #[.agg #[.string (str b), .string (str l), .bool true, .bool false]] w fun e w' => e = .returned (.bool true) ∧ Below w.heap.size w w' := by
  have hsb : (str b).size = b.length := str_size b
  have hsl : (str l).size = l.length := str_size l
  obtain ⟨Z, hZ⟩ : ∃ Z : Nat → Prop, Z = fun i => i < w.heap.size := ⟨_, rfl⟩
  have H0 : Hid (∀ W : World, Below w.heap.size w W → Hold Z W (fun _ => none) fun _ => none) := Lib.hid fun W hb => Hold.none_ W Z fun i hi => by subst hZ; exact Nat.lt_of_lt_of_le hi hb.size
  have hZ' : ∀ i, i < w.heap.size → Z i := fun i hi => by subst hZ; exact hi
  have HZ := Lib.hid hZ'
  have HRB : Hid (l1 (some b) ≤ 2000) := Lib.hid (by show b.length ≤ 2000; omega)
  have HRL : Hid (l1 none ≤ 2000) := Lib.hid (by show 0 ≤ 2000; omega)
  have HBL : Hid (b.length ≤ 1000) := Lib.hid hb
  have HLL : Hid (l.length ≤ 1000) := Lib.hid hl
  have HS90 : Hid ((s4 20000 (some b) none none none []).shop.1 = 90) := Lib.hid (shop_base (.inl hbo))
  have HOF := Lib.hid (fun W => of_any b hb W)
  rw [hbo] at HOF
  have HOF : Hid (∀ W, Calls Tryz.prog 21 #[.string (str b)] W (Asks (.tuple #[.string ⟨#[]⟩, .bool false]) W)) := Lib.hid HOF.out
  have HRN : Hid (∀ W, Calls Tryz.prog 22 #[.string ⟨#[]⟩] W fun e w' => e = .returned (.tuple #[.int .u64 0, .int .i64 0]) ∧ W = w') := Lib.hid fun W => (show Calls Tryz.prog 22 #[.string (str [])] W _ from ref_any [] (by simp) W).mono fun e w' hh => by
    rcases hh with ⟨h1, ⟨n, k, _, hk1, hk2, _⟩ | ⟨_, he⟩⟩
    · exact absurd hk2 (by show ¬ k ≤ 0; omega)
    · exact ⟨he, h1⟩
  clear hZ hZ'
  clear hbo
  generalize hyb : str b = yb at *
  generalize hyl : str l = yl at *
  have HYB := Lib.hid hyb
  have HYL := Lib.hid hyl
  clear hyb hyl
  go_enter Tryz.func4, Tryz.ntmps4
  go_wp2
  go_quiet (fail)
  have hb0 : Below w.heap.size w ((w.alloc (.cells #[.string yb, .string yl, .bool true, .bool false] 50)).drewN nq) := below_drewN ((Below.refl w.heap.size w).alloc (Nat.le_refl _) _) nq
  have HN0 := Lib.hid (H0.out _ hb0)
  have HB0 := Lib.hid hb0
  clear hb0
  go_wp2_with fail
  refine (lnew HN0.out 20000 (by decide) rfl).mono ?_
  rintro e w1 ⟨d, D1, rfl, g, h, a, x, b1⟩
  have S1 : Hid (Dst Z w1 d 20000 none none none none 0) := Lib.hid ⟨_, _, _, h, a, rfl, rfl, Nat.le_refl _⟩
  have O1 : Hid (Only (Off Z) w w1) := Lib.hid (Off.tr (Only.of_below HB0.out) (Only.of_below b1))
  clear g h a x b1
  go_wp2_with fail
  refine (dst_makeb S1.out (by omega)).mono ?_
  rintro e w2 ⟨rfl, hh, ho⟩
  have S2 := Lib.hid hh
  have O2 := Lib.hid (Off.tr O1.out ho)
  clear hh ho
  go_wp2_with fail
  refine (dst_appb S2.out (by omega) b (by show 0 + 0 + 0 + 0 + b.length ≤ 20000; have := HBL.out; omega) (by have := HBL.out; omega) HYB.out.symm).mono ?_
  rintro e w3 ⟨rfl, hh, ho⟩
  have S3 := Lib.hid hh
  have O3 := Lib.hid (Off.tr O2.out ho)
  clear hh ho
  go_wp2_with fail
  refine (dst_sync S3.out (by have := HBL.out; have := HLL.out; omega)).mono ?_
  rintro e w4 ⟨rfl, hh, ho⟩
  have S4 := Lib.hid hh
  have O4 := Lib.hid (Off.tr O3.out ho)
  clear hh ho
  go_wp2_with fail
  refine (lop90 (show ∃ D J, Hold Z w4 D J ∧ D d = some (s4 20000 (some b) none none none []) from S4.out) HRB.out HRL.out HS90.out).mono ?_
  rintro e w5 ⟨rfl, ho⟩
  have O5 := Lib.hid (Off.tr O4.out ho)
  clear ho
  have B5 : Hid (Below w5.heap.size w5 w5) := Lib.hid (Below.refl _ _)
  go_wp2_with fail
  refine (HOF.out _).mono ?_
  rintro e w6 ⟨rfl, hb⟩
  have B6 := Lib.hid (B5.out.trans (hb.mono B5.out.size))
  clear hb
  go_wp2_with fail
  refine (HRN.out _).mono ?_
  rintro e w99 ⟨rfl, rfl⟩
  go_wp2_with fail
  refine (head_any _).mono ?_
  rintro e w99 ⟨rfl, hb⟩
  have B99 := Lib.hid (B6.out.trans (hb.mono B6.out.size))
  clear hb
  go_wp2
  go_ret
  exact ⟨rfl, (Off.tr O5.out (Only.of_below B99.out)).belowZ HZ.out (Nat.le_refl _)⟩

theorem junk_nn (w : World) (b l : List UInt8) (hb : b.length ≤ 1000) (hl : l.length ≤ 1000) (hbo : own b = none) (hlo : fnum (scan l) = none) :
    Calls Tryz.prog 4 #[.agg #[.string (str b), .string (str l), .bool true, .bool true]] w fun e w' => e = .returned (.bool true) ∧ Below w.heap.size w w' := by
  have hsb : (str b).size = b.length := str_size b
  have hsl : (str l).size = l.length := str_size l
  obtain ⟨Z, hZ⟩ : ∃ Z : Nat → Prop, Z = fun i => i < w.heap.size := ⟨_, rfl⟩
  have H0 : Hid (∀ W : World, Below w.heap.size w W → Hold Z W (fun _ => none) fun _ => none) := Lib.hid fun W hb => Hold.none_ W Z fun i hi => by subst hZ; exact Nat.lt_of_lt_of_le hi hb.size
  have hZ' : ∀ i, i < w.heap.size → Z i := fun i hi => by subst hZ; exact hi
  have HZ := Lib.hid hZ'
  have HRB : Hid (l1 (some b) ≤ 2000) := Lib.hid (by show b.length ≤ 2000; omega)
  have HRL : Hid (l1 (some l) ≤ 2000) := Lib.hid (by show l.length ≤ 2000; omega)
  have HBL : Hid (b.length ≤ 1000) := Lib.hid hb
  have HLL : Hid (l.length ≤ 1000) := Lib.hid hl
  have HS90 : Hid ((s4 20000 (some b) none (some l) none []).shop.1 = 90) := Lib.hid (shop_base (.inl hbo))
  have HOF := Lib.hid (fun W => of_any b hb W)
  rw [hbo] at HOF
  have HOF : Hid (∀ W, Calls Tryz.prog 21 #[.string (str b)] W (Asks (.tuple #[.string ⟨#[]⟩, .bool false]) W)) := Lib.hid HOF.out
  have HRN : Hid (∀ W, Calls Tryz.prog 22 #[.string ⟨#[]⟩] W fun e w' => e = .returned (.tuple #[.int .u64 0, .int .i64 0]) ∧ W = w') := Lib.hid fun W => (show Calls Tryz.prog 22 #[.string (str [])] W _ from ref_any [] (by simp) W).mono fun e w' hh => by
    rcases hh with ⟨h1, ⟨n, k, _, hk1, hk2, _⟩ | ⟨_, he⟩⟩
    · exact absurd hk2 (by show ¬ k ≤ 0; omega)
    · exact ⟨he, h1⟩
  have HDR : Hid (∀ W, Calls Tryz.prog 23 #[.string (str l)] W fun e w' => e = .returned (.tuple #[.int .u64 0, .slice none 0 0, .bool false]) ∧ Below W.heap.size W w') := Lib.hid fun W => (dread_any l hl W).mono fun e w' hh => by
    rcases hh with ⟨h1, ⟨f, g, oo, c, h2, _⟩ | ⟨_, he⟩⟩
    · rw [hlo] at h2; cases h2
    · exact ⟨he, h1⟩
  clear hZ hZ'
  clear hbo
  clear hlo
  generalize hyb : str b = yb at *
  generalize hyl : str l = yl at *
  have HYB := Lib.hid hyb
  have HYL := Lib.hid hyl
  clear hyb hyl
  go_enter Tryz.func4, Tryz.ntmps4
  go_wp2
  go_quiet (fail)
  have hb0 : Below w.heap.size w ((w.alloc (.cells #[.string yb, .string yl, .bool true, .bool true] 50)).drewN nq) := below_drewN ((Below.refl w.heap.size w).alloc (Nat.le_refl _) _) nq
  have HN0 := Lib.hid (H0.out _ hb0)
  have HB0 := Lib.hid hb0
  clear hb0
  go_wp2_with fail
  refine (lnew HN0.out 20000 (by decide) rfl).mono ?_
  rintro e w1 ⟨d, D1, rfl, g, h, a, x, b1⟩
  have S1 : Hid (Dst Z w1 d 20000 none none none none 0) := Lib.hid ⟨_, _, _, h, a, rfl, rfl, Nat.le_refl _⟩
  have O1 : Hid (Only (Off Z) w w1) := Lib.hid (Off.tr (Only.of_below HB0.out) (Only.of_below b1))
  clear g h a x b1
  go_wp2_with fail
  refine (dst_makeb S1.out (by omega)).mono ?_
  rintro e w2 ⟨rfl, hh, ho⟩
  have S2 := Lib.hid hh
  have O2 := Lib.hid (Off.tr O1.out ho)
  clear hh ho
  go_wp2_with fail
  refine (dst_appb S2.out (by omega) b (by show 0 + 0 + 0 + 0 + b.length ≤ 20000; have := HBL.out; omega) (by have := HBL.out; omega) HYB.out.symm).mono ?_
  rintro e w3 ⟨rfl, hh, ho⟩
  have S3 := Lib.hid hh
  have O3 := Lib.hid (Off.tr O2.out ho)
  clear hh ho
  go_wp2_with fail
  refine (dst_makel S3.out (by have := HBL.out; omega)).mono ?_
  rintro e w4 ⟨rfl, hh, ho⟩
  have S4 := Lib.hid hh
  have O4 := Lib.hid (Off.tr O3.out ho)
  clear hh ho
  go_wp2_with fail
  refine (dst_appl S4.out (by have := HBL.out; omega) l (by show b.length + 0 + 0 + 0 + l.length ≤ 20000; have := HBL.out; have := HLL.out; omega) (by have := HLL.out; omega) HYL.out.symm).mono ?_
  rintro e w5 ⟨rfl, hh, ho⟩
  have S5 := Lib.hid hh
  have O5 := Lib.hid (Off.tr O4.out ho)
  clear hh ho
  go_wp2_with fail
  refine (dst_sync S5.out (by have := HBL.out; have := HLL.out; omega)).mono ?_
  rintro e w6 ⟨rfl, hh, ho⟩
  have S6 := Lib.hid hh
  have O6 := Lib.hid (Off.tr O5.out ho)
  clear hh ho
  go_wp2_with fail
  refine (lop90 (show ∃ D J, Hold Z w6 D J ∧ D d = some (s4 20000 (some b) none (some l) none []) from S6.out) HRB.out HRL.out HS90.out).mono ?_
  rintro e w7 ⟨rfl, ho⟩
  have O7 := Lib.hid (Off.tr O6.out ho)
  clear ho
  have B7 : Hid (Below w7.heap.size w7 w7) := Lib.hid (Below.refl _ _)
  go_wp2_with fail
  refine (HOF.out _).mono ?_
  rintro e w8 ⟨rfl, hb⟩
  have B8 := Lib.hid (B7.out.trans (hb.mono B7.out.size))
  clear hb
  go_wp2_with fail
  refine (HRN.out _).mono ?_
  rintro e w99 ⟨rfl, rfl⟩
  go_wp2_with fail
  refine (HDR.out _).mono ?_
  rintro e w9 ⟨rfl, hb⟩
  have B9 := Lib.hid (B8.out.trans (hb.mono B8.out.size))
  clear hb
  go_wp2_with fail
  refine (head_any _).mono ?_
  rintro e w99 ⟨rfl, hb⟩
  have B99 := Lib.hid (B9.out.trans (hb.mono B9.out.size))
  clear hb
  go_wp2
  go_ret
  exact ⟨rfl, (Off.tr O7.out (Only.of_below B99.out)).belowZ HZ.out (Nat.le_refl _)⟩

theorem junk_ns (w : World) (b l : List UInt8) (hb : b.length ≤ 1000) (hl : l.length ≤ 1000) (hbo : own b = none) (first : Nat) (E : List (List UInt8)) (hlo : fnum (scan l) = some first) (hE : (scan l).drop 1 = E) :
    Calls Tryz.prog 4 #[.agg #[.string (str b), .string (str l), .bool true, .bool true]] w fun e w' => e = .returned (.bool true) ∧ Below w.heap.size w w' := by
  have hsb : (str b).size = b.length := str_size b
  have hsl : (str l).size = l.length := str_size l
  obtain ⟨Z, hZ⟩ : ∃ Z : Nat → Prop, Z = fun i => i < w.heap.size := ⟨_, rfl⟩
  have H0 : Hid (∀ W : World, Below w.heap.size w W → Hold Z W (fun _ => none) fun _ => none) := Lib.hid fun W hb => Hold.none_ W Z fun i hi => by subst hZ; exact Nat.lt_of_lt_of_le hi hb.size
  have hZ' : ∀ i, i < w.heap.size → Z i := fun i hi => by subst hZ; exact hi
  have HZ := Lib.hid hZ'
  have HRB : Hid (l1 (some b) ≤ 2000) := Lib.hid (by show b.length ≤ 2000; omega)
  have HRL : Hid (l1 (some l) ≤ 2000) := Lib.hid (by show l.length ≤ 2000; omega)
  have HBL : Hid (b.length ≤ 1000) := Lib.hid hb
  have HLL : Hid (l.length ≤ 1000) := Lib.hid hl
  obtain ⟨hform, hfl⟩ := fnum_form hlo
  rw [hE] at hform
  have hEl : E.length ≤ 50 := by rw [← hE, List.length_drop]; have := scan_count l hl; omega
  have hEn : (scan l).length - 1 = E.length := by rw [← hE, List.length_drop]
  have hEs : ∀ s ∈ E, s.length ≤ 262144 := fun s hs => by have := scan_small l hl s (by rw [hform]; simp [hs]); omega
  have HS90 : Hid ((s4 20000 (some b) none (some l) none []).shop.1 = 90) := Lib.hid (shop_base (.inl hbo))
  have HOF := Lib.hid (fun W => of_any b hb W)
  rw [hbo] at HOF
  have HOF : Hid (∀ W, Calls Tryz.prog 21 #[.string (str b)] W (Asks (.tuple #[.string ⟨#[]⟩, .bool false]) W)) := Lib.hid HOF.out
  have HRN : Hid (∀ W, Calls Tryz.prog 22 #[.string ⟨#[]⟩] W fun e w' => e = .returned (.tuple #[.int .u64 0, .int .i64 0]) ∧ W = w') := Lib.hid fun W => (show Calls Tryz.prog 22 #[.string (str [])] W _ from ref_any [] (by simp) W).mono fun e w' hh => by
    rcases hh with ⟨h1, ⟨n, k, _, hk1, hk2, _⟩ | ⟨_, he⟩⟩
    · exact absurd hk2 (by show ¬ k ≤ 0; omega)
    · exact ⟨he, h1⟩
  have HDR : Hid (∀ W, Calls Tryz.prog 23 #[.string (str l)] W fun e w' => ∃ g oo c, e = .returned (.tuple #[.int .u64 (first : Int), .slice (some ⟨g, oo, none⟩) E.length c, .bool true]) ∧ W.heap.size ≤ g ∧ g < w'.heap.size ∧ Strs w' (.slice (some ⟨g, oo, none⟩) E.length c) E ∧ Below W.heap.size W w') := Lib.hid fun W => (dread_any l hl W).mono fun e w' hh => by
    rcases hh with ⟨h1, ⟨f, g, oo, c, h2, h3, h4, he, h5⟩ | ⟨h2, _⟩⟩
    · rw [hlo] at h2; cases h2
      rw [hEn] at he h5
      rw [hE] at h5
      exact ⟨g, oo, c, he, h3, h4, h5, h1⟩
    · rw [hlo] at h2; cases h2
  clear hZ hZ'
  clear hbo
  clear hlo
  clear hE
  clear hform
  clear hEn
  clear hEs
  generalize hyb : str b = yb at *
  generalize hyl : str l = yl at *
  have HYB := Lib.hid hyb
  have HYL := Lib.hid hyl
  clear hyb hyl
  go_enter Tryz.func4, Tryz.ntmps4
  go_wp2
  go_quiet (fail)
  have hb0 : Below w.heap.size w ((w.alloc (.cells #[.string yb, .string yl, .bool true, .bool true] 50)).drewN nq) := below_drewN ((Below.refl w.heap.size w).alloc (Nat.le_refl _) _) nq
  have HN0 := Lib.hid (H0.out _ hb0)
  have HB0 := Lib.hid hb0
  clear hb0
  go_wp2_with fail
  refine (lnew HN0.out 20000 (by decide) rfl).mono ?_
  rintro e w1 ⟨d, D1, rfl, g, h, a, x, b1⟩
  have S1 : Hid (Dst Z w1 d 20000 none none none none 0) := Lib.hid ⟨_, _, _, h, a, rfl, rfl, Nat.le_refl _⟩
  have O1 : Hid (Only (Off Z) w w1) := Lib.hid (Off.tr (Only.of_below HB0.out) (Only.of_below b1))
  clear g h a x b1
  go_wp2_with fail
  refine (dst_makeb S1.out (by omega)).mono ?_
  rintro e w2 ⟨rfl, hh, ho⟩
  have S2 := Lib.hid hh
  have O2 := Lib.hid (Off.tr O1.out ho)
  clear hh ho
  go_wp2_with fail
  refine (dst_appb S2.out (by omega) b (by show 0 + 0 + 0 + 0 + b.length ≤ 20000; have := HBL.out; omega) (by have := HBL.out; omega) HYB.out.symm).mono ?_
  rintro e w3 ⟨rfl, hh, ho⟩
  have S3 := Lib.hid hh
  have O3 := Lib.hid (Off.tr O2.out ho)
  clear hh ho
  go_wp2_with fail
  refine (dst_makel S3.out (by have := HBL.out; omega)).mono ?_
  rintro e w4 ⟨rfl, hh, ho⟩
  have S4 := Lib.hid hh
  have O4 := Lib.hid (Off.tr O3.out ho)
  clear hh ho
  go_wp2_with fail
  refine (dst_appl S4.out (by have := HBL.out; omega) l (by show b.length + 0 + 0 + 0 + l.length ≤ 20000; have := HBL.out; have := HLL.out; omega) (by have := HLL.out; omega) HYL.out.symm).mono ?_
  rintro e w5 ⟨rfl, hh, ho⟩
  have S5 := Lib.hid hh
  have O5 := Lib.hid (Off.tr O4.out ho)
  clear hh ho
  go_wp2_with fail
  refine (dst_sync S5.out (by have := HBL.out; have := HLL.out; omega)).mono ?_
  rintro e w6 ⟨rfl, hh, ho⟩
  have S6 := Lib.hid hh
  have O6 := Lib.hid (Off.tr O5.out ho)
  clear hh ho
  go_wp2_with fail
  refine (lop90 (show ∃ D J, Hold Z w6 D J ∧ D d = some (s4 20000 (some b) none (some l) none []) from S6.out) HRB.out HRL.out HS90.out).mono ?_
  rintro e w7 ⟨rfl, ho⟩
  have O7 := Lib.hid (Off.tr O6.out ho)
  clear ho
  have B7 : Hid (Below w7.heap.size w7 w7) := Lib.hid (Below.refl _ _)
  go_wp2_with fail
  refine (HOF.out _).mono ?_
  rintro e w8 ⟨rfl, hb⟩
  have B8 := Lib.hid (B7.out.trans (hb.mono B7.out.size))
  clear hb
  go_wp2_with fail
  refine (HRN.out _).mono ?_
  rintro e w99 ⟨rfl, rfl⟩
  go_wp2_with fail
  refine (HDR.out _).mono ?_
  rintro e w9 ⟨g, oo, c, rfl, _, _, hst, hb⟩
  have B9 := Lib.hid (B8.out.trans (hb.mono B8.out.size))
  clear hb
  clear hst
  go_wp2_with fail
  refine (head_any _).mono ?_
  rintro e w99 ⟨rfl, hb⟩
  have B99 := Lib.hid (B9.out.trans (hb.mono B9.out.size))
  clear hb
  go_wp2
  go_ret
  exact ⟨rfl, (Off.tr O7.out (Only.of_below B99.out)).belowZ HZ.out (Nat.le_refl _)⟩

theorem junk_bx (w : World) (b l : List UInt8) (hb : b.length ≤ 1000) (hl : l.length ≤ 1000) (u : List UInt8) (hbo : own b = some u) (hbu : rd u = none) :
    Calls Tryz.prog 4 #[.agg #[.string (str b), .string (str l), .bool true, .bool false]] w fun e w' => e = .returned (.bool true) ∧ Below w.heap.size w w' := by
  have hsb : (str b).size = b.length := str_size b
  have hsl : (str l).size = l.length := str_size l
  obtain ⟨Z, hZ⟩ : ∃ Z : Nat → Prop, Z = fun i => i < w.heap.size := ⟨_, rfl⟩
  have H0 : Hid (∀ W : World, Below w.heap.size w W → Hold Z W (fun _ => none) fun _ => none) := Lib.hid fun W hb => Hold.none_ W Z fun i hi => by subst hZ; exact Nat.lt_of_lt_of_le hi hb.size
  have hZ' : ∀ i, i < w.heap.size → Z i := fun i hi => by subst hZ; exact hi
  have HZ := Lib.hid hZ'
  have HRB : Hid (l1 (some b) ≤ 2000) := Lib.hid (by show b.length ≤ 2000; omega)
  have HRL : Hid (l1 none ≤ 2000) := Lib.hid (by show 0 ≤ 2000; omega)
  have HBL : Hid (b.length ≤ 1000) := Lib.hid hb
  have HLL : Hid (l.length ≤ 1000) := Lib.hid hl
  have HS90 : Hid ((s4 20000 (some b) none none none []).shop.1 = 90) := Lib.hid (shop_base (.inr ⟨u, hbo, hbu⟩))
  have HOF := Lib.hid (fun W => of_any b hb W)
  rw [hbo] at HOF
  have hul : u.length ≤ 1000 := by have h1 := (own_some hbo).2; have h2 := congrArg List.length h1; rw [frame_len] at h2; omega
  have HOF : Hid (∀ W, Calls Tryz.prog 21 #[.string (str b)] W (Asks (.tuple #[.string (str u), .bool true]) W)) := Lib.hid HOF.out
  have HRN : Hid (∀ W, Calls Tryz.prog 22 #[.string (str u)] W fun e w' => e = .returned (.tuple #[.int .u64 0, .int .i64 0]) ∧ W = w') := Lib.hid fun W => (ref_any u (by omega) W).mono fun e w' hh => by
    rcases hh with ⟨h1, ⟨n, k, h2, _⟩ | ⟨_, he⟩⟩
    · rw [hbu] at h2; cases h2
    · exact ⟨he, h1⟩
  generalize str u = su at *
  clear hZ hZ'
  clear hbo
  clear hbu
  generalize hyb : str b = yb at *
  generalize hyl : str l = yl at *
  have HYB := Lib.hid hyb
  have HYL := Lib.hid hyl
  clear hyb hyl
  go_enter Tryz.func4, Tryz.ntmps4
  go_wp2
  go_quiet (fail)
  have hb0 : Below w.heap.size w ((w.alloc (.cells #[.string yb, .string yl, .bool true, .bool false] 50)).drewN nq) := below_drewN ((Below.refl w.heap.size w).alloc (Nat.le_refl _) _) nq
  have HN0 := Lib.hid (H0.out _ hb0)
  have HB0 := Lib.hid hb0
  clear hb0
  go_wp2_with fail
  refine (lnew HN0.out 20000 (by decide) rfl).mono ?_
  rintro e w1 ⟨d, D1, rfl, g, h, a, x, b1⟩
  have S1 : Hid (Dst Z w1 d 20000 none none none none 0) := Lib.hid ⟨_, _, _, h, a, rfl, rfl, Nat.le_refl _⟩
  have O1 : Hid (Only (Off Z) w w1) := Lib.hid (Off.tr (Only.of_below HB0.out) (Only.of_below b1))
  clear g h a x b1
  go_wp2_with fail
  refine (dst_makeb S1.out (by omega)).mono ?_
  rintro e w2 ⟨rfl, hh, ho⟩
  have S2 := Lib.hid hh
  have O2 := Lib.hid (Off.tr O1.out ho)
  clear hh ho
  go_wp2_with fail
  refine (dst_appb S2.out (by omega) b (by show 0 + 0 + 0 + 0 + b.length ≤ 20000; have := HBL.out; omega) (by have := HBL.out; omega) HYB.out.symm).mono ?_
  rintro e w3 ⟨rfl, hh, ho⟩
  have S3 := Lib.hid hh
  have O3 := Lib.hid (Off.tr O2.out ho)
  clear hh ho
  go_wp2_with fail
  refine (dst_sync S3.out (by have := HBL.out; have := HLL.out; omega)).mono ?_
  rintro e w4 ⟨rfl, hh, ho⟩
  have S4 := Lib.hid hh
  have O4 := Lib.hid (Off.tr O3.out ho)
  clear hh ho
  go_wp2_with fail
  refine (lop90 (show ∃ D J, Hold Z w4 D J ∧ D d = some (s4 20000 (some b) none none none []) from S4.out) HRB.out HRL.out HS90.out).mono ?_
  rintro e w5 ⟨rfl, ho⟩
  have O5 := Lib.hid (Off.tr O4.out ho)
  clear ho
  have B5 : Hid (Below w5.heap.size w5 w5) := Lib.hid (Below.refl _ _)
  go_wp2_with fail
  refine (HOF.out _).mono ?_
  rintro e w6 ⟨rfl, hb⟩
  have B6 := Lib.hid (B5.out.trans (hb.mono B5.out.size))
  clear hb
  go_wp2_with fail
  refine (HRN.out _).mono ?_
  rintro e w99 ⟨rfl, rfl⟩
  go_wp2_with fail
  refine (head_any _).mono ?_
  rintro e w99 ⟨rfl, hb⟩
  have B99 := Lib.hid (B6.out.trans (hb.mono B6.out.size))
  clear hb
  go_wp2
  go_ret
  exact ⟨rfl, (Off.tr O5.out (Only.of_below B99.out)).belowZ HZ.out (Nat.le_refl _)⟩
end Go.Proofs.YtmaohncddjhgeaaGreat.gn
end
section
set_option linter.unusedVariables false
set_option linter.unusedSectionVars false
namespace Go.Proofs.YtmaohncddjhgeaaGreat.gn
open Go.RowKit
open Go.Proofs.YtmaohncddjhgeaaGreat.fi

set_option maxRecDepth 100000
set_option maxHeartbeats 8000000
theorem off_trC {Z Z1 : Nat → Prop} {a b c : World} (h : Only (Off Z) a b) (k : Only (Off Z1) b c) (hz : ∀ i, Z i → Z1 i := by intro i hi; exact .inl (.inl hi)) : Only (Off Z) a c := h.trans k fun i _ hi hn => hi (hz i hn)
theorem junk_bn (w : World) (b l : List UInt8) (hb : b.length ≤ 1000) (hl : l.length ≤ 1000) (u : List UInt8) (hbo : own b = some u) (hbu : rd u = none) (hlo : fnum (scan l) = none) :
    Calls Tryz.prog 4 #[.agg #[.string (str b), .string (str l), .bool true, .bool true]] w fun e w' => e = .returned (.bool true) ∧ Below w.heap.size w w' := by
  have hsb : (str b).size = b.length := str_size b
  have hsl : (str l).size = l.length := str_size l
  obtain ⟨Z, hZ⟩ : ∃ Z : Nat → Prop, Z = fun i => i < w.heap.size := ⟨_, rfl⟩
  have H0 : Hid (∀ W : World, Below w.heap.size w W → Hold Z W (fun _ => none) fun _ => none) := Lib.hid fun W hb => Hold.none_ W Z fun i hi => by subst hZ; exact Nat.lt_of_lt_of_le hi hb.size
  have hZ' : ∀ i, i < w.heap.size → Z i := fun i hi => by subst hZ; exact hi
  have HZ := Lib.hid hZ'
  have HRB : Hid (l1 (some b) ≤ 2000) := Lib.hid (by show b.length ≤ 2000; omega)
  have HRL : Hid (l1 (some l) ≤ 2000) := Lib.hid (by show l.length ≤ 2000; omega)
  have HBL : Hid (b.length ≤ 1000) := Lib.hid hb
  have HLL : Hid (l.length ≤ 1000) := Lib.hid hl
  have HS90 : Hid ((s4 20000 (some b) none (some l) none []).shop.1 = 90) := Lib.hid (shop_base (.inr ⟨u, hbo, hbu⟩))
  have HOF := Lib.hid (fun W => of_any b hb W)
  rw [hbo] at HOF
  have hul : u.length ≤ 1000 := by have h1 := (own_some hbo).2; have h2 := congrArg List.length h1; rw [frame_len] at h2; omega
  have HOF : Hid (∀ W, Calls Tryz.prog 21 #[.string (str b)] W (Asks (.tuple #[.string (str u), .bool true]) W)) := Lib.hid HOF.out
  have HRN : Hid (∀ W, Calls Tryz.prog 22 #[.string (str u)] W fun e w' => e = .returned (.tuple #[.int .u64 0, .int .i64 0]) ∧ W = w') := Lib.hid fun W => (ref_any u (by omega) W).mono fun e w' hh => by
    rcases hh with ⟨h1, ⟨n, k, h2, _⟩ | ⟨_, he⟩⟩
    · rw [hbu] at h2; cases h2
    · exact ⟨he, h1⟩
  generalize str u = su at *
  have HDR : Hid (∀ W, Calls Tryz.prog 23 #[.string (str l)] W fun e w' => e = .returned (.tuple #[.int .u64 0, .slice none 0 0, .bool false]) ∧ Below W.heap.size W w') := Lib.hid fun W => (dread_any l hl W).mono fun e w' hh => by
    rcases hh with ⟨h1, ⟨f, g, oo, c, h2, _⟩ | ⟨_, he⟩⟩
    · rw [hlo] at h2; cases h2
    · exact ⟨he, h1⟩
  clear hZ hZ'
  clear hbo
  clear hbu
  clear hlo
  generalize hyb : str b = yb at *
  generalize hyl : str l = yl at *
  have HYB := Lib.hid hyb
  have HYL := Lib.hid hyl
  clear hyb hyl
  go_enter Tryz.func4, Tryz.ntmps4
  go_wp2
  go_quiet (fail)
  have hb0 : Below w.heap.size w ((w.alloc (.cells #[.string yb, .string yl, .bool true, .bool true] 50)).drewN nq) := below_drewN ((Below.refl w.heap.size w).alloc (Nat.le_refl _) _) nq
  have HN0 := Lib.hid (H0.out _ hb0)
  have HB0 := Lib.hid hb0
  clear hb0
  go_wp2_with fail
  refine (lnew HN0.out 20000 (by decide) rfl).mono ?_
  rintro e w1 ⟨d, D1, rfl, g, h, a, x, b1⟩
  have S1 : Hid (Dst Z w1 d 20000 none none none none 0) := Lib.hid ⟨_, _, _, h, a, rfl, rfl, Nat.le_refl _⟩
  have O1 : Hid (Only (Off Z) w w1) := Lib.hid (Off.tr (Only.of_below HB0.out) (Only.of_below b1))
  clear g h a x b1
  go_wp2_with fail
  refine (dst_makeb S1.out (by omega)).mono ?_
  rintro e w2 ⟨rfl, hh, ho⟩
  have S2 := Lib.hid hh
  have O2 := Lib.hid (Off.tr O1.out ho)
  clear hh ho
  go_wp2_with fail
  refine (dst_appb S2.out (by omega) b (by show 0 + 0 + 0 + 0 + b.length ≤ 20000; have := HBL.out; omega) (by have := HBL.out; omega) HYB.out.symm).mono ?_
  rintro e w3 ⟨rfl, hh, ho⟩
  have S3 := Lib.hid hh
  have O3 := Lib.hid (Off.tr O2.out ho)
  clear hh ho
  go_wp2_with fail
  refine (dst_makel S3.out (by have := HBL.out; omega)).mono ?_
  rintro e w4 ⟨rfl, hh, ho⟩
  have S4 := Lib.hid hh
  have O4 := Lib.hid (Off.tr O3.out ho)
  clear hh ho
  go_wp2_with fail
  refine (dst_appl S4.out (by have := HBL.out; omega) l (by show b.length + 0 + 0 + 0 + l.length ≤ 20000; have := HBL.out; have := HLL.out; omega) (by have := HLL.out; omega) HYL.out.symm).mono ?_
  rintro e w5 ⟨rfl, hh, ho⟩
  have S5 := Lib.hid hh
  have O5 := Lib.hid (Off.tr O4.out ho)
  clear hh ho
  go_wp2_with fail
  refine (dst_sync S5.out (by have := HBL.out; have := HLL.out; omega)).mono ?_
  rintro e w6 ⟨rfl, hh, ho⟩
  have S6 := Lib.hid hh
  have O6 := Lib.hid (Off.tr O5.out ho)
  clear hh ho
  go_wp2_with fail
  refine (lop90 (show ∃ D J, Hold Z w6 D J ∧ D d = some (s4 20000 (some b) none (some l) none []) from S6.out) HRB.out HRL.out HS90.out).mono ?_
  rintro e w7 ⟨rfl, ho⟩
  have O7 := Lib.hid (Off.tr O6.out ho)
  clear ho
  have B7 : Hid (Below w7.heap.size w7 w7) := Lib.hid (Below.refl _ _)
  go_wp2_with fail
  refine (HOF.out _).mono ?_
  rintro e w8 ⟨rfl, hb⟩
  have B8 := Lib.hid (B7.out.trans (hb.mono B7.out.size))
  clear hb
  go_wp2_with fail
  refine (HRN.out _).mono ?_
  rintro e w99 ⟨rfl, rfl⟩
  go_wp2_with fail
  refine (HDR.out _).mono ?_
  rintro e w9 ⟨rfl, hb⟩
  have B9 := Lib.hid (B8.out.trans (hb.mono B8.out.size))
  clear hb
  go_wp2_with fail
  refine (head_any _).mono ?_
  rintro e w99 ⟨rfl, hb⟩
  have B99 := Lib.hid (B9.out.trans (hb.mono B9.out.size))
  clear hb
  go_wp2
  go_ret
  exact ⟨rfl, (Off.tr O7.out (Only.of_below B99.out)).belowZ HZ.out (Nat.le_refl _)⟩

theorem junk_bs (w : World) (b l : List UInt8) (hb : b.length ≤ 1000) (hl : l.length ≤ 1000) (u : List UInt8) (hbo : own b = some u) (hbu : rd u = none) (first : Nat) (E : List (List UInt8)) (hlo : fnum (scan l) = some first) (hE : (scan l).drop 1 = E) :
    Calls Tryz.prog 4 #[.agg #[.string (str b), .string (str l), .bool true, .bool true]] w fun e w' => e = .returned (.bool true) ∧ Below w.heap.size w w' := by
  have hsb : (str b).size = b.length := str_size b
  have hsl : (str l).size = l.length := str_size l
  obtain ⟨Z, hZ⟩ : ∃ Z : Nat → Prop, Z = fun i => i < w.heap.size := ⟨_, rfl⟩
  have H0 : Hid (∀ W : World, Below w.heap.size w W → Hold Z W (fun _ => none) fun _ => none) := Lib.hid fun W hb => Hold.none_ W Z fun i hi => by subst hZ; exact Nat.lt_of_lt_of_le hi hb.size
  have hZ' : ∀ i, i < w.heap.size → Z i := fun i hi => by subst hZ; exact hi
  have HZ := Lib.hid hZ'
  have HRB : Hid (l1 (some b) ≤ 2000) := Lib.hid (by show b.length ≤ 2000; omega)
  have HRL : Hid (l1 (some l) ≤ 2000) := Lib.hid (by show l.length ≤ 2000; omega)
  have HBL : Hid (b.length ≤ 1000) := Lib.hid hb
  have HLL : Hid (l.length ≤ 1000) := Lib.hid hl
  obtain ⟨hform, hfl⟩ := fnum_form hlo
  rw [hE] at hform
  have hEl : E.length ≤ 50 := by rw [← hE, List.length_drop]; have := scan_count l hl; omega
  have hEn : (scan l).length - 1 = E.length := by rw [← hE, List.length_drop]
  have hEs : ∀ s ∈ E, s.length ≤ 262144 := fun s hs => by have := scan_small l hl s (by rw [hform]; simp [hs]); omega
  have HS90 : Hid ((s4 20000 (some b) none (some l) none []).shop.1 = 90) := Lib.hid (shop_base (.inr ⟨u, hbo, hbu⟩))
  have HOF := Lib.hid (fun W => of_any b hb W)
  rw [hbo] at HOF
  have hul : u.length ≤ 1000 := by have h1 := (own_some hbo).2; have h2 := congrArg List.length h1; rw [frame_len] at h2; omega
  have HOF : Hid (∀ W, Calls Tryz.prog 21 #[.string (str b)] W (Asks (.tuple #[.string (str u), .bool true]) W)) := Lib.hid HOF.out
  have HRN : Hid (∀ W, Calls Tryz.prog 22 #[.string (str u)] W fun e w' => e = .returned (.tuple #[.int .u64 0, .int .i64 0]) ∧ W = w') := Lib.hid fun W => (ref_any u (by omega) W).mono fun e w' hh => by
    rcases hh with ⟨h1, ⟨n, k, h2, _⟩ | ⟨_, he⟩⟩
    · rw [hbu] at h2; cases h2
    · exact ⟨he, h1⟩
  generalize str u = su at *
  have HDR : Hid (∀ W, Calls Tryz.prog 23 #[.string (str l)] W fun e w' => ∃ g oo c, e = .returned (.tuple #[.int .u64 (first : Int), .slice (some ⟨g, oo, none⟩) E.length c, .bool true]) ∧ W.heap.size ≤ g ∧ g < w'.heap.size ∧ Strs w' (.slice (some ⟨g, oo, none⟩) E.length c) E ∧ Below W.heap.size W w') := Lib.hid fun W => (dread_any l hl W).mono fun e w' hh => by
    rcases hh with ⟨h1, ⟨f, g, oo, c, h2, h3, h4, he, h5⟩ | ⟨h2, _⟩⟩
    · rw [hlo] at h2; cases h2
      rw [hEn] at he h5
      rw [hE] at h5
      exact ⟨g, oo, c, he, h3, h4, h5, h1⟩
    · rw [hlo] at h2; cases h2
  clear hZ hZ'
  clear hbo
  clear hbu
  clear hlo
  clear hE
  clear hform
  clear hEn
  clear hEs
  generalize hyb : str b = yb at *
  generalize hyl : str l = yl at *
  have HYB := Lib.hid hyb
  have HYL := Lib.hid hyl
  clear hyb hyl
  go_enter Tryz.func4, Tryz.ntmps4
  go_wp2
  go_quiet (fail)
  have hb0 : Below w.heap.size w ((w.alloc (.cells #[.string yb, .string yl, .bool true, .bool true] 50)).drewN nq) := below_drewN ((Below.refl w.heap.size w).alloc (Nat.le_refl _) _) nq
  have HN0 := Lib.hid (H0.out _ hb0)
  have HB0 := Lib.hid hb0
  clear hb0
  go_wp2_with fail
  refine (lnew HN0.out 20000 (by decide) rfl).mono ?_
  rintro e w1 ⟨d, D1, rfl, g, h, a, x, b1⟩
  have S1 : Hid (Dst Z w1 d 20000 none none none none 0) := Lib.hid ⟨_, _, _, h, a, rfl, rfl, Nat.le_refl _⟩
  have O1 : Hid (Only (Off Z) w w1) := Lib.hid (Off.tr (Only.of_below HB0.out) (Only.of_below b1))
  clear g h a x b1
  go_wp2_with fail
  refine (dst_makeb S1.out (by omega)).mono ?_
  rintro e w2 ⟨rfl, hh, ho⟩
  have S2 := Lib.hid hh
  have O2 := Lib.hid (Off.tr O1.out ho)
  clear hh ho
  go_wp2_with fail
  refine (dst_appb S2.out (by omega) b (by show 0 + 0 + 0 + 0 + b.length ≤ 20000; have := HBL.out; omega) (by have := HBL.out; omega) HYB.out.symm).mono ?_
  rintro e w3 ⟨rfl, hh, ho⟩
  have S3 := Lib.hid hh
  have O3 := Lib.hid (Off.tr O2.out ho)
  clear hh ho
  go_wp2_with fail
  refine (dst_makel S3.out (by have := HBL.out; omega)).mono ?_
  rintro e w4 ⟨rfl, hh, ho⟩
  have S4 := Lib.hid hh
  have O4 := Lib.hid (Off.tr O3.out ho)
  clear hh ho
  go_wp2_with fail
  refine (dst_appl S4.out (by have := HBL.out; omega) l (by show b.length + 0 + 0 + 0 + l.length ≤ 20000; have := HBL.out; have := HLL.out; omega) (by have := HLL.out; omega) HYL.out.symm).mono ?_
  rintro e w5 ⟨rfl, hh, ho⟩
  have S5 := Lib.hid hh
  have O5 := Lib.hid (Off.tr O4.out ho)
  clear hh ho
  go_wp2_with fail
  refine (dst_sync S5.out (by have := HBL.out; have := HLL.out; omega)).mono ?_
  rintro e w6 ⟨rfl, hh, ho⟩
  have S6 := Lib.hid hh
  have O6 := Lib.hid (Off.tr O5.out ho)
  clear hh ho
  go_wp2_with fail
  refine (lop90 (show ∃ D J, Hold Z w6 D J ∧ D d = some (s4 20000 (some b) none (some l) none []) from S6.out) HRB.out HRL.out HS90.out).mono ?_
  rintro e w7 ⟨rfl, ho⟩
  have O7 := Lib.hid (Off.tr O6.out ho)
  clear ho
  have B7 : Hid (Below w7.heap.size w7 w7) := Lib.hid (Below.refl _ _)
  go_wp2_with fail
  refine (HOF.out _).mono ?_
  rintro e w8 ⟨rfl, hb⟩
  have B8 := Lib.hid (B7.out.trans (hb.mono B7.out.size))
  clear hb
  go_wp2_with fail
  refine (HRN.out _).mono ?_
  rintro e w99 ⟨rfl, rfl⟩
  go_wp2_with fail
  refine (HDR.out _).mono ?_
  rintro e w9 ⟨g, oo, c, rfl, _, _, hst, hb⟩
  have B9 := Lib.hid (B8.out.trans (hb.mono B8.out.size))
  clear hb
  clear hst
  go_wp2_with fail
  refine (head_any _).mono ?_
  rintro e w99 ⟨rfl, hb⟩
  have B99 := Lib.hid (B9.out.trans (hb.mono B9.out.size))
  clear hb
  go_wp2
  go_ret
  exact ⟨rfl, (Off.tr O7.out (Only.of_below B99.out)).belowZ HZ.out (Nat.le_refl _)⟩

theorem junk_ox (w : World) (b l : List UInt8) (hb : b.length ≤ 1000) (hl : l.length ≤ 1000) (n : Nat) (t : List UInt8) (hbo : own b = some (Lib.uvarint n ++ t)) (hn : n < 18446744073709551616) :
    Calls Tryz.prog 4 #[.agg #[.string (str b), .string (str l), .bool true, .bool false]] w fun e w' => e = .returned (.bool true) ∧ Below w.heap.size w w' := by
  have hsb : (str b).size = b.length := str_size b
  have hsl : (str l).size = l.length := str_size l
  obtain ⟨Z, hZ⟩ : ∃ Z : Nat → Prop, Z = fun i => i < w.heap.size := ⟨_, rfl⟩
  have H0 : Hid (∀ W : World, Below w.heap.size w W → Hold Z W (fun _ => none) fun _ => none) := Lib.hid fun W hb => Hold.none_ W Z fun i hi => by subst hZ; exact Nat.lt_of_lt_of_le hi hb.size
  have hZ' : ∀ i, i < w.heap.size → Z i := fun i hi => by subst hZ; exact hi
  have HZ := Lib.hid hZ'
  have HRB : Hid (l1 (some b) ≤ 2000) := Lib.hid (by show b.length ≤ 2000; omega)
  have HRL : Hid (l1 none ≤ 2000) := Lib.hid (by show 0 ≤ 2000; omega)
  have HBL : Hid (b.length ≤ 1000) := Lib.hid hb
  have HLL : Hid (l.length ≤ 1000) := Lib.hid hl
  have HF : Hid (Fine (some b) none n t n []) := Lib.hid ⟨.inr (by rw [(own_some hbo).2]), hn, (own_some hbo).1, .inl ⟨rfl, rfl, rfl⟩, fun _ hs => (by cases hs), Nat.le_refl _, Nat.le_refl _, (by show n + 0 < _; omega)⟩
  have HOF := Lib.hid (fun W => of_any b hb W)
  rw [hbo] at HOF
  have hul : (Lib.uvarint n ++ t).length ≤ 1000 := by have h1 := (own_some hbo).2; have h2 := congrArg List.length h1; rw [frame_len] at h2; omega
  have HOF : Hid (∀ W, Calls Tryz.prog 21 #[.string (str b)] W (Asks (.tuple #[.string (str (Lib.uvarint n ++ t)), .bool true]) W)) := Lib.hid HOF.out
  obtain ⟨kk, hkk1, hkk2, hkk3, HRN⟩ : ∃ kk, 1 ≤ kk ∧ kk ≤ (Lib.uvarint n ++ t).length ∧ (Lib.uvarint n ++ t).drop kk = t ∧ Hid (∀ W, Calls Tryz.prog 22 #[.string (str (Lib.uvarint n ++ t))] W fun e w' => e = .returned (.tuple #[.int .u64 (n : Int), .int .i64 (kk : Int)]) ∧ W = w') := by
    have hr := rd_uvarint n t hn
    refine ⟨(Lib.uvarint n).length, ?_, by rw [List.length_append]; omega, by simp, Lib.hid fun W => (ref_any (Lib.uvarint n ++ t) (by omega) W).mono fun e w' hh => ?_⟩
    · by_cases h : n < 128
      · rw [Lib.uvarint_small h]; simp
      · rw [Lib.uvarint_big (by omega)]; simp
    · rcases hh with ⟨h1, ⟨n2, k, h2, hk1, hk2, he⟩ | ⟨h2, _⟩⟩
      · rw [hr] at h2
        injection h2 with h2
        injection h2 with h3 h4
        subst h3
        have h5 := congrArg List.length h4
        rw [List.length_drop, List.length_append] at h5
        rw [List.length_append] at hk2
        have h6 : k = (Lib.uvarint n).length := by omega
        subst h6
        exact ⟨he, h1⟩
      · rw [hr] at h2; cases h2
  have hsu := sl_from (Lib.uvarint n ++ t) (kk : Int) kk rfl hkk2
  rw [hkk3] at hsu
  have hk0 : decide ((0 : Int) < (kk : Int)) = true := decide_eq_true (by omega)
  clear hkk3
  have hsz : (str (Lib.uvarint n ++ t)).size = (Lib.uvarint n ++ t).length := str_size _
  generalize (Lib.uvarint n ++ t).length = ul at *
  generalize str (Lib.uvarint n ++ t) = su at *
  obtain ⟨sy, hsy⟩ : ∃ sy, str t = sy := ⟨_, rfl⟩
  rw [hsy] at hsu
  have HSY := Lib.hid hsy.symm
  clear hsy
  clear hZ hZ'
  clear hbo
  generalize hyb : str b = yb at *
  generalize hyl : str l = yl at *
  have HYB := Lib.hid hyb
  have HYL := Lib.hid hyl
  clear hyb hyl
  go_enter Tryz.func4, Tryz.ntmps4
  go_wp2
  go_quiet (fail)
  have hb0 : Below w.heap.size w ((w.alloc (.cells #[.string yb, .string yl, .bool true, .bool false] 50)).drewN nq) := below_drewN ((Below.refl w.heap.size w).alloc (Nat.le_refl _) _) nq
  have HN0 := Lib.hid (H0.out _ hb0)
  have HB0 := Lib.hid hb0
  clear hb0
  go_wp2_with fail
  refine (lnew HN0.out 20000 (by decide) rfl).mono ?_
  rintro e w1 ⟨d, D1, rfl, g, h, a, x, b1⟩
  have S1 : Hid (Dst Z w1 d 20000 none none none none 0) := Lib.hid ⟨_, _, _, h, a, rfl, rfl, Nat.le_refl _⟩
  have O1 : Hid (Only (Off Z) w w1) := Lib.hid (Off.tr (Only.of_below HB0.out) (Only.of_below b1))
  clear g h a x b1
  go_wp2_with fail
  refine (dst_makeb S1.out (by omega)).mono ?_
  rintro e w2 ⟨rfl, hh, ho⟩
  have S2 := Lib.hid hh
  have O2 := Lib.hid (Off.tr O1.out ho)
  clear hh ho
  go_wp2_with fail
  refine (dst_appb S2.out (by omega) b (by show 0 + 0 + 0 + 0 + b.length ≤ 20000; have := HBL.out; omega) (by have := HBL.out; omega) HYB.out.symm).mono ?_
  rintro e w3 ⟨rfl, hh, ho⟩
  have S3 := Lib.hid hh
  have O3 := Lib.hid (Off.tr O2.out ho)
  clear hh ho
  go_wp2_with fail
  refine (dst_sync S3.out (by have := HBL.out; have := HLL.out; omega)).mono ?_
  rintro e w4 ⟨rfl, hh, ho⟩
  have S4 := Lib.hid hh
  have O4 := Lib.hid (Off.tr O3.out ho)
  clear hh ho
  go_wp2_with fail
  refine (lop1 (show ∃ D J, Hold Z w4 D J ∧ D d = some (s4 20000 (some b) none none none []) from S4.out) HRB.out HRL.out HF.out).mono ?_
  rintro e w5 ⟨s, rfl, hh, ho⟩
  have S5 := Lib.hid hh
  have O5 := Lib.hid (Off.tr O4.out ho)
  clear hh ho
  have B5 : Hid (Below w5.heap.size w5 w5) := Lib.hid (Below.refl _ _)
  go_wp2_with fail
  refine (HOF.out _).mono ?_
  rintro e w6 ⟨rfl, hb⟩
  have B6 := Lib.hid (B5.out.trans (hb.mono B5.out.size))
  clear hb
  go_wp2_with fail
  refine (HRN.out _).mono ?_
  rintro e w99 ⟨rfl, rfl⟩
  have SG := Lib.hid (S5.out.grow B6.out)
  go_wp2_with fail
  refine (lop2 SG.out HRB.out HRL.out HF.out).mono ?_
  rintro e wa ⟨r, rfl, h1, h2, ho⟩
  have Sa := Lib.hid h1
  have Ra := Lib.hid h2
  have Oa := Lib.hid ho
  have Ta : Hid (Strs wa (.slice none 0 0) (List.drop 0 [])) := Lib.hid (strs_nil _)
  clear h1 h2 ho
  go_wp2_with fail
  refine (lis Sa.out HRL.out HF.out 0 rfl _ Ta.out rfl HSY.out).mono ?_
  rintro e wb ⟨rfl, hb⟩
  have Rb := Lib.hid (Ra.out.below hb)
  have Tb := Lib.hid (Ta.out.below hb)
  have Bb := Lib.hid hb
  clear hb
  go_wp2_with fail
  refine (lis Rb.out HRL.out HF.out 0 rfl _ Tb.out rfl HSY.out).mono ?_
  rintro e wc ⟨rfl, hb⟩
  have Bc := Lib.hid (Bb.out.trans (hb.mono Bb.out.size))
  clear hb
  go_wp2_with fail
  refine (head_any _).mono ?_
  rintro e wd ⟨rfl, hb⟩
  have Bd := Lib.hid (Bc.out.trans (hb.mono Bc.out.size))
  clear hb
  go_wp2
  go_ret
  have hz1 : Only (Off Z) w5 wa := Only.mono (off_trC (Only.of_below B6.out) Oa.out) fun i hi hh => hh
  exact ⟨rfl, (Off.tr (Off.tr O5.out hz1) (Only.of_below Bd.out)).belowZ HZ.out (Nat.le_refl _)⟩

theorem junk_on (w : World) (b l : List UInt8) (hb : b.length ≤ 1000) (hl : l.length ≤ 1000) (n : Nat) (t : List UInt8) (hbo : own b = some (Lib.uvarint n ++ t)) (hn : n < 18446744073709551616) (hlo : fnum (scan l) = none) :
    Calls Tryz.prog 4 #[.agg #[.string (str b), .string (str l), .bool true, .bool true]] w fun e w' => e = .returned (.bool true) ∧ Below w.heap.size w w' := by
  have hsb : (str b).size = b.length := str_size b
  have hsl : (str l).size = l.length := str_size l
  obtain ⟨Z, hZ⟩ : ∃ Z : Nat → Prop, Z = fun i => i < w.heap.size := ⟨_, rfl⟩
  have H0 : Hid (∀ W : World, Below w.heap.size w W → Hold Z W (fun _ => none) fun _ => none) := Lib.hid fun W hb => Hold.none_ W Z fun i hi => by subst hZ; exact Nat.lt_of_lt_of_le hi hb.size
  have hZ' : ∀ i, i < w.heap.size → Z i := fun i hi => by subst hZ; exact hi
  have HZ := Lib.hid hZ'
  have HRB : Hid (l1 (some b) ≤ 2000) := Lib.hid (by show b.length ≤ 2000; omega)
  have HRL : Hid (l1 (some l) ≤ 2000) := Lib.hid (by show l.length ≤ 2000; omega)
  have HBL : Hid (b.length ≤ 1000) := Lib.hid hb
  have HLL : Hid (l.length ≤ 1000) := Lib.hid hl
  have hbase : (s4 20000 (some b) none (some l) none []).base = (0, n, t) := by rw [base_some (s4_now 20000 (some b) none (some l) none), hbo]; exact bsp_join hn t
  have HS90 : Hid ((s4 20000 (some b) none (some l) none []).shop.1 = 90) := Lib.hid (shop_log hbase (.inl hlo))
  have HOF := Lib.hid (fun W => of_any b hb W)
  rw [hbo] at HOF
  have hul : (Lib.uvarint n ++ t).length ≤ 1000 := by have h1 := (own_some hbo).2; have h2 := congrArg List.length h1; rw [frame_len] at h2; omega
  have HOF : Hid (∀ W, Calls Tryz.prog 21 #[.string (str b)] W (Asks (.tuple #[.string (str (Lib.uvarint n ++ t)), .bool true]) W)) := Lib.hid HOF.out
  obtain ⟨kk, hkk1, hkk2, hkk3, HRN⟩ : ∃ kk, 1 ≤ kk ∧ kk ≤ (Lib.uvarint n ++ t).length ∧ (Lib.uvarint n ++ t).drop kk = t ∧ Hid (∀ W, Calls Tryz.prog 22 #[.string (str (Lib.uvarint n ++ t))] W fun e w' => e = .returned (.tuple #[.int .u64 (n : Int), .int .i64 (kk : Int)]) ∧ W = w') := by
    have hr := rd_uvarint n t hn
    refine ⟨(Lib.uvarint n).length, ?_, by rw [List.length_append]; omega, by simp, Lib.hid fun W => (ref_any (Lib.uvarint n ++ t) (by omega) W).mono fun e w' hh => ?_⟩
    · by_cases h : n < 128
      · rw [Lib.uvarint_small h]; simp
      · rw [Lib.uvarint_big (by omega)]; simp
    · rcases hh with ⟨h1, ⟨n2, k, h2, hk1, hk2, he⟩ | ⟨h2, _⟩⟩
      · rw [hr] at h2
        injection h2 with h2
        injection h2 with h3 h4
        subst h3
        have h5 := congrArg List.length h4
        rw [List.length_drop, List.length_append] at h5
        rw [List.length_append] at hk2
        have h6 : k = (Lib.uvarint n).length := by omega
        subst h6
        exact ⟨he, h1⟩
      · rw [hr] at h2; cases h2
  have hsu := sl_from (Lib.uvarint n ++ t) (kk : Int) kk rfl hkk2
  rw [hkk3] at hsu
  have hk0 : decide ((0 : Int) < (kk : Int)) = true := decide_eq_true (by omega)
  clear hkk3
  have hsz : (str (Lib.uvarint n ++ t)).size = (Lib.uvarint n ++ t).length := str_size _
  generalize (Lib.uvarint n ++ t).length = ul at *
  generalize str (Lib.uvarint n ++ t) = su at *
  obtain ⟨sy, hsy⟩ : ∃ sy, str t = sy := ⟨_, rfl⟩
  rw [hsy] at hsu
  have HSY := Lib.hid hsy.symm
  clear hsy
  have HDR : Hid (∀ W, Calls Tryz.prog 23 #[.string (str l)] W fun e w' => e = .returned (.tuple #[.int .u64 0, .slice none 0 0, .bool false]) ∧ Below W.heap.size W w') := Lib.hid fun W => (dread_any l hl W).mono fun e w' hh => by
    rcases hh with ⟨h1, ⟨f, g, oo, c, h2, _⟩ | ⟨_, he⟩⟩
    · rw [hlo] at h2; cases h2
    · exact ⟨he, h1⟩
  clear hZ hZ'
  clear hbo
  clear hlo
  clear hbase
  generalize hyb : str b = yb at *
  generalize hyl : str l = yl at *
  have HYB := Lib.hid hyb
  have HYL := Lib.hid hyl
  clear hyb hyl
  go_enter Tryz.func4, Tryz.ntmps4
  go_wp2
  go_quiet (fail)
  have hb0 : Below w.heap.size w ((w.alloc (.cells #[.string yb, .string yl, .bool true, .bool true] 50)).drewN nq) := below_drewN ((Below.refl w.heap.size w).alloc (Nat.le_refl _) _) nq
  have HN0 := Lib.hid (H0.out _ hb0)
  have HB0 := Lib.hid hb0
  clear hb0
  go_wp2_with fail
  refine (lnew HN0.out 20000 (by decide) rfl).mono ?_
  rintro e w1 ⟨d, D1, rfl, g, h, a, x, b1⟩
  have S1 : Hid (Dst Z w1 d 20000 none none none none 0) := Lib.hid ⟨_, _, _, h, a, rfl, rfl, Nat.le_refl _⟩
  have O1 : Hid (Only (Off Z) w w1) := Lib.hid (Off.tr (Only.of_below HB0.out) (Only.of_below b1))
  clear g h a x b1
  go_wp2_with fail
  refine (dst_makeb S1.out (by omega)).mono ?_
  rintro e w2 ⟨rfl, hh, ho⟩
  have S2 := Lib.hid hh
  have O2 := Lib.hid (Off.tr O1.out ho)
  clear hh ho
  go_wp2_with fail
  refine (dst_appb S2.out (by omega) b (by show 0 + 0 + 0 + 0 + b.length ≤ 20000; have := HBL.out; omega) (by have := HBL.out; omega) HYB.out.symm).mono ?_
  rintro e w3 ⟨rfl, hh, ho⟩
  have S3 := Lib.hid hh
  have O3 := Lib.hid (Off.tr O2.out ho)
  clear hh ho
  go_wp2_with fail
  refine (dst_makel S3.out (by have := HBL.out; omega)).mono ?_
  rintro e w4 ⟨rfl, hh, ho⟩
  have S4 := Lib.hid hh
  have O4 := Lib.hid (Off.tr O3.out ho)
  clear hh ho
  go_wp2_with fail
  refine (dst_appl S4.out (by have := HBL.out; omega) l (by show b.length + 0 + 0 + 0 + l.length ≤ 20000; have := HBL.out; have := HLL.out; omega) (by have := HLL.out; omega) HYL.out.symm).mono ?_
  rintro e w5 ⟨rfl, hh, ho⟩
  have S5 := Lib.hid hh
  have O5 := Lib.hid (Off.tr O4.out ho)
  clear hh ho
  go_wp2_with fail
  refine (dst_sync S5.out (by have := HBL.out; have := HLL.out; omega)).mono ?_
  rintro e w6 ⟨rfl, hh, ho⟩
  have S6 := Lib.hid hh
  have O6 := Lib.hid (Off.tr O5.out ho)
  clear hh ho
  go_wp2_with fail
  refine (lop90 (show ∃ D J, Hold Z w6 D J ∧ D d = some (s4 20000 (some b) none (some l) none []) from S6.out) HRB.out HRL.out HS90.out).mono ?_
  rintro e w7 ⟨rfl, ho⟩
  have O7 := Lib.hid (Off.tr O6.out ho)
  clear ho
  have B7 : Hid (Below w7.heap.size w7 w7) := Lib.hid (Below.refl _ _)
  go_wp2_with fail
  refine (HOF.out _).mono ?_
  rintro e w8 ⟨rfl, hb⟩
  have B8 := Lib.hid (B7.out.trans (hb.mono B7.out.size))
  clear hb
  go_wp2_with fail
  refine (HRN.out _).mono ?_
  rintro e w99 ⟨rfl, rfl⟩
  go_wp2_with fail
  refine (HDR.out _).mono ?_
  rintro e w9 ⟨rfl, hb⟩
  have B9 := Lib.hid (B8.out.trans (hb.mono B8.out.size))
  clear hb
  go_wp2_with fail
  refine (head_any _).mono ?_
  rintro e w99 ⟨rfl, hb⟩
  have B99 := Lib.hid (B9.out.trans (hb.mono B9.out.size))
  clear hb
  go_wp2
  go_ret
  exact ⟨rfl, (Off.tr O7.out (Only.of_below B99.out)).belowZ HZ.out (Nat.le_refl _)⟩
end Go.Proofs.YtmaohncddjhgeaaGreat.gn
end
section
set_option linter.unusedVariables false
set_option linter.unusedSectionVars false
namespace Go.Proofs.YtmaohncddjhgeaaGreat.gn
open Go.RowKit
open Go.Proofs.YtmaohncddjhgeaaGreat.fi

set_option maxRecDepth 100000
set_option maxHeartbeats 8000000
theorem off_trE {Z Z1 : Nat → Prop} {a b c : World} (h : Only (Off Z) a b) (k : Only (Off Z1) b c) (hz : ∀ i, Z i → Z1 i := by intro i hi; exact .inl (.inl hi)) : Only (Off Z) a c := h.trans k fun i _ hi hn => hi (hz i hn)
theorem junk_of (w : World) (b l : List UInt8) (hb : b.length ≤ 1000) (hl : l.length ≤ 1000) (n : Nat) (t : List UInt8) (hbo : own b = some (Lib.uvarint n ++ t)) (hn : n < 18446744073709551616) (first : Nat) (E : List (List UInt8)) (hlo : fnum (scan l) = some first) (hE : (scan l).drop 1 = E) (hoff : n < first) :
    Calls Tryz.prog 4 #[.agg #[.string (str b), .string (str l), .bool true, .bool true]] w fun e w' => e = .returned (.bool true) ∧ Below w.heap.size w w' := by
  have hsb : (str b).size = b.length := str_size b
  have hsl : (str l).size = l.length := str_size l
  obtain ⟨Z, hZ⟩ : ∃ Z : Nat → Prop, Z = fun i => i < w.heap.size := ⟨_, rfl⟩
  have H0 : Hid (∀ W : World, Below w.heap.size w W → Hold Z W (fun _ => none) fun _ => none) := Lib.hid fun W hb => Hold.none_ W Z fun i hi => by subst hZ; exact Nat.lt_of_lt_of_le hi hb.size
  have hZ' : ∀ i, i < w.heap.size → Z i := fun i hi => by subst hZ; exact hi
  have HZ := Lib.hid hZ'
  have HRB : Hid (l1 (some b) ≤ 2000) := Lib.hid (by show b.length ≤ 2000; omega)
  have HRL : Hid (l1 (some l) ≤ 2000) := Lib.hid (by show l.length ≤ 2000; omega)
  have HBL : Hid (b.length ≤ 1000) := Lib.hid hb
  have HLL : Hid (l.length ≤ 1000) := Lib.hid hl
  obtain ⟨hform, hfl⟩ := fnum_form hlo
  rw [hE] at hform
  have hEl : E.length ≤ 50 := by rw [← hE, List.length_drop]; have := scan_count l hl; omega
  have hEn : (scan l).length - 1 = E.length := by rw [← hE, List.length_drop]
  have hEs : ∀ s ∈ E, s.length ≤ 262144 := fun s hs => by have := scan_small l hl s (by rw [hform]; simp [hs]); omega
  have hbase : (s4 20000 (some b) none (some l) none []).base = (0, n, t) := by rw [base_some (s4_now 20000 (some b) none (some l) none), hbo]; exact bsp_join hn t
  have HS90 : Hid ((s4 20000 (some b) none (some l) none []).shop.1 = 90) := Lib.hid (shop_log hbase (.inr ⟨first, hlo, .inl hoff⟩))
  have HOF := Lib.hid (fun W => of_any b hb W)
  rw [hbo] at HOF
  have hul : (Lib.uvarint n ++ t).length ≤ 1000 := by have h1 := (own_some hbo).2; have h2 := congrArg List.length h1; rw [frame_len] at h2; omega
  have HOF : Hid (∀ W, Calls Tryz.prog 21 #[.string (str b)] W (Asks (.tuple #[.string (str (Lib.uvarint n ++ t)), .bool true]) W)) := Lib.hid HOF.out
  obtain ⟨kk, hkk1, hkk2, hkk3, HRN⟩ : ∃ kk, 1 ≤ kk ∧ kk ≤ (Lib.uvarint n ++ t).length ∧ (Lib.uvarint n ++ t).drop kk = t ∧ Hid (∀ W, Calls Tryz.prog 22 #[.string (str (Lib.uvarint n ++ t))] W fun e w' => e = .returned (.tuple #[.int .u64 (n : Int), .int .i64 (kk : Int)]) ∧ W = w') := by
    have hr := rd_uvarint n t hn
    refine ⟨(Lib.uvarint n).length, ?_, by rw [List.length_append]; omega, by simp, Lib.hid fun W => (ref_any (Lib.uvarint n ++ t) (by omega) W).mono fun e w' hh => ?_⟩
    · by_cases h : n < 128
      · rw [Lib.uvarint_small h]; simp
      · rw [Lib.uvarint_big (by omega)]; simp
    · rcases hh with ⟨h1, ⟨n2, k, h2, hk1, hk2, he⟩ | ⟨h2, _⟩⟩
      · rw [hr] at h2
        injection h2 with h2
        injection h2 with h3 h4
        subst h3
        have h5 := congrArg List.length h4
        rw [List.length_drop, List.length_append] at h5
        rw [List.length_append] at hk2
        have h6 : k = (Lib.uvarint n).length := by omega
        subst h6
        exact ⟨he, h1⟩
      · rw [hr] at h2; cases h2
  have hsu := sl_from (Lib.uvarint n ++ t) (kk : Int) kk rfl hkk2
  rw [hkk3] at hsu
  have hk0 : decide ((0 : Int) < (kk : Int)) = true := decide_eq_true (by omega)
  clear hkk3
  have hsz : (str (Lib.uvarint n ++ t)).size = (Lib.uvarint n ++ t).length := str_size _
  generalize (Lib.uvarint n ++ t).length = ul at *
  generalize str (Lib.uvarint n ++ t) = su at *
  obtain ⟨sy, hsy⟩ : ∃ sy, str t = sy := ⟨_, rfl⟩
  rw [hsy] at hsu
  have HSY := Lib.hid hsy.symm
  clear hsy
  have HDR : Hid (∀ W, Calls Tryz.prog 23 #[.string (str l)] W fun e w' => ∃ g oo c, e = .returned (.tuple #[.int .u64 (first : Int), .slice (some ⟨g, oo, none⟩) E.length c, .bool true]) ∧ W.heap.size ≤ g ∧ g < w'.heap.size ∧ Strs w' (.slice (some ⟨g, oo, none⟩) E.length c) E ∧ Below W.heap.size W w') := Lib.hid fun W => (dread_any l hl W).mono fun e w' hh => by
    rcases hh with ⟨h1, ⟨f, g, oo, c, h2, h3, h4, he, h5⟩ | ⟨h2, _⟩⟩
    · rw [hlo] at h2; cases h2
      rw [hEn] at he h5
      rw [hE] at h5
      exact ⟨g, oo, c, he, h3, h4, h5, h1⟩
    · rw [hlo] at h2; cases h2
  obtain ⟨m, hm⟩ : ∃ m, (first + E.length) % 18446744073709551616 = m := ⟨_, rfl⟩
  have hwr : IntKind.u64.wrap ((first : Int) + (E.length : Int)) = (m : Int) := by simp only [IntKind.wrap_u64]; omega
  have d1 : decide ((first : Int) ≤ (n : Int)) = false := decide_eq_false (by omega)
  have c1 : decide (first ≤ n) = false := decide_eq_false (by omega)
  clear hm
  clear hZ hZ'
  clear hbo
  clear hlo
  clear hE
  clear hform
  clear hEn
  clear hEs
  clear hbase
  generalize hyb : str b = yb at *
  generalize hyl : str l = yl at *
  have HYB := Lib.hid hyb
  have HYL := Lib.hid hyl
  clear hyb hyl
  go_enter Tryz.func4, Tryz.ntmps4
  go_wp2
  go_quiet (fail)
  have hb0 : Below w.heap.size w ((w.alloc (.cells #[.string yb, .string yl, .bool true, .bool true] 50)).drewN nq) := below_drewN ((Below.refl w.heap.size w).alloc (Nat.le_refl _) _) nq
  have HN0 := Lib.hid (H0.out _ hb0)
  have HB0 := Lib.hid hb0
  clear hb0
  go_wp2_with fail
  refine (lnew HN0.out 20000 (by decide) rfl).mono ?_
  rintro e w1 ⟨d, D1, rfl, g, h, a, x, b1⟩
  have S1 : Hid (Dst Z w1 d 20000 none none none none 0) := Lib.hid ⟨_, _, _, h, a, rfl, rfl, Nat.le_refl _⟩
  have O1 : Hid (Only (Off Z) w w1) := Lib.hid (Off.tr (Only.of_below HB0.out) (Only.of_below b1))
  clear g h a x b1
  go_wp2_with fail
  refine (dst_makeb S1.out (by omega)).mono ?_
  rintro e w2 ⟨rfl, hh, ho⟩
  have S2 := Lib.hid hh
  have O2 := Lib.hid (Off.tr O1.out ho)
  clear hh ho
  go_wp2_with fail
  refine (dst_appb S2.out (by omega) b (by show 0 + 0 + 0 + 0 + b.length ≤ 20000; have := HBL.out; omega) (by have := HBL.out; omega) HYB.out.symm).mono ?_
  rintro e w3 ⟨rfl, hh, ho⟩
  have S3 := Lib.hid hh
  have O3 := Lib.hid (Off.tr O2.out ho)
  clear hh ho
  go_wp2_with fail
  refine (dst_makel S3.out (by have := HBL.out; omega)).mono ?_
  rintro e w4 ⟨rfl, hh, ho⟩
  have S4 := Lib.hid hh
  have O4 := Lib.hid (Off.tr O3.out ho)
  clear hh ho
  go_wp2_with fail
  refine (dst_appl S4.out (by have := HBL.out; omega) l (by show b.length + 0 + 0 + 0 + l.length ≤ 20000; have := HBL.out; have := HLL.out; omega) (by have := HLL.out; omega) HYL.out.symm).mono ?_
  rintro e w5 ⟨rfl, hh, ho⟩
  have S5 := Lib.hid hh
  have O5 := Lib.hid (Off.tr O4.out ho)
  clear hh ho
  go_wp2_with fail
  refine (dst_sync S5.out (by have := HBL.out; have := HLL.out; omega)).mono ?_
  rintro e w6 ⟨rfl, hh, ho⟩
  have S6 := Lib.hid hh
  have O6 := Lib.hid (Off.tr O5.out ho)
  clear hh ho
  go_wp2_with fail
  refine (lop90 (show ∃ D J, Hold Z w6 D J ∧ D d = some (s4 20000 (some b) none (some l) none []) from S6.out) HRB.out HRL.out HS90.out).mono ?_
  rintro e w7 ⟨rfl, ho⟩
  have O7 := Lib.hid (Off.tr O6.out ho)
  clear ho
  have B7 : Hid (Below w7.heap.size w7 w7) := Lib.hid (Below.refl _ _)
  go_wp2_with fail
  refine (HOF.out _).mono ?_
  rintro e w8 ⟨rfl, hb⟩
  have B8 := Lib.hid (B7.out.trans (hb.mono B7.out.size))
  clear hb
  go_wp2_with fail
  refine (HRN.out _).mono ?_
  rintro e w99 ⟨rfl, rfl⟩
  go_wp2_with fail
  refine (HDR.out _).mono ?_
  rintro e w9 ⟨g, oo, c, rfl, _, _, hst, hb⟩
  have B9 := Lib.hid (B8.out.trans (hb.mono B8.out.size))
  clear hb
  clear hst
  go_wp2_with fail
  refine (head_any _).mono ?_
  rintro e w99 ⟨rfl, hb⟩
  have B99 := Lib.hid (B9.out.trans (hb.mono B9.out.size))
  clear hb
  go_wp2
  go_ret
  exact ⟨rfl, (Off.tr O7.out (Only.of_below B99.out)).belowZ HZ.out (Nat.le_refl _)⟩

theorem junk_og (w : World) (b l : List UInt8) (hb : b.length ≤ 1000) (hl : l.length ≤ 1000) (n : Nat) (t : List UInt8) (hbo : own b = some (Lib.uvarint n ++ t)) (hn : n < 18446744073709551616) (first : Nat) (E : List (List UInt8)) (hlo : fnum (scan l) = some first) (hE : (scan l).drop 1 = E) (hle : first ≤ n) (hoff : (first + E.length) % 18446744073709551616 < n) :
    Calls Tryz.prog 4 #[.agg #[.string (str b), .string (str l), .bool true, .bool true]] w fun e w' => e = .returned (.bool true) ∧ Below w.heap.size w w' := by
  have hsb : (str b).size = b.length := str_size b
  have hsl : (str l).size = l.length := str_size l
  obtain ⟨Z, hZ⟩ : ∃ Z : Nat → Prop, Z = fun i => i < w.heap.size := ⟨_, rfl⟩
  have H0 : Hid (∀ W : World, Below w.heap.size w W → Hold Z W (fun _ => none) fun _ => none) := Lib.hid fun W hb => Hold.none_ W Z fun i hi => by subst hZ; exact Nat.lt_of_lt_of_le hi hb.size
  have hZ' : ∀ i, i < w.heap.size → Z i := fun i hi => by subst hZ; exact hi
  have HZ := Lib.hid hZ'
  have HRB : Hid (l1 (some b) ≤ 2000) := Lib.hid (by show b.length ≤ 2000; omega)
  have HRL : Hid (l1 (some l) ≤ 2000) := Lib.hid (by show l.length ≤ 2000; omega)
  have HBL : Hid (b.length ≤ 1000) := Lib.hid hb
  have HLL : Hid (l.length ≤ 1000) := Lib.hid hl
  obtain ⟨hform, hfl⟩ := fnum_form hlo
  rw [hE] at hform
  have hEl : E.length ≤ 50 := by rw [← hE, List.length_drop]; have := scan_count l hl; omega
  have hEn : (scan l).length - 1 = E.length := by rw [← hE, List.length_drop]
  have hEs : ∀ s ∈ E, s.length ≤ 262144 := fun s hs => by have := scan_small l hl s (by rw [hform]; simp [hs]); omega
  have hbase : (s4 20000 (some b) none (some l) none []).base = (0, n, t) := by rw [base_some (s4_now 20000 (some b) none (some l) none), hbo]; exact bsp_join hn t
  have HS90 : Hid ((s4 20000 (some b) none (some l) none []).shop.1 = 90) := Lib.hid (shop_log hbase (.inr ⟨first, hlo, .inr (by rw [hEn]; exact hoff)⟩))
  have HOF := Lib.hid (fun W => of_any b hb W)
  rw [hbo] at HOF
  have hul : (Lib.uvarint n ++ t).length ≤ 1000 := by have h1 := (own_some hbo).2; have h2 := congrArg List.length h1; rw [frame_len] at h2; omega
  have HOF : Hid (∀ W, Calls Tryz.prog 21 #[.string (str b)] W (Asks (.tuple #[.string (str (Lib.uvarint n ++ t)), .bool true]) W)) := Lib.hid HOF.out
  obtain ⟨kk, hkk1, hkk2, hkk3, HRN⟩ : ∃ kk, 1 ≤ kk ∧ kk ≤ (Lib.uvarint n ++ t).length ∧ (Lib.uvarint n ++ t).drop kk = t ∧ Hid (∀ W, Calls Tryz.prog 22 #[.string (str (Lib.uvarint n ++ t))] W fun e w' => e = .returned (.tuple #[.int .u64 (n : Int), .int .i64 (kk : Int)]) ∧ W = w') := by
    have hr := rd_uvarint n t hn
    refine ⟨(Lib.uvarint n).length, ?_, by rw [List.length_append]; omega, by simp, Lib.hid fun W => (ref_any (Lib.uvarint n ++ t) (by omega) W).mono fun e w' hh => ?_⟩
    · by_cases h : n < 128
      · rw [Lib.uvarint_small h]; simp
      · rw [Lib.uvarint_big (by omega)]; simp
    · rcases hh with ⟨h1, ⟨n2, k, h2, hk1, hk2, he⟩ | ⟨h2, _⟩⟩
      · rw [hr] at h2
        injection h2 with h2
        injection h2 with h3 h4
        subst h3
        have h5 := congrArg List.length h4
        rw [List.length_drop, List.length_append] at h5
        rw [List.length_append] at hk2
        have h6 : k = (Lib.uvarint n).length := by omega
        subst h6
        exact ⟨he, h1⟩
      · rw [hr] at h2; cases h2
  have hsu := sl_from (Lib.uvarint n ++ t) (kk : Int) kk rfl hkk2
  rw [hkk3] at hsu
  have hk0 : decide ((0 : Int) < (kk : Int)) = true := decide_eq_true (by omega)
  clear hkk3
  have hsz : (str (Lib.uvarint n ++ t)).size = (Lib.uvarint n ++ t).length := str_size _
  generalize (Lib.uvarint n ++ t).length = ul at *
  generalize str (Lib.uvarint n ++ t) = su at *
  obtain ⟨sy, hsy⟩ : ∃ sy, str t = sy := ⟨_, rfl⟩
  rw [hsy] at hsu
  have HSY := Lib.hid hsy.symm
  clear hsy
  have HDR : Hid (∀ W, Calls Tryz.prog 23 #[.string (str l)] W fun e w' => ∃ g oo c, e = .returned (.tuple #[.int .u64 (first : Int), .slice (some ⟨g, oo, none⟩) E.length c, .bool true]) ∧ W.heap.size ≤ g ∧ g < w'.heap.size ∧ Strs w' (.slice (some ⟨g, oo, none⟩) E.length c) E ∧ Below W.heap.size W w') := Lib.hid fun W => (dread_any l hl W).mono fun e w' hh => by
    rcases hh with ⟨h1, ⟨f, g, oo, c, h2, h3, h4, he, h5⟩ | ⟨h2, _⟩⟩
    · rw [hlo] at h2; cases h2
      rw [hEn] at he h5
      rw [hE] at h5
      exact ⟨g, oo, c, he, h3, h4, h5, h1⟩
    · rw [hlo] at h2; cases h2
  obtain ⟨m, hm⟩ : ∃ m, (first + E.length) % 18446744073709551616 = m := ⟨_, rfl⟩
  have hwr : IntKind.u64.wrap ((first : Int) + (E.length : Int)) = (m : Int) := by simp only [IntKind.wrap_u64]; omega
  have d1 : decide ((first : Int) ≤ (n : Int)) = true := decide_eq_true (by omega)
  have d2 : decide ((n : Int) ≤ (m : Int)) = false := decide_eq_false (by omega)
  have c1 : decide (first ≤ n) = true := decide_eq_true (by omega)
  have c2 : decide (n ≤ m) = false := decide_eq_false (by omega)
  clear hm
  clear hZ hZ'
  clear hbo
  clear hlo
  clear hE
  clear hform
  clear hEn
  clear hEs
  clear hbase
  generalize hyb : str b = yb at *
  generalize hyl : str l = yl at *
  have HYB := Lib.hid hyb
  have HYL := Lib.hid hyl
  clear hyb hyl
  go_enter Tryz.func4, Tryz.ntmps4
  go_wp2
  go_quiet (fail)
  have hb0 : Below w.heap.size w ((w.alloc (.cells #[.string yb, .string yl, .bool true, .bool true] 50)).drewN nq) := below_drewN ((Below.refl w.heap.size w).alloc (Nat.le_refl _) _) nq
  have HN0 := Lib.hid (H0.out _ hb0)
  have HB0 := Lib.hid hb0
  clear hb0
  go_wp2_with fail
  refine (lnew HN0.out 20000 (by decide) rfl).mono ?_
  rintro e w1 ⟨d, D1, rfl, g, h, a, x, b1⟩
  have S1 : Hid (Dst Z w1 d 20000 none none none none 0) := Lib.hid ⟨_, _, _, h, a, rfl, rfl, Nat.le_refl _⟩
  have O1 : Hid (Only (Off Z) w w1) := Lib.hid (Off.tr (Only.of_below HB0.out) (Only.of_below b1))
  clear g h a x b1
  go_wp2_with fail
  refine (dst_makeb S1.out (by omega)).mono ?_
  rintro e w2 ⟨rfl, hh, ho⟩
  have S2 := Lib.hid hh
  have O2 := Lib.hid (Off.tr O1.out ho)
  clear hh ho
  go_wp2_with fail
  refine (dst_appb S2.out (by omega) b (by show 0 + 0 + 0 + 0 + b.length ≤ 20000; have := HBL.out; omega) (by have := HBL.out; omega) HYB.out.symm).mono ?_
  rintro e w3 ⟨rfl, hh, ho⟩
  have S3 := Lib.hid hh
  have O3 := Lib.hid (Off.tr O2.out ho)
  clear hh ho
  go_wp2_with fail
  refine (dst_makel S3.out (by have := HBL.out; omega)).mono ?_
  rintro e w4 ⟨rfl, hh, ho⟩
  have S4 := Lib.hid hh
  have O4 := Lib.hid (Off.tr O3.out ho)
  clear hh ho
  go_wp2_with fail
  refine (dst_appl S4.out (by have := HBL.out; omega) l (by show b.length + 0 + 0 + 0 + l.length ≤ 20000; have := HBL.out; have := HLL.out; omega) (by have := HLL.out; omega) HYL.out.symm).mono ?_
  rintro e w5 ⟨rfl, hh, ho⟩
  have S5 := Lib.hid hh
  have O5 := Lib.hid (Off.tr O4.out ho)
  clear hh ho
  go_wp2_with fail
  refine (dst_sync S5.out (by have := HBL.out; have := HLL.out; omega)).mono ?_
  rintro e w6 ⟨rfl, hh, ho⟩
  have S6 := Lib.hid hh
  have O6 := Lib.hid (Off.tr O5.out ho)
  clear hh ho
  go_wp2_with fail
  refine (lop90 (show ∃ D J, Hold Z w6 D J ∧ D d = some (s4 20000 (some b) none (some l) none []) from S6.out) HRB.out HRL.out HS90.out).mono ?_
  rintro e w7 ⟨rfl, ho⟩
  have O7 := Lib.hid (Off.tr O6.out ho)
  clear ho
  have B7 : Hid (Below w7.heap.size w7 w7) := Lib.hid (Below.refl _ _)
  go_wp2_with fail
  refine (HOF.out _).mono ?_
  rintro e w8 ⟨rfl, hb⟩
  have B8 := Lib.hid (B7.out.trans (hb.mono B7.out.size))
  clear hb
  go_wp2_with fail
  refine (HRN.out _).mono ?_
  rintro e w99 ⟨rfl, rfl⟩
  go_wp2_with fail
  refine (HDR.out _).mono ?_
  rintro e w9 ⟨g, oo, c, rfl, _, _, hst, hb⟩
  have B9 := Lib.hid (B8.out.trans (hb.mono B8.out.size))
  clear hb
  clear hst
  go_wp2_with fail
  refine (head_any _).mono ?_
  rintro e w99 ⟨rfl, hb⟩
  have B99 := Lib.hid (B9.out.trans (hb.mono B9.out.size))
  clear hb
  go_wp2
  go_ret
  exact ⟨rfl, (Off.tr O7.out (Only.of_below B99.out)).belowZ HZ.out (Nat.le_refl _)⟩

theorem junk_oo (w : World) (b l : List UInt8) (hb : b.length ≤ 1000) (hl : l.length ≤ 1000) (n : Nat) (t : List UInt8) (hbo : own b = some (Lib.uvarint n ++ t)) (hn : n < 18446744073709551616) (first : Nat) (E : List (List UInt8)) (hlo : fnum (scan l) = some first) (hE : (scan l).drop 1 = E) (hle : first ≤ n) (hge : n ≤ first + E.length) (hlt : first + E.length < 18446744073709551616) :
    Calls Tryz.prog 4 #[.agg #[.string (str b), .string (str l), .bool true, .bool true]] w fun e w' => e = .returned (.bool true) ∧ Below w.heap.size w w' := by
  have hsb : (str b).size = b.length := str_size b
  have hsl : (str l).size = l.length := str_size l
  obtain ⟨Z, hZ⟩ : ∃ Z : Nat → Prop, Z = fun i => i < w.heap.size := ⟨_, rfl⟩
  have H0 : Hid (∀ W : World, Below w.heap.size w W → Hold Z W (fun _ => none) fun _ => none) := Lib.hid fun W hb => Hold.none_ W Z fun i hi => by subst hZ; exact Nat.lt_of_lt_of_le hi hb.size
  have hZ' : ∀ i, i < w.heap.size → Z i := fun i hi => by subst hZ; exact hi
  have HZ := Lib.hid hZ'
  have HRB : Hid (l1 (some b) ≤ 2000) := Lib.hid (by show b.length ≤ 2000; omega)
  have HRL : Hid (l1 (some l) ≤ 2000) := Lib.hid (by show l.length ≤ 2000; omega)
  have HBL : Hid (b.length ≤ 1000) := Lib.hid hb
  have HLL : Hid (l.length ≤ 1000) := Lib.hid hl
  obtain ⟨hform, hfl⟩ := fnum_form hlo
  rw [hE] at hform
  have hEl : E.length ≤ 50 := by rw [← hE, List.length_drop]; have := scan_count l hl; omega
  have hEn : (scan l).length - 1 = E.length := by rw [← hE, List.length_drop]
  have hEs : ∀ s ∈ E, s.length ≤ 262144 := fun s hs => by have := scan_small l hl s (by rw [hform]; simp [hs]); omega
  have HF : Hid (Fine (some b) (some l) n t first E) := Lib.hid ⟨.inr (by rw [(own_some hbo).2]), hn, (own_some hbo).1, .inr ⟨l, rfl, hform⟩, hEs, hle, hge, hlt⟩
  have HOF := Lib.hid (fun W => of_any b hb W)
  rw [hbo] at HOF
  have hul : (Lib.uvarint n ++ t).length ≤ 1000 := by have h1 := (own_some hbo).2; have h2 := congrArg List.length h1; rw [frame_len] at h2; omega
  have HOF : Hid (∀ W, Calls Tryz.prog 21 #[.string (str b)] W (Asks (.tuple #[.string (str (Lib.uvarint n ++ t)), .bool true]) W)) := Lib.hid HOF.out
  obtain ⟨kk, hkk1, hkk2, hkk3, HRN⟩ : ∃ kk, 1 ≤ kk ∧ kk ≤ (Lib.uvarint n ++ t).length ∧ (Lib.uvarint n ++ t).drop kk = t ∧ Hid (∀ W, Calls Tryz.prog 22 #[.string (str (Lib.uvarint n ++ t))] W fun e w' => e = .returned (.tuple #[.int .u64 (n : Int), .int .i64 (kk : Int)]) ∧ W = w') := by
    have hr := rd_uvarint n t hn
    refine ⟨(Lib.uvarint n).length, ?_, by rw [List.length_append]; omega, by simp, Lib.hid fun W => (ref_any (Lib.uvarint n ++ t) (by omega) W).mono fun e w' hh => ?_⟩
    · by_cases h : n < 128
      · rw [Lib.uvarint_small h]; simp
      · rw [Lib.uvarint_big (by omega)]; simp
    · rcases hh with ⟨h1, ⟨n2, k, h2, hk1, hk2, he⟩ | ⟨h2, _⟩⟩
      · rw [hr] at h2
        injection h2 with h2
        injection h2 with h3 h4
        subst h3
        have h5 := congrArg List.length h4
        rw [List.length_drop, List.length_append] at h5
        rw [List.length_append] at hk2
        have h6 : k = (Lib.uvarint n).length := by omega
        subst h6
        exact ⟨he, h1⟩
      · rw [hr] at h2; cases h2
  have hsu := sl_from (Lib.uvarint n ++ t) (kk : Int) kk rfl hkk2
  rw [hkk3] at hsu
  have hk0 : decide ((0 : Int) < (kk : Int)) = true := decide_eq_true (by omega)
  clear hkk3
  have hsz : (str (Lib.uvarint n ++ t)).size = (Lib.uvarint n ++ t).length := str_size _
  generalize (Lib.uvarint n ++ t).length = ul at *
  generalize str (Lib.uvarint n ++ t) = su at *
  obtain ⟨sy, hsy⟩ : ∃ sy, str t = sy := ⟨_, rfl⟩
  rw [hsy] at hsu
  have HSY := Lib.hid hsy.symm
  clear hsy
  have HDR : Hid (∀ W, Calls Tryz.prog 23 #[.string (str l)] W fun e w' => ∃ g oo c, e = .returned (.tuple #[.int .u64 (first : Int), .slice (some ⟨g, oo, none⟩) E.length c, .bool true]) ∧ W.heap.size ≤ g ∧ g < w'.heap.size ∧ Strs w' (.slice (some ⟨g, oo, none⟩) E.length c) E ∧ Below W.heap.size W w') := Lib.hid fun W => (dread_any l hl W).mono fun e w' hh => by
    rcases hh with ⟨h1, ⟨f, g, oo, c, h2, h3, h4, he, h5⟩ | ⟨h2, _⟩⟩
    · rw [hlo] at h2; cases h2
      rw [hEn] at he h5
      rw [hE] at h5
      exact ⟨g, oo, c, he, h3, h4, h5, h1⟩
    · rw [hlo] at h2; cases h2
  obtain ⟨m, hm⟩ : ∃ m, (first + E.length) % 18446744073709551616 = m := ⟨_, rfl⟩
  have hwr : IntKind.u64.wrap ((first : Int) + (E.length : Int)) = (m : Int) := by simp only [IntKind.wrap_u64]; omega
  have hmm : m = first + E.length := by omega
  have d1 : decide ((first : Int) ≤ (n : Int)) = true := decide_eq_true (by omega)
  have d2 : decide ((n : Int) ≤ (m : Int)) = true := decide_eq_true (by omega)
  have d3 : decide ((first : Int) ≤ (m : Int)) = true := decide_eq_true (by omega)
  have c1 : decide (first ≤ n) = true := decide_eq_true (by omega)
  have c2 : decide (n ≤ m) = true := decide_eq_true (by omega)
  have c3 : decide (first ≤ m) = true := decide_eq_true (by omega)
  obtain ⟨k, hk⟩ : ∃ k, n = first + k := ⟨n - first, by omega⟩
  have hsub : IntKind.u64.wrap ((n : Int) - (first : Int)) = (k : Int) := by simp only [IntKind.wrap_u64]; omega
  have hkE : k ≤ E.length := by omega
  have HKN := Lib.hid hk
  have HKE := Lib.hid hkE
  clear hmm
  clear hm hk
  clear hZ hZ'
  clear hbo
  clear hlo
  clear hE
  clear hform
  clear hEn
  clear hEs
  generalize hyb : str b = yb at *
  generalize hyl : str l = yl at *
  have HYB := Lib.hid hyb
  have HYL := Lib.hid hyl
  clear hyb hyl
  go_enter Tryz.func4, Tryz.ntmps4
  go_wp2
  go_quiet (fail)
  have hb0 : Below w.heap.size w ((w.alloc (.cells #[.string yb, .string yl, .bool true, .bool true] 50)).drewN nq) := below_drewN ((Below.refl w.heap.size w).alloc (Nat.le_refl _) _) nq
  have HN0 := Lib.hid (H0.out _ hb0)
  have HB0 := Lib.hid hb0
  clear hb0
  go_wp2_with fail
  refine (lnew HN0.out 20000 (by decide) rfl).mono ?_
  rintro e w1 ⟨d, D1, rfl, g, h, a, x, b1⟩
  have S1 : Hid (Dst Z w1 d 20000 none none none none 0) := Lib.hid ⟨_, _, _, h, a, rfl, rfl, Nat.le_refl _⟩
  have O1 : Hid (Only (Off Z) w w1) := Lib.hid (Off.tr (Only.of_below HB0.out) (Only.of_below b1))
  clear g h a x b1
  go_wp2_with fail
  refine (dst_makeb S1.out (by omega)).mono ?_
  rintro e w2 ⟨rfl, hh, ho⟩
  have S2 := Lib.hid hh
  have O2 := Lib.hid (Off.tr O1.out ho)
  clear hh ho
  go_wp2_with fail
  refine (dst_appb S2.out (by omega) b (by show 0 + 0 + 0 + 0 + b.length ≤ 20000; have := HBL.out; omega) (by have := HBL.out; omega) HYB.out.symm).mono ?_
  rintro e w3 ⟨rfl, hh, ho⟩
  have S3 := Lib.hid hh
  have O3 := Lib.hid (Off.tr O2.out ho)
  clear hh ho
  go_wp2_with fail
  refine (dst_makel S3.out (by have := HBL.out; omega)).mono ?_
  rintro e w4 ⟨rfl, hh, ho⟩
  have S4 := Lib.hid hh
  have O4 := Lib.hid (Off.tr O3.out ho)
  clear hh ho
  go_wp2_with fail
  refine (dst_appl S4.out (by have := HBL.out; omega) l (by show b.length + 0 + 0 + 0 + l.length ≤ 20000; have := HBL.out; have := HLL.out; omega) (by have := HLL.out; omega) HYL.out.symm).mono ?_
  rintro e w5 ⟨rfl, hh, ho⟩
  have S5 := Lib.hid hh
  have O5 := Lib.hid (Off.tr O4.out ho)
  clear hh ho
  go_wp2_with fail
  refine (dst_sync S5.out (by have := HBL.out; have := HLL.out; omega)).mono ?_
  rintro e w6 ⟨rfl, hh, ho⟩
  have S6 := Lib.hid hh
  have O6 := Lib.hid (Off.tr O5.out ho)
  clear hh ho
  go_wp2_with fail
  refine (lop1 (show ∃ D J, Hold Z w6 D J ∧ D d = some (s4 20000 (some b) none (some l) none []) from S6.out) HRB.out HRL.out HF.out).mono ?_
  rintro e w7 ⟨s, rfl, hh, ho⟩
  have S7 := Lib.hid hh
  have O7 := Lib.hid (Off.tr O6.out ho)
  clear hh ho
  have B7 : Hid (Below w7.heap.size w7 w7) := Lib.hid (Below.refl _ _)
  go_wp2_with fail
  refine (HOF.out _).mono ?_
  rintro e w8 ⟨rfl, hb⟩
  have B8 := Lib.hid (B7.out.trans (hb.mono B7.out.size))
  clear hb
  go_wp2_with fail
  refine (HRN.out _).mono ?_
  rintro e w99 ⟨rfl, rfl⟩
  go_wp2_with fail
  refine (HDR.out _).mono ?_
  rintro e w9 ⟨g, oo, c, rfl, hg1, hg2, hst, hb⟩
  have B9 := Lib.hid (B8.out.trans (hb.mono B8.out.size))
  clear hb
  have HG1 : Hid (w7.heap.size ≤ g) := Lib.hid (Nat.le_trans B8.out.size hg1)
  have HG2 := Lib.hid hg2
  have HST := Lib.hid hst
  obtain ⟨_, _, e9, hlc, hcm, _⟩ := id hst
  injection e9 with e1 e2 e3
  subst e3
  clear e1 e2 hg1 hg2 hst
  unfold maxLen at hcm
  have HSK : Hid (Strs w9 (.slice (some ⟨g, oo + k, none⟩) (E.length - k) (c - k)) (E.drop k)) := Lib.hid (HST.out.from k HKE.out)
  by_cases hck : c = k
  · have hdl : (E.drop k).length = E.length - k := List.length_drop
    subst hck
    have SG := Lib.hid (S7.out.grow B9.out)
    go_wp2_with fail
    refine (lop2 SG.out HRB.out HRL.out HF.out).mono ?_
    rintro e wa ⟨r, rfl, h1, h2, ho⟩
    have Sa := Lib.hid h1
    have Ra := Lib.hid h2
    have Oa := Lib.hid ho
    have Ta : Hid (Strs wa (.slice (some ⟨g, oo, none⟩) 0 0) (E.drop c)) := Lib.hid (by rw [List.drop_of_length_le hlc]; exact strs_empty (L := []) rfl (Nat.zero_le _))
    clear h1 h2 ho
    go_wp2_with fail
    refine (lis Sa.out HRL.out HF.out c HKN.out _ Ta.out rfl HSY.out).mono ?_
    rintro e wb ⟨rfl, hb⟩
    have Rb := Lib.hid (Ra.out.below hb)
    have Tb := Lib.hid (Ta.out.below hb)
    have Bb := Lib.hid hb
    clear hb
    go_wp2_with fail
    refine (lis Rb.out HRL.out HF.out c HKN.out _ Tb.out rfl HSY.out).mono ?_
    rintro e wc ⟨rfl, hb⟩
    have Bc := Lib.hid (Bb.out.trans (hb.mono Bb.out.size))
    clear hb
    go_wp2_with fail
    refine (head_any _).mono ?_
    rintro e wd ⟨rfl, hb⟩
    have Bd := Lib.hid (Bc.out.trans (hb.mono Bc.out.size))
    clear hb
    go_wp2
    go_ret
    have hz1 : Only (Off Z) w7 wa := Only.mono (off_trE (Only.of_below B9.out) Oa.out) fun i hi hh => hh
    exact ⟨rfl, (Off.tr (Off.tr O7.out hz1) (Only.of_below Bd.out)).belowZ HZ.out (Nat.le_refl _)⟩
  · have hck2 : ¬ (k = c) := fun h => hck h.symm
    have SG := Lib.hid (S7.out.grow B9.out)
    go_wp2_with fail
    refine (lop2 SG.out HRB.out HRL.out HF.out).mono ?_
    rintro e wa ⟨r, rfl, h1, h2, ho⟩
    have Sa := Lib.hid h1
    have Ra := Lib.hid h2
    have Oa := Lib.hid ho
    have Ta : Hid (Strs wa (.slice (some ⟨g, oo + k, none⟩) (E.length - k) (c - k)) (E.drop k)) := Lib.hid (Strs.off HSK.out Oa.out fun A n c e => by cases e; exact .inr ⟨HG1.out, HG2.out⟩)
    clear h1 h2 ho
    go_wp2_with fail
    refine (lis Sa.out HRL.out HF.out k HKN.out _ Ta.out rfl HSY.out).mono ?_
    rintro e wb ⟨rfl, hb⟩
    have Rb := Lib.hid (Ra.out.below hb)
    have Tb := Lib.hid (Ta.out.below hb)
    have Bb := Lib.hid hb
    clear hb
    go_wp2_with fail
    refine (lis Rb.out HRL.out HF.out k HKN.out _ Tb.out rfl HSY.out).mono ?_
    rintro e wc ⟨rfl, hb⟩
    have Bc := Lib.hid (Bb.out.trans (hb.mono Bb.out.size))
    clear hb
    go_wp2_with fail
    refine (head_any _).mono ?_
    rintro e wd ⟨rfl, hb⟩
    have Bd := Lib.hid (Bc.out.trans (hb.mono Bc.out.size))
    clear hb
    go_wp2
    go_ret
    have hz1 : Only (Off Z) w7 wa := Only.mono (off_trE (Only.of_below B9.out) Oa.out) fun i hi hh => hh
    exact ⟨rfl, (Off.tr (Off.tr O7.out hz1) (Only.of_below Bd.out)).belowZ HZ.out (Nat.le_refl _)⟩
end Go.Proofs.YtmaohncddjhgeaaGreat.gn
end
section
set_option linter.unusedVariables false
set_option linter.unusedSectionVars false
namespace Go.Proofs.YtmaohncddjhgeaaGreat.gn
open Go.RowKit
open Go.Proofs.YtmaohncddjhgeaaGreat.fi

set_option maxRecDepth 100000
set_option maxHeartbeats 4000000
theorem junk_short (w : World) (b l : List UInt8) (hb hl : Bool) (hno : 1000 < b.length ∨ 1000 < l.length) :
    Calls Tryz.prog 4 #[.agg #[.string (str b), .string (str l), .bool hb, .bool hl]] w fun e w' => e = .returned (.bool true) ∧ Below w.heap.size w w' := by
  have hsb : (str b).size = b.length := str_size b
  have hsl : (str l).size = l.length := str_size l
  generalize str b = yb at *
  generalize str l = yl at *
  by_cases h1 : 1000 < b.length
  · have d1 : decide ((1000 : Int) < (b.length : Int)) = true := decide_eq_true (by omega)
    go_enter Tryz.func4, Tryz.ntmps4
    go_wp2
    go_quiet (fail)
    have hb0 : Below w.heap.size w ((w.alloc (.cells #[.string yb, .string yl, .bool hb, .bool hl] 50)).drewN nq) := below_drewN ((Below.refl w.heap.size w).alloc (Nat.le_refl _) _) nq
    have HB0 := Lib.hid hb0
    clear hb0
    go_wp2_with fail
    refine (head_any _).mono ?_
    rintro e w2 ⟨rfl, b2⟩
    have B2 := Lib.hid (HB0.out.trans (b2.mono HB0.out.size))
    clear b2
    go_wp2
    go_ret
    exact ⟨rfl, B2.out⟩
  · have h2 : 1000 < l.length := by omega
    have d1 : decide ((1000 : Int) < (b.length : Int)) = false := decide_eq_false (by omega)
    have d2 : decide ((1000 : Int) < (l.length : Int)) = true := decide_eq_true (by omega)
    go_enter Tryz.func4, Tryz.ntmps4
    go_wp2
    go_quiet (fail)
    have hb0 : Below w.heap.size w ((w.alloc (.cells #[.string yb, .string yl, .bool hb, .bool hl] 50)).drewN nq) := below_drewN ((Below.refl w.heap.size w).alloc (Nat.le_refl _) _) nq
    have HB0 := Lib.hid hb0
    clear hb0
    go_wp2_with fail
    refine (head_any _).mono ?_
    rintro e w2 ⟨rfl, b2⟩
    have B2 := Lib.hid (HB0.out.trans (b2.mono HB0.out.size))
    clear b2
    go_wp2
    go_ret
    exact ⟨rfl, B2.out⟩

theorem junk_any (w : World) (b l : List UInt8) (hb hl : Bool) :
    Calls Tryz.prog 4 #[.agg #[.string (str b), .string (str l), .bool hb, .bool hl]] w fun e w' => e = .returned (.bool true) ∧ Below w.heap.size w w' := by
  by_cases hs : 1000 < b.length ∨ 1000 < l.length
  · exact junk_short w b l hb hl hs
  · have h1 : b.length ≤ 1000 := by omega
    have h2 : l.length ≤ 1000 := by omega
    have hE : ((scan l).drop 1).length ≤ 50 := by rw [List.length_drop]; have := scan_count l h2; omega
    cases hb with
    | false =>
      cases hl with
      | false => exact junk_xx w b l h1 h2
      | true =>
        cases hf : fnum (scan l) with
        | none => exact junk_xn w b l h1 h2 hf
        | some first =>
          by_cases h0 : 0 < first
          · exact junk_xf w b l h1 h2 first _ hf rfl h0
          · obtain rfl : first = 0 := by omega
            exact junk_xo w b l h1 h2 _ hf rfl
    | true =>
      cases ho : own b with
      | none =>
        cases hl with
        | false => exact junk_nx w b l h1 h2 ho
        | true =>
          cases hf : fnum (scan l) with
          | none => exact junk_nn w b l h1 h2 ho hf
          | some first => exact junk_ns w b l h1 h2 ho first _ hf rfl
      | some u =>
        cases hr : rd u with
        | none =>
          cases hl with
          | false => exact junk_bx w b l h1 h2 u ho hr
          | true =>
            cases hf : fnum (scan l) with
            | none => exact junk_bn w b l h1 h2 u ho hr hf
            | some first => exact junk_bs w b l h1 h2 u ho hr first _ hf rfl
        | some q =>
          obtain ⟨n, t⟩ := q
          have hn := rd_lt hr
          have hu := rd_form hr
          subst hu
          cases hl with
          | false => exact junk_ox w b l h1 h2 n t ho hn
          | true =>
            cases hf : fnum (scan l) with
            | none => exact junk_on w b l h1 h2 n t ho hn hf
            | some first =>
              have hfl := (fnum_form hf).2
              by_cases h3 : n < first
              · exact junk_of w b l h1 h2 n t ho hn first _ hf rfl h3
              · by_cases h4 : (first + ((scan l).drop 1).length) % 18446744073709551616 < n
                · exact junk_og w b l h1 h2 n t ho hn first _ hf rfl (by omega) h4
                · exact junk_oo w b l h1 h2 n t ho hn first _ hf rfl (by omega) (by omega) (by omega)
end Go.Proofs.YtmaohncddjhgeaaGreat.gn
end
