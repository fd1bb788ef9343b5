/- The contract of Start. -/
import Derived.Test.YtmaohncddjhgeaaGreatMRunA
import Derived.Test.YtmaohncddjhgeaaGreatMPkC
import Derived.Test.YtmaohncddjhgeaaGreatMFrP
section
set_option linter.unusedVariables false
namespace Go.Proofs.YtmaohncddjhgeaaGreat.fi
open Go.Proofs.YtmaohncddjhgeaaGreat.gn (frames frames_len cost_one)
/-- The first frame of a journal's file. -/
def jhd (first : Nat) : List UInt8 := frames [Lib.uvarint first]
theorem jhd_len {first : Nat} (h : first < 18446744073709551616) : (jhd first).length ≤ 30 := by
  have := Lib.uvarint_length64 h
  rw [jhd, frames_len, cost_one]
  omega
def startL (n : Nm) (first : Nat) : List (FS → Int × FS) :=
  [fun s => (ck n, s), fun s => s.remi (n ++ [126]), fun s => s.make (n ++ [126]), fun s => s.app (n ++ [126]) (jhd first), fun s => (0, s.sync), fun s => s.ren (n ++ [126]) n, fun s => (0, s.sync)]
/-- What becomes of a directory in which a journal is started. -/
def FS.start (s : FS) (n : Nm) (first : Nat) : Int × FS := runs (startL n first) s
end Go.Proofs.YtmaohncddjhgeaaGreat.fi

namespace Go.Proofs.YtmaohncddjhgeaaGreat.gn
open Go.RowKit
open Go.Proofs.YtmaohncddjhgeaaGreat.fi
open Go.Proofs.YtmaohncddjhgeaaGreat.sl

/-- Between two steps of a Start. -/
structure StaI (Z : Nat → Prop) (w1 : World) (D : Nat → Option FS) (J : Nat → Option Jn) (d : Nat) (s : FS) (L : List (FS → Int × FS)) (k : Nat) (wr : World) : Prop where
  is : ∃ sk, Hold Z wr (upd D d sk) J ∧ runs (L.drop k) sk = runs L s ∧ sk.wt ≤ s.wt + 100 * k
  only : Only (Off Z) w1 wr
def StaF (Z : Nat → Prop) (w1 : World) (D : Nat → Option FS) (J : Nat → Option Jn) (d : Nat) (s : FS) (L : List (FS → Int × FS)) (q : Int) (wr : World) : Prop :=
  q = (runs L s).1 ∧ Hold Z wr (upd D d (runs L s).2) J ∧ Only (Off Z) w1 wr
theorem sta_step {Z : Nat → Prop} {w1 wr w' : World} {D : Nat → Option FS} {J : Nat → Option Jn} {d : Nat} {s sk : FS} {L : List (FS → Int × FS)} {k : Nat} (hr : runs (L.drop k) sk = runs L s) (hw : sk.wt ≤ s.wt + 100 * k)
    (ho : Only (Off Z) w1 wr) (f : FS → Int × FS) (hf : L.drop k = f :: L.drop (k + 1)) (hfw : (f sk).2.wt ≤ sk.wt + 100) {e : Ending} (h : Went Z (upd (upd D d sk) d (f sk).2) J (.int .i64 (f sk).1) wr e w') :
    Stp (StaI Z w1 D J d s L (k + 1)) (StaF Z w1 D J d s L) e w' := by
  obtain ⟨rfl, h1, h2⟩ := h
  rw [upd_upd] at h1
  have h3 : Only (Off Z) w1 w' := ho.trans h2 fun i _ hi => hi
  rw [hf, runs_cons] at hr
  by_cases hq : (f sk).1 = 0
  · rw [if_pos hq] at hr
    rw [hq]
    exact .inl ⟨rfl, ⟨(f sk).2, h1, hr, by omega⟩, h3⟩
  · rw [if_neg hq] at hr
    exact .inr ⟨_, hq, rfl, by rw [← hr], by rw [← hr]; exact h1, h3⟩

set_option maxRecDepth 100000 in
set_option maxHeartbeats 4000000 in
theorem starting_any (w : World) (d : Nat) (n : Nm) (first : Nat) (hf : first < 18446744073709551616) :
    Calls Tryz.prog 83 #[.pointer (some ⟨d, 0, none⟩), .string (str n), .int .u64 (first : Int)] w fun e w' => ∃ A p q r, e = .returned (.slice (some ⟨A, 0, none⟩) 7 7) ∧ Below w.heap.size w w' ∧
      Bxs w' p q r d n (jhd first) ∧ (w.heap.size ≤ p ∧ w.heap.size ≤ q ∧ w.heap.size ≤ r ∧ w.heap.size ≤ A) ∧
      w'.heap[A]? = some (.cells #[.func (.func 113) #[] #[.pointer (some ⟨p, 0, none⟩), .pointer (some ⟨q, 0, none⟩)], .func (.func 114) #[] #[.pointer (some ⟨p, 0, none⟩), .pointer (some ⟨q, 0, none⟩)],
        .func (.func 116) #[] #[.pointer (some ⟨p, 0, none⟩), .pointer (some ⟨q, 0, none⟩)], .func (.func 117) #[] #[.pointer (some ⟨p, 0, none⟩), .pointer (some ⟨q, 0, none⟩), .pointer (some ⟨r, 0, none⟩)],
        .func (.func 118) #[] #[.pointer (some ⟨p, 0, none⟩)], .func (.func 119) #[] #[.pointer (some ⟨p, 0, none⟩), .pointer (some ⟨q, 0, none⟩)], .func (.func 120) #[] #[.pointer (some ⟨p, 0, none⟩)]] 52 (0, 0)) := by
  obtain ⟨w1, hw1⟩ : ∃ w1, ((w.alloc (.cells #[.pointer (some ⟨d, 0, none⟩)] 25)).alloc (.cells #[.string (str n)] 9)) = w1 := ⟨_, rfl⟩
  have hz1 : w1.heap.size = w.heap.size + 2 := by rw [← hw1]; simp
  have hb1 : Below w.heap.size w w1 := by rw [← hw1]; exact ((Below.refl _ w).alloc (Nat.le_refl _) _).alloc (by simp) _
  have hp1 : Boxed w1 w.heap.size 25 (.pointer (some ⟨d, 0, none⟩)) := by rw [← hw1]; exact (Boxed.new w _ _).alloc _
  have hq1 : Boxed w1 (w.heap.size + 1) 9 (.string (str n)) := by
    rw [← hw1]
    have := Boxed.new (w.alloc (.cells #[.pointer (some ⟨d, 0, none⟩)] 25)) 9 (.string (str n))
    simpa using this
  have hr2 : ∀ j (x : Nat), [first][j]? = some x → (w1.alloc (.cells #[.int .u64 (first : Int)] 31)).cell? ⟨w1.heap.size, 0 + j, none⟩ = some (.int .u64 (x : Int)) := by
    intro j x hj
    match j, hj with
    | 0, hj => simp at hj; subst hj; rw [World.cell?_alloc_at _ _ _ _ rfl]; rfl
  have hb2 : Below w.heap.size w (w1.alloc (.cells #[.int .u64 (first : Int)] 31)) := hb1.alloc (by omega) _
  have hul := Lib.uvarint_length64 hf
  have hpn := (packNum_any [] [first] (by intro x hx; simp at hx; omega) w.heap.size (.slice none 0 0) w1.heap.size 0 1 (w1.alloc (.cells #[.int .u64 (first : Int)] 31)) (Bs_nil _ _) hr2 (by simp) (by simp; omega))
  simp only [List.length_singleton, hz1] at hpn
  have HN := Lib.hid hpn
  clear hpn
  have HB2 := Lib.hid hb2
  have HP := Lib.hid (hp1.alloc (.cells #[.int .u64 (first : Int)] 31))
  have HQ := Lib.hid (hq1.alloc (.cells #[.int .u64 (first : Int)] 31))
  have hz2 : (w1.alloc (.cells #[.int .u64 (first : Int)] 31)).heap.size = w.heap.size + 3 := by simp [hz1]
  have HZ2 := Lib.hid hz2
  clear hb1 hp1 hq1 hr2 hb2 hz2
  go_enter Tryz.func83, Tryz.ntmps83
  go_wp2_with fail
  refine HN.out.mono ?_
  rintro e w3 ⟨v3, rfl, hB3, hb3⟩
  have hcv := bs_string hB3
  have ev : (⟨([] ++ [first].flatMap Lib.uvarint).toArray⟩ : ByteArray) = str (Lib.uvarint first) := by simp [str]
  rw [ev] at hcv
  have hsz3 : w.heap.size + 3 ≤ w3.heap.size := by have := hb3.size; rw [HZ2.out] at this; exact this
  have HB3 := Lib.hid (HB2.out.trans (hb3.mono HB2.out.size))
  have HP3 := Lib.hid ((hb3.block _ (by rw [HZ2.out]; omega)).trans HP.out)
  have HQ3 := Lib.hid ((hb3.block _ (by rw [HZ2.out]; omega)).trans HQ.out)
  have HF := Lib.hid (put_any (.slice (some ⟨w3.heap.size, 0, none⟩) 1 1) [Lib.uvarint first] (w3.alloc (.cells #[.string (str (Lib.uvarint first))] 9)) (strs_new w3 _ (by unfold maxLen; omega)) (by intro s hs; simp at hs; subst hs; omega) (by rw [cost_one]; omega))
  clear hb3 hB3 ev hw1
  go_wp2_with fail
  refine HF.out.mono ?_
  rintro e w4 ⟨rfl, hb4⟩
  have hz4 : w3.heap.size + 1 ≤ w4.heap.size := by have := hb4.size; simp at this; exact this
  have HB4 := Lib.hid ((HB3.out.alloc HB3.out.size _).trans (hb4.mono (by simp; omega)))
  have HP4 := Lib.hid ((hb4.block w.heap.size (by simp; omega)).trans (show (w3.alloc (.cells #[.string (str (Lib.uvarint first))] 9)).heap[w.heap.size]? = _ from Boxed.alloc HP3.out _))
  have HQ4 := Lib.hid ((hb4.block (w.heap.size + 1) (by simp; omega)).trans (show (w3.alloc (.cells #[.string (str (Lib.uvarint first))] 9)).heap[w.heap.size + 1]? = _ from Boxed.alloc HQ3.out _))
  clear hb4
  obtain ⟨w5, hw5⟩ : ∃ w5, (w4.alloc (.cells #[.string ⟨#[]⟩] 9)) = w5 := ⟨_, rfl⟩
  have hx5 : Boxed w5 w4.heap.size 9 (.string ⟨#[]⟩) := by rw [← hw5]; exact Boxed.new _ _ _
  have hz5 : w5.heap.size = w4.heap.size + 1 := by rw [← hw5]; simp
  have HP5 : Hid (Boxed w5 w.heap.size 25 (.pointer (some ⟨d, 0, none⟩))) := by rw [← hw5]; exact Lib.hid (Boxed.alloc HP4.out _)
  have HQ5 : Hid (Boxed w5 (w.heap.size + 1) 9 (.string (str n))) := by rw [← hw5]; exact Lib.hid (Boxed.alloc HQ4.out _)
  have HB5 : Hid (Below w.heap.size w w5) := by rw [← hw5]; exact Lib.hid (HB4.out.alloc HB4.out.size _)
  have hc5 := hx5.cell
  have hf5 := hx5.frozen
  have HX5 := Lib.hid hx5
  clear hx5
  go_wp2_with fail
  go_ret
  refine ⟨_, w.heap.size, w.heap.size + 1, w4.heap.size, rfl, ?_, ⟨?_, ?_, ?_⟩, ⟨by omega, by omega, by omega, ?_⟩, alloc_at (by simp [hz5])⟩
  · exact (HB5.out.setCell (by show w.heap.size ≤ w4.heap.size; omega) _).alloc (by have := HB5.out.size; simp [World.setCell]; omega) _
  · refine Boxed.alloc (W := w5.setCell _ _) ?_ _
    exact (Below.heap_setCell w5 _ _ _ (by show w.heap.size ≠ w4.heap.size; omega)).trans HP5.out
  · refine Boxed.alloc (W := w5.setCell _ _) ?_ _
    exact (Below.heap_setCell w5 _ _ _ (by show w.heap.size + 1 ≠ w4.heap.size; omega)).trans HQ5.out
  · exact Boxed.alloc (W := w5.setCell _ _) (HX5.out.set _) _
  · have := HB5.out.size; simp; omega

/-- What a Start answers, and leaves. -/
def Started (Z : Nat → Prop) (D : Nat → Option FS) (J : Nat → Option Jn) (d : Nat) (n : Nm) (first : Nat) (r : Int × FS) (w : World) (e : Ending) (w' : World) : Prop :=
  (r.1 = 0 ∧ ∃ j, e = .returned (.tuple #[.pointer (some ⟨j, 0, none⟩), .int .i64 0]) ∧ w.heap.size ≤ j ∧ Hold Z w' (upd D d r.2) (upd J j ⟨d, n, first, first⟩) ∧ Only (Off Z) w w') ∨
  (r.1 ≠ 0 ∧ e = .returned (.tuple #[.pointer none, .int .i64 r.1]) ∧ Hold Z w' (upd D d r.2) J ∧ Only (Off Z) w w')

theorem starting_cells {wr : World} {A p q r : Nat} (h : wr.heap[A]? = some (.cells #[.func (.func 113) #[] #[.pointer (some ⟨p, 0, none⟩), .pointer (some ⟨q, 0, none⟩)], .func (.func 114) #[] #[.pointer (some ⟨p, 0, none⟩), .pointer (some ⟨q, 0, none⟩)],
        .func (.func 116) #[] #[.pointer (some ⟨p, 0, none⟩), .pointer (some ⟨q, 0, none⟩)], .func (.func 117) #[] #[.pointer (some ⟨p, 0, none⟩), .pointer (some ⟨q, 0, none⟩), .pointer (some ⟨r, 0, none⟩)],
        .func (.func 118) #[] #[.pointer (some ⟨p, 0, none⟩)], .func (.func 119) #[] #[.pointer (some ⟨p, 0, none⟩), .pointer (some ⟨q, 0, none⟩)], .func (.func 120) #[] #[.pointer (some ⟨p, 0, none⟩)]] 52 (0, 0))) :
    wr.cell? ⟨A, 0, none⟩ = some (.func (.func 113) #[] #[.pointer (some ⟨p, 0, none⟩), .pointer (some ⟨q, 0, none⟩)]) ∧ wr.cell? ⟨A, 1, none⟩ = some (.func (.func 114) #[] #[.pointer (some ⟨p, 0, none⟩), .pointer (some ⟨q, 0, none⟩)]) ∧
    wr.cell? ⟨A, 2, none⟩ = some (.func (.func 116) #[] #[.pointer (some ⟨p, 0, none⟩), .pointer (some ⟨q, 0, none⟩)]) ∧ wr.cell? ⟨A, 3, none⟩ = some (.func (.func 117) #[] #[.pointer (some ⟨p, 0, none⟩), .pointer (some ⟨q, 0, none⟩), .pointer (some ⟨r, 0, none⟩)]) ∧
    wr.cell? ⟨A, 4, none⟩ = some (.func (.func 118) #[] #[.pointer (some ⟨p, 0, none⟩)]) ∧ wr.cell? ⟨A, 5, none⟩ = some (.func (.func 119) #[] #[.pointer (some ⟨p, 0, none⟩), .pointer (some ⟨q, 0, none⟩)]) ∧ wr.cell? ⟨A, 6, none⟩ = some (.func (.func 120) #[] #[.pointer (some ⟨p, 0, none⟩)]) :=
  ⟨by rw [cell_of_row _ _ 0 _ _ _ h]; rfl, by rw [cell_of_row _ _ 1 _ _ _ h]; rfl, by rw [cell_of_row _ _ 2 _ _ _ h]; rfl, by rw [cell_of_row _ _ 3 _ _ _ h]; rfl, by rw [cell_of_row _ _ 4 _ _ _ h]; rfl, by rw [cell_of_row _ _ 5 _ _ _ h]; rfl, by rw [cell_of_row _ _ 6 _ _ _ h]; rfl⟩

set_option maxRecDepth 100000 in
set_option maxHeartbeats 4000000 in
theorem start_any {Z : Nat → Prop} {w : World} {D : Nat → Option FS} {J : Nat → Option Jn} (h : Hold Z w D J) {d : Nat} {s : FS} (hd : D d = some s) (hwt : s.wt ≤ 274877906944) (n : Nm) (hn : n.length ≤ 1000000) (first : Nat) (hf : first < 18446744073709551616) :
    Calls Tryz.prog 62 #[.pointer (some ⟨d, 0, none⟩), .string (str n), .int .u64 (first : Int)] w (Started Z D J d n first (s.start n first) w) := by
  have HH := Lib.hid h
  have HS := Lib.hid (starting_any w d n first hf)
  have HD := Lib.hid hd
  have hjl := jhd_len hf
  clear h hd
  go_enter Tryz.func62, Tryz.ntmps62
  go_wp2_with fail
  refine HS.out.mono ?_
  rintro e w1 ⟨A, p, q, r, rfl, hb1, hbx, ⟨hp, hq, hr, hA⟩, hrow⟩
  have hG := HH.out.grow hb1
  have hAlt := lt_of_block hrow
  have zp : news Z w w1 p := .inr ⟨hp, hbx.p.lt⟩
  have zq : news Z w w1 q := .inr ⟨hq, hbx.q.lt⟩
  have zr : news Z w w1 r := .inr ⟨hr, hbx.r.lt⟩
  have zA : news Z w w1 A := .inr ⟨hA, hAlt⟩
  have keep : ∀ {k : Nat} {wr : World}, StaI (news Z w w1) w1 D J d s (startL n first) k wr → Bxs wr p q r d n (jhd first) := fun hi =>
    hbx.kept hi.only (fun hh => hh zp) (fun hh => hh zq) (fun hh => hh zr)
  have HP : Hid (Calls Tryz.prog 65 #[.slice (some ⟨A, 0, none⟩) 7 7] w1 (Stp (StaI (news Z w w1) w1 D J d s (startL n first) 7) (StaF (news Z w w1) w1 D J d s (startL n first)))) := by
    refine Lib.hid (perform_start (StaI (news Z w w1) w1 D J d s (startL n first)) _ A p q r w1 (fun k wr hi => starting_cells (hi.only.off hrow zA)) ⟨⟨s, by rw [upd_self HD.out]; exact hG, rfl, by omega⟩, Only.refl _ _⟩ ?_ ?_ ?_ ?_ ?_ ?_ ?_)
    · rintro wr hi
      obtain ⟨sk, h1, h2, h3⟩ := hi.is
      exact (sta1 h1 (upd_same _ _ _) (by omega) (keep hi) hn).mono fun e w' hw => sta_step h2 h3 hi.only (fun s => (ck n, s)) rfl (by simp) hw
    · rintro wr hi
      obtain ⟨sk, h1, h2, h3⟩ := hi.is
      exact (sta2 h1 (upd_same _ _ _) (by omega) (keep hi) hn).mono fun e w' hw => sta_step h2 h3 hi.only (fun s => s.remi (n ++ [126])) rfl (by have := rem_wt sk (n ++ [126]); show (sk.rem (n ++ [126])).2.wt ≤ _; omega) hw
    · rintro wr hi
      obtain ⟨sk, h1, h2, h3⟩ := hi.is
      exact (sta3 h1 (upd_same _ _ _) (by omega) (keep hi) hn).mono fun e w' hw => sta_step h2 h3 hi.only (fun s => s.make (n ++ [126])) rfl (by have := make_wt sk (n ++ [126]); show (sk.make (n ++ [126])).2.wt ≤ _; omega) hw
    · rintro wr hi
      obtain ⟨sk, h1, h2, h3⟩ := hi.is
      exact (sta4 h1 (upd_same _ _ _) (by omega) (keep hi) hn (by omega)).mono fun e w' hw => sta_step h2 h3 hi.only (fun s => s.app (n ++ [126]) (jhd first)) rfl (by have := app_wt sk (n ++ [126]) (jhd first); show (sk.app (n ++ [126]) (jhd first)).2.wt ≤ _; omega) hw
    · rintro wr hi
      obtain ⟨sk, h1, h2, h3⟩ := hi.is
      exact (sta5 h1 (upd_same _ _ _) (by omega) (keep hi) hn).mono fun e w' hw => sta_step h2 h3 hi.only (fun s => (0, s.sync)) rfl (by have := FS.sync_wt (h1.ok (upd_same _ _ _)); show sk.sync.wt ≤ _; omega) hw
    · rintro wr hi
      obtain ⟨sk, h1, h2, h3⟩ := hi.is
      exact (sta6 h1 (upd_same _ _ _) (by omega) (keep hi) hn).mono fun e w' hw => sta_step h2 h3 hi.only (fun s => s.ren (n ++ [126]) n) rfl (by have := ren_wt sk (n ++ [126]) n; show (sk.ren (n ++ [126]) n).2.wt ≤ _; omega) hw
    · rintro wr hi
      obtain ⟨sk, h1, h2, h3⟩ := hi.is
      exact (sta7 h1 (upd_same _ _ _) (by omega) (keep hi) hn).mono fun e w' hw => sta_step h2 h3 hi.only (fun s => (0, s.sync)) rfl (by have := FS.sync_wt (h1.ok (upd_same _ _ _)); show sk.sync.wt ≤ _; omega) hw
  have HB1 := Lib.hid hb1
  clear hb1 hbx hrow hG zp zq zr zA keep
  have fin : Hid (∀ wr : World, Only (Off (news Z w w1)) w1 wr → Only (Off Z) w wr) := Lib.hid fun wr ho => (Only.of_below (S := Off Z) HB1.out).trans ho fun i hi hh h' => hh (.inl h')
  have les : Hid (∀ i, Z i → news Z w w1 i) := Lib.hid fun i hi => .inl hi
  go_wp2_with fail
  refine HP.out.mono ?_
  rintro e w2 (⟨rfl, hi⟩ | ⟨q, hq, rfl, h1, h2, h3⟩)
  · obtain ⟨sk, h1, h2, h3⟩ := hi.is
    have H1 := Lib.hid (h1.less les.out)
    have H2 := Lib.hid h2
    have H3 := Lib.hid (fin.out _ hi.only)
    have HO := Lib.hid (jobject_any w2 d n (by omega) first first rfl rfl)
    clear h1 h2 hi
    go_wp2_with fail
    refine HO.out.mono ?_
    rintro e w3 ⟨rfl, hk, hb⟩
    have H4 := Lib.hid (H1.out.adds hb hk (Nat.le_refl _))
    have H5 := Lib.hid (H3.out.trans (Only.of_below (S := Off Z) hb) fun i _ hi => hi)
    have H6 := Lib.hid H3.out.size
    clear hk hb
    go_wp2
    go_ret2
    have e2 : s.start n first = (0, sk) := H2.out.symm
    exact .inl ⟨by rw [e2], w2.heap.size, rfl, H6.out, by rw [e2]; exact H4.out, H5.out⟩
  · have H2 := Lib.hid (h2.less les.out)
    have H3 := Lib.hid (fin.out _ h3)
    have hq2 : (q != 0) = true := bne_of hq
    clear h2 h3
    go_wp2
    go_ret2
    have e2 : s.start n first = runs (startL n first) s := rfl
    exact .inr ⟨by rw [e2, ← h1]; exact hq, by rw [e2, ← h1]; rfl, by rw [e2]; exact H2.out, H3.out⟩
end Go.Proofs.YtmaohncddjhgeaaGreat.gn
end
