/- The journal's contracts as a law meets them: directories with one journal's file. -/
import Derived.Test.YtphdmpplmdcnaaaGreatMJoF
import Derived.Test.YtphdmpplmdcnaaaGreatMFrSm
section
set_option linter.unusedVariables false
namespace Go.Proofs.YtphdmpplmdcnaaaGreat.gn
open Go.RowKit
open Go.Proofs.YtphdmpplmdcnaaaGreat.fi

theorem upd_keep {α : Type} {D : Nat → Option α} {d x : Nat} {s : α} (h : x ≠ d) : upd D d s x = D x := upd_other D s h
def NewD (Z : Nat → Prop) (D : Nat → Option FS) (J : Nat → Option Jn) (s : FS) (w : World) (e : Ending) (w' : World) : Prop :=
  ∃ d D', e = .returned (.pointer (some ⟨d, 0, none⟩)) ∧ w.heap.size ≤ d ∧ Hold Z w' D' J ∧ D' d = some s ∧ (∀ x, x ≠ d → D' x = D x) ∧ Below w.heap.size w w'
def StepD (Z : Nat → Prop) (D : Nat → Option FS) (J : Nat → Option Jn) (d : Nat) (s : FS) (v : Value) (w : World) (e : Ending) (w' : World) : Prop :=
  ∃ D', e = .returned v ∧ Hold Z w' D' J ∧ D' d = some s ∧ (∀ x, x ≠ d → D' x = D x) ∧ Only (Off Z) w w'
def NewJ (Z : Nat → Prop) (D : Nat → Option FS) (J : Nat → Option Jn) (d : Nat) (s : FS) (n : Jn) (w : World) (e : Ending) (w' : World) : Prop :=
  ∃ j D' J', e = .returned (.tuple #[.pointer (some ⟨j, 0, none⟩), .int .i64 0]) ∧ w.heap.size ≤ j ∧ Hold Z w' D' J' ∧ D' d = some s ∧ (∀ x, x ≠ d → D' x = D x) ∧ J' j = some n ∧ (∀ x, x ≠ j → J' x = J x) ∧ Only (Off Z) w w'
def StepJ (Z : Nat → Prop) (D : Nat → Option FS) (J : Nat → Option Jn) (d : Nat) (s : FS) (j : Nat) (n : Jn) (v : Value) (w : World) (e : Ending) (w' : World) : Prop :=
  ∃ D' J', e = .returned v ∧ Hold Z w' D' J' ∧ D' d = some s ∧ (∀ x, x ≠ d → D' x = D x) ∧ J' j = some n ∧ (∀ x, x ≠ j → J' x = J x) ∧ Only (Off Z) w w'
theorem Went.stepD {Z : Nat → Prop} {D : Nat → Option FS} {J : Nat → Option Jn} {d : Nat} {s : FS} {v : Value} {w w' : World} {e : Ending} (h : Went Z (upd D d s) J v w e w') : StepD Z D J d s v w e w' :=
  ⟨_, h.1, h.2.1, upd_same _ _ _, fun x hx => upd_keep hx, h.2.2⟩
theorem Hold.jlt {Z : Nat → Prop} {w : World} {D : Nat → Option FS} {J : Nat → Option Jn} (h : Hold Z w D J) {j : Nat} {n : Jn} (hj : J j = some n) : j < w.heap.size := lt_of_block (h.j j n hj).1

section
variable {Z : Nat → Prop} {w : World} {D : Nat → Option FS} {J : Nat → Option Jn} (h : Hold Z w D J)
include h
theorem lnew (r : Nat) (hr : r ≤ 16777216) {x : Int} (hx : x = (r : Int)) : Calls Tryz.prog 6 #[.int .i64 x] w (NewD Z D J ⟨r, [], []⟩ w) := by
  subst hx
  refine (new_h h r).mono fun e w' hh => ?_
  obtain ⟨d, h1, h2, h3, h4⟩ := hh
  rw [new_room hr] at h3
  exact ⟨d, _, h1, h2, h3, upd_same _ _ _, fun x hx => upd_keep hx, h4⟩
theorem lcopy {d : Nat} {s : FS} (hd : D d = some s) (hwt : s.wt ≤ 274877906944) : Calls Tryz.prog 16 #[.pointer (some ⟨d, 0, none⟩)] w (NewD Z D J s w) := by
  refine (copy_h h hd (by omega)).mono fun e w' hh => ?_
  obtain ⟨d, h1, h2, h3, h4⟩ := hh
  exact ⟨d, _, h1, h2, h3, upd_same _ _ _, fun x hx => upd_keep hx, h4⟩
theorem lstart_yes {d r first : Nat} (hd : D d = some ⟨r, [], []⟩) (hf : first < 18446744073709551616) (hl : (jhd first).length ≤ r) {x : Int} (hx : x = (first : Int)) :
    Calls Tryz.prog 7 #[.pointer (some ⟨d, 0, none⟩), .string ⟨#[108, 111, 103]⟩, .int .u64 x] w (NewJ Z D J d (stt r (jhd first) []) ⟨d, log, first, first⟩ w) := by
  subst hx
  have hs := start_any h hd (by decide : (0 : Nat) ≤ 274877906944) log (by decide) first hf
  rw [start_yes hl] at hs
  refine Calls.mono (show Calls Tryz.prog 7 #[.pointer (some ⟨d, 0, none⟩), .string ⟨#[108, 111, 103]⟩, .int .u64 (first : Int)] w _ from hs) fun e w' hh => ?_
  rcases hh with ⟨_, j, h1, h2, h3, h4⟩ | ⟨h0, _⟩
  · exact ⟨j, _, _, h1, h2, h3, upd_same _ _ _, fun x hx => upd_keep hx, upd_same _ _ _, fun x hx => upd_keep hx, h4⟩
  · exact absurd rfl h0
theorem lstart_no {d r first : Nat} (hd : D d = some ⟨r, [], []⟩) (hf : first < 18446744073709551616) (hl : r < (jhd first).length) {x : Int} (hx : x = (first : Int)) :
    Calls Tryz.prog 7 #[.pointer (some ⟨d, 0, none⟩), .string ⟨#[108, 111, 103]⟩, .int .u64 x] w (StepD Z D J d ⟨r, [], [.make (log ++ [126])]⟩ (.tuple #[.pointer none, .int .i64 6]) w) := by
  subst hx
  have hs := start_any h hd (by decide : (0 : Nat) ≤ 274877906944) log (by decide) first hf
  rw [start_no hl] at hs
  refine Calls.mono (show Calls Tryz.prog 7 #[.pointer (some ⟨d, 0, none⟩), .string ⟨#[108, 111, 103]⟩, .int .u64 (first : Int)] w _ from hs) fun e w' hh => ?_
  rcases hh with ⟨h0, _⟩ | ⟨_, h1, h2, h3⟩
  · exact absurd h0 (show ¬ (6 : Int) = 0 by decide)
  · exact Went.stepD ⟨h1, h2, h3⟩
theorem lappend_yes {d r j first next : Nat} {B : List UInt8} {Rs : List (List (List UInt8))} (hd : D d = some (stt r B Rs)) (hj : J j = some ⟨d, log, first, next⟩) (hwt : (stt r B Rs).wt ≤ 274877906944) (hnx : next < 18446744073709551616)
    {v : Value} {R : List (List UInt8)} (hs : Strs w v R) (hl : ∀ s ∈ R, s.length ≤ 262144) (hc : cost R ≤ 1099511627776) (hfit : (B ++ frames (Rs ++ [R]).flatten).length ≤ r) :
    Calls Tryz.prog 9 #[.pointer (some ⟨j, 0, none⟩), v] w (StepJ Z D J d (stt r B (Rs ++ [R])) j ⟨d, log, first, (next + R.length) % 18446744073709551616⟩ (.int .i64 0) w) := by
  have ha := jappend_any h hj hd (by omega) (by decide : List.length log ≤ 1000000) hnx v R hs hl hc
  simp only at ha
  rw [stt_app_yes hfit] at ha
  refine ha.mono fun e w' hh => ?_
  rcases hh with ⟨_, h1, h2, h3⟩ | ⟨h0, _⟩
  · exact ⟨_, _, h1, h2, upd_same _ _ _, fun x hx => upd_keep hx, upd_same _ _ _, fun x hx => upd_keep hx, h3⟩
  · exact absurd rfl h0
theorem lappend_no {d r j first next : Nat} {B : List UInt8} {Rs : List (List (List UInt8))} (hd : D d = some (stt r B Rs)) (hj : J j = some ⟨d, log, first, next⟩) (hwt : (stt r B Rs).wt ≤ 274877906944) (hnx : next < 18446744073709551616)
    {v : Value} {R : List (List UInt8)} (hs : Strs w v R) (hl : ∀ s ∈ R, s.length ≤ 262144) (hc : cost R ≤ 1099511627776) (hfit : r < (B ++ frames (Rs ++ [R]).flatten).length) :
    Calls Tryz.prog 9 #[.pointer (some ⟨j, 0, none⟩), v] w (StepD Z D J d (stt r B Rs) (.int .i64 6) w) := by
  have ha := jappend_any h hj hd (by omega) (by decide : List.length log ≤ 1000000) hnx v R hs hl hc
  simp only at ha
  rw [stt_app_no hfit] at ha
  refine ha.mono fun e w' hh => ?_
  rcases hh with ⟨h0, _⟩ | ⟨_, h1⟩
  · exact absurd h0 (show ¬ (6 : Int) = 0 by decide)
  · exact h1.stepD
theorem lforce {d r j first next : Nat} {B : List UInt8} {Rs : List (List (List UInt8))} (hd : D d = some (stt r B Rs)) (hj : J j = some ⟨d, log, first, next⟩) (hwt : (stt r B Rs).wt ≤ 274877906944) :
    Calls Tryz.prog 18 #[.pointer (some ⟨j, 0, none⟩)] w (StepD Z D J d (stt r (B ++ frames Rs.flatten) []) (.int .i64 0) w) := by
  have hs := force_any h hj hd (by omega)
  simp only at hs
  rw [stt_sync] at hs
  exact hs.mono fun e w' hh => hh.stepD
theorem lcrash {d : Nat} {s s' : FS} (hd : D d = some s) (hwt : s.wt ≤ 274877906944) (f : Fault) (hf : f.lose < 18446744073709551616) {a b c : Int} (ha : a = f.keep) (hb : b = (f.lose : Int)) (hc : c = f.cut) (hs : s.crash f = s') :
    Calls Tryz.prog 17 #[.pointer (some ⟨d, 0, none⟩), .agg #[.int .i64 a, .int .u64 b, .int .i64 c]] w (StepD Z D J d s' (.tuple #[]) w) := by
  subst hs
  exact (crash_h h hd (by omega) f hf ha hb hc).mono fun e w' hh => hh.stepD
theorem lopen_cut {d r first : Nat} {B : List UInt8} {L : List (List UInt8)} (hd : D d = some (stt r B [])) (hwt : (stt r B []).wt ≤ 274877906944) (hf : first < 18446744073709551616) (hL : scan B = Lib.uvarint first :: L) :
    Calls Tryz.prog 15 #[.pointer (some ⟨d, 0, none⟩), .string ⟨#[108, 111, 103]⟩] w (NewJ Z D J d (stt r (frames (Lib.uvarint first :: L)) []) ⟨d, log, first, (first + L.length) % 18446744073709551616⟩ w) := by
  have hs := jopen_any h hd hwt log (by decide)
  have hb : (stt r B []).bytes log = B := by rw [stt_bytes]; simp [frames]
  rw [opens_cut hf hL, hb, hL] at hs
  refine Calls.mono (show Calls Tryz.prog 15 #[.pointer (some ⟨d, 0, none⟩), .string ⟨#[108, 111, 103]⟩] w _ from hs) fun e w' hh => ?_
  rcases hh with ⟨_, j, h1, h2, h3, h4⟩ | ⟨h0, _⟩
  · exact ⟨j, _, _, h1, h2, h3, upd_same _ _ _, fun x hx => upd_keep hx, by rw [upd_same]; rfl, fun x hx => upd_keep hx, h4⟩
  · exact absurd rfl h0
theorem lopen_same {d r first : Nat} {B : List UInt8} {Rs : List (List (List UInt8))} {L : List (List UInt8)} (hd : D d = some (stt r B Rs)) (hwt : (stt r B Rs).wt ≤ 274877906944) (hf : first < 18446744073709551616) (hB : B ++ frames Rs.flatten = frames (Lib.uvarint first :: L)) (hL : ∀ s ∈ L, s.length ≤ 262144) :
    Calls Tryz.prog 15 #[.pointer (some ⟨d, 0, none⟩), .string ⟨#[108, 111, 103]⟩] w (NewJ Z D J d (stt r B Rs) ⟨d, log, first, (first + L.length) % 18446744073709551616⟩ w) := by
  have hs := jopen_any h hd hwt log (by decide)
  rw [(opens_same hf hB hL).1, (opens_same (room := r) hf hB hL).2] at hs
  refine Calls.mono (show Calls Tryz.prog 15 #[.pointer (some ⟨d, 0, none⟩), .string ⟨#[108, 111, 103]⟩] w _ from hs) fun e w' hh => ?_
  rcases hh with ⟨_, j, h1, h2, h3, h4⟩ | ⟨h0, _⟩
  · exact ⟨j, _, _, h1, h2, h3, upd_same _ _ _, fun x hx => upd_keep hx, by rw [upd_same]; rfl, fun x hx => upd_keep hx, h4⟩
  · exact absurd rfl h0
theorem lopen_no {d r : Nat} {B : List UInt8} {Rs : List (List (List UInt8))} (hd : D d = some (stt r B Rs)) (hwt : (stt r B Rs).wt ≤ 274877906944) :
    Calls Tryz.prog 15 #[.pointer (some ⟨d, 0, none⟩), .string ⟨#[110, 111]⟩] w (StepD Z D J d (stt r B Rs) (.tuple #[.pointer none, .int .i64 7]) w) := by
  have hs := jopen_any h hd hwt [110, 111] (by decide)
  have hk : (stt r B Rs).look [110, 111] = 7 := by
    unfold FS.look
    rw [stt_now]
    have hg : fi.get [110, 111] [(log, (B ++ frames Rs.flatten, false))] = none := by simp [fi.get, log]
    rw [hg]
    rfl
  have ho : (stt r B Rs).opens [110, 111] = (7, stt r B Rs, 0) := by
    unfold FS.opens
    rw [if_neg (by decide), hk, if_pos (by decide)]
  rw [ho] at hs
  refine Calls.mono (show Calls Tryz.prog 15 #[.pointer (some ⟨d, 0, none⟩), .string ⟨#[110, 111]⟩] w _ from hs) fun e w' hh => ?_
  rcases hh with ⟨h0, _⟩ | ⟨_, h1, h2, h3⟩
  · exact absurd h0 (show ¬ (7 : Int) = 0 by decide)
  · exact Went.stepD ⟨h1, h2, h3⟩
theorem lentries {d r j first next : Nat} {B x : List UInt8} {Rs : List (List (List UInt8))} {L : List (List UInt8)} (hd : D d = some (stt r B Rs)) (hj : J j = some ⟨d, log, first, next⟩) (hwt : (stt r B Rs).wt ≤ 274877906944) (hL : scan (B ++ frames Rs.flatten) = x :: L) :
    Calls Tryz.prog 12 #[.pointer (some ⟨j, 0, none⟩)] w fun e w' => ∃ v, e = .returned v ∧ Strs w' v L ∧ Fresh w.heap.size v ∧ Below w.heap.size w w' := by
  have hb := stt_bytes r B Rs
  have hs := entries_any h hj hd (by simp only; rw [hb]; have := stt_wt r B Rs; rw [List.length_append]; omega)
  simp only at hs
  rw [hb, hL] at hs
  exact hs
theorem lread {d r : Nat} {B : List UInt8} {Rs : List (List (List UInt8))} (hd : D d = some (stt r B Rs)) :
    Calls Tryz.prog 10 #[.pointer (some ⟨d, 0, none⟩), .string ⟨#[108, 111, 103]⟩] w (Asks (.tuple #[.string (str (B ++ frames Rs.flatten)), .int .i64 0]) w) := by
  have hs := read_h h hd log
  rw [stt_bytes, stt_look] at hs
  exact hs
end
end Go.Proofs.YtphdmpplmdcnaaaGreat.gn
end
section
set_option linter.unusedVariables false
namespace Go.Proofs.YtphdmpplmdcnaaaGreat.gn
open Go.RowKit
open Go.Proofs.YtphdmpplmdcnaaaGreat.fi

set_option maxRecDepth 100000

def ab : List (List UInt8) := [[97], [98]]
theorem ab_small : ∀ s ∈ ab, s.length ≤ 262144 := by decide
theorem ab_cost : cost ab ≤ 1099511627776 := by decide
theorem ab_len : (frames ab).length = 42 := by rw [frames_len]; rfl
theorem jhd5 : (jhd 5).length ≤ 30 := jhd_len (by decide)
theorem wt0 : (stt 1000 (jhd 5) []).wt ≤ 274877906944 := by have := jhd5; rw [stt_wt]; simp [frames]; omega
theorem flat1 : ([ab] : List (List (List UInt8))).flatten = ab := rfl
theorem wt1 : (stt 1000 (jhd 5) ([] ++ [ab])).wt ≤ 274877906944 := by have := jhd5; have := ab_len; rw [stt_wt, List.nil_append, flat1]; simp; omega
theorem wt2 : (stt 1000 (jhd 5 ++ frames ([] ++ [ab]).flatten) []).wt ≤ 274877906944 := by have := jhd5; have := ab_len; rw [stt_wt, List.nil_append, flat1]; simp [frames]; omega
theorem fit1 : (jhd 5 ++ frames (([] : List (List (List UInt8))) ++ [ab]).flatten).length ≤ 1000 := by have := jhd5; have := ab_len; rw [List.nil_append, flat1]; simp; omega
theorem crash1 : (stt 1000 (jhd 5) ([] ++ [ab])).crash ⟨0, 0, 0⟩ = stt 1000 (jhd 5) [] := by
  obtain ⟨k, _, h2, h3⟩ := stt_crash1 1000 (jhd 5) ab ⟨0, 0, 0⟩
  have := h3 rfl rfl
  subst this
  simpa using h2
theorem same0 : jhd 5 ++ frames ([] : List (List (List UInt8))).flatten = frames (Lib.uvarint 5 :: []) := jhd_frames 5 []
theorem same1 : jhd 5 ++ frames (([] : List (List (List UInt8))) ++ [ab]).flatten = frames (Lib.uvarint 5 :: ab) := jhd_frames 5 ab
theorem same2 : (jhd 5 ++ frames (([] : List (List (List UInt8))) ++ [ab]).flatten) ++ frames ([] : List (List (List UInt8))).flatten = frames (Lib.uvarint 5 :: ab) := by
  rw [same1]
  simp [frames]
theorem scan0 : scan (jhd 5 ++ frames ([] : List (List (List UInt8))).flatten) = Lib.uvarint 5 :: [] := by
  have := (opens_same (room := 0) (by decide : (5 : Nat) < 18446744073709551616) same0 (fun s hs => by cases hs)).2
  rwa [stt_bytes] at this
theorem scan1 : scan (jhd 5 ++ frames (([] : List (List (List UInt8))) ++ [ab]).flatten) = Lib.uvarint 5 :: ab := by
  have := (opens_same (room := 0) (by decide : (5 : Nat) < 18446744073709551616) same1 ab_small).2
  rwa [stt_bytes] at this
theorem scan2 : scan ((jhd 5 ++ frames (([] : List (List (List UInt8))) ++ [ab]).flatten) ++ frames ([] : List (List (List UInt8))).flatten) = Lib.uvarint 5 :: ab := by
  have := (opens_same (room := 0) (by decide : (5 : Nat) < 18446744073709551616) same2 ab_small).2
  rwa [stt_bytes] at this
theorem ab_strs (w : World) : Strs (w.alloc (.cells #[.string ⟨#[97]⟩, .string ⟨#[98]⟩] 9)) (.slice (some ⟨w.heap.size, 0, none⟩) 2 2) ab := by
  have h := heap_alloc_new w (.cells #[.string ⟨#[97]⟩, .string ⟨#[98]⟩] 9)
  refine ⟨_, 2, rfl, Nat.le_refl _, by decide, .inr ⟨w.heap.size, 0, rfl, fun j hj => ?_⟩, by decide⟩
  rw [cell_of_row _ _ (0 + j) _ _ _ h]
  match j, hj with
  | 0, _ => rfl
  | 1, _ => rfl
theorem below_al {w u u' : World} {o : Obj} (h : Below w.heap.size w u) (hB : Below (u.alloc o).heap.size (u.alloc o) u') : Below w.heap.size w u' :=
  (h.alloc h.size o).trans (hB.mono (by have := h.size; simp; omega))
set_option maxHeartbeats 8000000 in
theorem head_any (w : World) : Calls Tryz.prog 5 #[] w fun e w' => e = .returned (.bool true) ∧ Below w.heap.size w w' := by
  obtain ⟨Z, hZ⟩ : ∃ Z : Nat → Prop, Z = fun i => i < w.heap.size := ⟨_, rfl⟩
  have H0 := Lib.hid (Hold.none_ w Z fun i hi => by subst hZ; exact hi)
  have O0 : Hid (Only (Off Z) w w) := Lib.hid (Only.refl _ _)
  go_enter Tryz.func5, Tryz.ntmps5
  go_wp2_with fail
  refine (lnew H0.out 1000 (by decide) rfl).mono ?_
  rintro e w1 ⟨d, D1, rfl, g, h, a, x, b⟩
  have Ad1 := Lib.hid a
  have O1 := Lib.hid (O0.out.trans (Only.of_below (S := Off Z) b) fun i _ hi => hi)
  have H1 := Lib.hid h
  clear g h a x b
  go_wp2_with fail
  refine (lstart_yes H1.out Ad1.out (by decide : (5 : Nat) < 18446744073709551616) (by have := jhd5; omega) rfl).mono ?_
  rintro e w2 ⟨j, D2, J2, rfl, g, h, a, x, q, y, b⟩
  have Ad2 := Lib.hid a
  have Qj2 := Lib.hid q
  have O2 := Lib.hid (O1.out.trans b fun i _ hi => hi)
  have H2 := Lib.hid h
  clear g h a x q y b
  go_wp2_with fail
  refine (lappend_yes (H2.out.below ((Below.refl _ w2).alloc (Nat.le_refl _) _)) Ad2.out Qj2.out wt0 (by decide) (ab_strs w2) ab_small ab_cost fit1).mono ?_
  rintro e w3 ⟨D3, J3, rfl, h, a, x, q, y, b⟩
  have Ad3 := Lib.hid a
  have Qj3 := Lib.hid q
  have O3 := Lib.hid (O2.out.trans ((Only.of_below (S := Off Z) ((Below.refl _ w2).alloc (Nat.le_refl _) _)).trans b fun i _ hi => hi) fun i _ hi => hi)
  have H3 := Lib.hid h
  clear h a x q y b
  go_wp2_with fail
  refine (lcopy H3.out Ad3.out wt1).mono ?_
  rintro e w4 ⟨p, D4, rfl, g, h, a, x, b⟩
  have ne_d_p : d ≠ p := Nat.ne_of_lt (Nat.lt_of_lt_of_le (H3.out.lt Ad3.out) g)
  have Ad4 := Lib.hid ((x d ne_d_p).trans Ad3.out)
  have Ap4 := Lib.hid a
  have O4 := Lib.hid (O3.out.trans (Only.of_below (S := Off Z) b) fun i _ hi => hi)
  have H4 := Lib.hid h
  clear g h a x b
  go_wp2_with fail
  refine (lopen_same H4.out Ap4.out wt1 (by decide : (5 : Nat) < 18446744073709551616) same1 ab_small).mono ?_
  rintro e w5 ⟨k, D5, J5, rfl, g, h, a, x, q, y, b⟩
  have Ad5 := Lib.hid ((x d ne_d_p).trans Ad4.out)
  have Ap5 := Lib.hid a
  have ne_j_k : j ≠ k := Nat.ne_of_lt (Nat.lt_of_lt_of_le (H4.out.jlt Qj3.out) g)
  have Qj5 := Lib.hid ((y j ne_j_k).trans Qj3.out)
  have Qk5 := Lib.hid q
  have O5 := Lib.hid (O4.out.trans b fun i _ hi => hi)
  have H5 := Lib.hid h
  clear g h a x q y b
  go_wp2_with fail
  refine (lcopy H5.out Ad5.out wt1).mono ?_
  rintro e w6 ⟨l, D6, rfl, g, h, a, x, b⟩
  have ne_d_l : d ≠ l := Nat.ne_of_lt (Nat.lt_of_lt_of_le (H5.out.lt Ad5.out) g)
  have Ad6 := Lib.hid ((x d ne_d_l).trans Ad5.out)
  have ne_p_l : p ≠ l := Nat.ne_of_lt (Nat.lt_of_lt_of_le (H5.out.lt Ap5.out) g)
  have Ap6 := Lib.hid ((x p ne_p_l).trans Ap5.out)
  have Al6 := Lib.hid a
  have O6 := Lib.hid (O5.out.trans (Only.of_below (S := Off Z) b) fun i _ hi => hi)
  have H6 := Lib.hid h
  clear g h a x b
  go_wp2_with fail
  refine (lcrash H6.out Al6.out wt1 ⟨0, 0, 0⟩ (by decide) rfl rfl rfl crash1).mono ?_
  rintro e w7 ⟨D7, rfl, h, a, x, b⟩
  have Ad7 := Lib.hid ((x d ne_d_l).trans Ad6.out)
  have Ap7 := Lib.hid ((x p ne_p_l).trans Ap6.out)
  have Al7 := Lib.hid a
  have O7 := Lib.hid (O6.out.trans b fun i _ hi => hi)
  have H7 := Lib.hid h
  clear h a x b
  go_wp2_with fail
  refine (lforce H7.out Ad7.out Qj5.out wt1).mono ?_
  rintro e w8 ⟨D8, rfl, h, a, x, b⟩
  have Ap8 := Lib.hid ((x p (Ne.symm ne_d_p)).trans Ap7.out)
  have Al8 := Lib.hid ((x l (Ne.symm ne_d_l)).trans Al7.out)
  have Ad8 := Lib.hid a
  have O8 := Lib.hid (O7.out.trans b fun i _ hi => hi)
  have H8 := Lib.hid h
  clear h a x b
  go_wp2_with fail
  refine (next_any' H8.out Qj5.out).mono ?_
  rintro e wx ⟨rfl, rfl⟩
  go_wp2_with fail
  refine (lcrash H8.out Ad8.out wt2 ⟨0, 0, 0⟩ (by decide) rfl rfl rfl (stt_crash0 _ _ _)).mono ?_
  rintro e w9 ⟨D9, rfl, h, a, x, b⟩
  have Ap9 := Lib.hid ((x p (Ne.symm ne_d_p)).trans Ap8.out)
  have Al9 := Lib.hid ((x l (Ne.symm ne_d_l)).trans Al8.out)
  have Ad9 := Lib.hid a
  have O9 := Lib.hid (O8.out.trans b fun i _ hi => hi)
  have H9 := Lib.hid h
  clear h a x b
  go_wp2_with fail
  refine (lopen_same H9.out Al9.out wt0 (by decide : (5 : Nat) < 18446744073709551616) same0 (fun s hs => by cases hs)).mono ?_
  rintro e w10 ⟨x1, D10, J10, rfl, g, h, a, x, q, y, b⟩
  have Ad10 := Lib.hid ((x d ne_d_l).trans Ad9.out)
  have Ap10 := Lib.hid ((x p ne_p_l).trans Ap9.out)
  have Al10 := Lib.hid a
  have ne_j_x1 : j ≠ x1 := Nat.ne_of_lt (Nat.lt_of_lt_of_le (H9.out.jlt Qj5.out) g)
  have Qj10 := Lib.hid ((y j ne_j_x1).trans Qj5.out)
  have ne_k_x1 : k ≠ x1 := Nat.ne_of_lt (Nat.lt_of_lt_of_le (H9.out.jlt Qk5.out) g)
  have Qk10 := Lib.hid ((y k ne_k_x1).trans Qk5.out)
  have Qx110 := Lib.hid q
  have O10 := Lib.hid (O9.out.trans b fun i _ hi => hi)
  have H10 := Lib.hid h
  clear g h a x q y b
  go_wp2_with fail
  refine (lopen_same H10.out Ad10.out wt2 (by decide : (5 : Nat) < 18446744073709551616) same2 ab_small).mono ?_
  rintro e w11 ⟨y1, D11, J11, rfl, g, h, a, x, q, y, b⟩
  have Ap11 := Lib.hid ((x p (Ne.symm ne_d_p)).trans Ap10.out)
  have Al11 := Lib.hid ((x l (Ne.symm ne_d_l)).trans Al10.out)
  have Ad11 := Lib.hid a
  have ne_j_y1 : j ≠ y1 := Nat.ne_of_lt (Nat.lt_of_lt_of_le (H10.out.jlt Qj10.out) g)
  have Qj11 := Lib.hid ((y j ne_j_y1).trans Qj10.out)
  have ne_k_y1 : k ≠ y1 := Nat.ne_of_lt (Nat.lt_of_lt_of_le (H10.out.jlt Qk10.out) g)
  have Qk11 := Lib.hid ((y k ne_k_y1).trans Qk10.out)
  have ne_x1_y1 : x1 ≠ y1 := Nat.ne_of_lt (Nat.lt_of_lt_of_le (H10.out.jlt Qx110.out) g)
  have Qx111 := Lib.hid ((y x1 ne_x1_y1).trans Qx110.out)
  have Qy111 := Lib.hid q
  have O11 := Lib.hid (O10.out.trans b fun i _ hi => hi)
  have H11 := Lib.hid h
  clear g h a x q y b
  go_wp2_with fail
  refine (lopen_no H11.out Ad11.out wt2).mono ?_
  rintro e w12 ⟨D12, rfl, h, a, x, b⟩
  have Ap12 := Lib.hid ((x p (Ne.symm ne_d_p)).trans Ap11.out)
  have Al12 := Lib.hid ((x l (Ne.symm ne_d_l)).trans Al11.out)
  have Ad12 := Lib.hid a
  have O12 := Lib.hid (O11.out.trans b fun i _ hi => hi)
  have H12 := Lib.hid h
  clear h a x b
  go_wp2_with fail
  refine (first_any' H12.out Qk11.out).mono ?_
  rintro e wx ⟨rfl, rfl⟩
  go_wp2_with fail
  refine (lentries H12.out Ap12.out Qk11.out wt1 scan1).mono ?_
  rintro e u1 ⟨v1, rfl, s1, _, b1⟩
  have B1 := Lib.hid b1
  have S1 := Lib.hid s1
  clear b1 s1
  obtain ⟨A1, c1, rfl, _⟩ := id S1.out
  go_wp2_with fail
  refine (same_yes _ _ _ _ (S1.out.below ((Below.refl _ u1).alloc (Nat.le_refl _) _)) (ab_strs u1)).mono ?_
  rintro e u2 ⟨rfl, b2⟩
  have B2 := Lib.hid (below_al B1.out b2)
  clear b2
  go_wp2_with fail
  refine (lentries (H12.out.below B2.out) Al12.out Qx111.out wt0 scan0).mono ?_
  rintro e u3 ⟨v3, rfl, s3, _, b3⟩
  have B3 := Lib.hid (B2.out.trans (b3.mono B2.out.size))
  obtain ⟨A3, c3, rfl, _⟩ := s3
  clear b3
  go_wp2_with fail
  refine (lentries (H12.out.below B3.out) Ad12.out Qy111.out wt2 scan2).mono ?_
  rintro e u4 ⟨v4, rfl, s4, _, b4⟩
  have B4 := Lib.hid (B3.out.trans (b4.mono B3.out.size))
  have S4 := Lib.hid s4
  clear b4 s4
  obtain ⟨A4, c4, rfl, _⟩ := id S4.out
  go_wp2_with fail
  refine (same_yes _ _ _ _ (S4.out.below ((Below.refl _ u4).alloc (Nat.le_refl _) _)) (ab_strs u4)).mono ?_
  rintro e u5 ⟨rfl, b5⟩
  have B5 := Lib.hid (below_al B4.out b5)
  clear b5
  go_wp2
  go_ret
  refine ⟨rfl, (O12.out.trans (Only.of_below (S := Off Z) B5.out) fun i _ hi => hi).below (fun i hi => ?_) (Nat.le_refl _)⟩
  subst hZ
  exact Nat.le_of_not_lt hi
end Go.Proofs.YtphdmpplmdcnaaaGreat.gn
end
