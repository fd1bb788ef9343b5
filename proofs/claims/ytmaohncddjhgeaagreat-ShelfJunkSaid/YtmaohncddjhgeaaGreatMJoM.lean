/- Plain: a directory with one file, a journal's, and what Start, Append, Force, a failure and Open make of it. -/
import Derived.Test.YtmaohncddjhgeaaGreatMJoF
import Derived.Test.YtmaohncddjhgeaaGreatMRunA
section
set_option linter.unusedVariables false
namespace Go.Proofs.YtmaohncddjhgeaaGreat.fi
open Go.Proofs.YtmaohncddjhgeaaGreat.gn (frames frames_len frames_app frames_one cost cost_one cost_app scan scan_le scan_take scan_frames frame frame_len fst? fst_some scan_none scan_some)

def log : Nm := [108, 111, 103]
/-- A directory with one file of the bytes B, and Appends of the rows Rs that are open. -/
def stt (room : Nat) (B : List UInt8) (Rs : List (List (List UInt8))) : FS := ⟨room, [(log, (B, false))], Rs.map fun R => .app log (frames R)⟩
theorem do_app (B t : List UInt8) : doOp (.app log t) [(log, (B, false))] = [(log, (B ++ t, false))] := by simp [doOp, mod, addF]
theorem stt_now (room : Nat) : ∀ (Rs : List (List (List UInt8))) (B : List UInt8), (stt room B Rs).now = [(log, (B ++ frames Rs.flatten, false))]
  | [], B => by simp [stt, FS.now, replay, frames]
  | R :: Rs, B => by
    have h := stt_now room Rs (B ++ frames R)
    simp only [stt, FS.now, replay, List.map_cons, List.foldl_cons, do_app] at h ⊢
    rw [h, List.flatten_cons, frames_app, List.append_assoc]
theorem get_log (B : List UInt8) : get log [(log, (B, false))] = some (B, false) := by simp [get]
theorem valid_log : valid log = true := by decide
theorem ck_log : ck log = 0 := by decide
theorem stt_look (room : Nat) (B : List UInt8) (Rs : List (List (List UInt8))) : (stt room B Rs).look log = 0 := by
  unfold FS.look
  rw [stt_now, get_log, valid_log]
  rfl
theorem stt_bytes (room : Nat) (B : List UInt8) (Rs : List (List (List UInt8))) : (stt room B Rs).bytes log = B ++ frames Rs.flatten := by
  unfold FS.bytes
  rw [stt_look, stt_now, get_log]
  rfl
theorem stt_left (room : Nat) (B : List UInt8) (Rs : List (List (List UInt8))) : (stt room B Rs).left = (room : Int) - ((B ++ frames Rs.flatten).length : Int) := by
  unfold FS.left
  rw [stt_now]
  simp [tot, stt]
theorem stt_app_yes {room : Nat} {B : List UInt8} {Rs : List (List (List UInt8))} {R : List (List UInt8)} (h : (B ++ frames (Rs ++ [R]).flatten).length ≤ room) : (stt room B Rs).app log (frames R) = (0, stt room B (Rs ++ [R])) := by
  have h1 : (B ++ frames (Rs ++ [R]).flatten).length = (B ++ frames Rs.flatten).length + (frames R).length := by
    rw [List.flatten_append, frames_app]
    simp
    omega
  unfold FS.app
  rw [stt_look, stt_left, if_neg (by decide), if_neg (by omega)]
  simp [FS.done, stt]
theorem stt_app_no {room : Nat} {B : List UInt8} {Rs : List (List (List UInt8))} {R : List (List UInt8)} (h : room < (B ++ frames (Rs ++ [R]).flatten).length) : (stt room B Rs).app log (frames R) = (6, stt room B Rs) := by
  have h1 : (B ++ frames (Rs ++ [R]).flatten).length = (B ++ frames Rs.flatten).length + (frames R).length := by
    rw [List.flatten_append, frames_app]
    simp
    omega
  unfold FS.app
  rw [stt_look, stt_left, if_neg (by decide), if_pos (by omega)]
theorem stt_sync (room : Nat) (B : List UInt8) (Rs : List (List (List UInt8))) : (stt room B Rs).sync = stt room (B ++ frames Rs.flatten) [] := by
  unfold FS.sync
  rw [stt_now]
  rfl
theorem stt_wt (room : Nat) (B : List UInt8) (Rs : List (List (List UInt8))) : (stt room B Rs).wt = 1 + B.length + (Rs.length + (frames Rs.flatten).length) := by
  have h : ∀ Rs : List (List (List UInt8)), wts (Rs.map fun R => FOp.app log (frames R)) = Rs.length + (frames Rs.flatten).length := by
    intro Rs
    induction Rs with
    | nil => rfl
    | cons R Rs ih => simp only [List.map_cons, wts, FOp.wt, ih, List.flatten_cons, frames_app, List.length_append, List.length_cons]; omega
  simp only [FS.wt, stt, h, wt]
  omega

/-! ### a Start -/
theorem st_look (r : Nat) : (⟨r, [], []⟩ : FS).look (log ++ [126]) = 7 := by kernel_rfl
theorem st_remi (r : Nat) : (⟨r, [], []⟩ : FS).remi (log ++ [126]) = (0, ⟨r, [], []⟩) := by
  simp only [FS.remi, FS.rem, st_look]
  rfl
theorem st_make (r : Nat) : (⟨r, [], []⟩ : FS).make (log ++ [126]) = (0, ⟨r, [], [.make (log ++ [126])]⟩) := by
  unfold FS.make
  rw [st_look, if_neg (by decide), if_neg (by decide), if_neg (by simp [FS.now, replay])]
  rfl
theorem st_now (r : Nat) : (⟨r, [], [.make (log ++ [126])]⟩ : FS).now = [(log ++ [126], ([], false))] := by kernel_rfl
theorem st_look2 (r : Nat) : (⟨r, [], [.make (log ++ [126])]⟩ : FS).look (log ++ [126]) = 0 := by
  unfold FS.look
  rw [st_now]
  rfl
theorem st_app_yes (r : Nat) (t : List UInt8) (h : t.length ≤ r) : (⟨r, [], [.make (log ++ [126])]⟩ : FS).app (log ++ [126]) t = (0, ⟨r, [], [.make (log ++ [126]), .app (log ++ [126]) t]⟩) := by
  unfold FS.app
  rw [st_look2, if_neg (by decide), if_neg (by unfold FS.left; rw [st_now]; simp [tot]; omega)]
  rfl
theorem st_app_no (r : Nat) (t : List UInt8) (h : r < t.length) : (⟨r, [], [.make (log ++ [126])]⟩ : FS).app (log ++ [126]) t = (6, ⟨r, [], [.make (log ++ [126])]⟩) := by
  unfold FS.app
  rw [st_look2, if_neg (by decide), if_pos (by unfold FS.left; rw [st_now]; simp [tot]; omega)]
theorem st_sync (r : Nat) (t : List UInt8) : (⟨r, [], [.make (log ++ [126]), .app (log ++ [126]) t]⟩ : FS).sync = ⟨r, [(log ++ [126], (t, false))], []⟩ := by
  unfold FS.sync
  have : (⟨r, [], [.make (log ++ [126]), .app (log ++ [126]) t]⟩ : FS).now = [(log ++ [126], (t, false))] := by
    have h := st_now r
    unfold FS.now replay at h ⊢
    simp only [List.foldl_cons, List.foldl_nil] at h ⊢
    rw [h]
    simp [doOp, mod, addF]
  rw [this]
theorem st_ren (r : Nat) (t : List UInt8) : (⟨r, [(log ++ [126], (t, false))], []⟩ : FS).ren (log ++ [126]) log = (0, ⟨r, [(log ++ [126], (t, false))], [.ren (log ++ [126]) log]⟩) := by
  have h : (⟨r, [(log ++ [126], (t, false))], []⟩ : FS).look (log ++ [126]) = 0 := by
    unfold FS.look FS.now replay
    simp [get]
    decide
  unfold FS.ren
  rw [h, if_neg (by decide), if_neg (by decide)]
  rfl
theorem st_end (r : Nat) (t : List UInt8) : (⟨r, [(log ++ [126], (t, false))], [.ren (log ++ [126]) log]⟩ : FS).sync = stt r t [] := by
  have hne : ¬ (log ++ [126] = log) := by decide
  unfold FS.sync FS.now replay
  simp [doOp, renT, get, del, put, ins, stt]
theorem start_yes {r first : Nat} (h : (jhd first).length ≤ r) : (⟨r, [], []⟩ : FS).start log first = (0, stt r (jhd first) []) := by
  unfold FS.start startL
  rw [runs_cons, if_pos ck_log, runs_cons, st_remi, if_pos rfl, runs_cons, st_make, if_pos rfl, runs_cons, st_app_yes r _ h, if_pos rfl, runs_cons, if_pos rfl, st_sync, runs_cons, st_ren, if_pos rfl, runs_cons, if_pos rfl, st_end]
  rfl
theorem start_no {r first : Nat} (h : r < (jhd first).length) : (⟨r, [], []⟩ : FS).start log first = (6, ⟨r, [], [.make (log ++ [126])]⟩) := by
  unfold FS.start startL
  rw [runs_cons, if_pos ck_log, runs_cons, st_remi, if_pos rfl, runs_cons, st_make, if_pos rfl, runs_cons, st_app_no r _ h, if_neg (show ¬ (6 : Int) = 0 by decide)]

/-! ### a failure -/
theorem stt_crash0 (room : Nat) (B : List UInt8) (f : Fault) : (stt room B []).crash f = stt room B [] := by
  simp [FS.crash, stt, crashes, strip]
theorem stt_crash1 (room : Nat) (B : List UInt8) (R : List (List UInt8)) (f : Fault) : ∃ k, k ≤ (frames R).length ∧ (stt room B [R]).crash f = stt room (B ++ (frames R).take k) [] ∧ (f.keep = 0 → f.cut = 0 → k = 0) := by
  by_cases h1 : f.keep < 0
  · refine ⟨0, Nat.zero_le _, ?_, fun _ _ => rfl⟩
    simp [FS.crash, stt, crashes, strip, h1]
  · by_cases h2 : f.keep = 0 ∨ f.lose >>> (0 % 64) % 2 = 1
    · refine ⟨min f.cut.toNat (frames R).length, Nat.min_le_right _ _, ?_, fun _ hc => by rw [hc]; simp⟩
      have h3 : (frames R).take f.cut.toNat = (frames R).take (min f.cut.toNat (frames R).length) := by
        rw [Nat.min_def]
        split
        · rfl
        · rw [List.take_of_length_le (by omega), List.take_of_length_le (Nat.le_refl _)]
      unfold FS.crash stt
      simp only [List.map_cons, List.map_nil, crashes]
      rw [if_neg (by simpa using h1), if_pos (by simpa using h2)]
      simp [short, mod, shortF, strip, h3]
    · refine ⟨(frames R).length, Nat.le_refl _, ?_, fun h => (h2 (.inl h)).elim⟩
      unfold FS.crash stt
      simp only [List.map_cons, List.map_nil, crashes]
      rw [if_neg (by simpa using h1), if_neg (by simpa using h2)]
      simp [doOp, mod, addF, strip]

/-! ### an Open -/
theorem scan_pre : ∀ (n : Nat) (b : List UInt8), b.length ≤ n → frames (scan b) = b.take (cost (scan b))
  | n, b, hn => by
    cases h : fst? b with
    | none => rw [scan_none h]; simp [cost, frames]
    | some s =>
      have h1 := (fst_some h).2.1
      have h2 := (fst_some h).2.2.1
      match n, hn with
      | 0, hn => omega
      | n + 1, hn =>
        have h3 := scan_pre n (b.drop (20 + s.length)) (by rw [List.length_drop]; omega)
        rw [scan_some h, cost, frames, h3, ← h2, ← List.take_add]
theorem scan_take_pre (b : List UInt8) : frames (scan b) = b.take (cost (scan b)) := scan_pre b.length b (Nat.le_refl _)
theorem stt_cut (room : Nat) (B : List UInt8) (k : Nat) (h : k ≤ B.length) : (stt room B []).cut log (k : Int) = (0, ⟨room, [(log, (B, false))], [.cut log k]⟩) := by
  have hb : (stt room B []).bytes log = B := by rw [stt_bytes]; simp [frames]
  unfold FS.cut
  rw [stt_look, hb, if_neg (fun h => by cases h.1), if_neg (by decide), if_neg (by omega)]
  rfl
theorem stt_cut_sync (room : Nat) (B : List UInt8) (k : Nat) : (⟨room, [(log, (B, false))], [.cut log k]⟩ : FS).sync = stt room (B.take k) [] := by
  unfold FS.sync FS.now replay
  simp [doOp, mod, cutF, stt]
theorem stt_trim (room : Nat) (B : List UInt8) : (stt room B []).trim log (cost (scan B)) B.length = (0, stt room (frames (scan B)) []) := by
  have h1 := scan_le B
  rw [scan_take_pre]
  unfold FS.trim
  by_cases h : cost (scan B) = B.length
  · rw [if_pos h, h, List.take_of_length_le (Nat.le_refl _)]
  · rw [if_neg h, runs_cons, stt_cut _ _ _ h1, if_pos rfl, runs_cons, if_pos rfl, stt_cut_sync]
    rfl
theorem fnum_jhd {first : Nat} (hf : first < 18446744073709551616) (L : List (List UInt8)) : fnum (Lib.uvarint first :: L) = some first := by
  have := rd_uvarint first [] hf
  rw [List.append_nil] at this
  simp [fnum, this]
/-- Of a file whose frames are a journal's: what is left is the frames. -/
theorem opens_cut {room first : Nat} (hf : first < 18446744073709551616) {B : List UInt8} {L : List (List UInt8)} (h : scan B = Lib.uvarint first :: L) : (stt room B []).opens log = (0, stt room (frames (Lib.uvarint first :: L)) [], first) := by
  have hb : (stt room B []).bytes log = B := by rw [stt_bytes]; simp [frames]
  have h1 := stt_trim room B
  unfold FS.opens
  rw [stt_look, hb, if_neg (by rw [ck_log]; decide), if_neg (by decide), h1, h, fnum_jhd hf]
/-- Of a file of frames alone: nothing turns. -/
theorem opens_same {room first : Nat} (hf : first < 18446744073709551616) {B : List UInt8} {Rs : List (List (List UInt8))} {L : List (List UInt8)} (hB : B ++ frames Rs.flatten = frames (Lib.uvarint first :: L)) (hL : ∀ s ∈ L, s.length ≤ 262144) :
    (stt room B Rs).opens log = (0, stt room B Rs, first) ∧ scan ((stt room B Rs).bytes log) = Lib.uvarint first :: L := by
  have hul := Lib.uvarint_length64 hf
  have h : scan (frames (Lib.uvarint first :: L)) = Lib.uvarint first :: L := by
    have := scan_frames (Lib.uvarint first :: L) [] (fun s hs => by
      rcases List.mem_cons.1 hs with rfl | hs
      · omega
      · exact hL s hs)
    have h0 : scan [] = [] := scan_none (by simp [fst?])
    rw [List.append_nil, h0, List.append_nil] at this
    exact this
  refine ⟨?_, by rw [stt_bytes, hB, h]⟩
  unfold FS.opens
  rw [stt_look, stt_bytes, hB, if_neg (by rw [ck_log]; decide), if_neg (by decide), h, fnum_jhd hf]
  simp only [FS.trim]
  rw [if_pos (by rw [frames_len])]
/-- Of a file whose last frames are cut off anywhere, there are those that are whole. -/
theorem scan_part {first : Nat} (hf : first < 18446744073709551616) (S R : List (List UInt8)) (hS : ∀ s ∈ S, s.length ≤ 262144) (hR : ∀ s ∈ R, s.length ≤ 262144) (k : Nat) (hk : k ≤ (frames R).length) :
    ∃ j, j ≤ R.length ∧ scan (frames (Lib.uvarint first :: S) ++ (frames R).take k) = Lib.uvarint first :: (S ++ R.take j) ∧ (k = 0 → j = 0) := by
  have hul := Lib.uvarint_length64 hf
  obtain ⟨j, h1, h2, h3, h4⟩ := scan_take R k hR hk
  refine ⟨j, h1, ?_, fun h0 => ?_⟩
  · rw [scan_frames _ _ (fun s hs => by
      rcases List.mem_cons.1 hs with rfl | hs
      · omega
      · exact hS s hs), h2, List.cons_append]
  · subst h0
    cases j with
    | zero => rfl
    | succ j =>
      cases R with
      | nil => simp at h1
      | cons a R => simp [cost] at h3
theorem jhd_frames (first : Nat) (L : List (List UInt8)) : jhd first ++ frames L = frames (Lib.uvarint first :: L) := by
  unfold jhd
  rw [← frames_app]
  rfl
end Go.Proofs.YtmaohncddjhgeaaGreat.fi
end
