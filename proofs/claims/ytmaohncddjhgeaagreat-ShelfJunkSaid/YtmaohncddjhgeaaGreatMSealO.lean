/- The contract of Open. -/
import Derived.Test.YtmaohncddjhgeaaGreatMSealC
import Derived.BigQuiet
import Derived.WalkSmall
import Derived.Deep.QuietTactic
import Derived.Deep.RegionHeld3
import Derived.Deep.RegionWith
section
namespace Go.Proofs.YtmaohncddjhgeaaGreat.gn
open Go.RowKit
open Go.Proofs.YtmaohncddjhgeaaGreat.sl

/-- What lies ahead of the last eight bytes, and these. -/
def front (l : List UInt8) : List UInt8 := l.take (l.length - 8)
def back (l : List UInt8) : List UInt8 := l.drop (l.length - 8)
def opens (l : List UInt8) : Bool := decide (8 ≤ l.length ∧ back l = le 8 (crc (front l)).toNat)
def opened (l : List UInt8) : List UInt8 := if opens l then front l else []

theorem nums (l : List UInt8) (h : 8 ≤ l.length) : 8 ≤ (str l).size := by rw [str_size]; exact h

set_option maxRecDepth 100000 in
set_option maxHeartbeats 800000 in
theorem open_short (l : List UInt8) (hl : l.length < 8) (w : World) :
    Calls Tryz.prog 146 #[.string (str l)] w fun e w' => e = .returned (.tuple #[.string ⟨#[]⟩, .bool false]) ∧ Below w.heap.size w w' := by
  have b1 : (str l).size < 8 := by rw [str_size]; exact hl
  have hd : decide ((((str l).size : Nat) : Int) - 8 < 0) = true := decide_eq_true (by omega)
  clear hl
  go_enter Tryz.func146, Tryz.ntmps146
  go_wp2
  go_quiet (fail)
  go_wp2
  go_ret2
  exact ⟨rfl, below_drewN (Below.refl _ _) _⟩

theorem slice_hi (s : ByteArray) (h : Int) (h0 : 0 ≤ h) (h2 : h ≤ s.size) (w : World) :
    (Instr.slice 9 (.string s) none (some (.int .i64 h)) none).run Tryz.prog w = .ok (.string (s.extract 0 h.toNat)) w := run_slice_string_h (P := Tryz.prog) w 9 s Tryz.underlying9 .i64 h h0 h2
theorem slice_lo (s : ByteArray) (h : Int) (h0 : 0 ≤ h) (h2 : h ≤ s.size) (w : World) :
    (Instr.slice 9 (.string s) (some (.int .i64 h)) none none).run Tryz.prog w = .ok (.string (s.extract h.toNat s.size)) w := run_slice_string_l (P := Tryz.prog) w 9 s Tryz.underlying9 .i64 h h0 h2
set_option maxRecDepth 100000 in
set_option maxHeartbeats 1600000 in
theorem open_long (l : List UInt8) (hl : 8 ≤ l.length) (hl2 : l.length ≤ 140737488355328) (w : World) :
    Calls Tryz.prog 146 #[.string (str l)] w fun e w' => e = .returned (.tuple #[.string (str (opened l)), .bool (opens l)]) ∧ Below w.heap.size w w' := by
  have key : ((str (back l)).toList == (str (le 8 (crc (front l)).toNat)).toList) = opens l := by
    rw [str_toList, str_toList, Bool.eq_iff_iff]
    unfold opens
    rw [beq_iff_eq, decide_eq_true_iff]
    exact ⟨fun h => ⟨hl, h⟩, fun h => h.2⟩
  have b1 : 8 ≤ (str l).size := nums l hl
  have b2 : (str l).size ≤ 140737488355328 := by rw [str_size]; exact hl2
  have x1 : (str l).extract ((str l).size - 8) (str l).size = str (back l) := by rw [str_drop, str_size]; rfl
  have x2 : (str l).extract 0 ((str l).size - 8) = str (front l) := by rw [str_take, str_size]; rfl
  have hd : decide ((((str l).size : Nat) : Int) - 8 < 0) = false := decide_eq_false (by omega)
  have hfl : (front l).length ≤ 140737488355328 := by unfold front; rw [List.length_take]; omega
  have HFL := Lib.hid hfl
  have s1 := slice_hi (str l) ((((str l).size : Nat) : Int) - 8) (by omega) (by omega)
  have s2 := slice_lo (str l) ((((str l).size : Nat) : Int) - 8) (by omega) (by omega)
  have s3 : (((((str l).size : Nat) : Int) - 8).toNat) = (str l).size - 8 := by omega
  rw [s3, x2] at s1
  rw [s3, x1] at s2
  clear s3 x1 x2
  clear hl hl2 hfl
  cases ho : opens l
  · have HP : Hid (opened l = []) := by show _ = _; unfold opened; rw [ho]; rfl
    rw [ho] at key
    clear ho
    go_enter Tryz.func146, Tryz.ntmps146
    go_wp2
    go_region_held3 (fun _ => True) (exact trivial) (first | (go_at_call 124; refine (sum_any _ (by have := HFL.out; omega) _).mono ?_; rintro e w1 ⟨rfl, hb1⟩) | (go_at_call 123; refine (sumText_any _ _).mono ?_; rintro e w2 ⟨rfl, hb2⟩))
    have HB2 := Lib.hid (((Below.refl _ w).drew.trans hb1).trans (hb2.mono hb1.size))
    go_wp2
    go_ret2
    rw [HP.out]
    exact ⟨rfl, HB2.out⟩
  · have HP : Hid (opened l = front l) := by show _ = _; unfold opened; rw [ho]; rfl
    rw [ho] at key
    clear ho
    go_enter Tryz.func146, Tryz.ntmps146
    go_wp2
    go_region_held3 (fun _ => True) (exact trivial) (first | (go_at_call 124; refine (sum_any _ (by have := HFL.out; omega) _).mono ?_; rintro e w1 ⟨rfl, hb1⟩) | (go_at_call 123; refine (sumText_any _ _).mono ?_; rintro e w2 ⟨rfl, hb2⟩))
    have HB2 := Lib.hid (((Below.refl _ w).drew.trans hb1).trans (hb2.mono hb1.size))
    go_wp2_with fail
    refine (clone_any _ _ (by rw [str_size]; have := HFL.out; omega)).mono ?_
    rintro e w3 ⟨rfl, hb3⟩
    have HB3 := Lib.hid (HB2.out.trans (hb3.mono HB2.out.size))
    go_wp2
    go_ret2
    rw [HP.out]
    exact ⟨rfl, HB3.out⟩

theorem open_any (l : List UInt8) (hl2 : l.length ≤ 140737488355328) (w : World) :
    Calls Tryz.prog 146 #[.string (str l)] w fun e w' => e = .returned (.tuple #[.string (str (opened l)), .bool (opens l)]) ∧ Below w.heap.size w w' := by
  by_cases hl : 8 ≤ l.length
  · exact open_long l hl hl2 w
  · have ho : opens l = false := decide_eq_false (fun h => hl h.1)
    have hp : opened l = [] := by unfold opened; rw [ho]; rfl
    rw [ho, hp]
    exact open_short l (by omega) w

theorem opens_sealed (l : List UInt8) : opens (sealed l) = true := by
  have h : front (sealed l) = l := by unfold front; rw [sealed_len, Nat.add_sub_cancel]; unfold sealed; simp
  have h2 : back (sealed l) = le 8 (crc l).toNat := by unfold back; rw [sealed_len, Nat.add_sub_cancel]; unfold sealed; simp
  unfold opens
  rw [decide_eq_true_iff, h, h2, sealed_len]
  exact ⟨by omega, rfl⟩
theorem front_sealed (l : List UInt8) : front (sealed l) = l := by unfold front; rw [sealed_len, Nat.add_sub_cancel]; unfold sealed; simp
theorem opened_sealed (l : List UInt8) : opened (sealed l) = l := by unfold opened; rw [opens_sealed, if_pos rfl, front_sealed]
/-- What opens is sealed. -/
theorem opens_is (l : List UInt8) : opens l = true ↔ 8 ≤ l.length ∧ sealed (front l) = l := by
  unfold opens
  rw [decide_eq_true_iff]
  have e : front l ++ back l = l := List.take_append_drop _ _
  constructor
  · rintro ⟨h1, h2⟩
    refine ⟨h1, ?_⟩
    unfold sealed
    rw [← h2]
    exact e
  · rintro ⟨h1, h2⟩
    refine ⟨h1, ?_⟩
    unfold sealed at h2
    exact (List.append_cancel_left (h2.trans e.symm)).symm
end Go.Proofs.YtmaohncddjhgeaaGreat.gn
end
section
namespace Go.Proofs.YtmaohncddjhgeaaGreat.gn
open Go.Proofs.YtmaohncddjhgeaaGreat.sl

/-- A number out of its bytes, the lowest one first. -/
def num : List UInt8 → Nat
  | [] => 0
  | c :: l => c.toNat + 256 * num l
theorem num_lt : ∀ l : List UInt8, num l < 256 ^ l.length
  | [] => by simp [num]
  | c :: l => by
    have h := num_lt l
    have := UInt8.toNat_lt c
    rw [num, List.length_cons, Nat.pow_succ]
    omega
theorem le_num : ∀ l : List UInt8, le l.length (num l) = l
  | [] => rfl
  | c :: l => by
    have h := UInt8.toNat_lt c
    rw [List.length_cons, le, num]
    have e1 : (c.toNat + 256 * num l) % 256 = c.toNat := by omega
    have e2 : (c.toNat + 256 * num l) / 256 = num l := by omega
    rw [e1, e2, le_num l]
    simp
theorem num_le : ∀ (n v : Nat), v < 256 ^ n → num (le n v) = v
  | 0, v, h => by simp at h; subst h; rfl
  | n + 1, v, h => by
    rw [le, num, num_le n (v / 256) (by rw [Nat.pow_succ] at h; omega)]
    have : (v % 256).toUInt8.toNat = v % 256 := by simp [Nat.toUInt8, UInt8.toNat_ofNat']
    omega

/-- What stands ahead of a string of n bytes; a frame; frames; what they cost. -/
def hd (n : Nat) : List UInt8 := sealed (le 4 n)
theorem hd_len (n : Nat) : (hd n).length = 12 := by simp [hd, sealed_len, le_len]
def frame (s : List UInt8) : List UInt8 := hd s.length ++ sealed s
theorem frame_len (s : List UInt8) : (frame s).length = 20 + s.length := by simp [frame, hd_len, sealed_len]; omega
def frames : List (List UInt8) → List UInt8
  | [] => []
  | s :: l => frame s ++ frames l
def cost : List (List UInt8) → Nat
  | [] => 0
  | s :: l => (20 + s.length) + cost l
theorem frames_len : ∀ l, (frames l).length = cost l
  | [] => rfl
  | s :: l => by rw [frames, cost, List.length_append, frame_len, frames_len l]
theorem frames_app : ∀ l m, frames (l ++ m) = frames l ++ frames m
  | [], m => rfl
  | s :: l, m => by rw [List.cons_append, frames, frames, frames_app l m, List.append_assoc]
theorem cost_app : ∀ l m, cost (l ++ m) = cost l + cost m
  | [], m => by simp [cost]
  | s :: l, m => by rw [List.cons_append, cost, cost, cost_app l m]; omega
theorem frames_one (s : List UInt8) : frames [s] = frame s := by simp [frames]
theorem cost_one (s : List UInt8) : cost [s] = 20 + s.length := by simp [cost]

/-- With which string's frame some bytes begin. -/
def fst? (b : List UInt8) : Option (List UInt8) :=
  if 12 ≤ b.length ∧ opens (b.take 12) = true ∧ num (b.take 4) ≤ 262144 ∧ 20 + num (b.take 4) ≤ b.length ∧ opens ((b.drop 12).take (8 + num (b.take 4))) = true then some ((b.drop 12).take (num (b.take 4))) else none

theorem front_head (b : List UInt8) (h : 12 ≤ b.length) : front (b.take 12) = b.take 4 := by
  unfold front
  rw [List.take_take, List.length_take]
  congr 1
  omega
theorem front_body (r : List UInt8) (n : Nat) (h : 8 + n ≤ r.length) : front (r.take (8 + n)) = r.take n := by
  unfold front
  rw [List.take_take, List.length_take]
  congr 1
  omega

theorem fst_some {b s : List UInt8} (h : fst? b = some s) : s.length ≤ 262144 ∧ 20 + s.length ≤ b.length ∧ b.take (20 + s.length) = frame s ∧ s = (b.drop 12).take (num (b.take 4)) ∧ s.length = num (b.take 4) := by
  unfold fst? at h
  split at h
  · next hc =>
    obtain ⟨h1, h2, h3, h4, h5⟩ := hc
    have hs : s = (b.drop 12).take (num (b.take 4)) := by simpa using h.symm
    have hl : s.length = num (b.take 4) := by rw [hs, List.length_take, List.length_drop]; omega
    refine ⟨by omega, by omega, ?_, hs, hl⟩
    have e1 := ((opens_is _).1 h2).2
    have e2 := ((opens_is _).1 h5).2
    rw [front_head b h1] at e1
    rw [front_body _ _ (by rw [List.length_drop]; omega), ← hs] at e2
    have e3 : le 4 s.length = b.take 4 := by
      have h6 := le_num (b.take 4)
      rw [List.length_take, show min 4 b.length = 4 by omega] at h6
      rw [hl]; exact h6
    unfold frame hd
    rw [e3, e1, e2, hl, show 20 + num (b.take 4) = 12 + (8 + num (b.take 4)) by omega, List.take_add]
  · cases h
theorem fst_of {b s : List UInt8} (h1 : s.length ≤ 262144) (h2 : 20 + s.length ≤ b.length) (h3 : b.take (20 + s.length) = frame s) : fst? b = some s := by
  have a1 : b.take 12 = hd s.length := by
    have := congrArg (List.take 12) h3
    rw [List.take_take, show min 12 (20 + s.length) = 12 by omega] at this
    rw [this, frame, List.take_append_of_le_length (by rw [hd_len]; omega), List.take_of_length_le (by rw [hd_len]; omega)]
  have a2 : (b.drop 12).take (8 + s.length) = sealed s := by
    have := congrArg (List.drop 12) h3
    rw [List.drop_take, show 20 + s.length - 12 = 8 + s.length by omega] at this
    rw [this, frame, List.drop_append_of_le_length (by rw [hd_len]; omega), List.drop_of_length_le (by rw [hd_len]; omega), List.nil_append]
  have a3 : b.take 4 = le 4 s.length := by
    have := congrArg (List.take 4) a1
    rw [List.take_take, show min 4 12 = 4 by omega] at this
    rw [this, hd, sealed, List.take_append_of_le_length (by rw [le_len]; omega), List.take_of_length_le (by rw [le_len]; omega)]
  have a4 : num (b.take 4) = s.length := by rw [a3, num_le _ _ (by omega)]
  have a5 : (b.drop 12).take s.length = s := by
    have := congrArg (List.take s.length) a2
    rw [List.take_take, show min s.length (8 + s.length) = s.length by omega] at this
    rw [this, sealed, List.take_append_of_le_length (Nat.le_refl _), List.take_of_length_le (Nat.le_refl _)]
  unfold fst?
  rw [a4, a5, if_pos]
  exact ⟨by omega, by rw [a1]; exact opens_sealed _, by omega, by omega, by rw [a2]; exact opens_sealed _⟩
theorem fst_frame (s more : List UInt8) (h : s.length ≤ 262144) : fst? (frame s ++ more) = some s :=
  fst_of h (by rw [List.length_append, frame_len]; omega) (by rw [List.take_append_of_le_length (by rw [frame_len]; omega), List.take_of_length_le (by rw [frame_len]; omega)])

/-- The strings of the frames of some bytes. -/
def scan (b : List UInt8) : List (List UInt8) :=
  match h : fst? b with
  | none => []
  | some s => s :: scan (b.drop (20 + s.length))
termination_by b.length
decreasing_by
  have := (fst_some h).2.1
  rw [List.length_drop]
  omega
theorem scan_none {b : List UInt8} (h : fst? b = none) : scan b = [] := by
  rw [scan]
  split
  · rfl
  · next h2 => rw [h] at h2; cases h2
theorem scan_some {b s : List UInt8} (h : fst? b = some s) : scan b = s :: scan (b.drop (20 + s.length)) := by
  rw [scan]
  split
  · next h2 => rw [h] at h2; cases h2
  · next s2 h2 => rw [h] at h2; cases h2; rfl

theorem scan_frames : ∀ (l : List (List UInt8)) (more : List UInt8), (∀ s ∈ l, s.length ≤ 262144) → scan (frames l ++ more) = l ++ scan more
  | [], more, _ => rfl
  | s :: l, more, h => by
    have hs := h s (by simp)
    rw [frames, List.append_assoc, scan_some (fst_frame s _ hs), List.cons_append]
    congr 1
    rw [List.drop_append_of_le_length (by rw [frame_len]; omega), List.drop_of_length_le (by rw [frame_len]; omega), List.nil_append]
    exact scan_frames l more fun t ht => h t (by simp [ht])
theorem scan_cost : ∀ (n : Nat) (b : List UInt8), b.length ≤ n → cost (scan b) ≤ b.length
  | n, b, hn => by
    cases h : fst? b with
    | none => rw [scan_none h]; simp [cost]
    | some s =>
      have h1 := (fst_some h).2.1
      rw [scan_some h, cost]
      match n, hn with
      | 0, hn => omega
      | n + 1, hn =>
        have h2 := scan_cost n (b.drop (20 + s.length)) (by rw [List.length_drop]; omega)
        rw [List.length_drop] at h2
        omega
theorem scan_le (b : List UInt8) : cost (scan b) ≤ b.length := scan_cost b.length b (Nat.le_refl _)
theorem cost_len : ∀ l, 20 * l.length ≤ cost l
  | [] => by simp [cost]
  | s :: l => by have := cost_len l; rw [cost, List.length_cons]; omega
theorem cost_mem : ∀ (l : List (List UInt8)) (s : List UInt8), s ∈ l → 20 + s.length ≤ cost l
  | [], s, h => by cases h
  | t :: l, s, h => by
    rw [cost]
    rcases List.mem_cons.1 h with rfl | h
    · omega
    · have := cost_mem l s h; omega

/-- A frame of which some is missing is none. -/
theorem fst_cut (s more : List UInt8) (hs : s.length ≤ 262144) (k : Nat) (hk : k < 20 + s.length) : fst? ((frame s ++ more).take k) = none := by
  cases h : fst? ((frame s ++ more).take k) with
  | none => rfl
  | some t =>
    exfalso
    obtain ⟨h1, h2, h3, h4, h5⟩ := fst_some h
    have hk2 : ((frame s ++ more).take k).length ≤ k := List.length_take_le _ _
    have h6 : ((frame s ++ more).take k).take 4 = le 4 s.length := by
      rw [List.take_take, show min 4 k = 4 by omega, List.take_append_of_le_length (by rw [frame_len]; omega), frame, List.take_append_of_le_length (by rw [hd_len]; omega), hd, sealed, List.take_append_of_le_length (by rw [le_len]; omega), List.take_of_length_le (by rw [le_len]; omega)]
    rw [h6, num_le _ _ (by omega)] at h5
    omega
/-- Cut off anywhere, those are there whose frames are there whole. -/
theorem scan_take : ∀ (l : List (List UInt8)) (k : Nat), (∀ s ∈ l, s.length ≤ 262144) → k ≤ (frames l).length →
    ∃ j, j ≤ l.length ∧ scan ((frames l).take k) = l.take j ∧ cost (l.take j) ≤ k ∧ (j = l.length ∨ k < cost (l.take (j + 1)))
  | [], k, _, hk => ⟨0, by simp, by simp [frames, scan_none, fst?], by simp [cost], .inl rfl⟩
  | s :: l, k, h, hk => by
    have hs := h s (by simp)
    by_cases hc : k < 20 + s.length
    · exact ⟨0, by simp, by rw [frames, scan_none (fst_cut s _ hs k hc)]; rfl, by simp [cost], .inr (by simp [cost]; omega)⟩
    · have e1 : (frames (s :: l)).take k = frame s ++ (frames l).take (k - (20 + s.length)) := by
        rw [frames, List.take_append, frame_len, List.take_of_length_le (by rw [frame_len]; omega)]
      rw [frames, List.length_append, frame_len] at hk
      obtain ⟨j, h1, h2, h3, h4⟩ := scan_take l (k - (20 + s.length)) (fun t ht => h t (by simp [ht])) (by omega)
      refine ⟨j + 1, by simp; omega, ?_, ?_, ?_⟩
      · rw [e1, scan_some (fst_frame s _ hs), List.drop_append_of_le_length (by rw [frame_len]; omega), List.drop_of_length_le (by rw [frame_len]; omega), List.nil_append, h2, List.take_succ_cons]
      · rw [List.take_succ_cons, cost]; omega
      · rcases h4 with h4 | h4
        · exact .inl (by simp [h4])
        · right; rw [List.take_succ_cons, cost]; omega
end Go.Proofs.YtmaohncddjhgeaaGreat.gn
end
