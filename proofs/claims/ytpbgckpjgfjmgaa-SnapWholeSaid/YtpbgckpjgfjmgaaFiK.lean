/- The contracts of the calls that ask a directory: is it one, the names' errors, a file that is found, its bytes, the room, how many operations are open. -/
import Derived.Test.YtpbgckpjgfjmgaaFiJ
set_option linter.unusedVariables false
set_option maxRecDepth 100000
namespace Go.Proofs.Ytpbgckpjgfjmgaa.gn
open Go.RowKit
open Go.Proofs.Ytpbgckpjgfjmgaa.fi

theorem BlkD.cells {w : World} {d room nb sb : Nat} {v : Value} (h : BlkD w d room nb sb v) :
    w.cell? ⟨d, 0, none⟩ = some (.pointer (some ⟨d, 0, none⟩)) ∧ w.cell? ⟨d, 1, none⟩ = some (.int .i64 (room : Int)) ∧ w.cell? ⟨d, 2, none⟩ = some (.map (some nb)) ∧ w.cell? ⟨d, 3, none⟩ = some (.map (some sb)) ∧ w.cell? ⟨d, 4, none⟩ = some v :=
  ⟨by rw [cell_of_row w d 0 _ _ _ h]; rfl, by rw [cell_of_row w d 1 _ _ _ h]; rfl, by rw [cell_of_row w d 2 _ _ _ h]; rfl, by rw [cell_of_row w d 3 _ _ _ h]; rfl, by rw [cell_of_row w d 4 _ _ _ h]; rfl⟩

theorem dirInfo : ∃ j, Try.prog.info? 55 = some j := by
  have h : (Try.prog.info? 55).isSome = true := by kernel_rfl
  exact Option.isSome_iff_exists.1 h

set_option maxHeartbeats 1000000 in
theorem is_any (w : World) (d : Nat) (hc : w.cell? ⟨d, 0, none⟩ = some (.pointer (some ⟨d, 0, none⟩))) :
    Calls Try.prog 24 #[.pointer (some ⟨d, 0, none⟩)] w fun e w' => e = .returned (.bool true) ∧ w = w' := by
  obtain ⟨j, hj⟩ := dirInfo
  have heq := run_eql_ptr_same (P := Try.prog) w ⟨d, 0, none⟩ Try.underlying28 hj
  clear hj
  go_enter Try.func24, Try.ntmps24
  go_wp2
  go_ret
  exact ⟨rfl, rfl⟩

theorem fret {a b : Int} (h : a = b) : Ending.returned (.int .i64 a) = .returned (.int .i64 b) := by rw [h]
/-- The error of names. -/
def chk (ns : List Nm) : Int := if ns.all valid then 0 else 2
theorem valid_not {n : Nm} (h : valid n = false) : n = [] ∨ 32 < n.length := by
  unfold valid at h
  simp at h
  by_cases hn : n = []
  · exact .inl hn
  · exact .inr (h hn)
theorem valid_yes {n : Nm} (h : valid n = true) : n ≠ [] ∧ n.length ≤ 32 := by
  unfold valid at h
  simpa using h

set_option maxHeartbeats 4000000 in
theorem check_any (w : World) (d g c : Nat) (ns : List Nm) (hc : w.cell? ⟨d, 0, none⟩ = some (.pointer (some ⟨d, 0, none⟩))) (hn : ∀ j (h : j < ns.length), w.cell? ⟨g, j, none⟩ = some (.string (str ns[j]))) (h0 : 0 < ns.length) (hl : ns.length ≤ 1000) :
    Calls Try.prog 55 #[.pointer (some ⟨d, 0, none⟩), .slice (some ⟨g, 0, none⟩) ns.length c] w fun e w' => e = .returned (.int .i64 (chk ns)) ∧ w = w' := by
  have HN := Lib.hid hn
  clear hn
  go_enter Try.func55, Try.ntmps55
  go_wp2_with (go_at_call 24; ((with_reducible refine (is_any _ _ hc).mono ?_); rintro e w' ⟨rfl, rfl⟩))
  go_loop [12] (fun i => ∃ k : Nat, k ≤ ns.length ∧ i = .int .i64 k ∧ (ns.take k).all valid = true) (fun i => ns.length - (intOf i).toNat)
  case atStart => exact ⟨0, Nat.zero_le _, rfl, rfl⟩
  case round =>
    obtain ⟨k, hk, rfl, hv⟩ := hrel
    have HV := Lib.hid hv
    clear hv
    by_cases hlt : k < ns.length
    · have hcell := HN.out k hlt
      obtain ⟨n, hn⟩ : ∃ n, n = ns[k] := ⟨_, rfl⟩
      rw [← hn] at hcell
      have hz := Lib.hid (str_size n)
      have hK := Lib.hid hn
      clear hn
      have hI : (0 : Int) ≤ (k : Int) := by omega
      have hI2 : (k : Int) < (ns.length : Int) := by omega
      cases hv1 : valid n with
      | true =>
        obtain ⟨h1, h2⟩ := valid_yes hv1
        have e1 : (str n).toList = n := str_toList n
        have e2 : n.isEmpty = false := by simpa using h1
        have e3 : ((str n).size : Int) ≤ 32 := by have := hz.out; omega
        go_wp2
        go_round
        case rel =>
          refine ⟨k + 1, by omega, by go_num, ?_⟩
          rw [List.take_succ_eq_append_getElem hlt, List.all_append, HV.out, ← hK.out]
          simp [hv1]
        case measure => simp [intOf]; omega
      | false =>
        have HC : Hid (chk ns = 2) := by
          show _ = _
          unfold chk
          rw [if_neg]
          simp only [List.all_eq_true, Classical.not_forall]
          exact ⟨n, by rw [hK.out]; exact List.getElem_mem _, by simp [hv1]⟩
        by_cases hn0 : n = []
        · subst hn0
          have e1 : (str []).toList = [] := str_toList []
          go_wp2
          go_ret
          exact ⟨fret HC.out.symm, rfl⟩
        · have e2 : n.isEmpty = false := by simpa using hn0
          have e1 : (str n).toList = n := str_toList n
          have e3 : 32 < ((str n).size : Int) := by
            have h1 := valid_not hv1
            have h2 := hz.out
            rcases h1 with h1 | h1
            · exact absurd h1 hn0
            · omega
          go_wp2
          go_ret
          exact ⟨fret HC.out.symm, rfl⟩
    · go_wp2
      go_ret
      have e : chk ns = 0 := by
        unfold chk
        have hv := HV.out
        rw [List.take_of_length_le (by omega)] at hv
        rw [hv]; rfl
      exact ⟨fret e.symm, rfl⟩

set_option maxHeartbeats 4000000 in
/-- A name at which there is an error. -/
theorem find_no (w : World) (X : Nat → Prop) (TT : Nat → Option Tb) (role : Nat → Nat × Bool) (ga : Nat → Nat) (d : Nat) (s : FS) (nb sb : Nat) (v : Value) (hS : SysT w X TT) (h : DirOk w X TT role ga d s nb sb v) (n : Nm) (hl : s.look n ≠ 0) :
    Calls Try.prog 28 #[.pointer (some ⟨d, 0, none⟩), .string (str n)] w (Asks (.tuple #[.pointer none, .int .i64 (s.look n)]) w) := by
  obtain ⟨c0, c1, c2, c3, c4⟩ := h.blk.cells
  have hbel : Below w.heap.size w (w.alloc (.cells #[.string (str n)] 9)) := (Below.refl _ w).alloc (Nat.le_refl _) _
  have hcd := hbel.cell (p := ⟨d, 0, none⟩) (lt_of_block h.blk) ▸ c0
  have hns : ∀ j (hj : j < [n].length), (w.alloc (.cells #[.string (str n)] 9)).cell? ⟨w.heap.size, j, none⟩ = some (.string (str [n][j])) := fun j hj => by
    have : j = 0 := by simpa using hj
    subst this
    exact cell_of_one (heap_alloc_new w _)
  have hc1 := check_any (w.alloc (.cells #[.string (str n)] 9)) d w.heap.size 1 [n] hcd hns (by simp) (by simp)
  simp only [List.length_cons, List.length_nil, Nat.zero_add] at hc1
  have HC := Lib.hid hc1
  clear hc1
  have c2' : (w.alloc (.cells #[.string (str n)] 9)).cell? ⟨d, 2, none⟩ = some (.map (some nb)) := hbel.cell (p := ⟨d, 2, none⟩) (lt_of_block h.blk) ▸ c2
  have HB := Lib.hid hbel
  have hS2 := hS.below hbel
  cases hv : valid n with
  | false =>
    have h2 : chk [n] = 2 := by simp [chk, hv]
    have hl2 : s.look n = 2 := by simp [FS.look, hv]
    rw [h2] at HC
    rw [hl2]
    clear hbel hcd hns hS hS2 h c0 c1 c2 c3 c4 h2 hl hl2 hv
    go_enter Try.func28, Try.ntmps28
    go_wp2_with (go_at_call 55; ((with_reducible refine HC.out.mono ?_); rintro e w' ⟨rfl, rfl⟩))
    go_ret2
    exact ⟨rfl, HB.out⟩
  | true =>
    have hkl : n.length ≤ maxLen := by have := valid_len hv; unfold maxLen; omega
    have h2 : chk [n] = 0 := by simp [chk, hv]
    rw [h2] at HC
    have hg : fi.get n s.now = none := by
      cases hg : fi.get n s.now with
      | none => rfl
      | some f => exact absurd (by simp [FS.look, hv, hg]) hl
    have hl2 : s.look n = 7 := by simp [FS.look, hv, hg]
    have hlook := hS2.look_none h.now hkl hg
    rw [hl2]
    clear hbel hcd hns hS hS2 h c0 c1 c2 c3 c4 h2 hl hl2 hv hg
    go_enter Try.func28, Try.ntmps28
    go_wp2_with (go_at_call 55; ((with_reducible refine HC.out.mono ?_); rintro e w' ⟨rfl, rfl⟩))
    go_ret2
    exact ⟨rfl, HB.out⟩

/-- What is known of a file that was found. -/
def Found (n : Nm) (s : FS) (w : World) (p : Nat) : Prop := ∃ A m c f, fi.get n s.now = some f ∧ BlkF w p A m c f.2 ∧ Byt w A m c f.1
set_option maxHeartbeats 4000000 in
/-- A name at which there is a file. -/
theorem find_yes (w : World) (X : Nat → Prop) (TT : Nat → Option Tb) (role : Nat → Nat × Bool) (ga : Nat → Nat) (d : Nat) (s : FS) (nb sb : Nat) (v : Value) (hS : SysT w X TT) (h : DirOk w X TT role ga d s nb sb v) (n : Nm) (hl : s.look n = 0) :
    Calls Try.prog 28 #[.pointer (some ⟨d, 0, none⟩), .string (str n)] w fun e w' => ∃ p, e = .returned (.tuple #[.pointer (some ⟨p, 0, none⟩), .int .i64 0]) ∧ Below w.heap.size w w' ∧ Found n s w p := by
  obtain ⟨c0, c1, c2, c3, c4⟩ := h.blk.cells
  have hbel : Below w.heap.size w (w.alloc (.cells #[.string (str n)] 9)) := (Below.refl _ w).alloc (Nat.le_refl _) _
  have hcd := hbel.cell (p := ⟨d, 0, none⟩) (lt_of_block h.blk) ▸ c0
  have hns : ∀ j (hj : j < [n].length), (w.alloc (.cells #[.string (str n)] 9)).cell? ⟨w.heap.size, j, none⟩ = some (.string (str [n][j])) := fun j hj => by
    have : j = 0 := by simpa using hj
    subst this
    exact cell_of_one (heap_alloc_new w _)
  have hc1 := check_any (w.alloc (.cells #[.string (str n)] 9)) d w.heap.size 1 [n] hcd hns (by simp) (by simp)
  simp only [List.length_cons, List.length_nil, Nat.zero_add] at hc1
  have HC := Lib.hid hc1
  clear hc1
  have c2' : (w.alloc (.cells #[.string (str n)] 9)).cell? ⟨d, 2, none⟩ = some (.map (some nb)) := hbel.cell (p := ⟨d, 2, none⟩) (lt_of_block h.blk) ▸ c2
  have HB := Lib.hid hbel
  obtain ⟨hv, f, hg⟩ := look_zero hl
  have hkl : n.length ≤ maxLen := by have := valid_len hv; unfold maxLen; omega
  have h2 : chk [n] = 0 := by simp [chk, hv]
  rw [h2] at HC
  obtain ⟨G, hG⟩ := hS
  obtain ⟨p, A, m, c, ha⟩ := hG.at_ h.now hg
  have hlook := ((hG.below hbel).tab h.now).look hkl
  rw [ha.at_] at hlook
  simp only [ptrOf] at hlook
  have HP : Hid (Found n s w p) := ⟨A, m, c, f, hg, ha.blk, ha.byt⟩
  clear hbel hcd hns hG h c0 c1 c2 c3 c4 h2 hl hv hg ha
  go_enter Try.func28, Try.ntmps28
  go_wp2_with (go_at_call 55; ((with_reducible refine HC.out.mono ?_); rintro e w' ⟨rfl, rfl⟩))
  go_ret2
  exact ⟨p, rfl, HB.out, HP.out⟩

theorem byt_string {w : World} {A : Option Addr} {n c : Nat} {l : List UInt8} (h : Byt w A n c l) : (convert 74 9 (.slice A n c)).run Try.prog w = .ok (.string (str l)) w := by
  rcases h.form with ⟨rfl, rfl, rfl, rfl⟩ | ⟨g, rfl⟩
  · exact run_convert_bytes_nil w _ _ Try.underlying74 Try.underlying5 0 0 _ Try.underlying9
  · obtain ⟨cur, hg, hc, ht⟩ := h.lt rfl
    have hn : n = l.length := h.1.symm
    subst hn
    refine run_convert_bytes_back w _ _ _ ⟨g, 0, none⟩ c l Try.underlying74 Try.underlying5 Try.underlying9 fun j hj => ?_
    have hadd : (⟨g, 0, none⟩ : Addr).add j = ⟨g, j, none⟩ := by unfold Addr.add; split <;> simp_all
    rw [hadd, cell_of_row w g j cur _ (0, 0) hg, ← Array.getElem?_toList]
    have h2 : (cur.toList.take l.length)[j]? = cur.toList[j]? := by rw [List.getElem?_take, if_pos hj]
    rw [← h2, ht]
    simp [Lib.byteCells, List.getElem?_eq_getElem hj]

set_option maxHeartbeats 4000000 in
theorem read_any (w : World) (X : Nat → Prop) (D : Nat → Option FS) (d : Nat) (s : FS) (hS : Sys w X D) (hd : D d = some s) (n : Nm) :
    Calls Try.prog 17 #[.pointer (some ⟨d, 0, none⟩), .string (str n)] w (Asks (.tuple #[.string (str (s.bytes n)), .int .i64 (s.look n)]) w) := by
  obtain ⟨TT, role, ga, h1, h2⟩ := hS
  obtain ⟨nb, sb, v, h⟩ := h2 d s hd
  by_cases hl : s.look n = 0
  · have HF := Lib.hid (find_yes w X TT role ga d s nb sb v h1 h n hl)
    have hb : s.bytes n = ((fi.get n s.now).map (·.1)).getD [] := if_pos hl
    rw [hl, hb]
    clear h hd h1 h2 hl hb
    go_enter Try.func17, Try.ntmps17
    go_wp2_with (go_at_call 28; ((with_reducible refine HF.out.mono ?_); rintro e w1 ⟨p, rfl, hb1, A, m, c, f, hg, hb, hy⟩; obtain ⟨d0, d1, d2, d3⟩ := (show BlkF w1 p A m c f.2 from (hb1.block p (lt_of_block hb)).trans hb).cells; have hcv := byt_string (hy.kept fun g _ hlt => hb1.block g hlt); have HG := Lib.hid hg; have HB := Lib.hid hb1; clear hg hb hy hb1))
    go_ret2
    refine ⟨?_, HB.out⟩
    rw [HG.out]
    rfl
  · have HF := Lib.hid (find_no w X TT role ga d s nb sb v h1 h n hl)
    have hb : s.bytes n = [] := if_neg hl
    rw [hb]
    have hne : (s.look n != 0) = true := by simpa using hl
    clear h hd h1 h2 hb hl
    go_enter Try.func17, Try.ntmps17
    go_wp2_with (go_at_call 28; ((with_reducible refine HF.out.mono ?_); rintro e w1 ⟨rfl, hb1⟩; have HB := Lib.hid hb1; clear hb1))
    go_ret2
    exact ⟨rfl, HB.out⟩
end Go.Proofs.Ytpbgckpjgfjmgaa.gn
