/- Slips, plain: the whole text is read again; lines between, and another order, change nothing. (Written ahead of the code.) -/
import Derived.Test.YtekcjfdllclphaaGreatDoorMGen
import Derived.Test.YtekcjfdllclphaaGreatDoorMDiX
import Derived.Test.YtekcjfdllclphaaGreatDoorMDiE
section
set_option linter.unusedVariables false
namespace Go.Proofs.YtekcjfdllclphaaGreatDoor.sp
open Go.Proofs.YtekcjfdllclphaaGreatDoor.un
open Go.Proofs.YtekcjfdllclphaaGreatDoor.di

theorem small_kinds (x : Slip) (hm : ∀ d ∈ x.make, d.kind = 4) : ((dirsS x).filter fun d => decide (d.kind ≤ 3)).map (·.kind) = (if 0 < x.cap then [1] else []) ++ (if 0 < x.inn then [2] else []) ++ (if 0 < x.out then [3] else []) := by
  have h1 : x.make.filter (fun d => decide (d.kind ≤ 3)) = [] := List.filter_eq_nil_iff.2 fun d hd => by simp [hm d hd]
  have h2 : (x.drop.map fun n => (⟨5, n, [], 0, false⟩ : Dir)).filter (fun d => decide (d.kind ≤ 3)) = [] := List.filter_eq_nil_iff.2 fun d hd => by
    obtain ⟨n, _, rfl⟩ := List.mem_map.1 hd
    simp
  have h3 : (x.use.map fun n => (⟨6, n, [], 0, false⟩ : Dir)).filter (fun d => decide (d.kind ≤ 3)) = [] := List.filter_eq_nil_iff.2 fun d hd => by
    obtain ⟨n, _, rfl⟩ := List.mem_map.1 hd
    simp
  unfold dirsS
  rw [List.filter_append, List.filter_append, List.filter_append, List.filter_append, List.filter_append, h1, h2, h3]
  split <;> split <;> split <;> rfl
theorem small_nodup (x : Slip) (hm : ∀ d ∈ x.make, d.kind = 4) : (((dirsS x).filter fun d => decide (d.kind ≤ 3)).map (·.kind)).Nodup := by
  rw [small_kinds x hm]
  split <;> split <;> split <;> decide
theorem once_dirs {x : Slip} (h : Ok x) : Once [] (dirsS x) := once_of _ _ (small_nodup x fun d hd => (h.make d hd).1) (fun _ _ _ => List.not_mem_nil)
theorem once_rev {x : Slip} (h : Ok x) : Once [] (dirsS x).reverse := by
  refine once_of _ _ ?_ (fun _ _ _ => List.not_mem_nil)
  rw [List.filter_reverse, List.map_reverse]
  exact (List.reverse_perm _).nodup_iff.2 (small_nodup x fun d hd => (h.make d hd).1)
theorem no_join {c b : UInt8} (hc : b ≠ c) : ∀ (L : List Tx), (∀ w ∈ L, b ∉ w) → b ∉ joinC c L
  | [], _ => by simp [joinC]
  | [a], h => h a (by simp)
  | a :: d :: r, h => by
    rw [joinC_cons c a (by simp)]
    intro hm
    rcases List.mem_append.1 hm with hm | hm
    · exact h a (by simp) hm
    rcases List.mem_cons.1 hm with e | hm
    · exact hc e
    · exact no_join hc (d :: r) (fun w hw => h w (by simp [hw])) hm
theorem dtx_lf {d : Dir} (h : chk d = true) : (10 : UInt8) ∉ dtx d := fun hm => by
  obtain ⟨i, hi, e⟩ := List.getElem_of_mem hm
  exact (neat_at (dtx d) 0 (text_neat h 0) i hi).1 e
theorem line1_lf {x : Slip} (h : Ok x) : (10 : UInt8) ∉ line1 x := by
  unfold line1
  refine no_join (by decide) _ fun w hw => ?_
  rcases List.mem_cons.1 hw with rfl | hw
  · decide
  · obtain ⟨f, hf, rfl⟩ := List.mem_map.1 hw
    exact (fsS_mem h hf).1.2
theorem dep_len (d : Int × Bool) : (depT d).length ≤ 17 := by
  have := txt_len d.1
  unfold depT
  rw [List.length_append, List.length_cons]
  have : (if d.2 = true then anyW else okW).length ≤ 3 := by split <;> decide
  omega
theorem line1_len {x : Slip} (h : Ok x) : (line1 x).length ≤ 1206 := by
  have hn := name_len h.user
  have hl := joinC_len 32 (jobW :: (fsS x).map wtx) 200 fun w hw => by
    rcases List.mem_cons.1 hw with rfl | hw
    · decide
    obtain ⟨f, hf, rfl⟩ := List.mem_map.1 hw
    unfold wtx
    rw [List.length_append, List.length_cons]
    unfold fsS at hf
    rcases List.mem_append.1 hf with hf | hf
    · rcases List.mem_append.1 hf with hf | hf
      · simp only [List.mem_cons, List.not_mem_nil, or_false] at hf
        rcases hf with rfl | rfl | rfl
        · show userK.length + _ ≤ 200
          simp only [userK, List.length_cons, List.length_nil]
          omega
        · have := txt_len x.nodes
          simp only [nodesK, List.length_cons, List.length_nil]
          omega
        · have := txt_len x.wall
          simp only [wallK, List.length_cons, List.length_nil]
          omega
      · split at hf
        · simp only [List.mem_cons, List.not_mem_nil, or_false] at hf
          subst hf
          have := txt_len x.qos
          simp only [qosK, List.length_cons, List.length_nil]
          omega
        · simp at hf
    · split at hf
      · simp at hf
      · simp only [List.mem_cons, List.not_mem_nil, or_false] at hf
        subst hf
        have h1 := joinC_len 44 (x.after.map depT) 17 fun w hw => by
          obtain ⟨d, _, rfl⟩ := List.mem_map.1 hw
          exact dep_len d
        rw [List.length_map] at h1
        have h2 := h.after.1
        simp only [afterK, List.length_cons, List.length_nil]
        omega
  have h5 : (fsS x).length ≤ 5 := by
    unfold fsS
    split <;> split <;> simp
  rw [List.length_cons, List.length_map] at hl
  unfold line1
  omega
theorem dirs_count {x : Slip} (h : Ok x) : (dirsS x).length ≤ 15 := by
  have h1 := h.makeN.1
  have h2 := h.drop.1
  have h3 := h.use.1
  rw [List.length_map] at h1
  unfold dirsS
  simp only [List.length_append, List.length_map]
  split <;> split <;> split <;> simp <;> omega
theorem join_two (c : UInt8) (a : Tx) (L : List Tx) (m : Nat) (h : ∀ w ∈ L, w.length ≤ m) : (joinC c (a :: L)).length ≤ a.length + 1 + L.length * (m + 1) := by
  cases L with
  | nil =>
    show a.length ≤ _
    omega
  | cons b r =>
    have := joinC_len c (b :: r) m h
    rw [joinC_cons c a (by simp), List.length_append, List.length_cons]
    omega
/-- A text of the first line and some lines is read as the slip, where their directives, put one after another, give it. -/
theorem sread_lines {x : Slip} (h : Ok x) (L : List Tx) (hf : (dirLines L).foldl put (head1 x) = x) (ho : Once [] (dirLines L)) (h10 : ∀ l ∈ L, (10 : UInt8) ∉ l) (he : ∀ l ∈ L, isD l = true → lerr l = 0) (hl : (joinC 10 (line1 x :: L)).length ≤ 10000) : sread (joinC 10 (line1 x :: L)) = (x, 0, 0) := by
  obtain ⟨s', hr⟩ := lrun_lines L (head1 x) [] 2 he ho
  unfold sread
  rw [if_neg (by omega), cuts_join 10 _ (by simp) (fun w hw => by
    rcases List.mem_cons.1 hw with rfl | hw
    · exact line1_lf h
    · exact h10 w hw)]
  dsimp only
  rw [first_read h]
  dsimp only
  rw [hr]
  dsimp only
  rw [hf, if_pos ((chkS_iff x).2 h)]
theorem txtS_len {x : Slip} (h : Ok x) : (txtS x).length ≤ 5812 := by
  have h1 := join_two 10 (line1 x) ((dirsS x).map dtx) 306 fun w hw => by
    obtain ⟨d, hd, rfl⟩ := List.mem_map.1 hw
    exact (made_text (dirs_mem h hd)).len
  have h2 := line1_len h
  have h3 := dirs_count h
  rw [List.length_map] at h1
  unfold txtS
  omega
theorem dirs_lines {x : Slip} (h : Ok x) {l : Tx} (hl : l ∈ (dirsS x).map dtx) : (10 : UInt8) ∉ l ∧ (isD l = true → lerr l = 0) := by
  obtain ⟨d, hd, rfl⟩ := List.mem_map.1 hl
  exact ⟨dtx_lf (dirs_mem h hd), fun _ => (dtx_line (dirs_mem h hd)).2.1⟩
theorem read_text {x : Slip} (h : Ok x) : sread (txtS x) = (x, 0, 0) := by
  have hd := dirLines_dtx (dirsS x) fun d hd => dirs_mem h hd
  refine sread_lines h _ (by rw [hd]; exact fold_dirs h) (by rw [hd]; exact once_dirs h) (fun l hl => (dirs_lines h hl).1) (fun l hl => (dirs_lines h hl).2) ?_
  have := txtS_len h
  unfold txtS at this
  omega
theorem cuts_txt {x : Slip} (h : Ok x) : cuts 10 (txtS x) = line1 x :: (dirsS x).map dtx := by
  unfold txtS
  refine cuts_join 10 _ (by simp) fun w hw => ?_
  rcases List.mem_cons.1 hw with rfl | hw
  · exact line1_lf h
  · exact (dirs_lines h hw).1
/-! ### lines between; another order -/
theorem put_out : ∀ (L : List Dir) (x : Slip) (d : Dir), (∀ e ∈ L, d.kind ≠ e.kind) → L.foldl put (put x d) = put (L.foldl put x) d
  | [], _, _, _ => rfl
  | e :: r, x, d, h => by
    rw [List.foldl_cons, List.foldl_cons, put_comm x d e (h e (by simp)), put_out r _ d fun y hy => h y (by simp [hy])]
theorem fold_rev : ∀ (L : List Dir) (x : Slip), (L.map (·.kind)).Nodup → L.reverse.foldl put x = L.foldl put x
  | [], _, _ => rfl
  | d :: r, x, h => by
    rw [List.map_cons, List.nodup_cons] at h
    rw [List.reverse_cons, List.foldl_append, fold_rev r x h.2]
    exact (put_out r x d fun e he hk => h.1 (List.mem_map.2 ⟨e, he, hk.symm⟩)).symm
theorem kinds_nodup {x : Slip} (h : Ok x) (hm : x.make.length ≤ 1) (hd : x.drop.length ≤ 1) (hu : x.use.length ≤ 1) : ((dirsS x).map (·.kind)).Nodup := by
  have e1 : x.make.map (·.kind) = [] ∨ x.make.map (·.kind) = [4] := by
    cases hx : x.make with
    | nil => exact .inl rfl
    | cons a r =>
      rw [hx] at hm
      have hr : r = [] := List.eq_nil_of_length_eq_zero (by rw [List.length_cons] at hm; omega)
      subst hr
      exact .inr (by simp [(h.make a (by rw [hx]; simp)).1])
  have e2 : x.drop.map (fun _ => 5) = [] ∨ x.drop.map (fun _ => 5) = [5] := by
    cases hx : x.drop with
    | nil => exact .inl rfl
    | cons a r =>
      rw [hx] at hd
      have hr : r = [] := List.eq_nil_of_length_eq_zero (by rw [List.length_cons] at hd; omega)
      subst hr
      exact .inr rfl
  have e3 : x.use.map (fun _ => 6) = [] ∨ x.use.map (fun _ => 6) = [6] := by
    cases hx : x.use with
    | nil => exact .inl rfl
    | cons a r =>
      rw [hx] at hu
      have hr : r = [] := List.eq_nil_of_length_eq_zero (by rw [List.length_cons] at hu; omega)
      subst hr
      exact .inr rfl
  unfold dirsS
  simp only [List.map_append, List.map_map, Function.comp_def]
  rcases e1 with e1 | e1 <;> rcases e2 with e2 | e2 <;> rcases e3 with e3 | e3 <;> rw [e1, e2, e3] <;> split <;> split <;> split <;> first | decide | (simp only [List.map_cons, List.map_nil]; decide)
theorem read_rev {x : Slip} (h : Ok x) (hm : x.make.length ≤ 1) (hd : x.drop.length ≤ 1) (hu : x.use.length ≤ 1) : sread (joinC 10 (line1 x :: ((dirsS x).map dtx).reverse)) = (x, 0, 0) := by
  have hr : dirLines ((dirsS x).map dtx).reverse = (dirsS x).reverse := by
    rw [← List.map_reverse]
    exact dirLines_dtx _ fun d hd => dirs_mem h (by simpa using hd)
  refine sread_lines h _ (by rw [hr, fold_rev _ _ (kinds_nodup h hm hd hu)]; exact fold_dirs h) (by rw [hr]; exact once_rev h) (fun l hl => (dirs_lines h (by simpa using hl)).1) (fun l hl => (dirs_lines h (by simpa using hl)).2) ?_
  have h1 := join_two 10 (line1 x) ((dirsS x).map dtx).reverse 306 fun w hw => by
    obtain ⟨d, hd, rfl⟩ := List.mem_map.1 (by simpa using hw : w ∈ (dirsS x).map dtx)
    exact (made_text (dirs_mem h hd)).len
  have h2 := line1_len h
  have h3 := dirs_count h
  rw [List.length_reverse, List.length_map] at h1
  omega
theorem isD_head {l : Tx} (h : l.head? ≠ some 35) : ¬ isD l = true := by
  cases l with
  | nil => decide
  | cons b r =>
    have hb : b ≠ 35 := fun e => h (by rw [e]; rfl)
    unfold isD
    rw [decide_eq_false (by unfold bbW; intro e; exact hb (by injection e)), Bool.false_or, List.isPrefixOf]
    simp [Ne.symm hb]
/-- With a line put among the others, and one behind them. -/
theorem read_more {x : Slip} (h : Ok x) (line : Tx) (k : Nat) (hh : line.head? ≠ some 35) (h10 : (10 : UInt8) ∉ line) (hl : line.length ≤ 100) : sread (joinC 10 (line1 x :: (((dirsS x).map dtx).take k ++ line :: ((dirsS x).map dtx).drop k ++ [line]))) = (x, 0, 0) := by
  have hn := isD_head hh
  have hr : dirLines (((dirsS x).map dtx).take k ++ line :: ((dirsS x).map dtx).drop k ++ [line]) = dirsS x := by
    rw [dirLines_app, dirLines_app, dirLines_no hn, dirLines_no hn, ← dirLines_app, List.take_append_drop, dirLines_dtx _ fun d hd => dirs_mem h hd]
    simp [dirLines]
  have hmem : ∀ l ∈ ((dirsS x).map dtx).take k ++ line :: ((dirsS x).map dtx).drop k ++ [line], l = line ∨ l ∈ (dirsS x).map dtx := fun l hl => by
    rcases List.mem_append.1 hl with hl | hl
    · rcases List.mem_append.1 hl with hl | hl
      · exact .inr (List.mem_of_mem_take hl)
      · rcases List.mem_cons.1 hl with e | hl
        · exact .inl e
        · exact .inr (List.mem_of_mem_drop hl)
    · exact .inl (by simpa using hl)
  refine sread_lines h _ (by rw [hr]; exact fold_dirs h) (by rw [hr]; exact once_dirs h) (fun l hm => ?_) (fun l hm hd => ?_) ?_
  · rcases hmem l hm with rfl | hm
    · exact h10
    · exact (dirs_lines h hm).1
  · rcases hmem l hm with rfl | hm
    · exact absurd hd hn
    · exact (dirs_lines h hm).2 hd
  · have h1 := join_two 10 (line1 x) (((dirsS x).map dtx).take k ++ line :: ((dirsS x).map dtx).drop k ++ [line]) 306 fun w hw => by
      rcases hmem w hw with rfl | hw
      · omega
      · obtain ⟨d, hd, rfl⟩ := List.mem_map.1 hw
        exact (made_text (dirs_mem h hd)).len
    have h2 := line1_len h
    have h3 := dirs_count h
    have h4 : (((dirsS x).map dtx).take k ++ line :: ((dirsS x).map dtx).drop k ++ [line]).length ≤ 17 := by
      simp only [List.length_append, List.length_cons, List.length_nil, List.length_take, List.length_drop, List.length_map]
      omega
    have h5 : (((dirsS x).map dtx).take k ++ line :: ((dirsS x).map dtx).drop k ++ [line]).length * (306 + 1) ≤ 17 * 307 := Nat.mul_le_mul_right _ h4
    exact Nat.le_trans h1 (by omega)
end Go.Proofs.YtekcjfdllclphaaGreatDoor.sp
end
section
set_option linter.unusedVariables false
namespace Go.Proofs.YtekcjfdllclphaaGreatDoor.gn
open Go.RowKit
open Go.Proofs.YtekcjfdllclphaaGreatDoor.un
open Go.Proofs.YtekcjfdllclphaaGreatDoor.di

theorem sto_name (v : Tx) (d : Dir) : sto nameK v d = if isName v = true then { d with name := v } else d := by unfold sto; rw [if_pos rfl]
theorem sto_pool (v : Tx) (d : Dir) : sto poolK v d = if isName v = true then { d with pool := v } else d := by unfold sto; rw [if_neg (by decide), if_pos rfl]
theorem sto_acc (v : Tx) (d : Dir) : sto accK v d = { d with opn := v == pubV } := by unfold sto; rw [if_neg (by decide), if_neg (by decide), if_pos rfl]
theorem sto_cap (v : Tx) (d : Dir) : sto capK v d = { d with size := (((size? v).getD 0 : Nat) : Int) } := by unfold sto; rw [if_neg (by decide), if_neg (by decide), if_neg (by decide)]
theorem sto_size (v : Tx) (d : Dir) : sto sizeK v d = { d with size := (((size? v).getD 0 : Nat) : Int) } := by unfold sto; rw [if_neg (by decide), if_neg (by decide), if_neg (by decide)]
theorem okv_cap (v : Tx) : okv capK v = decide (0 < (size? v).getD 0) := by unfold okv; rw [if_pos (.inl rfl)]
theorem okv_siz (v : Tx) : okv sizeK v = decide (0 < (size? v).getD 0) := by unfold okv; rw [if_pos (.inr rfl)]

/-- A closure that stores a field. -/
def StoT (bd : Nat) (key v : Tx) (d : Dir) (w : World) (e : Ending) (w' : World) : Prop :=
  e = .returned (.bool (okv key v)) ∧ But bd w w' ∧ DirB w' bd (sto key v d)

set_option maxRecDepth 100000 in
set_option maxHeartbeats 1600000 in
theorem sto_name_any (c bd : Nat) (d : Dir) (v : Tx) (hv : v.length ≤ 9223372036854775807) (w : World) (hp : PtrB w c bd) (hd : DirB w bd d) :
    Calls Tryz.prog 145 #[.string (str v), .pointer (some ⟨c, 0, none⟩)] w (StoT bd nameK v d w) := by
  have hc : w.cell? ⟨c, 0, none⟩ = some (.pointer (some ⟨bd, 0, none⟩)) := BoxA.cell hp 0 _ rfl
  have HD := Lib.hid hd
  have HV := Lib.hid hv
  clear hp hd hv
  go_enter Tryz.func145, Tryz.ntmps145
  go_wp2_with (go_at_call 146; refine (storeName_any bd 1 d.name v HV.out _ HD.out.cells.2.1 (BoxA.free HD.out 1) HD.out.lt).mono ?_; rintro e w1 ⟨rfl, w2, hb, hw⟩; have HB := Lib.hid hb; have HW := Lib.hid hw; clear hb hw)
  go_ret
  refine ⟨by rw [okv_name]; rfl, ?_, ?_⟩
  · rw [HW.out]
    split
    · exact (But.of_below HB.out).setCell _ _
    · exact But.of_below HB.out
  · rw [HW.out, sto_name]
    split
    · exact (HD.out.next HB.out).name v
    · exact HD.out.next HB.out
set_option maxRecDepth 100000 in
set_option maxHeartbeats 1600000 in
theorem sto_pool_any (c bd : Nat) (d : Dir) (v : Tx) (hv : v.length ≤ 9223372036854775807) (w : World) (hp : PtrB w c bd) (hd : DirB w bd d) :
    Calls Tryz.prog 147 #[.string (str v), .pointer (some ⟨c, 0, none⟩)] w (StoT bd poolK v d w) := by
  have hc : w.cell? ⟨c, 0, none⟩ = some (.pointer (some ⟨bd, 0, none⟩)) := BoxA.cell hp 0 _ rfl
  have HD := Lib.hid hd
  have HV := Lib.hid hv
  clear hp hd hv
  go_enter Tryz.func147, Tryz.ntmps147
  go_wp2_with (go_at_call 146; refine (storeName_any bd 2 d.pool v HV.out _ HD.out.cells.2.2.1 (BoxA.free HD.out 2) HD.out.lt).mono ?_; rintro e w1 ⟨rfl, w2, hb, hw⟩; have HB := Lib.hid hb; have HW := Lib.hid hw; clear hb hw)
  go_ret
  refine ⟨by rw [okv_pool]; rfl, ?_, ?_⟩
  · rw [HW.out]
    split
    · exact (But.of_below HB.out).setCell _ _
    · exact But.of_below HB.out
  · rw [HW.out, sto_pool]
    split
    · exact (HD.out.next HB.out).pool v
    · exact HD.out.next HB.out

set_option maxRecDepth 100000 in
set_option maxHeartbeats 1600000 in
theorem sto_size_any (c bd : Nat) (d : Dir) (v : Tx) (hv : v.length ≤ 140737488355328) (w : World) (hp : PtrB w c bd) (hd : DirB w bd d) (hL : LaidU w) :
    Calls Tryz.prog 144 #[.string (str v), .pointer (some ⟨c, 0, none⟩)] w (StoT bd capK v d w) := by
  have HP := Lib.hid hp
  have HD := Lib.hid hd
  have HV := Lib.hid hv
  have HL := Lib.hid hL
  obtain ⟨o, ho⟩ : ∃ o, size? v = o := ⟨_, rfl⟩
  have HO := Lib.hid ho
  clear hp hd hv hL ho
  cases o with
  | none =>
    go_enter Tryz.func144, Tryz.ntmps144
    go_wp2_with (go_at_call 120; refine (size_any v HV.out _ HL.out).mono ?_; rintro e w1 ⟨rfl, hb⟩; rw [HO.out, qv_none, qe_none]; have HB := Lib.hid hb; have hc : w1.cell? ⟨c, 0, none⟩ = some (.pointer (some ⟨bd, 0, none⟩)) := BoxA.cell (HP.out.next hb) 0 _ rfl; have hs := (HD.out.next hb).cells.2.2.2.1; have hf := BoxA.free (HD.out.next hb) 3; clear hb)
    go_ret
    refine ⟨by rw [okv_cap, HO.out]; rfl, (But.of_below HB.out).setCell _ _, ?_⟩
    rw [sto_cap, HO.out]
    exact (HD.out.next HB.out).size _
  | some n =>
    by_cases hn : n = 0
    · subst hn
      go_enter Tryz.func144, Tryz.ntmps144
      go_wp2_with (go_at_call 120; refine (size_any v HV.out _ HL.out).mono ?_; rintro e w1 ⟨rfl, hb⟩; rw [HO.out, qv_some, qe_some]; have HB := Lib.hid hb; have hc : w1.cell? ⟨c, 0, none⟩ = some (.pointer (some ⟨bd, 0, none⟩)) := BoxA.cell (HP.out.next hb) 0 _ rfl; have hs := (HD.out.next hb).cells.2.2.2.1; have hf := BoxA.free (HD.out.next hb) 3; clear hb)
      go_ret
      refine ⟨by rw [okv_cap, HO.out]; rfl, (But.of_below HB.out).setCell _ _, ?_⟩
      rw [sto_cap, HO.out]
      exact (HD.out.next HB.out).size _
    · have hn0 : decide (0 < (n : Int)) = true := decide_eq_true (by omega)
      have hn1 : 0 < n := by omega
      go_enter Tryz.func144, Tryz.ntmps144
      go_wp2_with (go_at_call 120; refine (size_any v HV.out _ HL.out).mono ?_; rintro e w1 ⟨rfl, hb⟩; rw [HO.out, qv_some, qe_some]; have HB := Lib.hid hb; have hc : w1.cell? ⟨c, 0, none⟩ = some (.pointer (some ⟨bd, 0, none⟩)) := BoxA.cell (HP.out.next hb) 0 _ rfl; have hs := (HD.out.next hb).cells.2.2.2.1; have hf := BoxA.free (HD.out.next hb) 3; clear hb)
      go_ret
      refine ⟨by rw [okv_cap, HO.out]; simp [hn1], (But.of_below HB.out).setCell _ _, ?_⟩
      rw [sto_cap, HO.out]
      exact (HD.out.next HB.out).size _

set_option maxRecDepth 100000 in
set_option maxHeartbeats 1600000 in
theorem sto_acc_any (c bd : Nat) (d : Dir) (v : Tx) (w : World) (hp : PtrB w c bd) (hd : DirB w bd d) :
    Calls Tryz.prog 148 #[.string (str v), .pointer (some ⟨c, 0, none⟩)] w (StoT bd accK v d w) := by
  have hc : w.cell? ⟨c, 0, none⟩ = some (.pointer (some ⟨bd, 0, none⟩)) := BoxA.cell hp 0 _ rfl
  have hs := hd.cells.2.2.2.2
  have hf := BoxA.free hd 4
  have HD := Lib.hid hd
  clear hp hd
  by_cases h1 : v = pubV
  · obtain ⟨q1, q2⟩ := lit_yes h1
    have HE := Lib.hid h1
    unfold pubV at q1 q2
    clear h1
    go_enter Tryz.func148, Tryz.ntmps148
    go_wp2
    go_ret
    refine ⟨by rw [okv_acc, HE.out]; rfl, (But.refl _ _).setCell _ _, ?_⟩
    rw [sto_acc, HE.out]
    exact HD.out.opn true
  · obtain ⟨q1, q2⟩ := lit_no h1
    have HE := Lib.hid (show (v == pubV) = false by rw [beq_eq_false_iff_ne]; exact h1)
    unfold pubV at q1 q2
    clear h1
    by_cases h2 : v = priV
    · obtain ⟨q3, q4⟩ := lit_yes h2
      have HF := Lib.hid (show (v == priV) = true by rw [h2]; decide)
      unfold priV at q3 q4
      clear h2
      go_enter Tryz.func148, Tryz.ntmps148
      go_wp2
      go_ret
      refine ⟨by rw [okv_acc, HE.out, HF.out]; rfl, (But.refl _ _).setCell _ _, ?_⟩
      rw [sto_acc, HE.out]
      exact HD.out.opn false
    · obtain ⟨q3, q4⟩ := lit_no h2
      have HF := Lib.hid (show (v == priV) = false by rw [beq_eq_false_iff_ne]; exact h2)
      unfold priV at q3 q4
      clear h2
      go_enter Tryz.func148, Tryz.ntmps148
      go_wp2
      go_ret
      refine ⟨by rw [okv_acc, HE.out, HF.out]; rfl, (But.refl _ _).setCell _ _, ?_⟩
      rw [sto_acc, HE.out]
      exact HD.out.opn false
end Go.Proofs.YtekcjfdllclphaaGreatDoor.gn
end
