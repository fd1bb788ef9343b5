/- Slips, plain: the whole text is read again; lines between, and another order, change nothing. (Written ahead of the code.) -/
import Derived.Test.YtpmghgfgbkncoaaGreatDoorMUnM
import Derived.Test.YtpmghgfgbkncoaaGreatDoorMDiP
section
set_option linter.unusedVariables false
namespace Go.Proofs.YtpmghgfgbkncoaaGreatDoor.sp
open Go.Proofs.YtpmghgfgbkncoaaGreatDoor.un
open Go.Proofs.YtpmghgfgbkncoaaGreatDoor.di

theorem small_kinds (x : Slip) (hm : ∀ d ∈ x.make, d.kind = 4) : ((dirsS x).filter fun d => decide (d.kind ≤ 3)).map (·.kind) = (if 0 < x.cap then [1] else []) ++ (if 0 < x.inn then [2] else []) ++ (if 0 < x.out then [3] else []) := by
  have h1 : x.make.filter (fun d => decide (d.kind ≤ 3)) = [] := List.filter_eq_nil_iff.2 fun d hd => by simp [hm d hd]
  have h2 : (x.drop.map fun n => (⟨5, n, [], 0, false⟩ : Dir)).filter (fun d => decide (d.kind ≤ 3)) = [] := List.filter_eq_nil_iff.2 fun d hd => by
    obtain ⟨n, _, rfl⟩ := List.mem_map.1 hd
    simp
  have h3 : (x.use.map fun n => (⟨6, n, [], 0, false⟩ : Dir)).filter (fun d => decide (d.kind ≤ 3)) = [] := List.filter_eq_nil_iff.2 fun d hd => by
    obtain ⟨n, _, rfl⟩ := List.mem_map.1 hd
    simp
  unfold dirsS
  rw [List.filter_append, List.filter_append, List.filter_append, List.filter_append, List.filter_append, h1, h2, h3]
  split <;> split <;> split <;> rfl
theorem small_nodup (x : Slip) (hm : ∀ d ∈ x.make, d.kind = 4) : (((dirsS x).filter fun d => decide (d.kind ≤ 3)).map (·.kind)).Nodup := by
  rw [small_kinds x hm]
  split <;> split <;> split <;> decide
theorem once_dirs {x : Slip} (h : Ok x) : Once [] (dirsS x) := once_of _ _ (small_nodup x fun d hd => (h.make d hd).1) (fun _ _ _ => List.not_mem_nil)
theorem once_rev {x : Slip} (h : Ok x) : Once [] (dirsS x).reverse := by
  refine once_of _ _ ?_ (fun _ _ _ => List.not_mem_nil)
  rw [List.filter_reverse, List.map_reverse]
  exact (List.reverse_perm _).nodup_iff.2 (small_nodup x fun d hd => (h.make d hd).1)
theorem no_join {c b : UInt8} (hc : b ≠ c) : ∀ (L : List Tx), (∀ w ∈ L, b ∉ w) → b ∉ joinC c L
  | [], _ => by simp [joinC]
  | [a], h => h a (by simp)
  | a :: d :: r, h => by
    rw [joinC_cons c a (by simp)]
    intro hm
    rcases List.mem_append.1 hm with hm | hm
    · exact h a (by simp) hm
    rcases List.mem_cons.1 hm with e | hm
    · exact hc e
    · exact no_join hc (d :: r) (fun w hw => h w (by simp [hw])) hm
theorem dtx_lf {d : Dir} (h : chk d = true) : (10 : UInt8) ∉ dtx d := fun hm => by
  obtain ⟨i, hi, e⟩ := List.getElem_of_mem hm
  exact (neat_at (dtx d) 0 (text_neat h 0) i hi).1 e
theorem line1_lf {x : Slip} (h : Ok x) : (10 : UInt8) ∉ line1 x := by
  unfold line1
  refine no_join (by decide) _ fun w hw => ?_
  rcases List.mem_cons.1 hw with rfl | hw
  · decide
  · obtain ⟨f, hf, rfl⟩ := List.mem_map.1 hw
    exact (fsS_mem h hf).1.2
theorem dep_len (d : Int × Bool) : (depT d).length ≤ 17 := by
  have := txt_len d.1
  unfold depT
  rw [List.length_append, List.length_cons]
  have : (if d.2 = true then anyW else okW).length ≤ 3 := by split <;> decide
  omega
theorem line1_len {x : Slip} (h : Ok x) : (line1 x).length ≤ 1206 := by
  have hn := name_len h.user
  have hl := joinC_len 32 (jobW :: (fsS x).map wtx) 200 fun w hw => by
    rcases List.mem_cons.1 hw with rfl | hw
    · decide
    obtain ⟨f, hf, rfl⟩ := List.mem_map.1 hw
    unfold wtx
    rw [List.length_append, List.length_cons]
    unfold fsS at hf
    rcases List.mem_append.1 hf with hf | hf
    · rcases List.mem_append.1 hf with hf | hf
      · simp only [List.mem_cons, List.not_mem_nil, or_false] at hf
        rcases hf with rfl | rfl | rfl
        · show userK.length + _ ≤ 200
          simp only [userK, List.length_cons, List.length_nil]
          omega
        · have := txt_len x.nodes
          simp only [nodesK, List.length_cons, List.length_nil]
          omega
        · have := txt_len x.wall
          simp only [wallK, List.length_cons, List.length_nil]
          omega
      · split at hf
        · simp only [List.mem_cons, List.not_mem_nil, or_false] at hf
          subst hf
          have := txt_len x.qos
          simp only [qosK, List.length_cons, List.length_nil]
          omega
        · simp at hf
    · split at hf
      · simp at hf
      · simp only [List.mem_cons, List.not_mem_nil, or_false] at hf
        subst hf
        have h1 := joinC_len 44 (x.after.map depT) 17 fun w hw => by
          obtain ⟨d, _, rfl⟩ := List.mem_map.1 hw
          exact dep_len d
        rw [List.length_map] at h1
        have h2 := h.after.1
        simp only [afterK, List.length_cons, List.length_nil]
        omega
  have h5 : (fsS x).length ≤ 5 := by
    unfold fsS
    split <;> split <;> simp
  rw [List.length_cons, List.length_map] at hl
  unfold line1
  omega
theorem dirs_count {x : Slip} (h : Ok x) : (dirsS x).length ≤ 15 := by
  have h1 := h.makeN.1
  have h2 := h.drop.1
  have h3 := h.use.1
  rw [List.length_map] at h1
  unfold dirsS
  simp only [List.length_append, List.length_map]
  split <;> split <;> split <;> simp <;> omega
theorem join_two (c : UInt8) (a : Tx) (L : List Tx) (m : Nat) (h : ∀ w ∈ L, w.length ≤ m) : (joinC c (a :: L)).length ≤ a.length + 1 + L.length * (m + 1) := by
  cases L with
  | nil =>
    show a.length ≤ _
    omega
  | cons b r =>
    have := joinC_len c (b :: r) m h
    rw [joinC_cons c a (by simp), List.length_append, List.length_cons]
    omega
/-- A text of the first line and some lines is read as the slip, where their directives, put one after another, give it. -/
theorem sread_lines {x : Slip} (h : Ok x) (L : List Tx) (hf : (dirLines L).foldl put (head1 x) = x) (ho : Once [] (dirLines L)) (h10 : ∀ l ∈ L, (10 : UInt8) ∉ l) (he : ∀ l ∈ L, isD l = true → lerr l = 0) (hl : (joinC 10 (line1 x :: L)).length ≤ 10000) : sread (joinC 10 (line1 x :: L)) = (x, 0, 0) := by
  obtain ⟨s', hr⟩ := lrun_lines L (head1 x) [] 2 he ho
  unfold sread
  rw [if_neg (by omega), cuts_join 10 _ (by simp) (fun w hw => by
    rcases List.mem_cons.1 hw with rfl | hw
    · exact line1_lf h
    · exact h10 w hw)]
  dsimp only
  rw [first_read h]
  dsimp only
  rw [hr]
  dsimp only
  rw [hf, if_pos ((chkS_iff x).2 h)]
theorem txtS_len {x : Slip} (h : Ok x) : (txtS x).length ≤ 5812 := by
  have h1 := join_two 10 (line1 x) ((dirsS x).map dtx) 306 fun w hw => by
    obtain ⟨d, hd, rfl⟩ := List.mem_map.1 hw
    exact (made_text (dirs_mem h hd)).len
  have h2 := line1_len h
  have h3 := dirs_count h
  rw [List.length_map] at h1
  unfold txtS
  omega
theorem dirs_lines {x : Slip} (h : Ok x) {l : Tx} (hl : l ∈ (dirsS x).map dtx) : (10 : UInt8) ∉ l ∧ (isD l = true → lerr l = 0) := by
  obtain ⟨d, hd, rfl⟩ := List.mem_map.1 hl
  exact ⟨dtx_lf (dirs_mem h hd), fun _ => (dtx_line (dirs_mem h hd)).2.1⟩
theorem read_text {x : Slip} (h : Ok x) : sread (txtS x) = (x, 0, 0) := by
  have hd := dirLines_dtx (dirsS x) fun d hd => dirs_mem h hd
  refine sread_lines h _ (by rw [hd]; exact fold_dirs h) (by rw [hd]; exact once_dirs h) (fun l hl => (dirs_lines h hl).1) (fun l hl => (dirs_lines h hl).2) ?_
  have := txtS_len h
  unfold txtS at this
  omega
theorem cuts_txt {x : Slip} (h : Ok x) : cuts 10 (txtS x) = line1 x :: (dirsS x).map dtx := by
  unfold txtS
  refine cuts_join 10 _ (by simp) fun w hw => ?_
  rcases List.mem_cons.1 hw with rfl | hw
  · exact line1_lf h
  · exact (dirs_lines h hw).1
/-! ### lines between; another order -/
theorem put_out : ∀ (L : List Dir) (x : Slip) (d : Dir), (∀ e ∈ L, d.kind ≠ e.kind) → L.foldl put (put x d) = put (L.foldl put x) d
  | [], _, _, _ => rfl
  | e :: r, x, d, h => by
    rw [List.foldl_cons, List.foldl_cons, put_comm x d e (h e (by simp)), put_out r _ d fun y hy => h y (by simp [hy])]
theorem fold_rev : ∀ (L : List Dir) (x : Slip), (L.map (·.kind)).Nodup → L.reverse.foldl put x = L.foldl put x
  | [], _, _ => rfl
  | d :: r, x, h => by
    rw [List.map_cons, List.nodup_cons] at h
    rw [List.reverse_cons, List.foldl_append, fold_rev r x h.2]
    exact (put_out r x d fun e he hk => h.1 (List.mem_map.2 ⟨e, he, hk.symm⟩)).symm
theorem kinds_nodup {x : Slip} (h : Ok x) (hm : x.make.length ≤ 1) (hd : x.drop.length ≤ 1) (hu : x.use.length ≤ 1) : ((dirsS x).map (·.kind)).Nodup := by
  have e1 : x.make.map (·.kind) = [] ∨ x.make.map (·.kind) = [4] := by
    cases hx : x.make with
    | nil => exact .inl rfl
    | cons a r =>
      rw [hx] at hm
      have hr : r = [] := List.eq_nil_of_length_eq_zero (by rw [List.length_cons] at hm; omega)
      subst hr
      exact .inr (by simp [(h.make a (by rw [hx]; simp)).1])
  have e2 : x.drop.map (fun _ => 5) = [] ∨ x.drop.map (fun _ => 5) = [5] := by
    cases hx : x.drop with
    | nil => exact .inl rfl
    | cons a r =>
      rw [hx] at hd
      have hr : r = [] := List.eq_nil_of_length_eq_zero (by rw [List.length_cons] at hd; omega)
      subst hr
      exact .inr rfl
  have e3 : x.use.map (fun _ => 6) = [] ∨ x.use.map (fun _ => 6) = [6] := by
    cases hx : x.use with
    | nil => exact .inl rfl
    | cons a r =>
      rw [hx] at hu
      have hr : r = [] := List.eq_nil_of_length_eq_zero (by rw [List.length_cons] at hu; omega)
      subst hr
      exact .inr rfl
  unfold dirsS
  simp only [List.map_append, List.map_map, Function.comp_def]
  rcases e1 with e1 | e1 <;> rcases e2 with e2 | e2 <;> rcases e3 with e3 | e3 <;> rw [e1, e2, e3] <;> split <;> split <;> split <;> first | decide | (simp only [List.map_cons, List.map_nil]; decide)
theorem read_rev {x : Slip} (h : Ok x) (hm : x.make.length ≤ 1) (hd : x.drop.length ≤ 1) (hu : x.use.length ≤ 1) : sread (joinC 10 (line1 x :: ((dirsS x).map dtx).reverse)) = (x, 0, 0) := by
  have hr : dirLines ((dirsS x).map dtx).reverse = (dirsS x).reverse := by
    rw [← List.map_reverse]
    exact dirLines_dtx _ fun d hd => dirs_mem h (by simpa using hd)
  refine sread_lines h _ (by rw [hr, fold_rev _ _ (kinds_nodup h hm hd hu)]; exact fold_dirs h) (by rw [hr]; exact once_rev h) (fun l hl => (dirs_lines h (by simpa using hl)).1) (fun l hl => (dirs_lines h (by simpa using hl)).2) ?_
  have h1 := join_two 10 (line1 x) ((dirsS x).map dtx).reverse 306 fun w hw => by
    obtain ⟨d, hd, rfl⟩ := List.mem_map.1 (by simpa using hw : w ∈ (dirsS x).map dtx)
    exact (made_text (dirs_mem h hd)).len
  have h2 := line1_len h
  have h3 := dirs_count h
  rw [List.length_reverse, List.length_map] at h1
  omega
theorem isD_head {l : Tx} (h : l.head? ≠ some 35) : ¬ isD l = true := by
  cases l with
  | nil => decide
  | cons b r =>
    have hb : b ≠ 35 := fun e => h (by rw [e]; rfl)
    unfold isD
    rw [decide_eq_false (by unfold bbW; intro e; exact hb (by injection e)), Bool.false_or, List.isPrefixOf]
    simp [Ne.symm hb]
/-- With a line put among the others, and one behind them. -/
theorem read_more {x : Slip} (h : Ok x) (line : Tx) (k : Nat) (hh : line.head? ≠ some 35) (h10 : (10 : UInt8) ∉ line) (hl : line.length ≤ 100) : sread (joinC 10 (line1 x :: (((dirsS x).map dtx).take k ++ line :: ((dirsS x).map dtx).drop k ++ [line]))) = (x, 0, 0) := by
  have hn := isD_head hh
  have hr : dirLines (((dirsS x).map dtx).take k ++ line :: ((dirsS x).map dtx).drop k ++ [line]) = dirsS x := by
    rw [dirLines_app, dirLines_app, dirLines_no hn, dirLines_no hn, ← dirLines_app, List.take_append_drop, dirLines_dtx _ fun d hd => dirs_mem h hd]
    simp [dirLines]
  have hmem : ∀ l ∈ ((dirsS x).map dtx).take k ++ line :: ((dirsS x).map dtx).drop k ++ [line], l = line ∨ l ∈ (dirsS x).map dtx := fun l hl => by
    rcases List.mem_append.1 hl with hl | hl
    · rcases List.mem_append.1 hl with hl | hl
      · exact .inr (List.mem_of_mem_take hl)
      · rcases List.mem_cons.1 hl with e | hl
        · exact .inl e
        · exact .inr (List.mem_of_mem_drop hl)
    · exact .inl (by simpa using hl)
  refine sread_lines h _ (by rw [hr]; exact fold_dirs h) (by rw [hr]; exact once_dirs h) (fun l hm => ?_) (fun l hm hd => ?_) ?_
  · rcases hmem l hm with rfl | hm
    · exact h10
    · exact (dirs_lines h hm).1
  · rcases hmem l hm with rfl | hm
    · exact absurd hd hn
    · exact (dirs_lines h hm).2 hd
  · have h1 := join_two 10 (line1 x) (((dirsS x).map dtx).take k ++ line :: ((dirsS x).map dtx).drop k ++ [line]) 306 fun w hw => by
      rcases hmem w hw with rfl | hw
      · omega
      · obtain ⟨d, hd, rfl⟩ := List.mem_map.1 hw
        exact (made_text (dirs_mem h hd)).len
    have h2 := line1_len h
    have h3 := dirs_count h
    have h4 : (((dirsS x).map dtx).take k ++ line :: ((dirsS x).map dtx).drop k ++ [line]).length ≤ 17 := by
      simp only [List.length_append, List.length_cons, List.length_nil, List.length_take, List.length_drop, List.length_map]
      omega
    have h5 : (((dirsS x).map dtx).take k ++ line :: ((dirsS x).map dtx).drop k ++ [line]).length * (306 + 1) ≤ 17 * 307 := Nat.mul_le_mul_right _ h4
    exact Nat.le_trans h1 (by omega)
end Go.Proofs.YtpmghgfgbkncoaaGreatDoor.sp
end
section
set_option linter.unusedVariables false
namespace Go.Proofs.YtpmghgfgbkncoaaGreatDoor.sp
open Go.Proofs.YtpmghgfgbkncoaaGreatDoor.un
open Go.Proofs.YtpmghgfgbkncoaaGreatDoor.di

theorem chk_not {x : Slip} (h : ¬ Ok x) : chkS x = false := by
  cases hc : chkS x with
  | false => rfl
  | true => exact absurd ((chkS_iff x).1 hc) h
theorem not_nodes (x : Slip) : chkS { x with nodes := 65 } = false := chk_not fun h => by have := h.nodes.2; simp at this
theorem not_wall (x : Slip) : chkS { x with wall := 0 } = false := chk_not fun h => by have := h.wall.1; simp at this
theorem not_qos (x : Slip) : chkS { x with qos := -1 } = false := chk_not fun h => by have := h.qos.1; simp at this
theorem not_in (x : Slip) : chkS { x with inn := x.cap + 1 } = false := chk_not fun h => by have := h.inn.2; simp at this; omega
theorem not_user (x : Slip) : chkS { x with user := x.user ++ [32] } = false := chk_not fun h => (plain_name h.user).1 (show (32 : UInt8) ∈ x.user ++ [32] by simp)
theorem not_pool (x : Slip) : chkS { x with cap := 0, pool := [112] } = false := chk_not fun h => by have := h.pool0 rfl; simp at this
theorem not_after (x : Slip) : chkS { x with after := x.after ++ [(1, false), (1, true)] } = false := chk_not fun h => by
  have := h.after.2.1
  simp only [List.map_append, List.nodup_append] at this
  exact absurd this.2.1 (by decide)
theorem not_use (x : Slip) : chkS { x with use := x.use ++ [[113], [113]] } = false := chk_not fun h => by
  have := h.use.2.1
  rw [List.nodup_append] at this
  exact absurd this.2.1 (by decide)
/-- How a slip's text begins. -/
def begT (x : Slip) : Tx := [106, 111, 98, 32, 117, 115, 101, 114, 61] ++ (x.user ++ [32, 110, 111, 100, 101, 115, 61])
theorem line1_beg (x : Slip) : ∃ r, line1 x = begT x ++ r ∧ r ≠ [] := by
  have hz : (fsS x).map wtx = wtx (userK, x.user) :: wtx (nodesK, txt x.nodes) :: wtx (wallK, txt x.wall) :: ((if 0 < x.qos then [(qosK, txt x.qos)] else []) ++ (if x.after = [] then [] else [(afterK, joinC 44 (x.after.map depT))])).map wtx := by
    unfold fsS
    rw [List.append_assoc, List.map_append]
    rfl
  unfold line1
  rw [hz, joinC_cons 32 _ (by simp), joinC_cons 32 _ (by simp), joinC_cons 32 _ (by simp)]
  refine ⟨txt x.nodes ++ 32 :: joinC 32 (wtx (wallK, txt x.wall) :: ((if 0 < x.qos then [(qosK, txt x.qos)] else []) ++ (if x.after = [] then [] else [(afterK, joinC 44 (x.after.map depT))])).map wtx), ?_, by simp⟩
  simp [begT, jobW, wtx, userK, nodesK]
theorem txtS_beg (x : Slip) : ∃ r, txtS x = begT x ++ r ∧ r ≠ [] := by
  obtain ⟨r, h1, h2⟩ := line1_beg x
  unfold txtS
  cases hd : (dirsS x).map dtx with
  | nil => exact ⟨r, h1, h2⟩
  | cons a L =>
    rw [joinC_cons 10 _ (by simp), h1, List.append_assoc]
    exact ⟨_, rfl, by simp⟩
end Go.Proofs.YtpmghgfgbkncoaaGreatDoor.sp
end
section
namespace Go.Proofs.YtpmghgfgbkncoaaGreatDoor.sp
open Go.Proofs.YtpmghgfgbkncoaaGreatDoor.un
open Go.Proofs.YtpmghgfgbkncoaaGreatDoor.di
def h1T : Tx := [106, 111, 98, 32, 117, 115, 101, 114, 61, 97, 32, 110, 111, 100, 101, 115, 61, 50, 32, 119, 97, 108, 108, 61, 49, 48, 32, 97, 102, 116, 101, 114, 61, 111, 107, 58, 51, 10, 35, 66, 66, 32, 106, 111, 98, 100, 119, 32, 99, 97, 112, 97, 99, 105, 116, 121, 61, 49, 75, 105, 66, 32, 112, 111, 111, 108, 61, 112]
def h2T : Tx := [106, 111, 98, 32, 117, 115, 101, 114, 61, 97, 32, 110, 111, 100, 101, 115, 61, 48, 32, 119, 97, 108, 108, 61, 49, 48]
def h3T : Tx := [106, 111, 98, 32, 117, 115, 101, 114, 61, 97, 32, 110, 111, 100, 101, 115, 61, 49, 32, 119, 97, 108, 108, 61, 49, 48, 10, 35, 66, 66, 32, 115, 116, 97, 103, 101, 95, 105, 110, 32, 115, 105, 122, 101, 61, 49]
def h1S : Slip := ⟨[97], 2, 10, 0, [(3, false)], 1024, 0, 0, [112], [], [], []⟩
theorem h1_read : sread h1T = (h1S, 0, 0) := by decide +kernel
theorem h2_read : (sread h2T).2 = (150, 1) := by decide +kernel
theorem h3_read : (sread h3T).2 = (150, 2) := by decide +kernel
theorem h1_chk : chkS h1S = true := by decide +kernel
theorem h1_txt : txtS h1S = h1T := by decide +kernel
end Go.Proofs.YtpmghgfgbkncoaaGreatDoor.sp
end
section
set_option linter.unusedVariables false
namespace Go.Proofs.YtpmghgfgbkncoaaGreatDoor.sp
open Go.Proofs.YtpmghgfgbkncoaaGreatDoor.un
open Go.Proofs.YtpmghgfgbkncoaaGreatDoor.di

/-! ### the program's directives, its check -/
def dropD (n : Tx) : Dir := ⟨5, n, [], 0, false⟩
def useD (n : Tx) : Dir := ⟨6, n, [], 0, false⟩
def capD (x : Slip) : List Dir := if x.cap ≠ 0 ∨ x.pool ≠ [] then [⟨1, [], x.pool, x.cap, false⟩] else []
def innD (x : Slip) : List Dir := if x.inn ≠ 0 then [⟨2, [], [], x.inn, false⟩] else []
def outD (x : Slip) : List Dir := if x.out ≠ 0 then [⟨3, [], [], x.out, false⟩] else []
def dirsP (x : Slip) : List Dir := capD x ++ innD x ++ outD x ++ x.make ++ x.drop.map dropD ++ x.use.map useD
def shortP (x : Slip) : Bool := decide (x.after.length ≤ 8 ∧ x.make.length ≤ 4 ∧ x.drop.length ≤ 4 ∧ x.use.length ≤ 4)
def soundP (x : Slip) : Bool := isName x.user && decide ((1 ≤ x.nodes ∧ x.nodes ≤ 64) ∧ (1 ≤ x.wall ∧ x.wall ≤ 1048576) ∧ (0 ≤ x.qos ∧ x.qos ≤ 9))
def waitsP (l : List (Int × Bool)) : Bool := decide ((∀ d ∈ l, 1 ≤ d.1 ∧ d.1 ≤ 1073741824) ∧ (l.map (·.1)).Nodup)
def storedP (x : Slip) : Bool := decide ((∀ d ∈ dirsP x, chk d = true) ∧ x.inn ≤ x.cap ∧ x.out ≤ x.cap)
def apartP (x : Slip) : Bool := decide ((∀ d ∈ x.make, d.kind = 4) ∧ (x.make.map (·.name) ++ x.use).Nodup ∧ x.drop.Nodup)

theorem chk_cap (p : Tx) (n : Int) : chk ⟨1, [], p, n, false⟩ = true ↔ 0 < n ∧ n ≤ 1099511627776 ∧ isName p = true := by
  rw [chk_iff]
  have h0 : isName [] = false := rfl
  simp only [hasSize, hasName, hasPool, h0]
  simp
  omega
theorem chk_in (n : Int) : chk ⟨2, [], [], n, false⟩ = true ↔ 0 < n ∧ n ≤ 1099511627776 := by
  rw [chk_iff]
  have h0 : isName [] = false := rfl
  simp only [hasSize, hasName, hasPool, h0]
  simp
  omega
theorem chk_out (n : Int) : chk ⟨3, [], [], n, false⟩ = true ↔ 0 < n ∧ n ≤ 1099511627776 := by
  rw [chk_iff]
  have h0 : isName [] = false := rfl
  simp only [hasSize, hasName, hasPool, h0]
  simp
  omega
theorem chk_drop (n : Tx) : chk (dropD n) = true ↔ isName n = true := by
  rw [chk_iff]
  have h0 : isName [] = false := rfl
  simp [dropD, hasSize, hasName, hasPool, h0]
theorem chk_use (n : Tx) : chk (useD n) = true ↔ isName n = true := by
  rw [chk_iff]
  have h0 : isName [] = false := rfl
  simp [useD, hasSize, hasName, hasPool, h0]
theorem capD_all (x : Slip) : (∀ d ∈ capD x, chk d = true) ↔ (x.cap = 0 ∧ x.pool = []) ∨ (0 < x.cap ∧ x.cap ≤ 1099511627776 ∧ isName x.pool = true) := by
  unfold capD
  by_cases h : x.cap ≠ 0 ∨ x.pool ≠ []
  · rw [if_pos h]
    simp only [List.mem_singleton, forall_eq]
    rw [chk_cap]
    constructor
    · exact .inr
    · rintro (⟨a, b⟩ | h2)
      · rcases h with h | h
        · exact absurd a h
        · exact absurd b h
      · exact h2
  · rw [if_neg h]
    simp only [not_or, Decidable.not_not] at h
    simp [h]
theorem innD_all (x : Slip) : (∀ d ∈ innD x, chk d = true) ↔ x.inn = 0 ∨ (0 < x.inn ∧ x.inn ≤ 1099511627776) := by
  unfold innD
  by_cases h : x.inn ≠ 0
  · rw [if_pos h]
    simp only [List.mem_singleton, forall_eq]
    rw [chk_in]
    omega
  · rw [if_neg h]
    simp only [Decidable.not_not] at h
    simp [h]
theorem outD_all (x : Slip) : (∀ d ∈ outD x, chk d = true) ↔ x.out = 0 ∨ (0 < x.out ∧ x.out ≤ 1099511627776) := by
  unfold outD
  by_cases h : x.out ≠ 0
  · rw [if_pos h]
    simp only [List.mem_singleton, forall_eq]
    rw [chk_out]
    omega
  · rw [if_neg h]
    simp only [Decidable.not_not] at h
    simp [h]
theorem dirsP_all (x : Slip) : (∀ d ∈ dirsP x, chk d = true) ↔ ((x.cap = 0 ∧ x.pool = []) ∨ (0 < x.cap ∧ x.cap ≤ 1099511627776 ∧ isName x.pool = true)) ∧ (x.inn = 0 ∨ (0 < x.inn ∧ x.inn ≤ 1099511627776)) ∧ (x.out = 0 ∨ (0 < x.out ∧ x.out ≤ 1099511627776)) ∧
    (∀ d ∈ x.make, chk d = true) ∧ (∀ n ∈ x.drop, isName n = true) ∧ ∀ n ∈ x.use, isName n = true := by
  rw [← capD_all, ← innD_all, ← outD_all]
  unfold dirsP
  constructor
  · intro h
    refine ⟨fun d hd => h d (by simp [hd]), fun d hd => h d (by simp [hd]), fun d hd => h d (by simp [hd]), fun d hd => h d (by simp [hd]), fun n hn => (chk_drop n).1 (h _ ?_), fun n hn => (chk_use n).1 (h _ ?_)⟩
    · simp only [List.mem_append, List.mem_map]
      exact .inl (.inr ⟨n, hn, rfl⟩)
    · simp only [List.mem_append, List.mem_map]
      exact .inr ⟨n, hn, rfl⟩
  · rintro ⟨h1, h2, h3, h4, h5, h6⟩ d hd
    simp only [List.mem_append, List.mem_map] at hd
    rcases hd with ((((hd | hd) | hd) | hd) | ⟨n, hn, rfl⟩) | ⟨n, hn, rfl⟩
    · exact h1 d hd
    · exact h2 d hd
    · exact h3 d hd
    · exact h4 d hd
    · exact (chk_drop n).2 (h5 n hn)
    · exact (chk_use n).2 (h6 n hn)
theorem apart_iff (x : Slip) : (x.make.map (·.name) ++ x.use).Nodup ↔ (x.make.map (·.name)).Nodup ∧ x.use.Nodup ∧ ∀ d ∈ x.make, d.name ∉ x.use := by
  rw [List.nodup_append]
  constructor
  · rintro ⟨a, b, c⟩
    exact ⟨a, b, fun d hd hu => c d.name (List.mem_map.2 ⟨d, hd, rfl⟩) d.name hu rfl⟩
  · rintro ⟨a, b, c⟩
    refine ⟨a, b, fun n hn m hm e => ?_⟩
    obtain ⟨d, hd, rfl⟩ := List.mem_map.1 hn
    exact c d hd (e ▸ hm)
theorem name_mk {d : Dir} (h : chk d = true) (hk : d.kind = 4) : isName d.name = true := ((chk_iff d).1 h).2.2.2.1.1 (by rw [hk]; rfl)
/-- What the program asks is what the document asks. -/
theorem chkS_P (x : Slip) : chkS x = (shortP x && soundP x && waitsP x.after && storedP x && apartP x) := by
  rw [Bool.eq_iff_iff, chkS_iff]
  simp only [shortP, soundP, waitsP, storedP, apartP, Bool.and_eq_true, decide_eq_true_eq]
  rw [dirsP_all, apart_iff]
  constructor
  · intro h
    have hc := h.cap
    have hi := h.inn
    have ho := h.out
    refine ⟨⟨⟨⟨⟨h.after.1, by have := h.makeN.1; rwa [List.length_map] at this, h.drop.1, h.use.1⟩, h.user, h.nodes, h.wall, h.qos⟩, h.after.2.2, h.after.2.1⟩,
      ⟨?_, by omega, by omega, fun d hd => (h.make d hd).2, h.drop.2.2, h.use.2.2⟩, by omega, by omega⟩, fun d hd => (h.make d hd).1, ⟨h.makeN.2.1, h.use.2.1, h.apart⟩, h.drop.2.1⟩
    by_cases h0 : x.cap = 0
    · exact .inl ⟨h0, h.pool0 h0⟩
    · exact .inr ⟨by omega, hc.2, h.pool1 h0⟩
  · rintro ⟨⟨⟨⟨⟨s1, s2, s3, s4⟩, u1, u2, u3, u4⟩, w1, w2⟩, ⟨c1, c2, c3, c4, c5, c6⟩, c7, c8⟩, a1, ⟨a2, a3, a4⟩, a5⟩
    refine ⟨u1, u2, u3, u4, ⟨s1, w2, w1⟩, ?_, ?_, ?_, ?_, ?_, fun d hd => ⟨a1 d hd, c4 d hd⟩, ⟨by rw [List.length_map]; exact s2, a2, ?_⟩, ⟨s3, a5, c5⟩, ⟨s4, a3, c6⟩, a4⟩
    · rcases c1 with ⟨h, _⟩ | ⟨h, h2, _⟩ <;> omega
    · rcases c1 with ⟨_, h⟩ | ⟨h, _⟩
      · exact fun _ => h
      · intro; omega
    · rcases c1 with ⟨h, _⟩ | ⟨_, _, h⟩
      · exact fun h2 => absurd h h2
      · exact fun _ => h
    · rcases c2 with h | ⟨h, h2⟩ <;> omega
    · rcases c3 with h | ⟨h, h2⟩ <;> omega
    · intro n hn
      obtain ⟨d, hd, rfl⟩ := List.mem_map.1 hn
      exact name_mk (c4 d hd) (a1 d hd)
theorem dirsP_eq {x : Slip} (h : Ok x) : dirsP x = dirsS x := by
  have hc := h.cap
  have hi := h.inn
  have ho := h.out
  have e1 : capD x = if 0 < x.cap then [⟨1, [], x.pool, x.cap, false⟩] else [] := by
    unfold capD
    by_cases h0 : x.cap = 0
    · rw [if_neg (by simp [h0, h.pool0 h0]), if_neg (by omega)]
    · rw [if_pos (.inl h0), if_pos (by omega)]
  have e2 : innD x = if 0 < x.inn then [⟨2, [], [], x.inn, false⟩] else [] := by
    unfold innD
    by_cases h0 : x.inn = 0
    · rw [if_neg (by simp [h0]), if_neg (by omega)]
    · rw [if_pos h0, if_pos (by omega)]
  have e3 : outD x = if 0 < x.out then [⟨3, [], [], x.out, false⟩] else [] := by
    unfold outD
    by_cases h0 : x.out = 0
    · rw [if_neg (by simp [h0]), if_neg (by omega)]
    · rw [if_pos h0, if_pos (by omega)]
  unfold dirsP dirsS
  rw [e1, e2, e3]
  rfl

/-! ### the program's lines -/
theorem line_chk {l : Tx} {d : Dir} (h : line? l = some d) : chk d = true := by
  obtain ⟨k, fs, hk, _, hw, _⟩ := line_some h
  have hf : fields? k (fs.map wtx) = some d := by
    unfold line? at h
    rw [hw] at h
    dsimp only at h
    rw [if_pos rfl, kind_kw hk] at h
    exact h
  have := fields_eq hk (fs.map wtx)
  rw [hf] at this
  cases hr : drun k (⟨k, [], [], 0, false⟩, false) (fs.map wtx) with
  | none => rw [hr] at this; cases this
  | some s =>
    rw [hr] at this
    dsimp only at this
    by_cases hc : chk s.1 = true
    · rw [if_pos hc] at this
      cases this
      exact hc
    · rw [if_neg hc] at this
      cases this
theorem ldir_chk {l : Tx} (h : lerr l = 0) : chk (ldir l) = true := by
  unfold lerr at h
  unfold ldir
  by_cases h5 : 500 < l.length
  · rw [if_pos h5] at h; cases h
  · rw [if_neg h5] at h ⊢
    cases hl : line? l with
    | none => rw [hl] at h; cases h
    | some d => exact line_chk hl
theorem small_size {d : Dir} (h : chk d = true) (hk : d.kind ≤ 3) : d.size ≠ 0 := by
  have := ((chk_iff d).1 h).2.1.1 (by unfold hasSize; rw [decide_eq_true_eq]; omega)
  omega
/-- A directive, stored. -/
def pput (x : Slip) (d : Dir) : Option Slip :=
  if d.kind = 1 then if x.cap = 0 then some { x with cap := d.size, pool := d.pool } else none
  else if d.kind = 2 then if x.inn = 0 then some { x with inn := d.size } else none
  else if d.kind = 3 then if x.out = 0 then some { x with out := d.size } else none
  else some (put x d)
def prun : Slip → Nat → List Tx → Except (Int × Nat) Slip
  | x, _, [] => .ok x
  | x, i, l :: r => if isD l = true then
      if lerr l ≠ 0 then .error (lerr l, i)
      else match pput x (ldir l) with
        | none => .error (150, i)
        | some y => prun y (i + 1) r
      else prun x (i + 1) r
theorem prun_eq : ∀ (L : List Tx) (x : Slip) (s : List Nat) (i : Nat), (1 ∈ s ↔ x.cap ≠ 0) → (2 ∈ s ↔ x.inn ≠ 0) → (3 ∈ s ↔ x.out ≠ 0) →
    prun x i L = match lrun (x, s) i L with
      | .ok st => .ok st.1
      | .error e => .error e
  | [], x, s, i, _, _, _ => rfl
  | l :: r, x, s, i, h1, h2, h3 => by
    unfold prun lrun
    by_cases hd : isD l = true
    · rw [if_pos hd, if_pos hd]
      by_cases he : lerr l ≠ 0
      · rw [if_pos he, if_pos he]
      · rw [if_neg he, if_neg he]
        simp only [Decidable.not_not] at he
        have hc := ldir_chk he
        have hk := ((chk_iff _).1 hc).1
        generalize ldir l = d at hc hk
        have hz := small_size hc
        dsimp only
        have six : d.kind = 1 ∨ d.kind = 2 ∨ d.kind = 3 ∨ d.kind = 4 ∨ d.kind = 5 ∨ d.kind = 6 := by omega
        unfold pput
        rcases six with hk1 | hk1 | hk1 | hk1 | hk1 | hk1
        · have hz := hz (by omega)
          rw [if_pos hk1, hk1]
          by_cases hs : (1 : Nat) ∈ s
          · rw [if_neg (h1.1 hs), if_pos ⟨by omega, hs⟩]
          · rw [if_pos (Decidable.not_not.1 fun h => hs (h1.2 h)), if_neg fun h => hs h.2]
            dsimp only
            have e : put x d = { x with cap := d.size, pool := d.pool } := by unfold put; rw [if_pos hk1]
            rw [e]
            exact prun_eq r _ _ _ (by simp [hz]) (by simpa using h2) (by simpa using h3)
        · have hz := hz (by omega)
          rw [if_neg (by omega), if_pos hk1, hk1]
          by_cases hs : (2 : Nat) ∈ s
          · rw [if_neg (h2.1 hs), if_pos ⟨by omega, hs⟩]
          · rw [if_pos (Decidable.not_not.1 fun h => hs (h2.2 h)), if_neg fun h => hs h.2]
            dsimp only
            have e : put x d = { x with inn := d.size } := by unfold put; rw [if_neg (by omega), if_pos hk1]
            rw [e]
            exact prun_eq r _ _ _ (by simpa using h1) (by simp [hz]) (by simpa using h3)
        · have hz := hz (by omega)
          rw [if_neg (by omega), if_neg (by omega), if_pos hk1, hk1]
          by_cases hs : (3 : Nat) ∈ s
          · rw [if_neg (h3.1 hs), if_pos ⟨by omega, hs⟩]
          · rw [if_pos (Decidable.not_not.1 fun h => hs (h3.2 h)), if_neg fun h => hs h.2]
            dsimp only
            have e : put x d = { x with out := d.size } := by unfold put; rw [if_neg (by omega), if_neg (by omega), if_pos hk1]
            rw [e]
            exact prun_eq r _ _ _ (by simpa using h1) (by simpa using h2) (by simp [hz])
        all_goals
          rw [if_neg (by omega), if_neg (by omega), if_neg (by omega), if_neg (by omega)]
          dsimp only
          refine prun_eq r _ _ _ ?_ ?_ ?_ <;> (unfold put; simp [hk1]; assumption)
    · rw [if_neg hd, if_neg hd]
      exact prun_eq r x s (i + 1) h1 h2 h3

/-- The first line, too: a round's slip ahead of line i. -/
def pline (x : Slip) (i : Nat) (l : Tx) : Except (Int × Nat) Slip :=
  if i = 1 then match first? l with
    | some y => .ok y
    | none => .error (150, 1)
  else if isD l = true then
    if lerr l ≠ 0 then .error (lerr l, i)
    else match pput x (ldir l) with
      | none => .error (150, i)
      | some y => .ok y
  else .ok x
def pread : Slip → Nat → List Tx → Except (Int × Nat) Slip
  | x, _, [] => .ok x
  | x, i, l :: r => match pline x i l with
    | .error e => .error e
    | .ok y => pread y (i + 1) r
theorem pread_run : ∀ (L : List Tx) (x : Slip) (i : Nat), 2 ≤ i → pread x i L = prun x i L
  | [], _, _, _ => rfl
  | l :: r, x, i, hi => by
    unfold pread pline prun
    rw [if_neg (by omega)]
    by_cases hd : isD l = true
    · rw [if_pos hd, if_pos hd]
      by_cases he : lerr l ≠ 0
      · rw [if_pos he, if_pos he]
      · rw [if_neg he, if_neg he]
        cases pput x (ldir l) with
        | none => rfl
        | some y => exact pread_run r y (i + 1) (by omega)
    · rw [if_neg hd, if_neg hd]
      exact pread_run r x (i + 1) (by omega)
/-- What a text denotes, by the program's road. -/
theorem sread_P {s : Tx} (h : s.length ≤ 10000) : sread s = match pread Slip.zero 1 (cuts 10 s) with
    | .error e => (Slip.zero, e.1, e.2)
    | .ok x => if chkS x = true then (x, 0, 0) else (Slip.zero, 150, (cuts 10 s).length) := by
  unfold sread
  rw [if_neg (by omega)]
  cases hc : cuts 10 s with
  | nil => exact absurd hc (cuts_ne 10 s)
  | cons l r =>
    dsimp only
    unfold pread pline
    rw [if_pos rfl]
    cases hf : first? l with
    | none => rfl
    | some x =>
      dsimp only
      have hx : x.cap = 0 ∧ x.inn = 0 ∧ x.out = 0 := by
        unfold first? at hf
        cases hw : cuts 32 l with
        | nil => rw [hw] at hf; cases hf
        | cons j ws =>
          rw [hw] at hf
          dsimp only at hf
          by_cases hj : j = jobW
          · rw [if_pos hj] at hf
            cases hr : frun (Slip.zero, []) ws with
            | none => rw [hr] at hf; cases hf
            | some st =>
              rw [hr] at hf
              dsimp only at hf
              have key : ∀ (ws : List Tx) (a st : Slip × List Tx), frun a ws = some st → (a.1.cap = 0 ∧ a.1.inn = 0 ∧ a.1.out = 0) → (st.1.cap = 0 ∧ st.1.inn = 0 ∧ st.1.out = 0) := by
                intro ws
                induction ws with
                | nil => intro a st h h0; unfold frun at h; cases h; exact h0
                | cons w r ih =>
                  intro a st h h0
                  unfold frun at h
                  cases hcut : cut w with
                  | none => rw [hcut] at h; cases h
                  | some f =>
                    rw [hcut] at h
                    dsimp only at h
                    split at h
                    · cases h
                    · cases hp : fput a.1 f with
                      | none => rw [hp] at h; cases h
                      | some y =>
                        rw [hp] at h
                        refine ih _ st h ?_
                        unfold fput at hp
                        split at hp
                        · cases hp; exact h0
                        split at hp
                        · obtain ⟨n, _, rfl⟩ := Option.map_eq_some_iff.1 hp; exact h0
                        split at hp
                        · obtain ⟨n, _, rfl⟩ := Option.map_eq_some_iff.1 hp; exact h0
                        split at hp
                        · obtain ⟨n, _, rfl⟩ := Option.map_eq_some_iff.1 hp; exact h0
                        split at hp
                        · obtain ⟨n, _, rfl⟩ := Option.map_eq_some_iff.1 hp; exact h0
                        · cases hp
              have := key ws _ st hr ⟨rfl, rfl, rfl⟩
              split at hf
              · cases hf; exact this
              · cases hf
          · rw [if_neg hj] at hf; cases hf
      rw [pread_run r x 2 (Nat.le_refl _), prun_eq r x [] 2 (by simp [hx]) (by simp [hx]) (by simp [hx])]
      cases lrun (x, []) 2 r with
      | error e => rfl
      | ok st => rfl
end Go.Proofs.YtpmghgfgbkncoaaGreatDoor.sp
end
